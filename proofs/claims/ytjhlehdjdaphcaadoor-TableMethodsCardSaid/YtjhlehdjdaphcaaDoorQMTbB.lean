/- The walks of package table: instance, Kind, Program, Formals. The condition: few parts. -/
import Derived.Test.YtjhlehdjdaphcaaDoorQMBdV
import Derived.Test.YtjhlehdjdaphcaaDoorQMDcK
import Derived.Test.YtjhlehdjdaphcaaDoorQMTbA
namespace Go.Proofs.YtjhlehdjdaphcaaDoor
open Go.RowKit

theorem pg0_one : ∀ u ∈ ([.slice none 0 0, .int .i64 0, .string ⟨#[]⟩, .string ⟨#[]⟩, .slice none 0 0, .int .i64 0, .slice none 0 0, .slice none 0 0, .int .i64 0] : List Value), u.oneCell' = true := by
  intro u hu
  simp only [List.mem_cons, List.not_mem_nil, or_false] at hu
  rcases hu with rfl | rfl | rfl | rfl | rfl | rfl | rfl | rfl | rfl <;> rfl
theorem pg_onesT {w : World} {S : Nat → Prop} {g : Pg} {us : List Value} (h : g.dat.In w False S us) : ∀ u ∈ us, u.oneCell' = true := by
  obtain ⟨D, n, c, bv, rfl, _, hb⟩ := pg_open h
  intro u hu
  rcases List.mem_cons.1 hu with rfl | hu
  · rfl
  · exact ex_cells' hb u hu
theorem nil_size : (⟨#[]⟩ : ByteArray).size ≤ 9223372036854775807 := by simp [ByteArray.size]
theorem kd_beq {a b : Int} : (a == b) = decide (a = b) := by
  by_cases h : a = b
  · rw [h]; simp
  · rw [beq_eq_false_iff_ne.2 h, decide_eq_false h]
theorem results_instance {w : World} {b : Nat} {us : List Value} {v : Value} (tmps : Array Value) (ht : tmps[6]?.getD undef = .pointer (some ⟨b, 0, none⟩)) (hv : tmps[7]?.getD undef = v) (hc : Boxd w b us) (hl : us.length = 23) : (results Tryd.f34 tmps).run Tryd.prog w = .ok (.tuple #[.agg us.toArray, v]) w := by
  have h := run_loadVar_at w ⟨b, 0, none⟩ 52 us _ hc.at0 Tryd.underlying52 rfl (by rw [hl]; exact flatDc.size)
  have h2 : (asAddr (.pointer (some ⟨b, 0, none⟩))).run Tryd.prog w = .ok ⟨b, 0, none⟩ w := rfl
  simp [results, Tryd.results34, ht, hv, h, h2, Sem.run_bind, Result.andThen]
def InstPost (lo : Nat) (w : World) (ds : List Dc) (x : Ty) (kind : Int) (e : Ending) (w' : World) : Prop := ∃ us, e = .returned (.tuple #[.agg us.toArray, .bool (instT ds x kind)]) ∧ (tyD ds x.name).dat.In w' False (· < lo) us ∧ Below w.heap.size w w'
set_option maxRecDepth 100000 in
set_option maxHeartbeats 8000000 in
theorem instance_any (lo : Nat) (r : Value) (p : Pg) (x : Ty) (xs : List Value) (kind : Int) (w : World) (hlo : lo ≤ w.heap.size) (hx : x.dat.H w xs) (ht : TabR lo w r p) :
    Calls Tryd.prog 34 #[r, .agg xs.toArray, .int .i64 kind] w (InstPost lo w p.ds x kind) := by
  obtain ⟨A, m, c, rfl, hxn, hxa⟩ := ty_open hx
  have hxl := hxa.len
  obtain ⟨W0, hW0⟩ : ∃ W0, (w.alloc (.cells #[.string x.name, .slice A m c, .int .i64 x.off] 25)).alloc (.cells z23 52) = W0 := ⟨_, rfl⟩
  obtain ⟨hb, hbx, hth, hsz⟩ := two_boxes _ _ _ _ _ hW0
  have HW0 := Lib.hid hW0
  have HB := Lib.hid hb
  have HBX := Lib.hid (show Boxd W0 w.heap.size [.string x.name, .slice A m c, .int .i64 x.off] from hbx)
  have HT := Lib.hid (show W0.there (w.heap.size + 1) 0 23 from hth)
  have HSZ := Lib.hid hsz
  have HLO := Lib.hid hlo
  have HXL := Lib.hid hxl
  have x0 := hbx 0 _ rfl
  have C := Lib.hid (find_any lo r p false x.name ⟨#[]⟩ W0 hxn nil_size (ht.later hb))
  clear hW0 hb hbx hth hsz hx hxn hxa ht hlo hxl
  go_enter Tryd.func34, Tryd.ntmps34
  go_upto_region 1 with fail
  rw [HW0.out]
  clear HW0
  go_wp2_with fail
  refine C.out.mono ?_
  rintro e w1 ⟨us, rfl, hd, hb1⟩
  clear C x0
  obtain ⟨d, hdd⟩ : ∃ d, tyD p.ds x.name = d := ⟨_, rfl⟩
  have hd : d.dat.In w1 False (· < lo) us := by rw [← hdd]; exact hd
  have HDD := Lib.hid hdd
  obtain ⟨u0, _, _, _, _, F, nf, cf, _, _, _, _, _, _, _, _, _, u2, _, _, _, hrf, _⟩ := dc_c hd
  have hfl := hrf.len
  rw [List.length_map] at hfl
  have H0 := Lib.hid u0
  have H2 := Lib.hid u2
  have HFL := Lib.hid hfl
  have HLU := Lib.hid (dc_len hd)
  have HOU := Lib.hid (dc_cells hd)
  obtain ⟨W2, hP⟩ := putZ z23 52 w1 (us := us) (dc_len hd)
  have HPP := Lib.hid hP
  have hb2 := hb1.trans (hP.bel.mono hb1.size)
  have HS1 := Lib.hid (show w.heap.size + 2 ≤ w1.heap.size by have := hb1.size; have := HSZ.out; omega)
  have hd0 : Below W2.heap.size W2 W2.drew := (Below.refl W2.heap.size W2).drew
  have HBL := Lib.hid (HB.out.trans ((hb2.trans (hd0.mono hb2.size)).mono HB.out.size))
  have HTD := Lib.hid (there_later HT.out (hb2.trans (hd0.mono hb2.size)))
  have HDE := Lib.hid (show (tyD p.ds x.name).dat.In (W2.drew.setCells (w.heap.size + 1) 0 us) False (· < lo) us by
    rw [hdd]
    exact Dat.In.later (Dat.In.later hd (hP.bel.trans (hd0.mono hP.bel.size)) fun k hk => Nat.lt_of_lt_of_le hk (Nat.le_trans HLO.out (Nat.le_trans HB.out.size hb1.size))) (below_cells (Nat.le_refl (w.heap.size + 1)) us 0 _) fun k hk => Nat.lt_succ_of_lt (Nat.lt_of_lt_of_le hk HLO.out))
  have HSS := Lib.hid (And.intro (hP.box.later hd0) (((HBX.out.later (hb2.trans (hd0.mono hb2.size))) 1 _ rfl)))
  go_upto_region 2 with (refine storeOp flatDc 8 13 (b := w1.heap.size) (o := 0) (us := us) rfl rfl HPP.out.there HOU.out HLU.out ?_; rw [HPP.out.eq])
  clear HPP hP hb1 hb2 hd0 hd u0 u2 hrf hfl hdd
  have HI0 := Lib.hid (show instT p.ds x kind = ((d.kind == kind) && ((nf : Int) == (m : Int))) by
    rw [instT, HDD.out, HFL.out, HXL.out, kd_beq (a := (nf : Int))]
    congr 1
    by_cases h : nf = m
    · subst h; simp
    · rw [beq_eq_false_iff_ne.2 h, decide_eq_false (by omega)])
  cases e1 : (d.kind == kind)
  · have HI := Lib.hid (show instT p.ds x kind = false by rw [HI0.out, e1]; rfl)
    go_wp2_with fail
    refine wp_region_held_drew (S := fun V => Boxd V w1.heap.size us ∧ V.cell? ⟨w.heap.size, 1, none⟩ = some (.slice A m c)) (by kernel_rfl) HSS.out (fun hS => ?_)
    generalize W2.drew = Wd at *
    refine wpAnyH_take (i := 0) (v := .agg (us : List Value).toArray) rfl (by kernel_rfl) (by kernel_rfl) (by kernel_rfl) (fun _ _ _ h => h) (Or.inl ⟨by rfl, fun V hV => loadYieldB flatDc rfl hV.1.at0 HLU.out⟩) (by assumption) ?_
    try simp only [Act.put, List.getElem_toArray, List.getElem_cons_zero, List.setIfInBounds_toArray, List.set_cons_zero, List.set_cons_succ]
    refine wpAnyH_take (i := 1) (v := ?_) rfl (by kernel_rfl) (by kernel_rfl) (by kernel_rfl) (fun _ _ _ h => h) (Or.inl ⟨by rfl, ?_⟩) (by assumption) ?_
    rotate_left
    · (intro V hV; go_simp; try with_reducible rfl)
    try simp only [Act.put, List.getElem_toArray, List.getElem_cons_zero, List.getElem_cons_succ, List.setIfInBounds_toArray, List.set_cons_zero, List.set_cons_succ]
    refine wpAnyH_take (i := 2) (v := ?_) rfl (by kernel_rfl) (by kernel_rfl) (by kernel_rfl) (fun _ _ _ h => h) (Or.inl ⟨by rfl, ?_⟩) (by assumption) ?_
    rotate_left
    · (intro V hV; have k0 := hV.1 0 _ H0.out; go_simp; try with_reducible rfl)
    try simp only [Act.put, List.getElem_toArray, List.getElem_cons_zero, List.getElem_cons_succ, List.setIfInBounds_toArray, List.set_cons_zero, List.set_cons_succ]
    refine wpAnyH_take (i := 3) (v := ?_) rfl (by kernel_rfl) (by kernel_rfl) (by kernel_rfl) (fun _ _ _ h => h) (Or.inl ⟨by rfl, ?_⟩) (by assumption) ?_
    rotate_left
    · (intro V hV; go_simp; try with_reducible rfl)
    try simp only [Act.put, List.getElem_toArray, List.getElem_cons_zero, List.getElem_cons_succ, List.setIfInBounds_toArray, List.set_cons_zero, List.set_cons_succ]
    refine wpAnyH_take (i := 4) (v := ?_) rfl (by kernel_rfl) (by kernel_rfl) (by kernel_rfl) (fun _ _ _ h => h) (Or.inl ⟨by rfl, ?_⟩) (by assumption) ?_
    rotate_left
    · (intro V hV; go_simp; try with_reducible rfl)
    try simp only [Act.put, List.getElem_toArray, List.getElem_cons_zero, List.getElem_cons_succ, List.setIfInBounds_toArray, List.set_cons_zero, List.set_cons_succ]
    refine wpAnyH_take (i := 5) (v := ?_) rfl (by kernel_rfl) (by kernel_rfl) (by kernel_rfl) (fun _ _ _ h => h) (Or.inl ⟨by rfl, ?_⟩) (by assumption) ?_
    rotate_left
    · (intro V hV; go_simp; try with_reducible rfl)
    try simp only [Act.put, List.getElem_toArray, List.getElem_cons_zero, List.getElem_cons_succ, List.setIfInBounds_toArray, List.set_cons_zero, List.set_cons_succ]
    refine wpAnyH_take (i := 6) (v := undef) rfl (by kernel_rfl) (by kernel_rfl) (by kernel_rfl) (fun _ _ _ h => h) (Or.inr ⟨by rfl, rfl⟩) (by assumption) ?_
    try simp only [Act.put, List.getElem_toArray, List.getElem_cons_zero, List.getElem_cons_succ, List.setIfInBounds_toArray, List.set_cons_zero, List.set_cons_succ]
    refine wpAnyH_take (i := 7) (v := undef) rfl (by kernel_rfl) (by kernel_rfl) (by kernel_rfl) (fun _ _ _ h => h) (Or.inr ⟨by rfl, rfl⟩) (by assumption) ?_
    try simp only [Act.put, List.getElem_toArray, List.getElem_cons_zero, List.getElem_cons_succ, List.setIfInBounds_toArray, List.set_cons_zero, List.set_cons_succ]
    refine wpAnyH_take (i := 8) (v := undef) rfl (by kernel_rfl) (by kernel_rfl) (by kernel_rfl) (fun _ _ _ h => h) (Or.inr ⟨by rfl, rfl⟩) (by assumption) ?_
    try simp only [Act.put, List.getElem_toArray, List.getElem_cons_zero, List.getElem_cons_succ, List.setIfInBounds_toArray, List.set_cons_zero, List.set_cons_succ]
    refine wpAnyH_take (i := 9) (v := undef) rfl (by kernel_rfl) (by kernel_rfl) (by kernel_rfl) (fun _ _ _ h => h) (Or.inr ⟨by rfl, rfl⟩) (by assumption) ?_
    try simp only [Act.put, List.getElem_toArray, List.getElem_cons_zero, List.getElem_cons_succ, List.setIfInBounds_toArray, List.set_cons_zero, List.set_cons_succ]
    refine wpAnyH_take (i := 10) (v := undef) rfl (by kernel_rfl) (by kernel_rfl) (by kernel_rfl) (fun _ _ _ h => h) (Or.inr ⟨by rfl, rfl⟩) (by assumption) ?_
    try simp only [Act.put, List.getElem_toArray, List.getElem_cons_zero, List.getElem_cons_succ, List.setIfInBounds_toArray, List.set_cons_zero, List.set_cons_succ]
    refine wpAnyH_take (i := 11) (v := undef) rfl (by kernel_rfl) (by kernel_rfl) (by kernel_rfl) (fun _ _ _ h => h) (Or.inr ⟨by rfl, rfl⟩) (by assumption) ?_
    try simp only [Act.put, List.getElem_toArray, List.getElem_cons_zero, List.getElem_cons_succ, List.setIfInBounds_toArray, List.set_cons_zero, List.set_cons_succ]
    refine wpAnyH_take (i := 12) (v := undef) rfl (by kernel_rfl) (by kernel_rfl) (by kernel_rfl) (fun _ _ _ h => h) (Or.inr ⟨by rfl, rfl⟩) (by assumption) ?_
    try simp only [Act.put, List.getElem_toArray, List.getElem_cons_zero, List.getElem_cons_succ, List.setIfInBounds_toArray, List.set_cons_zero, List.set_cons_succ]
    refine wpAnyH_take (i := 13) (v := ?_) rfl (by kernel_rfl) (by kernel_rfl) (by kernel_rfl) (fun _ _ _ h => h) (Or.inl ⟨by rfl, ?_⟩) (by assumption) ?_
    rotate_left
    · (intro V hV; go_simp; try with_reducible rfl)
    try simp only [Act.put, List.getElem_toArray, List.getElem_cons_zero, List.getElem_cons_succ, List.setIfInBounds_toArray, List.set_cons_zero, List.set_cons_succ]
    refine wpAnyH_ready (rs := [14]) (by kernel_rfl) (by simp) ?_
    refine AllReadyH.cons rfl (fun K hK => ?_) (AllReadyH.nil)
    refine ready_storeB flatDc rfl (.tmp 6) (.tmp 14) rfl (b := w.heap.size + 1) (off := 0) (us := us) rfl rfl (by rw [HLU.out]; exact HTD.out) HOU.out HLU.out ?_
    have hkp : ∀ b, b ≠ w.heap.size + 1 → (Wd.setCells (w.heap.size + 1) 0 us).heap[b]? = Wd.heap[b]? := fun b hb => heap_setCells _ _ _ _ b hb
    have SS := (show Boxd (Wd.setCells (w.heap.size + 1) 0 us) w1.heap.size us ∧ (Wd.setCells (w.heap.size + 1) 0 us).cell? ⟨w.heap.size, 1, none⟩ = some (.slice A m c) from ⟨fun j u hu => ((kept_of (S := (· = w1.heap.size)) (fun b hb => hkp b (by have := HS1.out; have hb : b = _ := hb; omega)) ⟨w1.heap.size, j, none⟩ rfl).1).trans (hS.1 j u hu), ((kept_of (S := (· = w.heap.size)) (fun b hb => hkp b (by have hb : b = _ := hb; omega)) ⟨w.heap.size, 1, none⟩ rfl).1).trans hS.2⟩)
    refine hK.out _ _ SS (fun hS => ?_)
    clear hK K SS
    try simp only [Act.put]
    clear hkp
    refine wpAnyH_take (i := 15) (v := ?_) rfl (by kernel_rfl) (by kernel_rfl) (by kernel_rfl) (fun _ _ _ h => h) (Or.inl ⟨by rfl, ?_⟩) (by assumption) ?_
    rotate_left
    · (intro V hV; go_simp; try with_reducible rfl)
    try simp only [Act.put, List.getElem_toArray, List.getElem_cons_zero, List.getElem_cons_succ, List.setIfInBounds_toArray, List.set_cons_zero, List.set_cons_succ]
    refine wpAnyH_done (by kernel_rfl) ?_ _
    clear hS
    go_wp2_with fail
    exact bodyPost_ret (results_instance _ rfl rfl (set_there (us := us) (by rw [HLU.out]; exact HTD.out)) HLU.out) rfl ⟨us, by rw [HI.out]; rfl, HDE.out, HBL.out.trans (below_cells (Nat.le_succ _) _ _ _)⟩
  · cases e2 : ((nf : Int) == (m : Int))
    · have HI := Lib.hid (show instT p.ds x kind = false by rw [HI0.out, e1, e2]; rfl)
      go_wp2_with fail
      refine wp_region_held_drew (S := fun V => Boxd V w1.heap.size us ∧ V.cell? ⟨w.heap.size, 1, none⟩ = some (.slice A m c)) (by kernel_rfl) HSS.out (fun hS => ?_)
      generalize W2.drew = Wd at *
      refine wpAnyH_take (i := 0) (v := .agg (us : List Value).toArray) rfl (by kernel_rfl) (by kernel_rfl) (by kernel_rfl) (fun _ _ _ h => h) (Or.inl ⟨by rfl, fun V hV => loadYieldB flatDc rfl hV.1.at0 HLU.out⟩) (by assumption) ?_
      try simp only [Act.put, List.getElem_toArray, List.getElem_cons_zero, List.setIfInBounds_toArray, List.set_cons_zero, List.set_cons_succ]
      refine wpAnyH_take (i := 1) (v := ?_) rfl (by kernel_rfl) (by kernel_rfl) (by kernel_rfl) (fun _ _ _ h => h) (Or.inl ⟨by rfl, ?_⟩) (by assumption) ?_
      rotate_left
      · (intro V hV; go_simp; try with_reducible rfl)
      try simp only [Act.put, List.getElem_toArray, List.getElem_cons_zero, List.getElem_cons_succ, List.setIfInBounds_toArray, List.set_cons_zero, List.set_cons_succ]
      refine wpAnyH_take (i := 2) (v := ?_) rfl (by kernel_rfl) (by kernel_rfl) (by kernel_rfl) (fun _ _ _ h => h) (Or.inl ⟨by rfl, ?_⟩) (by assumption) ?_
      rotate_left
      · (intro V hV; have k0 := hV.1 0 _ H0.out; go_simp; try with_reducible rfl)
      try simp only [Act.put, List.getElem_toArray, List.getElem_cons_zero, List.getElem_cons_succ, List.setIfInBounds_toArray, List.set_cons_zero, List.set_cons_succ]
      refine wpAnyH_take (i := 3) (v := ?_) rfl (by kernel_rfl) (by kernel_rfl) (by kernel_rfl) (fun _ _ _ h => h) (Or.inl ⟨by rfl, ?_⟩) (by assumption) ?_
      rotate_left
      · (intro V hV; go_simp; try with_reducible rfl)
      try simp only [Act.put, List.getElem_toArray, List.getElem_cons_zero, List.getElem_cons_succ, List.setIfInBounds_toArray, List.set_cons_zero, List.set_cons_succ]
      refine wpAnyH_take (i := 4) (v := ?_) rfl (by kernel_rfl) (by kernel_rfl) (by kernel_rfl) (fun _ _ _ h => h) (Or.inl ⟨by rfl, ?_⟩) (by assumption) ?_
      rotate_left
      · (intro V hV; go_simp; try with_reducible rfl)
      try simp only [Act.put, List.getElem_toArray, List.getElem_cons_zero, List.getElem_cons_succ, List.setIfInBounds_toArray, List.set_cons_zero, List.set_cons_succ]
      refine wpAnyH_take (i := 5) (v := ?_) rfl (by kernel_rfl) (by kernel_rfl) (by kernel_rfl) (fun _ _ _ h => h) (Or.inl ⟨by rfl, ?_⟩) (by assumption) ?_
      rotate_left
      · (intro V hV; go_simp; try with_reducible rfl)
      try simp only [Act.put, List.getElem_toArray, List.getElem_cons_zero, List.getElem_cons_succ, List.setIfInBounds_toArray, List.set_cons_zero, List.set_cons_succ]
      refine wpAnyH_take (i := 6) (v := ?_) rfl (by kernel_rfl) (by kernel_rfl) (by kernel_rfl) (fun _ _ _ h => h) (Or.inl ⟨by rfl, ?_⟩) (by assumption) ?_
      rotate_left
      · (intro V hV; go_simp; try with_reducible rfl)
      try simp only [Act.put, List.getElem_toArray, List.getElem_cons_zero, List.getElem_cons_succ, List.setIfInBounds_toArray, List.set_cons_zero, List.set_cons_succ]
      refine wpAnyH_take (i := 7) (v := ?_) rfl (by kernel_rfl) (by kernel_rfl) (by kernel_rfl) (fun _ _ _ h => h) (Or.inl ⟨by rfl, ?_⟩) (by assumption) ?_
      rotate_left
      · (intro V hV; have k0 := hV.1 2 _ H2.out; go_simp; try with_reducible rfl)
      try simp only [Act.put, List.getElem_toArray, List.getElem_cons_zero, List.getElem_cons_succ, List.setIfInBounds_toArray, List.set_cons_zero, List.set_cons_succ]
      refine wpAnyH_take (i := 8) (v := ?_) rfl (by kernel_rfl) (by kernel_rfl) (by kernel_rfl) (fun _ _ _ h => h) (Or.inl ⟨by rfl, ?_⟩) (by assumption) ?_
      rotate_left
      · (intro V hV; go_simp; try with_reducible rfl)
      try simp only [Act.put, List.getElem_toArray, List.getElem_cons_zero, List.getElem_cons_succ, List.setIfInBounds_toArray, List.set_cons_zero, List.set_cons_succ]
      refine wpAnyH_take (i := 9) (v := ?_) rfl (by kernel_rfl) (by kernel_rfl) (by kernel_rfl) (fun _ _ _ h => h) (Or.inl ⟨by rfl, ?_⟩) (by assumption) ?_
      rotate_left
      · (intro V hV; go_simp; try with_reducible rfl)
      try simp only [Act.put, List.getElem_toArray, List.getElem_cons_zero, List.getElem_cons_succ, List.setIfInBounds_toArray, List.set_cons_zero, List.set_cons_succ]
      refine wpAnyH_take (i := 10) (v := ?_) rfl (by kernel_rfl) (by kernel_rfl) (by kernel_rfl) (fun _ _ _ h => h) (Or.inl ⟨by rfl, ?_⟩) (by assumption) ?_
      rotate_left
      · (intro V hV; have k0 := hV.2; go_simp; try with_reducible rfl)
      try simp only [Act.put, List.getElem_toArray, List.getElem_cons_zero, List.getElem_cons_succ, List.setIfInBounds_toArray, List.set_cons_zero, List.set_cons_succ]
      refine wpAnyH_take (i := 11) (v := ?_) rfl (by kernel_rfl) (by kernel_rfl) (by kernel_rfl) (fun _ _ _ h => h) (Or.inl ⟨by rfl, ?_⟩) (by assumption) ?_
      rotate_left
      · (intro V hV; go_simp; try with_reducible rfl)
      try simp only [Act.put, List.getElem_toArray, List.getElem_cons_zero, List.getElem_cons_succ, List.setIfInBounds_toArray, List.set_cons_zero, List.set_cons_succ]
      refine wpAnyH_take (i := 12) (v := ?_) rfl (by kernel_rfl) (by kernel_rfl) (by kernel_rfl) (fun _ _ _ h => h) (Or.inl ⟨by rfl, ?_⟩) (by assumption) ?_
      rotate_left
      · (intro V hV; go_simp; try with_reducible rfl)
      try simp only [Act.put, List.getElem_toArray, List.getElem_cons_zero, List.getElem_cons_succ, List.setIfInBounds_toArray, List.set_cons_zero, List.set_cons_succ]
      refine wpAnyH_take (i := 13) (v := ?_) rfl (by kernel_rfl) (by kernel_rfl) (by kernel_rfl) (fun _ _ _ h => h) (Or.inl ⟨by rfl, ?_⟩) (by assumption) ?_
      rotate_left
      · (intro V hV; go_simp; try with_reducible rfl)
      try simp only [Act.put, List.getElem_toArray, List.getElem_cons_zero, List.getElem_cons_succ, List.setIfInBounds_toArray, List.set_cons_zero, List.set_cons_succ]
      refine wpAnyH_ready (rs := [14]) (by kernel_rfl) (by simp) ?_
      refine AllReadyH.cons rfl (fun K hK => ?_) (AllReadyH.nil)
      refine ready_storeB flatDc rfl (.tmp 6) (.tmp 14) rfl (b := w.heap.size + 1) (off := 0) (us := us) rfl rfl (by rw [HLU.out]; exact HTD.out) HOU.out HLU.out ?_
      have hkp : ∀ b, b ≠ w.heap.size + 1 → (Wd.setCells (w.heap.size + 1) 0 us).heap[b]? = Wd.heap[b]? := fun b hb => heap_setCells _ _ _ _ b hb
      have SS := (show Boxd (Wd.setCells (w.heap.size + 1) 0 us) w1.heap.size us ∧ (Wd.setCells (w.heap.size + 1) 0 us).cell? ⟨w.heap.size, 1, none⟩ = some (.slice A m c) from ⟨fun j u hu => ((kept_of (S := (· = w1.heap.size)) (fun b hb => hkp b (by have := HS1.out; have hb : b = _ := hb; omega)) ⟨w1.heap.size, j, none⟩ rfl).1).trans (hS.1 j u hu), ((kept_of (S := (· = w.heap.size)) (fun b hb => hkp b (by have hb : b = _ := hb; omega)) ⟨w.heap.size, 1, none⟩ rfl).1).trans hS.2⟩)
      refine hK.out _ _ SS (fun hS => ?_)
      clear hK K SS
      try simp only [Act.put]
      clear hkp
      refine wpAnyH_take (i := 15) (v := ?_) rfl (by kernel_rfl) (by kernel_rfl) (by kernel_rfl) (fun _ _ _ h => h) (Or.inl ⟨by rfl, ?_⟩) (by assumption) ?_
      rotate_left
      · (intro V hV; go_simp; try with_reducible rfl)
      try simp only [Act.put, List.getElem_toArray, List.getElem_cons_zero, List.getElem_cons_succ, List.setIfInBounds_toArray, List.set_cons_zero, List.set_cons_succ]
      refine wpAnyH_done (by kernel_rfl) ?_ _
      clear hS
      go_wp2_with fail
      exact bodyPost_ret (results_instance _ rfl rfl (set_there (us := us) (by rw [HLU.out]; exact HTD.out)) HLU.out) rfl ⟨us, by rw [HI.out]; rfl, HDE.out, HBL.out.trans (below_cells (Nat.le_succ _) _ _ _)⟩
    · have HI := Lib.hid (show instT p.ds x kind = true by rw [HI0.out, e1, e2]; rfl)
      go_wp2_with fail
      refine wp_region_held_drew (S := fun V => Boxd V w1.heap.size us ∧ V.cell? ⟨w.heap.size, 1, none⟩ = some (.slice A m c)) (by kernel_rfl) HSS.out (fun hS => ?_)
      generalize W2.drew = Wd at *
      refine wpAnyH_take (i := 0) (v := .agg (us : List Value).toArray) rfl (by kernel_rfl) (by kernel_rfl) (by kernel_rfl) (fun _ _ _ h => h) (Or.inl ⟨by rfl, fun V hV => loadYieldB flatDc rfl hV.1.at0 HLU.out⟩) (by assumption) ?_
      try simp only [Act.put, List.getElem_toArray, List.getElem_cons_zero, List.setIfInBounds_toArray, List.set_cons_zero, List.set_cons_succ]
      refine wpAnyH_take (i := 1) (v := ?_) rfl (by kernel_rfl) (by kernel_rfl) (by kernel_rfl) (fun _ _ _ h => h) (Or.inl ⟨by rfl, ?_⟩) (by assumption) ?_
      rotate_left
      · (intro V hV; go_simp; try with_reducible rfl)
      try simp only [Act.put, List.getElem_toArray, List.getElem_cons_zero, List.getElem_cons_succ, List.setIfInBounds_toArray, List.set_cons_zero, List.set_cons_succ]
      refine wpAnyH_take (i := 2) (v := ?_) rfl (by kernel_rfl) (by kernel_rfl) (by kernel_rfl) (fun _ _ _ h => h) (Or.inl ⟨by rfl, ?_⟩) (by assumption) ?_
      rotate_left
      · (intro V hV; have k0 := hV.1 0 _ H0.out; go_simp; try with_reducible rfl)
      try simp only [Act.put, List.getElem_toArray, List.getElem_cons_zero, List.getElem_cons_succ, List.setIfInBounds_toArray, List.set_cons_zero, List.set_cons_succ]
      refine wpAnyH_take (i := 3) (v := ?_) rfl (by kernel_rfl) (by kernel_rfl) (by kernel_rfl) (fun _ _ _ h => h) (Or.inl ⟨by rfl, ?_⟩) (by assumption) ?_
      rotate_left
      · (intro V hV; go_simp; try with_reducible rfl)
      try simp only [Act.put, List.getElem_toArray, List.getElem_cons_zero, List.getElem_cons_succ, List.setIfInBounds_toArray, List.set_cons_zero, List.set_cons_succ]
      refine wpAnyH_take (i := 4) (v := ?_) rfl (by kernel_rfl) (by kernel_rfl) (by kernel_rfl) (fun _ _ _ h => h) (Or.inl ⟨by rfl, ?_⟩) (by assumption) ?_
      rotate_left
      · (intro V hV; go_simp; try with_reducible rfl)
      try simp only [Act.put, List.getElem_toArray, List.getElem_cons_zero, List.getElem_cons_succ, List.setIfInBounds_toArray, List.set_cons_zero, List.set_cons_succ]
      refine wpAnyH_take (i := 5) (v := ?_) rfl (by kernel_rfl) (by kernel_rfl) (by kernel_rfl) (fun _ _ _ h => h) (Or.inl ⟨by rfl, ?_⟩) (by assumption) ?_
      rotate_left
      · (intro V hV; go_simp; try with_reducible rfl)
      try simp only [Act.put, List.getElem_toArray, List.getElem_cons_zero, List.getElem_cons_succ, List.setIfInBounds_toArray, List.set_cons_zero, List.set_cons_succ]
      refine wpAnyH_take (i := 6) (v := ?_) rfl (by kernel_rfl) (by kernel_rfl) (by kernel_rfl) (fun _ _ _ h => h) (Or.inl ⟨by rfl, ?_⟩) (by assumption) ?_
      rotate_left
      · (intro V hV; go_simp; try with_reducible rfl)
      try simp only [Act.put, List.getElem_toArray, List.getElem_cons_zero, List.getElem_cons_succ, List.setIfInBounds_toArray, List.set_cons_zero, List.set_cons_succ]
      refine wpAnyH_take (i := 7) (v := ?_) rfl (by kernel_rfl) (by kernel_rfl) (by kernel_rfl) (fun _ _ _ h => h) (Or.inl ⟨by rfl, ?_⟩) (by assumption) ?_
      rotate_left
      · (intro V hV; have k0 := hV.1 2 _ H2.out; go_simp; try with_reducible rfl)
      try simp only [Act.put, List.getElem_toArray, List.getElem_cons_zero, List.getElem_cons_succ, List.setIfInBounds_toArray, List.set_cons_zero, List.set_cons_succ]
      refine wpAnyH_take (i := 8) (v := ?_) rfl (by kernel_rfl) (by kernel_rfl) (by kernel_rfl) (fun _ _ _ h => h) (Or.inl ⟨by rfl, ?_⟩) (by assumption) ?_
      rotate_left
      · (intro V hV; go_simp; try with_reducible rfl)
      try simp only [Act.put, List.getElem_toArray, List.getElem_cons_zero, List.getElem_cons_succ, List.setIfInBounds_toArray, List.set_cons_zero, List.set_cons_succ]
      refine wpAnyH_take (i := 9) (v := ?_) rfl (by kernel_rfl) (by kernel_rfl) (by kernel_rfl) (fun _ _ _ h => h) (Or.inl ⟨by rfl, ?_⟩) (by assumption) ?_
      rotate_left
      · (intro V hV; go_simp; try with_reducible rfl)
      try simp only [Act.put, List.getElem_toArray, List.getElem_cons_zero, List.getElem_cons_succ, List.setIfInBounds_toArray, List.set_cons_zero, List.set_cons_succ]
      refine wpAnyH_take (i := 10) (v := ?_) rfl (by kernel_rfl) (by kernel_rfl) (by kernel_rfl) (fun _ _ _ h => h) (Or.inl ⟨by rfl, ?_⟩) (by assumption) ?_
      rotate_left
      · (intro V hV; have k0 := hV.2; go_simp; try with_reducible rfl)
      try simp only [Act.put, List.getElem_toArray, List.getElem_cons_zero, List.getElem_cons_succ, List.setIfInBounds_toArray, List.set_cons_zero, List.set_cons_succ]
      refine wpAnyH_take (i := 11) (v := ?_) rfl (by kernel_rfl) (by kernel_rfl) (by kernel_rfl) (fun _ _ _ h => h) (Or.inl ⟨by rfl, ?_⟩) (by assumption) ?_
      rotate_left
      · (intro V hV; go_simp; try with_reducible rfl)
      try simp only [Act.put, List.getElem_toArray, List.getElem_cons_zero, List.getElem_cons_succ, List.setIfInBounds_toArray, List.set_cons_zero, List.set_cons_succ]
      refine wpAnyH_take (i := 12) (v := ?_) rfl (by kernel_rfl) (by kernel_rfl) (by kernel_rfl) (fun _ _ _ h => h) (Or.inl ⟨by rfl, ?_⟩) (by assumption) ?_
      rotate_left
      · (intro V hV; go_simp; try with_reducible rfl)
      try simp only [Act.put, List.getElem_toArray, List.getElem_cons_zero, List.getElem_cons_succ, List.setIfInBounds_toArray, List.set_cons_zero, List.set_cons_succ]
      refine wpAnyH_take (i := 13) (v := ?_) rfl (by kernel_rfl) (by kernel_rfl) (by kernel_rfl) (fun _ _ _ h => h) (Or.inl ⟨by rfl, ?_⟩) (by assumption) ?_
      rotate_left
      · (intro V hV; go_simp; try with_reducible rfl)
      try simp only [Act.put, List.getElem_toArray, List.getElem_cons_zero, List.getElem_cons_succ, List.setIfInBounds_toArray, List.set_cons_zero, List.set_cons_succ]
      refine wpAnyH_ready (rs := [14]) (by kernel_rfl) (by simp) ?_
      refine AllReadyH.cons rfl (fun K hK => ?_) (AllReadyH.nil)
      refine ready_storeB flatDc rfl (.tmp 6) (.tmp 14) rfl (b := w.heap.size + 1) (off := 0) (us := us) rfl rfl (by rw [HLU.out]; exact HTD.out) HOU.out HLU.out ?_
      have hkp : ∀ b, b ≠ w.heap.size + 1 → (Wd.setCells (w.heap.size + 1) 0 us).heap[b]? = Wd.heap[b]? := fun b hb => heap_setCells _ _ _ _ b hb
      have SS := (show Boxd (Wd.setCells (w.heap.size + 1) 0 us) w1.heap.size us ∧ (Wd.setCells (w.heap.size + 1) 0 us).cell? ⟨w.heap.size, 1, none⟩ = some (.slice A m c) from ⟨fun j u hu => ((kept_of (S := (· = w1.heap.size)) (fun b hb => hkp b (by have := HS1.out; have hb : b = _ := hb; omega)) ⟨w1.heap.size, j, none⟩ rfl).1).trans (hS.1 j u hu), ((kept_of (S := (· = w.heap.size)) (fun b hb => hkp b (by have hb : b = _ := hb; omega)) ⟨w.heap.size, 1, none⟩ rfl).1).trans hS.2⟩)
      refine hK.out _ _ SS (fun hS => ?_)
      clear hK K SS
      try simp only [Act.put]
      clear hkp
      refine wpAnyH_take (i := 15) (v := ?_) rfl (by kernel_rfl) (by kernel_rfl) (by kernel_rfl) (fun _ _ _ h => h) (Or.inl ⟨by rfl, ?_⟩) (by assumption) ?_
      rotate_left
      · (intro V hV; go_simp; try with_reducible rfl)
      try simp only [Act.put, List.getElem_toArray, List.getElem_cons_zero, List.getElem_cons_succ, List.setIfInBounds_toArray, List.set_cons_zero, List.set_cons_succ]
      refine wpAnyH_done (by kernel_rfl) ?_ _
      clear hS
      go_wp2_with fail
      exact bodyPost_ret (results_instance _ rfl rfl (set_there (us := us) (by rw [HLU.out]; exact HTD.out)) HLU.out) rfl ⟨us, by rw [HI.out]; rfl, HDE.out, HBL.out.trans (below_cells (Nat.le_succ _) _ _ _)⟩

/-! ### Kind -/
set_option maxRecDepth 100000 in
theorem field_dc0 {us : List Value} {v : Value} (hl : us.length = 23) (h : us[0]? = some v) (w : World) : (Instr.field 52 (.agg us.toArray) 0).run Tryd.prog w = .ok v w := by
  match us, hl with
  | [va, vb, vc, vd, ve, vf, vg, vh, vi, vj, vk, vl, vm, vn, vo, vp, vq, vr, vs, vt, vu, vv, vw], _ => obtain rfl := Option.some.inj h; rfl
set_option maxRecDepth 100000 in
theorem field_dc2 {us : List Value} {F : Option Addr} {n c : Nat} (hl : us.length = 23) (h : us[2]? = some (.slice F n c)) (w : World) : (Instr.field 52 (.agg us.toArray) 2).run Tryd.prog w = .ok (.slice F n c) w := by
  match us, hl with
  | [va, vb, vc, vd, ve, vf, vg, vh, vi, vj, vk, vl, vm, vn, vo, vp, vq, vr, vs, vt, vu, vv, vw], _ => obtain rfl := Option.some.inj h; rfl
set_option maxRecDepth 100000 in
set_option maxHeartbeats 8000000 in
theorem tkind_any (lo : Nat) (r : Value) (p : Pg) (s : ByteArray) (w : World) (hs : s.size ≤ 9223372036854775807) (ht : TabR lo w r p) :
    Calls Tryd.prog 14 #[r, .string s] w fun e w' => e = .returned (.int .i64 (tyD p.ds s).kind) ∧ Below w.heap.size w w' := by
  have C := Lib.hid (find_any lo r p false s ⟨#[]⟩ w hs nil_size ht)
  clear ht hs
  go_enter Tryd.func14, Tryd.ntmps14
  go_wp2_with fail
  refine C.out.mono ?_
  rintro e w1 ⟨us, rfl, hd, hb1⟩
  have hfl := field_dc0 (dc_len hd) (dc_c hd).1
  have HB := Lib.hid hb1
  clear C hd hb1
  go_wp2_with fail
  go_ret
  exact ⟨rfl, HB.out⟩

/-! ### Formals -/
set_option maxRecDepth 100000 in
set_option maxHeartbeats 8000000 in
theorem tformals_any (lo : Nat) (r : Value) (p : Pg) (s : ByteArray) (w : World) (hw : ∀ d ∈ p.ds, d.wt ≤ 1990) (hlo : lo ≤ w.heap.size) (hs : s.size ≤ 9223372036854775807) (ht : TabR lo w r p) :
    Calls Tryd.prog 18 #[r, .string s] w (RPost w 5 (tyD p.ds s).fs.length ((tyD p.ds s).fs.map Fo.dat)) := by
  have C := Lib.hid (find_any lo r p false s ⟨#[]⟩ w hs nil_size ht)
  have HLO := Lib.hid hlo
  have hdw : (tyD p.ds s).wt ≤ 1990 := by
    rcases none_mem (ds := p.ds) (k := tyK s) with h | h
    · rw [tyD, h]; simp [Dc.wt, Dc.none?, Sg.none?, Ex.none?, Sg.wt, sumBy, Ty.wt, Ty.wtL, Ex.wt, Ex.wtL, ByteArray.size]
    · exact hw _ h
  have HDW := Lib.hid hdw
  clear ht hs hw hlo hdw
  go_enter Tryd.func18, Tryd.ntmps18
  go_wp2_with fail
  refine C.out.mono ?_
  rintro e w1 ⟨us, rfl, hd, hb1⟩
  have hd : (tyD p.ds s).dat.In w1 False (· < lo) us := hd
  generalize tyD p.ds s = d at *
  obtain ⟨_, _, _, _, _, F, nf, cf, _, _, _, _, _, _, _, _, _, u2, _, _, _, hrf, _⟩ := dc_c hd
  have hfl := field_dc2 (dc_len hd) u2
  have hln := hrf.len
  rw [List.length_map] at hln
  have hnf : nf ≤ 1990 := by have := Dc.len_f d; have := HDW.out; omega
  have HB := Lib.hid hb1
  have C2 := Lib.hid (bjoin_any d.fs [] F none nf 0 cf 0 w1 (fun f hf => by rw [List.append_nil] at hf; exact Nat.le_trans (Dc.wt_f hf) HDW.out) (by omega) (by omega) (hrf.wide fun b hb => Nat.lt_of_lt_of_le hb (Nat.le_trans HLO.out hb1.size)) (Row.nil _ _ _ _ _))
  have HLN := Lib.hid hln
  clear C hd hb1 hrf u2 hln hnf
  go_wp2_with fail
  refine C2.out.mono ?_
  rintro e w2 ⟨A, c, rfl, hr, hb2⟩
  rw [List.append_nil] at hr
  have HR := Lib.hid hr
  have HB2 := Lib.hid hb2
  clear hr hb2 C2
  go_wp2_with fail
  go_ret
  rw [HLN.out]
  exact ⟨A, c, rfl, HR.out.wide fun b hb => ⟨Nat.le_trans HB.out.size hb.1, hb.2⟩, HB.out.trans (HB2.out.mono HB.out.size)⟩

/-! ### Program -/
theorem results_tprogram {w : World} {b : Nat} {us : List Value} (tmps : Array Value) (ht : tmps[2]?.getD undef = .pointer (some ⟨b, 0, none⟩)) (hc : Boxd w b us) (hl : us.length = 9) : (results Tryd.f27 tmps).run Tryd.prog w = .ok (.agg us.toArray) w := by
  have h := run_loadVar_at w ⟨b, 0, none⟩ 30 us _ hc.at0 Tryd.underlying30 rfl (by rw [hl]; exact flatPg.size)
  have h2 : (asAddr (.pointer (some ⟨b, 0, none⟩))).run Tryd.prog w = .ok ⟨b, 0, none⟩ w := rfl
  simp [results, Tryd.results27, ht, h, h2, Sem.run_bind, Result.andThen]
set_option maxRecDepth 100000 in
set_option maxHeartbeats 8000000 in
theorem tprogram_any (lo : Nat) (r : Value) (p : Pg) (w : World) (hw : p.wt ≤ 1990) (hlo : lo ≤ w.heap.size) (ht : TabR lo w r p) :
    Calls Tryd.prog 27 #[r] w (DPost w p.dat) := by
  obtain ⟨W0, hW0⟩ : ∃ W0, w.alloc (.cells #[.slice none 0 0, .int .i64 0, .string ⟨#[]⟩, .string ⟨#[]⟩, .slice none 0 0, .int .i64 0, .slice none 0 0, .slice none 0 0, .int .i64 0] 30) = W0 := ⟨_, rfl⟩
  have hb : Below w.heap.size w W0 := hW0 ▸ (Below.refl _ _).alloc (Nat.le_refl _) _
  have hth : W0.there w.heap.size 0 9 := hW0 ▸ there_new w #[.slice none 0 0, .int .i64 0, .string ⟨#[]⟩, .string ⟨#[]⟩, .slice none 0 0, .int .i64 0, .slice none 0 0, .slice none 0 0, .int .i64 0] 30
  have HW0 := Lib.hid hW0
  have HB := Lib.hid hb
  have HT := Lib.hid hth
  have HLO := Lib.hid hlo
  have HW := Lib.hid hw
  have HSZ := Lib.hid (show W0.heap.size = w.heap.size + 1 by rw [← hW0]; simp)
  rcases ht with ⟨rfl, rfl⟩ | ⟨tb, rfl, h⟩
  · clear hW0 hb hth hlo hw
    go_enter Tryd.func27, Tryd.ntmps27
    go_upto_region 1 with fail
    rw [HW0.out]
    clear HW0
    go_wp2_with (refine storeOp flatPg 2 5 (b := w.heap.size) (o := 0) (us := [.slice none 0 0, .int .i64 0, .string ⟨#[]⟩, .string ⟨#[]⟩, .slice none 0 0, .int .i64 0, .slice none 0 0, .slice none 0 0, .int .i64 0]) rfl rfl HT.out pg0_one rfl ?_)
    exact bodyPost_ret (results_tprogram _ rfl (set_there (us := [.slice none 0 0, .int .i64 0, .string ⟨#[]⟩, .string ⟨#[]⟩, .slice none 0 0, .int .i64 0, .slice none 0 0, .slice none 0 0, .int .i64 0]) HT.out) rfl) rfl ⟨_, rfl, pgNone_in _ _ _, HB.out.trans (below_cells (Nat.le_refl _) _ _ _)⟩
  obtain ⟨us, g1, g2, nn, h1, h2, h3, _⟩ := h.ex
  have hl : us.length = 9 := (Dat.In.len _ _ h1).trans (Pg.dat_size _)
  have HBD := Lib.hid (show CellsAt W0 ⟨tb, 0, none⟩ us from fun j u hu => by
    rw [add_zero_addr]
    exact (h2.later hb) j u (by rw [List.getElem?_append_left (List.getElem?_eq_some_iff.1 hu).1]; exact hu))
  have HL := Lib.hid hl
  have C := Lib.hid (clonePg_any p us W0 hw ((Dat.In.later h1 hb (fun k hk => Nat.lt_of_lt_of_le hk h.le)).wide fun b hb2 => Nat.lt_of_lt_of_le hb2 (Nat.le_trans hlo hb.size)))
  clear hW0 hb hth h h1 h2 h3 hlo hw hl
  go_enter Tryd.func27, Tryd.ntmps27
  go_upto_region 1 with fail
  rw [HW0.out]
  clear HW0
  go_wp2_with (refine loadOp flatPg 8 9 rfl HBD.out HL.out ?_)
  refine C.out.mono ?_
  rintro e w1 ⟨vs, rfl, hd, hb1⟩
  have HV := Lib.hid (show vs.length = 9 from (Dat.In.len _ _ hd).trans (Pg.dat_size _))
  have HO := Lib.hid (pg_onesT hd)
  have HD := Lib.hid hd
  have HB1 := Lib.hid hb1
  have HT1 := Lib.hid (there_later HT.out hb1)
  clear hd hb1 C
  go_wp2_with (refine storeOp flatPg 2 10 (b := w.heap.size) (o := 0) (us := vs) rfl rfl (by rw [HV.out]; exact HT1.out) HO.out HV.out ?_)
  exact bodyPost_ret (results_tprogram _ rfl (set_there (us := vs) (by rw [HV.out]; exact HT1.out)) HV.out) rfl ⟨vs, rfl, Dat.In.keep id (fun q hq => kept_of (S := Fresh W0 w1) (fun b hb => heap_setCells _ _ _ _ b (by have h1 : W0.heap.size ≤ b := hb.1; have := HSZ.out; omega)) q hq) (fun b hb => ⟨by have h1 : W0.heap.size ≤ b := hb.1; have := HSZ.out; omega, by rw [size_setCells_w]; exact hb.2⟩) _ _ HD.out, HB.out.trans ((HB1.out.mono HB.out.size).trans (below_cells (Nat.le_refl _) _ _ _))⟩
end Go.Proofs.YtjhlehdjdaphcaaDoor
