/- The walks of bind.Alike, bind.Apply and bind.Bound. The condition: few parts. -/
import Derived.Test.YtkdlidakdknhjaaDoorBdK
namespace Go.Proofs.YtkdlidakdknhjaaDoor
open Go.RowKit

theorem bcanon_d (s : Sg) (us : List Value) (w : World) (hw : s.wt ≤ 1000) (hE : PowVar w) (h : s.dat.H w us) : Calls Tryd.prog 15 #[.agg us.toArray] w (DPost w s.canon.dat) := by
  have hn : s.name.size ≤ 9223372036854775807 := by obtain ⟨_, _, _, _, _, _, _, _, _, _, hn, _⟩ := sg_open h; exact hn
  have h1 := Sg.len_f s
  have h2 := Sg.len_p s
  exact (bcanon_any s us w hw hE h).mono fun e w' hp => hp.post hn ⟨by simp [Sg.canon, Sg.bare, Sg.subst]; omega, by simp [Sg.canon, Sg.bare, Sg.subst]; omega⟩
set_option maxRecDepth 100000 in
set_option maxHeartbeats 8000000 in
theorem balike_any (a b : Sg) (us vs : List Value) (w : World) (ha : a.wt ≤ 1000) (hb : b.wt ≤ 1000) (hE : PowVar w) (h1 : a.dat.H w us) (h2 : b.dat.H w vs) : Calls Tryd.prog 18 #[.agg us.toArray, .agg vs.toArray] w (EqvPost w (Sg.alike a b)) := by
  have HT := TwoD.new h1 h2 28
  obtain ⟨W0, hW0⟩ : ∃ W0, (w.alloc (.cells us.toArray 28)).alloc (.cells vs.toArray 28) = W0 := ⟨_, rfl⟩
  rw [hW0] at HT
  have HW0 := Lib.hid hW0
  have HTD := Lib.hid (HT.later (Below.refl W0.heap.size W0).drew)
  have hul : us.length = 7 := (Dat.In.len _ _ h1).trans (Sg.dat_size a)
  have hvl : vs.length = 7 := (Dat.In.len _ _ h2).trans (Sg.dat_size b)
  have HUL := Lib.hid hul
  have HVL := Lib.hid hvl
  have HSST := Lib.hid (fun (X : World) (hX : Below W0.drew.heap.size W0.drew X) => (show CellsAt X ⟨w.heap.size, 0, none⟩ us ∧ CellsAt X ⟨w.heap.size + 1, 0, none⟩ vs from ⟨((HTD.out.later hX).one).at0, ((HTD.out.later hX).two).at0⟩))
  have CA := Lib.hid (fun (X : World) (hX : Below W0.drew.heap.size W0.drew X) => bcanon_d a us X ha (hE.later ((HTD.out.later hX).bel)) (HTD.out.later hX).da)
  have CB := Lib.hid (fun (X : World) (hX : Below W0.drew.heap.size W0.drew X) => bcanon_d b vs X hb (hE.later ((HTD.out.later hX).bel)) (HTD.out.later hX).db)
  have SS := HSST.out W0.drew (Below.refl _ _)
  clear HT hW0 h1 h2 hE ha hb hul hvl
  go_enter Tryd.func18, Tryd.ntmps18
  go_upto_region 1 with fail
  rw [HW0.out]
  clear HW0
  go_wp2_with fail
  refine wp_region_held_drew (S := fun V => CellsAt V ⟨w.heap.size, 0, none⟩ us ∧ CellsAt V ⟨w.heap.size + 1, 0, none⟩ vs) (by kernel_rfl) SS (fun hS => ?_)
  clear SS
  have HBW := Lib.hid HTD.out.bel
  generalize W0.drew = Wd at *
  refine wpAnyH_take (i := 0) (v := .agg us.toArray) rfl (by kernel_rfl) (by kernel_rfl) (by kernel_rfl) (fun _ _ _ h => h) (Or.inl ⟨by rfl, fun V hV => loadYieldB flatSg rfl hV.1 HUL.out⟩) (by assumption) ?_
  try simp only [Act.put, List.getElem_toArray, List.getElem_cons_zero, List.setIfInBounds_toArray, List.set_cons_zero, List.set_cons_succ]
  refine wpAnyH_take (i := 2) (v := .agg vs.toArray) rfl (by kernel_rfl) (by kernel_rfl) (by kernel_rfl) (fun _ _ _ h => h) (Or.inl ⟨by rfl, fun V hV => loadYieldB flatSg rfl hV.2 HVL.out⟩) (by assumption) ?_
  try simp only [Act.put, List.getElem_toArray, List.getElem_cons_zero, List.getElem_cons_succ, List.setIfInBounds_toArray, List.set_cons_zero, List.set_cons_succ]
  refine wpAnyH_ready (rs := [1]) (by kernel_rfl) (by simp) ?_
  refine AllReadyH.cons rfl (fun K hK => ?_) (AllReadyH.nil)
  go_simp
  refine (CA.out Wd (Below.refl _ _)).mono ?_
  rintro e X1 ⟨cs, rfl, hc, hb1⟩
  have HC := Lib.hid hc
  have HB1 := Lib.hid hb1
  have SS := HSST.out X1 hb1
  clear hc hb1
  refine hK.out _ _ SS (fun hS => ?_)
  clear hK K SS
  try simp only [Act.put, List.getElem_toArray, List.getElem_cons_zero, List.getElem_cons_succ, List.setIfInBounds_toArray, List.set_cons_zero, List.set_cons_succ]
  refine wpAnyH_ready (rs := [3]) (by kernel_rfl) (by simp) ?_
  refine AllReadyH.cons rfl (fun K hK => ?_) (AllReadyH.nil)
  go_simp
  refine (CB.out X1 HB1.out).mono ?_
  rintro e X2 ⟨ds, rfl, hd, hb2⟩
  have HD := Lib.hid hd
  have HB2 := Lib.hid hb2
  have SS := HSST.out X2 (HB1.out.trans (hb2.mono HB1.out.size))
  clear hd hb2
  refine hK.out _ _ SS (fun hS => ?_)
  clear hK K SS
  try simp only [Act.put, List.getElem_toArray, List.getElem_cons_zero, List.getElem_cons_succ, List.setIfInBounds_toArray, List.set_cons_zero, List.set_cons_succ]
  refine wpAnyH_ready (rs := [4]) (by kernel_rfl) (by simp) ?_
  refine AllReadyH.cons rfl (fun K hK => ?_) (AllReadyH.nil)
  go_simp
  refine (sameSig_any a.canon b.canon cs ds X2 (Dat.In.later HC.out HB2.out (fun b hb => hb.2) |>.wide fun b hb => Nat.lt_of_lt_of_le hb.2 HB2.out.size) (HD.out.wide fun b hb => hb.2)).mono ?_
  rintro e X3 ⟨rfl, hb3⟩
  have HB3 := Lib.hid hb3
  have SS := HSST.out X3 ((HB1.out.trans (HB2.out.mono HB1.out.size)).trans (hb3.mono (Nat.le_trans HB1.out.size HB2.out.size)))
  clear hb3
  refine hK.out _ _ SS (fun hS => ?_)
  clear hK K SS
  try simp only [Act.put, List.getElem_toArray, List.getElem_cons_zero, List.getElem_cons_succ, List.setIfInBounds_toArray, List.set_cons_zero, List.set_cons_succ]
  refine wpAnyH_take (i := 5) (v := ?_) rfl (by kernel_rfl) (by kernel_rfl) (by kernel_rfl) (fun _ _ _ h => h) (Or.inl ⟨by rfl, ?_⟩) (by assumption) ?_
  rotate_left
  · (intro V hV; go_simp; try with_reducible rfl)
  try simp only [Act.put, List.getElem_toArray, List.getElem_cons_zero, List.getElem_cons_succ, List.setIfInBounds_toArray, List.set_cons_zero, List.set_cons_succ]
  refine wpAnyH_done (by kernel_rfl) ?_ _
  clear hS
  go_wp2_with fail
  go_ret
  exact ⟨rfl, HBW.out.trans (((HB1.out.trans (HB2.out.mono HB1.out.size)).trans (HB3.out.mono (Nat.le_trans HB1.out.size HB2.out.size))).mono HBW.out.size)⟩
theorem results_apply {w : World} {b : Nat} {us : List Value} {v : Value} (tmps : Array Value) (ht : tmps[4]?.getD undef = .pointer (some ⟨b, 0, none⟩)) (hv : tmps[5]?.getD undef = v) (hc : Boxd w b us) (hl : us.length = 7) : (results Tryd.f21 tmps).run Tryd.prog w = .ok (.tuple #[.agg us.toArray, v]) w := by
  have h := run_loadVar_at w ⟨b, 0, none⟩ 28 us _ hc.at0 Tryd.underlying28 rfl (by rw [hl]; exact flatSg.size)
  have h2 : (asAddr (.pointer (some ⟨b, 0, none⟩))).run Tryd.prog w = .ok ⟨b, 0, none⟩ w := rfl
  simp [results, Tryd.results21, ht, hv, h, h2, Sem.run_bind, Result.andThen]
/-- What Apply gives. -/
def Sg.applied (s : Sg) (vs : List Ty) : Sg := if s.fs.length = vs.length then s.subst s.names vs else Sg.none?
def AppPost (w : World) (s : Sg) (vs : List Ty) (e : Ending) (w' : World) : Prop := ∃ us, e = .returned (.tuple #[.agg us.toArray, .bool (s.fs.length == vs.length)]) ∧ (s.applied vs).dat.In w' False (Fresh w w') us ∧ Below w.heap.size w w'
theorem none_dat {w : World} {S : Nat → Prop} : Sg.none?.dat.In w False S [.string ⟨#[]⟩, .slice none 0 0, .slice none 0 0, .string ⟨#[]⟩, .slice none 0 0, .int .i64 0, .int .i64 0] :=
  sg_shut (s := Sg.none?) (nf := 0) (np := 0) (m := 0) (by simp [Sg.none?, ByteArray.size]) (Row.nil _ _ _ _ _) (Row.nil _ _ _ _ _) (by simp [Sg.none?, Ty.name, ByteArray.size]) (LiesN.nil _ _ _ _)
set_option maxRecDepth 100000 in
set_option maxHeartbeats 8000000 in
theorem bapply_any (s : Sg) (us : List Value) (vs : List Ty) (U : Option Addr) (ul uc : Nat) (w : World) (hw : s.wt ≤ 1000) (hvs : ∀ v ∈ vs, v.Small) (hul : ul ≤ 1000) (h : s.dat.H w us) (hU : Here w U ul vs) :
    Calls Tryd.prog 21 #[.agg us.toArray, .slice U ul uc] w (AppPost w s vs) := by
  obtain ⟨F, nf, cf, Q, np, cp, Ar, mr, ar, rfl, hnm, hf, hp, _⟩ := sg_open h
  have hfl := hf.len
  rw [List.length_map] at hfl
  have hvl := hU.len
  have hlf := Sg.len_f s
  have hlp := Sg.len_p s
  have hM := Cl.new w #[.string s.name, .slice F nf cf, .slice Q np cp, .string s.res.name, .slice Ar mr ar, .int .i64 s.res.off, .int .i64 s.off] #[.string ⟨#[]⟩, .slice none 0 0, .slice none 0 0, .string ⟨#[]⟩, .slice none 0 0, .int .i64 0, .int .i64 0] 28
  obtain ⟨W0, hW0⟩ : ∃ W0, (w.alloc (.cells #[.string s.name, .slice F nf cf, .slice Q np cp, .string s.res.name, .slice Ar mr ar, .int .i64 s.res.off, .int .i64 s.off] 28)).alloc (.cells #[.string ⟨#[]⟩, .slice none 0 0, .slice none 0 0, .string ⟨#[]⟩, .slice none 0 0, .int .i64 0, .int .i64 0] 28) = W0 := ⟨_, rfl⟩
  rw [hW0] at hM
  have HW0 := Lib.hid hW0
  have HM := Lib.hid (show Cl w W0 [.string s.name, .slice F nf cf, .slice Q np cp, .string s.res.name, .slice Ar mr ar, .int .i64 s.res.off, .int .i64 s.off] 7 from hM)
  have HIN := Lib.hid h
  have HU := Lib.hid hU
  have HF := Lib.hid hf
  have HFL := Lib.hid hfl
  have HVL := Lib.hid hvl
  have HWT := Lib.hid hw
  have HVS := Lib.hid hvs
  have HUL := Lib.hid hul
  have HNM := Lib.hid hnm
  have hni : (nf : Int) ≤ 1000 := by omega
  have x1 := hM.box.box 1 _ rfl
  have HLL := Lib.hid (show s.fs.length ≤ 1000 ∧ s.ps.length ≤ 1000 by omega)
  by_cases he : nf = ul
  · subst he
    have e0 : (((nf : Int) != (nf : Int))) = false := by simp
    have e1 : (!((nf : Int) == (nf : Int))) = false := by simp
    have HBD := Lib.hid hM.box.box
    have HSST := Lib.hid (fun (X : World) (hX : Below W0.drew.heap.size W0.drew X) => (show X.cell? ⟨w.heap.size, 1, none⟩ = some (.slice F nf cf) ∧ CellsAt X ⟨w.heap.size, 0, none⟩ [.string s.name, .slice F nf cf, .slice Q np cp, .string s.res.name, .slice Ar mr ar, .int .i64 s.res.off, .int .i64 s.off] from ⟨(Boxd.later (w := W0.drew) HBD.out hX) 1 _ rfl, boxd_at0B (Boxd.later (w := W0.drew) HBD.out hX)⟩))
    have HCD := Lib.hid (show Cl w W0.drew [.string s.name, .slice F nf cf, .slice Q np cp, .string s.res.name, .slice Ar mr ar, .int .i64 s.res.off, .int .i64 s.off] 7 from hM.later (Below.refl _ _).drew)
    have CN := Lib.hid (fun (X : World) (hX : Below W0.drew.heap.size W0.drew X) => nms_at (k := nf) (by rw [List.length_map]; exact HFL.out) (bnames_any s.fs F nf cf X (by omega) (RowH.later HF.out (HCD.out.later hX).bel)))
    have CS := Lib.hid (fun (X : World) (NA : Option Addr) (nc : Nat) (hX : Below W0.drew.heap.size W0.drew X) (hc : nf ≤ nc) (hN : Sl X NA nf (s.fs.map Fo.name)) => (bsubst_any s [.string s.name, .slice F nf cf, .slice Q np cp, .string s.res.name, .slice Ar mr ar, .int .i64 s.res.off, .int .i64 s.off] s.names vs NA U nf nf nc uc X HWT.out HVS.out HUL.out ⟨hc, names_small (by have := HWT.out; omega)⟩ (Dat.H.later HIN.out (HCD.out.later hX).bel) hN (Here.later HU.out (HCD.out.later hX).bel)).mono fun e w' hp => hp.post (t := s.subst s.names vs) HNM.out ⟨by show (s.fs.map _).length ≤ _; rw [List.length_map]; have := HLL.out; omega, by show (s.ps.map _).length ≤ _; rw [List.length_map]; have := HLL.out; omega⟩)
    have SS := HSST.out W0.drew (Below.refl _ _)
    have HEQ := Lib.hid (show s.applied vs = s.subst s.names vs by rw [Sg.applied, if_pos (by omega)])
    have HBQ := Lib.hid (show (s.fs.length == vs.length) = true by simp; omega)
    clear hM hW0 h hf hp hfl hvl hlf hlp hw hvs hul hU hnm
    go_enter Tryd.func21, Tryd.ntmps21
    go_upto_region 1 with fail
    rw [HW0.out]
    clear HW0
    go_upto_region 3 with fail
    go_wp2_with fail
    refine wp_region_held_drew (S := fun V => V.cell? ⟨w.heap.size, 1, none⟩ = some (.slice F nf cf) ∧ CellsAt V ⟨w.heap.size, 0, none⟩ [.string s.name, .slice F nf cf, .slice Q np cp, .string s.res.name, .slice Ar mr ar, .int .i64 s.res.off, .int .i64 s.off]) (by kernel_rfl) SS (fun hS => ?_)
    clear SS x1
    generalize W0.drew = Wd at *
    refine wpAnyH_take (i := 0) (v := .agg ([.string s.name, .slice F nf cf, .slice Q np cp, .string s.res.name, .slice Ar mr ar, .int .i64 s.res.off, .int .i64 s.off] : List Value).toArray) rfl (by kernel_rfl) (by kernel_rfl) (by kernel_rfl) (fun _ _ _ h => h) (Or.inl ⟨by rfl, fun V hV => loadYieldB flatSg rfl hV.2 rfl⟩) (by assumption) ?_
    try simp only [Act.put, List.getElem_toArray, List.getElem_cons_zero, List.setIfInBounds_toArray, List.set_cons_zero, List.set_cons_succ]
    refine wpAnyH_take (i := 1) (v := ?_) rfl (by kernel_rfl) (by kernel_rfl) (by kernel_rfl) (fun _ _ _ h => h) (Or.inl ⟨by rfl, ?_⟩) (by assumption) ?_
    rotate_left
    · (intro V hV; go_simp; try with_reducible rfl)
    try simp only [Act.put, List.getElem_toArray, List.getElem_cons_zero, List.getElem_cons_succ, List.setIfInBounds_toArray, List.set_cons_zero, List.set_cons_succ]
    refine wpAnyH_take (i := 2) (v := ?_) rfl (by kernel_rfl) (by kernel_rfl) (by kernel_rfl) (fun _ _ _ h => h) (Or.inl ⟨by rfl, ?_⟩) (by assumption) ?_
    rotate_left
    · (intro V hV; obtain ⟨k0, _⟩ := hV; go_simp; try with_reducible rfl)
    try simp only [Act.put, List.getElem_toArray, List.getElem_cons_zero, List.getElem_cons_succ, List.setIfInBounds_toArray, List.set_cons_zero, List.set_cons_succ]
    refine wpAnyH_take (i := 4) (v := ?_) rfl (by kernel_rfl) (by kernel_rfl) (by kernel_rfl) (fun _ _ _ h => h) (Or.inl ⟨by rfl, ?_⟩) (by assumption) ?_
    rotate_left
    · (intro V hV; go_simp; try with_reducible rfl)
    try simp only [Act.put, List.getElem_toArray, List.getElem_cons_zero, List.getElem_cons_succ, List.setIfInBounds_toArray, List.set_cons_zero, List.set_cons_succ]
    refine wpAnyH_ready (rs := [3]) (by kernel_rfl) (by simp) ?_
    refine AllReadyH.cons rfl (fun K hK => ?_) (AllReadyH.nil)
    go_simp
    refine (CN.out Wd (Below.refl _ _)).mono ?_
    rintro e X1 ⟨NA, nc, rfl, hnc, hsl, hb1⟩
    have HNC := Lib.hid hnc
    have HSL := Lib.hid hsl
    have HB1 := Lib.hid hb1
    have SS := HSST.out X1 hb1
    clear hnc hsl hb1
    refine hK.out _ _ SS (fun hS => ?_)
    clear hK K SS
    try simp only [Act.put, List.getElem_toArray, List.getElem_cons_zero, List.getElem_cons_succ, List.setIfInBounds_toArray, List.set_cons_zero, List.set_cons_succ]
    refine wpAnyH_ready (rs := [5]) (by kernel_rfl) (by simp) ?_
    refine AllReadyH.cons rfl (fun K hK => ?_) (AllReadyH.nil)
    go_simp
    refine (CS.out X1 NA nc HB1.out HNC.out HSL.out).mono ?_
    rintro e X2 ⟨rs, rfl, hr, hb2⟩
    have HR := Lib.hid hr
    have HB2 := Lib.hid hb2
    have HRL := Lib.hid (show rs.length = 7 from (Dat.In.len _ _ hr).trans (Sg.dat_size _))
    have SS := HSST.out X2 (HB1.out.trans (hb2.mono HB1.out.size))
    clear hr hb2
    refine hK.out _ _ SS (fun hS => ?_)
    clear hK K SS
    try simp only [Act.put, List.getElem_toArray, List.getElem_cons_zero, List.getElem_cons_succ, List.setIfInBounds_toArray, List.set_cons_zero, List.set_cons_succ]
    refine wpAnyH_ready (rs := [6]) (by kernel_rfl) (by simp) ?_
    refine AllReadyH.cons rfl (fun K hK => ?_) (AllReadyH.nil)
    have HC2 := Lib.hid (HCD.out.later (HB1.out.trans (HB2.out.mono HB1.out.size)))
    refine ready_storeB flatSg rfl (.tmp 4) (.tmp 18) rfl (b := w.heap.size + 1) (off := 0) (us := rs) rfl rfl (by rw [HRL.out]; exact HC2.out.res) (sg_cells7 HR.out) HRL.out ?_
    have HBE := Lib.hid (below_cells (B := w.heap.size + 1) (g := w.heap.size + 1) (Nat.le_refl _) rs 0 X2)
    have SS : (X2.setCells (w.heap.size + 1) 0 rs).cell? ⟨w.heap.size, 1, none⟩ = some (.slice F nf cf) ∧ CellsAt (X2.setCells (w.heap.size + 1) 0 rs) ⟨w.heap.size, 0, none⟩ [.string s.name, .slice F nf cf, .slice Q np cp, .string s.res.name, .slice Ar mr ar, .int .i64 s.res.off, .int .i64 s.off] := ⟨(HBE.out.cell (p := ⟨w.heap.size, 1, none⟩) (Nat.lt_succ_self _)).trans hS.1, fun j u hu => (HBE.out.cell (p := (⟨w.heap.size, 0, none⟩ : Addr).add j) (by rw [block_of_add]; exact Nat.lt_succ_self _)).trans (hS.2 j u hu)⟩
    refine hK.out _ _ SS (fun hS => ?_)
    clear hK K SS
    try simp only [Act.put]
    refine wpAnyH_take (i := 7) (v := ?_) rfl (by kernel_rfl) (by kernel_rfl) (by kernel_rfl) (fun _ _ _ h => h) (Or.inl ⟨by rfl, ?_⟩) (by assumption) ?_
    rotate_left
    · (intro V hV; go_simp; try with_reducible rfl)
    try simp only [Act.put, List.getElem_toArray, List.getElem_cons_zero, List.getElem_cons_succ, List.setIfInBounds_toArray, List.set_cons_zero, List.set_cons_succ]
    refine wpAnyH_done (by kernel_rfl) ?_ _
    clear hS
    go_wp2_with fail
    refine bodyPost_ret (results_apply _ rfl rfl (show Boxd _ (w.heap.size + 1) rs from set_there (by rw [HRL.out]; exact HC2.out.res)) HRL.out) rfl ?_
    refine ⟨rs, by rw [HBQ.out]; rfl, ?_, HC2.out.bel.trans (HBE.out.mono (Nat.le_succ _))⟩
    rw [HEQ.out]
    have hbig := HCD.out.big
    have hx1 := HB1.out.size
    refine Dat.In.keep id (fun p hp => kept_of (S := Fresh X1 X2) (fun b hb => heap_setCells _ _ _ _ b (by have := hb.1; omega)) p hp) (fun b hb => ⟨by have := hb.1; omega, by rw [size_setCells_w]; exact hb.2⟩) _ _ HR.out
  · have e0 : (((nf : Int) != (ul : Int))) = true := by simp; omega
    have e1 : (!((nf : Int) == (ul : Int))) = true := by simp; omega
    have HEQ := Lib.hid (show s.applied vs = Sg.none? by rw [Sg.applied, if_neg (by omega)])
    have HBQ := Lib.hid (show (s.fs.length == vs.length) = false by simp; omega)
    have HT := Lib.hid hM.res
    clear hM hW0 h hf hp hfl hvl hlf hlp hw hvs hul hU hnm
    go_enter Tryd.func21, Tryd.ntmps21
    go_upto_region 1 with fail
    rw [HW0.out]
    clear HW0
    go_wp2_with (refine storeOp flatSg 4 12 (b := w.heap.size + 1) (o := 0) (us := [.string ⟨#[]⟩, .slice none 0 0, .slice none 0 0, .string ⟨#[]⟩, .slice none 0 0, .int .i64 0, .int .i64 0]) rfl rfl HT.out sg_one rfl ?_)
    refine bodyPost_ret (results_apply _ rfl rfl (show Boxd _ (w.heap.size + 1) [.string ⟨#[]⟩, .slice none 0 0, .slice none 0 0, .string ⟨#[]⟩, .slice none 0 0, .int .i64 0, .int .i64 0] from set_there HT.out) rfl) rfl ?_
    exact ⟨[.string ⟨#[]⟩, .slice none 0 0, .slice none 0 0, .string ⟨#[]⟩, .slice none 0 0, .int .i64 0, .int .i64 0], by rw [HBQ.out]; rfl, by rw [HEQ.out]; exact none_dat, HM.out.bel.trans (below_cells (Nat.le_succ _) _ _ _)⟩
end Go.Proofs.YtkdlidakdknhjaaDoor
