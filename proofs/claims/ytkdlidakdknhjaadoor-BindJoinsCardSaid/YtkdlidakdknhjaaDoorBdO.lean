/- The walk of the reference's Subst of signatures. The condition: few parts. -/
import Derived.Test.YtkdlidakdknhjaaDoorBdK
import Derived.Test.YtkdlidakdknhjaaDoorTyH
namespace Go.Proofs.YtkdlidakdknhjaaDoor
open Go.RowKit

theorem rtsubst_any (t : Ty) (us : List Value) (ns : List ByteArray) (vs : List Ty) (N U : Option Addr) (nl ul nc uc : Nat) (w : World) (hw : t.wt ≤ 1990) (hvs : ∀ v ∈ vs, v.Small) (hnl : nl ≤ 1000000) (h : t.dat.H w us) (hN : Sl w N nl ns) (hU : Here w U ul vs) :
    Calls Tryd.prog 61 #[.agg us.toArray, .slice N nl nc, .slice U ul uc] w (DPost w (t.subst ns vs).dat) := by
  obtain ⟨A, m, c, rfl, hn, hl⟩ := ty_open h
  refine (ref_subst_any ns vs N U nl ul nc uc t A m c w (fun u hu => by have := (hvs u hu).list; omega) hn (by have := Ty.list_wt t; omega) hnl hl hN hU).mono ?_
  rintro e w1 ⟨A1, m1, c1, rfl, hn1, hl1, hb⟩
  exact ⟨_, rfl, ty_shut hn1 hl1, hb⟩
theorem own_consB {W : World} {B n z : Nat} {e : TypeId} {v : Value} {cs : List Value} (h : W.ownsRow B e z v n cs) (hn : 0 < n) : ∃ g cap, v = .slice (some ⟨g, 0, none⟩) n cap := by
  rcases h.2 with ⟨_, h0⟩ | ⟨g, cap, _, rfl, _⟩
  · omega
  · exact ⟨g, cap, rfl⟩
/-- What lies ahead of a loop: a boxed struct of one's own; a row that is built, and its header in it. -/
structure OutB (Y wr : World) (ob : Nat) (e : TypeId) (us : List Value) (v : Value) (k : Nat) (ds : List Dat) : Prop where
  gb : Y.grownBy wr (some ob)
  box : Boxd wr ob us
  thr : wr.there ob 0 7
  row : Built wr False e 5 Y.heap.size v k ds
theorem OutB.below {Y wr : World} {ob k B : Nat} {e : TypeId} {us : List Value} {v : Value} {ds : List Dat} (h : OutB Y wr ob e us v k ds) (hB : B ≤ ob ∧ ob < Y.heap.size) : Below B Y wr :=
  ⟨h.gb.os, h.gb.tape, h.gb.output, h.gb.size, fun i hi => h.gb.block i (by omega) (fun e => by have := Option.some.inj e; omega)⟩
theorem out_step {Y wr w4 w6 : World} {ob k B : Nat} {e T : TypeId} {p r us : List Value} {v v6 : Value} {ds : List Dat} {d : Dat} {cs : List Value} {S : Nat → Prop} (h : OutB Y wr ob e (p ++ v :: r) v k ds) (hB : B ≤ ob ∧ ob < Y.heap.size)
    (h1 : wr.ownsRow Y.heap.size e 5 v k cs) (h2 : Dat.Ins wr False S ds cs) (h3 : ∀ x ∈ ds, x.size = 5) (h4 : ∀ b, S b → Y.heap.size ≤ b ∧ b < wr.heap.size ∧ v.ownBlock ≠ some b) (hb : Below wr.heap.size wr w4) (hd : d.In w4 False (fun b => wr.heap.size ≤ b ∧ b < w4.heap.size) us) (hz : d.size = 5) (hj : (p ++ v :: r).length = 7)
    (hA : Appd (w4.alloc (.cells us.toArray T)) w6 Y.heap.size e 5 k 1 v v6 cs us) :
    OutB Y (w6.setCell ⟨ob, p.length, none⟩ v6) ob e (p ++ v6 :: r) v6 (k + 1) (ds ++ [d]) ∧ w6.cell? ⟨ob, p.length, none⟩ = some v ∧ w6.frozen? ⟨ob, p.length, none⟩ = false := by
  have hgz := h.gb.size
  have hsz := hb.size
  have hz5 : (w4.alloc (.cells us.toArray T)).heap.size = w4.heap.size + 1 := by simp
  have hb5 : Below w4.heap.size w4 (w4.alloc (.cells us.toArray T)) := (Below.refl _ _).alloc (Nat.le_refl _) _
  have hvo : ∀ b, v.ownBlock = some b → Y.heap.size ≤ b ∧ b < wr.heap.size := fun b hv => ⟨own_base h1 b hv, (h1.lt b hv).2⟩
  obtain ⟨gg, cap, rfl⟩ : ∃ gg cap, v6 = .slice (some ⟨gg, 0, none⟩) (k + 1) cap := by
    rcases hA.own.2 with ⟨_, h0⟩ | ⟨g, cap, _, e, _⟩
    · omega
    · exact ⟨g, cap, e⟩
  have hat : v.ownBlock = some gg ∨ gg = w4.heap.size + 1 := by
    rcases hA.at_ with h5 | h5
    · exact .inl (h5 ▸ rfl)
    · rw [hz5] at h5
      exact .inr (Option.some.inj h5)
  have hst := Built.step (N := False) (T := T) (lo := Y.heap.size) (S1 := fun b => wr.heap.size ≤ b ∧ b < w4.heap.size) h1 h2 h3 h4 hb hd (fun b hb1 => ⟨by omega, hb1.2, fun e => by have := (hvo b e).2; omega⟩) hz hA.own hA.grow hat
  have h6 : ∀ b, b < Y.heap.size → w6.heap[b]? = wr.heap[b]? := fun b hbl => by
    rw [hA.grow.block b (by omega) (fun e => by have := (hvo b e.symm).1; omega), hb5.block b (by omega), hb.block b (by omega)]
  have k6 := kept_of (V := wr) (V' := w6) (S := (· < Y.heap.size)) h6
  have c6 : w6.cell? ⟨ob, p.length, none⟩ = some v := (k6 ⟨ob, p.length, none⟩ hB.2).1.trans (h.box p.length v (by simp))
  have hp7 : p.length < 7 := by simp only [List.length_append, List.length_cons] at hj; omega
  have f6 : w6.frozen? ⟨ob, p.length, none⟩ = false := (k6 ⟨ob, p.length, none⟩ hB.2).2.trans (by have := (h.thr p.length hp7).2; rwa [Nat.zero_add] at this)
  have hs6 : wr.heap.size ≤ w6.heap.size := by have := hA.grow.size; omega
  refine ⟨⟨?_, ?_, ?_, ?_⟩, c6, f6⟩
  · refine ⟨hA.grow.os.trans (hb5.os.trans (hb.os.trans h.gb.os)), hA.grow.tape.trans (hb5.tape.trans (hb.tape.trans h.gb.tape)), hA.grow.output.trans (hb5.output.trans (hb.output.trans h.gb.output)), by simp only [World.setCell, Array.size_modify]; omega, fun i hi hne => ?_⟩
    rw [Below.heap_setCell _ _ _ _ (fun e => hne (by rw [e])), h6 i hi]
    exact h.gb.block i hi hne
  · intro j u hu
    by_cases ej : j = p.length
    · subst ej
      have : u = .slice (some ⟨gg, 0, none⟩) (k + 1) cap := by simpa using hu.symm
      subst this
      exact World.cell?_setCell_same _ _ _ c6
    · rw [World.cell?_setCell_other _ _ _ _ (by intro h; injection h with _ h; exact ej h.symm), (k6 ⟨ob, j, none⟩ hB.2).1]
      refine h.box j u ?_
      rw [← hu]
      by_cases hl : j < p.length
      · rw [List.getElem?_append_left hl, List.getElem?_append_left hl]
      · rw [List.getElem?_append_right (by omega), List.getElem?_append_right (by omega)]
        obtain ⟨i, hi⟩ : ∃ i, j - p.length = i + 1 := ⟨j - p.length - 1, by omega⟩
        rw [hi]; simp
  · intro j hj7
    obtain ⟨a1, a2⟩ := h.thr j hj7
    obtain ⟨e1, e2⟩ := k6 ⟨ob, 0 + j, none⟩ hB.2
    refine ⟨?_, (World.frozen?_setCell _ _ _ _).trans (e2.trans a2)⟩
    rw [← e1] at a1
    exact World.isSome_setCells ob [.slice (some ⟨gg, 0, none⟩) (k + 1) cap] p.length w6 ⟨ob, 0 + j, none⟩ a1
  · obtain ⟨cs6, S6, i1, i2, i3, i4⟩ := hst
    exact ⟨cs6, S6, ownsRow_setCell_below i1 hB.2 _, Dat.Ins.keep id (fun p hp => kept_of (S := S6) (fun b hb6 => Below.heap_setCell _ _ _ _ (by have := (i4 b hb6).1; show b ≠ ob; omega)) p hp) (fun _ h => h) _ _ i2, i3, fun b hb6 => ⟨(i4 b hb6).1, by have := (i4 b hb6).2.1; simp only [World.setCell, Array.size_modify]; exact this, (i4 b hb6).2.2⟩⟩
/-- The row, when it is built. -/
theorem Built.rowx {V : World} {e : TypeId} {z lo k : Nat} {v : Value} {ds : List Dat} (h : Built V False e z lo v k ds) (hz : 0 < z) : RowX (fun b => lo ≤ b ∧ b < V.heap.size ∧ v.ownBlock ≠ some b) lo V k z v ds := by
  obtain ⟨cs, S, h1, h2, h3, h4⟩ := h
  have hsz : Dat.sizes ds = ds.length * z := sizes_all h3
  have hlen : ds.length = k := by
    have a1 := Dat.Ins.len ds cs h2
    have a2 := h1.1
    rw [a2, hsz] at a1
    exact (Nat.eq_of_mul_eq_mul_right hz a1).symm
  rcases h1.2 with ⟨rfl, h0⟩ | ⟨g, cap, cur, rfl, _⟩
  · subst h0
    exact .inl ⟨rfl, rfl, List.eq_nil_of_length_eq_zero hlen⟩
  · obtain ⟨a1, a2, a3⟩ := held_of_own h1
    exact .inr ⟨g, cap, cs, rfl, a2, a1, h2.wide h4, hlen, h3, a3⟩
/-- The struct that is returned, its rows not begun. -/
structure OutN (w W Z : World) (ob : Nat) (t : Ty) (us rs : List Value) : Prop where
  bel : Below w.heap.size w Z
  bel2 : Below W.heap.size W Z
  ob2 : w.heap.size + 2 ≤ ob ∧ W.heap.size ≤ ob ∧ ob < Z.heap.size
  box : Boxd Z ob us
  thr : Z.there ob 0 7
  res : t.dat.In Z False (fun b => w.heap.size + 2 ≤ b ∧ b < Z.heap.size ∧ b ≠ ob) rs
  sbx : Z.there (w.heap.size + 1) 0 7
theorem out_new {w W X Z : World} {ob : Nat} {t : Ty} {us rs zs : List Value} (hW : Cl w W zs 7) (hb : Below W.heap.size W Z) (hob : W.heap.size ≤ ob) (ht : X.there ob 0 7) (hZ : Z = X.setCells ob 0 us) (hl : us.length = 7) (hr : t.dat.In Z False (fun b => W.heap.size ≤ b ∧ b < Z.heap.size ∧ b ≠ ob) rs) : OutN w W Z ob t us rs := by
  have hbig := hW.big
  have hbox : Boxd Z ob us := by rw [hZ]; exact set_there (by rw [hl]; exact ht)
  refine ⟨hW.bel.trans (hb.mono hW.bel.size), hb, ⟨by omega, hob, ?_⟩, hbox, by rw [hZ]; exact World.there_setCells ht _ _ _, hr.wide fun b hb => ⟨by omega, hb.2⟩, there_later hW.res hb⟩
  obtain ⟨u, hu⟩ : ∃ u, us[0]? = some u := ⟨_, List.getElem?_eq_getElem (by omega)⟩
  exact cell_lt (hbox 0 u hu)
theorem results_rsubst {w : World} {b : Nat} {us : List Value} (tmps : Array Value) (ht : tmps[6]?.getD undef = .pointer (some ⟨b, 0, none⟩)) (hc : Boxd w b us) (hl : us.length = 7) : (results Tryd.f22 tmps).run Tryd.prog w = .ok (.agg us.toArray) w := by
  have h := run_loadVar_at w ⟨b, 0, none⟩ 28 us _ hc.at0 Tryd.underlying28 rfl (by rw [hl]; exact flatSg.size)
  have h2 : (asAddr (.pointer (some ⟨b, 0, none⟩))).run Tryd.prog w = .ok ⟨b, 0, none⟩ w := rfl
  simp [results, Tryd.results22, ht, h, h2, Sem.run_bind, Result.andThen]
set_option maxRecDepth 100000 in
set_option maxHeartbeats 16000000 in
theorem rsubst_any (s : Sg) (us : List Value) (ns : List ByteArray) (vs : List Ty) (N U : Option Addr) (nl ul nc uc : Nat) (w : World) (hw : s.wt ≤ 1000) (hvs : ∀ v ∈ vs, v.Small) (hnl : nl ≤ 1000000) (h : s.dat.H w us) (hN : Sl w N nl ns) (hU : Here w U ul vs) :
    Calls Tryd.prog 22 #[.agg us.toArray, .slice N nl nc, .slice U ul uc] w (SubW w (s.subst ns vs)) := by
  obtain ⟨F, nf, cf, Q, np, cp, Ar, mr, ar, rfl, _, hf, hp, hrn, hra⟩ := sg_open h
  have hfl := hf.len
  have hpl := hp.len
  rw [List.length_map] at hfl hpl
  have hlf := Sg.len_f s
  have hlp := Sg.len_p s
  have hM := Cl.new w #[.string s.name, .slice F nf cf, .slice Q np cp, .string s.res.name, .slice Ar mr ar, .int .i64 s.res.off, .int .i64 s.off] #[.string ⟨#[]⟩, .slice none 0 0, .slice none 0 0, .string ⟨#[]⟩, .slice none 0 0, .int .i64 0, .int .i64 0] 28
  obtain ⟨W0, hW0⟩ : ∃ W0, (w.alloc (.cells #[.string s.name, .slice F nf cf, .slice Q np cp, .string s.res.name, .slice Ar mr ar, .int .i64 s.res.off, .int .i64 s.off] 28)).alloc (.cells #[.string ⟨#[]⟩, .slice none 0 0, .slice none 0 0, .string ⟨#[]⟩, .slice none 0 0, .int .i64 0, .int .i64 0] 28) = W0 := ⟨_, rfl⟩
  rw [hW0] at hM
  have HW0 := Lib.hid hW0
  have HBW := Lib.hid (show Below w.heap.size w W0.drew from hM.bel.drew)
  have HWD := Lib.hid (show Cl w W0.drew [.string s.name, .slice F nf cf, .slice Q np cp, .string s.res.name, .slice Ar mr ar, .int .i64 s.res.off, .int .i64 s.off] 7 from hM.later (Below.refl _ _).drew)
  have HSB := Lib.hid (show Boxd W0.drew w.heap.size [.string s.name, .slice F nf cf, .slice Q np cp, .string s.res.name, .slice Ar mr ar, .int .i64 s.res.off, .int .i64 s.off] from hM.box.box)
  have HFR := Lib.hid hf
  have HPR := Lib.hid hp
  have HFL := Lib.hid hfl
  have HPL := Lib.hid hpl
  have HWT := Lib.hid hw
  have HVS := Lib.hid hvs
  have HNL := Lib.hid hnl
  have HN := Lib.hid hN
  have HU := Lib.hid hU
  have hni : (nf : Int) ≤ 1000 := by omega
  have hnpi : (np : Int) ≤ 1000 := by omega
  have CS := Lib.hid (fun (X : World) (hX : Below W0.drew.heap.size W0.drew X) => rtsubst_any s.res [.string s.res.name, .slice Ar mr ar, .int .i64 s.res.off] ns vs N U nl ul nc uc X (by have := Sg.wt_res (s := s); omega) hvs hnl (Dat.H.later (ty_shut hrn hra) (HBW.out.trans (hX.mono HBW.out.size))) (hN.later (HBW.out.trans (hX.mono HBW.out.size))) (Here.later hU (HBW.out.trans (hX.mono HBW.out.size))))
  have HSST := Lib.hid (fun (X : World) (hX : Below W0.drew.heap.size W0.drew X) => (show X.cell? ⟨w.heap.size, 0, none⟩ = some (.string s.name) ∧ X.cell? ⟨w.heap.size, 6, none⟩ = some (.int .i64 s.off) ∧ CellsAt X ⟨w.heap.size, 3, none⟩ [.string s.res.name, .slice Ar mr ar, .int .i64 s.res.off] from ⟨(HSB.out.later hX) 0 _ rfl, (HSB.out.later hX) 6 _ rfl, cells_mid (p := [.string s.name, .slice F nf cf, .slice Q np cp]) (us := [.string s.res.name, .slice Ar mr ar, .int .i64 s.res.off]) (r := [.int .i64 s.off]) (HSB.out.later hX)⟩))
  have SS := HSST.out W0.drew (Below.refl _ _)
  clear hM hW0 h hf hp hfl hpl hlf hlp hw hvs hnl hN hU hrn hra
  go_enter Tryd.func22, Tryd.ntmps22
  go_upto_region 1 with fail
  rw [HW0.out]
  clear HW0
  go_cut [7] (fun s7 wx => ∃ ob At mt at1, s7 = .pointer (some ⟨ob, 0, none⟩) ∧ OutN w W0.drew wx ob (s.res.subst ns vs) [.string s.name, .slice none 0 0, .slice none 0 0, .string (s.res.subst ns vs).name, .slice At mt at1, .int .i64 (s.res.subst ns vs).off, .int .i64 s.off] [.string (s.res.subst ns vs).name, .slice At mt at1, .int .i64 (s.res.subst ns vs).off])
  case first =>
    go_wp2_with fail
    refine wp_region_held_drew (S := fun V => V.cell? ⟨w.heap.size, 0, none⟩ = some (.string s.name) ∧ V.cell? ⟨w.heap.size, 6, none⟩ = some (.int .i64 s.off) ∧ CellsAt V ⟨w.heap.size, 3, none⟩ [.string s.res.name, .slice Ar mr ar, .int .i64 s.res.off]) (by kernel_rfl) SS (fun hS => ?_)
    clear SS
    generalize W0.drew = Wd at *
    have HBWd := Lib.hid (Below.refl Wd.heap.size Wd)
    refine wpAnyH_take (i := 0) (v := ?_) rfl (by kernel_rfl) (by kernel_rfl) (by kernel_rfl) (fun _ _ _ h => h) (Or.inl ⟨by rfl, ?_⟩) (by assumption) ?_
    rotate_left
    · (intro V hV; go_simp; try with_reducible rfl)
    try simp only [Act.put, List.getElem_toArray, List.getElem_cons_zero, List.setIfInBounds_toArray, List.set_cons_zero, List.set_cons_succ]
    refine wpAnyH_take (i := 1) (v := ?_) rfl (by kernel_rfl) (by kernel_rfl) (by kernel_rfl) (fun _ _ _ h => h) (Or.inl ⟨by rfl, ?_⟩) (by assumption) ?_
    rotate_left
    · (intro V hV; obtain ⟨k0, k6, _⟩ := hV; go_simp; try with_reducible rfl)
    try simp only [Act.put, List.getElem_toArray, List.getElem_cons_zero, List.getElem_cons_succ, List.setIfInBounds_toArray, List.set_cons_zero, List.set_cons_succ]
    refine wpAnyH_take (i := 2) (v := ?_) rfl (by kernel_rfl) (by kernel_rfl) (by kernel_rfl) (fun _ _ _ h => h) (Or.inl ⟨by rfl, ?_⟩) (by assumption) ?_
    rotate_left
    · (intro V hV; go_simp; try with_reducible rfl)
    try simp only [Act.put, List.getElem_toArray, List.getElem_cons_zero, List.getElem_cons_succ, List.setIfInBounds_toArray, List.set_cons_zero, List.set_cons_succ]
    refine wpAnyH_take (i := 3) (v := ?_) rfl (by kernel_rfl) (by kernel_rfl) (by kernel_rfl) (fun _ _ _ h => h) (Or.inl ⟨by rfl, ?_⟩) (by assumption) ?_
    rotate_left
    · (intro V hV; obtain ⟨k0, k6, _⟩ := hV; go_simp; try with_reducible rfl)
    try simp only [Act.put, List.getElem_toArray, List.getElem_cons_zero, List.getElem_cons_succ, List.setIfInBounds_toArray, List.set_cons_zero, List.set_cons_succ]
    refine wpAnyH_take (i := 4) (v := ?_) rfl (by kernel_rfl) (by kernel_rfl) (by kernel_rfl) (fun _ _ _ h => h) (Or.inl ⟨by rfl, ?_⟩) (by assumption) ?_
    rotate_left
    · (intro V hV; go_simp; try with_reducible rfl)
    try simp only [Act.put, List.getElem_toArray, List.getElem_cons_zero, List.getElem_cons_succ, List.setIfInBounds_toArray, List.set_cons_zero, List.set_cons_succ]
    refine wpAnyH_take (i := 5) (v := .agg ([.string s.res.name, .slice Ar mr ar, .int .i64 s.res.off] : List Value).toArray) rfl (by kernel_rfl) (by kernel_rfl) (by kernel_rfl) (fun _ _ _ h => h) (Or.inl ⟨by rfl, fun V hV => loadYieldB flatTy3 rfl hV.2.2 rfl⟩) (by assumption) ?_
    try simp only [Act.put, List.getElem_toArray, List.getElem_cons_zero, List.getElem_cons_succ, List.setIfInBounds_toArray, List.set_cons_zero, List.set_cons_succ]
    refine wpAnyH_take (i := 6) (v := ?_) rfl (by kernel_rfl) (by kernel_rfl) (by kernel_rfl) (fun _ _ _ h => h) (Or.inl ⟨by rfl, ?_⟩) (by assumption) ?_
    rotate_left
    · (intro V hV; go_simp; try with_reducible rfl)
    try simp only [Act.put, List.getElem_toArray, List.getElem_cons_zero, List.getElem_cons_succ, List.setIfInBounds_toArray, List.set_cons_zero, List.set_cons_succ]
    refine wpAnyH_take (i := 7) (v := ?_) rfl (by kernel_rfl) (by kernel_rfl) (by kernel_rfl) (fun _ _ _ h => h) (Or.inl ⟨by rfl, ?_⟩) (by assumption) ?_
    rotate_left
    · (intro V hV; go_simp; try with_reducible rfl)
    try simp only [Act.put, List.getElem_toArray, List.getElem_cons_zero, List.getElem_cons_succ, List.setIfInBounds_toArray, List.set_cons_zero, List.set_cons_succ]
    refine wpAnyH_ready (rs := [8, 10]) (by kernel_rfl) (by simp) ?_
    refine AllReadyH.cons rfl (fun K hK => ?_) (AllReadyH.cons rfl (fun K hK => ?_) (AllReadyH.nil))
    · skip
      go_simp
      refine (CS.out Wd HBWd.out).mono ?_
      rintro e X1 ⟨us, rfl, hr, hb⟩
      obtain ⟨At, mt, at1, rfl, _⟩ := ty_open hr
      have HR := Lib.hid hr
      have HBq := Lib.hid hb
      clear hr hb
      have HBX1 := Lib.hid (HBWd.out.trans (HBq.out.mono HBWd.out.size))
      have SS := HSST.out X1 HBX1.out
      refine hK.out _ _ SS (fun hS => ?_)
      clear hK K SS
      try simp only [Act.put, List.getElem_toArray, List.getElem_cons_zero, List.getElem_cons_succ, List.setIfInBounds_toArray, List.set_cons_zero, List.set_cons_succ]
      refine wpAnyH_take (i := 9) (v := ?_) rfl (by kernel_rfl) (by kernel_rfl) (by kernel_rfl) (fun _ _ _ h => h) (Or.inl ⟨by rfl, ?_⟩) (by assumption) ?_
      rotate_left
      · (intro V hV; go_simp; try with_reducible rfl)
      try simp only [Act.put, List.getElem_toArray, List.getElem_cons_zero, List.getElem_cons_succ, List.setIfInBounds_toArray, List.set_cons_zero, List.set_cons_succ]
      refine wpAnyH_ready (rs := [10]) (by kernel_rfl) (by simp) ?_
      refine AllReadyH.cons rfl (fun K hK => ?_) (AllReadyH.nil)
      go_simp
      obtain ⟨X2, hX2⟩ : ∃ X, World.alloc X1 (.cells #[.string ⟨#[]⟩, .slice none 0 0, .slice none 0 0, .string ⟨#[]⟩, .slice none 0 0, .int .i64 0, .int .i64 0] 28) = X := ⟨_, rfl⟩
      have HBq := Lib.hid (show Below X1.heap.size X1 X2 from hX2 ▸ (Below.refl _ _).alloc (Nat.le_refl _) _)
      have HCT := Lib.hid (show X2.there X1.heap.size 0 7 from hX2 ▸ there_new X1 #[.string ⟨#[]⟩, .slice none 0 0, .slice none 0 0, .string ⟨#[]⟩, .slice none 0 0, .int .i64 0, .int .i64 0] 28)
      have HCZ := Lib.hid (show X2.heap.size = X1.heap.size + 1 by rw [← hX2]; simp)
      rw [hX2]
      clear hX2
      have HBX2 := Lib.hid (HBX1.out.trans (HBq.out.mono HBX1.out.size))
      have SS := HSST.out X2 HBX2.out
      refine hK.out _ _ SS (fun hS => ?_)
      clear hK K SS
      try simp only [Act.put, List.getElem_toArray, List.getElem_cons_zero, List.getElem_cons_succ, List.setIfInBounds_toArray, List.set_cons_zero, List.set_cons_succ]
      refine wpAnyH_ready (rs := [11]) (by kernel_rfl) (by simp) ?_
      refine AllReadyH.cons rfl (fun K hK => ?_) (AllReadyH.nil)
      refine ready_storeB flatSg rfl (.tmp 7) (.tmp 21) rfl (b := X1.heap.size) (off := 0) (us := [.string s.name, .slice none 0 0, .slice none 0 0, .string (s.res.subst ns vs).name, .slice At mt at1, .int .i64 (s.res.subst ns vs).off, .int .i64 s.off]) rfl rfl HCT.out sg_one rfl ?_
      have HZB := Lib.hid (below_cells (B := Wd.heap.size) (g := X1.heap.size) HBX1.out.size [.string s.name, .slice none 0 0, .slice none 0 0, .string (s.res.subst ns vs).name, .slice At mt at1, .int .i64 (s.res.subst ns vs).off, .int .i64 s.off] 0 X2)
      have SS := HSST.out _ (HBX2.out.trans HZB.out)
      refine hK.out _ _ SS (fun hS => ?_)
      clear hK K SS
      try simp only [Act.put]
      refine wpAnyH_done (by kernel_rfl) ?_ _
      clear hS
      have HRZ := Lib.hid (show (s.res.subst ns vs).dat.In (X2.setCells X1.heap.size 0 [.string s.name, .slice none 0 0, .slice none 0 0, .string (s.res.subst ns vs).name, .slice At mt at1, .int .i64 (s.res.subst ns vs).off, .int .i64 s.off]) False (fun b => Wd.heap.size ≤ b ∧ b < X2.heap.size ∧ b ≠ X1.heap.size) _ from (Dat.In.keep id (fun p hp => kept_of (S := fun b => Wd.heap.size ≤ b ∧ b < X1.heap.size) (fun b hb => (heap_setCells _ _ _ _ b (by have := hb.2; omega)).trans (HBq.out.block b hb.2)) p hp) (fun _ h => h) _ _ HR.out).wide fun b hb => ⟨hb.1, by have := hb.2; have := HBq.out.size; omega, by have := hb.2; omega⟩)
      have HOB := Lib.hid (out_new (Z := X2.setCells X1.heap.size 0 [.string s.name, .slice none 0 0, .slice none 0 0, .string (s.res.subst ns vs).name, .slice At mt at1, .int .i64 (s.res.subst ns vs).off, .int .i64 s.off]) (us := [.string s.name, .slice none 0 0, .slice none 0 0, .string (s.res.subst ns vs).name, .slice At mt at1, .int .i64 (s.res.subst ns vs).off, .int .i64 s.off]) HWD.out (HBX2.out.trans HZB.out) HBX1.out.size HCT.out rfl rfl (HRZ.out.wide fun b hb => ⟨hb.1, by rw [size_setCells_w]; exact hb.2.1, hb.2.2⟩))
      go_wp2_with fail
      go_meet
      exact ⟨_, _, _, _, rfl, HOB.out⟩
    · skip
      go_simp
      obtain ⟨X1, hX1⟩ : ∃ X, World.alloc Wd (.cells #[.string ⟨#[]⟩, .slice none 0 0, .slice none 0 0, .string ⟨#[]⟩, .slice none 0 0, .int .i64 0, .int .i64 0] 28) = X := ⟨_, rfl⟩
      have HBq := Lib.hid (show Below Wd.heap.size Wd X1 from hX1 ▸ (Below.refl _ _).alloc (Nat.le_refl _) _)
      have HCT := Lib.hid (show X1.there Wd.heap.size 0 7 from hX1 ▸ there_new Wd #[.string ⟨#[]⟩, .slice none 0 0, .slice none 0 0, .string ⟨#[]⟩, .slice none 0 0, .int .i64 0, .int .i64 0] 28)
      have HCZ := Lib.hid (show X1.heap.size = Wd.heap.size + 1 by rw [← hX1]; simp)
      rw [hX1]
      clear hX1
      have HBX1 := Lib.hid (HBWd.out.trans (HBq.out.mono HBWd.out.size))
      have SS := HSST.out X1 HBX1.out
      refine hK.out _ _ SS (fun hS => ?_)
      clear hK K SS
      try simp only [Act.put, List.getElem_toArray, List.getElem_cons_zero, List.getElem_cons_succ, List.setIfInBounds_toArray, List.set_cons_zero, List.set_cons_succ]
      refine wpAnyH_ready (rs := [8]) (by kernel_rfl) (by simp) ?_
      refine AllReadyH.cons rfl (fun K hK => ?_) (AllReadyH.nil)
      go_simp
      refine (CS.out X1 HBX1.out).mono ?_
      rintro e X2 ⟨us, rfl, hr, hb⟩
      obtain ⟨At, mt, at1, rfl, _⟩ := ty_open hr
      have HR := Lib.hid hr
      have HBq := Lib.hid hb
      clear hr hb
      have HCT := Lib.hid (there_later HCT.out HBq.out)
      have HBX2 := Lib.hid (HBX1.out.trans (HBq.out.mono HBX1.out.size))
      have SS := HSST.out X2 HBX2.out
      refine hK.out _ _ SS (fun hS => ?_)
      clear hK K SS
      try simp only [Act.put, List.getElem_toArray, List.getElem_cons_zero, List.getElem_cons_succ, List.setIfInBounds_toArray, List.set_cons_zero, List.set_cons_succ]
      refine wpAnyH_take (i := 9) (v := ?_) rfl (by kernel_rfl) (by kernel_rfl) (by kernel_rfl) (fun _ _ _ h => h) (Or.inl ⟨by rfl, ?_⟩) (by assumption) ?_
      rotate_left
      · (intro V hV; go_simp; try with_reducible rfl)
      try simp only [Act.put, List.getElem_toArray, List.getElem_cons_zero, List.getElem_cons_succ, List.setIfInBounds_toArray, List.set_cons_zero, List.set_cons_succ]
      refine wpAnyH_ready (rs := [11]) (by kernel_rfl) (by simp) ?_
      refine AllReadyH.cons rfl (fun K hK => ?_) (AllReadyH.nil)
      refine ready_storeB flatSg rfl (.tmp 7) (.tmp 21) rfl (b := Wd.heap.size) (off := 0) (us := [.string s.name, .slice none 0 0, .slice none 0 0, .string (s.res.subst ns vs).name, .slice At mt at1, .int .i64 (s.res.subst ns vs).off, .int .i64 s.off]) rfl rfl HCT.out sg_one rfl ?_
      have HZB := Lib.hid (below_cells (B := Wd.heap.size) (g := Wd.heap.size) HBWd.out.size [.string s.name, .slice none 0 0, .slice none 0 0, .string (s.res.subst ns vs).name, .slice At mt at1, .int .i64 (s.res.subst ns vs).off, .int .i64 s.off] 0 X2)
      have SS := HSST.out _ (HBX2.out.trans HZB.out)
      refine hK.out _ _ SS (fun hS => ?_)
      clear hK K SS
      try simp only [Act.put]
      refine wpAnyH_done (by kernel_rfl) ?_ _
      clear hS
      have HRZ := Lib.hid (show (s.res.subst ns vs).dat.In (X2.setCells Wd.heap.size 0 [.string s.name, .slice none 0 0, .slice none 0 0, .string (s.res.subst ns vs).name, .slice At mt at1, .int .i64 (s.res.subst ns vs).off, .int .i64 s.off]) False (fun b => Wd.heap.size ≤ b ∧ b < X2.heap.size ∧ b ≠ Wd.heap.size) _ from (Dat.In.keep id (fun p hp => kept_of (S := fun b => X1.heap.size ≤ b ∧ b < X2.heap.size) (fun b hb => heap_setCells _ _ _ _ b (by have := hb.1; have := HCZ.out; omega)) p hp) (fun _ h => h) _ _ HR.out).wide fun b hb => ⟨by have := hb.1; have := HCZ.out; omega, hb.2, by have := hb.1; have := HCZ.out; omega⟩)
      have HOB := Lib.hid (out_new (Z := X2.setCells Wd.heap.size 0 [.string s.name, .slice none 0 0, .slice none 0 0, .string (s.res.subst ns vs).name, .slice At mt at1, .int .i64 (s.res.subst ns vs).off, .int .i64 s.off]) (us := [.string s.name, .slice none 0 0, .slice none 0 0, .string (s.res.subst ns vs).name, .slice At mt at1, .int .i64 (s.res.subst ns vs).off, .int .i64 s.off]) HWD.out (HBX2.out.trans HZB.out) HBWd.out.size HCT.out rfl rfl (HRZ.out.wide fun b hb => ⟨hb.1, by rw [size_setCells_w]; exact hb.2.1, hb.2.2⟩))
      go_wp2_with fail
      go_meet
      exact ⟨_, _, _, _, rfl, HOB.out⟩
  case rest =>
    obtain ⟨ob, At, mt, at1, rfl, hon⟩ := hcut
    generalize wc = Y1 at *
    have HON := Lib.hid hon
    have HBY := Lib.hid hon.bel2
    have HOBL := Lib.hid hon.ob2.2
    have HO1 := Lib.hid (show OutB Y1 Y1 ob 48 ([.string s.name] ++ .slice none 0 0 :: [.slice none 0 0, .string (s.res.subst ns vs).name, .slice At mt at1, .int .i64 (s.res.subst ns vs).off, .int .i64 s.off]) (.slice none 0 0) 0 (((s.fs.take 0).map (Fo.mapT (Ty.subst ns vs))).map Fo.dat) from ⟨gb_reflB _ _, hon.box, hon.thr, Built.nil _ _ _ _ _⟩)
    clear hon SS
    go_wp2_with fail
    go_loopw [8] (fun i wr => ∃ (k : Nat) (v : Value), k ≤ nf ∧ i = .int .i64 k ∧ OutB Y1 wr ob 48 ([.string s.name] ++ v :: [.slice none 0 0, .string (s.res.subst ns vs).name, .slice At mt at1, .int .i64 (s.res.subst ns vs).off, .int .i64 s.off]) v k (((s.fs.take k).map (Fo.mapT (Ty.subst ns vs))).map Fo.dat)) (fun i _ => nf - (intOf i).toNat)
    case atStart => exact ⟨0, .slice none 0 0, by omega, rfl, HO1.out⟩
    case round =>
      obtain ⟨k, v, hk, rfl, ho⟩ := hrel
      have HOO := Lib.hid ho
      have y1 : (0 : Int) ≤ k := by omega
      have hbel := HBY.out.trans (ho.below HOBL.out)
      have HBL := Lib.hid hbel
      have b1 := (HSB.out.later hbel) 1 _ rfl
      by_cases hlt : k < nf
      · have y0 : (k : Int) < nf := by omega
        obtain ⟨pu, x, ps, rfl, hx, _, _, hu, hcs⟩ := dat_at (RowH.later HFR.out (HBW.out.trans (hbel.mono HBW.out.size))) hlt
        obtain ⟨B, m, a, rfl, hn, ht, ha⟩ := fo_open hu
        obtain ⟨A0, c0, rfl⟩ : ∃ A0 c0, v = .slice A0 k c0 := by obtain ⟨cs, S, h1, _⟩ := ho.row; exact own_sl h1
        obtain ⟨cs, S, h1, h2, h3, h4⟩ := ho.row
        obtain ⟨W1, hP⟩ := putZ #[.string ⟨#[]⟩, .string ⟨#[]⟩, .slice none 0 0, .int .i64 0, .int .i64 0] 48 wr (us := [.string x.name, .string x.ty.name, .slice B m a, .int .i64 x.ty.off, .int .i64 x.off]) rfl
        have C := Lib.hid (show Calls Tryd.prog 61 #[.agg #[.string x.ty.name, .slice B m a, .int .i64 x.ty.off], .slice N nl nc, .slice U ul uc] W1 (DPost W1 (x.ty.subst ns vs).dat) from rtsubst_any x.ty [.string x.ty.name, .slice B m a, .int .i64 x.ty.off] ns vs N U nl ul nc uc W1 (by have := Sg.wt_f (s := s) (List.mem_of_getElem? hx); have := Fo.wt_ty (f := x); have := HWT.out; omega) HVS.out HNL.out (Dat.H.later (ty_shut ht ha) hP.bel) (HN.out.later (HBW.out.trans ((hbel.trans (hP.bel.mono hbel.size)).mono HBW.out.size))) (Here.later HU.out (HBW.out.trans ((hbel.trans (hP.bel.mono hbel.size)).mono HBW.out.size))))
        have HX := Lib.hid hx
        have HNM := Lib.hid hn
        have HFC := Lib.hid hcs
        have HP := Lib.hid hP
        have HBM := Lib.hid (boxd_mid hP.box)
        have HOWN := Lib.hid h1
        have HINS := Lib.hid h2
        have HSZ := Lib.hid h3
        have HSS := Lib.hid h4
        have HTM := Lib.hid (show W1.there wr.heap.size 0 5 from by
          rw [← hP.eq]
          exact World.there_setCells hP.there _ _ _)
        clear hx hn hu hcs ht ha hP h1 h2 h3 h4 ho hbel
        go_wp2_with (first
          | (refine loadOp flatFo 32 33 rfl HFC.out rfl ?_)
          | (refine storeOp flatFo 9 33 (b := wr.heap.size) (o := 0) (us := [.string x.name, .string x.ty.name, .slice B m a, .int .i64 x.ty.off, .int .i64 x.off]) rfl rfl HP.out.there five_oneB rfl ?_; rw [HP.out.eq])
          | (refine loadOp flatTy3 34 35 rfl HBM.out rfl ?_))
        refine C.out.mono ?_
        rintro e w3 ⟨us9, rfl, hr9, hb9⟩
        obtain ⟨B9, m9, a9, rfl, _⟩ := ty_open hr9
        have hT3 : w3.there wr.heap.size 1 3 := fun j hj => by
          have := (there_later HTM.out hb9) (1 + j) (by omega)
          rwa [Nat.zero_add] at this
        obtain ⟨w4, hw4⟩ : ∃ w4, w3.setCells wr.heap.size 1 [.string (x.ty.subst ns vs).name, .slice B9 m9 a9, .int .i64 (x.ty.subst ns vs).off] = w4 := ⟨_, rfl⟩
        have hbx4 : Boxd w4 wr.heap.size [.string x.name, .string (x.ty.subst ns vs).name, .slice B9 m9 a9, .int .i64 (x.ty.subst ns vs).off, .int .i64 x.off] := by
          have h0 := HP.out.box.later hb9
          rw [← hw4]
          intro j u hu
          match j, hu with
          | 0, hu => rw [World.cell?_setCells_out _ _ _ _ _ (fun _ _ => .inl (by show 0 < 1; omega))]; exact h0 0 u hu
          | 1, hu => exact World.rangeAt_setCells_same w3 wr.heap.size 1 [.string (x.ty.subst ns vs).name, .slice B9 m9 a9, .int .i64 (x.ty.subst ns vs).off] hT3 0 u hu
          | 2, hu => exact World.rangeAt_setCells_same w3 wr.heap.size 1 [.string (x.ty.subst ns vs).name, .slice B9 m9 a9, .int .i64 (x.ty.subst ns vs).off] hT3 1 u hu
          | 3, hu => exact World.rangeAt_setCells_same w3 wr.heap.size 1 [.string (x.ty.subst ns vs).name, .slice B9 m9 a9, .int .i64 (x.ty.subst ns vs).off] hT3 2 u hu
          | 4, hu => rw [World.cell?_setCells_out _ _ _ _ _ (fun _ _ => .inr (by simp))]; exact h0 4 u hu
          | j + 5, hu => simp at hu
        have hb4 : Below wr.heap.size wr w4 := hw4 ▸ (HP.out.bel.trans (hb9.mono HP.out.bel.size)).trans (below_cells (Nat.le_refl _) _ _ _)
        have hwz : wr.heap.size < W1.heap.size := Boxd.lt HP.out.box
        have hd4 : (Fo.mapT (Ty.subst ns vs) x).dat.In w4 False (fun b => wr.heap.size ≤ b ∧ b < w4.heap.size) [.string x.name, .string (x.ty.subst ns vs).name, .slice B9 m9 a9, .int .i64 (x.ty.subst ns vs).off, .int .i64 x.off] := foMk (f := Fo.mapT (Ty.subst ns vs) x) (v := [.string (x.ty.subst ns vs).name, .slice B9 m9 a9, .int .i64 (x.ty.subst ns vs).off]) HNM.out (by
          rw [← hw4]
          refine (Dat.In.keep id (fun p hp => kept_of (S := Fresh W1 w3) (fun b hb => heap_setCells _ _ _ _ b (by have := hb.1; omega)) p hp) (fun _ h => h) _ _ hr9).wide fun b hb => ⟨by have := hb.1; omega, by rw [size_setCells_w]; exact hb.2⟩)
        have hb5 : Below w4.heap.size w4 (w4.alloc (.cells #[.string x.name, .string (x.ty.subst ns vs).name, .slice B9 m9 a9, .int .i64 (x.ty.subst ns vs).off, .int .i64 x.off] 48)) := (Below.refl _ _).alloc (Nat.le_refl _) _
        have HOW5 := Lib.hid (own_below (own_below HOWN.out hb4) hb5)
        have HC5 := Lib.hid (show CellsAt (w4.alloc (.cells #[.string x.name, .string (x.ty.subst ns vs).name, .slice B9 m9 a9, .int .i64 (x.ty.subst ns vs).off, .int .i64 x.off] 48)) ⟨w4.heap.size, 0, none⟩ [.string x.name, .string (x.ty.subst ns vs).name, .slice B9 m9 a9, .int .i64 (x.ty.subst ns vs).off, .int .i64 x.off] from (Boxd.new w4 #[.string x.name, .string (x.ty.subst ns vs).name, .slice B9 m9 a9, .int .i64 (x.ty.subst ns vs).off, .int .i64 x.off] 48).at0)
        have HT3 := Lib.hid hT3
        have HOV := Lib.hid (ty_cells hr9)
        have HW4 := Lib.hid hw4
        have HB4 := Lib.hid hb4
        have HB5 := Lib.hid hb5
        have HD4 := Lib.hid hd4
        have HBX4 := Lib.hid (boxd_at0B hbx4)
        have HSTP := Lib.hid (fun v6 w6 hA => out_step (T := 48) (p := [.string s.name]) (r := [.slice none 0 0, .string (s.res.subst ns vs).name, .slice At mt at1, .int .i64 (s.res.subst ns vs).off, .int .i64 s.off]) (d := (Fo.mapT (Ty.subst ns vs) x).dat) (us := [.string x.name, .string (x.ty.subst ns vs).name, .slice B9 m9 a9, .int .i64 (x.ty.subst ns vs).off, .int .i64 x.off]) HOO.out HOBL.out HOWN.out HINS.out HSZ.out HSS.out HB4.out HD4.out (Fo.dat_size _) rfl (v6 := v6) (w6 := w6) hA)
        have HBXW := Lib.hid (HOO.out.box.later hb4)
        have z1 : (w4.alloc (.cells #[.string x.name, .string (x.ty.subst ns vs).name, .slice B9 m9 a9, .int .i64 (x.ty.subst ns vs).off, .int .i64 x.off] 48)).cell? ⟨ob, 1, none⟩ = some (.slice A0 k c0) := (hb5.cell (cell_lt (HBXW.out 1 _ rfl))).trans (HBXW.out 1 _ rfl)
        have z0 : w4.cell? ⟨ob, 1, none⟩ = some (.slice A0 k c0) := HBXW.out 1 _ rfl
        have HTB := Lib.hid (show wr.frozen? ⟨ob, 1, none⟩ = false from by have := (HOO.out.thr 1 (by omega)).2; rwa [Nat.zero_add] at this)
        clear hr9 hb9 hT3 hw4 hbx4 hb4 hwz hd4 hb5 C
        go_upto_region 7 with (refine storeOp flatTy3 39 38 (b := wr.heap.size) (o := 1) (us := [.string (x.ty.subst ns vs).name, .slice B9 m9 a9, .int .i64 (x.ty.subst ns vs).off]) rfl rfl HT3.out HOV.out rfl ?_; rw [HW4.out])
        go_wp2_with (first
          | (refine loadOp flatFo 9 42 rfl HBX4.out rfl ?_)
          | (at_builtin; refine wpList_append_row slFoB rfl _ _ rfl rfl rfl HOW5.out (by have := HB5.out.size; have := HB4.out.size; have := HOO.out.gb.size; omega) (m := 1) rfl (fun a ha j u hu => by obtain rfl := Option.some.inj ha; exact HC5.out j u hu) five_oneB (fun _ => ⟨_, rfl⟩) (by omega) (by omega) ?_; intro v6 w6 hA; obtain ⟨gg, cap, rfl⟩ := own_consB hA.own (by omega); obtain ⟨hstp, z6, f6⟩ := HSTP.out _ w6 hA; have HNX := Lib.hid hstp; have z7 : w6.cell? ⟨ob, 1, none⟩ = some (.slice A0 k c0) := z6; have f7 : w6.frozen? ⟨ob, 1, none⟩ = false := f6; clear hstp hA))
        go_roundw
        case rel => exact ⟨k + 1, .slice (some ⟨gg, 0, none⟩) (k + 1) cap, by omega, by go_num, by rw [Ex.take_at HX.out, List.map_append, List.map_append]; exact HNX.out⟩
        case measure => simp [intOf]; omega
      · have y0 : (nf : Int) ≤ k := by omega
        have hkn : nf = k := by omega
        subst hkn
        have HB1Y := Lib.hid hbel
        have HF1 := Lib.hid (ho.row.rowx (by omega))
        have HG1 := Lib.hid ho.gb
        have e1 : (((s.fs.take nf).map (Fo.mapT (Ty.subst ns vs))).map Fo.dat) = ((s.subst ns vs).fs.map Fo.dat) := by rw [List.take_of_length_le (by have := HFL.out; omega)]; rfl
        rw [e1] at HF1
        obtain ⟨AF, cF, rfl⟩ : ∃ AF cF, v = .slice AF nf cF := by obtain ⟨cs, S, h1, _⟩ := ho.row; exact own_sl h1
        have HVF := Lib.hid (show ∀ b, (Value.slice AF nf cF).ownBlock = some b → Y1.heap.size ≤ b ∧ b < wr.heap.size from fun b hb => by obtain ⟨cs, S, h1, _⟩ := ho.row; exact ⟨own_base h1 b hb, (h1.lt b hb).2⟩)
        have HOB2 := Lib.hid (show W0.drew.heap.size ≤ ob ∧ ob < wr.heap.size from ⟨HOBL.out.1, by have := HOBL.out.2; have := ho.gb.size; omega⟩)
        have HO2 := Lib.hid (show OutB wr wr ob 86 ([.string s.name, .slice AF nf cF] ++ .slice none 0 0 :: [.string (s.res.subst ns vs).name, .slice At mt at1, .int .i64 (s.res.subst ns vs).off, .int .i64 s.off]) (.slice none 0 0) 0 (((s.ps.take 0).map (Fo.mapT (Ty.subst ns vs))).map Fo.dat) from ⟨gb_reflB _ _, ho.box, ho.thr, Built.nil _ _ _ _ _⟩)
        clear ho hbel e1 HBY
        generalize wr = Y2 at *
        rename Hid (Below W0.drew.heap.size W0.drew Y2) => HBY
        rename Hid (W0.drew.heap.size ≤ ob ∧ ob < Y1.heap.size) => HOBL1
        rename Hid (W0.drew.heap.size ≤ ob ∧ ob < Y2.heap.size) => HOBL
        go_wp2_with fail
        go_loopw [10] (fun i wr => ∃ (k : Nat) (v : Value), k ≤ np ∧ i = .int .i64 k ∧ OutB Y2 wr ob 86 ([.string s.name, (.slice AF nf cF)] ++ v :: [.string (s.res.subst ns vs).name, .slice At mt at1, .int .i64 (s.res.subst ns vs).off, .int .i64 s.off]) v k (((s.ps.take k).map (Fo.mapT (Ty.subst ns vs))).map Fo.dat)) (fun i _ => np - (intOf i).toNat)
        case atStart => exact ⟨0, .slice none 0 0, by omega, rfl, HO2.out⟩
        case round =>
          obtain ⟨k, v, hk, rfl, ho⟩ := hrel
          have HOO := Lib.hid ho
          have y1 : (0 : Int) ≤ k := by omega
          have hbel := HBY.out.trans (ho.below HOBL.out)
          have HBL := Lib.hid hbel
          have b1 := (HSB.out.later hbel) 2 _ rfl
          by_cases hlt : k < np
          · have y0 : (k : Int) < np := by omega
            obtain ⟨pu, x, ps, rfl, hx, _, _, hu, hcs⟩ := dat_at (RowH.later HPR.out (HBW.out.trans (hbel.mono HBW.out.size))) hlt
            obtain ⟨B, m, a, rfl, hn, ht, ha⟩ := fo_open hu
            obtain ⟨A0, c0, rfl⟩ : ∃ A0 c0, v = .slice A0 k c0 := by obtain ⟨cs, S, h1, _⟩ := ho.row; exact own_sl h1
            obtain ⟨cs, S, h1, h2, h3, h4⟩ := ho.row
            obtain ⟨W1, hP⟩ := putZ #[.string ⟨#[]⟩, .string ⟨#[]⟩, .slice none 0 0, .int .i64 0, .int .i64 0] 86 wr (us := [.string x.name, .string x.ty.name, .slice B m a, .int .i64 x.ty.off, .int .i64 x.off]) rfl
            have C := Lib.hid (show Calls Tryd.prog 61 #[.agg #[.string x.ty.name, .slice B m a, .int .i64 x.ty.off], .slice N nl nc, .slice U ul uc] W1 (DPost W1 (x.ty.subst ns vs).dat) from rtsubst_any x.ty [.string x.ty.name, .slice B m a, .int .i64 x.ty.off] ns vs N U nl ul nc uc W1 (by have := Sg.wt_p (s := s) (List.mem_of_getElem? hx); have := Fo.wt_ty (f := x); have := HWT.out; omega) HVS.out HNL.out (Dat.H.later (ty_shut ht ha) hP.bel) (HN.out.later (HBW.out.trans ((hbel.trans (hP.bel.mono hbel.size)).mono HBW.out.size))) (Here.later HU.out (HBW.out.trans ((hbel.trans (hP.bel.mono hbel.size)).mono HBW.out.size))))
            have HX := Lib.hid hx
            have HNM := Lib.hid hn
            have HFC := Lib.hid hcs
            have HP := Lib.hid hP
            have HBM := Lib.hid (boxd_mid hP.box)
            have HOWN := Lib.hid h1
            have HINS := Lib.hid h2
            have HSZ := Lib.hid h3
            have HSS := Lib.hid h4
            have HTM := Lib.hid (show W1.there wr.heap.size 0 5 from by
              rw [← hP.eq]
              exact World.there_setCells hP.there _ _ _)
            clear hx hn hu hcs ht ha hP h1 h2 h3 h4 ho hbel
            go_wp2_with (first
              | (refine loadOp flatPa 56 57 rfl HFC.out rfl ?_)
              | (refine storeOp flatPa 11 57 (b := wr.heap.size) (o := 0) (us := [.string x.name, .string x.ty.name, .slice B m a, .int .i64 x.ty.off, .int .i64 x.off]) rfl rfl HP.out.there five_oneB rfl ?_; rw [HP.out.eq])
              | (refine loadOp flatTy3 58 59 rfl HBM.out rfl ?_))
            refine C.out.mono ?_
            rintro e w3 ⟨us9, rfl, hr9, hb9⟩
            obtain ⟨B9, m9, a9, rfl, _⟩ := ty_open hr9
            have hT3 : w3.there wr.heap.size 1 3 := fun j hj => by
              have := (there_later HTM.out hb9) (1 + j) (by omega)
              rwa [Nat.zero_add] at this
            obtain ⟨w4, hw4⟩ : ∃ w4, w3.setCells wr.heap.size 1 [.string (x.ty.subst ns vs).name, .slice B9 m9 a9, .int .i64 (x.ty.subst ns vs).off] = w4 := ⟨_, rfl⟩
            have hbx4 : Boxd w4 wr.heap.size [.string x.name, .string (x.ty.subst ns vs).name, .slice B9 m9 a9, .int .i64 (x.ty.subst ns vs).off, .int .i64 x.off] := by
              have h0 := HP.out.box.later hb9
              rw [← hw4]
              intro j u hu
              match j, hu with
              | 0, hu => rw [World.cell?_setCells_out _ _ _ _ _ (fun _ _ => .inl (by show 0 < 1; omega))]; exact h0 0 u hu
              | 1, hu => exact World.rangeAt_setCells_same w3 wr.heap.size 1 [.string (x.ty.subst ns vs).name, .slice B9 m9 a9, .int .i64 (x.ty.subst ns vs).off] hT3 0 u hu
              | 2, hu => exact World.rangeAt_setCells_same w3 wr.heap.size 1 [.string (x.ty.subst ns vs).name, .slice B9 m9 a9, .int .i64 (x.ty.subst ns vs).off] hT3 1 u hu
              | 3, hu => exact World.rangeAt_setCells_same w3 wr.heap.size 1 [.string (x.ty.subst ns vs).name, .slice B9 m9 a9, .int .i64 (x.ty.subst ns vs).off] hT3 2 u hu
              | 4, hu => rw [World.cell?_setCells_out _ _ _ _ _ (fun _ _ => .inr (by simp))]; exact h0 4 u hu
              | j + 5, hu => simp at hu
            have hb4 : Below wr.heap.size wr w4 := hw4 ▸ (HP.out.bel.trans (hb9.mono HP.out.bel.size)).trans (below_cells (Nat.le_refl _) _ _ _)
            have hwz : wr.heap.size < W1.heap.size := Boxd.lt HP.out.box
            have hd4 : (Fo.mapT (Ty.subst ns vs) x).dat.In w4 False (fun b => wr.heap.size ≤ b ∧ b < w4.heap.size) [.string x.name, .string (x.ty.subst ns vs).name, .slice B9 m9 a9, .int .i64 (x.ty.subst ns vs).off, .int .i64 x.off] := foMk (f := Fo.mapT (Ty.subst ns vs) x) (v := [.string (x.ty.subst ns vs).name, .slice B9 m9 a9, .int .i64 (x.ty.subst ns vs).off]) HNM.out (by
              rw [← hw4]
              refine (Dat.In.keep id (fun p hp => kept_of (S := Fresh W1 w3) (fun b hb => heap_setCells _ _ _ _ b (by have := hb.1; omega)) p hp) (fun _ h => h) _ _ hr9).wide fun b hb => ⟨by have := hb.1; omega, by rw [size_setCells_w]; exact hb.2⟩)
            have hb5 : Below w4.heap.size w4 (w4.alloc (.cells #[.string x.name, .string (x.ty.subst ns vs).name, .slice B9 m9 a9, .int .i64 (x.ty.subst ns vs).off, .int .i64 x.off] 86)) := (Below.refl _ _).alloc (Nat.le_refl _) _
            have HOW5 := Lib.hid (own_below (own_below HOWN.out hb4) hb5)
            have HC5 := Lib.hid (show CellsAt (w4.alloc (.cells #[.string x.name, .string (x.ty.subst ns vs).name, .slice B9 m9 a9, .int .i64 (x.ty.subst ns vs).off, .int .i64 x.off] 86)) ⟨w4.heap.size, 0, none⟩ [.string x.name, .string (x.ty.subst ns vs).name, .slice B9 m9 a9, .int .i64 (x.ty.subst ns vs).off, .int .i64 x.off] from (Boxd.new w4 #[.string x.name, .string (x.ty.subst ns vs).name, .slice B9 m9 a9, .int .i64 (x.ty.subst ns vs).off, .int .i64 x.off] 86).at0)
            have HT3 := Lib.hid hT3
            have HOV := Lib.hid (ty_cells hr9)
            have HW4 := Lib.hid hw4
            have HB4 := Lib.hid hb4
            have HB5 := Lib.hid hb5
            have HD4 := Lib.hid hd4
            have HBX4 := Lib.hid (boxd_at0B hbx4)
            have HSTP := Lib.hid (fun v6 w6 hA => out_step (T := 86) (p := [.string s.name, (.slice AF nf cF)]) (r := [.string (s.res.subst ns vs).name, .slice At mt at1, .int .i64 (s.res.subst ns vs).off, .int .i64 s.off]) (d := (Fo.mapT (Ty.subst ns vs) x).dat) (us := [.string x.name, .string (x.ty.subst ns vs).name, .slice B9 m9 a9, .int .i64 (x.ty.subst ns vs).off, .int .i64 x.off]) HOO.out HOBL.out HOWN.out HINS.out HSZ.out HSS.out HB4.out HD4.out (Fo.dat_size _) rfl (v6 := v6) (w6 := w6) hA)
            have HBXW := Lib.hid (HOO.out.box.later hb4)
            have z1 : (w4.alloc (.cells #[.string x.name, .string (x.ty.subst ns vs).name, .slice B9 m9 a9, .int .i64 (x.ty.subst ns vs).off, .int .i64 x.off] 86)).cell? ⟨ob, 2, none⟩ = some (.slice A0 k c0) := (hb5.cell (cell_lt (HBXW.out 2 _ rfl))).trans (HBXW.out 2 _ rfl)
            have z0 : w4.cell? ⟨ob, 2, none⟩ = some (.slice A0 k c0) := HBXW.out 2 _ rfl
            have HTB := Lib.hid (show wr.frozen? ⟨ob, 2, none⟩ = false from by have := (HOO.out.thr 2 (by omega)).2; rwa [Nat.zero_add] at this)
            clear hr9 hb9 hT3 hw4 hbx4 hb4 hwz hd4 hb5 C
            go_upto_region 13 with (refine storeOp flatTy3 63 62 (b := wr.heap.size) (o := 1) (us := [.string (x.ty.subst ns vs).name, .slice B9 m9 a9, .int .i64 (x.ty.subst ns vs).off]) rfl rfl HT3.out HOV.out rfl ?_; rw [HW4.out])
            go_wp2_with (first
              | (refine loadOp flatPa 11 66 rfl HBX4.out rfl ?_)
              | (at_builtin; refine wpList_append_row slPaB rfl _ _ rfl rfl rfl HOW5.out (by have := HB5.out.size; have := HB4.out.size; have := HOO.out.gb.size; omega) (m := 1) rfl (fun a ha j u hu => by obtain rfl := Option.some.inj ha; exact HC5.out j u hu) five_oneB (fun _ => ⟨_, rfl⟩) (by omega) (by omega) ?_; intro v6 w6 hA; obtain ⟨gg, cap, rfl⟩ := own_consB hA.own (by omega); obtain ⟨hstp, z6, f6⟩ := HSTP.out _ w6 hA; have HNX := Lib.hid hstp; have z7 : w6.cell? ⟨ob, 2, none⟩ = some (.slice A0 k c0) := z6; have f7 : w6.frozen? ⟨ob, 2, none⟩ = false := f6; clear hstp hA))
            go_roundw
            case rel => exact ⟨k + 1, .slice (some ⟨gg, 0, none⟩) (k + 1) cap, by omega, by go_num, by rw [Ex.take_at HX.out, List.map_append, List.map_append]; exact HNX.out⟩
            case measure => simp [intOf]; omega
          · have y0 : (np : Int) ≤ k := by omega
            obtain rfl : k = np := by omega
            obtain ⟨A9, c9, rfl⟩ : ∃ A9 c9, v = .slice A9 k c9 := by obtain ⟨cs, S, h1, _⟩ := ho.row; exact own_sl h1
            have hp := ho.row.rowx (by omega)
            have e2 : (((s.ps.take k).map (Fo.mapT (Ty.subst ns vs))).map Fo.dat) = ((s.subst ns vs).ps.map Fo.dat) := by rw [List.take_of_length_le (by have := HPL.out; omega)]; rfl
            rw [e2] at hp
            have hvp : ∀ b, (Value.slice A9 k c9).ownBlock = some b → Y2.heap.size ≤ b ∧ b < wr.heap.size := fun b hb => by obtain ⟨cs, S, h1, _⟩ := ho.row; exact ⟨own_base h1 b hb, (h1.lt b hb).2⟩
            have l1 : (s.subst ns vs).fs.length = nf := by simp only [Sg.subst, List.length_map]; exact HFL.out
            have l2 : (s.subst ns vs).ps.length = k := by simp only [Sg.subst, List.length_map]; exact HPL.out
            have z1 := HG1.out.size
            have z2 := ho.gb.size
            have zo := HON.out.ob2
            have zw := HWD.out.big
            have hz2 : ∀ b, b < Y2.heap.size → b ≠ ob → wr.heap[b]? = Y2.heap[b]? := fun b h1 h2 => ho.gb.block b h1 (fun e => h2 (Option.some.inj e))
            have hz1 : ∀ b, b < Y1.heap.size → b ≠ ob → Y2.heap[b]? = Y1.heap[b]? := fun b h1 h2 => HG1.out.block b h1 (fun e => h2 (Option.some.inj e))
            have hsw : SgW (w.heap.size + 2) wr.heap.size wr (s.subst ns vs) (.slice AF (s.subst ns vs).fs.length cF) (.slice A9 (s.subst ns vs).ps.length c9) [.string (s.res.subst ns vs).name, .slice At mt at1, .int .i64 (s.res.subst ns vs).off] := by
              rw [l1, l2]
              refine ⟨?_, ?_, fun b h1 h2 => by have := (HVF.out b h1).2; have := (hvp b h2).1; omega, ?_, by omega, Nat.le_refl _⟩
              · rw [l1]
                exact (HF1.out.kept (V' := wr) (fun b hb => hb.elim (fun h => hz2 b h.2.1 (by have := h.1; omega)) fun h => hz2 b (HVF.out b h).2 (by have := (HVF.out b h).1; omega)) z2).wide (fun b hb => ⟨by have := hb.1; omega, by have := hb.2.1; omega, hb.2.2, fun e => by have := (hvp b e).1; have := hb.2.1; omega⟩) (by omega)
              · rw [l2]
                exact hp.wide (fun b hb => ⟨by have := hb.1; omega, hb.2.1, fun e => by have := (HVF.out b e).2; have := hb.1; omega, hb.2.2⟩) (by omega)
              · exact (Dat.In.keep id (fun p hp => kept_of (S := fun b => w.heap.size + 2 ≤ b ∧ b < Y1.heap.size ∧ b ≠ ob) (fun b hb => (hz2 b (by have := hb.2.1; omega) hb.2.2).trans (hz1 b hb.2.1 hb.2.2)) p hp) (fun _ h => h) _ _ HON.out.res).wide fun b hb => ⟨hb.1, by have := hb.2.1; omega, fun e => by have := (HVF.out b e).1; have := hb.2.1; omega, fun e => by have := (hvp b e).1; have := hb.2.1; omega⟩
            have HSW := Lib.hid hsw
            have HBX := Lib.hid (show CellsAt wr ⟨ob, 0, none⟩ [.string s.name, .slice AF nf cF, .slice A9 k c9, .string (s.res.subst ns vs).name, .slice At mt at1, .int .i64 (s.res.subst ns vs).off, .int .i64 s.off] from boxd_at0B ho.box)
            have hbw := HBW.out.trans (hbel.mono HBW.out.size)
            have HBF := Lib.hid hbw
            have HT := Lib.hid (show wr.there (w.heap.size + 1) 0 7 from fun j hj => by
              have h1 := HON.out.sbx j hj
              have k1 := kept_of (V := Y1) (V' := wr) (S := (· = w.heap.size + 1)) (fun b hb => by subst hb; exact (hz2 _ (by omega) (by omega)).trans (hz1 _ (by omega) (by omega))) ⟨w.heap.size + 1, 0 + j, none⟩ rfl
              rw [k1.1, k1.2]
              exact h1)
            have HL1 := Lib.hid l1
            have HL2 := Lib.hid l2
            clear hp e2 hvp l1 l2 z1 z2 zo zw hz1 hz2 hsw ho hbel hbw
            go_wp2_with (first
              | (refine loadOp flatSg 7 70 rfl HBX.out rfl ?_)
              | (refine storeOp flatSg 6 70 (b := w.heap.size + 1) (o := 0) (us := [.string s.name, .slice AF nf cF, .slice A9 k c9, .string (s.res.subst ns vs).name, .slice At mt at1, .int .i64 (s.res.subst ns vs).off, .int .i64 s.off]) rfl rfl HT.out sg_one rfl ?_))
            refine bodyPost_ret (results_rsubst _ rfl (show Boxd _ (w.heap.size + 1) [.string s.name, .slice AF nf cF, .slice A9 k c9, .string (s.res.subst ns vs).name, .slice At mt at1, .int .i64 (s.res.subst ns vs).off, .int .i64 s.off] from set_there HT.out) rfl) rfl ?_
            have hsz : (wr.setCells (w.heap.size + 1) 0 [.string s.name, .slice AF nf cF, .slice A9 k c9, .string (s.res.subst ns vs).name, .slice At mt at1, .int .i64 (s.res.subst ns vs).off, .int .i64 s.off]).heap.size = wr.heap.size := size_setCells_w _ _ _ _
            have hfin := (HSW.out.kept (V' := wr.setCells (w.heap.size + 1) 0 [.string s.name, .slice AF nf cF, .slice A9 k c9, .string (s.res.subst ns vs).name, .slice At mt at1, .int .i64 (s.res.subst ns vs).off, .int .i64 s.off]) (fun b hb _ => heap_setCells _ _ _ _ b (by omega)) (Nat.le_of_eq hsz.symm)).wide (lo' := w.heap.size) (top' := (wr.setCells (w.heap.size + 1) 0 [.string s.name, .slice AF nf cF, .slice A9 k c9, .string (s.res.subst ns vs).name, .slice At mt at1, .int .i64 (s.res.subst ns vs).off, .int .i64 s.off]).heap.size) (by omega) (Nat.le_of_eq hsz.symm) (Nat.le_refl _)
            exact ⟨AF, cF, A9, c9, At, mt, at1, by unfold sg7; rw [HL1.out, HL2.out]; rfl, hfin, HBF.out.trans (below_cells (Nat.le_succ _) _ _ _)⟩
end Go.Proofs.YtkdlidakdknhjaaDoor
