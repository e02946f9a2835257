/- The law BindBounds: true, at every input. The condition: the table of powers. -/
import Derived.Test.YtkdlidakdknhjaaDoorBdX
namespace Go.Proofs.YtkdlidakdknhjaaDoor
open Go.RowKit

theorem find_some {t : Ty} {l : List Fo} {k : Nat} (h : findF t l = some k) : ∃ x, l[k]? = some x ∧ boundF t l = some x.ty := by
  have h0 := h
  rw [findF] at h
  split at h
  · rw [List.findIdx?_eq_some_iff_getElem] at h
    obtain ⟨hk, _⟩ := h
    exact ⟨l[k], List.getElem?_eq_getElem hk, by rw [boundF, h0]; simp [List.getElem?_eq_getElem hk]⟩
  · cases h
/-- A row of formals, a boxed type, and the table of powers. -/
structure EX (w W : World) (p : Nat) (E : Option Addr) (q : Nat) (xs : List Fo) (t : Ty) (us : List Value) : Prop where
  row : RowH W 5 E q (xs.map Fo.dat)
  box : Boxd W p us
  dat : t.dat.H W us
  pow : PowVar W
  bel : Below w.heap.size w W
theorem EX.later {w W W' : World} {p : Nat} {E : Option Addr} {q : Nat} {xs : List Fo} {t : Ty} {us : List Value} (h : EX w W p E q xs t us) (hb : Below W.heap.size W W') : EX w W' p E q xs t us :=
  ⟨RowH.later h.row hb, h.box.later hb, Dat.H.later h.dat hb, h.pow.later hb, h.bel.trans (hb.mono h.bel.size)⟩
/-- A boxed type. -/
structure TX (W : World) (b : Nat) (t : Ty) (us : List Value) : Prop where
  box : Boxd W b us
  dat : t.dat.H W us
theorem TX.later {W W' : World} {b : Nat} {t : Ty} {us : List Value} (h : TX W b t us) (hb : Below W.heap.size W W') : TX W' b t us := ⟨h.box.later hb, Dat.H.later h.dat hb⟩
theorem fo_mid {V : World} {pu : Addr} {k : Nat} {u0 u1 u2 u3 u4 : Value} (h : CellsAt V (pu.add (k * 5)) [u0, u1, u2, u3, u4]) : CellsAt V ⟨(pu.add (k * 5)).block, (pu.add (k * 5)).off + 1, none⟩ [u1, u2, u3] := by
  obtain ⟨_, c1, c2, c3, _⟩ := cells5_at h
  intro j u hu
  match j, hu with
  | 0, hu => obtain rfl := Option.some.inj hu; exact c1
  | 1, hu => obtain rfl := Option.some.inj hu; exact c2
  | 2, hu => obtain rfl := Option.some.inj hu; exact c3
  | j + 3, hu => simp at hu

set_option maxRecDepth 100000 in
set_option maxHeartbeats 16000000 in
theorem bbounds_law (xs : List Fo) (t : Ty) (us : List Value) (E : Option Addr) (q ce : Nat) (w : World) (h1 : RowH w 5 E q (xs.map Fo.dat)) (h2 : t.dat.H w us) (hE : PowVar w) :
    Calls Tryd.prog 5 #[.slice E q ce, .agg us.toArray] w fun e w' => e = .returned (.bool true) ∧ Below w.heap.size w w' := by
  obtain ⟨A, m, c, rfl, htn, hta⟩ := ty_open h2
  have hql := h1.len
  rw [List.length_map] at hql
  have HTN := Lib.hid htn
  have HQL := Lib.hid hql
  have hb := (Below.refl w.heap.size w).alloc (Nat.le_refl _) (.cells #[.string t.name, .slice A m c, .int .i64 t.off] 26)
  obtain ⟨W0, hW0⟩ : ∃ W0, w.alloc (.cells #[.string t.name, .slice A m c, .int .i64 t.off] 26) = W0 := ⟨_, rfl⟩
  have hbx : Boxd W0 w.heap.size [.string t.name, .slice A m c, .int .i64 t.off] := hW0 ▸ Boxd.new w #[.string t.name, .slice A m c, .int .i64 t.off] 26
  rw [hW0] at hb
  have HS := Lib.hid (show EX w W0 w.heap.size E q xs t [.string t.name, .slice A m c, .int .i64 t.off] from ⟨RowH.later h1 hb, hbx, Dat.H.later h2 hb, hE.later hb, hb⟩)
  have HW0 := Lib.hid hW0
  obtain ⟨fa, hfa⟩ : ∃ x, (envPg xs).few = x := ⟨_, rfl⟩
  obtain ⟨fb, hfb⟩ : ∃ x, t.few = x := ⟨_, rfl⟩
  have HFA := Lib.hid hfa
  have HFB := Lib.hid hfb
  clear h1 h2 hE htn hta hql hb hbx hW0 hfa hfb
  go_enter Tryd.func5, Tryd.ntmps5
  go_upto_region 1 with fail
  rw [HW0.out]
  clear HW0
  go_wp2_with fail
  refine (bawake_any _ HS.out.pow).mono ?_
  rintro e w1 ⟨rfl, hb⟩
  have HS := Lib.hid (HS.out.later hb)
  clear hb
  go_wp2_with fail
  refine (rfewEnv_any xs E q ce _ HS.out.row).mono ?_
  rintro e w2 ⟨rfl, hb⟩
  have HS := Lib.hid (HS.out.later hb)
  clear hb
  rw [HFA.out]
  cases fa
  · skip
    go_wp2_with fail
    refine (bawake_any _ HS.out.pow).mono ?_
    rintro e w9 ⟨rfl, hb⟩
    have HS := Lib.hid (HS.out.later hb)
    clear hb
    go_wp2_with fail
    go_ret
    exact ⟨rfl, HS.out.bel⟩
  have HWT := Lib.hid (env_few HFA.out)
  have hq : q ≤ 100000 := by have := HWT.out.1; have := HQL.out; omega
  have HQ := Lib.hid hq
  clear hq
  have C2 := Lib.hid (few_any t A m c _ HTN.out (by obtain ⟨_, _, _, e, _, h⟩ := ty_open HS.out.dat; cases e; exact h))
  go_wp2_with (refine loadOpJ flatTy3 3 16 rfl rfl HS.out.box.at0 rfl ?_)
  refine C2.out.mono ?_
  rintro e w3 ⟨rfl, hb⟩
  have HS := Lib.hid (HS.out.later hb)
  clear hb C2
  rw [HFB.out]
  cases fb
  · skip
    go_wp2_with fail
    refine (bawake_any _ HS.out.pow).mono ?_
    rintro e w9 ⟨rfl, hb⟩
    have HS := Lib.hid (HS.out.later hb)
    clear hb
    go_wp2_with fail
    go_ret
    exact ⟨rfl, HS.out.bel⟩
  have C3 := bbound_any xs t _ E q ce _ (fun f hf => Nat.le_trans (HWT.out.2 f hf) (by omega)) HQ.out HS.out.row HS.out.dat
  have C4 := Lib.hid (fun (V : World) (hV : EX w V w.heap.size E q xs t [.string t.name, .slice A m c, .int .i64 t.off]) => rfind_any xs t _ E q ce V HQ.out hV.row hV.dat)
  rcases hf : findF t xs with _ | k
  · skip
    have HBF := Lib.hid (show boundF t xs = none by rw [boundF, hf]; rfl)
    have HF := Lib.hid hf
    clear hf
    rw [HBF.out] at C3
    have C3 := Lib.hid C3
    go_wp2_with (refine loadOpJ flatTy3 3 23 rfl rfl HS.out.box.at0 rfl ?_)
    refine C3.out.mono ?_
    rintro e w4 ⟨us4, rfl, hd, hb⟩
    have hd : ((Ty.mk ⟨#[]⟩ [] 0) : Ty).dat.In w4 False (Fresh _ w4) us4 := hd
    obtain ⟨B, l, d, rfl, hn4, hl4⟩ := ty_open hd
    obtain ⟨W4, hP4⟩ := putZ #[.string ⟨#[]⟩, .slice none 0 0, .int .i64 0] 26 w4 (us := [.string (Ty.mk ⟨#[]⟩ [] 0).name, .slice B l d, .int .i64 (Ty.mk ⟨#[]⟩ [] 0).off]) rfl
    have HPP := Lib.hid hP4
    have HBX := Lib.hid (show TX W4 w4.heap.size (Ty.mk ⟨#[]⟩ [] 0) [.string (Ty.mk ⟨#[]⟩ [] 0).name, .slice B l d, .int .i64 (Ty.mk ⟨#[]⟩ [] 0).off] from ⟨hP4.box, Dat.H.later (hd.wide fun b hb => hb.2) hP4.bel⟩)
    have HS := Lib.hid (HS.out.later (hb.trans (hP4.bel.mono hb.size)))
    have HN4 := Lib.hid hn4
    clear hd hb hP4 hn4 hl4 C3
    rw [show (none : Option Ty).isSome = false from rfl]
    have C4 := C4.out _ HS.out
    rw [HF.out] at C4
    have C4 := Lib.hid (show Calls Tryd.prog 28 #[.slice E q ce, .agg ([.string t.name, .slice A m c, .int .i64 t.off] : List Value).toArray] W4 (fun e w' => e = .returned (.int .i64 (-1)) ∧ Below W4.heap.size W4 w') from C4)
    go_upto_region 4 with (refine storeOp flatTy3 5 25 (b := w4.heap.size) (o := 0) (us := [.string (Ty.mk ⟨#[]⟩ [] 0).name, .slice B l d, .int .i64 (Ty.mk ⟨#[]⟩ [] 0).off]) rfl rfl HPP.out.there three_one rfl ?_; rw [HPP.out.eq])
    go_wp2_with (refine loadOpJ flatTy3 3 28 rfl rfl HS.out.box.at0 rfl ?_)
    refine C4.out.mono ?_
    rintro e w5 ⟨rfl, hb⟩
    have HS := Lib.hid (HS.out.later hb)
    have HBX := Lib.hid (HBX.out.later hb)
    have C5 := Lib.hid (ref_equal_any (Ty.mk ⟨#[]⟩ [] 0) (Ty.mk ⟨#[]⟩ [] 0) B none l 0 d 0 w5 HN4.out (by simp [Ty.name, ByteArray.size]) (by obtain ⟨_, _, _, e, _, h⟩ := ty_open HBX.out.dat; cases e; exact h) (LiesN.nil _ _ _ _))
    clear hb C4 HPP
    go_wp2_with (refine loadOpJ flatTy3 5 35 rfl rfl HBX.out.box.at0 rfl ?_)
    refine C5.out.mono ?_
    rintro e w6 ⟨rfl, hb⟩
    have HS := Lib.hid (HS.out.later hb)
    clear hb C5
    rw [Ty.eqv_refl]
    go_wp2_with fail
    go_ret
    exact ⟨rfl, HS.out.bel⟩
  · skip
    obtain ⟨x, hx, hbf⟩ := find_some hf
    have HBF := Lib.hid hbf
    have HF := Lib.hid hf
    have hkq : k < q := by have := (List.getElem?_eq_some_iff.1 hx).1; have := HQL.out; omega
    obtain ⟨pu, x', ps, rfl, hx', _⟩ := dat_at HS.out.row hkq
    obtain rfl : x = x' := Option.some.inj (hx.symm.trans hx')
    have HXK := Lib.hid hx
    have HKQ := Lib.hid hkq
    have z1 : (0 : Int) ≤ k := by omega
    have z2 : (k : Int) < q := by omega
    clear hf hbf hx hx' hkq
    rw [HBF.out] at C3
    have C3 := Lib.hid C3
    go_wp2_with (refine loadOpJ flatTy3 3 23 rfl rfl HS.out.box.at0 rfl ?_)
    refine C3.out.mono ?_
    rintro e w4 ⟨us4, rfl, hd, hb⟩
    have hd : (x.ty : Ty).dat.In w4 False (Fresh _ w4) us4 := hd
    obtain ⟨B, l, d, rfl, hn4, hl4⟩ := ty_open hd
    obtain ⟨W4, hP4⟩ := putZ #[.string ⟨#[]⟩, .slice none 0 0, .int .i64 0] 26 w4 (us := [.string x.ty.name, .slice B l d, .int .i64 x.ty.off]) rfl
    have HPP := Lib.hid hP4
    have HBX := Lib.hid (show TX W4 w4.heap.size x.ty [.string x.ty.name, .slice B l d, .int .i64 x.ty.off] from ⟨hP4.box, Dat.H.later (hd.wide fun b hb => hb.2) hP4.bel⟩)
    have HS := Lib.hid (HS.out.later (hb.trans (hP4.bel.mono hb.size)))
    have HN4 := Lib.hid hn4
    clear hd hb hP4 hn4 hl4 C3
    rw [show (some x.ty : Option Ty).isSome = true from rfl]
    have C4 := C4.out _ HS.out
    rw [HF.out] at C4
    have C4 := Lib.hid (show Calls Tryd.prog 28 #[.slice (some pu) q ce, .agg ([.string t.name, .slice A m c, .int .i64 t.off] : List Value).toArray] W4 (fun e w' => e = .returned (.int .i64 (k : Int)) ∧ Below W4.heap.size W4 w') from C4)
    go_upto_region 4 with (refine storeOp flatTy3 5 25 (b := w4.heap.size) (o := 0) (us := [.string x.ty.name, .slice B l d, .int .i64 x.ty.off]) rfl rfl HPP.out.there three_one rfl ?_; rw [HPP.out.eq])
    go_wp2_with (refine loadOpJ flatTy3 3 28 rfl rfl HS.out.box.at0 rfl ?_)
    refine C4.out.mono ?_
    rintro e w5 ⟨rfl, hb⟩
    have HS := Lib.hid (HS.out.later hb)
    have HBX := Lib.hid (HBX.out.later hb)
    clear hb C4 HPP
    go_wp2_with fail
    have hSD := HS.out.later (Below.refl _ _).drew
    have hBD := HBX.out.later (Below.refl _ _).drew
    obtain ⟨pu', x', ps, e1, hx', _, _, hu, hcs⟩ := dat_at hSD.row HKQ.out
    obtain rfl : pu = pu' := Option.some.inj e1
    obtain rfl : x = x' := Option.some.inj (HXK.out.symm.trans hx')
    obtain ⟨B9, m9, a9, rfl, hn9, hty9, hta9⟩ := fo_open hu
    have HM9 := Lib.hid (fo_mid hcs)
    have HT9 := Lib.hid hty9
    have HA9 := Lib.hid hta9
    clear e1 hx' hu hcs hn9 hty9 hta9
    refine wp_region_held_drew (S := fun V => (EX w V w.heap.size (some pu) q xs t [.string t.name, .slice A m c, .int .i64 t.off] ∧ TX V w4.heap.size x.ty [.string x.ty.name, .slice B l d, .int .i64 x.ty.off]) ∧ CellsAt V ⟨(pu.add (k * 5)).block, (pu.add (k * 5)).off + 1, none⟩ [.string x.ty.name, .slice B9 m9 a9, .int .i64 x.ty.off] ∧ LiesN V False (· < V.heap.size) B9 m9 x.ty.args) (by kernel_rfl) ⟨⟨hSD, hBD⟩, HM9.out, HA9.out⟩ (fun hS => ?_)
    clear hSD hBD
    refine wpAnyH_take (i := 0) (v := ?_) rfl (by kernel_rfl) (by kernel_rfl) (by kernel_rfl) (fun _ _ _ h => h) (Or.inl ⟨by rfl, ?_⟩) (by assumption) ?_
    rotate_left
    · (intro V hV; go_simp; try with_reducible rfl)
    try simp only [Act.put, List.getElem_toArray, List.getElem_cons_zero, List.setIfInBounds_toArray, List.set_cons_zero, List.set_cons_succ]
    refine wpAnyH_take (i := 1) (v := ?_) rfl (by kernel_rfl) (by kernel_rfl) (by kernel_rfl) (fun _ _ _ h => h) (Or.inl ⟨by rfl, ?_⟩) (by assumption) ?_
    rotate_left
    · (intro V hV; go_simp; try with_reducible rfl)
    try simp only [Act.put, List.getElem_toArray, List.getElem_cons_zero, List.getElem_cons_succ, List.setIfInBounds_toArray, List.set_cons_zero, List.set_cons_succ]
    refine wpAnyH_take (i := 2) (v := .agg ([.string x.ty.name, .slice B l d, .int .i64 x.ty.off] : List Value).toArray) rfl (by kernel_rfl) (by kernel_rfl) (by kernel_rfl) (fun _ _ _ h => h) (Or.inl ⟨by rfl, fun V hV => loadYieldB flatTy3 rfl hV.1.2.box.at0 rfl⟩) (by assumption) ?_
    try simp only [Act.put, List.getElem_toArray, List.getElem_cons_zero, List.getElem_cons_succ, List.setIfInBounds_toArray, List.set_cons_zero, List.set_cons_succ]
    refine wpAnyH_take (i := 3) (v := ?_) rfl (by kernel_rfl) (by kernel_rfl) (by kernel_rfl) (fun _ _ _ h => h) (Or.inl ⟨by rfl, ?_⟩) (by assumption) ?_
    rotate_left
    · (intro V hV; go_simp; try with_reducible rfl)
    try simp only [Act.put, List.getElem_toArray, List.getElem_cons_zero, List.getElem_cons_succ, List.setIfInBounds_toArray, List.set_cons_zero, List.set_cons_succ]
    refine wpAnyH_take (i := 4) (v := ?_) rfl (by kernel_rfl) (by kernel_rfl) (by kernel_rfl) (fun _ _ _ h => h) (Or.inl ⟨by rfl, ?_⟩) (by assumption) ?_
    rotate_left
    · (intro V hV; go_simp; try with_reducible rfl)
    try simp only [Act.put, List.getElem_toArray, List.getElem_cons_zero, List.getElem_cons_succ, List.setIfInBounds_toArray, List.set_cons_zero, List.set_cons_succ]
    refine wpAnyH_take (i := 5) (v := ?_) rfl (by kernel_rfl) (by kernel_rfl) (by kernel_rfl) (fun _ _ _ h => h) (Or.inl ⟨by rfl, ?_⟩) (by assumption) ?_
    rotate_left
    · (intro V hV; go_simp; try with_reducible rfl)
    try simp only [Act.put, List.getElem_toArray, List.getElem_cons_zero, List.getElem_cons_succ, List.setIfInBounds_toArray, List.set_cons_zero, List.set_cons_succ]
    refine wpAnyH_take (i := 6) (v := ?_) rfl (by kernel_rfl) (by kernel_rfl) (by kernel_rfl) (fun _ _ _ h => h) (Or.inl ⟨by rfl, ?_⟩) (by assumption) ?_
    rotate_left
    · (intro V hV; go_simp; try with_reducible rfl)
    try simp only [Act.put, List.getElem_toArray, List.getElem_cons_zero, List.getElem_cons_succ, List.setIfInBounds_toArray, List.set_cons_zero, List.set_cons_succ]
    refine wpAnyH_take (i := 7) (v := .agg ([.string x.ty.name, .slice B9 m9 a9, .int .i64 x.ty.off] : List Value).toArray) rfl (by kernel_rfl) (by kernel_rfl) (by kernel_rfl) (fun _ _ _ h => h) (Or.inl ⟨by rfl, fun V hV => loadYieldB flatTy3 rfl hV.2.1 rfl⟩) (by assumption) ?_
    try simp only [Act.put, List.getElem_toArray, List.getElem_cons_zero, List.getElem_cons_succ, List.setIfInBounds_toArray, List.set_cons_zero, List.set_cons_succ]
    refine wpAnyH_ready (rs := [8]) (by kernel_rfl) (by simp) ?_
    refine AllReadyH.cons rfl (fun K hK => ?_) (AllReadyH.nil)
    go_simp
    refine (ref_equal_any x.ty x.ty B B9 l m9 d a9 _ HN4.out HT9.out (by obtain ⟨_, _, _, e, _, h⟩ := ty_open hS.1.2.dat; cases e; exact h) hS.2.2).mono ?_
    rintro e V1 ⟨rfl, hb1⟩
    rw [Ty.eqv_refl]
    refine hK.out _ _ ⟨⟨hS.1.1.later hb1, hS.1.2.later hb1⟩, hS.2.1.later hb1, Here.later (show Here _ B9 m9 x.ty.args from hS.2.2) hb1⟩ (fun hS => ?_)
    clear hK K hb1
    try simp only [Act.put, List.getElem_toArray, List.getElem_cons_zero, List.getElem_cons_succ, List.setIfInBounds_toArray, List.set_cons_zero, List.set_cons_succ]
    refine wpAnyH_take (i := 9) (v := ?_) rfl (by kernel_rfl) (by kernel_rfl) (by kernel_rfl) (fun _ _ _ h => h) (Or.inl ⟨by rfl, ?_⟩) (by assumption) ?_
    rotate_left
    · (intro V hV; go_simp; try with_reducible rfl)
    try simp only [Act.put, List.getElem_toArray, List.getElem_cons_zero, List.getElem_cons_succ, List.setIfInBounds_toArray, List.set_cons_zero, List.set_cons_succ]
    refine wpAnyH_take (i := 10) (v := ?_) rfl (by kernel_rfl) (by kernel_rfl) (by kernel_rfl) (fun _ _ _ h => h) (Or.inl ⟨by rfl, ?_⟩) (by assumption) ?_
    rotate_left
    · (intro V hV; go_simp; try with_reducible rfl)
    try simp only [Act.put, List.getElem_toArray, List.getElem_cons_zero, List.getElem_cons_succ, List.setIfInBounds_toArray, List.set_cons_zero, List.set_cons_succ]
    refine wpAnyH_done (by kernel_rfl) ?_ _
    go_wp2_with fail
    go_ret
    exact ⟨rfl, hS.1.1.bel⟩
end Go.Proofs.YtkdlidakdknhjaaDoor
