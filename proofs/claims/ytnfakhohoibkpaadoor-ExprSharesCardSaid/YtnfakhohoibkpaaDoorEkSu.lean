/- The walk of the law ExprSubstitutes: true, at every input. The condition: the table of words. -/
import Derived.Test.YtnfakhohoibkpaaDoorEkAw
import Derived.Test.YtnfakhohoibkpaaDoorExI
import Derived.Test.YtnfakhohoibkpaaDoorExE
namespace Go.Proofs.YtnfakhohoibkpaaDoor
open Go.RowKit

theorem xfew_wt2 {e : Ex} (h : e.few = true) : e.wt ≤ 250 := by
  unfold Ex.few at h
  exact Ex.wt_of_cnt (of_decide_eq_true h)
theorem ex_eight2 {w : World} {N : Prop} {S : Nat → Prop} {e : Ex} {us : List Value} (h : e.dat.In w N S us) : ∃ u0 u1 u2 u3 u4 u5 u6 u7, us = [u0, u1, u2, u3, u4, u5, u6, u7] := by
  obtain ⟨A, m, a, B, l, b, C, n, c, rfl, _⟩ := ex_open h
  exact ⟨_, _, _, _, _, _, _, _, rfl⟩
theorem few_wtL {us : List Ty} (h : Ty.fewL us = true) : Ty.wtL us ≤ 200 := by
  unfold Ty.fewL at h
  exact Ty.wtL_of_cnt (of_decide_eq_true h)
theorem eqv_self : ∀ e : Ex, e.eqv e = true := by
  refine Ex.ind fun k s t ts xs o ih => ?_
  have hL : ∀ l : List Ex, (∀ x ∈ l, x ∈ xs) → Ex.eqvL l l = true := by
    intro l
    induction l with
    | nil => intro _; rw [Ex.eqvL]
    | cons a r ih2 =>
      intro h
      rw [Ex.eqvL, ih a (h a (by simp)), ih2 fun x hx => h x (by simp [hx])]
      rfl
  have hT : ∀ l : List Ty, Ty.eqvL l l = true := by
    intro l
    induction l with
    | nil => rw [Ty.eqvL]
    | cons a r ih => rw [Ty.eqvL, Ty.eqv_refl a, ih]; rfl
  rw [Ex.eqv, Ty.eqv_refl t, hT ts, hL xs fun _ h => h]
  simp

set_option maxRecDepth 100000 in
set_option maxHeartbeats 16000000 in
theorem xsubstitutes_any (a : Ex) (us : List Value) (ns : List ByteArray) (vs : List Ty) (N U : Option Addr) (nl ul nc uc : Nat) (w : World) (h1 : a.dat.H w us) (hN : Sl w N nl ns) (hU : Here w U ul vs) (hF : Fits ns nl nc) (hE : ResVar w) :
    Calls Tryd.prog 4 #[.agg us.toArray, .slice N nl nc, .slice U ul uc] w fun e w' => e = .returned (.bool true) ∧ Below w.heap.size w w' := by
  have hx := OneX.new h1 27
  have HX := Lib.hid hx
  have HN := Lib.hid (hN.later hx.bel)
  have HU := Lib.hid (Here.later hU hx.bel)
  have HE := Lib.hid (hE.later hx.bel)
  have HUL := Lib.hid hU.len
  obtain ⟨fa, hfa⟩ : ∃ x, a.few = x := ⟨_, rfl⟩
  obtain ⟨fb, hfb⟩ : ∃ x, Ty.fewL vs = x := ⟨_, rfl⟩
  have HFA := Lib.hid hfa
  have HFB := Lib.hid hfb
  have HFF := Lib.hid hF
  have HSL := Lib.hid hN.1
  obtain ⟨u0, u1, u2, u3, u4, u5, u6, u7, rfl⟩ := ex_eight2 h1
  clear hx h1 hE hfa hfb hN hU hF
  go_enter Tryd.func4, Tryd.ntmps4
  go_wp2_with fail
  generalize hW : w.alloc (.cells #[u0, u1, u2, u3, u4, u5, u6, u7] 27) = W at *
  clear hW
  refine (xawake_any _ HE.out).mono ?_
  rintro e w1 ⟨rfl, hb⟩
  have HE1 := Lib.hid (HE.out.later hb)
  have HN1 := Lib.hid (HN.out.later hb)
  have HU1 := Lib.hid (Here.later HU.out hb)
  have HX1 := Lib.hid (HX.out.later hb)
  clear hb HE HN HU HX
  obtain ⟨x0, x1, x2, x3, x4, x5, x6, x7⟩ := HX1.out.one.c8
  go_wp2_with fail
  refine (xfew_any a _ _ HX1.out.da).mono ?_
  rintro e w2 ⟨rfl, hb⟩
  rw [HFA.out]
  have HE2 := Lib.hid (HE1.out.later hb)
  have HN2 := Lib.hid (HN1.out.later hb)
  have HU2 := Lib.hid (Here.later HU1.out hb)
  have HX2 := Lib.hid (HX1.out.later hb)
  clear hb HE1 HN1 HU1 HX1
  clear x0 x1 x2 x3 x4 x5 x6 x7
  cases fa
  · skip
    go_wp2_with fail
    refine (xawake_any _ HE2.out).mono ?_
    rintro e w9 ⟨rfl, hb⟩
    have HB9 := Lib.hid (HX2.out.bel.trans (hb.mono HX2.out.bel.size))
    clear hb
    go_wp2_with fail
    go_ret
    exact ⟨rfl, HB9.out⟩
  obtain ⟨x0, x1, x2, x3, x4, x5, x6, x7⟩ := HX2.out.one.c8
  by_cases h20 : 20 < nl
  · have y0 : (20 : Int) < nl := by omega
    go_wp2_with fail
    refine (xawake_any _ HE2.out).mono ?_
    rintro e w9 ⟨rfl, hb⟩
    have HB9 := Lib.hid (HX2.out.bel.trans (hb.mono HX2.out.bel.size))
    clear hb
    go_wp2_with fail
    go_ret
    exact ⟨rfl, HB9.out⟩
  have y0 : (nl : Int) ≤ 20 := by omega
  go_wp2_with fail
  refine (few_all_any vs U ul uc _ HU2.out).mono ?_
  rintro e X ⟨rfl, hb⟩
  rw [HFB.out]
  have HE3 := Lib.hid (HE2.out.later hb)
  have HN3 := Lib.hid (HN2.out.later hb)
  have HU3 := Lib.hid (Here.later HU2.out hb)
  have HX3 := Lib.hid (HX2.out.later hb)
  clear hb HE2 HN2 HU2 HX2
  clear x0 x1 x2 x3 x4 x5 x6 x7
  cases fb
  · skip
    go_wp2_with fail
    refine (xawake_any _ HE3.out).mono ?_
    rintro e w9 ⟨rfl, hb⟩
    have HB9 := Lib.hid (HX3.out.bel.trans (hb.mono HX3.out.bel.size))
    clear hb
    go_wp2_with fail
    go_ret
    exact ⟨rfl, HB9.out⟩
  obtain ⟨x0, x1, x2, x3, x4, x5, x6, x7⟩ := HX3.out.one.c8
  have l0 := cell_lt x0
  have WA := Lib.hid (xfew_wt2 HFA.out)
  have WB := Lib.hid (few_wtL HFB.out)
  have WC := Lib.hid (show nl ≤ 20 by omega)
  have CS := Lib.hid (fun (V : World) (hV : Below X.heap.size X V) => (show Calls Tryd.prog 22 #[.agg #[u0, u1, u2, u3, u4, u5, u6, u7], .slice N nl nc, .slice U ul uc] V _ from xsubst_any a _ ns vs N U nl ul nc uc V (Nat.le_trans WA.out (by omega)) (fun v hv => Ty.small_of_wt (by have := Ty.wtL_mem hv; have := WB.out; omega)) (by have := Ty.wtL_len vs; have := WB.out; have := HUL.out; omega) HFF.out (Dat.H.later HX3.out.da hV) (HN3.out.later hV) (Here.later HU3.out hV)))
  have CR := Lib.hid (fun (V : World) (hV : Below X.heap.size X V) => (show Calls Tryd.prog 23 #[.agg #[u0, u1, u2, u3, u4, u5, u6, u7], .slice N nl nc, .slice U ul uc] V _ from xref_subst_any ns vs N U nl ul nc uc (fun v hv => by have := Ty.wtL_mem hv; have := Ty.list_wt v; have := WB.out; omega) (by have := WC.out; omega) a _ V (Nat.le_trans WA.out (by omega)) (Dat.H.later HX3.out.da hV) (HN3.out.later hV) (Here.later HU3.out hV)))
  have CC := Lib.hid (fun (V : World) (hV : Below X.heap.size X V) => (show Calls Tryd.prog 24 #[.agg #[u0, u1, u2, u3, u4, u5, u6, u7]] V _ from xclone_any a _ V (Nat.le_trans WA.out (by omega)) (Dat.H.later HX3.out.da hV)))
  have HD := Lib.hid (fun (V : World) (hV : Below X.heap.size X V) => Dat.H.later HX3.out.da hV)
  have HBX := Lib.hid HX3.out.bel
  have SS : Below X.heap.size X X ∧ X.cell? ⟨w.heap.size, 0, none⟩ = some u0 ∧ X.cell? ⟨w.heap.size, 1, none⟩ = some u1 ∧ X.cell? ⟨w.heap.size, 2, none⟩ = some u2 ∧ X.cell? ⟨w.heap.size, 3, none⟩ = some u3 ∧ X.cell? ⟨w.heap.size, 4, none⟩ = some u4 ∧ X.cell? ⟨w.heap.size, 5, none⟩ = some u5 ∧ X.cell? ⟨w.heap.size, 6, none⟩ = some u6 ∧ X.cell? ⟨w.heap.size, 7, none⟩ = some u7 := ⟨Below.refl _ _, x0, x1, x2, x3, x4, x5, x6, x7⟩
  have KP := Lib.hid (show ∀ V : World, Below X.heap.size X V → Below X.heap.size X V ∧ V.cell? ⟨w.heap.size, 0, none⟩ = some u0 ∧ V.cell? ⟨w.heap.size, 1, none⟩ = some u1 ∧ V.cell? ⟨w.heap.size, 2, none⟩ = some u2 ∧ V.cell? ⟨w.heap.size, 3, none⟩ = some u3 ∧ V.cell? ⟨w.heap.size, 4, none⟩ = some u4 ∧ V.cell? ⟨w.heap.size, 5, none⟩ = some u5 ∧ V.cell? ⟨w.heap.size, 6, none⟩ = some u6 ∧ V.cell? ⟨w.heap.size, 7, none⟩ = some u7 from fun V h => ⟨h, (h.cell (p := ⟨w.heap.size, 0, none⟩) l0).trans x0, (h.cell (p := ⟨w.heap.size, 1, none⟩) l0).trans x1, (h.cell (p := ⟨w.heap.size, 2, none⟩) l0).trans x2, (h.cell (p := ⟨w.heap.size, 3, none⟩) l0).trans x3, (h.cell (p := ⟨w.heap.size, 4, none⟩) l0).trans x4, (h.cell (p := ⟨w.heap.size, 5, none⟩) l0).trans x5, (h.cell (p := ⟨w.heap.size, 6, none⟩) l0).trans x6, (h.cell (p := ⟨w.heap.size, 7, none⟩) l0).trans x7⟩)
  clear WA WB WC HE3 HN3 HU3 HX3 HFA HFB HFF HUL HSL
  go_wp2_with fail
  refine wp_region_held_drew (S := fun W => Below X.heap.size X W ∧ W.cell? ⟨w.heap.size, 0, none⟩ = some u0 ∧ W.cell? ⟨w.heap.size, 1, none⟩ = some u1 ∧ W.cell? ⟨w.heap.size, 2, none⟩ = some u2 ∧ W.cell? ⟨w.heap.size, 3, none⟩ = some u3 ∧ W.cell? ⟨w.heap.size, 4, none⟩ = some u4 ∧ W.cell? ⟨w.heap.size, 5, none⟩ = some u5 ∧ W.cell? ⟨w.heap.size, 6, none⟩ = some u6 ∧ W.cell? ⟨w.heap.size, 7, none⟩ = some u7) (by kernel_rfl) (by first | exact SS | exact ⟨SS.1.drew, SS.2⟩) (fun hS => ?_)
  first
  | (refine wpAnyH_take (i := 0) (v := ?_) rfl (by kernel_rfl) (by kernel_rfl) (by kernel_rfl) (fun _ _ _ h => h) (Or.inl ⟨by rfl, ?_⟩) (by assumption) ?_
     rotate_left
     · (intro V hV; obtain ⟨_, x0, x1, x2, x3, x4, x5, x6, x7⟩ := hV; go_simp; try with_reducible rfl)
     try simp only [Act.put, List.getElem_toArray, List.getElem_cons_zero, List.setIfInBounds_toArray, List.set_cons_zero, List.set_cons_succ])
  | (refine wpAnyH_take (i := 0) (v := undef) rfl (by kernel_rfl) (by kernel_rfl) (by kernel_rfl) (fun _ _ _ h => h) (Or.inr ⟨by rfl, rfl⟩) (by assumption) ?_
     try simp only [Act.put, List.getElem_toArray, List.getElem_cons_zero, List.setIfInBounds_toArray, List.set_cons_zero, List.set_cons_succ])
  | fail "take 0"
  first
  | (refine wpAnyH_take (i := 1) (v := ?_) rfl (by kernel_rfl) (by kernel_rfl) (by kernel_rfl) (fun _ _ _ h => h) (Or.inl ⟨by rfl, ?_⟩) (by assumption) ?_
     rotate_left
     · (intro V hV; obtain ⟨_, x0, x1, x2, x3, x4, x5, x6, x7⟩ := hV; go_simp; try with_reducible rfl)
     try simp only [Act.put, List.getElem_toArray, List.getElem_cons_zero, List.getElem_cons_succ, List.setIfInBounds_toArray, List.set_cons_zero, List.set_cons_succ])
  | (refine wpAnyH_take (i := 1) (v := undef) rfl (by kernel_rfl) (by kernel_rfl) (by kernel_rfl) (fun _ _ _ h => h) (Or.inr ⟨by rfl, rfl⟩) (by assumption) ?_
     try simp only [Act.put, List.getElem_toArray, List.getElem_cons_zero, List.getElem_cons_succ, List.setIfInBounds_toArray, List.set_cons_zero, List.set_cons_succ])
  | fail "take 1"
  first
  | (refine wpAnyH_take (i := 2) (v := ?_) rfl (by kernel_rfl) (by kernel_rfl) (by kernel_rfl) (fun _ _ _ h => h) (Or.inl ⟨by rfl, ?_⟩) (by assumption) ?_
     rotate_left
     · (intro V hV; obtain ⟨_, x0, x1, x2, x3, x4, x5, x6, x7⟩ := hV; go_simp; try with_reducible rfl)
     try simp only [Act.put, List.getElem_toArray, List.getElem_cons_zero, List.getElem_cons_succ, List.setIfInBounds_toArray, List.set_cons_zero, List.set_cons_succ])
  | (refine wpAnyH_take (i := 2) (v := undef) rfl (by kernel_rfl) (by kernel_rfl) (by kernel_rfl) (fun _ _ _ h => h) (Or.inr ⟨by rfl, rfl⟩) (by assumption) ?_
     try simp only [Act.put, List.getElem_toArray, List.getElem_cons_zero, List.getElem_cons_succ, List.setIfInBounds_toArray, List.set_cons_zero, List.set_cons_succ])
  | fail "take 2"
  first
  | (refine wpAnyH_take (i := 4) (v := ?_) rfl (by kernel_rfl) (by kernel_rfl) (by kernel_rfl) (fun _ _ _ h => h) (Or.inl ⟨by rfl, ?_⟩) (by assumption) ?_
     rotate_left
     · (intro V hV; obtain ⟨_, x0, x1, x2, x3, x4, x5, x6, x7⟩ := hV; go_simp; try with_reducible rfl)
     try simp only [Act.put, List.getElem_toArray, List.getElem_cons_zero, List.getElem_cons_succ, List.setIfInBounds_toArray, List.set_cons_zero, List.set_cons_succ])
  | (refine wpAnyH_take (i := 4) (v := undef) rfl (by kernel_rfl) (by kernel_rfl) (by kernel_rfl) (fun _ _ _ h => h) (Or.inr ⟨by rfl, rfl⟩) (by assumption) ?_
     try simp only [Act.put, List.getElem_toArray, List.getElem_cons_zero, List.getElem_cons_succ, List.setIfInBounds_toArray, List.set_cons_zero, List.set_cons_succ])
  | fail "take 4"
  first
  | (refine wpAnyH_take (i := 5) (v := ?_) rfl (by kernel_rfl) (by kernel_rfl) (by kernel_rfl) (fun _ _ _ h => h) (Or.inl ⟨by rfl, ?_⟩) (by assumption) ?_
     rotate_left
     · (intro V hV; obtain ⟨_, x0, x1, x2, x3, x4, x5, x6, x7⟩ := hV; go_simp; try with_reducible rfl)
     try simp only [Act.put, List.getElem_toArray, List.getElem_cons_zero, List.getElem_cons_succ, List.setIfInBounds_toArray, List.set_cons_zero, List.set_cons_succ])
  | (refine wpAnyH_take (i := 5) (v := undef) rfl (by kernel_rfl) (by kernel_rfl) (by kernel_rfl) (fun _ _ _ h => h) (Or.inr ⟨by rfl, rfl⟩) (by assumption) ?_
     try simp only [Act.put, List.getElem_toArray, List.getElem_cons_zero, List.getElem_cons_succ, List.setIfInBounds_toArray, List.set_cons_zero, List.set_cons_succ])
  | fail "take 5"
  first
  | (refine wpAnyH_take (i := 6) (v := ?_) rfl (by kernel_rfl) (by kernel_rfl) (by kernel_rfl) (fun _ _ _ h => h) (Or.inl ⟨by rfl, ?_⟩) (by assumption) ?_
     rotate_left
     · (intro V hV; obtain ⟨_, x0, x1, x2, x3, x4, x5, x6, x7⟩ := hV; go_simp; try with_reducible rfl)
     try simp only [Act.put, List.getElem_toArray, List.getElem_cons_zero, List.getElem_cons_succ, List.setIfInBounds_toArray, List.set_cons_zero, List.set_cons_succ])
  | (refine wpAnyH_take (i := 6) (v := undef) rfl (by kernel_rfl) (by kernel_rfl) (by kernel_rfl) (fun _ _ _ h => h) (Or.inr ⟨by rfl, rfl⟩) (by assumption) ?_
     try simp only [Act.put, List.getElem_toArray, List.getElem_cons_zero, List.getElem_cons_succ, List.setIfInBounds_toArray, List.set_cons_zero, List.set_cons_succ])
  | fail "take 6"
  refine wpAnyH_ready (rs := [3]) (by kernel_rfl) (by simp) ?_
  refine AllReadyH.cons rfl (fun K hK => ?_) AllReadyH.nil
  go_simp
  refine (CS.out _ hS.1).mono ?_
  rintro e wS ⟨qs, rfl, hq, hb⟩
  obtain ⟨q0, q1, q2, q3, q4, q5, q6, q7, rfl⟩ := ex_eight2 hq
  have HQ := Lib.hid (show (a.subst ns vs).dat.H wS _ from hq.wide fun b h => h.2)
  have SS := KP.out wS (hS.1.trans (hb.mono hS.1.size))
  clear hS hb hq
  refine hK.out _ _ SS (fun hS => ?_)
  clear hK K
  try simp only [Act.put, List.getElem_toArray, List.getElem_cons_zero, List.getElem_cons_succ, List.setIfInBounds_toArray, List.set_cons_zero, List.set_cons_succ]
  refine wpAnyH_ready (rs := [7]) (by kernel_rfl) (by simp) ?_
  refine AllReadyH.cons rfl (fun K hK => ?_) AllReadyH.nil
  go_simp
  refine (CR.out _ hS.1).mono ?_
  rintro e wR ⟨ps, rfl, hp, hb⟩
  obtain ⟨p0, p1, p2, p3, p4, p5, p6, p7, rfl⟩ := ex_eight2 hp
  have HP := Lib.hid (show (a.subst ns vs).dat.H wR _ from hp.plain.wide fun b h => h.2)
  have HQ2 := Lib.hid (Dat.H.later HQ.out hb)
  have SS := KP.out wR (hS.1.trans (hb.mono hS.1.size))
  clear hS hb hp HQ
  refine hK.out _ _ SS (fun hS => ?_)
  clear hK K
  try simp only [Act.put, List.getElem_toArray, List.getElem_cons_zero, List.getElem_cons_succ, List.setIfInBounds_toArray, List.set_cons_zero, List.set_cons_succ]
  refine wpAnyH_ready (rs := [8]) (by kernel_rfl) (by simp) ?_
  refine AllReadyH.cons rfl (fun K hK => ?_) AllReadyH.nil
  go_simp
  refine (xref_equal_any _ _ _ _ _ HQ2.out HP.out).mono ?_
  rintro e wE ⟨rfl, hb⟩
  rw [eqv_self]
  have SS := KP.out wE (hS.1.trans (hb.mono hS.1.size))
  clear hS hb HQ2 HP
  refine hK.out _ _ SS (fun hS => ?_)
  clear hK K
  try simp only [Act.put, List.getElem_toArray, List.getElem_cons_zero, List.getElem_cons_succ, List.setIfInBounds_toArray, List.set_cons_zero, List.set_cons_succ]
  first
  | (refine wpAnyH_take (i := 9) (v := ?_) rfl (by kernel_rfl) (by kernel_rfl) (by kernel_rfl) (fun _ _ _ h => h) (Or.inl ⟨by rfl, ?_⟩) (by assumption) ?_
     rotate_left
     · (intro V hV; obtain ⟨_, x0, x1, x2, x3, x4, x5, x6, x7⟩ := hV; go_simp; try with_reducible rfl)
     try simp only [Act.put, List.getElem_toArray, List.getElem_cons_zero, List.getElem_cons_succ, List.setIfInBounds_toArray, List.set_cons_zero, List.set_cons_succ])
  | (refine wpAnyH_take (i := 9) (v := undef) rfl (by kernel_rfl) (by kernel_rfl) (by kernel_rfl) (fun _ _ _ h => h) (Or.inr ⟨by rfl, rfl⟩) (by assumption) ?_
     try simp only [Act.put, List.getElem_toArray, List.getElem_cons_zero, List.getElem_cons_succ, List.setIfInBounds_toArray, List.set_cons_zero, List.set_cons_succ])
  | fail "take 9"
  first
  | (refine wpAnyH_take (i := 10) (v := ?_) rfl (by kernel_rfl) (by kernel_rfl) (by kernel_rfl) (fun _ _ _ h => h) (Or.inl ⟨by rfl, ?_⟩) (by assumption) ?_
     rotate_left
     · (intro V hV; obtain ⟨_, x0, x1, x2, x3, x4, x5, x6, x7⟩ := hV; go_simp; try with_reducible rfl)
     try simp only [Act.put, List.getElem_toArray, List.getElem_cons_zero, List.getElem_cons_succ, List.setIfInBounds_toArray, List.set_cons_zero, List.set_cons_succ])
  | (refine wpAnyH_take (i := 10) (v := undef) rfl (by kernel_rfl) (by kernel_rfl) (by kernel_rfl) (fun _ _ _ h => h) (Or.inr ⟨by rfl, rfl⟩) (by assumption) ?_
     try simp only [Act.put, List.getElem_toArray, List.getElem_cons_zero, List.getElem_cons_succ, List.setIfInBounds_toArray, List.set_cons_zero, List.set_cons_succ])
  | fail "take 10"
  first
  | (refine wpAnyH_take (i := 12) (v := ?_) rfl (by kernel_rfl) (by kernel_rfl) (by kernel_rfl) (fun _ _ _ h => h) (Or.inl ⟨by rfl, ?_⟩) (by assumption) ?_
     rotate_left
     · (intro V hV; obtain ⟨_, x0, x1, x2, x3, x4, x5, x6, x7⟩ := hV; go_simp; try with_reducible rfl)
     try simp only [Act.put, List.getElem_toArray, List.getElem_cons_zero, List.getElem_cons_succ, List.setIfInBounds_toArray, List.set_cons_zero, List.set_cons_succ])
  | (refine wpAnyH_take (i := 12) (v := undef) rfl (by kernel_rfl) (by kernel_rfl) (by kernel_rfl) (fun _ _ _ h => h) (Or.inr ⟨by rfl, rfl⟩) (by assumption) ?_
     try simp only [Act.put, List.getElem_toArray, List.getElem_cons_zero, List.getElem_cons_succ, List.setIfInBounds_toArray, List.set_cons_zero, List.set_cons_succ])
  | fail "take 12"
  refine wpAnyH_ready (rs := [11]) (by kernel_rfl) (by simp) ?_
  refine AllReadyH.cons rfl (fun K hK => ?_) AllReadyH.nil
  go_simp
  refine (CC.out _ hS.1).mono ?_
  rintro e wC ⟨qs, rfl, hq, hb⟩
  obtain ⟨c0, c1, c2, c3, c4, c5, c6, c7, rfl⟩ := ex_eight2 hq
  have HQ := Lib.hid (show a.dat.H wC _ from hq.wide fun b h => h.2)
  have SS := KP.out wC (hS.1.trans (hb.mono hS.1.size))
  clear hS hb hq
  refine hK.out _ _ SS (fun hS => ?_)
  clear hK K
  try simp only [Act.put, List.getElem_toArray, List.getElem_cons_zero, List.getElem_cons_succ, List.setIfInBounds_toArray, List.set_cons_zero, List.set_cons_succ]
  refine wpAnyH_ready (rs := [13]) (by kernel_rfl) (by simp) ?_
  refine AllReadyH.cons rfl (fun K hK => ?_) AllReadyH.nil
  go_simp
  refine (xref_equal_any _ _ _ _ _ HQ.out (HD.out _ hS.1)).mono ?_
  rintro e wF ⟨rfl, hb⟩
  rw [eqv_self]
  have SS := KP.out wF (hS.1.trans (hb.mono hS.1.size))
  clear hS hb HQ
  refine hK.out _ _ SS (fun hS => ?_)
  clear hK K
  try simp only [Act.put, List.getElem_toArray, List.getElem_cons_zero, List.getElem_cons_succ, List.setIfInBounds_toArray, List.set_cons_zero, List.set_cons_succ]
  first
  | (refine wpAnyH_take (i := 14) (v := ?_) rfl (by kernel_rfl) (by kernel_rfl) (by kernel_rfl) (fun _ _ _ h => h) (Or.inl ⟨by rfl, ?_⟩) (by assumption) ?_
     rotate_left
     · (intro V hV; obtain ⟨_, x0, x1, x2, x3, x4, x5, x6, x7⟩ := hV; go_simp; try with_reducible rfl)
     try simp only [Act.put, List.getElem_toArray, List.getElem_cons_zero, List.getElem_cons_succ, List.setIfInBounds_toArray, List.set_cons_zero, List.set_cons_succ])
  | (refine wpAnyH_take (i := 14) (v := undef) rfl (by kernel_rfl) (by kernel_rfl) (by kernel_rfl) (fun _ _ _ h => h) (Or.inr ⟨by rfl, rfl⟩) (by assumption) ?_
     try simp only [Act.put, List.getElem_toArray, List.getElem_cons_zero, List.getElem_cons_succ, List.setIfInBounds_toArray, List.set_cons_zero, List.set_cons_succ])
  | fail "take 14"
  first
  | (refine wpAnyH_take (i := 15) (v := ?_) rfl (by kernel_rfl) (by kernel_rfl) (by kernel_rfl) (fun _ _ _ h => h) (Or.inl ⟨by rfl, ?_⟩) (by assumption) ?_
     rotate_left
     · (intro V hV; obtain ⟨_, x0, x1, x2, x3, x4, x5, x6, x7⟩ := hV; go_simp; try with_reducible rfl)
     try simp only [Act.put, List.getElem_toArray, List.getElem_cons_zero, List.getElem_cons_succ, List.setIfInBounds_toArray, List.set_cons_zero, List.set_cons_succ])
  | (refine wpAnyH_take (i := 15) (v := undef) rfl (by kernel_rfl) (by kernel_rfl) (by kernel_rfl) (fun _ _ _ h => h) (Or.inr ⟨by rfl, rfl⟩) (by assumption) ?_
     try simp only [Act.put, List.getElem_toArray, List.getElem_cons_zero, List.getElem_cons_succ, List.setIfInBounds_toArray, List.set_cons_zero, List.set_cons_succ])
  | fail "take 15"
  refine wpAnyH_done (by kernel_rfl) ?_ _
  go_wp2
  go_ret
  exact ⟨rfl, HBX.out.trans (Below.mono hS.1 HBX.out.size)⟩
end Go.Proofs.YtnfakhohoibkpaaDoor
