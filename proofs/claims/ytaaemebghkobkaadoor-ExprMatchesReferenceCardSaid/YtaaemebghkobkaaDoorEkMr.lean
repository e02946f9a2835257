/- The walk of the law ExprMatchesReference: true, at every input. The condition: the table of words. -/
import Derived.Test.YtaaemebghkobkaaDoorEkAw
import Derived.Test.YtaaemebghkobkaaDoorExQ
import Derived.Test.YtaaemebghkobkaaDoorExH
import Derived.Deep.RegionHeld3
namespace Go.Proofs.YtaaemebghkobkaaDoor
open Go.RowKit

theorem EqvPost.from {X V w' : World} {c : Bool} {e : Ending} (hV : Below X.heap.size X V) (h : EqvPost V c e w') : EqvPost X c e w' := ⟨h.1, hV.trans (h.2.mono hV.size)⟩
theorem TxtPost.from {X V w' : World} {c : List UInt8} {e : Ending} (hV : Below X.heap.size X V) (h : TxtPost V c e w') : TxtPost X c e w' := ⟨h.1, hV.trans (h.2.mono hV.size)⟩
theorem NatPost.from {X V w' : World} {c : Nat} {e : Ending} (hV : Below X.heap.size X V) (h : NatPost V c e w') : NatPost X c e w' := ⟨h.1, hV.trans (h.2.mono hV.size)⟩
theorem xfew_wt {e : Ex} (h : e.few = true) : e.wt ≤ 250 := by
  unfold Ex.few at h
  exact Ex.wt_of_cnt (of_decide_eq_true h)
theorem ex_eight {w : World} {N : Prop} {S : Nat → Prop} {e : Ex} {us : List Value} (h : e.dat.In w N S us) : ∃ u0 u1 u2 u3 u4 u5 u6 u7, us = [u0, u1, u2, u3, u4, u5, u6, u7] := by
  obtain ⟨A, m, a, B, l, b, C, n, c, rfl, _⟩ := ex_open h
  exact ⟨_, _, _, _, _, _, _, _, rfl⟩
theorem same_self : ∀ e : Ex, e.same e = true := by
  refine Ex.ind fun k s t ts xs o ih => ?_
  rw [Ex.same_mk]
  have hL : ∀ l : List Ex, (∀ x ∈ l, x ∈ xs) → Ex.sameL l l = true := by
    intro l
    induction l with
    | nil => intro _; rw [Ex.sameL]
    | cons a r ih2 =>
      intro h
      rw [Ex.sameL, ih a (h a (by simp)), ih2 fun x hx => h x (by simp [hx])]
      rfl
  have hc : ∀ t : Ty, Ty.cmp t t = 0 := fun t => by have := Ty.cmp_neg t t; omega
  have hT : ∀ l : List Ty, Ex.sameT l l = true := by
    intro l
    induction l with
    | nil => rw [Ex.sameT]
    | cons a r ih => rw [Ex.sameT, hc a, ih]; rfl
  exact ⟨rfl, rfl, hc t, hT ts, hL xs fun _ h => h⟩

set_option maxRecDepth 100000 in
set_option maxHeartbeats 16000000 in
theorem xmatch_any (a b : Ex) (us vs : List Value) (w : World) (h1 : a.dat.H w us) (h2 : b.dat.H w vs) (hE : ResVar w) :
    Calls Tryd.prog 3 #[.agg us.toArray, .agg vs.toArray] w fun e w' => e = .returned (.bool true) ∧ Below w.heap.size w w' := by
  have hx := Boxd.pair w us.toArray vs.toArray 27
  have HX := Lib.hid hx.2.1
  have HY := Lib.hid hx.2.2
  have H1_ := Lib.hid (Dat.H.later h1 hx.1)
  have H2_ := Lib.hid (Dat.H.later h2 hx.1)
  have HE := Lib.hid (hE.later hx.1)
  have HB := Lib.hid hx.1
  obtain ⟨fa, hfa⟩ : ∃ x, a.few = x := ⟨_, rfl⟩
  obtain ⟨fb, hfb⟩ : ∃ x, b.few = x := ⟨_, rfl⟩
  have HFA := Lib.hid hfa
  have HFB := Lib.hid hfb
  obtain ⟨u0, u1, u2, u3, u4, u5, u6, u7, rfl⟩ := ex_eight h1
  obtain ⟨v0, v1, v2, v3, v4, v5, v6, v7, rfl⟩ := ex_eight h2
  clear hx h1 h2 hE hfa hfb
  go_enter Tryd.func3, Tryd.ntmps3
  go_wp2_with fail
  generalize hW : (w.alloc (.cells #[u0, u1, u2, u3, u4, u5, u6, u7] 27)).alloc (.cells #[v0, v1, v2, v3, v4, v5, v6, v7] 27) = W at *
  clear hW
  refine (xawake_any _ HE.out).mono ?_
  rintro e w1 ⟨rfl, hb⟩
  have HE1 := Lib.hid (HE.out.later hb)
  have H1_1 := Lib.hid (Dat.H.later H1_.out hb)
  have H2_1 := Lib.hid (Dat.H.later H2_.out hb)
  have HX1 := Lib.hid (HX.out.later hb)
  have HY1 := Lib.hid (HY.out.later hb)
  have HB1 := Lib.hid (HB.out.trans (hb.mono HB.out.size))
  clear hb HE H1_ H2_ HX HY HB
  obtain ⟨x0, x1, x2, x3, x4, x5, x6, x7⟩ := HX1.out.c8
  obtain ⟨y0, y1, y2, y3, y4, y5, y6, y7⟩ := HY1.out.c8
  go_wp2_with fail
  refine (xfew_any a _ _ H1_1.out).mono ?_
  rintro e w2 ⟨rfl, hb⟩
  rw [HFA.out]
  have HE2 := Lib.hid (HE1.out.later hb)
  have H1_2 := Lib.hid (Dat.H.later H1_1.out hb)
  have H2_2 := Lib.hid (Dat.H.later H2_1.out hb)
  have HX2 := Lib.hid (HX1.out.later hb)
  have HY2 := Lib.hid (HY1.out.later hb)
  have HB2 := Lib.hid (HB1.out.trans (hb.mono HB1.out.size))
  clear hb HE1 H1_1 H2_1 HX1 HY1 HB1
  clear x0 x1 x2 x3 x4 x5 x6 x7 y0 y1 y2 y3 y4 y5 y6 y7
  cases fa
  · skip
    go_wp2_with fail
    refine (xawake_any _ HE2.out).mono ?_
    rintro e w9 ⟨rfl, hb⟩
    have HB9 := Lib.hid (HB2.out.trans (hb.mono HB2.out.size))
    clear hb
    go_wp2_with fail
    go_ret
    exact ⟨rfl, HB9.out⟩
  obtain ⟨x0, x1, x2, x3, x4, x5, x6, x7⟩ := HX2.out.c8
  obtain ⟨y0, y1, y2, y3, y4, y5, y6, y7⟩ := HY2.out.c8
  go_wp2_with fail
  refine (xfew_any b _ _ H2_2.out).mono ?_
  rintro e X ⟨rfl, hb⟩
  rw [HFB.out]
  have HE3 := Lib.hid (HE2.out.later hb)
  have H1_3 := Lib.hid (Dat.H.later H1_2.out hb)
  have H2_3 := Lib.hid (Dat.H.later H2_2.out hb)
  have HX3 := Lib.hid (HX2.out.later hb)
  have HY3 := Lib.hid (HY2.out.later hb)
  have HB3 := Lib.hid (HB2.out.trans (hb.mono HB2.out.size))
  clear hb HE2 H1_2 H2_2 HX2 HY2 HB2
  clear x0 x1 x2 x3 x4 x5 x6 x7 y0 y1 y2 y3 y4 y5 y6 y7
  cases fb
  · skip
    go_wp2_with fail
    refine (xawake_any _ HE3.out).mono ?_
    rintro e w9 ⟨rfl, hb⟩
    have HB9 := Lib.hid (HB3.out.trans (hb.mono HB3.out.size))
    clear hb
    go_wp2_with fail
    go_ret
    exact ⟨rfl, HB9.out⟩
  obtain ⟨x0, x1, x2, x3, x4, x5, x6, x7⟩ := HX3.out.c8
  obtain ⟨y0, y1, y2, y3, y4, y5, y6, y7⟩ := HY3.out.c8
  have l0 := cell_lt x0
  have l1 := cell_lt y0
  have WA := Lib.hid (xfew_wt HFA.out)
  have WB := Lib.hid (xfew_wt HFB.out)
  have H1 := H1_3
  have H2 := H2_3
  have CEp := Lib.hid (fun (V : World) (hV : Below X.heap.size X V) => (show Calls Tryd.prog 10 #[.agg #[u0, u1, u2, u3, u4, u5, u6, u7]] V _ from xright_any a _ V (HE3.out.later hV) (Nat.le_trans WA.out (by omega)) (Dat.H.later H1.out hV)).mono fun e w' h => EqvPost.from hV h)
  have CEr := Lib.hid (fun (V : World) (hV : Below X.heap.size X V) => (show Calls Tryd.prog 11 #[.agg #[u0, u1, u2, u3, u4, u5, u6, u7]] V _ from xref_right_any a _ V (Nat.le_trans WA.out (by omega)) (Dat.H.later H1.out hV)).mono fun e w' h => EqvPost.from hV h)
  have CEs := Lib.hid (fun (V : World) (hV : Below X.heap.size X V) => (show Calls Tryd.prog 12 #[.agg #[u0, u1, u2, u3, u4, u5, u6, u7], .agg #[v0, v1, v2, v3, v4, v5, v6, v7]] V _ from xsame_any a b _ _ V (Dat.H.later H1.out hV) (Dat.H.later H2.out hV)).mono fun e w' h => EqvPost.from hV h)
  have CEt := Lib.hid (fun (V : World) (hV : Below X.heap.size X V) => (show Calls Tryd.prog 13 #[.agg #[u0, u1, u2, u3, u4, u5, u6, u7], .agg #[v0, v1, v2, v3, v4, v5, v6, v7]] V _ from xref_same_any a b _ _ V (Dat.H.later H1.out hV) (Dat.H.later H2.out hV)).mono fun e w' h => EqvPost.from hV h)
  have CEu := Lib.hid (fun (V : World) (hV : Below X.heap.size X V) => (show Calls Tryd.prog 12 #[.agg #[u0, u1, u2, u3, u4, u5, u6, u7], .agg #[u0, u1, u2, u3, u4, u5, u6, u7]] V _ from xsame_any a a _ _ V (Dat.H.later H1.out hV) (Dat.H.later H1.out hV)).mono fun e w' h => EqvPost.from hV h)
  have CEq := Lib.hid (fun (V : World) (hV : Below X.heap.size X V) => (show Calls Tryd.prog 11 #[.agg #[v0, v1, v2, v3, v4, v5, v6, v7]] V _ from xref_right_any b _ V (Nat.le_trans WB.out (by omega)) (Dat.H.later H2.out hV)).mono fun e w' h => EqvPost.from hV h)
  rw [same_self] at CEu
  have CNp := Lib.hid (fun (V : World) (hV : Below X.heap.size X V) => (show Calls Tryd.prog 16 #[.agg #[u0, u1, u2, u3, u4, u5, u6, u7]] V _ from xdepth_any a _ V (by have := a.depth_wt; have := WA.out; omega) (Dat.H.later H1.out hV)).mono fun e w' h => NatPost.from hV h)
  have CNr := Lib.hid (fun (V : World) (hV : Below X.heap.size X V) => (show Calls Tryd.prog 17 #[.agg #[u0, u1, u2, u3, u4, u5, u6, u7]] V _ from xref_depth_any a _ V (by have := a.depth_wt; have := WA.out; omega) (Dat.H.later H1.out hV)).mono fun e w' h => NatPost.from hV h)
  have CEv := Lib.hid (fun (V : World) (hV : Below X.heap.size X V) => (show Calls Tryd.prog 18 #[.agg #[u0, u1, u2, u3, u4, u5, u6, u7]] V _ from xvalue_any a _ V (Nat.le_trans WA.out (by omega)) (Dat.H.later H1.out hV)).mono fun e w' h => EqvPost.from hV h)
  have CEw := Lib.hid (fun (V : World) (hV : Below X.heap.size X V) => (show Calls Tryd.prog 19 #[.agg #[u0, u1, u2, u3, u4, u5, u6, u7]] V _ from xref_value_any a _ V (Dat.H.later H1.out hV)).mono fun e w' h => EqvPost.from hV h)
  have CTp := Lib.hid (fun (hr : a.right = true) (V : World) (hV : Below X.heap.size X V) => (show Calls Tryd.prog 14 #[.agg #[u0, u1, u2, u3, u4, u5, u6, u7]] V _ from xtext_any a _ V hr (Nat.le_trans WA.out (by omega)) (by have := a.text_wt; have := WA.out; omega) (Dat.H.later H1.out hV)).mono fun e w' h => TxtPost.from hV h)
  have CTr := Lib.hid (fun (hr : a.right = true) (V : World) (hV : Below X.heap.size X V) => (show Calls Tryd.prog 15 #[.agg #[u0, u1, u2, u3, u4, u5, u6, u7]] V _ from xref_text_any a _ V hr (by have := a.text_wt; have := WA.out; omega) (Dat.H.later H1.out hV)).mono fun e w' h => TxtPost.from hV h)
  have CTq := Lib.hid (fun (hr : b.right = true) (V : World) (hV : Below X.heap.size X V) => (show Calls Tryd.prog 14 #[.agg #[v0, v1, v2, v3, v4, v5, v6, v7]] V _ from xtext_any b _ V hr (Nat.le_trans WB.out (by omega)) (by have := b.text_wt; have := WB.out; omega) (Dat.H.later H2.out hV)).mono fun e w' h => TxtPost.from hV h)
  have HTI := Lib.hid (fun (h1 : a.right = true) (h2 : b.right = true) => Ex.text_iff h1 h2)
  have HD := Lib.hid (show a.depth ≤ 1000 by have := a.depth_wt; have := WA.out; omega)
  have SS : Below X.heap.size X X ∧ X.cell? ⟨w.heap.size, 0, none⟩ = some u0 ∧ X.cell? ⟨w.heap.size, 1, none⟩ = some u1 ∧ X.cell? ⟨w.heap.size, 2, none⟩ = some u2 ∧ X.cell? ⟨w.heap.size, 3, none⟩ = some u3 ∧ X.cell? ⟨w.heap.size, 4, none⟩ = some u4 ∧ X.cell? ⟨w.heap.size, 5, none⟩ = some u5 ∧ X.cell? ⟨w.heap.size, 6, none⟩ = some u6 ∧ X.cell? ⟨w.heap.size, 7, none⟩ = some u7 ∧ X.cell? ⟨w.heap.size + 1, 0, none⟩ = some v0 ∧ X.cell? ⟨w.heap.size + 1, 1, none⟩ = some v1 ∧ X.cell? ⟨w.heap.size + 1, 2, none⟩ = some v2 ∧ X.cell? ⟨w.heap.size + 1, 3, none⟩ = some v3 ∧ X.cell? ⟨w.heap.size + 1, 4, none⟩ = some v4 ∧ X.cell? ⟨w.heap.size + 1, 5, none⟩ = some v5 ∧ X.cell? ⟨w.heap.size + 1, 6, none⟩ = some v6 ∧ X.cell? ⟨w.heap.size + 1, 7, none⟩ = some v7 := ⟨Below.refl _ _, x0, x1, x2, x3, x4, x5, x6, x7, y0, y1, y2, y3, y4, y5, y6, y7⟩
  clear WA WB H1 H2 H1_3 H2_3 HE3 HFA HFB HX3 HY3
  generalize a.same b = sm at *
  generalize a.text = TX at *
  generalize b.text = TY at *
  generalize a.depth = DP at *
  generalize a.value = VA at *
  generalize hra : a.right = RA at *
  generalize hrb : b.right = RB at *
  go_wp2_with fail
  refine wp_region_held_drew (S := fun W => Below X.heap.size X W ∧ W.cell? ⟨w.heap.size, 0, none⟩ = some u0 ∧ W.cell? ⟨w.heap.size, 1, none⟩ = some u1 ∧ W.cell? ⟨w.heap.size, 2, none⟩ = some u2 ∧ W.cell? ⟨w.heap.size, 3, none⟩ = some u3 ∧ W.cell? ⟨w.heap.size, 4, none⟩ = some u4 ∧ W.cell? ⟨w.heap.size, 5, none⟩ = some u5 ∧ W.cell? ⟨w.heap.size, 6, none⟩ = some u6 ∧ W.cell? ⟨w.heap.size, 7, none⟩ = some u7 ∧ W.cell? ⟨w.heap.size + 1, 0, none⟩ = some v0 ∧ W.cell? ⟨w.heap.size + 1, 1, none⟩ = some v1 ∧ W.cell? ⟨w.heap.size + 1, 2, none⟩ = some v2 ∧ W.cell? ⟨w.heap.size + 1, 3, none⟩ = some v3 ∧ W.cell? ⟨w.heap.size + 1, 4, none⟩ = some v4 ∧ W.cell? ⟨w.heap.size + 1, 5, none⟩ = some v5 ∧ W.cell? ⟨w.heap.size + 1, 6, none⟩ = some v6 ∧ W.cell? ⟨w.heap.size + 1, 7, none⟩ = some v7) (by kernel_rfl) (by first | exact SS | exact ⟨SS.1.drew, SS.2⟩) (fun hS => ?_)
  first
  | (refine wpAnyH_take (i := 0) (v := ?_) rfl (by kernel_rfl) (by kernel_rfl) (by kernel_rfl) (fun _ _ _ h => h) (Or.inl ⟨by rfl, ?_⟩) (by assumption) ?_
     rotate_left
     · (intro V hV; obtain ⟨_, x0, x1, x2, x3, x4, x5, x6, x7, y0, y1, y2, y3, y4, y5, y6, y7⟩ := hV; go_simp; try with_reducible rfl)
     try simp only [Act.put, List.getElem_toArray, List.getElem_cons_zero, List.setIfInBounds_toArray, List.set_cons_zero, List.set_cons_succ])
  | (refine wpAnyH_take (i := 0) (v := undef) rfl (by kernel_rfl) (by kernel_rfl) (by kernel_rfl) (fun _ _ _ h => h) (Or.inr ⟨by rfl, rfl⟩) (by assumption) ?_
     try simp only [Act.put, List.getElem_toArray, List.getElem_cons_zero, List.setIfInBounds_toArray, List.set_cons_zero, List.set_cons_succ])
  | fail "take 0"
  first
  | (refine wpAnyH_take (i := 2) (v := ?_) rfl (by kernel_rfl) (by kernel_rfl) (by kernel_rfl) (fun _ _ _ h => h) (Or.inl ⟨by rfl, ?_⟩) (by assumption) ?_
     rotate_left
     · (intro V hV; obtain ⟨_, x0, x1, x2, x3, x4, x5, x6, x7, y0, y1, y2, y3, y4, y5, y6, y7⟩ := hV; go_simp; try with_reducible rfl)
     try simp only [Act.put, List.getElem_toArray, List.getElem_cons_zero, List.getElem_cons_succ, List.setIfInBounds_toArray, List.set_cons_zero, List.set_cons_succ])
  | (refine wpAnyH_take (i := 2) (v := undef) rfl (by kernel_rfl) (by kernel_rfl) (by kernel_rfl) (fun _ _ _ h => h) (Or.inr ⟨by rfl, rfl⟩) (by assumption) ?_
     try simp only [Act.put, List.getElem_toArray, List.getElem_cons_zero, List.getElem_cons_succ, List.setIfInBounds_toArray, List.set_cons_zero, List.set_cons_succ])
  | fail "take 2"
  refine wpAnyH_ready (rs := [1]) (by kernel_rfl) (by simp) ?_
  refine AllReadyH.cons rfl (fun K hK => ?_) AllReadyH.nil
  go_simp
  refine (CEp.out _ hS.1).mono ?_
  rintro e Wv ⟨rfl, hb⟩
  have SS : Below X.heap.size X Wv ∧ Wv.cell? ⟨w.heap.size, 0, none⟩ = some u0 ∧ Wv.cell? ⟨w.heap.size, 1, none⟩ = some u1 ∧ Wv.cell? ⟨w.heap.size, 2, none⟩ = some u2 ∧ Wv.cell? ⟨w.heap.size, 3, none⟩ = some u3 ∧ Wv.cell? ⟨w.heap.size, 4, none⟩ = some u4 ∧ Wv.cell? ⟨w.heap.size, 5, none⟩ = some u5 ∧ Wv.cell? ⟨w.heap.size, 6, none⟩ = some u6 ∧ Wv.cell? ⟨w.heap.size, 7, none⟩ = some u7 ∧ Wv.cell? ⟨w.heap.size + 1, 0, none⟩ = some v0 ∧ Wv.cell? ⟨w.heap.size + 1, 1, none⟩ = some v1 ∧ Wv.cell? ⟨w.heap.size + 1, 2, none⟩ = some v2 ∧ Wv.cell? ⟨w.heap.size + 1, 3, none⟩ = some v3 ∧ Wv.cell? ⟨w.heap.size + 1, 4, none⟩ = some v4 ∧ Wv.cell? ⟨w.heap.size + 1, 5, none⟩ = some v5 ∧ Wv.cell? ⟨w.heap.size + 1, 6, none⟩ = some v6 ∧ Wv.cell? ⟨w.heap.size + 1, 7, none⟩ = some v7 := ⟨hb, (hb.cell (p := ⟨w.heap.size, 0, none⟩) l0).trans x0, (hb.cell (p := ⟨w.heap.size, 1, none⟩) l0).trans x1, (hb.cell (p := ⟨w.heap.size, 2, none⟩) l0).trans x2, (hb.cell (p := ⟨w.heap.size, 3, none⟩) l0).trans x3, (hb.cell (p := ⟨w.heap.size, 4, none⟩) l0).trans x4, (hb.cell (p := ⟨w.heap.size, 5, none⟩) l0).trans x5, (hb.cell (p := ⟨w.heap.size, 6, none⟩) l0).trans x6, (hb.cell (p := ⟨w.heap.size, 7, none⟩) l0).trans x7, (hb.cell (p := ⟨w.heap.size + 1, 0, none⟩) l1).trans y0, (hb.cell (p := ⟨w.heap.size + 1, 1, none⟩) l1).trans y1, (hb.cell (p := ⟨w.heap.size + 1, 2, none⟩) l1).trans y2, (hb.cell (p := ⟨w.heap.size + 1, 3, none⟩) l1).trans y3, (hb.cell (p := ⟨w.heap.size + 1, 4, none⟩) l1).trans y4, (hb.cell (p := ⟨w.heap.size + 1, 5, none⟩) l1).trans y5, (hb.cell (p := ⟨w.heap.size + 1, 6, none⟩) l1).trans y6, (hb.cell (p := ⟨w.heap.size + 1, 7, none⟩) l1).trans y7⟩
  clear hS hb
  refine hK.out _ _ SS (fun hS => ?_)
  clear hK K
  try simp only [Act.put, List.getElem_toArray, List.getElem_cons_zero, List.getElem_cons_succ, List.setIfInBounds_toArray, List.set_cons_zero, List.set_cons_succ]
  refine wpAnyH_ready (rs := [3]) (by kernel_rfl) (by simp) ?_
  refine AllReadyH.cons rfl (fun K hK => ?_) AllReadyH.nil
  go_simp
  refine (CEr.out _ hS.1).mono ?_
  rintro e Wv ⟨rfl, hb⟩
  have SS : Below X.heap.size X Wv ∧ Wv.cell? ⟨w.heap.size, 0, none⟩ = some u0 ∧ Wv.cell? ⟨w.heap.size, 1, none⟩ = some u1 ∧ Wv.cell? ⟨w.heap.size, 2, none⟩ = some u2 ∧ Wv.cell? ⟨w.heap.size, 3, none⟩ = some u3 ∧ Wv.cell? ⟨w.heap.size, 4, none⟩ = some u4 ∧ Wv.cell? ⟨w.heap.size, 5, none⟩ = some u5 ∧ Wv.cell? ⟨w.heap.size, 6, none⟩ = some u6 ∧ Wv.cell? ⟨w.heap.size, 7, none⟩ = some u7 ∧ Wv.cell? ⟨w.heap.size + 1, 0, none⟩ = some v0 ∧ Wv.cell? ⟨w.heap.size + 1, 1, none⟩ = some v1 ∧ Wv.cell? ⟨w.heap.size + 1, 2, none⟩ = some v2 ∧ Wv.cell? ⟨w.heap.size + 1, 3, none⟩ = some v3 ∧ Wv.cell? ⟨w.heap.size + 1, 4, none⟩ = some v4 ∧ Wv.cell? ⟨w.heap.size + 1, 5, none⟩ = some v5 ∧ Wv.cell? ⟨w.heap.size + 1, 6, none⟩ = some v6 ∧ Wv.cell? ⟨w.heap.size + 1, 7, none⟩ = some v7 := ⟨hb, (hb.cell (p := ⟨w.heap.size, 0, none⟩) l0).trans x0, (hb.cell (p := ⟨w.heap.size, 1, none⟩) l0).trans x1, (hb.cell (p := ⟨w.heap.size, 2, none⟩) l0).trans x2, (hb.cell (p := ⟨w.heap.size, 3, none⟩) l0).trans x3, (hb.cell (p := ⟨w.heap.size, 4, none⟩) l0).trans x4, (hb.cell (p := ⟨w.heap.size, 5, none⟩) l0).trans x5, (hb.cell (p := ⟨w.heap.size, 6, none⟩) l0).trans x6, (hb.cell (p := ⟨w.heap.size, 7, none⟩) l0).trans x7, (hb.cell (p := ⟨w.heap.size + 1, 0, none⟩) l1).trans y0, (hb.cell (p := ⟨w.heap.size + 1, 1, none⟩) l1).trans y1, (hb.cell (p := ⟨w.heap.size + 1, 2, none⟩) l1).trans y2, (hb.cell (p := ⟨w.heap.size + 1, 3, none⟩) l1).trans y3, (hb.cell (p := ⟨w.heap.size + 1, 4, none⟩) l1).trans y4, (hb.cell (p := ⟨w.heap.size + 1, 5, none⟩) l1).trans y5, (hb.cell (p := ⟨w.heap.size + 1, 6, none⟩) l1).trans y6, (hb.cell (p := ⟨w.heap.size + 1, 7, none⟩) l1).trans y7⟩
  clear hS hb
  refine hK.out _ _ SS (fun hS => ?_)
  clear hK K
  try simp only [Act.put, List.getElem_toArray, List.getElem_cons_zero, List.getElem_cons_succ, List.setIfInBounds_toArray, List.set_cons_zero, List.set_cons_succ]
  first
  | (refine wpAnyH_take (i := 4) (v := ?_) rfl (by kernel_rfl) (by kernel_rfl) (by kernel_rfl) (fun _ _ _ h => h) (Or.inl ⟨by rfl, ?_⟩) (by assumption) ?_
     rotate_left
     · (intro V hV; obtain ⟨_, x0, x1, x2, x3, x4, x5, x6, x7, y0, y1, y2, y3, y4, y5, y6, y7⟩ := hV; go_simp; try with_reducible rfl)
     try simp only [Act.put, List.getElem_toArray, List.getElem_cons_zero, List.getElem_cons_succ, List.setIfInBounds_toArray, List.set_cons_zero, List.set_cons_succ])
  | (refine wpAnyH_take (i := 4) (v := undef) rfl (by kernel_rfl) (by kernel_rfl) (by kernel_rfl) (fun _ _ _ h => h) (Or.inr ⟨by rfl, rfl⟩) (by assumption) ?_
     try simp only [Act.put, List.getElem_toArray, List.getElem_cons_zero, List.getElem_cons_succ, List.setIfInBounds_toArray, List.set_cons_zero, List.set_cons_succ])
  | fail "take 4"
  first
  | (refine wpAnyH_take (i := 5) (v := ?_) rfl (by kernel_rfl) (by kernel_rfl) (by kernel_rfl) (fun _ _ _ h => h) (Or.inl ⟨by rfl, ?_⟩) (by assumption) ?_
     rotate_left
     · (intro V hV; obtain ⟨_, x0, x1, x2, x3, x4, x5, x6, x7, y0, y1, y2, y3, y4, y5, y6, y7⟩ := hV; go_simp; try with_reducible rfl)
     try simp only [Act.put, List.getElem_toArray, List.getElem_cons_zero, List.getElem_cons_succ, List.setIfInBounds_toArray, List.set_cons_zero, List.set_cons_succ])
  | (refine wpAnyH_take (i := 5) (v := undef) rfl (by kernel_rfl) (by kernel_rfl) (by kernel_rfl) (fun _ _ _ h => h) (Or.inr ⟨by rfl, rfl⟩) (by assumption) ?_
     try simp only [Act.put, List.getElem_toArray, List.getElem_cons_zero, List.getElem_cons_succ, List.setIfInBounds_toArray, List.set_cons_zero, List.set_cons_succ])
  | fail "take 5"
  first
  | (refine wpAnyH_take (i := 6) (v := ?_) rfl (by kernel_rfl) (by kernel_rfl) (by kernel_rfl) (fun _ _ _ h => h) (Or.inl ⟨by rfl, ?_⟩) (by assumption) ?_
     rotate_left
     · (intro V hV; obtain ⟨_, x0, x1, x2, x3, x4, x5, x6, x7, y0, y1, y2, y3, y4, y5, y6, y7⟩ := hV; go_simp; try with_reducible rfl)
     try simp only [Act.put, List.getElem_toArray, List.getElem_cons_zero, List.getElem_cons_succ, List.setIfInBounds_toArray, List.set_cons_zero, List.set_cons_succ])
  | (refine wpAnyH_take (i := 6) (v := undef) rfl (by kernel_rfl) (by kernel_rfl) (by kernel_rfl) (fun _ _ _ h => h) (Or.inr ⟨by rfl, rfl⟩) (by assumption) ?_
     try simp only [Act.put, List.getElem_toArray, List.getElem_cons_zero, List.getElem_cons_succ, List.setIfInBounds_toArray, List.set_cons_zero, List.set_cons_succ])
  | fail "take 6"
  first
  | (refine wpAnyH_take (i := 7) (v := ?_) rfl (by kernel_rfl) (by kernel_rfl) (by kernel_rfl) (fun _ _ _ h => h) (Or.inl ⟨by rfl, ?_⟩) (by assumption) ?_
     rotate_left
     · (intro V hV; obtain ⟨_, x0, x1, x2, x3, x4, x5, x6, x7, y0, y1, y2, y3, y4, y5, y6, y7⟩ := hV; go_simp; try with_reducible rfl)
     try simp only [Act.put, List.getElem_toArray, List.getElem_cons_zero, List.getElem_cons_succ, List.setIfInBounds_toArray, List.set_cons_zero, List.set_cons_succ])
  | (refine wpAnyH_take (i := 7) (v := undef) rfl (by kernel_rfl) (by kernel_rfl) (by kernel_rfl) (fun _ _ _ h => h) (Or.inr ⟨by rfl, rfl⟩) (by assumption) ?_
     try simp only [Act.put, List.getElem_toArray, List.getElem_cons_zero, List.getElem_cons_succ, List.setIfInBounds_toArray, List.set_cons_zero, List.set_cons_succ])
  | fail "take 7"
  first
  | (refine wpAnyH_take (i := 9) (v := ?_) rfl (by kernel_rfl) (by kernel_rfl) (by kernel_rfl) (fun _ _ _ h => h) (Or.inl ⟨by rfl, ?_⟩) (by assumption) ?_
     rotate_left
     · (intro V hV; obtain ⟨_, x0, x1, x2, x3, x4, x5, x6, x7, y0, y1, y2, y3, y4, y5, y6, y7⟩ := hV; go_simp; try with_reducible rfl)
     try simp only [Act.put, List.getElem_toArray, List.getElem_cons_zero, List.getElem_cons_succ, List.setIfInBounds_toArray, List.set_cons_zero, List.set_cons_succ])
  | (refine wpAnyH_take (i := 9) (v := undef) rfl (by kernel_rfl) (by kernel_rfl) (by kernel_rfl) (fun _ _ _ h => h) (Or.inr ⟨by rfl, rfl⟩) (by assumption) ?_
     try simp only [Act.put, List.getElem_toArray, List.getElem_cons_zero, List.getElem_cons_succ, List.setIfInBounds_toArray, List.set_cons_zero, List.set_cons_succ])
  | fail "take 9"
  first
  | (refine wpAnyH_take (i := 10) (v := ?_) rfl (by kernel_rfl) (by kernel_rfl) (by kernel_rfl) (fun _ _ _ h => h) (Or.inl ⟨by rfl, ?_⟩) (by assumption) ?_
     rotate_left
     · (intro V hV; obtain ⟨_, x0, x1, x2, x3, x4, x5, x6, x7, y0, y1, y2, y3, y4, y5, y6, y7⟩ := hV; go_simp; try with_reducible rfl)
     try simp only [Act.put, List.getElem_toArray, List.getElem_cons_zero, List.getElem_cons_succ, List.setIfInBounds_toArray, List.set_cons_zero, List.set_cons_succ])
  | (refine wpAnyH_take (i := 10) (v := undef) rfl (by kernel_rfl) (by kernel_rfl) (by kernel_rfl) (fun _ _ _ h => h) (Or.inr ⟨by rfl, rfl⟩) (by assumption) ?_
     try simp only [Act.put, List.getElem_toArray, List.getElem_cons_zero, List.getElem_cons_succ, List.setIfInBounds_toArray, List.set_cons_zero, List.set_cons_succ])
  | fail "take 10"
  refine wpAnyH_ready (rs := [8]) (by kernel_rfl) (by simp) ?_
  refine AllReadyH.cons rfl (fun K hK => ?_) AllReadyH.nil
  go_simp
  refine (CEs.out _ hS.1).mono ?_
  rintro e Wv ⟨rfl, hb⟩
  have SS : Below X.heap.size X Wv ∧ Wv.cell? ⟨w.heap.size, 0, none⟩ = some u0 ∧ Wv.cell? ⟨w.heap.size, 1, none⟩ = some u1 ∧ Wv.cell? ⟨w.heap.size, 2, none⟩ = some u2 ∧ Wv.cell? ⟨w.heap.size, 3, none⟩ = some u3 ∧ Wv.cell? ⟨w.heap.size, 4, none⟩ = some u4 ∧ Wv.cell? ⟨w.heap.size, 5, none⟩ = some u5 ∧ Wv.cell? ⟨w.heap.size, 6, none⟩ = some u6 ∧ Wv.cell? ⟨w.heap.size, 7, none⟩ = some u7 ∧ Wv.cell? ⟨w.heap.size + 1, 0, none⟩ = some v0 ∧ Wv.cell? ⟨w.heap.size + 1, 1, none⟩ = some v1 ∧ Wv.cell? ⟨w.heap.size + 1, 2, none⟩ = some v2 ∧ Wv.cell? ⟨w.heap.size + 1, 3, none⟩ = some v3 ∧ Wv.cell? ⟨w.heap.size + 1, 4, none⟩ = some v4 ∧ Wv.cell? ⟨w.heap.size + 1, 5, none⟩ = some v5 ∧ Wv.cell? ⟨w.heap.size + 1, 6, none⟩ = some v6 ∧ Wv.cell? ⟨w.heap.size + 1, 7, none⟩ = some v7 := ⟨hb, (hb.cell (p := ⟨w.heap.size, 0, none⟩) l0).trans x0, (hb.cell (p := ⟨w.heap.size, 1, none⟩) l0).trans x1, (hb.cell (p := ⟨w.heap.size, 2, none⟩) l0).trans x2, (hb.cell (p := ⟨w.heap.size, 3, none⟩) l0).trans x3, (hb.cell (p := ⟨w.heap.size, 4, none⟩) l0).trans x4, (hb.cell (p := ⟨w.heap.size, 5, none⟩) l0).trans x5, (hb.cell (p := ⟨w.heap.size, 6, none⟩) l0).trans x6, (hb.cell (p := ⟨w.heap.size, 7, none⟩) l0).trans x7, (hb.cell (p := ⟨w.heap.size + 1, 0, none⟩) l1).trans y0, (hb.cell (p := ⟨w.heap.size + 1, 1, none⟩) l1).trans y1, (hb.cell (p := ⟨w.heap.size + 1, 2, none⟩) l1).trans y2, (hb.cell (p := ⟨w.heap.size + 1, 3, none⟩) l1).trans y3, (hb.cell (p := ⟨w.heap.size + 1, 4, none⟩) l1).trans y4, (hb.cell (p := ⟨w.heap.size + 1, 5, none⟩) l1).trans y5, (hb.cell (p := ⟨w.heap.size + 1, 6, none⟩) l1).trans y6, (hb.cell (p := ⟨w.heap.size + 1, 7, none⟩) l1).trans y7⟩
  clear hS hb
  refine hK.out _ _ SS (fun hS => ?_)
  clear hK K
  try simp only [Act.put, List.getElem_toArray, List.getElem_cons_zero, List.getElem_cons_succ, List.setIfInBounds_toArray, List.set_cons_zero, List.set_cons_succ]
  refine wpAnyH_ready (rs := [11]) (by kernel_rfl) (by simp) ?_
  refine AllReadyH.cons rfl (fun K hK => ?_) AllReadyH.nil
  go_simp
  refine (CEt.out _ hS.1).mono ?_
  rintro e Wv ⟨rfl, hb⟩
  have SS : Below X.heap.size X Wv ∧ Wv.cell? ⟨w.heap.size, 0, none⟩ = some u0 ∧ Wv.cell? ⟨w.heap.size, 1, none⟩ = some u1 ∧ Wv.cell? ⟨w.heap.size, 2, none⟩ = some u2 ∧ Wv.cell? ⟨w.heap.size, 3, none⟩ = some u3 ∧ Wv.cell? ⟨w.heap.size, 4, none⟩ = some u4 ∧ Wv.cell? ⟨w.heap.size, 5, none⟩ = some u5 ∧ Wv.cell? ⟨w.heap.size, 6, none⟩ = some u6 ∧ Wv.cell? ⟨w.heap.size, 7, none⟩ = some u7 ∧ Wv.cell? ⟨w.heap.size + 1, 0, none⟩ = some v0 ∧ Wv.cell? ⟨w.heap.size + 1, 1, none⟩ = some v1 ∧ Wv.cell? ⟨w.heap.size + 1, 2, none⟩ = some v2 ∧ Wv.cell? ⟨w.heap.size + 1, 3, none⟩ = some v3 ∧ Wv.cell? ⟨w.heap.size + 1, 4, none⟩ = some v4 ∧ Wv.cell? ⟨w.heap.size + 1, 5, none⟩ = some v5 ∧ Wv.cell? ⟨w.heap.size + 1, 6, none⟩ = some v6 ∧ Wv.cell? ⟨w.heap.size + 1, 7, none⟩ = some v7 := ⟨hb, (hb.cell (p := ⟨w.heap.size, 0, none⟩) l0).trans x0, (hb.cell (p := ⟨w.heap.size, 1, none⟩) l0).trans x1, (hb.cell (p := ⟨w.heap.size, 2, none⟩) l0).trans x2, (hb.cell (p := ⟨w.heap.size, 3, none⟩) l0).trans x3, (hb.cell (p := ⟨w.heap.size, 4, none⟩) l0).trans x4, (hb.cell (p := ⟨w.heap.size, 5, none⟩) l0).trans x5, (hb.cell (p := ⟨w.heap.size, 6, none⟩) l0).trans x6, (hb.cell (p := ⟨w.heap.size, 7, none⟩) l0).trans x7, (hb.cell (p := ⟨w.heap.size + 1, 0, none⟩) l1).trans y0, (hb.cell (p := ⟨w.heap.size + 1, 1, none⟩) l1).trans y1, (hb.cell (p := ⟨w.heap.size + 1, 2, none⟩) l1).trans y2, (hb.cell (p := ⟨w.heap.size + 1, 3, none⟩) l1).trans y3, (hb.cell (p := ⟨w.heap.size + 1, 4, none⟩) l1).trans y4, (hb.cell (p := ⟨w.heap.size + 1, 5, none⟩) l1).trans y5, (hb.cell (p := ⟨w.heap.size + 1, 6, none⟩) l1).trans y6, (hb.cell (p := ⟨w.heap.size + 1, 7, none⟩) l1).trans y7⟩
  clear hS hb
  refine hK.out _ _ SS (fun hS => ?_)
  clear hK K
  try simp only [Act.put, List.getElem_toArray, List.getElem_cons_zero, List.getElem_cons_succ, List.setIfInBounds_toArray, List.set_cons_zero, List.set_cons_succ]
  first
  | (refine wpAnyH_take (i := 12) (v := ?_) rfl (by kernel_rfl) (by kernel_rfl) (by kernel_rfl) (fun _ _ _ h => h) (Or.inl ⟨by rfl, ?_⟩) (by assumption) ?_
     rotate_left
     · (intro V hV; obtain ⟨_, x0, x1, x2, x3, x4, x5, x6, x7, y0, y1, y2, y3, y4, y5, y6, y7⟩ := hV; go_simp; try with_reducible rfl)
     try simp only [Act.put, List.getElem_toArray, List.getElem_cons_zero, List.getElem_cons_succ, List.setIfInBounds_toArray, List.set_cons_zero, List.set_cons_succ])
  | (refine wpAnyH_take (i := 12) (v := undef) rfl (by kernel_rfl) (by kernel_rfl) (by kernel_rfl) (fun _ _ _ h => h) (Or.inr ⟨by rfl, rfl⟩) (by assumption) ?_
     try simp only [Act.put, List.getElem_toArray, List.getElem_cons_zero, List.getElem_cons_succ, List.setIfInBounds_toArray, List.set_cons_zero, List.set_cons_succ])
  | fail "take 12"
  first
  | (refine wpAnyH_take (i := 13) (v := ?_) rfl (by kernel_rfl) (by kernel_rfl) (by kernel_rfl) (fun _ _ _ h => h) (Or.inl ⟨by rfl, ?_⟩) (by assumption) ?_
     rotate_left
     · (intro V hV; obtain ⟨_, x0, x1, x2, x3, x4, x5, x6, x7, y0, y1, y2, y3, y4, y5, y6, y7⟩ := hV; go_simp; try with_reducible rfl)
     try simp only [Act.put, List.getElem_toArray, List.getElem_cons_zero, List.getElem_cons_succ, List.setIfInBounds_toArray, List.set_cons_zero, List.set_cons_succ])
  | (refine wpAnyH_take (i := 13) (v := undef) rfl (by kernel_rfl) (by kernel_rfl) (by kernel_rfl) (fun _ _ _ h => h) (Or.inr ⟨by rfl, rfl⟩) (by assumption) ?_
     try simp only [Act.put, List.getElem_toArray, List.getElem_cons_zero, List.getElem_cons_succ, List.setIfInBounds_toArray, List.set_cons_zero, List.set_cons_succ])
  | fail "take 13"
  first
  | (refine wpAnyH_take (i := 14) (v := ?_) rfl (by kernel_rfl) (by kernel_rfl) (by kernel_rfl) (fun _ _ _ h => h) (Or.inl ⟨by rfl, ?_⟩) (by assumption) ?_
     rotate_left
     · (intro V hV; obtain ⟨_, x0, x1, x2, x3, x4, x5, x6, x7, y0, y1, y2, y3, y4, y5, y6, y7⟩ := hV; go_simp; try with_reducible rfl)
     try simp only [Act.put, List.getElem_toArray, List.getElem_cons_zero, List.getElem_cons_succ, List.setIfInBounds_toArray, List.set_cons_zero, List.set_cons_succ])
  | (refine wpAnyH_take (i := 14) (v := undef) rfl (by kernel_rfl) (by kernel_rfl) (by kernel_rfl) (fun _ _ _ h => h) (Or.inr ⟨by rfl, rfl⟩) (by assumption) ?_
     try simp only [Act.put, List.getElem_toArray, List.getElem_cons_zero, List.getElem_cons_succ, List.setIfInBounds_toArray, List.set_cons_zero, List.set_cons_succ])
  | fail "take 14"
  first
  | (refine wpAnyH_take (i := 15) (v := ?_) rfl (by kernel_rfl) (by kernel_rfl) (by kernel_rfl) (fun _ _ _ h => h) (Or.inl ⟨by rfl, ?_⟩) (by assumption) ?_
     rotate_left
     · (intro V hV; obtain ⟨_, x0, x1, x2, x3, x4, x5, x6, x7, y0, y1, y2, y3, y4, y5, y6, y7⟩ := hV; go_simp; try with_reducible rfl)
     try simp only [Act.put, List.getElem_toArray, List.getElem_cons_zero, List.getElem_cons_succ, List.setIfInBounds_toArray, List.set_cons_zero, List.set_cons_succ])
  | (refine wpAnyH_take (i := 15) (v := undef) rfl (by kernel_rfl) (by kernel_rfl) (by kernel_rfl) (fun _ _ _ h => h) (Or.inr ⟨by rfl, rfl⟩) (by assumption) ?_
     try simp only [Act.put, List.getElem_toArray, List.getElem_cons_zero, List.getElem_cons_succ, List.setIfInBounds_toArray, List.set_cons_zero, List.set_cons_succ])
  | fail "take 15"
  first
  | (refine wpAnyH_take (i := 16) (v := ?_) rfl (by kernel_rfl) (by kernel_rfl) (by kernel_rfl) (fun _ _ _ h => h) (Or.inl ⟨by rfl, ?_⟩) (by assumption) ?_
     rotate_left
     · (intro V hV; obtain ⟨_, x0, x1, x2, x3, x4, x5, x6, x7, y0, y1, y2, y3, y4, y5, y6, y7⟩ := hV; go_simp; try with_reducible rfl)
     try simp only [Act.put, List.getElem_toArray, List.getElem_cons_zero, List.getElem_cons_succ, List.setIfInBounds_toArray, List.set_cons_zero, List.set_cons_succ])
  | (refine wpAnyH_take (i := 16) (v := undef) rfl (by kernel_rfl) (by kernel_rfl) (by kernel_rfl) (fun _ _ _ h => h) (Or.inr ⟨by rfl, rfl⟩) (by assumption) ?_
     try simp only [Act.put, List.getElem_toArray, List.getElem_cons_zero, List.getElem_cons_succ, List.setIfInBounds_toArray, List.set_cons_zero, List.set_cons_succ])
  | fail "take 16"
  refine wpAnyH_ready (rs := [17]) (by kernel_rfl) (by simp) ?_
  refine AllReadyH.cons rfl (fun K hK => ?_) AllReadyH.nil
  go_simp
  refine (CEu.out _ hS.1).mono ?_
  rintro e Wv ⟨rfl, hb⟩
  have SS : Below X.heap.size X Wv ∧ Wv.cell? ⟨w.heap.size, 0, none⟩ = some u0 ∧ Wv.cell? ⟨w.heap.size, 1, none⟩ = some u1 ∧ Wv.cell? ⟨w.heap.size, 2, none⟩ = some u2 ∧ Wv.cell? ⟨w.heap.size, 3, none⟩ = some u3 ∧ Wv.cell? ⟨w.heap.size, 4, none⟩ = some u4 ∧ Wv.cell? ⟨w.heap.size, 5, none⟩ = some u5 ∧ Wv.cell? ⟨w.heap.size, 6, none⟩ = some u6 ∧ Wv.cell? ⟨w.heap.size, 7, none⟩ = some u7 ∧ Wv.cell? ⟨w.heap.size + 1, 0, none⟩ = some v0 ∧ Wv.cell? ⟨w.heap.size + 1, 1, none⟩ = some v1 ∧ Wv.cell? ⟨w.heap.size + 1, 2, none⟩ = some v2 ∧ Wv.cell? ⟨w.heap.size + 1, 3, none⟩ = some v3 ∧ Wv.cell? ⟨w.heap.size + 1, 4, none⟩ = some v4 ∧ Wv.cell? ⟨w.heap.size + 1, 5, none⟩ = some v5 ∧ Wv.cell? ⟨w.heap.size + 1, 6, none⟩ = some v6 ∧ Wv.cell? ⟨w.heap.size + 1, 7, none⟩ = some v7 := ⟨hb, (hb.cell (p := ⟨w.heap.size, 0, none⟩) l0).trans x0, (hb.cell (p := ⟨w.heap.size, 1, none⟩) l0).trans x1, (hb.cell (p := ⟨w.heap.size, 2, none⟩) l0).trans x2, (hb.cell (p := ⟨w.heap.size, 3, none⟩) l0).trans x3, (hb.cell (p := ⟨w.heap.size, 4, none⟩) l0).trans x4, (hb.cell (p := ⟨w.heap.size, 5, none⟩) l0).trans x5, (hb.cell (p := ⟨w.heap.size, 6, none⟩) l0).trans x6, (hb.cell (p := ⟨w.heap.size, 7, none⟩) l0).trans x7, (hb.cell (p := ⟨w.heap.size + 1, 0, none⟩) l1).trans y0, (hb.cell (p := ⟨w.heap.size + 1, 1, none⟩) l1).trans y1, (hb.cell (p := ⟨w.heap.size + 1, 2, none⟩) l1).trans y2, (hb.cell (p := ⟨w.heap.size + 1, 3, none⟩) l1).trans y3, (hb.cell (p := ⟨w.heap.size + 1, 4, none⟩) l1).trans y4, (hb.cell (p := ⟨w.heap.size + 1, 5, none⟩) l1).trans y5, (hb.cell (p := ⟨w.heap.size + 1, 6, none⟩) l1).trans y6, (hb.cell (p := ⟨w.heap.size + 1, 7, none⟩) l1).trans y7⟩
  clear hS hb
  refine hK.out _ _ SS (fun hS => ?_)
  clear hK K
  try simp only [Act.put, List.getElem_toArray, List.getElem_cons_zero, List.getElem_cons_succ, List.setIfInBounds_toArray, List.set_cons_zero, List.set_cons_succ]
  first
  | (refine wpAnyH_take (i := 18) (v := ?_) rfl (by kernel_rfl) (by kernel_rfl) (by kernel_rfl) (fun _ _ _ h => h) (Or.inl ⟨by rfl, ?_⟩) (by assumption) ?_
     rotate_left
     · (intro V hV; obtain ⟨_, x0, x1, x2, x3, x4, x5, x6, x7, y0, y1, y2, y3, y4, y5, y6, y7⟩ := hV; go_simp; try with_reducible rfl)
     try simp only [Act.put, List.getElem_toArray, List.getElem_cons_zero, List.getElem_cons_succ, List.setIfInBounds_toArray, List.set_cons_zero, List.set_cons_succ])
  | (refine wpAnyH_take (i := 18) (v := undef) rfl (by kernel_rfl) (by kernel_rfl) (by kernel_rfl) (fun _ _ _ h => h) (Or.inr ⟨by rfl, rfl⟩) (by assumption) ?_
     try simp only [Act.put, List.getElem_toArray, List.getElem_cons_zero, List.getElem_cons_succ, List.setIfInBounds_toArray, List.set_cons_zero, List.set_cons_succ])
  | fail "take 18"
  first
  | (refine wpAnyH_take (i := 19) (v := ?_) rfl (by kernel_rfl) (by kernel_rfl) (by kernel_rfl) (fun _ _ _ h => h) (Or.inl ⟨by rfl, ?_⟩) (by assumption) ?_
     rotate_left
     · (intro V hV; obtain ⟨_, x0, x1, x2, x3, x4, x5, x6, x7, y0, y1, y2, y3, y4, y5, y6, y7⟩ := hV; go_simp; try with_reducible rfl)
     try simp only [Act.put, List.getElem_toArray, List.getElem_cons_zero, List.getElem_cons_succ, List.setIfInBounds_toArray, List.set_cons_zero, List.set_cons_succ])
  | (refine wpAnyH_take (i := 19) (v := undef) rfl (by kernel_rfl) (by kernel_rfl) (by kernel_rfl) (fun _ _ _ h => h) (Or.inr ⟨by rfl, rfl⟩) (by assumption) ?_
     try simp only [Act.put, List.getElem_toArray, List.getElem_cons_zero, List.getElem_cons_succ, List.setIfInBounds_toArray, List.set_cons_zero, List.set_cons_succ])
  | fail "take 19"
  refine wpAnyH_done (by kernel_rfl) ?_ _
  obtain ⟨_, z0, z1, z2, z3, z4, z5, z6, z7, z8, z9, z10, z11, z12, z13, z14, z15⟩ := id SS
  go_wp2_with fail
  refine (CEr.out _ SS.1).mono ?_
  rintro e Wv ⟨rfl, hb⟩
  have SS : Below X.heap.size X Wv ∧ Wv.cell? ⟨w.heap.size, 0, none⟩ = some u0 ∧ Wv.cell? ⟨w.heap.size, 1, none⟩ = some u1 ∧ Wv.cell? ⟨w.heap.size, 2, none⟩ = some u2 ∧ Wv.cell? ⟨w.heap.size, 3, none⟩ = some u3 ∧ Wv.cell? ⟨w.heap.size, 4, none⟩ = some u4 ∧ Wv.cell? ⟨w.heap.size, 5, none⟩ = some u5 ∧ Wv.cell? ⟨w.heap.size, 6, none⟩ = some u6 ∧ Wv.cell? ⟨w.heap.size, 7, none⟩ = some u7 ∧ Wv.cell? ⟨w.heap.size + 1, 0, none⟩ = some v0 ∧ Wv.cell? ⟨w.heap.size + 1, 1, none⟩ = some v1 ∧ Wv.cell? ⟨w.heap.size + 1, 2, none⟩ = some v2 ∧ Wv.cell? ⟨w.heap.size + 1, 3, none⟩ = some v3 ∧ Wv.cell? ⟨w.heap.size + 1, 4, none⟩ = some v4 ∧ Wv.cell? ⟨w.heap.size + 1, 5, none⟩ = some v5 ∧ Wv.cell? ⟨w.heap.size + 1, 6, none⟩ = some v6 ∧ Wv.cell? ⟨w.heap.size + 1, 7, none⟩ = some v7 := ⟨hb, (hb.cell (p := ⟨w.heap.size, 0, none⟩) l0).trans x0, (hb.cell (p := ⟨w.heap.size, 1, none⟩) l0).trans x1, (hb.cell (p := ⟨w.heap.size, 2, none⟩) l0).trans x2, (hb.cell (p := ⟨w.heap.size, 3, none⟩) l0).trans x3, (hb.cell (p := ⟨w.heap.size, 4, none⟩) l0).trans x4, (hb.cell (p := ⟨w.heap.size, 5, none⟩) l0).trans x5, (hb.cell (p := ⟨w.heap.size, 6, none⟩) l0).trans x6, (hb.cell (p := ⟨w.heap.size, 7, none⟩) l0).trans x7, (hb.cell (p := ⟨w.heap.size + 1, 0, none⟩) l1).trans y0, (hb.cell (p := ⟨w.heap.size + 1, 1, none⟩) l1).trans y1, (hb.cell (p := ⟨w.heap.size + 1, 2, none⟩) l1).trans y2, (hb.cell (p := ⟨w.heap.size + 1, 3, none⟩) l1).trans y3, (hb.cell (p := ⟨w.heap.size + 1, 4, none⟩) l1).trans y4, (hb.cell (p := ⟨w.heap.size + 1, 5, none⟩) l1).trans y5, (hb.cell (p := ⟨w.heap.size + 1, 6, none⟩) l1).trans y6, (hb.cell (p := ⟨w.heap.size + 1, 7, none⟩) l1).trans y7⟩
  clear hb
  cases RA
  · go_wp2_with fail
    go_ret
    exact ⟨rfl, HB3.out.trans (Below.mono SS.1 HB3.out.size)⟩
  have DTp := Lib.hid (CTp.out rfl)
  have DTr := Lib.hid (CTr.out rfl)
  clear CTp CTr
  go_wp2_with fail
  refine wp_region_held_drew (S := fun W => Below X.heap.size X W ∧ W.cell? ⟨w.heap.size, 0, none⟩ = some u0 ∧ W.cell? ⟨w.heap.size, 1, none⟩ = some u1 ∧ W.cell? ⟨w.heap.size, 2, none⟩ = some u2 ∧ W.cell? ⟨w.heap.size, 3, none⟩ = some u3 ∧ W.cell? ⟨w.heap.size, 4, none⟩ = some u4 ∧ W.cell? ⟨w.heap.size, 5, none⟩ = some u5 ∧ W.cell? ⟨w.heap.size, 6, none⟩ = some u6 ∧ W.cell? ⟨w.heap.size, 7, none⟩ = some u7 ∧ W.cell? ⟨w.heap.size + 1, 0, none⟩ = some v0 ∧ W.cell? ⟨w.heap.size + 1, 1, none⟩ = some v1 ∧ W.cell? ⟨w.heap.size + 1, 2, none⟩ = some v2 ∧ W.cell? ⟨w.heap.size + 1, 3, none⟩ = some v3 ∧ W.cell? ⟨w.heap.size + 1, 4, none⟩ = some v4 ∧ W.cell? ⟨w.heap.size + 1, 5, none⟩ = some v5 ∧ W.cell? ⟨w.heap.size + 1, 6, none⟩ = some v6 ∧ W.cell? ⟨w.heap.size + 1, 7, none⟩ = some v7) (by kernel_rfl) (by first | exact SS | exact ⟨SS.1.drew, SS.2⟩) (fun hS => ?_)
  first
  | (refine wpAnyH_take (i := 0) (v := ?_) rfl (by kernel_rfl) (by kernel_rfl) (by kernel_rfl) (fun _ _ _ h => h) (Or.inl ⟨by rfl, ?_⟩) (by assumption) ?_
     rotate_left
     · (intro V hV; obtain ⟨_, x0, x1, x2, x3, x4, x5, x6, x7, y0, y1, y2, y3, y4, y5, y6, y7⟩ := hV; go_simp; try with_reducible rfl)
     try simp only [Act.put, List.getElem_toArray, List.getElem_cons_zero, List.setIfInBounds_toArray, List.set_cons_zero, List.set_cons_succ])
  | (refine wpAnyH_take (i := 0) (v := undef) rfl (by kernel_rfl) (by kernel_rfl) (by kernel_rfl) (fun _ _ _ h => h) (Or.inr ⟨by rfl, rfl⟩) (by assumption) ?_
     try simp only [Act.put, List.getElem_toArray, List.getElem_cons_zero, List.setIfInBounds_toArray, List.set_cons_zero, List.set_cons_succ])
  | fail "take 0"
  first
  | (refine wpAnyH_take (i := 2) (v := ?_) rfl (by kernel_rfl) (by kernel_rfl) (by kernel_rfl) (fun _ _ _ h => h) (Or.inl ⟨by rfl, ?_⟩) (by assumption) ?_
     rotate_left
     · (intro V hV; obtain ⟨_, x0, x1, x2, x3, x4, x5, x6, x7, y0, y1, y2, y3, y4, y5, y6, y7⟩ := hV; go_simp; try with_reducible rfl)
     try simp only [Act.put, List.getElem_toArray, List.getElem_cons_zero, List.getElem_cons_succ, List.setIfInBounds_toArray, List.set_cons_zero, List.set_cons_succ])
  | (refine wpAnyH_take (i := 2) (v := undef) rfl (by kernel_rfl) (by kernel_rfl) (by kernel_rfl) (fun _ _ _ h => h) (Or.inr ⟨by rfl, rfl⟩) (by assumption) ?_
     try simp only [Act.put, List.getElem_toArray, List.getElem_cons_zero, List.getElem_cons_succ, List.setIfInBounds_toArray, List.set_cons_zero, List.set_cons_succ])
  | fail "take 2"
  refine wpAnyH_ready (rs := [1]) (by kernel_rfl) (by simp) ?_
  refine AllReadyH.cons rfl (fun K hK => ?_) AllReadyH.nil
  go_simp
  refine (DTp.out _ hS.1).mono ?_
  rintro e Wv ⟨rfl, hb⟩
  have SS : Below X.heap.size X Wv ∧ Wv.cell? ⟨w.heap.size, 0, none⟩ = some u0 ∧ Wv.cell? ⟨w.heap.size, 1, none⟩ = some u1 ∧ Wv.cell? ⟨w.heap.size, 2, none⟩ = some u2 ∧ Wv.cell? ⟨w.heap.size, 3, none⟩ = some u3 ∧ Wv.cell? ⟨w.heap.size, 4, none⟩ = some u4 ∧ Wv.cell? ⟨w.heap.size, 5, none⟩ = some u5 ∧ Wv.cell? ⟨w.heap.size, 6, none⟩ = some u6 ∧ Wv.cell? ⟨w.heap.size, 7, none⟩ = some u7 ∧ Wv.cell? ⟨w.heap.size + 1, 0, none⟩ = some v0 ∧ Wv.cell? ⟨w.heap.size + 1, 1, none⟩ = some v1 ∧ Wv.cell? ⟨w.heap.size + 1, 2, none⟩ = some v2 ∧ Wv.cell? ⟨w.heap.size + 1, 3, none⟩ = some v3 ∧ Wv.cell? ⟨w.heap.size + 1, 4, none⟩ = some v4 ∧ Wv.cell? ⟨w.heap.size + 1, 5, none⟩ = some v5 ∧ Wv.cell? ⟨w.heap.size + 1, 6, none⟩ = some v6 ∧ Wv.cell? ⟨w.heap.size + 1, 7, none⟩ = some v7 := ⟨hb, (hb.cell (p := ⟨w.heap.size, 0, none⟩) l0).trans x0, (hb.cell (p := ⟨w.heap.size, 1, none⟩) l0).trans x1, (hb.cell (p := ⟨w.heap.size, 2, none⟩) l0).trans x2, (hb.cell (p := ⟨w.heap.size, 3, none⟩) l0).trans x3, (hb.cell (p := ⟨w.heap.size, 4, none⟩) l0).trans x4, (hb.cell (p := ⟨w.heap.size, 5, none⟩) l0).trans x5, (hb.cell (p := ⟨w.heap.size, 6, none⟩) l0).trans x6, (hb.cell (p := ⟨w.heap.size, 7, none⟩) l0).trans x7, (hb.cell (p := ⟨w.heap.size + 1, 0, none⟩) l1).trans y0, (hb.cell (p := ⟨w.heap.size + 1, 1, none⟩) l1).trans y1, (hb.cell (p := ⟨w.heap.size + 1, 2, none⟩) l1).trans y2, (hb.cell (p := ⟨w.heap.size + 1, 3, none⟩) l1).trans y3, (hb.cell (p := ⟨w.heap.size + 1, 4, none⟩) l1).trans y4, (hb.cell (p := ⟨w.heap.size + 1, 5, none⟩) l1).trans y5, (hb.cell (p := ⟨w.heap.size + 1, 6, none⟩) l1).trans y6, (hb.cell (p := ⟨w.heap.size + 1, 7, none⟩) l1).trans y7⟩
  clear hS hb
  refine hK.out _ _ SS (fun hS => ?_)
  clear hK K
  try simp only [Act.put, List.getElem_toArray, List.getElem_cons_zero, List.getElem_cons_succ, List.setIfInBounds_toArray, List.set_cons_zero, List.set_cons_succ]
  refine wpAnyH_ready (rs := [3]) (by kernel_rfl) (by simp) ?_
  refine AllReadyH.cons rfl (fun K hK => ?_) AllReadyH.nil
  go_simp
  refine (DTr.out _ hS.1).mono ?_
  rintro e Wv ⟨rfl, hb⟩
  have SS : Below X.heap.size X Wv ∧ Wv.cell? ⟨w.heap.size, 0, none⟩ = some u0 ∧ Wv.cell? ⟨w.heap.size, 1, none⟩ = some u1 ∧ Wv.cell? ⟨w.heap.size, 2, none⟩ = some u2 ∧ Wv.cell? ⟨w.heap.size, 3, none⟩ = some u3 ∧ Wv.cell? ⟨w.heap.size, 4, none⟩ = some u4 ∧ Wv.cell? ⟨w.heap.size, 5, none⟩ = some u5 ∧ Wv.cell? ⟨w.heap.size, 6, none⟩ = some u6 ∧ Wv.cell? ⟨w.heap.size, 7, none⟩ = some u7 ∧ Wv.cell? ⟨w.heap.size + 1, 0, none⟩ = some v0 ∧ Wv.cell? ⟨w.heap.size + 1, 1, none⟩ = some v1 ∧ Wv.cell? ⟨w.heap.size + 1, 2, none⟩ = some v2 ∧ Wv.cell? ⟨w.heap.size + 1, 3, none⟩ = some v3 ∧ Wv.cell? ⟨w.heap.size + 1, 4, none⟩ = some v4 ∧ Wv.cell? ⟨w.heap.size + 1, 5, none⟩ = some v5 ∧ Wv.cell? ⟨w.heap.size + 1, 6, none⟩ = some v6 ∧ Wv.cell? ⟨w.heap.size + 1, 7, none⟩ = some v7 := ⟨hb, (hb.cell (p := ⟨w.heap.size, 0, none⟩) l0).trans x0, (hb.cell (p := ⟨w.heap.size, 1, none⟩) l0).trans x1, (hb.cell (p := ⟨w.heap.size, 2, none⟩) l0).trans x2, (hb.cell (p := ⟨w.heap.size, 3, none⟩) l0).trans x3, (hb.cell (p := ⟨w.heap.size, 4, none⟩) l0).trans x4, (hb.cell (p := ⟨w.heap.size, 5, none⟩) l0).trans x5, (hb.cell (p := ⟨w.heap.size, 6, none⟩) l0).trans x6, (hb.cell (p := ⟨w.heap.size, 7, none⟩) l0).trans x7, (hb.cell (p := ⟨w.heap.size + 1, 0, none⟩) l1).trans y0, (hb.cell (p := ⟨w.heap.size + 1, 1, none⟩) l1).trans y1, (hb.cell (p := ⟨w.heap.size + 1, 2, none⟩) l1).trans y2, (hb.cell (p := ⟨w.heap.size + 1, 3, none⟩) l1).trans y3, (hb.cell (p := ⟨w.heap.size + 1, 4, none⟩) l1).trans y4, (hb.cell (p := ⟨w.heap.size + 1, 5, none⟩) l1).trans y5, (hb.cell (p := ⟨w.heap.size + 1, 6, none⟩) l1).trans y6, (hb.cell (p := ⟨w.heap.size + 1, 7, none⟩) l1).trans y7⟩
  clear hS hb
  refine hK.out _ _ SS (fun hS => ?_)
  clear hK K
  try simp only [Act.put, List.getElem_toArray, List.getElem_cons_zero, List.getElem_cons_succ, List.setIfInBounds_toArray, List.set_cons_zero, List.set_cons_succ]
  first
  | (refine wpAnyH_take (i := 4) (v := ?_) rfl (by kernel_rfl) (by kernel_rfl) (by kernel_rfl) (fun _ _ _ h => h) (Or.inl ⟨by rfl, ?_⟩) (by assumption) ?_
     rotate_left
     · (intro V hV; obtain ⟨_, x0, x1, x2, x3, x4, x5, x6, x7, y0, y1, y2, y3, y4, y5, y6, y7⟩ := hV; go_simp; try with_reducible rfl)
     try simp only [Act.put, List.getElem_toArray, List.getElem_cons_zero, List.getElem_cons_succ, List.setIfInBounds_toArray, List.set_cons_zero, List.set_cons_succ])
  | (refine wpAnyH_take (i := 4) (v := undef) rfl (by kernel_rfl) (by kernel_rfl) (by kernel_rfl) (fun _ _ _ h => h) (Or.inr ⟨by rfl, rfl⟩) (by assumption) ?_
     try simp only [Act.put, List.getElem_toArray, List.getElem_cons_zero, List.getElem_cons_succ, List.setIfInBounds_toArray, List.set_cons_zero, List.set_cons_succ])
  | fail "take 4"
  first
  | (refine wpAnyH_take (i := 5) (v := ?_) rfl (by kernel_rfl) (by kernel_rfl) (by kernel_rfl) (fun _ _ _ h => h) (Or.inl ⟨by rfl, ?_⟩) (by assumption) ?_
     rotate_left
     · (intro V hV; obtain ⟨_, x0, x1, x2, x3, x4, x5, x6, x7, y0, y1, y2, y3, y4, y5, y6, y7⟩ := hV; go_simp; try with_reducible rfl)
     try simp only [Act.put, List.getElem_toArray, List.getElem_cons_zero, List.getElem_cons_succ, List.setIfInBounds_toArray, List.set_cons_zero, List.set_cons_succ])
  | (refine wpAnyH_take (i := 5) (v := undef) rfl (by kernel_rfl) (by kernel_rfl) (by kernel_rfl) (fun _ _ _ h => h) (Or.inr ⟨by rfl, rfl⟩) (by assumption) ?_
     try simp only [Act.put, List.getElem_toArray, List.getElem_cons_zero, List.getElem_cons_succ, List.setIfInBounds_toArray, List.set_cons_zero, List.set_cons_succ])
  | fail "take 5"
  first
  | (refine wpAnyH_take (i := 6) (v := ?_) rfl (by kernel_rfl) (by kernel_rfl) (by kernel_rfl) (fun _ _ _ h => h) (Or.inl ⟨by rfl, ?_⟩) (by assumption) ?_
     rotate_left
     · (intro V hV; obtain ⟨_, x0, x1, x2, x3, x4, x5, x6, x7, y0, y1, y2, y3, y4, y5, y6, y7⟩ := hV; go_simp; try with_reducible rfl)
     try simp only [Act.put, List.getElem_toArray, List.getElem_cons_zero, List.getElem_cons_succ, List.setIfInBounds_toArray, List.set_cons_zero, List.set_cons_succ])
  | (refine wpAnyH_take (i := 6) (v := undef) rfl (by kernel_rfl) (by kernel_rfl) (by kernel_rfl) (fun _ _ _ h => h) (Or.inr ⟨by rfl, rfl⟩) (by assumption) ?_
     try simp only [Act.put, List.getElem_toArray, List.getElem_cons_zero, List.getElem_cons_succ, List.setIfInBounds_toArray, List.set_cons_zero, List.set_cons_succ])
  | fail "take 6"
  first
  | (refine wpAnyH_take (i := 8) (v := ?_) rfl (by kernel_rfl) (by kernel_rfl) (by kernel_rfl) (fun _ _ _ h => h) (Or.inl ⟨by rfl, ?_⟩) (by assumption) ?_
     rotate_left
     · (intro V hV; obtain ⟨_, x0, x1, x2, x3, x4, x5, x6, x7, y0, y1, y2, y3, y4, y5, y6, y7⟩ := hV; go_simp; try with_reducible rfl)
     try simp only [Act.put, List.getElem_toArray, List.getElem_cons_zero, List.getElem_cons_succ, List.setIfInBounds_toArray, List.set_cons_zero, List.set_cons_succ])
  | (refine wpAnyH_take (i := 8) (v := undef) rfl (by kernel_rfl) (by kernel_rfl) (by kernel_rfl) (fun _ _ _ h => h) (Or.inr ⟨by rfl, rfl⟩) (by assumption) ?_
     try simp only [Act.put, List.getElem_toArray, List.getElem_cons_zero, List.getElem_cons_succ, List.setIfInBounds_toArray, List.set_cons_zero, List.set_cons_succ])
  | fail "take 8"
  refine wpAnyH_ready (rs := [7]) (by kernel_rfl) (by simp) ?_
  refine AllReadyH.cons rfl (fun K hK => ?_) AllReadyH.nil
  go_simp
  refine (CNp.out _ hS.1).mono ?_
  rintro e Wv ⟨rfl, hb⟩
  have SS : Below X.heap.size X Wv ∧ Wv.cell? ⟨w.heap.size, 0, none⟩ = some u0 ∧ Wv.cell? ⟨w.heap.size, 1, none⟩ = some u1 ∧ Wv.cell? ⟨w.heap.size, 2, none⟩ = some u2 ∧ Wv.cell? ⟨w.heap.size, 3, none⟩ = some u3 ∧ Wv.cell? ⟨w.heap.size, 4, none⟩ = some u4 ∧ Wv.cell? ⟨w.heap.size, 5, none⟩ = some u5 ∧ Wv.cell? ⟨w.heap.size, 6, none⟩ = some u6 ∧ Wv.cell? ⟨w.heap.size, 7, none⟩ = some u7 ∧ Wv.cell? ⟨w.heap.size + 1, 0, none⟩ = some v0 ∧ Wv.cell? ⟨w.heap.size + 1, 1, none⟩ = some v1 ∧ Wv.cell? ⟨w.heap.size + 1, 2, none⟩ = some v2 ∧ Wv.cell? ⟨w.heap.size + 1, 3, none⟩ = some v3 ∧ Wv.cell? ⟨w.heap.size + 1, 4, none⟩ = some v4 ∧ Wv.cell? ⟨w.heap.size + 1, 5, none⟩ = some v5 ∧ Wv.cell? ⟨w.heap.size + 1, 6, none⟩ = some v6 ∧ Wv.cell? ⟨w.heap.size + 1, 7, none⟩ = some v7 := ⟨hb, (hb.cell (p := ⟨w.heap.size, 0, none⟩) l0).trans x0, (hb.cell (p := ⟨w.heap.size, 1, none⟩) l0).trans x1, (hb.cell (p := ⟨w.heap.size, 2, none⟩) l0).trans x2, (hb.cell (p := ⟨w.heap.size, 3, none⟩) l0).trans x3, (hb.cell (p := ⟨w.heap.size, 4, none⟩) l0).trans x4, (hb.cell (p := ⟨w.heap.size, 5, none⟩) l0).trans x5, (hb.cell (p := ⟨w.heap.size, 6, none⟩) l0).trans x6, (hb.cell (p := ⟨w.heap.size, 7, none⟩) l0).trans x7, (hb.cell (p := ⟨w.heap.size + 1, 0, none⟩) l1).trans y0, (hb.cell (p := ⟨w.heap.size + 1, 1, none⟩) l1).trans y1, (hb.cell (p := ⟨w.heap.size + 1, 2, none⟩) l1).trans y2, (hb.cell (p := ⟨w.heap.size + 1, 3, none⟩) l1).trans y3, (hb.cell (p := ⟨w.heap.size + 1, 4, none⟩) l1).trans y4, (hb.cell (p := ⟨w.heap.size + 1, 5, none⟩) l1).trans y5, (hb.cell (p := ⟨w.heap.size + 1, 6, none⟩) l1).trans y6, (hb.cell (p := ⟨w.heap.size + 1, 7, none⟩) l1).trans y7⟩
  clear hS hb
  refine hK.out _ _ SS (fun hS => ?_)
  clear hK K
  try simp only [Act.put, List.getElem_toArray, List.getElem_cons_zero, List.getElem_cons_succ, List.setIfInBounds_toArray, List.set_cons_zero, List.set_cons_succ]
  refine wpAnyH_ready (rs := [9]) (by kernel_rfl) (by simp) ?_
  refine AllReadyH.cons rfl (fun K hK => ?_) AllReadyH.nil
  go_simp
  refine (CNr.out _ hS.1).mono ?_
  rintro e Wv ⟨rfl, hb⟩
  have SS : Below X.heap.size X Wv ∧ Wv.cell? ⟨w.heap.size, 0, none⟩ = some u0 ∧ Wv.cell? ⟨w.heap.size, 1, none⟩ = some u1 ∧ Wv.cell? ⟨w.heap.size, 2, none⟩ = some u2 ∧ Wv.cell? ⟨w.heap.size, 3, none⟩ = some u3 ∧ Wv.cell? ⟨w.heap.size, 4, none⟩ = some u4 ∧ Wv.cell? ⟨w.heap.size, 5, none⟩ = some u5 ∧ Wv.cell? ⟨w.heap.size, 6, none⟩ = some u6 ∧ Wv.cell? ⟨w.heap.size, 7, none⟩ = some u7 ∧ Wv.cell? ⟨w.heap.size + 1, 0, none⟩ = some v0 ∧ Wv.cell? ⟨w.heap.size + 1, 1, none⟩ = some v1 ∧ Wv.cell? ⟨w.heap.size + 1, 2, none⟩ = some v2 ∧ Wv.cell? ⟨w.heap.size + 1, 3, none⟩ = some v3 ∧ Wv.cell? ⟨w.heap.size + 1, 4, none⟩ = some v4 ∧ Wv.cell? ⟨w.heap.size + 1, 5, none⟩ = some v5 ∧ Wv.cell? ⟨w.heap.size + 1, 6, none⟩ = some v6 ∧ Wv.cell? ⟨w.heap.size + 1, 7, none⟩ = some v7 := ⟨hb, (hb.cell (p := ⟨w.heap.size, 0, none⟩) l0).trans x0, (hb.cell (p := ⟨w.heap.size, 1, none⟩) l0).trans x1, (hb.cell (p := ⟨w.heap.size, 2, none⟩) l0).trans x2, (hb.cell (p := ⟨w.heap.size, 3, none⟩) l0).trans x3, (hb.cell (p := ⟨w.heap.size, 4, none⟩) l0).trans x4, (hb.cell (p := ⟨w.heap.size, 5, none⟩) l0).trans x5, (hb.cell (p := ⟨w.heap.size, 6, none⟩) l0).trans x6, (hb.cell (p := ⟨w.heap.size, 7, none⟩) l0).trans x7, (hb.cell (p := ⟨w.heap.size + 1, 0, none⟩) l1).trans y0, (hb.cell (p := ⟨w.heap.size + 1, 1, none⟩) l1).trans y1, (hb.cell (p := ⟨w.heap.size + 1, 2, none⟩) l1).trans y2, (hb.cell (p := ⟨w.heap.size + 1, 3, none⟩) l1).trans y3, (hb.cell (p := ⟨w.heap.size + 1, 4, none⟩) l1).trans y4, (hb.cell (p := ⟨w.heap.size + 1, 5, none⟩) l1).trans y5, (hb.cell (p := ⟨w.heap.size + 1, 6, none⟩) l1).trans y6, (hb.cell (p := ⟨w.heap.size + 1, 7, none⟩) l1).trans y7⟩
  clear hS hb
  refine hK.out _ _ SS (fun hS => ?_)
  clear hK K
  try simp only [Act.put, List.getElem_toArray, List.getElem_cons_zero, List.getElem_cons_succ, List.setIfInBounds_toArray, List.set_cons_zero, List.set_cons_succ]
  first
  | (refine wpAnyH_take (i := 10) (v := ?_) rfl (by kernel_rfl) (by kernel_rfl) (by kernel_rfl) (fun _ _ _ h => h) (Or.inl ⟨by rfl, ?_⟩) (by assumption) ?_
     rotate_left
     · (intro V hV; obtain ⟨_, x0, x1, x2, x3, x4, x5, x6, x7, y0, y1, y2, y3, y4, y5, y6, y7⟩ := hV; go_simp; try with_reducible rfl)
     try simp only [Act.put, List.getElem_toArray, List.getElem_cons_zero, List.getElem_cons_succ, List.setIfInBounds_toArray, List.set_cons_zero, List.set_cons_succ])
  | (refine wpAnyH_take (i := 10) (v := undef) rfl (by kernel_rfl) (by kernel_rfl) (by kernel_rfl) (fun _ _ _ h => h) (Or.inr ⟨by rfl, rfl⟩) (by assumption) ?_
     try simp only [Act.put, List.getElem_toArray, List.getElem_cons_zero, List.getElem_cons_succ, List.setIfInBounds_toArray, List.set_cons_zero, List.set_cons_succ])
  | fail "take 10"
  first
  | (refine wpAnyH_take (i := 11) (v := ?_) rfl (by kernel_rfl) (by kernel_rfl) (by kernel_rfl) (fun _ _ _ h => h) (Or.inl ⟨by rfl, ?_⟩) (by assumption) ?_
     rotate_left
     · (intro V hV; obtain ⟨_, x0, x1, x2, x3, x4, x5, x6, x7, y0, y1, y2, y3, y4, y5, y6, y7⟩ := hV; go_simp; try with_reducible rfl)
     try simp only [Act.put, List.getElem_toArray, List.getElem_cons_zero, List.getElem_cons_succ, List.setIfInBounds_toArray, List.set_cons_zero, List.set_cons_succ])
  | (refine wpAnyH_take (i := 11) (v := undef) rfl (by kernel_rfl) (by kernel_rfl) (by kernel_rfl) (fun _ _ _ h => h) (Or.inr ⟨by rfl, rfl⟩) (by assumption) ?_
     try simp only [Act.put, List.getElem_toArray, List.getElem_cons_zero, List.getElem_cons_succ, List.setIfInBounds_toArray, List.set_cons_zero, List.set_cons_succ])
  | fail "take 11"
  first
  | (refine wpAnyH_take (i := 12) (v := ?_) rfl (by kernel_rfl) (by kernel_rfl) (by kernel_rfl) (fun _ _ _ h => h) (Or.inl ⟨by rfl, ?_⟩) (by assumption) ?_
     rotate_left
     · (intro V hV; obtain ⟨_, x0, x1, x2, x3, x4, x5, x6, x7, y0, y1, y2, y3, y4, y5, y6, y7⟩ := hV; go_simp; try with_reducible rfl)
     try simp only [Act.put, List.getElem_toArray, List.getElem_cons_zero, List.getElem_cons_succ, List.setIfInBounds_toArray, List.set_cons_zero, List.set_cons_succ])
  | (refine wpAnyH_take (i := 12) (v := undef) rfl (by kernel_rfl) (by kernel_rfl) (by kernel_rfl) (fun _ _ _ h => h) (Or.inr ⟨by rfl, rfl⟩) (by assumption) ?_
     try simp only [Act.put, List.getElem_toArray, List.getElem_cons_zero, List.getElem_cons_succ, List.setIfInBounds_toArray, List.set_cons_zero, List.set_cons_succ])
  | fail "take 12"
  first
  | (refine wpAnyH_take (i := 13) (v := ?_) rfl (by kernel_rfl) (by kernel_rfl) (by kernel_rfl) (fun _ _ _ h => h) (Or.inl ⟨by rfl, ?_⟩) (by assumption) ?_
     rotate_left
     · (intro V hV; obtain ⟨_, x0, x1, x2, x3, x4, x5, x6, x7, y0, y1, y2, y3, y4, y5, y6, y7⟩ := hV; go_simp; try with_reducible rfl)
     try simp only [Act.put, List.getElem_toArray, List.getElem_cons_zero, List.getElem_cons_succ, List.setIfInBounds_toArray, List.set_cons_zero, List.set_cons_succ])
  | (refine wpAnyH_take (i := 13) (v := undef) rfl (by kernel_rfl) (by kernel_rfl) (by kernel_rfl) (fun _ _ _ h => h) (Or.inr ⟨by rfl, rfl⟩) (by assumption) ?_
     try simp only [Act.put, List.getElem_toArray, List.getElem_cons_zero, List.getElem_cons_succ, List.setIfInBounds_toArray, List.set_cons_zero, List.set_cons_succ])
  | fail "take 13"
  first
  | (refine wpAnyH_take (i := 15) (v := ?_) rfl (by kernel_rfl) (by kernel_rfl) (by kernel_rfl) (fun _ _ _ h => h) (Or.inl ⟨by rfl, ?_⟩) (by assumption) ?_
     rotate_left
     · (intro V hV; obtain ⟨_, x0, x1, x2, x3, x4, x5, x6, x7, y0, y1, y2, y3, y4, y5, y6, y7⟩ := hV; go_simp; try with_reducible rfl)
     try simp only [Act.put, List.getElem_toArray, List.getElem_cons_zero, List.getElem_cons_succ, List.setIfInBounds_toArray, List.set_cons_zero, List.set_cons_succ])
  | (refine wpAnyH_take (i := 15) (v := undef) rfl (by kernel_rfl) (by kernel_rfl) (by kernel_rfl) (fun _ _ _ h => h) (Or.inr ⟨by rfl, rfl⟩) (by assumption) ?_
     try simp only [Act.put, List.getElem_toArray, List.getElem_cons_zero, List.getElem_cons_succ, List.setIfInBounds_toArray, List.set_cons_zero, List.set_cons_succ])
  | fail "take 15"
  refine wpAnyH_ready (rs := [14]) (by kernel_rfl) (by simp) ?_
  refine AllReadyH.cons rfl (fun K hK => ?_) AllReadyH.nil
  go_simp
  refine (CEv.out _ hS.1).mono ?_
  rintro e Wv ⟨rfl, hb⟩
  have SS : Below X.heap.size X Wv ∧ Wv.cell? ⟨w.heap.size, 0, none⟩ = some u0 ∧ Wv.cell? ⟨w.heap.size, 1, none⟩ = some u1 ∧ Wv.cell? ⟨w.heap.size, 2, none⟩ = some u2 ∧ Wv.cell? ⟨w.heap.size, 3, none⟩ = some u3 ∧ Wv.cell? ⟨w.heap.size, 4, none⟩ = some u4 ∧ Wv.cell? ⟨w.heap.size, 5, none⟩ = some u5 ∧ Wv.cell? ⟨w.heap.size, 6, none⟩ = some u6 ∧ Wv.cell? ⟨w.heap.size, 7, none⟩ = some u7 ∧ Wv.cell? ⟨w.heap.size + 1, 0, none⟩ = some v0 ∧ Wv.cell? ⟨w.heap.size + 1, 1, none⟩ = some v1 ∧ Wv.cell? ⟨w.heap.size + 1, 2, none⟩ = some v2 ∧ Wv.cell? ⟨w.heap.size + 1, 3, none⟩ = some v3 ∧ Wv.cell? ⟨w.heap.size + 1, 4, none⟩ = some v4 ∧ Wv.cell? ⟨w.heap.size + 1, 5, none⟩ = some v5 ∧ Wv.cell? ⟨w.heap.size + 1, 6, none⟩ = some v6 ∧ Wv.cell? ⟨w.heap.size + 1, 7, none⟩ = some v7 := ⟨hb, (hb.cell (p := ⟨w.heap.size, 0, none⟩) l0).trans x0, (hb.cell (p := ⟨w.heap.size, 1, none⟩) l0).trans x1, (hb.cell (p := ⟨w.heap.size, 2, none⟩) l0).trans x2, (hb.cell (p := ⟨w.heap.size, 3, none⟩) l0).trans x3, (hb.cell (p := ⟨w.heap.size, 4, none⟩) l0).trans x4, (hb.cell (p := ⟨w.heap.size, 5, none⟩) l0).trans x5, (hb.cell (p := ⟨w.heap.size, 6, none⟩) l0).trans x6, (hb.cell (p := ⟨w.heap.size, 7, none⟩) l0).trans x7, (hb.cell (p := ⟨w.heap.size + 1, 0, none⟩) l1).trans y0, (hb.cell (p := ⟨w.heap.size + 1, 1, none⟩) l1).trans y1, (hb.cell (p := ⟨w.heap.size + 1, 2, none⟩) l1).trans y2, (hb.cell (p := ⟨w.heap.size + 1, 3, none⟩) l1).trans y3, (hb.cell (p := ⟨w.heap.size + 1, 4, none⟩) l1).trans y4, (hb.cell (p := ⟨w.heap.size + 1, 5, none⟩) l1).trans y5, (hb.cell (p := ⟨w.heap.size + 1, 6, none⟩) l1).trans y6, (hb.cell (p := ⟨w.heap.size + 1, 7, none⟩) l1).trans y7⟩
  clear hS hb
  refine hK.out _ _ SS (fun hS => ?_)
  clear hK K
  try simp only [Act.put, List.getElem_toArray, List.getElem_cons_zero, List.getElem_cons_succ, List.setIfInBounds_toArray, List.set_cons_zero, List.set_cons_succ]
  refine wpAnyH_ready (rs := [16]) (by kernel_rfl) (by simp) ?_
  refine AllReadyH.cons rfl (fun K hK => ?_) AllReadyH.nil
  go_simp
  refine (CEw.out _ hS.1).mono ?_
  rintro e Wv ⟨rfl, hb⟩
  have SS : Below X.heap.size X Wv ∧ Wv.cell? ⟨w.heap.size, 0, none⟩ = some u0 ∧ Wv.cell? ⟨w.heap.size, 1, none⟩ = some u1 ∧ Wv.cell? ⟨w.heap.size, 2, none⟩ = some u2 ∧ Wv.cell? ⟨w.heap.size, 3, none⟩ = some u3 ∧ Wv.cell? ⟨w.heap.size, 4, none⟩ = some u4 ∧ Wv.cell? ⟨w.heap.size, 5, none⟩ = some u5 ∧ Wv.cell? ⟨w.heap.size, 6, none⟩ = some u6 ∧ Wv.cell? ⟨w.heap.size, 7, none⟩ = some u7 ∧ Wv.cell? ⟨w.heap.size + 1, 0, none⟩ = some v0 ∧ Wv.cell? ⟨w.heap.size + 1, 1, none⟩ = some v1 ∧ Wv.cell? ⟨w.heap.size + 1, 2, none⟩ = some v2 ∧ Wv.cell? ⟨w.heap.size + 1, 3, none⟩ = some v3 ∧ Wv.cell? ⟨w.heap.size + 1, 4, none⟩ = some v4 ∧ Wv.cell? ⟨w.heap.size + 1, 5, none⟩ = some v5 ∧ Wv.cell? ⟨w.heap.size + 1, 6, none⟩ = some v6 ∧ Wv.cell? ⟨w.heap.size + 1, 7, none⟩ = some v7 := ⟨hb, (hb.cell (p := ⟨w.heap.size, 0, none⟩) l0).trans x0, (hb.cell (p := ⟨w.heap.size, 1, none⟩) l0).trans x1, (hb.cell (p := ⟨w.heap.size, 2, none⟩) l0).trans x2, (hb.cell (p := ⟨w.heap.size, 3, none⟩) l0).trans x3, (hb.cell (p := ⟨w.heap.size, 4, none⟩) l0).trans x4, (hb.cell (p := ⟨w.heap.size, 5, none⟩) l0).trans x5, (hb.cell (p := ⟨w.heap.size, 6, none⟩) l0).trans x6, (hb.cell (p := ⟨w.heap.size, 7, none⟩) l0).trans x7, (hb.cell (p := ⟨w.heap.size + 1, 0, none⟩) l1).trans y0, (hb.cell (p := ⟨w.heap.size + 1, 1, none⟩) l1).trans y1, (hb.cell (p := ⟨w.heap.size + 1, 2, none⟩) l1).trans y2, (hb.cell (p := ⟨w.heap.size + 1, 3, none⟩) l1).trans y3, (hb.cell (p := ⟨w.heap.size + 1, 4, none⟩) l1).trans y4, (hb.cell (p := ⟨w.heap.size + 1, 5, none⟩) l1).trans y5, (hb.cell (p := ⟨w.heap.size + 1, 6, none⟩) l1).trans y6, (hb.cell (p := ⟨w.heap.size + 1, 7, none⟩) l1).trans y7⟩
  clear hS hb
  refine hK.out _ _ SS (fun hS => ?_)
  clear hK K
  try simp only [Act.put, List.getElem_toArray, List.getElem_cons_zero, List.getElem_cons_succ, List.setIfInBounds_toArray, List.set_cons_zero, List.set_cons_succ]
  first
  | (refine wpAnyH_take (i := 17) (v := ?_) rfl (by kernel_rfl) (by kernel_rfl) (by kernel_rfl) (fun _ _ _ h => h) (Or.inl ⟨by rfl, ?_⟩) (by assumption) ?_
     rotate_left
     · (intro V hV; obtain ⟨_, x0, x1, x2, x3, x4, x5, x6, x7, y0, y1, y2, y3, y4, y5, y6, y7⟩ := hV; go_simp; try with_reducible rfl)
     try simp only [Act.put, List.getElem_toArray, List.getElem_cons_zero, List.getElem_cons_succ, List.setIfInBounds_toArray, List.set_cons_zero, List.set_cons_succ])
  | (refine wpAnyH_take (i := 17) (v := undef) rfl (by kernel_rfl) (by kernel_rfl) (by kernel_rfl) (fun _ _ _ h => h) (Or.inr ⟨by rfl, rfl⟩) (by assumption) ?_
     try simp only [Act.put, List.getElem_toArray, List.getElem_cons_zero, List.getElem_cons_succ, List.setIfInBounds_toArray, List.set_cons_zero, List.set_cons_succ])
  | fail "take 17"
  first
  | (refine wpAnyH_take (i := 18) (v := ?_) rfl (by kernel_rfl) (by kernel_rfl) (by kernel_rfl) (fun _ _ _ h => h) (Or.inl ⟨by rfl, ?_⟩) (by assumption) ?_
     rotate_left
     · (intro V hV; obtain ⟨_, x0, x1, x2, x3, x4, x5, x6, x7, y0, y1, y2, y3, y4, y5, y6, y7⟩ := hV; go_simp; try with_reducible rfl)
     try simp only [Act.put, List.getElem_toArray, List.getElem_cons_zero, List.getElem_cons_succ, List.setIfInBounds_toArray, List.set_cons_zero, List.set_cons_succ])
  | (refine wpAnyH_take (i := 18) (v := undef) rfl (by kernel_rfl) (by kernel_rfl) (by kernel_rfl) (fun _ _ _ h => h) (Or.inr ⟨by rfl, rfl⟩) (by assumption) ?_
     try simp only [Act.put, List.getElem_toArray, List.getElem_cons_zero, List.getElem_cons_succ, List.setIfInBounds_toArray, List.set_cons_zero, List.set_cons_succ])
  | fail "take 18"
  refine wpAnyH_done (by kernel_rfl) ?_ _
  go_wp2_with fail
  cases RB
  · skip
    refine wp_region_held_drew (S := fun W => Below X.heap.size X W ∧ W.cell? ⟨w.heap.size, 0, none⟩ = some u0 ∧ W.cell? ⟨w.heap.size, 1, none⟩ = some u1 ∧ W.cell? ⟨w.heap.size, 2, none⟩ = some u2 ∧ W.cell? ⟨w.heap.size, 3, none⟩ = some u3 ∧ W.cell? ⟨w.heap.size, 4, none⟩ = some u4 ∧ W.cell? ⟨w.heap.size, 5, none⟩ = some u5 ∧ W.cell? ⟨w.heap.size, 6, none⟩ = some u6 ∧ W.cell? ⟨w.heap.size, 7, none⟩ = some u7 ∧ W.cell? ⟨w.heap.size + 1, 0, none⟩ = some v0 ∧ W.cell? ⟨w.heap.size + 1, 1, none⟩ = some v1 ∧ W.cell? ⟨w.heap.size + 1, 2, none⟩ = some v2 ∧ W.cell? ⟨w.heap.size + 1, 3, none⟩ = some v3 ∧ W.cell? ⟨w.heap.size + 1, 4, none⟩ = some v4 ∧ W.cell? ⟨w.heap.size + 1, 5, none⟩ = some v5 ∧ W.cell? ⟨w.heap.size + 1, 6, none⟩ = some v6 ∧ W.cell? ⟨w.heap.size + 1, 7, none⟩ = some v7) (by kernel_rfl) (by first | exact SS | exact ⟨SS.1.drew, SS.2⟩) (fun hS => ?_)
    first
    | (refine wpAnyH_take (i := 0) (v := ?_) rfl (by kernel_rfl) (by kernel_rfl) (by kernel_rfl) (fun _ _ _ h => h) (Or.inl ⟨by rfl, ?_⟩) (by assumption) ?_
       rotate_left
       · (intro V hV; obtain ⟨_, x0, x1, x2, x3, x4, x5, x6, x7, y0, y1, y2, y3, y4, y5, y6, y7⟩ := hV; go_simp; try with_reducible rfl)
       try simp only [Act.put, List.getElem_toArray, List.getElem_cons_zero, List.setIfInBounds_toArray, List.set_cons_zero, List.set_cons_succ])
    | (refine wpAnyH_take (i := 0) (v := undef) rfl (by kernel_rfl) (by kernel_rfl) (by kernel_rfl) (fun _ _ _ h => h) (Or.inr ⟨by rfl, rfl⟩) (by assumption) ?_
       try simp only [Act.put, List.getElem_toArray, List.getElem_cons_zero, List.setIfInBounds_toArray, List.set_cons_zero, List.set_cons_succ])
    | fail "take 0"
    refine wpAnyH_ready (rs := [1]) (by kernel_rfl) (by simp) ?_
    refine AllReadyH.cons rfl (fun K hK => ?_) AllReadyH.nil
    go_simp
    refine (CEq.out _ hS.1).mono ?_
    rintro e Wv ⟨rfl, hb⟩
    have SS : Below X.heap.size X Wv ∧ Wv.cell? ⟨w.heap.size, 0, none⟩ = some u0 ∧ Wv.cell? ⟨w.heap.size, 1, none⟩ = some u1 ∧ Wv.cell? ⟨w.heap.size, 2, none⟩ = some u2 ∧ Wv.cell? ⟨w.heap.size, 3, none⟩ = some u3 ∧ Wv.cell? ⟨w.heap.size, 4, none⟩ = some u4 ∧ Wv.cell? ⟨w.heap.size, 5, none⟩ = some u5 ∧ Wv.cell? ⟨w.heap.size, 6, none⟩ = some u6 ∧ Wv.cell? ⟨w.heap.size, 7, none⟩ = some u7 ∧ Wv.cell? ⟨w.heap.size + 1, 0, none⟩ = some v0 ∧ Wv.cell? ⟨w.heap.size + 1, 1, none⟩ = some v1 ∧ Wv.cell? ⟨w.heap.size + 1, 2, none⟩ = some v2 ∧ Wv.cell? ⟨w.heap.size + 1, 3, none⟩ = some v3 ∧ Wv.cell? ⟨w.heap.size + 1, 4, none⟩ = some v4 ∧ Wv.cell? ⟨w.heap.size + 1, 5, none⟩ = some v5 ∧ Wv.cell? ⟨w.heap.size + 1, 6, none⟩ = some v6 ∧ Wv.cell? ⟨w.heap.size + 1, 7, none⟩ = some v7 := ⟨hb, (hb.cell (p := ⟨w.heap.size, 0, none⟩) l0).trans x0, (hb.cell (p := ⟨w.heap.size, 1, none⟩) l0).trans x1, (hb.cell (p := ⟨w.heap.size, 2, none⟩) l0).trans x2, (hb.cell (p := ⟨w.heap.size, 3, none⟩) l0).trans x3, (hb.cell (p := ⟨w.heap.size, 4, none⟩) l0).trans x4, (hb.cell (p := ⟨w.heap.size, 5, none⟩) l0).trans x5, (hb.cell (p := ⟨w.heap.size, 6, none⟩) l0).trans x6, (hb.cell (p := ⟨w.heap.size, 7, none⟩) l0).trans x7, (hb.cell (p := ⟨w.heap.size + 1, 0, none⟩) l1).trans y0, (hb.cell (p := ⟨w.heap.size + 1, 1, none⟩) l1).trans y1, (hb.cell (p := ⟨w.heap.size + 1, 2, none⟩) l1).trans y2, (hb.cell (p := ⟨w.heap.size + 1, 3, none⟩) l1).trans y3, (hb.cell (p := ⟨w.heap.size + 1, 4, none⟩) l1).trans y4, (hb.cell (p := ⟨w.heap.size + 1, 5, none⟩) l1).trans y5, (hb.cell (p := ⟨w.heap.size + 1, 6, none⟩) l1).trans y6, (hb.cell (p := ⟨w.heap.size + 1, 7, none⟩) l1).trans y7⟩
    clear hS hb
    refine hK.out _ _ SS (fun hS => ?_)
    clear hK K
    try simp only [Act.put, List.getElem_toArray, List.getElem_cons_zero, List.getElem_cons_succ, List.setIfInBounds_toArray, List.set_cons_zero, List.set_cons_succ]
    first
    | (refine wpAnyH_take (i := 2) (v := ?_) rfl (by kernel_rfl) (by kernel_rfl) (by kernel_rfl) (fun _ _ _ h => h) (Or.inl ⟨by rfl, ?_⟩) (by assumption) ?_
       rotate_left
       · (intro V hV; obtain ⟨_, x0, x1, x2, x3, x4, x5, x6, x7, y0, y1, y2, y3, y4, y5, y6, y7⟩ := hV; go_simp; try with_reducible rfl)
       try simp only [Act.put, List.getElem_toArray, List.getElem_cons_zero, List.getElem_cons_succ, List.setIfInBounds_toArray, List.set_cons_zero, List.set_cons_succ])
    | (refine wpAnyH_take (i := 2) (v := undef) rfl (by kernel_rfl) (by kernel_rfl) (by kernel_rfl) (fun _ _ _ h => h) (Or.inr ⟨by rfl, rfl⟩) (by assumption) ?_
       try simp only [Act.put, List.getElem_toArray, List.getElem_cons_zero, List.getElem_cons_succ, List.setIfInBounds_toArray, List.set_cons_zero, List.set_cons_succ])
    | fail "take 2"
    first
    | (refine wpAnyH_take (i := 3) (v := ?_) rfl (by kernel_rfl) (by kernel_rfl) (by kernel_rfl) (fun _ _ _ h => h) (Or.inl ⟨by rfl, ?_⟩) (by assumption) ?_
       rotate_left
       · (intro V hV; obtain ⟨_, x0, x1, x2, x3, x4, x5, x6, x7, y0, y1, y2, y3, y4, y5, y6, y7⟩ := hV; go_simp; try with_reducible rfl)
       try simp only [Act.put, List.getElem_toArray, List.getElem_cons_zero, List.getElem_cons_succ, List.setIfInBounds_toArray, List.set_cons_zero, List.set_cons_succ])
    | (refine wpAnyH_take (i := 3) (v := undef) rfl (by kernel_rfl) (by kernel_rfl) (by kernel_rfl) (fun _ _ _ h => h) (Or.inr ⟨by rfl, rfl⟩) (by assumption) ?_
       try simp only [Act.put, List.getElem_toArray, List.getElem_cons_zero, List.getElem_cons_succ, List.setIfInBounds_toArray, List.set_cons_zero, List.set_cons_succ])
    | fail "take 3"
    first
    | (refine wpAnyH_take (i := 4) (v := ?_) rfl (by kernel_rfl) (by kernel_rfl) (by kernel_rfl) (fun _ _ _ h => h) (Or.inl ⟨by rfl, ?_⟩) (by assumption) ?_
       rotate_left
       · (intro V hV; obtain ⟨_, x0, x1, x2, x3, x4, x5, x6, x7, y0, y1, y2, y3, y4, y5, y6, y7⟩ := hV; go_simp; try with_reducible rfl)
       try simp only [Act.put, List.getElem_toArray, List.getElem_cons_zero, List.getElem_cons_succ, List.setIfInBounds_toArray, List.set_cons_zero, List.set_cons_succ])
    | (refine wpAnyH_take (i := 4) (v := undef) rfl (by kernel_rfl) (by kernel_rfl) (by kernel_rfl) (fun _ _ _ h => h) (Or.inr ⟨by rfl, rfl⟩) (by assumption) ?_
       try simp only [Act.put, List.getElem_toArray, List.getElem_cons_zero, List.getElem_cons_succ, List.setIfInBounds_toArray, List.set_cons_zero, List.set_cons_succ])
    | fail "take 4"
    first
    | (refine wpAnyH_take (i := 5) (v := ?_) rfl (by kernel_rfl) (by kernel_rfl) (by kernel_rfl) (fun _ _ _ h => h) (Or.inl ⟨by rfl, ?_⟩) (by assumption) ?_
       rotate_left
       · (intro V hV; obtain ⟨_, x0, x1, x2, x3, x4, x5, x6, x7, y0, y1, y2, y3, y4, y5, y6, y7⟩ := hV; go_simp; try with_reducible rfl)
       try simp only [Act.put, List.getElem_toArray, List.getElem_cons_zero, List.getElem_cons_succ, List.setIfInBounds_toArray, List.set_cons_zero, List.set_cons_succ])
    | (refine wpAnyH_take (i := 5) (v := undef) rfl (by kernel_rfl) (by kernel_rfl) (by kernel_rfl) (fun _ _ _ h => h) (Or.inr ⟨by rfl, rfl⟩) (by assumption) ?_
       try simp only [Act.put, List.getElem_toArray, List.getElem_cons_zero, List.getElem_cons_succ, List.setIfInBounds_toArray, List.set_cons_zero, List.set_cons_succ])
    | fail "take 5"
    first
    | (refine wpAnyH_take (i := 6) (v := ?_) rfl (by kernel_rfl) (by kernel_rfl) (by kernel_rfl) (fun _ _ _ h => h) (Or.inl ⟨by rfl, ?_⟩) (by assumption) ?_
       rotate_left
       · (intro V hV; obtain ⟨_, x0, x1, x2, x3, x4, x5, x6, x7, y0, y1, y2, y3, y4, y5, y6, y7⟩ := hV; go_simp; try with_reducible rfl)
       try simp only [Act.put, List.getElem_toArray, List.getElem_cons_zero, List.getElem_cons_succ, List.setIfInBounds_toArray, List.set_cons_zero, List.set_cons_succ])
    | (refine wpAnyH_take (i := 6) (v := undef) rfl (by kernel_rfl) (by kernel_rfl) (by kernel_rfl) (fun _ _ _ h => h) (Or.inr ⟨by rfl, rfl⟩) (by assumption) ?_
       try simp only [Act.put, List.getElem_toArray, List.getElem_cons_zero, List.getElem_cons_succ, List.setIfInBounds_toArray, List.set_cons_zero, List.set_cons_succ])
    | fail "take 6"
    first
    | (refine wpAnyH_take (i := 7) (v := ?_) rfl (by kernel_rfl) (by kernel_rfl) (by kernel_rfl) (fun _ _ _ h => h) (Or.inl ⟨by rfl, ?_⟩) (by assumption) ?_
       rotate_left
       · (intro V hV; obtain ⟨_, x0, x1, x2, x3, x4, x5, x6, x7, y0, y1, y2, y3, y4, y5, y6, y7⟩ := hV; go_simp; try with_reducible rfl)
       try simp only [Act.put, List.getElem_toArray, List.getElem_cons_zero, List.getElem_cons_succ, List.setIfInBounds_toArray, List.set_cons_zero, List.set_cons_succ])
    | (refine wpAnyH_take (i := 7) (v := undef) rfl (by kernel_rfl) (by kernel_rfl) (by kernel_rfl) (fun _ _ _ h => h) (Or.inr ⟨by rfl, rfl⟩) (by assumption) ?_
       try simp only [Act.put, List.getElem_toArray, List.getElem_cons_zero, List.getElem_cons_succ, List.setIfInBounds_toArray, List.set_cons_zero, List.set_cons_succ])
    | fail "take 7"
    first
    | (refine wpAnyH_take (i := 8) (v := ?_) rfl (by kernel_rfl) (by kernel_rfl) (by kernel_rfl) (fun _ _ _ h => h) (Or.inl ⟨by rfl, ?_⟩) (by assumption) ?_
       rotate_left
       · (intro V hV; obtain ⟨_, x0, x1, x2, x3, x4, x5, x6, x7, y0, y1, y2, y3, y4, y5, y6, y7⟩ := hV; go_simp; try with_reducible rfl)
       try simp only [Act.put, List.getElem_toArray, List.getElem_cons_zero, List.getElem_cons_succ, List.setIfInBounds_toArray, List.set_cons_zero, List.set_cons_succ])
    | (refine wpAnyH_take (i := 8) (v := undef) rfl (by kernel_rfl) (by kernel_rfl) (by kernel_rfl) (fun _ _ _ h => h) (Or.inr ⟨by rfl, rfl⟩) (by assumption) ?_
       try simp only [Act.put, List.getElem_toArray, List.getElem_cons_zero, List.getElem_cons_succ, List.setIfInBounds_toArray, List.set_cons_zero, List.set_cons_succ])
    | fail "take 8"
    first
    | (refine wpAnyH_take (i := 9) (v := ?_) rfl (by kernel_rfl) (by kernel_rfl) (by kernel_rfl) (fun _ _ _ h => h) (Or.inl ⟨by rfl, ?_⟩) (by assumption) ?_
       rotate_left
       · (intro V hV; obtain ⟨_, x0, x1, x2, x3, x4, x5, x6, x7, y0, y1, y2, y3, y4, y5, y6, y7⟩ := hV; go_simp; try with_reducible rfl)
       try simp only [Act.put, List.getElem_toArray, List.getElem_cons_zero, List.getElem_cons_succ, List.setIfInBounds_toArray, List.set_cons_zero, List.set_cons_succ])
    | (refine wpAnyH_take (i := 9) (v := undef) rfl (by kernel_rfl) (by kernel_rfl) (by kernel_rfl) (fun _ _ _ h => h) (Or.inr ⟨by rfl, rfl⟩) (by assumption) ?_
       try simp only [Act.put, List.getElem_toArray, List.getElem_cons_zero, List.getElem_cons_succ, List.setIfInBounds_toArray, List.set_cons_zero, List.set_cons_succ])
    | fail "take 9"
    first
    | (refine wpAnyH_take (i := 10) (v := ?_) rfl (by kernel_rfl) (by kernel_rfl) (by kernel_rfl) (fun _ _ _ h => h) (Or.inl ⟨by rfl, ?_⟩) (by assumption) ?_
       rotate_left
       · (intro V hV; obtain ⟨_, x0, x1, x2, x3, x4, x5, x6, x7, y0, y1, y2, y3, y4, y5, y6, y7⟩ := hV; go_simp; try with_reducible rfl)
       try simp only [Act.put, List.getElem_toArray, List.getElem_cons_zero, List.getElem_cons_succ, List.setIfInBounds_toArray, List.set_cons_zero, List.set_cons_succ])
    | (refine wpAnyH_take (i := 10) (v := undef) rfl (by kernel_rfl) (by kernel_rfl) (by kernel_rfl) (fun _ _ _ h => h) (Or.inr ⟨by rfl, rfl⟩) (by assumption) ?_
       try simp only [Act.put, List.getElem_toArray, List.getElem_cons_zero, List.getElem_cons_succ, List.setIfInBounds_toArray, List.set_cons_zero, List.set_cons_succ])
    | fail "take 10"
    first
    | (refine wpAnyH_take (i := 11) (v := ?_) rfl (by kernel_rfl) (by kernel_rfl) (by kernel_rfl) (fun _ _ _ h => h) (Or.inl ⟨by rfl, ?_⟩) (by assumption) ?_
       rotate_left
       · (intro V hV; obtain ⟨_, x0, x1, x2, x3, x4, x5, x6, x7, y0, y1, y2, y3, y4, y5, y6, y7⟩ := hV; go_simp; try with_reducible rfl)
       try simp only [Act.put, List.getElem_toArray, List.getElem_cons_zero, List.getElem_cons_succ, List.setIfInBounds_toArray, List.set_cons_zero, List.set_cons_succ])
    | (refine wpAnyH_take (i := 11) (v := undef) rfl (by kernel_rfl) (by kernel_rfl) (by kernel_rfl) (fun _ _ _ h => h) (Or.inr ⟨by rfl, rfl⟩) (by assumption) ?_
       try simp only [Act.put, List.getElem_toArray, List.getElem_cons_zero, List.getElem_cons_succ, List.setIfInBounds_toArray, List.set_cons_zero, List.set_cons_succ])
    | fail "take 11"
    first
    | (refine wpAnyH_take (i := 12) (v := ?_) rfl (by kernel_rfl) (by kernel_rfl) (by kernel_rfl) (fun _ _ _ h => h) (Or.inl ⟨by rfl, ?_⟩) (by assumption) ?_
       rotate_left
       · (intro V hV; obtain ⟨_, x0, x1, x2, x3, x4, x5, x6, x7, y0, y1, y2, y3, y4, y5, y6, y7⟩ := hV; go_simp; try with_reducible rfl)
       try simp only [Act.put, List.getElem_toArray, List.getElem_cons_zero, List.getElem_cons_succ, List.setIfInBounds_toArray, List.set_cons_zero, List.set_cons_succ])
    | (refine wpAnyH_take (i := 12) (v := undef) rfl (by kernel_rfl) (by kernel_rfl) (by kernel_rfl) (fun _ _ _ h => h) (Or.inr ⟨by rfl, rfl⟩) (by assumption) ?_
       try simp only [Act.put, List.getElem_toArray, List.getElem_cons_zero, List.getElem_cons_succ, List.setIfInBounds_toArray, List.set_cons_zero, List.set_cons_succ])
    | fail "take 12"
    first
    | (refine wpAnyH_take (i := 13) (v := ?_) rfl (by kernel_rfl) (by kernel_rfl) (by kernel_rfl) (fun _ _ _ h => h) (Or.inl ⟨by rfl, ?_⟩) (by assumption) ?_
       rotate_left
       · (intro V hV; obtain ⟨_, x0, x1, x2, x3, x4, x5, x6, x7, y0, y1, y2, y3, y4, y5, y6, y7⟩ := hV; go_simp; try with_reducible rfl)
       try simp only [Act.put, List.getElem_toArray, List.getElem_cons_zero, List.getElem_cons_succ, List.setIfInBounds_toArray, List.set_cons_zero, List.set_cons_succ])
    | (refine wpAnyH_take (i := 13) (v := undef) rfl (by kernel_rfl) (by kernel_rfl) (by kernel_rfl) (fun _ _ _ h => h) (Or.inr ⟨by rfl, rfl⟩) (by assumption) ?_
       try simp only [Act.put, List.getElem_toArray, List.getElem_cons_zero, List.getElem_cons_succ, List.setIfInBounds_toArray, List.set_cons_zero, List.set_cons_succ])
    | fail "take 13"
    first
    | (refine wpAnyH_take (i := 14) (v := ?_) rfl (by kernel_rfl) (by kernel_rfl) (by kernel_rfl) (fun _ _ _ h => h) (Or.inl ⟨by rfl, ?_⟩) (by assumption) ?_
       rotate_left
       · (intro V hV; obtain ⟨_, x0, x1, x2, x3, x4, x5, x6, x7, y0, y1, y2, y3, y4, y5, y6, y7⟩ := hV; go_simp; try with_reducible rfl)
       try simp only [Act.put, List.getElem_toArray, List.getElem_cons_zero, List.getElem_cons_succ, List.setIfInBounds_toArray, List.set_cons_zero, List.set_cons_succ])
    | (refine wpAnyH_take (i := 14) (v := undef) rfl (by kernel_rfl) (by kernel_rfl) (by kernel_rfl) (fun _ _ _ h => h) (Or.inr ⟨by rfl, rfl⟩) (by assumption) ?_
       try simp only [Act.put, List.getElem_toArray, List.getElem_cons_zero, List.getElem_cons_succ, List.setIfInBounds_toArray, List.set_cons_zero, List.set_cons_succ])
    | fail "take 14"
    refine wpAnyH_done (by kernel_rfl) ?_ _
    go_wp2
    go_ret
    exact ⟨rfl, HB3.out.trans (Below.mono SS.1 HB3.out.size)⟩
  · have DTq := Lib.hid (CTq.out rfl)
    clear CTq
    have hfin : (TX == TY) = sm := (by first | exact HTI.out rfl rfl | exact HTI.out trivial rfl | exact HTI.out trivial trivial | exact HTI.out)
    have HFIN := Lib.hid hfin
    clear hfin
    refine wp_region_held_drew (S := fun W => Below X.heap.size X W ∧ W.cell? ⟨w.heap.size, 0, none⟩ = some u0 ∧ W.cell? ⟨w.heap.size, 1, none⟩ = some u1 ∧ W.cell? ⟨w.heap.size, 2, none⟩ = some u2 ∧ W.cell? ⟨w.heap.size, 3, none⟩ = some u3 ∧ W.cell? ⟨w.heap.size, 4, none⟩ = some u4 ∧ W.cell? ⟨w.heap.size, 5, none⟩ = some u5 ∧ W.cell? ⟨w.heap.size, 6, none⟩ = some u6 ∧ W.cell? ⟨w.heap.size, 7, none⟩ = some u7 ∧ W.cell? ⟨w.heap.size + 1, 0, none⟩ = some v0 ∧ W.cell? ⟨w.heap.size + 1, 1, none⟩ = some v1 ∧ W.cell? ⟨w.heap.size + 1, 2, none⟩ = some v2 ∧ W.cell? ⟨w.heap.size + 1, 3, none⟩ = some v3 ∧ W.cell? ⟨w.heap.size + 1, 4, none⟩ = some v4 ∧ W.cell? ⟨w.heap.size + 1, 5, none⟩ = some v5 ∧ W.cell? ⟨w.heap.size + 1, 6, none⟩ = some v6 ∧ W.cell? ⟨w.heap.size + 1, 7, none⟩ = some v7) (by kernel_rfl) (by first | exact SS | exact ⟨SS.1.drew, SS.2⟩) (fun hS => ?_)
    first
    | (refine wpAnyH_take (i := 0) (v := ?_) rfl (by kernel_rfl) (by kernel_rfl) (by kernel_rfl) (fun _ _ _ h => h) (Or.inl ⟨by rfl, ?_⟩) (by assumption) ?_
       rotate_left
       · (intro V hV; obtain ⟨_, x0, x1, x2, x3, x4, x5, x6, x7, y0, y1, y2, y3, y4, y5, y6, y7⟩ := hV; go_simp; try with_reducible rfl)
       try simp only [Act.put, List.getElem_toArray, List.getElem_cons_zero, List.setIfInBounds_toArray, List.set_cons_zero, List.set_cons_succ])
    | (refine wpAnyH_take (i := 0) (v := undef) rfl (by kernel_rfl) (by kernel_rfl) (by kernel_rfl) (fun _ _ _ h => h) (Or.inr ⟨by rfl, rfl⟩) (by assumption) ?_
       try simp only [Act.put, List.getElem_toArray, List.getElem_cons_zero, List.setIfInBounds_toArray, List.set_cons_zero, List.set_cons_succ])
    | fail "take 0"
    refine wpAnyH_ready (rs := [1]) (by kernel_rfl) (by simp) ?_
    refine AllReadyH.cons rfl (fun K hK => ?_) AllReadyH.nil
    go_simp
    refine (CEq.out _ hS.1).mono ?_
    rintro e Wv ⟨rfl, hb⟩
    have SS : Below X.heap.size X Wv ∧ Wv.cell? ⟨w.heap.size, 0, none⟩ = some u0 ∧ Wv.cell? ⟨w.heap.size, 1, none⟩ = some u1 ∧ Wv.cell? ⟨w.heap.size, 2, none⟩ = some u2 ∧ Wv.cell? ⟨w.heap.size, 3, none⟩ = some u3 ∧ Wv.cell? ⟨w.heap.size, 4, none⟩ = some u4 ∧ Wv.cell? ⟨w.heap.size, 5, none⟩ = some u5 ∧ Wv.cell? ⟨w.heap.size, 6, none⟩ = some u6 ∧ Wv.cell? ⟨w.heap.size, 7, none⟩ = some u7 ∧ Wv.cell? ⟨w.heap.size + 1, 0, none⟩ = some v0 ∧ Wv.cell? ⟨w.heap.size + 1, 1, none⟩ = some v1 ∧ Wv.cell? ⟨w.heap.size + 1, 2, none⟩ = some v2 ∧ Wv.cell? ⟨w.heap.size + 1, 3, none⟩ = some v3 ∧ Wv.cell? ⟨w.heap.size + 1, 4, none⟩ = some v4 ∧ Wv.cell? ⟨w.heap.size + 1, 5, none⟩ = some v5 ∧ Wv.cell? ⟨w.heap.size + 1, 6, none⟩ = some v6 ∧ Wv.cell? ⟨w.heap.size + 1, 7, none⟩ = some v7 := ⟨hb, (hb.cell (p := ⟨w.heap.size, 0, none⟩) l0).trans x0, (hb.cell (p := ⟨w.heap.size, 1, none⟩) l0).trans x1, (hb.cell (p := ⟨w.heap.size, 2, none⟩) l0).trans x2, (hb.cell (p := ⟨w.heap.size, 3, none⟩) l0).trans x3, (hb.cell (p := ⟨w.heap.size, 4, none⟩) l0).trans x4, (hb.cell (p := ⟨w.heap.size, 5, none⟩) l0).trans x5, (hb.cell (p := ⟨w.heap.size, 6, none⟩) l0).trans x6, (hb.cell (p := ⟨w.heap.size, 7, none⟩) l0).trans x7, (hb.cell (p := ⟨w.heap.size + 1, 0, none⟩) l1).trans y0, (hb.cell (p := ⟨w.heap.size + 1, 1, none⟩) l1).trans y1, (hb.cell (p := ⟨w.heap.size + 1, 2, none⟩) l1).trans y2, (hb.cell (p := ⟨w.heap.size + 1, 3, none⟩) l1).trans y3, (hb.cell (p := ⟨w.heap.size + 1, 4, none⟩) l1).trans y4, (hb.cell (p := ⟨w.heap.size + 1, 5, none⟩) l1).trans y5, (hb.cell (p := ⟨w.heap.size + 1, 6, none⟩) l1).trans y6, (hb.cell (p := ⟨w.heap.size + 1, 7, none⟩) l1).trans y7⟩
    clear hS hb
    refine hK.out _ _ SS (fun hS => ?_)
    clear hK K
    try simp only [Act.put, List.getElem_toArray, List.getElem_cons_zero, List.getElem_cons_succ, List.setIfInBounds_toArray, List.set_cons_zero, List.set_cons_succ]
    first
    | (refine wpAnyH_take (i := 2) (v := ?_) rfl (by kernel_rfl) (by kernel_rfl) (by kernel_rfl) (fun _ _ _ h => h) (Or.inl ⟨by rfl, ?_⟩) (by assumption) ?_
       rotate_left
       · (intro V hV; obtain ⟨_, x0, x1, x2, x3, x4, x5, x6, x7, y0, y1, y2, y3, y4, y5, y6, y7⟩ := hV; go_simp; try with_reducible rfl)
       try simp only [Act.put, List.getElem_toArray, List.getElem_cons_zero, List.getElem_cons_succ, List.setIfInBounds_toArray, List.set_cons_zero, List.set_cons_succ])
    | (refine wpAnyH_take (i := 2) (v := undef) rfl (by kernel_rfl) (by kernel_rfl) (by kernel_rfl) (fun _ _ _ h => h) (Or.inr ⟨by rfl, rfl⟩) (by assumption) ?_
       try simp only [Act.put, List.getElem_toArray, List.getElem_cons_zero, List.getElem_cons_succ, List.setIfInBounds_toArray, List.set_cons_zero, List.set_cons_succ])
    | fail "take 2"
    first
    | (refine wpAnyH_take (i := 3) (v := ?_) rfl (by kernel_rfl) (by kernel_rfl) (by kernel_rfl) (fun _ _ _ h => h) (Or.inl ⟨by rfl, ?_⟩) (by assumption) ?_
       rotate_left
       · (intro V hV; obtain ⟨_, x0, x1, x2, x3, x4, x5, x6, x7, y0, y1, y2, y3, y4, y5, y6, y7⟩ := hV; go_simp; try with_reducible rfl)
       try simp only [Act.put, List.getElem_toArray, List.getElem_cons_zero, List.getElem_cons_succ, List.setIfInBounds_toArray, List.set_cons_zero, List.set_cons_succ])
    | (refine wpAnyH_take (i := 3) (v := undef) rfl (by kernel_rfl) (by kernel_rfl) (by kernel_rfl) (fun _ _ _ h => h) (Or.inr ⟨by rfl, rfl⟩) (by assumption) ?_
       try simp only [Act.put, List.getElem_toArray, List.getElem_cons_zero, List.getElem_cons_succ, List.setIfInBounds_toArray, List.set_cons_zero, List.set_cons_succ])
    | fail "take 3"
    first
    | (refine wpAnyH_take (i := 4) (v := ?_) rfl (by kernel_rfl) (by kernel_rfl) (by kernel_rfl) (fun _ _ _ h => h) (Or.inl ⟨by rfl, ?_⟩) (by assumption) ?_
       rotate_left
       · (intro V hV; obtain ⟨_, x0, x1, x2, x3, x4, x5, x6, x7, y0, y1, y2, y3, y4, y5, y6, y7⟩ := hV; go_simp; try with_reducible rfl)
       try simp only [Act.put, List.getElem_toArray, List.getElem_cons_zero, List.getElem_cons_succ, List.setIfInBounds_toArray, List.set_cons_zero, List.set_cons_succ])
    | (refine wpAnyH_take (i := 4) (v := undef) rfl (by kernel_rfl) (by kernel_rfl) (by kernel_rfl) (fun _ _ _ h => h) (Or.inr ⟨by rfl, rfl⟩) (by assumption) ?_
       try simp only [Act.put, List.getElem_toArray, List.getElem_cons_zero, List.getElem_cons_succ, List.setIfInBounds_toArray, List.set_cons_zero, List.set_cons_succ])
    | fail "take 4"
    first
    | (refine wpAnyH_take (i := 6) (v := ?_) rfl (by kernel_rfl) (by kernel_rfl) (by kernel_rfl) (fun _ _ _ h => h) (Or.inl ⟨by rfl, ?_⟩) (by assumption) ?_
       rotate_left
       · (intro V hV; obtain ⟨_, x0, x1, x2, x3, x4, x5, x6, x7, y0, y1, y2, y3, y4, y5, y6, y7⟩ := hV; go_simp; try with_reducible rfl)
       try simp only [Act.put, List.getElem_toArray, List.getElem_cons_zero, List.getElem_cons_succ, List.setIfInBounds_toArray, List.set_cons_zero, List.set_cons_succ])
    | (refine wpAnyH_take (i := 6) (v := undef) rfl (by kernel_rfl) (by kernel_rfl) (by kernel_rfl) (fun _ _ _ h => h) (Or.inr ⟨by rfl, rfl⟩) (by assumption) ?_
       try simp only [Act.put, List.getElem_toArray, List.getElem_cons_zero, List.getElem_cons_succ, List.setIfInBounds_toArray, List.set_cons_zero, List.set_cons_succ])
    | fail "take 6"
    first
    | (refine wpAnyH_take (i := 9) (v := ?_) rfl (by kernel_rfl) (by kernel_rfl) (by kernel_rfl) (fun _ _ _ h => h) (Or.inl ⟨by rfl, ?_⟩) (by assumption) ?_
       rotate_left
       · (intro V hV; obtain ⟨_, x0, x1, x2, x3, x4, x5, x6, x7, y0, y1, y2, y3, y4, y5, y6, y7⟩ := hV; go_simp; try with_reducible rfl)
       try simp only [Act.put, List.getElem_toArray, List.getElem_cons_zero, List.getElem_cons_succ, List.setIfInBounds_toArray, List.set_cons_zero, List.set_cons_succ])
    | (refine wpAnyH_take (i := 9) (v := undef) rfl (by kernel_rfl) (by kernel_rfl) (by kernel_rfl) (fun _ _ _ h => h) (Or.inr ⟨by rfl, rfl⟩) (by assumption) ?_
       try simp only [Act.put, List.getElem_toArray, List.getElem_cons_zero, List.getElem_cons_succ, List.setIfInBounds_toArray, List.set_cons_zero, List.set_cons_succ])
    | fail "take 9"
    first
    | (refine wpAnyH_take (i := 10) (v := ?_) rfl (by kernel_rfl) (by kernel_rfl) (by kernel_rfl) (fun _ _ _ h => h) (Or.inl ⟨by rfl, ?_⟩) (by assumption) ?_
       rotate_left
       · (intro V hV; obtain ⟨_, x0, x1, x2, x3, x4, x5, x6, x7, y0, y1, y2, y3, y4, y5, y6, y7⟩ := hV; go_simp; try with_reducible rfl)
       try simp only [Act.put, List.getElem_toArray, List.getElem_cons_zero, List.getElem_cons_succ, List.setIfInBounds_toArray, List.set_cons_zero, List.set_cons_succ])
    | (refine wpAnyH_take (i := 10) (v := undef) rfl (by kernel_rfl) (by kernel_rfl) (by kernel_rfl) (fun _ _ _ h => h) (Or.inr ⟨by rfl, rfl⟩) (by assumption) ?_
       try simp only [Act.put, List.getElem_toArray, List.getElem_cons_zero, List.getElem_cons_succ, List.setIfInBounds_toArray, List.set_cons_zero, List.set_cons_succ])
    | fail "take 10"
    refine wpAnyH_ready (rs := [5]) (by kernel_rfl) (by simp) ?_
    refine AllReadyH.cons rfl (fun K hK => ?_) AllReadyH.nil
    go_simp
    refine (DTp.out _ hS.1).mono ?_
    rintro e Wv ⟨rfl, hb⟩
    have SS : Below X.heap.size X Wv ∧ Wv.cell? ⟨w.heap.size, 0, none⟩ = some u0 ∧ Wv.cell? ⟨w.heap.size, 1, none⟩ = some u1 ∧ Wv.cell? ⟨w.heap.size, 2, none⟩ = some u2 ∧ Wv.cell? ⟨w.heap.size, 3, none⟩ = some u3 ∧ Wv.cell? ⟨w.heap.size, 4, none⟩ = some u4 ∧ Wv.cell? ⟨w.heap.size, 5, none⟩ = some u5 ∧ Wv.cell? ⟨w.heap.size, 6, none⟩ = some u6 ∧ Wv.cell? ⟨w.heap.size, 7, none⟩ = some u7 ∧ Wv.cell? ⟨w.heap.size + 1, 0, none⟩ = some v0 ∧ Wv.cell? ⟨w.heap.size + 1, 1, none⟩ = some v1 ∧ Wv.cell? ⟨w.heap.size + 1, 2, none⟩ = some v2 ∧ Wv.cell? ⟨w.heap.size + 1, 3, none⟩ = some v3 ∧ Wv.cell? ⟨w.heap.size + 1, 4, none⟩ = some v4 ∧ Wv.cell? ⟨w.heap.size + 1, 5, none⟩ = some v5 ∧ Wv.cell? ⟨w.heap.size + 1, 6, none⟩ = some v6 ∧ Wv.cell? ⟨w.heap.size + 1, 7, none⟩ = some v7 := ⟨hb, (hb.cell (p := ⟨w.heap.size, 0, none⟩) l0).trans x0, (hb.cell (p := ⟨w.heap.size, 1, none⟩) l0).trans x1, (hb.cell (p := ⟨w.heap.size, 2, none⟩) l0).trans x2, (hb.cell (p := ⟨w.heap.size, 3, none⟩) l0).trans x3, (hb.cell (p := ⟨w.heap.size, 4, none⟩) l0).trans x4, (hb.cell (p := ⟨w.heap.size, 5, none⟩) l0).trans x5, (hb.cell (p := ⟨w.heap.size, 6, none⟩) l0).trans x6, (hb.cell (p := ⟨w.heap.size, 7, none⟩) l0).trans x7, (hb.cell (p := ⟨w.heap.size + 1, 0, none⟩) l1).trans y0, (hb.cell (p := ⟨w.heap.size + 1, 1, none⟩) l1).trans y1, (hb.cell (p := ⟨w.heap.size + 1, 2, none⟩) l1).trans y2, (hb.cell (p := ⟨w.heap.size + 1, 3, none⟩) l1).trans y3, (hb.cell (p := ⟨w.heap.size + 1, 4, none⟩) l1).trans y4, (hb.cell (p := ⟨w.heap.size + 1, 5, none⟩) l1).trans y5, (hb.cell (p := ⟨w.heap.size + 1, 6, none⟩) l1).trans y6, (hb.cell (p := ⟨w.heap.size + 1, 7, none⟩) l1).trans y7⟩
    clear hS hb
    refine hK.out _ _ SS (fun hS => ?_)
    clear hK K
    try simp only [Act.put, List.getElem_toArray, List.getElem_cons_zero, List.getElem_cons_succ, List.setIfInBounds_toArray, List.set_cons_zero, List.set_cons_succ]
    refine wpAnyH_ready (rs := [7]) (by kernel_rfl) (by simp) ?_
    refine AllReadyH.cons rfl (fun K hK => ?_) AllReadyH.nil
    go_simp
    refine (DTq.out _ hS.1).mono ?_
    rintro e Wv ⟨rfl, hb⟩
    have SS : Below X.heap.size X Wv ∧ Wv.cell? ⟨w.heap.size, 0, none⟩ = some u0 ∧ Wv.cell? ⟨w.heap.size, 1, none⟩ = some u1 ∧ Wv.cell? ⟨w.heap.size, 2, none⟩ = some u2 ∧ Wv.cell? ⟨w.heap.size, 3, none⟩ = some u3 ∧ Wv.cell? ⟨w.heap.size, 4, none⟩ = some u4 ∧ Wv.cell? ⟨w.heap.size, 5, none⟩ = some u5 ∧ Wv.cell? ⟨w.heap.size, 6, none⟩ = some u6 ∧ Wv.cell? ⟨w.heap.size, 7, none⟩ = some u7 ∧ Wv.cell? ⟨w.heap.size + 1, 0, none⟩ = some v0 ∧ Wv.cell? ⟨w.heap.size + 1, 1, none⟩ = some v1 ∧ Wv.cell? ⟨w.heap.size + 1, 2, none⟩ = some v2 ∧ Wv.cell? ⟨w.heap.size + 1, 3, none⟩ = some v3 ∧ Wv.cell? ⟨w.heap.size + 1, 4, none⟩ = some v4 ∧ Wv.cell? ⟨w.heap.size + 1, 5, none⟩ = some v5 ∧ Wv.cell? ⟨w.heap.size + 1, 6, none⟩ = some v6 ∧ Wv.cell? ⟨w.heap.size + 1, 7, none⟩ = some v7 := ⟨hb, (hb.cell (p := ⟨w.heap.size, 0, none⟩) l0).trans x0, (hb.cell (p := ⟨w.heap.size, 1, none⟩) l0).trans x1, (hb.cell (p := ⟨w.heap.size, 2, none⟩) l0).trans x2, (hb.cell (p := ⟨w.heap.size, 3, none⟩) l0).trans x3, (hb.cell (p := ⟨w.heap.size, 4, none⟩) l0).trans x4, (hb.cell (p := ⟨w.heap.size, 5, none⟩) l0).trans x5, (hb.cell (p := ⟨w.heap.size, 6, none⟩) l0).trans x6, (hb.cell (p := ⟨w.heap.size, 7, none⟩) l0).trans x7, (hb.cell (p := ⟨w.heap.size + 1, 0, none⟩) l1).trans y0, (hb.cell (p := ⟨w.heap.size + 1, 1, none⟩) l1).trans y1, (hb.cell (p := ⟨w.heap.size + 1, 2, none⟩) l1).trans y2, (hb.cell (p := ⟨w.heap.size + 1, 3, none⟩) l1).trans y3, (hb.cell (p := ⟨w.heap.size + 1, 4, none⟩) l1).trans y4, (hb.cell (p := ⟨w.heap.size + 1, 5, none⟩) l1).trans y5, (hb.cell (p := ⟨w.heap.size + 1, 6, none⟩) l1).trans y6, (hb.cell (p := ⟨w.heap.size + 1, 7, none⟩) l1).trans y7⟩
    clear hS hb
    refine hK.out _ _ SS (fun hS => ?_)
    clear hK K
    try simp only [Act.put, List.getElem_toArray, List.getElem_cons_zero, List.getElem_cons_succ, List.setIfInBounds_toArray, List.set_cons_zero, List.set_cons_succ]
    first
    | (refine wpAnyH_take (i := 8) (v := ?_) rfl (by kernel_rfl) (by kernel_rfl) (by kernel_rfl) (fun _ _ _ h => h) (Or.inl ⟨by rfl, ?_⟩) (by assumption) ?_
       rotate_left
       · (intro V hV; obtain ⟨_, x0, x1, x2, x3, x4, x5, x6, x7, y0, y1, y2, y3, y4, y5, y6, y7⟩ := hV; go_simp; try with_reducible rfl)
       try simp only [Act.put, List.getElem_toArray, List.getElem_cons_zero, List.getElem_cons_succ, List.setIfInBounds_toArray, List.set_cons_zero, List.set_cons_succ])
    | (refine wpAnyH_take (i := 8) (v := undef) rfl (by kernel_rfl) (by kernel_rfl) (by kernel_rfl) (fun _ _ _ h => h) (Or.inr ⟨by rfl, rfl⟩) (by assumption) ?_
       try simp only [Act.put, List.getElem_toArray, List.getElem_cons_zero, List.getElem_cons_succ, List.setIfInBounds_toArray, List.set_cons_zero, List.set_cons_succ])
    | fail "take 8"
    refine wpAnyH_ready (rs := [11]) (by kernel_rfl) (by simp) ?_
    refine AllReadyH.cons rfl (fun K hK => ?_) AllReadyH.nil
    go_simp
    refine (CEt.out _ hS.1).mono ?_
    rintro e Wv ⟨rfl, hb⟩
    have SS : Below X.heap.size X Wv ∧ Wv.cell? ⟨w.heap.size, 0, none⟩ = some u0 ∧ Wv.cell? ⟨w.heap.size, 1, none⟩ = some u1 ∧ Wv.cell? ⟨w.heap.size, 2, none⟩ = some u2 ∧ Wv.cell? ⟨w.heap.size, 3, none⟩ = some u3 ∧ Wv.cell? ⟨w.heap.size, 4, none⟩ = some u4 ∧ Wv.cell? ⟨w.heap.size, 5, none⟩ = some u5 ∧ Wv.cell? ⟨w.heap.size, 6, none⟩ = some u6 ∧ Wv.cell? ⟨w.heap.size, 7, none⟩ = some u7 ∧ Wv.cell? ⟨w.heap.size + 1, 0, none⟩ = some v0 ∧ Wv.cell? ⟨w.heap.size + 1, 1, none⟩ = some v1 ∧ Wv.cell? ⟨w.heap.size + 1, 2, none⟩ = some v2 ∧ Wv.cell? ⟨w.heap.size + 1, 3, none⟩ = some v3 ∧ Wv.cell? ⟨w.heap.size + 1, 4, none⟩ = some v4 ∧ Wv.cell? ⟨w.heap.size + 1, 5, none⟩ = some v5 ∧ Wv.cell? ⟨w.heap.size + 1, 6, none⟩ = some v6 ∧ Wv.cell? ⟨w.heap.size + 1, 7, none⟩ = some v7 := ⟨hb, (hb.cell (p := ⟨w.heap.size, 0, none⟩) l0).trans x0, (hb.cell (p := ⟨w.heap.size, 1, none⟩) l0).trans x1, (hb.cell (p := ⟨w.heap.size, 2, none⟩) l0).trans x2, (hb.cell (p := ⟨w.heap.size, 3, none⟩) l0).trans x3, (hb.cell (p := ⟨w.heap.size, 4, none⟩) l0).trans x4, (hb.cell (p := ⟨w.heap.size, 5, none⟩) l0).trans x5, (hb.cell (p := ⟨w.heap.size, 6, none⟩) l0).trans x6, (hb.cell (p := ⟨w.heap.size, 7, none⟩) l0).trans x7, (hb.cell (p := ⟨w.heap.size + 1, 0, none⟩) l1).trans y0, (hb.cell (p := ⟨w.heap.size + 1, 1, none⟩) l1).trans y1, (hb.cell (p := ⟨w.heap.size + 1, 2, none⟩) l1).trans y2, (hb.cell (p := ⟨w.heap.size + 1, 3, none⟩) l1).trans y3, (hb.cell (p := ⟨w.heap.size + 1, 4, none⟩) l1).trans y4, (hb.cell (p := ⟨w.heap.size + 1, 5, none⟩) l1).trans y5, (hb.cell (p := ⟨w.heap.size + 1, 6, none⟩) l1).trans y6, (hb.cell (p := ⟨w.heap.size + 1, 7, none⟩) l1).trans y7⟩
    clear hS hb
    refine hK.out _ _ SS (fun hS => ?_)
    clear hK K
    try simp only [Act.put, List.getElem_toArray, List.getElem_cons_zero, List.getElem_cons_succ, List.setIfInBounds_toArray, List.set_cons_zero, List.set_cons_succ]
    first
    | (refine wpAnyH_take (i := 12) (v := ?_) rfl (by kernel_rfl) (by kernel_rfl) (by kernel_rfl) (fun _ _ _ h => h) (Or.inl ⟨by rfl, ?_⟩) (by assumption) ?_
       rotate_left
       · (intro V hV; obtain ⟨_, x0, x1, x2, x3, x4, x5, x6, x7, y0, y1, y2, y3, y4, y5, y6, y7⟩ := hV; go_simp; try with_reducible rfl)
       try simp only [Act.put, List.getElem_toArray, List.getElem_cons_zero, List.getElem_cons_succ, List.setIfInBounds_toArray, List.set_cons_zero, List.set_cons_succ])
    | (refine wpAnyH_take (i := 12) (v := undef) rfl (by kernel_rfl) (by kernel_rfl) (by kernel_rfl) (fun _ _ _ h => h) (Or.inr ⟨by rfl, rfl⟩) (by assumption) ?_
       try simp only [Act.put, List.getElem_toArray, List.getElem_cons_zero, List.getElem_cons_succ, List.setIfInBounds_toArray, List.set_cons_zero, List.set_cons_succ])
    | fail "take 12"
    first
    | (refine wpAnyH_take (i := 13) (v := ?_) rfl (by kernel_rfl) (by kernel_rfl) (by kernel_rfl) (fun _ _ _ h => h) (Or.inl ⟨by rfl, ?_⟩) (by assumption) ?_
       rotate_left
       · (intro V hV; obtain ⟨_, x0, x1, x2, x3, x4, x5, x6, x7, y0, y1, y2, y3, y4, y5, y6, y7⟩ := hV; go_simp; try with_reducible rfl)
       try simp only [Act.put, List.getElem_toArray, List.getElem_cons_zero, List.getElem_cons_succ, List.setIfInBounds_toArray, List.set_cons_zero, List.set_cons_succ])
    | (refine wpAnyH_take (i := 13) (v := undef) rfl (by kernel_rfl) (by kernel_rfl) (by kernel_rfl) (fun _ _ _ h => h) (Or.inr ⟨by rfl, rfl⟩) (by assumption) ?_
       try simp only [Act.put, List.getElem_toArray, List.getElem_cons_zero, List.getElem_cons_succ, List.setIfInBounds_toArray, List.set_cons_zero, List.set_cons_succ])
    | fail "take 13"
    first
    | (refine wpAnyH_take (i := 14) (v := ?_) rfl (by kernel_rfl) (by kernel_rfl) (by kernel_rfl) (fun _ _ _ h => h) (Or.inl ⟨by rfl, ?_⟩) (by assumption) ?_
       rotate_left
       · (intro V hV; obtain ⟨_, x0, x1, x2, x3, x4, x5, x6, x7, y0, y1, y2, y3, y4, y5, y6, y7⟩ := hV; go_simp; try with_reducible rfl)
       try simp only [Act.put, List.getElem_toArray, List.getElem_cons_zero, List.getElem_cons_succ, List.setIfInBounds_toArray, List.set_cons_zero, List.set_cons_succ])
    | (refine wpAnyH_take (i := 14) (v := undef) rfl (by kernel_rfl) (by kernel_rfl) (by kernel_rfl) (fun _ _ _ h => h) (Or.inr ⟨by rfl, rfl⟩) (by assumption) ?_
       try simp only [Act.put, List.getElem_toArray, List.getElem_cons_zero, List.getElem_cons_succ, List.setIfInBounds_toArray, List.set_cons_zero, List.set_cons_succ])
    | fail "take 14"
    refine wpAnyH_done (by kernel_rfl) ?_ _
    go_wp2
    go_ret
    exact ⟨ret_bool (by rw [← HFIN.out]; simp), HB3.out.trans (Below.mono SS.1 HB3.out.size)⟩
end Go.Proofs.YtaaemebghkobkaaDoor
