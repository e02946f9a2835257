/- The walk of the closure of Subst that puts the types in. The condition: few parts. -/
import Derived.Test.YtaaemebghkobkaaDoorEkJ
namespace Go.Proofs.YtaaemebghkobkaaDoor
open Go.RowKit

namespace Ex
mutual
/-- The types of an expression, in the order in which they are substituted. -/
def typs : Ex → List Ty
  | mk _ _ t ts xs _ => t :: (ts ++ typsL xs)
def typsL : List Ex → List Ty
  | [] => []
  | a :: r => typs a ++ typsL r
end
theorem typsL_app : ∀ a b : List Ex, typsL (a ++ b) = typsL a ++ typsL b
  | [], b => by simp [typsL]
  | x :: a, b => by simp [typsL, typsL_app a b]
theorem typsL_step {xs : List Ex} {k : Nat} {x : Ex} (hx : xs[k]? = some x) : typsL (xs.take (k + 1)) = typsL (xs.take k) ++ typs x := by
  rw [take_at hx, typsL_app]; simp [typsL]
theorem typs_list : ∀ e : Ex, typs e = e.list.flatMap fun x => x.ty :: x.targs := by
  refine ind fun k s t ts xs o ih => ?_
  have hL : ∀ ys : List Ex, (∀ y ∈ ys, y ∈ xs) → typsL ys = (listL ys).flatMap fun x => x.ty :: x.targs := by
    intro ys
    induction ys with
    | nil => intro _; simp [typsL, listL]
    | cons y r ih2 =>
      intro hy
      rw [typsL, listL, List.flatMap_append, ih y (hy y (by simp)), ih2 fun z hz => hy z (by simp [hz])]
  rw [typs, list, List.flatMap_cons, hL xs fun _ h => h]
  rfl
theorem typs_len : ∀ e : Ex, e.typs.length ≤ e.wt := by
  refine ind fun k s t ts xs o ih => ?_
  have hL : ∀ ys : List Ex, (∀ y ∈ ys, y ∈ xs) → (typsL ys).length ≤ wtL ys := by
    intro ys
    induction ys with
    | nil => intro _; simp [typsL]
    | cons y r ih2 =>
      intro hy
      have h1 := ih y (hy y (by simp))
      have h2 := ih2 fun z hz => hy z (by simp [hz])
      simp only [typsL, wtL, List.length_append]; omega
  have h1 := hL xs fun _ h => h
  have h2 := Ty.wtL_len ts
  have h3 : 1 ≤ Ty.wt t := by cases t; simp only [Ty.wt]; omega
  simp only [typs, wt, List.length_cons, List.length_append]
  omega
theorem typs_mem : ∀ e : Ex, ∀ u ∈ e.typs, Ty.wt u ≤ e.wt := by
  refine ind fun k s t ts xs o ih u hu => ?_
  have hL : ∀ ys : List Ex, (∀ y ∈ ys, y ∈ xs) → ∀ u ∈ typsL ys, Ty.wt u ≤ wtL ys := by
    intro ys
    induction ys with
    | nil => intro _ u hu; simp [typsL] at hu
    | cons y r ih2 =>
      intro hy u hu
      simp only [typsL, List.mem_append] at hu
      simp only [wtL]
      rcases hu with hu | hu
      · have := ih y (hy y (by simp)) u hu; omega
      · have := ih2 (fun z hz => hy z (by simp [hz])) u hu; omega
  simp only [typs, List.mem_cons, List.mem_append] at hu
  simp only [wt]
  rcases hu with rfl | hu | hu
  · omega
  · have := Ty.wtL_mem hu; omega
  · have := hL xs (fun _ h => h) u hu; omega
end Ex

/-- The substituted types of e stand in rs from i on. -/
def Stand (σ : Ty → Ty) (rs : List Ty) (l : List Ty) (i : Nat) : Prop := ∀ j t, l[j]? = some t → rs[i + j]? = some (σ t)
theorem Stand.left {σ : Ty → Ty} {rs a b : List Ty} {i : Nat} (h : Stand σ rs (a ++ b) i) : Stand σ rs a i := fun j t hj => h j t (by rw [List.getElem?_append_left (List.getElem?_eq_some_iff.1 hj).1]; exact hj)
theorem Stand.right {σ : Ty → Ty} {rs a b : List Ty} {i : Nat} (h : Stand σ rs (a ++ b) i) : Stand σ rs b (i + a.length) := fun j t hj => by
  have := h (a.length + j) t (by rw [List.getElem?_append_right (by omega), Nat.add_sub_cancel_left]; exact hj)
  rwa [← Nat.add_assoc] at this
theorem Stand.kid {σ : Ty → Ty} {rs : List Ty} {xs : List Ex} {i j : Nat} {x : Ex} (h : Stand σ rs (Ex.typsL xs) i) (hx : xs[j]? = some x) : Stand σ rs x.typs (i + (Ex.typsL (xs.take j)).length) := by
  have e : Ex.typsL xs = Ex.typsL (xs.take j) ++ (x.typs ++ Ex.typsL (xs.drop (j + 1))) := by
    rw [← List.append_assoc, ← Ex.typsL_step hx, ← Ex.typsL_app, List.take_append_drop]
  rw [e] at h
  exact h.right.left

set_option maxRecDepth 100000 in
set_option maxHeartbeats 8000000 in
theorem subst2_any (ns : List ByteArray) (vs : List Ty) (Ws : World) (lo p7 p8 p9 : Nat) (rs : List Ty) (hlo : lo ≤ p7) (h78 : p7 < p8) (h89 : p8 < p9) (hws : p9 < Ws.heap.size) : ∀ e : Ex, e.wt ≤ 100000 → ∀ i : Nat, Stand (Ty.subst ns vs) rs e.typs i →
    KCall 50 #[.pointer (some ⟨p8, 0, none⟩), .pointer (some ⟨p9, 0, none⟩)] lo p7 (p7 + 1) Ws.heap.size (SubSt Ws lo p7 p8 p9 rs) e (e.subst ns vs) i (i + e.typs.length) := by
  refine Ex.ind fun k s t ts xs o ih hwt i hst us w hs hss h => ?_
  have hH : (Ex.dat (.mk k s t ts xs o)).H w us := h.wide fun _ h => h.1
  have hh := box_zero hH
  have hwt3 := fun y => Ex.wt_kid (e := .mk k s t ts xs o) (x := y)
  have hwt4 : xs.length ≤ Ex.wt (.mk k s t ts xs o) := by have := Ex.wtL_len xs; simp only [Ex.wt]; omega
  have hwt5 : ts.length ≤ Ex.wt (.mk k s t ts xs o) := by have := Ty.wtL_len ts; simp only [Ex.wt]; omega
  have hok := subSt_ok Ws lo p7 p8 p9 Ws.heap.size rs (by omega) (by omega) hws
  have e1 : Ex.typs (.mk k s t ts xs o) = [t] ++ (ts ++ Ex.typsL xs) := by rw [Ex.typs]; rfl
  have hlen : (Ex.typs (.mk k s t ts xs o)).length = 1 + ts.length + (Ex.typsL xs).length := by rw [e1]; simp only [List.length_append, List.length_cons, List.length_nil]; omega
  rw [e1] at hst
  have s1 := hst.left
  have s2 := hst.right.left
  have s3 := hst.right.right
  simp only [List.length_cons, List.length_nil, Nat.zero_add] at s2 s3
  have hsub : Ex.subst ns vs (.mk k s t ts xs o) = .mk k s (Ty.subst ns vs t) (ts.map (Ty.subst ns vs)) (xs.map (Ex.subst ns vs)) o := by rw [Ex.subst, Ex.substL_map]
  have HX := Lib.hid hh.1
  have HR := Lib.hid hh.2
  have HLO := Lib.hid (show lo ≤ w.heap.size ∧ p7 < w.heap.size ∧ p8 < w.heap.size ∧ p9 < w.heap.size by omega)
  have HS := Lib.hid hs
  have C := Lib.hid (fun (V : World) (hV : (Ex.dat (.mk k s t ts xs o)).In V False (Safe p7 (p7 + 1) V) us) (h1 : Below w.heap.size w V) => show Calls Tryd.prog 51 #[.agg us.toArray, .func (.func 49) #[] #[.pointer (some ⟨p7, 0, none⟩)], .func (.func 50) #[] #[.pointer (some ⟨p8, 0, none⟩), .pointer (some ⟨p9, 0, none⟩)]] V _ from
    mapped_S p7 p8 p9 lo p7 (p7 + 1) Ws.heap.size (SubSt Ws lo p7 p8 p9 rs) hok (by omega) (Nat.le_succ _) (by omega) k s t (Ty.subst ns vs t) ts (ts.map (Ty.subst ns vs)) xs (xs.map (Ex.subst ns vs)) o i (fun j => i + 1 + ts.length + (Ex.typsL (xs.take j)).length) (List.length_map _) (List.length_map _)
      (subst1_any Ws lo p7 p8 p9 rs hlo h78 h89 hws t _ i (s1 0 t rfl))
      (fun j a b h1 h2 => by rw [List.getElem?_map, h1] at h2; injection h2 with h2; subst h2; exact subst1_any Ws lo p7 p8 p9 rs hlo h78 h89 hws a _ _ (s2 j a h1)) (by simp [Ex.typsL])
      (fun j a b h1 h2 => by
        rw [List.getElem?_map, h1] at h2; injection h2 with h2; subst h2
        have := ih a (List.mem_of_getElem? h1) (Nat.le_trans (hwt3 a (List.mem_of_getElem? h1)) hwt) _ (s3.kid h1)
        simp only [Ex.typsL_step h1, List.length_append]
        rwa [← Nat.add_assoc (i + 1 + ts.length)])
      us V (Nat.le_trans hs h1.size) (hok _ _ _ (h1.mono hs) hss) (by omega) (by omega) hV)
  have hdat2 : (Ex.dat (.mk k s t ts xs o)).In ((w.alloc (.cells us.toArray 27)).alloc (.cells #[.int .i64 0, .string ⟨#[]⟩, .string ⟨#[]⟩, .slice none 0 0, .int .i64 0, .slice none 0 0, .slice none 0 0, .int .i64 0] 27)) False (Safe p7 (p7 + 1) _) us := Dat.In.mv (lo := lo) h (Mv.of hh.1.bel (by omega))
  have HD2 := Lib.hid hdat2
  have hss2 := hok i _ _ (hh.1.bel.mono hs) hss
  have c8 := hss2.next
  have c9 := hss2.self
  obtain ⟨A, m, a, B, l, b, C', r, c, rfl, _⟩ := ex_open h
  obtain ⟨x0, x1, x2, x3, x4, x5, x6, x7⟩ := HX.out.one.c8
  have HLN := Lib.hid (show i + 1 + ts.length + (Ex.typsL (xs.take (xs.map (Ex.subst ns vs)).length)).length = i + (Ex.typs (.mk k s t ts xs o)).length by rw [hlen, List.length_map, List.take_length]; omega)
  have HOK := Lib.hid hok
  rw [hsub]
  simp only [Ex.kind, Ex.name, Ex.ty, Ex.off] at x0 x1 x2 x3 x4 x5 x6 x7 HX HR C HD2 c8 c9 ⊢
  show Calls Tryd.prog 50 #[.agg #[.int .i64 k, .string s, .string t.name, .slice A m a, .int .i64 t.off, .slice B l b, .slice C' r c, .int .i64 o], .pointer (some ⟨p8, 0, none⟩), .pointer (some ⟨p9, 0, none⟩)] w _
  clear ih h hh hH hwt hwt3 hwt4 hwt5 hok e1 hlen hst s1 s2 s3 hsub hdat2 hss hss2 hs hlo h78 h89 hws
  go_enter Tryd.func50, Tryd.ntmps50
  go_wp2_with fail
  refine (C.out _ HD2.out HX.out.bel).mono ?_
  rintro e w1 ⟨qs, rfl, hv, hm1, hs1⟩
  have HM1 := Lib.hid (show Mv lo p7 (p7 + 1) w w1 from (Mv.of HX.out.bel HLO.out.1).trans hm1)
  have HR1 := Lib.hid (HR.out.kept hm1.kp (by have := HLO.out; omega))
  have hs1' := hs1
  rw [HLN.out] at hs1'
  have HS1 := Lib.hid hs1'
  have HV := Lib.hid (show (Ex.dat (.mk k s (Ty.subst ns vs t) (ts.map (Ty.subst ns vs)) (xs.map (Ex.subst ns vs)) o)).In w1 False (fun b => NewOr lo p7 w w1 b ∧ b ≠ w.heap.size + 1) qs from hv.wide fun b hb => by
    have h1 := hb.1
    rcases hb.2 with h2 | h2
    · exact ⟨⟨h1, .inl h2⟩, by have := HLO.out; omega⟩
    · have h3 := h2.1
      rw [World.size_alloc, World.size_alloc] at h3
      exact ⟨⟨h1, .inr ⟨by omega, h2.2⟩⟩, by omega⟩)
  obtain ⟨A7, m7, c7, B7, l7, d7, C7, r7, f7, rfl, _⟩ := ex_open hv
  simp only [Ex.kind, Ex.name, Ex.ty, Ex.off] at HV ⊢
  clear hv hm1 hs1 hs1' x0 x1 x2 x3 x4 x5 x6 x7 c8 c9 C HX HR HD2
  generalize Ty.subst ns vs t = t' at *
  have HT1 := Lib.hid (HR1.out.there 0 8 (by simp))
  have HO1 := Lib.hid (show (#[.int .i64 k, .string s, .string t'.name, .slice A7 m7 c7, .int .i64 t'.off, .slice B7 l7 d7, .slice C7 r7 f7, .int .i64 o] : Array Value).all (·.oneCell') = true by simp [Value.oneCell'])
  obtain ⟨W2, hW2⟩ : ∃ W2, W2 = w1.setCells (w.heap.size + 1) 0 [.int .i64 k, .string s, .string t'.name, .slice A7 m7 c7, .int .i64 t'.off, .slice B7 l7 d7, .slice C7 r7 f7, .int .i64 o] := ⟨_, rfl⟩
  have HW2 := Lib.hid hW2
  clear hW2
  go_wp2_with (refine store8_any 4 8 (b := w.heap.size + 1) (o := 0) (vs := #[.int .i64 k, .string s, .string t'.name, .slice A7 m7 c7, .int .i64 t'.off, .slice B7 l7 d7, .slice C7 r7 f7, .int .i64 o]) rfl rfl HT1.out HO1.out sizeE8 ?_; show wpList _ _ _ _ _ (w1.setCells (w.heap.size + 1) 0 [.int .i64 k, .string s, .string t'.name, .slice A7 m7 c7, .int .i64 t'.off, .slice B7 l7 d7, .slice C7 r7 f7, .int .i64 o]); rw [← HW2.out])
  have hres : BoxF W2 (w.heap.size + 1) [.int .i64 k, .string s, .string t'.name, .slice A7 m7 c7, .int .i64 t'.off, .slice B7 l7 d7, .slice C7 r7 f7, .int .i64 o] := by rw [HW2.out]; exact HR1.out.setAll rfl
  obtain ⟨y0, y1, y2, y3, y4, y5, y6, y7⟩ := hres.box.c8
  refine bodyPost_ret (v := .agg #[.int .i64 k, .string s, .string t'.name, .slice A7 m7 c7, .int .i64 t'.off, .slice B7 l7 d7, .slice C7 r7 f7, .int .i64 o]) (by simp [results, Tryd.results50, go_sem, y0, y1, y2, y3, y4, y5, y6, y7]) rfl ?_
  rw [HW2.out]
  exact kgot_set HOK.out HLO.out.1 HS.out (Nat.le_succ _) HM1.out HS1.out HV.out
end Go.Proofs.YtaaemebghkobkaaDoor
