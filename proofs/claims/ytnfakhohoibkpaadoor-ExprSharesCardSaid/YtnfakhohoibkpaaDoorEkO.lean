/- The walk of the closure of Subst that puts the types in. The condition: few parts.
A region that draws its order, within a round of a loop over a function: the walk of the plain region serves. No condition.
The walk of expr.typesIn: a loop over the parts that appends the types of each. The condition: few parts.
The walk of expr.Subst. The condition: few parts. -/
import Derived.Test.YtnfakhohoibkpaaDoorEkJ
import Derived.Test.YtnfakhohoibkpaaDoorEkC
import Derived.Deep.RegionHeld3
import Derived.Deep.AppendLies
import Derived.RangeFuncNested
import Derived.Test.YtnfakhohoibkpaaDoorEkD
import Derived.Test.YtnfakhohoibkpaaDoorTwE
namespace Go.Proofs.YtnfakhohoibkpaaDoor
open Go.RowKit

namespace Ex
mutual
/-- The types of an expression, in the order in which they are substituted. -/
def typs : Ex → List Ty
  | mk _ _ t ts xs _ => t :: (ts ++ typsL xs)
def typsL : List Ex → List Ty
  | [] => []
  | a :: r => typs a ++ typsL r
end
theorem typsL_app : ∀ a b : List Ex, typsL (a ++ b) = typsL a ++ typsL b
  | [], b => by simp [typsL]
  | x :: a, b => by simp [typsL, typsL_app a b]
theorem typsL_step {xs : List Ex} {k : Nat} {x : Ex} (hx : xs[k]? = some x) : typsL (xs.take (k + 1)) = typsL (xs.take k) ++ typs x := by
  rw [take_at hx, typsL_app]; simp [typsL]
theorem typs_list : ∀ e : Ex, typs e = e.list.flatMap fun x => x.ty :: x.targs := by
  refine ind fun k s t ts xs o ih => ?_
  have hL : ∀ ys : List Ex, (∀ y ∈ ys, y ∈ xs) → typsL ys = (listL ys).flatMap fun x => x.ty :: x.targs := by
    intro ys
    induction ys with
    | nil => intro _; simp [typsL, listL]
    | cons y r ih2 =>
      intro hy
      rw [typsL, listL, List.flatMap_append, ih y (hy y (by simp)), ih2 fun z hz => hy z (by simp [hz])]
  rw [typs, list, List.flatMap_cons, hL xs fun _ h => h]
  rfl
theorem typs_len : ∀ e : Ex, e.typs.length ≤ e.wt := by
  refine ind fun k s t ts xs o ih => ?_
  have hL : ∀ ys : List Ex, (∀ y ∈ ys, y ∈ xs) → (typsL ys).length ≤ wtL ys := by
    intro ys
    induction ys with
    | nil => intro _; simp [typsL]
    | cons y r ih2 =>
      intro hy
      have h1 := ih y (hy y (by simp))
      have h2 := ih2 fun z hz => hy z (by simp [hz])
      simp only [typsL, wtL, List.length_append]; omega
  have h1 := hL xs fun _ h => h
  have h2 := Ty.wtL_len ts
  have h3 : 1 ≤ Ty.wt t := by cases t; simp only [Ty.wt]; omega
  simp only [typs, wt, List.length_cons, List.length_append]
  omega
theorem typs_mem : ∀ e : Ex, ∀ u ∈ e.typs, Ty.wt u ≤ e.wt := by
  refine ind fun k s t ts xs o ih u hu => ?_
  have hL : ∀ ys : List Ex, (∀ y ∈ ys, y ∈ xs) → ∀ u ∈ typsL ys, Ty.wt u ≤ wtL ys := by
    intro ys
    induction ys with
    | nil => intro _ u hu; simp [typsL] at hu
    | cons y r ih2 =>
      intro hy u hu
      simp only [typsL, List.mem_append] at hu
      simp only [wtL]
      rcases hu with hu | hu
      · have := ih y (hy y (by simp)) u hu; omega
      · have := ih2 (fun z hz => hy z (by simp [hz])) u hu; omega
  simp only [typs, List.mem_cons, List.mem_append] at hu
  simp only [wt]
  rcases hu with rfl | hu | hu
  · omega
  · have := Ty.wtL_mem hu; omega
  · have := hL xs (fun _ h => h) u hu; omega
end Ex

/-- The substituted types of e stand in rs from i on. -/
def Stand (σ : Ty → Ty) (rs : List Ty) (l : List Ty) (i : Nat) : Prop := ∀ j t, l[j]? = some t → rs[i + j]? = some (σ t)
theorem Stand.left {σ : Ty → Ty} {rs a b : List Ty} {i : Nat} (h : Stand σ rs (a ++ b) i) : Stand σ rs a i := fun j t hj => h j t (by rw [List.getElem?_append_left (List.getElem?_eq_some_iff.1 hj).1]; exact hj)
theorem Stand.right {σ : Ty → Ty} {rs a b : List Ty} {i : Nat} (h : Stand σ rs (a ++ b) i) : Stand σ rs b (i + a.length) := fun j t hj => by
  have := h (a.length + j) t (by rw [List.getElem?_append_right (by omega), Nat.add_sub_cancel_left]; exact hj)
  rwa [← Nat.add_assoc] at this
theorem Stand.kid {σ : Ty → Ty} {rs : List Ty} {xs : List Ex} {i j : Nat} {x : Ex} (h : Stand σ rs (Ex.typsL xs) i) (hx : xs[j]? = some x) : Stand σ rs x.typs (i + (Ex.typsL (xs.take j)).length) := by
  have e : Ex.typsL xs = Ex.typsL (xs.take j) ++ (x.typs ++ Ex.typsL (xs.drop (j + 1))) := by
    rw [← List.append_assoc, ← Ex.typsL_step hx, ← Ex.typsL_app, List.take_append_drop]
  rw [e] at h
  exact h.right.left

set_option maxRecDepth 100000 in
set_option maxHeartbeats 8000000 in
theorem subst2_any (ns : List ByteArray) (vs : List Ty) (Ws : World) (lo p7 p8 p9 : Nat) (rs : List Ty) (hlo : lo ≤ p7) (h78 : p7 < p8) (h89 : p8 < p9) (hws : p9 < Ws.heap.size) : ∀ e : Ex, e.wt ≤ 100000 → ∀ i : Nat, Stand (Ty.subst ns vs) rs e.typs i →
    KCall 50 #[.pointer (some ⟨p8, 0, none⟩), .pointer (some ⟨p9, 0, none⟩)] lo p7 (p7 + 1) Ws.heap.size (SubSt Ws lo p7 p8 p9 rs) e (e.subst ns vs) i (i + e.typs.length) := by
  refine Ex.ind fun k s t ts xs o ih hwt i hst us w hs hss h => ?_
  have hH : (Ex.dat (.mk k s t ts xs o)).H w us := h.wide fun _ h => h.1
  have hh := box_zero hH
  have hwt3 := fun y => Ex.wt_kid (e := .mk k s t ts xs o) (x := y)
  have hwt4 : xs.length ≤ Ex.wt (.mk k s t ts xs o) := by have := Ex.wtL_len xs; simp only [Ex.wt]; omega
  have hwt5 : ts.length ≤ Ex.wt (.mk k s t ts xs o) := by have := Ty.wtL_len ts; simp only [Ex.wt]; omega
  have hok := subSt_ok Ws lo p7 p8 p9 Ws.heap.size rs (by omega) (by omega) hws
  have e1 : Ex.typs (.mk k s t ts xs o) = [t] ++ (ts ++ Ex.typsL xs) := by rw [Ex.typs]; rfl
  have hlen : (Ex.typs (.mk k s t ts xs o)).length = 1 + ts.length + (Ex.typsL xs).length := by rw [e1]; simp only [List.length_append, List.length_cons, List.length_nil]; omega
  rw [e1] at hst
  have s1 := hst.left
  have s2 := hst.right.left
  have s3 := hst.right.right
  simp only [List.length_cons, List.length_nil, Nat.zero_add] at s2 s3
  have hsub : Ex.subst ns vs (.mk k s t ts xs o) = .mk k s (Ty.subst ns vs t) (ts.map (Ty.subst ns vs)) (xs.map (Ex.subst ns vs)) o := by rw [Ex.subst, Ex.substL_map]
  have HX := Lib.hid hh.1
  have HR := Lib.hid hh.2
  have HLO := Lib.hid (show lo ≤ w.heap.size ∧ p7 < w.heap.size ∧ p8 < w.heap.size ∧ p9 < w.heap.size by omega)
  have HS := Lib.hid hs
  have C := Lib.hid (fun (V : World) (hV : (Ex.dat (.mk k s t ts xs o)).In V False (Safe p7 (p7 + 1) V) us) (h1 : Below w.heap.size w V) => show Calls Tryd.prog 51 #[.agg us.toArray, .func (.func 49) #[] #[.pointer (some ⟨p7, 0, none⟩)], .func (.func 50) #[] #[.pointer (some ⟨p8, 0, none⟩), .pointer (some ⟨p9, 0, none⟩)]] V _ from
    mapped_S p7 p8 p9 lo p7 (p7 + 1) Ws.heap.size (SubSt Ws lo p7 p8 p9 rs) hok (by omega) (Nat.le_succ _) (by omega) k s t (Ty.subst ns vs t) ts (ts.map (Ty.subst ns vs)) xs (xs.map (Ex.subst ns vs)) o i (fun j => i + 1 + ts.length + (Ex.typsL (xs.take j)).length) (List.length_map _) (List.length_map _)
      (subst1_any Ws lo p7 p8 p9 rs hlo h78 h89 hws t _ i (s1 0 t rfl))
      (fun j a b h1 h2 => by rw [List.getElem?_map, h1] at h2; injection h2 with h2; subst h2; exact subst1_any Ws lo p7 p8 p9 rs hlo h78 h89 hws a _ _ (s2 j a h1)) (by simp [Ex.typsL])
      (fun j a b h1 h2 => by
        rw [List.getElem?_map, h1] at h2; injection h2 with h2; subst h2
        have := ih a (List.mem_of_getElem? h1) (Nat.le_trans (hwt3 a (List.mem_of_getElem? h1)) hwt) _ (s3.kid h1)
        simp only [Ex.typsL_step h1, List.length_append]
        rwa [← Nat.add_assoc (i + 1 + ts.length)])
      us V (Nat.le_trans hs h1.size) (hok _ _ _ (h1.mono hs) hss) (by omega) (by omega) hV)
  have hdat2 : (Ex.dat (.mk k s t ts xs o)).In ((w.alloc (.cells us.toArray 27)).alloc (.cells #[.int .i64 0, .string ⟨#[]⟩, .string ⟨#[]⟩, .slice none 0 0, .int .i64 0, .slice none 0 0, .slice none 0 0, .int .i64 0] 27)) False (Safe p7 (p7 + 1) _) us := Dat.In.mv (lo := lo) h (Mv.of hh.1.bel (by omega))
  have HD2 := Lib.hid hdat2
  have hss2 := hok i _ _ (hh.1.bel.mono hs) hss
  have c8 := hss2.next
  have c9 := hss2.self
  obtain ⟨A, m, a, B, l, b, C', r, c, rfl, _⟩ := ex_open h
  obtain ⟨x0, x1, x2, x3, x4, x5, x6, x7⟩ := HX.out.one.c8
  have HLN := Lib.hid (show i + 1 + ts.length + (Ex.typsL (xs.take (xs.map (Ex.subst ns vs)).length)).length = i + (Ex.typs (.mk k s t ts xs o)).length by rw [hlen, List.length_map, List.take_length]; omega)
  have HOK := Lib.hid hok
  rw [hsub]
  simp only [Ex.kind, Ex.name, Ex.ty, Ex.off] at x0 x1 x2 x3 x4 x5 x6 x7 HX HR C HD2 c8 c9 ⊢
  show Calls Tryd.prog 50 #[.agg #[.int .i64 k, .string s, .string t.name, .slice A m a, .int .i64 t.off, .slice B l b, .slice C' r c, .int .i64 o], .pointer (some ⟨p8, 0, none⟩), .pointer (some ⟨p9, 0, none⟩)] w _
  clear ih h hh hH hwt hwt3 hwt4 hwt5 hok e1 hlen hst s1 s2 s3 hsub hdat2 hss hss2 hs hlo h78 h89 hws
  go_enter Tryd.func50, Tryd.ntmps50
  go_wp2_with fail
  refine (C.out _ HD2.out HX.out.bel).mono ?_
  rintro e w1 ⟨qs, rfl, hv, hm1, hs1⟩
  have HM1 := Lib.hid (show Mv lo p7 (p7 + 1) w w1 from (Mv.of HX.out.bel HLO.out.1).trans hm1)
  have HR1 := Lib.hid (HR.out.kept hm1.kp (by have := HLO.out; omega))
  have hs1' := hs1
  rw [HLN.out] at hs1'
  have HS1 := Lib.hid hs1'
  have HV := Lib.hid (show (Ex.dat (.mk k s (Ty.subst ns vs t) (ts.map (Ty.subst ns vs)) (xs.map (Ex.subst ns vs)) o)).In w1 False (fun b => NewOr lo p7 w w1 b ∧ b ≠ w.heap.size + 1) qs from hv.wide fun b hb => by
    have h1 := hb.1
    rcases hb.2 with h2 | h2
    · exact ⟨⟨h1, .inl h2⟩, by have := HLO.out; omega⟩
    · have h3 := h2.1
      rw [World.size_alloc, World.size_alloc] at h3
      exact ⟨⟨h1, .inr ⟨by omega, h2.2⟩⟩, by omega⟩)
  obtain ⟨A7, m7, c7, B7, l7, d7, C7, r7, f7, rfl, _⟩ := ex_open hv
  simp only [Ex.kind, Ex.name, Ex.ty, Ex.off] at HV ⊢
  clear hv hm1 hs1 hs1' x0 x1 x2 x3 x4 x5 x6 x7 c8 c9 C HX HR HD2
  generalize Ty.subst ns vs t = t' at *
  have HT1 := Lib.hid (HR1.out.there 0 8 (by simp))
  have HO1 := Lib.hid (show (#[.int .i64 k, .string s, .string t'.name, .slice A7 m7 c7, .int .i64 t'.off, .slice B7 l7 d7, .slice C7 r7 f7, .int .i64 o] : Array Value).all (·.oneCell') = true by simp [Value.oneCell'])
  obtain ⟨W2, hW2⟩ : ∃ W2, W2 = w1.setCells (w.heap.size + 1) 0 [.int .i64 k, .string s, .string t'.name, .slice A7 m7 c7, .int .i64 t'.off, .slice B7 l7 d7, .slice C7 r7 f7, .int .i64 o] := ⟨_, rfl⟩
  have HW2 := Lib.hid hW2
  clear hW2
  go_wp2_with (refine store8_any 4 8 (b := w.heap.size + 1) (o := 0) (vs := #[.int .i64 k, .string s, .string t'.name, .slice A7 m7 c7, .int .i64 t'.off, .slice B7 l7 d7, .slice C7 r7 f7, .int .i64 o]) rfl rfl HT1.out HO1.out sizeE8 ?_; show wpList _ _ _ _ _ (w1.setCells (w.heap.size + 1) 0 [.int .i64 k, .string s, .string t'.name, .slice A7 m7 c7, .int .i64 t'.off, .slice B7 l7 d7, .slice C7 r7 f7, .int .i64 o]); rw [← HW2.out])
  have hres : BoxF W2 (w.heap.size + 1) [.int .i64 k, .string s, .string t'.name, .slice A7 m7 c7, .int .i64 t'.off, .slice B7 l7 d7, .slice C7 r7 f7, .int .i64 o] := by rw [HW2.out]; exact HR1.out.setAll rfl
  obtain ⟨y0, y1, y2, y3, y4, y5, y6, y7⟩ := hres.box.c8
  refine bodyPost_ret (v := .agg #[.int .i64 k, .string s, .string t'.name, .slice A7 m7 c7, .int .i64 t'.off, .slice B7 l7 d7, .slice C7 r7 f7, .int .i64 o]) (by simp [results, Tryd.results50, go_sem, y0, y1, y2, y3, y4, y5, y6, y7]) rfl ?_
  rw [HW2.out]
  exact kgot_set HOK.out HLO.out.1 HS.out (Nat.le_succ _) HM1.out HS1.out HV.out
end Go.Proofs.YtnfakhohoibkpaaDoor
namespace Go.Proofs.YtnfakhohoibkpaaDoor
open Go.RowKit

/-- No operation defers a call. -/
def noDefer (ops : Array Oper) : Bool := ops.toList.all fun o => match o.op with | .defer _ => false | _ => true
theorem noDefer_at {ops : Array Oper} (h : noDefer ops = true) {i : Nat} {o : Oper} (hi : ops[i]? = some o) : ∀ c, o.op ≠ .defer c := fun c hc => by
  have hm : o ∈ ops.toList := by
    obtain ⟨hl, e⟩ := Array.getElem?_eq_some_iff.1 hi
    rw [← e]; exact Array.mem_toList_iff.2 (Array.getElem_mem hl)
  have := List.all_eq_true.1 h o hm
  rw [hc] at this
  cases this
theorem op_round {P : Program} {l n : Nat} {o : Oper} {a : Act} {w : World} {K : Act → World → Prop} {Q : Exit → Act → World → Prop} (hd : ∀ c, o.op ≠ .defer c) (h : o.wp P a w K Q) : o.wpIn (Fence.wide.inRound l) n P a w K Q := by
  refine ⟨fun _ _ => trivial, ?_⟩
  rw [Oper.semAt_eq _ _ _ hd]
  unfold Oper.wp at h
  generalize (execOp a.eval o).run P w = r at *
  have hdd : ∀ k : Nat, ((Fence.wide.inRound l).depth.isSome = true → 1 ≤ k) := fun k h => by cases h
  cases r with
  | ok x w' =>
    cases x <;> simp only [Oper.upon, Oper.uponIn] at h ⊢ <;>
      first
        | exact h
        | exact ⟨hdd _, CallsIn.inRound l (callsIn_wide.2 h)⟩
        | exact ⟨hdd _, fun c cs _ => let ⟨v, w', r, s⟩ := h c cs; ⟨v, w', r, stepsIn_wide.2 s⟩⟩
  | halt x w' => cases x <;> simp only [Oper.upon, Oper.uponIn] at h ⊢ <;> exact h
theorem any_round {P : Program} {l n : Nat} {md : Region.Mode} {ops : Array Oper} {Q : Exit → Act → World → Prop} (hd : noDefer ops = true) (hQ : ¬ LetsOut Q) : ∀ (fuel : Nat) (listed : Array Bool) (a : Act) (w : World), wpAny P md ops Q fuel listed a w → wpAnyIn (Fence.wide.inRound l) n P md ops Q fuel listed a w
  | 0, _, _, _, h => h
  | fuel + 1, listed, a, w, h => ⟨h.1, fun i hi => by
    have h2 := wpOp_mono (fun a' w' h' => any_round (l := l) (n := n) hd hQ fuel _ a' w' h') (h.2 i hi)
    unfold wpOp at h2
    unfold wpOpIn
    cases ho : ops[i]? with
    | none => rw [ho] at h2; exact h2
    | some o =>
      rw [ho] at h2
      simp only at h2 ⊢
      by_cases hw : Region.wanted o (yielded ops a.tmps) = true
      · rw [if_pos hw] at h2 ⊢
        exact op_round (noDefer_at hd ho) (h2.resolve_right fun h => hQ h.2)
      · rw [if_neg hw] at h2 ⊢
        exact ⟨fun _ _ => trivial, h2⟩⟩
/-- The beginning: as in the plain walk. -/
theorem region_round {P : Program} {l n id : Nat} {ops : Array Oper} {Q : Exit → Act → World → Prop} {S : World → Prop} {a : Act} {w : World} (hm : P.follows .mixedOrders = true) (hd : noDefer ops = true) (hQ : ¬ LetsOut Q) (hS : S w.drew)
    (h : S w.drew → wpAnyH P .any ops Q S ops.size (Array.replicate ops.size false) a w.drew) : (Code.region id ops true).wpIn (Fence.wide.inRound l) n P Q a w :=
  wpIn_region_any hm (any_round hd hQ _ _ _ _ (wpAny_of_held _ _ _ _ (h hS)))
end Go.Proofs.YtnfakhohoibkpaaDoor
namespace Go.Proofs.YtnfakhohoibkpaaDoor
open Go.RowKit
attribute [local go_sem] Oper.semAt_some

/-! ### append of nothing, within a fence -/
theorem run_append_none (P : Program) (w : World) (base : Nat) (t ty e : TypeId) (i : TypeInfo) (size : Nat) (ht : P.underlying t = some (.slice e)) (hi : P.info? e = some i) (v : Value) (n : Nat) (xs : List Value) (hown : w.ownsRow base e size v n xs) (b : Nat) :
    (Builtin.append_ #[t, t] ty #[v, .slice none 0 b]).run P w = .ok v w := by
  rcases hown.2 with ⟨rfl, rfl⟩ | ⟨g, cap, cur, rfl, _, _, hnc, _⟩
  · simp [Builtin.append_, run_underlying ht, sizeOf, typeInfo, hi, Builtin.lenOf, Builtin.firstCells]
  · simp [Builtin.append_, run_underlying ht, sizeOf, typeInfo, hi, Builtin.lenOf, Builtin.firstCells, hnc, storeCells]
theorem wpListIn_append_none {F : Fence} {n : Nat} {P : Program} (w : World) {ops : Array Oper} {rest : List Oper} {o : Oper} {a : Act} {Q : Exit → Act → World → Prop} (hg : o.guard = none) (s x : Operand) (t : TypeId)
    (hop : o.op = Op.call { callee := Callee.builtin Builtin.append, args := #[s, x], argTypes := #[t, t] }) (base : Nat) (e : TypeId) (i : TypeInfo) (size : Nat) (h1 : P.underlying t = some (.slice e)) (h2 : P.info? e = some i)
    (v : Value) (k : Nat) (xs : List Value) (hs : a.eval s = v) (hown : w.ownsRow base e size v k xs) (b : Nat) (hx : a.eval x = .slice none 0 b) (hK : wpListIn F n P ops Q rest (a.put o.dst v) w) : wpListIn F n P ops Q (o :: rest) a w := by
  have hrun := run_append_none P w base t o.type e i size h1 h2 v k xs hown b
  refine wpListIn_plain hg fun K hK' => ?_
  unfold Oper.wpIn
  refine ⟨by simp [Oper.about, hop, resolve, Target.leads, Sem.run_pure], ?_⟩
  rw [Oper.semAt_plain F _ _ (by rw [hop]; intro c hc'; cases hc')]
  simp [execOp, hop, resolve, invoke, builtin, hs, hx, hrun, Result.andThen]
  exact hK' _ _ hK

/-- The types of the parts that have come. -/
def tysOf {w0 : World} {n : Nat} (q : List (Part w0 n)) : List Ty := q.flatMap fun x => x.ex.ty :: x.ex.targs
theorem tysOf_snoc {w0 : World} {n : Nat} (q : List (Part w0 n)) (x : Part w0 n) : tysOf (q ++ [x]) = tysOf q ++ [x.ex.ty] ++ x.ex.targs := by simp [tysOf, List.flatMap_append]
theorem tysOf_all {w0 : World} {n : Nat} {q : List (Part w0 n)} {e : Ex} (h : q.map Part.ex = e.list) : tysOf q = e.typs := by
  rw [Ex.typs_list, ← h, List.flatMap_map]; rfl
theorem tysOf_len {w0 : World} {n : Nat} : ∀ q : List (Part w0 n), (tysOf q).length ≤ 1001 * q.length
  | [] => by simp [tysOf]
  | x :: q => by
    have h1 := tysOf_len q
    have h2 : x.ex.targs.length ≤ 1000 := by
      have h := x.2.1
      obtain ⟨⟨⟨k, s, t, ts, xs, o⟩, us⟩, _⟩ := x
      have := Ty.wtL_len ts
      simp only [Ex.wt] at h
      show ts.length ≤ 1000
      omega
    have h3 : tysOf (x :: q) = (x.ex.ty :: x.ex.targs) ++ tysOf q := by simp [tysOf]
    rw [h3, List.length_append, List.length_cons, List.length_cons]
    omega

/-- What lies while the types are gathered: their row, in blocks from B on, in the variable behind the box. -/
structure TI (w : World) (B : Nat) (l : List Ty) (W : World) : Prop where
  row : ∃ A c cs, W.cell? ⟨w.heap.size + 1, 0, none⟩ = some (.slice A l.length c) ∧ W.frozen? ⟨w.heap.size + 1, 0, none⟩ = false ∧ W.ownsRow B 24 3 (.slice A l.length c) l.length cs ∧ RowsOf W False (· < w.heap.size) cs l
  bel : Below w.heap.size w W
theorem same_of {w W W' : World} (h : Below w.heap.size w W) (h' : Below w.heap.size w W') : Same W W' (· < w.heap.size) := fun _ hp => ⟨(h'.cell hp).trans (h.cell hp).symm, (h'.frozen hp).trans (h.frozen hp).symm⟩
theorem TI.own {w : World} {B B' : Nat} (hB : w.heap.size ≤ B') : OwnFrom B' (TI w B) := fun l X Y row hs hg hr => by
  obtain ⟨A, c, cs, h1, h2, h3, h4⟩ := hs.row
  have hb : Below w.heap.size w Y := ownFrom_below (β := Unit) (Nat.le_refl _) hB () X Y row hs.bel hg hr
  refine ⟨⟨A, c, cs, cell_kept h1 hg (fun r e => (hr r e).2), (frozen_kept h1 hg (fun r e => (hr r e).2)).trans h2, h3.kept hg ?_, h4.keep (same_of hs.bel hb) (fun _ h => h)⟩, hb⟩
  rcases h3.2 with ⟨e, _⟩ | ⟨g, cap, cur, e, _, hgb, _⟩
  · exact .inl (by rw [e]; rfl)
  · refine .inr fun e' => ?_
    obtain ⟨o, ho, hc⟩ := (hr g (by rw [← e', e]; rfl)).2
    rw [hgb] at ho; cases ho; cases hc
/-- What a round begins with: the part in a box of its own, as a block. -/
def BoxAxE {w0 : World} {n : Nat} (lo : Nat) (mk : Addr → Part w0 n → Act) (x : Part w0 n) (a' : Act) (W : World) : Prop := ∃ B, lo ≤ B ∧ a' = mk ⟨B, 0, none⟩ x ∧ BoxE W B x.1.2.toArray
theorem boxAxE_own {w0 : World} {n B lo : Nat} (mk : Addr → Part w0 n → Act) (x : Part w0 n) (a' : Act) : OwnFrom B (fun (_ : Unit) W => BoxAxE lo mk x a' W) := fun _ X Y row hs hg hr => by
  obtain ⟨b, hlo, e, h⟩ := hs
  refine ⟨b, hlo, e, (hg.block b (Array.getElem?_eq_some_iff.1 h).1 fun e' => ?_).trans h⟩
  obtain ⟨o, ho, hc⟩ := (hr b e'.symm).2
  rw [show X.heap[b]? = _ from h] at ho; cases ho; cases hc
/-- A boxed expression is no row of types. -/
theorem BoxE.not_row {W : World} {k : Nat} {us : Array Value} (h : BoxE W k us) {B n : Nat} {v : Value} {cs : List Value} (hr : W.ownsRow B 24 3 v n cs) : v.ownBlock ≠ some k := by
  rcases hr.2 with ⟨rfl, _⟩ | ⟨g, cap, cur, rfl, _, hg, _⟩
  · simp [Value.ownBlock]
  · intro e
    obtain rfl : g = k := by simpa [Value.ownBlock] using e
    rw [show W.heap[g]? = _ from h] at hg
    simp at hg

/-! ### steps of the round -/
theorem RowsOf.app {w : World} {N : Prop} {S : Nat → Prop} {b : List Ty} {ds : List Value} (hb : RowsOf w N S ds b) : ∀ {a : List Ty} {cs : List Value}, RowsOf w N S cs a → RowsOf w N S (cs ++ ds) (a ++ b)
  | [], cs, h => by
    obtain rfl : cs = [] := h
    exact hb
  | t :: r, cs, h => by
    obtain ⟨A, c, rest, rfl, hn, hl, hr⟩ := h
    exact ⟨A, c, rest ++ ds, rfl, hn, hl, RowsOf.app hb hr⟩
/-- The cells of a slice of types. -/
theorem args_cells {w : World} {S : Nat → Prop} {p : Addr} : ∀ (ts : List Ty) (i : Nat), ArgsIn w False S (some p) i ts → ∃ cs : List Value, cs.length = ts.length * 3 ∧ (∀ j u, cs[j]? = some u → w.cell? (p.add (i * 3 + j)) = some u) ∧ RowsOf w False S cs ts
  | [], i, _ => ⟨[], rfl, fun j u h => by simp at h, rfl⟩
  | .mk s xs o :: r, i, h => by
    rw [ArgsIn, TyCells] at h
    obtain ⟨⟨a, B, c, e, hl, _, c0, c1, c2, b1, b2, ha⟩, hr⟩ := h
    obtain rfl : p = a := by injection e
    obtain ⟨cs, h1, h2, h3⟩ := args_cells r (i + 1) hr
    refine ⟨.string s :: .slice B xs.length c :: .int .i64 o :: cs, by simp only [List.length_cons, h1]; omega, fun j u hj => ?_, ⟨B, c, cs, rfl, b1, ⟨rfl, b2, ha⟩, h3⟩⟩
    match j, hj with
    | 0, hj => obtain rfl : Value.string s = u := by simpa using hj
               exact c0
    | 1, hj => obtain rfl : Value.slice B xs.length c = u := by simpa using hj
               rw [← add_add]; exact c1
    | 2, hj => obtain rfl : Value.int .i64 o = u := by simpa using hj
               rw [← add_add]; exact c2
    | j + 3, hj =>
      have := h2 j u (by simpa using hj)
      rwa [show (i + 1) * 3 + j = i * 3 + (j + 3) by omega] at this
theorem rows_one {w : World} {N : Prop} {S : Nat → Prop} : ∀ {ts : List Ty} {cs : List Value}, RowsOf w N S cs ts → ∀ u ∈ cs, u.oneCell' = true
  | [], cs, h, u, hu => by
    obtain rfl : cs = [] := h
    cases hu
  | t :: r, cs, h, u, hu => by
    obtain ⟨A, c, rest, rfl, hn, hl, hr⟩ := h
    simp only [List.mem_cons] at hu
    rcases hu with rfl | rfl | rfl | hu
    · rfl
    · rfl
    · rfl
    · exact rows_one hr u hu
theorem step_store_mid {P : Program} {ops : Array Oper} {o : Oper} {a : Act} {w : World} {K : Act → World → Prop} {Q : Exit → Act → World → Prop} {E : Prop} (hgd : o.guard = none) (ty : TypeId) (x y : Operand) (ho : o.op = .store ty x y) (b off : Nat) (cells : Array Value)
    (hx : a.eval x = .pointer (some ⟨b, off, none⟩)) (hy : a.eval y = .agg cells) (ht : w.there b off cells.size) (hi : (P.info? ty).map (·.size) = some cells.size) (h1 : cells.all (·.oneCell') = true)
    (h : K (a.put o.dst undef) (w.setCells b off cells.toList)) : if Region.wanted o (yielded ops a.tmps) = true then Oper.wp P o a w K Q else E := by
  have hw : Region.wanted o (yielded ops a.tmps) = true := by simp [Region.wanted, hgd]
  rw [if_pos hw]
  exact wp_store_mid ty x y ho b off cells hx hy ht hi h1 h
theorem sizeTy3 : (Tryd.prog.info? 24).map (·.size) = some 3 := by kernel_rfl

theorem set3 {cs : List Value} {n : Nat} (h : cs.length = n) (z0 z1 z2 u0 u1 u2 : Value) : (((cs ++ [z0, z1, z2]).set n u0).set (n + 1) u1).set (n + 1 + 1) u2 = cs ++ [u0, u1, u2] := by
  subst h
  rw [List.set_append_right _ _ (Nat.le_refl _), List.set_append_right _ _ (by omega), List.set_append_right _ _ (by omega), Nat.sub_self, show cs.length + 1 - cs.length = 1 by omega, show cs.length + 1 + 1 - cs.length = 2 by omega]
  rfl
/-- What lies in a round: the row of l in the variable, the box of the part; what has lasted since Wr. -/
structure TJ (w Wr : World) (B bx n : Nat) (us : Array Value) (g cap : Nat) (cs : List Value) (sl : Value) (W : World) : Prop where
  cell : W.cell? ⟨w.heap.size + 1, 0, none⟩ = some sl
  free : W.frozen? ⟨w.heap.size + 1, 0, none⟩ = false
  own : W.ownsRow B 24 3 (.slice (some ⟨g, 0, none⟩) n cap) n cs
  box : BoxE W bx us
  bel : Below w.heap.size w W
  size : Wr.heap.size ≤ W.heap.size
  ko : KeepsOthers Wr W
  kb : ∀ (k : Nat) (cs : Array Value), B ≤ k → BoxE Wr k cs → BoxE W k cs
theorem own_block {W : World} {B n g cap : Nat} {cs : List Value} (h : W.ownsRow B 24 3 (.slice (some ⟨g, 0, none⟩) n cap) n cs) : B ≤ g ∧ ∃ cur, W.heap[g]? = some (.cells cur 24 (0, 0)) := by
  rcases h.2 with ⟨e, _⟩ | ⟨g', cap', cur, e, hb, hg, _⟩
  · cases e
  · simp only [Value.slice.injEq, Option.some.injEq, Addr.mk.injEq, and_true, true_and] at e
    obtain ⟨rfl, rfl⟩ := e
    exact ⟨hb, cur, hg⟩
theorem KeepsOthers.cells {W : World} {g : Nat} (o : Nat) (vs : List Value) : KeepsOthers W (W.setCells g o vs) := by
  induction vs generalizing o W with
  | nil => exact KeepsOthers.refl _
  | cons v r ih => rw [World.setCells]; exact (KeepsOthers.setCell _ _ _).trans (ih _)
theorem heap_cells {W : World} {g k : Nat} (hk : k ≠ g) (o : Nat) (vs : List Value) : (W.setCells g o vs).heap[k]? = W.heap[k]? := by
  induction vs generalizing o W with
  | nil => rfl
  | cons v r ih => rw [World.setCells, ih]; exact Below.heap_setCell _ _ _ _ (by simp only; exact fun e => hk e)
theorem own_some {W : World} {B n : Nat} {v : Value} {cs : List Value} (h : W.ownsRow B 24 3 v n cs) (hn : 0 < n) : ∃ g cap, v = .slice (some ⟨g, 0, none⟩) n cap := by
  rcases h.2 with ⟨_, h0⟩ | ⟨g, cap, _, rfl, _⟩
  · omega
  · exact ⟨g, cap, rfl⟩
/-- The variable takes a row. -/
theorem TJ.var {w Wr W : World} {B bx n : Nat} {us : Array Value} {g cap : Nat} {cs : List Value} {sl : Value} (h : TJ w Wr B bx n us g cap cs sl W) (hB : w.heap.size + 1 < B) (hbx : B ≤ bx ∨ bx < w.heap.size) (sl' : Value) : TJ w Wr B bx n us g cap cs sl' (W.setCell ⟨w.heap.size + 1, 0, none⟩ sl') :=
  ⟨World.cell?_setCell_same _ _ _ h.cell, (World.frozen?_setCell _ _ _ _).trans h.free, ownsRow_setCell_below h.own (by simp only; omega) _, (Below.heap_setCell _ _ _ _ (by simp only; omega)).trans h.box, h.bel.setCell (p := ⟨w.heap.size + 1, 0, none⟩) (Nat.le_succ _) _,
    by simpa [World.setCell] using h.size, h.ko.trans (KeepsOthers.setCell _ _ _), fun k cs hk hc => (Below.heap_setCell _ _ _ _ (by simp only; omega)).trans (h.kb k cs hk hc)⟩
/-- An element of the row is written. -/
theorem TJ.elem {w Wr W : World} {B bx n j : Nat} {us : Array Value} {g cap : Nat} {cs : List Value} {sl : Value} (h : TJ w Wr B bx n us g cap cs sl W) (hB : w.heap.size + 1 < B) (u0 u1 u2 : Value) :
    TJ w Wr B bx n us g cap (((cs.set j u0).set (j + 1) u1).set (j + 1 + 1) u2) sl (W.setCells g j [u0, u1, u2]) := by
  obtain ⟨hg, cur, hcur⟩ := own_block h.own
  have hne : bx ≠ g := by
    rintro rfl
    have := h.box
    rw [show W.heap[bx]? = _ from this] at hcur
    simp at hcur
  have h1 := ((h.own.stored j u0).1.stored (j + 1) u1).1.stored (j + 1 + 1) u2
  refine ⟨(World.cell?_setCells_out _ _ _ _ _ (fun e => by simp only at e; omega)).trans h.cell, (World.frozen?_setCells _ _ _ _ _).trans h.free, h1.1, (heap_cells hne _ _).trans h.box, h.bel.trans (below_cells (by omega) _ _ _), by rw [size_setCells_w]; exact h.size, h.ko.trans (KeepsOthers.cells _ _), fun k cs hk hc => ?_⟩
  have h2 := h.kb k cs hk hc
  refine (heap_cells (fun e => ?_) _ _).trans h2
  subst e
  rw [show W.heap[k]? = _ from h2] at hcur
  simp at hcur
/-- The row grows. -/
theorem TJ.grow {w Wr W W' : World} {B bx n n' : Nat} {us : Array Value} {g' cap' : Nat} {cs cs' : List Value} {sl v : Value} (hcell : W.cell? ⟨w.heap.size + 1, 0, none⟩ = some sl) (hfree : W.frozen? ⟨w.heap.size + 1, 0, none⟩ = false) (hbox : BoxE W bx us) (hbel : Below w.heap.size w W) (hsize : Wr.heap.size ≤ W.heap.size)
    (hko : KeepsOthers Wr W) (hkb : ∀ (k : Nat) (cs : Array Value), B ≤ k → BoxE Wr k cs → BoxE W k cs) (hB : w.heap.size + 1 < B) (hown : W.ownsRow B 24 3 v n cs) (hown' : W'.ownsRow B 24 3 (.slice (some ⟨g', 0, none⟩) n' cap') n' cs') (hg : W.grownBy W' v.ownBlock) :
    TJ w Wr B bx n' us g' cap' cs' sl W' := by
  have hob : ∀ k, v.ownBlock = some k → B ≤ k := own_base hown
  have hlt : ∀ k, v.ownBlock = some k → k < W.heap.size := fun k hk => (hown.lt k hk).2
  have hk3 : some (w.heap.size + 1) ≠ v.ownBlock := fun e => by have := hob _ e.symm; omega
  refine ⟨(hg.cell_far ⟨w.heap.size + 1, 0, none⟩ (cell_lt hcell) hk3).trans hcell, (hg.frozen_far ⟨w.heap.size + 1, 0, none⟩ (cell_lt hcell) hk3).trans hfree, hown', ?_, hbel.grown hg hbel.size (fun k hk => by have := hob k hk; omega), Nat.le_trans hsize hg.size, ?_, fun k cs hk hc => ?_⟩
  · exact (hg.block bx (Array.getElem?_eq_some_iff.1 hbox).1 (fun e => hbox.not_row hown e.symm)).trans hbox
  · refine hko.trans ⟨hg.size, fun k o hk ho => ?_⟩
    refine (hg.block k (Array.getElem?_eq_some_iff.1 hk).1 fun e => ?_).trans hk
    rcases hown.2 with ⟨rfl, _⟩ | ⟨g1, cap1, cur, rfl, _, hg1, _⟩
    · simp [Value.ownBlock] at e
    · obtain rfl : k = g1 := by simpa [Value.ownBlock] using e
      rw [hg1] at hk; cases hk; cases ho
  · have h2 := hkb k cs hk hc
    exact (hg.block k (Array.getElem?_eq_some_iff.1 h2).1 (fun e => h2.not_row hown e.symm)).trans h2

set_option maxRecDepth 100000 in
set_option maxHeartbeats 16000000 in
theorem typesIn_any (e : Ex) (us : List Value) (w : World) (hwt : e.wt ≤ 1000) (h : e.dat.H w us) : Calls Tryd.prog 48 #[.agg us.toArray] w (fun e' w' => ∃ A c, e' = .returned (.slice A e.typs.length c) ∧ Here w' A e.typs.length e.typs ∧ Below w.heap.size w w') := by
  have hx : OneX w ((w.alloc (.cells us.toArray 27)).alloc (.cells #[.slice none 0 0] 22)) e us := (OneX.new h 27).later ((Below.refl _ _).alloc (Nat.le_refl _) _)
  have hd : e.dat.In ((w.alloc (.cells us.toArray 27)).alloc (.cells #[.slice none 0 0] 22)) False (· < w.heap.size) us := Dat.In.later h hx.bel (fun _ h => h)
  have hv : ((w.alloc (.cells us.toArray 27)).alloc (.cells #[.slice none 0 0] 22)).heap[w.heap.size + 1]? = some (.cells #[.slice none 0 0] 22) := heap_alloc_two _ _ _
  obtain ⟨A, m, a, B, l, b, C, r, c, rfl, _⟩ := ex_open h
  have HX := Lib.hid hx
  have HD := Lib.hid hd
  have HV := Lib.hid hv
  have HLN := Lib.hid (show e.list.length ≤ 1000 from by
    have : ∀ e : Ex, e.list.length ≤ e.wt := by
      refine Ex.ind fun k s t ts xs o ih => ?_
      have hL : ∀ ys : List Ex, (∀ y ∈ ys, y ∈ xs) → (Ex.listL ys).length ≤ Ex.wtL ys := by
        intro ys
        induction ys with
        | nil => intro _; simp [Ex.listL]
        | cons y r ih2 =>
          intro hy
          have h1 := ih y (hy y (by simp))
          have h2 := ih2 fun z hz => hy z (by simp [hz])
          simp only [Ex.listL, Ex.wtL, List.length_append]; omega
      have h1 := hL xs fun _ h => h
      have h3 : 1 ≤ Ty.wt t := by cases t; simp only [Ty.wt]; omega
      simp only [Ex.list, Ex.wt, List.length_cons]; omega
    exact Nat.le_trans (this e) hwt)
  clear hx hd hv h
  refine (callsIn_wide (n := 9)).1 (callsIn_of_wp_marks Tryd.func48 rfl trivial ?_ rfl)
  simp only [Tryd.ntmps48, List.size_toArray, List.length_cons, List.length_nil, Nat.reduceAdd, Nat.reduceSub, Array.replicate_succ, Array.replicate_zero, List.push_toArray, List.append_toArray, List.nil_append, List.cons_append]
  refine wpIn_wide.2 ?_
  obtain ⟨x0, x1, x2, x3, x4, x5, x6, x7⟩ := HX.out.one.c8
  go_wp2_with fail
  generalize hW : (w.alloc (.cells #[.int .i64 e.kind, .string e.name, .string e.ty.name, .slice A m a, .int .i64 e.ty.off, .slice B l b, .slice C r c, .int .i64 e.off] 27)).alloc (.cells #[.slice none 0 0] 22) = W at *
  clear hW
  refine (parts_any w.heap.size e _ W HX.out.bel.size hwt HD.out).mono ?_
  rintro e5 w5 ⟨g, lb, rfl, hb, hent, hseq⟩
  clear x0 x1 x2 x3 x4 x5 x6 x7
  have B5 := Lib.hid (HX.out.bel.trans (hb.mono HX.out.bel.size))
  have R5 := Lib.hid ((hb.block _ (Array.getElem?_eq_some_iff.1 HV.out).1).trans HV.out)
  have HEN := Lib.hid hent
  have HSQ := Lib.hid hseq
  have HLT := Lib.hid (show w.heap.size + 1 < w5.heap.size from (Array.getElem?_eq_some_iff.1 R5.out).1)
  clear hb hent hseq HX HV HD
  go_wp2_with fail
  refine (wpIn_wide (n := 9)).1 ?_
  refine wpIn_rangeFunc_ownH rfl (by omega) (gf := g) (lb := lb) rfl trivial HEN.out (HSQ.out 8 w5 (by omega) (Below.refl _ _)) (fun h k => h.trans k) (fun W l o o' _ h hc _ => KeepE.put W l o o' h hc) (Below.refl _ _) (fun _ => rfl)
    (fun pre W => TI w w5.heap.size (tysOf pre) W ∧ w5.heap.size ≤ W.heap.size) (fun _ _ _ => False)
    (fun s A B row hs hg hr => ⟨TI.own B5.out.size _ A B row hs.1 hg hr, Nat.le_trans hs.2 hg.size⟩) (fun c s A B row hs hg hr => hs)
    ⟨⟨⟨none, 0, [], by rw [cell_of_row _ _ 0 _ _ (0, 0) R5.out]; rfl, frozen_of_row R5.out 0, World.ownsRow_nil _ _ _ _, rfl⟩, B5.out⟩, Nat.le_refl _⟩
    (BoxAxE w5.heap.size fun p x => { tmps := #[.agg #[.int .i64 e.kind, .string e.name, .string e.ty.name, .slice A m a, .int .i64 e.ty.off, .slice B l b, .slice C r c, .int .i64 e.off], .pointer (some ⟨w.heap.size, 0, none⟩), .slice none 0 0, .pointer (some ⟨w.heap.size + 1, 0, none⟩), .pointer (some p), .agg #[.int .i64 e.kind, .string e.name, .string e.ty.name, .slice A m a, .int .i64 e.ty.off, .slice B l b, .slice C r c, .int .i64 e.off],
      .func (.func g) #[] lb, .agg x.1.2.toArray, undef, undef, undef, undef, undef, undef, undef, undef, undef, undef, undef, undef], defers := [] }) (boxAxE_own _) ?assign ?body ?done ?stop
  case assign =>
    rintro l pre ⟨⟨u, us⟩, hx⟩ W K ⟨hti, hsz⟩ hK
    have hb1 : Below W.heap.size W (W.alloc (.cells us.toArray 27)) := (Below.refl _ _).alloc (Nat.le_refl _) _
    have HK := Lib.hid (fun a' (ha : a' = _) => hK a' (W.alloc (.cells us.toArray 27)) ((keepsOthers_below hb1).from _) (KeepE.of_below hb1) ⟨by
      obtain ⟨A, c, cs, h1, h2, h3, h4⟩ := hti.row
      have hbb : Below w.heap.size w (W.alloc (.cells us.toArray 27)) := hti.bel.trans (hb1.mono hti.bel.size)
      exact ⟨⟨A, c, cs, (hb1.cell (cell_lt h1)).trans h1, (hb1.frozen (p := ⟨w.heap.size + 1, 0, none⟩) (cell_lt h1)).trans h2, own_below h3 hb1, h4.keep (same_of hti.bel hbb) (fun _ h => h)⟩, hbb⟩, Nat.le_trans hsz hb1.size⟩ ⟨W.heap.size, hsz, ha, BoxE.new W us.toArray⟩)
    obtain ⟨_, _, _, _, _, _, _, _, _, rfl, _⟩ := ex_open (e := u) (us := us) hx.2
    clear hK hb1 hti hsz
    simp only [Part.enc]
    gi_wp2
    exact HK.out _ rfl
  case body =>
    rintro l pre ⟨⟨u, us⟩, hx⟩ a' Wr _ _ ⟨hti, hsz⟩ ⟨bx, hblo, rfl, hbx⟩ hlen
    obtain ⟨A2, m2, a2, B2, l2, b2, C2, r2, c2, rfl, hus, hts, ha2, hb2, _⟩ := ex_open (e := u) (us := us) hx.2
    obtain ⟨LA, lc, cs, hl1, hl2, hl3, hl4⟩ := hti.row
    obtain ⟨n, hn⟩ : ∃ n, n = (tysOf pre).length := ⟨_, rfl⟩
    have hn9 : n ≤ 1001000 := by have := tysOf_len pre; have := HLN.out; omega
    rw [← hn] at hl1 hl3
    have HBX := Lib.hid hbx
    have hnr := hbx.not_row hl3
    have HNR := Lib.hid hnr
    obtain ⟨y0, y1, y2, y3, y4, y5, y6, y7⟩ := hbx.boxd.c8
    have hni : (n : Int) ≤ 1001000 := by omega
    clear hbx hnr hlen
    gi_wp2
    have HL1 := Lib.hid (show Wr.drew.cell? ⟨w.heap.size + 1, 0, none⟩ = some (.slice LA n lc) from hl1)
    have HL2 := Lib.hid (show Wr.drew.frozen? ⟨w.heap.size + 1, 0, none⟩ = false from hl2)
    have HL3 := Lib.hid (show Wr.drew.ownsRow w5.heap.size 24 3 (.slice LA n lc) n cs from hl3)
    have HL4 := Lib.hid (RowsOf.keep (w := Wr) (w' := Wr.drew) (S := (· < w.heap.size)) (S' := (· < w.heap.size)) (fun _ _ => ⟨rfl, rfl⟩) (fun _ h => h) hl4)
    have HBL := Lib.hid (show Below w.heap.size w Wr.drew from hti.bel.drew)
    have HSZ := Lib.hid (show w5.heap.size ≤ Wr.drew.heap.size from hsz)
    have HBX2 := Lib.hid (show BoxE Wr.drew bx _ from HBX.out)
    have HN := Lib.hid hn
    have HBR := Lib.hid hti.bel
    have HSR := Lib.hid hsz
    clear hl1 hl2 hl3 hl4 hti hsz hn
    refine region_round (S := fun V => V.cell? ⟨bx, 2, none⟩ = some (.string u.ty.name) ∧ V.cell? ⟨bx, 3, none⟩ = some (.slice A2 m2 a2) ∧ V.cell? ⟨bx, 4, none⟩ = some (.int .i64 u.ty.off)) (by kernel_rfl) (by kernel_rfl) (by rintro ⟨_, _, h⟩; exact h) ⟨y2, y3, y4⟩ (fun hS => ?_)
    clear y0 y1 y2 y3 y4 y5 y6 y7 HBX
    have HWD := Lib.hid (show Wr.heap.size ≤ Wr.drew.heap.size ∧ KeepsOthers Wr Wr.drew ∧ ∀ (k : Nat) (cs : Array Value), w5.heap.size ≤ k → BoxE Wr k cs → BoxE Wr.drew k cs from ⟨Nat.le_refl _, ⟨Nat.le_refl _, fun _ _ h _ => h⟩, fun _ _ _ h => h⟩)
    generalize World.drew Wr = Wd at *
    refine wpAnyH_take (i := 1) (v := ?_) rfl (by kernel_rfl) (by kernel_rfl) (by kernel_rfl) (fun _ _ _ h => h) (Or.inl ⟨by rfl, ?_⟩) (by assumption) ?_
    rotate_left
    · (intro V hV; obtain ⟨k0, k1, k2⟩ := hV; go_simp; try with_reducible rfl)
    try simp only [Act.put, List.getElem_toArray, List.getElem_cons_zero, List.getElem_cons_succ, List.setIfInBounds_toArray, List.set_cons_zero, List.set_cons_succ]
    refine wpAnyH_take (i := 2) (v := ?_) rfl (by kernel_rfl) (by kernel_rfl) (by kernel_rfl) (fun _ _ _ h => h) (Or.inl ⟨by rfl, ?_⟩) (by assumption) ?_
    rotate_left
    · (intro V hV; obtain ⟨k0, k1, k2⟩ := hV; go_simp; try with_reducible rfl)
    try simp only [Act.put, List.getElem_toArray, List.getElem_cons_zero, List.getElem_cons_succ, List.setIfInBounds_toArray, List.set_cons_zero, List.set_cons_succ]
    have hl1 := HL1.out
    have hba : Below Wd.heap.size Wd (Wd.alloc (.cells #[.string ⟨#[]⟩, .slice none 0 0, .int .i64 0] 24)) := (Below.refl _ _).alloc (Nat.le_refl Wd.heap.size) _
    have hl1a := (hba.cell (cell_lt hl1)).trans hl1
    have SA : (Wd.alloc (.cells #[.string ⟨#[]⟩, .slice none 0 0, .int .i64 0] 24)).cell? ⟨bx, 2, none⟩ = some (.string u.ty.name) ∧ (Wd.alloc (.cells #[.string ⟨#[]⟩, .slice none 0 0, .int .i64 0] 24)).cell? ⟨bx, 3, none⟩ = some (.slice A2 m2 a2) ∧ (Wd.alloc (.cells #[.string ⟨#[]⟩, .slice none 0 0, .int .i64 0] 24)).cell? ⟨bx, 4, none⟩ = some (.int .i64 u.ty.off) := ⟨(hba.cell (cell_lt hS.1)).trans hS.1, (hba.cell (cell_lt hS.2.1)).trans hS.2.1, (hba.cell (cell_lt hS.2.2)).trans hS.2.2⟩
    have SD := hS
    obtain ⟨i0, hi0, hz0, hz1, hz2⟩ := info_parts infoTy
    have HOA := Lib.hid (own_alloc HL3.out (.cells #[.string ⟨#[]⟩, .slice none 0 0, .int .i64 0] 24))
    have HFA := Lib.hid ((hba.frozen (p := ⟨w.heap.size + 1, 0, none⟩) (cell_lt hl1)).trans HL2.out)
    have HBA := Lib.hid (show BoxE (Wd.alloc (.cells #[.string ⟨#[]⟩, .slice none 0 0, .int .i64 0] 24)) bx _ from (hba.block _ (Array.getElem?_eq_some_iff.1 HBX2.out).1).trans HBX2.out)
    have HWA := Lib.hid (HBL.out.trans (hba.mono HBL.out.size))
    have HSA := Lib.hid (Nat.le_trans HWD.out.1 hba.size)
    have HKA := Lib.hid (HWD.out.2.1.trans (keepsOthers_below hba))
    have HEA := Lib.hid (fun (k : Nat) (cs : Array Value) (hk : w5.heap.size ≤ k) (hc : BoxE Wr k cs) => show BoxE (Wd.alloc (.cells #[.string ⟨#[]⟩, .slice none 0 0, .int .i64 0] 24)) k cs from (hba.block _ (Array.getElem?_eq_some_iff.1 (HWD.out.2.2 k cs hk hc)).1).trans (HWD.out.2.2 k cs hk hc))
    have HNW := Lib.hid (World.news_of_block (w := (Wd.alloc (.cells #[.string ⟨#[]⟩, .slice none 0 0, .int .i64 0] 24))) (MapKept.heap_alloc Wd (.cells #[.string ⟨#[]⟩, .slice none 0 0, .int .i64 0] 24)).1)
    have HCL := Lib.hid (show cs.length = n * 3 from HL3.out.1)
    have zz0 : (0 : Int) ≤ n := by omega
    have zz1 : (n : Int) < (n : Int) + 1 := by omega
    clear hba
    refine wpAnyH_ready (rs := [0, 4]) (by kernel_rfl) (by simp) ?_
    refine AllReadyH.cons rfl (fun K hK => ?_) (AllReadyH.cons rfl (fun K hK => ?_) AllReadyH.nil)
    · go_simp
      refine hK.out _ _ SD (fun hS => ?_)
      clear hK K
      try simp only [Act.put, List.getElem_toArray, List.getElem_cons_zero, List.getElem_cons_succ, List.setIfInBounds_toArray, List.set_cons_zero, List.set_cons_succ]
      refine wpAnyH_take (i := 3) (v := ?_) rfl (by kernel_rfl) (by kernel_rfl) (by kernel_rfl) (fun _ _ _ h => h) (Or.inl ⟨by rfl, ?_⟩) (by assumption) ?_
      rotate_left
      · (intro V hV; obtain ⟨k0, k1, k2⟩ := hV; go_simp; try with_reducible rfl)
      try simp only [Act.put, List.getElem_toArray, List.getElem_cons_zero, List.getElem_cons_succ, List.setIfInBounds_toArray, List.set_cons_zero, List.set_cons_succ]
      refine wpAnyH_ready (rs := [4]) (by kernel_rfl) (by simp) ?_
      refine AllReadyH.cons rfl (fun K hK => ?_) AllReadyH.nil
      go_simp
      refine hK.out _ _ SA (fun hS => ?_)
      clear hK K
      try simp only [Act.put, List.getElem_toArray, List.getElem_cons_zero, List.getElem_cons_succ, List.setIfInBounds_toArray, List.set_cons_zero, List.set_cons_succ]
      refine wpAnyH_ready (rs := [5]) (by kernel_rfl) (by simp) ?_
      refine AllReadyH.cons rfl (fun K hK => ?_) AllReadyH.nil
      refine step_append_lies _ rfl _ _ 22 rfl w5.heap.size 24 i0 _ 3 48 Tryd.underlying22 hi0 hz0 hz1 hz2 rfl (by omega) _ n cs rfl HOA.out ⟨Wd.heap.size, 0, none⟩ 1 1 [.string ⟨#[]⟩, .slice none 0 0, .int .i64 0] rfl rfl HNW.out (by intro x hx; simp only [List.mem_cons, List.not_mem_nil, or_false] at hx; rcases hx with rfl | rfl | rfl <;> rfl) (by omega) (by unfold maxLen; omega) (by omega) (by have := HSZ.out; simp; omega) (Wd.heap.size + 1) (by simp) ?_
      intro g2 cap2 w2 hown2 hgrow2 _ _
      have hJ := TJ.grow (Wr := Wr) (us := [.int .i64 u.kind, .string u.name, .string u.ty.name, .slice A2 m2 a2, .int .i64 u.ty.off, .slice B2 l2 b2, .slice C2 r2 c2, .int .i64 u.off].toArray) (bx := bx) hl1a HFA.out HBA.out HWA.out HSA.out HKA.out HEA.out HLT.out HOA.out hown2 hgrow2
      have S2 : w2.cell? ⟨bx, 2, none⟩ = some (.string u.ty.name) ∧ w2.cell? ⟨bx, 3, none⟩ = some (.slice A2 m2 a2) ∧ w2.cell? ⟨bx, 4, none⟩ = some (.int .i64 u.ty.off) := hJ.box.boxd.c8 |> fun h => ⟨h.2.2.1, h.2.2.2.1, h.2.2.2.2.1⟩
      refine hK.out _ _ S2 (fun hS => ?_)
      clear hK K hgrow2
      try simp only [Act.put, List.getElem_toArray, List.getElem_cons_zero, List.getElem_cons_succ, List.setIfInBounds_toArray, List.set_cons_zero, List.set_cons_succ]
      refine wpAnyH_take (i := 6) (v := ?_) rfl (by kernel_rfl) (by kernel_rfl) (by kernel_rfl) (fun _ _ _ h => h) (Or.inl ⟨by rfl, ?_⟩) (by assumption) ?_
      rotate_left
      · (intro V hV; obtain ⟨k0, k1, k2⟩ := hV; go_simp; try with_reducible rfl)
      try simp only [Act.put, List.getElem_toArray, List.getElem_cons_zero, List.getElem_cons_succ, List.setIfInBounds_toArray, List.set_cons_zero, List.set_cons_succ]
      have hthere : ∀ W : World, W.ownsRow w5.heap.size 24 3 (.slice (some ⟨g2, 0, none⟩) (n + 1) cap2) (n + 1) (cs ++ [.string ⟨#[]⟩, .slice none 0 0, .int .i64 0]) → W.there g2 (n * 3) 3 := fun W hW j hj => ⟨by
        rw [hW.cellAt (n * 3 + j) (by omega), List.getElem?_eq_getElem (by have := HCL.out; simp only [List.length_append, List.length_cons, List.length_nil]; omega)]; rfl, hW.frozenAt _⟩
      have HTH := Lib.hid hthere
      have HJ0 := Lib.hid hJ
      clear hthere hJ hown2
      refine wpAnyH_ready (rs := [7, 8]) (by kernel_rfl) (by simp) ?_
      refine AllReadyH.cons rfl (fun K hK => ?_) (AllReadyH.cons rfl (fun K hK => ?_) AllReadyH.nil)
      · refine step_store_mid rfl 24 _ _ rfl g2 (n * 3) #[.string u.ty.name, .slice A2 m2 a2, .int .i64 u.ty.off] rfl rfl (HTH.out _ HJ0.out.own) sizeTy3 (by simp [Value.oneCell']) ?_
        have hJ3 := HJ0.out.elem (j := n * 3) HLT.out (.string u.ty.name) (.slice A2 m2 a2) (.int .i64 u.ty.off)
        rw [set3 HCL.out] at hJ3
        have h8 := hJ3.box.boxd.c8
        refine hK.out _ _ ⟨h8.2.2.1, h8.2.2.2.1, h8.2.2.2.2.1⟩ (fun hS => ?_)
        clear hK K h8
        try simp only [Act.put]
        obtain ⟨W3, hW3⟩ : ∃ W3, W3 = w2.setCells g2 (n * 3) [.string u.ty.name, .slice A2 m2 a2, .int .i64 u.ty.off] := ⟨_, rfl⟩
        change wpAnyH _ _ _ _ _ _ _ _ (w2.setCells g2 (n * 3) [.string u.ty.name, .slice A2 m2 a2, .int .i64 u.ty.off])
        change (w2.setCells g2 (n * 3) [.string u.ty.name, .slice A2 m2 a2, .int .i64 u.ty.off]).cell? ⟨bx, 2, none⟩ = some (.string u.ty.name) ∧ (w2.setCells g2 (n * 3) [.string u.ty.name, .slice A2 m2 a2, .int .i64 u.ty.off]).cell? ⟨bx, 3, none⟩ = some (.slice A2 m2 a2) ∧ (w2.setCells g2 (n * 3) [.string u.ty.name, .slice A2 m2 a2, .int .i64 u.ty.off]).cell? ⟨bx, 4, none⟩ = some (.int .i64 u.ty.off) at hS
        rw [← hW3] at hJ3 hS ⊢
        clear hW3
        have c3 := hJ3.cell
        have f3 := hJ3.free
        have HJ4 := Lib.hid (hJ3.var HLT.out (.inl hblo) (.slice (some ⟨g2, 0, none⟩) (n + 1) cap2))
        clear hJ3
        refine wpAnyH_ready (rs := [8]) (by kernel_rfl) (by simp) ?_
        refine AllReadyH.cons rfl (fun K hK => ?_) AllReadyH.nil
        go_simp
        have h8 := HJ4.out.box.boxd.c8
        refine hK.out _ _ ⟨h8.2.2.1, h8.2.2.2.1, h8.2.2.2.2.1⟩ (fun hS => ?_)
        clear hK K h8 c3 f3
        try simp only [Act.put]
        refine wpAnyH_done (by kernel_rfl) ?_ _
        generalize World.setCell W3 _ _ = W4 at *
        clear hS
        obtain ⟨y0, y1, y2, y3, y4, y5, y6, y7⟩ := HJ4.out.box.boxd.c8
        have c4 := HJ4.out.cell
        have f4 := HJ4.out.free
        have HROW := Lib.hid (show RowsOf W4 False (· < w.heap.size) (cs ++ [.string u.ty.name, .slice A2 m2 a2, .int .i64 u.ty.off]) (tysOf pre ++ [u.ty]) from
          RowsOf.snoc hts (LiesN.keep ha2 (same_of B5.out HJ4.out.bel) (fun _ h => h)) (HL4.out.keep (same_of HBL.out HJ4.out.bel) (fun _ h => h)))
        have HTG := Lib.hid (LiesN.keep hb2 (same_of B5.out HJ4.out.bel) (S' := (· < w.heap.size)) (fun _ h => h))
        have hl2 := HTG.out.len
        have hl29 : l2 ≤ 1000 := by
          have h1 : u.wt ≤ 1000 := hx.1
          have h2 := Ty.wtL_len u.targs
          have h3 : Ty.wtL u.targs ≤ u.wt := by obtain ⟨k, s, t, ts, xs, o⟩ := u; simp only [Ex.wt, Ex.targs]; omega
          omega
        have HL2N := Lib.hid hl2
        clear hl2
        cases B2 with
        | none =>
          obtain ⟨rfl, htg⟩ : l2 = 0 ∧ u.targs = [] := by
            have h1 := HTG.out.args
            have h2 := HL2N.out
            cases hq : u.targs with
            | nil => rw [hq] at h2; exact ⟨h2.symm, rfl⟩
            | cons q r => rw [hq, ArgsIn] at h1; obtain ⟨s, xs, o⟩ := q; rw [TyCells] at h1; obtain ⟨⟨_, _, _, h3, _⟩, _⟩ := h1; cases h3
          have HTX := Lib.hid htg
          clear htg
          gi_wp2_with (gi_at_builtin; refine wpListIn_append_none _ rfl _ _ 22 rfl w5.heap.size 24 i0 3 Tryd.underlying22 hi0 _ (n + 1) _ rfl HJ4.out.own b2 rfl ?_)
          have hJ5 := HJ4.out.var HLT.out (.inl hblo) (.slice (some ⟨g2, 0, none⟩) (n + 1) cap2)
          refine ⟨hJ5.ko.from _, ⟨hJ5.size, fun p v hp hv => ?_, fun k cs hk hc => hJ5.kb k cs hk hc⟩, ⟨⟨some ⟨g2, 0, none⟩, cap2, cs ++ [.string u.ty.name, .slice A2 m2 a2, .int .i64 u.ty.off], ?_, hJ5.free, ?_, ?_⟩, hJ5.bel⟩, Nat.le_trans HSR.out hJ5.size⟩
          · obtain ⟨e1, e2⟩ := same_of HBR.out hJ5.bel p hp
            exact ⟨e1.trans hv, e2⟩
          · rw [hJ5.cell, show (tysOf (pre ++ [_])).length = n + 1 by rw [tysOf_snoc]; simp [Part.ex, HTX.out, HN.out]]
          · rw [show (tysOf (pre ++ [_])).length = n + 1 by rw [tysOf_snoc]; simp [Part.ex, HTX.out, HN.out]]; exact hJ5.own
          · rw [tysOf_snoc]
            show RowsOf _ _ _ _ (tysOf pre ++ [u.ty] ++ u.targs)
            rw [HTX.out, List.append_nil]
            exact HROW.out.keep (same_of HJ4.out.bel hJ5.bel) (fun _ h => h)
        | some p2 =>
          obtain ⟨news, hn1, hn2, hn3⟩ := args_cells u.targs 0 HTG.out.args
          have HN1 := Lib.hid (show news.length = l2 * 3 by rw [hn1, HL2N.out])
          have HN2 := Lib.hid (show ∀ j x, news[j]? = some x → W4.cell? (p2.add j) = some x from fun j x hj => by have := hn2 j x hj; rwa [Nat.zero_mul, Nat.zero_add] at this)
          have HN3 := Lib.hid hn3
          have HZ4 := Lib.hid (show w5.heap.size ≤ W4.heap.size from Nat.le_trans HSR.out HJ4.out.size)
          clear hn1 hn2 hn3
          gi_wp2_with (gi_at_builtin; refine wpListIn_append_own _ rfl _ _ 22 rfl w5.heap.size 24 i0 _ 3 48 Tryd.underlying22 hi0 hz0 hz1 hz2 rfl (by omega) _ (n + 1) _ rfl HJ4.out.own p2 l2 b2 news rfl HN1.out HN2.out (rows_one HN3.out) (by unfold maxLen; omega) (by omega) HZ4.out ?_; intro v6 w6 hown6 hgrow6 _; obtain ⟨g6, cap6, rfl⟩ : ∃ g6 cap6, v6 = .slice (some ⟨g6, 0, none⟩) (n + 1 + l2) cap6 := own_some hown6 (by omega); have HJ6 := Lib.hid (TJ.grow HJ4.out.cell HJ4.out.free HJ4.out.box HJ4.out.bel HJ4.out.size HJ4.out.ko HJ4.out.kb HLT.out HJ4.out.own hown6 hgrow6); have c6 := HJ6.out.cell; have f6 := HJ6.out.free; clear hown6 hgrow6)
          have hJ5 := HJ6.out.var HLT.out (.inl hblo) (.slice (some ⟨g6, 0, none⟩) (n + 1 + l2) cap6)
          refine ⟨hJ5.ko.from _, ⟨hJ5.size, fun p v hp hv => ?_, fun k cs hk hc => hJ5.kb k cs hk hc⟩, ⟨⟨some ⟨g6, 0, none⟩, cap6, cs ++ [.string u.ty.name, .slice A2 m2 a2, .int .i64 u.ty.off] ++ news, ?_, hJ5.free, ?_, ?_⟩, hJ5.bel⟩, Nat.le_trans HSR.out hJ5.size⟩
          · obtain ⟨e1, e2⟩ := same_of HBR.out hJ5.bel p hp
            exact ⟨e1.trans hv, e2⟩
          · rw [hJ5.cell, show (tysOf (pre ++ [_])).length = n + 1 + l2 by rw [tysOf_snoc, List.length_append, List.length_append, ← HN.out]; show n + 1 + u.targs.length = _; rw [HL2N.out]]
          · rw [show (tysOf (pre ++ [_])).length = n + 1 + l2 by rw [tysOf_snoc, List.length_append, List.length_append, ← HN.out]; show n + 1 + u.targs.length = _; rw [HL2N.out]]; exact hJ5.own
          · rw [tysOf_snoc]
            show RowsOf _ _ _ _ (tysOf pre ++ [u.ty] ++ u.targs)
            exact RowsOf.app (HN3.out.keep (same_of HJ4.out.bel hJ5.bel) (fun _ h => h)) (HROW.out.keep (same_of HJ4.out.bel hJ5.bel) (fun _ h => h))
      · have c3 := HJ0.out.cell
        have f3 := HJ0.out.free
        go_simp
        have hJ3 := HJ0.out.var HLT.out (.inl hblo) (.slice (some ⟨g2, 0, none⟩) (n + 1) cap2)
        have h8 := hJ3.box.boxd.c8
        refine hK.out _ _ ⟨h8.2.2.1, h8.2.2.2.1, h8.2.2.2.2.1⟩ (fun hS => ?_)
        clear hK K h8 c3 f3
        try simp only [Act.put]
        generalize World.setCell w2 _ _ = W3 at *
        have HJ4 := Lib.hid (hJ3.elem (j := n * 3) HLT.out (.string u.ty.name) (.slice A2 m2 a2) (.int .i64 u.ty.off))
        rw [set3 HCL.out] at HJ4
        have HT3 := Lib.hid (HTH.out _ hJ3.own)
        clear hJ3
        refine wpAnyH_ready (rs := [7]) (by kernel_rfl) (by simp) ?_
        refine AllReadyH.cons rfl (fun K hK => ?_) AllReadyH.nil
        refine step_store_mid rfl 24 _ _ rfl g2 (n * 3) #[.string u.ty.name, .slice A2 m2 a2, .int .i64 u.ty.off] rfl rfl HT3.out sizeTy3 (by simp [Value.oneCell']) ?_
        have h8 := HJ4.out.box.boxd.c8
        refine hK.out _ _ ⟨h8.2.2.1, h8.2.2.2.1, h8.2.2.2.2.1⟩ (fun hS => ?_)
        clear hK K h8 HT3
        try simp only [Act.put]
        refine wpAnyH_done (by kernel_rfl) ?_ _
        obtain ⟨W4, hW4⟩ : ∃ W4, W4 = W3.setCells g2 (n * 3) [.string u.ty.name, .slice A2 m2 a2, .int .i64 u.ty.off] := ⟨_, rfl⟩
        change Exit.then _ _ _ _ (W3.setCells g2 (n * 3) [.string u.ty.name, .slice A2 m2 a2, .int .i64 u.ty.off])
        rw [← hW4] at HJ4 ⊢
        clear hW4
        clear hS
        obtain ⟨y0, y1, y2, y3, y4, y5, y6, y7⟩ := HJ4.out.box.boxd.c8
        have c4 := HJ4.out.cell
        have f4 := HJ4.out.free
        have HROW := Lib.hid (show RowsOf W4 False (· < w.heap.size) (cs ++ [.string u.ty.name, .slice A2 m2 a2, .int .i64 u.ty.off]) (tysOf pre ++ [u.ty]) from
          RowsOf.snoc hts (LiesN.keep ha2 (same_of B5.out HJ4.out.bel) (fun _ h => h)) (HL4.out.keep (same_of HBL.out HJ4.out.bel) (fun _ h => h)))
        have HTG := Lib.hid (LiesN.keep hb2 (same_of B5.out HJ4.out.bel) (S' := (· < w.heap.size)) (fun _ h => h))
        have hl2 := HTG.out.len
        have hl29 : l2 ≤ 1000 := by
          have h1 : u.wt ≤ 1000 := hx.1
          have h2 := Ty.wtL_len u.targs
          have h3 : Ty.wtL u.targs ≤ u.wt := by obtain ⟨k, s, t, ts, xs, o⟩ := u; simp only [Ex.wt, Ex.targs]; omega
          omega
        have HL2N := Lib.hid hl2
        clear hl2
        cases B2 with
        | none =>
          obtain ⟨rfl, htg⟩ : l2 = 0 ∧ u.targs = [] := by
            have h1 := HTG.out.args
            have h2 := HL2N.out
            cases hq : u.targs with
            | nil => rw [hq] at h2; exact ⟨h2.symm, rfl⟩
            | cons q r => rw [hq, ArgsIn] at h1; obtain ⟨s, xs, o⟩ := q; rw [TyCells] at h1; obtain ⟨⟨_, _, _, h3, _⟩, _⟩ := h1; cases h3
          have HTX := Lib.hid htg
          clear htg
          gi_wp2_with (gi_at_builtin; refine wpListIn_append_none _ rfl _ _ 22 rfl w5.heap.size 24 i0 3 Tryd.underlying22 hi0 _ (n + 1) _ rfl HJ4.out.own b2 rfl ?_)
          have hJ5 := HJ4.out.var HLT.out (.inl hblo) (.slice (some ⟨g2, 0, none⟩) (n + 1) cap2)
          refine ⟨hJ5.ko.from _, ⟨hJ5.size, fun p v hp hv => ?_, fun k cs hk hc => hJ5.kb k cs hk hc⟩, ⟨⟨some ⟨g2, 0, none⟩, cap2, cs ++ [.string u.ty.name, .slice A2 m2 a2, .int .i64 u.ty.off], ?_, hJ5.free, ?_, ?_⟩, hJ5.bel⟩, Nat.le_trans HSR.out hJ5.size⟩
          · obtain ⟨e1, e2⟩ := same_of HBR.out hJ5.bel p hp
            exact ⟨e1.trans hv, e2⟩
          · rw [hJ5.cell, show (tysOf (pre ++ [_])).length = n + 1 by rw [tysOf_snoc]; simp [Part.ex, HTX.out, HN.out]]
          · rw [show (tysOf (pre ++ [_])).length = n + 1 by rw [tysOf_snoc]; simp [Part.ex, HTX.out, HN.out]]; exact hJ5.own
          · rw [tysOf_snoc]
            show RowsOf _ _ _ _ (tysOf pre ++ [u.ty] ++ u.targs)
            rw [HTX.out, List.append_nil]
            exact HROW.out.keep (same_of HJ4.out.bel hJ5.bel) (fun _ h => h)
        | some p2 =>
          obtain ⟨news, hn1, hn2, hn3⟩ := args_cells u.targs 0 HTG.out.args
          have HN1 := Lib.hid (show news.length = l2 * 3 by rw [hn1, HL2N.out])
          have HN2 := Lib.hid (show ∀ j x, news[j]? = some x → W4.cell? (p2.add j) = some x from fun j x hj => by have := hn2 j x hj; rwa [Nat.zero_mul, Nat.zero_add] at this)
          have HN3 := Lib.hid hn3
          have HZ4 := Lib.hid (show w5.heap.size ≤ W4.heap.size from Nat.le_trans HSR.out HJ4.out.size)
          clear hn1 hn2 hn3
          gi_wp2_with (gi_at_builtin; refine wpListIn_append_own _ rfl _ _ 22 rfl w5.heap.size 24 i0 _ 3 48 Tryd.underlying22 hi0 hz0 hz1 hz2 rfl (by omega) _ (n + 1) _ rfl HJ4.out.own p2 l2 b2 news rfl HN1.out HN2.out (rows_one HN3.out) (by unfold maxLen; omega) (by omega) HZ4.out ?_; intro v6 w6 hown6 hgrow6 _; obtain ⟨g6, cap6, rfl⟩ : ∃ g6 cap6, v6 = .slice (some ⟨g6, 0, none⟩) (n + 1 + l2) cap6 := own_some hown6 (by omega); have HJ6 := Lib.hid (TJ.grow HJ4.out.cell HJ4.out.free HJ4.out.box HJ4.out.bel HJ4.out.size HJ4.out.ko HJ4.out.kb HLT.out HJ4.out.own hown6 hgrow6); have c6 := HJ6.out.cell; have f6 := HJ6.out.free; clear hown6 hgrow6)
          have hJ5 := HJ6.out.var HLT.out (.inl hblo) (.slice (some ⟨g6, 0, none⟩) (n + 1 + l2) cap6)
          refine ⟨hJ5.ko.from _, ⟨hJ5.size, fun p v hp hv => ?_, fun k cs hk hc => hJ5.kb k cs hk hc⟩, ⟨⟨some ⟨g6, 0, none⟩, cap6, cs ++ [.string u.ty.name, .slice A2 m2 a2, .int .i64 u.ty.off] ++ news, ?_, hJ5.free, ?_, ?_⟩, hJ5.bel⟩, Nat.le_trans HSR.out hJ5.size⟩
          · obtain ⟨e1, e2⟩ := same_of HBR.out hJ5.bel p hp
            exact ⟨e1.trans hv, e2⟩
          · rw [hJ5.cell, show (tysOf (pre ++ [_])).length = n + 1 + l2 by rw [tysOf_snoc, List.length_append, List.length_append, ← HN.out]; show n + 1 + u.targs.length = _; rw [HL2N.out]]
          · rw [show (tysOf (pre ++ [_])).length = n + 1 + l2 by rw [tysOf_snoc, List.length_append, List.length_append, ← HN.out]; show n + 1 + u.targs.length = _; rw [HL2N.out]]; exact hJ5.own
          · rw [tysOf_snoc]
            show RowsOf _ _ _ _ (tysOf pre ++ [u.ty] ++ u.targs)
            exact RowsOf.app (HN3.out.keep (same_of HJ4.out.bel hJ5.bel) (fun _ h => h)) (HROW.out.keep (same_of HJ4.out.bel hJ5.bel) (fun _ h => h))
    · go_simp
      refine hK.out _ _ SA (fun hS => ?_)
      clear hK K
      try simp only [Act.put, List.getElem_toArray, List.getElem_cons_zero, List.getElem_cons_succ, List.setIfInBounds_toArray, List.set_cons_zero, List.set_cons_succ]
      refine wpAnyH_ready (rs := [0]) (by kernel_rfl) (by simp) ?_
      refine AllReadyH.cons rfl (fun K hK => ?_) AllReadyH.nil
      go_simp
      refine hK.out _ _ SA (fun hS => ?_)
      clear hK K
      try simp only [Act.put, List.getElem_toArray, List.getElem_cons_zero, List.getElem_cons_succ, List.setIfInBounds_toArray, List.set_cons_zero, List.set_cons_succ]
      refine wpAnyH_take (i := 3) (v := ?_) rfl (by kernel_rfl) (by kernel_rfl) (by kernel_rfl) (fun _ _ _ h => h) (Or.inl ⟨by rfl, ?_⟩) (by assumption) ?_
      rotate_left
      · (intro V hV; obtain ⟨k0, k1, k2⟩ := hV; go_simp; try with_reducible rfl)
      try simp only [Act.put, List.getElem_toArray, List.getElem_cons_zero, List.getElem_cons_succ, List.setIfInBounds_toArray, List.set_cons_zero, List.set_cons_succ]
      refine wpAnyH_ready (rs := [5]) (by kernel_rfl) (by simp) ?_
      refine AllReadyH.cons rfl (fun K hK => ?_) AllReadyH.nil
      refine step_append_lies _ rfl _ _ 22 rfl w5.heap.size 24 i0 _ 3 48 Tryd.underlying22 hi0 hz0 hz1 hz2 rfl (by omega) _ n cs rfl HOA.out ⟨Wd.heap.size, 0, none⟩ 1 1 [.string ⟨#[]⟩, .slice none 0 0, .int .i64 0] rfl rfl HNW.out (by intro x hx; simp only [List.mem_cons, List.not_mem_nil, or_false] at hx; rcases hx with rfl | rfl | rfl <;> rfl) (by omega) (by unfold maxLen; omega) (by omega) (by have := HSZ.out; simp; omega) (Wd.heap.size + 1) (by simp) ?_
      intro g2 cap2 w2 hown2 hgrow2 _ _
      have hJ := TJ.grow (Wr := Wr) (us := [.int .i64 u.kind, .string u.name, .string u.ty.name, .slice A2 m2 a2, .int .i64 u.ty.off, .slice B2 l2 b2, .slice C2 r2 c2, .int .i64 u.off].toArray) (bx := bx) hl1a HFA.out HBA.out HWA.out HSA.out HKA.out HEA.out HLT.out HOA.out hown2 hgrow2
      have S2 : w2.cell? ⟨bx, 2, none⟩ = some (.string u.ty.name) ∧ w2.cell? ⟨bx, 3, none⟩ = some (.slice A2 m2 a2) ∧ w2.cell? ⟨bx, 4, none⟩ = some (.int .i64 u.ty.off) := hJ.box.boxd.c8 |> fun h => ⟨h.2.2.1, h.2.2.2.1, h.2.2.2.2.1⟩
      refine hK.out _ _ S2 (fun hS => ?_)
      clear hK K hgrow2
      try simp only [Act.put, List.getElem_toArray, List.getElem_cons_zero, List.getElem_cons_succ, List.setIfInBounds_toArray, List.set_cons_zero, List.set_cons_succ]
      refine wpAnyH_take (i := 6) (v := ?_) rfl (by kernel_rfl) (by kernel_rfl) (by kernel_rfl) (fun _ _ _ h => h) (Or.inl ⟨by rfl, ?_⟩) (by assumption) ?_
      rotate_left
      · (intro V hV; obtain ⟨k0, k1, k2⟩ := hV; go_simp; try with_reducible rfl)
      try simp only [Act.put, List.getElem_toArray, List.getElem_cons_zero, List.getElem_cons_succ, List.setIfInBounds_toArray, List.set_cons_zero, List.set_cons_succ]
      have hthere : ∀ W : World, W.ownsRow w5.heap.size 24 3 (.slice (some ⟨g2, 0, none⟩) (n + 1) cap2) (n + 1) (cs ++ [.string ⟨#[]⟩, .slice none 0 0, .int .i64 0]) → W.there g2 (n * 3) 3 := fun W hW j hj => ⟨by
        rw [hW.cellAt (n * 3 + j) (by omega), List.getElem?_eq_getElem (by have := HCL.out; simp only [List.length_append, List.length_cons, List.length_nil]; omega)]; rfl, hW.frozenAt _⟩
      have HTH := Lib.hid hthere
      have HJ0 := Lib.hid hJ
      clear hthere hJ hown2
      refine wpAnyH_ready (rs := [7, 8]) (by kernel_rfl) (by simp) ?_
      refine AllReadyH.cons rfl (fun K hK => ?_) (AllReadyH.cons rfl (fun K hK => ?_) AllReadyH.nil)
      · refine step_store_mid rfl 24 _ _ rfl g2 (n * 3) #[.string u.ty.name, .slice A2 m2 a2, .int .i64 u.ty.off] rfl rfl (HTH.out _ HJ0.out.own) sizeTy3 (by simp [Value.oneCell']) ?_
        have hJ3 := HJ0.out.elem (j := n * 3) HLT.out (.string u.ty.name) (.slice A2 m2 a2) (.int .i64 u.ty.off)
        rw [set3 HCL.out] at hJ3
        have h8 := hJ3.box.boxd.c8
        refine hK.out _ _ ⟨h8.2.2.1, h8.2.2.2.1, h8.2.2.2.2.1⟩ (fun hS => ?_)
        clear hK K h8
        try simp only [Act.put]
        obtain ⟨W3, hW3⟩ : ∃ W3, W3 = w2.setCells g2 (n * 3) [.string u.ty.name, .slice A2 m2 a2, .int .i64 u.ty.off] := ⟨_, rfl⟩
        change wpAnyH _ _ _ _ _ _ _ _ (w2.setCells g2 (n * 3) [.string u.ty.name, .slice A2 m2 a2, .int .i64 u.ty.off])
        change (w2.setCells g2 (n * 3) [.string u.ty.name, .slice A2 m2 a2, .int .i64 u.ty.off]).cell? ⟨bx, 2, none⟩ = some (.string u.ty.name) ∧ (w2.setCells g2 (n * 3) [.string u.ty.name, .slice A2 m2 a2, .int .i64 u.ty.off]).cell? ⟨bx, 3, none⟩ = some (.slice A2 m2 a2) ∧ (w2.setCells g2 (n * 3) [.string u.ty.name, .slice A2 m2 a2, .int .i64 u.ty.off]).cell? ⟨bx, 4, none⟩ = some (.int .i64 u.ty.off) at hS
        rw [← hW3] at hJ3 hS ⊢
        clear hW3
        have c3 := hJ3.cell
        have f3 := hJ3.free
        have HJ4 := Lib.hid (hJ3.var HLT.out (.inl hblo) (.slice (some ⟨g2, 0, none⟩) (n + 1) cap2))
        clear hJ3
        refine wpAnyH_ready (rs := [8]) (by kernel_rfl) (by simp) ?_
        refine AllReadyH.cons rfl (fun K hK => ?_) AllReadyH.nil
        go_simp
        have h8 := HJ4.out.box.boxd.c8
        refine hK.out _ _ ⟨h8.2.2.1, h8.2.2.2.1, h8.2.2.2.2.1⟩ (fun hS => ?_)
        clear hK K h8 c3 f3
        try simp only [Act.put]
        refine wpAnyH_done (by kernel_rfl) ?_ _
        generalize World.setCell W3 _ _ = W4 at *
        clear hS
        obtain ⟨y0, y1, y2, y3, y4, y5, y6, y7⟩ := HJ4.out.box.boxd.c8
        have c4 := HJ4.out.cell
        have f4 := HJ4.out.free
        have HROW := Lib.hid (show RowsOf W4 False (· < w.heap.size) (cs ++ [.string u.ty.name, .slice A2 m2 a2, .int .i64 u.ty.off]) (tysOf pre ++ [u.ty]) from
          RowsOf.snoc hts (LiesN.keep ha2 (same_of B5.out HJ4.out.bel) (fun _ h => h)) (HL4.out.keep (same_of HBL.out HJ4.out.bel) (fun _ h => h)))
        have HTG := Lib.hid (LiesN.keep hb2 (same_of B5.out HJ4.out.bel) (S' := (· < w.heap.size)) (fun _ h => h))
        have hl2 := HTG.out.len
        have hl29 : l2 ≤ 1000 := by
          have h1 : u.wt ≤ 1000 := hx.1
          have h2 := Ty.wtL_len u.targs
          have h3 : Ty.wtL u.targs ≤ u.wt := by obtain ⟨k, s, t, ts, xs, o⟩ := u; simp only [Ex.wt, Ex.targs]; omega
          omega
        have HL2N := Lib.hid hl2
        clear hl2
        cases B2 with
        | none =>
          obtain ⟨rfl, htg⟩ : l2 = 0 ∧ u.targs = [] := by
            have h1 := HTG.out.args
            have h2 := HL2N.out
            cases hq : u.targs with
            | nil => rw [hq] at h2; exact ⟨h2.symm, rfl⟩
            | cons q r => rw [hq, ArgsIn] at h1; obtain ⟨s, xs, o⟩ := q; rw [TyCells] at h1; obtain ⟨⟨_, _, _, h3, _⟩, _⟩ := h1; cases h3
          have HTX := Lib.hid htg
          clear htg
          gi_wp2_with (gi_at_builtin; refine wpListIn_append_none _ rfl _ _ 22 rfl w5.heap.size 24 i0 3 Tryd.underlying22 hi0 _ (n + 1) _ rfl HJ4.out.own b2 rfl ?_)
          have hJ5 := HJ4.out.var HLT.out (.inl hblo) (.slice (some ⟨g2, 0, none⟩) (n + 1) cap2)
          refine ⟨hJ5.ko.from _, ⟨hJ5.size, fun p v hp hv => ?_, fun k cs hk hc => hJ5.kb k cs hk hc⟩, ⟨⟨some ⟨g2, 0, none⟩, cap2, cs ++ [.string u.ty.name, .slice A2 m2 a2, .int .i64 u.ty.off], ?_, hJ5.free, ?_, ?_⟩, hJ5.bel⟩, Nat.le_trans HSR.out hJ5.size⟩
          · obtain ⟨e1, e2⟩ := same_of HBR.out hJ5.bel p hp
            exact ⟨e1.trans hv, e2⟩
          · rw [hJ5.cell, show (tysOf (pre ++ [_])).length = n + 1 by rw [tysOf_snoc]; simp [Part.ex, HTX.out, HN.out]]
          · rw [show (tysOf (pre ++ [_])).length = n + 1 by rw [tysOf_snoc]; simp [Part.ex, HTX.out, HN.out]]; exact hJ5.own
          · rw [tysOf_snoc]
            show RowsOf _ _ _ _ (tysOf pre ++ [u.ty] ++ u.targs)
            rw [HTX.out, List.append_nil]
            exact HROW.out.keep (same_of HJ4.out.bel hJ5.bel) (fun _ h => h)
        | some p2 =>
          obtain ⟨news, hn1, hn2, hn3⟩ := args_cells u.targs 0 HTG.out.args
          have HN1 := Lib.hid (show news.length = l2 * 3 by rw [hn1, HL2N.out])
          have HN2 := Lib.hid (show ∀ j x, news[j]? = some x → W4.cell? (p2.add j) = some x from fun j x hj => by have := hn2 j x hj; rwa [Nat.zero_mul, Nat.zero_add] at this)
          have HN3 := Lib.hid hn3
          have HZ4 := Lib.hid (show w5.heap.size ≤ W4.heap.size from Nat.le_trans HSR.out HJ4.out.size)
          clear hn1 hn2 hn3
          gi_wp2_with (gi_at_builtin; refine wpListIn_append_own _ rfl _ _ 22 rfl w5.heap.size 24 i0 _ 3 48 Tryd.underlying22 hi0 hz0 hz1 hz2 rfl (by omega) _ (n + 1) _ rfl HJ4.out.own p2 l2 b2 news rfl HN1.out HN2.out (rows_one HN3.out) (by unfold maxLen; omega) (by omega) HZ4.out ?_; intro v6 w6 hown6 hgrow6 _; obtain ⟨g6, cap6, rfl⟩ : ∃ g6 cap6, v6 = .slice (some ⟨g6, 0, none⟩) (n + 1 + l2) cap6 := own_some hown6 (by omega); have HJ6 := Lib.hid (TJ.grow HJ4.out.cell HJ4.out.free HJ4.out.box HJ4.out.bel HJ4.out.size HJ4.out.ko HJ4.out.kb HLT.out HJ4.out.own hown6 hgrow6); have c6 := HJ6.out.cell; have f6 := HJ6.out.free; clear hown6 hgrow6)
          have hJ5 := HJ6.out.var HLT.out (.inl hblo) (.slice (some ⟨g6, 0, none⟩) (n + 1 + l2) cap6)
          refine ⟨hJ5.ko.from _, ⟨hJ5.size, fun p v hp hv => ?_, fun k cs hk hc => hJ5.kb k cs hk hc⟩, ⟨⟨some ⟨g6, 0, none⟩, cap6, cs ++ [.string u.ty.name, .slice A2 m2 a2, .int .i64 u.ty.off] ++ news, ?_, hJ5.free, ?_, ?_⟩, hJ5.bel⟩, Nat.le_trans HSR.out hJ5.size⟩
          · obtain ⟨e1, e2⟩ := same_of HBR.out hJ5.bel p hp
            exact ⟨e1.trans hv, e2⟩
          · rw [hJ5.cell, show (tysOf (pre ++ [_])).length = n + 1 + l2 by rw [tysOf_snoc, List.length_append, List.length_append, ← HN.out]; show n + 1 + u.targs.length = _; rw [HL2N.out]]
          · rw [show (tysOf (pre ++ [_])).length = n + 1 + l2 by rw [tysOf_snoc, List.length_append, List.length_append, ← HN.out]; show n + 1 + u.targs.length = _; rw [HL2N.out]]; exact hJ5.own
          · rw [tysOf_snoc]
            show RowsOf _ _ _ _ (tysOf pre ++ [u.ty] ++ u.targs)
            exact RowsOf.app (HN3.out.keep (same_of HJ4.out.bel hJ5.bel) (fun _ h => h)) (HROW.out.keep (same_of HJ4.out.bel hJ5.bel) (fun _ h => h))
      · have c3 := HJ0.out.cell
        have f3 := HJ0.out.free
        go_simp
        have hJ3 := HJ0.out.var HLT.out (.inl hblo) (.slice (some ⟨g2, 0, none⟩) (n + 1) cap2)
        have h8 := hJ3.box.boxd.c8
        refine hK.out _ _ ⟨h8.2.2.1, h8.2.2.2.1, h8.2.2.2.2.1⟩ (fun hS => ?_)
        clear hK K h8 c3 f3
        try simp only [Act.put]
        generalize World.setCell w2 _ _ = W3 at *
        have HJ4 := Lib.hid (hJ3.elem (j := n * 3) HLT.out (.string u.ty.name) (.slice A2 m2 a2) (.int .i64 u.ty.off))
        rw [set3 HCL.out] at HJ4
        have HT3 := Lib.hid (HTH.out _ hJ3.own)
        clear hJ3
        refine wpAnyH_ready (rs := [7]) (by kernel_rfl) (by simp) ?_
        refine AllReadyH.cons rfl (fun K hK => ?_) AllReadyH.nil
        refine step_store_mid rfl 24 _ _ rfl g2 (n * 3) #[.string u.ty.name, .slice A2 m2 a2, .int .i64 u.ty.off] rfl rfl HT3.out sizeTy3 (by simp [Value.oneCell']) ?_
        have h8 := HJ4.out.box.boxd.c8
        refine hK.out _ _ ⟨h8.2.2.1, h8.2.2.2.1, h8.2.2.2.2.1⟩ (fun hS => ?_)
        clear hK K h8 HT3
        try simp only [Act.put]
        refine wpAnyH_done (by kernel_rfl) ?_ _
        obtain ⟨W4, hW4⟩ : ∃ W4, W4 = W3.setCells g2 (n * 3) [.string u.ty.name, .slice A2 m2 a2, .int .i64 u.ty.off] := ⟨_, rfl⟩
        change Exit.then _ _ _ _ (W3.setCells g2 (n * 3) [.string u.ty.name, .slice A2 m2 a2, .int .i64 u.ty.off])
        rw [← hW4] at HJ4 ⊢
        clear hW4
        clear hS
        obtain ⟨y0, y1, y2, y3, y4, y5, y6, y7⟩ := HJ4.out.box.boxd.c8
        have c4 := HJ4.out.cell
        have f4 := HJ4.out.free
        have HROW := Lib.hid (show RowsOf W4 False (· < w.heap.size) (cs ++ [.string u.ty.name, .slice A2 m2 a2, .int .i64 u.ty.off]) (tysOf pre ++ [u.ty]) from
          RowsOf.snoc hts (LiesN.keep ha2 (same_of B5.out HJ4.out.bel) (fun _ h => h)) (HL4.out.keep (same_of HBL.out HJ4.out.bel) (fun _ h => h)))
        have HTG := Lib.hid (LiesN.keep hb2 (same_of B5.out HJ4.out.bel) (S' := (· < w.heap.size)) (fun _ h => h))
        have hl2 := HTG.out.len
        have hl29 : l2 ≤ 1000 := by
          have h1 : u.wt ≤ 1000 := hx.1
          have h2 := Ty.wtL_len u.targs
          have h3 : Ty.wtL u.targs ≤ u.wt := by obtain ⟨k, s, t, ts, xs, o⟩ := u; simp only [Ex.wt, Ex.targs]; omega
          omega
        have HL2N := Lib.hid hl2
        clear hl2
        cases B2 with
        | none =>
          obtain ⟨rfl, htg⟩ : l2 = 0 ∧ u.targs = [] := by
            have h1 := HTG.out.args
            have h2 := HL2N.out
            cases hq : u.targs with
            | nil => rw [hq] at h2; exact ⟨h2.symm, rfl⟩
            | cons q r => rw [hq, ArgsIn] at h1; obtain ⟨s, xs, o⟩ := q; rw [TyCells] at h1; obtain ⟨⟨_, _, _, h3, _⟩, _⟩ := h1; cases h3
          have HTX := Lib.hid htg
          clear htg
          gi_wp2_with (gi_at_builtin; refine wpListIn_append_none _ rfl _ _ 22 rfl w5.heap.size 24 i0 3 Tryd.underlying22 hi0 _ (n + 1) _ rfl HJ4.out.own b2 rfl ?_)
          have hJ5 := HJ4.out.var HLT.out (.inl hblo) (.slice (some ⟨g2, 0, none⟩) (n + 1) cap2)
          refine ⟨hJ5.ko.from _, ⟨hJ5.size, fun p v hp hv => ?_, fun k cs hk hc => hJ5.kb k cs hk hc⟩, ⟨⟨some ⟨g2, 0, none⟩, cap2, cs ++ [.string u.ty.name, .slice A2 m2 a2, .int .i64 u.ty.off], ?_, hJ5.free, ?_, ?_⟩, hJ5.bel⟩, Nat.le_trans HSR.out hJ5.size⟩
          · obtain ⟨e1, e2⟩ := same_of HBR.out hJ5.bel p hp
            exact ⟨e1.trans hv, e2⟩
          · rw [hJ5.cell, show (tysOf (pre ++ [_])).length = n + 1 by rw [tysOf_snoc]; simp [Part.ex, HTX.out, HN.out]]
          · rw [show (tysOf (pre ++ [_])).length = n + 1 by rw [tysOf_snoc]; simp [Part.ex, HTX.out, HN.out]]; exact hJ5.own
          · rw [tysOf_snoc]
            show RowsOf _ _ _ _ (tysOf pre ++ [u.ty] ++ u.targs)
            rw [HTX.out, List.append_nil]
            exact HROW.out.keep (same_of HJ4.out.bel hJ5.bel) (fun _ h => h)
        | some p2 =>
          obtain ⟨news, hn1, hn2, hn3⟩ := args_cells u.targs 0 HTG.out.args
          have HN1 := Lib.hid (show news.length = l2 * 3 by rw [hn1, HL2N.out])
          have HN2 := Lib.hid (show ∀ j x, news[j]? = some x → W4.cell? (p2.add j) = some x from fun j x hj => by have := hn2 j x hj; rwa [Nat.zero_mul, Nat.zero_add] at this)
          have HN3 := Lib.hid hn3
          have HZ4 := Lib.hid (show w5.heap.size ≤ W4.heap.size from Nat.le_trans HSR.out HJ4.out.size)
          clear hn1 hn2 hn3
          gi_wp2_with (gi_at_builtin; refine wpListIn_append_own _ rfl _ _ 22 rfl w5.heap.size 24 i0 _ 3 48 Tryd.underlying22 hi0 hz0 hz1 hz2 rfl (by omega) _ (n + 1) _ rfl HJ4.out.own p2 l2 b2 news rfl HN1.out HN2.out (rows_one HN3.out) (by unfold maxLen; omega) (by omega) HZ4.out ?_; intro v6 w6 hown6 hgrow6 _; obtain ⟨g6, cap6, rfl⟩ : ∃ g6 cap6, v6 = .slice (some ⟨g6, 0, none⟩) (n + 1 + l2) cap6 := own_some hown6 (by omega); have HJ6 := Lib.hid (TJ.grow HJ4.out.cell HJ4.out.free HJ4.out.box HJ4.out.bel HJ4.out.size HJ4.out.ko HJ4.out.kb HLT.out HJ4.out.own hown6 hgrow6); have c6 := HJ6.out.cell; have f6 := HJ6.out.free; clear hown6 hgrow6)
          have hJ5 := HJ6.out.var HLT.out (.inl hblo) (.slice (some ⟨g6, 0, none⟩) (n + 1 + l2) cap6)
          refine ⟨hJ5.ko.from _, ⟨hJ5.size, fun p v hp hv => ?_, fun k cs hk hc => hJ5.kb k cs hk hc⟩, ⟨⟨some ⟨g6, 0, none⟩, cap6, cs ++ [.string u.ty.name, .slice A2 m2 a2, .int .i64 u.ty.off] ++ news, ?_, hJ5.free, ?_, ?_⟩, hJ5.bel⟩, Nat.le_trans HSR.out hJ5.size⟩
          · obtain ⟨e1, e2⟩ := same_of HBR.out hJ5.bel p hp
            exact ⟨e1.trans hv, e2⟩
          · rw [hJ5.cell, show (tysOf (pre ++ [_])).length = n + 1 + l2 by rw [tysOf_snoc, List.length_append, List.length_append, ← HN.out]; show n + 1 + u.targs.length = _; rw [HL2N.out]]
          · rw [show (tysOf (pre ++ [_])).length = n + 1 + l2 by rw [tysOf_snoc, List.length_append, List.length_append, ← HN.out]; show n + 1 + u.targs.length = _; rw [HL2N.out]]; exact hJ5.own
          · rw [tysOf_snoc]
            show RowsOf _ _ _ _ (tysOf pre ++ [u.ty] ++ u.targs)
            exact RowsOf.app (HN3.out.keep (same_of HJ4.out.bel hJ5.bel) (fun _ h => h)) (HROW.out.keep (same_of HJ4.out.bel hJ5.bel) (fun _ h => h))
  case done =>
    rintro D ys W hD hys ⟨hti, hsz⟩ hK
    obtain ⟨LA, lc, cs, hl1, hl2, hl3, hl4⟩ := hti.row
    rw [tysOf_all hys] at hl1 hl3 hl4
    have HL1 := Lib.hid hl1
    have HB := Lib.hid hti.bel
    have HL3 := Lib.hid hl3
    have HL4 := Lib.hid hl4
    have HK := Lib.hid hK
    have HD := Lib.hid (show w.heap.size ≤ D from Nat.le_trans B5.out.size hD)
    have HYS := Lib.hid hys
    clear hl2 hl3 hl4 hti hsz hys hK hD
    go_wp2_with fail
    refine ⟨by simp, .inl ⟨_, _, rfl, run_takeDeferred HK.out, ?_⟩⟩
    refine ⟨_, by simp [results, Tryd.results48, go_sem], LA, lc, rfl, ?_, HB.out.trans (belowK_b (w := w) (Nat.le_refl _) _ D _ _ HD.out HK.out rfl rfl)⟩
    have HLE := Lib.hid (show e.typs.length ≤ 9223372036854775807 from by have h1 := Ex.typs_len e; omega)
    obtain ⟨A7, c7, he, hl⟩ := lies_of_own (S' := (· < W.heap.size)) HL3.out HL4.out (fun b hb => Nat.lt_of_lt_of_le hb HB.out.size) (fun g hg => (HL3.out.lt g hg).2) HLE.out
    obtain ⟨rfl, rfl⟩ : LA = A7 ∧ lc = c7 := by injection he with h1 h2 h3; exact ⟨h1, h3⟩
    exact Lies.moved (n := 0) (m := 0) hl (Keep.put W D _ _ HK.out rfl) (fun _ _ => .inr (Nat.zero_le _)) (fun b hb => by simpa [World.putObj] using hb)
  case stop => exact fun _ _ _ _ _ _ h => h.elim
end Go.Proofs.YtnfakhohoibkpaaDoor
namespace Go.Proofs.YtnfakhohoibkpaaDoor
open Go.RowKit
attribute [local go_sem] run_store_fn

set_option maxRecDepth 100000 in
set_option maxHeartbeats 8000000 in
theorem xsubst_any (e : Ex) (us : List Value) (ns : List ByteArray) (vs : List Ty) (N U : Option Addr) (nl ul nc uc : Nat) (w : World) (hwt : e.wt ≤ 1000) (hvs : ∀ v ∈ vs, v.Small) (hul : ul ≤ 1000) (hF : Fits ns nl nc) (h : e.dat.H w us) (hN : Sl w N nl ns) (hU : Here w U ul vs) :
    Calls Tryd.prog 22 #[.agg us.toArray, .slice N nl nc, .slice U ul uc] w (XPost w (e.subst ns vs)) := by
  have hh := box_zero h
  have HX := Lib.hid hh.1
  have HR := Lib.hid hh.2
  have HWT := Lib.hid hwt
  have CT := Lib.hid (typesIn_any e us _ hwt hh.1.da)
  have CA := Lib.hid (fun (A : Option Addr) (c : Nat) (V : World) (hV : Below w.heap.size w V) (hl : Here V A e.typs.length e.typs) => all_cap e.typs ns vs A N U e.typs.length c nl ul nc uc V hvs (fun x hx => ty_few (Nat.le_trans (Ex.typs_mem e x hx) hwt)) (Nat.le_trans (Ex.typs_len e) hwt) hul hF hl (hN.later hV) (Here.later hU hV))
  have HRL := Lib.hid (show (e.typs.map (Ty.subst ns vs)).length = e.typs.length from List.length_map _)
  obtain ⟨A, m, a, B, l, b, C', r, c, rfl, _⟩ := ex_open h
  obtain ⟨x0, x1, x2, x3, x4, x5, x6, x7⟩ := HX.out.one.c8
  clear hh h hN hU hwt hvs hul hF
  go_enter Tryd.func22, Tryd.ntmps22
  go_wp2_with fail
  refine CT.out.mono ?_
  rintro e0 w1 ⟨TA, tc, rfl, hl1, hb1⟩
  have HB1 := Lib.hid (HX.out.bel.trans (hb1.mono HX.out.bel.size))
  have HX1 := Lib.hid (HX.out.later hb1)
  have HR1 := Lib.hid (HR.out.later hb1)
  have HS1 := Lib.hid (show w.heap.size + 2 ≤ w1.heap.size by have := hb1.size; rw [World.size_alloc, World.size_alloc] at this; omega)
  have CA1 := Lib.hid (CA.out TA tc w1 HB1.out hl1)
  clear hl1 hb1 x0 x1 x2 x3 x4 x5 x6 x7 CT CA HX HR
  generalize hrs : e.typs.map (Ty.subst ns vs) = rs at *
  go_wp2_with fail
  refine CA1.out.mono ?_
  rintro e0 w2 ⟨RA, rc, rfl, hcap, hl2, hb2⟩
  have hlow : Lies w2 (fun b => w.heap.size + 2 ≤ b ∧ b < w2.heap.size) RA rs.length rs := LiesN.wide hl2 fun b hb => ⟨by have := hb.1; have := HS1.out; omega, hb.2⟩
  obtain ⟨Ws, hWs⟩ : ∃ Ws, Ws = ((w2.alloc (.cells #[.slice RA rs.length rc] 22)).alloc (.cells #[.func (.func 49) #[] #[.pointer (some ⟨w2.heap.size, 0, none⟩)]] 65)).alloc (.cells #[.func (.func 50) #[] #[.pointer (some ⟨w2.heap.size + 1, 0, none⟩), .pointer (some ⟨w2.heap.size + 1 + 1, 0, none⟩)]] 36) := ⟨_, rfl⟩
  have hb3 : Below w2.heap.size w2 Ws := by rw [hWs]; exact (((Below.refl _ _).alloc (Nat.le_refl _) _).alloc (by simp) _).alloc (by simp; omega) _
  have hk7 : Ws.heap[w2.heap.size]? = some (.cells #[.slice RA rs.length rc] 22 (0, 0)) := by rw [hWs]; exact heap_prev (heap_prev (heap_last w2 _) _) _
  have hk8 : Ws.heap[w2.heap.size + 1]? = some (.cells #[.func (.func 49) #[] #[.pointer (some ⟨w2.heap.size, 0, none⟩)]] 65 (0, 0)) := by rw [hWs]; exact heap_prev (heap_alloc_two w2 _ _) _
  have hk9 : Ws.heap[w2.heap.size + 1 + 1]? = some (.cells #[.func (.func 50) #[] #[.pointer (some ⟨w2.heap.size + 1, 0, none⟩), .pointer (some ⟨w2.heap.size + 1 + 1, 0, none⟩)]] 36 (0, 0)) := by
    rw [hWs]
    have := heap_last ((w2.alloc (.cells #[.slice RA rs.length rc] 22)).alloc (.cells #[.func (.func 49) #[] #[.pointer (some ⟨w2.heap.size, 0, none⟩)]] 65)) (.cells #[.func (.func 50) #[] #[.pointer (some ⟨w2.heap.size + 1, 0, none⟩), .pointer (some ⟨w2.heap.size + 1 + 1, 0, none⟩)]] 36)
    rwa [show ((w2.alloc (.cells #[.slice RA rs.length rc] 22)).alloc (.cells #[.func (.func 49) #[] #[.pointer (some ⟨w2.heap.size, 0, none⟩)]] 65)).heap.size = w2.heap.size + 1 + 1 by simp] at this
  have c7 : Ws.cell? ⟨w2.heap.size, 0, none⟩ = some (.slice RA rs.length rc) := by rw [cell_of_row _ _ 0 _ _ (0, 0) hk7]; rfl
  have c8 : Ws.cell? ⟨w2.heap.size + 1, 0, none⟩ = some (.func (.func 49) #[] #[.pointer (some ⟨w2.heap.size, 0, none⟩)]) := by rw [cell_of_row _ _ 0 _ _ (0, 0) hk8]; rfl
  have c9 : Ws.cell? ⟨w2.heap.size + 1 + 1, 0, none⟩ = some (.func (.func 50) #[] #[.pointer (some ⟨w2.heap.size + 1, 0, none⟩), .pointer (some ⟨w2.heap.size + 1 + 1, 0, none⟩)]) := by rw [cell_of_row _ _ 0 _ _ (0, 0) hk9]; rfl
  have hsz : w2.heap.size + 1 + 1 < Ws.heap.size := (Array.getElem?_eq_some_iff.1 hk9).1
  have HST := Lib.hid (show SubSt Ws (w.heap.size + 2) w2.heap.size (w2.heap.size + 1) (w2.heap.size + 1 + 1) rs 0 Ws from ⟨Below.refl _ _, ⟨RA, rc, c7, frozen_of_row hk7 0, hcap, Nat.zero_le _, by
    rw [List.drop_zero]; exact LiesN.later hlow hb3 (fun _ h => h.2)⟩, c8, c9⟩)
  have HX2 := Lib.hid ((HX1.out.later hb2).later hb3)
  have HR2 := Lib.hid ((HR1.out.later hb2).later hb3)
  have HB2 := Lib.hid ((HB1.out.trans (hb2.mono HB1.out.size)).trans (hb3.mono (Nat.le_trans HB1.out.size hb2.size)))
  have HD2 := Lib.hid (show e.dat.In Ws False (Safe w2.heap.size (w2.heap.size + 1) Ws) _ from (Dat.In.later (HX1.out.later hb2).da hb3 (fun _ h => h)).wide fun b hb => ⟨Nat.lt_of_lt_of_le hb hb3.size, .inl hb⟩)
  have C1 := Lib.hid (show Calls Tryd.prog 50 #[.agg #[.int .i64 e.kind, .string e.name, .string e.ty.name, .slice A m a, .int .i64 e.ty.off, .slice B l b, .slice C' r c, .int .i64 e.off], .pointer (some ⟨w2.heap.size + 1, 0, none⟩), .pointer (some ⟨w2.heap.size + 1 + 1, 0, none⟩)] Ws _ from
    subst2_any ns vs Ws (w.heap.size + 2) w2.heap.size (w2.heap.size + 1) (w2.heap.size + 1 + 1) rs (by have := HS1.out; have := hb2.size; omega) (Nat.lt_succ_self _) (Nat.lt_succ_self _) hsz e (by have := HWT.out; omega) 0 (fun j t hj => by rw [← hrs, Nat.zero_add, List.getElem?_map, hj]; rfl) _ Ws (Nat.le_refl _) HST.out HD2.out)
  have HSW := Lib.hid (show w.heap.size + 2 ≤ w2.heap.size ∧ w2.heap.size + 3 ≤ Ws.heap.size by have := HS1.out; have := hb2.size; omega)
  obtain ⟨x0, x1, x2, x3, x4, x5, x6, x7⟩ := HX2.out.one.c8
  clear hb2 hb3 hl2 hcap hlow hk7 hk8 hk9 c7 c8 c9 hsz CA1 HX1 HR1 hrs HST HD2
  subst hWs
  go_wp2_with fail
  refine C1.out.mono ?_
  rintro e1 w3 ⟨qs, rfl, hv, hm, _⟩
  have HB3 := Lib.hid (HB2.out.trans (hm.bel.mono (Nat.le_add_right _ _)))
  have HR4 := Lib.hid (show BoxF w3 (w.heap.size + 1) _ from ⟨fun j u hu => (hm.bel.cell (p := ⟨w.heap.size + 1, j, none⟩) (Nat.lt_succ_self _)).trans (HR2.out.box j u hu), fun j hj => (hm.bel.frozen (p := ⟨w.heap.size + 1, j, none⟩) (Nat.lt_succ_self _)).trans (HR2.out.free j hj)⟩)
  have HV := Lib.hid (show (e.subst ns vs).dat.In w3 False (fun b => Fresh w w3 b ∧ b ≠ w.heap.size + 1) qs from hv.wide fun b hb => by
    have h1 := hb.1
    have h3 := hm.size
    have h4 := HSW.out
    rcases hb.2 with h2 | h2
    · exact ⟨⟨by omega, by omega⟩, by omega⟩
    · exact ⟨⟨by omega, h2.2⟩, by omega⟩)
  obtain ⟨A3, m3, c3, B3, l3, d3, C3, r3, f3, rfl, _⟩ := ex_open hv
  clear hv hm x0 x1 x2 x3 x4 x5 x6 x7 C1 HX2 HR2
  generalize e.subst ns vs = y at *
  have HT1 := Lib.hid (HR4.out.there 0 8 (by simp))
  have HO1 := Lib.hid (show (#[.int .i64 y.kind, .string y.name, .string y.ty.name, .slice A3 m3 c3, .int .i64 y.ty.off, .slice B3 l3 d3, .slice C3 r3 f3, .int .i64 y.off] : Array Value).all (·.oneCell') = true by simp [Value.oneCell'])
  obtain ⟨W2, hW2⟩ : ∃ W2, W2 = w3.setCells (w.heap.size + 1) 0 [.int .i64 y.kind, .string y.name, .string y.ty.name, .slice A3 m3 c3, .int .i64 y.ty.off, .slice B3 l3 d3, .slice C3 r3 f3, .int .i64 y.off] := ⟨_, rfl⟩
  have HW2 := Lib.hid hW2
  clear hW2
  go_wp2_with (refine store8_any 6 19 (b := w.heap.size + 1) (o := 0) (vs := #[.int .i64 y.kind, .string y.name, .string y.ty.name, .slice A3 m3 c3, .int .i64 y.ty.off, .slice B3 l3 d3, .slice C3 r3 f3, .int .i64 y.off]) rfl rfl HT1.out HO1.out sizeE8 ?_; show wpList _ _ _ _ _ (w3.setCells (w.heap.size + 1) 0 [.int .i64 y.kind, .string y.name, .string y.ty.name, .slice A3 m3 c3, .int .i64 y.ty.off, .slice B3 l3 d3, .slice C3 r3 f3, .int .i64 y.off]); rw [← HW2.out])
  have hres : BoxF W2 (w.heap.size + 1) [.int .i64 y.kind, .string y.name, .string y.ty.name, .slice A3 m3 c3, .int .i64 y.ty.off, .slice B3 l3 d3, .slice C3 r3 f3, .int .i64 y.off] := by rw [HW2.out]; exact HR4.out.setAll rfl
  obtain ⟨y0, y1, y2, y3, y4, y5, y6, y7⟩ := hres.box.c8
  refine bodyPost_ret (v := .agg #[.int .i64 y.kind, .string y.name, .string y.ty.name, .slice A3 m3 c3, .int .i64 y.ty.off, .slice B3 l3 d3, .slice C3 r3 f3, .int .i64 y.off]) (by simp [results, Tryd.results22, go_sem, y0, y1, y2, y3, y4, y5, y6, y7]) rfl ?_
  rw [HW2.out]
  exact xpost_set HB3.out (Nat.le_succ _) HV.out
end Go.Proofs.YtnfakhohoibkpaaDoor
