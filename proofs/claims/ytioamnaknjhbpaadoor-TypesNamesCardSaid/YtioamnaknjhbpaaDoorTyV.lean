/- The walk of the law TypesNames over the contracts of package types: true, at every input. -/
import Derived.Test.YtioamnaknjhbpaaDoorTyO
import Derived.RangeFuncNested
import Derived.RangeFuncBound
import Derived.RangeFuncCalls
import Derived.RangeFuncLeaves
import Derived.RangeFuncFrom
import Derived.Shelf.Abstract
import Derived.Shelf.RegionOpen
import Derived.WalkKit
import Derived.OwnWalkIn
import Derived.TacticsInMore
import Derived.LoopNIn
import Derived.LoopIn
namespace Go.Proofs.YtioamnaknjhbpaaDoor
open Go.RowKit
attribute [local go_sem] Oper.semAt_some

/-- What a round keeps: every cell but those of the blocks from n to m. -/
def Keep (n m : Nat) (W W' : World) : Prop := W.heap.size ≤ W'.heap.size ∧ ∀ p v, (p.block < n ∨ m ≤ p.block) → W.cell? p = some v → W'.cell? p = some v ∧ W'.frozen? p = W.frozen? p
theorem Keep.refl (n m : Nat) (W : World) : Keep n m W W := ⟨Nat.le_refl _, fun _ _ _ h => ⟨h, rfl⟩⟩
theorem Keep.trans {n m : Nat} {A B C : World} (h : Keep n m A B) (k : Keep n m B C) : Keep n m A C :=
  ⟨Nat.le_trans h.1 k.1, fun p v hp hv => by obtain ⟨h1, h2⟩ := h.2 p v hp hv; obtain ⟨h3, h4⟩ := k.2 p v hp h1; exact ⟨h3, h4.trans h2⟩⟩
theorem Keep.put {n m : Nat} (W : World) (l : Nat) (o o' : Obj) (h : W.heap[l]? = some o) (hc : o.isCells = false) : Keep n m W (W.putObj l o') :=
  ⟨(grownBy_putObj' W l o').size, fun _ _ _ hv => ⟨cell_kept hv (grownBy_putObj' W l o') (fun r e => by cases e; exact ⟨o, h, hc⟩), frozen_kept hv (grownBy_putObj' W l o') (fun r e => by cases e; exact ⟨o, h, hc⟩)⟩⟩
theorem Keep.set {n m : Nat} (W : World) (b i : Nat) (u : Value) (h : n ≤ b) (h2 : b < m) : Keep n m W (W.setCell ⟨b, i, none⟩ u) :=
  ⟨by simp [World.setCell], fun p v hp hv => ⟨(World.cell?_setCell_other _ _ _ _ (by rintro rfl; simp only at hp; omega)).trans hv, World.frozen?_setCell _ _ _ _⟩⟩
theorem Keep.of_below {n m : Nat} {W W' : World} (h : Below W.heap.size W W') : Keep n m W W' :=
  ⟨h.size, fun _ _ _ hv => ⟨(h.cell (cell_lt hv)).trans hv, h.frozen (cell_lt hv)⟩⟩

/-- What Names gives: a function over which a range takes the names, in their order; a round may write what the caller has made since. -/
def NamesPost (w : World) (l : List ByteArray) (e : Ending) (w' : World) : Prop := ∃ g lb, e = .returned (.func (.func g) #[] lb) ∧ Below w.heap.size w w' ∧
  (∀ args W, (callFunc g args).run Tryd.prog W = .ok (.enter g args) W) ∧
  ∀ n w2, 1 ≤ n → Below w'.heap.size w' w2 → SeqStopsK Fence.wide n Tryd.prog g lb (fun s : ByteArray => #[.string s]) (Keep w'.heap.size w2.heap.size) (fun xs => xs = l) (fun pre => pre <+: l) l.length w2
def NamesOk : Prop := ∀ (t : Ty) (A : Option Addr) (m c : Nat) (w : World), t.Small → Here w A m t.args → Calls Tryd.prog 28 #[.agg #[.string t.name, .slice A m c, .int .i64 t.off]] w (NamesPost w t.list)

theorem NamesPost.fn {w : World} {l : List ByteArray} {e : Ending} {w' : World} (h : NamesPost w l e w') : FnPost w e w' := let ⟨_, _, h1, h2, _⟩ := h; ⟨_, _, _, h1, h2⟩

/-- What lies since the beginning: the boxed type, the boxed number, the result's cell. -/
structure Lay (W : World) (b s r : Nat) (t : Ty) (A : Option Addr) (m c : Nat) (st : Int) : Prop where
  one : One W b t A m c
  num : W.cell? ⟨s, 0, none⟩ = some (.int .u8 st)
  res : W.heap[r]? = some (.cells #[.bool false] 4)
theorem Lay.later {W W' : World} {b s r : Nat} {t : Ty} {A : Option Addr} {m c : Nat} {st : Int} (h : Lay W b s r t A m c st) (hb : Below W.heap.size W W') : Lay W' b s r t A m c st :=
  ⟨h.one.later hb, (hb.cell (cell_lt h.num)).trans h.num, (hb.block _ (Array.getElem?_eq_some_iff.1 h.res).1).trans h.res⟩

theorem res_cell {w : World} {r : Addr} {b : Bool} (tmps : Array Value) (ht : tmps[4]?.getD undef = .pointer (some r)) (hc : w.cell? r = some (.bool b)) :
    (results Tryd.f5 tmps).run Tryd.prog w = .ok (.bool b) w := by
  simp [results, Tryd.results5, ht, go_sem, hc]

/-- The end of a function whose loop has laid a block for its rounds' deferred calls. -/
theorem leave_mark {w W : World} {k D : Nat} {v0 : Value} (tmps : Array Value) (ht : tmps[4]?.getD undef = .pointer (some ⟨k, 0, none⟩)) (hb : Below w.heap.size w W) (hk : w.heap.size ≤ k) (hD : w.heap.size ≤ D)
    (hK : W.heap[D]? = some (.deferred (some []))) (h0 : W.cell? ⟨k, 0, none⟩ = some v0) :
    bodyPostM Fence.wide 9 Tryd.prog Tryd.f5 (fun e w' => e = .returned (.bool true) ∧ Below w.heap.size w w') .ret { tmps, defers := [{ target := .collected D, args := #[] }] } (W.setCell ⟨k, 0, none⟩ (.bool true)) := by
  have hK2 : (W.setCell ⟨k, 0, none⟩ (.bool true)).heap[D]? = some (.deferred (some [])) := (KeepsOthers.setCell _ _ _).same D _ hK rfl
  have hc : (W.setCell ⟨k, 0, none⟩ (.bool true)).cell? ⟨k, 0, none⟩ = some (.bool true) := World.cell?_setCell_same _ _ _ h0
  have hc2 := cell_kept hc (grownBy_putObj' _ D (.deferred none)) (fun r e => by cases e; exact ⟨_, hK2, rfl⟩)
  refine ⟨by simp, .inl ⟨_, _, rfl, run_takeDeferred hK2, ?_⟩⟩
  exact ⟨_, res_cell tmps ht hc2, rfl, (hb.setCell (p := ⟨k, 0, none⟩) hk _).trans (belowK_b (w := w) (Nat.le_refl _) _ D _ _ hD hK2 rfl rfl)⟩

set_option maxRecDepth 100000 in
set_option maxHeartbeats 8000000 in
theorem typesNames_any (L : TypesOk) (LN : NamesOk) (t : Ty) (At : Option Addr) (mt ct : Nat) (st : Int) (w : World) (nt : t.name.size ≤ 9223372036854775807) (ht : Here w At mt t.args) (hs0 : 0 ≤ st) (hs1 : st ≤ 255) (hE : ResVar w) :
    Calls Tryd.prog 5 #[.agg #[.string t.name, .slice At mt ct, .int .i64 t.off], .int .u8 st] w fun e w' => e = .returned (.bool true) ∧ Below w.heap.size w w' := by
  have hx : Base w (((w.alloc (.cells #[.string t.name, .slice At mt ct, .int .i64 t.off] 24)).alloc (.cells #[.int .u8 st] 5)).alloc (.cells #[.bool false] 4)) ∧ Lay (((w.alloc (.cells #[.string t.name, .slice At mt ct, .int .i64 t.off] 24)).alloc (.cells #[.int .u8 st] 5)).alloc (.cells #[.bool false] 4)) w.heap.size (w.heap.size + 1) (w.heap.size + 2) t At mt ct st := by
    obtain ⟨h1, h2⟩ := one_box w t At mt ct 24 hE ht
    have hb : Below (w.alloc (.cells #[.string t.name, .slice At mt ct, .int .i64 t.off] 24)).heap.size (w.alloc (.cells #[.string t.name, .slice At mt ct, .int .i64 t.off] 24)) (((w.alloc (.cells #[.string t.name, .slice At mt ct, .int .i64 t.off] 24)).alloc (.cells #[.int .u8 st] 5)).alloc (.cells #[.bool false] 4)) :=
      ((Below.refl _ _).alloc (Nat.le_refl _) _).alloc (by simp) _
    refine ⟨h1.later hb, h2.later hb, ?_, ?_⟩
    · rw [cell_of_row _ _ 0 _ _ (0, 0) (heap_old (heap_new_at (by simp)))]; rfl
    · exact heap_new_at (by simp)
  have B0 := Lib.hid hx.1
  have Ot0 := Lib.hid hx.2
  obtain ⟨ft, hft⟩ : ∃ x, t.few = x := ⟨_, rfl⟩
  have Ft := Lib.hid hft
  clear hx hE ht hft
  refine (callsIn_wide (n := 9)).1 (callsIn_of_wp_marks Tryd.func5 rfl trivial ?_ rfl)
  simp only [Tryd.ntmps5, List.size_toArray, List.length_cons, List.length_nil, Nat.reduceAdd, Nat.reduceSub, Array.replicate_succ, Array.replicate_zero, List.push_toArray, List.append_toArray, List.nil_append, List.cons_append]
  refine wpIn_wide.2 ?_
  go_wp2_with fail
  generalize hW : ((w.alloc (.cells #[.string t.name, .slice At mt ct, .int .i64 t.off] 24)).alloc (.cells #[.int .u8 st] 5)).alloc (.cells #[.bool false] 4) = W at *
  clear hW
  obtain ⟨⟨t0, t1, t2⟩, _⟩ := Ot0.out.one
  refine (awake_any L _ B0.out.env).mono ?_
  rintro e w1 ⟨rfl, hb⟩
  clear t0 t1 t2
  have B1 := Lib.hid (B0.out.later hb)
  have Ot1 := Lib.hid (Ot0.out.later hb)
  clear hb B0 Ot0
  obtain ⟨⟨t0, t1, t2⟩, _⟩ := Ot1.out.one
  go_wp2_with fail
  refine (few_any t At mt ct _ nt Ot1.out.one.here).mono ?_
  rintro e w2 ⟨rfl, hb⟩
  rw [Ft.out]
  clear t0 t1 t2
  have B2 := Lib.hid (B1.out.later hb)
  have Ot2 := Lib.hid (Ot1.out.later hb)
  clear hb B1 Ot1
  cases ft
  · skip
    obtain ⟨⟨t0, t1, t2⟩, _⟩ := Ot2.out.one
    go_wp2_with fail
    refine (awake_any L _ B2.out.env).mono ?_
    rintro e w3 ⟨rfl, hb⟩
    clear t0 t1 t2
    have B3 := Lib.hid (B2.out.later hb)
    have Ot3 := Lib.hid (Ot2.out.later hb)
    clear hb B2 Ot2
    have r0 : w3.cell? ⟨w.heap.size + 2, 0, none⟩ = some (.bool false) := by rw [cell_of_row _ _ 0 _ _ (0, 0) Ot3.out.res]; rfl
    have r1 : w3.frozen? ⟨w.heap.size + 2, 0, none⟩ = false := frozen_of_row Ot3.out.res 0
    go_wp2_with fail
    exact ⟨_, res_cell _ rfl (World.cell?_setCell_same' _ _ _ (by rw [r0]; rfl)), rfl, B3.out.below.setCell (p := ⟨w.heap.size + 1 + 1, 0, none⟩) (by simp; omega) _⟩
  have St := Lib.hid (few_small Ft.out)
  obtain ⟨⟨t0, t1, t2⟩, _⟩ := Ot2.out.one
  go_wp2_with fail
  refine (ref_list_any t At mt ct _ (by have := St.out.list; omega) Ot2.out.one.here).mono ?_
  rintro e w3 ⟨gb, gc, rfl, hown, hb⟩
  clear t0 t1 t2
  have B3 := Lib.hid (B2.out.later hb)
  have Ot3 := Lib.hid (Ot2.out.later hb)
  clear hb B2 Ot2
  obtain ⟨A', c', he, hsl⟩ := sl_of_own (ps := t.list) rfl hown
  obtain ⟨rfl, rfl⟩ : A' = some ⟨gb, 0, none⟩ ∧ c' = gc := by injection he with e1 e2 e3; exact ⟨e1.symm, e3.symm⟩
  have hb4 : Below w3.heap.size w3 (w3.alloc (.cells #[.slice (some ⟨gb, 0, none⟩) t.list.length c'] 31)) := (Below.refl _ _).alloc (Nat.le_refl _) _
  have B4 := Lib.hid (B3.out.later hb4)
  have Ot4 := Lib.hid (Ot3.out.later hb4)
  have SL4 := Lib.hid (hsl.later hb4)
  have WX4 := Lib.hid (show (w3.alloc (.cells #[.slice (some ⟨gb, 0, none⟩) t.list.length c'] 31)).cell? ⟨w3.heap.size, 0, none⟩ = some (.slice (some ⟨gb, 0, none⟩) t.list.length c') by rw [World.cell?_alloc_at _ _ _ _ rfl]; rfl)
  clear hown he hsl hb4 B3 Ot3
  obtain ⟨⟨t0, t1, t2⟩, _⟩ := Ot4.out.one
  go_wp2_with fail
  generalize hW4 : w3.alloc (.cells #[.slice (some ⟨gb, 0, none⟩) t.list.length c'] 31) = w4 at *
  clear hW4
  refine (LN t At mt ct _ St.out Ot4.out.one.here).mono ?_
  rintro e w5 ⟨g, lb, rfl, hb, hent, hseq⟩
  clear t0 t1 t2
  have B5 := Lib.hid (B4.out.later hb)
  have Ot5 := Lib.hid (Ot4.out.later hb)
  have SL5 := Lib.hid (SL4.out.later hb)
  have WX5 := Lib.hid ((hb.cell (cell_lt WX4.out)).trans WX4.out)
  have HEN := Lib.hid hent
  have HSQ := Lib.hid hseq
  clear hb hent hseq B4 Ot4 SL4 WX4
  have eqf := eqlFn (.func g) #[] lb
  go_wp2_with fail
  have hb6 : Below w5.heap.size w5 (w5.alloc (.cells #[.int .i64 0] 3)) := (Below.refl _ _).alloc (Nat.le_refl _) _
  have hz6 : w5.heap.size ≤ (w5.alloc (.cells #[.int .i64 0] 3)).heap.size := hb6.size
  have n0 : (w5.alloc (.cells #[.int .i64 0] 3)).cell? ⟨w5.heap.size, 0, none⟩ = some (.int .i64 0) := by rw [World.cell?_alloc_at _ _ _ _ rfl]; rfl
  have n1 : (w5.alloc (.cells #[.int .i64 0] 3)).frozen? ⟨w5.heap.size, 0, none⟩ = false := by simp
  have hlt6 : w5.heap.size < (w5.alloc (.cells #[.int .i64 0] 3)).heap.size := by simp
  refine (wpIn_wide (n := 9)).1 ?_
  generalize hW6 : w5.alloc (.cells #[.int .i64 0] 3) = w6 at *
  clear hW6
  refine wpIn_rangeFunc_ownF rfl (by omega) (gf := g) (lb := lb) rfl trivial HEN.out (HSQ.out 8 w6 (by omega) hb6) (fun h k => h.trans k) (fun W l o o' _ h hc _ => Keep.put W l o o' h hc) (Below.refl _ _) (fun _ => rfl)
    (fun pre W => (W.cell? ⟨w5.heap.size, 0, none⟩ = some (.int .i64 pre.length) ∧ W.frozen? ⟨w5.heap.size, 0, none⟩ = false ∧ (pre.length : Int) ≤ st) ∧ Below w5.heap.size w5 W)
    (fun c pre W => (c = .ret ∧ ¬ pre <+: t.list) ∨ (c = .exit 0 ∧ W.cell? ⟨w5.heap.size, 0, none⟩ = some (.int .i64 pre.length) ∧ (pre.length : Int) = st + 1 ∧ Below w5.heap.size w5 W))
    (OwnFrom.and (Own.from (fun s A B row hs hg hr => ⟨cell_kept hs.1 hg hr, (frozen_kept hs.1 hg hr).trans hs.2.1, hs.2.2⟩) _) (ownFrom_below (Nat.le_refl _) hz6))
    (fun c s A B row hs hg hr => hs.imp id fun h => ⟨h.1, cell_kept h.2.1 hg (fun r e => (hr r e).2), h.2.2.1, ownFrom_below (β := List ByteArray) (Nat.le_refl _) hz6 s A B row h.2.2.2 hg hr⟩)
    ⟨⟨n0, n1, hs0⟩, hb6⟩ (fun x => { tmps := #[.agg #[.string t.name, .slice At mt ct, .int .i64 t.off], .int .u8 st, .pointer (some ⟨w.heap.size, 0, none⟩), .pointer (some ⟨w.heap.size + 1, 0, none⟩), .pointer (some ⟨w.heap.size + 1 + 1, 0, none⟩),
      .pointer (some ⟨w3.heap.size, 0, none⟩), .func (.func g) #[] lb, .pointer (some ⟨w5.heap.size, 0, none⟩), .string x, .bool true, .bool false, .bool false, .agg #[.string t.name, .slice At mt ct, .int .i64 t.off],
      .bool true, .bool false, .bool false, undef, .agg #[.string t.name, .slice At mt ct, .int .i64 t.off], .slice (some ⟨gb, 0, none⟩) t.list.length c', .agg #[.string t.name, .slice At mt ct, .int .i64 t.off],
      .func (.func g) #[] lb, .func (.func g) #[] lb, .bool false, .func (.func g) #[] lb, .string x, undef, undef, undef, undef, undef, undef, undef, undef, undef, undef, undef, undef, undef, undef, undef, undef, undef, undef, undef, undef, undef, undef, undef, undef, undef, undef], defers := [] }) ?assign ?body ?done ?stop
  case assign =>
    intro l x W K hK
    gi_wp2
    exact hK
  case body =>
    rintro l pre x Wr ⟨⟨hc, hf, hle⟩, hbw⟩ hlen
    have x0 := (hbw.cell (cell_lt WX5.out)).trans WX5.out
    have q0 := (hbw.cell (cell_lt Ot5.out.num)).trans Ot5.out.num
    have OL := Lib.hid (Ot5.out.later hbw)
    have r0 : Wr.cell? ⟨w.heap.size + 1 + 1, 0, none⟩ = some (.bool false) := by rw [cell_of_row _ _ 0 _ _ (0, 0) OL.out.res]; rfl
    have r1 : Wr.frozen? ⟨w.heap.size + 1 + 1, 0, none⟩ = false := frozen_of_row OL.out.res 0
    obtain ⟨a, s, hae, hs, c0⟩ := (SL5.out.later hbw).get hlen
    obtain rfl := Option.some.inj hae
    rw [show (⟨gb, 0, none⟩ : Addr).add pre.length = ⟨gb, pre.length, none⟩ by unfold Addr.add; split <;> simp_all] at c0
    have hln : (t.list.length : Int) ≤ 1000 := by have := St.out.list; omega
    have y0 : (pre.length : Int) < t.list.length := by omega
    have y1 : (0 : Int) ≤ pre.length := by omega
    have y2 : ¬ t.list.length ≤ pre.length := by omega
    have hb5 : w.heap.size + 2 < w5.heap.size := (Array.getElem?_eq_some_iff.1 Ot5.out.res).1
    have q1 : (Wr.setCell ⟨w5.heap.size, 0, none⟩ (.int .i64 (pre.length + 1))).cell? ⟨w.heap.size + 1, 0, none⟩ = some (.int .u8 st) := by
      exact (World.cell?_setCell_other _ _ _ _ (by intro e; injection e; omega)).trans q0
    have HK := Lib.hid (show (Wr.setCell ⟨w5.heap.size, 0, none⟩ (.int .i64 (pre.length + 1))).cell? ⟨w5.heap.size, 0, none⟩ = some (.int .i64 (pre ++ [x]).length) by
      rw [World.cell?_setCell_same' _ _ _ (by rw [hc]; rfl)]; simp)
    have HF := Lib.hid (show (Wr.setCell ⟨w5.heap.size, 0, none⟩ (.int .i64 (pre.length + 1))).frozen? ⟨w5.heap.size, 0, none⟩ = false by rw [World.frozen?_setCell]; exact hf)
    have HB2 := Lib.hid (show Below w5.heap.size Wr (Wr.setCell ⟨w5.heap.size, 0, none⟩ (.int .i64 (pre.length + 1))) from (Below.refl w5.heap.size Wr).setCell (p := ⟨w5.heap.size, 0, none⟩) (Nat.le_refl _) _)
    have hnp : ∀ u, t.list[pre.length]? = some u → u ≠ x → ¬ (pre ++ [x]) <+: t.list := by
      rintro u hu hne ⟨r, hr⟩
      rw [← hr] at hu
      simp at hu
      exact hne hu.symm
    have HNP := Lib.hid hnp
    have HS := Lib.hid hs
    have HKP := Lib.hid (show Keep w5.heap.size w6.heap.size Wr (Wr.setCell ⟨w5.heap.size, 0, none⟩ (.int .i64 (pre.length + 1))) from Keep.set Wr _ _ _ (Nat.le_refl _) hlt6)
    have HBW := Lib.hid hbw
    have HLE := Lib.hid hle
    have HL1 := Lib.hid (show ((pre ++ [x]).length : Int) = pre.length + 1 by simp)
    clear hs hae hbw hle hlen hnp hb5
    by_cases hxs : s = x
    · subst hxs
      have yq : (s.toList == s.toList) = true := by simp
      by_cases hst : st < (pre.length : Int) + 1
      · gi_wp2
        exact ⟨KeepsOthers.setCell _ _ _, .inr ⟨rfl, HK.out, by rw [HL1.out]; have := HLE.out; omega, HBW.out.trans HB2.out⟩⟩
      · have hst2 : (pre.length : Int) + 1 ≤ st := by omega
        gi_wp2
        exact ⟨KeepsOthers.setCell _ _ _, HKP.out, ⟨HK.out, HF.out, by rw [HL1.out]; omega⟩, HBW.out.trans HB2.out⟩
    · have yq : (x.toList == s.toList) = false := by rw [Lib.toList_data, Lib.toList_data]; simpa [ByteArray.ext_iff, ← Array.toList_inj] using fun e => hxs (ByteArray.ext (Array.toList_inj.1 e)).symm
      gi_wp2
      exact ⟨KeepsOthers.setCell _ _ _, .inl ⟨rfl, HNP.out s HS.out hxs⟩⟩
  case done =>
    rintro D ys W hD rfl ⟨⟨hc, hf, hle⟩, hbw⟩ hK
    have x0 := (hbw.cell (cell_lt WX5.out)).trans WX5.out
    have q0 := (hbw.cell (cell_lt Ot5.out.num)).trans Ot5.out.num
    have OL := Lib.hid (Ot5.out.later hbw)
    have r0 : W.cell? ⟨w.heap.size + 1 + 1, 0, none⟩ = some (.bool false) := by rw [cell_of_row _ _ 0 _ _ (0, 0) OL.out.res]; rfl
    have r1 : W.frozen? ⟨w.heap.size + 1 + 1, 0, none⟩ = false := frozen_of_row OL.out.res 0
    have HLV := Lib.hid (fun tmps ht => leave_mark (w := w) (W := W) (k := w.heap.size + 1 + 1) tmps ht (B5.out.below.trans (hbw.mono B5.out.below.size)) (by omega) (Nat.le_trans B5.out.below.size (Nat.le_trans hz6 hD)) hK r0)
    have hln : (t.list.length : Int) ≤ 1000 := by have := St.out.list; omega
    have hle2 : (t.list.length : Int) ≤ st + 1 := by omega
    clear hK hbw hD
    go_wp2_with fail
    rw [show ((t.list.length : Int) == min (t.list.length : Int) (st + 1)) = true by rw [Int.min_eq_left hle2]; simp]
    exact HLV.out _ rfl
  case stop =>
    rintro D c pre W hD hpre hx hK
    rcases hx with ⟨_, h⟩ | ⟨rfl, hc, hlen, hbw⟩
    · exact absurd hpre h
    have hpl := hpre.length_le
    have x0 := (hbw.cell (cell_lt WX5.out)).trans WX5.out
    have q0 := (hbw.cell (cell_lt Ot5.out.num)).trans Ot5.out.num
    have OL := Lib.hid (Ot5.out.later hbw)
    have r0 : W.cell? ⟨w.heap.size + 1 + 1, 0, none⟩ = some (.bool false) := by rw [cell_of_row _ _ 0 _ _ (0, 0) OL.out.res]; rfl
    have r1 : W.frozen? ⟨w.heap.size + 1 + 1, 0, none⟩ = false := frozen_of_row OL.out.res 0
    have HLV := Lib.hid (fun tmps ht => leave_mark (w := w) (W := W) (k := w.heap.size + 1 + 1) tmps ht (B5.out.below.trans (hbw.mono B5.out.below.size)) (by omega) (Nat.le_trans B5.out.below.size (Nat.le_trans hz6 hD)) hK r0)
    have hln : (t.list.length : Int) ≤ 1000 := by have := St.out.list; omega
    have hle2 : st + 1 ≤ (t.list.length : Int) := by omega
    rw [hlen] at hc
    clear hK hbw hD hpre hlen hpl
    refine wpIn_wide.2 ?_
    go_wp2_with fail
    rw [show (st + 1 == min (t.list.length : Int) (st + 1)) = true by rw [Int.min_eq_right hle2]; simp]
    exact HLV.out _ rfl
end Go.Proofs.YtioamnaknjhbpaaDoor
