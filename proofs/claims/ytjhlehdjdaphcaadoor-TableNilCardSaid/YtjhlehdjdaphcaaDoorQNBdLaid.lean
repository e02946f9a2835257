/- What every card of a law needs behind its walk: arguments read as before; structs of one-cell fields opened; the head of a list of laid variables. No condition.
From what the rows of layer 4 list of package-level variables to what the walks ask (ResVar); types that came in, opened. No condition.
Expressions that came in, opened. No condition.
Declarations and programs that came in, opened. No condition.
From what the rows of layers 10 and 11 list of package-level variables to what the walks ask (PowVar); signatures and lists of formals that came in, opened. No condition. -/
import Derived.Test.YtjhlehdjdaphcaaDoorQNBdJ
import Derived.Test.YtjhlehdjdaphcaaDoorRows
import Derived.ProofKit
import Derived.LaidMore
import Derived.Stop.LaidErr
import Derived.Stop.Joined
import Derived.Deep.Slices
import Derived.Deep.Fields
import Derived.Lib.SmallJoins
import Derived.Lib.LaidTab
import Derived.Carry
namespace Go.Proofs.YtjhlehdjdaphcaaDoor
open Go.ChangeShapes Go.WideShapes Go.ChangeAt Go.RowKit

theorem laidOut : laidOutB Tryd.prog = true := by kernel_rfl

/-- Arguments read behind the call as they did before, whatever they are. -/
theorem trodAll_stays {H : Type} {enc : TypeId × Value → H} {P : Program} (hl : laidOutB P = true) {W W' : World} (hb : Below W.heap.size W W') :
    ∀ (ts : List TypeId) (vs : List Value) (ds : List (DataW H)) (ps : List MemPlace), (∀ t ∈ ts, P.readableRec t = true ∧ t < P.types.size) →
      DataW.TrodAll enc P W 0 (fun _ => true) true ts vs ds ps → (∀ x ∈ ps, x.block < W.heap.size) → DataW.TrodAll enc P W' 0 (fun b => decide (b < W.heap.size)) true ts vs ds ps := by
  intro ts
  induction ts with
  | nil =>
    intro vs ds ps _ h _
    cases vs <;> cases ds <;> first | exact h | exact h.elim
  | cons t ts ih =>
    intro vs ds ps ht h hlt
    cases vs with
    | nil => cases ds <;> exact h.elim
    | cons v vs =>
      cases ds with
      | nil => exact h.elim
      | cons d ds =>
        obtain ⟨p, q, h1, h2, rfl⟩ := h
        obtain ⟨ha, hs⟩ := ht t (by simp)
        exact ⟨p, q, Below.trod hl ha hs h1 hb (fun x hx => hlt x (List.mem_append_left _ hx)), ih vs ds q (fun t' h' => ht t' (by simp [h'])) h2 (fun x hx => hlt x (List.mem_append_right _ hx)), rfl⟩

theorem all_readable {P : Program} {ts : List TypeId} (h : (ts.all fun t => P.readableRec t && decide (t < P.types.size)) = true) : ∀ t ∈ ts, P.readableRec t = true ∧ t < P.types.size := fun t ht => by
  have := List.all_eq_true.1 h t ht
  simpa only [Bool.and_eq_true, decide_eq_true_eq] using this

/-- The row's last step behind a walk that made memory and left all that lay as it was; the row does not say 'again'. -/
theorem post_law {H : Type} {enc : TypeId × Value → H} {f : Func} {s : ChangeSpec} {apart fresh handsOn : Bool} {W W' : World} {args : Array Value} {ds gs : List (DataW H)} {before : List MemPlace} {x : Bool} {tb : TypeId}
    (hW : DataW.Whole enc Tryd.prog f.params.toList s.vars apart W args.toList ds gs before) (hA : DataW.TrodAll enc Tryd.prog W 0 (fun _ => true) true f.params.toList args.toList ds before) (hb : Below W.heap.size W W')
    (ht : (f.params.toList.all fun t => Tryd.prog.readableRec t && decide (t < Tryd.prog.types.size)) = true)
    (hv0 : s.vars = []) (hs : s.fn H (ds ++ gs) = { results := [.lit (.bool x)], args := ds }) (hr : f.resultTypes = #[tb]) (htb : Tryd.prog.underlying tb = some .bool) :
    s.post enc Tryd.prog f apart fresh handsOn false W args (.bool x) W' := by
  have hlt : ∀ x ∈ before, x.block < W.heap.size := fun x hx => by simpa using hW.lt x hx
  refine ⟨ds, gs, before, [], before, [], hW, ?_, ?_, ?_, World.keptBut_mono (fun p hp => ⟨hp, Or.inr (Or.inl hp)⟩) (hb.frame (· ∈ before)), fun h => by cases h⟩
  · rw [hs, hr]
    exact trodAll_mk1 (shut_bool htb x)
  · rw [hs]
    exact trodAll_stays laidOut hb _ _ _ _ (all_readable ht) hA hlt
  · rw [hs, hv0]
    rfl

theorem laidMet_mem {P : Program} {w : World} {x : String × DataW Unit} : ∀ {l : List (String × DataW Unit)}, laidMet P l w → x ∈ l → ∃ r, laidMet P (x :: r) w
  | [], _, hm => by cases hm
  | y :: l, h, hm => by
    rcases List.mem_cons.1 hm with rfl | hm
    · exact ⟨l, h⟩
    · exact laidMet_mem h.tail hm

/-- A struct of one-cell fields: a closed test. -/
def flatB (P : Program) (t : TypeId) : Bool := match P.underlying t with | some (.struct fs) => Go.Deep.oneCellFields P fs && P.cellsOf t == fs.size | _ => false

end Go.Proofs.YtjhlehdjdaphcaaDoor
namespace Go.Proofs.YtjhlehdjdaphcaaDoor
open Go.ChangeShapes Go.WideShapes Go.ChangeAt Go.RowKit

theorem flatTy : flatB Tryd.prog 25 = true := by kernel_rfl
theorem cTy : Tryd.prog.cellsOf 25 = 3 := by kernel_rfl

set_option maxRecDepth 100000 in
/-- The three cells of a type that is read. -/
theorem open_ty3 {H : Type} {enc : TypeId × Value → H} {w : World} {base : Nat} {spare : Nat → Bool} {held : Bool} {fuel : Nat} {cs : List Value} {x : DataW H × List MemPlace}
    (h : DataW.trod enc Tryd.prog w base spare held fuel 25 cs = some x) :
    ∃ n s v o y, fuel = n + 1 ∧ cs = [.string s, v, .int .i64 o] ∧ s.size ≤ 9223372036854775807 ∧ DataW.trod enc Tryd.prog w base spare held n 23 [v] = some y := by
  have hflat := flatTy
  unfold flatB at hflat
  rw [Tryd.underlying25] at hflat
  simp only [Bool.and_eq_true, beq_iff_eq] at hflat
  obtain ⟨hone, hC⟩ := hflat
  obtain ⟨xs, n, hn, _, hl, hxl, hg⟩ := DataW.trod_struct Tryd.underlying25 h
  have field : ∀ (j : Nat) (f : Field), _ = some f → ∃ u y, cs[j]? = some u ∧ DataW.trod enc Tryd.prog w base spare held n f.type [u] = some y := fun j f hj => by
    obtain ⟨ho, hk⟩ := Go.Deep.hone_of hone j f hj
    have hjf := (Array.getElem?_eq_some_iff.1 hj).1
    have hjl : j < cs.length := by rw [hl, hC]; exact hjf
    have h1 := hg j f hj
    rw [ho, hk] at h1
    have hjx : j < xs.length := by rw [hxl]; exact hjf
    rw [List.drop_eq_getElem_cons hjl, List.take_succ_cons, List.take_zero, List.getElem?_eq_getElem hjx] at h1
    exact ⟨_, _, List.getElem?_eq_getElem hjl, h1⟩
  obtain ⟨u0, y0, c0, t0⟩ := field 0 _ rfl
  obtain ⟨u1, y1, c1, t1⟩ := field 1 _ rfl
  obtain ⟨u2, y2, c2, t2⟩ := field 2 _ rfl
  obtain ⟨s, e0, _, hs⟩ := DataW.trod_string Tryd.underlying9 t0
  obtain ⟨o, e2, _, _⟩ := DataW.trod_int Tryd.underlying3 t2
  obtain rfl : u0 = .string s := by simpa using e0
  obtain rfl : u2 = .int .i64 o := by simpa using e2
  have hl3 : cs.length = 3 := hl
  refine ⟨n, s, u1, o, y1, hn, ?_, by unfold maxLen at hs; exact hs, t1⟩
  apply List.ext_getElem?
  intro j
  match j with
  | 0 => simpa using c0
  | 1 => simpa using c1
  | 2 => simpa using c2
  | j + 3 => rw [List.getElem?_eq_none (by omega), List.getElem?_eq_none (by simp)]

/-- A slice of types that came in. -/
theorem open_tys {H : Type} {enc : TypeId × Value → H} {w : World} {base : Nat} {spare : Nat → Bool} {held : Bool} : ∀ (fuel : Nat) {v : Value} {x : DataW H × List MemPlace},
    DataW.trod enc Tryd.prog w base spare held fuel 23 [v] = some x → ∃ A n cap ts, v = .slice A n cap ∧ Here w A n ts := by
  intro fuel
  induction fuel using Nat.strongRecOn with
  | _ fuel ih =>
    intro v x h
    rcases DataW.trod_slice Tryd.underlying23 h with ⟨hv, _⟩ | ⟨a, len, cap, elems, rest, n, hn, hv, _, _, hl, hm, hlen, hel, _, _⟩
    · obtain rfl : v = .slice none 0 0 := by simpa using hv
      exact ⟨none, 0, 0, [], rfl, Lies.nil _ _ _⟩
    · obtain rfl : v = .slice (some a) len cap := by simpa using hv
      have hs : ∀ i : Nat, ∃ t : Ty, i < len → TyCells w False (· < w.heap.size) (some a) i t := fun i => by
        by_cases hlt : i < len
        · have h1 := hel i hlt
          rw [List.getElem?_eq_getElem (by omega), Option.bind_eq_some_iff] at h1
          obtain ⟨cs', hc, ht'⟩ := h1
          rw [cTy] at hc
          obtain ⟨n2, s, v2, o, y, hn2, rfl, hsz, hv2⟩ := open_ty3 ht'
          obtain ⟨B, m, c, ys, rfl, hys⟩ := ih n2 (by omega) hv2
          obtain ⟨_, _, hat⟩ := World.cells?_some hc
          have h0 := hat 0 (by omega)
          have h1 := hat 1 (by omega)
          have h2 := hat 2 (by omega)
          have h0' : w.cell? (a.add (i * 3)) = some (.string s) := by simpa [Addr.add] using h0
          refine ⟨.mk s ys o, fun _ => ?_⟩
          rw [TyCells]
          have hb := cell_lt h0'
          rw [block_of_add] at hb
          exact ⟨a, B, c, rfl, hb, False.elim, h0', by rw [hys.len]; exact h1, h2, hsz, by rw [hys.len]; exact hys.le, hys.args⟩
        · exact ⟨.mk ⟨#[]⟩ [] 0, fun h => absurd h hlt⟩
      obtain ⟨f, hf⟩ := Classical.axiomOfChoice hs
      unfold maxLen at hm
      refine ⟨some a, len, cap, (List.range len).map f, rfl, by simp, by omega, ArgsIn.of fun j t hj => ?_⟩
      have hjl : j < len := by
        have := (List.getElem?_eq_some_iff.1 hj).1
        simpa using this
      have he2 : f j = t := by simpa [hjl] using hj
      rw [Nat.zero_add, ← he2]
      exact hf j hjl

set_option maxRecDepth 100000 in
/-- A type that came in by value. -/
theorem open_tyV {H : Type} {enc : TypeId × Value → H} {w : World} {base b0 : Nat} {r : Reach} {spare : Nat → Bool} {held : Bool} {v : Value} {d : DataW H} {p : List MemPlace}
    (hv : Value.okWide Tryd.prog w r b0 25 v) (h : DataW.Trod enc Tryd.prog w base spare held 25 v d p) :
    ∃ (t : Ty) (A : Option Addr) (m c : Nat), v = .agg #[.string t.name, .slice A m c, .int .i64 t.off] ∧ t.name.size ≤ 9223372036854775807 ∧ Here w A m t.args := by
  obtain ⟨cs, rfl, _⟩ := okWide_struct Tryd.underlying25 hv
  obtain ⟨f, hf⟩ := h
  obtain ⟨n, s, u, o, y, _, hcs, hsz, hu⟩ := open_ty3 hf
  obtain ⟨A, m, c, xs, rfl, hx⟩ := open_tys n hu
  refine ⟨.mk s xs o, A, m, c, ?_, hsz, hx⟩
  have hcs' : cs.toList = [.string s, .slice A m c, .int .i64 o] := by simpa [Value.cells] using hcs
  show Value.agg cs = .agg #[.string s, .slice A m c, .int .i64 o]
  congr 1
  exact Array.toList_inj.1 (by simpa using hcs')
end Go.Proofs.YtjhlehdjdaphcaaDoor
namespace Go.Proofs.YtjhlehdjdaphcaaDoor
open Go.ChangeShapes Go.WideShapes Go.ChangeAt Go.RowKit

end Go.Proofs.YtjhlehdjdaphcaaDoor
namespace Go.Proofs.YtjhlehdjdaphcaaDoor
open Go.ChangeShapes Go.WideShapes Go.ChangeAt Go.RowKit
end Go.Proofs.YtjhlehdjdaphcaaDoor
namespace Go.Proofs.YtjhlehdjdaphcaaDoor
open Go.ChangeShapes Go.WideShapes Go.ChangeAt Go.RowKit

namespace Bd
theorem tPow : (Tryd.prog.globals[0]?).map (·.type) = some 141 := by kernel_rfl
theorem cPow : Tryd.prog.cellsOf 141 = 20 := by kernel_rfl
theorem cU64 : Tryd.prog.cellsOf 134 = 1 := by kernel_rfl
def laidData : List (String × DataW Unit) := [("math/bits.deBruijn32tab", Rows.laid_math_bits_deBruijn32tab), ("math/bits.deBruijn64tab", Rows.laid_math_bits_deBruijn64tab), ("internal/strconv.uint64pow10", Rows.laid_internal_strconv_uint64pow10)]
theorem pow_of_laid {W : World} (h : laidMetH Tryd.prog laidData W) : PowVar W := by
  have h' : laidMet Tryd.prog laidData W := h
  obtain ⟨r2, h2⟩ := laidMet_mem h' (x := ("internal/strconv.uint64pow10", Rows.laid_internal_strconv_uint64pow10)) (by simp [laidData])
  exact Lib.tabIs_of_head (rest := r2) (zs := Lib.pow10Tab) (k := .u64) gPow tPow Tryd.underlying141 Tryd.underlying134 cU64 cPow h2
end Bd
end Go.Proofs.YtjhlehdjdaphcaaDoor
