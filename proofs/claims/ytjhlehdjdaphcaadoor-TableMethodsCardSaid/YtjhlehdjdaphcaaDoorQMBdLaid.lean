/- What every card of a law needs behind its walk: arguments read as before; structs of one-cell fields opened; the head of a list of laid variables. No condition.
From what the rows of layer 4 list of package-level variables to what the walks ask (ResVar); types that came in, opened. No condition.
Expressions that came in, opened. No condition.
Declarations and programs that came in, opened. No condition.
From what the rows of layers 10 and 11 list of package-level variables to what the walks ask (PowVar); signatures and lists of formals that came in, opened. No condition. -/
import Derived.Test.YtjhlehdjdaphcaaDoorQMBdJ
import Derived.Test.YtjhlehdjdaphcaaDoorRows
import Derived.ProofKit
import Derived.LaidMore
import Derived.Stop.LaidErr
import Derived.Stop.Joined
import Derived.Deep.Slices
import Derived.Deep.Fields
import Derived.Lib.SmallJoins
import Derived.Lib.LaidTab
import Derived.Carry
namespace Go.Proofs.YtjhlehdjdaphcaaDoor
open Go.ChangeShapes Go.WideShapes Go.ChangeAt Go.RowKit

theorem laidOut : laidOutB Tryd.prog = true := by kernel_rfl

/-- Arguments read behind the call as they did before, whatever they are. -/
theorem trodAll_stays {H : Type} {enc : TypeId × Value → H} {P : Program} (hl : laidOutB P = true) {W W' : World} (hb : Below W.heap.size W W') :
    ∀ (ts : List TypeId) (vs : List Value) (ds : List (DataW H)) (ps : List MemPlace), (∀ t ∈ ts, P.readableRec t = true ∧ t < P.types.size) →
      DataW.TrodAll enc P W 0 (fun _ => true) true ts vs ds ps → (∀ x ∈ ps, x.block < W.heap.size) → DataW.TrodAll enc P W' 0 (fun b => decide (b < W.heap.size)) true ts vs ds ps := by
  intro ts
  induction ts with
  | nil =>
    intro vs ds ps _ h _
    cases vs <;> cases ds <;> first | exact h | exact h.elim
  | cons t ts ih =>
    intro vs ds ps ht h hlt
    cases vs with
    | nil => cases ds <;> exact h.elim
    | cons v vs =>
      cases ds with
      | nil => exact h.elim
      | cons d ds =>
        obtain ⟨p, q, h1, h2, rfl⟩ := h
        obtain ⟨ha, hs⟩ := ht t (by simp)
        exact ⟨p, q, Below.trod hl ha hs h1 hb (fun x hx => hlt x (List.mem_append_left _ hx)), ih vs ds q (fun t' h' => ht t' (by simp [h'])) h2 (fun x hx => hlt x (List.mem_append_right _ hx)), rfl⟩

theorem all_readable {P : Program} {ts : List TypeId} (h : (ts.all fun t => P.readableRec t && decide (t < P.types.size)) = true) : ∀ t ∈ ts, P.readableRec t = true ∧ t < P.types.size := fun t ht => by
  have := List.all_eq_true.1 h t ht
  simpa only [Bool.and_eq_true, decide_eq_true_eq] using this

/-- The row's last step behind a walk that made memory and left all that lay as it was; the row does not say 'again'. -/
theorem post_law {H : Type} {enc : TypeId × Value → H} {f : Func} {s : ChangeSpec} {apart fresh handsOn : Bool} {W W' : World} {args : Array Value} {ds gs : List (DataW H)} {before : List MemPlace} {x : Bool} {tb : TypeId}
    (hW : DataW.Whole enc Tryd.prog f.params.toList s.vars apart W args.toList ds gs before) (hA : DataW.TrodAll enc Tryd.prog W 0 (fun _ => true) true f.params.toList args.toList ds before) (hb : Below W.heap.size W W')
    (ht : (f.params.toList.all fun t => Tryd.prog.readableRec t && decide (t < Tryd.prog.types.size)) = true)
    (hv0 : s.vars = []) (hs : s.fn H (ds ++ gs) = { results := [.lit (.bool x)], args := ds }) (hr : f.resultTypes = #[tb]) (htb : Tryd.prog.underlying tb = some .bool) :
    s.post enc Tryd.prog f apart fresh handsOn false W args (.bool x) W' := by
  have hlt : ∀ x ∈ before, x.block < W.heap.size := fun x hx => by simpa using hW.lt x hx
  refine ⟨ds, gs, before, [], before, [], hW, ?_, ?_, ?_, World.keptBut_mono (fun p hp => ⟨hp, Or.inr (Or.inl hp)⟩) (hb.frame (· ∈ before)), fun h => by cases h⟩
  · rw [hs, hr]
    exact trodAll_mk1 (shut_bool htb x)
  · rw [hs]
    exact trodAll_stays laidOut hb _ _ _ _ (all_readable ht) hA hlt
  · rw [hs, hv0]
    rfl

theorem laidMet_mem {P : Program} {w : World} {x : String × DataW Unit} : ∀ {l : List (String × DataW Unit)}, laidMet P l w → x ∈ l → ∃ r, laidMet P (x :: r) w
  | [], _, hm => by cases hm
  | y :: l, h, hm => by
    rcases List.mem_cons.1 hm with rfl | hm
    · exact ⟨l, h⟩
    · exact laidMet_mem h.tail hm

/-- A struct of one-cell fields: a closed test. -/
def flatB (P : Program) (t : TypeId) : Bool := match P.underlying t with | some (.struct fs) => Go.Deep.oneCellFields P fs && P.cellsOf t == fs.size | _ => false

end Go.Proofs.YtjhlehdjdaphcaaDoor
namespace Go.Proofs.YtjhlehdjdaphcaaDoor
open Go.ChangeShapes Go.WideShapes Go.ChangeAt Go.RowKit

theorem flatTy : flatB Tryd.prog 25 = true := by kernel_rfl
theorem cTy : Tryd.prog.cellsOf 25 = 3 := by kernel_rfl

set_option maxRecDepth 100000 in
/-- The three cells of a type that is read. -/
theorem open_ty3 {H : Type} {enc : TypeId × Value → H} {w : World} {base : Nat} {spare : Nat → Bool} {held : Bool} {fuel : Nat} {cs : List Value} {x : DataW H × List MemPlace}
    (h : DataW.trod enc Tryd.prog w base spare held fuel 25 cs = some x) :
    ∃ n s v o y, fuel = n + 1 ∧ cs = [.string s, v, .int .i64 o] ∧ s.size ≤ 9223372036854775807 ∧ DataW.trod enc Tryd.prog w base spare held n 23 [v] = some y := by
  have hflat := flatTy
  unfold flatB at hflat
  rw [Tryd.underlying25] at hflat
  simp only [Bool.and_eq_true, beq_iff_eq] at hflat
  obtain ⟨hone, hC⟩ := hflat
  obtain ⟨xs, n, hn, _, hl, hxl, hg⟩ := DataW.trod_struct Tryd.underlying25 h
  have field : ∀ (j : Nat) (f : Field), _ = some f → ∃ u y, cs[j]? = some u ∧ DataW.trod enc Tryd.prog w base spare held n f.type [u] = some y := fun j f hj => by
    obtain ⟨ho, hk⟩ := Go.Deep.hone_of hone j f hj
    have hjf := (Array.getElem?_eq_some_iff.1 hj).1
    have hjl : j < cs.length := by rw [hl, hC]; exact hjf
    have h1 := hg j f hj
    rw [ho, hk] at h1
    have hjx : j < xs.length := by rw [hxl]; exact hjf
    rw [List.drop_eq_getElem_cons hjl, List.take_succ_cons, List.take_zero, List.getElem?_eq_getElem hjx] at h1
    exact ⟨_, _, List.getElem?_eq_getElem hjl, h1⟩
  obtain ⟨u0, y0, c0, t0⟩ := field 0 _ rfl
  obtain ⟨u1, y1, c1, t1⟩ := field 1 _ rfl
  obtain ⟨u2, y2, c2, t2⟩ := field 2 _ rfl
  obtain ⟨s, e0, _, hs⟩ := DataW.trod_string Tryd.underlying9 t0
  obtain ⟨o, e2, _, _⟩ := DataW.trod_int Tryd.underlying3 t2
  obtain rfl : u0 = .string s := by simpa using e0
  obtain rfl : u2 = .int .i64 o := by simpa using e2
  have hl3 : cs.length = 3 := hl
  refine ⟨n, s, u1, o, y1, hn, ?_, by unfold maxLen at hs; exact hs, t1⟩
  apply List.ext_getElem?
  intro j
  match j with
  | 0 => simpa using c0
  | 1 => simpa using c1
  | 2 => simpa using c2
  | j + 3 => rw [List.getElem?_eq_none (by omega), List.getElem?_eq_none (by simp)]

/-- A slice of types that came in. -/
theorem open_tys {H : Type} {enc : TypeId × Value → H} {w : World} {base : Nat} {spare : Nat → Bool} {held : Bool} : ∀ (fuel : Nat) {v : Value} {x : DataW H × List MemPlace},
    DataW.trod enc Tryd.prog w base spare held fuel 23 [v] = some x → ∃ A n cap ts, v = .slice A n cap ∧ Here w A n ts := by
  intro fuel
  induction fuel using Nat.strongRecOn with
  | _ fuel ih =>
    intro v x h
    rcases DataW.trod_slice Tryd.underlying23 h with ⟨hv, _⟩ | ⟨a, len, cap, elems, rest, n, hn, hv, _, _, hl, hm, hlen, hel, _, _⟩
    · obtain rfl : v = .slice none 0 0 := by simpa using hv
      exact ⟨none, 0, 0, [], rfl, Lies.nil _ _ _⟩
    · obtain rfl : v = .slice (some a) len cap := by simpa using hv
      have hs : ∀ i : Nat, ∃ t : Ty, i < len → TyCells w False (· < w.heap.size) (some a) i t := fun i => by
        by_cases hlt : i < len
        · have h1 := hel i hlt
          rw [List.getElem?_eq_getElem (by omega), Option.bind_eq_some_iff] at h1
          obtain ⟨cs', hc, ht'⟩ := h1
          rw [cTy] at hc
          obtain ⟨n2, s, v2, o, y, hn2, rfl, hsz, hv2⟩ := open_ty3 ht'
          obtain ⟨B, m, c, ys, rfl, hys⟩ := ih n2 (by omega) hv2
          obtain ⟨_, _, hat⟩ := World.cells?_some hc
          have h0 := hat 0 (by omega)
          have h1 := hat 1 (by omega)
          have h2 := hat 2 (by omega)
          have h0' : w.cell? (a.add (i * 3)) = some (.string s) := by simpa [Addr.add] using h0
          refine ⟨.mk s ys o, fun _ => ?_⟩
          rw [TyCells]
          have hb := cell_lt h0'
          rw [block_of_add] at hb
          exact ⟨a, B, c, rfl, hb, False.elim, h0', by rw [hys.len]; exact h1, h2, hsz, by rw [hys.len]; exact hys.le, hys.args⟩
        · exact ⟨.mk ⟨#[]⟩ [] 0, fun h => absurd h hlt⟩
      obtain ⟨f, hf⟩ := Classical.axiomOfChoice hs
      unfold maxLen at hm
      refine ⟨some a, len, cap, (List.range len).map f, rfl, by simp, by omega, ArgsIn.of fun j t hj => ?_⟩
      have hjl : j < len := by
        have := (List.getElem?_eq_some_iff.1 hj).1
        simpa using this
      have he2 : f j = t := by simpa [hjl] using hj
      rw [Nat.zero_add, ← he2]
      exact hf j hjl

set_option maxRecDepth 100000 in
/-- A type that came in by value. -/
theorem open_tyV {H : Type} {enc : TypeId × Value → H} {w : World} {base b0 : Nat} {r : Reach} {spare : Nat → Bool} {held : Bool} {v : Value} {d : DataW H} {p : List MemPlace}
    (hv : Value.okWide Tryd.prog w r b0 25 v) (h : DataW.Trod enc Tryd.prog w base spare held 25 v d p) :
    ∃ (t : Ty) (A : Option Addr) (m c : Nat), v = .agg #[.string t.name, .slice A m c, .int .i64 t.off] ∧ t.name.size ≤ 9223372036854775807 ∧ Here w A m t.args := by
  obtain ⟨cs, rfl, _⟩ := okWide_struct Tryd.underlying25 hv
  obtain ⟨f, hf⟩ := h
  obtain ⟨n, s, u, o, y, _, hcs, hsz, hu⟩ := open_ty3 hf
  obtain ⟨A, m, c, xs, rfl, hx⟩ := open_tys n hu
  refine ⟨.mk s xs o, A, m, c, ?_, hsz, hx⟩
  have hcs' : cs.toList = [.string s, .slice A m c, .int .i64 o] := by simpa [Value.cells] using hcs
  show Value.agg cs = .agg #[.string s, .slice A m c, .int .i64 o]
  congr 1
  exact Array.toList_inj.1 (by simpa using hcs')
theorem cStr : Tryd.prog.cellsOf 9 = 1 := by kernel_rfl
end Go.Proofs.YtjhlehdjdaphcaaDoor
namespace Go.Proofs.YtjhlehdjdaphcaaDoor
open Go.ChangeShapes Go.WideShapes Go.ChangeAt Go.RowKit

theorem cInt : Tryd.prog.cellsOf 3 = 1 := by kernel_rfl
theorem cTys : Tryd.prog.cellsOf 23 = 1 := by kernel_rfl
theorem cExs : Tryd.prog.cellsOf 26 = 1 := by kernel_rfl
theorem cEx : Tryd.prog.cellsOf 28 = 8 := by kernel_rfl

theorem list8 {l : List Value} (h : l.length = 8) : ∃ a b c d e f g i, l = [a, b, c, d, e, f, g, i] := by
  match l, h with
  | [a, b, c, d, e, f, g, i], _ => exact ⟨a, b, c, d, e, f, g, i, rfl⟩

set_option maxRecDepth 100000 in
/-- The eight cells of an expression that is read, but for its kids. -/
theorem open_ex8 {H : Type} {enc : TypeId × Value → H} {w : World} {base : Nat} {spare : Nat → Bool} {held : Bool} {fuel : Nat} {cs : List Value} {x : DataW H × List MemPlace}
    (h : DataW.trod enc Tryd.prog w base spare held fuel 28 cs = some x) :
    ∃ n k s t A m a B l b ts v o y, fuel = n + 1 ∧ cs = [.int .i64 k, .string s, .string (Ty.name t), .slice A m a, .int .i64 (Ty.off t), .slice B l b, v, .int .i64 o] ∧ s.size ≤ 9223372036854775807 ∧ (Ty.name t).size ≤ 9223372036854775807
      ∧ Here w A m (Ty.args t) ∧ Here w B l ts ∧ DataW.trod enc Tryd.prog w base spare held n 26 [v] = some y := by
  obtain ⟨xs, n, hn, _, hl, hxl, hg⟩ := DataW.trod_struct Tryd.underlying28 h
  obtain ⟨c0, c1, c2, c3, c4, c5, c6, c7, rfl⟩ := list8 (hl.trans cEx)
  have field : ∀ (j : Nat) (f : Field), _ = some f → ∃ y, DataW.trod enc Tryd.prog w base spare held n f.type (([c0, c1, c2, c3, c4, c5, c6, c7].drop f.offset).take (Tryd.prog.cellsOf f.type)) = some y := fun j f hj => by
    have hjx : j < xs.length := by rw [hxl]; exact (Array.getElem?_eq_some_iff.1 hj).1
    exact ⟨_, (hg j f hj).trans (List.getElem?_eq_getElem hjx)⟩
  obtain ⟨y0, t0⟩ : ∃ y, DataW.trod enc Tryd.prog w base spare held n 3 (([c0, c1, c2, c3, c4, c5, c6, c7].drop 0).take (Tryd.prog.cellsOf 3)) = some y := field 0 _ rfl
  obtain ⟨y1, t1⟩ : ∃ y, DataW.trod enc Tryd.prog w base spare held n 9 (([c0, c1, c2, c3, c4, c5, c6, c7].drop 1).take (Tryd.prog.cellsOf 9)) = some y := field 1 _ rfl
  obtain ⟨y2, t2⟩ : ∃ y, DataW.trod enc Tryd.prog w base spare held n 25 (([c0, c1, c2, c3, c4, c5, c6, c7].drop 2).take (Tryd.prog.cellsOf 25)) = some y := field 2 _ rfl
  obtain ⟨y3, t3⟩ : ∃ y, DataW.trod enc Tryd.prog w base spare held n 23 (([c0, c1, c2, c3, c4, c5, c6, c7].drop 5).take (Tryd.prog.cellsOf 23)) = some y := field 3 _ rfl
  obtain ⟨y4, t4⟩ : ∃ y, DataW.trod enc Tryd.prog w base spare held n 26 (([c0, c1, c2, c3, c4, c5, c6, c7].drop 6).take (Tryd.prog.cellsOf 26)) = some y := field 4 _ rfl
  obtain ⟨y5, t5⟩ : ∃ y, DataW.trod enc Tryd.prog w base spare held n 3 (([c0, c1, c2, c3, c4, c5, c6, c7].drop 7).take (Tryd.prog.cellsOf 3)) = some y := field 5 _ rfl
  simp only [cInt, cStr, cTy, cTys, cExs, List.drop_succ_cons, List.drop_zero, List.take_succ_cons, List.take_zero] at t0 t1 t2 t3 t4 t5
  obtain ⟨k, e0, _, _⟩ := DataW.trod_int Tryd.underlying3 t0
  obtain ⟨s, e1, _, hs⟩ := DataW.trod_string Tryd.underlying9 t1
  obtain ⟨n2, r, v2, p, z, _, e2, hr, t2'⟩ := open_ty3 t2
  obtain ⟨A, m, a, us, rfl, hA⟩ := open_tys n2 t2'
  obtain ⟨B, l, b, ts, e3, hB⟩ := open_tys n t3
  obtain ⟨o, e5, _, _⟩ := DataW.trod_int Tryd.underlying3 t5
  simp only [List.cons.injEq, and_true] at e0 e1 e2 e5
  obtain ⟨rfl, rfl, rfl⟩ := e2
  subst e0 e1 e3 e5
  unfold maxLen at hs
  exact ⟨n, k, s, .mk r us p, A, m, a, B, l, b, ts, c6, o, y4, hn, rfl, hs, hr, hA, hB, t4⟩

set_option maxRecDepth 100000 in
/-- A slice of expressions that came in. -/
theorem open_exs {H : Type} {enc : TypeId × Value → H} {w : World} {base : Nat} {spare : Nat → Bool} {held : Bool} : ∀ (fuel : Nat) {v : Value} {x : DataW H × List MemPlace},
    DataW.trod enc Tryd.prog w base spare held fuel 26 [v] = some x → ∃ A n cap xs, v = .slice A n cap ∧ RowH w 8 A n (Ex.dats xs) ∧ n ≤ cap := by
  intro fuel
  induction fuel using Nat.strongRecOn with
  | _ fuel ih =>
    intro v x h
    rcases DataW.trod_slice Tryd.underlying26 h with ⟨hv, _⟩ | ⟨a, len, cap, elems, rest, n, hn, hv, _, _, hl, hm, hlen, hel, _, _⟩
    · obtain rfl : v = .slice none 0 0 := by simpa using hv
      exact ⟨none, 0, 0, [], rfl, Row.nil _ _ _ _ _, Nat.le_refl _⟩
    · obtain rfl : v = .slice (some a) len cap := by simpa using hv
      have hs : ∀ i : Nat, ∃ e : Ex, i < len → ∃ us, a.block < w.heap.size ∧ e.dat.H w us ∧ CellsAt w (a.add (i * 8)) us := fun i => by
        by_cases hlt : i < len
        · have h1 := hel i hlt
          rw [List.getElem?_eq_getElem (by omega), Option.bind_eq_some_iff] at h1
          obtain ⟨cs', hc, ht'⟩ := h1
          rw [cEx] at hc
          obtain ⟨n2, k, s, t, A, m, c, B, l, b, ts, v2, o, y, hn2, rfl, h2, h3, h4, h5, h6⟩ := open_ex8 ht'
          obtain ⟨C, r, d, ys, rfl, h7, h8⟩ := ih n2 (by omega) h6
          obtain ⟨_, _, hat⟩ := World.cells?_some hc
          have h0 := hat 0 (by omega)
          have hb := cell_lt (h0.trans rfl)
          rw [block_of_add, block_of_add] at hb
          refine ⟨.mk k s t ts ys o, fun _ => ⟨_, hb, ex_shut (e := .mk k s t ts ys o) (a := c) (b := b) h2 h3 h4 h5 h7 h8, fun j u hu => ?_⟩⟩
          have hj : j < 8 := (List.getElem?_eq_some_iff.1 hu).1
          rw [hat j hj]
          exact hu
        · exact ⟨.mk 0 ⟨#[]⟩ (.mk ⟨#[]⟩ [] 0) [] [] 0, fun h => absurd h hlt⟩
      obtain ⟨f, hf⟩ := Classical.axiomOfChoice hs
      unfold maxLen at hm
      refine ⟨some a, len, cap, (List.range len).map f, rfl, ⟨by rw [Ex.dats_len]; simp, by omega, Dat.Elems.of fun j d hj => ?_⟩, hl⟩
      rw [Ex.dats_map, List.getElem?_map, Option.map_eq_some_iff] at hj
      obtain ⟨e, he, rfl⟩ := hj
      have hjl : j < len := by
        have := (List.getElem?_eq_some_iff.1 he).1
        simpa using this
      have he2 : f j = e := by simpa [hjl] using he
      obtain ⟨us, h1, h2, h3⟩ := hf j hjl
      rw [he2] at h2
      refine ⟨a, us, rfl, h1, False.elim, h2, ?_⟩
      rw [Nat.zero_add]
      exact h3

end Go.Proofs.YtjhlehdjdaphcaaDoor
namespace Go.Proofs.YtjhlehdjdaphcaaDoor
open Go.ChangeShapes Go.WideShapes Go.ChangeAt Go.RowKit

theorem cFo : Tryd.prog.cellsOf 65 = 5 := by kernel_rfl
theorem cPa : Tryd.prog.cellsOf 67 = 5 := by kernel_rfl
theorem cSg : Tryd.prog.cellsOf 50 = 7 := by kernel_rfl
theorem cDc : Tryd.prog.cellsOf 52 = 23 := by kernel_rfl
theorem cPg : Tryd.prog.cellsOf 30 = 9 := by kernel_rfl
theorem cFos : Tryd.prog.cellsOf 46 = 1 := by kernel_rfl
theorem cPas : Tryd.prog.cellsOf 36 = 1 := by kernel_rfl
theorem cSgs : Tryd.prog.cellsOf 39 = 1 := by kernel_rfl
theorem cDcs : Tryd.prog.cellsOf 22 = 1 := by kernel_rfl
theorem cStrs : Tryd.prog.cellsOf 48 = 1 := by kernel_rfl

/-- What is read of a type of the program is a datum of its kind. -/
def Opens {H : Type} (enc : TypeId × Value → H) (w : World) (base : Nat) (spare : Nat → Bool) (held : Bool) (T : TypeId) {P : Type} (dat : P → Dat) : Prop :=
  ∀ (fuel : Nat) (cs : List Value) (x : DataW H × List MemPlace), DataW.trod enc Tryd.prog w base spare held fuel T cs = some x → ∃ p : P, (dat p).In w False (· < w.heap.size) cs
section
variable {H : Type} {enc : TypeId × Value → H} {w : World} {base : Nat} {spare : Nat → Bool} {held : Bool}

set_option maxRecDepth 100000 in
theorem opens_ty : Opens enc w base spare held 25 Ty.dat := fun fuel cs x h => by
  obtain ⟨n, s, v, o, y, _, rfl, hs, hv⟩ := open_ty3 h
  obtain ⟨A, m, c, xs, rfl, hx⟩ := open_tys n hv
  exact ⟨.mk s xs o, ty_shut (t := .mk s xs o) hs hx⟩
set_option maxRecDepth 100000 in
theorem opens_ex : Opens enc w base spare held 28 Ex.dat := fun fuel cs x h => by
  obtain ⟨n, k, s, t, A, m, a, B, l, b, ts, v, o, y, _, rfl, h2, h3, h4, h5, h6⟩ := open_ex8 h
  obtain ⟨C, r, c, xs, rfl, h7, h8⟩ := open_exs n h6
  exact ⟨.mk k s t ts xs o, ex_shut (e := .mk k s t ts xs o) h2 h3 h4 h5 h7 h8⟩
set_option maxRecDepth 100000 in
theorem opens_str : Opens enc w base spare held 9 Dat.str := fun fuel cs x h => by
  obtain ⟨s, rfl, _, hs⟩ := DataW.trod_string Tryd.underlying9 h
  unfold maxLen at hs
  exact ⟨s, by rw [Dat.In]; exact ⟨rfl, hs⟩⟩
theorem open_row {sl e : TypeId} {z : Nat} {P : Type} {dat : P → Dat} (inh : P) (hu : Tryd.prog.underlying sl = some (.slice e)) (hc : Tryd.prog.cellsOf e = z) (hz : 0 < z) (hsz : ∀ p, (dat p).size = z) (ho : Opens enc w base spare held e dat)
    {fuel : Nat} {v : Value} {x : DataW H × List MemPlace} (h : DataW.trod enc Tryd.prog w base spare held fuel sl [v] = some x) : ∃ (A : Option Addr) (n cap : Nat) (xs : List P), v = .slice A n cap ∧ RowH w z A n (xs.map dat) ∧ n ≤ cap := by
  rcases DataW.trod_slice hu h with ⟨hv, _⟩ | ⟨a, len, cap, elems, rest, n, hn, hv, _, _, hl, hm, hlen, hel, _, _⟩
  · obtain rfl : v = .slice none 0 0 := by simpa using hv
    exact ⟨none, 0, 0, [], rfl, Row.nil _ _ _ _ _, Nat.le_refl _⟩
  · obtain rfl : v = .slice (some a) len cap := by simpa using hv
    have hs : ∀ i : Nat, ∃ p : P, i < len → ∃ us, a.block < w.heap.size ∧ (dat p).H w us ∧ CellsAt w (a.add (i * z)) us := fun i => by
      by_cases hlt : i < len
      · have h1 := hel i hlt
        rw [List.getElem?_eq_getElem (by omega), Option.bind_eq_some_iff] at h1
        obtain ⟨cs', hcc, ht'⟩ := h1
        rw [hc] at hcc
        obtain ⟨p, hp⟩ := ho _ _ _ ht'
        have hlp := (Dat.In.len _ _ hp).trans (hsz p)
        obtain ⟨_, _, hat⟩ := World.cells?_some hcc
        have h0 := hat 0 hz
        have hb := cell_lt (h0.trans (List.getElem?_eq_getElem (by omega)))
        rw [block_of_add, block_of_add] at hb
        refine ⟨p, fun _ => ⟨_, hb, hp, fun j u hu => ?_⟩⟩
        have hj : j < z := by have := (List.getElem?_eq_some_iff.1 hu).1; omega
        rw [hat j hj]
        exact hu
      · exact ⟨inh, fun h => absurd h hlt⟩
    obtain ⟨f, hf⟩ := Classical.axiomOfChoice hs
    unfold maxLen at hm
    refine ⟨some a, len, cap, (List.range len).map f, rfl, ⟨by simp, by omega, Dat.Elems.of fun j d hj => ?_⟩, hl⟩
    rw [List.getElem?_map, Option.map_eq_some_iff] at hj
    obtain ⟨e, he, rfl⟩ := hj
    have hjl : j < len := by
      have := (List.getElem?_eq_some_iff.1 he).1
      simpa using this
    have he2 : f j = e := by simpa [hjl] using he
    obtain ⟨us, h1, h2, h3⟩ := hf j hjl
    rw [he2] at h2
    refine ⟨a, us, rfl, h1, False.elim, h2, ?_⟩
    rw [Nat.zero_add]
    exact h3
set_option maxRecDepth 100000 in
theorem opens_fo : Opens enc w base spare held 65 Fo.dat := fun fuel cs x h => by
  obtain ⟨xs, n, hn, _, hl, hxl, hg⟩ := DataW.trod_struct Tryd.underlying65 h
  obtain ⟨c0, c1, c2, c3, c4, rfl⟩ := list5 (hl.trans cFo)
  have field : ∀ (j : Nat) (f : Field), _ = some f → ∃ y, DataW.trod enc Tryd.prog w base spare held n f.type (([c0, c1, c2, c3, c4].drop f.offset).take (Tryd.prog.cellsOf f.type)) = some y := fun j f hj => by
    have hjx : j < xs.length := by rw [hxl]; exact (Array.getElem?_eq_some_iff.1 hj).1
    exact ⟨_, (hg j f hj).trans (List.getElem?_eq_getElem hjx)⟩
  obtain ⟨y0, t0⟩ : ∃ y, DataW.trod enc Tryd.prog w base spare held n 9 (([c0, c1, c2, c3, c4].drop 0).take (Tryd.prog.cellsOf 9)) = some y := field 0 _ rfl
  obtain ⟨y1, t1⟩ : ∃ y, DataW.trod enc Tryd.prog w base spare held n 25 (([c0, c1, c2, c3, c4].drop 1).take (Tryd.prog.cellsOf 25)) = some y := field 1 _ rfl
  obtain ⟨y2, t2⟩ : ∃ y, DataW.trod enc Tryd.prog w base spare held n 3 (([c0, c1, c2, c3, c4].drop 4).take (Tryd.prog.cellsOf 3)) = some y := field 2 _ rfl
  simp only [cInt, cStr, cTy, List.drop_succ_cons, List.drop_zero, List.take_succ_cons, List.take_zero] at t0 t1 t2
  obtain ⟨s, e0, _, hs⟩ := DataW.trod_string Tryd.underlying9 t0
  obtain ⟨t, ht⟩ := opens_ty _ _ _ t1
  obtain ⟨o, e2, _, _⟩ := DataW.trod_int Tryd.underlying3 t2
  simp only [List.cons.injEq, and_true] at e0 e2
  subst e0 e2
  unfold maxLen at hs
  obtain ⟨C, k, e, e5, hts, hta⟩ := ty_open ht
  simp only [List.cons.injEq, and_true] at e5
  obtain ⟨rfl, rfl, rfl⟩ := e5
  exact ⟨⟨s, t, o⟩, fo_shut (f := ⟨s, t, o⟩) hs hts hta⟩
set_option maxRecDepth 100000 in
theorem opens_pa : Opens enc w base spare held 67 Fo.dat := fun fuel cs x h => by
  obtain ⟨xs, n, hn, _, hl, hxl, hg⟩ := DataW.trod_struct Tryd.underlying67 h
  obtain ⟨c0, c1, c2, c3, c4, rfl⟩ := list5 (hl.trans cPa)
  have field : ∀ (j : Nat) (f : Field), _ = some f → ∃ y, DataW.trod enc Tryd.prog w base spare held n f.type (([c0, c1, c2, c3, c4].drop f.offset).take (Tryd.prog.cellsOf f.type)) = some y := fun j f hj => by
    have hjx : j < xs.length := by rw [hxl]; exact (Array.getElem?_eq_some_iff.1 hj).1
    exact ⟨_, (hg j f hj).trans (List.getElem?_eq_getElem hjx)⟩
  obtain ⟨y0, t0⟩ : ∃ y, DataW.trod enc Tryd.prog w base spare held n 9 (([c0, c1, c2, c3, c4].drop 0).take (Tryd.prog.cellsOf 9)) = some y := field 0 _ rfl
  obtain ⟨y1, t1⟩ : ∃ y, DataW.trod enc Tryd.prog w base spare held n 25 (([c0, c1, c2, c3, c4].drop 1).take (Tryd.prog.cellsOf 25)) = some y := field 1 _ rfl
  obtain ⟨y2, t2⟩ : ∃ y, DataW.trod enc Tryd.prog w base spare held n 3 (([c0, c1, c2, c3, c4].drop 4).take (Tryd.prog.cellsOf 3)) = some y := field 2 _ rfl
  simp only [cInt, cStr, cTy, List.drop_succ_cons, List.drop_zero, List.take_succ_cons, List.take_zero] at t0 t1 t2
  obtain ⟨s, e0, _, hs⟩ := DataW.trod_string Tryd.underlying9 t0
  obtain ⟨t, ht⟩ := opens_ty _ _ _ t1
  obtain ⟨o, e2, _, _⟩ := DataW.trod_int Tryd.underlying3 t2
  simp only [List.cons.injEq, and_true] at e0 e2
  subst e0 e2
  unfold maxLen at hs
  obtain ⟨C, k, e, e5, hts, hta⟩ := ty_open ht
  simp only [List.cons.injEq, and_true] at e5
  obtain ⟨rfl, rfl, rfl⟩ := e5
  exact ⟨⟨s, t, o⟩, fo_shut (f := ⟨s, t, o⟩) hs hts hta⟩
set_option maxRecDepth 100000 in
theorem opens_sg : Opens enc w base spare held 50 Sg.dat := fun fuel cs x h => by
  obtain ⟨xs, n, hn, _, hl, hxl, hg⟩ := DataW.trod_struct Tryd.underlying50 h
  obtain ⟨c0, c1, c2, c3, c4, c5, c6, rfl⟩ := list7 (hl.trans cSg)
  have field : ∀ (j : Nat) (f : Field), _ = some f → ∃ y, DataW.trod enc Tryd.prog w base spare held n f.type (([c0, c1, c2, c3, c4, c5, c6].drop f.offset).take (Tryd.prog.cellsOf f.type)) = some y := fun j f hj => by
    have hjx : j < xs.length := by rw [hxl]; exact (Array.getElem?_eq_some_iff.1 hj).1
    exact ⟨_, (hg j f hj).trans (List.getElem?_eq_getElem hjx)⟩
  obtain ⟨y0, t0⟩ : ∃ y, DataW.trod enc Tryd.prog w base spare held n 9 (([c0, c1, c2, c3, c4, c5, c6].drop 0).take (Tryd.prog.cellsOf 9)) = some y := field 0 _ rfl
  obtain ⟨y1, t1⟩ : ∃ y, DataW.trod enc Tryd.prog w base spare held n 46 (([c0, c1, c2, c3, c4, c5, c6].drop 1).take (Tryd.prog.cellsOf 46)) = some y := field 1 _ rfl
  obtain ⟨y2, t2⟩ : ∃ y, DataW.trod enc Tryd.prog w base spare held n 36 (([c0, c1, c2, c3, c4, c5, c6].drop 2).take (Tryd.prog.cellsOf 36)) = some y := field 2 _ rfl
  obtain ⟨y3, t3⟩ : ∃ y, DataW.trod enc Tryd.prog w base spare held n 25 (([c0, c1, c2, c3, c4, c5, c6].drop 3).take (Tryd.prog.cellsOf 25)) = some y := field 3 _ rfl
  obtain ⟨y4, t4⟩ : ∃ y, DataW.trod enc Tryd.prog w base spare held n 3 (([c0, c1, c2, c3, c4, c5, c6].drop 6).take (Tryd.prog.cellsOf 3)) = some y := field 4 _ rfl
  simp only [cInt, cStr, cTy, cFos, cPas, List.drop_succ_cons, List.drop_zero, List.take_succ_cons, List.take_zero] at t0 t1 t2 t3 t4
  obtain ⟨s, e0, _, hs⟩ := DataW.trod_string Tryd.underlying9 t0
  obtain ⟨A, l, c, fs, rfl, hf, _⟩ := open_row ⟨⟨#[]⟩, .mk ⟨#[]⟩ [] 0, 0⟩ Tryd.underlying46 cFo (by omega) Fo.dat_size opens_fo t1
  obtain ⟨B, m, d, ps, rfl, hp, _⟩ := open_row ⟨⟨#[]⟩, .mk ⟨#[]⟩ [] 0, 0⟩ Tryd.underlying36 cPa (by omega) Fo.dat_size opens_pa t2
  obtain ⟨t, ht⟩ := opens_ty _ _ _ t3
  obtain ⟨o, e4, _, _⟩ := DataW.trod_int Tryd.underlying3 t4
  simp only [List.cons.injEq, and_true] at e0 e4
  subst e0 e4
  unfold maxLen at hs
  obtain ⟨C, k, e, e5, hts, hta⟩ := ty_open ht
  simp only [List.cons.injEq, and_true] at e5
  obtain ⟨rfl, rfl, rfl⟩ := e5
  exact ⟨⟨s, fs, ps, t, o⟩, sg_shut (s := ⟨s, fs, ps, t, o⟩) hs hf hp hts hta⟩
def list23_ {α : Type} (l : List α) : Prop := ∃ a0 a1 a2 a3 a4 a5 a6 a7 a8 a9 a10 a11 a12 a13 a14 a15 a16 a17 a18 a19 a20 a21 a22, l = [a0, a1, a2, a3, a4, a5, a6, a7, a8, a9, a10, a11, a12, a13, a14, a15, a16, a17, a18, a19, a20, a21, a22]
theorem list23 {l : List Value} (h : l.length = 23) : list23_ l := by
  match l, h with
  | [a0, a1, a2, a3, a4, a5, a6, a7, a8, a9, a10, a11, a12, a13, a14, a15, a16, a17, a18, a19, a20, a21, a22], _ => exact ⟨a0, a1, a2, a3, a4, a5, a6, a7, a8, a9, a10, a11, a12, a13, a14, a15, a16, a17, a18, a19, a20, a21, a22, rfl⟩
set_option maxRecDepth 100000 in
set_option maxHeartbeats 1000000 in
theorem opens_dc : Opens enc w base spare held 52 Dc.dat := fun fuel cs x h => by
  obtain ⟨xs, n, hn, _, hl, hxl, hg⟩ := DataW.trod_struct Tryd.underlying52 h
  obtain ⟨c0, c1, c2, c3, c4, c5, c6, c7, c8, c9, c10, c11, c12, c13, c14, c15, c16, c17, c18, c19, c20, c21, c22, rfl⟩ := list23 (hl.trans cDc)
  have field : ∀ (j : Nat) (f : Field), _ = some f → ∃ y, DataW.trod enc Tryd.prog w base spare held n f.type (([c0, c1, c2, c3, c4, c5, c6, c7, c8, c9, c10, c11, c12, c13, c14, c15, c16, c17, c18, c19, c20, c21, c22].drop f.offset).take (Tryd.prog.cellsOf f.type)) = some y := fun j f hj => by
    have hjx : j < xs.length := by rw [hxl]; exact (Array.getElem?_eq_some_iff.1 hj).1
    exact ⟨_, (hg j f hj).trans (List.getElem?_eq_getElem hjx)⟩
  obtain ⟨y0, t0⟩ : ∃ y, DataW.trod enc Tryd.prog w base spare held n 3 (([c0, c1, c2, c3, c4, c5, c6, c7, c8, c9, c10, c11, c12, c13, c14, c15, c16, c17, c18, c19, c20, c21, c22].drop 0).take (Tryd.prog.cellsOf 3)) = some y := field 0 _ rfl
  obtain ⟨y1, t1⟩ : ∃ y, DataW.trod enc Tryd.prog w base spare held n 9 (([c0, c1, c2, c3, c4, c5, c6, c7, c8, c9, c10, c11, c12, c13, c14, c15, c16, c17, c18, c19, c20, c21, c22].drop 1).take (Tryd.prog.cellsOf 9)) = some y := field 1 _ rfl
  obtain ⟨y2, t2⟩ : ∃ y, DataW.trod enc Tryd.prog w base spare held n 46 (([c0, c1, c2, c3, c4, c5, c6, c7, c8, c9, c10, c11, c12, c13, c14, c15, c16, c17, c18, c19, c20, c21, c22].drop 2).take (Tryd.prog.cellsOf 46)) = some y := field 2 _ rfl
  obtain ⟨y3, t3⟩ : ∃ y, DataW.trod enc Tryd.prog w base spare held n 36 (([c0, c1, c2, c3, c4, c5, c6, c7, c8, c9, c10, c11, c12, c13, c14, c15, c16, c17, c18, c19, c20, c21, c22].drop 3).take (Tryd.prog.cellsOf 36)) = some y := field 3 _ rfl
  obtain ⟨y4, t4⟩ : ∃ y, DataW.trod enc Tryd.prog w base spare held n 39 (([c0, c1, c2, c3, c4, c5, c6, c7, c8, c9, c10, c11, c12, c13, c14, c15, c16, c17, c18, c19, c20, c21, c22].drop 4).take (Tryd.prog.cellsOf 39)) = some y := field 4 _ rfl
  obtain ⟨y5, t5⟩ : ∃ y, DataW.trod enc Tryd.prog w base spare held n 9 (([c0, c1, c2, c3, c4, c5, c6, c7, c8, c9, c10, c11, c12, c13, c14, c15, c16, c17, c18, c19, c20, c21, c22].drop 5).take (Tryd.prog.cellsOf 9)) = some y := field 5 _ rfl
  obtain ⟨y6, t6⟩ : ∃ y, DataW.trod enc Tryd.prog w base spare held n 48 (([c0, c1, c2, c3, c4, c5, c6, c7, c8, c9, c10, c11, c12, c13, c14, c15, c16, c17, c18, c19, c20, c21, c22].drop 6).take (Tryd.prog.cellsOf 48)) = some y := field 6 _ rfl
  obtain ⟨y7, t7⟩ : ∃ y, DataW.trod enc Tryd.prog w base spare held n 50 (([c0, c1, c2, c3, c4, c5, c6, c7, c8, c9, c10, c11, c12, c13, c14, c15, c16, c17, c18, c19, c20, c21, c22].drop 7).take (Tryd.prog.cellsOf 50)) = some y := field 7 _ rfl
  obtain ⟨y8, t8⟩ : ∃ y, DataW.trod enc Tryd.prog w base spare held n 28 (([c0, c1, c2, c3, c4, c5, c6, c7, c8, c9, c10, c11, c12, c13, c14, c15, c16, c17, c18, c19, c20, c21, c22].drop 14).take (Tryd.prog.cellsOf 28)) = some y := field 8 _ rfl
  obtain ⟨y9, t9⟩ : ∃ y, DataW.trod enc Tryd.prog w base spare held n 3 (([c0, c1, c2, c3, c4, c5, c6, c7, c8, c9, c10, c11, c12, c13, c14, c15, c16, c17, c18, c19, c20, c21, c22].drop 22).take (Tryd.prog.cellsOf 3)) = some y := field 9 _ rfl
  simp only [cInt, cStr, cFos, cPas, cSgs, cStrs, cSg, cEx, List.drop_succ_cons, List.drop_zero, List.take_succ_cons, List.take_zero] at t0 t1 t2 t3 t4 t5 t6 t7 t8 t9
  obtain ⟨k, e0, _, _⟩ := DataW.trod_int Tryd.underlying3 t0
  obtain ⟨s, e1, _, hs⟩ := DataW.trod_string Tryd.underlying9 t1
  obtain ⟨A, l, c, fs, rfl, hf, _⟩ := open_row ⟨⟨#[]⟩, .mk ⟨#[]⟩ [] 0, 0⟩ Tryd.underlying46 cFo (by omega) Fo.dat_size opens_fo t2
  obtain ⟨B, m, d, ps, rfl, hp, _⟩ := open_row ⟨⟨#[]⟩, .mk ⟨#[]⟩ [] 0, 0⟩ Tryd.underlying36 cPa (by omega) Fo.dat_size opens_pa t3
  obtain ⟨G, ng, cg, gs, rfl, hgs, _⟩ := open_row Sg.none? Tryd.underlying39 cSg (by omega) Sg.dat_size opens_sg t4
  obtain ⟨r, e5, _, hr⟩ := DataW.trod_string Tryd.underlying9 t5
  obtain ⟨V, nv, cv, vs, rfl, hv, _⟩ := open_row ⟨#[]⟩ Tryd.underlying48 cStr (by omega) (fun _ => rfl) opens_str t6
  obtain ⟨sg, hsg⟩ := opens_sg _ _ _ t7
  obtain ⟨b, hb⟩ := opens_ex _ _ _ t8
  obtain ⟨o, e9, _, _⟩ := DataW.trod_int Tryd.underlying3 t9
  simp only [List.cons.injEq, and_true] at e0 e1 e5 e9
  subst e0 e1 e5 e9
  unfold maxLen at hs hr
  exact ⟨⟨k, s, fs, ps, gs, r, vs, sg, b, o⟩, dc_shut (d := ⟨k, s, fs, ps, gs, r, vs, sg, b, o⟩) hs hf hp hgs hr hv hsg hb⟩
theorem list9 {l : List Value} (h : l.length = 9) : ∃ a b c d e f g i j, l = [a, b, c, d, e, f, g, i, j] := by
  match l, h with
  | [a, b, c, d, e, f, g, i, j], _ => exact ⟨a, b, c, d, e, f, g, i, j, rfl⟩
set_option maxRecDepth 100000 in
theorem opens_pg : Opens enc w base spare held 30 Pg.dat := fun fuel cs x h => by
  obtain ⟨xs, n, hn, _, hl, hxl, hg⟩ := DataW.trod_struct Tryd.underlying30 h
  obtain ⟨c0, c1, c2, c3, c4, c5, c6, c7, c8, rfl⟩ := list9 (hl.trans cPg)
  have field : ∀ (j : Nat) (f : Field), _ = some f → ∃ y, DataW.trod enc Tryd.prog w base spare held n f.type (([c0, c1, c2, c3, c4, c5, c6, c7, c8].drop f.offset).take (Tryd.prog.cellsOf f.type)) = some y := fun j f hj => by
    have hjx : j < xs.length := by rw [hxl]; exact (Array.getElem?_eq_some_iff.1 hj).1
    exact ⟨_, (hg j f hj).trans (List.getElem?_eq_getElem hjx)⟩
  obtain ⟨y0, t0⟩ : ∃ y, DataW.trod enc Tryd.prog w base spare held n 22 (([c0, c1, c2, c3, c4, c5, c6, c7, c8].drop 0).take (Tryd.prog.cellsOf 22)) = some y := field 0 _ rfl
  obtain ⟨y1, t1⟩ : ∃ y, DataW.trod enc Tryd.prog w base spare held n 28 (([c0, c1, c2, c3, c4, c5, c6, c7, c8].drop 1).take (Tryd.prog.cellsOf 28)) = some y := field 1 _ rfl
  simp only [cDcs, cEx, List.drop_succ_cons, List.drop_zero, List.take_succ_cons, List.take_zero] at t0 t1
  obtain ⟨A, l, c, ds, rfl, hd, _⟩ := open_row Dc.none? Tryd.underlying22 cDc (by omega) Dc.dat_size opens_dc t0
  obtain ⟨b, hb⟩ := opens_ex _ _ _ t1
  exact ⟨⟨ds, b⟩, pg_shut (p := ⟨ds, b⟩) hd hb⟩
end
set_option maxRecDepth 100000 in
theorem open_byV {H : Type} {enc : TypeId × Value → H} {w : World} {base b0 : Nat} {r : Reach} {spare : Nat → Bool} {held : Bool} {v : Value} {d : DataW H} {p : List MemPlace} {T : TypeId} {fs : Array Field} {P : Type} {dat : P → Dat} (hu : Tryd.prog.underlying T = some (.struct fs)) (ho : Opens enc w base spare held T dat)
    (hv : Value.okWide Tryd.prog w r b0 T v) (h : DataW.Trod enc Tryd.prog w base spare held T v d p) : ∃ (e : P) (us : List Value), v = .agg us.toArray ∧ (dat e).H w us := by
  obtain ⟨cs, rfl, _⟩ := okWide_struct hu hv
  obtain ⟨f, hf⟩ := h
  obtain ⟨e, he⟩ := ho _ _ _ hf
  exact ⟨e, cs.toList, by simp, by simpa [Value.cells] using he⟩
set_option maxRecDepth 100000 in
/-- A program that came in by value. -/
theorem open_pgV {H : Type} {enc : TypeId × Value → H} {w : World} {base b0 : Nat} {r : Reach} {spare : Nat → Bool} {held : Bool} {v : Value} {d : DataW H} {p : List MemPlace}
    (hv : Value.okWide Tryd.prog w r b0 30 v) (h : DataW.Trod enc Tryd.prog w base spare held 30 v d p) : ∃ (e : Pg) (us : List Value), v = .agg us.toArray ∧ e.dat.H w us := open_byV Tryd.underlying30 opens_pg hv h
end Go.Proofs.YtjhlehdjdaphcaaDoor
namespace Go.Proofs.YtjhlehdjdaphcaaDoor
open Go.ChangeShapes Go.WideShapes Go.ChangeAt Go.RowKit

namespace Bd
theorem tPow : (Tryd.prog.globals[0]?).map (·.type) = some 141 := by kernel_rfl
theorem cPow : Tryd.prog.cellsOf 141 = 20 := by kernel_rfl
theorem cU64 : Tryd.prog.cellsOf 134 = 1 := by kernel_rfl
def laidData : List (String × DataW Unit) := [("math/bits.deBruijn32tab", Rows.laid_math_bits_deBruijn32tab), ("math/bits.deBruijn64tab", Rows.laid_math_bits_deBruijn64tab), ("internal/strconv.uint64pow10", Rows.laid_internal_strconv_uint64pow10)]
theorem pow_of_laid {W : World} (h : laidMetH Tryd.prog laidData W) : PowVar W := by
  have h' : laidMet Tryd.prog laidData W := h
  obtain ⟨r2, h2⟩ := laidMet_mem h' (x := ("internal/strconv.uint64pow10", Rows.laid_internal_strconv_uint64pow10)) (by simp [laidData])
  exact Lib.tabIs_of_head (rest := r2) (zs := Lib.pow10Tab) (k := .u64) gPow tPow Tryd.underlying141 Tryd.underlying134 cU64 cPow h2
end Bd
end Go.Proofs.YtjhlehdjdaphcaaDoor
