/- The table in memory: its keys, its two maps and what they give. No condition. -/
import Derived.Test.YtjhlehdjdaphcaaDoorQMDcM
import Derived.Test.YtjhlehdjdaphcaaDoorQMTbP
import Derived.DeepKeys4
import Derived.Maps.OwnSet
namespace Go.Proofs.YtjhlehdjdaphcaaDoor
open Go.RowKit

/-! ### keys -/
theorem laidTb : laidOutB Tryd.prog = true := by kernel_rfl
theorem rowKy : (79 : TypeId) < Tryd.prog.types.size := of_decide_eq_true (by kernel_rfl)
theorem deepKy : Tryd.prog.keyTypeAt (Tryd.prog.types.size + 1) 79 = true := by kernel_rfl
theorem wideKy : (match Tryd.prog.underlying 79 with | some (.array _ _) | some (.struct _) => true | _ => false) = true := by kernel_rfl
set_option maxRecDepth 100000 in
theorem lawKy : Go.Maps.Keyed Tryd.prog 79 := Go.Maps.Keyed.of_law (deep_law_laid laidTb (m := 2) (by omega) rowKy (by kernel_rfl) wideKy)
theorem cellsKy : Tryd.prog.cellsOf 79 = 3 := by kernel_rfl
theorem cellsKyB : Tryd.prog.cellsOf 4 = 1 := by kernel_rfl
theorem cellsKyS : Tryd.prog.cellsOf 9 = 1 := by kernel_rfl
theorem sizeTb : Tryd.prog.types.size = 166 := by kernel_rfl
abbrev kyV (b : Bool) (s m : ByteArray) : Value := .agg #[.bool b, .string s, .string m]
def kyB (b : Bool) (s m : ByteArray) : Lit := .string (keyBytes [.bool b, .string s.data.toList, .string m.data.toList])
abbrev kyK (b : Bool) (s m : ByteArray) : Ky := (b, s.data.toList, m.data.toList)
set_option maxRecDepth 100000 in
theorem keyOf_ky (b : Bool) {s m : ByteArray} (hs : s.size ≤ 9223372036854775807) (hm : m.size ≤ 9223372036854775807) : keyOf Tryd.prog 79 (kyV b s m) = some (kyB b s m) := by
  have h1 : Tryd.prog.keyType 79 = true := deepKy
  have h2 : (kyV b s m).formed Tryd.prog 79 = true := by simp [Value.formed, Tryd.underlying79, cellsKy]
  have h3 : Tryd.prog.keyLits (Tryd.prog.types.size + 1) 79 [.bool b, .string s, .string m] = some [.bool b, .string s.data.toList, .string m.data.toList] := by
    obtain ⟨n, hn⟩ : ∃ n, Tryd.prog.types.size = n + 1 := ⟨_, sizeTb⟩
    rw [hn]
    simp [Program.keyLits, Tryd.underlying79, Tryd.underlying4, Tryd.underlying9, cellsKy, cellsKyB, cellsKyS, maxLen, hs, hm]
  unfold keyOf
  rw [Tryd.underlying79]
  simp only [h1, h2, Bool.and_self, if_true]
  show Option.map _ (Tryd.prog.keyLits (Tryd.prog.types.size + 1) 79 [.bool b, .string s, .string m]) = _
  rw [h3]
  rfl
theorem kyB_inj {b b' : Bool} {s m s' m' : ByteArray} (hs : s.size ≤ 9223372036854775807) (hm : m.size ≤ 9223372036854775807) (hs' : s'.size ≤ 9223372036854775807) (hm' : m'.size ≤ 9223372036854775807) (h : kyB b s m = kyB b' s' m') : kyK b s m = kyK b' s' m' := by
  have h1 := keyOf_ky b hs hm
  rw [h] at h1
  have h2 := lawKy.inj h1 (keyOf_ky b' hs' hm')
  simp only [Value.agg.injEq, Array.mk.injEq, List.cons.injEq, Value.bool.injEq, Value.string.injEq, and_true] at h2
  obtain ⟨rfl, rfl, rfl⟩ := h2
  rfl
theorem isKyB (b : Bool) (s m : ByteArray) : WideAt.IsKeyLit (kyB b s m) := trivial
theorem zeroIn (w : World) : (zeroValue 3).run Tryd.prog w = .ok (.int .i64 0) w := by kernel_rfl
theorem zeroSl (w : World) : (zeroValue 83).run Tryd.prog w = .ok (.slice none 0 0) w := by kernel_rfl
theorem ownsMapK_below {K : TypeId} {w w' : World} {g n B : Nat} {D : DataW Value} (h : w.ownsMap Tryd.prog K mR g n D) (hb : Below B w w') (hg : g < B) : w'.ownsMap Tryd.prog K mR g n D := by
  obtain ⟨es, clock, h1, F, hs, hD⟩ := h
  exact ⟨es, clock, (hb.block g hg).trans h1, F, hs, hD⟩

/-! ### the map of first declarations -/
def FGives (D : DataW Value) (f : Ky → Option Nat) : Prop := ∀ (b : Bool) (s m : ByteArray), s.size ≤ 9223372036854775807 → m.size ≤ 9223372036854775807 →
  match f (kyK b s m) with
  | none => Go.Maps.has D (kyB b s m) = false
  | some i => Go.Maps.has D (kyB b s m) = true ∧ ∀ z, D.atKey (kyB b s m) z = .held (.int .i64 (i : Int))
def FirstAt (w : World) (g n : Nat) (f : Ky → Option Nat) : Prop := ∃ D, w.ownsMap Tryd.prog 79 mR g n D ∧ FGives D f
theorem FirstAt.lt {w : World} {g n : Nat} {f : Ky → Option Nat} (h : FirstAt w g n f) : g < w.heap.size := by
  obtain ⟨D, h1, _⟩ := h
  exact h1.lt
theorem FirstAt.later {w w' : World} {g n : Nat} {f : Ky → Option Nat} (h : FirstAt w g n f) (hb : Below w.heap.size w w') : FirstAt w' g n f := by
  have hl := h.lt
  obtain ⟨D, h1, h2⟩ := h
  exact ⟨D, ownsMapK_below h1 hb hl, h2⟩
theorem FirstAt.kept {w w' : World} {r : Option Nat} {g n : Nat} {f : Ky → Option Nat} (h : FirstAt w g n f) (hg : w.grownBy w' r) (hr : some g ≠ r) : FirstAt w' g n f := by
  obtain ⟨D, h1, h2⟩ := h
  exact ⟨D, h1.kept hg hr, h2⟩
theorem FirstAt.mono {w : World} {g n n' : Nat} {f : Ky → Option Nat} (h : FirstAt w g n f) (hn : n ≤ n') : FirstAt w g n' f := by
  obtain ⟨D, h1, h2⟩ := h
  exact ⟨D, h1.mono hn, h2⟩
theorem FirstAt.made (w : World) : FirstAt (w.alloc (.map #[] 0)) w.heap.size 0 (fun _ => none) := ⟨.map [], World.ownsMap_made _ _ _ _, fun _ _ _ _ _ => rfl⟩
/-- A look-up: the index, and whether it is there. -/
theorem FirstAt.look {w : World} {g n : Nat} {f : Ky → Option Nat} (h : FirstAt w g n f) (b : Bool) {s m : ByteArray} (hs : s.size ≤ 9223372036854775807) (hm : m.size ≤ 9223372036854775807) :
    (Instr.lookup 74 (.map (some g)) (kyV b s m) true).run Tryd.prog w = .ok (.tuple #[.int .i64 (((f (kyK b s m)).getD 0 : Nat) : Int), .bool (f (kyK b s m)).isSome]) w := by
  obtain ⟨D, h1, h2⟩ := h
  have h3 := h2 b s m hs hm
  obtain ⟨v, ps, hrun, hv⟩ := h1.look_ok lawKy Tryd.underlying74 (zeroIn w) (zd := .held (.int .i64 0)) (zp := []) rfl (keyOf_ky b hs hm)
  cases hf : f (kyK b s m) with
  | none =>
    rw [hf] at h3
    rw [h3] at hrun
    rw [Go.Maps.atKey_of_not_has h3] at hv
    obtain rfl : v = .int .i64 0 := by simpa [mR] using congrArg (Option.map Prod.fst) hv
    exact hrun
  | some i =>
    rw [hf] at h3
    obtain ⟨h4, h7⟩ := h3
    rw [h4] at hrun
    rw [h7] at hv
    obtain rfl : v = .int .i64 (i : Int) := by simpa [mR] using congrArg (Option.map Prod.fst) hv
    exact hrun
/-- One more key: it was not there. -/
theorem FGives.put {D : DataW Value} {f f' : Ky → Option Nat} {b : Bool} {s m : ByteArray} {k : Nat} (h : FGives D f) (hM : Go.Maps.IsMap D) (hs : s.size ≤ 9223372036854775807) (hm : m.size ≤ 9223372036854775807) (hno : f (kyK b s m) = none)
    (hf : ∀ x, f' x = (f x).or (if kyK b s m = x then some k else none)) : FGives (D.put (kyB b s m) (.held (.int .i64 (k : Int)))) f' := fun b' s' m' hs' hm' => by
  have h3 := h b' s' m' hs' hm'
  rw [hf]
  by_cases he : kyK b s m = kyK b' s' m'
  · rw [if_pos he, ← he, hno]
    have he2 : kyB b' s' m' = kyB b s m := by
      have he' := he
      simp only [kyK, Prod.mk.injEq] at he'
      rw [kyB, kyB, he'.1, he'.2.1, he'.2.2]
    rw [he2]
    exact ⟨Go.Maps.has_put_same hM (isKyB _ _ _) _, fun z => Go.Maps.atKey_put_same hM (isKyB _ _ _) _ z⟩
  · have hne : kyB b' s' m' ≠ kyB b s m := fun e => he (kyB_inj hs hm hs' hm' e.symm)
    rw [if_neg he, Option.or_none]
    revert h3
    cases f (kyK b' s' m') with
    | none => exact fun h3 => by rw [Go.Maps.has_put_other hne]; exact h3
    | some i => exact fun h3 => ⟨by rw [Go.Maps.has_put_other hne]; exact h3.1, fun z => by rw [Go.Maps.atKey_put_other hne]; exact h3.2 z⟩

/-! ### the map of methods -/
abbrev ints (l : List Nat) : List Value := l.map fun i : Nat => .int .i64 (i : Int)
abbrev intD (l : List Nat) : List Dat := l.map fun i : Nat => .cell (.int .i64 (i : Int))
/-- While it is made: each list in a row of its own, from lo on. -/
def MethOwn (w : World) (lo top g n : Nat) (f : List UInt8 → List Nat) : Prop := g < lo ∧ ∃ (D : DataW Value) (v : List UInt8 → Value), w.ownsMap Tryd.prog 9 mR g n D
  ∧ (∀ l : List UInt8, (f l = [] → Go.Maps.has D (.string l) = false) ∧ (f l ≠ [] → Go.Maps.has D (.string l) = true ∧ ∀ z, D.atKey (.string l) z = .held (v l)))
  ∧ (∀ l, f l ≠ [] → w.ownsRow lo 3 1 (v l) (f l).length (ints (f l)) ∧ ∀ b, (v l).ownBlock = some b → b < top)
  ∧ ∀ l l', f l ≠ [] → f l' ≠ [] → l ≠ l' → (v l).ownBlock ≠ (v l').ownBlock
theorem MethOwn.made (w : World) (lo top : Nat) (h : w.heap.size < lo) : MethOwn (w.alloc (.map #[] 0)) lo top w.heap.size 0 (fun _ => []) :=
  ⟨h, .map [], fun _ => undef, World.ownsMap_made _ _ _ _, fun _ => ⟨fun _ => rfl, fun h => absurd rfl h⟩, fun _ h => absurd rfl h, fun _ _ h => absurd rfl h⟩
theorem MethOwn.mono {w : World} {lo top g n n' : Nat} {f : List UInt8 → List Nat} (h : MethOwn w lo top g n f) (hn : n ≤ n') : MethOwn w lo top g n' f := by
  obtain ⟨h0, D, v, h1, h2⟩ := h
  exact ⟨h0, D, v, h1.mono hn, h2⟩
theorem MethOwn.below {w w' : World} {lo top g n : Nat} {f : List UInt8 → List Nat} (h : MethOwn w lo top g n f) (hb : Below w.heap.size w w') : MethOwn w' lo top g n f := by
  obtain ⟨h0, D, v, h1, h2, h3, h4⟩ := h
  exact ⟨h0, D, v, ownsMapK_below h1 hb h1.lt, h2, fun l hl => ⟨own_below (h3 l hl).1 hb, (h3 l hl).2⟩, h4⟩
/-- A block below lo is written, not the map's. -/
theorem MethOwn.kept {w w' : World} {lo top g n r : Nat} {f : List UInt8 → List Nat} (h : MethOwn w lo top g n f) (hg : w.grownBy w' (some r)) (hr : g ≠ r) (hlo : r < lo) : MethOwn w' lo top g n f := by
  obtain ⟨h0, D, v, h1, h2, h3, h4⟩ := h
  refine ⟨h0, D, v, h1.kept hg (fun e => hr (Option.some.inj e)), h2, fun l hl => ⟨(h3 l hl).1.kept hg (.inr fun e => ?_), (h3 l hl).2⟩, h4⟩
  have := ((h3 l hl).1.lt r e).1
  omega
/-- The list at a name, and the way back. -/
theorem MethOwn.look {w : World} {lo top g n : Nat} {f : List UInt8 → List Nat} (h : MethOwn w lo top g n f) {s : ByteArray} (hs : s.size ≤ 9223372036854775807) :
    ∃ u, (∀ w', Below w.heap.size w w' → (Instr.lookup 75 (.map (some g)) (.string s) false).run Tryd.prog w' = .ok u w') ∧ w.ownsRow lo 3 1 u (f s.data.toList).length (ints (f s.data.toList)) ∧ (∀ b, u.ownBlock = some b → b < top)
      ∧ ∃ D, w.ownsMap Tryd.prog 9 mR g n D ∧ ∀ (w1 w2 : World) (u' : Value) (k : Nat), w.grownBy w1 u.ownBlock → w1.ownsRow lo 3 1 u' ((f s.data.toList).length + 1) (ints (f s.data.toList) ++ [.int .i64 (k : Int)]) → (u'.ownBlock = u.ownBlock ∨ ∃ gg, u'.ownBlock = some gg ∧ w.heap.size ≤ gg) →
        w2.ownsMap Tryd.prog 9 mR g (n + 1) (D.put (.string s.data.toList) (.held u')) → w1.grownBy w2 (some g) → MethOwn w2 lo w2.heap.size g (n + 1) (fun l => f l ++ if l = s.data.toList then [k] else []) := by
  obtain ⟨h0, D, v, h1, h2, h3, h4⟩ := h
  obtain ⟨u, hu⟩ : ∃ u, u = if f s.data.toList = [] then .slice none 0 0 else v s.data.toList := ⟨_, rfl⟩
  refine ⟨u, fun w' hb => ?_, ?_, ?_, D, h1, ?_⟩
  · obtain ⟨x, ps, hrun, hx⟩ := (ownsMapK_below h1 hb h1.lt).lookup strKeyed Tryd.underlying75 (zeroSl w') (zd := .held (.slice none 0 0)) (zp := []) rfl (keyS hs)
    have hxu : x = u := by
      rw [hu]
      by_cases he : f s.data.toList = []
      · rw [if_pos he]
        rw [Go.Maps.atKey_of_not_has ((h2 _).1 he)] at hx
        simpa [mR] using congrArg (Option.map Prod.fst) hx
      · rw [if_neg he]
        rw [((h2 _).2 he).2] at hx
        simpa [mR] using congrArg (Option.map Prod.fst) hx
    rw [hrun, hxu]
  · rw [hu]
    by_cases he : f s.data.toList = []
    · rw [if_pos he, he]
      exact World.ownsRow_nil _ _ _ _
    · rw [if_neg he]
      exact (h3 _ he).1
  · rw [hu]
    by_cases he : f s.data.toList = []
    · rw [if_pos he]
      intro b hb
      cases hb
    · rw [if_neg he]
      exact (h3 _ he).2
  · intro w1 w2 u' k hg hown hloc hm hg2
    have hub : ∀ l, f l ≠ [] → l ≠ s.data.toList → (v l).ownBlock = none ∨ (v l).ownBlock ≠ u.ownBlock := fun l hl hne => by
      rw [hu]
      by_cases he : f s.data.toList = []
      · rw [if_pos he]
        cases (v l).ownBlock <;> simp [Value.ownBlock]
      · rw [if_neg he]
        exact .inr (h4 l _ hl he hne)
    have hgl : ∀ {x : Value} {W : World} {m : Nat} {xs : List Value}, W.ownsRow lo 3 1 x m xs → x.ownBlock = none ∨ x.ownBlock ≠ some g := fun {x W m xs} hx => .inr fun e => by
      have := (hx.lt g e).1
      omega
    have hk : ∀ l, f l ≠ [] → l ≠ s.data.toList → w2.ownsRow lo 3 1 (v l) (f l).length (ints (f l)) := fun l hl hne => ((h3 l hl).1.kept hg (hub l hl hne)).kept hg2 (hgl (h3 l hl).1)
    have hne' : ∀ l, f l ≠ [] → l ≠ s.data.toList → (v l).ownBlock ≠ u'.ownBlock := fun l hl hne e => by
      rcases hloc with h5 | ⟨gg, h5, h6⟩
      · rcases hub l hl hne with h7 | h7
        · have hpos : 0 < (f l).length := List.length_pos_iff.2 hl
          rcases (h3 l hl).1.2 with ⟨h8, h9⟩ | ⟨g8, c8, cur, h8, _⟩
          · omega
          · rw [h8] at h7; cases h7
        · exact h7 (e.trans h5)
      · have := ((h3 l hl).1.lt gg (e.trans h5)).2
        omega
    refine ⟨h0, _, fun l => if l = s.data.toList then u' else v l, hm, fun l => ?_, fun l hl => ?_, fun l l' hl hl' hne => ?_⟩
    · by_cases he : l = s.data.toList
      · subst he
        simp only [if_true]
        exact ⟨fun h => by simp at h, fun _ => ⟨Go.Maps.has_put_same h1.isMap (isKeyS _) _, fun z => Go.Maps.atKey_put_same h1.isMap (isKeyS _) _ z⟩⟩
      · have hne : (Lit.string l) ≠ .string s.data.toList := fun e => he (by injection e)
        simp only [if_neg he, List.append_nil]
        rw [Go.Maps.has_put_other hne]
        exact ⟨(h2 l).1, fun h => ⟨((h2 l).2 h).1, fun z => by rw [Go.Maps.atKey_put_other hne]; exact ((h2 l).2 h).2 z⟩⟩
    · by_cases he : l = s.data.toList
      · subst he
        simp only [if_true, List.length_append, List.length_cons, List.length_nil, Nat.zero_add, ints, List.map_append, List.map_cons, List.map_nil]
        exact ⟨hown.kept hg2 (hgl hown), fun b hb => ((hown.kept hg2 (hgl hown)).lt b hb).2⟩
      · simp only [if_neg he, List.append_nil] at hl ⊢
        exact ⟨hk l hl he, fun b hb => ((hk l hl he).lt b hb).2⟩
    · by_cases he : l = s.data.toList
      · by_cases he' : l' = s.data.toList
        · exact absurd (he.trans he'.symm) hne
        · simp only [if_neg he', List.append_nil] at hl'
          simp only [if_pos he, if_neg he']
          exact fun e => hne' l' hl' he' e.symm
      · simp only [if_neg he, List.append_nil] at hl
        by_cases he' : l' = s.data.toList
        · simp only [if_neg he, if_pos he']
          exact hne' l hl he
        · simp only [if_neg he', List.append_nil] at hl'
          simp only [if_neg he, if_neg he']
          exact h4 l l' hl hl' hne
/-- When it is made: the list at a name. -/
def MethAt (w : World) (g : Nat) (f : List UInt8 → List Nat) : Prop := g < w.heap.size ∧ ∀ s : ByteArray, s.size ≤ 9223372036854775807 →
  ∃ A c, RowH w 1 A (f s.data.toList).length (intD (f s.data.toList)) ∧ ∀ w', Below w.heap.size w w' → (Instr.lookup 75 (.map (some g)) (.string s) false).run Tryd.prog w' = .ok (.slice A (f s.data.toList).length c) w'
theorem MethAt.later {w w' : World} {g : Nat} {f : List UInt8 → List Nat} (h : MethAt w g f) (hb : Below w.heap.size w w') : MethAt w' g f :=
  ⟨Nat.lt_of_lt_of_le h.1 hb.size, fun s hs => by
    obtain ⟨A, c, h1, h2⟩ := h.2 s hs
    exact ⟨A, c, RowH.later h1 hb, fun w'' hb' => h2 w'' (hb.trans (hb'.mono hb.size))⟩⟩
theorem int_ins {w : World} : ∀ l : List Nat, Dat.Ins w False (fun _ => False) (intD l) (ints l)
  | [] => by show Dat.Ins _ _ _ [] []; rw [Dat.Ins]
  | i :: r => by
    show Dat.Ins _ _ _ (.cell (.int .i64 (i : Int)) :: intD r) (.int .i64 (i : Int) :: ints r)
    rw [Dat.Ins]
    exact ⟨[_], ints r, rfl, by rw [Dat.In], int_ins r⟩
theorem MethOwn.at_ {w : World} {lo top g n : Nat} {f : List UInt8 → List Nat} (h : MethOwn w lo top g n f) (hl : ∀ l, (f l).length ≤ 1000000) : MethAt w g f := by
  refine ⟨h.2.choose_spec.choose_spec.1.lt, fun s hs => ?_⟩
  obtain ⟨u, h1, h2, _, _⟩ := h.look hs
  obtain ⟨A, c, rfl, h3, _⟩ := row_of_own (S' := (· < w.heap.size)) h2 (int_ins _) (fun d hd => by obtain ⟨i, _, rfl⟩ := List.mem_map.1 hd; rfl) (by omega) (fun _ h => h.elim) (fun g hg => (h2.lt g hg).2) (by have := hl s.data.toList; omega)
  exact ⟨A, c, h3, h1⟩

/-! ### the table -/
/-- The table of a program in block tb; its data lie below lo. -/
structure TabH (lo : Nat) (w : World) (tb : Nat) (p : Pg) : Prop where
  le : lo ≤ w.heap.size
  ex : ∃ us g1 g2 n, p.dat.In w False (· < lo) us ∧ Boxd w tb (us ++ [.map (some g1), .map (some g2)]) ∧ FirstAt w g1 n (idxK p.ds) ∧ MethAt w g2 (fun l => mlist p.ds l p.ds.length)
theorem TabH.later {lo : Nat} {w w' : World} {tb : Nat} {p : Pg} (h : TabH lo w tb p) (hb : Below w.heap.size w w') : TabH lo w' tb p := by
  obtain ⟨us, g1, g2, n, h1, h2, h3, h4⟩ := h.ex
  exact ⟨Nat.le_trans h.le hb.size, us, g1, g2, n, Dat.In.later h1 hb (fun k hk => Nat.lt_of_lt_of_le hk h.le), h2.later hb, h3.later hb, h4.later hb⟩
/-- A receiver: no table, as that of a zero program, or the table of a program. -/
def TabR (lo : Nat) (w : World) (r : Value) (p : Pg) : Prop := (r = .pointer none ∧ p = ⟨[], Ex.none?⟩) ∨ ∃ tb, r = .pointer (some ⟨tb, 0, none⟩) ∧ TabH lo w tb p
theorem TabR.later {lo : Nat} {w w' : World} {r : Value} {p : Pg} (h : TabR lo w r p) (hb : Below w.heap.size w w') : TabR lo w' r p := by
  rcases h with h | ⟨tb, h1, h2⟩
  · exact .inl h
  · exact .inr ⟨tb, h1, h2.later hb⟩
/-- A datum that lies below lo. -/
def LAt (lo : Nat) (w : World) (d : Dat) (e : Ending) (w' : World) : Prop := ∃ us, e = .returned (.agg us.toArray) ∧ d.In w' False (· < lo) us ∧ Below w.heap.size w w'
end Go.Proofs.YtjhlehdjdaphcaaDoor
