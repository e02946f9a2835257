/- From what the rows list of package-level variables to what the walks ask of them (Env); arguments opened; the row's last step for a law that leaves what lay as it lay. No condition. -/
import Derived.Test.YtihmdhephcpgmaaDoorFtL
import Derived.Test.YtihmdhephcpgmaaDoorRows
import Derived.ProofKit
import Derived.LaidMore
import Derived.Stop.LaidErr
import Derived.Stop.Joined
import Derived.Deep.Slices
import Derived.Deep.Fields
import Derived.Lib.SmallJoins
import Derived.Carry
namespace Go.Proofs.YtihmdhephcpgmaaDoor
open Go.ChangeShapes Go.WideShapes Go.ChangeAt Go.RowKit

theorem laidOut : laidOutB Tryd.prog = true := by kernel_rfl

/-- Arguments read behind the call as they did before, whatever they are. -/
theorem trodAll_stays {H : Type} {enc : TypeId × Value → H} {P : Program} (hl : laidOutB P = true) {W W' : World} (hb : Below W.heap.size W W') :
    ∀ (ts : List TypeId) (vs : List Value) (ds : List (DataW H)) (ps : List MemPlace), (∀ t ∈ ts, P.readableRec t = true ∧ t < P.types.size) →
      DataW.TrodAll enc P W 0 (fun _ => true) true ts vs ds ps → (∀ x ∈ ps, x.block < W.heap.size) → DataW.TrodAll enc P W' 0 (fun b => decide (b < W.heap.size)) true ts vs ds ps := by
  intro ts
  induction ts with
  | nil =>
    intro vs ds ps _ h _
    cases vs <;> cases ds <;> first | exact h | exact h.elim
  | cons t ts ih =>
    intro vs ds ps ht h hlt
    cases vs with
    | nil => cases ds <;> exact h.elim
    | cons v vs =>
      cases ds with
      | nil => exact h.elim
      | cons d ds =>
        obtain ⟨p, q, h1, h2, rfl⟩ := h
        obtain ⟨ha, hs⟩ := ht t (by simp)
        exact ⟨p, q, Below.trod hl ha hs h1 hb (fun x hx => hlt x (List.mem_append_left _ hx)), ih vs ds q (fun t' h' => ht t' (by simp [h'])) h2 (fun x hx => hlt x (List.mem_append_right _ hx)), rfl⟩

theorem all_readable {P : Program} {ts : List TypeId} (h : (ts.all fun t => P.readableRec t && decide (t < P.types.size)) = true) : ∀ t ∈ ts, P.readableRec t = true ∧ t < P.types.size := fun t ht => by
  have := List.all_eq_true.1 h t ht
  simpa only [Bool.and_eq_true, decide_eq_true_eq] using this

/-- The row's last step behind a walk that made memory and left all that lay as it was; the row does not say 'again'. -/
theorem post_law {H : Type} {enc : TypeId × Value → H} {f : Func} {s : ChangeSpec} {apart fresh handsOn : Bool} {W W' : World} {args : Array Value} {ds gs : List (DataW H)} {before : List MemPlace} {x : Bool} {tb : TypeId}
    (hW : DataW.Whole enc Tryd.prog f.params.toList s.vars apart W args.toList ds gs before) (hA : DataW.TrodAll enc Tryd.prog W 0 (fun _ => true) true f.params.toList args.toList ds before) (hb : Below W.heap.size W W')
    (ht : (f.params.toList.all fun t => Tryd.prog.readableRec t && decide (t < Tryd.prog.types.size)) = true)
    (hv0 : s.vars = []) (hs : s.fn H (ds ++ gs) = { results := [.lit (.bool x)], args := ds }) (hr : f.resultTypes = #[tb]) (htb : Tryd.prog.underlying tb = some .bool) :
    s.post enc Tryd.prog f apart fresh handsOn false W args (.bool x) W' := by
  have hlt : ∀ x ∈ before, x.block < W.heap.size := fun x hx => by simpa using hW.lt x hx
  refine ⟨ds, gs, before, [], before, [], hW, ?_, ?_, ?_, World.keptBut_mono (fun p hp => ⟨hp, Or.inr (Or.inl hp)⟩) (hb.frame (· ∈ before)), fun h => by cases h⟩
  · rw [hs, hr]
    exact trodAll_mk1 (shut_bool htb x)
  · rw [hs]
    exact trodAll_stays laidOut hb _ _ _ _ (all_readable ht) hA hlt
  · rw [hs, hv0]
    rfl

theorem laidMet_mem {P : Program} {w : World} {x : String × DataW Unit} : ∀ {l : List (String × DataW Unit)}, laidMet P l w → x ∈ l → ∃ r, laidMet P (x :: r) w
  | [], _, hm => by cases hm
  | y :: l, h, hm => by
    rcases List.mem_cons.1 hm with rfl | hm
    · exact ⟨l, h⟩
    · exact laidMet_mem h.tail hm

/-- An array of strings that reads as these lists of bytes holds them, cell for cell. -/
theorem cells_of_strs {H : Type} {enc : TypeId × Value → H} {P : Program} {w : World} {base : Nat} {sp : Nat → Bool} {held : Bool} {fuel : Nat} {t e : TypeId} {n : Nat} {cs : List Value} {ls : List (List UInt8)} {p : List MemPlace}
    (ht : P.underlying t = some (.array n e)) (he : P.underlying e = some .string) (hce : P.cellsOf e = 1) (hct : P.cellsOf t = n)
    (h : DataW.trod enc P w base sp held fuel t cs = some (.agg (ls.map fun l => .lit (.string l)), p)) : cs = ls.map fun l => Value.string ⟨l.toArray⟩ := by
  cases fuel with
  | zero => simp [DataW.trod] at h
  | succ fuel =>
    simp only [DataW.trod, ht, hce, hct, Nat.mul_one] at h
    split at h
    · rename_i hl
      obtain ⟨xs, hm, hx⟩ := Option.map_eq_some_iff.1 h
      have hxs : xs.map (·.1) = ls.map fun l => (DataW.lit (.string l) : DataW H) := by
        have := congrArg Prod.fst hx
        simpa using this
      have hxl : xs.length = n := by simpa using Lib.mapM_length hm
      have hzl : ls.length = n := by
        have := congrArg List.length hxs
        simp at this
        omega
      apply List.ext_getElem?
      intro i
      by_cases hi : i < n
      · obtain ⟨b, hb, hf⟩ := Lib.mapM_at hm i i (by simp [hi])
        obtain ⟨s, hc, rfl, _⟩ := DataW.trod_string he hf
        have h1 : cs[i]? = some (.string s) := by
          have := congrArg (·[0]?) hc
          simpa [List.getElem?_take, List.getElem?_drop] using this
        have h2 : (xs.map (·.1))[i]? = some (DataW.lit (.string s.data.toList) : DataW H) := by simp [hb]
        rw [hxs] at h2
        simp only [List.getElem?_map, Option.map_eq_some_iff, DataW.lit.injEq, Lit.string.injEq] at h2
        obtain ⟨l, hl', rfl⟩ := h2
        simp only [h1, List.getElem?_map, hl', Option.map_some]
      · rw [List.getElem?_eq_none (by omega), List.getElem?_eq_none (by simp; omega)]
    · cases h

theorem cStr : Tryd.prog.cellsOf 9 = 1 := by kernel_rfl
/-- A slice of strings that came in. -/
theorem open_strs {H : Type} {enc : TypeId × Value → H} {P : Program} {w : World} {base : Nat} {spare : Nat → Bool} {held : Bool} {fuel : Nat} {t e : TypeId} {v : Value} {x : DataW H × List MemPlace}
    (ht : P.underlying t = some (.slice e)) (he : P.underlying e = some .string) (hC : P.cellsOf e = 1) (h : DataW.trod enc P w base spare held fuel t [v] = some x) :
    ∃ A n cap ps, v = .slice A n cap ∧ n ≤ 9223372036854775807 ∧ Sl w A n ps := by
  rcases Go.Deep.open_slice ht h with ⟨hv, _⟩ | ⟨a, len, cap, m, n, D, Pl, hv, _, hl, hm, hmm, _, hi⟩
  · obtain rfl : v = .slice none 0 0 := by simpa using hv
    exact ⟨none, 0, 0, [], rfl, by omega, rfl, fun j p hj => by simp at hj⟩
  · obtain rfl : v = .slice (some a) len cap := by simpa using hv
    have hlm : len ≤ m := by rw [hmm]; split <;> omega
    have hs : ∀ i : Nat, ∃ s : ByteArray, i < len → w.cell? (a.add i) = some (.string s) := fun i => by
      by_cases hlt : i < len
      · obtain ⟨cs', hc, ht'⟩ := hi i (by omega)
        rw [hC] at hc
        obtain ⟨s, rfl, _, _⟩ := DataW.trod_string he ht'
        obtain ⟨_, _, hat⟩ := World.cells?_some hc
        have h0 := hat 0 (by omega)
        refine ⟨s, fun _ => ?_⟩
        simpa [Addr.add] using h0
      · exact ⟨⟨#[]⟩, fun h => absurd h hlt⟩
    obtain ⟨f, hf⟩ := Classical.axiomOfChoice hs
    unfold maxLen at hm
    refine ⟨some a, len, cap, (List.range len).map f, rfl, by omega, by simp, fun j p hj => ?_⟩
    have hjl : j < len := by
      have := (List.getElem?_eq_some_iff.1 hj).1
      simpa using this
    have he2 : f j = p := by
      simpa [hjl] using hj
    have hc := hf j hjl
    rw [he2] at hc
    refine ⟨a, rfl, ?_, hc⟩
    have := cell_lt hc
    rwa [block_of_add] at this

/-- A struct of one-cell fields: a closed test. -/
def flatB (P : Program) (t : TypeId) : Bool := match P.underlying t with | some (.struct fs) => Go.Deep.oneCellFields P fs && P.cellsOf t == fs.size | _ => false

/-- Such a struct, by value: the reading of each of its fields. -/
theorem open_struct {H : Type} {enc : TypeId × Value → H} {P : Program} {w : World} {base : Nat} {spare : Nat → Bool} {held : Bool} {r : Reach} {b0 : Nat} {t : TypeId} {fs : Array Field} {v : Value} {d : DataW H} {p : List MemPlace}
    (hs : P.underlying t = some (.struct fs)) (hflat : flatB P t = true) (hv : Value.okWide P w r b0 t v) (h : DataW.Trod enc P w base spare held t v d p) :
    ∃ (cs : Array Value) (n : Nat), v = .agg cs ∧ cs.size = fs.size ∧ ∀ (j : Nat) (f : Field), fs[j]? = some f → ∃ u y, cs[j]? = some u ∧ DataW.trod enc P w base spare held n f.type [u] = some y := by
  unfold flatB at hflat
  rw [hs] at hflat
  simp only [Bool.and_eq_true, beq_iff_eq] at hflat
  obtain ⟨hone, hC⟩ := hflat
  obtain ⟨cs, rfl, hsz⟩ := okWide_struct hs hv
  obtain ⟨fuel, hf⟩ := h
  obtain ⟨xs, n, _, _, hl, hxl, hg⟩ := DataW.trod_struct hs hf
  refine ⟨cs, n, rfl, hsz.trans hC, fun j f hj => ?_⟩
  obtain ⟨ho, hk⟩ := Go.Deep.hone_of hone j f hj
  have hjl : j < cs.size := by rw [hsz, hC]; exact (Array.getElem?_eq_some_iff.1 hj).1
  have h1 := hg j f hj
  rw [ho, hk] at h1
  have hjl2 : j < (Value.agg cs).cells.toList.length := by simpa [Value.cells] using hjl
  have hjx : j < xs.length := by rw [hxl, ← hC, ← hsz]; exact hjl
  rw [List.drop_eq_getElem_cons hjl2, List.take_succ_cons, List.take_zero, List.getElem?_eq_getElem hjx] at h1
  exact ⟨_, _, by simp [Value.cells], h1⟩

theorem flatErr : flatB Tryd.prog 24 = true := by kernel_rfl


set_option maxRecDepth 100000 in
theorem open_err {H : Type} {enc : TypeId × Value → H} {w : World} {base : Nat} {spare : Nat → Bool} {held : Bool} {r : Reach} {b0 : Nat} {v : Value} {d : DataW H} {p : List MemPlace}
    (hv : Value.okWide Tryd.prog w r b0 24 v) (h : DataW.Trod enc Tryd.prog w base spare held 24 v d p) :
    ∃ nl A n cap c o fl ps, v = .agg #[.bool nl, .slice A n cap, .int .i64 c, .int .i64 o, .bool fl] ∧ n ≤ 9223372036854775807 ∧ Sl w A n ps ∧ -9223372036854775808 ≤ c ∧ c ≤ 9223372036854775807 := by
  obtain ⟨cs, m, rfl, hsz, hf⟩ := open_struct Tryd.underlying24 flatErr hv h
  obtain ⟨u0, y0, c0, t0⟩ := hf 0 _ rfl
  obtain ⟨u1, y1, c1, t1⟩ := hf 1 _ rfl
  obtain ⟨u2, y2, c2, t2⟩ := hf 2 _ rfl
  obtain ⟨u3, y3, c3, t3⟩ := hf 3 _ rfl
  obtain ⟨u4, y4, c4, t4⟩ := hf 4 _ rfl
  obtain ⟨nl, e0, _⟩ := DataW.trod_bool Tryd.underlying4 t0
  obtain ⟨A, n, cap, ps, e1, hn, hs⟩ := open_strs Tryd.underlying22 Tryd.underlying9 cStr t1
  obtain ⟨c, e2, _, wc⟩ := DataW.trod_int Tryd.underlying3 t2
  obtain ⟨o, e3, _, _⟩ := DataW.trod_int Tryd.underlying3 t3
  obtain ⟨fl, e4, _⟩ := DataW.trod_bool Tryd.underlying4 t4
  have hb : -9223372036854775808 ≤ c ∧ c ≤ 9223372036854775807 := by simpa [Lit.wf, IntKind.min, IntKind.max, IntKind.signed, IntKind.bits] using wc
  obtain rfl : u0 = .bool nl := by simpa using e0
  obtain rfl : u2 = .int .i64 c := by simpa using e2
  obtain rfl : u3 = .int .i64 o := by simpa using e3
  obtain rfl : u4 = .bool fl := by simpa using e4
  subst e1
  refine ⟨nl, A, n, cap, c, o, fl, ps, ?_, hn, hs, hb.1, hb.2⟩
  congr 1
  apply Array.ext_getElem?
  intro j
  match j with
  | 0 => simpa using c0
  | 1 => simpa using c1
  | 2 => simpa using c2
  | 3 => simpa using c3
  | 4 => simpa using c4
  | j + 5 =>
    have hsz5 : cs.size = 5 := hsz
    rw [Array.getElem?_eq_none (by omega), Array.getElem?_eq_none (by simp)]

theorem tNam : (Tryd.prog.globals[0]?).map (·.type) = some 64 := by kernel_rfl
theorem tPow : (Tryd.prog.globals[2]?).map (·.type) = some 102 := by kernel_rfl
theorem cNam : Tryd.prog.cellsOf 64 = 7 := by kernel_rfl
theorem cPow : Tryd.prog.cellsOf 102 = 20 := by kernel_rfl
theorem cU64 : Tryd.prog.cellsOf 94 = 1 := by kernel_rfl
theorem rtRow : (Tryd.prog.cutTypes.find? (·.1 == "internal/reflectlite.rtype")).map (·.2) = some 79 := by kernel_rfl
theorem oneRow : ((List.range 139).filter fun t => Tryd.prog.rowNamed t [101, 114, 114, 111, 114]) = [28] := by kernel_rfl
theorem tySize : Tryd.prog.types.size = 139 := by kernel_rfl

def laidData : List (String × DataW Unit) := [("math/bits.deBruijn32tab", Rows.laid_math_bits_deBruijn32tab), ("math/bits.deBruijn64tab", Rows.laid_math_bits_deBruijn64tab), ("internal/strconv.uint64pow10", Rows.laid_internal_strconv_uint64pow10), ("castings/fault.names", Rows.laid_castings_fault_names)]

theorem env_of_laid {W : World} (h : laidMetH Tryd.prog Rows.faultFindsRow.laid W) : Env W := by
  have h' : laidMet Tryd.prog laidData W ∧ handlesMet Tryd.prog [("errors.errorType", Rows.laid_errors_errorType)] W := h
  obtain ⟨r1, h1⟩ := laidMet_mem h'.1 (x := ("castings/fault.names", Rows.laid_castings_fault_names)) (by simp [laidData])
  obtain ⟨r2, h2⟩ := laidMet_mem h'.1 (x := ("internal/strconv.uint64pow10", Rows.laid_internal_strconv_uint64pow10)) (by simp [laidData])
  refine ⟨?_, ?_, ?_⟩
  · obtain ⟨ps, ⟨g', t', cs, fuel, p, q, hg', ht', hvar, hd, _, _⟩, _⟩ := h1
    obtain rfl := Option.some.inj (gNam.symm.trans hg')
    obtain rfl := Option.some.inj (tNam.symm.trans ht')
    have hd' := cells_of_strs (ls := Ft.names) Tryd.underlying64 Tryd.underlying9 cStr cNam hd
    rw [hvar, namCells, ← hd']
  · exact Lib.tabIs_of_head (rest := r2) (zs := Lib.pow10Tab) (k := .u64) gPow tPow Tryd.underlying102 Tryd.underlying94 cU64 cPow h2
  · obtain ⟨name, u, ty, e1, e2, e3, e4, e5⟩ := h'.2 _ (List.mem_singleton.2 rfl)
    have en : name = [101, 114, 114, 111, 114] := (Option.some.inj e1).symm
    subst en
    obtain rfl := Option.some.inj (rtRow.symm.trans e2)
    have hm : ty ∈ (List.range 139).filter fun t => Tryd.prog.rowNamed t [101, 114, 114, 111, 114] := List.mem_filter.2 ⟨List.mem_range.2 (by rw [← tySize]; exact e3), e4⟩
    rw [oneRow] at hm
    obtain rfl := List.mem_singleton.1 hm
    have hh : typeHandle Tryd.prog 28 = .pointer (some ⟨5, 28, none⟩) := by kernel_rfl
    rw [hh] at e5
    simpa using World.var?_cell gTyp e5 0
end Go.Proofs.YtihmdhephcpgmaaDoor
