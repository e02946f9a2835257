/- The described errors: the walks of the reference's Few, Text and Told, and of build. -/
import Derived.Test.YtihmdhephcpgmaaDoorFtH
import Derived.Test.YtihmdhephcpgmaaDoorFtJ
namespace Go.Proofs.YtihmdhephcpgmaaDoor
open Go.RowKit Go.Lib

/-- A slice of strings that reads as this list. -/
structure Sl (w : World) (A : Option Addr) (n : Nat) (ps : List ByteArray) : Prop where
  len : ps.length = n
  at_ : ∀ j p, ps[j]? = some p → ∃ a, A = some a ∧ a.block < w.heap.size ∧ w.cell? (a.add j) = some (.string p)

theorem block_of_add (a : Addr) (n : Nat) : (a.add n).block = a.block := by unfold Addr.add; split <;> rfl
theorem Sl.later {w w' : World} {A : Option Addr} {n : Nat} {ps : List ByteArray} (h : Sl w A n ps) (hb : Below w.heap.size w w') : Sl w' A n ps :=
  ⟨h.len, fun j p hj => by
    obtain ⟨a, e, h1, h2⟩ := h.at_ j p hj
    exact ⟨a, e, Nat.lt_of_lt_of_le h1 hb.size, (hb.cell (by rw [block_of_add]; exact h1)).trans h2⟩⟩
theorem Sl.get {w : World} {A : Option Addr} {n : Nat} {ps : List ByteArray} (h : Sl w A n ps) {k : Nat} (hk : k < n) :
    ∃ a p, A = some a ∧ ps[k]? = some p ∧ w.cell? (a.add k) = some (.string p) := by
  have hl : k < ps.length := by rw [h.len]; exact hk
  obtain ⟨a, e, _, h2⟩ := h.at_ k _ (List.getElem?_eq_getElem hl)
  exact ⟨a, _, e, List.getElem?_eq_getElem hl, h2⟩

def argV (nl : Bool) (A : Option Addr) (n cap : Nat) (c o : Int) (fl : Bool) : Value := .agg #[.bool nl, .slice A n cap, .int .i64 c, .int .i64 o, .bool fl]

def fewB (ps : List ByteArray) (o : Int) : Bool := (ps.all fun p => decide (p.size ≤ 50)) && decide (ps.length ≤ 20) && decide (-1152921504606846976 < o) && decide (o < 1152921504606846976)
theorem fewB_true {ps : List ByteArray} {o : Int} (h : fewB ps o = true) : Small ps ∧ ps.length ≤ 20 ∧ -1152921504606846976 < o ∧ o < 1152921504606846976 := by
  simp only [fewB, Bool.and_eq_true, List.all_eq_true, decide_eq_true_eq] at h
  exact ⟨h.1.1.1, h.1.1.2, h.1.2, h.2⟩
theorem fewB_long {ps : List ByteArray} {o : Int} {k : Nat} {p : ByteArray} (hk : ps[k]? = some p) (hp : 50 < p.size) : fewB ps o = false := by
  have : (ps.all fun p => decide (p.size ≤ 50)) = false := by
    rw [List.all_eq_false]
    exact ⟨p, List.mem_of_getElem? hk, by simp; omega⟩
  simp [fewB, this]
theorem fewB_short {ps : List ByteArray} {o : Int} (h : ∀ (j : Nat) (p : ByteArray), ps[j]? = some p → p.size ≤ 50) : fewB ps o = (decide (ps.length ≤ 20) && decide (-1152921504606846976 < o) && decide (o < 1152921504606846976)) := by
  have : (ps.all fun p => decide (p.size ≤ 50)) = true := by
    rw [List.all_eq_true]
    intro p hp
    obtain ⟨j, hj, e⟩ := List.getElem_of_mem hp
    simpa using h j p (by rw [← e]; exact List.getElem?_eq_getElem hj)
  simp [fewB, this]

/-- No part before the k-th is long. -/
def Yet (ps : List ByteArray) (k : Nat) : Prop := ∀ (j : Nat) (p : ByteArray), j < k → ps[j]? = some p → p.size ≤ 50

set_option maxHeartbeats 1000000 in
theorem few_any (nl : Bool) (A : Option Addr) (n cap : Nat) (c o : Int) (fl : Bool) (ps : List ByteArray) (w : World) (hn : n ≤ 9223372036854775807) (h : Sl w A n ps) :
    Calls Tryd.prog 8 #[.agg #[.bool nl, .slice A n cap, .int .i64 c, .int .i64 o, .bool fl]] w fun e w' => e = .returned (.bool (fewB ps o)) ∧ Below w.heap.size w w' := by
  have hb : Below w.heap.size w (w.alloc (.cells #[.bool nl, .slice A n cap, .int .i64 c, .int .i64 o, .bool fl] 24)) := (Below.refl _ _).alloc (Nat.le_refl _) _
  have H := Lib.hid (h.later hb)
  have hl := h.len
  have HL := Lib.hid hl
  have HB := Lib.hid hb
  clear hb h hl
  go_enter Tryd.func8, Tryd.ntmps8
  go_wp2_with fail
  go_loop [3] (fun i => ∃ k : Nat, k ≤ n ∧ i = .int .i64 k ∧ Yet ps k) (fun i => n - (Go.RowKit.intOf i).toNat)
  case atStart => exact ⟨0, by omega, rfl, fun j p hj => absurd hj (by omega)⟩
  case round =>
    obtain ⟨k, hk, rfl, hy⟩ := hrel
    by_cases hlt : k < n
    · obtain ⟨a, p, rfl, hp, hc⟩ := H.out.get hlt
      have z1 : (k : Int) < n := by omega
      by_cases hs : 50 < p.size
      · have hf := fewB_long (o := o) hp hs
        have E := Lib.hid hf
        have z2 : (50 : Int) < p.size := by omega
        clear hf hp hy
        go_wp2_with fail
        go_ret
        exact ⟨ret_bool E.out.symm, HB.out⟩
      · have z2 : (p.size : Int) ≤ 50 := by omega
        have HY : Yet ps (k + 1) := fun j q hj hq => by
          rcases Nat.lt_or_ge j k with h1 | h1
          · exact hy j q h1 hq
          · obtain rfl : j = k := by omega
            rw [hp] at hq
            obtain rfl := Option.some.inj hq
            omega
        have HYY := Lib.hid HY
        clear hy hp HY
        go_wp2_with fail
        go_round
        case rel => exact ⟨k + 1, by omega, by go_num, HYY.out⟩
        case measure => simp [Go.RowKit.intOf]; omega
    · have hkn : k = n := by omega
      have hf := fewB_short (ps := ps) (o := o) (fun j p hj => hy j p (by
        have : j < ps.length := (List.getElem?_eq_some_iff.1 hj).1
        rw [HL.out] at this
        omega) hj)
      rw [HL.out] at hf
      have z1 : (n : Int) ≤ k := by omega
      have E := Lib.hid hf
      clear hf hy hkn
      by_cases h1 : n ≤ 20
      · by_cases h2 : -1152921504606846976 < o
        · by_cases h3 : o < 1152921504606846976
          · have E2 := Lib.hid (E.out.trans (by simp [h1, h2, h3] : _ = true))
            clear E
            have z2 : (n : Int) ≤ 20 := by omega
            go_wp2_with fail
            go_ret
            exact ⟨ret_bool E2.out.symm, HB.out⟩
          · have E2 := Lib.hid (E.out.trans (by simp [h1, h2, h3] : _ = false))
            clear E
            have z2 : (n : Int) ≤ 20 := by omega
            have z3 : 1152921504606846976 ≤ o := by omega
            clear h3
            go_wp2_with fail
            go_ret
            exact ⟨ret_bool (by rw [E2.out]; simp; omega), HB.out⟩
        · have E2 := Lib.hid (E.out.trans (by simp [h1, h2] : _ = false))
          clear E
          have z2 : (n : Int) ≤ 20 := by omega
          have z3 : o ≤ -1152921504606846976 := by omega
          clear h2
          go_wp2_with fail
          go_ret
          exact ⟨ret_bool E2.out.symm, HB.out⟩
      · have E2 := Lib.hid (E.out.trans (by simp [h1] : _ = false))
        clear E
        have z2 : (20 : Int) < n := by omega
        clear h1
        go_wp2_with fail
        go_ret
        exact ⟨ret_bool E2.out.symm, HB.out⟩

set_option maxHeartbeats 1000000 in
theorem ref_text_any (nl : Bool) (A : Option Addr) (n cap : Nat) (c o : Int) (h0 : -9223372036854775808 ≤ c) (h1 : c ≤ 9223372036854775807) (fl : Bool) (ps : List ByteArray) (w : World) (hn : n ≤ 20) (hs : Small ps) (h : Sl w A n ps) :
    Calls Tryd.prog 12 #[.agg #[.bool nl, .slice A n cap, .int .i64 c, .int .i64 o, .bool fl]] w fun e w' => e = .returned (.string ⟨(errText c ps.reverse).toArray⟩) ∧ Below w.heap.size w w' := by
  have hb : Below w.heap.size w (w.alloc (.cells #[.bool nl, .slice A n cap, .int .i64 c, .int .i64 o, .bool fl] 24)) := (Below.refl _ _).alloc (Nat.le_refl _) _
  have H := Lib.hid (h.later hb)
  have HL := Lib.hid h.len
  have HB := Lib.hid hb
  have HS := Lib.hid hs
  have HD := Lib.hid (fun w => decimal_any (c.natAbs + 1) c w (by omega) h0 h1)
  have hz := Lib.itoa_length_le c h0 h1
  have x1 : (w.alloc (.cells #[.bool nl, .slice A n cap, .int .i64 c, .int .i64 o, .bool fl] 24)).cell? ⟨w.heap.size, 1, none⟩ = some (.slice A n cap) := by rw [World.cell?_alloc_at _ _ _ _ rfl]; rfl
  have HX := Lib.hid x1
  have hlen : ∀ k, k ≤ n → (errText c (ps.take k).reverse).length ≤ 27 + 52 * 20 := fun k hk => by
    have := errText_le h0 h1 (ps := (ps.take k).reverse) fun q hq => hs q (List.mem_of_mem_take (List.mem_reverse.1 hq))
    have h5 : (ps.take k).reverse.length ≤ n := by rw [List.length_reverse, List.length_take, h.len]; omega
    omega
  have HN := Lib.hid hlen
  have h00 : errText c [] = [101, 114, 114, 111, 114, 32] ++ Lib.itoa c := rfl
  have H00 := Lib.hid h00
  clear hb h hs x1 h00 hlen
  go_enter Tryd.func12, Tryd.ntmps12
  go_wp2_with fail
  refine (HD.out _).mono ?_
  rintro e w1 ⟨rfl, hb1⟩
  have hx := (hb1.cell (p := ⟨w.heap.size, 1, none⟩) (cell_lt HX.out)).trans HX.out
  have H1 := Lib.hid (H.out.later hb1)
  have HB1 := Lib.hid (HB.out.trans (hb1.mono HB.out.size))
  clear hb1
  generalize Lib.itoa c = l0 at *
  go_wp2_with fail
  go_loop [3, 4] (fun s i => ∃ k : Nat, k ≤ n ∧ i = .int .i64 k ∧ s = .string ⟨(errText c (ps.take k).reverse).toArray⟩) (fun _ i => n - (Go.RowKit.intOf i).toNat)
  case atStart =>
    refine ⟨0, by omega, rfl, ?_⟩
    have : (⟨#[101, 114, 114, 111, 114, 32]⟩ : ByteArray) ++ ⟨l0.toArray⟩ = ⟨(errText c (ps.take 0).reverse).toArray⟩ := by
      have h2 := ret_str (a := (⟨#[101, 114, 114, 111, 114, 32]⟩ : ByteArray) ++ ⟨l0.toArray⟩) (b := ⟨(errText c (ps.take 0).reverse).toArray⟩) (by rw [Go.Joins.data_append]; simp [H00.out])
      injection h2 with h2
      injection h2
    rw [this]
  case round =>
    obtain ⟨k, hk, rfl, rfl⟩ := hrel
    by_cases hlt : k < n
    · obtain ⟨a, p, rfl, hp, hc⟩ := H1.out.get hlt
      have z1 : (k : Int) < n := by omega
      have hpl : p.size ≤ 50 := HS.out p (List.mem_of_getElem? hp)
      have hl := HN.out k hk
      have he : errText c (ps.take (k + 1)).reverse = p.data.toList ++ [58, 32] ++ errText c (ps.take k).reverse := by
        rw [List.take_add_one, hp]
        simp [errText]
      have HE := Lib.hid he
      clear he hp
      go_wp2_with fail
      go_round
      case rel =>
        refine ⟨k + 1, by omega, by go_num, ?_⟩
        have h2 := ret_str (a := p ++ ⟨#[58, 32]⟩ ++ ⟨(errText c (ps.take k).reverse).toArray⟩) (b := ⟨(errText c (ps.take (k + 1)).reverse).toArray⟩) (by rw [Go.Joins.data_append, Go.Joins.data_append, HE.out])
        injection h2
      case measure => simp [Go.RowKit.intOf]; omega
    · have hkn : k = n := by omega
      have z1 : (n : Int) ≤ k := by omega
      have ht : ps.take k = ps := List.take_of_length_le (by rw [HL.out]; omega)
      rw [ht]
      clear ht hkn
      go_wp2_with fail
      go_ret
      exact ⟨rfl, HB1.out⟩
end Go.Proofs.YtihmdhephcpgmaaDoor
