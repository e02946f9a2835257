/- The walks of the small functions of layer 3's reference, and of layer 1's classes: what each returns in the plain words of LxPure. No condition beyond the sizes that each names.
Slices of tokens: what one is in memory; the walks of plain, and of the reference's Same, Alike and Join. -/
import Derived.Test.YtbeejmlmplgaeaaDoorEfA
import Derived.Test.YtbeejmlmplgaeaaDoorLxPure
import Derived.WalkSpells
import Derived.WalkLawsBesides
import Derived.OwnWalk
import Derived.Laws.AppendOwn
import Derived.Laws.OwnMore
import Derived.Laws.NewBlocks
import Derived.Outline
import Derived.Deep.AppendLies
import Derived.Laws.Rows
namespace Go.Proofs.YtbeejmlmplgaeaaDoor
open Go.RowKit

set_option maxHeartbeats 400000 in
theorem ref_class_any (c : Int) (h0 : 0 ≤ c) (h1 : c ≤ 255) (w : World) :
    Calls Tryd.prog 33 #[.int .u8 c] w fun e w' => e = .returned (.int .i64 (Lx.cls c)) ∧ w = w' := by
  go_enter Tryd.func33, Tryd.ntmps33
  go_wp2
  all_goals
    go_ret
    refine ⟨ret_int ?_, rfl⟩
    try simp only [beq_iff_eq, beq_eq_false_iff_ne, ne_eq] at *
    unfold Lx.cls
    first | (exfalso; omega) | rfl | (repeat (first | rw [if_pos (by omega)] | rw [if_neg (by omega)]))

def signS : ByteArray := ⟨#[40, 41, 91, 93, 123, 125, 46, 44, 59, 61, 95]⟩
/-- No sign before the k-th is c. -/
def NotYet (c : Int) (k : Nat) : Prop := ∀ x ∈ Lx.signs.take k, (x.toNat : Int) ≠ c
def sgnI (c : Int) : Bool := Lx.signs.any fun x => (x.toNat : Int) == c

theorem sgnI_hit {c : Int} {k : Nat} {x : UInt8} (hx : Lx.signs[k]? = some x) (h : (x.toNat : Int) = c) : sgnI c = true := by
  rw [sgnI, List.any_eq_true]
  exact ⟨x, List.mem_of_getElem? hx, by simpa using h⟩
theorem sgnI_none {c : Int} (h : NotYet c 11) : sgnI c = false := by
  rw [sgnI, List.any_eq_false]
  intro x hx
  simpa using h x hx
theorem notYet_step {c : Int} {k : Nat} {x : UInt8} (hx : Lx.signs[k]? = some x) (h : NotYet c k) (hne : (x.toNat : Int) ≠ c) : NotYet c (k + 1) := by
  intro y hy
  rw [List.take_add_one, hx] at hy
  simp only [Option.toList_some, List.mem_append, List.mem_singleton] at hy
  rcases hy with hy | rfl
  · exact h y hy
  · exact hne

set_option maxHeartbeats 1000000 in
theorem ref_sign_any (c : Int) (w : World) :
    Calls Tryd.prog 34 #[.int .u8 c] w fun e w' => e = .returned (.bool (sgnI c)) ∧ w = w' := by
  go_enter Tryd.func34, Tryd.ntmps34
  go_wp2_with fail
  obtain ⟨S, hS⟩ : ∃ S, S = signS := ⟨_, rfl⟩
  have hz : S.size = 11 := by rw [hS]; rfl
  have hx : ∀ (k : Nat) (hk : k < S.size), Lx.signs[k]? = some S[k] := by
    subst hS
    intro k hk
    have : k < 11 := hk
    match k, this with
    | 0, _ => rfl
    | 1, _ => rfl
    | 2, _ => rfl
    | 3, _ => rfl
    | 4, _ => rfl
    | 5, _ => rfl
    | 6, _ => rfl
    | 7, _ => rfl
    | 8, _ => rfl
    | 9, _ => rfl
    | 10, _ => rfl
  have HX := Lib.hid hx
  have HZ := Lib.hid hz
  have zz : (S.size : Int) ≤ 11 := by omega
  rw [show (⟨#[40, 41, 91, 93, 123, 125, 46, 44, 59, 61, 95]⟩ : ByteArray) = S from hS.symm]
  have HS := Lib.hid hS
  clear hx hz hS
  go_loop [4] (fun i => ∃ k : Nat, k ≤ S.size ∧ i = .int .i64 k ∧ NotYet c k) (fun i => S.size - (intOf i).toNat)
  case atStart => exact ⟨0, by omega, rfl, fun x hx => by simp at hx⟩
  case round =>
    obtain ⟨k, hk, rfl, hn⟩ := hrel
    by_cases hlt : k < S.size
    · have z1 : (k : Int) < S.size := by omega
      have hsk := HX.out k hlt
      by_cases he : (S[k].toNat : Int) = c
      · have E := Lib.hid (sgnI_hit hsk he)
        have he' : ((S[k].toNat : Int) == c) = true := by simpa using he
        clear hsk he hn
        go_wp2_with fail
        go_ret
        exact ⟨ret_bool E.out.symm, rfl⟩
      · have HN := Lib.hid (notYet_step hsk hn he)
        have he' : ((S[k].toNat : Int) == c) = false := by simpa using he
        clear hsk he hn
        go_wp2_with fail
        go_round
        case rel => exact ⟨k + 1, by omega, by go_num, HN.out⟩
        case measure => simp [intOf]; omega
    · have z1 : (S.size : Int) ≤ k := by omega
      have hk11 : k = 11 := by have := HZ.out; omega
      rw [hk11] at hn
      have E := Lib.hid (sgnI_none hn)
      clear hn hk11
      go_wp2_with fail
      go_ret
      exact ⟨ret_bool E.out.symm, rfl⟩

/-! ### lines -/
/-- The line and the column behind the first bytes. -/
def lineL : Int → Int → List UInt8 → Int × Int
  | n, m, [] => (n, m)
  | n, m, c :: r => if c = 10 then lineL (n + 1) 1 r else lineL n (m + 1) r
theorem lineL_le : ∀ (l : List UInt8) (n m : Int), 1 ≤ n → 1 ≤ m → 1 ≤ (lineL n m l).1 ∧ (lineL n m l).1 ≤ n + l.length ∧ 1 ≤ (lineL n m l).2 ∧ (lineL n m l).2 ≤ m + l.length
  | [], n, m, _, _ => by simp [lineL]; omega
  | c :: r, n, m, h1, h2 => by
    simp only [lineL]
    split
    · have := lineL_le r (n + 1) 1 (by omega) (by omega)
      simp only [List.length_cons]
      omega
    · have := lineL_le r n (m + 1) (by omega) (by omega)
      simp only [List.length_cons]
      omega
theorem lineL_snoc : ∀ (l : List UInt8) (n m : Int) (c : UInt8), lineL n m (l ++ [c]) = if c = 10 then ((lineL n m l).1 + 1, 1) else ((lineL n m l).1, (lineL n m l).2 + 1)
  | [], n, m, c => by simp only [List.nil_append, lineL]
  | x :: r, n, m, c => by
    simp only [List.cons_append, lineL]
    split
    · exact lineL_snoc r _ _ _
    · exact lineL_snoc r _ _ _

theorem lx_take_snoc (s : ByteArray) (k : Nat) (h : k < s.size) : s.data.toList.take (k + 1) = s.data.toList.take k ++ [s[k]] := by
  rw [List.take_succ_eq_append_getElem (by simpa using h)]; rfl
theorem eq10 (c : UInt8) : (c = 10) = ((c.toNat : Int) = 10) := by
  apply propext
  constructor
  · rintro rfl; rfl
  · intro h
    apply UInt8.toNat_inj.1
    have : (10 : UInt8).toNat = 10 := rfl
    omega

end Go.Proofs.YtbeejmlmplgaeaaDoor
namespace Go.Proofs.YtbeejmlmplgaeaaDoor
open Go.RowKit

/-- A token in memory. -/
structure Tk where
  k : Int
  s : ByteArray
  o : Int

/-- A slice of tokens, of whatever package, that reads as this list. -/
structure TS (w : World) (A : Option Addr) (n : Nat) (ts : List Tk) : Prop where
  len : ts.length = n
  at_ : ∀ j t, ts[j]? = some t → ∃ a, A = some a ∧ a.block < w.heap.size ∧ w.cell? (a.add (j * 3)) = some (.int .i64 t.k) ∧ w.cell? ⟨(a.add (j * 3)).block, (a.add (j * 3)).off + 1, none⟩ = some (.string t.s) ∧ w.cell? ⟨(a.add (j * 3)).block, (a.add (j * 3)).off + 2, none⟩ = some (.int .i64 t.o)
theorem TS.later {w w' : World} {A : Option Addr} {n : Nat} {ts : List Tk} (h : TS w A n ts) (hb : Below w.heap.size w w') : TS w' A n ts :=
  ⟨h.len, fun j t hj => by
    obtain ⟨a, e, h1, h2, h3, h4⟩ := h.at_ j t hj
    exact ⟨a, e, Nat.lt_of_lt_of_le h1 hb.size, (hb.cell (by rw [block_of_add]; exact h1)).trans h2, (hb.cell (by show (a.add (j * 3)).block < _; rw [block_of_add]; exact h1)).trans h3, (hb.cell (by show (a.add (j * 3)).block < _; rw [block_of_add]; exact h1)).trans h4⟩⟩
theorem TS.get {w : World} {A : Option Addr} {n : Nat} {ts : List Tk} (h : TS w A n ts) {k : Nat} (hk : k < n) :
    ∃ a t, A = some a ∧ ts[k]? = some t ∧ w.cell? (a.add (k * 3)) = some (.int .i64 t.k) ∧ w.cell? ⟨(a.add (k * 3)).block, (a.add (k * 3)).off + 1, none⟩ = some (.string t.s) ∧ w.cell? ⟨(a.add (k * 3)).block, (a.add (k * 3)).off + 2, none⟩ = some (.int .i64 t.o) := by
  have hl : k < ts.length := by rw [h.len]; exact hk
  obtain ⟨a, e, _, h2⟩ := h.at_ k _ (List.getElem?_eq_getElem hl)
  exact ⟨a, _, e, List.getElem?_eq_getElem hl, h2⟩

def cells3 (t : Tk) : List Value := [.int .i64 t.k, .string t.s, .int .i64 t.o]
theorem lx_cells3_at : ∀ (ts : List Tk) (j : Nat) (t : Tk), ts[j]? = some t → (ts.flatMap cells3)[j * 3]? = some (.int .i64 t.k) ∧ (ts.flatMap cells3)[j * 3 + 1]? = some (.string t.s) ∧ (ts.flatMap cells3)[j * 3 + 2]? = some (.int .i64 t.o)
  | [], j, t, h => by simp at h
  | x :: ts, 0, t, h => by
    obtain rfl : x = t := by simpa using h
    simp [cells3]
  | x :: ts, j + 1, t, h => by
    have := lx_cells3_at ts j t (by simpa using h)
    rw [List.flatMap_cons]
    have e : (cells3 x).length = 3 := rfl
    rw [show (j + 1) * 3 = 3 + j * 3 by omega, show 3 + j * 3 + 1 = 3 + (j * 3 + 1) by omega, show 3 + j * 3 + 2 = 3 + (j * 3 + 2) by omega]
    rw [List.getElem?_append_right (by omega), List.getElem?_append_right (by omega), List.getElem?_append_right (by omega), e]
    simpa using this
theorem cells3_snoc (ts : List Tk) (k : Nat) (t : Tk) (h : ts[k]? = some t) : (ts.take k).flatMap cells3 ++ cells3 t = (ts.take (k + 1)).flatMap cells3 := by
  rw [List.take_add_one, h]
  simp

/-- What the call has built reads as these tokens. -/
theorem ts_of_own {w : World} {base n : Nat} {e : TypeId} {v : Value} {ts : List Tk} (hl : ts.length = n) (h : w.ownsRow base e 3 v n (ts.flatMap cells3)) : ∃ A c, v = .slice A n c ∧ TS w A n ts := by
  rcases h.2 with ⟨rfl, h0⟩ | ⟨g, cap, cur, hv, hb, hg, hn, hc, hs, ht⟩
  · subst h0
    exact ⟨none, 0, rfl, hl, fun j t hj => by
      have : j < ts.length := (List.getElem?_eq_some_iff.1 hj).1
      omega⟩
  · refine ⟨some ⟨g, 0, none⟩, cap, hv, hl, fun j t hj => ⟨_, rfl, ?_, ?_⟩⟩
    · rcases Nat.lt_or_ge g w.heap.size with h1 | h1
      · exact h1
      · rw [Array.getElem?_eq_none h1] at hg; cases hg
    · have hcell : ∀ i u, (ts.flatMap cells3)[i]? = some u → w.cell? ⟨g, i, none⟩ = some u := fun i u hu => by
        rw [cell_of_row w g i cur e (0, 0) hg]
        rw [← ht, List.getElem?_take] at hu
        split at hu
        · simpa using hu
        · cases hu
      obtain ⟨h1, h2, h3⟩ := lx_cells3_at ts j t hj
      have ha : (⟨g, 0, none⟩ : Addr).add (j * 3) = ⟨g, j * 3, none⟩ := by unfold Addr.add; split <;> simp_all
      rw [ha]
      exact ⟨hcell _ _ h1, hcell _ _ h2, hcell _ _ h3⟩

theorem infoTok : (Tryd.prog.info? 47).map (fun i => (i.zero, i.size, i.bytes)) = some (some (.agg #[.int .i64 0, .string ⟨#[]⟩, .int .i64 0]), 3, 32) := by kernel_rfl

end Go.Proofs.YtbeejmlmplgaeaaDoor
