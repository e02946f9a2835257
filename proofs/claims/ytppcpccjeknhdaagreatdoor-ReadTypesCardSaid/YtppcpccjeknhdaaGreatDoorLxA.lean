/- The walks of the small functions of layer 3's reference, and of layer 1's classes: what each returns in the plain words of LxPure. No condition beyond the sizes that each names. -/
import Derived.Test.YtppcpccjeknhdaaGreatDoorEfA
import Derived.Test.YtppcpccjeknhdaaGreatDoorLxPure
import Derived.WalkSpells
import Derived.WalkLawsBesides
namespace Go.Proofs.YtppcpccjeknhdaaGreatDoor
open Go.RowKit

set_option maxHeartbeats 400000 in
theorem ref_class_any (c : Int) (h0 : 0 ≤ c) (h1 : c ≤ 255) (w : World) :
    Calls Tryz.prog 99 #[.int .u8 c] w fun e w' => e = .returned (.int .i64 (Lx.cls c)) ∧ w = w' := by
  go_enter Tryz.func99, Tryz.ntmps99
  go_wp2
  all_goals
    go_ret
    refine ⟨ret_int ?_, rfl⟩
    try simp only [beq_iff_eq, beq_eq_false_iff_ne, ne_eq] at *
    unfold Lx.cls
    first | (exfalso; omega) | rfl | (repeat (first | rw [if_pos (by omega)] | rw [if_neg (by omega)]))

def signS : ByteArray := ⟨#[40, 41, 91, 93, 123, 125, 46, 44, 59, 61, 95]⟩
/-- No sign before the k-th is c. -/
def NotYet (c : Int) (k : Nat) : Prop := ∀ x ∈ Lx.signs.take k, (x.toNat : Int) ≠ c
def sgnI (c : Int) : Bool := Lx.signs.any fun x => (x.toNat : Int) == c

theorem sgnI_hit {c : Int} {k : Nat} {x : UInt8} (hx : Lx.signs[k]? = some x) (h : (x.toNat : Int) = c) : sgnI c = true := by
  rw [sgnI, List.any_eq_true]
  exact ⟨x, List.mem_of_getElem? hx, by simpa using h⟩
theorem sgnI_none {c : Int} (h : NotYet c 11) : sgnI c = false := by
  rw [sgnI, List.any_eq_false]
  intro x hx
  simpa using h x hx
theorem notYet_step {c : Int} {k : Nat} {x : UInt8} (hx : Lx.signs[k]? = some x) (h : NotYet c k) (hne : (x.toNat : Int) ≠ c) : NotYet c (k + 1) := by
  intro y hy
  rw [List.take_add_one, hx] at hy
  simp only [Option.toList_some, List.mem_append, List.mem_singleton] at hy
  rcases hy with hy | rfl
  · exact h y hy
  · exact hne

set_option maxHeartbeats 1000000 in
theorem ref_sign_any (c : Int) (w : World) :
    Calls Tryz.prog 100 #[.int .u8 c] w fun e w' => e = .returned (.bool (sgnI c)) ∧ w = w' := by
  go_enter Tryz.func100, Tryz.ntmps100
  go_wp2_with fail
  obtain ⟨S, hS⟩ : ∃ S, S = signS := ⟨_, rfl⟩
  have hz : S.size = 11 := by rw [hS]; rfl
  have hx : ∀ (k : Nat) (hk : k < S.size), Lx.signs[k]? = some S[k] := by
    subst hS
    intro k hk
    have : k < 11 := hk
    match k, this with
    | 0, _ => rfl
    | 1, _ => rfl
    | 2, _ => rfl
    | 3, _ => rfl
    | 4, _ => rfl
    | 5, _ => rfl
    | 6, _ => rfl
    | 7, _ => rfl
    | 8, _ => rfl
    | 9, _ => rfl
    | 10, _ => rfl
  have HX := Lib.hid hx
  have HZ := Lib.hid hz
  have zz : (S.size : Int) ≤ 11 := by omega
  rw [show (⟨#[40, 41, 91, 93, 123, 125, 46, 44, 59, 61, 95]⟩ : ByteArray) = S from hS.symm]
  have HS := Lib.hid hS
  clear hx hz hS
  go_loop [4] (fun i => ∃ k : Nat, k ≤ S.size ∧ i = .int .i64 k ∧ NotYet c k) (fun i => S.size - (intOf i).toNat)
  case atStart => exact ⟨0, by omega, rfl, fun x hx => by simp at hx⟩
  case round =>
    obtain ⟨k, hk, rfl, hn⟩ := hrel
    by_cases hlt : k < S.size
    · have z1 : (k : Int) < S.size := by omega
      have hsk := HX.out k hlt
      by_cases he : (S[k].toNat : Int) = c
      · have E := Lib.hid (sgnI_hit hsk he)
        have he' : ((S[k].toNat : Int) == c) = true := by simpa using he
        clear hsk he hn
        go_wp2_with fail
        go_ret
        exact ⟨ret_bool E.out.symm, rfl⟩
      · have HN := Lib.hid (notYet_step hsk hn he)
        have he' : ((S[k].toNat : Int) == c) = false := by simpa using he
        clear hsk he hn
        go_wp2_with fail
        go_round
        case rel => exact ⟨k + 1, by omega, by go_num, HN.out⟩
        case measure => simp [intOf]; omega
    · have z1 : (S.size : Int) ≤ k := by omega
      have hk11 : k = 11 := by have := HZ.out; omega
      rw [hk11] at hn
      have E := Lib.hid (sgnI_none hn)
      clear hn hk11
      go_wp2_with fail
      go_ret
      exact ⟨ret_bool E.out.symm, rfl⟩

/-! ### lines -/
/-- The line and the column behind the first bytes. -/
def lineL : Int → Int → List UInt8 → Int × Int
  | n, m, [] => (n, m)
  | n, m, c :: r => if c = 10 then lineL (n + 1) 1 r else lineL n (m + 1) r
theorem lineL_le : ∀ (l : List UInt8) (n m : Int), 1 ≤ n → 1 ≤ m → 1 ≤ (lineL n m l).1 ∧ (lineL n m l).1 ≤ n + l.length ∧ 1 ≤ (lineL n m l).2 ∧ (lineL n m l).2 ≤ m + l.length
  | [], n, m, _, _ => by simp [lineL]; omega
  | c :: r, n, m, h1, h2 => by
    simp only [lineL]
    split
    · have := lineL_le r (n + 1) 1 (by omega) (by omega)
      simp only [List.length_cons]
      omega
    · have := lineL_le r n (m + 1) (by omega) (by omega)
      simp only [List.length_cons]
      omega
theorem lineL_snoc : ∀ (l : List UInt8) (n m : Int) (c : UInt8), lineL n m (l ++ [c]) = if c = 10 then ((lineL n m l).1 + 1, 1) else ((lineL n m l).1, (lineL n m l).2 + 1)
  | [], n, m, c => by simp only [List.nil_append, lineL]
  | x :: r, n, m, c => by
    simp only [List.cons_append, lineL]
    split
    · exact lineL_snoc r _ _ _
    · exact lineL_snoc r _ _ _

theorem lx_take_snoc (s : ByteArray) (k : Nat) (h : k < s.size) : s.data.toList.take (k + 1) = s.data.toList.take k ++ [s[k]] := by
  rw [List.take_succ_eq_append_getElem (by simpa using h)]; rfl
theorem eq10 (c : UInt8) : (c = 10) = ((c.toNat : Int) = 10) := by
  apply propext
  constructor
  · rintro rfl; rfl
  · intro h
    apply UInt8.toNat_inj.1
    have : (10 : UInt8).toNat = 10 := rfl
    omega

end Go.Proofs.YtppcpccjeknhdaaGreatDoor
