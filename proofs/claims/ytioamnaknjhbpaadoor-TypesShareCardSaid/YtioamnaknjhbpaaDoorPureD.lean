/- More plain words of layer 1: the order of strings is an order; local names are different for different indexes. No condition. -/
import Derived.Test.YtioamnaknjhbpaaDoorPureC
namespace Go.Proofs.YtioamnaknjhbpaaDoor.Nm
open Go.Lib

theorem u8_tri (a b : UInt8) : a < b ∨ b < a ∨ a = b := by
  rw [UInt8.lt_iff_toNat_lt, UInt8.lt_iff_toNat_lt]
  rcases Nat.lt_trichotomy a.toNat b.toNat with h | h | h
  · exact .inl h
  · exact .inr (.inr (UInt8.toNat.inj h))
  · exact .inr (.inl h)
theorem u8_asymm {a b : UInt8} (h : a < b) : ¬ b < a := by
  rw [UInt8.lt_iff_toNat_lt] at *
  omega
theorem u8_irrefl (a : UInt8) : ¬ a < a := by
  rw [UInt8.lt_iff_toNat_lt]
  omega
theorem u8_trans {a b c : UInt8} (h : a < b) (k : b < c) : a < c := by
  rw [UInt8.lt_iff_toNat_lt] at *
  omega

theorem cmp_cons (x y : UInt8) (a b : List UInt8) : compareBytes (x :: a) (y :: b) = if x < y then -1 else if y < x then 1 else compareBytes a b := by rw [compareBytes]

theorem cmp_neg : ∀ a b : List UInt8, compareBytes b a = -compareBytes a b
  | [], [] => rfl
  | [], _ :: _ => rfl
  | _ :: _, [] => rfl
  | x :: a, y :: b => by
    rw [cmp_cons, cmp_cons]
    rcases u8_tri x y with h | h | rfl
    · rw [if_neg (u8_asymm h), if_pos h, if_pos h]; rfl
    · rw [if_pos h, if_neg (u8_asymm h), if_pos h]
    · rw [if_neg (u8_irrefl x), if_neg (u8_irrefl x), if_neg (u8_irrefl x), if_neg (u8_irrefl x)]
      exact cmp_neg a b

theorem cmp_cases : ∀ a b : List UInt8, compareBytes a b = -1 ∨ compareBytes a b = 0 ∨ compareBytes a b = 1
  | [], [] => .inr (.inl rfl)
  | [], _ :: _ => .inl rfl
  | _ :: _, [] => .inr (.inr rfl)
  | x :: a, y :: b => by
    rw [cmp_cons]
    split
    · exact .inl rfl
    · split
      · exact .inr (.inr rfl)
      · exact cmp_cases a b

theorem cmp_zero : ∀ a b : List UInt8, compareBytes a b = 0 ↔ a = b
  | [], [] => by simp [compareBytes]
  | [], _ :: _ => by simp [compareBytes]
  | _ :: _, [] => by simp [compareBytes]
  | x :: a, y :: b => by
    rw [cmp_cons]
    rcases u8_tri x y with h | h | rfl
    · rw [if_pos h]
      refine ⟨fun e => by omega, fun e => ?_⟩
      obtain ⟨rfl, rfl⟩ := List.cons.inj e
      exact absurd h (u8_irrefl _)
    · rw [if_neg (u8_asymm h), if_pos h]
      refine ⟨fun e => by omega, fun e => ?_⟩
      obtain ⟨rfl, rfl⟩ := List.cons.inj e
      exact absurd h (u8_irrefl _)
    · rw [if_neg (u8_irrefl x), if_neg (u8_irrefl x), cmp_zero a b]
      simp

theorem cmp_trans : ∀ a b c : List UInt8, compareBytes a b ≤ 0 → compareBytes b c ≤ 0 → compareBytes a c ≤ 0
  | [], _, [], _, _ => by simp [compareBytes]
  | [], _, _ :: _, _, _ => by simp [compareBytes]
  | _ :: _, [], _, h, _ => by simp [compareBytes] at h
  | _ :: _, _ :: _, [], _, h => by simp [compareBytes] at h
  | x :: a, y :: b, z :: c, h, k => by
    rw [cmp_cons] at *
    rcases u8_tri x y with h1 | h1 | rfl
    · rcases u8_tri y z with h2 | h2 | rfl
      · rw [if_pos (u8_trans h1 h2)]; omega
      · rw [if_neg (u8_asymm h2), if_pos h2] at k; omega
      · rw [if_pos h1]; omega
    · rw [if_neg (u8_asymm h1), if_pos h1] at h; omega
    · rcases u8_tri x z with h2 | h2 | rfl
      · rw [if_pos h2]; omega
      · rw [if_neg (u8_asymm h2), if_pos h2] at k; omega
      · rw [if_neg (u8_irrefl _), if_neg (u8_irrefl _)] at *
        exact cmp_trans a b c h k

theorem local_inj {n m : Nat} (h : localL n = localL m) : n = m := by
  rw [local_nat, local_nat] at h
  have h1 := refDig_dec n
  rw [(List.cons.inj h).2, refDig_dec m] at h1
  exact (Option.some.inj h1).symm

theorem idxI_great (n : Nat) (h : 2147483647 < n) : idxI (localL n) = (0, false) := by
  rcases idxI_cases (localL n) with ⟨m, h1, h2, _⟩ | ⟨h1, _⟩
  · have := local_inj h2
    omega
  · exact h1

theorem local_length (i : Int) (h : i ≤ 9223372036854775807) : (localL i).length ≤ 30 := by
  unfold localL
  split
  · simp
  · rw [List.length_cons, decDigits_length]
    have hle : ∀ (k u : Nat), u < 10 ^ (k + 1) → nDigits u ≤ k + 1 := by
      intro k
      induction k with
      | zero => intro u h; rw [nDigits_small (by omega)]; omega
      | succ k ih =>
        intro u hu
        by_cases hs : u < 10
        · rw [nDigits_small hs]; omega
        · rw [nDigits_big hs]
          have := ih (u / 10) (by rw [Nat.pow_succ] at hu; omega)
          omega
    have := hle 19 i.toNat (by omega)
    omega

end Go.Proofs.YtioamnaknjhbpaaDoor.Nm
