/- More plain words of layer 1: the index of a local name, by the program's way and by the reference's. No condition. -/
import Derived.Test.YtioamnaknjhbpaaDoorPure
namespace Go.Proofs.YtioamnaknjhbpaaDoor.Nm
open Go.Lib

/-- name.Index, as its text goes. -/
def idxI (l : List UInt8) : Int × Bool :=
  if hasPrefix l [36] then
    match atoiAll (trimPrefix l [36]) with
    | .ok v => if v ≤ 2147483647 ∧ localL v = l then (v, true) else (0, false)
    | _ => (0, false)
  else (0, false)

/-- The reference's loop over the digits. -/
def refDig : Nat → List UInt8 → Option Nat
  | acc, [] => some acc
  | acc, c :: r => if 48 ≤ c.toNat ∧ c.toNat ≤ 57 then refDig (acc * 10 + (c.toNat - 48)) r else none

/-- The reference's Index, as its text goes. -/
def refIdx (l : List UInt8) : Int :=
  if l.length < 2 ∨ 11 < l.length ∨ l.head? ≠ some 36 then -1
  else match refDig 0 (l.drop 1) with
    | none => -1
    | some n => if 2147483647 < n ∨ localL n ≠ l then -1 else n

/-! ### decimal digits are read back -/
def isDig (c : UInt8) : Prop := 48 ≤ c.toNat ∧ c.toNat ≤ 57

theorem digit_ofNat {d : Nat} (h : d < 10) : (UInt8.ofNat (48 + d)).toNat = 48 + d := by
  rw [UInt8.toNat_ofNat']
  omega

theorem decDigits_ne_nil (n : Nat) : decDigits n ≠ [] := by
  rw [decDigits]
  split <;> simp

theorem refDig_append (l : List UInt8) (c : UInt8) : ∀ (acc : Nat), refDig acc (l ++ [c]) = (refDig acc l).bind fun n => if 48 ≤ c.toNat ∧ c.toNat ≤ 57 then some (n * 10 + (c.toNat - 48)) else none := by
  induction l with
  | nil => intro acc; simp only [List.nil_append, refDig, Option.bind_some]
  | cons x l ih =>
    intro acc
    simp only [List.cons_append, refDig]
    split
    · exact ih _
    · rfl

theorem refDig_dec (n : Nat) : refDig 0 (decDigits n) = some n := by
  induction n using Nat.strongRecOn with
  | ind n ih =>
    rw [decDigits]
    split
    · rename_i h
      have := digit_ofNat h
      simp only [refDig, this]
      rw [if_pos (by omega)]
      congr 1
      omega
    · rename_i h
      have := digit_ofNat (d := n % 10) (by omega)
      rw [refDig_append, ih (n / 10) (by omega), Option.bind_some, this, if_pos (by omega)]
      congr 1
      omega

/-- The program's parse agrees with the reference's wherever no bound is passed. -/
theorem refDig_mono : ∀ (l : List UInt8) (acc n : Nat), refDig acc l = some n → acc ≤ n
  | [], acc, n, h => by simp only [refDig, Option.some.injEq] at h; omega
  | c :: r, acc, n, h => by
    simp only [refDig] at h
    split at h
    · have := refDig_mono r _ n h
      omega
    · cases h

theorem parse_of_refDig : ∀ (l : List UInt8) (acc n : Nat), refDig acc l = some n → n < 9223372036854775808 → parseUint10 acc l = .ok n
  | [], acc, n, h, _ => by simp only [refDig, Option.some.injEq] at h; rw [parseUint10, h]
  | c :: r, acc, n, h, hn => by
    simp only [refDig] at h
    split at h
    · rename_i hc
      have hm := refDig_mono r _ n h
      rw [parseUint10, if_pos hc, if_neg (by omega), if_neg (by omega)]
      exact parse_of_refDig r _ n h hn
    · cases h

theorem dec_head (n : Nat) : ∃ c r, decDigits n = c :: r ∧ 48 ≤ c.toNat ∧ c.toNat ≤ 57 := by
  induction n using Nat.strongRecOn with
  | ind n ih =>
    rw [decDigits]
    split
    · rename_i h
      have := digit_ofNat h
      exact ⟨_, _, rfl, by omega, by omega⟩
    · obtain ⟨c, r, e, h1, h2⟩ := ih (n / 10) (by omega)
      exact ⟨c, r ++ [UInt8.ofNat (48 + n % 10)], by rw [e]; rfl, h1, h2⟩

theorem atoi_dec (n : Nat) (h : n < 9223372036854775808) : atoiAll (decDigits n) = .ok n := by
  obtain ⟨c, r, e, h1, h2⟩ := dec_head n
  have hp : parseUint10 0 (decDigits n) = .ok n := parse_of_refDig _ _ _ (refDig_dec n) h
  rw [e] at hp ⊢
  unfold atoiAll
  simp only
  rw [if_neg (by omega)]
  unfold parseMag
  rw [if_neg (by simp), hp]
  simp only
  rw [if_neg (by omega), if_neg (by omega), if_neg (by omega)]

/-! ### both indexes are that of the local name -/
theorem local_nat (n : Nat) : localL n = 36 :: decDigits n := by simp [localL]

theorem idxI_local (n : Nat) (h : n ≤ 2147483647) : idxI (localL n) = ((n : Int), true) := by
  unfold idxI
  rw [local_nat]
  have hp : hasPrefix (36 :: decDigits n) [36] = true := by simp [hasPrefix, List.isPrefixOf]
  have ht : trimPrefix (36 :: decDigits n) [36] = decDigits n := by simp [trimPrefix, hp]
  rw [if_pos hp, ht, atoi_dec n (by omega)]
  simp only
  rw [if_pos ⟨by omega, local_nat n⟩]

theorem idxI_cases (l : List UInt8) : (∃ n : Nat, n ≤ 2147483647 ∧ l = localL n ∧ idxI l = ((n : Int), true)) ∨ (idxI l = (0, false) ∧ ∀ n : Nat, n ≤ 2147483647 → l ≠ localL n) := by
  by_cases h : ∃ n : Nat, n ≤ 2147483647 ∧ l = localL n
  · obtain ⟨n, h1, h2⟩ := h
    exact .inl ⟨n, h1, h2, by rw [h2]; exact idxI_local n h1⟩
  · refine .inr ⟨?_, fun n h1 h2 => h ⟨n, h1, h2⟩⟩
    unfold idxI
    split
    · rename_i hp
      split
      · rename_i v _
        rw [if_neg]
        rintro ⟨h1, h2⟩
        by_cases hv : v < 0
        · have : l = [] := by rw [← h2]; simp [localL, hv]
          rw [this] at hp
          simp [hasPrefix, List.isPrefixOf] at hp
        · exact h ⟨v.toNat, by omega, by rw [← h2]; congr 1; omega⟩
      · rfl
    · rfl

theorem nDigits_le (n : Nat) (h : n ≤ 2147483647) : nDigits n ≤ 10 := by
  rcases Nat.lt_or_ge 10 (nDigits n) with h1 | h1
  · exfalso
    have hle : ∀ (k u : Nat), u < 10 ^ k → 1 ≤ k → nDigits u ≤ k := by
      intro k
      induction k with
      | zero => intro u _ h; omega
      | succ k ih =>
        intro u hu _
        by_cases hs : u < 10
        · rw [nDigits_small hs]; omega
        · rw [nDigits_big hs]
          by_cases hk : k = 0
          · subst hk; omega
          · have := ih (u / 10) (by rw [Nat.pow_succ] at hu; omega) (by omega)
            omega
    have := hle 10 n (by omega) (by omega)
    omega
  · exact h1

theorem refIdx_local (n : Nat) (h : n ≤ 2147483647) : refIdx (localL n) = n := by
  unfold refIdx
  have hl : (localL n).length = nDigits n + 1 := by rw [local_nat, List.length_cons, decDigits_length]
  have h1 := nDigits_pos n
  have h2 := nDigits_le n h
  have hh : (localL n).head? = some 36 := by rw [local_nat]; rfl
  rw [if_neg (by rw [hl, hh]; simp; omega)]
  have hd : refDig 0 ((localL n).drop 1) = some n := by rw [local_nat]; exact refDig_dec n
  rw [hd]
  simp only
  rw [if_neg (by simp; omega)]

theorem refIdx_cases (l : List UInt8) : (∃ n : Nat, n ≤ 2147483647 ∧ l = localL n ∧ refIdx l = n) ∨ (refIdx l = -1 ∧ ∀ n : Nat, n ≤ 2147483647 → l ≠ localL n) := by
  by_cases h : ∃ n : Nat, n ≤ 2147483647 ∧ l = localL n
  · obtain ⟨n, h1, h2⟩ := h
    exact .inl ⟨n, h1, h2, by rw [h2]; exact refIdx_local n h1⟩
  · refine .inr ⟨?_, fun n h1 h2 => h ⟨n, h1, h2⟩⟩
    unfold refIdx
    split
    · rfl
    · split
      · rfl
      · rename_i n _
        rw [if_pos]
        by_cases hn : 2147483647 < n
        · exact .inl hn
        · exact .inr fun h2 => h ⟨n, by omega, h2.symm⟩

/-- No local name is a name. -/
theorem local_not_is (i : Int) : isB (localL i) = false := by
  unfold localL
  split
  · rfl
  · have h : (cls (36 : UInt8).toNat == 1) = false := by decide
    simp only [isB, h, Bool.false_and]

theorem atoi_range {l : List UInt8} {v : Int} (h : atoiAll l = .ok v) : -9223372036854775808 ≤ v ∧ v ≤ 9223372036854775807 := by
  unfold atoiAll at h
  split at h
  · cases h
  · simp only at h
    split at h
    · cases h
    · cases h
    · split at h
      · cases h
      · split at h
        · cases h
        · simp only [NumEnd.ok.injEq] at h
          rename_i h1 h2
          split at h
          · rename_i h3
            have : ¬ 9223372036854775808 < _ := fun hh => h2 ⟨h3, hh⟩
            omega
          · rename_i h3
            have : ¬ 9223372036854775808 ≤ _ := fun hh => h1 ⟨h3, hh⟩
            omega

theorem trim_le (l : List UInt8) : (trimPrefix l [36]).length ≤ l.length := by
  unfold trimPrefix
  split
  · rw [List.length_drop]; omega
  · omega

end Go.Proofs.YtioamnaknjhbpaaDoor.Nm
