/- The walk of the reference's Index. -/
import Derived.Test.YtekkecpdnlbkjaaDoorWalkE
import Derived.Test.YtekkecpdnlbkjaaDoorPureC
namespace Go.Proofs.YtekkecpdnlbkjaaDoor
open Go.RowKit Go.Lib

/-- Before place k (from 1 on) all bytes are digits, and they spell n. -/
def DigYet (l : List UInt8) (k n : Nat) : Prop := Nm.refDig 0 ((l.take k).drop 1) = some n

theorem digYet_one (l : List UInt8) : DigYet l 1 0 := by
  unfold DigYet
  cases l <;> simp [Nm.refDig]
theorem digYet_succ {s : ByteArray} {k n : Nat} (h : DigYet s.data.toList k n) (h1 : 1 ≤ k) (hk : k < s.size) (hd : 48 ≤ s[k].toNat ∧ s[k].toNat ≤ 57) :
    DigYet s.data.toList (k + 1) (n * 10 + (s[k].toNat - 48)) := by
  unfold DigYet at *
  have hl : k < s.data.toList.length := by rw [← size_eq]; exact hk
  rw [List.take_succ_eq_append_getElem hl, List.drop_append_of_le_length (by rw [List.length_take]; omega), Nm.refDig_append, h, Option.bind_some]
  have e : s.data.toList[k] = s[k] := rfl
  rw [e, if_pos hd]
theorem digYet_all {s : ByteArray} {n : Nat} (h : DigYet s.data.toList s.size n) : Nm.refDig 0 (s.data.toList.drop 1) = some n := by
  unfold DigYet at h
  rwa [List.take_of_length_le (by rw [← size_eq]; omega)] at h
theorem refDig_none (l r : List UInt8) : ∀ acc, Nm.refDig acc l = none → Nm.refDig acc (l ++ r) = none := by
  induction l with
  | nil => intro acc h; simp [Nm.refDig] at h
  | cons x l ih =>
    intro acc h
    simp only [Nm.refDig, List.cons_append] at h ⊢
    split at h
    · rename_i hx; rw [if_pos hx]; exact ih _ h
    · rename_i hx; rw [if_neg hx]
theorem digNot {s : ByteArray} {k n : Nat} (h : DigYet s.data.toList k n) (h1 : 1 ≤ k) (hk : k < s.size) (hd : ¬ (48 ≤ s[k].toNat ∧ s[k].toNat ≤ 57)) :
    Nm.refDig 0 (s.data.toList.drop 1) = none := by
  unfold DigYet at h
  have hl : k < s.data.toList.length := by rw [← size_eq]; exact hk
  have e : s.data.toList[k] = s[k] := rfl
  have hs : Nm.refDig 0 ((s.data.toList.take (k + 1)).drop 1) = none := by
    rw [List.take_succ_eq_append_getElem hl, List.drop_append_of_le_length (by rw [List.length_take]; omega), Nm.refDig_append, h, Option.bind_some, e, if_neg hd]
  have hsplit : s.data.toList.drop 1 = (s.data.toList.take (k + 1)).drop 1 ++ s.data.toList.drop (k + 1) := by
    have := List.take_append_drop (k + 1) s.data.toList
    have h2 := congrArg (List.drop 1) this
    rw [List.drop_append_of_le_length (by rw [List.length_take]; omega)] at h2
    exact h2.symm
  rw [hsplit]
  exact refDig_none _ _ 0 hs
theorem digYet_le {s : ByteArray} {k n : Nat} (h : DigYet s.data.toList k n) (h1 : 1 ≤ k) : n < 10 ^ (k - 1) := by
  unfold DigYet at h
  have key : ∀ (l : List UInt8) (acc m : Nat), Nm.refDig acc l = some m → m < (acc + 1) * 10 ^ l.length := by
    intro l
    induction l with
    | nil => intro acc m hm; simp only [Nm.refDig, Option.some.injEq] at hm; simp; omega
    | cons x l ih =>
      intro acc m hm
      simp only [Nm.refDig] at hm
      split at hm
      · have := ih _ _ hm
        rw [List.length_cons, Nat.pow_succ]
        refine Nat.lt_of_lt_of_le this ?_
        have h2 : acc * 10 + (x.toNat - 48) + 1 ≤ (acc + 1) * 10 := by omega
        calc (acc * 10 + (x.toNat - 48) + 1) * 10 ^ l.length ≤ ((acc + 1) * 10) * 10 ^ l.length := Nat.mul_le_mul_right _ h2
          _ = (acc + 1) * (10 ^ l.length * 10) := by rw [Nat.mul_assoc, Nat.mul_comm 10]
      · cases hm
  have := key _ _ _ h
  simp only [Nat.zero_add, Nat.one_mul] at this
  refine Nat.lt_of_lt_of_le this (Nat.pow_le_pow_right (by omega) ?_)
  rw [List.length_drop, List.length_take]
  omega

theorem cls_two (c : Nat) : (Nm.cls (c : Int) == 2) = decide (48 ≤ c ∧ c ≤ 57) := by
  unfold Nm.cls
  by_cases h : 48 ≤ c ∧ c ≤ 57
  · rw [if_neg (by omega), if_pos (by omega)]; simp [h]
  · rw [decide_eq_false h]
    split
    · rfl
    · rw [if_neg (by omega)]
      split
      · rfl
      · split <;> rfl

theorem head_ne {s : ByteArray} (hpos : 0 < s.size) (h : ¬ (s[0].toNat : Int) = 36) : s.data.toList.head? ≠ some 36 := by
  have hl : 0 < s.data.toList.length := by rw [← size_eq]; exact hpos
  cases hh : s.data.toList with
  | nil => simp
  | cons c r =>
    have e : s[0] = c := by
      have h1 : s.data.toList[0] = c := by simp [hh]
      rw [← h1]; simp; rfl
    intro h2
    simp only [List.head?_cons, Option.some.injEq] at h2
    rw [e, h2] at h
    exact h rfl
theorem head_eq {s : ByteArray} (hpos : 0 < s.size) (h : (s[0].toNat : Int) = 36) : s.data.toList.head? = some 36 := by
  have hl : 0 < s.data.toList.length := by rw [← size_eq]; exact hpos
  cases hh : s.data.toList with
  | nil => rw [hh] at hl; simp at hl
  | cons c r =>
    have e : s[0] = c := by
      have h1 : s.data.toList[0] = c := by simp [hh]
      rw [← h1]; simp; rfl
    rw [e] at h
    simp only [List.head?_cons, Option.some.injEq]
    apply UInt8.toNat.inj
    show c.toNat = 36
    omega

set_option maxHeartbeats 1000000 in
theorem ref_index_any (s : ByteArray) (hs : s.size ≤ 9223372036854775807) (w : World) :
    Calls Tryd.prog 17 #[.string s] w fun e w' => e = .returned (.int .i64 (Nm.refIdx s.data.toList)) ∧ Below w.heap.size w w' := by
  by_cases hA : s.size < 2 ∨ 11 < s.size
  · have e : Nm.refIdx s.data.toList = -1 := by
      unfold Nm.refIdx
      rw [if_pos (by rw [← size_eq]; rcases hA with h | h; exact .inl h; exact .inr (.inl h))]
    have E := Lib.hid e
    clear e
    by_cases h2 : s.size < 2
    · go_enter Tryd.func17, Tryd.ntmps17
      go_wp2_with fail
      go_ret
      exact ⟨ret_int E.out.symm, Below.refl _ _⟩
    · have h3 : 11 < s.size := by omega
      clear hA
      go_enter Tryd.func17, Tryd.ntmps17
      go_wp2_with fail
      go_ret
      exact ⟨ret_int E.out.symm, Below.refl _ _⟩
  · have h2 : 2 ≤ s.size := by omega
    have h3 : s.size ≤ 11 := by omega
    have hpos : 0 < s.size := by omega
    clear hA hs
    have b0 : (0 : Int) ≤ (s[0].toNat : Int) := by omega
    have b1 : (s[0].toNat : Int) ≤ 255 := by have := s[0].toNat_lt; omega
    by_cases hC : (s[0].toNat : Int) = 36
    · have c36 : ((s[0].toNat : Int) != 36) = false := by rw [hC]; rfl
      have HC := Lib.hid (head_eq hpos hC)
      clear hC
      go_enter Tryd.func17, Tryd.ntmps17
      go_wp2_with fail
      go_loop [3, 4] (fun n i => ∃ m k : Nat, 1 ≤ k ∧ k ≤ s.size ∧ n = .int .i64 m ∧ i = .int .i64 k ∧ DigYet s.data.toList k m) (fun _ i => s.size - (intOf i).toNat)
      case atStart => exact ⟨0, 1, by omega, by omega, rfl, rfl, digYet_one _⟩
      case round =>
        obtain ⟨m, k, hk1, hk, rfl, rfl, hn⟩ := hrel
        have hm : m < 10000000000 := by
          have h4 := digYet_le hn hk1
          exact Nat.lt_of_lt_of_le h4 (Nat.le_trans (Nat.pow_le_pow_right (by omega) (show k - 1 ≤ 10 by omega)) (by decide))
        have HN := Lib.hid hn
        clear hn
        by_cases hlt : k < s.size
        · have d0 : (0 : Int) ≤ (s[k].toNat : Int) := by omega
          have d1 : (s[k].toNat : Int) ≤ 255 := by have := s[k].toNat_lt; omega
          go_wp2_with fail
          refine (ref_class_any _ d0 d1 _).mono ?_
          rintro e w' ⟨rfl, rfl⟩
          have c2 := cls_two s[k].toNat
          by_cases hd : 48 ≤ s[k].toNat ∧ s[k].toNat ≤ 57
          · rw [decide_eq_true hd] at c2
            have c2' : (Nm.cls (s[k].toNat : Int) != 2) = false := by rw [bne, c2]; rfl
            have HS := Lib.hid (digYet_succ HN.out hk1 hlt hd)
            obtain ⟨hd0, hd1⟩ := hd
            have z0 : (48 : Int) ≤ (s[k].toNat : Int) := by omega
            have z1 : (s[k].toNat : Int) ≤ 57 := by omega
            clear c2 hd0 hd1
            go_wp2_with fail
            go_round
            case rel => exact ⟨_, k + 1, by omega, by omega, congrArg (Value.int .i64) (by omega), by go_num, HS.out⟩
            case measure => simp [intOf]; omega
          · rw [decide_eq_false hd] at c2
            have c2' : (Nm.cls (s[k].toNat : Int) != 2) = true := by rw [bne, c2]; rfl
            have e : Nm.refIdx s.data.toList = -1 := by
              unfold Nm.refIdx
              rw [digNot HN.out hk1 hlt hd]
              split <;> rfl
            have E := Lib.hid e
            clear e c2 hd
            go_wp2_with fail
            go_ret
            exact ⟨ret_int E.out.symm, Below.refl _ _⟩
        · have hks : k = s.size := by omega
          subst hks
          have hd := digYet_all HN.out
          have e0 : Nm.refIdx s.data.toList = if 2147483647 < m ∨ Nm.localL m ≠ s.data.toList then -1 else (m : Int) := by
            unfold Nm.refIdx
            rw [if_neg (by rw [← size_eq, HC.out]; simp; omega), hd]
          by_cases hmm : 2147483647 < m
          · rw [if_pos (.inl hmm)] at e0
            have E := Lib.hid e0
            have z : (2147483647 : Int) < (m : Int) := by omega
            clear e0 hd hlt
            go_wp2_with fail
            go_ret
            exact ⟨ret_int E.out.symm, Below.refl _ _⟩
          · have zd : decide ((2147483647 : Int) < (m : Int)) = false := by simp; omega
            by_cases hl : Nm.localL m = s.data.toList
            · rw [if_neg (by simp [hl]; omega)] at e0
              have E := Lib.hid e0
              have hb : (Nm.localL m == s.toList) = true := by rw [Lib.toList_data, hl]; simp
              clear e0 hd hl hlt
              go_wp2_with fail
              refine (ref_local_any m (by omega) (by omega) _).mono ?_
              rintro e w2 ⟨rfl, hb2⟩
              go_wp2_with fail
              go_ret
              exact ⟨ret_int E.out.symm, hb2⟩
            · rw [if_pos (.inr hl)] at e0
              have E := Lib.hid e0
              have hb : (Nm.localL m == s.toList) = false := by rw [Lib.toList_data]; simpa using hl
              clear e0 hd hl hlt
              go_wp2_with fail
              refine (ref_local_any m (by omega) (by omega) _).mono ?_
              rintro e w2 ⟨rfl, hb2⟩
              go_wp2_with fail
              go_ret
              exact ⟨ret_int E.out.symm, hb2⟩
    · have c36 : ((s[0].toNat : Int) != 36) = true := by simpa using hC
      have e : Nm.refIdx s.data.toList = -1 := by
        unfold Nm.refIdx
        rw [if_pos (.inr (.inr (head_ne hpos hC)))]
      have E := Lib.hid e
      clear e hC
      go_enter Tryd.func17, Tryd.ntmps17
      go_wp2_with fail
      go_ret
      exact ⟨ret_int E.out.symm, Below.refl _ _⟩
end Go.Proofs.YtekkecpdnlbkjaaDoor
