/- Names, numbers and lists of bytes in plain words. No program, no condition. -/
import Derived.Lib.Bytealg
import Derived.Lib.TrimUEq
import Derived.Shelf.GgClosure.StringsIndexFunc
namespace Go.Proofs.YtkdlidakdknhjaaDoor.Nm
open Go.Lib

/-- P1.1 -/
def cls (c : Int) : Int :=
  if (65 ≤ c ∧ c ≤ 90) ∨ (97 ≤ c ∧ c ≤ 122) then 1
  else if 48 ≤ c ∧ c ≤ 57 then 2
  else if c = 95 then 3
  else if c = 9 ∨ c = 10 ∨ c = 13 ∨ c = 32 then 4 else 0

theorem cls_cases (c : Int) : cls c = 0 ∨ cls c = 1 ∨ cls c = 2 ∨ cls c = 3 ∨ cls c = 4 := by
  unfold cls
  repeat' split
  all_goals simp

def goodB (c : Int) : Bool := cls c == 1 || cls c == 2 || cls c == 3

theorem goodB_eq (c : Int) : goodB c = (!(cls c == 0) && !(cls c == 4)) := by
  unfold goodB
  rcases cls_cases c with h | h | h | h | h <;> rw [h] <;> decide

def words : List (List UInt8) :=
  [[112, 97, 99, 107, 97, 103, 101], [109, 97, 105, 110], [116, 121, 112, 101], [115, 116, 114, 117, 99, 116],
   [105, 110, 116, 101, 114, 102, 97, 99, 101], [102, 117, 110, 99], [114, 101, 116, 117, 114, 110]]

def resB (l : List UInt8) : Bool := words.any (fun w => l == w)

def isB : List UInt8 → Bool
  | [] => false
  | c :: r => (cls c.toNat == 1) && (c :: r).all (fun c => goodB c.toNat) && !resB (c :: r)


/-- name.Is's closure, as a predicate on runes. -/
def wrongR (r : Nat) : Bool := decide (128 ≤ r) || !goodB r

theorem goodB_lt {c : Nat} (h : goodB c = true) : c < 128 := by
  rcases Nat.lt_or_ge c 128 with h1 | h1
  · exact h1
  · exfalso
    have : cls c = 0 := by
      unfold cls
      rw [if_neg (by omega), if_neg (by omega), if_neg (by omega), if_neg (by omega)]
    simp [goodB, this] at h

theorem decodeN_lo (n b0 b1 b2 b3 : Nat) (h : b0 < 128) : decodeN n b0 b1 b2 b3 = (b0, 1) := by simp [decodeN, h]
theorem decodeN_hi (n b0 b1 b2 b3 : Nat) (h : 128 ≤ b0) : 128 ≤ (decodeN n b0 b1 b2 b3).1 := by
  unfold decodeN
  rw [if_neg (by omega)]
  repeat' split
  all_goals simp only
  all_goals omega

theorem idx_from (s : ByteArray) : ∀ (f pos : Nat), s.size ≤ pos + f →
    (idxFuncFrom wrongR true s f pos < 0 ↔ ((s.data.toList.drop pos).all fun c => goodB c.toNat) = true)
  | 0, pos, h => by
    have h2 : s.data.toList.drop pos = [] := List.drop_eq_nil_of_le (by rw [← size_eq]; omega)
    simp [idxFuncFrom, h2]
  | f + 1, pos, h => by
    by_cases hp : pos < s.size
    · have hl : pos < s.data.toList.length := by rw [← size_eq]; exact hp
      have hd : s.data.toList.drop pos = s.data.toList[pos] :: s.data.toList.drop (pos + 1) := List.drop_eq_getElem_cons hl
      have hg : s.data.toList.getD pos 0 = s.data.toList[pos] := by rw [List.getD, List.getElem?_eq_getElem hl]; rfl
      rw [hd, List.all_cons]
      unfold idxFuncFrom
      rw [if_pos hp, decode_N, hg]
      generalize hb : s.data.toList[pos].toNat = b
      rcases Nat.lt_or_ge b 128 with hlt | hge
      · rw [decodeN_lo _ _ _ _ _ hlt]
        simp only
        have hw : wrongR b = !goodB b := by
          have : decide (128 ≤ b) = false := by simp; omega
          simp [wrongR, this]
        rw [hw]
        cases hgb : goodB b
        · simp
        · simp only [Bool.not_true, Bool.false_eq_true, if_false, Bool.true_and]
          exact idx_from s f (pos + 1) (by omega)
      · have h1 := decodeN_hi (s.data.toList.length - pos) b (s.data.toList.getD (pos + 1) 0).toNat (s.data.toList.getD (pos + 2) 0).toNat (s.data.toList.getD (pos + 3) 0).toNat hge
        have hw : wrongR (decodeN (s.data.toList.length - pos) b (s.data.toList.getD (pos + 1) 0).toNat (s.data.toList.getD (pos + 2) 0).toNat (s.data.toList.getD (pos + 3) 0).toNat).1 = true := by
          unfold wrongR; rw [decide_eq_true h1]; rfl
        have hgb : goodB b = false := by
          cases hgb : goodB b
          · rfl
          · have := goodB_lt hgb; omega
        rw [if_pos hw, hgb]
        simp
    · have h2 : s.data.toList.drop pos = [] := List.drop_eq_nil_of_le (by rw [← size_eq]; omega)
      unfold idxFuncFrom
      rw [if_neg hp, h2]
      simp

theorem isB_eq (s : ByteArray) (hpos : 0 < s.size) :
    isB s.data.toList = ((cls s[0].toNat == 1) && (s.data.toList.all fun c => goodB c.toNat) && !resB s.data.toList) := by
  have hl : 0 < s.data.toList.length := by rw [← size_eq]; exact hpos
  cases hh : s.data.toList with
  | nil => rw [hh] at hl; simp at hl
  | cons c r =>
    have e : s[0] = c := by
      have h1 : s.data.toList[0] = c := by simp [hh]
      rw [← h1]; simp; rfl
    rw [e]
    rfl

theorem isB_idx (s : ByteArray) (hpos : 0 < s.size) (h1 : cls s[0].toNat = 1) (hr : resB s.data.toList = false) :
    decide (idxFunc wrongR true s < 0) = isB s.data.toList := by
  have h := idx_from s s.size 0 (by omega)
  rw [List.drop_zero] at h
  rw [isB_eq s hpos, h1, hr]
  unfold idxFunc
  cases ha : s.data.toList.all fun c => goodB c.toNat
  · rw [ha] at h
    have : ¬ idxFuncFrom wrongR true s s.size 0 < 0 := fun hh => by cases h.1 hh
    rw [decide_eq_false this]; rfl
  · rw [decide_eq_true (h.2 ha)]; rfl

end Go.Proofs.YtkdlidakdknhjaaDoor.Nm
namespace Go.Proofs.YtkdlidakdknhjaaDoor.Nm
open Go.Lib

/-- The first k bytes may all stand in a name. -/
def AllYet (l : List UInt8) (k : Nat) : Prop := ((l.take k).all fun c => goodB c.toNat) = true

theorem allYet_zero (l : List UInt8) : AllYet l 0 := by simp [AllYet]
theorem allYet_succ {s : ByteArray} {k : Nat} (hk : k < s.size) (h : AllYet s.data.toList k) (hg : goodB (s[k].toNat : Int) = true) : AllYet s.data.toList (k + 1) := by
  unfold AllYet at *
  have hl : k < s.data.toList.length := by rw [← size_eq]; exact hk
  rw [List.take_succ_eq_append_getElem hl, List.all_append, h]
  have e : s.data.toList[k] = s[k] := rfl
  simp only [List.all_cons, List.all_nil, Bool.and_true, Bool.true_and, e]
  exact hg
theorem allYet_all {s : ByteArray} (h : AllYet s.data.toList s.size) : (s.data.toList.all fun c => goodB c.toNat) = true := by
  unfold AllYet at h
  rwa [List.take_of_length_le (by rw [← size_eq]; omega)] at h
theorem not_all {s : ByteArray} {k : Nat} (hk : k < s.size) (hg : goodB (s[k].toNat : Int) = false) : (s.data.toList.all fun c => goodB c.toNat) = false := by
  have hl : k < s.data.toList.length := by rw [← size_eq]; exact hk
  rw [List.all_eq_false]
  refine ⟨s.data.toList[k], List.getElem_mem hl, ?_⟩
  have e : s.data.toList[k] = s[k] := rfl
  rw [e, hg]; simp
end Go.Proofs.YtkdlidakdknhjaaDoor.Nm
namespace Go.Proofs.YtkdlidakdknhjaaDoor.Nm
open Go.Lib

theorem u8_tri (a b : UInt8) : a < b ∨ b < a ∨ a = b := by
  rw [UInt8.lt_iff_toNat_lt, UInt8.lt_iff_toNat_lt]
  rcases Nat.lt_trichotomy a.toNat b.toNat with h | h | h
  · exact .inl h
  · exact .inr (.inr (UInt8.toNat.inj h))
  · exact .inr (.inl h)
theorem u8_asymm {a b : UInt8} (h : a < b) : ¬ b < a := by
  rw [UInt8.lt_iff_toNat_lt] at *
  omega
theorem u8_irrefl (a : UInt8) : ¬ a < a := by
  rw [UInt8.lt_iff_toNat_lt]
  omega
theorem u8_trans {a b c : UInt8} (h : a < b) (k : b < c) : a < c := by
  rw [UInt8.lt_iff_toNat_lt] at *
  omega

theorem cmp_cons (x y : UInt8) (a b : List UInt8) : compareBytes (x :: a) (y :: b) = if x < y then -1 else if y < x then 1 else compareBytes a b := by rw [compareBytes]

theorem cmp_neg : ∀ a b : List UInt8, compareBytes b a = -compareBytes a b
  | [], [] => rfl
  | [], _ :: _ => rfl
  | _ :: _, [] => rfl
  | x :: a, y :: b => by
    rw [cmp_cons, cmp_cons]
    rcases u8_tri x y with h | h | rfl
    · rw [if_neg (u8_asymm h), if_pos h, if_pos h]; rfl
    · rw [if_pos h, if_neg (u8_asymm h), if_pos h]
    · rw [if_neg (u8_irrefl x), if_neg (u8_irrefl x), if_neg (u8_irrefl x), if_neg (u8_irrefl x)]
      exact cmp_neg a b

theorem cmp_cases : ∀ a b : List UInt8, compareBytes a b = -1 ∨ compareBytes a b = 0 ∨ compareBytes a b = 1
  | [], [] => .inr (.inl rfl)
  | [], _ :: _ => .inl rfl
  | _ :: _, [] => .inr (.inr rfl)
  | x :: a, y :: b => by
    rw [cmp_cons]
    split
    · exact .inl rfl
    · split
      · exact .inr (.inr rfl)
      · exact cmp_cases a b

theorem cmp_zero : ∀ a b : List UInt8, compareBytes a b = 0 ↔ a = b
  | [], [] => by simp [compareBytes]
  | [], _ :: _ => by simp [compareBytes]
  | _ :: _, [] => by simp [compareBytes]
  | x :: a, y :: b => by
    rw [cmp_cons]
    rcases u8_tri x y with h | h | rfl
    · rw [if_pos h]
      refine ⟨fun e => by omega, fun e => ?_⟩
      obtain ⟨rfl, rfl⟩ := List.cons.inj e
      exact absurd h (u8_irrefl _)
    · rw [if_neg (u8_asymm h), if_pos h]
      refine ⟨fun e => by omega, fun e => ?_⟩
      obtain ⟨rfl, rfl⟩ := List.cons.inj e
      exact absurd h (u8_irrefl _)
    · rw [if_neg (u8_irrefl x), if_neg (u8_irrefl x), cmp_zero a b]
      simp

theorem cmp_trans : ∀ a b c : List UInt8, compareBytes a b ≤ 0 → compareBytes b c ≤ 0 → compareBytes a c ≤ 0
  | [], _, [], _, _ => by simp [compareBytes]
  | [], _, _ :: _, _, _ => by simp [compareBytes]
  | _ :: _, [], _, h, _ => by simp [compareBytes] at h
  | _ :: _, _ :: _, [], _, h => by simp [compareBytes] at h
  | x :: a, y :: b, z :: c, h, k => by
    rw [cmp_cons] at *
    rcases u8_tri x y with h1 | h1 | rfl
    · rcases u8_tri y z with h2 | h2 | rfl
      · rw [if_pos (u8_trans h1 h2)]; omega
      · rw [if_neg (u8_asymm h2), if_pos h2] at k; omega
      · rw [if_pos h1]; omega
    · rw [if_neg (u8_asymm h1), if_pos h1] at h; omega
    · rcases u8_tri x z with h2 | h2 | rfl
      · rw [if_pos h2]; omega
      · rw [if_neg (u8_asymm h2), if_pos h2] at k; omega
      · rw [if_neg (u8_irrefl _), if_neg (u8_irrefl _)] at *
        exact cmp_trans a b c h k

end Go.Proofs.YtkdlidakdknhjaaDoor.Nm
