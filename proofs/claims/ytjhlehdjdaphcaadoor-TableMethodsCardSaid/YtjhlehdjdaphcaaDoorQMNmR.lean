/- The walks of name.Class, name.Reserved, name.Is and what they call, over the table of reserved words. No condition but the table.
The walks of the reference's Is and Compare, and of name.Compare. -/
import Derived.Test.YtjhlehdjdaphcaaDoorQMExA
import Derived.Test.YtjhlehdjdaphcaaDoorShelf
import Derived.WalkKit
import Derived.WalkSmall
import Derived.Lib.LaidTab
import Derived.WalkSpells
import Derived.WalkLawsBesides
import Derived.Deep.QuietTactic
import Derived.BigQuiet
namespace Go.Proofs.YtjhlehdjdaphcaaDoor
open Go.RowKit

end Go.Proofs.YtjhlehdjdaphcaaDoor
namespace Go.Proofs.YtjhlehdjdaphcaaDoor
open Go.RowKit


end Go.Proofs.YtjhlehdjdaphcaaDoor
namespace Go.Proofs.YtjhlehdjdaphcaaDoor
open Go.RowKit

end Go.Proofs.YtjhlehdjdaphcaaDoor
namespace Go.Proofs.YtjhlehdjdaphcaaDoor
open Go.RowKit Go.Lib


end Go.Proofs.YtjhlehdjdaphcaaDoor
namespace Go.Proofs.YtjhlehdjdaphcaaDoor
open Go.RowKit Go.Lib

end Go.Proofs.YtjhlehdjdaphcaaDoor
namespace Go.Proofs.YtjhlehdjdaphcaaDoor
open Go.RowKit Go.Lib

def CmpYet (a b : List UInt8) (k : Nat) : Prop := compareBytes a b = compareBytes (a.drop k) (b.drop k)

theorem cmpYet_zero (a b : List UInt8) : CmpYet a b 0 := rfl
theorem drop_at {s : ByteArray} {k : Nat} (hk : k < s.size) : s.data.toList.drop k = s[k] :: s.data.toList.drop (k + 1) := by
  have hl : k < s.data.toList.length := by rw [← size_eq]; exact hk
  exact List.drop_eq_getElem_cons hl
theorem drop_end {s : ByteArray} {k : Nat} (hk : s.size ≤ k) : s.data.toList.drop k = [] := List.drop_eq_nil_of_le (by rw [← size_eq]; exact hk)
theorem lt_iff (x y : UInt8) : (x < y) = ((x.toNat : Int) < (y.toNat : Int)) := by
  apply propext
  rw [UInt8.lt_iff_toNat_lt]
  omega
theorem cmpYet_step {a b : ByteArray} {k : Nat} (h : CmpYet a.data.toList b.data.toList k) (ha : k < a.size) (hb : k < b.size) :
    compareBytes a.data.toList b.data.toList = if (a[k].toNat : Int) < (b[k].toNat : Int) then -1 else if (b[k].toNat : Int) < (a[k].toNat : Int) then 1 else compareBytes (a.data.toList.drop (k + 1)) (b.data.toList.drop (k + 1)) := by
  unfold CmpYet at h
  rw [h, drop_at ha, drop_at hb]
  rw [compareBytes]
  simp only [lt_iff]

theorem cmp_end {a b : ByteArray} {k : Nat} (h : CmpYet a.data.toList b.data.toList k) (ha : k ≤ a.size) (hb : k ≤ b.size) (hlt : ¬ (k < a.size ∧ k < b.size)) :
    compareBytes a.data.toList b.data.toList = if a.size < b.size then -1 else if b.size < a.size then 1 else 0 := by
  unfold CmpYet at h
  rw [h]
  by_cases h1 : a.size < b.size
  · rw [if_pos h1, drop_end (by omega), drop_at (show k < b.size by omega), compareBytes]
  · rw [if_neg h1]
    by_cases h2 : b.size < a.size
    · rw [if_pos h2, drop_end (show b.size ≤ k by omega), drop_at (show k < a.size by omega), compareBytes]
    · rw [if_neg h2, drop_end (by omega), drop_end (by omega), compareBytes]

set_option maxHeartbeats 1000000 in
theorem nm_ref_compare_any (a b : ByteArray) (ha : a.size ≤ 9223372036854775807) (hb : b.size ≤ 9223372036854775807) (w : World) :
    Calls Tryd.prog 88 #[.string a, .string b] w fun e w' => e = .returned (.int .i64 (compareBytes a.data.toList b.data.toList)) ∧ Below w.heap.size w w' := by
  go_enter Tryd.func88, Tryd.ntmps88
  go_wp2_with fail
  go_loopw [5] (fun i wr => ∃ k : Nat, k ≤ a.size ∧ k ≤ b.size ∧ i = .int .i64 k ∧ CmpYet a.data.toList b.data.toList k ∧ Below w.heap.size w wr) (fun i _ => a.size - (intOf i).toNat)
  case atStart => exact ⟨0, by omega, by omega, rfl, cmpYet_zero _ _, Below.refl _ _⟩
  case round =>
    obtain ⟨k, hka, hkb, rfl, hn, hbel⟩ := hrel
    have HB := Lib.hid hbel
    clear hbel
    by_cases hlt : k < a.size ∧ k < b.size
    · obtain ⟨la, lb⟩ := hlt
      have hs := cmpYet_step hn la lb
      have z1 : (k : Int) < a.size := by omega
      have z2 : (k : Int) < b.size := by omega
      have z3 : (0 : Int) ≤ (k : Int) := by omega
      have HS := Lib.hid hs
      clear hs hn
      by_cases h1 : (a[k].toNat : Int) < (b[k].toNat : Int)
      · have E := Lib.hid (HS.out.trans (if_pos h1))
        clear HS
        go_wp2_with fail
        go_quiet (fail)
        go_wp2_with fail
        go_ret
        exact ⟨ret_int E.out.symm, below_drewN HB.out _⟩
      · by_cases h2 : (b[k].toNat : Int) < (a[k].toNat : Int)
        · have E := Lib.hid ((HS.out.trans (if_neg h1)).trans (if_pos h2))
          clear HS
          go_wp2_with fail
          go_quiet (fail)
          go_wp2_with fail
          go_quiet (fail)
          go_wp2_with fail
          go_ret
          exact ⟨ret_int E.out.symm, below_drewN (below_drewN HB.out _) _⟩
        · have E := Lib.hid ((HS.out.trans (if_neg h1)).trans (if_neg h2))
          clear HS
          go_wp2_with fail
          go_quiet (fail)
          go_wp2_with fail
          go_quiet (fail)
          go_wp2_with fail
          go_roundw
          case rel => exact ⟨k + 1, by omega, by omega, by go_num, E.out, below_drewN HB.out _⟩
          case measure => simp [intOf]; omega
    · have hs := cmp_end hn hka hkb hlt
      clear hn
      by_cases h1 : a.size < b.size
      · rw [if_pos h1] at hs
        have E := Lib.hid hs
        have hk : k = a.size := by omega
        subst hk
        clear hs hlt
        have z1 : (a.size : Int) < b.size := by omega
        go_wp2_with fail
        go_ret
        exact ⟨ret_int E.out.symm, HB.out⟩
      · rw [if_neg h1] at hs
        by_cases h2 : b.size < a.size
        · rw [if_pos h2] at hs
          have E := Lib.hid hs
          have hk : k = b.size := by omega
          subst hk
          clear hs hlt
          have z1 : (b.size : Int) < a.size := by omega
          go_wp2_with fail
          go_ret
          exact ⟨ret_int E.out.symm, HB.out⟩
        · rw [if_neg h2] at hs
          have E := Lib.hid hs
          have hk : k = a.size := by omega
          subst hk
          clear hs hlt
          have z1 : (a.size : Int) ≤ b.size := by omega
          have z2 : (b.size : Int) ≤ a.size := by omega
          go_wp2_with fail
          go_ret
          exact ⟨ret_int E.out.symm, HB.out⟩
end Go.Proofs.YtjhlehdjdaphcaaDoor
