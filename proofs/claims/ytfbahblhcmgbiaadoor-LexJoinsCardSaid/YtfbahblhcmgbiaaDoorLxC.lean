/- The walks of the reference's Alike, Same and Join. -/
import Derived.Test.YtfbahblhcmgbiaaDoorLxB
import Derived.Deep.QuietTactic
import Derived.BigQuiet
import Derived.Lib.SmallJoins
namespace Go.Proofs.YtfbahblhcmgbiaaDoor
open Go.RowKit

def sameT (x y : Tk) : Bool := (x.k == y.k) && (x.s.toList == y.s.toList)
def alikeB : List Tk → List Tk → Bool
  | [], [] => true
  | x :: a, y :: b => sameT x y && alikeB a b
  | _, _ => false
theorem alikeB_len : ∀ {a b : List Tk}, a.length ≠ b.length → alikeB a b = false
  | [], [], h => absurd rfl h
  | [], _ :: _, _ => rfl
  | _ :: _, [], _ => rfl
  | x :: a, y :: b, h => by
    rw [alikeB, alikeB_len (a := a) (b := b) (by simp at h; omega), Bool.and_false]
theorem alikeB_step {a b : List Tk} {k : Nat} {x y : Tk} (hx : a[k]? = some x) (hy : b[k]? = some y) : alikeB (a.drop k) (b.drop k) = (sameT x y && alikeB (a.drop (k + 1)) (b.drop (k + 1))) := by
  obtain ⟨h1, e1⟩ := List.getElem?_eq_some_iff.1 hx
  obtain ⟨h2, e2⟩ := List.getElem?_eq_some_iff.1 hy
  rw [List.drop_eq_getElem_cons h1, List.drop_eq_getElem_cons h2, e1, e2, alikeB]

set_option maxHeartbeats 2000000 in
theorem alike_any (A B : Option Addr) (n m ca cb : Nat) (a b : List Tk) (w : World) (hn : n ≤ 9223372036854775807) (hm : m ≤ 9223372036854775807) (ha : TS w A n a) (hb : TS w B m b) :
    Calls Tryd.prog 17 #[.slice A n ca, .slice B m cb] w fun e w' => e = .returned (.bool (alikeB a b)) ∧ Below w.heap.size w w' := by
  by_cases hnm : n = m
  · subst hnm
    have HA := Lib.hid ha
    have HB := Lib.hid hb
    clear ha hb
    have hnn : (!((n : Int) == (n : Int))) = false := by simp
    go_enter Tryd.func17, Tryd.ntmps17
    go_wp2_with fail
    go_loopw [5] (fun i wr => ∃ k : Nat, k ≤ n ∧ i = .int .i64 k ∧ alikeB a b = alikeB (a.drop k) (b.drop k) ∧ Below w.heap.size w wr) (fun i _ => n - (intOf i).toNat)
    case atStart => exact ⟨0, by omega, rfl, rfl, Below.refl _ _⟩
    case round =>
      obtain ⟨k, hk, rfl, hy, hbel⟩ := hrel
      by_cases hlt : k < n
      · obtain ⟨ad, x, rfl, hx, c0, c1, c2⟩ := (HA.out.later hbel).get hlt
        obtain ⟨bd, y, rfl, hy2, d0, d1, d2⟩ := (HB.out.later hbel).get hlt
        have z0 : (0 : Int) ≤ k := by omega
        have z1 : (k : Int) < n := by omega
        have hs := alikeB_step hx hy2
        rw [← hy] at hs
        have HBL := Lib.hid hbel
        clear hbel hy hx hy2
        by_cases h1 : x.k = y.k
        · by_cases h2 : x.s.toList = y.s.toList
          · have HS := Lib.hid (hs.trans (by simp [sameT, h1, h2] : _ = alikeB (a.drop (k + 1)) (b.drop (k + 1))))
            have e1 : (x.k != y.k) = false := by simp [h1]
            have e2 : (!(x.s.toList == y.s.toList)) = false := by simp [h2]
            have e3 : (x.s.toList != y.s.toList) = false := by simp [h2]
            clear hs h1 h2
            go_wp2_with fail
            go_quiet (fail)
            go_wp2_with fail
            go_roundw
            case rel => exact ⟨k + 1, by omega, by go_num, HS.out, below_drewN HBL.out _⟩
            case measure => simp [intOf]; omega
          · have HS := Lib.hid (hs.trans (by simp [sameT, h2] : _ = false))
            have e1 : (x.k != y.k) = false := by simp [h1]
            have e2 : (!(x.s.toList == y.s.toList)) = true := by simp [h2]
            have e3 : (x.s.toList != y.s.toList) = true := by simp [h2]
            clear hs h1 h2
            go_wp2_with fail
            go_quiet (fail)
            go_wp2_with fail
            go_ret
            exact ⟨ret_bool HS.out.symm, below_drewN HBL.out _⟩
        · have HS := Lib.hid (hs.trans (by simp [sameT, h1] : _ = false))
          have e1 : (x.k != y.k) = true := by simp [h1]
          clear hs h1
          go_wp2_with fail
          go_quiet (fail)
          go_wp2_with fail
          go_ret
          exact ⟨ret_bool HS.out.symm, below_drewN HBL.out _⟩
      · have hkn : k = n := by omega
        have z1 : (n : Int) ≤ k := by omega
        have he : alikeB (a.drop k) (b.drop k) = true := by
          rw [List.drop_eq_nil_of_le (by rw [HA.out.len]; omega), List.drop_eq_nil_of_le (by rw [HB.out.len]; omega)]; rfl
        have HS := Lib.hid (hy.trans he)
        have HBL := Lib.hid hbel
        clear hy he hbel hkn
        go_wp2_with fail
        go_ret
        exact ⟨ret_bool HS.out.symm, HBL.out⟩
  · have HS := Lib.hid (alikeB_len (a := a) (b := b) (by rw [ha.len, hb.len]; exact hnm))
    have e : ((n : Int) == (m : Int)) = false := by simp; omega
    have e' : (!((n : Int) == (m : Int))) = true := by simp; omega
    clear ha hb hnm
    go_enter Tryd.func17, Tryd.ntmps17
    go_wp2_with fail
    go_ret
    exact ⟨ret_bool HS.out.symm, Below.refl _ _⟩
end Go.Proofs.YtfbahblhcmgbiaaDoor
