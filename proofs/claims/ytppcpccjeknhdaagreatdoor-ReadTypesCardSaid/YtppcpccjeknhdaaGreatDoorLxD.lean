/- The walks of the reference's Same, at two slices that read alike, and Join. -/
import Derived.Test.YtppcpccjeknhdaaGreatDoorLxC
import Derived.Laws.StructEq
namespace Go.Proofs.YtppcpccjeknhdaaGreatDoor
open Go.RowKit

theorem neqTok (k o : Int) (s : ByteArray) (w : World) : (binOp .neq 152 (.agg #[.int .i64 k, .string s, .int .i64 o]) (.agg #[.int .i64 k, .string s, .int .i64 o])).run Tryz.prog w = .ok (.bool false) w := by
  have u1 := Tryz.underlying3
  have u2 := Tryz.underlying9
  have a1 := Tryz.isAgg3
  have z1 := Tryz.sizeOf3
  have a2 := Tryz.isAgg9
  have z2 := Tryz.sizeOf9
  have hS : Tryz.prog.underlying 152 = some (.struct (Tryz.prog.fieldsOf 152)) := by kernel_rfl
  have hp : Tryz.prog.stoodInHeld 152 = false := by kernel_rfl
  rw [run_neq_struct, show (10000 : Nat) = 9999 + 1 from rfl, run_equalIn_agg w 9999 152 _ _ hS hp]
  simp only [Program.fieldsOf, Tryz.underlying152]
  go_simp
theorem guardTok : Tryz.prog.eqGuardType Tryz.prog.depth 152 = false := by kernel_rfl

/-- The joined texts of all but the tokens of kind 3. -/
def joinT : List UInt8 → List Tk → List UInt8
  | s, [] => s
  | s, t :: r => if t.k = 3 then joinT s r else if s = [] then joinT t.s.data.toList r else joinT (s ++ [32] ++ t.s.data.toList) r
theorem joinT_snoc : ∀ (l : List Tk) (s : List UInt8) (t : Tk), joinT s (l ++ [t]) = if t.k = 3 then joinT s l else if joinT s l = [] then t.s.data.toList else joinT s l ++ [32] ++ t.s.data.toList
  | [], s, t => by by_cases h1 : t.k = 3 <;> by_cases h2 : s = [] <;> simp [joinT, h1, h2]
  | x :: r, s, t => by
    simp only [List.cons_append, joinT]
    split
    · exact joinT_snoc r _ _
    · split
      · exact joinT_snoc r _ _
      · exact joinT_snoc r _ _
/-- Its length, at most. -/
def wideT : List Tk → Nat
  | [] => 0
  | t :: r => t.s.size + 1 + wideT r
theorem wideT_take : ∀ (l : List Tk) (k : Nat), wideT (l.take k) ≤ wideT l
  | [], _ => by simp [wideT]
  | _ :: _, 0 => by simp [wideT]
  | t :: l, k + 1 => by
    have := wideT_take l k
    simp only [List.take_succ_cons, wideT]
    omega
theorem joinT_le : ∀ (l : List Tk) (s : List UInt8), (joinT s l).length ≤ s.length + wideT l
  | [], s => by simp [joinT, wideT]
  | t :: r, s => by
    have hs : t.s.data.toList.length = t.s.size := (Lib.size_eq t.s).symm
    simp only [joinT, wideT]
    split
    · have := joinT_le r s; omega
    · split
      · have := joinT_le r t.s.data.toList; omega
      · have := joinT_le r (s ++ [32] ++ t.s.data.toList)
        simp only [List.length_append, List.length_cons, List.length_nil] at this
        omega
theorem wideT_at {l : List Tk} {k : Nat} {t : Tk} (h : l[k]? = some t) : t.s.size + 1 ≤ wideT l := by
  induction l generalizing k with
  | nil => simp at h
  | cons x r ih =>
    cases k with
    | zero =>
      obtain rfl : x = t := by simpa using h
      simp only [wideT]; omega
    | succ k =>
      have := ih (k := k) (by simpa using h)
      simp only [wideT]; omega

set_option maxHeartbeats 2000000 in
theorem ref_join_any (A : Option Addr) (n ca : Nat) (a : List Tk) (w : World) (hn : n ≤ 9223372036854775807) (hw : wideT a ≤ 1000000) (ha : TS w A n a) :
    Calls Tryz.prog 40 #[.slice A n ca] w fun e w' => e = .returned (.string ⟨(joinT [] a).toArray⟩) ∧ w = w' := by
  have HA := Lib.hid ha
  clear ha
  go_enter Tryz.func40, Tryz.ntmps40
  go_wp2_with fail
  go_loop [3, 4] (fun s i => ∃ k : Nat, k ≤ n ∧ i = .int .i64 k ∧ s = .string ⟨(joinT [] (a.take k)).toArray⟩) (fun _ i => n - (intOf i).toNat)
  case atStart => exact ⟨0, by omega, rfl, rfl⟩
  case round =>
    obtain ⟨k, hk, rfl, rfl⟩ := hrel
    by_cases hlt : k < n
    · obtain ⟨ad, t, rfl, ht, c0, c1, c2⟩ := HA.out.get hlt
      have z0 : (0 : Int) ≤ k := by omega
      have z1 : (k : Int) < n := by omega
      have hs := joinT_snoc (a.take k) [] t
      rw [show a.take k ++ [t] = a.take (k + 1) by rw [List.take_add_one, ht]; rfl] at hs
      have hl := joinT_le (a.take k) []
      have hl2 := wideT_take a k
      have hl3 := wideT_at ht
      have l1 : (joinT [] (a.take k)).length ≤ 1000000 := by simp only [List.length_nil] at hl; omega
      have l2 : t.s.size ≤ 1000000 := by omega
      clear hl hl2 hl3 ht
      by_cases h3 : t.k = 3
      · rw [if_pos h3] at hs
        have HS := Lib.hid hs
        have e1 : (t.k != 3) = false := by simp [h3]
        clear hs h3
        generalize joinT [] (a.take k) = l at *
        go_wp2_with fail
        go_round
        case rel => exact ⟨k + 1, by omega, by go_num, by rw [HS.out]⟩
        case measure => simp [intOf]; omega
      · rw [if_neg h3] at hs
        have e1 : (t.k != 3) = true := by simp [h3]
        by_cases h0 : joinT [] (a.take k) = []
        · rw [if_pos h0] at hs
          have HS := Lib.hid hs
          rw [h0]
          clear hs h3 h0 l1
          go_wp2_with fail
          go_round
          case rel =>
            refine ⟨k + 1, by omega, by go_num, ?_⟩
            have := ret_str (a := (⟨#[]⟩ : ByteArray) ++ t.s) (b := ⟨(joinT [] (a.take (k + 1))).toArray⟩) (by rw [Go.Joins.data_append, HS.out]; simp)
            injection this
          case measure => simp [intOf]; omega
        · rw [if_neg h0] at hs
          have HS := Lib.hid hs
          have e2 : (joinT [] (a.take k)).isEmpty = false := by simpa using h0
          clear hs h3 h0
          generalize joinT [] (a.take k) = l at *
          go_wp2_with fail
          go_round
          case rel =>
            refine ⟨k + 1, by omega, by go_num, ?_⟩
            have := ret_str (a := (⟨l.toArray⟩ : ByteArray) ++ ⟨#[32]⟩ ++ t.s) (b := ⟨(joinT [] (a.take (k + 1))).toArray⟩) (by rw [Go.Joins.data_append, Go.Joins.data_append, HS.out])
            injection this
          case measure => simp [intOf]; omega
    · have hkn : k = n := by omega
      have z1 : (n : Int) ≤ k := by omega
      have ht : a.take k = a := List.take_of_length_le (by rw [HA.out.len]; omega)
      rw [ht]
      clear ht hkn
      go_wp2_with fail
      go_ret
      exact ⟨rfl, rfl⟩
end Go.Proofs.YtppcpccjeknhdaaGreatDoor
