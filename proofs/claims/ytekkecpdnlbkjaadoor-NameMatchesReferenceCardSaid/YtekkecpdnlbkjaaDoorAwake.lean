/- The walk of the law's own look at fixed examples: it answers true. -/
import Derived.Test.YtekkecpdnlbkjaaDoorWalkC
import Derived.Test.YtekkecpdnlbkjaaDoorWalkF
import Derived.Test.YtekkecpdnlbkjaaDoorWalkH
namespace Go.Proofs.YtekkecpdnlbkjaaDoor
open Go.RowKit Go.Lib

theorem is_at (s : ByteArray) (b : Bool) (h : Nm.isB s.data.toList = b) (w : World) (hE : Env w) :
    Calls Tryd.prog 8 #[.string s] w fun e w' => e = .returned (.bool b) ∧ Below w.heap.size w w' := by
  have := is_any s w hE
  rwa [h] at this
theorem reserved_at (s : ByteArray) (b : Bool) (h : Nm.resB s.data.toList = b) (w : World) (hE : Env w) :
    Calls Tryd.prog 10 #[.string s] w fun e w' => e = .returned (.bool b) ∧ w = w' := by
  have := reserved_any s w hE
  rwa [h] at this
theorem class_at (c k : Int) (h0 : 0 ≤ c) (h1 : c ≤ 255) (h : Nm.cls c = k) (w : World) :
    Calls Tryd.prog 12 #[.int .u8 c] w fun e w' => e = .returned (.int .i64 k) ∧ w = w' := by
  have := class_any c h0 h1 w
  rwa [h] at this
theorem local_at (i : Int) (l : List UInt8) (h0 : -9223372036854775808 ≤ i) (h1 : i ≤ 9223372036854775807) (h : Nm.localL i = l) (w : World) (hE : Env w) :
    Calls Tryd.prog 14 #[.int .i64 i] w fun e w' => e = .returned (.string ⟨l.toArray⟩) ∧ Below w.heap.size w w' := by
  have := local_any i h0 h1 w hE
  rwa [h] at this
theorem index_at (s : ByteArray) (hs : s.size ≤ 281474976710656) (i : Int) (b : Bool) (h : Nm.idxI s.data.toList = (i, b)) (w : World) (hE : Env w) :
    Calls Tryd.prog 15 #[.string s] w fun e w' => e = .returned (.tuple #[.int .i64 i, .bool b]) ∧ Below w.heap.size w w' := by
  have := index_any s hs w hE
  rwa [h] at this
theorem compare_at (a b : ByteArray) (k : Int) (h : compareBytes a.data.toList b.data.toList = k) (w : World) :
    Calls Tryd.prog 18 #[.string a, .string b] w fun e w' => e = .returned (.int .i64 k) ∧ w = w' := by
  have := compare_any a b w
  rwa [h] at this

theorem dec3 : Nm.localL 3 = [36, 51] := by
  show 36 :: decDigits 3 = _
  rw [decDigits_one (by omega)]; rfl
theorem dec12 : Nm.localL 12 = [36, 49, 50] := by
  show 36 :: decDigits 12 = _
  rw [decDigits_two (by omega) (by omega)]; rfl
theorem idx12 : Nm.idxI [36, 49, 50] = (12, true) := by
  have := Nm.idxI_local 12 (by omega)
  rwa [show Nm.localL ((12 : Nat) : Int) = [36, 49, 50] from dec12] at this

set_option maxHeartbeats 1000000 in
theorem awake_any (w : World) (hE : Env w) :
    Calls Tryd.prog 7 #[] w fun e w' => e = .returned (.bool true) ∧ Below w.heap.size w w' := by
  go_enter Tryd.func7, Tryd.ntmps7
  go_wp2_with fail
  refine (index_at ⟨#[36, 49, 50]⟩ (by decide) 12 true idx12 _ hE).mono ?_
  rintro e w1 ⟨rfl, hb1⟩
  have hE1 := hE.later hb1
  go_wp2_with fail
  refine (is_at ⟨#[97, 95, 49]⟩ true (by decide +kernel) _ hE1).mono ?_
  rintro e w2 ⟨rfl, hb2⟩
  have hE2 := hE1.later hb2
  have hB2 := hb1.trans (hb2.mono hb1.size)
  clear hb1 hb2 hE1
  go_wp2_with fail
  refine (is_at ⟨#[116, 121, 112, 101]⟩ false (by decide +kernel) _ hE2).mono ?_
  rintro e w3 ⟨rfl, hb3⟩
  have hE3 := hE2.later hb3
  have hB3 := hB2.trans (hb3.mono hB2.size)
  clear hb3 hB2 hE2
  go_wp2_with fail
  refine (is_at ⟨#[49, 97]⟩ false (by decide +kernel) _ hE3).mono ?_
  rintro e w4 ⟨rfl, hb4⟩
  have hE4 := hE3.later hb4
  have hB4 := hB3.trans (hb4.mono hB3.size)
  clear hb4 hB3 hE3
  go_wp2_with fail
  refine (reserved_at ⟨#[102, 117, 110, 99]⟩ true (by decide +kernel) _ hE4).mono ?_
  rintro e w5 ⟨rfl, rfl⟩
  go_wp2_with fail
  refine (class_at 95 3 (by omega) (by omega) (by decide +kernel) _).mono ?_
  rintro e w5 ⟨rfl, rfl⟩
  go_wp2_with fail
  refine (local_at 3 [36, 51] (by omega) (by omega) dec3 _ hE4).mono ?_
  rintro e w5 ⟨rfl, hb5⟩
  have hB5 := hB4.trans (hb5.mono hB4.size)
  clear hb5 hB4 hE4
  go_wp2_with fail
  refine (compare_at ⟨#[97]⟩ ⟨#[98]⟩ (-1) (by decide +kernel) _).mono ?_
  rintro e w5 ⟨rfl, rfl⟩
  go_wp2_with fail
  go_ret
  exact ⟨rfl, hB5⟩
end Go.Proofs.YtekkecpdnlbkjaaDoor
