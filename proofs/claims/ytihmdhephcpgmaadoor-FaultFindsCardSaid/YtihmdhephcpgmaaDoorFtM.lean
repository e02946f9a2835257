/- The walks of the reference's Told, and of fault.Shift and fault.Text. -/
import Derived.Test.YtihmdhephcpgmaaDoorFtG
import Derived.Test.YtihmdhephcpgmaaDoorFtK
namespace Go.Proofs.YtihmdhephcpgmaaDoor
open Go.RowKit Go.Lib

def tell (c o : Int) (nl fl : Bool) : List UInt8 := if nl then [111, 107] else if fl then Ft.nameOf c ++ [32] ++ Lib.itoa o else Ft.nameOf c

theorem nameOf_le (c : Int) : (Ft.nameOf c).length ≤ 10 := by
  unfold Ft.nameOf
  split
  · simp
  · have h : c = 0 ∨ c = 1 ∨ c = 2 ∨ c = 3 ∨ c = 4 ∨ c = 5 ∨ c = 6 := by omega
    rcases h with rfl | rfl | rfl | rfl | rfl | rfl | rfl <;> decide

theorem told_nil (A : Option Addr) (n cap : Nat) (c o : Int) (fl : Bool) (w : World) :
    Calls Tryd.prog 20 #[.agg #[.bool true, .slice A n cap, .int .i64 c, .int .i64 o, .bool fl]] w fun e w' => e = .returned (.string ⟨(tell c o true fl).toArray⟩) ∧ Below w.heap.size w w' := by
  have E := Lib.hid (show tell c o true fl = [111, 107] from rfl)
  go_enter Tryd.func20, Tryd.ntmps20
  go_wp2_with fail
  go_ret
  exact ⟨ret_str (by rw [E.out]), (Below.refl _ _).alloc (Nat.le_refl _) _⟩

set_option maxHeartbeats 1000000 in
theorem told_code (A : Option Addr) (n cap : Nat) (c o : Int) (w : World) :
    Calls Tryd.prog 20 #[.agg #[.bool false, .slice A n cap, .int .i64 c, .int .i64 o, .bool false]] w fun e w' => e = .returned (.string ⟨(tell c o false false).toArray⟩) ∧ Below w.heap.size w w' := by
  have hb : Below w.heap.size w (w.alloc (.cells #[.bool false, .slice A n cap, .int .i64 c, .int .i64 o, .bool false] 24)) := (Below.refl _ _).alloc (Nat.le_refl _) _
  have HB := Lib.hid hb
  clear hb
  go_enter Tryd.func20, Tryd.ntmps20
  go_wp2_with fail
  refine (ref_name_any c _).mono ?_
  rintro e w1 ⟨rfl, hb1⟩
  go_wp2_with fail
  go_ret
  exact ⟨rfl, HB.out.trans (hb1.mono HB.out.size)⟩

set_option maxHeartbeats 2000000 in
theorem told_fault (A : Option Addr) (n cap : Nat) (c o : Int) (h0 : -9223372036854775808 ≤ o) (h1 : o ≤ 9223372036854775807) (w : World) :
    Calls Tryd.prog 20 #[.agg #[.bool false, .slice A n cap, .int .i64 c, .int .i64 o, .bool true]] w fun e w' => e = .returned (.string ⟨(tell c o false true).toArray⟩) ∧ Below w.heap.size w w' := by
  obtain ⟨W, hW⟩ : ∃ W, W = w.alloc (.cells #[.bool false, .slice A n cap, .int .i64 c, .int .i64 o, .bool true] 24) := ⟨_, rfl⟩
  have hb : Below w.heap.size w W := by rw [hW]; exact (Below.refl _ _).alloc (Nat.le_refl _) _
  have x0 : W.cell? ⟨w.heap.size, 0, none⟩ = some (.bool false) := by rw [hW, World.cell?_alloc_at _ _ _ _ rfl]; rfl
  have x2 : W.cell? ⟨w.heap.size, 2, none⟩ = some (.int .i64 c) := by rw [hW, World.cell?_alloc_at _ _ _ _ rfl]; rfl
  have x3 : W.cell? ⟨w.heap.size, 3, none⟩ = some (.int .i64 o) := by rw [hW, World.cell?_alloc_at _ _ _ _ rfl]; rfl
  have x4 : W.cell? ⟨w.heap.size, 4, none⟩ = some (.bool true) := by rw [hW, World.cell?_alloc_at _ _ _ _ rfl]; rfl
  have hlt : w.heap.size < W.heap.size := by rw [hW]; simp
  have HB := Lib.hid hb
  have HN := Lib.hid (fun (V : World) (hV : Below W.heap.size W V) => (ref_name_any c V).mono fun e w' (h : _ ∧ _) => (⟨h.1, hV.trans (h.2.mono hV.size)⟩ : _ ∧ Below W.heap.size W w'))
  have HD := Lib.hid (fun (V : World) (hV : Below W.heap.size W V) => (decimal_any (o.natAbs + 1) o V (by omega) h0 h1).mono fun e w' (h : _ ∧ _) => (⟨h.1, hV.trans (h.2.mono hV.size)⟩ : _ ∧ Below W.heap.size W w'))
  have hz := Lib.itoa_length_le o h0 h1
  have hy := nameOf_le c
  have e : tell c o false true = Ft.nameOf c ++ [32] ++ Lib.itoa o := rfl
  have E := Lib.hid e
  clear hb e
  generalize tell c o false true = L at *
  generalize Lib.itoa o = l at *
  generalize Ft.nameOf c = m at *
  have HW := Lib.hid hW
  clear hW
  go_enter Tryd.func20, Tryd.ntmps20
  go_wp2_with fail
  rw [← HW.out]
  go_region_with (first
    | (go_at_call 18; refine (HN.out _ ?_).mono ?_; (first | assumption | exact (Below.refl _ _).drew | exact Below.drew (by assumption) | exact Below.refl _ _); rintro e w1 ⟨rfl, hb1⟩; have k2w1 : w1.cell? ⟨w.heap.size, 2, none⟩ = some (.int .i64 c) := (hb1.cell (p := ⟨w.heap.size, 2, none⟩) hlt).trans x2; have k3w1 : w1.cell? ⟨w.heap.size, 3, none⟩ = some (.int .i64 o) := (hb1.cell (p := ⟨w.heap.size, 3, none⟩) hlt).trans x3)
    | (go_at_call 26; refine (HD.out _ ?_).mono ?_; (first | assumption | exact (Below.refl _ _).drew | exact Below.drew (by assumption) | exact Below.refl _ _); rintro e w2 ⟨rfl, hb2⟩; have k2w2 : w2.cell? ⟨w.heap.size, 2, none⟩ = some (.int .i64 c) := (hb2.cell (p := ⟨w.heap.size, 2, none⟩) hlt).trans x2; have k3w2 : w2.cell? ⟨w.heap.size, 3, none⟩ = some (.int .i64 o) := (hb2.cell (p := ⟨w.heap.size, 3, none⟩) hlt).trans x3))
  all_goals
    go_wp2
    go_ret
    refine ⟨ret_str (by rw [E.out, Go.Joins.data_append, Go.Joins.data_append]), HB.out.trans (Below.mono (by assumption) HB.out.size)⟩
end Go.Proofs.YtihmdhephcpgmaaDoor
