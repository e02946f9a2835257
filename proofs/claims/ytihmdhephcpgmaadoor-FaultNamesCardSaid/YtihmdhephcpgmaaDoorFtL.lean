/- The walks of build and of the reference's Told. -/
import Derived.Test.YtihmdhephcpgmaaDoorFtK
namespace Go.Proofs.YtihmdhephcpgmaaDoor
open Go.RowKit Go.Lib

theorem okey (s : ByteArray) (b : List UInt8) (h : s.data.toList = b) : s = ⟨b.toArray⟩ := by
  obtain ⟨⟨l⟩⟩ := s
  simp at h
  rw [h]

def baseOf (c o : Int) (fl : Bool) : Base := ⟨c, if fl then some o else none⟩

/-- What build returns: an error with these parts. -/
def Built (w : World) (b : Base) (ps : List ByteArray) (e : Ending) (w' : World) : Prop := ∃ v, e = .returned v ∧ IsErr w' b ps v ∧ Below w.heap.size w w'

theorem build_nil (A : Option Addr) (n cap : Nat) (c o : Int) (fl : Bool) (w : World) :
    Calls Tryd.prog 9 #[.agg #[.bool true, .slice A n cap, .int .i64 c, .int .i64 o, .bool fl]] w fun e w' => e = .returned .nilIface ∧ Below w.heap.size w w' := by
  go_enter Tryd.func9, Tryd.ntmps9
  go_wp2_with fail
  go_ret
  exact ⟨rfl, (Below.refl _ _).alloc (Nat.le_refl _) _⟩

def BRel (W wr : World) (b : Base) (ps : List ByteArray) (k : Nat) (v : Value) : Prop := IsErr wr b (ps.take k).reverse v ∧ Below W.heap.size W wr

set_option maxHeartbeats 1000000 in
theorem build_some (A : Option Addr) (n cap : Nat) (c o : Int) (fl : Bool) (ps : List ByteArray) (w : World) (hn : n ≤ 20) (h : Sl w A n ps) :
    Calls Tryd.prog 9 #[.agg #[.bool false, .slice A n cap, .int .i64 c, .int .i64 o, .bool fl]] w (Built w (baseOf c o fl) ps.reverse) := by
  obtain ⟨W, hW⟩ : ∃ W, W = w.alloc (.cells #[.bool false, .slice A n cap, .int .i64 c, .int .i64 o, .bool fl] 24) := ⟨_, rfl⟩
  have hb : Below w.heap.size w W := by rw [hW]; exact (Below.refl _ _).alloc (Nat.le_refl _) _
  have x1 : W.cell? ⟨w.heap.size, 1, none⟩ = some (.slice A n cap) := by rw [hW, World.cell?_alloc_at _ _ _ _ rfl]; rfl
  have HL := Lib.hid h.len
  have H := Lib.hid (h.later hb)
  have HB := Lib.hid hb
  have HX := Lib.hid x1
  have HW := Lib.hid hW
  clear hb h x1 hW
  cases fl
  · have h0 : BRel W W (baseOf c o false) ps 0 (.iface 30 (.int .i64 c)) := ⟨rfl, Below.refl _ _⟩
    have H0 := Lib.hid h0
    clear h0
    generalize baseOf c o false = b at *
    go_enter Tryd.func9, Tryd.ntmps9
    go_wp2_with fail
    rw [← HW.out]
    go_loopw [3, 4] (fun v i wr => ∃ k : Nat, k ≤ n ∧ i = .int .i64 k ∧ BRel W wr b ps k v) (fun _ i _ => n - (Go.RowKit.intOf i).toNat)
    case atStart => exact ⟨0, by omega, rfl, H0.out⟩
    case round =>
      obtain ⟨k, hk, rfl, he, hbel⟩ := hrel
      have hx := (hbel.cell (p := ⟨w.heap.size, 1, none⟩) (cell_lt HX.out)).trans HX.out
      by_cases hlt : k < n
      · obtain ⟨a, p, rfl, hp, hc⟩ := (H.out.later hbel).get hlt
        have z1 : (k : Int) < n := by omega
        have HE := Lib.hid he
        have HBL := Lib.hid hbel
        have HP := Lib.hid hp
        clear he hbel hp
        go_wp2_with fail
        refine (in_err HE.out p).mono ?_
        rintro e w1 ⟨v', rfl, he1, hb1⟩
        have HE1 := Lib.hid he1
        have HB1 := Lib.hid hb1
        clear he1 hb1
        go_wp2_with fail
        go_roundw
        case rel =>
          refine ⟨k + 1, by omega, by go_num, ?_, HBL.out.trans (HB1.out.mono HBL.out.size)⟩
          rw [List.take_add_one, HP.out]
          simpa using HE1.out
        case measure => simp [Go.RowKit.intOf]; omega
      · have hkn : k = n := by omega
        have z1 : (n : Int) ≤ k := by omega
        have ht : ps.take k = ps := List.take_of_length_le (by rw [HL.out]; omega)
        rw [ht] at he
        have HE := Lib.hid he
        have HBL := Lib.hid hbel
        clear he hbel ht hkn
        go_wp2_with fail
        go_ret
        exact ⟨_, rfl, HE.out, HB.out.trans (HBL.out.mono HB.out.size)⟩
  · have h0 : BRel W W (baseOf c o true) ps 0 (.iface 50 (.agg #[.int .i64 c, .int .i64 o])) := ⟨rfl, Below.refl _ _⟩
    have H0 := Lib.hid h0
    clear h0
    generalize baseOf c o true = b at *
    go_enter Tryd.func9, Tryd.ntmps9
    go_wp2_with fail
    rw [← HW.out]
    go_loopw [3, 4] (fun v i wr => ∃ k : Nat, k ≤ n ∧ i = .int .i64 k ∧ BRel W wr b ps k v) (fun _ i _ => n - (Go.RowKit.intOf i).toNat)
    case atStart => exact ⟨0, by omega, rfl, H0.out⟩
    case round =>
      obtain ⟨k, hk, rfl, he, hbel⟩ := hrel
      have hx := (hbel.cell (p := ⟨w.heap.size, 1, none⟩) (cell_lt HX.out)).trans HX.out
      by_cases hlt : k < n
      · obtain ⟨a, p, rfl, hp, hc⟩ := (H.out.later hbel).get hlt
        have z1 : (k : Int) < n := by omega
        have HE := Lib.hid he
        have HBL := Lib.hid hbel
        have HP := Lib.hid hp
        clear he hbel hp
        go_wp2_with fail
        refine (in_err HE.out p).mono ?_
        rintro e w1 ⟨v', rfl, he1, hb1⟩
        have HE1 := Lib.hid he1
        have HB1 := Lib.hid hb1
        clear he1 hb1
        go_wp2_with fail
        go_roundw
        case rel =>
          refine ⟨k + 1, by omega, by go_num, ?_, HBL.out.trans (HB1.out.mono HBL.out.size)⟩
          rw [List.take_add_one, HP.out]
          simpa using HE1.out
        case measure => simp [Go.RowKit.intOf]; omega
      · have hkn : k = n := by omega
        have z1 : (n : Int) ≤ k := by omega
        have ht : ps.take k = ps := List.take_of_length_le (by rw [HL.out]; omega)
        rw [ht] at he
        have HE := Lib.hid he
        have HBL := Lib.hid hbel
        clear he hbel ht hkn
        go_wp2_with fail
        go_ret
        exact ⟨_, rfl, HE.out, HB.out.trans (HBL.out.mono HB.out.size)⟩
end Go.Proofs.YtihmdhephcpgmaaDoor
