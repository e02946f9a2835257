/- The walks of the small methods of read.Cursor: the next token, an error, whether a text is next, reading it, a name, the end. The condition: the cursor stands in tokens of a text. -/
import Derived.Test.YtppcpccjeknhdaaGreatDoorRdB
import Derived.WalkKit
import Derived.WalkSmall
import Derived.WalkSpells
import Derived.WalkLawsBesides
import Derived.Outline
import Derived.Deep.QuietTactic
import Derived.BigQuiet
namespace Go.Proofs.YtppcpccjeknhdaaGreatDoor.Rd
open Go.RowKit

theorem run_cell {w : World} {b z : Nat} {ty : TypeId} {us : List Value} (hf : Flat ty z) (hc : Boxd w b us) (hl : us.length = z) : (loadVar ty ⟨b, 0, none⟩).run Tryz.prog w = .ok (.agg us.toArray) w := by
  obtain ⟨d, h1, h2⟩ := hf.row
  exact run_load w _ ty us d (boxd_at0 hc) h1 h2 (by rw [hl]; exact hf.size)
theorem run_addr (p : Addr) (w : World) : (asAddr (.pointer (some p))).run Tryz.prog w = .ok p w := rfl
theorem results_peek {w : World} {b : Nat} {us : List Value} (tmps : Array Value) (ht : tmps[2]?.getD undef = .pointer (some ⟨b, 0, none⟩)) (hc : Boxd w b us) (hl : us.length = 3) : (results Tryz.f135 tmps).run Tryz.prog w = .ok (.agg us.toArray) w := by
  have h := run_cell flatTk hc hl
  have h2 := run_addr ⟨b, 0, none⟩ w
  simp [results, Tryz.results135, ht, h, h2, Sem.run_bind, Result.andThen]
/-- What peek gives: the next token. -/
def PeekPost (w : World) (l : List Tk) (e : Ending) (w' : World) : Prop := e = .returned (.agg #[.int .i64 (l.headD ⟨3, ⟨#[]⟩, 0⟩).k, .string (l.headD ⟨3, ⟨#[]⟩, 0⟩).s, .int .i64 (l.headD ⟨3, ⟨#[]⟩, 0⟩).o]) ∧ Below w.heap.size w w'
set_option maxRecDepth 100000 in
set_option maxHeartbeats 1000000 in
theorem peek_any (c : Nat) (l : List Tk) (b : Bool) (w : World) (h : Cur w c l b) : Calls Tryz.prog 135 #[.pointer (some ⟨c, 0, none⟩)] w (PeekPost w l) := by
  obtain ⟨t, r, a, n, cap, rfl, hn, x0, hcap, hc⟩ := h.head
  have hlt := h.lt
  have hb : Below w.heap.size w (w.alloc (.cells #[.int .i64 0, .string ⟨#[]⟩, .int .i64 0] 180)) := (Below.refl _ _).alloc (Nat.le_refl _) _
  have y0 := (hb.cell (p := ⟨c, 0, none⟩) hlt).trans x0
  have HC := Lib.hid (show CellsAt (w.alloc (.cells #[.int .i64 0, .string ⟨#[]⟩, .int .i64 0] 180)) a [.int .i64 t.k, .string t.s, .int .i64 t.o] from fun j u hu => (hb.cell (cell_lt (hc j u hu))).trans (hc j u hu))
  have e0 : (((n : Int) + 1) == 0) = false := by simp; omega
  have hn2 : n ≤ 100000 := by have := h.len; simp only [List.length_cons] at this; omega
  have HT := Lib.hid (there_new w #[.int .i64 0, .string ⟨#[]⟩, .int .i64 0] 180)
  clear hc hb x0 h hn
  go_enter Tryz.func135, Tryz.ntmps135
  go_wp2_with (first | (refine loadOp flatTk 14 15 rfl HC.out rfl ?_) | (refine storeOp flatTk 2 15 (b := w.heap.size) (o := 0) (us := [.int .i64 t.k, .string t.s, .int .i64 t.o]) rfl rfl HT.out (by intro u hu; simp only [List.mem_cons, List.not_mem_nil, or_false] at hu; rcases hu with rfl | rfl | rfl <;> rfl) rfl ?_))
  have HB := Lib.hid (show Below w.heap.size w ((w.alloc (.cells #[.int .i64 0, .string ⟨#[]⟩, .int .i64 0] 180)).setCells w.heap.size 0 [.int .i64 t.k, .string t.s, .int .i64 t.o]) from ((Below.refl _ _).alloc (Nat.le_refl _) _).trans (below_sets (Nat.le_refl _) _ _ _))
  exact bodyPost_ret (results_peek _ rfl (set_there (us := [.int .i64 t.k, .string t.s, .int .i64 t.o]) HT.out) rfl) rfl ⟨rfl, HB.out⟩

theorem fieldTk0 (k o : Int) (s : ByteArray) (w : World) : (Instr.field 180 (.agg #[.int .i64 k, .string s, .int .i64 o]) 0).run Tryz.prog w = .ok (.int .i64 k) w := by kernel_rfl
theorem fieldTk2 (k o : Int) (s : ByteArray) (w : World) : (Instr.field 180 (.agg #[.int .i64 k, .string s, .int .i64 o]) 2).run Tryz.prog w = .ok (.int .i64 o) w := by kernel_rfl
set_option maxRecDepth 100000 in
set_option maxHeartbeats 1000000 in
theorem fail_any (c : Nat) (l : List Tk) (b : Bool) (w : World) (h : Cur w c l b) : Calls Tryz.prog 136 #[.pointer (some ⟨c, 0, none⟩)] w fun e w' => e = .returned (.tuple #[]) ∧ Cur w' c l true ∧ w.grownBy w' (some c) := by
  have H := Lib.hid h
  have hlt := h.lt
  obtain ⟨t, r, a, n, cap, rfl, -⟩ := h.head
  clear h
  go_enter Tryz.func136, Tryz.ntmps136
  go_wp2_with fail
  refine (peek_any c _ b w H.out).mono ?_
  rintro e w1 ⟨rfl, hb⟩
  have H1 := Lib.hid (H.out.later hb)
  have G1 := Lib.hid (gb_of (some c) hb)
  have x1 := H1.out.err
  have f1 := H1.out.free.2
  have g2 := fun w => fieldTk2 t.k t.o t.s w
  clear hb
  go_wp2_with fail
  refine (new_any _ _ _).mono ?_
  rintro e w2 ⟨rfl, rfl⟩
  have HF := Lib.hid H1.out.fail
  have HG := Lib.hid (gb_trans G1.out (gb_set w1 c 1 (faultV 2 (off (t :: r)))))
  rw [faultV]
  go_wp2_with fail
  go_end0
  exact ⟨rfl, HF.out, HG.out⟩
end Go.Proofs.YtppcpccjeknhdaaGreatDoor.Rd
