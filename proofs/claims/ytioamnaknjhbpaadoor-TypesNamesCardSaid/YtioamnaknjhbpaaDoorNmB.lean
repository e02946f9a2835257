/- The walks of name.Reserved. -/
import Derived.Test.YtioamnaknjhbpaaDoorNmEnv
import Derived.Test.YtioamnaknjhbpaaDoorNmA
import Derived.WalkSpells
import Derived.WalkLawsBesides
namespace Go.Proofs.YtioamnaknjhbpaaDoor
open Go.RowKit

def wd (k : Nat) : List UInt8 := Nm.words.getD k []

theorem idxRes0 (w : World) : (Instr.index 74 (.agg resCells) (.int .i64 ((0 : Nat) : Int))).run Tryd.prog w = .ok (.string ⟨(wd 0).toArray⟩) w := by kernel_rfl
theorem idxRes1 (w : World) : (Instr.index 74 (.agg resCells) (.int .i64 ((1 : Nat) : Int))).run Tryd.prog w = .ok (.string ⟨(wd 1).toArray⟩) w := by kernel_rfl
theorem idxRes2 (w : World) : (Instr.index 74 (.agg resCells) (.int .i64 ((2 : Nat) : Int))).run Tryd.prog w = .ok (.string ⟨(wd 2).toArray⟩) w := by kernel_rfl
theorem idxRes3 (w : World) : (Instr.index 74 (.agg resCells) (.int .i64 ((3 : Nat) : Int))).run Tryd.prog w = .ok (.string ⟨(wd 3).toArray⟩) w := by kernel_rfl
theorem idxRes4 (w : World) : (Instr.index 74 (.agg resCells) (.int .i64 ((4 : Nat) : Int))).run Tryd.prog w = .ok (.string ⟨(wd 4).toArray⟩) w := by kernel_rfl
theorem idxRes5 (w : World) : (Instr.index 74 (.agg resCells) (.int .i64 ((5 : Nat) : Int))).run Tryd.prog w = .ok (.string ⟨(wd 5).toArray⟩) w := by kernel_rfl
theorem idxRes6 (w : World) : (Instr.index 74 (.agg resCells) (.int .i64 ((6 : Nat) : Int))).run Tryd.prog w = .ok (.string ⟨(wd 6).toArray⟩) w := by kernel_rfl
theorem idxRes (k : Nat) (hk : k < 7) (w : World) :
    (Instr.index 74 (.agg resCells) (.int .i64 (k : Int))).run Tryd.prog w = .ok (.string ⟨(wd k).toArray⟩) w := by
  have h : k = 0 ∨ k = 1 ∨ k = 2 ∨ k = 3 ∨ k = 4 ∨ k = 5 ∨ k = 6 := by omega
  rcases h with rfl | rfl | rfl | rfl | rfl | rfl | rfl
  · exact idxRes0 w
  · exact idxRes1 w
  · exact idxRes2 w
  · exact idxRes3 w
  · exact idxRes4 w
  · exact idxRes5 w
  · exact idxRes6 w

/-- No word before place k is l. -/
def NoneYet (l : List UInt8) (k : Nat) : Prop := (Nm.words.take k).any (fun w => l == w) = false

theorem noneYet_zero (l : List UInt8) : NoneYet l 0 := by simp [NoneYet]
theorem noneYet_succ {l : List UInt8} {k : Nat} (h : NoneYet l k) (hk : k < 7) (he : ¬ l = wd k) : NoneYet l (k + 1) := by
  unfold NoneYet at *
  have hl : k < Nm.words.length := by simpa [Nm.words] using hk
  rw [List.take_succ_eq_append_getElem hl, List.any_append, h]
  have e : wd k = Nm.words[k] := by simp [wd, List.getD, hl]
  rw [e] at he
  simp [he]
theorem noneYet_all {l : List UInt8} (h : NoneYet l 7) : Nm.resB l = false := by
  unfold NoneYet at h
  exact h
theorem resB_at {l : List UInt8} {k : Nat} (hk : k < 7) (he : l = wd k) : Nm.resB l = true := by
  have hl : k < Nm.words.length := by simpa [Nm.words] using hk
  unfold Nm.resB
  rw [List.any_eq_true]
  refine ⟨Nm.words[k], List.getElem_mem hl, ?_⟩
  have e : wd k = Nm.words[k] := by simp [wd, List.getD, hl]
  rw [he, e]
  simp

set_option maxHeartbeats 400000 in
theorem nm_reserved_any (s : ByteArray) (w : World) (hE : ResVar w) :
    Calls Tryd.prog 49 #[.string s] w fun e w' => e = .returned (.bool (Nm.resB s.data.toList)) ∧ w = w' := by
  obtain ⟨tt, fr, hg⟩ := hE.block
  have hidx := idxRes
  go_enter Tryd.func49, Tryd.ntmps49
  go_wp2_with (refine wpList_load_row rfl 74 _ rfl 0 rfl tt _ fr _ hg Tryd.underlying74 rfl (by kernel_rfl) ?_)
  go_loop [6] (fun i => ∃ k : Nat, k ≤ 7 ∧ i = .int .i64 k ∧ NoneYet s.toList k) (fun i => 7 - (intOf i).toNat)
  case atStart => exact ⟨0, by omega, rfl, noneYet_zero _⟩
  case round =>
    obtain ⟨k, hk, rfl, hn⟩ := hrel
    by_cases hlt : k < 7
    · have hi := fun wx => hidx k hlt wx
      clear hidx
      by_cases he : s.toList = wd k
      · have HE := Lib.hid he
        have hb : (s.toList == wd k) = true := by rw [he]; simp
        clear he
        go_wp2
        go_ret
        refine ⟨ret_bool ?_, rfl⟩
        rw [resB_at hlt (by rw [← Lib.toList_data]; exact HE.out)]
      · have hb : (s.toList == wd k) = false := by simpa using he
        have HN := Lib.hid (noneYet_succ hn hlt he)
        clear hn he
        go_wp2
        go_round
        case rel => exact ⟨k + 1, by omega, by go_num, HN.out⟩
        case measure => simp [intOf]; omega
    · have hk7 : k = 7 := by omega
      have HN := Lib.hid hn
      clear hn hidx
      subst hk7
      go_wp2
      go_ret
      refine ⟨ret_bool ?_, rfl⟩
      rw [← Lib.toList_data, noneYet_all HN.out]
end Go.Proofs.YtioamnaknjhbpaaDoor
