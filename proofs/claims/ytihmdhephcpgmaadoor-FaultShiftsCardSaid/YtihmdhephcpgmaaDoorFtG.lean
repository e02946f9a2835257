/- The walks of fault.Code and fault.At. -/
import Derived.Test.YtihmdhephcpgmaaDoorFtF
import Derived.Tactics2
import Derived.Defers
import Derived.Recover
namespace Go.Proofs.YtihmdhephcpgmaaDoor
open Go.RowKit

theorem idleC (w : World) : CallsD Tryd.prog 23 #[] .returning w fun e u' w' => e = .returned (.tuple #[]) ∧ u' = .returning ∧ w' = w := by
  refine callsD_of_wpS Tryd.func23 rfl fun c₀ cs hu => ?_
  apply wpS_region
  simp [wpOpsS, go_sem, recoverD, hu, Tryd.ntmps23, bodyPostS, results, Tryd.results23]
  cases c₀
  simp_all
theorem idleA (w : World) : CallsD Tryd.prog 25 #[] .returning w fun e u' w' => e = .returned (.tuple #[]) ∧ u' = .returning ∧ w' = w := by
  refine callsD_of_wpS Tryd.func25 rfl fun c₀ cs hu => ?_
  apply wpS_region
  simp [wpOpsS, go_sem, recoverD, hu, Tryd.ntmps25, bodyPostS, results, Tryd.results25]
  cases c₀
  simp_all

set_option maxHeartbeats 1000000 in
theorem code_nil (w : World) :
    Calls Tryd.prog 10 #[.nilIface] w fun e w' => e = .returned (.tuple #[.int .i64 0, .bool false]) ∧ Below w.heap.size w w' := by
  go_enter_defers Tryd.func10, Tryd.ntmps10
  go_wp2_with (go_at_call 24; refine (as_nil _ _).mono ?_; rintro e w1 ⟨rfl, rfl⟩)
  refine leaves_cons (f := 23) (args := #[]) (by simp) (by simp [go_sem]) ?_
  refine (idleC _).mono ?_
  rintro e u' w'' ⟨rfl, rfl, rfl⟩
  refine ⟨_, by simp [results, Tryd.results10], rfl, ?_⟩
  exact (Below.refl _ _).alloc (Nat.le_refl _) _

set_option maxHeartbeats 1000000 in
theorem code_some {w : World} {b : Base} {ps : List ByteArray} {v : Value} (hv : IsErr w b ps v) (hE : Env w) :
    Calls Tryd.prog 10 #[v] w fun e w' => e = .returned (.tuple #[.int .i64 b.code, .bool true]) ∧ Below w.heap.size w w' := by
  obtain ⟨W, hW⟩ : ∃ W, W = w.alloc (.cells #[.int .i64 0] 30) := ⟨_, rfl⟩
  have hb : Below w.heap.size w W := by rw [hW]; exact (Below.refl _ _).alloc (Nat.le_refl _) _
  have hz : W.cell? ⟨w.heap.size, 0, none⟩ = some (.int .i64 0) := by rw [hW, World.cell?_alloc_at _ _ _ _ rfl]; rfl
  have hf : W.frozen? ⟨w.heap.size, 0, none⟩ = false := by rw [hW]; simp
  have hg := (hE.later hb).typ
  have HC := Lib.hid (As_C w.heap.size W b.code ps b v rfl (hv.later hb) ⟨w.heap.size, 0, none⟩ _ hz hf (Nat.le_refl _) hg)
  have HB := Lib.hid hb
  obtain ⟨c, hc⟩ : ∃ c, c = b.code := ⟨_, rfl⟩
  rw [← hc] at HC ⊢
  clear hz hf hg hb hv hc hE
  subst hW
  go_enter_defers Tryd.func10, Tryd.ntmps10
  go_wp2_with (go_at_call 24; refine HC.out.mono ?_; rintro e w1 ⟨rfl, hq1, hq2⟩; have HQ1 := Lib.hid hq1; clear hq1)
  refine leaves_cons (f := 23) (args := #[]) (by simp) (by simp [go_sem]) ?_
  refine (idleC _).mono ?_
  rintro e u' w'' ⟨rfl, rfl, rfl⟩
  refine ⟨_, by simp [results, Tryd.results10], rfl, ?_⟩
  exact HB.out.trans HQ1.out

set_option maxHeartbeats 1000000 in
theorem code_other (w : World) (p : Value) (hE : Env w) :
    Calls Tryd.prog 10 #[.iface 65 p] w fun e w' => e = .returned (.tuple #[.int .i64 0, .bool false]) ∧ Below w.heap.size w w' := by
  obtain ⟨W, hW⟩ : ∃ W, W = w.alloc (.cells #[.int .i64 0] 30) := ⟨_, rfl⟩
  have hb : Below w.heap.size w W := by rw [hW]; exact (Below.refl _ _).alloc (Nat.le_refl _) _
  have hz : W.cell? ⟨w.heap.size, 0, none⟩ = some (.int .i64 0) := by rw [hW, World.cell?_alloc_at _ _ _ _ rfl]; rfl
  have hf : W.frozen? ⟨w.heap.size, 0, none⟩ = false := by rw [hW]; simp
  have hg := (hE.later hb).typ
  have HC := Lib.hid (As_C_none W p ⟨w.heap.size, 0, none⟩ hg)
  have HB := Lib.hid hb
  clear hz hf hg hb hE
  subst hW
  go_enter_defers Tryd.func10, Tryd.ntmps10
  go_wp2_with (go_at_call 24; refine HC.out.mono ?_; rintro e w1 ⟨rfl, hq1⟩; have HQ1 := Lib.hid hq1; clear hq1)
  refine leaves_cons (f := 23) (args := #[]) (by simp) (by simp [go_sem]) ?_
  refine (idleC _).mono ?_
  rintro e u' w'' ⟨rfl, rfl, rfl⟩
  refine ⟨_, by simp [results, Tryd.results10], rfl, ?_⟩
  exact HB.out.trans (HQ1.out.mono HB.out.size)

set_option maxHeartbeats 1000000 in
theorem at_nil (w : World) :
    Calls Tryd.prog 11 #[.nilIface] w fun e w' => e = .returned (.tuple #[.int .i64 0, .bool false]) ∧ Below w.heap.size w w' := by
  go_enter_defers Tryd.func11, Tryd.ntmps11
  go_wp2_with (go_at_call 24; refine (as_nil _ _).mono ?_; rintro e w1 ⟨rfl, rfl⟩)
  refine leaves_cons (f := 25) (args := #[]) (by simp) (by simp [go_sem]) ?_
  refine (idleA _).mono ?_
  rintro e u' w'' ⟨rfl, rfl, rfl⟩
  refine ⟨_, by simp [results, Tryd.results11], rfl, ?_⟩
  exact (Below.refl _ _).alloc (Nat.le_refl _) _

set_option maxHeartbeats 1000000 in
theorem at_some {w : World} {c o : Int} {ps : List ByteArray} {v : Value} (hv : IsErr w ⟨c, some o⟩ ps v) (hE : Env w) :
    Calls Tryd.prog 11 #[v] w fun e w' => e = .returned (.tuple #[.int .i64 o, .bool true]) ∧ Below w.heap.size w w' := by
  obtain ⟨W, hW⟩ : ∃ W, W = w.alloc (.cells #[.int .i64 0, .int .i64 0] 50) := ⟨_, rfl⟩
  have hb : Below w.heap.size w W := by rw [hW]; exact (Below.refl _ _).alloc (Nat.le_refl _) _
  have hz0 : W.cell? ⟨w.heap.size, 0, none⟩ = some (.int .i64 0) := by rw [hW, World.cell?_alloc_at _ _ _ _ rfl]; rfl
  have hz1 : W.cell? ⟨w.heap.size, 1, none⟩ = some (.int .i64 0) := by rw [hW, World.cell?_alloc_at _ _ _ _ rfl]; rfl
  have hf0 : W.frozen? ⟨w.heap.size, 0, none⟩ = false := by rw [hW]; simp
  have hf1 : W.frozen? ⟨w.heap.size, 1, none⟩ = false := by rw [hW]; simp
  have hg := (hE.later hb).typ
  have HC := Lib.hid (As_F w.heap.size W c o ps v (hv.later hb) w.heap.size _ _ hz0 hz1 hf0 hf1 (Nat.le_refl _) hg)
  have HB := Lib.hid hb
  clear hz0 hz1 hf0 hf1 hg hb hv hE
  subst hW
  go_enter_defers Tryd.func11, Tryd.ntmps11
  go_wp2_with (go_at_call 24; refine HC.out.mono ?_; rintro e w1 ⟨rfl, hq1, hq2⟩; have HQ1 := Lib.hid hq1; clear hq1)
  refine leaves_cons (f := 25) (args := #[]) (by simp) (by simp [go_sem]) ?_
  refine (idleA _).mono ?_
  rintro e u' w'' ⟨rfl, rfl, rfl⟩
  refine ⟨_, by simp [results, Tryd.results11], rfl, ?_⟩
  exact HB.out.trans HQ1.out

set_option maxHeartbeats 1000000 in
theorem at_none {w : World} {c : Int} {ps : List ByteArray} {v : Value} (hv : IsErr w ⟨c, none⟩ ps v) (hE : Env w) :
    Calls Tryd.prog 11 #[v] w fun e w' => e = .returned (.tuple #[.int .i64 0, .bool false]) ∧ Below w.heap.size w w' := by
  obtain ⟨W, hW⟩ : ∃ W, W = w.alloc (.cells #[.int .i64 0, .int .i64 0] 50) := ⟨_, rfl⟩
  have hb : Below w.heap.size w W := by rw [hW]; exact (Below.refl _ _).alloc (Nat.le_refl _) _
  have hz0 : W.cell? ⟨w.heap.size, 0, none⟩ = some (.int .i64 0) := by rw [hW, World.cell?_alloc_at _ _ _ _ rfl]; rfl
  have hz1 : W.cell? ⟨w.heap.size, 1, none⟩ = some (.int .i64 0) := by rw [hW, World.cell?_alloc_at _ _ _ _ rfl]; rfl
  have hf0 : W.frozen? ⟨w.heap.size, 0, none⟩ = false := by rw [hW]; simp
  have hf1 : W.frozen? ⟨w.heap.size, 1, none⟩ = false := by rw [hW]; simp
  have hg := (hE.later hb).typ
  have HC := Lib.hid (As_F_none W c ps v (hv.later hb) w.heap.size hg)
  have HB := Lib.hid hb
  clear hz0 hz1 hf0 hf1 hg hb hv hE
  subst hW
  go_enter_defers Tryd.func11, Tryd.ntmps11
  go_wp2_with (go_at_call 24; refine HC.out.mono ?_; rintro e w1 ⟨rfl, hq1⟩; have HQ1 := Lib.hid hq1; clear hq1)
  refine leaves_cons (f := 25) (args := #[]) (by simp) (by simp [go_sem]) ?_
  refine (idleA _).mono ?_
  rintro e u' w'' ⟨rfl, rfl, rfl⟩
  refine ⟨_, by simp [results, Tryd.results11], rfl, ?_⟩
  exact HB.out.trans (HQ1.out.mono HB.out.size)

end Go.Proofs.YtihmdhephcpgmaaDoor
