/- The walks of fault.Code and fault.At at a fault and at nil. -/
import Derived.Test.YtbeejmlmplgaeaaDoorEfB
import Derived.Tactics2
import Derived.Defers
import Derived.Recover
namespace Go.Proofs.YtbeejmlmplgaeaaDoor
open Go.RowKit

theorem idleC (w : World) : CallsD Tryd.prog 59 #[] .returning w fun e u' w' => e = .returned (.tuple #[]) ∧ u' = .returning ∧ w' = w := by
  refine callsD_of_wpS Tryd.func59 rfl fun c₀ cs hu => ?_
  apply wpS_region
  simp [wpOpsS, go_sem, recoverD, hu, Tryd.ntmps59, bodyPostS, results, Tryd.results59]
  cases c₀
  simp_all
theorem idleA (w : World) : CallsD Tryd.prog 61 #[] .returning w fun e u' w' => e = .returned (.tuple #[]) ∧ u' = .returning ∧ w' = w := by
  refine callsD_of_wpS Tryd.func61 rfl fun c₀ cs hu => ?_
  apply wpS_region
  simp [wpOpsS, go_sem, recoverD, hu, Tryd.ntmps61, bodyPostS, results, Tryd.results61]
  cases c₀
  simp_all

set_option maxHeartbeats 1000000 in
theorem code_nil (w : World) :
    Calls Tryd.prog 41 #[.nilIface] w fun e w' => e = .returned (.tuple #[.int .i64 0, .bool false]) ∧ Below w.heap.size w w' := by
  go_enter_defers Tryd.func41, Tryd.ntmps41
  go_wp2_with (go_at_call 60; refine (as_nil _ _).mono ?_; rintro e w1 ⟨rfl, rfl⟩)
  refine leaves_cons (f := 59) (args := #[]) (by simp) (by simp [go_sem]) ?_
  refine (idleC _).mono ?_
  rintro e u' w'' ⟨rfl, rfl, rfl⟩
  refine ⟨_, by simp [results, Tryd.results41], rfl, ?_⟩
  exact (Below.refl _ _).alloc (Nat.le_refl _) _

set_option maxHeartbeats 1000000 in
theorem code_fault (c o : Int) (w : World) (hE : ErrVar w) :
    Calls Tryd.prog 41 #[faultV c o] w fun e w' => e = .returned (.tuple #[.int .i64 c, .bool true]) ∧ Below w.heap.size w w' := by
  obtain ⟨W, hW⟩ : ∃ W, W = w.alloc (.cells #[.int .i64 0] 73) := ⟨_, rfl⟩
  have hb : Below w.heap.size w W := by rw [hW]; exact (Below.refl _ _).alloc (Nat.le_refl _) _
  have hz : W.cell? ⟨w.heap.size, 0, none⟩ = some (.int .i64 0) := by rw [hW, World.cell?_alloc_at _ _ _ _ rfl]; rfl
  have hf : W.frozen? ⟨w.heap.size, 0, none⟩ = false := by rw [hW]; simp
  have hg := hE.later hb
  have HC := Lib.hid (As_C w.heap.size W c o ⟨w.heap.size, 0, none⟩ _ hz hf (Nat.le_refl _) hg)
  have HB := Lib.hid hb
  clear hz hf hg hb hE
  subst hW
  go_enter_defers Tryd.func41, Tryd.ntmps41
  go_wp2_with (go_at_call 60; refine HC.out.mono ?_; rintro e w1 ⟨rfl, hq1, hq2⟩; have HQ1 := Lib.hid hq1; clear hq1)
  refine leaves_cons (f := 59) (args := #[]) (by simp) (by simp [go_sem]) ?_
  refine (idleC _).mono ?_
  rintro e u' w'' ⟨rfl, rfl, rfl⟩
  refine ⟨_, by simp [results, Tryd.results41], rfl, ?_⟩
  exact HB.out.trans HQ1.out

set_option maxHeartbeats 1000000 in
theorem at_nil (w : World) :
    Calls Tryd.prog 42 #[.nilIface] w fun e w' => e = .returned (.tuple #[.int .i64 0, .bool false]) ∧ Below w.heap.size w w' := by
  go_enter_defers Tryd.func42, Tryd.ntmps42
  go_wp2_with (go_at_call 60; refine (as_nil _ _).mono ?_; rintro e w1 ⟨rfl, rfl⟩)
  refine leaves_cons (f := 61) (args := #[]) (by simp) (by simp [go_sem]) ?_
  refine (idleA _).mono ?_
  rintro e u' w'' ⟨rfl, rfl, rfl⟩
  refine ⟨_, by simp [results, Tryd.results42], rfl, ?_⟩
  exact (Below.refl _ _).alloc (Nat.le_refl _) _

set_option maxHeartbeats 1000000 in
theorem at_fault (c o : Int) (w : World) (hE : ErrVar w) :
    Calls Tryd.prog 42 #[faultV c o] w fun e w' => e = .returned (.tuple #[.int .i64 o, .bool true]) ∧ Below w.heap.size w w' := by
  obtain ⟨W, hW⟩ : ∃ W, W = w.alloc (.cells #[.int .i64 0, .int .i64 0] 90) := ⟨_, rfl⟩
  have hb : Below w.heap.size w W := by rw [hW]; exact (Below.refl _ _).alloc (Nat.le_refl _) _
  have hz0 : W.cell? ⟨w.heap.size, 0, none⟩ = some (.int .i64 0) := by rw [hW, World.cell?_alloc_at _ _ _ _ rfl]; rfl
  have hz1 : W.cell? ⟨w.heap.size, 1, none⟩ = some (.int .i64 0) := by rw [hW, World.cell?_alloc_at _ _ _ _ rfl]; rfl
  have hf0 : W.frozen? ⟨w.heap.size, 0, none⟩ = false := by rw [hW]; simp
  have hf1 : W.frozen? ⟨w.heap.size, 1, none⟩ = false := by rw [hW]; simp
  have hg := hE.later hb
  have HC := Lib.hid (As_F w.heap.size W c o w.heap.size _ _ hz0 hz1 hf0 hf1 (Nat.le_refl _) hg)
  have HB := Lib.hid hb
  clear hz0 hz1 hf0 hf1 hg hb hE
  subst hW
  go_enter_defers Tryd.func42, Tryd.ntmps42
  go_wp2_with (go_at_call 60; refine HC.out.mono ?_; rintro e w1 ⟨rfl, hq1, hq2⟩; have HQ1 := Lib.hid hq1; clear hq1)
  refine leaves_cons (f := 61) (args := #[]) (by simp) (by simp [go_sem]) ?_
  refine (idleA _).mono ?_
  rintro e u' w'' ⟨rfl, rfl, rfl⟩
  refine ⟨_, by simp [results, Tryd.results42], rfl, ?_⟩
  exact HB.out.trans HQ1.out

end Go.Proofs.YtbeejmlmplgaeaaDoor
