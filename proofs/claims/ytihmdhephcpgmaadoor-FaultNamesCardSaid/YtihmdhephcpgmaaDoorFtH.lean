/- The texts of errors: the walks of the methods Error. -/
import Derived.Test.YtihmdhephcpgmaaDoorFtA
import Derived.Test.YtihmdhephcpgmaaDoorShelf
import Derived.Lib.ItoaLen
import Derived.Lib.AppendIntMem
import Derived.Lib.SmallJoins
import Derived.Lib.Hide
import Derived.Deep.RegionWith
namespace Go.Proofs.YtihmdhephcpgmaaDoor
open Go.RowKit Go.Lib

def errText (c : Int) : List ByteArray → List UInt8
  | [] => [101, 114, 114, 111, 114, 32] ++ Lib.itoa c
  | p :: r => p.data.toList ++ [58, 32] ++ errText c r

/-- The parts of a small error. -/
def Small (ps : List ByteArray) : Prop := ∀ p ∈ ps, p.size ≤ 50

theorem errText_le {c : Int} (h0 : -9223372036854775808 ≤ c) (h1 : c ≤ 9223372036854775807) : ∀ {ps : List ByteArray}, Small ps → (errText c ps).length ≤ 27 + 52 * ps.length
  | [], _ => by
    have := Lib.itoa_length_le c h0 h1
    simp [errText]
    omega
  | p :: r, h => by
    have h2 := errText_le h0 h1 (ps := r) fun q hq => h q (by simp [hq])
    have h3 := h p (by simp)
    have h4 : p.data.toList.length = p.size := (Lib.size_eq p).symm
    simp only [errText, List.length_append, List.length_cons, List.length_nil]
    omega

theorem mErC (v : Value) (w : World) : (Go.method 239 30 v "Error").run Tryd.prog w = .ok (66, v) w := by kernel_rfl
theorem mErF (v : Value) (w : World) : (Go.method 239 50 v "Error").run Tryd.prog w = .ok (67, v) w := by kernel_rfl
theorem mErP (v : Value) (w : World) : (Go.method 239 54 v "Error").run Tryd.prog w = .ok (69, v) w := by kernel_rfl

set_option maxHeartbeats 400000 in
theorem errorC (c : Int) (h0 : -9223372036854775808 ≤ c) (h1 : c ≤ 9223372036854775807) (w : World) (hE : Env w) :
    Calls Tryd.prog 66 #[.int .i64 c] w fun e w' => e = .returned (.string ⟨(errText c []).toArray⟩) ∧ Below w.heap.size w w' := by
  have hl := Lib.itoa_length_le c h0 h1
  have e : errText c [] = [101, 114, 114, 111, 114, 32] ++ Lib.itoa c := rfl
  have E := Lib.hid e
  clear e
  go_enter Tryd.func66, Tryd.ntmps66
  go_wp2_with fail
  refine (Tryd.strconv_Itoa c h0 h1 _ hE.tab).mono ?_
  rintro e w' ⟨rfl, k, os, rfl⟩
  generalize Lib.itoa c = l at *
  go_wp2_with fail
  go_ret
  refine ⟨ret_str ?_, Lib.below_grow _ _ (Nat.le_refl _) _ _⟩
  rw [E.out, Go.Joins.data_append]

set_option maxHeartbeats 400000 in
theorem errorF (c o : Int) (h0 : -9223372036854775808 ≤ c) (h1 : c ≤ 9223372036854775807) (w : World) (hE : Env w) :
    Calls Tryd.prog 67 #[.agg #[.int .i64 c, .int .i64 o]] w fun e w' => e = .returned (.string ⟨(errText c []).toArray⟩) ∧ Below w.heap.size w w' := by
  have hb : Below w.heap.size w (w.alloc (.cells #[.int .i64 c, .int .i64 o] 50)) := (Below.refl _ _).alloc (Nat.le_refl _) _
  have H := Lib.hid (errorC c h0 h1 _ (hE.later hb))
  have HB := Lib.hid hb
  clear hb
  go_enter Tryd.func67, Tryd.ntmps67
  go_wp2_with fail
  refine H.out.mono ?_
  rintro e w' ⟨rfl, hb1⟩
  go_wp2_with fail
  go_ret
  exact ⟨rfl, HB.out.trans (hb1.mono HB.out.size)⟩

set_option maxHeartbeats 1000000 in
theorem errorP_C (c : Int) (h0 : -9223372036854775808 ≤ c) (h1 : c ≤ 9223372036854775807) (g : Nat) (p : ByteArray) (u : Value) (ps : List ByteArray) (w : World)
    (hs : Small (p :: ps)) (hp : w.cell? ⟨g, 0, none⟩ = some (.string p)) (hu : w.cell? ⟨g, 1, none⟩ = some (.iface 30 u)) (hl : ps.length ≤ 30)
    (ih : ∀ W, Below w.heap.size w W → Calls Tryd.prog 66 #[u] W fun e w' => e = .returned (.string ⟨(errText c ps).toArray⟩) ∧ Below W.heap.size W w') :
    Calls Tryd.prog 69 #[.pointer (some ⟨g, 0, none⟩)] w fun e w' => e = .returned (.string ⟨(errText c (p :: ps)).toArray⟩) ∧ Below w.heap.size w w' := by
  have hlt : g < w.heap.size := cell_lt hp
  have hl1 := errText_le h0 h1 (ps := ps) fun q hq => hs q (by simp [hq])
  have hl2 : p.size ≤ 50 := hs p (by simp)
  have hl3 : (errText c ps).length ≤ 2000 := by omega
  have e : errText c (p :: ps) = p.data.toList ++ [58, 32] ++ errText c ps := rfl
  have E := Lib.hid e
  have H := Lib.hid ih
  have mE := mErC
  clear ih hl1 hs h0 h1 e hl
  generalize errText c (p :: ps) = L at *
  generalize errText c ps = l at *
  go_enter Tryd.func69, Tryd.ntmps69
  go_wp2_with fail
  go_region_with (go_at_call 66; refine (H.out _ ?_).mono ?_; (first | exact Below.refl _ _ | exact (Below.refl _ _).drew | exact below_drewN (Below.refl _ _) _); rintro e w1 ⟨rfl, hb1⟩; have k0 : w1.cell? ⟨g, 0, none⟩ = some (.string p) := (hb1.cell (p := ⟨g, 0, none⟩) (by exact hlt)).trans (by exact hp); have k1 : w1.cell? ⟨g, 1, none⟩ = some (.iface 30 u) := (hb1.cell (p := ⟨g, 1, none⟩) (by exact hlt)).trans (by exact hu))
  all_goals
    go_wp2
    go_ret
    refine ⟨ret_str (by rw [E.out, Go.Joins.data_append, Go.Joins.data_append]), ?_⟩
    exact (Below.refl _ w).drew.trans (hb1.mono (Nat.le_refl _))

set_option maxHeartbeats 1000000 in
theorem errorP_F (c : Int) (h0 : -9223372036854775808 ≤ c) (h1 : c ≤ 9223372036854775807) (g : Nat) (p : ByteArray) (u : Value) (ps : List ByteArray) (w : World)
    (hs : Small (p :: ps)) (hp : w.cell? ⟨g, 0, none⟩ = some (.string p)) (hu : w.cell? ⟨g, 1, none⟩ = some (.iface 50 u)) (hl : ps.length ≤ 30)
    (ih : ∀ W, Below w.heap.size w W → Calls Tryd.prog 67 #[u] W fun e w' => e = .returned (.string ⟨(errText c ps).toArray⟩) ∧ Below W.heap.size W w') :
    Calls Tryd.prog 69 #[.pointer (some ⟨g, 0, none⟩)] w fun e w' => e = .returned (.string ⟨(errText c (p :: ps)).toArray⟩) ∧ Below w.heap.size w w' := by
  have hlt : g < w.heap.size := cell_lt hp
  have hl1 := errText_le h0 h1 (ps := ps) fun q hq => hs q (by simp [hq])
  have hl2 : p.size ≤ 50 := hs p (by simp)
  have hl3 : (errText c ps).length ≤ 2000 := by omega
  have e : errText c (p :: ps) = p.data.toList ++ [58, 32] ++ errText c ps := rfl
  have E := Lib.hid e
  have H := Lib.hid ih
  have mE := mErF
  clear ih hl1 hs h0 h1 e hl
  generalize errText c (p :: ps) = L at *
  generalize errText c ps = l at *
  go_enter Tryd.func69, Tryd.ntmps69
  go_wp2_with fail
  go_region_with (go_at_call 67; refine (H.out _ ?_).mono ?_; (first | exact Below.refl _ _ | exact (Below.refl _ _).drew | exact below_drewN (Below.refl _ _) _); rintro e w1 ⟨rfl, hb1⟩; have k0 : w1.cell? ⟨g, 0, none⟩ = some (.string p) := (hb1.cell (p := ⟨g, 0, none⟩) (by exact hlt)).trans (by exact hp); have k1 : w1.cell? ⟨g, 1, none⟩ = some (.iface 50 u) := (hb1.cell (p := ⟨g, 1, none⟩) (by exact hlt)).trans (by exact hu))
  all_goals
    go_wp2
    go_ret
    refine ⟨ret_str (by rw [E.out, Go.Joins.data_append, Go.Joins.data_append]), ?_⟩
    exact (Below.refl _ w).drew.trans (hb1.mono (Nat.le_refl _))

set_option maxHeartbeats 1000000 in
theorem errorP_P (c : Int) (h0 : -9223372036854775808 ≤ c) (h1 : c ≤ 9223372036854775807) (g : Nat) (p : ByteArray) (u : Value) (ps : List ByteArray) (w : World)
    (hs : Small (p :: ps)) (hp : w.cell? ⟨g, 0, none⟩ = some (.string p)) (hu : w.cell? ⟨g, 1, none⟩ = some (.iface 54 u)) (hl : ps.length ≤ 30)
    (ih : ∀ W, Below w.heap.size w W → Calls Tryd.prog 69 #[u] W fun e w' => e = .returned (.string ⟨(errText c ps).toArray⟩) ∧ Below W.heap.size W w') :
    Calls Tryd.prog 69 #[.pointer (some ⟨g, 0, none⟩)] w fun e w' => e = .returned (.string ⟨(errText c (p :: ps)).toArray⟩) ∧ Below w.heap.size w w' := by
  have hlt : g < w.heap.size := cell_lt hp
  have hl1 := errText_le h0 h1 (ps := ps) fun q hq => hs q (by simp [hq])
  have hl2 : p.size ≤ 50 := hs p (by simp)
  have hl3 : (errText c ps).length ≤ 2000 := by omega
  have e : errText c (p :: ps) = p.data.toList ++ [58, 32] ++ errText c ps := rfl
  have E := Lib.hid e
  have H := Lib.hid ih
  have mE := mErP
  clear ih hl1 hs h0 h1 e hl
  generalize errText c (p :: ps) = L at *
  generalize errText c ps = l at *
  go_enter Tryd.func69, Tryd.ntmps69
  go_wp2_with fail
  go_region_with (go_at_call 69; refine (H.out _ ?_).mono ?_; (first | exact Below.refl _ _ | exact (Below.refl _ _).drew | exact below_drewN (Below.refl _ _) _); rintro e w1 ⟨rfl, hb1⟩; have k0 : w1.cell? ⟨g, 0, none⟩ = some (.string p) := (hb1.cell (p := ⟨g, 0, none⟩) (by exact hlt)).trans (by exact hp); have k1 : w1.cell? ⟨g, 1, none⟩ = some (.iface 54 u) := (hb1.cell (p := ⟨g, 1, none⟩) (by exact hlt)).trans (by exact hu))
  all_goals
    go_wp2
    go_ret
    refine ⟨ret_str (by rw [E.out, Go.Joins.data_append, Go.Joins.data_append]), ?_⟩
    exact (Below.refl _ w).drew.trans (hb1.mono (Nat.le_refl _))

/-- The text of an error in parts. -/
theorem errorP (c : Int) (h0 : -9223372036854775808 ≤ c) (h1 : c ≤ 9223372036854775807) : ∀ (ps : List ByteArray) (p : ByteArray) (g : Nat) (o : Option Int) (w : World), Env w →
    IsErr w ⟨c, o⟩ (p :: ps) (.iface 54 (.pointer (some ⟨g, 0, none⟩))) → Small (p :: ps) → ps.length ≤ 30 →
    Calls Tryd.prog 69 #[.pointer (some ⟨g, 0, none⟩)] w fun e w' => e = .returned (.string ⟨(errText c (p :: ps)).toArray⟩) ∧ Below w.heap.size w w'
  | [], p, g, o, w, hE, h, hs, hl => by
    obtain ⟨g', u, he, hp, hu, _, h2⟩ := h
    injection he with _ he
    injection he with he
    injection he with he
    injection he with he
    subst he
    obtain rfl := h2
    cases o with
    | none => exact errorP_C c h0 h1 g p _ [] w hs hp hu (by simp) fun W hW => errorC c h0 h1 W (hE.later hW)
    | some o => exact errorP_F c h0 h1 g p _ [] w hs hp hu (by simp) fun W hW => errorF c o h0 h1 W (hE.later hW)
  | q :: r, p, g, o, w, hE, h, hs, hl => by
    obtain ⟨g', u, he, hp, hu, _, h2⟩ := h
    injection he with _ he
    injection he with he
    injection he with he
    injection he with he
    subst he
    obtain ⟨g2, u2, rfl, h3⟩ := h2
    exact errorP_P c h0 h1 g p _ (q :: r) w hs hp hu hl fun W hW => errorP c h0 h1 r q g2 o W (hE.later hW) (IsErr.later hW (ps := q :: r) ⟨g2, u2, rfl, h3⟩) (fun x hx => hs x (by simp [hx])) (by simp at hl; omega)
end Go.Proofs.YtihmdhephcpgmaaDoor
