/- The walks of the reference: Find, FindMethod, Kind, Formals, Instance, Method. No condition.
The walks of the reference: Instance, Method. No condition.
The walk of the reference's Subst of signatures. The condition: few parts.
The walks of Fields, of package table and of the reference. The conditions: few parts. -/
import Derived.Test.YtjhlehdjdaphcaaDoorQMDrC
import Derived.Test.YtjhlehdjdaphcaaDoorQMTbB
namespace Go.Proofs.YtjhlehdjdaphcaaDoor
open Go.RowKit

theorem at_off {w : World} {p : Addr} {us : List Value} {j : Nat} {v : Value} (h : CellsAt w p us) (hj : us[j]? = some v) (h0 : 0 < j) : w.cell? ⟨p.block, p.off + j, none⟩ = some v := by
  have h1 := h j v hj
  unfold Addr.add at h1
  rwa [if_neg (by omega)] at h1
theorem at_zero {w : World} {p : Addr} {us : List Value} {v : Value} (h : CellsAt w p us) (hj : us[0]? = some v) : w.cell? p = some v := h 0 v hj
/-- An index, or -1. -/
def idxI : Option Nat → Int
  | none => -1
  | some i => i
/-- A boxed program. -/
structure PBox (W : World) (b : Nat) (p : Pg) (us : List Value) : Prop where
  box : Boxd W b us
  dat : p.dat.H W us
theorem PBox.later {W W' : World} {b : Nat} {p : Pg} {us : List Value} (h : PBox W b p us) (hb : Below W.heap.size W W') : PBox W' b p us := ⟨h.box.later hb, Dat.H.later h.dat hb⟩
theorem PBox.new {w : World} {p : Pg} {us : List Value} (h : p.dat.H w us) : PBox (w.alloc (.cells us.toArray 30)) w.heap.size p us := ⟨Boxd.new w us.toArray 30, Dat.H.later h ((Below.refl _ _).alloc (Nat.le_refl _) _)⟩
theorem PBox.len {W : World} {b : Nat} {p : Pg} {us : List Value} (h : PBox W b p us) : us.length = 9 := (Dat.In.len _ _ h.dat).trans (Pg.dat_size _)
/-- Its declarations. -/
theorem PBox.decls {W : World} {b : Nat} {p : Pg} {us : List Value} (h : PBox W b p us) : ∃ D nd cd, us[0]? = some (.slice D nd cd) ∧ RowH W 23 D nd (p.ds.map Dc.dat) ∧ p.ds.length = nd := by
  obtain ⟨D, nd, cd, bv, rfl, hr, _⟩ := pg_open h.dat
  have hl := hr.len
  rw [List.length_map] at hl
  exact ⟨D, nd, cd, rfl, hr, hl⟩
theorem dc_kyT {d : Dc} {s : ByteArray} {b1 b2 b3 : Bool} (e1 : (d.kind == 1) = b1) (e2 : (d.kind == 2) = b2) (e3 : bytesEq d.name s = b3) : (d.ky = some (tyK s)) ↔ ((b1 || b2) && b3) = true := by
  subst e1 e2 e3
  unfold Dc.ky
  by_cases h : d.kind = 1 ∨ d.kind = 2
  · rw [if_pos h]
    have hb : ((d.kind == 1) || (d.kind == 2)) = true := by rcases h with h | h <;> simp [h]
    rw [hb, Bool.true_and]
    constructor
    · intro h2
      have := congrArg (·.2.1) (Option.some.inj h2)
      exact beq_iff_eq.2 this
    · intro h2
      have h3 : d.name.data.toList = s.data.toList := eq_of_beq h2
      rw [h3]
  · rw [if_neg h]
    have hb : ((d.kind == 1) || (d.kind == 2)) = false := by simp only [not_or] at h; simp [h.1, h.2]
    rw [hb, Bool.false_and]
    constructor
    · intro h2
      split at h2
      · have := congrArg (·.1) (Option.some.inj h2); cases this
      · cases h2
    · intro h2; cases h2
theorem dc_kyM {d : Dc} {s m : ByteArray} {b1 b2 b3 : Bool} (e1 : (d.kind == 3) = b1) (e2 : bytesEq d.name s = b2) (e3 : bytesEq d.sig.name m = b3) : (d.ky = some (mtK s m)) ↔ ((b1 && b2) && b3) = true := by
  subst e1 e2 e3
  unfold Dc.ky
  by_cases h : d.kind = 3
  · rw [if_neg (by omega), if_pos h]
    simp only [h, beq_self_eq_true, Bool.true_and, Bool.and_eq_true]
    constructor
    · intro h2
      have h3 := Option.some.inj h2
      exact ⟨beq_iff_eq.2 (congrArg (·.2.1) h3), beq_iff_eq.2 (congrArg (·.2.2) h3)⟩
    · rintro ⟨h2, h3⟩
      have h4 : d.name.data.toList = s.data.toList := eq_of_beq h2
      have h5 : d.sig.name.data.toList = m.data.toList := eq_of_beq h3
      rw [h4, h5]
  · rw [beq_eq_false_iff_ne.2 h, Bool.false_and, Bool.false_and]
    constructor
    · intro h2
      split at h2
      · have := congrArg (·.1) (Option.some.inj h2); cases this
      · cases h2
    · intro h2; cases h2
set_option maxRecDepth 100000 in
set_option maxHeartbeats 8000000 in
theorem rfindT_any (p : Pg) (us : List Value) (s : ByteArray) (w : World) (h : p.dat.H w us) :
    Calls Tryd.prog 40 #[.agg us.toArray, .string s] w fun e w' => e = .returned (.int .i64 (idxI (idxK p.ds (tyK s)))) ∧ Below w.heap.size w w' := by
  obtain ⟨W0, hW0⟩ : ∃ W0, w.alloc (.cells us.toArray 30) = W0 := ⟨_, rfl⟩
  have hB : PBox W0 w.heap.size p us := hW0 ▸ PBox.new h
  have hb : Below w.heap.size w W0 := hW0 ▸ (Below.refl _ _).alloc (Nat.le_refl _) _
  obtain ⟨D, nd, cd, u0, hr, hln⟩ := hB.decls
  have x0 := hB.box 0 _ u0
  have hdi : (nd : Int) ≤ 9223372036854775807 := by have := hr.le; omega
  have HW0 := Lib.hid hW0
  have HB := Lib.hid hb
  have HR := Lib.hid hr
  have HLN := Lib.hid hln
  clear hW0 hB hb u0 hr h hln
  go_enter Tryd.func40, Tryd.ntmps40
  go_upto_region 1 with fail
  rw [HW0.out]
  clear HW0
  go_wp2_with fail
  go_loopw [5] (fun i wr => ∃ k : Nat, k ≤ nd ∧ i = .int .i64 k ∧ (∀ j d, j < k → p.ds[j]? = some d → d.ky ≠ some (tyK s)) ∧ wr = W0) (fun i _ => nd - (intOf i).toNat)
  case atStart => exact ⟨0, by omega, rfl, fun j d hj _ => absurd hj (Nat.not_lt_zero _), rfl⟩
  case round =>
    obtain ⟨k, hk, rfl, hno, rfl⟩ := hrel
    have HNO := Lib.hid hno
    have y1 : (0 : Int) ≤ k := by omega
    by_cases hlt : k < nd
    · have y0 : (k : Int) < nd := by omega
      obtain ⟨pu, d, ps, rfl, hd, _, _, hu, hcs⟩ := dat_at HR.out hlt
      obtain ⟨u0, u1, u7, _⟩ := dc_c hu
      have c0 := at_zero hcs u0
      have c1 := at_off hcs u1 (by omega)
      have HD := Lib.hid hd
      have hstep : ∀ q : Bool, (d.ky = some (tyK s) ↔ q = true) → q = false → ∀ j e, j < k + 1 → p.ds[j]? = some e → e.ky ≠ some (tyK s) := fun q hq hf j e hj he hk2 => by
        by_cases hjk : j = k
        · subst hjk
          rw [HD.out] at he
          obtain rfl := Option.some.inj he
          rw [hq.1 hk2] at hf
          cases hf
        · exact HNO.out j e (by omega) he hk2
      have HST := Lib.hid hstep
      clear hstep hd hu hcs u0 u1 u7 hno hlt
      cases e1 : (d.kind == 1) <;> cases e2 : (d.kind == 2) <;> cases e3 : (bytesEq d.name s)
      · have HK := Lib.hid (dc_kyT (d := d) e1 e2 e3)
        obtain ⟨g3, q3⟩ := toBeq e3
        clear e3
        have HN2 := Lib.hid (HST.out _ HK.out rfl)
        clear HK HST
        go_wp2_with fail
        go_roundw
        case rel => exact ⟨k + 1, by omega, by go_num, HN2.out, by first | rfl | trivial⟩
        case measure => simp [intOf]; omega
      · have HK := Lib.hid (dc_kyT (d := d) e1 e2 e3)
        obtain ⟨g3, q3⟩ := toBeq e3
        clear e3
        have HN2 := Lib.hid (HST.out _ HK.out rfl)
        clear HK HST
        go_wp2_with fail
        go_roundw
        case rel => exact ⟨k + 1, by omega, by go_num, HN2.out, by first | rfl | trivial⟩
        case measure => simp [intOf]; omega
      · have HK := Lib.hid (dc_kyT (d := d) e1 e2 e3)
        obtain ⟨g3, q3⟩ := toBeq e3
        clear e3
        have HN2 := Lib.hid (HST.out _ HK.out rfl)
        clear HK HST
        go_wp2_with fail
        go_roundw
        case rel => exact ⟨k + 1, by omega, by go_num, HN2.out, by first | rfl | trivial⟩
        case measure => simp [intOf]; omega
      · have HK := Lib.hid (dc_kyT (d := d) e1 e2 e3)
        obtain ⟨g3, q3⟩ := toBeq e3
        clear e3
        have HF := Lib.hid (idx_at HNO.out HD.out (HK.out.2 rfl))
        clear HK HST
        go_wp2_with fail
        go_ret
        exact ⟨ret_int (by rw [HF.out]; rfl), HB.out⟩
      · have HK := Lib.hid (dc_kyT (d := d) e1 e2 e3)
        obtain ⟨g3, q3⟩ := toBeq e3
        clear e3
        have HN2 := Lib.hid (HST.out _ HK.out rfl)
        clear HK HST
        go_wp2_with fail
        go_roundw
        case rel => exact ⟨k + 1, by omega, by go_num, HN2.out, by first | rfl | trivial⟩
        case measure => simp [intOf]; omega
      · have HK := Lib.hid (dc_kyT (d := d) e1 e2 e3)
        obtain ⟨g3, q3⟩ := toBeq e3
        clear e3
        have HF := Lib.hid (idx_at HNO.out HD.out (HK.out.2 rfl))
        clear HK HST
        go_wp2_with fail
        go_ret
        exact ⟨ret_int (by rw [HF.out]; rfl), HB.out⟩
      · have HK := Lib.hid (dc_kyT (d := d) e1 e2 e3)
        obtain ⟨g3, q3⟩ := toBeq e3
        clear e3
        have HN2 := Lib.hid (HST.out _ HK.out rfl)
        clear HK HST
        go_wp2_with fail
        go_roundw
        case rel => exact ⟨k + 1, by omega, by go_num, HN2.out, by first | rfl | trivial⟩
        case measure => simp [intOf]; omega
      · have HK := Lib.hid (dc_kyT (d := d) e1 e2 e3)
        obtain ⟨g3, q3⟩ := toBeq e3
        clear e3
        have HF := Lib.hid (idx_at HNO.out HD.out (HK.out.2 rfl))
        clear HK HST
        go_wp2_with fail
        go_ret
        exact ⟨ret_int (by rw [HF.out]; rfl), HB.out⟩
    · have y0 : (nd : Int) ≤ k := by omega
      have HNN := Lib.hid (show idxK p.ds (tyK s) = none from idx_none fun j e hj he => hno j e (by have := HLN.out; omega) he)
      clear hno hlt
      go_wp2_with fail
      go_ret
      exact ⟨ret_int (by rw [HNN.out]; rfl), HB.out⟩
set_option maxRecDepth 100000 in
set_option maxHeartbeats 8000000 in
theorem rfindM_any (p : Pg) (us : List Value) (s m : ByteArray) (w : World) (h : p.dat.H w us) :
    Calls Tryd.prog 51 #[.agg us.toArray, .string s, .string m] w fun e w' => e = .returned (.int .i64 (idxI (idxK p.ds (mtK s m)))) ∧ Below w.heap.size w w' := by
  obtain ⟨W0, hW0⟩ : ∃ W0, w.alloc (.cells us.toArray 30) = W0 := ⟨_, rfl⟩
  have hB : PBox W0 w.heap.size p us := hW0 ▸ PBox.new h
  have hb : Below w.heap.size w W0 := hW0 ▸ (Below.refl _ _).alloc (Nat.le_refl _) _
  obtain ⟨D, nd, cd, u0, hr, hln⟩ := hB.decls
  have x0 := hB.box 0 _ u0
  have hdi : (nd : Int) ≤ 9223372036854775807 := by have := hr.le; omega
  have HW0 := Lib.hid hW0
  have HB := Lib.hid hb
  have HR := Lib.hid hr
  have HLN := Lib.hid hln
  clear hW0 hB hb u0 hr h hln
  go_enter Tryd.func51, Tryd.ntmps51
  go_upto_region 1 with fail
  rw [HW0.out]
  clear HW0
  go_wp2_with fail
  go_loopw [7] (fun i wr => ∃ k : Nat, k ≤ nd ∧ i = .int .i64 k ∧ (∀ j d, j < k → p.ds[j]? = some d → d.ky ≠ some (mtK s m)) ∧ wr = W0) (fun i _ => nd - (intOf i).toNat)
  case atStart => exact ⟨0, by omega, rfl, fun j d hj _ => absurd hj (Nat.not_lt_zero _), rfl⟩
  case round =>
    obtain ⟨k, hk, rfl, hno, rfl⟩ := hrel
    have HNO := Lib.hid hno
    have y1 : (0 : Int) ≤ k := by omega
    by_cases hlt : k < nd
    · have y0 : (k : Int) < nd := by omega
      obtain ⟨pu, d, ps, rfl, hd, _, _, hu, hcs⟩ := dat_at HR.out hlt
      obtain ⟨u0, u1, u7, _⟩ := dc_c hu
      have c0 := at_zero hcs u0
      have c1 := at_off hcs u1 (by omega)
      have c7 := at_off hcs u7 (by omega)
      have HD := Lib.hid hd
      have hstep : ∀ q : Bool, (d.ky = some (mtK s m) ↔ q = true) → q = false → ∀ j e, j < k + 1 → p.ds[j]? = some e → e.ky ≠ some (mtK s m) := fun q hq hf j e hj he hk2 => by
        by_cases hjk : j = k
        · subst hjk
          rw [HD.out] at he
          obtain rfl := Option.some.inj he
          rw [hq.1 hk2] at hf
          cases hf
        · exact HNO.out j e (by omega) he hk2
      have HST := Lib.hid hstep
      clear hstep hd hu hcs u0 u1 u7 hno hlt
      cases e1 : (d.kind == 3) <;> cases e2 : (bytesEq d.name s) <;> cases e3 : (bytesEq d.sig.name m)
      · have HK := Lib.hid (dc_kyM (d := d) e1 e2 e3)
        obtain ⟨g2, q2⟩ := toBeq e2
        clear e2
        obtain ⟨g3, q3⟩ := toBeq e3
        clear e3
        have HN2 := Lib.hid (HST.out _ HK.out rfl)
        clear HK HST
        go_wp2_with fail
        go_roundw
        case rel => exact ⟨k + 1, by omega, by go_num, HN2.out, by first | rfl | trivial⟩
        case measure => simp [intOf]; omega
      · have HK := Lib.hid (dc_kyM (d := d) e1 e2 e3)
        obtain ⟨g2, q2⟩ := toBeq e2
        clear e2
        obtain ⟨g3, q3⟩ := toBeq e3
        clear e3
        have HN2 := Lib.hid (HST.out _ HK.out rfl)
        clear HK HST
        go_wp2_with fail
        go_roundw
        case rel => exact ⟨k + 1, by omega, by go_num, HN2.out, by first | rfl | trivial⟩
        case measure => simp [intOf]; omega
      · have HK := Lib.hid (dc_kyM (d := d) e1 e2 e3)
        obtain ⟨g2, q2⟩ := toBeq e2
        clear e2
        obtain ⟨g3, q3⟩ := toBeq e3
        clear e3
        have HN2 := Lib.hid (HST.out _ HK.out rfl)
        clear HK HST
        go_wp2_with fail
        go_roundw
        case rel => exact ⟨k + 1, by omega, by go_num, HN2.out, by first | rfl | trivial⟩
        case measure => simp [intOf]; omega
      · have HK := Lib.hid (dc_kyM (d := d) e1 e2 e3)
        obtain ⟨g2, q2⟩ := toBeq e2
        clear e2
        obtain ⟨g3, q3⟩ := toBeq e3
        clear e3
        have HN2 := Lib.hid (HST.out _ HK.out rfl)
        clear HK HST
        go_wp2_with fail
        go_roundw
        case rel => exact ⟨k + 1, by omega, by go_num, HN2.out, by first | rfl | trivial⟩
        case measure => simp [intOf]; omega
      · have HK := Lib.hid (dc_kyM (d := d) e1 e2 e3)
        obtain ⟨g2, q2⟩ := toBeq e2
        clear e2
        obtain ⟨g3, q3⟩ := toBeq e3
        clear e3
        have HN2 := Lib.hid (HST.out _ HK.out rfl)
        clear HK HST
        go_wp2_with fail
        go_roundw
        case rel => exact ⟨k + 1, by omega, by go_num, HN2.out, by first | rfl | trivial⟩
        case measure => simp [intOf]; omega
      · have HK := Lib.hid (dc_kyM (d := d) e1 e2 e3)
        obtain ⟨g2, q2⟩ := toBeq e2
        clear e2
        obtain ⟨g3, q3⟩ := toBeq e3
        clear e3
        have HN2 := Lib.hid (HST.out _ HK.out rfl)
        clear HK HST
        go_wp2_with fail
        go_roundw
        case rel => exact ⟨k + 1, by omega, by go_num, HN2.out, by first | rfl | trivial⟩
        case measure => simp [intOf]; omega
      · have HK := Lib.hid (dc_kyM (d := d) e1 e2 e3)
        obtain ⟨g2, q2⟩ := toBeq e2
        clear e2
        obtain ⟨g3, q3⟩ := toBeq e3
        clear e3
        have HN2 := Lib.hid (HST.out _ HK.out rfl)
        clear HK HST
        go_wp2_with fail
        go_roundw
        case rel => exact ⟨k + 1, by omega, by go_num, HN2.out, by first | rfl | trivial⟩
        case measure => simp [intOf]; omega
      · have HK := Lib.hid (dc_kyM (d := d) e1 e2 e3)
        obtain ⟨g2, q2⟩ := toBeq e2
        clear e2
        obtain ⟨g3, q3⟩ := toBeq e3
        clear e3
        have HF := Lib.hid (idx_at HNO.out HD.out (HK.out.2 rfl))
        clear HK HST
        go_wp2_with fail
        go_ret
        exact ⟨ret_int (by rw [HF.out]; rfl), HB.out⟩
    · have y0 : (nd : Int) ≤ k := by omega
      have HNN := Lib.hid (show idxK p.ds (mtK s m) = none from idx_none fun j e hj he => hno j e (by have := HLN.out; omega) he)
      clear hno hlt
      go_wp2_with fail
      go_ret
      exact ⟨ret_int (by rw [HNN.out]; rfl), HB.out⟩
set_option maxRecDepth 100000 in
set_option maxHeartbeats 8000000 in
theorem rkind_any (p : Pg) (us : List Value) (s : ByteArray) (w : World) (h : p.dat.H w us) :
    Calls Tryd.prog 15 #[.agg us.toArray, .string s] w fun e w' => e = .returned (.int .i64 (tyD p.ds s).kind) ∧ Below w.heap.size w w' := by
  obtain ⟨W0, hW0⟩ : ∃ W0, w.alloc (.cells us.toArray 30) = W0 := ⟨_, rfl⟩
  have hB : PBox W0 w.heap.size p us := hW0 ▸ PBox.new h
  have hb : Below w.heap.size w W0 := hW0 ▸ (Below.refl _ _).alloc (Nat.le_refl _) _
  have C := Lib.hid (rfindT_any p us s W0 hB.dat)
  have HX := Lib.hid hB.box.at0
  have HL := Lib.hid hB.len
  have HW0 := Lib.hid hW0
  have HB := Lib.hid hb
  have HP := Lib.hid hB
  have HH := Lib.hid h
  clear hW0 hB hb h
  go_enter Tryd.func15, Tryd.ntmps15
  go_upto_region 1 with fail
  rw [HW0.out]
  go_wp2_with (refine loadOp flatPg 2 6 rfl HX.out HL.out ?_)
  refine C.out.mono ?_
  rintro e w1 ⟨rfl, hb1⟩
  have HB1 := Lib.hid (HB.out.trans (hb1.mono HB.out.size))
  obtain ⟨D, nd, cd, u0, hr, hln⟩ := (HP.out.later hb1).decls
  have x0 := (HP.out.later hb1).box 0 _ u0
  clear C hb1
  cases hi : idxK p.ds (tyK s) with
  | none =>
    have HT := Lib.hid (show tyD p.ds s = Dc.none? from atK_none hi)
    rw [show idxI none = -1 from rfl]
    clear hr hln hi x0
    go_wp2_with fail
    go_ret
    exact ⟨ret_int (by rw [HT.out]; rfl), HB1.out⟩
  | some i =>
    obtain ⟨d, hd, _⟩ := idx_some hi
    have HT := Lib.hid (show tyD p.ds s = d from atK_some hi hd)
    have hil := idx_lt hi
    rw [show idxI (some i) = (i : Int) from rfl]
    have y0 : (0 : Int) ≤ i := by omega
    have y1 : (i : Int) < nd := by omega
    have y2 : decide ((i : Int) < 0) = false := decide_eq_false (by omega)
    obtain ⟨pu, d9, ps, rfl, hd9, _, _, hu, hcs⟩ := dat_at hr (show i < nd by omega)
    obtain rfl : d = d9 := Option.some.inj (hd.symm.trans hd9)
    have c0 := at_zero hcs (dc_c hu).1
    clear hr hln hi hd hd9 hu hcs hil u0
    go_wp2_with fail
    go_ret
    exact ⟨ret_int (by rw [HT.out]), HB1.out⟩
/-- The formals of a type, where they lie. -/
def RfPost (w : World) (l : List Fo) (e : Ending) (w' : World) : Prop := ∃ A c, e = .returned (.slice A l.length c) ∧ RowH w' 5 A l.length (l.map Fo.dat) ∧ Below w.heap.size w w'
theorem rf_end {w w' : World} {l : List Fo} {A : Option Addr} {n c : Nat} (hl : l.length = n) (hr : RowH w' 5 A n (l.map Fo.dat)) (hb : Below w.heap.size w w') : RfPost w l (.returned (.slice A n c)) w' := by
  subst hl
  exact ⟨A, c, rfl, hr, hb⟩
set_option maxRecDepth 100000 in
set_option maxHeartbeats 8000000 in
theorem rtformals_any (p : Pg) (us : List Value) (s : ByteArray) (w : World) (h : p.dat.H w us) :
    Calls Tryd.prog 19 #[.agg us.toArray, .string s] w (RfPost w (tyD p.ds s).fs) := by
  obtain ⟨W0, hW0⟩ : ∃ W0, w.alloc (.cells us.toArray 30) = W0 := ⟨_, rfl⟩
  have hB : PBox W0 w.heap.size p us := hW0 ▸ PBox.new h
  have hb : Below w.heap.size w W0 := hW0 ▸ (Below.refl _ _).alloc (Nat.le_refl _) _
  have C := Lib.hid (rfindT_any p us s W0 hB.dat)
  have HX := Lib.hid hB.box.at0
  have HL := Lib.hid hB.len
  have HW0 := Lib.hid hW0
  have HB := Lib.hid hb
  have HP := Lib.hid hB
  have HH := Lib.hid h
  clear hW0 hB hb h
  go_enter Tryd.func19, Tryd.ntmps19
  go_upto_region 1 with fail
  rw [HW0.out]
  go_wp2_with (refine loadOp flatPg 2 6 rfl HX.out HL.out ?_)
  refine C.out.mono ?_
  rintro e w1 ⟨rfl, hb1⟩
  have HB1 := Lib.hid (HB.out.trans (hb1.mono HB.out.size))
  obtain ⟨D, nd, cd, u0, hr, hln⟩ := (HP.out.later hb1).decls
  have x0 := (HP.out.later hb1).box 0 _ u0
  clear C hb1
  cases hi : idxK p.ds (tyK s) with
  | none =>
    have HT := Lib.hid (show tyD p.ds s = Dc.none? from atK_none hi)
    rw [show idxI none = -1 from rfl]
    clear hr hln hi x0
    go_wp2_with fail
    go_ret
    rw [HT.out]
    exact ⟨none, 0, rfl, Row.nil _ _ _ _ _, HB1.out⟩
  | some i =>
    obtain ⟨d, hd, _⟩ := idx_some hi
    have HT := Lib.hid (show tyD p.ds s = d from atK_some hi hd)
    have hil := idx_lt hi
    rw [show idxI (some i) = (i : Int) from rfl]
    have y0 : (0 : Int) ≤ i := by omega
    have y1 : (i : Int) < nd := by omega
    have y2 : decide ((i : Int) < 0) = false := decide_eq_false (by omega)
    obtain ⟨pu, d9, ps, rfl, hd9, _, _, hu, hcs⟩ := dat_at hr (show i < nd by omega)
    obtain rfl : d = d9 := Option.some.inj (hd.symm.trans hd9)
    obtain ⟨_, _, _, _, _, F, nf, cf, _, _, _, _, _, _, _, _, _, u2, _, _, _, hrf, _⟩ := dc_c hu
    have c2 := at_off hcs u2 (by omega)
    have hlf := hrf.len
    rw [List.length_map] at hlf
    have HLF := Lib.hid hlf
    have HRF := Lib.hid hrf
    clear u2 hlf hrf
    clear hr hln hi hd hd9 hu hcs hil u0
    go_wp2_with fail
    go_ret
    rw [HT.out]
    exact rf_end HLF.out HRF.out HB1.out
end Go.Proofs.YtjhlehdjdaphcaaDoor

namespace Go.Proofs.YtjhlehdjdaphcaaDoor
open Go.RowKit

/-- A boxed program and a boxed type. -/
structure PT (w W : World) (a b : Nat) (p : Pg) (x : Ty) (us xs : List Value) : Prop where
  prog : PBox W a p us
  box : Boxd W b xs
  dat : x.dat.H W xs
  bel : Below w.heap.size w W
theorem PT.later {w W W' : World} {a b : Nat} {p : Pg} {x : Ty} {us xs : List Value} (h : PT w W a b p x us xs) (hb : Below W.heap.size W W') : PT w W' a b p x us xs :=
  ⟨h.prog.later hb, h.box.later hb, Dat.H.later h.dat hb, h.bel.trans (hb.mono h.bel.size)⟩
theorem PT.new {w : World} {p : Pg} {x : Ty} {us xs : List Value} (h1 : p.dat.H w us) (h2 : x.dat.H w xs) : PT w ((w.alloc (.cells us.toArray 30)).alloc (.cells xs.toArray 25)) w.heap.size (w.heap.size + 1) p x us xs := by
  have hb1 : Below w.heap.size w (w.alloc (.cells us.toArray 30)) := (Below.refl _ _).alloc (Nat.le_refl _) _
  have hb2 : Below (w.alloc (.cells us.toArray 30)).heap.size (w.alloc (.cells us.toArray 30)) ((w.alloc (.cells us.toArray 30)).alloc (.cells xs.toArray 25)) := (Below.refl _ _).alloc (Nat.le_refl _) _
  have h3 := Boxd.new (w.alloc (.cells us.toArray 30)) xs.toArray 25
  rw [World.size_alloc] at h3
  exact ⟨(PBox.new h1).later hb2, h3, Dat.H.later h2 (hb1.trans (hb2.mono hb1.size)), hb1.trans (hb2.mono hb1.size)⟩
theorem instT_eq {ds : List Dc} {x : Ty} {kind : Int} {d : Dc} {nf m : Nat} (hd : tyD ds x.name = d) (hf : d.fs.length = nf) (hm : x.args.length = m) : instT ds x kind = ((d.kind == kind) && ((nf : Int) == (m : Int))) := by
  rw [instT, hd, hf, hm]
  congr 1
  by_cases h : nf = m
  · subst h; simp
  · rw [beq_eq_false_iff_ne.2 h, beq_eq_false_iff_ne.2 (by omega)]
set_option maxRecDepth 100000 in
set_option maxHeartbeats 8000000 in
theorem rinstance_any (p : Pg) (x : Ty) (us xs : List Value) (kind : Int) (w : World) (h : p.dat.H w us) (hx : x.dat.H w xs) :
    Calls Tryd.prog 16 #[.agg us.toArray, .agg xs.toArray, .int .i64 kind] w (EqvPost w (instT p.ds x kind)) := by
  obtain ⟨A, m, c, rfl, hxn, hxa⟩ := ty_open hx
  have hxl := hxa.len
  have HS := Lib.hid (PT.new h hx)
  obtain ⟨W0, hW0⟩ : ∃ W0, (w.alloc (.cells us.toArray 30)).alloc (.cells [.string x.name, .slice A m c, .int .i64 x.off].toArray 25) = W0 := ⟨_, rfl⟩
  rw [hW0] at HS
  have HW0 := Lib.hid (show (w.alloc (.cells us.toArray 30)).alloc (.cells #[.string x.name, .slice A m c, .int .i64 x.off] 25) = W0 from hW0)
  have HUL := Lib.hid (show us.length = 9 from (Dat.In.len _ _ h).trans (Pg.dat_size _))
  obtain ⟨d, hdd⟩ : ∃ d, tyD p.ds x.name = d := ⟨_, rfl⟩
  have HDD := Lib.hid hdd
  obtain ⟨nf, hnf⟩ : ∃ n, d.fs.length = n := ⟨_, rfl⟩
  have HDF := Lib.hid (show (tyD p.ds x.name).fs.length = nf by rw [hdd]; exact hnf)
  have HI0 := Lib.hid (instT_eq (kind := kind) hdd hnf hxl)
  clear hW0 h hx hxn hxa hxl hdd hnf
  cases e1 : (d.kind == kind)
  · have HI := Lib.hid (show instT p.ds x kind = false by rw [HI0.out, e1]; rfl)
    go_enter Tryd.func16, Tryd.ntmps16
    go_upto_region 1 with fail
    rw [HW0.out]
    clear HW0
    go_wp2_with fail
    refine wp_region_held_drew (S := fun V => PT w V w.heap.size (w.heap.size + 1) p x us [.string x.name, .slice A m c, .int .i64 x.off]) (by kernel_rfl) (HS.out.later (Below.refl _ _).drew) (fun hS => ?_)
    refine wpAnyH_take (i := 0) (v := .agg (us : List Value).toArray) rfl (by kernel_rfl) (by kernel_rfl) (by kernel_rfl) (fun _ _ _ h => h) (Or.inl ⟨by rfl, fun V hV => loadYieldB flatPg rfl hV.prog.box.at0 HUL.out⟩) (by assumption) ?_
    try simp only [Act.put, List.getElem_toArray, List.getElem_cons_zero, List.setIfInBounds_toArray, List.set_cons_zero, List.set_cons_succ]
    refine wpAnyH_take (i := 1) (v := ?_) rfl (by kernel_rfl) (by kernel_rfl) (by kernel_rfl) (fun _ _ _ h => h) (Or.inl ⟨by rfl, ?_⟩) (by assumption) ?_
    rotate_left
    · (intro V hV; go_simp; try with_reducible rfl)
    try simp only [Act.put, List.getElem_toArray, List.getElem_cons_zero, List.getElem_cons_succ, List.setIfInBounds_toArray, List.set_cons_zero, List.set_cons_succ]
    refine wpAnyH_take (i := 2) (v := ?_) rfl (by kernel_rfl) (by kernel_rfl) (by kernel_rfl) (fun _ _ _ h => h) (Or.inl ⟨by rfl, ?_⟩) (by assumption) ?_
    rotate_left
    · (intro V hV; have k0 := hV.box 0 _ rfl; go_simp; try with_reducible rfl)
    try simp only [Act.put, List.getElem_toArray, List.getElem_cons_zero, List.getElem_cons_succ, List.setIfInBounds_toArray, List.set_cons_zero, List.set_cons_succ]
    refine wpAnyH_take (i := 4) (v := ?_) rfl (by kernel_rfl) (by kernel_rfl) (by kernel_rfl) (fun _ _ _ h => h) (Or.inl ⟨by rfl, ?_⟩) (by assumption) ?_
    rotate_left
    · (intro V hV; go_simp; try with_reducible rfl)
    try simp only [Act.put, List.getElem_toArray, List.getElem_cons_zero, List.getElem_cons_succ, List.setIfInBounds_toArray, List.set_cons_zero, List.set_cons_succ]
    refine wpAnyH_ready (rs := [3]) (by kernel_rfl) (by simp) ?_
    refine AllReadyH.cons rfl (fun K hK => ?_) (AllReadyH.nil)
    go_simp
    refine (rkind_any p us x.name _ hS.prog.dat).mono ?_
    rintro e V1 ⟨rfl, hb1⟩
    rw [HDD.out]
    have SS := hS.later hb1
    clear hS hb1
    refine hK.out _ _ SS (fun hS => ?_)
    clear hK K SS
    try simp only [Act.put, List.getElem_toArray, List.getElem_cons_zero, List.getElem_cons_succ, List.setIfInBounds_toArray, List.set_cons_zero, List.set_cons_succ]
    refine wpAnyH_take (i := 5) (v := ?_) rfl (by kernel_rfl) (by kernel_rfl) (by kernel_rfl) (fun _ _ _ h => h) (Or.inl ⟨by rfl, ?_⟩) (by assumption) ?_
    rotate_left
    · (intro V hV; go_simp; try with_reducible rfl)
    try simp only [Act.put, List.getElem_toArray, List.getElem_cons_zero, List.getElem_cons_succ, List.setIfInBounds_toArray, List.set_cons_zero, List.set_cons_succ]
    refine wpAnyH_take (i := 6) (v := ?_) rfl (by kernel_rfl) (by kernel_rfl) (by kernel_rfl) (fun _ _ _ h => h) (Or.inl ⟨by rfl, ?_⟩) (by assumption) ?_
    rotate_left
    · (intro V hV; go_simp; try with_reducible rfl)
    try simp only [Act.put, List.getElem_toArray, List.getElem_cons_zero, List.getElem_cons_succ, List.setIfInBounds_toArray, List.set_cons_zero, List.set_cons_succ]
    refine wpAnyH_take (i := 7) (v := undef) rfl (by kernel_rfl) (by kernel_rfl) (by kernel_rfl) (fun _ _ _ h => h) (Or.inr ⟨by rfl, rfl⟩) (by assumption) ?_
    try simp only [Act.put, List.getElem_toArray, List.getElem_cons_zero, List.getElem_cons_succ, List.setIfInBounds_toArray, List.set_cons_zero, List.set_cons_succ]
    refine wpAnyH_take (i := 8) (v := undef) rfl (by kernel_rfl) (by kernel_rfl) (by kernel_rfl) (fun _ _ _ h => h) (Or.inr ⟨by rfl, rfl⟩) (by assumption) ?_
    try simp only [Act.put, List.getElem_toArray, List.getElem_cons_zero, List.getElem_cons_succ, List.setIfInBounds_toArray, List.set_cons_zero, List.set_cons_succ]
    refine wpAnyH_take (i := 9) (v := undef) rfl (by kernel_rfl) (by kernel_rfl) (by kernel_rfl) (fun _ _ _ h => h) (Or.inr ⟨by rfl, rfl⟩) (by assumption) ?_
    try simp only [Act.put, List.getElem_toArray, List.getElem_cons_zero, List.getElem_cons_succ, List.setIfInBounds_toArray, List.set_cons_zero, List.set_cons_succ]
    refine wpAnyH_take (i := 10) (v := undef) rfl (by kernel_rfl) (by kernel_rfl) (by kernel_rfl) (fun _ _ _ h => h) (Or.inr ⟨by rfl, rfl⟩) (by assumption) ?_
    try simp only [Act.put, List.getElem_toArray, List.getElem_cons_zero, List.getElem_cons_succ, List.setIfInBounds_toArray, List.set_cons_zero, List.set_cons_succ]
    refine wpAnyH_take (i := 11) (v := undef) rfl (by kernel_rfl) (by kernel_rfl) (by kernel_rfl) (fun _ _ _ h => h) (Or.inr ⟨by rfl, rfl⟩) (by assumption) ?_
    try simp only [Act.put, List.getElem_toArray, List.getElem_cons_zero, List.getElem_cons_succ, List.setIfInBounds_toArray, List.set_cons_zero, List.set_cons_succ]
    refine wpAnyH_take (i := 12) (v := undef) rfl (by kernel_rfl) (by kernel_rfl) (by kernel_rfl) (fun _ _ _ h => h) (Or.inr ⟨by rfl, rfl⟩) (by assumption) ?_
    try simp only [Act.put, List.getElem_toArray, List.getElem_cons_zero, List.getElem_cons_succ, List.setIfInBounds_toArray, List.set_cons_zero, List.set_cons_succ]
    refine wpAnyH_take (i := 13) (v := undef) rfl (by kernel_rfl) (by kernel_rfl) (by kernel_rfl) (fun _ _ _ h => h) (Or.inr ⟨by rfl, rfl⟩) (by assumption) ?_
    try simp only [Act.put, List.getElem_toArray, List.getElem_cons_zero, List.getElem_cons_succ, List.setIfInBounds_toArray, List.set_cons_zero, List.set_cons_succ]
    refine wpAnyH_take (i := 14) (v := undef) rfl (by kernel_rfl) (by kernel_rfl) (by kernel_rfl) (fun _ _ _ h => h) (Or.inr ⟨by rfl, rfl⟩) (by assumption) ?_
    try simp only [Act.put, List.getElem_toArray, List.getElem_cons_zero, List.getElem_cons_succ, List.setIfInBounds_toArray, List.set_cons_zero, List.set_cons_succ]
    refine wpAnyH_take (i := 15) (v := undef) rfl (by kernel_rfl) (by kernel_rfl) (by kernel_rfl) (fun _ _ _ h => h) (Or.inr ⟨by rfl, rfl⟩) (by assumption) ?_
    try simp only [Act.put, List.getElem_toArray, List.getElem_cons_zero, List.getElem_cons_succ, List.setIfInBounds_toArray, List.set_cons_zero, List.set_cons_succ]
    refine wpAnyH_take (i := 16) (v := ?_) rfl (by kernel_rfl) (by kernel_rfl) (by kernel_rfl) (fun _ _ _ h => h) (Or.inl ⟨by rfl, ?_⟩) (by assumption) ?_
    rotate_left
    · (intro V hV; go_simp; try with_reducible rfl)
    try simp only [Act.put, List.getElem_toArray, List.getElem_cons_zero, List.getElem_cons_succ, List.setIfInBounds_toArray, List.set_cons_zero, List.set_cons_succ]
    refine wpAnyH_take (i := 17) (v := ?_) rfl (by kernel_rfl) (by kernel_rfl) (by kernel_rfl) (fun _ _ _ h => h) (Or.inl ⟨by rfl, ?_⟩) (by assumption) ?_
    rotate_left
    · (intro V hV; go_simp; try with_reducible rfl)
    try simp only [Act.put, List.getElem_toArray, List.getElem_cons_zero, List.getElem_cons_succ, List.setIfInBounds_toArray, List.set_cons_zero, List.set_cons_succ]
    refine wpAnyH_done (by kernel_rfl) ?_ _
    go_wp2_with fail
    go_ret
    exact ⟨ret_bool (by rw [HI.out]), hS.bel⟩
  · cases e2 : ((nf : Int) == (m : Int))
    · have HI := Lib.hid (show instT p.ds x kind = false by rw [HI0.out, e1, e2]; rfl)
      go_enter Tryd.func16, Tryd.ntmps16
      go_upto_region 1 with fail
      rw [HW0.out]
      clear HW0
      go_wp2_with fail
      refine wp_region_held_drew (S := fun V => PT w V w.heap.size (w.heap.size + 1) p x us [.string x.name, .slice A m c, .int .i64 x.off]) (by kernel_rfl) (HS.out.later (Below.refl _ _).drew) (fun hS => ?_)
      refine wpAnyH_take (i := 0) (v := .agg (us : List Value).toArray) rfl (by kernel_rfl) (by kernel_rfl) (by kernel_rfl) (fun _ _ _ h => h) (Or.inl ⟨by rfl, fun V hV => loadYieldB flatPg rfl hV.prog.box.at0 HUL.out⟩) (by assumption) ?_
      try simp only [Act.put, List.getElem_toArray, List.getElem_cons_zero, List.setIfInBounds_toArray, List.set_cons_zero, List.set_cons_succ]
      refine wpAnyH_take (i := 1) (v := ?_) rfl (by kernel_rfl) (by kernel_rfl) (by kernel_rfl) (fun _ _ _ h => h) (Or.inl ⟨by rfl, ?_⟩) (by assumption) ?_
      rotate_left
      · (intro V hV; go_simp; try with_reducible rfl)
      try simp only [Act.put, List.getElem_toArray, List.getElem_cons_zero, List.getElem_cons_succ, List.setIfInBounds_toArray, List.set_cons_zero, List.set_cons_succ]
      refine wpAnyH_take (i := 2) (v := ?_) rfl (by kernel_rfl) (by kernel_rfl) (by kernel_rfl) (fun _ _ _ h => h) (Or.inl ⟨by rfl, ?_⟩) (by assumption) ?_
      rotate_left
      · (intro V hV; have k0 := hV.box 0 _ rfl; go_simp; try with_reducible rfl)
      try simp only [Act.put, List.getElem_toArray, List.getElem_cons_zero, List.getElem_cons_succ, List.setIfInBounds_toArray, List.set_cons_zero, List.set_cons_succ]
      refine wpAnyH_take (i := 4) (v := ?_) rfl (by kernel_rfl) (by kernel_rfl) (by kernel_rfl) (fun _ _ _ h => h) (Or.inl ⟨by rfl, ?_⟩) (by assumption) ?_
      rotate_left
      · (intro V hV; go_simp; try with_reducible rfl)
      try simp only [Act.put, List.getElem_toArray, List.getElem_cons_zero, List.getElem_cons_succ, List.setIfInBounds_toArray, List.set_cons_zero, List.set_cons_succ]
      refine wpAnyH_ready (rs := [3]) (by kernel_rfl) (by simp) ?_
      refine AllReadyH.cons rfl (fun K hK => ?_) (AllReadyH.nil)
      go_simp
      refine (rkind_any p us x.name _ hS.prog.dat).mono ?_
      rintro e V1 ⟨rfl, hb1⟩
      rw [HDD.out]
      have SS := hS.later hb1
      clear hS hb1
      refine hK.out _ _ SS (fun hS => ?_)
      clear hK K SS
      try simp only [Act.put, List.getElem_toArray, List.getElem_cons_zero, List.getElem_cons_succ, List.setIfInBounds_toArray, List.set_cons_zero, List.set_cons_succ]
      refine wpAnyH_take (i := 5) (v := ?_) rfl (by kernel_rfl) (by kernel_rfl) (by kernel_rfl) (fun _ _ _ h => h) (Or.inl ⟨by rfl, ?_⟩) (by assumption) ?_
      rotate_left
      · (intro V hV; go_simp; try with_reducible rfl)
      try simp only [Act.put, List.getElem_toArray, List.getElem_cons_zero, List.getElem_cons_succ, List.setIfInBounds_toArray, List.set_cons_zero, List.set_cons_succ]
      refine wpAnyH_take (i := 6) (v := ?_) rfl (by kernel_rfl) (by kernel_rfl) (by kernel_rfl) (fun _ _ _ h => h) (Or.inl ⟨by rfl, ?_⟩) (by assumption) ?_
      rotate_left
      · (intro V hV; go_simp; try with_reducible rfl)
      try simp only [Act.put, List.getElem_toArray, List.getElem_cons_zero, List.getElem_cons_succ, List.setIfInBounds_toArray, List.set_cons_zero, List.set_cons_succ]
      refine wpAnyH_take (i := 7) (v := .agg (us : List Value).toArray) rfl (by kernel_rfl) (by kernel_rfl) (by kernel_rfl) (fun _ _ _ h => h) (Or.inl ⟨by rfl, fun V hV => loadYieldB flatPg rfl hV.prog.box.at0 HUL.out⟩) (by assumption) ?_
      try simp only [Act.put, List.getElem_toArray, List.getElem_cons_zero, List.getElem_cons_succ, List.setIfInBounds_toArray, List.set_cons_zero, List.set_cons_succ]
      refine wpAnyH_take (i := 8) (v := ?_) rfl (by kernel_rfl) (by kernel_rfl) (by kernel_rfl) (fun _ _ _ h => h) (Or.inl ⟨by rfl, ?_⟩) (by assumption) ?_
      rotate_left
      · (intro V hV; go_simp; try with_reducible rfl)
      try simp only [Act.put, List.getElem_toArray, List.getElem_cons_zero, List.getElem_cons_succ, List.setIfInBounds_toArray, List.set_cons_zero, List.set_cons_succ]
      refine wpAnyH_take (i := 9) (v := ?_) rfl (by kernel_rfl) (by kernel_rfl) (by kernel_rfl) (fun _ _ _ h => h) (Or.inl ⟨by rfl, ?_⟩) (by assumption) ?_
      rotate_left
      · (intro V hV; have k0 := hV.box 0 _ rfl; go_simp; try with_reducible rfl)
      try simp only [Act.put, List.getElem_toArray, List.getElem_cons_zero, List.getElem_cons_succ, List.setIfInBounds_toArray, List.set_cons_zero, List.set_cons_succ]
      refine wpAnyH_take (i := 12) (v := ?_) rfl (by kernel_rfl) (by kernel_rfl) (by kernel_rfl) (fun _ _ _ h => h) (Or.inl ⟨by rfl, ?_⟩) (by assumption) ?_
      rotate_left
      · (intro V hV; go_simp; try with_reducible rfl)
      try simp only [Act.put, List.getElem_toArray, List.getElem_cons_zero, List.getElem_cons_succ, List.setIfInBounds_toArray, List.set_cons_zero, List.set_cons_succ]
      refine wpAnyH_take (i := 13) (v := ?_) rfl (by kernel_rfl) (by kernel_rfl) (by kernel_rfl) (fun _ _ _ h => h) (Or.inl ⟨by rfl, ?_⟩) (by assumption) ?_
      rotate_left
      · (intro V hV; have k0 := hV.box 1 _ rfl; go_simp; try with_reducible rfl)
      try simp only [Act.put, List.getElem_toArray, List.getElem_cons_zero, List.getElem_cons_succ, List.setIfInBounds_toArray, List.set_cons_zero, List.set_cons_succ]
      refine wpAnyH_take (i := 14) (v := ?_) rfl (by kernel_rfl) (by kernel_rfl) (by kernel_rfl) (fun _ _ _ h => h) (Or.inl ⟨by rfl, ?_⟩) (by assumption) ?_
      rotate_left
      · (intro V hV; go_simp; try with_reducible rfl)
      try simp only [Act.put, List.getElem_toArray, List.getElem_cons_zero, List.getElem_cons_succ, List.setIfInBounds_toArray, List.set_cons_zero, List.set_cons_succ]
      refine wpAnyH_ready (rs := [10]) (by kernel_rfl) (by simp) ?_
      refine AllReadyH.cons rfl (fun K hK => ?_) (AllReadyH.nil)
      go_simp
      refine (rtformals_any p us x.name _ hS.prog.dat).mono ?_
      rintro e V1 ⟨F9, c9, rfl, _, hb1⟩
      rw [HDF.out]
      have SS := hS.later hb1
      clear hS hb1
      refine hK.out _ _ SS (fun hS => ?_)
      clear hK K SS
      try simp only [Act.put, List.getElem_toArray, List.getElem_cons_zero, List.getElem_cons_succ, List.setIfInBounds_toArray, List.set_cons_zero, List.set_cons_succ]
      refine wpAnyH_take (i := 11) (v := ?_) rfl (by kernel_rfl) (by kernel_rfl) (by kernel_rfl) (fun _ _ _ h => h) (Or.inl ⟨by rfl, ?_⟩) (by assumption) ?_
      rotate_left
      · (intro V hV; go_simp; try with_reducible rfl)
      try simp only [Act.put, List.getElem_toArray, List.getElem_cons_zero, List.getElem_cons_succ, List.setIfInBounds_toArray, List.set_cons_zero, List.set_cons_succ]
      refine wpAnyH_take (i := 15) (v := ?_) rfl (by kernel_rfl) (by kernel_rfl) (by kernel_rfl) (fun _ _ _ h => h) (Or.inl ⟨by rfl, ?_⟩) (by assumption) ?_
      rotate_left
      · (intro V hV; go_simp; try with_reducible rfl)
      try simp only [Act.put, List.getElem_toArray, List.getElem_cons_zero, List.getElem_cons_succ, List.setIfInBounds_toArray, List.set_cons_zero, List.set_cons_succ]
      refine wpAnyH_take (i := 16) (v := ?_) rfl (by kernel_rfl) (by kernel_rfl) (by kernel_rfl) (fun _ _ _ h => h) (Or.inl ⟨by rfl, ?_⟩) (by assumption) ?_
      rotate_left
      · (intro V hV; go_simp; try with_reducible rfl)
      try simp only [Act.put, List.getElem_toArray, List.getElem_cons_zero, List.getElem_cons_succ, List.setIfInBounds_toArray, List.set_cons_zero, List.set_cons_succ]
      refine wpAnyH_take (i := 17) (v := ?_) rfl (by kernel_rfl) (by kernel_rfl) (by kernel_rfl) (fun _ _ _ h => h) (Or.inl ⟨by rfl, ?_⟩) (by assumption) ?_
      rotate_left
      · (intro V hV; go_simp; try with_reducible rfl)
      try simp only [Act.put, List.getElem_toArray, List.getElem_cons_zero, List.getElem_cons_succ, List.setIfInBounds_toArray, List.set_cons_zero, List.set_cons_succ]
      refine wpAnyH_done (by kernel_rfl) ?_ _
      go_wp2_with fail
      go_ret
      exact ⟨ret_bool (by rw [HI.out]), hS.bel⟩
    · have HI := Lib.hid (show instT p.ds x kind = true by rw [HI0.out, e1, e2]; rfl)
      go_enter Tryd.func16, Tryd.ntmps16
      go_upto_region 1 with fail
      rw [HW0.out]
      clear HW0
      go_wp2_with fail
      refine wp_region_held_drew (S := fun V => PT w V w.heap.size (w.heap.size + 1) p x us [.string x.name, .slice A m c, .int .i64 x.off]) (by kernel_rfl) (HS.out.later (Below.refl _ _).drew) (fun hS => ?_)
      refine wpAnyH_take (i := 0) (v := .agg (us : List Value).toArray) rfl (by kernel_rfl) (by kernel_rfl) (by kernel_rfl) (fun _ _ _ h => h) (Or.inl ⟨by rfl, fun V hV => loadYieldB flatPg rfl hV.prog.box.at0 HUL.out⟩) (by assumption) ?_
      try simp only [Act.put, List.getElem_toArray, List.getElem_cons_zero, List.setIfInBounds_toArray, List.set_cons_zero, List.set_cons_succ]
      refine wpAnyH_take (i := 1) (v := ?_) rfl (by kernel_rfl) (by kernel_rfl) (by kernel_rfl) (fun _ _ _ h => h) (Or.inl ⟨by rfl, ?_⟩) (by assumption) ?_
      rotate_left
      · (intro V hV; go_simp; try with_reducible rfl)
      try simp only [Act.put, List.getElem_toArray, List.getElem_cons_zero, List.getElem_cons_succ, List.setIfInBounds_toArray, List.set_cons_zero, List.set_cons_succ]
      refine wpAnyH_take (i := 2) (v := ?_) rfl (by kernel_rfl) (by kernel_rfl) (by kernel_rfl) (fun _ _ _ h => h) (Or.inl ⟨by rfl, ?_⟩) (by assumption) ?_
      rotate_left
      · (intro V hV; have k0 := hV.box 0 _ rfl; go_simp; try with_reducible rfl)
      try simp only [Act.put, List.getElem_toArray, List.getElem_cons_zero, List.getElem_cons_succ, List.setIfInBounds_toArray, List.set_cons_zero, List.set_cons_succ]
      refine wpAnyH_take (i := 4) (v := ?_) rfl (by kernel_rfl) (by kernel_rfl) (by kernel_rfl) (fun _ _ _ h => h) (Or.inl ⟨by rfl, ?_⟩) (by assumption) ?_
      rotate_left
      · (intro V hV; go_simp; try with_reducible rfl)
      try simp only [Act.put, List.getElem_toArray, List.getElem_cons_zero, List.getElem_cons_succ, List.setIfInBounds_toArray, List.set_cons_zero, List.set_cons_succ]
      refine wpAnyH_ready (rs := [3]) (by kernel_rfl) (by simp) ?_
      refine AllReadyH.cons rfl (fun K hK => ?_) (AllReadyH.nil)
      go_simp
      refine (rkind_any p us x.name _ hS.prog.dat).mono ?_
      rintro e V1 ⟨rfl, hb1⟩
      rw [HDD.out]
      have SS := hS.later hb1
      clear hS hb1
      refine hK.out _ _ SS (fun hS => ?_)
      clear hK K SS
      try simp only [Act.put, List.getElem_toArray, List.getElem_cons_zero, List.getElem_cons_succ, List.setIfInBounds_toArray, List.set_cons_zero, List.set_cons_succ]
      refine wpAnyH_take (i := 5) (v := ?_) rfl (by kernel_rfl) (by kernel_rfl) (by kernel_rfl) (fun _ _ _ h => h) (Or.inl ⟨by rfl, ?_⟩) (by assumption) ?_
      rotate_left
      · (intro V hV; go_simp; try with_reducible rfl)
      try simp only [Act.put, List.getElem_toArray, List.getElem_cons_zero, List.getElem_cons_succ, List.setIfInBounds_toArray, List.set_cons_zero, List.set_cons_succ]
      refine wpAnyH_take (i := 6) (v := ?_) rfl (by kernel_rfl) (by kernel_rfl) (by kernel_rfl) (fun _ _ _ h => h) (Or.inl ⟨by rfl, ?_⟩) (by assumption) ?_
      rotate_left
      · (intro V hV; go_simp; try with_reducible rfl)
      try simp only [Act.put, List.getElem_toArray, List.getElem_cons_zero, List.getElem_cons_succ, List.setIfInBounds_toArray, List.set_cons_zero, List.set_cons_succ]
      refine wpAnyH_take (i := 7) (v := .agg (us : List Value).toArray) rfl (by kernel_rfl) (by kernel_rfl) (by kernel_rfl) (fun _ _ _ h => h) (Or.inl ⟨by rfl, fun V hV => loadYieldB flatPg rfl hV.prog.box.at0 HUL.out⟩) (by assumption) ?_
      try simp only [Act.put, List.getElem_toArray, List.getElem_cons_zero, List.getElem_cons_succ, List.setIfInBounds_toArray, List.set_cons_zero, List.set_cons_succ]
      refine wpAnyH_take (i := 8) (v := ?_) rfl (by kernel_rfl) (by kernel_rfl) (by kernel_rfl) (fun _ _ _ h => h) (Or.inl ⟨by rfl, ?_⟩) (by assumption) ?_
      rotate_left
      · (intro V hV; go_simp; try with_reducible rfl)
      try simp only [Act.put, List.getElem_toArray, List.getElem_cons_zero, List.getElem_cons_succ, List.setIfInBounds_toArray, List.set_cons_zero, List.set_cons_succ]
      refine wpAnyH_take (i := 9) (v := ?_) rfl (by kernel_rfl) (by kernel_rfl) (by kernel_rfl) (fun _ _ _ h => h) (Or.inl ⟨by rfl, ?_⟩) (by assumption) ?_
      rotate_left
      · (intro V hV; have k0 := hV.box 0 _ rfl; go_simp; try with_reducible rfl)
      try simp only [Act.put, List.getElem_toArray, List.getElem_cons_zero, List.getElem_cons_succ, List.setIfInBounds_toArray, List.set_cons_zero, List.set_cons_succ]
      refine wpAnyH_take (i := 12) (v := ?_) rfl (by kernel_rfl) (by kernel_rfl) (by kernel_rfl) (fun _ _ _ h => h) (Or.inl ⟨by rfl, ?_⟩) (by assumption) ?_
      rotate_left
      · (intro V hV; go_simp; try with_reducible rfl)
      try simp only [Act.put, List.getElem_toArray, List.getElem_cons_zero, List.getElem_cons_succ, List.setIfInBounds_toArray, List.set_cons_zero, List.set_cons_succ]
      refine wpAnyH_take (i := 13) (v := ?_) rfl (by kernel_rfl) (by kernel_rfl) (by kernel_rfl) (fun _ _ _ h => h) (Or.inl ⟨by rfl, ?_⟩) (by assumption) ?_
      rotate_left
      · (intro V hV; have k0 := hV.box 1 _ rfl; go_simp; try with_reducible rfl)
      try simp only [Act.put, List.getElem_toArray, List.getElem_cons_zero, List.getElem_cons_succ, List.setIfInBounds_toArray, List.set_cons_zero, List.set_cons_succ]
      refine wpAnyH_take (i := 14) (v := ?_) rfl (by kernel_rfl) (by kernel_rfl) (by kernel_rfl) (fun _ _ _ h => h) (Or.inl ⟨by rfl, ?_⟩) (by assumption) ?_
      rotate_left
      · (intro V hV; go_simp; try with_reducible rfl)
      try simp only [Act.put, List.getElem_toArray, List.getElem_cons_zero, List.getElem_cons_succ, List.setIfInBounds_toArray, List.set_cons_zero, List.set_cons_succ]
      refine wpAnyH_ready (rs := [10]) (by kernel_rfl) (by simp) ?_
      refine AllReadyH.cons rfl (fun K hK => ?_) (AllReadyH.nil)
      go_simp
      refine (rtformals_any p us x.name _ hS.prog.dat).mono ?_
      rintro e V1 ⟨F9, c9, rfl, _, hb1⟩
      rw [HDF.out]
      have SS := hS.later hb1
      clear hS hb1
      refine hK.out _ _ SS (fun hS => ?_)
      clear hK K SS
      try simp only [Act.put, List.getElem_toArray, List.getElem_cons_zero, List.getElem_cons_succ, List.setIfInBounds_toArray, List.set_cons_zero, List.set_cons_succ]
      refine wpAnyH_take (i := 11) (v := ?_) rfl (by kernel_rfl) (by kernel_rfl) (by kernel_rfl) (fun _ _ _ h => h) (Or.inl ⟨by rfl, ?_⟩) (by assumption) ?_
      rotate_left
      · (intro V hV; go_simp; try with_reducible rfl)
      try simp only [Act.put, List.getElem_toArray, List.getElem_cons_zero, List.getElem_cons_succ, List.setIfInBounds_toArray, List.set_cons_zero, List.set_cons_succ]
      refine wpAnyH_take (i := 15) (v := ?_) rfl (by kernel_rfl) (by kernel_rfl) (by kernel_rfl) (fun _ _ _ h => h) (Or.inl ⟨by rfl, ?_⟩) (by assumption) ?_
      rotate_left
      · (intro V hV; go_simp; try with_reducible rfl)
      try simp only [Act.put, List.getElem_toArray, List.getElem_cons_zero, List.getElem_cons_succ, List.setIfInBounds_toArray, List.set_cons_zero, List.set_cons_succ]
      refine wpAnyH_take (i := 16) (v := ?_) rfl (by kernel_rfl) (by kernel_rfl) (by kernel_rfl) (fun _ _ _ h => h) (Or.inl ⟨by rfl, ?_⟩) (by assumption) ?_
      rotate_left
      · (intro V hV; go_simp; try with_reducible rfl)
      try simp only [Act.put, List.getElem_toArray, List.getElem_cons_zero, List.getElem_cons_succ, List.setIfInBounds_toArray, List.set_cons_zero, List.set_cons_succ]
      refine wpAnyH_take (i := 17) (v := ?_) rfl (by kernel_rfl) (by kernel_rfl) (by kernel_rfl) (fun _ _ _ h => h) (Or.inl ⟨by rfl, ?_⟩) (by assumption) ?_
      rotate_left
      · (intro V hV; go_simp; try with_reducible rfl)
      try simp only [Act.put, List.getElem_toArray, List.getElem_cons_zero, List.getElem_cons_succ, List.setIfInBounds_toArray, List.set_cons_zero, List.set_cons_succ]
      refine wpAnyH_done (by kernel_rfl) ?_ _
      go_wp2_with fail
      go_ret
      exact ⟨ret_bool (by rw [HI.out]), hS.bel⟩
set_option maxRecDepth 100000 in
set_option maxHeartbeats 8000000 in
theorem rmethod_any (p : Pg) (x : Ty) (us xs : List Value) (mn : ByteArray) (w : World) (h : p.dat.H w us) (hx : x.dat.H w xs) :
    Calls Tryd.prog 24 #[.agg us.toArray, .agg xs.toArray, .string mn] w fun e w' => e = .returned (.int .i64 (idxI (methodT p.ds x mn))) ∧ Below w.heap.size w w' := by
  obtain ⟨A, m, c, rfl, hxn, hxa⟩ := ty_open hx
  have hxl := hxa.len
  have HS := Lib.hid (PT.new h hx)
  obtain ⟨W0, hW0⟩ : ∃ W0, (w.alloc (.cells us.toArray 30)).alloc (.cells [.string x.name, .slice A m c, .int .i64 x.off].toArray 25) = W0 := ⟨_, rfl⟩
  rw [hW0] at HS
  have HW0 := Lib.hid (show (w.alloc (.cells us.toArray 30)).alloc (.cells #[.string x.name, .slice A m c, .int .i64 x.off] 25) = W0 from hW0)
  have HUL := Lib.hid (show us.length = 9 from (Dat.In.len _ _ h).trans (Pg.dat_size _))
  clear hW0 h hx hxn hxa
  go_enter Tryd.func24, Tryd.ntmps24
  go_upto_region 1 with fail
  rw [HW0.out]
  clear HW0
  have x0 := HS.out.box 0 _ rfl
  go_wp2_with (refine loadOp flatPg 3 8 rfl HS.out.prog.box.at0 HUL.out ?_)
  refine (rfindM_any p us x.name mn _ HS.out.prog.dat).mono ?_
  rintro e w1 ⟨rfl, hb1⟩
  have HS1 := Lib.hid (HS.out.later hb1)
  clear hb1 x0 HS
  cases hq : instT p.ds x 1
  · have HQ := Lib.hid hq
    have HM := Lib.hid (show methodT p.ds x mn = none by unfold methodT; cases idxK p.ds (mtK x.name mn) <;> simp [hq])
    clear hq hxl
    generalize idxI (idxK p.ds (mtK x.name mn)) = z at *
    go_upto_region 2 with fail
    go_wp2_with fail
    refine wp_region_held_drew (S := fun V => PT w V w.heap.size (w.heap.size + 1) p x us [.string x.name, .slice A m c, .int .i64 x.off]) (by kernel_rfl) (HS1.out.later (Below.refl _ _).drew) (fun hS => ?_)
    refine wpAnyH_take (i := 0) (v := .agg (us : List Value).toArray) rfl (by kernel_rfl) (by kernel_rfl) (by kernel_rfl) (fun _ _ _ h => h) (Or.inl ⟨by rfl, fun V hV => loadYieldB flatPg rfl hV.prog.box.at0 HUL.out⟩) (by assumption) ?_
    try simp only [Act.put, List.getElem_toArray, List.getElem_cons_zero, List.setIfInBounds_toArray, List.set_cons_zero, List.set_cons_succ]
    refine wpAnyH_take (i := 1) (v := .agg ([.string x.name, .slice A m c, .int .i64 x.off] : List Value).toArray) rfl (by kernel_rfl) (by kernel_rfl) (by kernel_rfl) (fun _ _ _ h => h) (Or.inl ⟨by rfl, fun V hV => loadYieldB flatTy3 rfl hV.box.at0 rfl⟩) (by assumption) ?_
    try simp only [Act.put, List.getElem_toArray, List.getElem_cons_zero, List.getElem_cons_succ, List.setIfInBounds_toArray, List.set_cons_zero, List.set_cons_succ]
    refine wpAnyH_ready (rs := [2]) (by kernel_rfl) (by simp) ?_
    refine AllReadyH.cons rfl (fun K hK => ?_) (AllReadyH.nil)
    go_simp
    refine (rinstance_any p x us _ 1 _ hS.prog.dat hS.dat).mono ?_
    rintro e V1 ⟨rfl, hb1⟩
    rw [HQ.out]
    have SS := hS.later hb1
    clear hS hb1
    refine hK.out _ _ SS (fun hS => ?_)
    clear hK K SS
    try simp only [Act.put, List.getElem_toArray, List.getElem_cons_zero, List.getElem_cons_succ, List.setIfInBounds_toArray, List.set_cons_zero, List.set_cons_succ]
    refine wpAnyH_take (i := 3) (v := ?_) rfl (by kernel_rfl) (by kernel_rfl) (by kernel_rfl) (fun _ _ _ h => h) (Or.inl ⟨by rfl, ?_⟩) (by assumption) ?_
    rotate_left
    · (intro V hV; go_simp; try with_reducible rfl)
    try simp only [Act.put, List.getElem_toArray, List.getElem_cons_zero, List.getElem_cons_succ, List.setIfInBounds_toArray, List.set_cons_zero, List.set_cons_succ]
    refine wpAnyH_take (i := 4) (v := ?_) rfl (by kernel_rfl) (by kernel_rfl) (by kernel_rfl) (fun _ _ _ h => h) (Or.inl ⟨by rfl, ?_⟩) (by assumption) ?_
    rotate_left
    · (intro V hV; go_simp; try with_reducible rfl)
    try simp only [Act.put, List.getElem_toArray, List.getElem_cons_zero, List.getElem_cons_succ, List.setIfInBounds_toArray, List.set_cons_zero, List.set_cons_succ]
    refine wpAnyH_take (i := 5) (v := undef) rfl (by kernel_rfl) (by kernel_rfl) (by kernel_rfl) (fun _ _ _ h => h) (Or.inr ⟨by rfl, rfl⟩) (by assumption) ?_
    try simp only [Act.put, List.getElem_toArray, List.getElem_cons_zero, List.getElem_cons_succ, List.setIfInBounds_toArray, List.set_cons_zero, List.set_cons_succ]
    refine wpAnyH_take (i := 6) (v := undef) rfl (by kernel_rfl) (by kernel_rfl) (by kernel_rfl) (fun _ _ _ h => h) (Or.inr ⟨by rfl, rfl⟩) (by assumption) ?_
    try simp only [Act.put, List.getElem_toArray, List.getElem_cons_zero, List.getElem_cons_succ, List.setIfInBounds_toArray, List.set_cons_zero, List.set_cons_succ]
    refine wpAnyH_take (i := 7) (v := ?_) rfl (by kernel_rfl) (by kernel_rfl) (by kernel_rfl) (fun _ _ _ h => h) (Or.inl ⟨by rfl, ?_⟩) (by assumption) ?_
    rotate_left
    · (intro V hV; go_simp; try with_reducible rfl)
    try simp only [Act.put, List.getElem_toArray, List.getElem_cons_zero, List.getElem_cons_succ, List.setIfInBounds_toArray, List.set_cons_zero, List.set_cons_succ]
    refine wpAnyH_take (i := 8) (v := ?_) rfl (by kernel_rfl) (by kernel_rfl) (by kernel_rfl) (fun _ _ _ h => h) (Or.inl ⟨by rfl, ?_⟩) (by assumption) ?_
    rotate_left
    · (intro V hV; go_simp; try with_reducible rfl)
    try simp only [Act.put, List.getElem_toArray, List.getElem_cons_zero, List.getElem_cons_succ, List.setIfInBounds_toArray, List.set_cons_zero, List.set_cons_succ]
    refine wpAnyH_take (i := 9) (v := undef) rfl (by kernel_rfl) (by kernel_rfl) (by kernel_rfl) (fun _ _ _ h => h) (Or.inr ⟨by rfl, rfl⟩) (by assumption) ?_
    try simp only [Act.put, List.getElem_toArray, List.getElem_cons_zero, List.getElem_cons_succ, List.setIfInBounds_toArray, List.set_cons_zero, List.set_cons_succ]
    refine wpAnyH_take (i := 10) (v := undef) rfl (by kernel_rfl) (by kernel_rfl) (by kernel_rfl) (fun _ _ _ h => h) (Or.inr ⟨by rfl, rfl⟩) (by assumption) ?_
    try simp only [Act.put, List.getElem_toArray, List.getElem_cons_zero, List.getElem_cons_succ, List.setIfInBounds_toArray, List.set_cons_zero, List.set_cons_succ]
    refine wpAnyH_take (i := 11) (v := undef) rfl (by kernel_rfl) (by kernel_rfl) (by kernel_rfl) (fun _ _ _ h => h) (Or.inr ⟨by rfl, rfl⟩) (by assumption) ?_
    try simp only [Act.put, List.getElem_toArray, List.getElem_cons_zero, List.getElem_cons_succ, List.setIfInBounds_toArray, List.set_cons_zero, List.set_cons_succ]
    refine wpAnyH_take (i := 12) (v := undef) rfl (by kernel_rfl) (by kernel_rfl) (by kernel_rfl) (fun _ _ _ h => h) (Or.inr ⟨by rfl, rfl⟩) (by assumption) ?_
    try simp only [Act.put, List.getElem_toArray, List.getElem_cons_zero, List.getElem_cons_succ, List.setIfInBounds_toArray, List.set_cons_zero, List.set_cons_succ]
    refine wpAnyH_take (i := 13) (v := undef) rfl (by kernel_rfl) (by kernel_rfl) (by kernel_rfl) (fun _ _ _ h => h) (Or.inr ⟨by rfl, rfl⟩) (by assumption) ?_
    try simp only [Act.put, List.getElem_toArray, List.getElem_cons_zero, List.getElem_cons_succ, List.setIfInBounds_toArray, List.set_cons_zero, List.set_cons_succ]
    refine wpAnyH_take (i := 14) (v := undef) rfl (by kernel_rfl) (by kernel_rfl) (by kernel_rfl) (fun _ _ _ h => h) (Or.inr ⟨by rfl, rfl⟩) (by assumption) ?_
    try simp only [Act.put, List.getElem_toArray, List.getElem_cons_zero, List.getElem_cons_succ, List.setIfInBounds_toArray, List.set_cons_zero, List.set_cons_succ]
    refine wpAnyH_take (i := 15) (v := undef) rfl (by kernel_rfl) (by kernel_rfl) (by kernel_rfl) (fun _ _ _ h => h) (Or.inr ⟨by rfl, rfl⟩) (by assumption) ?_
    try simp only [Act.put, List.getElem_toArray, List.getElem_cons_zero, List.getElem_cons_succ, List.setIfInBounds_toArray, List.set_cons_zero, List.set_cons_succ]
    refine wpAnyH_take (i := 16) (v := undef) rfl (by kernel_rfl) (by kernel_rfl) (by kernel_rfl) (fun _ _ _ h => h) (Or.inr ⟨by rfl, rfl⟩) (by assumption) ?_
    try simp only [Act.put, List.getElem_toArray, List.getElem_cons_zero, List.getElem_cons_succ, List.setIfInBounds_toArray, List.set_cons_zero, List.set_cons_succ]
    refine wpAnyH_take (i := 17) (v := undef) rfl (by kernel_rfl) (by kernel_rfl) (by kernel_rfl) (fun _ _ _ h => h) (Or.inr ⟨by rfl, rfl⟩) (by assumption) ?_
    try simp only [Act.put, List.getElem_toArray, List.getElem_cons_zero, List.getElem_cons_succ, List.setIfInBounds_toArray, List.set_cons_zero, List.set_cons_succ]
    refine wpAnyH_take (i := 18) (v := undef) rfl (by kernel_rfl) (by kernel_rfl) (by kernel_rfl) (fun _ _ _ h => h) (Or.inr ⟨by rfl, rfl⟩) (by assumption) ?_
    try simp only [Act.put, List.getElem_toArray, List.getElem_cons_zero, List.getElem_cons_succ, List.setIfInBounds_toArray, List.set_cons_zero, List.set_cons_succ]
    refine wpAnyH_take (i := 19) (v := undef) rfl (by kernel_rfl) (by kernel_rfl) (by kernel_rfl) (fun _ _ _ h => h) (Or.inr ⟨by rfl, rfl⟩) (by assumption) ?_
    try simp only [Act.put, List.getElem_toArray, List.getElem_cons_zero, List.getElem_cons_succ, List.setIfInBounds_toArray, List.set_cons_zero, List.set_cons_succ]
    refine wpAnyH_take (i := 20) (v := ?_) rfl (by kernel_rfl) (by kernel_rfl) (by kernel_rfl) (fun _ _ _ h => h) (Or.inl ⟨by rfl, ?_⟩) (by assumption) ?_
    rotate_left
    · (intro V hV; go_simp; try with_reducible rfl)
    try simp only [Act.put, List.getElem_toArray, List.getElem_cons_zero, List.getElem_cons_succ, List.setIfInBounds_toArray, List.set_cons_zero, List.set_cons_succ]
    refine wpAnyH_done (by kernel_rfl) ?_ _
    go_wp2_with fail
    go_ret
    exact ⟨ret_int (by rw [HM.out]; rfl), hS.bel⟩
  · cases hi : idxK p.ds (mtK x.name mn) with
    | none =>
      have HQ := Lib.hid hq
      have HM := Lib.hid (show methodT p.ds x mn = none by unfold methodT; rw [hi]; rfl)
      rw [show idxI none = -1 from rfl]
      clear hq hi hxl
      go_upto_region 2 with fail
      go_wp2_with fail
      refine wp_region_held_drew (S := fun V => PT w V w.heap.size (w.heap.size + 1) p x us [.string x.name, .slice A m c, .int .i64 x.off]) (by kernel_rfl) (HS1.out.later (Below.refl _ _).drew) (fun hS => ?_)
      refine wpAnyH_take (i := 0) (v := .agg (us : List Value).toArray) rfl (by kernel_rfl) (by kernel_rfl) (by kernel_rfl) (fun _ _ _ h => h) (Or.inl ⟨by rfl, fun V hV => loadYieldB flatPg rfl hV.prog.box.at0 HUL.out⟩) (by assumption) ?_
      try simp only [Act.put, List.getElem_toArray, List.getElem_cons_zero, List.setIfInBounds_toArray, List.set_cons_zero, List.set_cons_succ]
      refine wpAnyH_take (i := 1) (v := .agg ([.string x.name, .slice A m c, .int .i64 x.off] : List Value).toArray) rfl (by kernel_rfl) (by kernel_rfl) (by kernel_rfl) (fun _ _ _ h => h) (Or.inl ⟨by rfl, fun V hV => loadYieldB flatTy3 rfl hV.box.at0 rfl⟩) (by assumption) ?_
      try simp only [Act.put, List.getElem_toArray, List.getElem_cons_zero, List.getElem_cons_succ, List.setIfInBounds_toArray, List.set_cons_zero, List.set_cons_succ]
      refine wpAnyH_ready (rs := [2]) (by kernel_rfl) (by simp) ?_
      refine AllReadyH.cons rfl (fun K hK => ?_) (AllReadyH.nil)
      go_simp
      refine (rinstance_any p x us _ 1 _ hS.prog.dat hS.dat).mono ?_
      rintro e V1 ⟨rfl, hb1⟩
      rw [HQ.out]
      have SS := hS.later hb1
      clear hS hb1
      refine hK.out _ _ SS (fun hS => ?_)
      clear hK K SS
      try simp only [Act.put, List.getElem_toArray, List.getElem_cons_zero, List.getElem_cons_succ, List.setIfInBounds_toArray, List.set_cons_zero, List.set_cons_succ]
      refine wpAnyH_take (i := 3) (v := ?_) rfl (by kernel_rfl) (by kernel_rfl) (by kernel_rfl) (fun _ _ _ h => h) (Or.inl ⟨by rfl, ?_⟩) (by assumption) ?_
      rotate_left
      · (intro V hV; go_simp; try with_reducible rfl)
      try simp only [Act.put, List.getElem_toArray, List.getElem_cons_zero, List.getElem_cons_succ, List.setIfInBounds_toArray, List.set_cons_zero, List.set_cons_succ]
      refine wpAnyH_take (i := 4) (v := ?_) rfl (by kernel_rfl) (by kernel_rfl) (by kernel_rfl) (fun _ _ _ h => h) (Or.inl ⟨by rfl, ?_⟩) (by assumption) ?_
      rotate_left
      · (intro V hV; go_simp; try with_reducible rfl)
      try simp only [Act.put, List.getElem_toArray, List.getElem_cons_zero, List.getElem_cons_succ, List.setIfInBounds_toArray, List.set_cons_zero, List.set_cons_succ]
      refine wpAnyH_take (i := 5) (v := ?_) rfl (by kernel_rfl) (by kernel_rfl) (by kernel_rfl) (fun _ _ _ h => h) (Or.inl ⟨by rfl, ?_⟩) (by assumption) ?_
      rotate_left
      · (intro V hV; go_simp; try with_reducible rfl)
      try simp only [Act.put, List.getElem_toArray, List.getElem_cons_zero, List.getElem_cons_succ, List.setIfInBounds_toArray, List.set_cons_zero, List.set_cons_succ]
      refine wpAnyH_take (i := 6) (v := ?_) rfl (by kernel_rfl) (by kernel_rfl) (by kernel_rfl) (fun _ _ _ h => h) (Or.inl ⟨by rfl, ?_⟩) (by assumption) ?_
      rotate_left
      · (intro V hV; go_simp; try with_reducible rfl)
      try simp only [Act.put, List.getElem_toArray, List.getElem_cons_zero, List.getElem_cons_succ, List.setIfInBounds_toArray, List.set_cons_zero, List.set_cons_succ]
      refine wpAnyH_take (i := 7) (v := ?_) rfl (by kernel_rfl) (by kernel_rfl) (by kernel_rfl) (fun _ _ _ h => h) (Or.inl ⟨by rfl, ?_⟩) (by assumption) ?_
      rotate_left
      · (intro V hV; go_simp; try with_reducible rfl)
      try simp only [Act.put, List.getElem_toArray, List.getElem_cons_zero, List.getElem_cons_succ, List.setIfInBounds_toArray, List.set_cons_zero, List.set_cons_succ]
      refine wpAnyH_take (i := 8) (v := ?_) rfl (by kernel_rfl) (by kernel_rfl) (by kernel_rfl) (fun _ _ _ h => h) (Or.inl ⟨by rfl, ?_⟩) (by assumption) ?_
      rotate_left
      · (intro V hV; go_simp; try with_reducible rfl)
      try simp only [Act.put, List.getElem_toArray, List.getElem_cons_zero, List.getElem_cons_succ, List.setIfInBounds_toArray, List.set_cons_zero, List.set_cons_succ]
      refine wpAnyH_take (i := 9) (v := undef) rfl (by kernel_rfl) (by kernel_rfl) (by kernel_rfl) (fun _ _ _ h => h) (Or.inr ⟨by rfl, rfl⟩) (by assumption) ?_
      try simp only [Act.put, List.getElem_toArray, List.getElem_cons_zero, List.getElem_cons_succ, List.setIfInBounds_toArray, List.set_cons_zero, List.set_cons_succ]
      refine wpAnyH_take (i := 10) (v := undef) rfl (by kernel_rfl) (by kernel_rfl) (by kernel_rfl) (fun _ _ _ h => h) (Or.inr ⟨by rfl, rfl⟩) (by assumption) ?_
      try simp only [Act.put, List.getElem_toArray, List.getElem_cons_zero, List.getElem_cons_succ, List.setIfInBounds_toArray, List.set_cons_zero, List.set_cons_succ]
      refine wpAnyH_take (i := 11) (v := undef) rfl (by kernel_rfl) (by kernel_rfl) (by kernel_rfl) (fun _ _ _ h => h) (Or.inr ⟨by rfl, rfl⟩) (by assumption) ?_
      try simp only [Act.put, List.getElem_toArray, List.getElem_cons_zero, List.getElem_cons_succ, List.setIfInBounds_toArray, List.set_cons_zero, List.set_cons_succ]
      refine wpAnyH_take (i := 12) (v := undef) rfl (by kernel_rfl) (by kernel_rfl) (by kernel_rfl) (fun _ _ _ h => h) (Or.inr ⟨by rfl, rfl⟩) (by assumption) ?_
      try simp only [Act.put, List.getElem_toArray, List.getElem_cons_zero, List.getElem_cons_succ, List.setIfInBounds_toArray, List.set_cons_zero, List.set_cons_succ]
      refine wpAnyH_take (i := 13) (v := undef) rfl (by kernel_rfl) (by kernel_rfl) (by kernel_rfl) (fun _ _ _ h => h) (Or.inr ⟨by rfl, rfl⟩) (by assumption) ?_
      try simp only [Act.put, List.getElem_toArray, List.getElem_cons_zero, List.getElem_cons_succ, List.setIfInBounds_toArray, List.set_cons_zero, List.set_cons_succ]
      refine wpAnyH_take (i := 14) (v := undef) rfl (by kernel_rfl) (by kernel_rfl) (by kernel_rfl) (fun _ _ _ h => h) (Or.inr ⟨by rfl, rfl⟩) (by assumption) ?_
      try simp only [Act.put, List.getElem_toArray, List.getElem_cons_zero, List.getElem_cons_succ, List.setIfInBounds_toArray, List.set_cons_zero, List.set_cons_succ]
      refine wpAnyH_take (i := 15) (v := undef) rfl (by kernel_rfl) (by kernel_rfl) (by kernel_rfl) (fun _ _ _ h => h) (Or.inr ⟨by rfl, rfl⟩) (by assumption) ?_
      try simp only [Act.put, List.getElem_toArray, List.getElem_cons_zero, List.getElem_cons_succ, List.setIfInBounds_toArray, List.set_cons_zero, List.set_cons_succ]
      refine wpAnyH_take (i := 16) (v := undef) rfl (by kernel_rfl) (by kernel_rfl) (by kernel_rfl) (fun _ _ _ h => h) (Or.inr ⟨by rfl, rfl⟩) (by assumption) ?_
      try simp only [Act.put, List.getElem_toArray, List.getElem_cons_zero, List.getElem_cons_succ, List.setIfInBounds_toArray, List.set_cons_zero, List.set_cons_succ]
      refine wpAnyH_take (i := 17) (v := undef) rfl (by kernel_rfl) (by kernel_rfl) (by kernel_rfl) (fun _ _ _ h => h) (Or.inr ⟨by rfl, rfl⟩) (by assumption) ?_
      try simp only [Act.put, List.getElem_toArray, List.getElem_cons_zero, List.getElem_cons_succ, List.setIfInBounds_toArray, List.set_cons_zero, List.set_cons_succ]
      refine wpAnyH_take (i := 18) (v := undef) rfl (by kernel_rfl) (by kernel_rfl) (by kernel_rfl) (fun _ _ _ h => h) (Or.inr ⟨by rfl, rfl⟩) (by assumption) ?_
      try simp only [Act.put, List.getElem_toArray, List.getElem_cons_zero, List.getElem_cons_succ, List.setIfInBounds_toArray, List.set_cons_zero, List.set_cons_succ]
      refine wpAnyH_take (i := 19) (v := undef) rfl (by kernel_rfl) (by kernel_rfl) (by kernel_rfl) (fun _ _ _ h => h) (Or.inr ⟨by rfl, rfl⟩) (by assumption) ?_
      try simp only [Act.put, List.getElem_toArray, List.getElem_cons_zero, List.getElem_cons_succ, List.setIfInBounds_toArray, List.set_cons_zero, List.set_cons_succ]
      refine wpAnyH_take (i := 20) (v := ?_) rfl (by kernel_rfl) (by kernel_rfl) (by kernel_rfl) (fun _ _ _ h => h) (Or.inl ⟨by rfl, ?_⟩) (by assumption) ?_
      rotate_left
      · (intro V hV; go_simp; try with_reducible rfl)
      try simp only [Act.put, List.getElem_toArray, List.getElem_cons_zero, List.getElem_cons_succ, List.setIfInBounds_toArray, List.set_cons_zero, List.set_cons_succ]
      refine wpAnyH_done (by kernel_rfl) ?_ _
      go_wp2_with fail
      go_ret
      exact ⟨ret_int (by rw [HM.out]; rfl), hS.bel⟩
    | some i =>
      rw [show idxI (some i) = (i : Int) from rfl]
      have HQ := Lib.hid hq
      obtain ⟨d, hd, _⟩ := idx_some hi
      have hil := idx_lt hi
      obtain ⟨D, nd, cd, u0, hr, hln⟩ := HS1.out.prog.decls
      have HU0 := Lib.hid u0
      have y0 : (0 : Int) ≤ i := by omega
      have y1 : (i : Int) < nd := by omega
      have y2 : decide ((i : Int) < 0) = false := decide_eq_false (by omega)
      obtain ⟨pu, d9, ps, rfl, hd9, _, _, hu, hcs⟩ := dat_at hr (show i < nd by omega)
      obtain rfl : d = d9 := Option.some.inj (hd.symm.trans hd9)
      obtain ⟨_, _, _, _, _, _, _, _, _, _, _, _, _, _, V2, nv, cv2, _, _, _, u6, _, _, _, hv⟩ := dc_c hu
      have hnv := hv.len
      rw [List.length_map] at hnv
      have HC6 := Lib.hid (at_off hcs u6 (by omega))
      have HM0 := Lib.hid (show methodT p.ds x mn = if ((nv : Int) == (m : Int)) then some i else none by
        unfold methodT
        rw [hi, Option.bind_some, hq, hd, Option.getD_some, hnv, hxl, Bool.true_and]
        by_cases h : nv = m
        · subst h; simp
        · rw [beq_eq_false_iff_ne.2 h, beq_eq_false_iff_ne.2 (show (nv : Int) ≠ (m : Int) by omega)])
      clear hq hi hxl hd hd9 hu hcs u6 hv hil u0 hr hln hnv
      cases e3 : ((nv : Int) == (m : Int))
      · have HM := Lib.hid (show methodT p.ds x mn = none by rw [HM0.out, e3]; rfl)
        have e4 : ((nv : Int) != (m : Int)) = true := by rw [bne, e3]; rfl
        go_upto_region 2 with fail
        go_wp2_with fail
        refine wp_region_held_drew (S := fun V => PT w V w.heap.size (w.heap.size + 1) p x us [.string x.name, .slice A m c, .int .i64 x.off] ∧ V.cell? ⟨(pu.add (i * 23)).block, (pu.add (i * 23)).off + 6, none⟩ = some (.slice V2 nv cv2)) (by kernel_rfl) ⟨HS1.out.later (Below.refl _ _).drew, ((Below.refl w1.heap.size w1).drew.cell (cell_lt HC6.out)).trans HC6.out⟩ (fun hS => ?_)
        refine wpAnyH_take (i := 0) (v := .agg (us : List Value).toArray) rfl (by kernel_rfl) (by kernel_rfl) (by kernel_rfl) (fun _ _ _ h => h) (Or.inl ⟨by rfl, fun V hV => loadYieldB flatPg rfl hV.1.prog.box.at0 HUL.out⟩) (by assumption) ?_
        try simp only [Act.put, List.getElem_toArray, List.getElem_cons_zero, List.setIfInBounds_toArray, List.set_cons_zero, List.set_cons_succ]
        refine wpAnyH_take (i := 1) (v := .agg ([.string x.name, .slice A m c, .int .i64 x.off] : List Value).toArray) rfl (by kernel_rfl) (by kernel_rfl) (by kernel_rfl) (fun _ _ _ h => h) (Or.inl ⟨by rfl, fun V hV => loadYieldB flatTy3 rfl hV.1.box.at0 rfl⟩) (by assumption) ?_
        try simp only [Act.put, List.getElem_toArray, List.getElem_cons_zero, List.getElem_cons_succ, List.setIfInBounds_toArray, List.set_cons_zero, List.set_cons_succ]
        refine wpAnyH_ready (rs := [2]) (by kernel_rfl) (by simp) ?_
        refine AllReadyH.cons rfl (fun K hK => ?_) (AllReadyH.nil)
        go_simp
        refine (rinstance_any p x us _ 1 _ hS.1.prog.dat hS.1.dat).mono ?_
        rintro e V1 ⟨rfl, hb1⟩
        rw [HQ.out]
        have SS := And.intro (hS.1.later hb1) ((hb1.cell (cell_lt hS.2)).trans hS.2)
        clear hS hb1
        refine hK.out _ _ SS (fun hS => ?_)
        clear hK K SS
        try simp only [Act.put, List.getElem_toArray, List.getElem_cons_zero, List.getElem_cons_succ, List.setIfInBounds_toArray, List.set_cons_zero, List.set_cons_succ]
        refine wpAnyH_take (i := 3) (v := ?_) rfl (by kernel_rfl) (by kernel_rfl) (by kernel_rfl) (fun _ _ _ h => h) (Or.inl ⟨by rfl, ?_⟩) (by assumption) ?_
        rotate_left
        · (intro V hV; go_simp; try with_reducible rfl)
        try simp only [Act.put, List.getElem_toArray, List.getElem_cons_zero, List.getElem_cons_succ, List.setIfInBounds_toArray, List.set_cons_zero, List.set_cons_succ]
        refine wpAnyH_take (i := 4) (v := ?_) rfl (by kernel_rfl) (by kernel_rfl) (by kernel_rfl) (fun _ _ _ h => h) (Or.inl ⟨by rfl, ?_⟩) (by assumption) ?_
        rotate_left
        · (intro V hV; go_simp; try with_reducible rfl)
        try simp only [Act.put, List.getElem_toArray, List.getElem_cons_zero, List.getElem_cons_succ, List.setIfInBounds_toArray, List.set_cons_zero, List.set_cons_succ]
        refine wpAnyH_take (i := 5) (v := ?_) rfl (by kernel_rfl) (by kernel_rfl) (by kernel_rfl) (fun _ _ _ h => h) (Or.inl ⟨by rfl, ?_⟩) (by assumption) ?_
        rotate_left
        · (intro V hV; go_simp; try with_reducible rfl)
        try simp only [Act.put, List.getElem_toArray, List.getElem_cons_zero, List.getElem_cons_succ, List.setIfInBounds_toArray, List.set_cons_zero, List.set_cons_succ]
        refine wpAnyH_take (i := 6) (v := ?_) rfl (by kernel_rfl) (by kernel_rfl) (by kernel_rfl) (fun _ _ _ h => h) (Or.inl ⟨by rfl, ?_⟩) (by assumption) ?_
        rotate_left
        · (intro V hV; go_simp; try with_reducible rfl)
        try simp only [Act.put, List.getElem_toArray, List.getElem_cons_zero, List.getElem_cons_succ, List.setIfInBounds_toArray, List.set_cons_zero, List.set_cons_succ]
        refine wpAnyH_take (i := 7) (v := ?_) rfl (by kernel_rfl) (by kernel_rfl) (by kernel_rfl) (fun _ _ _ h => h) (Or.inl ⟨by rfl, ?_⟩) (by assumption) ?_
        rotate_left
        · (intro V hV; go_simp; try with_reducible rfl)
        try simp only [Act.put, List.getElem_toArray, List.getElem_cons_zero, List.getElem_cons_succ, List.setIfInBounds_toArray, List.set_cons_zero, List.set_cons_succ]
        refine wpAnyH_take (i := 8) (v := ?_) rfl (by kernel_rfl) (by kernel_rfl) (by kernel_rfl) (fun _ _ _ h => h) (Or.inl ⟨by rfl, ?_⟩) (by assumption) ?_
        rotate_left
        · (intro V hV; go_simp; try with_reducible rfl)
        try simp only [Act.put, List.getElem_toArray, List.getElem_cons_zero, List.getElem_cons_succ, List.setIfInBounds_toArray, List.set_cons_zero, List.set_cons_succ]
        refine wpAnyH_take (i := 9) (v := ?_) rfl (by kernel_rfl) (by kernel_rfl) (by kernel_rfl) (fun _ _ _ h => h) (Or.inl ⟨by rfl, ?_⟩) (by assumption) ?_
        rotate_left
        · (intro V hV; go_simp; try with_reducible rfl)
        try simp only [Act.put, List.getElem_toArray, List.getElem_cons_zero, List.getElem_cons_succ, List.setIfInBounds_toArray, List.set_cons_zero, List.set_cons_succ]
        refine wpAnyH_take (i := 10) (v := ?_) rfl (by kernel_rfl) (by kernel_rfl) (by kernel_rfl) (fun _ _ _ h => h) (Or.inl ⟨by rfl, ?_⟩) (by assumption) ?_
        rotate_left
        · (intro V hV; have k0 := hV.1.prog.box 0 _ HU0.out; go_simp; try with_reducible rfl)
        try simp only [Act.put, List.getElem_toArray, List.getElem_cons_zero, List.getElem_cons_succ, List.setIfInBounds_toArray, List.set_cons_zero, List.set_cons_succ]
        refine wpAnyH_take (i := 11) (v := ?_) rfl (by kernel_rfl) (by kernel_rfl) (by kernel_rfl) (fun _ _ _ h => h) (Or.inl ⟨by rfl, ?_⟩) (by assumption) ?_
        rotate_left
        · (intro V hV; go_simp; try with_reducible rfl)
        try simp only [Act.put, List.getElem_toArray, List.getElem_cons_zero, List.getElem_cons_succ, List.setIfInBounds_toArray, List.set_cons_zero, List.set_cons_succ]
        refine wpAnyH_take (i := 12) (v := ?_) rfl (by kernel_rfl) (by kernel_rfl) (by kernel_rfl) (fun _ _ _ h => h) (Or.inl ⟨by rfl, ?_⟩) (by assumption) ?_
        rotate_left
        · (intro V hV; go_simp; try with_reducible rfl)
        try simp only [Act.put, List.getElem_toArray, List.getElem_cons_zero, List.getElem_cons_succ, List.setIfInBounds_toArray, List.set_cons_zero, List.set_cons_succ]
        refine wpAnyH_take (i := 13) (v := ?_) rfl (by kernel_rfl) (by kernel_rfl) (by kernel_rfl) (fun _ _ _ h => h) (Or.inl ⟨by rfl, ?_⟩) (by assumption) ?_
        rotate_left
        · (intro V hV; go_simp; try with_reducible rfl)
        try simp only [Act.put, List.getElem_toArray, List.getElem_cons_zero, List.getElem_cons_succ, List.setIfInBounds_toArray, List.set_cons_zero, List.set_cons_succ]
        refine wpAnyH_take (i := 14) (v := ?_) rfl (by kernel_rfl) (by kernel_rfl) (by kernel_rfl) (fun _ _ _ h => h) (Or.inl ⟨by rfl, ?_⟩) (by assumption) ?_
        rotate_left
        · (intro V hV; have k0 := hV.2; go_simp; try with_reducible rfl)
        try simp only [Act.put, List.getElem_toArray, List.getElem_cons_zero, List.getElem_cons_succ, List.setIfInBounds_toArray, List.set_cons_zero, List.set_cons_succ]
        refine wpAnyH_take (i := 15) (v := ?_) rfl (by kernel_rfl) (by kernel_rfl) (by kernel_rfl) (fun _ _ _ h => h) (Or.inl ⟨by rfl, ?_⟩) (by assumption) ?_
        rotate_left
        · (intro V hV; go_simp; try with_reducible rfl)
        try simp only [Act.put, List.getElem_toArray, List.getElem_cons_zero, List.getElem_cons_succ, List.setIfInBounds_toArray, List.set_cons_zero, List.set_cons_succ]
        refine wpAnyH_take (i := 16) (v := ?_) rfl (by kernel_rfl) (by kernel_rfl) (by kernel_rfl) (fun _ _ _ h => h) (Or.inl ⟨by rfl, ?_⟩) (by assumption) ?_
        rotate_left
        · (intro V hV; go_simp; try with_reducible rfl)
        try simp only [Act.put, List.getElem_toArray, List.getElem_cons_zero, List.getElem_cons_succ, List.setIfInBounds_toArray, List.set_cons_zero, List.set_cons_succ]
        refine wpAnyH_take (i := 17) (v := ?_) rfl (by kernel_rfl) (by kernel_rfl) (by kernel_rfl) (fun _ _ _ h => h) (Or.inl ⟨by rfl, ?_⟩) (by assumption) ?_
        rotate_left
        · (intro V hV; have k0 := hV.1.box 1 _ rfl; go_simp; try with_reducible rfl)
        try simp only [Act.put, List.getElem_toArray, List.getElem_cons_zero, List.getElem_cons_succ, List.setIfInBounds_toArray, List.set_cons_zero, List.set_cons_succ]
        refine wpAnyH_take (i := 18) (v := ?_) rfl (by kernel_rfl) (by kernel_rfl) (by kernel_rfl) (fun _ _ _ h => h) (Or.inl ⟨by rfl, ?_⟩) (by assumption) ?_
        rotate_left
        · (intro V hV; go_simp; try with_reducible rfl)
        try simp only [Act.put, List.getElem_toArray, List.getElem_cons_zero, List.getElem_cons_succ, List.setIfInBounds_toArray, List.set_cons_zero, List.set_cons_succ]
        refine wpAnyH_take (i := 19) (v := ?_) rfl (by kernel_rfl) (by kernel_rfl) (by kernel_rfl) (fun _ _ _ h => h) (Or.inl ⟨by rfl, ?_⟩) (by assumption) ?_
        rotate_left
        · (intro V hV; go_simp; try with_reducible rfl)
        try simp only [Act.put, List.getElem_toArray, List.getElem_cons_zero, List.getElem_cons_succ, List.setIfInBounds_toArray, List.set_cons_zero, List.set_cons_succ]
        refine wpAnyH_take (i := 20) (v := ?_) rfl (by kernel_rfl) (by kernel_rfl) (by kernel_rfl) (fun _ _ _ h => h) (Or.inl ⟨by rfl, ?_⟩) (by assumption) ?_
        rotate_left
        · (intro V hV; go_simp; try with_reducible rfl)
        try simp only [Act.put, List.getElem_toArray, List.getElem_cons_zero, List.getElem_cons_succ, List.setIfInBounds_toArray, List.set_cons_zero, List.set_cons_succ]
        refine wpAnyH_done (by kernel_rfl) ?_ _
        go_wp2_with fail
        go_ret
        exact ⟨ret_int (by rw [HM.out]; rfl), hS.1.bel⟩
      · have HM := Lib.hid (show methodT p.ds x mn = some i by rw [HM0.out, e3]; rfl)
        have e4 : ((nv : Int) != (m : Int)) = false := by rw [bne, e3]; rfl
        go_upto_region 2 with fail
        go_wp2_with fail
        refine wp_region_held_drew (S := fun V => PT w V w.heap.size (w.heap.size + 1) p x us [.string x.name, .slice A m c, .int .i64 x.off] ∧ V.cell? ⟨(pu.add (i * 23)).block, (pu.add (i * 23)).off + 6, none⟩ = some (.slice V2 nv cv2)) (by kernel_rfl) ⟨HS1.out.later (Below.refl _ _).drew, ((Below.refl w1.heap.size w1).drew.cell (cell_lt HC6.out)).trans HC6.out⟩ (fun hS => ?_)
        refine wpAnyH_take (i := 0) (v := .agg (us : List Value).toArray) rfl (by kernel_rfl) (by kernel_rfl) (by kernel_rfl) (fun _ _ _ h => h) (Or.inl ⟨by rfl, fun V hV => loadYieldB flatPg rfl hV.1.prog.box.at0 HUL.out⟩) (by assumption) ?_
        try simp only [Act.put, List.getElem_toArray, List.getElem_cons_zero, List.setIfInBounds_toArray, List.set_cons_zero, List.set_cons_succ]
        refine wpAnyH_take (i := 1) (v := .agg ([.string x.name, .slice A m c, .int .i64 x.off] : List Value).toArray) rfl (by kernel_rfl) (by kernel_rfl) (by kernel_rfl) (fun _ _ _ h => h) (Or.inl ⟨by rfl, fun V hV => loadYieldB flatTy3 rfl hV.1.box.at0 rfl⟩) (by assumption) ?_
        try simp only [Act.put, List.getElem_toArray, List.getElem_cons_zero, List.getElem_cons_succ, List.setIfInBounds_toArray, List.set_cons_zero, List.set_cons_succ]
        refine wpAnyH_ready (rs := [2]) (by kernel_rfl) (by simp) ?_
        refine AllReadyH.cons rfl (fun K hK => ?_) (AllReadyH.nil)
        go_simp
        refine (rinstance_any p x us _ 1 _ hS.1.prog.dat hS.1.dat).mono ?_
        rintro e V1 ⟨rfl, hb1⟩
        rw [HQ.out]
        have SS := And.intro (hS.1.later hb1) ((hb1.cell (cell_lt hS.2)).trans hS.2)
        clear hS hb1
        refine hK.out _ _ SS (fun hS => ?_)
        clear hK K SS
        try simp only [Act.put, List.getElem_toArray, List.getElem_cons_zero, List.getElem_cons_succ, List.setIfInBounds_toArray, List.set_cons_zero, List.set_cons_succ]
        refine wpAnyH_take (i := 3) (v := ?_) rfl (by kernel_rfl) (by kernel_rfl) (by kernel_rfl) (fun _ _ _ h => h) (Or.inl ⟨by rfl, ?_⟩) (by assumption) ?_
        rotate_left
        · (intro V hV; go_simp; try with_reducible rfl)
        try simp only [Act.put, List.getElem_toArray, List.getElem_cons_zero, List.getElem_cons_succ, List.setIfInBounds_toArray, List.set_cons_zero, List.set_cons_succ]
        refine wpAnyH_take (i := 4) (v := ?_) rfl (by kernel_rfl) (by kernel_rfl) (by kernel_rfl) (fun _ _ _ h => h) (Or.inl ⟨by rfl, ?_⟩) (by assumption) ?_
        rotate_left
        · (intro V hV; go_simp; try with_reducible rfl)
        try simp only [Act.put, List.getElem_toArray, List.getElem_cons_zero, List.getElem_cons_succ, List.setIfInBounds_toArray, List.set_cons_zero, List.set_cons_succ]
        refine wpAnyH_take (i := 5) (v := ?_) rfl (by kernel_rfl) (by kernel_rfl) (by kernel_rfl) (fun _ _ _ h => h) (Or.inl ⟨by rfl, ?_⟩) (by assumption) ?_
        rotate_left
        · (intro V hV; go_simp; try with_reducible rfl)
        try simp only [Act.put, List.getElem_toArray, List.getElem_cons_zero, List.getElem_cons_succ, List.setIfInBounds_toArray, List.set_cons_zero, List.set_cons_succ]
        refine wpAnyH_take (i := 6) (v := ?_) rfl (by kernel_rfl) (by kernel_rfl) (by kernel_rfl) (fun _ _ _ h => h) (Or.inl ⟨by rfl, ?_⟩) (by assumption) ?_
        rotate_left
        · (intro V hV; go_simp; try with_reducible rfl)
        try simp only [Act.put, List.getElem_toArray, List.getElem_cons_zero, List.getElem_cons_succ, List.setIfInBounds_toArray, List.set_cons_zero, List.set_cons_succ]
        refine wpAnyH_take (i := 7) (v := ?_) rfl (by kernel_rfl) (by kernel_rfl) (by kernel_rfl) (fun _ _ _ h => h) (Or.inl ⟨by rfl, ?_⟩) (by assumption) ?_
        rotate_left
        · (intro V hV; go_simp; try with_reducible rfl)
        try simp only [Act.put, List.getElem_toArray, List.getElem_cons_zero, List.getElem_cons_succ, List.setIfInBounds_toArray, List.set_cons_zero, List.set_cons_succ]
        refine wpAnyH_take (i := 8) (v := ?_) rfl (by kernel_rfl) (by kernel_rfl) (by kernel_rfl) (fun _ _ _ h => h) (Or.inl ⟨by rfl, ?_⟩) (by assumption) ?_
        rotate_left
        · (intro V hV; go_simp; try with_reducible rfl)
        try simp only [Act.put, List.getElem_toArray, List.getElem_cons_zero, List.getElem_cons_succ, List.setIfInBounds_toArray, List.set_cons_zero, List.set_cons_succ]
        refine wpAnyH_take (i := 9) (v := ?_) rfl (by kernel_rfl) (by kernel_rfl) (by kernel_rfl) (fun _ _ _ h => h) (Or.inl ⟨by rfl, ?_⟩) (by assumption) ?_
        rotate_left
        · (intro V hV; go_simp; try with_reducible rfl)
        try simp only [Act.put, List.getElem_toArray, List.getElem_cons_zero, List.getElem_cons_succ, List.setIfInBounds_toArray, List.set_cons_zero, List.set_cons_succ]
        refine wpAnyH_take (i := 10) (v := ?_) rfl (by kernel_rfl) (by kernel_rfl) (by kernel_rfl) (fun _ _ _ h => h) (Or.inl ⟨by rfl, ?_⟩) (by assumption) ?_
        rotate_left
        · (intro V hV; have k0 := hV.1.prog.box 0 _ HU0.out; go_simp; try with_reducible rfl)
        try simp only [Act.put, List.getElem_toArray, List.getElem_cons_zero, List.getElem_cons_succ, List.setIfInBounds_toArray, List.set_cons_zero, List.set_cons_succ]
        refine wpAnyH_take (i := 11) (v := ?_) rfl (by kernel_rfl) (by kernel_rfl) (by kernel_rfl) (fun _ _ _ h => h) (Or.inl ⟨by rfl, ?_⟩) (by assumption) ?_
        rotate_left
        · (intro V hV; go_simp; try with_reducible rfl)
        try simp only [Act.put, List.getElem_toArray, List.getElem_cons_zero, List.getElem_cons_succ, List.setIfInBounds_toArray, List.set_cons_zero, List.set_cons_succ]
        refine wpAnyH_take (i := 12) (v := ?_) rfl (by kernel_rfl) (by kernel_rfl) (by kernel_rfl) (fun _ _ _ h => h) (Or.inl ⟨by rfl, ?_⟩) (by assumption) ?_
        rotate_left
        · (intro V hV; go_simp; try with_reducible rfl)
        try simp only [Act.put, List.getElem_toArray, List.getElem_cons_zero, List.getElem_cons_succ, List.setIfInBounds_toArray, List.set_cons_zero, List.set_cons_succ]
        refine wpAnyH_take (i := 13) (v := ?_) rfl (by kernel_rfl) (by kernel_rfl) (by kernel_rfl) (fun _ _ _ h => h) (Or.inl ⟨by rfl, ?_⟩) (by assumption) ?_
        rotate_left
        · (intro V hV; go_simp; try with_reducible rfl)
        try simp only [Act.put, List.getElem_toArray, List.getElem_cons_zero, List.getElem_cons_succ, List.setIfInBounds_toArray, List.set_cons_zero, List.set_cons_succ]
        refine wpAnyH_take (i := 14) (v := ?_) rfl (by kernel_rfl) (by kernel_rfl) (by kernel_rfl) (fun _ _ _ h => h) (Or.inl ⟨by rfl, ?_⟩) (by assumption) ?_
        rotate_left
        · (intro V hV; have k0 := hV.2; go_simp; try with_reducible rfl)
        try simp only [Act.put, List.getElem_toArray, List.getElem_cons_zero, List.getElem_cons_succ, List.setIfInBounds_toArray, List.set_cons_zero, List.set_cons_succ]
        refine wpAnyH_take (i := 15) (v := ?_) rfl (by kernel_rfl) (by kernel_rfl) (by kernel_rfl) (fun _ _ _ h => h) (Or.inl ⟨by rfl, ?_⟩) (by assumption) ?_
        rotate_left
        · (intro V hV; go_simp; try with_reducible rfl)
        try simp only [Act.put, List.getElem_toArray, List.getElem_cons_zero, List.getElem_cons_succ, List.setIfInBounds_toArray, List.set_cons_zero, List.set_cons_succ]
        refine wpAnyH_take (i := 16) (v := ?_) rfl (by kernel_rfl) (by kernel_rfl) (by kernel_rfl) (fun _ _ _ h => h) (Or.inl ⟨by rfl, ?_⟩) (by assumption) ?_
        rotate_left
        · (intro V hV; go_simp; try with_reducible rfl)
        try simp only [Act.put, List.getElem_toArray, List.getElem_cons_zero, List.getElem_cons_succ, List.setIfInBounds_toArray, List.set_cons_zero, List.set_cons_succ]
        refine wpAnyH_take (i := 17) (v := ?_) rfl (by kernel_rfl) (by kernel_rfl) (by kernel_rfl) (fun _ _ _ h => h) (Or.inl ⟨by rfl, ?_⟩) (by assumption) ?_
        rotate_left
        · (intro V hV; have k0 := hV.1.box 1 _ rfl; go_simp; try with_reducible rfl)
        try simp only [Act.put, List.getElem_toArray, List.getElem_cons_zero, List.getElem_cons_succ, List.setIfInBounds_toArray, List.set_cons_zero, List.set_cons_succ]
        refine wpAnyH_take (i := 18) (v := ?_) rfl (by kernel_rfl) (by kernel_rfl) (by kernel_rfl) (fun _ _ _ h => h) (Or.inl ⟨by rfl, ?_⟩) (by assumption) ?_
        rotate_left
        · (intro V hV; go_simp; try with_reducible rfl)
        try simp only [Act.put, List.getElem_toArray, List.getElem_cons_zero, List.getElem_cons_succ, List.setIfInBounds_toArray, List.set_cons_zero, List.set_cons_succ]
        refine wpAnyH_take (i := 19) (v := ?_) rfl (by kernel_rfl) (by kernel_rfl) (by kernel_rfl) (fun _ _ _ h => h) (Or.inl ⟨by rfl, ?_⟩) (by assumption) ?_
        rotate_left
        · (intro V hV; go_simp; try with_reducible rfl)
        try simp only [Act.put, List.getElem_toArray, List.getElem_cons_zero, List.getElem_cons_succ, List.setIfInBounds_toArray, List.set_cons_zero, List.set_cons_succ]
        refine wpAnyH_take (i := 20) (v := ?_) rfl (by kernel_rfl) (by kernel_rfl) (by kernel_rfl) (fun _ _ _ h => h) (Or.inl ⟨by rfl, ?_⟩) (by assumption) ?_
        rotate_left
        · (intro V hV; go_simp; try with_reducible rfl)
        try simp only [Act.put, List.getElem_toArray, List.getElem_cons_zero, List.getElem_cons_succ, List.setIfInBounds_toArray, List.set_cons_zero, List.set_cons_succ]
        refine wpAnyH_done (by kernel_rfl) ?_ _
        go_wp2_with fail
        go_ret
        exact ⟨ret_int (by rw [HM.out]; rfl), hS.1.bel⟩
end Go.Proofs.YtjhlehdjdaphcaaDoor

namespace Go.Proofs.YtjhlehdjdaphcaaDoor
open Go.RowKit

theorem rtsubst_any (t : Ty) (us : List Value) (ns : List ByteArray) (vs : List Ty) (N U : Option Addr) (nl ul nc uc : Nat) (w : World) (hw : t.wt ≤ 1990) (hvs : ∀ v ∈ vs, v.Small) (hnl : nl ≤ 1000000) (h : t.dat.H w us) (hN : Sl w N nl ns) (hU : Here w U ul vs) :
    Calls Tryd.prog 47 #[.agg us.toArray, .slice N nl nc, .slice U ul uc] w (DPost w (t.subst ns vs).dat) := by
  obtain ⟨A, m, c, rfl, hn, hl⟩ := ty_open h
  refine (ref_subst_any ns vs N U nl ul nc uc t A m c w (fun u hu => by have := (hvs u hu).list; omega) hn (by have := Ty.list_wt t; omega) hnl hl hN hU).mono ?_
  rintro e w1 ⟨A1, m1, c1, rfl, hn1, hl1, hb⟩
  exact ⟨_, rfl, ty_shut hn1 hl1, hb⟩
theorem own_consB {W : World} {B n z : Nat} {e : TypeId} {v : Value} {cs : List Value} (h : W.ownsRow B e z v n cs) (hn : 0 < n) : ∃ g cap, v = .slice (some ⟨g, 0, none⟩) n cap := by
  rcases h.2 with ⟨_, h0⟩ | ⟨g, cap, _, rfl, _⟩
  · omega
  · exact ⟨g, cap, rfl⟩
/-- What lies ahead of a loop: a boxed struct of one's own; a row that is built, and its header in it. -/
structure OutB (Y wr : World) (ob : Nat) (e : TypeId) (us : List Value) (v : Value) (k : Nat) (ds : List Dat) : Prop where
  gb : Y.grownBy wr (some ob)
  box : Boxd wr ob us
  thr : wr.there ob 0 7
  row : Built wr False e 5 Y.heap.size v k ds
theorem OutB.below {Y wr : World} {ob k B : Nat} {e : TypeId} {us : List Value} {v : Value} {ds : List Dat} (h : OutB Y wr ob e us v k ds) (hB : B ≤ ob ∧ ob < Y.heap.size) : Below B Y wr :=
  ⟨h.gb.os, h.gb.tape, h.gb.output, h.gb.size, fun i hi => h.gb.block i (by omega) (fun e => by have := Option.some.inj e; omega)⟩
theorem out_step {Y wr w4 w6 : World} {ob k B : Nat} {e T : TypeId} {p r us : List Value} {v v6 : Value} {ds : List Dat} {d : Dat} {cs : List Value} {S : Nat → Prop} (h : OutB Y wr ob e (p ++ v :: r) v k ds) (hB : B ≤ ob ∧ ob < Y.heap.size)
    (h1 : wr.ownsRow Y.heap.size e 5 v k cs) (h2 : Dat.Ins wr False S ds cs) (h3 : ∀ x ∈ ds, x.size = 5) (h4 : ∀ b, S b → Y.heap.size ≤ b ∧ b < wr.heap.size ∧ v.ownBlock ≠ some b) (hb : Below wr.heap.size wr w4) (hd : d.In w4 False (fun b => wr.heap.size ≤ b ∧ b < w4.heap.size) us) (hz : d.size = 5) (hj : (p ++ v :: r).length = 7)
    (hA : Appd (w4.alloc (.cells us.toArray T)) w6 Y.heap.size e 5 k 1 v v6 cs us) :
    OutB Y (w6.setCell ⟨ob, p.length, none⟩ v6) ob e (p ++ v6 :: r) v6 (k + 1) (ds ++ [d]) ∧ w6.cell? ⟨ob, p.length, none⟩ = some v ∧ w6.frozen? ⟨ob, p.length, none⟩ = false := by
  have hgz := h.gb.size
  have hsz := hb.size
  have hz5 : (w4.alloc (.cells us.toArray T)).heap.size = w4.heap.size + 1 := by simp
  have hb5 : Below w4.heap.size w4 (w4.alloc (.cells us.toArray T)) := (Below.refl _ _).alloc (Nat.le_refl _) _
  have hvo : ∀ b, v.ownBlock = some b → Y.heap.size ≤ b ∧ b < wr.heap.size := fun b hv => ⟨own_base h1 b hv, (h1.lt b hv).2⟩
  obtain ⟨gg, cap, rfl⟩ : ∃ gg cap, v6 = .slice (some ⟨gg, 0, none⟩) (k + 1) cap := by
    rcases hA.own.2 with ⟨_, h0⟩ | ⟨g, cap, _, e, _⟩
    · omega
    · exact ⟨g, cap, e⟩
  have hat : v.ownBlock = some gg ∨ gg = w4.heap.size + 1 := by
    rcases hA.at_ with h5 | h5
    · exact .inl (h5 ▸ rfl)
    · rw [hz5] at h5
      exact .inr (Option.some.inj h5)
  have hst := Built.step (N := False) (T := T) (lo := Y.heap.size) (S1 := fun b => wr.heap.size ≤ b ∧ b < w4.heap.size) h1 h2 h3 h4 hb hd (fun b hb1 => ⟨by omega, hb1.2, fun e => by have := (hvo b e).2; omega⟩) hz hA.own hA.grow hat
  have h6 : ∀ b, b < Y.heap.size → w6.heap[b]? = wr.heap[b]? := fun b hbl => by
    rw [hA.grow.block b (by omega) (fun e => by have := (hvo b e.symm).1; omega), hb5.block b (by omega), hb.block b (by omega)]
  have k6 := kept_of (V := wr) (V' := w6) (S := (· < Y.heap.size)) h6
  have c6 : w6.cell? ⟨ob, p.length, none⟩ = some v := (k6 ⟨ob, p.length, none⟩ hB.2).1.trans (h.box p.length v (by simp))
  have hp7 : p.length < 7 := by simp only [List.length_append, List.length_cons] at hj; omega
  have f6 : w6.frozen? ⟨ob, p.length, none⟩ = false := (k6 ⟨ob, p.length, none⟩ hB.2).2.trans (by have := (h.thr p.length hp7).2; rwa [Nat.zero_add] at this)
  have hs6 : wr.heap.size ≤ w6.heap.size := by have := hA.grow.size; omega
  refine ⟨⟨?_, ?_, ?_, ?_⟩, c6, f6⟩
  · refine ⟨hA.grow.os.trans (hb5.os.trans (hb.os.trans h.gb.os)), hA.grow.tape.trans (hb5.tape.trans (hb.tape.trans h.gb.tape)), hA.grow.output.trans (hb5.output.trans (hb.output.trans h.gb.output)), by simp only [World.setCell, Array.size_modify]; omega, fun i hi hne => ?_⟩
    rw [Below.heap_setCell _ _ _ _ (fun e => hne (by rw [e])), h6 i hi]
    exact h.gb.block i hi hne
  · intro j u hu
    by_cases ej : j = p.length
    · subst ej
      have : u = .slice (some ⟨gg, 0, none⟩) (k + 1) cap := by simpa using hu.symm
      subst this
      exact World.cell?_setCell_same _ _ _ c6
    · rw [World.cell?_setCell_other _ _ _ _ (by intro h; injection h with _ h; exact ej h.symm), (k6 ⟨ob, j, none⟩ hB.2).1]
      refine h.box j u ?_
      rw [← hu]
      by_cases hl : j < p.length
      · rw [List.getElem?_append_left hl, List.getElem?_append_left hl]
      · rw [List.getElem?_append_right (by omega), List.getElem?_append_right (by omega)]
        obtain ⟨i, hi⟩ : ∃ i, j - p.length = i + 1 := ⟨j - p.length - 1, by omega⟩
        rw [hi]; simp
  · intro j hj7
    obtain ⟨a1, a2⟩ := h.thr j hj7
    obtain ⟨e1, e2⟩ := k6 ⟨ob, 0 + j, none⟩ hB.2
    refine ⟨?_, (World.frozen?_setCell _ _ _ _).trans (e2.trans a2)⟩
    rw [← e1] at a1
    exact World.isSome_setCells ob [.slice (some ⟨gg, 0, none⟩) (k + 1) cap] p.length w6 ⟨ob, 0 + j, none⟩ a1
  · obtain ⟨cs6, S6, i1, i2, i3, i4⟩ := hst
    exact ⟨cs6, S6, ownsRow_setCell_below i1 hB.2 _, Dat.Ins.keep id (fun p hp => kept_of (S := S6) (fun b hb6 => Below.heap_setCell _ _ _ _ (by have := (i4 b hb6).1; show b ≠ ob; omega)) p hp) (fun _ h => h) _ _ i2, i3, fun b hb6 => ⟨(i4 b hb6).1, by have := (i4 b hb6).2.1; simp only [World.setCell, Array.size_modify]; exact this, (i4 b hb6).2.2⟩⟩
/-- The row, when it is built. -/
theorem Built.rowx {V : World} {e : TypeId} {z lo k : Nat} {v : Value} {ds : List Dat} (h : Built V False e z lo v k ds) (hz : 0 < z) : RowX (fun b => lo ≤ b ∧ b < V.heap.size ∧ v.ownBlock ≠ some b) lo V k z v ds := by
  obtain ⟨cs, S, h1, h2, h3, h4⟩ := h
  have hsz : Dat.sizes ds = ds.length * z := sizes_all h3
  have hlen : ds.length = k := by
    have a1 := Dat.Ins.len ds cs h2
    have a2 := h1.1
    rw [a2, hsz] at a1
    exact (Nat.eq_of_mul_eq_mul_right hz a1).symm
  rcases h1.2 with ⟨rfl, h0⟩ | ⟨g, cap, cur, rfl, _⟩
  · subst h0
    exact .inl ⟨rfl, rfl, List.eq_nil_of_length_eq_zero hlen⟩
  · obtain ⟨a1, a2, a3⟩ := held_of_own h1
    exact .inr ⟨g, cap, cs, rfl, a2, a1, h2.wide h4, hlen, h3, a3⟩
/-- The struct that is returned, its rows not begun. -/
structure OutN (w W Z : World) (ob : Nat) (t : Ty) (us rs : List Value) : Prop where
  bel : Below w.heap.size w Z
  bel2 : Below W.heap.size W Z
  ob2 : w.heap.size + 2 ≤ ob ∧ W.heap.size ≤ ob ∧ ob < Z.heap.size
  box : Boxd Z ob us
  thr : Z.there ob 0 7
  res : t.dat.In Z False (fun b => w.heap.size + 2 ≤ b ∧ b < Z.heap.size ∧ b ≠ ob) rs
  sbx : Z.there (w.heap.size + 1) 0 7
theorem out_new {w W X Z : World} {ob : Nat} {t : Ty} {us rs zs : List Value} (hW : Cl w W zs 7) (hb : Below W.heap.size W Z) (hob : W.heap.size ≤ ob) (ht : X.there ob 0 7) (hZ : Z = X.setCells ob 0 us) (hl : us.length = 7) (hr : t.dat.In Z False (fun b => W.heap.size ≤ b ∧ b < Z.heap.size ∧ b ≠ ob) rs) : OutN w W Z ob t us rs := by
  have hbig := hW.big
  have hbox : Boxd Z ob us := by rw [hZ]; exact set_there (by rw [hl]; exact ht)
  refine ⟨hW.bel.trans (hb.mono hW.bel.size), hb, ⟨by omega, hob, ?_⟩, hbox, by rw [hZ]; exact World.there_setCells ht _ _ _, hr.wide fun b hb => ⟨by omega, hb.2⟩, there_later hW.res hb⟩
  obtain ⟨u, hu⟩ : ∃ u, us[0]? = some u := ⟨_, List.getElem?_eq_getElem (by omega)⟩
  exact cell_lt (hbox 0 u hu)
theorem results_rsubst {w : World} {b : Nat} {us : List Value} (tmps : Array Value) (ht : tmps[6]?.getD undef = .pointer (some ⟨b, 0, none⟩)) (hc : Boxd w b us) (hl : us.length = 7) : (results Tryd.f49 tmps).run Tryd.prog w = .ok (.agg us.toArray) w := by
  have h := run_loadVar_at w ⟨b, 0, none⟩ 50 us _ hc.at0 Tryd.underlying50 rfl (by rw [hl]; exact flatSg.size)
  have h2 : (asAddr (.pointer (some ⟨b, 0, none⟩))).run Tryd.prog w = .ok ⟨b, 0, none⟩ w := rfl
  simp [results, Tryd.results49, ht, h, h2, Sem.run_bind, Result.andThen]
set_option maxRecDepth 100000 in
set_option maxHeartbeats 16000000 in
theorem rsubst_any (s : Sg) (us : List Value) (ns : List ByteArray) (vs : List Ty) (N U : Option Addr) (nl ul nc uc : Nat) (w : World) (hw : s.wt ≤ 1000) (hvs : ∀ v ∈ vs, v.Small) (hnl : nl ≤ 1000000) (h : s.dat.H w us) (hN : Sl w N nl ns) (hU : Here w U ul vs) :
    Calls Tryd.prog 49 #[.agg us.toArray, .slice N nl nc, .slice U ul uc] w (SubW w (s.subst ns vs)) := by
  obtain ⟨F, nf, cf, Q, np, cp, Ar, mr, ar, rfl, _, hf, hp, hrn, hra⟩ := sg_open h
  have hfl := hf.len
  have hpl := hp.len
  rw [List.length_map] at hfl hpl
  have hlf := Sg.len_f s
  have hlp := Sg.len_p s
  have hM := Cl.new w #[.string s.name, .slice F nf cf, .slice Q np cp, .string s.res.name, .slice Ar mr ar, .int .i64 s.res.off, .int .i64 s.off] #[.string ⟨#[]⟩, .slice none 0 0, .slice none 0 0, .string ⟨#[]⟩, .slice none 0 0, .int .i64 0, .int .i64 0] 50
  obtain ⟨W0, hW0⟩ : ∃ W0, (w.alloc (.cells #[.string s.name, .slice F nf cf, .slice Q np cp, .string s.res.name, .slice Ar mr ar, .int .i64 s.res.off, .int .i64 s.off] 50)).alloc (.cells #[.string ⟨#[]⟩, .slice none 0 0, .slice none 0 0, .string ⟨#[]⟩, .slice none 0 0, .int .i64 0, .int .i64 0] 50) = W0 := ⟨_, rfl⟩
  rw [hW0] at hM
  have HW0 := Lib.hid hW0
  have HBW := Lib.hid (show Below w.heap.size w W0.drew from hM.bel.drew)
  have HWD := Lib.hid (show Cl w W0.drew [.string s.name, .slice F nf cf, .slice Q np cp, .string s.res.name, .slice Ar mr ar, .int .i64 s.res.off, .int .i64 s.off] 7 from hM.later (Below.refl _ _).drew)
  have HSB := Lib.hid (show Boxd W0.drew w.heap.size [.string s.name, .slice F nf cf, .slice Q np cp, .string s.res.name, .slice Ar mr ar, .int .i64 s.res.off, .int .i64 s.off] from hM.box.box)
  have HFR := Lib.hid hf
  have HPR := Lib.hid hp
  have HFL := Lib.hid hfl
  have HPL := Lib.hid hpl
  have HWT := Lib.hid hw
  have HVS := Lib.hid hvs
  have HNL := Lib.hid hnl
  have HN := Lib.hid hN
  have HU := Lib.hid hU
  have hni : (nf : Int) ≤ 1000 := by omega
  have hnpi : (np : Int) ≤ 1000 := by omega
  have CS := Lib.hid (fun (X : World) (hX : Below W0.drew.heap.size W0.drew X) => rtsubst_any s.res [.string s.res.name, .slice Ar mr ar, .int .i64 s.res.off] ns vs N U nl ul nc uc X (by have := Sg.wt_res (s := s); omega) hvs hnl (Dat.H.later (ty_shut hrn hra) (HBW.out.trans (hX.mono HBW.out.size))) (hN.later (HBW.out.trans (hX.mono HBW.out.size))) (Here.later hU (HBW.out.trans (hX.mono HBW.out.size))))
  have HSST := Lib.hid (fun (X : World) (hX : Below W0.drew.heap.size W0.drew X) => (show X.cell? ⟨w.heap.size, 0, none⟩ = some (.string s.name) ∧ X.cell? ⟨w.heap.size, 6, none⟩ = some (.int .i64 s.off) ∧ CellsAt X ⟨w.heap.size, 3, none⟩ [.string s.res.name, .slice Ar mr ar, .int .i64 s.res.off] from ⟨(HSB.out.later hX) 0 _ rfl, (HSB.out.later hX) 6 _ rfl, cells_mid (p := [.string s.name, .slice F nf cf, .slice Q np cp]) (us := [.string s.res.name, .slice Ar mr ar, .int .i64 s.res.off]) (r := [.int .i64 s.off]) (HSB.out.later hX)⟩))
  have SS := HSST.out W0.drew (Below.refl _ _)
  clear hM hW0 h hf hp hfl hpl hlf hlp hw hvs hnl hN hU hrn hra
  go_enter Tryd.func49, Tryd.ntmps49
  go_upto_region 1 with fail
  rw [HW0.out]
  clear HW0
  go_cut [7] (fun s7 wx => ∃ ob At mt at1, s7 = .pointer (some ⟨ob, 0, none⟩) ∧ OutN w W0.drew wx ob (s.res.subst ns vs) [.string s.name, .slice none 0 0, .slice none 0 0, .string (s.res.subst ns vs).name, .slice At mt at1, .int .i64 (s.res.subst ns vs).off, .int .i64 s.off] [.string (s.res.subst ns vs).name, .slice At mt at1, .int .i64 (s.res.subst ns vs).off])
  case first =>
    go_wp2_with fail
    refine wp_region_held_drew (S := fun V => V.cell? ⟨w.heap.size, 0, none⟩ = some (.string s.name) ∧ V.cell? ⟨w.heap.size, 6, none⟩ = some (.int .i64 s.off) ∧ CellsAt V ⟨w.heap.size, 3, none⟩ [.string s.res.name, .slice Ar mr ar, .int .i64 s.res.off]) (by kernel_rfl) SS (fun hS => ?_)
    clear SS
    generalize W0.drew = Wd at *
    have HBWd := Lib.hid (Below.refl Wd.heap.size Wd)
    refine wpAnyH_take (i := 0) (v := ?_) rfl (by kernel_rfl) (by kernel_rfl) (by kernel_rfl) (fun _ _ _ h => h) (Or.inl ⟨by rfl, ?_⟩) (by assumption) ?_
    rotate_left
    · (intro V hV; go_simp; try with_reducible rfl)
    try simp only [Act.put, List.getElem_toArray, List.getElem_cons_zero, List.setIfInBounds_toArray, List.set_cons_zero, List.set_cons_succ]
    refine wpAnyH_take (i := 1) (v := ?_) rfl (by kernel_rfl) (by kernel_rfl) (by kernel_rfl) (fun _ _ _ h => h) (Or.inl ⟨by rfl, ?_⟩) (by assumption) ?_
    rotate_left
    · (intro V hV; obtain ⟨k0, k6, _⟩ := hV; go_simp; try with_reducible rfl)
    try simp only [Act.put, List.getElem_toArray, List.getElem_cons_zero, List.getElem_cons_succ, List.setIfInBounds_toArray, List.set_cons_zero, List.set_cons_succ]
    refine wpAnyH_take (i := 2) (v := ?_) rfl (by kernel_rfl) (by kernel_rfl) (by kernel_rfl) (fun _ _ _ h => h) (Or.inl ⟨by rfl, ?_⟩) (by assumption) ?_
    rotate_left
    · (intro V hV; go_simp; try with_reducible rfl)
    try simp only [Act.put, List.getElem_toArray, List.getElem_cons_zero, List.getElem_cons_succ, List.setIfInBounds_toArray, List.set_cons_zero, List.set_cons_succ]
    refine wpAnyH_take (i := 3) (v := ?_) rfl (by kernel_rfl) (by kernel_rfl) (by kernel_rfl) (fun _ _ _ h => h) (Or.inl ⟨by rfl, ?_⟩) (by assumption) ?_
    rotate_left
    · (intro V hV; obtain ⟨k0, k6, _⟩ := hV; go_simp; try with_reducible rfl)
    try simp only [Act.put, List.getElem_toArray, List.getElem_cons_zero, List.getElem_cons_succ, List.setIfInBounds_toArray, List.set_cons_zero, List.set_cons_succ]
    refine wpAnyH_take (i := 4) (v := ?_) rfl (by kernel_rfl) (by kernel_rfl) (by kernel_rfl) (fun _ _ _ h => h) (Or.inl ⟨by rfl, ?_⟩) (by assumption) ?_
    rotate_left
    · (intro V hV; go_simp; try with_reducible rfl)
    try simp only [Act.put, List.getElem_toArray, List.getElem_cons_zero, List.getElem_cons_succ, List.setIfInBounds_toArray, List.set_cons_zero, List.set_cons_succ]
    refine wpAnyH_take (i := 5) (v := .agg ([.string s.res.name, .slice Ar mr ar, .int .i64 s.res.off] : List Value).toArray) rfl (by kernel_rfl) (by kernel_rfl) (by kernel_rfl) (fun _ _ _ h => h) (Or.inl ⟨by rfl, fun V hV => loadYieldB flatTy3 rfl hV.2.2 rfl⟩) (by assumption) ?_
    try simp only [Act.put, List.getElem_toArray, List.getElem_cons_zero, List.getElem_cons_succ, List.setIfInBounds_toArray, List.set_cons_zero, List.set_cons_succ]
    refine wpAnyH_take (i := 6) (v := ?_) rfl (by kernel_rfl) (by kernel_rfl) (by kernel_rfl) (fun _ _ _ h => h) (Or.inl ⟨by rfl, ?_⟩) (by assumption) ?_
    rotate_left
    · (intro V hV; go_simp; try with_reducible rfl)
    try simp only [Act.put, List.getElem_toArray, List.getElem_cons_zero, List.getElem_cons_succ, List.setIfInBounds_toArray, List.set_cons_zero, List.set_cons_succ]
    refine wpAnyH_take (i := 7) (v := ?_) rfl (by kernel_rfl) (by kernel_rfl) (by kernel_rfl) (fun _ _ _ h => h) (Or.inl ⟨by rfl, ?_⟩) (by assumption) ?_
    rotate_left
    · (intro V hV; go_simp; try with_reducible rfl)
    try simp only [Act.put, List.getElem_toArray, List.getElem_cons_zero, List.getElem_cons_succ, List.setIfInBounds_toArray, List.set_cons_zero, List.set_cons_succ]
    refine wpAnyH_ready (rs := [8, 10]) (by kernel_rfl) (by simp) ?_
    refine AllReadyH.cons rfl (fun K hK => ?_) (AllReadyH.cons rfl (fun K hK => ?_) (AllReadyH.nil))
    · skip
      go_simp
      refine (CS.out Wd HBWd.out).mono ?_
      rintro e X1 ⟨us, rfl, hr, hb⟩
      obtain ⟨At, mt, at1, rfl, _⟩ := ty_open hr
      have HR := Lib.hid hr
      have HBq := Lib.hid hb
      clear hr hb
      have HBX1 := Lib.hid (HBWd.out.trans (HBq.out.mono HBWd.out.size))
      have SS := HSST.out X1 HBX1.out
      refine hK.out _ _ SS (fun hS => ?_)
      clear hK K SS
      try simp only [Act.put, List.getElem_toArray, List.getElem_cons_zero, List.getElem_cons_succ, List.setIfInBounds_toArray, List.set_cons_zero, List.set_cons_succ]
      refine wpAnyH_take (i := 9) (v := ?_) rfl (by kernel_rfl) (by kernel_rfl) (by kernel_rfl) (fun _ _ _ h => h) (Or.inl ⟨by rfl, ?_⟩) (by assumption) ?_
      rotate_left
      · (intro V hV; go_simp; try with_reducible rfl)
      try simp only [Act.put, List.getElem_toArray, List.getElem_cons_zero, List.getElem_cons_succ, List.setIfInBounds_toArray, List.set_cons_zero, List.set_cons_succ]
      refine wpAnyH_ready (rs := [10]) (by kernel_rfl) (by simp) ?_
      refine AllReadyH.cons rfl (fun K hK => ?_) (AllReadyH.nil)
      go_simp
      obtain ⟨X2, hX2⟩ : ∃ X, World.alloc X1 (.cells #[.string ⟨#[]⟩, .slice none 0 0, .slice none 0 0, .string ⟨#[]⟩, .slice none 0 0, .int .i64 0, .int .i64 0] 50) = X := ⟨_, rfl⟩
      have HBq := Lib.hid (show Below X1.heap.size X1 X2 from hX2 ▸ (Below.refl _ _).alloc (Nat.le_refl _) _)
      have HCT := Lib.hid (show X2.there X1.heap.size 0 7 from hX2 ▸ there_new X1 #[.string ⟨#[]⟩, .slice none 0 0, .slice none 0 0, .string ⟨#[]⟩, .slice none 0 0, .int .i64 0, .int .i64 0] 50)
      have HCZ := Lib.hid (show X2.heap.size = X1.heap.size + 1 by rw [← hX2]; simp)
      rw [hX2]
      clear hX2
      have HBX2 := Lib.hid (HBX1.out.trans (HBq.out.mono HBX1.out.size))
      have SS := HSST.out X2 HBX2.out
      refine hK.out _ _ SS (fun hS => ?_)
      clear hK K SS
      try simp only [Act.put, List.getElem_toArray, List.getElem_cons_zero, List.getElem_cons_succ, List.setIfInBounds_toArray, List.set_cons_zero, List.set_cons_succ]
      refine wpAnyH_ready (rs := [11]) (by kernel_rfl) (by simp) ?_
      refine AllReadyH.cons rfl (fun K hK => ?_) (AllReadyH.nil)
      refine ready_storeB flatSg rfl (.tmp 7) (.tmp 21) rfl (b := X1.heap.size) (off := 0) (us := [.string s.name, .slice none 0 0, .slice none 0 0, .string (s.res.subst ns vs).name, .slice At mt at1, .int .i64 (s.res.subst ns vs).off, .int .i64 s.off]) rfl rfl HCT.out sg_one rfl ?_
      have HZB := Lib.hid (below_cells (B := Wd.heap.size) (g := X1.heap.size) HBX1.out.size [.string s.name, .slice none 0 0, .slice none 0 0, .string (s.res.subst ns vs).name, .slice At mt at1, .int .i64 (s.res.subst ns vs).off, .int .i64 s.off] 0 X2)
      have SS := HSST.out _ (HBX2.out.trans HZB.out)
      refine hK.out _ _ SS (fun hS => ?_)
      clear hK K SS
      try simp only [Act.put]
      refine wpAnyH_done (by kernel_rfl) ?_ _
      clear hS
      have HRZ := Lib.hid (show (s.res.subst ns vs).dat.In (X2.setCells X1.heap.size 0 [.string s.name, .slice none 0 0, .slice none 0 0, .string (s.res.subst ns vs).name, .slice At mt at1, .int .i64 (s.res.subst ns vs).off, .int .i64 s.off]) False (fun b => Wd.heap.size ≤ b ∧ b < X2.heap.size ∧ b ≠ X1.heap.size) _ from (Dat.In.keep id (fun p hp => kept_of (S := fun b => Wd.heap.size ≤ b ∧ b < X1.heap.size) (fun b hb => (heap_setCells _ _ _ _ b (by have := hb.2; omega)).trans (HBq.out.block b hb.2)) p hp) (fun _ h => h) _ _ HR.out).wide fun b hb => ⟨hb.1, by have := hb.2; have := HBq.out.size; omega, by have := hb.2; omega⟩)
      have HOB := Lib.hid (out_new (Z := X2.setCells X1.heap.size 0 [.string s.name, .slice none 0 0, .slice none 0 0, .string (s.res.subst ns vs).name, .slice At mt at1, .int .i64 (s.res.subst ns vs).off, .int .i64 s.off]) (us := [.string s.name, .slice none 0 0, .slice none 0 0, .string (s.res.subst ns vs).name, .slice At mt at1, .int .i64 (s.res.subst ns vs).off, .int .i64 s.off]) HWD.out (HBX2.out.trans HZB.out) HBX1.out.size HCT.out rfl rfl (HRZ.out.wide fun b hb => ⟨hb.1, by rw [size_setCells_w]; exact hb.2.1, hb.2.2⟩))
      go_wp2_with fail
      go_meet
      exact ⟨_, _, _, _, rfl, HOB.out⟩
    · skip
      go_simp
      obtain ⟨X1, hX1⟩ : ∃ X, World.alloc Wd (.cells #[.string ⟨#[]⟩, .slice none 0 0, .slice none 0 0, .string ⟨#[]⟩, .slice none 0 0, .int .i64 0, .int .i64 0] 50) = X := ⟨_, rfl⟩
      have HBq := Lib.hid (show Below Wd.heap.size Wd X1 from hX1 ▸ (Below.refl _ _).alloc (Nat.le_refl _) _)
      have HCT := Lib.hid (show X1.there Wd.heap.size 0 7 from hX1 ▸ there_new Wd #[.string ⟨#[]⟩, .slice none 0 0, .slice none 0 0, .string ⟨#[]⟩, .slice none 0 0, .int .i64 0, .int .i64 0] 50)
      have HCZ := Lib.hid (show X1.heap.size = Wd.heap.size + 1 by rw [← hX1]; simp)
      rw [hX1]
      clear hX1
      have HBX1 := Lib.hid (HBWd.out.trans (HBq.out.mono HBWd.out.size))
      have SS := HSST.out X1 HBX1.out
      refine hK.out _ _ SS (fun hS => ?_)
      clear hK K SS
      try simp only [Act.put, List.getElem_toArray, List.getElem_cons_zero, List.getElem_cons_succ, List.setIfInBounds_toArray, List.set_cons_zero, List.set_cons_succ]
      refine wpAnyH_ready (rs := [8]) (by kernel_rfl) (by simp) ?_
      refine AllReadyH.cons rfl (fun K hK => ?_) (AllReadyH.nil)
      go_simp
      refine (CS.out X1 HBX1.out).mono ?_
      rintro e X2 ⟨us, rfl, hr, hb⟩
      obtain ⟨At, mt, at1, rfl, _⟩ := ty_open hr
      have HR := Lib.hid hr
      have HBq := Lib.hid hb
      clear hr hb
      have HCT := Lib.hid (there_later HCT.out HBq.out)
      have HBX2 := Lib.hid (HBX1.out.trans (HBq.out.mono HBX1.out.size))
      have SS := HSST.out X2 HBX2.out
      refine hK.out _ _ SS (fun hS => ?_)
      clear hK K SS
      try simp only [Act.put, List.getElem_toArray, List.getElem_cons_zero, List.getElem_cons_succ, List.setIfInBounds_toArray, List.set_cons_zero, List.set_cons_succ]
      refine wpAnyH_take (i := 9) (v := ?_) rfl (by kernel_rfl) (by kernel_rfl) (by kernel_rfl) (fun _ _ _ h => h) (Or.inl ⟨by rfl, ?_⟩) (by assumption) ?_
      rotate_left
      · (intro V hV; go_simp; try with_reducible rfl)
      try simp only [Act.put, List.getElem_toArray, List.getElem_cons_zero, List.getElem_cons_succ, List.setIfInBounds_toArray, List.set_cons_zero, List.set_cons_succ]
      refine wpAnyH_ready (rs := [11]) (by kernel_rfl) (by simp) ?_
      refine AllReadyH.cons rfl (fun K hK => ?_) (AllReadyH.nil)
      refine ready_storeB flatSg rfl (.tmp 7) (.tmp 21) rfl (b := Wd.heap.size) (off := 0) (us := [.string s.name, .slice none 0 0, .slice none 0 0, .string (s.res.subst ns vs).name, .slice At mt at1, .int .i64 (s.res.subst ns vs).off, .int .i64 s.off]) rfl rfl HCT.out sg_one rfl ?_
      have HZB := Lib.hid (below_cells (B := Wd.heap.size) (g := Wd.heap.size) HBWd.out.size [.string s.name, .slice none 0 0, .slice none 0 0, .string (s.res.subst ns vs).name, .slice At mt at1, .int .i64 (s.res.subst ns vs).off, .int .i64 s.off] 0 X2)
      have SS := HSST.out _ (HBX2.out.trans HZB.out)
      refine hK.out _ _ SS (fun hS => ?_)
      clear hK K SS
      try simp only [Act.put]
      refine wpAnyH_done (by kernel_rfl) ?_ _
      clear hS
      have HRZ := Lib.hid (show (s.res.subst ns vs).dat.In (X2.setCells Wd.heap.size 0 [.string s.name, .slice none 0 0, .slice none 0 0, .string (s.res.subst ns vs).name, .slice At mt at1, .int .i64 (s.res.subst ns vs).off, .int .i64 s.off]) False (fun b => Wd.heap.size ≤ b ∧ b < X2.heap.size ∧ b ≠ Wd.heap.size) _ from (Dat.In.keep id (fun p hp => kept_of (S := fun b => X1.heap.size ≤ b ∧ b < X2.heap.size) (fun b hb => heap_setCells _ _ _ _ b (by have := hb.1; have := HCZ.out; omega)) p hp) (fun _ h => h) _ _ HR.out).wide fun b hb => ⟨by have := hb.1; have := HCZ.out; omega, hb.2, by have := hb.1; have := HCZ.out; omega⟩)
      have HOB := Lib.hid (out_new (Z := X2.setCells Wd.heap.size 0 [.string s.name, .slice none 0 0, .slice none 0 0, .string (s.res.subst ns vs).name, .slice At mt at1, .int .i64 (s.res.subst ns vs).off, .int .i64 s.off]) (us := [.string s.name, .slice none 0 0, .slice none 0 0, .string (s.res.subst ns vs).name, .slice At mt at1, .int .i64 (s.res.subst ns vs).off, .int .i64 s.off]) HWD.out (HBX2.out.trans HZB.out) HBWd.out.size HCT.out rfl rfl (HRZ.out.wide fun b hb => ⟨hb.1, by rw [size_setCells_w]; exact hb.2.1, hb.2.2⟩))
      go_wp2_with fail
      go_meet
      exact ⟨_, _, _, _, rfl, HOB.out⟩
  case rest =>
    obtain ⟨ob, At, mt, at1, rfl, hon⟩ := hcut
    generalize wc = Y1 at *
    have HON := Lib.hid hon
    have HBY := Lib.hid hon.bel2
    have HOBL := Lib.hid hon.ob2.2
    have HO1 := Lib.hid (show OutB Y1 Y1 ob 65 ([.string s.name] ++ .slice none 0 0 :: [.slice none 0 0, .string (s.res.subst ns vs).name, .slice At mt at1, .int .i64 (s.res.subst ns vs).off, .int .i64 s.off]) (.slice none 0 0) 0 (((s.fs.take 0).map (Fo.mapT (Ty.subst ns vs))).map Fo.dat) from ⟨gb_reflB _ _, hon.box, hon.thr, Built.nil _ _ _ _ _⟩)
    clear hon SS
    go_wp2_with fail
    go_loopw [8] (fun i wr => ∃ (k : Nat) (v : Value), k ≤ nf ∧ i = .int .i64 k ∧ OutB Y1 wr ob 65 ([.string s.name] ++ v :: [.slice none 0 0, .string (s.res.subst ns vs).name, .slice At mt at1, .int .i64 (s.res.subst ns vs).off, .int .i64 s.off]) v k (((s.fs.take k).map (Fo.mapT (Ty.subst ns vs))).map Fo.dat)) (fun i _ => nf - (intOf i).toNat)
    case atStart => exact ⟨0, .slice none 0 0, by omega, rfl, HO1.out⟩
    case round =>
      obtain ⟨k, v, hk, rfl, ho⟩ := hrel
      have HOO := Lib.hid ho
      have y1 : (0 : Int) ≤ k := by omega
      have hbel := HBY.out.trans (ho.below HOBL.out)
      have HBL := Lib.hid hbel
      have b1 := (HSB.out.later hbel) 1 _ rfl
      by_cases hlt : k < nf
      · have y0 : (k : Int) < nf := by omega
        obtain ⟨pu, x, ps, rfl, hx, _, _, hu, hcs⟩ := dat_at (RowH.later HFR.out (HBW.out.trans (hbel.mono HBW.out.size))) hlt
        obtain ⟨B, m, a, rfl, hn, ht, ha⟩ := fo_open hu
        obtain ⟨A0, c0, rfl⟩ : ∃ A0 c0, v = .slice A0 k c0 := by obtain ⟨cs, S, h1, _⟩ := ho.row; exact own_sl h1
        obtain ⟨cs, S, h1, h2, h3, h4⟩ := ho.row
        obtain ⟨W1, hP⟩ := putZ #[.string ⟨#[]⟩, .string ⟨#[]⟩, .slice none 0 0, .int .i64 0, .int .i64 0] 65 wr (us := [.string x.name, .string x.ty.name, .slice B m a, .int .i64 x.ty.off, .int .i64 x.off]) rfl
        have C := Lib.hid (show Calls Tryd.prog 47 #[.agg #[.string x.ty.name, .slice B m a, .int .i64 x.ty.off], .slice N nl nc, .slice U ul uc] W1 (DPost W1 (x.ty.subst ns vs).dat) from rtsubst_any x.ty [.string x.ty.name, .slice B m a, .int .i64 x.ty.off] ns vs N U nl ul nc uc W1 (by have := Sg.wt_f (s := s) (List.mem_of_getElem? hx); have := Fo.wt_ty (f := x); have := HWT.out; omega) HVS.out HNL.out (Dat.H.later (ty_shut ht ha) hP.bel) (HN.out.later (HBW.out.trans ((hbel.trans (hP.bel.mono hbel.size)).mono HBW.out.size))) (Here.later HU.out (HBW.out.trans ((hbel.trans (hP.bel.mono hbel.size)).mono HBW.out.size))))
        have HX := Lib.hid hx
        have HNM := Lib.hid hn
        have HFC := Lib.hid hcs
        have HP := Lib.hid hP
        have HBM := Lib.hid (boxd_mid hP.box)
        have HOWN := Lib.hid h1
        have HINS := Lib.hid h2
        have HSZ := Lib.hid h3
        have HSS := Lib.hid h4
        have HTM := Lib.hid (show W1.there wr.heap.size 0 5 from by
          rw [← hP.eq]
          exact World.there_setCells hP.there _ _ _)
        clear hx hn hu hcs ht ha hP h1 h2 h3 h4 ho hbel
        go_wp2_with (first
          | (refine loadOp flatFo 32 33 rfl HFC.out rfl ?_)
          | (refine storeOp flatFo 9 33 (b := wr.heap.size) (o := 0) (us := [.string x.name, .string x.ty.name, .slice B m a, .int .i64 x.ty.off, .int .i64 x.off]) rfl rfl HP.out.there five_oneB rfl ?_; rw [HP.out.eq])
          | (refine loadOp flatTy3 34 35 rfl HBM.out rfl ?_))
        refine C.out.mono ?_
        rintro e w3 ⟨us9, rfl, hr9, hb9⟩
        obtain ⟨B9, m9, a9, rfl, _⟩ := ty_open hr9
        have hT3 : w3.there wr.heap.size 1 3 := fun j hj => by
          have := (there_later HTM.out hb9) (1 + j) (by omega)
          rwa [Nat.zero_add] at this
        obtain ⟨w4, hw4⟩ : ∃ w4, w3.setCells wr.heap.size 1 [.string (x.ty.subst ns vs).name, .slice B9 m9 a9, .int .i64 (x.ty.subst ns vs).off] = w4 := ⟨_, rfl⟩
        have hbx4 : Boxd w4 wr.heap.size [.string x.name, .string (x.ty.subst ns vs).name, .slice B9 m9 a9, .int .i64 (x.ty.subst ns vs).off, .int .i64 x.off] := by
          have h0 := HP.out.box.later hb9
          rw [← hw4]
          intro j u hu
          match j, hu with
          | 0, hu => rw [World.cell?_setCells_out _ _ _ _ _ (fun _ _ => .inl (by show 0 < 1; omega))]; exact h0 0 u hu
          | 1, hu => exact World.rangeAt_setCells_same w3 wr.heap.size 1 [.string (x.ty.subst ns vs).name, .slice B9 m9 a9, .int .i64 (x.ty.subst ns vs).off] hT3 0 u hu
          | 2, hu => exact World.rangeAt_setCells_same w3 wr.heap.size 1 [.string (x.ty.subst ns vs).name, .slice B9 m9 a9, .int .i64 (x.ty.subst ns vs).off] hT3 1 u hu
          | 3, hu => exact World.rangeAt_setCells_same w3 wr.heap.size 1 [.string (x.ty.subst ns vs).name, .slice B9 m9 a9, .int .i64 (x.ty.subst ns vs).off] hT3 2 u hu
          | 4, hu => rw [World.cell?_setCells_out _ _ _ _ _ (fun _ _ => .inr (by simp))]; exact h0 4 u hu
          | j + 5, hu => simp at hu
        have hb4 : Below wr.heap.size wr w4 := hw4 ▸ (HP.out.bel.trans (hb9.mono HP.out.bel.size)).trans (below_cells (Nat.le_refl _) _ _ _)
        have hwz : wr.heap.size < W1.heap.size := Boxd.lt HP.out.box
        have hd4 : (Fo.mapT (Ty.subst ns vs) x).dat.In w4 False (fun b => wr.heap.size ≤ b ∧ b < w4.heap.size) [.string x.name, .string (x.ty.subst ns vs).name, .slice B9 m9 a9, .int .i64 (x.ty.subst ns vs).off, .int .i64 x.off] := foMk (f := Fo.mapT (Ty.subst ns vs) x) (v := [.string (x.ty.subst ns vs).name, .slice B9 m9 a9, .int .i64 (x.ty.subst ns vs).off]) HNM.out (by
          rw [← hw4]
          refine (Dat.In.keep id (fun p hp => kept_of (S := Fresh W1 w3) (fun b hb => heap_setCells _ _ _ _ b (by have := hb.1; omega)) p hp) (fun _ h => h) _ _ hr9).wide fun b hb => ⟨by have := hb.1; omega, by rw [size_setCells_w]; exact hb.2⟩)
        have hb5 : Below w4.heap.size w4 (w4.alloc (.cells #[.string x.name, .string (x.ty.subst ns vs).name, .slice B9 m9 a9, .int .i64 (x.ty.subst ns vs).off, .int .i64 x.off] 65)) := (Below.refl _ _).alloc (Nat.le_refl _) _
        have HOW5 := Lib.hid (own_below (own_below HOWN.out hb4) hb5)
        have HC5 := Lib.hid (show CellsAt (w4.alloc (.cells #[.string x.name, .string (x.ty.subst ns vs).name, .slice B9 m9 a9, .int .i64 (x.ty.subst ns vs).off, .int .i64 x.off] 65)) ⟨w4.heap.size, 0, none⟩ [.string x.name, .string (x.ty.subst ns vs).name, .slice B9 m9 a9, .int .i64 (x.ty.subst ns vs).off, .int .i64 x.off] from (Boxd.new w4 #[.string x.name, .string (x.ty.subst ns vs).name, .slice B9 m9 a9, .int .i64 (x.ty.subst ns vs).off, .int .i64 x.off] 65).at0)
        have HT3 := Lib.hid hT3
        have HOV := Lib.hid (ty_cells hr9)
        have HW4 := Lib.hid hw4
        have HB4 := Lib.hid hb4
        have HB5 := Lib.hid hb5
        have HD4 := Lib.hid hd4
        have HBX4 := Lib.hid (boxd_at0B hbx4)
        have HSTP := Lib.hid (fun v6 w6 hA => out_step (T := 65) (p := [.string s.name]) (r := [.slice none 0 0, .string (s.res.subst ns vs).name, .slice At mt at1, .int .i64 (s.res.subst ns vs).off, .int .i64 s.off]) (d := (Fo.mapT (Ty.subst ns vs) x).dat) (us := [.string x.name, .string (x.ty.subst ns vs).name, .slice B9 m9 a9, .int .i64 (x.ty.subst ns vs).off, .int .i64 x.off]) HOO.out HOBL.out HOWN.out HINS.out HSZ.out HSS.out HB4.out HD4.out (Fo.dat_size _) rfl (v6 := v6) (w6 := w6) hA)
        have HBXW := Lib.hid (HOO.out.box.later hb4)
        have z1 : (w4.alloc (.cells #[.string x.name, .string (x.ty.subst ns vs).name, .slice B9 m9 a9, .int .i64 (x.ty.subst ns vs).off, .int .i64 x.off] 65)).cell? ⟨ob, 1, none⟩ = some (.slice A0 k c0) := (hb5.cell (cell_lt (HBXW.out 1 _ rfl))).trans (HBXW.out 1 _ rfl)
        have z0 : w4.cell? ⟨ob, 1, none⟩ = some (.slice A0 k c0) := HBXW.out 1 _ rfl
        have HTB := Lib.hid (show wr.frozen? ⟨ob, 1, none⟩ = false from by have := (HOO.out.thr 1 (by omega)).2; rwa [Nat.zero_add] at this)
        clear hr9 hb9 hT3 hw4 hbx4 hb4 hwz hd4 hb5 C
        go_upto_region 7 with (refine storeOp flatTy3 39 38 (b := wr.heap.size) (o := 1) (us := [.string (x.ty.subst ns vs).name, .slice B9 m9 a9, .int .i64 (x.ty.subst ns vs).off]) rfl rfl HT3.out HOV.out rfl ?_; rw [HW4.out])
        go_wp2_with (first
          | (refine loadOp flatFo 9 42 rfl HBX4.out rfl ?_)
          | (at_builtin; refine wpList_append_row slFoB rfl _ _ rfl rfl rfl HOW5.out (by have := HB5.out.size; have := HB4.out.size; have := HOO.out.gb.size; omega) (m := 1) rfl (fun a ha j u hu => by obtain rfl := Option.some.inj ha; exact HC5.out j u hu) five_oneB (fun _ => ⟨_, rfl⟩) (by omega) (by omega) ?_; intro v6 w6 hA; obtain ⟨gg, cap, rfl⟩ := own_consB hA.own (by omega); obtain ⟨hstp, z6, f6⟩ := HSTP.out _ w6 hA; have HNX := Lib.hid hstp; have z7 : w6.cell? ⟨ob, 1, none⟩ = some (.slice A0 k c0) := z6; have f7 : w6.frozen? ⟨ob, 1, none⟩ = false := f6; clear hstp hA))
        go_roundw
        case rel => exact ⟨k + 1, .slice (some ⟨gg, 0, none⟩) (k + 1) cap, by omega, by go_num, by rw [Ex.take_at HX.out, List.map_append, List.map_append]; exact HNX.out⟩
        case measure => simp [intOf]; omega
      · have y0 : (nf : Int) ≤ k := by omega
        have hkn : nf = k := by omega
        subst hkn
        have HB1Y := Lib.hid hbel
        have HF1 := Lib.hid (ho.row.rowx (by omega))
        have HG1 := Lib.hid ho.gb
        have e1 : (((s.fs.take nf).map (Fo.mapT (Ty.subst ns vs))).map Fo.dat) = ((s.subst ns vs).fs.map Fo.dat) := by rw [List.take_of_length_le (by have := HFL.out; omega)]; rfl
        rw [e1] at HF1
        obtain ⟨AF, cF, rfl⟩ : ∃ AF cF, v = .slice AF nf cF := by obtain ⟨cs, S, h1, _⟩ := ho.row; exact own_sl h1
        have HVF := Lib.hid (show ∀ b, (Value.slice AF nf cF).ownBlock = some b → Y1.heap.size ≤ b ∧ b < wr.heap.size from fun b hb => by obtain ⟨cs, S, h1, _⟩ := ho.row; exact ⟨own_base h1 b hb, (h1.lt b hb).2⟩)
        have HOB2 := Lib.hid (show W0.drew.heap.size ≤ ob ∧ ob < wr.heap.size from ⟨HOBL.out.1, by have := HOBL.out.2; have := ho.gb.size; omega⟩)
        have HO2 := Lib.hid (show OutB wr wr ob 67 ([.string s.name, .slice AF nf cF] ++ .slice none 0 0 :: [.string (s.res.subst ns vs).name, .slice At mt at1, .int .i64 (s.res.subst ns vs).off, .int .i64 s.off]) (.slice none 0 0) 0 (((s.ps.take 0).map (Fo.mapT (Ty.subst ns vs))).map Fo.dat) from ⟨gb_reflB _ _, ho.box, ho.thr, Built.nil _ _ _ _ _⟩)
        clear ho hbel e1 HBY
        generalize wr = Y2 at *
        rename Hid (Below W0.drew.heap.size W0.drew Y2) => HBY
        rename Hid (W0.drew.heap.size ≤ ob ∧ ob < Y1.heap.size) => HOBL1
        rename Hid (W0.drew.heap.size ≤ ob ∧ ob < Y2.heap.size) => HOBL
        go_wp2_with fail
        go_loopw [10] (fun i wr => ∃ (k : Nat) (v : Value), k ≤ np ∧ i = .int .i64 k ∧ OutB Y2 wr ob 67 ([.string s.name, (.slice AF nf cF)] ++ v :: [.string (s.res.subst ns vs).name, .slice At mt at1, .int .i64 (s.res.subst ns vs).off, .int .i64 s.off]) v k (((s.ps.take k).map (Fo.mapT (Ty.subst ns vs))).map Fo.dat)) (fun i _ => np - (intOf i).toNat)
        case atStart => exact ⟨0, .slice none 0 0, by omega, rfl, HO2.out⟩
        case round =>
          obtain ⟨k, v, hk, rfl, ho⟩ := hrel
          have HOO := Lib.hid ho
          have y1 : (0 : Int) ≤ k := by omega
          have hbel := HBY.out.trans (ho.below HOBL.out)
          have HBL := Lib.hid hbel
          have b1 := (HSB.out.later hbel) 2 _ rfl
          by_cases hlt : k < np
          · have y0 : (k : Int) < np := by omega
            obtain ⟨pu, x, ps, rfl, hx, _, _, hu, hcs⟩ := dat_at (RowH.later HPR.out (HBW.out.trans (hbel.mono HBW.out.size))) hlt
            obtain ⟨B, m, a, rfl, hn, ht, ha⟩ := fo_open hu
            obtain ⟨A0, c0, rfl⟩ : ∃ A0 c0, v = .slice A0 k c0 := by obtain ⟨cs, S, h1, _⟩ := ho.row; exact own_sl h1
            obtain ⟨cs, S, h1, h2, h3, h4⟩ := ho.row
            obtain ⟨W1, hP⟩ := putZ #[.string ⟨#[]⟩, .string ⟨#[]⟩, .slice none 0 0, .int .i64 0, .int .i64 0] 67 wr (us := [.string x.name, .string x.ty.name, .slice B m a, .int .i64 x.ty.off, .int .i64 x.off]) rfl
            have C := Lib.hid (show Calls Tryd.prog 47 #[.agg #[.string x.ty.name, .slice B m a, .int .i64 x.ty.off], .slice N nl nc, .slice U ul uc] W1 (DPost W1 (x.ty.subst ns vs).dat) from rtsubst_any x.ty [.string x.ty.name, .slice B m a, .int .i64 x.ty.off] ns vs N U nl ul nc uc W1 (by have := Sg.wt_p (s := s) (List.mem_of_getElem? hx); have := Fo.wt_ty (f := x); have := HWT.out; omega) HVS.out HNL.out (Dat.H.later (ty_shut ht ha) hP.bel) (HN.out.later (HBW.out.trans ((hbel.trans (hP.bel.mono hbel.size)).mono HBW.out.size))) (Here.later HU.out (HBW.out.trans ((hbel.trans (hP.bel.mono hbel.size)).mono HBW.out.size))))
            have HX := Lib.hid hx
            have HNM := Lib.hid hn
            have HFC := Lib.hid hcs
            have HP := Lib.hid hP
            have HBM := Lib.hid (boxd_mid hP.box)
            have HOWN := Lib.hid h1
            have HINS := Lib.hid h2
            have HSZ := Lib.hid h3
            have HSS := Lib.hid h4
            have HTM := Lib.hid (show W1.there wr.heap.size 0 5 from by
              rw [← hP.eq]
              exact World.there_setCells hP.there _ _ _)
            clear hx hn hu hcs ht ha hP h1 h2 h3 h4 ho hbel
            go_wp2_with (first
              | (refine loadOp flatPa 56 57 rfl HFC.out rfl ?_)
              | (refine storeOp flatPa 11 57 (b := wr.heap.size) (o := 0) (us := [.string x.name, .string x.ty.name, .slice B m a, .int .i64 x.ty.off, .int .i64 x.off]) rfl rfl HP.out.there five_oneB rfl ?_; rw [HP.out.eq])
              | (refine loadOp flatTy3 58 59 rfl HBM.out rfl ?_))
            refine C.out.mono ?_
            rintro e w3 ⟨us9, rfl, hr9, hb9⟩
            obtain ⟨B9, m9, a9, rfl, _⟩ := ty_open hr9
            have hT3 : w3.there wr.heap.size 1 3 := fun j hj => by
              have := (there_later HTM.out hb9) (1 + j) (by omega)
              rwa [Nat.zero_add] at this
            obtain ⟨w4, hw4⟩ : ∃ w4, w3.setCells wr.heap.size 1 [.string (x.ty.subst ns vs).name, .slice B9 m9 a9, .int .i64 (x.ty.subst ns vs).off] = w4 := ⟨_, rfl⟩
            have hbx4 : Boxd w4 wr.heap.size [.string x.name, .string (x.ty.subst ns vs).name, .slice B9 m9 a9, .int .i64 (x.ty.subst ns vs).off, .int .i64 x.off] := by
              have h0 := HP.out.box.later hb9
              rw [← hw4]
              intro j u hu
              match j, hu with
              | 0, hu => rw [World.cell?_setCells_out _ _ _ _ _ (fun _ _ => .inl (by show 0 < 1; omega))]; exact h0 0 u hu
              | 1, hu => exact World.rangeAt_setCells_same w3 wr.heap.size 1 [.string (x.ty.subst ns vs).name, .slice B9 m9 a9, .int .i64 (x.ty.subst ns vs).off] hT3 0 u hu
              | 2, hu => exact World.rangeAt_setCells_same w3 wr.heap.size 1 [.string (x.ty.subst ns vs).name, .slice B9 m9 a9, .int .i64 (x.ty.subst ns vs).off] hT3 1 u hu
              | 3, hu => exact World.rangeAt_setCells_same w3 wr.heap.size 1 [.string (x.ty.subst ns vs).name, .slice B9 m9 a9, .int .i64 (x.ty.subst ns vs).off] hT3 2 u hu
              | 4, hu => rw [World.cell?_setCells_out _ _ _ _ _ (fun _ _ => .inr (by simp))]; exact h0 4 u hu
              | j + 5, hu => simp at hu
            have hb4 : Below wr.heap.size wr w4 := hw4 ▸ (HP.out.bel.trans (hb9.mono HP.out.bel.size)).trans (below_cells (Nat.le_refl _) _ _ _)
            have hwz : wr.heap.size < W1.heap.size := Boxd.lt HP.out.box
            have hd4 : (Fo.mapT (Ty.subst ns vs) x).dat.In w4 False (fun b => wr.heap.size ≤ b ∧ b < w4.heap.size) [.string x.name, .string (x.ty.subst ns vs).name, .slice B9 m9 a9, .int .i64 (x.ty.subst ns vs).off, .int .i64 x.off] := foMk (f := Fo.mapT (Ty.subst ns vs) x) (v := [.string (x.ty.subst ns vs).name, .slice B9 m9 a9, .int .i64 (x.ty.subst ns vs).off]) HNM.out (by
              rw [← hw4]
              refine (Dat.In.keep id (fun p hp => kept_of (S := Fresh W1 w3) (fun b hb => heap_setCells _ _ _ _ b (by have := hb.1; omega)) p hp) (fun _ h => h) _ _ hr9).wide fun b hb => ⟨by have := hb.1; omega, by rw [size_setCells_w]; exact hb.2⟩)
            have hb5 : Below w4.heap.size w4 (w4.alloc (.cells #[.string x.name, .string (x.ty.subst ns vs).name, .slice B9 m9 a9, .int .i64 (x.ty.subst ns vs).off, .int .i64 x.off] 67)) := (Below.refl _ _).alloc (Nat.le_refl _) _
            have HOW5 := Lib.hid (own_below (own_below HOWN.out hb4) hb5)
            have HC5 := Lib.hid (show CellsAt (w4.alloc (.cells #[.string x.name, .string (x.ty.subst ns vs).name, .slice B9 m9 a9, .int .i64 (x.ty.subst ns vs).off, .int .i64 x.off] 67)) ⟨w4.heap.size, 0, none⟩ [.string x.name, .string (x.ty.subst ns vs).name, .slice B9 m9 a9, .int .i64 (x.ty.subst ns vs).off, .int .i64 x.off] from (Boxd.new w4 #[.string x.name, .string (x.ty.subst ns vs).name, .slice B9 m9 a9, .int .i64 (x.ty.subst ns vs).off, .int .i64 x.off] 67).at0)
            have HT3 := Lib.hid hT3
            have HOV := Lib.hid (ty_cells hr9)
            have HW4 := Lib.hid hw4
            have HB4 := Lib.hid hb4
            have HB5 := Lib.hid hb5
            have HD4 := Lib.hid hd4
            have HBX4 := Lib.hid (boxd_at0B hbx4)
            have HSTP := Lib.hid (fun v6 w6 hA => out_step (T := 67) (p := [.string s.name, (.slice AF nf cF)]) (r := [.string (s.res.subst ns vs).name, .slice At mt at1, .int .i64 (s.res.subst ns vs).off, .int .i64 s.off]) (d := (Fo.mapT (Ty.subst ns vs) x).dat) (us := [.string x.name, .string (x.ty.subst ns vs).name, .slice B9 m9 a9, .int .i64 (x.ty.subst ns vs).off, .int .i64 x.off]) HOO.out HOBL.out HOWN.out HINS.out HSZ.out HSS.out HB4.out HD4.out (Fo.dat_size _) rfl (v6 := v6) (w6 := w6) hA)
            have HBXW := Lib.hid (HOO.out.box.later hb4)
            have z1 : (w4.alloc (.cells #[.string x.name, .string (x.ty.subst ns vs).name, .slice B9 m9 a9, .int .i64 (x.ty.subst ns vs).off, .int .i64 x.off] 67)).cell? ⟨ob, 2, none⟩ = some (.slice A0 k c0) := (hb5.cell (cell_lt (HBXW.out 2 _ rfl))).trans (HBXW.out 2 _ rfl)
            have z0 : w4.cell? ⟨ob, 2, none⟩ = some (.slice A0 k c0) := HBXW.out 2 _ rfl
            have HTB := Lib.hid (show wr.frozen? ⟨ob, 2, none⟩ = false from by have := (HOO.out.thr 2 (by omega)).2; rwa [Nat.zero_add] at this)
            clear hr9 hb9 hT3 hw4 hbx4 hb4 hwz hd4 hb5 C
            go_upto_region 13 with (refine storeOp flatTy3 63 62 (b := wr.heap.size) (o := 1) (us := [.string (x.ty.subst ns vs).name, .slice B9 m9 a9, .int .i64 (x.ty.subst ns vs).off]) rfl rfl HT3.out HOV.out rfl ?_; rw [HW4.out])
            go_wp2_with (first
              | (refine loadOp flatPa 11 66 rfl HBX4.out rfl ?_)
              | (at_builtin; refine wpList_append_row slPaB rfl _ _ rfl rfl rfl HOW5.out (by have := HB5.out.size; have := HB4.out.size; have := HOO.out.gb.size; omega) (m := 1) rfl (fun a ha j u hu => by obtain rfl := Option.some.inj ha; exact HC5.out j u hu) five_oneB (fun _ => ⟨_, rfl⟩) (by omega) (by omega) ?_; intro v6 w6 hA; obtain ⟨gg, cap, rfl⟩ := own_consB hA.own (by omega); obtain ⟨hstp, z6, f6⟩ := HSTP.out _ w6 hA; have HNX := Lib.hid hstp; have z7 : w6.cell? ⟨ob, 2, none⟩ = some (.slice A0 k c0) := z6; have f7 : w6.frozen? ⟨ob, 2, none⟩ = false := f6; clear hstp hA))
            go_roundw
            case rel => exact ⟨k + 1, .slice (some ⟨gg, 0, none⟩) (k + 1) cap, by omega, by go_num, by rw [Ex.take_at HX.out, List.map_append, List.map_append]; exact HNX.out⟩
            case measure => simp [intOf]; omega
          · have y0 : (np : Int) ≤ k := by omega
            obtain rfl : k = np := by omega
            obtain ⟨A9, c9, rfl⟩ : ∃ A9 c9, v = .slice A9 k c9 := by obtain ⟨cs, S, h1, _⟩ := ho.row; exact own_sl h1
            have hp := ho.row.rowx (by omega)
            have e2 : (((s.ps.take k).map (Fo.mapT (Ty.subst ns vs))).map Fo.dat) = ((s.subst ns vs).ps.map Fo.dat) := by rw [List.take_of_length_le (by have := HPL.out; omega)]; rfl
            rw [e2] at hp
            have hvp : ∀ b, (Value.slice A9 k c9).ownBlock = some b → Y2.heap.size ≤ b ∧ b < wr.heap.size := fun b hb => by obtain ⟨cs, S, h1, _⟩ := ho.row; exact ⟨own_base h1 b hb, (h1.lt b hb).2⟩
            have l1 : (s.subst ns vs).fs.length = nf := by simp only [Sg.subst, List.length_map]; exact HFL.out
            have l2 : (s.subst ns vs).ps.length = k := by simp only [Sg.subst, List.length_map]; exact HPL.out
            have z1 := HG1.out.size
            have z2 := ho.gb.size
            have zo := HON.out.ob2
            have zw := HWD.out.big
            have hz2 : ∀ b, b < Y2.heap.size → b ≠ ob → wr.heap[b]? = Y2.heap[b]? := fun b h1 h2 => ho.gb.block b h1 (fun e => h2 (Option.some.inj e))
            have hz1 : ∀ b, b < Y1.heap.size → b ≠ ob → Y2.heap[b]? = Y1.heap[b]? := fun b h1 h2 => HG1.out.block b h1 (fun e => h2 (Option.some.inj e))
            have hsw : SgW (w.heap.size + 2) wr.heap.size wr (s.subst ns vs) (.slice AF (s.subst ns vs).fs.length cF) (.slice A9 (s.subst ns vs).ps.length c9) [.string (s.res.subst ns vs).name, .slice At mt at1, .int .i64 (s.res.subst ns vs).off] := by
              rw [l1, l2]
              refine ⟨?_, ?_, fun b h1 h2 => by have := (HVF.out b h1).2; have := (hvp b h2).1; omega, ?_, by omega, Nat.le_refl _⟩
              · rw [l1]
                exact (HF1.out.kept (V' := wr) (fun b hb => hb.elim (fun h => hz2 b h.2.1 (by have := h.1; omega)) fun h => hz2 b (HVF.out b h).2 (by have := (HVF.out b h).1; omega)) z2).wide (fun b hb => ⟨by have := hb.1; omega, by have := hb.2.1; omega, hb.2.2, fun e => by have := (hvp b e).1; have := hb.2.1; omega⟩) (by omega)
              · rw [l2]
                exact hp.wide (fun b hb => ⟨by have := hb.1; omega, hb.2.1, fun e => by have := (HVF.out b e).2; have := hb.1; omega, hb.2.2⟩) (by omega)
              · exact (Dat.In.keep id (fun p hp => kept_of (S := fun b => w.heap.size + 2 ≤ b ∧ b < Y1.heap.size ∧ b ≠ ob) (fun b hb => (hz2 b (by have := hb.2.1; omega) hb.2.2).trans (hz1 b hb.2.1 hb.2.2)) p hp) (fun _ h => h) _ _ HON.out.res).wide fun b hb => ⟨hb.1, by have := hb.2.1; omega, fun e => by have := (HVF.out b e).1; have := hb.2.1; omega, fun e => by have := (hvp b e).1; have := hb.2.1; omega⟩
            have HSW := Lib.hid hsw
            have HBX := Lib.hid (show CellsAt wr ⟨ob, 0, none⟩ [.string s.name, .slice AF nf cF, .slice A9 k c9, .string (s.res.subst ns vs).name, .slice At mt at1, .int .i64 (s.res.subst ns vs).off, .int .i64 s.off] from boxd_at0B ho.box)
            have hbw := HBW.out.trans (hbel.mono HBW.out.size)
            have HBF := Lib.hid hbw
            have HT := Lib.hid (show wr.there (w.heap.size + 1) 0 7 from fun j hj => by
              have h1 := HON.out.sbx j hj
              have k1 := kept_of (V := Y1) (V' := wr) (S := (· = w.heap.size + 1)) (fun b hb => by subst hb; exact (hz2 _ (by omega) (by omega)).trans (hz1 _ (by omega) (by omega))) ⟨w.heap.size + 1, 0 + j, none⟩ rfl
              rw [k1.1, k1.2]
              exact h1)
            have HL1 := Lib.hid l1
            have HL2 := Lib.hid l2
            clear hp e2 hvp l1 l2 z1 z2 zo zw hz1 hz2 hsw ho hbel hbw
            go_wp2_with (first
              | (refine loadOp flatSg 7 70 rfl HBX.out rfl ?_)
              | (refine storeOp flatSg 6 70 (b := w.heap.size + 1) (o := 0) (us := [.string s.name, .slice AF nf cF, .slice A9 k c9, .string (s.res.subst ns vs).name, .slice At mt at1, .int .i64 (s.res.subst ns vs).off, .int .i64 s.off]) rfl rfl HT.out sg_one rfl ?_))
            refine bodyPost_ret (results_rsubst _ rfl (show Boxd _ (w.heap.size + 1) [.string s.name, .slice AF nf cF, .slice A9 k c9, .string (s.res.subst ns vs).name, .slice At mt at1, .int .i64 (s.res.subst ns vs).off, .int .i64 s.off] from set_there HT.out) rfl) rfl ?_
            have hsz : (wr.setCells (w.heap.size + 1) 0 [.string s.name, .slice AF nf cF, .slice A9 k c9, .string (s.res.subst ns vs).name, .slice At mt at1, .int .i64 (s.res.subst ns vs).off, .int .i64 s.off]).heap.size = wr.heap.size := size_setCells_w _ _ _ _
            have hfin := (HSW.out.kept (V' := wr.setCells (w.heap.size + 1) 0 [.string s.name, .slice AF nf cF, .slice A9 k c9, .string (s.res.subst ns vs).name, .slice At mt at1, .int .i64 (s.res.subst ns vs).off, .int .i64 s.off]) (fun b hb _ => heap_setCells _ _ _ _ b (by omega)) (Nat.le_of_eq hsz.symm)).wide (lo' := w.heap.size) (top' := (wr.setCells (w.heap.size + 1) 0 [.string s.name, .slice AF nf cF, .slice A9 k c9, .string (s.res.subst ns vs).name, .slice At mt at1, .int .i64 (s.res.subst ns vs).off, .int .i64 s.off]).heap.size) (by omega) (Nat.le_of_eq hsz.symm) (Nat.le_refl _)
            exact ⟨AF, cF, A9, c9, At, mt, at1, by unfold sg7; rw [HL1.out, HL2.out]; rfl, hfin, HBF.out.trans (below_cells (Nat.le_succ _) _ _ _)⟩
end Go.Proofs.YtjhlehdjdaphcaaDoor

namespace Go.Proofs.YtjhlehdjdaphcaaDoor
open Go.RowKit

theorem ty_argsT {x : Ty} (h : x.wt ≤ 1000) : (∀ v ∈ x.args, v.Small) ∧ x.args.length ≤ 1000 := by
  obtain ⟨s, xs, o⟩ := x
  simp only [Ty.wt] at h
  refine ⟨fun v hv => ty_few ?_, ?_⟩
  · have := Ty.wtL_mem (show v ∈ xs from hv); omega
  · have := Ty.wtL_len xs; show xs.length ≤ _; omega
/-- One more of a row that is built: what has been made since is laid and put behind it. -/
theorem built_put {lo : Nat} {wr w1 w2 : World} {e T : TypeId} {z k : Nat} {ds : List Dat} {v v6 : Value} {cs us : List Value} {S : Nat → Prop} {d : Dat} (hown : wr.ownsRow lo e z v k cs) (hrows : Dat.Ins wr False S ds cs) (hzs : ∀ x ∈ ds, x.size = z)
    (hS : ∀ b, S b → lo ≤ b ∧ b < wr.heap.size ∧ v.ownBlock ≠ some b) (hlo : lo ≤ wr.heap.size) (hb : Below wr.heap.size wr w1) (hd : d.In w1 False (fun b => wr.heap.size ≤ b ∧ b < w1.heap.size) us) (hz : d.size = z)
    (hA : Appd (w1.alloc (.cells us.toArray T)) w2 lo e z k 1 v v6 cs us) : ∃ g c, v6 = .slice (some ⟨g, 0, none⟩) (k + 1) c ∧ Built w2 False e z lo v6 (k + 1) (ds ++ [d]) ∧ Below lo wr w2 := by
  obtain ⟨g, c, rfl⟩ := own_consB hA.own (by omega)
  have hs : (w1.alloc (.cells us.toArray T)).heap.size = w1.heap.size + 1 := by simp
  refine ⟨g, c, rfl, Built.step hown hrows hzs hS hb hd (fun b hb2 => ⟨by omega, hb2.2, fun e => ?_⟩) hz hA.own hA.grow ?_, ?_⟩
  · have := (hown.lt b e).2
    have h1 := hb2.1
    omega
  · rcases hA.at_ with h | h
    · exact .inl h.symm
    · rw [hs] at h
      exact .inr (Option.some.inj h)
  · exact ((hb.mono hlo).alloc (Nat.le_trans hlo hb.size) _).grown hA.grow (by rw [hs]; have := hb.size; omega) fun j hj => (hown.lt j hj).1
/-- A boxed type, a boxed declaration whose data lie below lo. -/
structure FX (lo : Nat) (w W : World) (xb b : Nat) (x : Ty) (d : Dc) (xs us : List Value) : Prop where
  xbox : Boxd W xb xs
  xdat : x.dat.In W False (· < w.heap.size) xs
  dbox : Boxd W b us
  ddat : d.dat.In W False (· < lo) us
  bel : Below w.heap.size w W
  le : lo ≤ w.heap.size
theorem FX.later {lo : Nat} {w W W' : World} {xb b : Nat} {x : Ty} {d : Dc} {xs us : List Value} (h : FX lo w W xb b x d xs us) (hb : Below W.heap.size W W') : FX lo w W' xb b x d xs us :=
  ⟨h.xbox.later hb, Dat.In.later h.xdat hb (fun _ hk => Nat.lt_of_lt_of_le hk h.bel.size), h.dbox.later hb, Dat.In.later h.ddat hb (fun _ hk => Nat.lt_of_lt_of_le hk (Nat.le_trans h.le h.bel.size)), h.bel.trans (hb.mono h.bel.size), h.le⟩
/-- The formals' row, the arguments. -/
theorem FX.fs {lo : Nat} {w W : World} {xb b : Nat} {x : Ty} {d : Dc} {xs us : List Value} {F : Option Addr} {nf cf : Nat} (h : FX lo w W xb b x d xs us) (h2 : us[2]? = some (.slice F nf cf)) : RowH W 5 F nf (d.fs.map Fo.dat) := by
  obtain ⟨_, _, _, _, _, F1, n1, c1, _, _, _, _, _, _, _, _, _, u2, _, _, _, hr, _⟩ := dc_c h.ddat
  have e := h2.symm.trans u2
  simp only [Option.some.injEq, Value.slice.injEq] at e
  obtain ⟨rfl, rfl, rfl⟩ := e
  exact hr.wide fun b hb => Nat.lt_of_lt_of_le hb (Nat.le_trans h.le h.bel.size)
theorem FX.ms {lo : Nat} {w W : World} {xb b : Nat} {x : Ty} {d : Dc} {xs us : List Value} {F : Option Addr} {nf cf : Nat} (h : FX lo w W xb b x d xs us) (h3 : us[3]? = some (.slice F nf cf)) : RowH W 5 F nf (d.ms.map Fo.dat) := by
  obtain ⟨_, _, _, _, _, _, _, _, F1, n1, c1, _, _, _, _, _, _, _, u3, _, _, _, hr, _⟩ := dc_c h.ddat
  have e := h3.symm.trans u3
  simp only [Option.some.injEq, Value.slice.injEq] at e
  obtain ⟨rfl, rfl, rfl⟩ := e
  exact hr.wide fun b hb => Nat.lt_of_lt_of_le hb (Nat.le_trans h.le h.bel.size)
theorem FX.args {lo : Nat} {w W : World} {xb b : Nat} {x : Ty} {d : Dc} {us : List Value} {s : ByteArray} {A : Option Addr} {m c : Nat} {i : Int} (h : FX lo w W xb b x d [.string s, .slice A m c, .int .i64 i] us) : Here W A m x.args := by
  obtain ⟨A1, m1, c1, e, _, ha⟩ := ty_open h.xdat
  simp only [List.cons.injEq, Value.slice.injEq, Value.string.injEq, Value.int.injEq, true_and, and_true] at e
  obtain ⟨_, ⟨rfl, rfl, rfl⟩, _⟩ := e
  exact ha.wide fun b hb => Nat.lt_of_lt_of_le hb h.bel.size
theorem none_wtT : Dc.none?.wt ≤ 10 := by simp [Dc.wt, Dc.none?, Sg.none?, Ex.none?, Sg.wt, sumBy, Ty.wt, Ty.wtL, Ex.wt, Ex.wtL, ByteArray.size]
theorem tyD_wt {ds : List Dc} {n : Nat} (hw : ∀ d ∈ ds, d.wt ≤ n) (hn : 10 ≤ n) (s : ByteArray) : (tyD ds s).wt ≤ n := by
  rcases none_mem (ds := ds) (k := tyK s) with h | h
  · rw [tyD, h]
    exact Nat.le_trans none_wtT hn
  · exact hw _ h
/-- The fields, in a row of their own. -/
def FldPost (w : World) (ds : List Dc) (x : Ty) (e : Ending) (w' : World) : Prop := ∃ v, e = .returned (.tuple #[v, .bool (instT ds x 1)]) ∧ (instT ds x 1 = false → v = .slice none 0 0)
  ∧ (instT ds x 1 = true → ∃ mid, RowN w.heap.size mid w' (fieldsT ds x).length 5 v ((fieldsT ds x).map Fo.dat) ∧ w.heap.size ≤ mid ∧ mid ≤ w'.heap.size) ∧ Below w.heap.size w w'
set_option maxRecDepth 100000 in
theorem field_sg2 {a b c d e f g : Value} {A : Option Addr} {n k : Nat} (h : c = .slice A n k) (w : World) : (Instr.field 50 (.agg #[a, b, c, d, e, f, g]) 2).run Tryd.prog w = .ok (.slice A n k) w := by
  subst h; rfl
def fldSg (l : List Fo) : Sg := ⟨⟨#[]⟩, [], l, .mk ⟨#[]⟩ [] 0, 0⟩
theorem fldSg_in {w : World} {S : Nat → Prop} {l : List Fo} {P : Option Addr} {n c : Nat} (h : Row w False S 5 P n (l.map Fo.dat)) : (fldSg l).dat.In w False S [.string ⟨#[]⟩, .slice none 0 0, .slice P n c, .string ⟨#[]⟩, .slice none 0 0, .int .i64 0, .int .i64 0] :=
  sg_shut (s := fldSg l) (F := none) (nf := 0) (m := 0) (by simp [fldSg, ByteArray.size]) (Row.nil _ _ _ _ _) h (by simp [fldSg, Ty.name, ByteArray.size]) (LiesN.nil _ _ _ _)
theorem fldSg_wt (l : List Fo) : (fldSg l).wt = sumBy Fo.wt l + 1 := by simp [fldSg, Sg.wt, sumBy, Ty.wt, Ty.wtL, ByteArray.size]
set_option maxRecDepth 100000 in
set_option maxHeartbeats 8000000 in
theorem tfields_any (lo : Nat) (r : Value) (p : Pg) (x : Ty) (xs : List Value) (w : World) (hw : ∀ d ∈ p.ds, d.wt ≤ 900) (hxw : x.wt ≤ 1000) (hlo : lo ≤ w.heap.size) (hx : x.dat.H w xs) (ht : TabR lo w r p) :
    Calls Tryd.prog 12 #[r, .agg xs.toArray] w (FldPost w p.ds x) := by
  obtain ⟨A, m, c, rfl, hxn, hxa⟩ := ty_open hx
  have hxl := hxa.len
  obtain ⟨W0, hW0⟩ : ∃ W0, w.alloc (.cells #[.string x.name, .slice A m c, .int .i64 x.off] 25) = W0 := ⟨_, rfl⟩
  have hb0 : Below w.heap.size w W0 := hW0 ▸ (Below.refl _ _).alloc (Nat.le_refl _) _
  have hbx : Boxd W0 w.heap.size [.string x.name, .slice A m c, .int .i64 x.off] := hW0 ▸ Boxd.new w #[.string x.name, .slice A m c, .int .i64 x.off] 25
  have hxd : x.dat.In W0 False (· < w.heap.size) [.string x.name, .slice A m c, .int .i64 x.off] := Dat.In.later hx hb0 fun _ h => h
  have HW0 := Lib.hid hW0
  have HB0 := Lib.hid hb0
  have HBX := Lib.hid hbx
  have HXD := Lib.hid hxd
  have HX3 := Lib.hid hbx.at0
  have C := Lib.hid (instance_any lo r p x _ 1 W0 (Nat.le_trans hlo hb0.size) (hxd.wide fun b hb => Nat.lt_of_lt_of_le hb hb0.size) (ht.later hb0))
  have HLO := Lib.hid hlo
  have HXW := Lib.hid hxw
  have HXL := Lib.hid hxl
  have HDW0 := Lib.hid (tyD_wt hw (by omega) x.name)
  clear hW0 hb0 hbx hxd hx hxn hxa ht hlo hxw hxl hw
  go_enter Tryd.func12, Tryd.ntmps12
  go_upto_region 1 with fail
  rw [HW0.out]
  clear HW0
  go_wp2_with (refine loadOp flatTy3 3 10 rfl HX3.out rfl ?_)
  refine C.out.mono ?_
  rintro e w1 ⟨us, rfl, hd, hb1⟩
  clear C HX3
  obtain ⟨d, hdd⟩ : ∃ d, tyD p.ds x.name = d := ⟨_, rfl⟩
  rw [hdd] at hd
  have HDD := Lib.hid hdd
  have HDW := Lib.hid (show d.wt ≤ 900 by rw [← hdd]; exact HDW0.out)
  obtain ⟨_, _, _, _, _, F, nf, cf, Pq, np, cp, _, _, _, _, _, _, u2, u3, _, _, hrf, hrp, _⟩ := dc_c hd
  have hfl := hrf.len
  rw [List.length_map] at hfl
  have H2 := Lib.hid u2
  have H3 := Lib.hid u3
  have HFL := Lib.hid hfl
  have HLU := Lib.hid (dc_len hd)
  have HOU := Lib.hid (dc_cells hd)
  obtain ⟨W2, hP⟩ := putZ z23 52 w1 (us := us) (dc_len hd)
  have HPP := Lib.hid hP
  have hb01 := HB0.out.trans (hb1.mono HB0.out.size)
  have HFX := Lib.hid (show FX lo w W2 w.heap.size w1.heap.size x d [.string x.name, .slice A m c, .int .i64 x.off] us from
    ⟨(HBX.out.later hb1).later hP.bel, Dat.In.later (Dat.In.later HXD.out hb1 fun k hk => Nat.lt_of_lt_of_le hk HB0.out.size) hP.bel fun k hk => Nat.lt_of_lt_of_le hk hb01.size, hP.box, Dat.In.later hd hP.bel fun k hk => Nat.lt_of_lt_of_le hk (Nat.le_trans HLO.out hb01.size), hb01.trans (hP.bel.mono hb01.size), HLO.out⟩)
  clear hd hb1 hP hb01 u2 u3 hrf hrp hfl hdd HDW0
  cases hq : instT p.ds x 1
  · have HQ := Lib.hid hq
    clear hq
    go_upto_region 2 with (refine storeOp flatDc 6 12 (b := w1.heap.size) (o := 0) (us := us) rfl rfl HPP.out.there HOU.out HLU.out ?_; rw [HPP.out.eq])
    go_wp2_with fail
    refine bodyPost_ret (results_tmp2 rfl _ _ _) rfl ?_
    exact ⟨.slice none 0 0, by rw [HQ.out]; rfl, fun _ => rfl, fun h => (by rw [HQ.out] at h; cases h), HFX.out.bel⟩
  · have HQ := Lib.hid hq
    clear hq
    go_upto_region 4 with (refine storeOp flatDc 6 12 (b := w1.heap.size) (o := 0) (us := us) rfl rfl HPP.out.there HOU.out HLU.out ?_; rw [HPP.out.eq])
    clear HPP
    go_wp2_with fail
    refine wp_region_held_drew (S := fun V => FX lo w V w.heap.size w1.heap.size x d [.string x.name, .slice A m c, .int .i64 x.off] us) (by kernel_rfl) (HFX.out.later (Below.refl _ _).drew) (fun hS => ?_)
    refine wpAnyH_take (i := 0) (v := ?_) rfl (by kernel_rfl) (by kernel_rfl) (by kernel_rfl) (fun _ _ _ h => h) (Or.inl ⟨by rfl, ?_⟩) (by assumption) ?_
    rotate_left
    · (intro V hV; go_simp; try with_reducible rfl)
    try simp only [Act.put, List.getElem_toArray, List.getElem_cons_zero, List.setIfInBounds_toArray, List.set_cons_zero, List.set_cons_succ]
    refine wpAnyH_take (i := 1) (v := ?_) rfl (by kernel_rfl) (by kernel_rfl) (by kernel_rfl) (fun _ _ _ h => h) (Or.inl ⟨by rfl, ?_⟩) (by assumption) ?_
    rotate_left
    · (intro V hV; have k0 := hV.dbox 3 _ H3.out; go_simp; try with_reducible rfl)
    try simp only [Act.put, List.getElem_toArray, List.getElem_cons_zero, List.getElem_cons_succ, List.setIfInBounds_toArray, List.set_cons_zero, List.set_cons_succ]
    refine wpAnyH_take (i := 2) (v := ?_) rfl (by kernel_rfl) (by kernel_rfl) (by kernel_rfl) (fun _ _ _ h => h) (Or.inl ⟨by rfl, ?_⟩) (by assumption) ?_
    rotate_left
    · (intro V hV; go_simp; try with_reducible rfl)
    try simp only [Act.put, List.getElem_toArray, List.getElem_cons_zero, List.getElem_cons_succ, List.setIfInBounds_toArray, List.set_cons_zero, List.set_cons_succ]
    refine wpAnyH_take (i := 3) (v := ?_) rfl (by kernel_rfl) (by kernel_rfl) (by kernel_rfl) (fun _ _ _ h => h) (Or.inl ⟨by rfl, ?_⟩) (by assumption) ?_
    rotate_left
    · (intro V hV; go_simp; try with_reducible rfl)
    try simp only [Act.put, List.getElem_toArray, List.getElem_cons_zero, List.getElem_cons_succ, List.setIfInBounds_toArray, List.set_cons_zero, List.set_cons_succ]
    refine wpAnyH_take (i := 4) (v := ?_) rfl (by kernel_rfl) (by kernel_rfl) (by kernel_rfl) (fun _ _ _ h => h) (Or.inl ⟨by rfl, ?_⟩) (by assumption) ?_
    rotate_left
    · (intro V hV; have k0 := hV.dbox 2 _ H2.out; go_simp; try with_reducible rfl)
    try simp only [Act.put, List.getElem_toArray, List.getElem_cons_zero, List.getElem_cons_succ, List.setIfInBounds_toArray, List.set_cons_zero, List.set_cons_succ]
    refine wpAnyH_take (i := 6) (v := ?_) rfl (by kernel_rfl) (by kernel_rfl) (by kernel_rfl) (fun _ _ _ h => h) (Or.inl ⟨by rfl, ?_⟩) (by assumption) ?_
    rotate_left
    · (intro V hV; go_simp; try with_reducible rfl)
    try simp only [Act.put, List.getElem_toArray, List.getElem_cons_zero, List.getElem_cons_succ, List.setIfInBounds_toArray, List.set_cons_zero, List.set_cons_succ]
    refine wpAnyH_take (i := 7) (v := ?_) rfl (by kernel_rfl) (by kernel_rfl) (by kernel_rfl) (fun _ _ _ h => h) (Or.inl ⟨by rfl, ?_⟩) (by assumption) ?_
    rotate_left
    · (intro V hV; have k0 := hV.xbox 1 _ rfl; go_simp; try with_reducible rfl)
    try simp only [Act.put, List.getElem_toArray, List.getElem_cons_zero, List.getElem_cons_succ, List.setIfInBounds_toArray, List.set_cons_zero, List.set_cons_succ]
    refine wpAnyH_ready (rs := [5]) (by kernel_rfl) (by simp) ?_
    refine AllReadyH.cons rfl (fun K hK => ?_) (AllReadyH.nil)
    go_simp
    refine (nms_at (k := nf) (by rw [List.length_map]; exact HFL.out) (bnames_any d.fs F nf cf _ (by have := HFL.out; have := Dc.len_f d; have := HDW.out; omega) (hS.fs H2.out))).mono ?_
    rintro e V1 ⟨NA, nc, rfl, hnc, hsl, hb1⟩
    have SS := hS.later hb1
    have HSL := Lib.hid hsl
    have HNC := Lib.hid hnc
    clear hsl hnc hS hb1
    refine hK.out _ _ SS (fun hS => ?_)
    clear hK K SS
    try simp only [Act.put, List.getElem_toArray, List.getElem_cons_zero, List.getElem_cons_succ, List.setIfInBounds_toArray, List.set_cons_zero, List.set_cons_succ]
    refine wpAnyH_ready (rs := [8]) (by kernel_rfl) (by simp) ?_
    refine AllReadyH.cons rfl (fun K hK => ?_) (AllReadyH.nil)
    go_simp
    refine (bsubst_any (fldSg d.ms) [.string ⟨#[]⟩, .slice none 0 0, .slice Pq np cp, .string ⟨#[]⟩, .slice none 0 0, .int .i64 0, .int .i64 0] (d.fs.map Fo.name) x.args NA A nf m nc c _ (by rw [fldSg_wt]; have h8 := HDW.out; unfold Dc.wt at h8; omega) (ty_argsT HXW.out).1 (by have := HXL.out; have := (ty_argsT HXW.out).2; omega)
      ⟨HNC.out, fun s hs => by obtain ⟨f, hf, rfl⟩ := List.mem_map.1 hs; exact Nat.le_trans (Fo.wt_name (Nat.le_trans (Dc.wt_f hf) (by have := HDW.out; omega))) (by omega)⟩ (fldSg_in (hS.ms H3.out)) HSL.out hS.args).mono ?_
    rintro e V2 ⟨FA, fc, PA, pc, At, mt, at1, mid, rfl, _, hrn, _, _, hm1, hm2, hb2⟩
    have hlo2 : w.heap.size ≤ V1.heap.size := hS.bel.size
    have SS := hS.later hb2
    have HRN := Lib.hid (hrn.wide hlo2)
    have HM := Lib.hid (And.intro (Nat.le_trans hlo2 hm1) hm2)
    clear hrn hm1 hm2 hS hb2 hlo2
    refine hK.out _ _ SS (fun hS => ?_)
    clear hK K SS
    try simp only [Act.put, List.getElem_toArray, List.getElem_cons_zero, List.getElem_cons_succ, List.setIfInBounds_toArray, List.set_cons_zero, List.set_cons_succ]
    have hfd : ∀ V : World, (Instr.field 50 (.agg #[.string ((fldSg d.ms).subst (d.fs.map Fo.name) x.args).name, .slice FA ((fldSg d.ms).subst (d.fs.map Fo.name) x.args).fs.length fc, .slice PA ((fldSg d.ms).subst (d.fs.map Fo.name) x.args).ps.length pc, .string ((fldSg d.ms).subst (d.fs.map Fo.name) x.args).res.name, .slice At mt at1, .int .i64 ((fldSg d.ms).subst (d.fs.map Fo.name) x.args).res.off, .int .i64 ((fldSg d.ms).subst (d.fs.map Fo.name) x.args).off]) 2).run Tryd.prog V = .ok (.slice PA ((fldSg d.ms).subst (d.fs.map Fo.name) x.args).ps.length pc) V := fun V => field_sg2 rfl V
    refine wpAnyH_take (i := 9) (v := .slice PA ((fldSg d.ms).subst (d.fs.map Fo.name) x.args).ps.length pc) rfl (by kernel_rfl) (by kernel_rfl) (by kernel_rfl) (fun _ _ _ h => h) (Or.inl ⟨by rfl, fun V hV => by have hq := hfd V; go_simp; try with_reducible rfl⟩) (by assumption) ?_
    try simp only [Act.put, List.getElem_toArray, List.getElem_cons_zero, List.getElem_cons_succ, List.setIfInBounds_toArray, List.set_cons_zero, List.set_cons_succ]
    refine wpAnyH_take (i := 10) (v := ?_) rfl (by kernel_rfl) (by kernel_rfl) (by kernel_rfl) (fun _ _ _ h => h) (Or.inl ⟨by rfl, ?_⟩) (by assumption) ?_
    rotate_left
    · (intro V hV; go_simp; try with_reducible rfl)
    try simp only [Act.put, List.getElem_toArray, List.getElem_cons_zero, List.getElem_cons_succ, List.setIfInBounds_toArray, List.set_cons_zero, List.set_cons_succ]
    refine wpAnyH_take (i := 11) (v := ?_) rfl (by kernel_rfl) (by kernel_rfl) (by kernel_rfl) (fun _ _ _ h => h) (Or.inl ⟨by rfl, ?_⟩) (by assumption) ?_
    rotate_left
    · (intro V hV; go_simp; try with_reducible rfl)
    try simp only [Act.put, List.getElem_toArray, List.getElem_cons_zero, List.getElem_cons_succ, List.setIfInBounds_toArray, List.set_cons_zero, List.set_cons_succ]
    refine wpAnyH_done (by kernel_rfl) ?_ _
    go_wp2_with fail
    refine bodyPost_ret (results_tmp2 rfl _ _ _) rfl ?_
    refine ⟨.slice PA ((fldSg d.ms).subst (d.fs.map Fo.name) x.args).ps.length pc, by rw [HQ.out]; rfl, fun h => (by rw [HQ.out] at h; cases h), fun _ => ⟨mid, by unfold fieldsT; rw [HDD.out]; exact HRN.out, HM.out⟩, hS.bel⟩
end Go.Proofs.YtjhlehdjdaphcaaDoor
