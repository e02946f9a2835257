/- law11.awake, walked: true. No condition. -/
import Derived.Test.YtjhlehdjdaphcaaDoorQMTbN
namespace Go.Proofs.YtjhlehdjdaphcaaDoor
open Go.RowKit

/-! ### the example -/
def awFo : Fo := ⟨⟨#[97]⟩, .mk ⟨#[65, 110, 121]⟩ [] 0, 0⟩
def awPa : Fo := ⟨⟨#[108]⟩, .mk ⟨#[97]⟩ [] 0, 0⟩
def awDc : Dc := ⟨1, ⟨#[80]⟩, [awFo], [awPa], [], ⟨#[]⟩, [], Sg.none?, Ex.none?, 0⟩
def awPg : Pg := ⟨[awDc], Ex.none?⟩
def awX : Ty := .mk ⟨#[80]⟩ [.mk ⟨#[84]⟩ [] 0] 0
def awY : Ty := .mk ⟨#[80]⟩ [] 0
abbrev awF : List Value := [.string ⟨#[97]⟩, .string ⟨#[65, 110, 121]⟩, .slice none 0 0, .int .i64 0, .int .i64 0]
abbrev awL : List Value := [.string ⟨#[108]⟩, .string ⟨#[97]⟩, .slice none 0 0, .int .i64 0, .int .i64 0]
abbrev awD (f l : Nat) : List Value := [.int .i64 1, .string ⟨#[80]⟩, .slice (some ⟨f, 0, none⟩) 1 1, .slice (some ⟨l, 0, none⟩) 1 1, .slice none 0 0, .string ⟨#[]⟩, .slice none 0 0, .string ⟨#[]⟩, .slice none 0 0, .slice none 0 0, .string ⟨#[]⟩, .slice none 0 0, .int .i64 0, .int .i64 0, .int .i64 0, .string ⟨#[]⟩, .string ⟨#[]⟩, .slice none 0 0, .int .i64 0, .slice none 0 0, .slice none 0 0, .int .i64 0, .int .i64 0]
abbrev awQ (d : Nat) : List Value := [.slice (some ⟨d, 0, none⟩) 1 1, .int .i64 0, .string ⟨#[]⟩, .string ⟨#[]⟩, .slice none 0 0, .int .i64 0, .slice none 0 0, .slice none 0 0, .int .i64 0]
def awW (w : World) : World := (((w.alloc (.cells awF.toArray 65)).alloc (.cells awL.toArray 67)).alloc (.cells (awD w.heap.size (w.heap.size + 1)).toArray 52)).alloc (.cells (awQ (w.heap.size + 1 + 1)).toArray 30)
theorem awFo_in (w : World) (S : Nat → Prop) : awFo.dat.In w False S awF := fo_shut (f := awFo) (m := 0) (by simp [awFo, ByteArray.size]) (by simp [awFo, Ty.name, ByteArray.size]) (LiesN.nil _ _ _ _)
theorem awPa_in (w : World) (S : Nat → Prop) : awPa.dat.In w False S awL := fo_shut (f := awPa) (m := 0) (by simp [awPa, ByteArray.size]) (by simp [awPa, Ty.name, ByteArray.size]) (LiesN.nil _ _ _ _)
theorem awW_in (w : World) : awPg.dat.H (awW w) (awQ (w.heap.size + 1 + 1)) ∧ Boxd (awW w) (w.heap.size + 1 + 1 + 1) (awQ (w.heap.size + 1 + 1)) ∧ Below w.heap.size w (awW w) := by
  unfold awW
  obtain ⟨w1, hw1⟩ : ∃ w1, w.alloc (.cells awF.toArray 65) = w1 := ⟨_, rfl⟩
  have b1 : Below w.heap.size w w1 := hw1 ▸ (Below.refl _ _).alloc (Nat.le_refl _) _
  have x1 : Boxd w1 w.heap.size awF := hw1 ▸ Boxd.new w awF.toArray 65
  have z1 : w1.heap.size = w.heap.size + 1 := by rw [← hw1]; simp
  rw [hw1]
  obtain ⟨w2, hw2⟩ : ∃ w2, w1.alloc (.cells awL.toArray 67) = w2 := ⟨_, rfl⟩
  have b2 : Below w1.heap.size w1 w2 := hw2 ▸ (Below.refl _ _).alloc (Nat.le_refl _) _
  have x2 : Boxd w2 (w.heap.size + 1) awL := by rw [← z1, ← hw2]; exact Boxd.new w1 awL.toArray 67
  have z2 : w2.heap.size = w.heap.size + 1 + 1 := by rw [← hw2]; simp [z1]
  rw [hw2]
  have hd : awDc.dat.H w2 (awD w.heap.size (w.heap.size + 1)) :=
    dc_shut (d := awDc) (F := some ⟨w.heap.size, 0, none⟩) (nf := 1) (cf := 1) (P := some ⟨w.heap.size + 1, 0, none⟩) (np := 1) (cp := 1) (ng := 0) (nv := 0) (by simp [awDc, ByteArray.size]) (row1 (f := awFo) (x1.later b2).at0 (by omega) (awFo_in _ _)) (row1 (f := awPa) x2.at0 (by omega) (awPa_in _ _)) (Row.nil _ _ _ _ _) (by simp [awDc, ByteArray.size]) (Row.nil _ _ _ _ _) none_dat (exNone_in _ _ _)
  have h3 := onePg 52 hd
  rw [z2] at h3
  obtain ⟨w3, hw3⟩ : ∃ w3, w2.alloc (.cells (awD w.heap.size (w.heap.size + 1)).toArray 52) = w3 := ⟨_, rfl⟩
  have b3 : Below w2.heap.size w2 w3 := hw3 ▸ (Below.refl _ _).alloc (Nat.le_refl _) _
  have z3 : w3.heap.size = w.heap.size + 1 + 1 + 1 := by rw [← hw3]; simp [z2]
  rw [hw3] at h3 ⊢
  have b4 : Below w3.heap.size w3 (w3.alloc (.cells (awQ (w.heap.size + 1 + 1)).toArray 30)) := (Below.refl _ _).alloc (Nat.le_refl _) _
  exact ⟨Dat.H.later h3 b4, by rw [← z3]; exact Boxd.new w3 _ _, b1.trans ((b2.trans ((b3.trans (b4.mono b3.size)).mono b2.size)).mono b1.size)⟩
theorem awDc_wt : awDc.wt ≤ 900 := by
  have h1 := none_wtT
  simp [awDc, Dc.wt, sumBy, awFo, awPa, Fo.wt, Ty.wt, Ty.wtL, ByteArray.size, Sg.none?, Sg.wt, Ex.none?, Ex.wt, Ex.wtL]
theorem awPg_wt : awPg.wt ≤ 1990 := by
  have h1 := awDc_wt
  simp [awPg, Pg.wt, sumBy, Ex.none?, Ex.wt, Ex.wtL, Ty.wt, Ty.wtL, ByteArray.size]
  omega
theorem awInX : instT awPg.ds awX 1 = true := rfl
theorem awInY : instT awPg.ds awY 1 = false := rfl
theorem awInS : instT awPg.ds awY 2 = false := rfl
theorem awFld : fieldsT awPg.ds awX = [⟨⟨#[108]⟩, .mk ⟨#[84]⟩ [] 0, 0⟩] := by
  show [awPa].map (Fo.subst [⟨#[97]⟩] [.mk ⟨#[84]⟩ [] 0]) = _
  simp [awPa, Fo.subst, Ty.subst, Ty.pick]
theorem awX_in {w : World} {b : Nat} (h : Boxd w b [.string ⟨#[84]⟩, .slice none 0 0, .int .i64 0]) (hb : b < w.heap.size) : awX.dat.H w [.string ⟨#[80]⟩, .slice (some ⟨b, 0, none⟩) 1 1, .int .i64 0] :=
  ty_shut (t := awX) (B := some ⟨b, 0, none⟩) (m := 1) (c := 1) (by simp [awX, Ty.name, ByteArray.size]) (lies_row.2 (by
    refine ⟨rfl, by omega, Dat.Elems.of fun k d hk => ?_⟩
    match k, hk with
    | 0, hk =>
      obtain rfl := Option.some.inj hk
      exact ⟨⟨b, 0, none⟩, _, rfl, hb, False.elim, ty_shut (t := .mk ⟨#[84]⟩ [] 0) (m := 0) (by simp [Ty.name, ByteArray.size]) (LiesN.nil _ _ _ _), by rw [Nat.zero_add, Nat.zero_mul]; exact h.at0⟩
    | k + 1, hk => simp [awX, Ty.args, Ty.dats] at hk))
theorem awY_in (w : World) (S : Nat → Prop) : awY.dat.In w False S [.string ⟨#[80]⟩, .slice none 0 0, .int .i64 0] :=
  ty_shut (t := awY) (m := 0) (by simp [awY, Ty.name, ByteArray.size]) (LiesN.nil _ _ _ _)
theorem awX_wt : awX.wt ≤ 1000 := by simp [awX, Ty.wt, Ty.wtL, ByteArray.size]
theorem awY_wt : awY.wt ≤ 1000 := by simp [awY, Ty.wt, Ty.wtL, ByteArray.size]

/-! ### the walk -/
set_option maxRecDepth 100000 in
set_option maxHeartbeats 8000000 in
theorem tawake_any (w : World) : Calls Tryd.prog 8 #[] w (EqvPost w true) := by
  obtain ⟨hI, hQ, hB⟩ := awW_in w
  have HB0 := Lib.hid hB
  have HQ := Lib.hid hQ.at0
  have C := Lib.hid (tnew_any awPg _ _ awPg_wt hI)
  clear hI hQ hB
  go_enter Tryd.func8, Tryd.ntmps8
  go_upto_region 2 with fail
  rw [show (((w.alloc (.cells awF.toArray 65)).alloc (.cells awL.toArray 67)).alloc (.cells (awD w.heap.size (w.heap.size + 1)).toArray 52)).alloc (.cells (awQ (w.heap.size + 1 + 1)).toArray 30) = awW w from rfl]
  generalize awW w = W at *
  go_wp2_with (refine loadOp flatPg 1 19 rfl HQ.out rfl ?_)
  refine C.out.mono ?_
  rintro e w1 ⟨tb, rfl, hT, hb1⟩
  have HB1 := Lib.hid (HB0.out.trans (hb1.mono HB0.out.size))
  obtain ⟨lo, hlo⟩ : ∃ lo, w1.heap.size = lo := ⟨_, rfl⟩
  rw [hlo] at hT
  have HT1 := Lib.hid (show TabR lo w1 (.pointer (some ⟨tb, 0, none⟩)) awPg from .inr ⟨tb, rfl, hT⟩)
  have HLO := Lib.hid (Nat.le_of_eq hlo.symm)
  clear hT hb1 C HQ HB0 hlo
  have hb2 : Below w1.heap.size w1 (w1.alloc (.cells #[.string ⟨#[84]⟩, .slice none 0 0, .int .i64 0] 25)) := (Below.refl _ _).alloc (Nat.le_refl _) _
  have HX := Lib.hid (awX_in (Boxd.new w1 #[.string ⟨#[84]⟩, .slice none 0 0, .int .i64 0] 25) (by simp))
  have HZ2 := Lib.hid (show (w1.alloc (.cells #[.string ⟨#[84]⟩, .slice none 0 0, .int .i64 0] 25)).heap.size = w1.heap.size + 1 by simp)
  obtain ⟨W2, hW2⟩ : ∃ X, w1.alloc (.cells #[.string ⟨#[84]⟩, .slice none 0 0, .int .i64 0] 25) = X := ⟨_, rfl⟩
  rw [hW2] at HX HZ2 hb2
  have HW2 := Lib.hid hW2
  have HT2 := Lib.hid (HT1.out.later hb2)
  have HB2 := Lib.hid (HB1.out.trans (hb2.mono HB1.out.size))
  have HLO2 := Lib.hid (Nat.le_trans HLO.out hb2.size)
  have C2 := Lib.hid (tfields_any lo _ awPg awX _ W2 (fun d hd => by rw [show d = awDc from List.mem_singleton.1 hd]; exact awDc_wt) awX_wt HLO2.out HX.out HT2.out)
  clear hb2 hW2 HT1
  go_upto_region 6 with fail
  go_wp2_with fail
  rw [HW2.out]
  clear HW2
  refine C2.out.mono ?_
  rintro e w3 ⟨v, rfl, _, hf, hb3⟩
  obtain ⟨mid, hr, hm1, hm2⟩ := hf awInX
  rw [awInX]
  rw [awFld] at hr
  obtain ⟨FA, fc, rfl, _, hrow⟩ := hr.row (by simp) hm1 hm2
  obtain ⟨pu, fo, fus, rfl, hfo, _, _, hin, hcs⟩ := dat_at (xs := [(⟨⟨#[108]⟩, .mk ⟨#[84]⟩ [] 0, 0⟩ : Fo)]) (n := 1) (k := 0) hrow (by omega)
  obtain rfl := Option.some.inj hfo
  obtain ⟨fA, fm, fa, rfl, _, _, _⟩ := fo_open hin
  have HC1 := Lib.hid (show w3.cell? ⟨pu.block, pu.off + 1, none⟩ = some (.string ⟨#[84]⟩) from by have := hcs 1 (.string ⟨#[84]⟩) rfl; simpa [Nat.zero_mul, add_zero_addr, Addr.add] using this)
  have HT3 := Lib.hid (HT2.out.later hb3)
  have HB3 := Lib.hid (HB2.out.trans (hb3.mono HB2.out.size))
  have HLO3 := Lib.hid (Nat.le_trans HLO2.out hb3.size)
  have HCX3 := HC1
  clear C2 hb3 hr hrow hin hcs hf hfo HX
  have C3 := Lib.hid (tfields_any lo _ awPg awY _ w3 (fun d hd => by rw [show d = awDc from List.mem_singleton.1 hd]; exact awDc_wt) awY_wt HLO3.out (awY_in _ _) HT3.out)
  go_wp2_with fail
  refine C3.out.mono ?_
  rintro e w4 ⟨v, rfl, hv, _, hb4⟩
  obtain rfl := hv awInY
  rw [awInY]
  have HT4 := Lib.hid (HT3.out.later hb4)
  have HB4 := Lib.hid (HB3.out.trans (hb4.mono HB3.out.size))
  have HLO4 := Lib.hid (Nat.le_trans HLO3.out hb4.size)
  have HC4 := Lib.hid (show w4.cell? ⟨pu.block, pu.off + 1, none⟩ = some (.string ⟨#[84]⟩) from (hb4.cell (by exact cell_lt HC1.out)).trans HC1.out)
  clear C3 hb4 hv HC1 HCX3
  have C4 := Lib.hid (tspecs_no lo _ awPg awY _ w4 HLO4.out (awY_in _ _) HT4.out awInS)
  go_wp2_with fail
  refine C4.out.mono ?_
  rintro e w5 ⟨rfl, hb5⟩
  have HT5 := Lib.hid (HT4.out.later hb5)
  have HB5 := Lib.hid (HB4.out.trans (hb5.mono HB4.out.size))
  have HLO5 := Lib.hid (Nat.le_trans HLO4.out hb5.size)
  have HC5 := Lib.hid (show w5.cell? ⟨pu.block, pu.off + 1, none⟩ = some (.string ⟨#[84]⟩) from (hb5.cell (by exact cell_lt HC4.out)).trans HC4.out)
  clear C4 hb5 HC4
  have C5 := Lib.hid (show Calls Tryd.prog 14 #[.pointer (some ⟨tb, 0, none⟩), .string ⟨#[80]⟩] w5 fun e w' => e = .returned (.int .i64 1) ∧ Below w5.heap.size w5 w' from tkind_any lo _ awPg ⟨#[80]⟩ w5 (by simp [ByteArray.size]) HT5.out)
  have hc5 := HC5.out
  have hfl1 : ∀ V : World, V = V := fun _ => rfl
  go_wp2_with fail
  refine C5.out.mono ?_
  rintro e w6 ⟨rfl, hb6⟩
  have HT6 := Lib.hid (HT5.out.later hb6)
  have HB6 := Lib.hid (HB5.out.trans (hb6.mono HB5.out.size))
  have HLO6 := Lib.hid (Nat.le_trans HLO5.out hb6.size)
  clear C5 hb6 HC5 hc5 hfl1
  have C6 := Lib.hid (show Calls Tryd.prog 14 #[.pointer (some ⟨tb, 0, none⟩), .string ⟨#[81]⟩] w6 fun e w' => e = .returned (.int .i64 0) ∧ Below w6.heap.size w6 w' from tkind_any lo _ awPg ⟨#[81]⟩ w6 (by simp [ByteArray.size]) HT6.out)
  go_wp2_with fail
  refine C6.out.mono ?_
  rintro e w7 ⟨rfl, hb7⟩
  have HT7 := Lib.hid (HT6.out.later hb7)
  have HB7 := Lib.hid (HB6.out.trans (hb7.mono HB6.out.size))
  have HLO7 := Lib.hid (Nat.le_trans HLO6.out hb7.size)
  clear C6 hb7
  have C7 := Lib.hid (tformals_any lo _ awPg ⟨#[80]⟩ w7 (fun d hd => by rw [show d = awDc from List.mem_singleton.1 hd]; exact Nat.le_trans awDc_wt (by omega)) HLO7.out (by simp [ByteArray.size]) HT7.out)
  go_wp2_with fail
  refine C7.out.mono ?_
  rintro e w8 ⟨QA, qc, rfl, _, hb8⟩
  have HT8 := Lib.hid (HT7.out.later hb8)
  have HB8 := Lib.hid (HB7.out.trans (hb8.mono HB7.out.size))
  have HLO8 := Lib.hid (Nat.le_trans HLO7.out hb8.size)
  clear C7 hb8
  rw [show (tyD awPg.ds ⟨#[80]⟩).fs.length = 1 from rfl]
  have C8 := Lib.hid (show Calls Tryd.prog 14 #[.pointer none, .string ⟨#[80]⟩] w8 fun e w' => e = .returned (.int .i64 0) ∧ Below w8.heap.size w8 w' from tkind_any lo _ ⟨[], Ex.none?⟩ ⟨#[80]⟩ w8 (by simp [ByteArray.size]) (.inl ⟨rfl, rfl⟩))
  go_wp2_with fail
  refine C8.out.mono ?_
  rintro e w9 ⟨rfl, hb9⟩
  have HT9 := Lib.hid (HT8.out.later hb9)
  have HB9 := Lib.hid (HB8.out.trans (hb9.mono HB8.out.size))
  have HLO9 := Lib.hid (Nat.le_trans HLO8.out hb9.size)
  clear C8 hb9
  have C9 := Lib.hid (tprogram_any lo _ awPg w9 awPg_wt HLO9.out HT9.out)
  go_wp2_with fail
  refine C9.out.mono ?_
  rintro e w10 ⟨qs, rfl, hq, hb10⟩
  obtain ⟨QD, qd, qe, qv, rfl, hqr, hqv⟩ := pg_open hq
  have hql : qv.length = 8 := (Dat.In.len _ _ hqv).trans (Ex.dat_size _)
  obtain rfl : 1 = qd := hqr.len
  have hfl := field_pg0 (us := .slice QD 1 qe :: qv) (by simp [hql]) rfl
  have HB10 := Lib.hid (HB9.out.trans (hb10.mono HB9.out.size))
  clear C9 hb10 hq hqr hqv hql
  go_wp2_with fail
  go_ret
  exact ⟨rfl, HB10.out⟩
end Go.Proofs.YtjhlehdjdaphcaaDoor
