/- The law TableMethods: true, at every input. The condition: the table of powers. -/
import Derived.Test.YtjhlehdjdaphcaaDoorQMDrN
import Derived.Test.YtjhlehdjdaphcaaDoorQMTbL
import Derived.Test.YtjhlehdjdaphcaaDoorQMTbO
import Derived.Test.YtjhlehdjdaphcaaDoorQMTbQ
import Derived.Test.YtjhlehdjdaphcaaDoorQMTbU
namespace Go.Proofs.YtjhlehdjdaphcaaDoor
open Go.RowKit

theorem eqvL8T : ∀ ts : List Ty, Ty.eqvL ts ts = true
  | [] => by simp only [Ty.eqvL]
  | t :: r => by rw [Ty.eqvL, Ty.eqv_refl, eqvL8T r]; rfl
theorem eqv8T : ∀ e : Ex, e.eqv e = true := by
  refine Ex.ind fun k s t ts xs o ih => ?_
  have hL : ∀ ys : List Ex, (∀ y ∈ ys, y.eqv y = true) → Ex.eqvL ys ys = true := by
    intro ys
    induction ys with
    | nil => intro _; simp only [Ex.eqvL]
    | cons y r ih2 => intro h; rw [Ex.eqvL, h y (by simp), ih2 fun z hz => h z (by simp [hz])]; rfl
  rw [Ex.eqv, Ty.eqv_refl, eqvL8T, hL xs ih]
  simp
theorem fo_exactT (f : Fo) : Fo.sameX true f f = true := by simp [Fo.sameX, bytesEq, cmp_refl, Ty.eqv_refl]
theorem sg_exactT (s : Sg) : Sg.sameX true s s = true := by
  rw [Sg.sameX, sameBy_refl fo_exactT, sameBy_refl fo_exactT, cmp_refl, Ty.eqv_refl, bytesEq_refl]
  simp
theorem dc_exactT (d : Dc) : Dc.sameX true d d = true := by
  rw [Dc.sameX, sameBy_refl fo_exactT, sameBy_refl fo_exactT, sameBy_refl sg_exactT, sameBy_refl bytesEq_refl, sg_exactT, Ex.same_refl', eqv8T, bytesEq_refl, bytesEq_refl]
  simp
theorem ty_open3 {w : World} {S : Nat → Prop} {x : Ty} {A : Option Addr} {m c : Nat} (h : x.dat.In w False S [.string x.name, .slice A m c, .int .i64 x.off]) : LiesN w False S A m x.args := by
  obtain ⟨A1, m1, c1, e, _, ha⟩ := ty_open h
  simp only [List.cons.injEq, Value.slice.injEq, true_and, and_true] at e
  obtain ⟨rfl, rfl, rfl⟩ := e
  exact ha
set_option maxRecDepth 100000 in
set_option maxHeartbeats 8000000 in
theorem tableMethods_law (p : Pg) (us : List Value) (x : Ty) (xs : List Value) (s : ByteArray) (w : World) (h : p.dat.H w us) (hx : x.dat.H w xs) (hs : s.size ≤ 9223372036854775807) (hE : PowVar w) :
    Calls Tryd.prog 4 #[.agg us.toArray, .agg xs.toArray, .string s] w (EqvPost w true) := by
  obtain ⟨A, m, c, rfl, hxn, hxa⟩ := ty_open hx
  have HS0 := PT.new h hx
  obtain ⟨W0, hW0⟩ : ∃ W0, (w.alloc (.cells us.toArray 30)).alloc (.cells [.string x.name, .slice A m c, .int .i64 x.off].toArray 25) = W0 := ⟨_, rfl⟩
  rw [hW0] at HS0
  have HS0 := Lib.hid HS0
  have HP0 := Lib.hid (hE.later HS0.out.bel)
  have HW0 := Lib.hid (show (w.alloc (.cells us.toArray 30)).alloc (.cells #[.string x.name, .slice A m c, .int .i64 x.off] 25) = W0 from hW0)
  have HUL := Lib.hid (show us.length = 9 from (Dat.In.len _ _ h).trans (Pg.dat_size _))
  have HXN := Lib.hid hxn
  have HSZ := Lib.hid hs
  have hsi : (s.size : Int) ≤ 9223372036854775807 := by omega
  obtain ⟨ql, hql⟩ : ∃ q, ((methodsT p.ds x).map Sg.dat).length = q := ⟨_, rfl⟩
  have HQL := Lib.hid hql
  clear hW0 h hx hxn hxa hs hE hql
  go_enter Tryd.func4, Tryd.ntmps4
  go_upto_region 1 with fail
  rw [HW0.out]
  clear HW0
  go_wp2_with fail
  refine (tawake_any _).mono ?_
  rintro e w1 ⟨rfl, hb1⟩
  have HS1 := Lib.hid (HS0.out.later hb1)
  have HP1 := Lib.hid (HP0.out.later hb1)
  clear hb1
  go_wp2_with (refine loadOpQ flatPg 3 15 rfl rfl HS1.out.prog.box.at0 HUL.out ?_)
  refine (rfewPg_any p us _ HS1.out.prog.dat).mono ?_
  rintro e w2 ⟨rfl, hb2⟩
  have HS2 := Lib.hid (HS1.out.later hb2)
  have HP2 := Lib.hid (HP1.out.later hb2)
  clear hb2
  cases hf : p.few
  · clear hf
    go_upto_region 2 with fail
    go_wp2_with fail
    refine (tawake_any _).mono ?_
    rintro e w9 ⟨rfl, hb9⟩
    have HS9 := Lib.hid (HS2.out.later hb9)
    clear hb9
    go_wp2_with fail
    go_ret
    exact ⟨rfl, HS9.out.bel⟩
  have HPW := Lib.hid (Pg.wt_few hf)
  clear hf
  go_wp2_with (refine loadOpQ flatTy3 4 20 rfl rfl HS2.out.box.at0 rfl ?_)
  refine (few_any x A m c w2 HXN.out (ty_open3 HS2.out.dat)).mono ?_
  rintro e w3 ⟨rfl, hb3⟩
  have HS3 := Lib.hid (HS2.out.later hb3)
  have HP3 := Lib.hid (HP2.out.later hb3)
  clear hb3
  cases hf : x.few
  · clear hf
    go_upto_region 2 with fail
    go_wp2_with fail
    refine (tawake_any _).mono ?_
    rintro e w9 ⟨rfl, hb9⟩
    have HS9 := Lib.hid (HS3.out.later hb9)
    clear hb9
    go_wp2_with fail
    go_ret
    exact ⟨rfl, HS9.out.bel⟩
  have HXW := Lib.hid (show x.wt ≤ 1000 from Nat.le_trans (few_wtT hf) (by omega))
  clear hf
  by_cases hl : s.size ≤ 300
  rotate_left
  · have y0 : (300 : Int) < s.size := by omega
    go_upto_region 2 with fail
    go_wp2_with fail
    refine (tawake_any _).mono ?_
    rintro e w9 ⟨rfl, hb9⟩
    have HS9 := Lib.hid (HS3.out.later hb9)
    clear hb9
    go_wp2_with fail
    go_ret
    exact ⟨rfl, HS9.out.bel⟩
  have y0 : (s.size : Int) ≤ 300 := by omega
  have HDW := Lib.hid (show ∀ d ∈ p.ds, d.wt ≤ 900 from fun d hd => by have := Pg.wt_d hd; have := HPW.out; omega)
  have HPL := Lib.hid (show p.ds.length ≤ 1990 by have := Pg.len_d p; have := HPW.out; omega)
  clear hl
  go_upto_region 3 with fail
  go_wp2_with (refine loadOpQ flatPg 3 30 rfl rfl HS3.out.prog.box.at0 HUL.out ?_)
  refine (tnewC_any p us w3 (by have := HPW.out; omega) HS3.out.prog.dat).mono ?_
  rintro e w4 ⟨tb, rfl, hT, hC, hb4⟩
  obtain ⟨lo, hlo⟩ : ∃ lo, w4.heap.size = lo := ⟨_, rfl⟩
  rw [hlo] at hT hC
  have HT4 := Lib.hid (show TabR lo w4 (.pointer (some ⟨tb, 0, none⟩)) p from .inr ⟨tb, rfl, hT⟩)
  have HC4 := Lib.hid (show CapR lo w4 (.pointer (some ⟨tb, 0, none⟩)) from fun t2 D nd cd e hc => by
    have e2 : tb = t2 := by injection e with e; injection e with e; injection e
    subst e2
    exact hC D nd cd hc)
  have HL4 := Lib.hid (Nat.le_of_eq hlo.symm)
  have HS4 := Lib.hid (HS3.out.later hb4)
  have HP4 := Lib.hid (HP3.out.later hb4)
  clear hb4 hT hC hlo y0 hsi
  cases hz : methodT p.ds x s with
  | none =>
    have HZ := Lib.hid hz
    clear hz
    have C5 := Lib.hid (tmethod_any lo (.pointer (some ⟨tb, 0, none⟩)) p x _ s w4 HDW.out HL4.out HSZ.out HS4.out.dat HT4.out)
    go_wp2_with (refine loadOpQ flatTy3 4 34 rfl rfl HS4.out.box.at0 rfl ?_)
    refine C5.out.mono ?_
    rintro e w5 ⟨us5, rfl, hd5, hb5⟩
    clear C5
    rw [show (methodT p.ds x s).isSome = false from by rw [HZ.out]; rfl]
    obtain ⟨d, hdd⟩ : ∃ d, mtD p.ds x s = d := ⟨_, rfl⟩
    rw [hdd] at hd5
    have HDD := Lib.hid hdd
    have HM23 := Lib.hid (dc_len hd5)
    have HMO := Lib.hid (dc_cells hd5)
    obtain ⟨W6, hP6⟩ := putZ z23 52 w5 (us := us5) (dc_len hd5)
    have HPP := Lib.hid hP6
    have hb6 := hb5.trans (hP6.bel.mono hb5.size)
    have HMB6 := Lib.hid hP6.box
    have HMD6 := Lib.hid (Dat.H.later (hd5.wide fun b hb => hb.2) hP6.bel)
    have HS6 := Lib.hid (HS4.out.later hb6)
    have HP6 := Lib.hid (HP4.out.later hb6)
    have HT6 := Lib.hid (HT4.out.later hb6)
    have HC6 := Lib.hid (HC4.out.later HT4.out hb6)
    have HL6 := Lib.hid (Nat.le_trans HL4.out hb6.size)
    clear hd5 hb5 hb6 hP6 hdd
    go_upto_region 5 with (refine storeOp flatDc 8 37 (b := w5.heap.size) (o := 0) (us := us5) rfl rfl HPP.out.there HMO.out HM23.out ?_; rw [HPP.out.eq])
    clear HPP
    go_wp2_with (first
      | (refine loadOpQ flatPg 3 39 rfl rfl HS6.out.prog.box.at0 HUL.out ?_)
      | (refine loadOpQ flatTy3 4 40 rfl rfl HS6.out.box.at0 rfl ?_))
    refine (rmethod_any p x us _ s _ HS6.out.prog.dat HS6.out.dat).mono ?_
    rintro e w7 ⟨rfl, hb7⟩
    rw [HZ.out, show idxI none = -1 from rfl]
    have HS7 := Lib.hid (HS6.out.later hb7)
    have HP7 := Lib.hid (HP6.out.later hb7)
    have HT7 := Lib.hid (HT6.out.later hb7)
    have HC7 := Lib.hid (HC6.out.later HT6.out hb7)
    have HL7 := Lib.hid (Nat.le_trans HL6.out hb7.size)
    have HMB7 := Lib.hid (HMB6.out.later hb7)
    have HMD7 := Lib.hid (Dat.H.later HMD6.out hb7)
    clear hb7
    obtain ⟨W8, hP8⟩ := putZ z23 52 w7 (us := [.int .i64 0, .string ⟨#[]⟩, .slice none 0 0, .slice none 0 0, .slice none 0 0, .string ⟨#[]⟩, .slice none 0 0, .string ⟨#[]⟩, .slice none 0 0, .slice none 0 0, .string ⟨#[]⟩, .slice none 0 0, .int .i64 0, .int .i64 0, .int .i64 0, .string ⟨#[]⟩, .string ⟨#[]⟩, .slice none 0 0, .int .i64 0, .slice none 0 0, .slice none 0 0, .int .i64 0, .int .i64 0]) rfl
    have HPP := Lib.hid hP8
    go_upto_region 7 with (refine storeOp flatDc 11 43 (b := w7.heap.size) (o := 0) (us := [.int .i64 0, .string ⟨#[]⟩, .slice none 0 0, .slice none 0 0, .slice none 0 0, .string ⟨#[]⟩, .slice none 0 0, .string ⟨#[]⟩, .slice none 0 0, .slice none 0 0, .string ⟨#[]⟩, .slice none 0 0, .int .i64 0, .int .i64 0, .int .i64 0, .string ⟨#[]⟩, .string ⟨#[]⟩, .slice none 0 0, .int .i64 0, .slice none 0 0, .slice none 0 0, .int .i64 0, .int .i64 0]) rfl rfl HPP.out.there z23_all rfl ?_; rw [HPP.out.eq])
    have hb8 := HPP.out.bel
    have HS8 := Lib.hid (HS7.out.later hb8)
    have HP8 := Lib.hid (HP7.out.later hb8)
    have HT8 := Lib.hid (HT7.out.later hb8)
    have HC8 := Lib.hid (HC7.out.later HT7.out hb8)
    have HL8 := Lib.hid (Nat.le_trans HL7.out hb8.size)
    have HMB := Lib.hid (HMB7.out.later hb8)
    have HMD := Lib.hid (Dat.H.later HMD7.out hb8)
    have HWB := Lib.hid HPP.out.box
    have HWD := Lib.hid (show d.dat.H W8 [.int .i64 0, .string ⟨#[]⟩, .slice none 0 0, .slice none 0 0, .slice none 0 0, .string ⟨#[]⟩, .slice none 0 0, .string ⟨#[]⟩, .slice none 0 0, .slice none 0 0, .string ⟨#[]⟩, .slice none 0 0, .int .i64 0, .int .i64 0, .int .i64 0, .string ⟨#[]⟩, .string ⟨#[]⟩, .slice none 0 0, .int .i64 0, .slice none 0 0, .slice none 0 0, .int .i64 0, .int .i64 0] from by rw [← HDD.out, mtD_no (by rw [HZ.out]; rfl)]; exact dcNone_in _ _ _)
    have HW23 := Lib.hid (show ([.int .i64 0, .string ⟨#[]⟩, .slice none 0 0, .slice none 0 0, .slice none 0 0, .string ⟨#[]⟩, .slice none 0 0, .string ⟨#[]⟩, .slice none 0 0, .slice none 0 0, .string ⟨#[]⟩, .slice none 0 0, .int .i64 0, .int .i64 0, .int .i64 0, .string ⟨#[]⟩, .string ⟨#[]⟩, .slice none 0 0, .int .i64 0, .slice none 0 0, .slice none 0 0, .int .i64 0, .int .i64 0] : List Value).length = 23 from rfl)
    obtain ⟨qs, hqs⟩ : ∃ qs : List Value, [.int .i64 0, .string ⟨#[]⟩, .slice none 0 0, .slice none 0 0, .slice none 0 0, .string ⟨#[]⟩, .slice none 0 0, .string ⟨#[]⟩, .slice none 0 0, .slice none 0 0, .string ⟨#[]⟩, .slice none 0 0, .int .i64 0, .int .i64 0, .int .i64 0, .string ⟨#[]⟩, .string ⟨#[]⟩, .slice none 0 0, .int .i64 0, .slice none 0 0, .slice none 0 0, .int .i64 0, .int .i64 0] = qs := ⟨_, rfl⟩
    rw [hqs] at HWB HWD HW23
    clear hqs HPP hP8 hb8
    have HSV := HS8
    have HPV := HP8
    have HTV := HT8
    have HCV := HC8
    have HLV := HL8
    generalize W8 = V0 at *
    have hdr : Below V0.heap.size V0 V0.drew := (Below.refl V0.heap.size V0).drew
    have HSY := Lib.hid (HSV.out.later hdr)
    have HPY := Lib.hid (HPV.out.later hdr)
    have HTY := Lib.hid (HTV.out.later hdr)
    have HCY := Lib.hid (HCV.out.later HTV.out hdr)
    have HLY := Lib.hid (Nat.le_trans HLV.out hdr.size)
    have HMY := Lib.hid (HMB.out.later hdr)
    have HWY := Lib.hid (HWB.out.later hdr)
    have HDM := Lib.hid (Dat.H.later HMD.out hdr)
    have HDWY := Lib.hid (Dat.H.later HWD.out hdr)
    clear hdr
    go_upto_region 9 with fail
    go_wp2_with fail
    refine wp_region_held_drew (S := fun V => Below V0.drew.heap.size V0.drew V) (by kernel_rfl) (Below.refl _ _) (fun hS => ?_)
    generalize V0.drew = Y at *
    refine wpAnyH_take (i := 0) (v := ?_) rfl (by kernel_rfl) (by kernel_rfl) (by kernel_rfl) (fun _ _ _ h => h) (Or.inl ⟨by rfl, ?_⟩) (by assumption) ?_
    rotate_left
    · (intro V hV; go_simp; try with_reducible rfl)
    try simp only [Act.put, List.getElem_toArray, List.getElem_cons_zero, List.setIfInBounds_toArray, List.set_cons_zero, List.set_cons_succ]
    refine wpAnyH_take (i := 1) (v := ?_) rfl (by kernel_rfl) (by kernel_rfl) (by kernel_rfl) (fun _ _ _ h => h) (Or.inl ⟨by rfl, ?_⟩) (by assumption) ?_
    rotate_left
    · (intro V hV; go_simp; try with_reducible rfl)
    try simp only [Act.put, List.getElem_toArray, List.getElem_cons_zero, List.getElem_cons_succ, List.setIfInBounds_toArray, List.set_cons_zero, List.set_cons_succ]
    refine wpAnyH_take (i := 2) (v := ?_) rfl (by kernel_rfl) (by kernel_rfl) (by kernel_rfl) (fun _ _ _ h => h) (Or.inl ⟨by rfl, ?_⟩) (by assumption) ?_
    rotate_left
    · (intro V hV; go_simp; try with_reducible rfl)
    try simp only [Act.put, List.getElem_toArray, List.getElem_cons_zero, List.getElem_cons_succ, List.setIfInBounds_toArray, List.set_cons_zero, List.set_cons_succ]
    refine wpAnyH_take (i := 3) (v := ?_) rfl (by kernel_rfl) (by kernel_rfl) (by kernel_rfl) (fun _ _ _ h => h) (Or.inl ⟨by rfl, ?_⟩) (by assumption) ?_
    rotate_left
    · (intro V hV; go_simp; try with_reducible rfl)
    try simp only [Act.put, List.getElem_toArray, List.getElem_cons_zero, List.getElem_cons_succ, List.setIfInBounds_toArray, List.set_cons_zero, List.set_cons_succ]
    refine wpAnyH_take (i := 4) (v := ?_) rfl (by kernel_rfl) (by kernel_rfl) (by kernel_rfl) (fun _ _ _ h => h) (Or.inl ⟨by rfl, ?_⟩) (by assumption) ?_
    rotate_left
    · (intro V hV; go_simp; try with_reducible rfl)
    try simp only [Act.put, List.getElem_toArray, List.getElem_cons_zero, List.getElem_cons_succ, List.setIfInBounds_toArray, List.set_cons_zero, List.set_cons_succ]
    refine wpAnyH_take (i := 5) (v := .agg us5.toArray) rfl (by kernel_rfl) (by kernel_rfl) (by kernel_rfl) (fun _ _ _ h => h) (Or.inl ⟨by rfl, fun V hV => loadYieldB flatDc rfl (HMY.out.later hV).at0 HM23.out⟩) (by assumption) ?_
    try simp only [Act.put, List.getElem_toArray, List.getElem_cons_zero, List.getElem_cons_succ, List.setIfInBounds_toArray, List.set_cons_zero, List.set_cons_succ]
    refine wpAnyH_take (i := 6) (v := .agg qs.toArray) rfl (by kernel_rfl) (by kernel_rfl) (by kernel_rfl) (fun _ _ _ h => h) (Or.inl ⟨by rfl, fun V hV => loadYieldB flatDc rfl (HWY.out.later hV).at0 HW23.out⟩) (by assumption) ?_
    try simp only [Act.put, List.getElem_toArray, List.getElem_cons_zero, List.getElem_cons_succ, List.setIfInBounds_toArray, List.set_cons_zero, List.set_cons_succ]
    refine wpAnyH_ready (rs := [7]) (by kernel_rfl) (by simp) ?_
    refine AllReadyH.cons rfl (fun K hK => ?_) (AllReadyH.nil)
    go_simp
    refine (rdecl_any d d us5 qs true _ (Dat.H.later HDM.out hS) (Dat.H.later HDWY.out hS)).mono ?_
    rintro e V1 ⟨rfl, hb1⟩
    rw [dc_exactT]
    have SS := hS.trans (hb1.mono hS.size)
    clear hS hb1
    refine hK.out _ _ SS (fun hS => ?_)
    clear hK K SS
    try simp only [Act.put, List.getElem_toArray, List.getElem_cons_zero, List.getElem_cons_succ, List.setIfInBounds_toArray, List.set_cons_zero, List.set_cons_succ]
    refine wpAnyH_take (i := 8) (v := ?_) rfl (by kernel_rfl) (by kernel_rfl) (by kernel_rfl) (fun _ _ _ h => h) (Or.inl ⟨by rfl, ?_⟩) (by assumption) ?_
    rotate_left
    · (intro V hV; go_simp; try with_reducible rfl)
    try simp only [Act.put, List.getElem_toArray, List.getElem_cons_zero, List.getElem_cons_succ, List.setIfInBounds_toArray, List.set_cons_zero, List.set_cons_succ]
    refine wpAnyH_take (i := 9) (v := ?_) rfl (by kernel_rfl) (by kernel_rfl) (by kernel_rfl) (fun _ _ _ h => h) (Or.inl ⟨by rfl, ?_⟩) (by assumption) ?_
    rotate_left
    · (intro V hV; go_simp; try with_reducible rfl)
    try simp only [Act.put, List.getElem_toArray, List.getElem_cons_zero, List.getElem_cons_succ, List.setIfInBounds_toArray, List.set_cons_zero, List.set_cons_succ]
    refine wpAnyH_take (i := 10) (v := ?_) rfl (by kernel_rfl) (by kernel_rfl) (by kernel_rfl) (fun _ _ _ h => h) (Or.inl ⟨by rfl, ?_⟩) (by assumption) ?_
    rotate_left
    · (intro V hV; go_simp; try with_reducible rfl)
    try simp only [Act.put, List.getElem_toArray, List.getElem_cons_zero, List.getElem_cons_succ, List.setIfInBounds_toArray, List.set_cons_zero, List.set_cons_succ]
    refine wpAnyH_take (i := 11) (v := .agg ([.string x.name, .slice A m c, .int .i64 x.off] : List Value).toArray) rfl (by kernel_rfl) (by kernel_rfl) (by kernel_rfl) (fun _ _ _ h => h) (Or.inl ⟨by rfl, fun V hV => loadYieldB flatTy3 rfl (HSY.out.later hV).box.at0 rfl⟩) (by assumption) ?_
    try simp only [Act.put, List.getElem_toArray, List.getElem_cons_zero, List.getElem_cons_succ, List.setIfInBounds_toArray, List.set_cons_zero, List.set_cons_succ]
    refine wpAnyH_take (i := 13) (v := .agg us.toArray) rfl (by kernel_rfl) (by kernel_rfl) (by kernel_rfl) (fun _ _ _ h => h) (Or.inl ⟨by rfl, fun V hV => loadYieldB flatPg rfl (HSY.out.later hV).prog.box.at0 HUL.out⟩) (by assumption) ?_
    try simp only [Act.put, List.getElem_toArray, List.getElem_cons_zero, List.getElem_cons_succ, List.setIfInBounds_toArray, List.set_cons_zero, List.set_cons_succ]
    refine wpAnyH_take (i := 14) (v := .agg ([.string x.name, .slice A m c, .int .i64 x.off] : List Value).toArray) rfl (by kernel_rfl) (by kernel_rfl) (by kernel_rfl) (fun _ _ _ h => h) (Or.inl ⟨by rfl, fun V hV => loadYieldB flatTy3 rfl (HSY.out.later hV).box.at0 rfl⟩) (by assumption) ?_
    try simp only [Act.put, List.getElem_toArray, List.getElem_cons_zero, List.getElem_cons_succ, List.setIfInBounds_toArray, List.set_cons_zero, List.set_cons_succ]
    refine wpAnyH_ready (rs := [12]) (by kernel_rfl) (by simp) ?_
    refine AllReadyH.cons rfl (fun K hK => ?_) (AllReadyH.nil)
    go_simp
    refine (tmethods_any lo (.pointer (some ⟨tb, 0, none⟩)) p x _ _ HDW.out HPL.out HXW.out (Nat.le_trans HLY.out hS.size) (HSY.out.later hS).dat (HTY.out.later hS) (HCY.out.later HTY.out hS) (HPY.out.later hS)).mono ?_
    rintro e V2 ⟨MA, mc, rfl, hra, hb2⟩
    rw [HQL.out] at hra ⊢
    have HRA := Lib.hid hra
    have HBA := Lib.hid (hS.trans (hb2.mono hS.size))
    clear hra
    have SS := hS.trans (hb2.mono hS.size)
    clear hS hb2
    refine hK.out _ _ SS (fun hS => ?_)
    clear hK K SS
    try simp only [Act.put, List.getElem_toArray, List.getElem_cons_zero, List.getElem_cons_succ, List.setIfInBounds_toArray, List.set_cons_zero, List.set_cons_succ]
    refine wpAnyH_ready (rs := [15]) (by kernel_rfl) (by simp) ?_
    refine AllReadyH.cons rfl (fun K hK => ?_) (AllReadyH.nil)
    go_simp
    refine (rmethods_any p x us _ _ HDW.out HPL.out HXW.out (HSY.out.later hS).prog.dat (HSY.out.later hS).dat).mono ?_
    rintro e V3 ⟨MB, nc, rfl, hrb, hb3⟩
    rw [HQL.out] at hrb ⊢
    have HRB := Lib.hid hrb
    have HRA := Lib.hid (RowH.later HRA.out hb3)
    clear hrb
    have SS := hS.trans (hb3.mono hS.size)
    clear hS hb3
    refine hK.out _ _ SS (fun hS => ?_)
    clear hK K SS
    try simp only [Act.put, List.getElem_toArray, List.getElem_cons_zero, List.getElem_cons_succ, List.setIfInBounds_toArray, List.set_cons_zero, List.set_cons_succ]
    refine wpAnyH_ready (rs := [16]) (by kernel_rfl) (by simp) ?_
    refine AllReadyH.cons rfl (fun K hK => ?_) (AllReadyH.nil)
    go_simp
    refine (sigs_any (methodsT p.ds x) MA MB ql mc nc _ HRA.out HRB.out).mono ?_
    rintro e V4 ⟨rfl, hb4⟩
    have SS := hS.trans (hb4.mono hS.size)
    clear hS hb4
    refine hK.out _ _ SS (fun hS => ?_)
    clear hK K SS
    try simp only [Act.put, List.getElem_toArray, List.getElem_cons_zero, List.getElem_cons_succ, List.setIfInBounds_toArray, List.set_cons_zero, List.set_cons_succ]
    refine wpAnyH_take (i := 17) (v := ?_) rfl (by kernel_rfl) (by kernel_rfl) (by kernel_rfl) (fun _ _ _ h => h) (Or.inl ⟨by rfl, ?_⟩) (by assumption) ?_
    rotate_left
    · (intro V hV; go_simp; try with_reducible rfl)
    try simp only [Act.put, List.getElem_toArray, List.getElem_cons_zero, List.getElem_cons_succ, List.setIfInBounds_toArray, List.set_cons_zero, List.set_cons_succ]
    refine wpAnyH_take (i := 18) (v := ?_) rfl (by kernel_rfl) (by kernel_rfl) (by kernel_rfl) (fun _ _ _ h => h) (Or.inl ⟨by rfl, ?_⟩) (by assumption) ?_
    rotate_left
    · (intro V hV; go_simp; try with_reducible rfl)
    try simp only [Act.put, List.getElem_toArray, List.getElem_cons_zero, List.getElem_cons_succ, List.setIfInBounds_toArray, List.set_cons_zero, List.set_cons_succ]
    refine wpAnyH_done (by kernel_rfl) ?_ _
    have HE := Lib.hid (HSY.out.later hS).bel
    clear hS
    go_wp2_with fail
    go_ret
    exact ⟨rfl, HE.out⟩
  | some i =>
    have HZ := Lib.hid hz
    clear hz
    have C5 := Lib.hid (tmethod_any lo (.pointer (some ⟨tb, 0, none⟩)) p x _ s w4 HDW.out HL4.out HSZ.out HS4.out.dat HT4.out)
    go_wp2_with (refine loadOpQ flatTy3 4 34 rfl rfl HS4.out.box.at0 rfl ?_)
    refine C5.out.mono ?_
    rintro e w5 ⟨us5, rfl, hd5, hb5⟩
    clear C5
    rw [show (methodT p.ds x s).isSome = true from by rw [HZ.out]; rfl]
    obtain ⟨d, hdd⟩ : ∃ d, mtD p.ds x s = d := ⟨_, rfl⟩
    rw [hdd] at hd5
    have HDD := Lib.hid hdd
    have HM23 := Lib.hid (dc_len hd5)
    have HMO := Lib.hid (dc_cells hd5)
    obtain ⟨W6, hP6⟩ := putZ z23 52 w5 (us := us5) (dc_len hd5)
    have HPP := Lib.hid hP6
    have hb6 := hb5.trans (hP6.bel.mono hb5.size)
    have HMB6 := Lib.hid hP6.box
    have HMD6 := Lib.hid (Dat.H.later (hd5.wide fun b hb => hb.2) hP6.bel)
    have HS6 := Lib.hid (HS4.out.later hb6)
    have HP6 := Lib.hid (HP4.out.later hb6)
    have HT6 := Lib.hid (HT4.out.later hb6)
    have HC6 := Lib.hid (HC4.out.later HT4.out hb6)
    have HL6 := Lib.hid (Nat.le_trans HL4.out hb6.size)
    clear hd5 hb5 hb6 hP6 hdd
    go_upto_region 5 with (refine storeOp flatDc 8 37 (b := w5.heap.size) (o := 0) (us := us5) rfl rfl HPP.out.there HMO.out HM23.out ?_; rw [HPP.out.eq])
    clear HPP
    go_wp2_with (first
      | (refine loadOpQ flatPg 3 39 rfl rfl HS6.out.prog.box.at0 HUL.out ?_)
      | (refine loadOpQ flatTy3 4 40 rfl rfl HS6.out.box.at0 rfl ?_))
    refine (rmethod_any p x us _ s _ HS6.out.prog.dat HS6.out.dat).mono ?_
    rintro e w7 ⟨rfl, hb7⟩
    rw [HZ.out, show idxI (some i) = (i : Int) from rfl]
    have HS7 := Lib.hid (HS6.out.later hb7)
    have HP7 := Lib.hid (HP6.out.later hb7)
    have HT7 := Lib.hid (HT6.out.later hb7)
    have HC7 := Lib.hid (HC6.out.later HT6.out hb7)
    have HL7 := Lib.hid (Nat.le_trans HL6.out hb7.size)
    have HMB7 := Lib.hid (HMB6.out.later hb7)
    have HMD7 := Lib.hid (Dat.H.later HMD6.out hb7)
    clear hb7
    obtain ⟨W8, hP8⟩ := putZ z23 52 w7 (us := [.int .i64 0, .string ⟨#[]⟩, .slice none 0 0, .slice none 0 0, .slice none 0 0, .string ⟨#[]⟩, .slice none 0 0, .string ⟨#[]⟩, .slice none 0 0, .slice none 0 0, .string ⟨#[]⟩, .slice none 0 0, .int .i64 0, .int .i64 0, .int .i64 0, .string ⟨#[]⟩, .string ⟨#[]⟩, .slice none 0 0, .int .i64 0, .slice none 0 0, .slice none 0 0, .int .i64 0, .int .i64 0]) rfl
    have HPP := Lib.hid hP8
    go_upto_region 7 with (refine storeOp flatDc 11 43 (b := w7.heap.size) (o := 0) (us := [.int .i64 0, .string ⟨#[]⟩, .slice none 0 0, .slice none 0 0, .slice none 0 0, .string ⟨#[]⟩, .slice none 0 0, .string ⟨#[]⟩, .slice none 0 0, .slice none 0 0, .string ⟨#[]⟩, .slice none 0 0, .int .i64 0, .int .i64 0, .int .i64 0, .string ⟨#[]⟩, .string ⟨#[]⟩, .slice none 0 0, .int .i64 0, .slice none 0 0, .slice none 0 0, .int .i64 0, .int .i64 0]) rfl rfl HPP.out.there z23_all rfl ?_; rw [HPP.out.eq])
    obtain ⟨D, nd, cd, u0, hr, hln⟩ := HS7.out.prog.decls
    have hi : i < nd := by
      have h9 := HZ.out
      unfold methodT at h9
      cases h2 : idxK p.ds (mtK x.name s) with
      | none => rw [h2] at h9; cases h9
      | some j =>
        have hj := idx_lt h2
        rw [h2] at h9
        simp only [Option.bind_some] at h9
        split at h9
        · rw [Option.some.inj h9] at hj; omega
        · cases h9
    obtain ⟨pu, d2, qs, rfl, hd2, hpb, _, hu, hcs⟩ := dat_at hr hi
    have hd3 : d2 = d := by rw [← HDD.out, mtD, HZ.out]; simp [hd2]
    rw [hd3] at hu
    have HIN := Lib.hid hi
    have HPL23 := Lib.hid (dc_len hu)
    have HPO := Lib.hid (dc_cells hu)
    have hb8 := HPP.out.bel
    have HS8 := Lib.hid (HS7.out.later hb8)
    have HP8 := Lib.hid (HP7.out.later hb8)
    have HT8 := Lib.hid (HT7.out.later hb8)
    have HC8 := Lib.hid (HC7.out.later HT7.out hb8)
    have HL8 := Lib.hid (Nat.le_trans HL7.out hb8.size)
    have HFC := Lib.hid (hcs.later hb8)
    have HU0 := Lib.hid u0
    have HTH := Lib.hid (show W8.there w7.heap.size 0 23 from HPP.out.eq ▸ World.there_setCells HPP.out.there _ _ _)
    have hb9 : Below w7.heap.size w7 (W8.setCells w7.heap.size 0 qs) := hb8.trans (below_cells (Nat.le_refl _) _ _ _)
    have HS9 := Lib.hid (HS7.out.later hb9)
    have HP9 := Lib.hid (HP7.out.later hb9)
    have HT9 := Lib.hid (HT7.out.later hb9)
    have HC9 := Lib.hid (HC7.out.later HT7.out hb9)
    have HL9 := Lib.hid (Nat.le_trans HL7.out hb9.size)
    have HMB := Lib.hid (HMB7.out.later hb9)
    have HMD := Lib.hid (Dat.H.later HMD7.out hb9)
    have HWB := Lib.hid (show Boxd (W8.setCells w7.heap.size 0 qs) w7.heap.size qs from set_there (by rw [HPL23.out]; exact HTH.out))
    have HWD := Lib.hid (Dat.H.later (show d.dat.H w7 qs from hu) hb9)
    have HW23 := HPL23
    have x0 := HS8.out.prog.box 0 _ HU0.out
    have y0 : (i : Int) < nd := by have := HIN.out; omega
    have y1 : (0 : Int) ≤ i := by omega
    clear hb8 hb9 hr hln hi hd2 hpb hu hcs hd3 u0 HPP hP8
    go_upto_region 9 with (first
      | (refine loadOp flatDc 49 50 rfl HFC.out HPL23.out ?_)
      | (refine storeOp flatDc 11 50 (b := w7.heap.size) (o := 0) (us := qs) rfl rfl (by rw [HPL23.out]; exact HTH.out) HPO.out HPL23.out ?_))
    clear HFC HTH x0
    have HSV := HS9
    have HPV := HP9
    have HTV := HT9
    have HCV := HC9
    have HLV := HL9
    generalize W8.setCells w7.heap.size 0 qs = V0 at *
    have hdr : Below V0.heap.size V0 V0.drew := (Below.refl V0.heap.size V0).drew
    have HSY := Lib.hid (HSV.out.later hdr)
    have HPY := Lib.hid (HPV.out.later hdr)
    have HTY := Lib.hid (HTV.out.later hdr)
    have HCY := Lib.hid (HCV.out.later HTV.out hdr)
    have HLY := Lib.hid (Nat.le_trans HLV.out hdr.size)
    have HMY := Lib.hid (HMB.out.later hdr)
    have HWY := Lib.hid (HWB.out.later hdr)
    have HDM := Lib.hid (Dat.H.later HMD.out hdr)
    have HDWY := Lib.hid (Dat.H.later HWD.out hdr)
    clear hdr
    go_upto_region 9 with fail
    go_wp2_with fail
    refine wp_region_held_drew (S := fun V => Below V0.drew.heap.size V0.drew V) (by kernel_rfl) (Below.refl _ _) (fun hS => ?_)
    generalize V0.drew = Y at *
    refine wpAnyH_take (i := 0) (v := ?_) rfl (by kernel_rfl) (by kernel_rfl) (by kernel_rfl) (fun _ _ _ h => h) (Or.inl ⟨by rfl, ?_⟩) (by assumption) ?_
    rotate_left
    · (intro V hV; go_simp; try with_reducible rfl)
    try simp only [Act.put, List.getElem_toArray, List.getElem_cons_zero, List.setIfInBounds_toArray, List.set_cons_zero, List.set_cons_succ]
    refine wpAnyH_take (i := 1) (v := ?_) rfl (by kernel_rfl) (by kernel_rfl) (by kernel_rfl) (fun _ _ _ h => h) (Or.inl ⟨by rfl, ?_⟩) (by assumption) ?_
    rotate_left
    · (intro V hV; go_simp; try with_reducible rfl)
    try simp only [Act.put, List.getElem_toArray, List.getElem_cons_zero, List.getElem_cons_succ, List.setIfInBounds_toArray, List.set_cons_zero, List.set_cons_succ]
    refine wpAnyH_take (i := 2) (v := ?_) rfl (by kernel_rfl) (by kernel_rfl) (by kernel_rfl) (fun _ _ _ h => h) (Or.inl ⟨by rfl, ?_⟩) (by assumption) ?_
    rotate_left
    · (intro V hV; go_simp; try with_reducible rfl)
    try simp only [Act.put, List.getElem_toArray, List.getElem_cons_zero, List.getElem_cons_succ, List.setIfInBounds_toArray, List.set_cons_zero, List.set_cons_succ]
    refine wpAnyH_take (i := 3) (v := ?_) rfl (by kernel_rfl) (by kernel_rfl) (by kernel_rfl) (fun _ _ _ h => h) (Or.inl ⟨by rfl, ?_⟩) (by assumption) ?_
    rotate_left
    · (intro V hV; go_simp; try with_reducible rfl)
    try simp only [Act.put, List.getElem_toArray, List.getElem_cons_zero, List.getElem_cons_succ, List.setIfInBounds_toArray, List.set_cons_zero, List.set_cons_succ]
    refine wpAnyH_take (i := 4) (v := ?_) rfl (by kernel_rfl) (by kernel_rfl) (by kernel_rfl) (fun _ _ _ h => h) (Or.inl ⟨by rfl, ?_⟩) (by assumption) ?_
    rotate_left
    · (intro V hV; go_simp; try with_reducible rfl)
    try simp only [Act.put, List.getElem_toArray, List.getElem_cons_zero, List.getElem_cons_succ, List.setIfInBounds_toArray, List.set_cons_zero, List.set_cons_succ]
    refine wpAnyH_take (i := 5) (v := .agg us5.toArray) rfl (by kernel_rfl) (by kernel_rfl) (by kernel_rfl) (fun _ _ _ h => h) (Or.inl ⟨by rfl, fun V hV => loadYieldB flatDc rfl (HMY.out.later hV).at0 HM23.out⟩) (by assumption) ?_
    try simp only [Act.put, List.getElem_toArray, List.getElem_cons_zero, List.getElem_cons_succ, List.setIfInBounds_toArray, List.set_cons_zero, List.set_cons_succ]
    refine wpAnyH_take (i := 6) (v := .agg qs.toArray) rfl (by kernel_rfl) (by kernel_rfl) (by kernel_rfl) (fun _ _ _ h => h) (Or.inl ⟨by rfl, fun V hV => loadYieldB flatDc rfl (HWY.out.later hV).at0 HW23.out⟩) (by assumption) ?_
    try simp only [Act.put, List.getElem_toArray, List.getElem_cons_zero, List.getElem_cons_succ, List.setIfInBounds_toArray, List.set_cons_zero, List.set_cons_succ]
    refine wpAnyH_ready (rs := [7]) (by kernel_rfl) (by simp) ?_
    refine AllReadyH.cons rfl (fun K hK => ?_) (AllReadyH.nil)
    go_simp
    refine (rdecl_any d d us5 qs true _ (Dat.H.later HDM.out hS) (Dat.H.later HDWY.out hS)).mono ?_
    rintro e V1 ⟨rfl, hb1⟩
    rw [dc_exactT]
    have SS := hS.trans (hb1.mono hS.size)
    clear hS hb1
    refine hK.out _ _ SS (fun hS => ?_)
    clear hK K SS
    try simp only [Act.put, List.getElem_toArray, List.getElem_cons_zero, List.getElem_cons_succ, List.setIfInBounds_toArray, List.set_cons_zero, List.set_cons_succ]
    refine wpAnyH_take (i := 8) (v := ?_) rfl (by kernel_rfl) (by kernel_rfl) (by kernel_rfl) (fun _ _ _ h => h) (Or.inl ⟨by rfl, ?_⟩) (by assumption) ?_
    rotate_left
    · (intro V hV; go_simp; try with_reducible rfl)
    try simp only [Act.put, List.getElem_toArray, List.getElem_cons_zero, List.getElem_cons_succ, List.setIfInBounds_toArray, List.set_cons_zero, List.set_cons_succ]
    refine wpAnyH_take (i := 9) (v := ?_) rfl (by kernel_rfl) (by kernel_rfl) (by kernel_rfl) (fun _ _ _ h => h) (Or.inl ⟨by rfl, ?_⟩) (by assumption) ?_
    rotate_left
    · (intro V hV; go_simp; try with_reducible rfl)
    try simp only [Act.put, List.getElem_toArray, List.getElem_cons_zero, List.getElem_cons_succ, List.setIfInBounds_toArray, List.set_cons_zero, List.set_cons_succ]
    refine wpAnyH_take (i := 10) (v := ?_) rfl (by kernel_rfl) (by kernel_rfl) (by kernel_rfl) (fun _ _ _ h => h) (Or.inl ⟨by rfl, ?_⟩) (by assumption) ?_
    rotate_left
    · (intro V hV; go_simp; try with_reducible rfl)
    try simp only [Act.put, List.getElem_toArray, List.getElem_cons_zero, List.getElem_cons_succ, List.setIfInBounds_toArray, List.set_cons_zero, List.set_cons_succ]
    refine wpAnyH_take (i := 11) (v := .agg ([.string x.name, .slice A m c, .int .i64 x.off] : List Value).toArray) rfl (by kernel_rfl) (by kernel_rfl) (by kernel_rfl) (fun _ _ _ h => h) (Or.inl ⟨by rfl, fun V hV => loadYieldB flatTy3 rfl (HSY.out.later hV).box.at0 rfl⟩) (by assumption) ?_
    try simp only [Act.put, List.getElem_toArray, List.getElem_cons_zero, List.getElem_cons_succ, List.setIfInBounds_toArray, List.set_cons_zero, List.set_cons_succ]
    refine wpAnyH_take (i := 13) (v := .agg us.toArray) rfl (by kernel_rfl) (by kernel_rfl) (by kernel_rfl) (fun _ _ _ h => h) (Or.inl ⟨by rfl, fun V hV => loadYieldB flatPg rfl (HSY.out.later hV).prog.box.at0 HUL.out⟩) (by assumption) ?_
    try simp only [Act.put, List.getElem_toArray, List.getElem_cons_zero, List.getElem_cons_succ, List.setIfInBounds_toArray, List.set_cons_zero, List.set_cons_succ]
    refine wpAnyH_take (i := 14) (v := .agg ([.string x.name, .slice A m c, .int .i64 x.off] : List Value).toArray) rfl (by kernel_rfl) (by kernel_rfl) (by kernel_rfl) (fun _ _ _ h => h) (Or.inl ⟨by rfl, fun V hV => loadYieldB flatTy3 rfl (HSY.out.later hV).box.at0 rfl⟩) (by assumption) ?_
    try simp only [Act.put, List.getElem_toArray, List.getElem_cons_zero, List.getElem_cons_succ, List.setIfInBounds_toArray, List.set_cons_zero, List.set_cons_succ]
    refine wpAnyH_ready (rs := [12]) (by kernel_rfl) (by simp) ?_
    refine AllReadyH.cons rfl (fun K hK => ?_) (AllReadyH.nil)
    go_simp
    refine (tmethods_any lo (.pointer (some ⟨tb, 0, none⟩)) p x _ _ HDW.out HPL.out HXW.out (Nat.le_trans HLY.out hS.size) (HSY.out.later hS).dat (HTY.out.later hS) (HCY.out.later HTY.out hS) (HPY.out.later hS)).mono ?_
    rintro e V2 ⟨MA, mc, rfl, hra, hb2⟩
    rw [HQL.out] at hra ⊢
    have HRA := Lib.hid hra
    have HBA := Lib.hid (hS.trans (hb2.mono hS.size))
    clear hra
    have SS := hS.trans (hb2.mono hS.size)
    clear hS hb2
    refine hK.out _ _ SS (fun hS => ?_)
    clear hK K SS
    try simp only [Act.put, List.getElem_toArray, List.getElem_cons_zero, List.getElem_cons_succ, List.setIfInBounds_toArray, List.set_cons_zero, List.set_cons_succ]
    refine wpAnyH_ready (rs := [15]) (by kernel_rfl) (by simp) ?_
    refine AllReadyH.cons rfl (fun K hK => ?_) (AllReadyH.nil)
    go_simp
    refine (rmethods_any p x us _ _ HDW.out HPL.out HXW.out (HSY.out.later hS).prog.dat (HSY.out.later hS).dat).mono ?_
    rintro e V3 ⟨MB, nc, rfl, hrb, hb3⟩
    rw [HQL.out] at hrb ⊢
    have HRB := Lib.hid hrb
    have HRA := Lib.hid (RowH.later HRA.out hb3)
    clear hrb
    have SS := hS.trans (hb3.mono hS.size)
    clear hS hb3
    refine hK.out _ _ SS (fun hS => ?_)
    clear hK K SS
    try simp only [Act.put, List.getElem_toArray, List.getElem_cons_zero, List.getElem_cons_succ, List.setIfInBounds_toArray, List.set_cons_zero, List.set_cons_succ]
    refine wpAnyH_ready (rs := [16]) (by kernel_rfl) (by simp) ?_
    refine AllReadyH.cons rfl (fun K hK => ?_) (AllReadyH.nil)
    go_simp
    refine (sigs_any (methodsT p.ds x) MA MB ql mc nc _ HRA.out HRB.out).mono ?_
    rintro e V4 ⟨rfl, hb4⟩
    have SS := hS.trans (hb4.mono hS.size)
    clear hS hb4
    refine hK.out _ _ SS (fun hS => ?_)
    clear hK K SS
    try simp only [Act.put, List.getElem_toArray, List.getElem_cons_zero, List.getElem_cons_succ, List.setIfInBounds_toArray, List.set_cons_zero, List.set_cons_succ]
    refine wpAnyH_take (i := 17) (v := ?_) rfl (by kernel_rfl) (by kernel_rfl) (by kernel_rfl) (fun _ _ _ h => h) (Or.inl ⟨by rfl, ?_⟩) (by assumption) ?_
    rotate_left
    · (intro V hV; go_simp; try with_reducible rfl)
    try simp only [Act.put, List.getElem_toArray, List.getElem_cons_zero, List.getElem_cons_succ, List.setIfInBounds_toArray, List.set_cons_zero, List.set_cons_succ]
    refine wpAnyH_take (i := 18) (v := ?_) rfl (by kernel_rfl) (by kernel_rfl) (by kernel_rfl) (fun _ _ _ h => h) (Or.inl ⟨by rfl, ?_⟩) (by assumption) ?_
    rotate_left
    · (intro V hV; go_simp; try with_reducible rfl)
    try simp only [Act.put, List.getElem_toArray, List.getElem_cons_zero, List.getElem_cons_succ, List.setIfInBounds_toArray, List.set_cons_zero, List.set_cons_succ]
    refine wpAnyH_done (by kernel_rfl) ?_ _
    have HE := Lib.hid (HSY.out.later hS).bel
    clear hS
    go_wp2_with fail
    go_ret
    exact ⟨rfl, HE.out⟩
end Go.Proofs.YtjhlehdjdaphcaaDoor
