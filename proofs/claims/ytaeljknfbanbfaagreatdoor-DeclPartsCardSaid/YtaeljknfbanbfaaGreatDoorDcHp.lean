/- The walks of decl.inEach at signatures and of decl.inDecl. The conditions: few types; the contracts of inSig and of inExpr.
The walks of decl.inSig and of decl.inEach at signatures. The condition: few types.
The walks of decl.inEach at declarations, of decl.inProgram and of decl.Types. The conditions: few parts, few types; the contracts of inSig and of inExpr. -/
import Derived.Test.YtaeljknfbanbfaaGreatDoorDcG
import Derived.Test.YtaeljknfbanbfaaGreatDoorDcM
import Derived.Deep.RegionHeld3
import Derived.Test.YtaeljknfbanbfaaGreatDoorDcVc
namespace Go.Proofs.YtaeljknfbanbfaaGreatDoor
open Go.RowKit

set_option maxRecDepth 100000 in
set_option maxHeartbeats 8000000 in
theorem inEachSig_any (xs : List Sg) (A : Option Addr) (q c lo : Nat) (w : World) (HSG : InSigOk) (hlo : lo ≤ w.heap.size) (hq : (xs.flatMap Sg.tys).length ≤ 1000000) (h : Row w False (· < lo) 7 A q (xs.map Sg.dat)) :
    Calls Tryz.prog 166 #[.slice A q c, .func (.func 167) #[] #[]] w (TsPost lo w (xs.flatMap Sg.tys)) := by
  have hxl := h.len
  rw [List.length_map] at hxl
  have hm : (q : Int) ≤ 9223372036854775807 := by have := h.le; omega
  have H1 := Lib.hid h
  have HXL := Lib.hid hxl
  have HQ := Lib.hid hq
  have HLO := Lib.hid hlo
  clear h hxl hq hlo
  go_enter Tryz.func166, Tryz.ntmps166
  go_wp2_with fail
  go_loopw [5, 10] (fun v i wr => ∃ k : Nat, k ≤ q ∧ i = .int .i64 k ∧ TRow lo w.heap.size w wr v ((xs.take k).flatMap Sg.tys)) (fun _ i _ => q - (intOf i).toNat)
  case atStart => exact ⟨0, by omega, rfl, by rw [List.take_zero]; exact TRow.nil lo _ w w (Below.refl _ _)⟩
  case round =>
    obtain ⟨k, hk, rfl, hrow⟩ := hrel
    have HR := Lib.hid hrow
    have hbel := hrow.bel
    have y1 : (0 : Int) ≤ k := by omega
    by_cases hlt : k < q
    · have y0 : (k : Int) < q := by omega
      obtain ⟨pu, u, ps, rfl, hx, _, _, hu, hcs⟩ := dat_at (H1.out.later hbel fun k hk => Nat.lt_of_lt_of_le hk HLO.out) hlt
      have HLU := Lib.hid (show ps.length = 7 from (Dat.In.len _ _ hu).trans (Sg.dat_size u))
      have HOU := Lib.hid (sg_cells hu)
      obtain ⟨W1, hP1⟩ := putZ #[.string ⟨#[]⟩, .slice none 0 0, .slice none 0 0, .string ⟨#[]⟩, .slice none 0 0, .int .i64 0, .int .i64 0] 30 wr HLU.out
      have HP1 := Lib.hid hP1
      have HFC := Lib.hid hcs
      have HX := Lib.hid hP1.box.at0
      have HLR := Lib.hid (show lo ≤ wr.heap.size from Nat.le_trans HLO.out hbel.size)
      have HLW := Lib.hid (show lo ≤ W1.heap.size from Nat.le_trans HLR.out hP1.bel.size)
      have C := Lib.hid (show Calls Tryz.prog 167 #[.agg ps.toArray] W1 (TsPost lo W1 (Sg.tys u)) from HSG u ps lo W1 HLW.out (Nat.le_trans (flatMap_mem_le Sg.tys (List.mem_of_getElem? hx)) HQ.out) (hu.later hP1.bel fun k hk => Nat.lt_of_lt_of_le hk HLR.out))
      have HB1 := Lib.hid hP1.bel
      have HST := Lib.hid (show (xs.take (k + 1)).flatMap Sg.tys = (xs.take k).flatMap Sg.tys ++ Sg.tys u by rw [Ex.take_at hx, List.flatMap_append]; simp)
      have HLN := Lib.hid (show ((xs.take k).flatMap Sg.tys).length + (Sg.tys u).length ≤ 1000000 by
        have h1 := HQ.out
        have h2 : ((xs.take (k + 1)).flatMap Sg.tys).length ≤ (xs.flatMap Sg.tys).length := by
          conv => rhs; rw [← List.take_append_drop (k + 1) xs, List.flatMap_append, List.length_append]
          omega
        rw [HST.out, List.length_append] at h2
        omega)
      clear hx hu hcs hbel hrow hP1
      generalize Sg.tys u = rs at *
      generalize (xs.take k).flatMap Sg.tys = ts at *
      go_wp2_with (first
        | (refine loadOp flatSg 12 13 rfl HFC.out HLU.out ?_)
        | (refine storeOp flatSg 7 13 (b := wr.heap.size) (o := 0) rfl rfl HP1.out.there HOU.out HLU.out ?_; rw [HP1.out.eq])
        | (refine loadOp flatSg 7 16 rfl HX.out HLU.out ?_))
      refine C.out.mono ?_
      rintro e w3 ⟨v3, rfl, hr3⟩
      have HR0 := HR.out.later HB1.out
      have HR1 := HR0.later hr3.bel
      obtain ⟨B, d, us2, rfl, hF⟩ := hr3.flat (Nat.le_refl _)
      obtain ⟨cs0, ho0, _⟩ := HR0.own
      have hap := own_apart ho0 HLO.out (Nat.le_refl _)
      have hsz : w.heap.size ≤ W1.heap.size := HR0.bel.size
      have HAP := Lib.hid (fun b (hb : LB lo W1.heap.size w3 b) => And.intro (LB.up (Nat.le_refl w3.heap.size) hsz b hb) (hap b hb.2))
      obtain ⟨cs, ho1, hi1⟩ := HR1.own
      have HF := Lib.hid hF
      have HON := Lib.hid ho1
      have HII := Lib.hid hi1
      have HBE := Lib.hid HR1.bel
      clear ho0 hap hsz HR0 ho1 hi1 HR1 hr3 hF C HP1 HFC HX HB1
      go_wp2_with (at_builtin; refine wpList_append_row slTy rfl _ _ rfl rfl rfl HON.out HBE.out.size HF.out.len HF.out.cells HF.out.ones HF.out.some_ HLN.out (by omega) ?_; intro v4 w4 hA4; have HR4 := Lib.hid (TRow.app HBE.out HON.out HII.out HF.out.ins HAP.out hA4); clear hA4)
      go_roundw
      case rel => exact ⟨k + 1, by omega, by go_num, by rw [HST.out]; exact HR4.out⟩
      case measure => simp [intOf]; omega
    · have y0 : (q : Int) ≤ k := by omega
      rw [List.take_of_length_le (by rw [HXL.out]; omega)] at hrow
      have HR2 := Lib.hid hrow
      clear hrow hbel
      go_wp2_with fail
      go_ret
      exact ⟨_, rfl, HR2.out⟩
set_option maxRecDepth 100000 in
set_option maxHeartbeats 16000000 in
theorem inDecl_any (HSG : InSigOk) (HIE : InExprOk) (d : Dc) (us : List Value) (lo : Nat) (w : World) (hlo : lo ≤ w.heap.size) (hw : d.wt ≤ 1000) (hq : d.tys.length ≤ 1000000) (h : d.dat.In w False (· < lo) us) : Calls Tryz.prog 121 #[.agg us.toArray] w (TsPost lo w d.tys) := by
  have hbel : Below w.heap.size w (w.alloc (.cells us.toArray 35)) := (Below.refl _ _).alloc (Nat.le_refl _) _
  obtain ⟨W0, hW0⟩ : ∃ W0, w.alloc (.cells us.toArray 35) = W0 := ⟨_, rfl⟩
  rw [hW0] at hbel
  have hbox : Boxd W0 w.heap.size us := hW0 ▸ Boxd.new w us.toArray 35
  have HBEL := Lib.hid hbel
  have HL0 := Lib.hid (show lo ≤ W0.heap.size from Nat.le_trans hlo hbel.size)
  have h0 : d.dat.In W0 False (· < lo) us := h.later hbel fun k hk => Nat.lt_of_lt_of_le hk hlo
  have HW0 := Lib.hid hW0
  obtain ⟨F, nf, cf, P, np, cp, G, ng, cg, V, nv, cv, sv, bv, hus, _, hf, hp, hg, _, _, hs, hbd⟩ := dc_open h0
  have hsl : sv.length = 7 := (Dat.In.len _ _ hs).trans (Sg.dat_size _)
  have hbl : bv.length = 8 := (Dat.In.len _ _ hbd).trans (Ex.dat_size _)
  have HSL := Lib.hid hsl
  have HBL := Lib.hid hbl
  have x0 := hbox 0 (.int .i64 d.kind) (by rw [hus]; rfl)
  have x2 := hbox 2 (.slice F nf cf) (by rw [hus]; rfl)
  have x3 := hbox 3 (.slice P np cp) (by rw [hus]; rfl)
  have x4 := hbox 4 (.slice G ng cg) (by rw [hus]; rfl)
  have r7 : W0.rangeAt w.heap.size 7 sv := fun j v hv => hbox (7 + j) v (by rw [hus]; exact app_mid (a := [.int .i64 d.kind, .string d.name, .slice F nf cf, .slice P np cp, .slice G ng cg, .string d.recv, .slice V nv cv]) hv)
  have r14 : W0.rangeAt w.heap.size 14 bv := fun j v hv => hbox (14 + j) v (by
    have h2 := app_mid (a := [.int .i64 d.kind, .string d.name, .slice F nf cf, .slice P np cp, .slice G ng cg, .string d.recv, .slice V nv cv] ++ sv) (c := [.int .i64 d.off]) hv
    rw [List.length_append, hsl] at h2
    rw [hus, ← List.append_assoc]
    exact h2)
  have SS : Below W0.heap.size W0 W0 ∧ W0.cell? ⟨w.heap.size, 0, none⟩ = some (.int .i64 d.kind) ∧ W0.cell? ⟨w.heap.size, 2, none⟩ = some (.slice F nf cf) ∧ W0.cell? ⟨w.heap.size, 3, none⟩ = some (.slice P np cp) ∧ W0.cell? ⟨w.heap.size, 4, none⟩ = some (.slice G ng cg) := ⟨Below.refl _ _, x0, x2, x3, x4⟩
  have KP := Lib.hid (show ∀ V : World, Below W0.heap.size W0 V → Below W0.heap.size W0 V ∧ V.cell? ⟨w.heap.size, 0, none⟩ = some (.int .i64 d.kind) ∧ V.cell? ⟨w.heap.size, 2, none⟩ = some (.slice F nf cf) ∧ V.cell? ⟨w.heap.size, 3, none⟩ = some (.slice P np cp) ∧ V.cell? ⟨w.heap.size, 4, none⟩ = some (.slice G ng cg) from fun V hV => ⟨hV, (hV.cell (cell_lt x0)).trans x0, (hV.cell (cell_lt x2)).trans x2, (hV.cell (cell_lt x3)).trans x3, (hV.cell (cell_lt x4)).trans x4⟩)
  have KQ := Lib.hid (show ∀ V : World, Below W0.heap.size W0 V → Below W0.heap.size W0 V ∧ V.rangeAt w.heap.size 7 sv ∧ V.rangeAt w.heap.size 14 bv from fun V hV => ⟨hV, fun j v hv => (hV.cell (cell_lt (r7 j v hv))).trans (r7 j v hv), fun j v hv => (hV.cell (cell_lt (r14 j v hv))).trans (r14 j v hv)⟩)
  have hq2 := hq
  simp only [Dc.tys, List.length_append] at hq2
  obtain ⟨t6, h6⟩ : ∃ l, d.fs.flatMap Fo.tys = l := ⟨_, rfl⟩
  obtain ⟨t9, h9⟩ : ∃ l, d.ms.flatMap Fo.tys = l := ⟨_, rfl⟩
  obtain ⟨t12, h12⟩ : ∃ l, d.gs.flatMap Sg.tys = l := ⟨_, rfl⟩
  rw [h6, h9, h12] at hq2
  obtain ⟨t14, h14⟩ : ∃ l, t6 ++ t9 ++ t12 = l := ⟨_, rfl⟩
  have HCE := Lib.hid (show [t6, t9, t12].flatten = t14 by rw [← h14]; simp)
  have C6 := Lib.hid (fun (V : World) (hV : Below W0.heap.size W0 V) => show Calls Tryz.prog 162 #[.slice F nf cf, .func (.func 163) #[] #[]] V (TsPost lo V t6) from h6 ▸ inEachFormal_any d.fs F nf cf lo V (Nat.le_trans HL0.out hV.size) (by rw [h6]; omega) (hf.later hV fun k hk => Nat.lt_of_lt_of_le hk HL0.out))
  have C9 := Lib.hid (fun (V : World) (hV : Below W0.heap.size W0 V) => show Calls Tryz.prog 164 #[.slice P np cp, .func (.func 165) #[] #[]] V (TsPost lo V t9) from h9 ▸ inEachParam_any d.ms P np cp lo V (Nat.le_trans HL0.out hV.size) (by rw [h9]; omega) (hp.later hV fun k hk => Nat.lt_of_lt_of_le hk HL0.out))
  have C12 := Lib.hid (fun (V : World) (hV : Below W0.heap.size W0 V) => show Calls Tryz.prog 166 #[.slice G ng cg, .func (.func 167) #[] #[]] V (TsPost lo V t12) from h12 ▸ inEachSig_any d.gs G ng cg lo V HSG (Nat.le_trans HL0.out hV.size) (by rw [h12]; omega) (hg.later hV fun k hk => Nat.lt_of_lt_of_le hk HL0.out))
  have C21 := Lib.hid (fun (V : World) (hV : Below W0.heap.size W0 V) (hk : d.kind = 3) => show Calls Tryz.prog 167 #[.agg sv.toArray] V (TsPost lo V d.sig.tys) from HSG d.sig sv lo V (Nat.le_trans HL0.out hV.size) (by rw [if_pos hk, List.length_append] at hq2; omega) (hs.later hV fun k hk => Nat.lt_of_lt_of_le hk HL0.out))
  have C24 := Lib.hid (fun (V : World) (hV : Below W0.heap.size W0 V) (hk : d.kind = 3) => show Calls Tryz.prog 122 #[.agg bv.toArray] V (TsPost lo V (exTys d.body)) from HIE d.body bv lo V (Nat.le_trans HL0.out hV.size) (Nat.le_trans Dc.wt_b hw) (by rw [if_pos hk, List.length_append] at hq2; omega) (hbd.later hV fun k hk => Nat.lt_of_lt_of_le hk HL0.out))
  have HTS := Lib.hid (show d.tys = t6 ++ t9 ++ t12 ++ if d.kind = 3 then d.sig.tys ++ exTys d.body else [] by rw [Dc.tys, h6, h9, h12])
  have HTT := Lib.hid (show d.tys = t14 ++ if d.kind = 3 then d.sig.tys ++ exTys d.body else [] by rw [HTS.out, h14])
  have HN := Lib.hid (show t14.length + (if d.kind = 3 then d.sig.tys ++ exTys d.body else []).length ≤ 1000000 by rw [← h14, List.length_append, List.length_append]; exact hq2)
  have HQ2 := Lib.hid hq2
  have HLN := Lib.hid (show t6.length + t9.length + t12.length ≤ 1000000 by omega)
  clear h14 HTS HQ2 hus hbel hW0 hbox h h0 hf hp hg hs hbd hq hq2 h6 h9 h12 x0 x2 x3 x4 r7 r14 hsl hbl hlo hw HSG HIE
  go_enter Tryz.func121, Tryz.ntmps121
  go_upto_region 1 with fail
  rw [HW0.out]
  clear HW0
  go_wp2_with fail
  refine wp_region_held_drew (S := fun V => Below W0.heap.size W0 V ∧ V.cell? ⟨w.heap.size, 0, none⟩ = some (.int .i64 d.kind) ∧ V.cell? ⟨w.heap.size, 2, none⟩ = some (.slice F nf cf) ∧ V.cell? ⟨w.heap.size, 3, none⟩ = some (.slice P np cp) ∧ V.cell? ⟨w.heap.size, 4, none⟩ = some (.slice G ng cg)) (by kernel_rfl) ⟨SS.1.drew, SS.2⟩ (fun hS => ?_)
  clear SS
  first
  | (refine wpAnyH_take (i := 0) (v := ?_) rfl (by kernel_rfl) (by kernel_rfl) (by kernel_rfl) (fun _ _ _ h => h) (Or.inl ⟨by rfl, ?_⟩) (by assumption) ?_
     rotate_left
     · (intro V hV; obtain ⟨_, x0, x2, x3, x4⟩ := hV; go_simp; try with_reducible rfl)
     try simp only [Act.put, List.getElem_toArray, List.getElem_cons_zero, List.setIfInBounds_toArray, List.set_cons_zero, List.set_cons_succ])
  | (refine wpAnyH_take (i := 0) (v := undef) rfl (by kernel_rfl) (by kernel_rfl) (by kernel_rfl) (fun _ _ _ h => h) (Or.inr ⟨by rfl, rfl⟩) (by assumption) ?_
     try simp only [Act.put, List.getElem_toArray, List.getElem_cons_zero, List.setIfInBounds_toArray, List.set_cons_zero, List.set_cons_succ])
  | fail "take 0"
  first
  | (refine wpAnyH_take (i := 1) (v := ?_) rfl (by kernel_rfl) (by kernel_rfl) (by kernel_rfl) (fun _ _ _ h => h) (Or.inl ⟨by rfl, ?_⟩) (by assumption) ?_
     rotate_left
     · (intro V hV; obtain ⟨_, x0, x2, x3, x4⟩ := hV; go_simp; try with_reducible rfl)
     try simp only [Act.put, List.getElem_toArray, List.getElem_cons_zero, List.getElem_cons_succ, List.setIfInBounds_toArray, List.set_cons_zero, List.set_cons_succ])
  | (refine wpAnyH_take (i := 1) (v := undef) rfl (by kernel_rfl) (by kernel_rfl) (by kernel_rfl) (fun _ _ _ h => h) (Or.inr ⟨by rfl, rfl⟩) (by assumption) ?_
     try simp only [Act.put, List.getElem_toArray, List.getElem_cons_zero, List.getElem_cons_succ, List.setIfInBounds_toArray, List.set_cons_zero, List.set_cons_succ])
  | fail "take 1"
  first
  | (refine wpAnyH_take (i := 3) (v := ?_) rfl (by kernel_rfl) (by kernel_rfl) (by kernel_rfl) (fun _ _ _ h => h) (Or.inl ⟨by rfl, ?_⟩) (by assumption) ?_
     rotate_left
     · (intro V hV; obtain ⟨_, x0, x2, x3, x4⟩ := hV; go_simp; try with_reducible rfl)
     try simp only [Act.put, List.getElem_toArray, List.getElem_cons_zero, List.getElem_cons_succ, List.setIfInBounds_toArray, List.set_cons_zero, List.set_cons_succ])
  | (refine wpAnyH_take (i := 3) (v := undef) rfl (by kernel_rfl) (by kernel_rfl) (by kernel_rfl) (fun _ _ _ h => h) (Or.inr ⟨by rfl, rfl⟩) (by assumption) ?_
     try simp only [Act.put, List.getElem_toArray, List.getElem_cons_zero, List.getElem_cons_succ, List.setIfInBounds_toArray, List.set_cons_zero, List.set_cons_succ])
  | fail "take 3"
  first
  | (refine wpAnyH_take (i := 4) (v := ?_) rfl (by kernel_rfl) (by kernel_rfl) (by kernel_rfl) (fun _ _ _ h => h) (Or.inl ⟨by rfl, ?_⟩) (by assumption) ?_
     rotate_left
     · (intro V hV; obtain ⟨_, x0, x2, x3, x4⟩ := hV; go_simp; try with_reducible rfl)
     try simp only [Act.put, List.getElem_toArray, List.getElem_cons_zero, List.getElem_cons_succ, List.setIfInBounds_toArray, List.set_cons_zero, List.set_cons_succ])
  | (refine wpAnyH_take (i := 4) (v := undef) rfl (by kernel_rfl) (by kernel_rfl) (by kernel_rfl) (fun _ _ _ h => h) (Or.inr ⟨by rfl, rfl⟩) (by assumption) ?_
     try simp only [Act.put, List.getElem_toArray, List.getElem_cons_zero, List.getElem_cons_succ, List.setIfInBounds_toArray, List.set_cons_zero, List.set_cons_succ])
  | fail "take 4"
  first
  | (refine wpAnyH_take (i := 6) (v := ?_) rfl (by kernel_rfl) (by kernel_rfl) (by kernel_rfl) (fun _ _ _ h => h) (Or.inl ⟨by rfl, ?_⟩) (by assumption) ?_
     rotate_left
     · (intro V hV; obtain ⟨_, x0, x2, x3, x4⟩ := hV; go_simp; try with_reducible rfl)
     try simp only [Act.put, List.getElem_toArray, List.getElem_cons_zero, List.getElem_cons_succ, List.setIfInBounds_toArray, List.set_cons_zero, List.set_cons_succ])
  | (refine wpAnyH_take (i := 6) (v := undef) rfl (by kernel_rfl) (by kernel_rfl) (by kernel_rfl) (fun _ _ _ h => h) (Or.inr ⟨by rfl, rfl⟩) (by assumption) ?_
     try simp only [Act.put, List.getElem_toArray, List.getElem_cons_zero, List.getElem_cons_succ, List.setIfInBounds_toArray, List.set_cons_zero, List.set_cons_succ])
  | fail "take 6"
  first
  | (refine wpAnyH_take (i := 7) (v := ?_) rfl (by kernel_rfl) (by kernel_rfl) (by kernel_rfl) (fun _ _ _ h => h) (Or.inl ⟨by rfl, ?_⟩) (by assumption) ?_
     rotate_left
     · (intro V hV; obtain ⟨_, x0, x2, x3, x4⟩ := hV; go_simp; try with_reducible rfl)
     try simp only [Act.put, List.getElem_toArray, List.getElem_cons_zero, List.getElem_cons_succ, List.setIfInBounds_toArray, List.set_cons_zero, List.set_cons_succ])
  | (refine wpAnyH_take (i := 7) (v := undef) rfl (by kernel_rfl) (by kernel_rfl) (by kernel_rfl) (fun _ _ _ h => h) (Or.inr ⟨by rfl, rfl⟩) (by assumption) ?_
     try simp only [Act.put, List.getElem_toArray, List.getElem_cons_zero, List.getElem_cons_succ, List.setIfInBounds_toArray, List.set_cons_zero, List.set_cons_succ])
  | fail "take 7"
  refine wpAnyH_ready (rs := [2]) (by kernel_rfl) (by simp) ?_
  refine AllReadyH.cons rfl (fun K hK => ?_) AllReadyH.nil
  go_simp
  refine (C6.out _ hS.1).mono ?_
  rintro e wA ⟨v6, rfl, hr⟩
  obtain ⟨A6, c6, us6, rfl, hF⟩ := hr.flat (t := W0.heap.size) hS.1.size
  have hb := hr.bel
  have F6 := Lib.hid hF
  have SS := KP.out _ (hS.1.trans (hb.mono hS.1.size))
  refine hK.out _ _ SS (fun hS => ?_)
  clear hK K
  try simp only [Act.put, List.getElem_toArray, List.getElem_cons_zero, List.getElem_cons_succ, List.setIfInBounds_toArray, List.set_cons_zero, List.set_cons_succ]
  clear hr hb hF
  refine wpAnyH_ready (rs := [5]) (by kernel_rfl) (by simp) ?_
  refine AllReadyH.cons rfl (fun K hK => ?_) AllReadyH.nil
  go_simp
  refine (C9.out _ hS.1).mono ?_
  rintro e wB ⟨v9, rfl, hr⟩
  obtain ⟨A9, c9, us9, rfl, hF⟩ := hr.flat (t := W0.heap.size) hS.1.size
  have hb := hr.bel
  have F9 := Lib.hid hF
  have F6 := Lib.hid (F6.out.up hb)
  have SS := KP.out _ (hS.1.trans (hb.mono hS.1.size))
  refine hK.out _ _ SS (fun hS => ?_)
  clear hK K
  try simp only [Act.put, List.getElem_toArray, List.getElem_cons_zero, List.getElem_cons_succ, List.setIfInBounds_toArray, List.set_cons_zero, List.set_cons_succ]
  clear hr hb hF
  refine wpAnyH_ready (rs := [8]) (by kernel_rfl) (by simp) ?_
  refine AllReadyH.cons rfl (fun K hK => ?_) AllReadyH.nil
  go_simp
  refine (C12.out _ hS.1).mono ?_
  rintro e wC ⟨v12, rfl, hr⟩
  obtain ⟨A12, c12, us12, rfl, hF⟩ := hr.flat (t := W0.heap.size) hS.1.size
  have hb := hr.bel
  have F12 := Lib.hid hF
  have F6 := Lib.hid (F6.out.up hb)
  have F9 := Lib.hid (F9.out.up hb)
  have SS := KP.out _ (hS.1.trans (hb.mono hS.1.size))
  refine hK.out _ _ SS (fun hS => ?_)
  clear hK K
  try simp only [Act.put, List.getElem_toArray, List.getElem_cons_zero, List.getElem_cons_succ, List.setIfInBounds_toArray, List.set_cons_zero, List.set_cons_succ]
  clear hr hb hF
  refine wpAnyH_ready (rs := [9]) (by kernel_rfl) (by simp) ?_
  refine AllReadyH.cons rfl (fun K hK => ?_) AllReadyH.nil
  go_simp
  have hb : Below (wC).heap.size wC (World.alloc wC (.cells #[.slice A6 t6.length c6, .slice A9 t9.length c9, .slice A12 t12.length c12] 26)) := (Below.refl _ _).alloc (Nat.le_refl _) _
  have HC := Lib.hid ((cat3 (c := c6) (d := c9) (e := c12) 26 F6.out F9.out F12.out).up hb.size)
  have SS := KP.out _ (hS.1.trans (hb.mono hS.1.size))
  refine hK.out _ _ SS (fun hS => ?_)
  clear hK K
  try simp only [Act.put, List.getElem_toArray, List.getElem_cons_zero, List.getElem_cons_succ, List.setIfInBounds_toArray, List.set_cons_zero, List.set_cons_succ]
  clear hb F6 F9 F12
  refine wpAnyH_ready (rs := [10]) (by kernel_rfl) (by simp) ?_
  refine AllReadyH.cons rfl (fun K hK => ?_) AllReadyH.nil
  go_simp
  refine (concat_any [t6, t9, t12] _ 3 3 lo W0.heap.size _ (by simpa [Nat.add_assoc] using HLN.out) HC.out).mono ?_
  rintro e wD ⟨v14, rfl, hr⟩
  rw [HCE.out] at hr
  obtain ⟨A14, c14, us14, hv14, hF⟩ := hr.flat (t := W0.heap.size) (Nat.le_refl _)
  subst hv14
  have hb := hr.bel
  have R14 := Lib.hid (hr.from HBEL.out.size (HBEL.out.trans (hS.1.mono HBEL.out.size)))
  have F14 := Lib.hid hF
  have SS := KP.out _ (hS.1.trans (hb.mono hS.1.size))
  refine hK.out _ _ SS (fun hS => ?_)
  clear hK K
  try simp only [Act.put, List.getElem_toArray, List.getElem_cons_zero, List.getElem_cons_succ, List.setIfInBounds_toArray, List.set_cons_zero, List.set_cons_succ]
  clear hb HC hr hF
  first
  | (refine wpAnyH_take (i := 11) (v := ?_) rfl (by kernel_rfl) (by kernel_rfl) (by kernel_rfl) (fun _ _ _ h => h) (Or.inl ⟨by rfl, ?_⟩) (by assumption) ?_
     rotate_left
     · (intro V hV; obtain ⟨_, x0, x2, x3, x4⟩ := hV; go_simp; try with_reducible rfl)
     try simp only [Act.put, List.getElem_toArray, List.getElem_cons_zero, List.getElem_cons_succ, List.setIfInBounds_toArray, List.set_cons_zero, List.set_cons_succ])
  | (refine wpAnyH_take (i := 11) (v := undef) rfl (by kernel_rfl) (by kernel_rfl) (by kernel_rfl) (fun _ _ _ h => h) (Or.inr ⟨by rfl, rfl⟩) (by assumption) ?_
     try simp only [Act.put, List.getElem_toArray, List.getElem_cons_zero, List.getElem_cons_succ, List.setIfInBounds_toArray, List.set_cons_zero, List.set_cons_succ])
  | fail "take 11"
  refine wpAnyH_done (by kernel_rfl) ?_ _
  clear KP C6 C9 C12
  have x0 := hS.2.1
  have HBD := Lib.hid hS.1
  clear hS HCE
  by_cases hk : d.kind = 3
  · have e3 : (d.kind == 3) = true := by simp [hk]
    obtain ⟨t21, h21⟩ : ∃ l, d.sig.tys = l := ⟨_, rfl⟩
    obtain ⟨t24, h24⟩ : ∃ l, exTys d.body = l := ⟨_, rfl⟩
    have HTU := Lib.hid (show d.tys = t14 ++ t21 ++ t24 by rw [HTT.out, if_pos hk, h21, h24, List.append_assoc])
    have HLN := Lib.hid (show t14.length + t21.length + t24.length ≤ 1000000 by
      have := HN.out
      rw [if_pos hk, h21, h24, List.length_append] at this
      omega)
    have D21 := Lib.hid (fun V hV => h21 ▸ C21.out V hV hk)
    have D24 := Lib.hid (fun V hV => h24 ▸ C24.out V hV hk)
    obtain ⟨t26, h26⟩ : ∃ l, t14 ++ t21 ++ t24 = l := ⟨_, rfl⟩
    have HCE := Lib.hid (show [t14, t21, t24].flatten = t26 by rw [← h26]; simp)
    have HTV := Lib.hid (show d.tys = t26 by rw [HTU.out, h26])
    clear h26 HTU hk h21 h24 C21 C24 HTT HN
    go_wp2_with fail
    have SS := KQ.out _ HBD.out
    refine wp_region_held_drew (S := fun V => Below W0.heap.size W0 V ∧ V.rangeAt w.heap.size 7 sv ∧ V.rangeAt w.heap.size 14 bv) (by kernel_rfl) ⟨SS.1.drew, SS.2⟩ (fun hS => ?_)
    clear SS
    have F14 := Lib.hid (F14.out.up ((Below.refl _ _).drew))
    first
    | (refine wpAnyH_take (i := 0) (v := ?_) rfl (by kernel_rfl) (by kernel_rfl) (by kernel_rfl) (fun _ _ _ h => h) (Or.inl ⟨by rfl, ?_⟩) (by assumption) ?_
       rotate_left
       · (intro V hV; obtain ⟨_, y7, y14⟩ := hV; go_simp; try with_reducible rfl)
       try simp only [Act.put, List.getElem_toArray, List.getElem_cons_zero, List.setIfInBounds_toArray, List.set_cons_zero, List.set_cons_succ])
    | (refine wpAnyH_take (i := 0) (v := undef) rfl (by kernel_rfl) (by kernel_rfl) (by kernel_rfl) (fun _ _ _ h => h) (Or.inr ⟨by rfl, rfl⟩) (by assumption) ?_
       try simp only [Act.put, List.getElem_toArray, List.getElem_cons_zero, List.setIfInBounds_toArray, List.set_cons_zero, List.set_cons_succ])
    | fail "take 0"
    first
    | (refine wpAnyH_take (i := 1) (v := ?_) rfl (by kernel_rfl) (by kernel_rfl) (by kernel_rfl) (fun _ _ _ h => h) (Or.inl ⟨by rfl, ?_⟩) (by assumption) ?_
       rotate_left
       · (intro V hV; obtain ⟨_, y7, y14⟩ := hV; go_simp; try with_reducible rfl)
       try simp only [Act.put, List.getElem_toArray, List.getElem_cons_zero, List.getElem_cons_succ, List.setIfInBounds_toArray, List.set_cons_zero, List.set_cons_succ])
    | (refine wpAnyH_take (i := 1) (v := undef) rfl (by kernel_rfl) (by kernel_rfl) (by kernel_rfl) (fun _ _ _ h => h) (Or.inr ⟨by rfl, rfl⟩) (by assumption) ?_
       try simp only [Act.put, List.getElem_toArray, List.getElem_cons_zero, List.getElem_cons_succ, List.setIfInBounds_toArray, List.set_cons_zero, List.set_cons_succ])
    | fail "take 1"
    refine wpAnyH_take (i := 2) (v := .agg sv.toArray) rfl (by kernel_rfl) (by kernel_rfl) (by kernel_rfl) (fun _ _ _ h => h) (yieldsIf_load_mid rfl 30 (.tmp 19) rfl w.heap.size 7 rfl sv _ (fun V hV => hV.2.1) Tryz.underlying30 rfl (by rw [HSL.out]; exact flatSg.size)) (by assumption) ?_
    try simp only [Act.put, List.getElem_toArray, List.getElem_cons_zero, List.getElem_cons_succ, List.setIfInBounds_toArray, List.set_cons_zero, List.set_cons_succ]
    first
    | (refine wpAnyH_take (i := 4) (v := ?_) rfl (by kernel_rfl) (by kernel_rfl) (by kernel_rfl) (fun _ _ _ h => h) (Or.inl ⟨by rfl, ?_⟩) (by assumption) ?_
       rotate_left
       · (intro V hV; obtain ⟨_, y7, y14⟩ := hV; go_simp; try with_reducible rfl)
       try simp only [Act.put, List.getElem_toArray, List.getElem_cons_zero, List.getElem_cons_succ, List.setIfInBounds_toArray, List.set_cons_zero, List.set_cons_succ])
    | (refine wpAnyH_take (i := 4) (v := undef) rfl (by kernel_rfl) (by kernel_rfl) (by kernel_rfl) (fun _ _ _ h => h) (Or.inr ⟨by rfl, rfl⟩) (by assumption) ?_
       try simp only [Act.put, List.getElem_toArray, List.getElem_cons_zero, List.getElem_cons_succ, List.setIfInBounds_toArray, List.set_cons_zero, List.set_cons_succ])
    | fail "take 4"
    refine wpAnyH_take (i := 5) (v := .agg bv.toArray) rfl (by kernel_rfl) (by kernel_rfl) (by kernel_rfl) (fun _ _ _ h => h) (yieldsIf_load_mid rfl 33 (.tmp 22) rfl w.heap.size 14 rfl bv _ (fun V hV => hV.2.2) Tryz.underlying33 rfl (by rw [HBL.out]; exact sizeE8)) (by assumption) ?_
    try simp only [Act.put, List.getElem_toArray, List.getElem_cons_zero, List.getElem_cons_succ, List.setIfInBounds_toArray, List.set_cons_zero, List.set_cons_succ]
    refine wpAnyH_ready (rs := [3]) (by kernel_rfl) (by simp) ?_
    refine AllReadyH.cons rfl (fun K hK => ?_) AllReadyH.nil
    go_simp
    refine (D21.out _ hS.1).mono ?_
    rintro e wE ⟨v21, rfl, hr⟩
    obtain ⟨A21, c21, us21, rfl, hF⟩ := hr.flat (t := W0.heap.size) hS.1.size
    have hb := hr.bel
    have F21 := Lib.hid hF
    have F14 := Lib.hid (F14.out.up hb)
    have SS := KQ.out _ (hS.1.trans (hb.mono hS.1.size))
    refine hK.out _ _ SS (fun hS => ?_)
    clear hK K
    try simp only [Act.put, List.getElem_toArray, List.getElem_cons_zero, List.getElem_cons_succ, List.setIfInBounds_toArray, List.set_cons_zero, List.set_cons_succ]
    clear hr hb hF
    refine wpAnyH_ready (rs := [6]) (by kernel_rfl) (by simp) ?_
    refine AllReadyH.cons rfl (fun K hK => ?_) AllReadyH.nil
    go_simp
    refine (D24.out _ hS.1).mono ?_
    rintro e wF ⟨v24, rfl, hr⟩
    obtain ⟨A24, c24, us24, rfl, hF⟩ := hr.flat (t := W0.heap.size) hS.1.size
    have hb := hr.bel
    have F24 := Lib.hid hF
    have F14 := Lib.hid (F14.out.up hb)
    have F21 := Lib.hid (F21.out.up hb)
    have SS := KQ.out _ (hS.1.trans (hb.mono hS.1.size))
    refine hK.out _ _ SS (fun hS => ?_)
    clear hK K
    try simp only [Act.put, List.getElem_toArray, List.getElem_cons_zero, List.getElem_cons_succ, List.setIfInBounds_toArray, List.set_cons_zero, List.set_cons_succ]
    clear hr hb hF
    refine wpAnyH_ready (rs := [7]) (by kernel_rfl) (by simp) ?_
    refine AllReadyH.cons rfl (fun K hK => ?_) AllReadyH.nil
    go_simp
    have hb : Below (wF).heap.size wF (World.alloc wF (.cells #[.slice A14 t14.length c14, .slice A21 t21.length c21, .slice A24 t24.length c24] 26)) := (Below.refl _ _).alloc (Nat.le_refl _) _
    have HC := Lib.hid ((cat3 (c := c14) (d := c21) (e := c24) 26 F14.out F21.out F24.out).up hb.size)
    have SS := KQ.out _ (hS.1.trans (hb.mono hS.1.size))
    refine hK.out _ _ SS (fun hS => ?_)
    clear hK K
    try simp only [Act.put, List.getElem_toArray, List.getElem_cons_zero, List.getElem_cons_succ, List.setIfInBounds_toArray, List.set_cons_zero, List.set_cons_succ]
    clear hb F14 F21 F24
    refine wpAnyH_ready (rs := [8]) (by kernel_rfl) (by simp) ?_
    refine AllReadyH.cons rfl (fun K hK => ?_) AllReadyH.nil
    go_simp
    refine (concat_any [t14, t21, t24] _ 3 3 lo W0.heap.size _ (by simpa [Nat.add_assoc] using HLN.out) HC.out).mono ?_
    rintro e wG ⟨v26, rfl, hr⟩
    rw [HCE.out] at hr
    obtain ⟨A26, c26, us26, hv26, hF⟩ := hr.flat (t := W0.heap.size) (Nat.le_refl _)
    subst hv26
    have hb := hr.bel
    have R26 := Lib.hid (hr.from HBEL.out.size (HBEL.out.trans (hS.1.mono HBEL.out.size)))
    have F26 := Lib.hid hF
    have SS := KQ.out _ (hS.1.trans (hb.mono hS.1.size))
    refine hK.out _ _ SS (fun hS => ?_)
    clear hK K
    try simp only [Act.put, List.getElem_toArray, List.getElem_cons_zero, List.getElem_cons_succ, List.setIfInBounds_toArray, List.set_cons_zero, List.set_cons_succ]
    clear hb HC hr hF
    first
    | (refine wpAnyH_take (i := 9) (v := ?_) rfl (by kernel_rfl) (by kernel_rfl) (by kernel_rfl) (fun _ _ _ h => h) (Or.inl ⟨by rfl, ?_⟩) (by assumption) ?_
       rotate_left
       · (intro V hV; obtain ⟨_, y7, y14⟩ := hV; go_simp; try with_reducible rfl)
       try simp only [Act.put, List.getElem_toArray, List.getElem_cons_zero, List.getElem_cons_succ, List.setIfInBounds_toArray, List.set_cons_zero, List.set_cons_succ])
    | (refine wpAnyH_take (i := 9) (v := undef) rfl (by kernel_rfl) (by kernel_rfl) (by kernel_rfl) (fun _ _ _ h => h) (Or.inr ⟨by rfl, rfl⟩) (by assumption) ?_
       try simp only [Act.put, List.getElem_toArray, List.getElem_cons_zero, List.getElem_cons_succ, List.setIfInBounds_toArray, List.set_cons_zero, List.set_cons_succ])
    | fail "take 9"
    refine wpAnyH_done (by kernel_rfl) ?_ _
    clear KQ D21 D24 HCE
    go_wp2_with fail
    go_ret
    exact ⟨_, rfl, by rw [HTV.out]; exact R26.out⟩
  · have e3 : (d.kind == 3) = false := by simpa using hk
    have HTU := Lib.hid (show d.tys = t14 by rw [HTT.out, if_neg hk, List.append_nil])
    clear hk HTT HN C21 C24 KQ F14
    go_wp2_with fail
    go_ret
    exact ⟨_, rfl, by rw [HTU.out]; exact R14.out⟩
end Go.Proofs.YtaeljknfbanbfaaGreatDoor
namespace Go.Proofs.YtaeljknfbanbfaaGreatDoor
open Go.RowKit

set_option maxRecDepth 100000 in
set_option maxHeartbeats 16000000 in
theorem inSig_any (s : Sg) (us : List Value) (lo : Nat) (w : World) (hlo : lo ≤ w.heap.size) (hq : s.tys.length ≤ 1000000) (h : s.dat.In w False (· < lo) us) : Calls Tryz.prog 167 #[.agg us.toArray] w (TsPost lo w s.tys) := by
  have hbel : Below w.heap.size w (w.alloc (.cells us.toArray 30)) := (Below.refl _ _).alloc (Nat.le_refl _) _
  obtain ⟨W0, hW0⟩ : ∃ W0, w.alloc (.cells us.toArray 30) = W0 := ⟨_, rfl⟩
  rw [hW0] at hbel
  have hbox : Boxd W0 w.heap.size us := hW0 ▸ Boxd.new w us.toArray 30
  have HBEL := Lib.hid hbel
  have HLO := Lib.hid hlo
  have HL0 := Lib.hid (show lo ≤ W0.heap.size from Nat.le_trans hlo hbel.size)
  have h0 : s.dat.In W0 False (· < lo) us := h.later hbel fun k hk => Nat.lt_of_lt_of_le hk hlo
  have HW0 := Lib.hid hW0
  obtain ⟨Fu, nfu, cfu, Pu, npu, cpu, Au, mu, au, rfl, _, hf, hp, hn, ht⟩ := sg_open h0
  obtain ⟨x0, x1, x2, x3, x4, x5, x6⟩ := hbox.c7
  have SS : Below W0.heap.size W0 W0 ∧ W0.cell? ⟨w.heap.size, 1, none⟩ = some (.slice Fu nfu cfu) ∧ W0.cell? ⟨w.heap.size, 2, none⟩ = some (.slice Pu npu cpu) ∧ W0.cell? ⟨w.heap.size, 3, none⟩ = some (.string s.res.name) ∧ W0.cell? ⟨w.heap.size, 4, none⟩ = some (.slice Au mu au) ∧ W0.cell? ⟨w.heap.size, 5, none⟩ = some (.int .i64 s.res.off) := ⟨Below.refl _ _, x1, x2, x3, x4, x5⟩
  have KP := Lib.hid (show ∀ V : World, Below W0.heap.size W0 V → Below W0.heap.size W0 V ∧ V.cell? ⟨w.heap.size, 1, none⟩ = some (.slice Fu nfu cfu) ∧ V.cell? ⟨w.heap.size, 2, none⟩ = some (.slice Pu npu cpu) ∧ V.cell? ⟨w.heap.size, 3, none⟩ = some (.string s.res.name) ∧ V.cell? ⟨w.heap.size, 4, none⟩ = some (.slice Au mu au) ∧ V.cell? ⟨w.heap.size, 5, none⟩ = some (.int .i64 s.res.off) from fun V hV => ⟨hV, (hV.cell (cell_lt x1)).trans x1, (hV.cell (cell_lt x2)).trans x2, (hV.cell (cell_lt x3)).trans x3, (hV.cell (cell_lt x4)).trans x4, (hV.cell (cell_lt x5)).trans x5⟩)
  have HT := Lib.hid (show ∀ V : World, Below W0.heap.size W0 V → s.res.dat.In V False (· < lo) [.string s.res.name, .slice Au mu au, .int .i64 s.res.off] from fun V hV => (ty_shut hn ht).later hV fun k hk => Nat.lt_of_lt_of_le hk HL0.out)
  have hq2 := hq
  simp only [Sg.tys, List.length_append, List.length_cons, List.length_nil] at hq2
  obtain ⟨t5, h5⟩ : ∃ l, s.fs.flatMap Fo.tys = l := ⟨_, rfl⟩
  obtain ⟨t8, h8⟩ : ∃ l, s.ps.flatMap Fo.tys = l := ⟨_, rfl⟩
  have C5 := Lib.hid (fun (V : World) (hV : Below W0.heap.size W0 V) => show Calls Tryz.prog 162 #[.slice Fu nfu cfu, .func (.func 163) #[] #[]] V (TsPost lo V t5) from h5 ▸ inEachFormal_any s.fs Fu nfu cfu lo V (Nat.le_trans HL0.out hV.size) (by omega) (hf.later hV fun k hk => Nat.lt_of_lt_of_le hk HL0.out))
  have C8 := Lib.hid (fun (V : World) (hV : Below W0.heap.size W0 V) => show Calls Tryz.prog 164 #[.slice Pu npu cpu, .func (.func 165) #[] #[]] V (TsPost lo V t8) from h8 ▸ inEachParam_any s.ps Pu npu cpu lo V (Nat.le_trans HL0.out hV.size) (by omega) (hp.later hV fun k hk => Nat.lt_of_lt_of_le hk HL0.out))
  have HTS := Lib.hid (show s.tys = t5 ++ t8 ++ [s.res] by rw [Sg.tys, h5, h8])
  rw [h5, h8] at hq2
  have HLN := Lib.hid (show t5.length + t8.length ≤ 1000000 by omega)
  have HL1 := Lib.hid (show t5.length + t8.length + 1 ≤ 1000000 by omega)
  clear hbel hW0 hbox h h0 hf hp hn ht hq hq2 h5 h8 x0 x1 x2 x3 x4 x5 x6 hlo
  go_enter Tryz.func167, Tryz.ntmps167
  go_upto_region 1 with fail
  rw [HW0.out]
  clear HW0
  go_wp2_with fail
  refine wp_region_held_drew (S := fun V => Below W0.heap.size W0 V ∧ V.cell? ⟨w.heap.size, 1, none⟩ = some (.slice Fu nfu cfu) ∧ V.cell? ⟨w.heap.size, 2, none⟩ = some (.slice Pu npu cpu) ∧ V.cell? ⟨w.heap.size, 3, none⟩ = some (.string s.res.name) ∧ V.cell? ⟨w.heap.size, 4, none⟩ = some (.slice Au mu au) ∧ V.cell? ⟨w.heap.size, 5, none⟩ = some (.int .i64 s.res.off)) (by kernel_rfl) ⟨SS.1.drew, SS.2⟩ (fun hS => ?_)
  clear SS
  first
  | (refine wpAnyH_take (i := 0) (v := ?_) rfl (by kernel_rfl) (by kernel_rfl) (by kernel_rfl) (fun _ _ _ h => h) (Or.inl ⟨by rfl, ?_⟩) (by assumption) ?_
     rotate_left
     · (intro V hV; obtain ⟨_, x1, x2, x3, x4, x5⟩ := hV; go_simp; try with_reducible rfl)
     try simp only [Act.put, List.getElem_toArray, List.getElem_cons_zero, List.setIfInBounds_toArray, List.set_cons_zero, List.set_cons_succ])
  | (refine wpAnyH_take (i := 0) (v := undef) rfl (by kernel_rfl) (by kernel_rfl) (by kernel_rfl) (fun _ _ _ h => h) (Or.inr ⟨by rfl, rfl⟩) (by assumption) ?_
     try simp only [Act.put, List.getElem_toArray, List.getElem_cons_zero, List.setIfInBounds_toArray, List.set_cons_zero, List.set_cons_succ])
  | fail "take 0"
  first
  | (refine wpAnyH_take (i := 1) (v := ?_) rfl (by kernel_rfl) (by kernel_rfl) (by kernel_rfl) (fun _ _ _ h => h) (Or.inl ⟨by rfl, ?_⟩) (by assumption) ?_
     rotate_left
     · (intro V hV; obtain ⟨_, x1, x2, x3, x4, x5⟩ := hV; go_simp; try with_reducible rfl)
     try simp only [Act.put, List.getElem_toArray, List.getElem_cons_zero, List.getElem_cons_succ, List.setIfInBounds_toArray, List.set_cons_zero, List.set_cons_succ])
  | (refine wpAnyH_take (i := 1) (v := undef) rfl (by kernel_rfl) (by kernel_rfl) (by kernel_rfl) (fun _ _ _ h => h) (Or.inr ⟨by rfl, rfl⟩) (by assumption) ?_
     try simp only [Act.put, List.getElem_toArray, List.getElem_cons_zero, List.getElem_cons_succ, List.setIfInBounds_toArray, List.set_cons_zero, List.set_cons_succ])
  | fail "take 1"
  first
  | (refine wpAnyH_take (i := 3) (v := ?_) rfl (by kernel_rfl) (by kernel_rfl) (by kernel_rfl) (fun _ _ _ h => h) (Or.inl ⟨by rfl, ?_⟩) (by assumption) ?_
     rotate_left
     · (intro V hV; obtain ⟨_, x1, x2, x3, x4, x5⟩ := hV; go_simp; try with_reducible rfl)
     try simp only [Act.put, List.getElem_toArray, List.getElem_cons_zero, List.getElem_cons_succ, List.setIfInBounds_toArray, List.set_cons_zero, List.set_cons_succ])
  | (refine wpAnyH_take (i := 3) (v := undef) rfl (by kernel_rfl) (by kernel_rfl) (by kernel_rfl) (fun _ _ _ h => h) (Or.inr ⟨by rfl, rfl⟩) (by assumption) ?_
     try simp only [Act.put, List.getElem_toArray, List.getElem_cons_zero, List.getElem_cons_succ, List.setIfInBounds_toArray, List.set_cons_zero, List.set_cons_succ])
  | fail "take 3"
  first
  | (refine wpAnyH_take (i := 4) (v := ?_) rfl (by kernel_rfl) (by kernel_rfl) (by kernel_rfl) (fun _ _ _ h => h) (Or.inl ⟨by rfl, ?_⟩) (by assumption) ?_
     rotate_left
     · (intro V hV; obtain ⟨_, x1, x2, x3, x4, x5⟩ := hV; go_simp; try with_reducible rfl)
     try simp only [Act.put, List.getElem_toArray, List.getElem_cons_zero, List.getElem_cons_succ, List.setIfInBounds_toArray, List.set_cons_zero, List.set_cons_succ])
  | (refine wpAnyH_take (i := 4) (v := undef) rfl (by kernel_rfl) (by kernel_rfl) (by kernel_rfl) (fun _ _ _ h => h) (Or.inr ⟨by rfl, rfl⟩) (by assumption) ?_
     try simp only [Act.put, List.getElem_toArray, List.getElem_cons_zero, List.getElem_cons_succ, List.setIfInBounds_toArray, List.set_cons_zero, List.set_cons_succ])
  | fail "take 4"
  first
  | (refine wpAnyH_take (i := 8) (v := ?_) rfl (by kernel_rfl) (by kernel_rfl) (by kernel_rfl) (fun _ _ _ h => h) (Or.inl ⟨by rfl, ?_⟩) (by assumption) ?_
     rotate_left
     · (intro V hV; obtain ⟨_, x1, x2, x3, x4, x5⟩ := hV; go_simp; try with_reducible rfl)
     try simp only [Act.put, List.getElem_toArray, List.getElem_cons_zero, List.getElem_cons_succ, List.setIfInBounds_toArray, List.set_cons_zero, List.set_cons_succ])
  | (refine wpAnyH_take (i := 8) (v := undef) rfl (by kernel_rfl) (by kernel_rfl) (by kernel_rfl) (fun _ _ _ h => h) (Or.inr ⟨by rfl, rfl⟩) (by assumption) ?_
     try simp only [Act.put, List.getElem_toArray, List.getElem_cons_zero, List.getElem_cons_succ, List.setIfInBounds_toArray, List.set_cons_zero, List.set_cons_succ])
  | fail "take 8"
  first
  | (refine wpAnyH_take (i := 9) (v := ?_) rfl (by kernel_rfl) (by kernel_rfl) (by kernel_rfl) (fun _ _ _ h => h) (Or.inl ⟨by rfl, ?_⟩) (by assumption) ?_
     rotate_left
     · (intro V hV; obtain ⟨_, x1, x2, x3, x4, x5⟩ := hV; go_simp; try with_reducible rfl)
     try simp only [Act.put, List.getElem_toArray, List.getElem_cons_zero, List.getElem_cons_succ, List.setIfInBounds_toArray, List.set_cons_zero, List.set_cons_succ])
  | (refine wpAnyH_take (i := 9) (v := undef) rfl (by kernel_rfl) (by kernel_rfl) (by kernel_rfl) (fun _ _ _ h => h) (Or.inr ⟨by rfl, rfl⟩) (by assumption) ?_
     try simp only [Act.put, List.getElem_toArray, List.getElem_cons_zero, List.getElem_cons_succ, List.setIfInBounds_toArray, List.set_cons_zero, List.set_cons_succ])
  | fail "take 9"
  generalize World.drew W0 = Wd at *
  refine wpAnyH_ready (rs := [2, 10]) (by kernel_rfl) (by simp) ?_
  refine AllReadyH.cons rfl (fun K hK => ?_) (AllReadyH.cons rfl (fun K hK => ?_) (AllReadyH.nil))
  · skip
    go_simp
    refine (C5.out _ hS.1).mono ?_
    rintro e wA ⟨v5, rfl, hr⟩
    obtain ⟨A5, c5, us5, rfl, hF⟩ := hr.flat (t := W0.heap.size) hS.1.size
    have hb := hr.bel
    have F5 := Lib.hid hF
    have SS := KP.out _ (hS.1.trans (hb.mono hS.1.size))
    refine hK.out _ _ SS (fun hS => ?_)
    clear hK K
    try simp only [Act.put, List.getElem_toArray, List.getElem_cons_zero, List.getElem_cons_succ, List.setIfInBounds_toArray, List.set_cons_zero, List.set_cons_succ]
    clear hr hb hF
    refine wpAnyH_ready (rs := [5, 10]) (by kernel_rfl) (by simp) ?_
    refine AllReadyH.cons rfl (fun K hK => ?_) (AllReadyH.cons rfl (fun K hK => ?_) (AllReadyH.nil))
    · skip
      go_simp
      refine (C8.out _ hS.1).mono ?_
      rintro e wB ⟨v8, rfl, hr⟩
      obtain ⟨A8, c8, us8, rfl, hF⟩ := hr.flat (t := W0.heap.size) hS.1.size
      have hb := hr.bel
      have F8 := Lib.hid hF
      have F5 := Lib.hid (F5.out.up hb)
      have SS := KP.out _ (hS.1.trans (hb.mono hS.1.size))
      refine hK.out _ _ SS (fun hS => ?_)
      clear hK K
      try simp only [Act.put, List.getElem_toArray, List.getElem_cons_zero, List.getElem_cons_succ, List.setIfInBounds_toArray, List.set_cons_zero, List.set_cons_succ]
      clear hr hb hF
      refine wpAnyH_ready (rs := [6, 10]) (by kernel_rfl) (by simp) ?_
      refine AllReadyH.cons rfl (fun K hK => ?_) (AllReadyH.cons rfl (fun K hK => ?_) (AllReadyH.nil))
      · skip
        go_simp
        have hb : Below (wB).heap.size wB (World.alloc wB (.cells #[.slice A5 t5.length c5, .slice A8 t8.length c8] 26)) := (Below.refl _ _).alloc (Nat.le_refl _) _
        have HC := Lib.hid ((cat2 (c := c5) (d := c8) 26 F5.out F8.out).up hb.size)
        generalize (World.alloc wB (.cells #[.slice A5 t5.length c5, .slice A8 t8.length c8] 26)) = wX at *
        have SS := KP.out _ (hS.1.trans (hb.mono hS.1.size))
        refine hK.out _ _ SS (fun hS => ?_)
        clear hK K
        try simp only [Act.put, List.getElem_toArray, List.getElem_cons_zero, List.getElem_cons_succ, List.setIfInBounds_toArray, List.set_cons_zero, List.set_cons_succ]
        clear hb F5 F8
        refine wpAnyH_ready (rs := [7, 10]) (by kernel_rfl) (by simp) ?_
        refine AllReadyH.cons rfl (fun K hK => ?_) (AllReadyH.cons rfl (fun K hK => ?_) (AllReadyH.nil))
        · skip
          go_simp
          refine (concat_any [t5, t8] _ 2 2 lo W0.heap.size _ (by simpa using HLN.out) HC.out).mono ?_
          rintro e wC ⟨v10, rfl, hr⟩
          have hb := hr.bel
          have R10 := Lib.hid hr
          have HLR := Lib.hid (Nat.le_trans HL0.out hS.1.size)
          have HBX := Lib.hid hS.1
          have SS := KP.out _ (hS.1.trans (hb.mono hS.1.size))
          refine hK.out _ _ SS (fun hS => ?_)
          clear hK K
          try simp only [Act.put, List.getElem_toArray, List.getElem_cons_zero, List.getElem_cons_succ, List.setIfInBounds_toArray, List.set_cons_zero, List.set_cons_succ]
          clear hb HC hr
          refine wpAnyH_ready (rs := [10]) (by kernel_rfl) (by simp) ?_
          refine AllReadyH.cons rfl (fun K hK => ?_) (AllReadyH.nil)
          go_simp
          have hb : Below (wC).heap.size wC (World.alloc wC (.cells #[.string s.res.name, .slice Au mu au, .int .i64 s.res.off] 28)) := (Below.refl _ _).alloc (Nat.le_refl _) _
          have F13 := Lib.hid (flat_new 28 (HT.out _ hS.1) (Nat.le_trans HL0.out hS.1.size))
          generalize (World.alloc wC (.cells #[.string s.res.name, .slice Au mu au, .int .i64 s.res.off] 28)) = wY at *
          have R10 := Lib.hid (R10.out.later hb)
          have SS := KP.out _ (hS.1.trans (hb.mono hS.1.size))
          refine hK.out _ _ SS (fun hS => ?_)
          clear hK K
          try simp only [Act.put, List.getElem_toArray, List.getElem_cons_zero, List.getElem_cons_succ, List.setIfInBounds_toArray, List.set_cons_zero, List.set_cons_succ]
          clear hb
          refine wpAnyH_ready (rs := [11]) (by kernel_rfl) (by simp) ?_
          refine AllReadyH.cons rfl (fun K hK => ?_) (AllReadyH.nil)
          obtain ⟨cs, ho, hi⟩ := R10.out.own
          have ho := Lib.hid ho
          have hi := Lib.hid hi
          refine ready_append_row slTy rfl _ _ rfl rfl rfl ho.out R10.out.bel.size F13.out.len F13.out.cells F13.out.ones F13.out.some_ (by simpa using HL1.out) (by omega) ?_
          intro v4 w4 hA4
          have HR4 := Lib.hid ((TRow.app R10.out.bel ho.out hi.out F13.out.ins (fun b hb => ⟨⟨Nat.lt_of_lt_of_le hb (Nat.le_trans HL0.out hS.1.size), .inl hb⟩, own_above ho.out b (Nat.lt_of_lt_of_le hb HLR.out)⟩) hA4).from HBEL.out.size (HBEL.out.trans (HBX.out.mono HBEL.out.size)))
          have hbx := hA4.bel R10.out.bel.size (own_base ho.out)
          have SS := KP.out _ (hS.1.trans (hbx.mono HBX.out.size))
          refine hK.out _ _ SS (fun hS => ?_)
          clear hK K
          try simp only [Act.put, List.getElem_toArray, List.getElem_cons_zero, List.getElem_cons_succ, List.setIfInBounds_toArray, List.set_cons_zero, List.set_cons_succ]
          clear hA4 ho hi R10 F13 hbx
          first
          | (refine wpAnyH_take (i := 12) (v := ?_) rfl (by kernel_rfl) (by kernel_rfl) (by kernel_rfl) (fun _ _ _ h => h) (Or.inl ⟨by rfl, ?_⟩) (by assumption) ?_
             rotate_left
             · (intro V hV; obtain ⟨_, x1, x2, x3, x4, x5⟩ := hV; go_simp; try with_reducible rfl)
             try simp only [Act.put, List.getElem_toArray, List.getElem_cons_zero, List.getElem_cons_succ, List.setIfInBounds_toArray, List.set_cons_zero, List.set_cons_succ])
          | (refine wpAnyH_take (i := 12) (v := undef) rfl (by kernel_rfl) (by kernel_rfl) (by kernel_rfl) (fun _ _ _ h => h) (Or.inr ⟨by rfl, rfl⟩) (by assumption) ?_
             try simp only [Act.put, List.getElem_toArray, List.getElem_cons_zero, List.getElem_cons_succ, List.setIfInBounds_toArray, List.set_cons_zero, List.set_cons_succ])
          | fail "take 12"
          refine wpAnyH_done (by kernel_rfl) ?_ _
          clear KP C5 C8
          go_wp2_with fail
          go_ret
          exact ⟨_, rfl, by rw [HTS.out]; simpa using HR4.out⟩
        · skip
          go_simp
          have hb : Below (wX).heap.size wX (World.alloc wX (.cells #[.string s.res.name, .slice Au mu au, .int .i64 s.res.off] 28)) := (Below.refl _ _).alloc (Nat.le_refl _) _
          have F13 := Lib.hid (flat_new 28 (HT.out _ hS.1) (Nat.le_trans HL0.out hS.1.size))
          generalize (World.alloc wX (.cells #[.string s.res.name, .slice Au mu au, .int .i64 s.res.off] 28)) = wY at *
          have HC := Lib.hid ((HC.out.later hb).up hb.size)
          have SS := KP.out _ (hS.1.trans (hb.mono hS.1.size))
          refine hK.out _ _ SS (fun hS => ?_)
          clear hK K
          try simp only [Act.put, List.getElem_toArray, List.getElem_cons_zero, List.getElem_cons_succ, List.setIfInBounds_toArray, List.set_cons_zero, List.set_cons_succ]
          clear hb
          refine wpAnyH_ready (rs := [7]) (by kernel_rfl) (by simp) ?_
          refine AllReadyH.cons rfl (fun K hK => ?_) (AllReadyH.nil)
          go_simp
          refine (concat_any [t5, t8] _ 2 2 lo W0.heap.size _ (by simpa using HLN.out) HC.out).mono ?_
          rintro e wC ⟨v10, rfl, hr⟩
          have hb := hr.bel
          have R10 := Lib.hid hr
          have HLR := Lib.hid (Nat.le_trans HL0.out hS.1.size)
          have HBX := Lib.hid hS.1
          have F13 := Lib.hid (F13.out.later hb)
          have SS := KP.out _ (hS.1.trans (hb.mono hS.1.size))
          refine hK.out _ _ SS (fun hS => ?_)
          clear hK K
          try simp only [Act.put, List.getElem_toArray, List.getElem_cons_zero, List.getElem_cons_succ, List.setIfInBounds_toArray, List.set_cons_zero, List.set_cons_succ]
          clear hb HC hr
          refine wpAnyH_ready (rs := [11]) (by kernel_rfl) (by simp) ?_
          refine AllReadyH.cons rfl (fun K hK => ?_) (AllReadyH.nil)
          obtain ⟨cs, ho, hi⟩ := R10.out.own
          have ho := Lib.hid ho
          have hi := Lib.hid hi
          refine ready_append_row slTy rfl _ _ rfl rfl rfl ho.out R10.out.bel.size F13.out.len F13.out.cells F13.out.ones F13.out.some_ (by simpa using HL1.out) (by omega) ?_
          intro v4 w4 hA4
          have HR4 := Lib.hid ((TRow.app R10.out.bel ho.out hi.out F13.out.ins (fun b hb => ⟨⟨Nat.lt_of_lt_of_le hb (Nat.le_trans HL0.out hS.1.size), .inl hb⟩, own_above ho.out b (Nat.lt_of_lt_of_le hb HLR.out)⟩) hA4).from HBEL.out.size (HBEL.out.trans (HBX.out.mono HBEL.out.size)))
          have hbx := hA4.bel R10.out.bel.size (own_base ho.out)
          have SS := KP.out _ (hS.1.trans (hbx.mono HBX.out.size))
          refine hK.out _ _ SS (fun hS => ?_)
          clear hK K
          try simp only [Act.put, List.getElem_toArray, List.getElem_cons_zero, List.getElem_cons_succ, List.setIfInBounds_toArray, List.set_cons_zero, List.set_cons_succ]
          clear hA4 ho hi R10 F13 hbx
          first
          | (refine wpAnyH_take (i := 12) (v := ?_) rfl (by kernel_rfl) (by kernel_rfl) (by kernel_rfl) (fun _ _ _ h => h) (Or.inl ⟨by rfl, ?_⟩) (by assumption) ?_
             rotate_left
             · (intro V hV; obtain ⟨_, x1, x2, x3, x4, x5⟩ := hV; go_simp; try with_reducible rfl)
             try simp only [Act.put, List.getElem_toArray, List.getElem_cons_zero, List.getElem_cons_succ, List.setIfInBounds_toArray, List.set_cons_zero, List.set_cons_succ])
          | (refine wpAnyH_take (i := 12) (v := undef) rfl (by kernel_rfl) (by kernel_rfl) (by kernel_rfl) (fun _ _ _ h => h) (Or.inr ⟨by rfl, rfl⟩) (by assumption) ?_
             try simp only [Act.put, List.getElem_toArray, List.getElem_cons_zero, List.getElem_cons_succ, List.setIfInBounds_toArray, List.set_cons_zero, List.set_cons_succ])
          | fail "take 12"
          refine wpAnyH_done (by kernel_rfl) ?_ _
          clear KP C5 C8
          go_wp2_with fail
          go_ret
          exact ⟨_, rfl, by rw [HTS.out]; simpa using HR4.out⟩
      · skip
        go_simp
        have hb : Below (wB).heap.size wB (World.alloc wB (.cells #[.string s.res.name, .slice Au mu au, .int .i64 s.res.off] 28)) := (Below.refl _ _).alloc (Nat.le_refl _) _
        have F13 := Lib.hid (flat_new 28 (HT.out _ hS.1) (Nat.le_trans HL0.out hS.1.size))
        generalize (World.alloc wB (.cells #[.string s.res.name, .slice Au mu au, .int .i64 s.res.off] 28)) = wY at *
        have F5 := Lib.hid (F5.out.up hb)
        have F8 := Lib.hid (F8.out.up hb)
        have SS := KP.out _ (hS.1.trans (hb.mono hS.1.size))
        refine hK.out _ _ SS (fun hS => ?_)
        clear hK K
        try simp only [Act.put, List.getElem_toArray, List.getElem_cons_zero, List.getElem_cons_succ, List.setIfInBounds_toArray, List.set_cons_zero, List.set_cons_succ]
        clear hb
        refine wpAnyH_ready (rs := [6]) (by kernel_rfl) (by simp) ?_
        refine AllReadyH.cons rfl (fun K hK => ?_) (AllReadyH.nil)
        go_simp
        have hb : Below (wY).heap.size wY (World.alloc wY (.cells #[.slice A5 t5.length c5, .slice A8 t8.length c8] 26)) := (Below.refl _ _).alloc (Nat.le_refl _) _
        have HC := Lib.hid ((cat2 (c := c5) (d := c8) 26 F5.out F8.out).up hb.size)
        generalize (World.alloc wY (.cells #[.slice A5 t5.length c5, .slice A8 t8.length c8] 26)) = wX at *
        have F13 := Lib.hid (F13.out.later hb)
        have SS := KP.out _ (hS.1.trans (hb.mono hS.1.size))
        refine hK.out _ _ SS (fun hS => ?_)
        clear hK K
        try simp only [Act.put, List.getElem_toArray, List.getElem_cons_zero, List.getElem_cons_succ, List.setIfInBounds_toArray, List.set_cons_zero, List.set_cons_succ]
        clear hb F5 F8
        refine wpAnyH_ready (rs := [7]) (by kernel_rfl) (by simp) ?_
        refine AllReadyH.cons rfl (fun K hK => ?_) (AllReadyH.nil)
        go_simp
        refine (concat_any [t5, t8] _ 2 2 lo W0.heap.size _ (by simpa using HLN.out) HC.out).mono ?_
        rintro e wC ⟨v10, rfl, hr⟩
        have hb := hr.bel
        have R10 := Lib.hid hr
        have HLR := Lib.hid (Nat.le_trans HL0.out hS.1.size)
        have HBX := Lib.hid hS.1
        have F13 := Lib.hid (F13.out.later hb)
        have SS := KP.out _ (hS.1.trans (hb.mono hS.1.size))
        refine hK.out _ _ SS (fun hS => ?_)
        clear hK K
        try simp only [Act.put, List.getElem_toArray, List.getElem_cons_zero, List.getElem_cons_succ, List.setIfInBounds_toArray, List.set_cons_zero, List.set_cons_succ]
        clear hb HC hr
        refine wpAnyH_ready (rs := [11]) (by kernel_rfl) (by simp) ?_
        refine AllReadyH.cons rfl (fun K hK => ?_) (AllReadyH.nil)
        obtain ⟨cs, ho, hi⟩ := R10.out.own
        have ho := Lib.hid ho
        have hi := Lib.hid hi
        refine ready_append_row slTy rfl _ _ rfl rfl rfl ho.out R10.out.bel.size F13.out.len F13.out.cells F13.out.ones F13.out.some_ (by simpa using HL1.out) (by omega) ?_
        intro v4 w4 hA4
        have HR4 := Lib.hid ((TRow.app R10.out.bel ho.out hi.out F13.out.ins (fun b hb => ⟨⟨Nat.lt_of_lt_of_le hb (Nat.le_trans HL0.out hS.1.size), .inl hb⟩, own_above ho.out b (Nat.lt_of_lt_of_le hb HLR.out)⟩) hA4).from HBEL.out.size (HBEL.out.trans (HBX.out.mono HBEL.out.size)))
        have hbx := hA4.bel R10.out.bel.size (own_base ho.out)
        have SS := KP.out _ (hS.1.trans (hbx.mono HBX.out.size))
        refine hK.out _ _ SS (fun hS => ?_)
        clear hK K
        try simp only [Act.put, List.getElem_toArray, List.getElem_cons_zero, List.getElem_cons_succ, List.setIfInBounds_toArray, List.set_cons_zero, List.set_cons_succ]
        clear hA4 ho hi R10 F13 hbx
        first
        | (refine wpAnyH_take (i := 12) (v := ?_) rfl (by kernel_rfl) (by kernel_rfl) (by kernel_rfl) (fun _ _ _ h => h) (Or.inl ⟨by rfl, ?_⟩) (by assumption) ?_
           rotate_left
           · (intro V hV; obtain ⟨_, x1, x2, x3, x4, x5⟩ := hV; go_simp; try with_reducible rfl)
           try simp only [Act.put, List.getElem_toArray, List.getElem_cons_zero, List.getElem_cons_succ, List.setIfInBounds_toArray, List.set_cons_zero, List.set_cons_succ])
        | (refine wpAnyH_take (i := 12) (v := undef) rfl (by kernel_rfl) (by kernel_rfl) (by kernel_rfl) (fun _ _ _ h => h) (Or.inr ⟨by rfl, rfl⟩) (by assumption) ?_
           try simp only [Act.put, List.getElem_toArray, List.getElem_cons_zero, List.getElem_cons_succ, List.setIfInBounds_toArray, List.set_cons_zero, List.set_cons_succ])
        | fail "take 12"
        refine wpAnyH_done (by kernel_rfl) ?_ _
        clear KP C5 C8
        go_wp2_with fail
        go_ret
        exact ⟨_, rfl, by rw [HTS.out]; simpa using HR4.out⟩
    · skip
      go_simp
      have hb : Below (wA).heap.size wA (World.alloc wA (.cells #[.string s.res.name, .slice Au mu au, .int .i64 s.res.off] 28)) := (Below.refl _ _).alloc (Nat.le_refl _) _
      have F13 := Lib.hid (flat_new 28 (HT.out _ hS.1) (Nat.le_trans HL0.out hS.1.size))
      generalize (World.alloc wA (.cells #[.string s.res.name, .slice Au mu au, .int .i64 s.res.off] 28)) = wY at *
      have F5 := Lib.hid (F5.out.up hb)
      have SS := KP.out _ (hS.1.trans (hb.mono hS.1.size))
      refine hK.out _ _ SS (fun hS => ?_)
      clear hK K
      try simp only [Act.put, List.getElem_toArray, List.getElem_cons_zero, List.getElem_cons_succ, List.setIfInBounds_toArray, List.set_cons_zero, List.set_cons_succ]
      clear hb
      refine wpAnyH_ready (rs := [5]) (by kernel_rfl) (by simp) ?_
      refine AllReadyH.cons rfl (fun K hK => ?_) (AllReadyH.nil)
      go_simp
      refine (C8.out _ hS.1).mono ?_
      rintro e wB ⟨v8, rfl, hr⟩
      obtain ⟨A8, c8, us8, rfl, hF⟩ := hr.flat (t := W0.heap.size) hS.1.size
      have hb := hr.bel
      have F8 := Lib.hid hF
      have F5 := Lib.hid (F5.out.up hb)
      have F13 := Lib.hid (F13.out.later hb)
      have SS := KP.out _ (hS.1.trans (hb.mono hS.1.size))
      refine hK.out _ _ SS (fun hS => ?_)
      clear hK K
      try simp only [Act.put, List.getElem_toArray, List.getElem_cons_zero, List.getElem_cons_succ, List.setIfInBounds_toArray, List.set_cons_zero, List.set_cons_succ]
      clear hr hb hF
      refine wpAnyH_ready (rs := [6]) (by kernel_rfl) (by simp) ?_
      refine AllReadyH.cons rfl (fun K hK => ?_) (AllReadyH.nil)
      go_simp
      have hb : Below (wB).heap.size wB (World.alloc wB (.cells #[.slice A5 t5.length c5, .slice A8 t8.length c8] 26)) := (Below.refl _ _).alloc (Nat.le_refl _) _
      have HC := Lib.hid ((cat2 (c := c5) (d := c8) 26 F5.out F8.out).up hb.size)
      generalize (World.alloc wB (.cells #[.slice A5 t5.length c5, .slice A8 t8.length c8] 26)) = wX at *
      have F13 := Lib.hid (F13.out.later hb)
      have SS := KP.out _ (hS.1.trans (hb.mono hS.1.size))
      refine hK.out _ _ SS (fun hS => ?_)
      clear hK K
      try simp only [Act.put, List.getElem_toArray, List.getElem_cons_zero, List.getElem_cons_succ, List.setIfInBounds_toArray, List.set_cons_zero, List.set_cons_succ]
      clear hb F5 F8
      refine wpAnyH_ready (rs := [7]) (by kernel_rfl) (by simp) ?_
      refine AllReadyH.cons rfl (fun K hK => ?_) (AllReadyH.nil)
      go_simp
      refine (concat_any [t5, t8] _ 2 2 lo W0.heap.size _ (by simpa using HLN.out) HC.out).mono ?_
      rintro e wC ⟨v10, rfl, hr⟩
      have hb := hr.bel
      have R10 := Lib.hid hr
      have HLR := Lib.hid (Nat.le_trans HL0.out hS.1.size)
      have HBX := Lib.hid hS.1
      have F13 := Lib.hid (F13.out.later hb)
      have SS := KP.out _ (hS.1.trans (hb.mono hS.1.size))
      refine hK.out _ _ SS (fun hS => ?_)
      clear hK K
      try simp only [Act.put, List.getElem_toArray, List.getElem_cons_zero, List.getElem_cons_succ, List.setIfInBounds_toArray, List.set_cons_zero, List.set_cons_succ]
      clear hb HC hr
      refine wpAnyH_ready (rs := [11]) (by kernel_rfl) (by simp) ?_
      refine AllReadyH.cons rfl (fun K hK => ?_) (AllReadyH.nil)
      obtain ⟨cs, ho, hi⟩ := R10.out.own
      have ho := Lib.hid ho
      have hi := Lib.hid hi
      refine ready_append_row slTy rfl _ _ rfl rfl rfl ho.out R10.out.bel.size F13.out.len F13.out.cells F13.out.ones F13.out.some_ (by simpa using HL1.out) (by omega) ?_
      intro v4 w4 hA4
      have HR4 := Lib.hid ((TRow.app R10.out.bel ho.out hi.out F13.out.ins (fun b hb => ⟨⟨Nat.lt_of_lt_of_le hb (Nat.le_trans HL0.out hS.1.size), .inl hb⟩, own_above ho.out b (Nat.lt_of_lt_of_le hb HLR.out)⟩) hA4).from HBEL.out.size (HBEL.out.trans (HBX.out.mono HBEL.out.size)))
      have hbx := hA4.bel R10.out.bel.size (own_base ho.out)
      have SS := KP.out _ (hS.1.trans (hbx.mono HBX.out.size))
      refine hK.out _ _ SS (fun hS => ?_)
      clear hK K
      try simp only [Act.put, List.getElem_toArray, List.getElem_cons_zero, List.getElem_cons_succ, List.setIfInBounds_toArray, List.set_cons_zero, List.set_cons_succ]
      clear hA4 ho hi R10 F13 hbx
      first
      | (refine wpAnyH_take (i := 12) (v := ?_) rfl (by kernel_rfl) (by kernel_rfl) (by kernel_rfl) (fun _ _ _ h => h) (Or.inl ⟨by rfl, ?_⟩) (by assumption) ?_
         rotate_left
         · (intro V hV; obtain ⟨_, x1, x2, x3, x4, x5⟩ := hV; go_simp; try with_reducible rfl)
         try simp only [Act.put, List.getElem_toArray, List.getElem_cons_zero, List.getElem_cons_succ, List.setIfInBounds_toArray, List.set_cons_zero, List.set_cons_succ])
      | (refine wpAnyH_take (i := 12) (v := undef) rfl (by kernel_rfl) (by kernel_rfl) (by kernel_rfl) (fun _ _ _ h => h) (Or.inr ⟨by rfl, rfl⟩) (by assumption) ?_
         try simp only [Act.put, List.getElem_toArray, List.getElem_cons_zero, List.getElem_cons_succ, List.setIfInBounds_toArray, List.set_cons_zero, List.set_cons_succ])
      | fail "take 12"
      refine wpAnyH_done (by kernel_rfl) ?_ _
      clear KP C5 C8
      go_wp2_with fail
      go_ret
      exact ⟨_, rfl, by rw [HTS.out]; simpa using HR4.out⟩
  · skip
    go_simp
    have hb : Below (Wd).heap.size Wd (World.alloc Wd (.cells #[.string s.res.name, .slice Au mu au, .int .i64 s.res.off] 28)) := (Below.refl _ _).alloc (Nat.le_refl _) _
    have F13 := Lib.hid (flat_new 28 (HT.out _ hS.1) (Nat.le_trans HL0.out hS.1.size))
    generalize (World.alloc Wd (.cells #[.string s.res.name, .slice Au mu au, .int .i64 s.res.off] 28)) = wY at *
    have SS := KP.out _ (hS.1.trans (hb.mono hS.1.size))
    refine hK.out _ _ SS (fun hS => ?_)
    clear hK K
    try simp only [Act.put, List.getElem_toArray, List.getElem_cons_zero, List.getElem_cons_succ, List.setIfInBounds_toArray, List.set_cons_zero, List.set_cons_succ]
    clear hb
    refine wpAnyH_ready (rs := [2]) (by kernel_rfl) (by simp) ?_
    refine AllReadyH.cons rfl (fun K hK => ?_) (AllReadyH.nil)
    go_simp
    refine (C5.out _ hS.1).mono ?_
    rintro e wA ⟨v5, rfl, hr⟩
    obtain ⟨A5, c5, us5, rfl, hF⟩ := hr.flat (t := W0.heap.size) hS.1.size
    have hb := hr.bel
    have F5 := Lib.hid hF
    have F13 := Lib.hid (F13.out.later hb)
    have SS := KP.out _ (hS.1.trans (hb.mono hS.1.size))
    refine hK.out _ _ SS (fun hS => ?_)
    clear hK K
    try simp only [Act.put, List.getElem_toArray, List.getElem_cons_zero, List.getElem_cons_succ, List.setIfInBounds_toArray, List.set_cons_zero, List.set_cons_succ]
    clear hr hb hF
    refine wpAnyH_ready (rs := [5]) (by kernel_rfl) (by simp) ?_
    refine AllReadyH.cons rfl (fun K hK => ?_) (AllReadyH.nil)
    go_simp
    refine (C8.out _ hS.1).mono ?_
    rintro e wB ⟨v8, rfl, hr⟩
    obtain ⟨A8, c8, us8, rfl, hF⟩ := hr.flat (t := W0.heap.size) hS.1.size
    have hb := hr.bel
    have F8 := Lib.hid hF
    have F13 := Lib.hid (F13.out.later hb)
    have F5 := Lib.hid (F5.out.up hb)
    have SS := KP.out _ (hS.1.trans (hb.mono hS.1.size))
    refine hK.out _ _ SS (fun hS => ?_)
    clear hK K
    try simp only [Act.put, List.getElem_toArray, List.getElem_cons_zero, List.getElem_cons_succ, List.setIfInBounds_toArray, List.set_cons_zero, List.set_cons_succ]
    clear hr hb hF
    refine wpAnyH_ready (rs := [6]) (by kernel_rfl) (by simp) ?_
    refine AllReadyH.cons rfl (fun K hK => ?_) (AllReadyH.nil)
    go_simp
    have hb : Below (wB).heap.size wB (World.alloc wB (.cells #[.slice A5 t5.length c5, .slice A8 t8.length c8] 26)) := (Below.refl _ _).alloc (Nat.le_refl _) _
    have HC := Lib.hid ((cat2 (c := c5) (d := c8) 26 F5.out F8.out).up hb.size)
    generalize (World.alloc wB (.cells #[.slice A5 t5.length c5, .slice A8 t8.length c8] 26)) = wX at *
    have F13 := Lib.hid (F13.out.later hb)
    have SS := KP.out _ (hS.1.trans (hb.mono hS.1.size))
    refine hK.out _ _ SS (fun hS => ?_)
    clear hK K
    try simp only [Act.put, List.getElem_toArray, List.getElem_cons_zero, List.getElem_cons_succ, List.setIfInBounds_toArray, List.set_cons_zero, List.set_cons_succ]
    clear hb F5 F8
    refine wpAnyH_ready (rs := [7]) (by kernel_rfl) (by simp) ?_
    refine AllReadyH.cons rfl (fun K hK => ?_) (AllReadyH.nil)
    go_simp
    refine (concat_any [t5, t8] _ 2 2 lo W0.heap.size _ (by simpa using HLN.out) HC.out).mono ?_
    rintro e wC ⟨v10, rfl, hr⟩
    have hb := hr.bel
    have R10 := Lib.hid hr
    have HLR := Lib.hid (Nat.le_trans HL0.out hS.1.size)
    have HBX := Lib.hid hS.1
    have F13 := Lib.hid (F13.out.later hb)
    have SS := KP.out _ (hS.1.trans (hb.mono hS.1.size))
    refine hK.out _ _ SS (fun hS => ?_)
    clear hK K
    try simp only [Act.put, List.getElem_toArray, List.getElem_cons_zero, List.getElem_cons_succ, List.setIfInBounds_toArray, List.set_cons_zero, List.set_cons_succ]
    clear hb HC hr
    refine wpAnyH_ready (rs := [11]) (by kernel_rfl) (by simp) ?_
    refine AllReadyH.cons rfl (fun K hK => ?_) (AllReadyH.nil)
    obtain ⟨cs, ho, hi⟩ := R10.out.own
    have ho := Lib.hid ho
    have hi := Lib.hid hi
    refine ready_append_row slTy rfl _ _ rfl rfl rfl ho.out R10.out.bel.size F13.out.len F13.out.cells F13.out.ones F13.out.some_ (by simpa using HL1.out) (by omega) ?_
    intro v4 w4 hA4
    have HR4 := Lib.hid ((TRow.app R10.out.bel ho.out hi.out F13.out.ins (fun b hb => ⟨⟨Nat.lt_of_lt_of_le hb (Nat.le_trans HL0.out hS.1.size), .inl hb⟩, own_above ho.out b (Nat.lt_of_lt_of_le hb HLR.out)⟩) hA4).from HBEL.out.size (HBEL.out.trans (HBX.out.mono HBEL.out.size)))
    have hbx := hA4.bel R10.out.bel.size (own_base ho.out)
    have SS := KP.out _ (hS.1.trans (hbx.mono HBX.out.size))
    refine hK.out _ _ SS (fun hS => ?_)
    clear hK K
    try simp only [Act.put, List.getElem_toArray, List.getElem_cons_zero, List.getElem_cons_succ, List.setIfInBounds_toArray, List.set_cons_zero, List.set_cons_succ]
    clear hA4 ho hi R10 F13 hbx
    first
    | (refine wpAnyH_take (i := 12) (v := ?_) rfl (by kernel_rfl) (by kernel_rfl) (by kernel_rfl) (fun _ _ _ h => h) (Or.inl ⟨by rfl, ?_⟩) (by assumption) ?_
       rotate_left
       · (intro V hV; obtain ⟨_, x1, x2, x3, x4, x5⟩ := hV; go_simp; try with_reducible rfl)
       try simp only [Act.put, List.getElem_toArray, List.getElem_cons_zero, List.getElem_cons_succ, List.setIfInBounds_toArray, List.set_cons_zero, List.set_cons_succ])
    | (refine wpAnyH_take (i := 12) (v := undef) rfl (by kernel_rfl) (by kernel_rfl) (by kernel_rfl) (fun _ _ _ h => h) (Or.inr ⟨by rfl, rfl⟩) (by assumption) ?_
       try simp only [Act.put, List.getElem_toArray, List.getElem_cons_zero, List.getElem_cons_succ, List.setIfInBounds_toArray, List.set_cons_zero, List.set_cons_succ])
    | fail "take 12"
    refine wpAnyH_done (by kernel_rfl) ?_ _
    clear KP C5 C8
    go_wp2_with fail
    go_ret
    exact ⟨_, rfl, by rw [HTS.out]; simpa using HR4.out⟩
end Go.Proofs.YtaeljknfbanbfaaGreatDoor
namespace Go.Proofs.YtaeljknfbanbfaaGreatDoor
open Go.RowKit

set_option maxRecDepth 100000 in
set_option maxHeartbeats 8000000 in
theorem inEachDecl_any (xs : List Dc) (A : Option Addr) (q c lo : Nat) (w : World) (HSG : InSigOk) (HIE : InExprOk) (hw : ∀ d ∈ xs, d.wt ≤ 1000) (hlo : lo ≤ w.heap.size) (hq : (xs.flatMap Dc.tys).length ≤ 1000000) (h : Row w False (· < lo) 23 A q (xs.map Dc.dat)) :
    Calls Tryz.prog 120 #[.slice A q c, .func (.func 121) #[] #[]] w (TsPost lo w (xs.flatMap Dc.tys)) := by
  have hxl := h.len
  rw [List.length_map] at hxl
  have hm : (q : Int) ≤ 9223372036854775807 := by have := h.le; omega
  have H1 := Lib.hid h
  have HXL := Lib.hid hxl
  have HQ := Lib.hid hq
  have HLO := Lib.hid hlo
  clear h hxl hq hlo
  go_enter Tryz.func120, Tryz.ntmps120
  go_wp2_with fail
  go_loopw [5, 10] (fun v i wr => ∃ k : Nat, k ≤ q ∧ i = .int .i64 k ∧ TRow lo w.heap.size w wr v ((xs.take k).flatMap Dc.tys)) (fun _ i _ => q - (intOf i).toNat)
  case atStart => exact ⟨0, by omega, rfl, by rw [List.take_zero]; exact TRow.nil lo _ w w (Below.refl _ _)⟩
  case round =>
    obtain ⟨k, hk, rfl, hrow⟩ := hrel
    have HR := Lib.hid hrow
    have hbel := hrow.bel
    have y1 : (0 : Int) ≤ k := by omega
    by_cases hlt : k < q
    · have y0 : (k : Int) < q := by omega
      obtain ⟨pu, u, ps, rfl, hx, _, _, hu, hcs⟩ := dat_at (H1.out.later hbel fun k hk => Nat.lt_of_lt_of_le hk HLO.out) hlt
      have HLU := Lib.hid (show ps.length = 23 from (Dat.In.len _ _ hu).trans (Dc.dat_size u))
      have HOU := Lib.hid (dc_cells hu)
      obtain ⟨W1, hP1⟩ := putZ z23 35 wr HLU.out
      have HP1 := Lib.hid hP1
      have HFC := Lib.hid hcs
      have HX := Lib.hid hP1.box.at0
      have HLR := Lib.hid (show lo ≤ wr.heap.size from Nat.le_trans HLO.out hbel.size)
      have HLW := Lib.hid (show lo ≤ W1.heap.size from Nat.le_trans HLR.out hP1.bel.size)
      have C := Lib.hid (show Calls Tryz.prog 121 #[.agg ps.toArray] W1 (TsPost lo W1 (Dc.tys u)) from inDecl_any HSG HIE u ps lo W1 HLW.out (hw u (List.mem_of_getElem? hx)) (Nat.le_trans (flatMap_mem_le Dc.tys (List.mem_of_getElem? hx)) HQ.out) (hu.later hP1.bel fun k hk => Nat.lt_of_lt_of_le hk HLR.out))
      have HB1 := Lib.hid hP1.bel
      have HST := Lib.hid (show (xs.take (k + 1)).flatMap Dc.tys = (xs.take k).flatMap Dc.tys ++ Dc.tys u by rw [Ex.take_at hx, List.flatMap_append]; simp)
      have HLN := Lib.hid (show ((xs.take k).flatMap Dc.tys).length + (Dc.tys u).length ≤ 1000000 by
        have h1 := HQ.out
        have h2 : ((xs.take (k + 1)).flatMap Dc.tys).length ≤ (xs.flatMap Dc.tys).length := by
          conv => rhs; rw [← List.take_append_drop (k + 1) xs, List.flatMap_append, List.length_append]
          omega
        rw [HST.out, List.length_append] at h2
        omega)
      clear hx hu hcs hbel hrow hP1
      generalize Dc.tys u = rs at *
      generalize (xs.take k).flatMap Dc.tys = ts at *
      go_wp2_with (first
        | (refine loadOp flatDc 12 13 rfl HFC.out HLU.out ?_)
        | (refine storeOp flatDc 7 13 (b := wr.heap.size) (o := 0) rfl rfl HP1.out.there HOU.out HLU.out ?_; rw [HP1.out.eq])
        | (refine loadOp flatDc 7 16 rfl HX.out HLU.out ?_))
      refine C.out.mono ?_
      rintro e w3 ⟨v3, rfl, hr3⟩
      have HR0 := HR.out.later HB1.out
      have HR1 := HR0.later hr3.bel
      obtain ⟨B, d, us2, rfl, hF⟩ := hr3.flat (Nat.le_refl _)
      obtain ⟨cs0, ho0, _⟩ := HR0.own
      have hap := own_apart ho0 HLO.out (Nat.le_refl _)
      have hsz : w.heap.size ≤ W1.heap.size := HR0.bel.size
      have HAP := Lib.hid (fun b (hb : LB lo W1.heap.size w3 b) => And.intro (LB.up (Nat.le_refl w3.heap.size) hsz b hb) (hap b hb.2))
      obtain ⟨cs, ho1, hi1⟩ := HR1.own
      have HF := Lib.hid hF
      have HON := Lib.hid ho1
      have HII := Lib.hid hi1
      have HBE := Lib.hid HR1.bel
      clear ho0 hap hsz HR0 ho1 hi1 HR1 hr3 hF C HP1 HFC HX HB1
      go_wp2_with (at_builtin; refine wpList_append_row slTy rfl _ _ rfl rfl rfl HON.out HBE.out.size HF.out.len HF.out.cells HF.out.ones HF.out.some_ HLN.out (by omega) ?_; intro v4 w4 hA4; have HR4 := Lib.hid (TRow.app HBE.out HON.out HII.out HF.out.ins HAP.out hA4); clear hA4)
      go_roundw
      case rel => exact ⟨k + 1, by omega, by go_num, by rw [HST.out]; exact HR4.out⟩
      case measure => simp [intOf]; omega
    · have y0 : (q : Int) ≤ k := by omega
      rw [List.take_of_length_le (by rw [HXL.out]; omega)] at hrow
      have HR2 := Lib.hid hrow
      clear hrow hbel
      go_wp2_with fail
      go_ret
      exact ⟨_, rfl, HR2.out⟩
/-- One's own row is a slice that leads below. -/
theorem TRow.row {lo s : Nat} {w W : World} {A : Option Addr} {n c : Nat} {ts : List Ty} (h : TRow lo s w W (.slice A n c) ts) (hn : ts.length ≤ 1000000) : n = ts.length ∧ RowH W 3 A ts.length (ts.map Ty.dat) := by
  obtain ⟨cs, h1, h2⟩ := h.own
  obtain ⟨A', c', h3, h4, _⟩ := row_of_own (N := False) (S' := (· < W.heap.size)) h1 h2 ty_sizes (by omega) (fun _ hb => hb.1.1) (fun g hg => (h1.lt g hg).2) (by omega)
  cases h3
  rw [Ty.dats_map] at h4
  exact ⟨rfl, h4⟩
set_option maxRecDepth 100000 in
set_option maxHeartbeats 16000000 in
theorem inProgram_any (HSG : InSigOk) (HIE : InExprOk) (p : Pg) (us : List Value) (lo : Nat) (w : World) (hlo : lo ≤ w.heap.size) (hw : p.wt ≤ 1000) (hq : p.tys.length ≤ 1000000) (h : p.dat.In w False (· < lo) us) : Calls Tryz.prog 67 #[.agg us.toArray] w (TsPost lo w p.tys) := by
  have hbel : Below w.heap.size w (w.alloc (.cells us.toArray 40)) := (Below.refl _ _).alloc (Nat.le_refl _) _
  obtain ⟨W0, hW0⟩ : ∃ W0, w.alloc (.cells us.toArray 40) = W0 := ⟨_, rfl⟩
  rw [hW0] at hbel
  have hbox : Boxd W0 w.heap.size us := hW0 ▸ Boxd.new w us.toArray 40
  have HBEL := Lib.hid hbel
  have HL0 := Lib.hid (show lo ≤ W0.heap.size from Nat.le_trans hlo hbel.size)
  have h0 : p.dat.In W0 False (· < lo) us := h.later hbel fun k hk => Nat.lt_of_lt_of_le hk hlo
  have HW0 := Lib.hid hW0
  obtain ⟨D, n, c, bv, hus, hd, hbd⟩ := pg_open h0
  have hbl : bv.length = 8 := (Dat.In.len _ _ hbd).trans (Ex.dat_size _)
  have HBL := Lib.hid hbl
  have x0 := hbox 0 (.slice D n c) (by rw [hus]; rfl)
  have r1 : W0.rangeAt w.heap.size 1 bv := fun j v hv => hbox (1 + j) v (by rw [hus, Nat.add_comm]; exact hv)
  have SS : Below W0.heap.size W0 W0 ∧ W0.cell? ⟨w.heap.size, 0, none⟩ = some (.slice D n c) ∧ W0.rangeAt w.heap.size 1 bv := ⟨Below.refl _ _, x0, r1⟩
  have KP := Lib.hid (show ∀ V : World, Below W0.heap.size W0 V → Below W0.heap.size W0 V ∧ V.cell? ⟨w.heap.size, 0, none⟩ = some (.slice D n c) ∧ V.rangeAt w.heap.size 1 bv from fun V hV => ⟨hV, (hV.cell (cell_lt x0)).trans x0, fun j v hv => (hV.cell (cell_lt (r1 j v hv))).trans (r1 j v hv)⟩)
  have hq2 := hq
  simp only [Pg.tys, List.length_append] at hq2
  obtain ⟨t5, h5⟩ : ∃ l, p.ds.flatMap Dc.tys = l := ⟨_, rfl⟩
  obtain ⟨t8, h8⟩ : ∃ l, exTys p.main = l := ⟨_, rfl⟩
  rw [h5, h8] at hq2
  have C5 := Lib.hid (fun (V : World) (hV : Below W0.heap.size W0 V) => show Calls Tryz.prog 120 #[.slice D n c, .func (.func 121) #[] #[]] V (TsPost lo V t5) from h5 ▸ inEachDecl_any p.ds D n c lo V HSG HIE (fun d hd => Nat.le_trans (Pg.wt_d (p := p) hd) hw) (Nat.le_trans HL0.out hV.size) (by rw [h5]; omega) (hd.later hV fun k hk => Nat.lt_of_lt_of_le hk HL0.out))
  have C8 := Lib.hid (fun (V : World) (hV : Below W0.heap.size W0 V) => show Calls Tryz.prog 122 #[.agg bv.toArray] V (TsPost lo V t8) from h8 ▸ HIE p.main bv lo V (Nat.le_trans HL0.out hV.size) (Nat.le_trans Pg.wt_main hw) (by rw [h8]; omega) (hbd.later hV fun k hk => Nat.lt_of_lt_of_le hk HL0.out))
  have HTS := Lib.hid (show p.tys = t5 ++ t8 by rw [Pg.tys, h5, h8])
  have HLN := Lib.hid (show t5.length + t8.length ≤ 1000000 from hq2)
  clear hus hbel hW0 hbox h h0 hd hbd hq hq2 h5 h8 x0 r1 hbl hlo hw HSG HIE
  go_enter Tryz.func67, Tryz.ntmps67
  go_upto_region 1 with fail
  rw [HW0.out]
  clear HW0
  go_wp2_with fail
  refine wp_region_held_drew (S := fun V => Below W0.heap.size W0 V ∧ V.cell? ⟨w.heap.size, 0, none⟩ = some (.slice D n c) ∧ V.rangeAt w.heap.size 1 bv) (by kernel_rfl) ⟨SS.1.drew, SS.2⟩ (fun hS => ?_)
  clear SS
  first
  | (refine wpAnyH_take (i := 0) (v := ?_) rfl (by kernel_rfl) (by kernel_rfl) (by kernel_rfl) (fun _ _ _ h => h) (Or.inl ⟨by rfl, ?_⟩) (by assumption) ?_
     rotate_left
     · (intro V hV; obtain ⟨_, x0, x1⟩ := hV; go_simp; try with_reducible rfl)
     try simp only [Act.put, List.getElem_toArray, List.getElem_cons_zero, List.setIfInBounds_toArray, List.set_cons_zero, List.set_cons_succ])
  | (refine wpAnyH_take (i := 0) (v := undef) rfl (by kernel_rfl) (by kernel_rfl) (by kernel_rfl) (fun _ _ _ h => h) (Or.inr ⟨by rfl, rfl⟩) (by assumption) ?_
     try simp only [Act.put, List.getElem_toArray, List.getElem_cons_zero, List.setIfInBounds_toArray, List.set_cons_zero, List.set_cons_succ])
  | fail "take 0"
  first
  | (refine wpAnyH_take (i := 1) (v := ?_) rfl (by kernel_rfl) (by kernel_rfl) (by kernel_rfl) (fun _ _ _ h => h) (Or.inl ⟨by rfl, ?_⟩) (by assumption) ?_
     rotate_left
     · (intro V hV; obtain ⟨_, x0, x1⟩ := hV; go_simp; try with_reducible rfl)
     try simp only [Act.put, List.getElem_toArray, List.getElem_cons_zero, List.getElem_cons_succ, List.setIfInBounds_toArray, List.set_cons_zero, List.set_cons_succ])
  | (refine wpAnyH_take (i := 1) (v := undef) rfl (by kernel_rfl) (by kernel_rfl) (by kernel_rfl) (fun _ _ _ h => h) (Or.inr ⟨by rfl, rfl⟩) (by assumption) ?_
     try simp only [Act.put, List.getElem_toArray, List.getElem_cons_zero, List.getElem_cons_succ, List.setIfInBounds_toArray, List.set_cons_zero, List.set_cons_succ])
  | fail "take 1"
  first
  | (refine wpAnyH_take (i := 3) (v := ?_) rfl (by kernel_rfl) (by kernel_rfl) (by kernel_rfl) (fun _ _ _ h => h) (Or.inl ⟨by rfl, ?_⟩) (by assumption) ?_
     rotate_left
     · (intro V hV; obtain ⟨_, x0, x1⟩ := hV; go_simp; try with_reducible rfl)
     try simp only [Act.put, List.getElem_toArray, List.getElem_cons_zero, List.getElem_cons_succ, List.setIfInBounds_toArray, List.set_cons_zero, List.set_cons_succ])
  | (refine wpAnyH_take (i := 3) (v := undef) rfl (by kernel_rfl) (by kernel_rfl) (by kernel_rfl) (fun _ _ _ h => h) (Or.inr ⟨by rfl, rfl⟩) (by assumption) ?_
     try simp only [Act.put, List.getElem_toArray, List.getElem_cons_zero, List.getElem_cons_succ, List.setIfInBounds_toArray, List.set_cons_zero, List.set_cons_succ])
  | fail "take 3"
  refine wpAnyH_take (i := 4) (v := .agg bv.toArray) rfl (by kernel_rfl) (by kernel_rfl) (by kernel_rfl) (fun _ _ _ h => h) (yieldsIf_load_mid rfl 33 (.tmp 6) rfl w.heap.size 1 rfl bv _ (fun V hV => hV.2.2) Tryz.underlying33 rfl (by rw [HBL.out]; exact sizeE8)) (by assumption) ?_
  try simp only [Act.put, List.getElem_toArray, List.getElem_cons_zero, List.getElem_cons_succ, List.setIfInBounds_toArray, List.set_cons_zero, List.set_cons_succ]
  generalize World.drew W0 = Wd at *
  refine wpAnyH_ready (rs := [2]) (by kernel_rfl) (by simp) ?_
  refine AllReadyH.cons rfl (fun K hK => ?_) AllReadyH.nil
  go_simp
  refine (C5.out _ hS.1).mono ?_
  rintro e wA ⟨v5, rfl, hr⟩
  have hb := hr.bel
  have HX := Lib.hid hS.1
  have HLX := Lib.hid (show lo ≤ Wd.heap.size from (Nat.le_trans HL0.out hS.1.size))
  have R5 := Lib.hid hr
  have SS := KP.out _ (hS.1.trans (hb.mono hS.1.size))
  refine hK.out _ _ SS (fun hS => ?_)
  clear hK K
  try simp only [Act.put, List.getElem_toArray, List.getElem_cons_zero, List.getElem_cons_succ, List.setIfInBounds_toArray, List.set_cons_zero, List.set_cons_succ]
  clear hr hb
  refine wpAnyH_ready (rs := [5]) (by kernel_rfl) (by simp) ?_
  refine AllReadyH.cons rfl (fun K hK => ?_) AllReadyH.nil
  go_simp
  refine (C8.out _ hS.1).mono ?_
  rintro e wB ⟨v8, rfl, hr⟩
  obtain ⟨A8, c8, us8, rfl, hF⟩ := hr.flat (Nat.le_refl _)
  obtain ⟨cs0, ho0, _⟩ := R5.out.own
  have hap := own_apart ho0 HLX.out (Nat.le_refl _)
  have hxa := R5.out.bel.size
  have HAP := Lib.hid (fun b (hb : LB lo wA.heap.size wB b) => And.intro (LB.up (Nat.le_refl wB.heap.size) hxa b hb) (hap b hb.2))
  have hb := hr.bel
  have F8 := Lib.hid hF
  have R5 := Lib.hid (R5.out.later hb)
  have SS := KP.out _ (hS.1.trans (hb.mono hS.1.size))
  refine hK.out _ _ SS (fun hS => ?_)
  clear hK K
  try simp only [Act.put, List.getElem_toArray, List.getElem_cons_zero, List.getElem_cons_succ, List.setIfInBounds_toArray, List.set_cons_zero, List.set_cons_succ]
  clear hr hb hF hap hxa ho0
  refine wpAnyH_ready (rs := [6]) (by kernel_rfl) (by simp) ?_
  refine AllReadyH.cons rfl (fun K hK => ?_) AllReadyH.nil
  obtain ⟨cs, ho, hi⟩ := R5.out.own
  have ho := Lib.hid ho
  have hi := Lib.hid hi
  refine ready_append_row slTy rfl _ _ rfl rfl rfl ho.out R5.out.bel.size F8.out.len F8.out.cells F8.out.ones F8.out.some_ HLN.out (by omega) ?_
  intro v4 w4 hA4
  have HR4 := Lib.hid ((TRow.app R5.out.bel ho.out hi.out F8.out.ins HAP.out hA4).from (Nat.le_trans HBEL.out.size HX.out.size) (HBEL.out.trans (HX.out.mono HBEL.out.size)))
  have hbx := hA4.bel R5.out.bel.size (own_base ho.out)
  have SS := KP.out _ (hS.1.trans (hbx.mono HX.out.size))
  refine hK.out _ _ SS (fun hS => ?_)
  clear hK K
  try simp only [Act.put, List.getElem_toArray, List.getElem_cons_zero, List.getElem_cons_succ, List.setIfInBounds_toArray, List.set_cons_zero, List.set_cons_succ]
  clear hA4 ho hi R5 F8 hbx
  first
  | (refine wpAnyH_take (i := 7) (v := ?_) rfl (by kernel_rfl) (by kernel_rfl) (by kernel_rfl) (fun _ _ _ h => h) (Or.inl ⟨by rfl, ?_⟩) (by assumption) ?_
     rotate_left
     · (intro V hV; obtain ⟨_, x0, x1⟩ := hV; go_simp; try with_reducible rfl)
     try simp only [Act.put, List.getElem_toArray, List.getElem_cons_zero, List.getElem_cons_succ, List.setIfInBounds_toArray, List.set_cons_zero, List.set_cons_succ])
  | (refine wpAnyH_take (i := 7) (v := undef) rfl (by kernel_rfl) (by kernel_rfl) (by kernel_rfl) (fun _ _ _ h => h) (Or.inr ⟨by rfl, rfl⟩) (by assumption) ?_
     try simp only [Act.put, List.getElem_toArray, List.getElem_cons_zero, List.getElem_cons_succ, List.setIfInBounds_toArray, List.set_cons_zero, List.set_cons_succ])
  | fail "take 7"
  refine wpAnyH_done (by kernel_rfl) ?_ _
  clear KP C5 C8
  go_wp2_with fail
  go_ret
  exact ⟨_, rfl, by rw [HTS.out]; exact HR4.out⟩
end Go.Proofs.YtaeljknfbanbfaaGreatDoor
