/- The walk of the reference's Methods. The condition: few parts.
law11.sigs over equal lists: true. No condition. -/
import Derived.Test.YtjhlehdjdaphcaaDoorQMTbJ
namespace Go.Proofs.YtjhlehdjdaphcaaDoor
open Go.RowKit

theorem mRef_at {ds : List Dc} {x : Ty} {i : Nat} {d : Dc} (h : ds[i]? = some d) : mRef ds x i = if d.kind = 3 ∧ d.name.data.toList = x.name.data.toList ∧ methodT ds x d.sig.name = some i then [d.sig.canon.subst d.vs x.args] else [] := by
  unfold mRef
  rw [h]
theorem mRef_len (ds : List Dc) (x : Ty) (i : Nat) : (mRef ds x i).length ≤ 1 := by
  unfold mRef
  split
  · split <;> simp
  · simp
theorem methodsR_len (ds : List Dc) (x : Ty) : ∀ n, (methodsR ds x n).length ≤ n
  | 0 => Nat.le_refl _
  | n + 1 => by
    rw [methodsR_step, List.length_append]
    have := methodsR_len ds x n
    have := mRef_len ds x n
    omega
theorem bytesEq_iffT {a b : ByteArray} : bytesEq a b = true ↔ a.data.toList = b.data.toList := by simp [bytesEq]
theorem idxI_beq (z : Option Nat) (k : Nat) : (idxI z == (k : Int)) = (z == some k) := by
  cases z with
  | none => simp [idxI]
  | some j =>
    by_cases h : j = k
    · subst h; simp [idxI]
    · have h1 : (idxI (some j) == (k : Int)) = false := beq_eq_false_iff_ne.2 (fun e => h (by have e2 : (j : Int) = (k : Int) := e; omega))
      have h2 : (some j == some k) = false := beq_eq_false_iff_ne.2 (fun e => h (Option.some.inj e))
      rw [h1, h2]
theorem loadOpT {ty : TypeId} {z : Nat} (hf : Flat ty z) {ops : Array Oper} {rest : List Oper} {a : Act} {w : World} {Q : Exit → Act → World → Prop} {ps : String} {af : Array Edge} {g : Option (Nat × Bool)} (i d : Nat) {p : Addr} {us : List Value}
    (hw : Region.wanted { dst := some d, op := .load ty (.tmp i), type := ty, pos := ps, after := af, guard := g } (yielded ops a.tmps) = true) (hx : a.eval (.tmp i) = .pointer (some p)) (hc : CellsAt w p us) (hl : us.length = z)
    (h : wpList Tryd.prog ops Q rest (a.put (some d) (.agg us.toArray)) w) :
    wpList Tryd.prog ops Q ({ dst := some d, op := .load ty (.tmp i), type := ty, pos := ps, after := af, guard := g } :: rest) a w :=
  wpList_step fun K hK => by
    obtain ⟨dsc, h1, h2⟩ := hf.row
    rw [if_pos hw]
    unfold Oper.wp execOp
    simp only [hx, Instr.loadAt, Instr.sureAddr, Sem.run_bind, Sem.run_pure, Result.andThen_ok, run_loadVar_at w p ty us _ hc h1 h2 (by rw [hl]; exact hf.size)]
    exact hK _ _ h
set_option maxRecDepth 100000 in
set_option maxHeartbeats 8000000 in
theorem rmethods_any (p : Pg) (x : Ty) (us xs : List Value) (w : World) (hw : ∀ d ∈ p.ds, d.wt ≤ 900) (hpl : p.ds.length ≤ 1990) (hxw : x.wt ≤ 1000) (h : p.dat.H w us) (hx : x.dat.H w xs) :
    Calls Tryd.prog 26 #[.agg us.toArray, .agg xs.toArray] w (RowPost w 7 ((methodsT p.ds x).map Sg.dat)) := by
  obtain ⟨A, m, c, rfl, hxn, hxa⟩ := ty_open hx
  have hxl := hxa.len
  have HS := PT.new h hx
  obtain ⟨Y1, hW0⟩ : ∃ Y1, (w.alloc (.cells us.toArray 30)).alloc (.cells [.string x.name, .slice A m c, .int .i64 x.off].toArray 25) = Y1 := ⟨_, rfl⟩
  rw [hW0] at HS
  have HS := Lib.hid HS
  have HW0 := Lib.hid (show (w.alloc (.cells us.toArray 30)).alloc (.cells #[.string x.name, .slice A m c, .int .i64 x.off] 25) = Y1 from hW0)
  have HUL := Lib.hid (show us.length = 9 from (Dat.In.len _ _ h).trans (Pg.dat_size _))
  obtain ⟨D, nd, cd, u0, hr, hln⟩ := HS.out.prog.decls
  have HR := Lib.hid hr
  have HLN := Lib.hid hln
  have HU0 := Lib.hid u0
  have HXL := Lib.hid hxl
  have HXW := Lib.hid hxw
  have HDW := Lib.hid hw
  have HNL := Lib.hid (show nd ≤ 1990 by rw [← hln]; exact hpl)
  have hdi : (nd : Int) ≤ 1990 := by have := HNL.out; omega
  have HXA := Lib.hid (show Here Y1 A m x.args from by
    obtain ⟨A1, m1, c1, e, _, ha⟩ := ty_open HS.out.dat
    simp only [List.cons.injEq, Value.slice.injEq, true_and, and_true] at e
    obtain ⟨rfl, rfl, rfl⟩ := e
    exact ha)
  clear hW0 h hx hxn hxa hxl hw hpl hxw u0 hr hln
  go_enter Tryd.func26, Tryd.ntmps26
  go_upto_region 1 with fail
  rw [HW0.out]
  clear HW0
  go_wp2_with fail
  go_loopw [5, 6] (fun o i wr => ∃ (k : Nat) (v : Value), k ≤ nd ∧ i = .int .i64 k ∧ o = v ∧ Built wr False 50 7 Y1.heap.size v (methodsR p.ds x k).length ((methodsR p.ds x k).map Sg.dat) ∧ Below Y1.heap.size Y1 wr) (fun _ i _ => nd - (intOf i).toNat)
  case atStart => exact ⟨0, .slice none 0 0, by omega, rfl, rfl, Built.nil _ _ _ _ _, Below.refl _ _⟩
  case round =>
    obtain ⟨k, v, hk, rfl, rfl, hbt, hbel⟩ := hrel
    have HBY := Lib.hid hbel
    have HSR := Lib.hid (HS.out.later hbel)
    have y1 : (0 : Int) ≤ k := by omega
    have x0 := HSR.out.prog.box 0 _ HU0.out
    by_cases hlt : k < nd
    · have y0 : (k : Int) < nd := by omega
      obtain ⟨pu, d, ps, rfl, hd, hpb, _, hu, hcs⟩ := dat_at (Row.later HR.out hbel fun b hb => hb) hlt
      obtain ⟨W1, hP⟩ := putZ z23 52 wr (us := ps) (dc_len hu)
      obtain ⟨u0, u1, u7, _, _, _, _, _, _, _, _, _, _, _, Vq, nv, cv, _, _, _, u6, _, _, _, hv⟩ := dc_c hu
      have hvl := hv.len
      rw [List.length_map] at hvl
      have HP := Lib.hid hP
      have HFC := Lib.hid hcs
      have HPL2 := Lib.hid (dc_len hu)
      have HPO := Lib.hid (dc_cells hu)
      have H0 := Lib.hid u0
      have H1 := Lib.hid u1
      have H7 := Lib.hid u7
      have H6 := Lib.hid u6
      have HVL := Lib.hid hvl
      have hlow : ∀ b, b < Y1.heap.size → b < wr.heap.size := fun b hb => Nat.lt_of_lt_of_le hb hbel.size
      have HVS := Lib.hid (sl_of_rowS hv hlow)
      have HDX := Lib.hid hd
      have HSW := Lib.hid (show d.sig.wt ≤ 900 by have h8 := HDW.out d (List.mem_of_getElem? hd); unfold Dc.wt at h8; omega)
      obtain ⟨sv, hsv⟩ : ∃ sv, (ps.drop 7).take 7 = sv := ⟨_, rfl⟩
      have hsd : d.sig.dat.H wr sv := by rw [← hsv]; exact (dc_sigT hu).wide hlow
      have HSD := Lib.hid (fun (V : World) (hV : Below wr.heap.size wr V) => Dat.H.later hsd hV)
      have HSVL := Lib.hid (show sv.length = 7 from (Dat.In.len _ _ hsd).trans (Sg.dat_size _))
      have HSUB := Lib.hid (fun (V : World) (hV : Boxd V wr.heap.size ps) => (show CellsAt V ⟨wr.heap.size, 7, none⟩ sv from hsv ▸ boxd_sub7 hV))
      have HARG := Lib.hid (Here.later HXA.out hbel)
      obtain ⟨LK, hLK⟩ : ∃ q, (methodsR p.ds x k).length = q := ⟨_, rfl⟩
      rw [hLK] at hbt
      obtain ⟨cs, S, h1, h2, h3, h4⟩ := hbt
      obtain ⟨A0, c0, rfl⟩ := own_sl h1
      have HLK9 := Lib.hid hLK
      have HOWN := Lib.hid h1
      have HINS := Lib.hid h2
      have HSZ := Lib.hid h3
      have HSS := Lib.hid h4
      have HLEN := Lib.hid (show LK ≤ 1990 from hLK ▸ Nat.le_trans (methodsR_len _ _ _) (by have := HNL.out; omega))
      have HSTEP := Lib.hid (methodsR_step p.ds x k)
      have HMR := Lib.hid (mRef_at (x := x) hd)
      have HSX := Lib.hid (HSR.out.later hP.bel)
      have hbY := hbel.trans (hP.bel.mono hbel.size)
      have HBW := Lib.hid hbY
      clear hbY hLK hcs hd hpb hu hP u0 u1 u6 u7 hv hvl hlow hsv hsd h1 h2 h3 h4 hbel
      go_upto_region 6 with (first
        | (refine loadOp flatDc 18 19 rfl HFC.out HPL2.out ?_)
        | (refine storeOp flatDc 7 19 (b := wr.heap.size) (o := 0) (us := ps) rfl rfl HP.out.there HPO.out HPL2.out ?_; rw [HP.out.eq]))
      clear x0
      have x0 := HP.out.box 0 _ H0.out
      have x1 := HP.out.box 1 _ H1.out
      have x7 := HP.out.box 7 _ H7.out
      have x8 := HSX.out.box 0 _ rfl
      cases e1 : (d.kind == 3)
      · have HE1 := Lib.hid e1
        have HFST := Lib.hid (show methodsR p.ds x (k + 1) = methodsR p.ds x k by rw [HSTEP.out, HMR.out, if_neg (fun e => by have h := HE1.out; rw [e.1] at h; cases h), List.append_nil])
        have HBU := Lib.hid (Built.later ⟨cs, S, HOWN.out, HINS.out, HSZ.out, HSS.out⟩ HP.out.bel)
        go_wp2_with fail
        go_roundw
        case rel => exact ⟨k + 1, .slice A0 LK c0, by omega, by go_num, rfl, by rw [HFST.out, HLK9.out]; exact HBU.out, HBY.out.trans (HP.out.bel.mono HBY.out.size)⟩
        case measure => simp [intOf]; omega
      have k3 : d.kind = 3 := eq_of_beq e1
      rw [k3] at x0
      clear e1
      cases e2 : (bytesEq d.name x.name)
      · obtain ⟨g2, q2⟩ := toBeq e2
        have HE2 := Lib.hid e2
        clear e2
        have HFST := Lib.hid (show methodsR p.ds x (k + 1) = methodsR p.ds x k by rw [HSTEP.out, HMR.out, if_neg (fun e => by have h := HE2.out; rw [bytesEq_iffT.2 e.2.1] at h; cases h), List.append_nil])
        have HBU := Lib.hid (Built.later ⟨cs, S, HOWN.out, HINS.out, HSZ.out, HSS.out⟩ HP.out.bel)
        go_wp2_with fail
        go_roundw
        case rel => exact ⟨k + 1, .slice A0 LK c0, by omega, by go_num, rfl, by rw [HFST.out, HLK9.out]; exact HBU.out, HBY.out.trans (HP.out.bel.mono HBY.out.size)⟩
        case measure => simp [intOf]; omega
      obtain ⟨g2, q2⟩ := toBeq e2
      have HEQ := Lib.hid (show d.name.data.toList = x.name.data.toList from bytesEq_iffT.1 e2)
      clear e2
      go_wp2_with (first
        | (refine loadOpT flatPg 2 31 rfl rfl HSX.out.prog.box.at0 HUL.out ?_)
        | (refine loadOpT flatTy3 3 32 rfl rfl HSX.out.box.at0 rfl ?_))
      refine (rmethod_any p x us _ d.sig.name W1 HSX.out.prog.dat HSX.out.dat).mono ?_
      rintro e w5 ⟨rfl, hb5⟩
      have HB5 := Lib.hid (HP.out.bel.trans (hb5.mono HP.out.bel.size))
      have HPB5 := Lib.hid (HP.out.box.later hb5)
      clear hb5 x0 x1 x7 x8
      cases e4 : (idxI (methodT p.ds x d.sig.name) == (k : Int))
      · have e5 := e4
        rw [idxI_beq] at e5
        have H5 := Lib.hid e5
        clear e5
        generalize idxI (methodT p.ds x d.sig.name) = zz at *
        have HFST := Lib.hid (show methodsR p.ds x (k + 1) = methodsR p.ds x k by rw [HSTEP.out, HMR.out, if_neg (fun e => by have h := H5.out; rw [e.2.2] at h; simp at h), List.append_nil])
        have HBU := Lib.hid (Built.later ⟨cs, S, HOWN.out, HINS.out, HSZ.out, HSS.out⟩ HB5.out)
        go_wp2_with fail
        go_roundw
        case rel => exact ⟨k + 1, .slice A0 LK c0, by omega, by go_num, rfl, by rw [HFST.out, HLK9.out]; exact HBU.out, HBY.out.trans (HB5.out.mono HBY.out.size)⟩
        case measure => simp [intOf]; omega
      have e5 := e4
      rw [idxI_beq] at e5
      have HFST := Lib.hid (show methodsR p.ds x (k + 1) = methodsR p.ds x k ++ [d.sig.canon.subst d.vs x.args] by rw [HSTEP.out, HMR.out, if_pos ⟨k3, HEQ.out, eq_of_beq e5⟩])
      clear e5
      generalize idxI (methodT p.ds x d.sig.name) = zz at *
      have z5 : zz = (k : Int) := eq_of_beq e4
      subst z5
      clear e4
      have HBXR := Lib.hid (HSR.out.box)
      have HBXY := Lib.hid (HS.out.box)
      have HNV := Lib.hid (show nv ≤ 1000000 by have h8 := HDW.out d (List.mem_of_getElem? HDX.out); have h9 := HVL.out; have h7 := Dc.len_v d; omega)
      go_upto_region 7 with fail
      have HW1D := Lib.hid (show Below wr.heap.size wr w5.drew from HB5.out.trans ((Below.refl w5.heap.size w5).drew.mono HB5.out.size))
      have HX1D := Lib.hid (HPB5.out.later (Below.refl w5.heap.size w5).drew)
      go_wp2_with fail
      refine wp_region_held_drew (S := fun V => (Boxd V wr.heap.size ps ∧ Boxd V (w.heap.size + 1) [.string x.name, .slice A m c, .int .i64 x.off]) ∧ Below Y1.heap.size Y1 V) (by kernel_rfl) ⟨⟨HX1D.out, HBXR.out.later HW1D.out⟩, HBY.out.trans (HW1D.out.mono HBY.out.size)⟩ (fun hS => ?_)
      generalize w5.drew = WD at *
      refine wpAnyH_take (i := 0) (v := ?_) rfl (by kernel_rfl) (by kernel_rfl) (by kernel_rfl) (fun _ _ _ h => h) (Or.inl ⟨by rfl, ?_⟩) (by assumption) ?_
      rotate_left
      · (intro V hV; go_simp; try with_reducible rfl)
      try simp only [Act.put, List.getElem_toArray, List.getElem_cons_zero, List.setIfInBounds_toArray, List.set_cons_zero, List.set_cons_succ]
      refine wpAnyH_take (i := 1) (v := ?_) rfl (by kernel_rfl) (by kernel_rfl) (by kernel_rfl) (fun _ _ _ h => h) (Or.inl ⟨by rfl, ?_⟩) (by assumption) ?_
      rotate_left
      · (intro V hV; go_simp; try with_reducible rfl)
      try simp only [Act.put, List.getElem_toArray, List.getElem_cons_zero, List.getElem_cons_succ, List.setIfInBounds_toArray, List.set_cons_zero, List.set_cons_succ]
      refine wpAnyH_take (i := 2) (v := .agg sv.toArray) rfl (by kernel_rfl) (by kernel_rfl) (by kernel_rfl) (fun _ _ _ h => h) (Or.inl ⟨by rfl, fun V hV => loadYieldB flatSg rfl (HSUB.out V hV.1.1) HSVL.out⟩) (by assumption) ?_
      try simp only [Act.put, List.getElem_toArray, List.getElem_cons_zero, List.getElem_cons_succ, List.setIfInBounds_toArray, List.set_cons_zero, List.set_cons_succ]
      refine wpAnyH_take (i := 4) (v := ?_) rfl (by kernel_rfl) (by kernel_rfl) (by kernel_rfl) (fun _ _ _ h => h) (Or.inl ⟨by rfl, ?_⟩) (by assumption) ?_
      rotate_left
      · (intro V hV; go_simp; try with_reducible rfl)
      try simp only [Act.put, List.getElem_toArray, List.getElem_cons_zero, List.getElem_cons_succ, List.setIfInBounds_toArray, List.set_cons_zero, List.set_cons_succ]
      refine wpAnyH_take (i := 5) (v := ?_) rfl (by kernel_rfl) (by kernel_rfl) (by kernel_rfl) (fun _ _ _ h => h) (Or.inl ⟨by rfl, ?_⟩) (by assumption) ?_
      rotate_left
      · (intro V hV; have k0 := hV.1.1 6 _ H6.out; go_simp; try with_reducible rfl)
      try simp only [Act.put, List.getElem_toArray, List.getElem_cons_zero, List.getElem_cons_succ, List.setIfInBounds_toArray, List.set_cons_zero, List.set_cons_succ]
      refine wpAnyH_take (i := 6) (v := ?_) rfl (by kernel_rfl) (by kernel_rfl) (by kernel_rfl) (fun _ _ _ h => h) (Or.inl ⟨by rfl, ?_⟩) (by assumption) ?_
      rotate_left
      · (intro V hV; go_simp; try with_reducible rfl)
      try simp only [Act.put, List.getElem_toArray, List.getElem_cons_zero, List.getElem_cons_succ, List.setIfInBounds_toArray, List.set_cons_zero, List.set_cons_succ]
      refine wpAnyH_take (i := 7) (v := ?_) rfl (by kernel_rfl) (by kernel_rfl) (by kernel_rfl) (fun _ _ _ h => h) (Or.inl ⟨by rfl, ?_⟩) (by assumption) ?_
      rotate_left
      · (intro V hV; have k0 := hV.1.2 1 _ rfl; go_simp; try with_reducible rfl)
      try simp only [Act.put, List.getElem_toArray, List.getElem_cons_zero, List.getElem_cons_succ, List.setIfInBounds_toArray, List.set_cons_zero, List.set_cons_succ]
      refine wpAnyH_ready (rs := [3]) (by kernel_rfl) (by simp) ?_
      refine AllReadyH.cons rfl (fun K hK => ?_) (AllReadyH.nil)
      go_simp
      refine (rcanon_d d.sig sv _ (by have := HSW.out; omega) (HSD.out _ HW1D.out)).mono ?_
      rintro e V1 ⟨us1, rfl, hr1, hb1⟩
      have HR1 := Lib.hid (show d.sig.canon.dat.H V1 us1 from hr1.wide fun b hb => hb.2)
      have HB1 := Lib.hid (HW1D.out.trans (hb1.mono HW1D.out.size))
      clear hr1
      have SS := And.intro (And.intro (hS.1.1.later hb1) (hS.1.2.later hb1)) (hS.2.trans (hb1.mono hS.2.size))
      clear hS hb1
      refine hK.out _ _ SS (fun hS => ?_)
      clear hK K SS
      try simp only [Act.put, List.getElem_toArray, List.getElem_cons_zero, List.getElem_cons_succ, List.setIfInBounds_toArray, List.set_cons_zero, List.set_cons_succ]
      refine wpAnyH_ready (rs := [8]) (by kernel_rfl) (by simp) ?_
      refine AllReadyH.cons rfl (fun K hK => ?_) (AllReadyH.nil)
      go_simp
      refine (rsubst_d d.sig.canon us1 d.vs x.args Vq A nv m cv c _ (by have := Sg.wt_canon (s := d.sig) (by have := HSW.out; omega); have := HSW.out; omega) (ty_argsT HXW.out).1 HNV.out HR1.out (HVS.out.1.later HB1.out) (Here.later HARG.out HB1.out)).mono ?_
      rintro e V9 ⟨us9, rfl, hr9, hb9⟩
      have HR9 := Lib.hid (show (d.sig.canon.subst d.vs x.args).dat.In V9 False (fun b => wr.heap.size ≤ b ∧ b < V9.heap.size) us9 from hr9.wide fun b hb => ⟨Nat.le_trans HB1.out.size hb.1, hb.2⟩)
      have HB9 := Lib.hid (HB1.out.trans (hb9.mono HB1.out.size))
      clear hr9
      have SS := And.intro (And.intro (hS.1.1.later hb9) (hS.1.2.later hb9)) (hS.2.trans (hb9.mono hS.2.size))
      clear hS hb9
      refine hK.out _ _ SS (fun hS => ?_)
      clear hK K SS
      try simp only [Act.put, List.getElem_toArray, List.getElem_cons_zero, List.getElem_cons_succ, List.setIfInBounds_toArray, List.set_cons_zero, List.set_cons_succ]
      obtain ⟨t9, F9, n9, c9, Q9, m9, d9, r9, A9, e9, f9, i9, j9, rfl⟩ : ∃ t9 F9 n9 c9 Q9 m9 d9 r9 A9 e9 f9 i9 j9, us9 = [.string t9, .slice F9 n9 c9, .slice Q9 m9 d9, .string r9, .slice A9 e9 f9, .int .i64 i9, .int .i64 j9] := by
        obtain ⟨F, nf, cf, Q, np, cp, A, m, a, e, _⟩ := sg_open HR9.out
        exact ⟨_, _, _, _, _, _, _, _, _, _, _, _, _, e⟩
      refine wpAnyH_ready (rs := [9]) (by kernel_rfl) (by simp) ?_
      refine AllReadyH.cons rfl (fun K hK => ?_) (AllReadyH.nil)
      go_simp
      obtain ⟨W5, hW5⟩ : ∃ X, World.alloc V9 (.cells #[.string t9, .slice F9 n9 c9, .slice Q9 m9 d9, .string r9, .slice A9 e9 f9, .int .i64 i9, .int .i64 j9] 50) = X := ⟨_, rfl⟩
      have hb5 : Below V9.heap.size V9 W5 := hW5 ▸ (Below.refl _ _).alloc (Nat.le_refl _) _
      have HC5 := Lib.hid (show CellsAt W5 ⟨V9.heap.size, 0, none⟩ [.string t9, .slice F9 n9 c9, .slice Q9 m9 d9, .string r9, .slice A9 e9 f9, .int .i64 i9, .int .i64 j9] from hW5 ▸ (Boxd.new V9 #[.string t9, .slice F9 n9 c9, .slice Q9 m9 d9, .string r9, .slice A9 e9 f9, .int .i64 i9, .int .i64 j9] 50).at0)
      have HOW5 := Lib.hid (own_below (own_below HOWN.out HB9.out) hb5)
      have HZ5 := Lib.hid (Nat.le_trans HBY.out.size (Nat.le_trans HB9.out.size hb5.size))
      have HSTP := Lib.hid (fun v6 w6 (hA : Appd W5 w6 Y1.heap.size 50 7 LK 1 (.slice A0 LK c0) v6 cs [.string t9, .slice F9 n9 c9, .slice Q9 m9 d9, .string r9, .slice A9 e9 f9, .int .i64 i9, .int .i64 j9]) => built_put (T := 50) (us := [.string t9, .slice F9 n9 c9, .slice Q9 m9 d9, .string r9, .slice A9 e9 f9, .int .i64 i9, .int .i64 j9]) HOWN.out HINS.out HSZ.out HSS.out HBY.out.size HB9.out HR9.out (Sg.dat_size _) (show Appd (V9.alloc (.cells ([.string t9, .slice F9 n9 c9, .slice Q9 m9 d9, .string r9, .slice A9 e9 f9, .int .i64 i9, .int .i64 j9] : List Value).toArray 50)) w6 Y1.heap.size 50 7 LK 1 (.slice A0 LK c0) v6 cs [.string t9, .slice F9 n9 c9, .slice Q9 m9 d9, .string r9, .slice A9 e9 f9, .int .i64 i9, .int .i64 j9] by rw [show V9.alloc (.cells ([.string t9, .slice F9 n9 c9, .slice Q9 m9 d9, .string r9, .slice A9 e9 f9, .int .i64 i9, .int .i64 j9] : List Value).toArray 50) = W5 from hW5]; exact hA))
      rw [hW5]
      clear hW5
      have SS := And.intro (And.intro (hS.1.1.later hb5) (hS.1.2.later hb5)) (hS.2.trans (hb5.mono hS.2.size))
      clear hS hb5
      refine hK.out _ _ SS (fun hS => ?_)
      clear hK K SS
      try simp only [Act.put, List.getElem_toArray, List.getElem_cons_zero, List.getElem_cons_succ, List.setIfInBounds_toArray, List.set_cons_zero, List.set_cons_succ]
      refine wpAnyH_ready (rs := [10]) (by kernel_rfl) (by simp) ?_
      refine AllReadyH.cons rfl (fun K hK => ?_) (AllReadyH.nil)
      refine ready_append_row slSgT rfl _ _ rfl rfl rfl HOW5.out HZ5.out (m := 1) (us := [.string t9, .slice F9 n9 c9, .slice Q9 m9 d9, .string r9, .slice A9 e9 f9, .int .i64 i9, .int .i64 j9]) rfl (fun a ha j u hu => by obtain rfl := Option.some.inj ha; exact HC5.out j u hu) sg_one (fun _ => ⟨_, rfl⟩) (by have := HLEN.out; omega) (by omega) ?_
      intro v6 w6 hA
      have hgr := hA.grow
      obtain ⟨gg, cap, rfl, hbu, hbe⟩ := HSTP.out _ _ hA
      have HBU := Lib.hid hbu
      have HBE := Lib.hid (HBY.out.trans hbe)
      clear hbu hbe hA
      have hn5 : (Value.slice A0 LK c0).ownBlock ≠ some wr.heap.size := fun e => by have := (HOWN.out.lt _ e).2; omega
      have SS := And.intro (And.intro (boxd_app hS.1.1 hgr hn5) (HBXY.out.later HBE.out)) HBE.out
      clear hn5 hgr hS
      refine hK.out _ _ SS (fun hS => ?_)
      clear hK K SS
      try simp only [Act.put, List.getElem_toArray, List.getElem_cons_zero, List.getElem_cons_succ, List.setIfInBounds_toArray, List.set_cons_zero, List.set_cons_succ]
      refine wpAnyH_take (i := 11) (v := ?_) rfl (by kernel_rfl) (by kernel_rfl) (by kernel_rfl) (fun _ _ _ h => h) (Or.inl ⟨by rfl, ?_⟩) (by assumption) ?_
      rotate_left
      · (intro V hV; go_simp; try with_reducible rfl)
      try simp only [Act.put, List.getElem_toArray, List.getElem_cons_zero, List.getElem_cons_succ, List.setIfInBounds_toArray, List.set_cons_zero, List.set_cons_succ]
      refine wpAnyH_done (by kernel_rfl) ?_ _
      clear hS
      go_wp2_with fail
      go_roundw
      case rel => exact ⟨k + 1, .slice (some ⟨gg, 0, none⟩) (LK + 1) cap, by omega, by go_num, rfl, by rw [HFST.out, List.length_append, List.map_append, HLK9.out]; exact HBU.out, HBE.out⟩
      case measure => simp [intOf]; omega
    · obtain rfl : k = nd := by omega
      have y0 : (k : Int) ≤ (k : Int) := by omega
      obtain ⟨A9, c9, rfl, hr9⟩ := hbt.end_ (by omega) (by have := methodsR_len p.ds x k; have := HNL.out; omega)
      have HR9 := Lib.hid hr9
      have HE := Lib.hid (HS.out.bel.trans (hbel.mono HS.out.bel.size))
      have HLL2 := Lib.hid (show methodsT p.ds x = methodsR p.ds x k by rw [← HLN.out]; exact (methodsR_eq p.ds x).symm)
      clear hbt hr9 hbel hlt
      go_wp2_with fail
      go_ret
      rw [HLL2.out]
      exact ⟨A9, c9, by rw [List.length_map]; rfl, HR9.out, HE.out⟩
end Go.Proofs.YtjhlehdjdaphcaaDoor

namespace Go.Proofs.YtjhlehdjdaphcaaDoor
open Go.RowKit

set_option maxRecDepth 100000 in
set_option maxHeartbeats 8000000 in
theorem sigs_any (xs : List Sg) (A B : Option Addr) (n ca cb : Nat) (w : World) (h1 : RowH w 7 A n (xs.map Sg.dat)) (h2 : RowH w 7 B n (xs.map Sg.dat)) :
    Calls Tryd.prog 21 #[.slice A n ca, .slice B n cb] w (EqvPost w true) := by
  have HR1 := Lib.hid h1
  have HR2 := Lib.hid h2
  have hdi : (n : Int) ≤ 9223372036854775807 := by have := h1.le; omega
  clear h1 h2
  go_enter Tryd.func21, Tryd.ntmps21
  go_wp2_with fail
  go_loopw [5] (fun i wr => ∃ k : Nat, k ≤ n ∧ i = .int .i64 k ∧ Below w.heap.size w wr) (fun i _ => n - (intOf i).toNat)
  case atStart => exact ⟨0, by omega, rfl, Below.refl _ _⟩
  case round =>
    obtain ⟨k, hk, rfl, hbel⟩ := hrel
    have HBY := Lib.hid hbel
    have y1 : (0 : Int) ≤ k := by omega
    by_cases hlt : k < n
    · have y0 : (k : Int) < n := by omega
      obtain ⟨pa, s, us, rfl, hs, _, _, hu, hca⟩ := dat_at (RowH.later HR1.out hbel) hlt
      obtain ⟨pb, s2, vs, rfl, hs2, _, _, hv, hcb⟩ := dat_at (RowH.later HR2.out hbel) hlt
      rw [hs] at hs2
      obtain rfl := Option.some.inj hs2
      have HCA := Lib.hid hca
      have HCB := Lib.hid hcb
      have HDA := Lib.hid (show s.dat.H wr us from hu)
      have HDB := Lib.hid (show s.dat.H wr vs from hv)
      have HUL := Lib.hid (show us.length = 7 from (Dat.In.len _ _ hu).trans (Sg.dat_size _))
      have HVL := Lib.hid (show vs.length = 7 from (Dat.In.len _ _ hv).trans (Sg.dat_size _))
      clear hs hs2 hu hv hca hcb hbel
      go_upto_region 6 with fail
      have HWD := Lib.hid (show Below wr.heap.size wr wr.drew from (Below.refl wr.heap.size wr).drew)
      go_wp2_with fail
      refine wp_region_held_drew (S := fun V => (CellsAt V (pa.add (k * 7)) us ∧ CellsAt V (pb.add (k * 7)) vs) ∧ Below w.heap.size w V) (by kernel_rfl) ⟨⟨HCA.out.later HWD.out, HCB.out.later HWD.out⟩, HBY.out.trans (HWD.out.mono HBY.out.size)⟩ (fun hS => ?_)
      generalize wr.drew = WD at *
      refine wpAnyH_take (i := 0) (v := ?_) rfl (by kernel_rfl) (by kernel_rfl) (by kernel_rfl) (fun _ _ _ h => h) (Or.inl ⟨by rfl, ?_⟩) (by assumption) ?_
      rotate_left
      · (intro V hV; go_simp; try with_reducible rfl)
      try simp only [Act.put, List.getElem_toArray, List.getElem_cons_zero, List.setIfInBounds_toArray, List.set_cons_zero, List.set_cons_succ]
      refine wpAnyH_take (i := 1) (v := ?_) rfl (by kernel_rfl) (by kernel_rfl) (by kernel_rfl) (fun _ _ _ h => h) (Or.inl ⟨by rfl, ?_⟩) (by assumption) ?_
      rotate_left
      · (intro V hV; go_simp; try with_reducible rfl)
      try simp only [Act.put, List.getElem_toArray, List.getElem_cons_zero, List.getElem_cons_succ, List.setIfInBounds_toArray, List.set_cons_zero, List.set_cons_succ]
      refine wpAnyH_take (i := 2) (v := ?_) rfl (by kernel_rfl) (by kernel_rfl) (by kernel_rfl) (fun _ _ _ h => h) (Or.inl ⟨by rfl, ?_⟩) (by assumption) ?_
      rotate_left
      · (intro V hV; go_simp; try with_reducible rfl)
      try simp only [Act.put, List.getElem_toArray, List.getElem_cons_zero, List.getElem_cons_succ, List.setIfInBounds_toArray, List.set_cons_zero, List.set_cons_succ]
      refine wpAnyH_take (i := 3) (v := .agg us.toArray) rfl (by kernel_rfl) (by kernel_rfl) (by kernel_rfl) (fun _ _ _ h => h) (Or.inl ⟨by rfl, fun V hV => loadYieldB flatSg rfl hV.1.1 HUL.out⟩) (by assumption) ?_
      try simp only [Act.put, List.getElem_toArray, List.getElem_cons_zero, List.getElem_cons_succ, List.setIfInBounds_toArray, List.set_cons_zero, List.set_cons_succ]
      refine wpAnyH_take (i := 4) (v := ?_) rfl (by kernel_rfl) (by kernel_rfl) (by kernel_rfl) (fun _ _ _ h => h) (Or.inl ⟨by rfl, ?_⟩) (by assumption) ?_
      rotate_left
      · (intro V hV; go_simp; try with_reducible rfl)
      try simp only [Act.put, List.getElem_toArray, List.getElem_cons_zero, List.getElem_cons_succ, List.setIfInBounds_toArray, List.set_cons_zero, List.set_cons_succ]
      refine wpAnyH_take (i := 5) (v := ?_) rfl (by kernel_rfl) (by kernel_rfl) (by kernel_rfl) (fun _ _ _ h => h) (Or.inl ⟨by rfl, ?_⟩) (by assumption) ?_
      rotate_left
      · (intro V hV; go_simp; try with_reducible rfl)
      try simp only [Act.put, List.getElem_toArray, List.getElem_cons_zero, List.getElem_cons_succ, List.setIfInBounds_toArray, List.set_cons_zero, List.set_cons_succ]
      refine wpAnyH_take (i := 6) (v := ?_) rfl (by kernel_rfl) (by kernel_rfl) (by kernel_rfl) (fun _ _ _ h => h) (Or.inl ⟨by rfl, ?_⟩) (by assumption) ?_
      rotate_left
      · (intro V hV; go_simp; try with_reducible rfl)
      try simp only [Act.put, List.getElem_toArray, List.getElem_cons_zero, List.getElem_cons_succ, List.setIfInBounds_toArray, List.set_cons_zero, List.set_cons_succ]
      refine wpAnyH_take (i := 7) (v := .agg vs.toArray) rfl (by kernel_rfl) (by kernel_rfl) (by kernel_rfl) (fun _ _ _ h => h) (Or.inl ⟨by rfl, fun V hV => loadYieldB flatSg rfl hV.1.2 HVL.out⟩) (by assumption) ?_
      try simp only [Act.put, List.getElem_toArray, List.getElem_cons_zero, List.getElem_cons_succ, List.setIfInBounds_toArray, List.set_cons_zero, List.set_cons_succ]
      refine wpAnyH_ready (rs := [8]) (by kernel_rfl) (by simp) ?_
      refine AllReadyH.cons rfl (fun K hK => ?_) (AllReadyH.nil)
      go_simp
      refine (rsig_any s s us vs true _ (Dat.H.later HDA.out HWD.out) (Dat.H.later HDB.out HWD.out)).mono ?_
      rintro e V1 ⟨rfl, hb1⟩
      rw [Sg.exact]
      have SS := And.intro (And.intro (hS.1.1.later hb1) (hS.1.2.later hb1)) (hS.2.trans (hb1.mono hS.2.size))
      clear hS hb1
      refine hK.out _ _ SS (fun hS => ?_)
      clear hK K SS
      try simp only [Act.put, List.getElem_toArray, List.getElem_cons_zero, List.getElem_cons_succ, List.setIfInBounds_toArray, List.set_cons_zero, List.set_cons_succ]
      refine wpAnyH_take (i := 9) (v := ?_) rfl (by kernel_rfl) (by kernel_rfl) (by kernel_rfl) (fun _ _ _ h => h) (Or.inl ⟨by rfl, ?_⟩) (by assumption) ?_
      rotate_left
      · (intro V hV; go_simp; try with_reducible rfl)
      try simp only [Act.put, List.getElem_toArray, List.getElem_cons_zero, List.getElem_cons_succ, List.setIfInBounds_toArray, List.set_cons_zero, List.set_cons_succ]
      refine wpAnyH_done (by kernel_rfl) ?_ _
      have HB9 := Lib.hid hS.2
      clear hS
      go_wp2_with fail
      go_roundw
      case rel => exact ⟨k + 1, by omega, by go_num, HB9.out⟩
      case measure => simp [intOf]; omega
    · obtain rfl : k = n := by omega
      have y0 : (k : Int) ≤ (k : Int) := by omega
      clear hlt hbel
      go_wp2_with fail
      go_ret
      exact ⟨rfl, HBY.out⟩
end Go.Proofs.YtjhlehdjdaphcaaDoor
