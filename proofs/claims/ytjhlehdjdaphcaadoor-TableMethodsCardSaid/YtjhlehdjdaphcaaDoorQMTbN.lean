/- The walk of Method of package table. The condition: few parts. -/
import Derived.Test.YtjhlehdjdaphcaaDoorQMTbC
import Derived.Test.YtjhlehdjdaphcaaDoorQMTbJ
namespace Go.Proofs.YtjhlehdjdaphcaaDoor
open Go.RowKit

theorem exZ_wtN : Ex.none?.wt ≤ 100 := by simp [Ex.none?, Ex.wt, Ex.wtL, Ty.wt, Ty.wtL, ByteArray.size]
/-- The declaration of a method, or the zero one. -/
def mtD (ds : List Dc) (x : Ty) (m : ByteArray) : Dc := ((methodT ds x m).bind (ds[·]?)).getD Dc.none?
theorem mtD_no {ds : List Dc} {x : Ty} {m : ByteArray} (h : (methodT ds x m).isSome = false) : mtD ds x m = Dc.none? := by
  cases h2 : methodT ds x m with
  | none => rw [mtD, h2]; rfl
  | some i => rw [h2] at h; cases h
theorem mt_inst {ds : List Dc} {x : Ty} {m : ByteArray} (hq : instT ds x 1 = false) : (methodT ds x m).isSome = false := by
  unfold methodT
  cases idxK ds (mtK x.name m) <;> simp [hq]
theorem mt_some {ds : List Dc} {x : Ty} {m : ByteArray} (hq : instT ds x 1 = true) : (methodT ds x m).isSome = (((atK ds (mtK x.name m)).kind == 3) && ((atK ds (mtK x.name m)).vs.length == x.args.length)) := by
  unfold methodT
  cases h : idxK ds (mtK x.name m) with
  | none => rw [atK_none h]; rfl
  | some i =>
    obtain ⟨d, h1, h2, _⟩ := idx_some h
    have hk : d.kind = 3 := by
      rcases ky_of h2 with ⟨h3, _⟩ | ⟨h3, _⟩
      · cases h3
      · exact h3
    rw [atK_some h h1]
    simp only [Option.bind_some, h1, Option.getD_some, hq, hk, Bool.true_and, beq_self_eq_true]
    split <;> rename_i h4
    · rw [h4]; rfl
    · rw [Bool.eq_false_iff.2 h4]; rfl
theorem mtD_yes {ds : List Dc} {x : Ty} {m : ByteArray} (h : (methodT ds x m).isSome = true) : mtD ds x m = atK ds (mtK x.name m) := by
  cases h2 : idxK ds (mtK x.name m) with
  | none => unfold methodT at h; rw [h2] at h; cases h
  | some i =>
    cases h3 : methodT ds x m with
    | none => rw [h3] at h; cases h
    | some j =>
      have hj : i = j := by
        unfold methodT at h3
        rw [h2] at h3
        simp only [Option.bind_some] at h3
        split at h3
        · exact Option.some.inj h3
        · cases h3
      subst hj
      rw [mtD, h3, atK, h2]
def MtPost (w : World) (ds : List Dc) (x : Ty) (m : ByteArray) (e : Ending) (w' : World) : Prop := ∃ us, e = .returned (.tuple #[.agg us.toArray, .bool (methodT ds x m).isSome]) ∧ (mtD ds x m).dat.In w' False (Fresh w w') us ∧ Below w.heap.size w w'
set_option maxRecDepth 100000 in
theorem field_pg0 {us : List Value} {v : Value} (hl : us.length = 9) (h : us[0]? = some v) (w : World) : (Instr.field 30 (.agg us.toArray) 0).run Tryd.prog w = .ok v w := by
  match us, hl with
  | [va, vb, vc, vd, ve, vf, vg, vh, vi], _ => obtain rfl := Option.some.inj h; rfl
set_option maxRecDepth 100000 in
theorem list23T {us : List Value} (h : us.length = 23) : ∃ a0 a1 a2 a3 a4 a5 a6 a7 a8 a9 a10 a11 a12 a13 a14 a15 a16 a17 a18 a19 a20 a21 a22, us = [a0, a1, a2, a3, a4, a5, a6, a7, a8, a9, a10, a11, a12, a13, a14, a15, a16, a17, a18, a19, a20, a21, a22] := by
  match us, h with
  | [a0, a1, a2, a3, a4, a5, a6, a7, a8, a9, a10, a11, a12, a13, a14, a15, a16, a17, a18, a19, a20, a21, a22], _ => exact ⟨a0, a1, a2, a3, a4, a5, a6, a7, a8, a9, a10, a11, a12, a13, a14, a15, a16, a17, a18, a19, a20, a21, a22, rfl⟩
theorem results_tmethod {w : World} {b : Nat} {us : List Value} {v : Value} (tmps : Array Value) (ht : tmps[6]?.getD undef = .pointer (some ⟨b, 0, none⟩)) (hv : tmps[7]?.getD undef = v) (hc : Boxd w b us) (hl : us.length = 23) : (results Tryd.f23 tmps).run Tryd.prog w = .ok (.tuple #[.agg us.toArray, v]) w := by
  have h := run_loadVar_at w ⟨b, 0, none⟩ 52 us _ hc.at0 Tryd.underlying52 rfl (by rw [hl]; exact flatDc.size)
  have h2 : (asAddr (.pointer (some ⟨b, 0, none⟩))).run Tryd.prog w = .ok ⟨b, 0, none⟩ w := rfl
  simp [results, Tryd.results23, ht, hv, h, h2, Sem.run_bind, Result.andThen]
set_option maxRecDepth 100000 in
set_option maxHeartbeats 8000000 in
theorem tmethod_any (lo : Nat) (r : Value) (p : Pg) (x : Ty) (xs : List Value) (mn : ByteArray) (w : World) (hw : ∀ d ∈ p.ds, d.wt ≤ 900) (hlo : lo ≤ w.heap.size) (hmn : mn.size ≤ 9223372036854775807) (hx : x.dat.H w xs) (ht : TabR lo w r p) :
    Calls Tryd.prog 23 #[r, .agg xs.toArray, .string mn] w (MtPost w p.ds x mn) := by
  obtain ⟨A, m, c, rfl, hxn, hxa⟩ := ty_open hx
  have hxl := hxa.len
  obtain ⟨W0, hW0⟩ : ∃ W0, (w.alloc (.cells #[.string x.name, .slice A m c, .int .i64 x.off] 25)).alloc (.cells z23 52) = W0 := ⟨_, rfl⟩
  obtain ⟨hb, hbx, hth, hsz⟩ := two_boxes _ _ _ _ _ hW0
  have HW0 := Lib.hid hW0
  have HB := Lib.hid hb
  have HBX := Lib.hid (show Boxd W0 w.heap.size [.string x.name, .slice A m c, .int .i64 x.off] from hbx)
  have HX3 := Lib.hid (show Boxd W0 w.heap.size [.string x.name, .slice A m c, .int .i64 x.off] from hbx).at0
  have HT := Lib.hid (show W0.there (w.heap.size + 1) 0 23 from hth)
  have HSZ := Lib.hid hsz
  have HLO := Lib.hid hlo
  have HXL := Lib.hid hxl
  have HXN := Lib.hid hxn
  have HMN := Lib.hid hmn
  have HDW := Lib.hid (show (atK p.ds (mtK x.name mn)).wt ≤ 900 from by
    rcases none_mem (ds := p.ds) (k := mtK x.name mn) with h | h
    · rw [h]; exact Nat.le_trans none_wtT (by omega)
    · exact hw _ h)
  have hT0 := ht.later hb
  have C := Lib.hid (instance_any lo r p x _ 1 W0 (Nat.le_trans hlo hb.size) (Dat.H.later hx hb) hT0)
  clear hW0 hb hbx hth hsz hx hxn hxa ht hlo hxl hw hmn
  go_enter Tryd.func23, Tryd.ntmps23
  go_upto_region 1 with fail
  rw [HW0.out]
  clear HW0
  go_wp2_with (refine loadOp flatTy3 4 13 rfl HX3.out rfl ?_)
  refine C.out.mono ?_
  rintro e w1 ⟨us, rfl, hd, hb1⟩
  clear C HX3
  have HLU := Lib.hid (dc_len hd)
  have HOU := Lib.hid (dc_cells hd)
  obtain ⟨W2, hP⟩ := putZ z23 52 w1 (us := us) (dc_len hd)
  have HPP := Lib.hid hP
  have hb01 := hb1.trans (hP.bel.mono hb1.size)
  have HBE2 := Lib.hid (HB.out.trans (hb01.mono HB.out.size))
  have HBX2 := Lib.hid (HBX.out.later hb01)
  have HT2 := Lib.hid (there_later HT.out hb01)
  have HSZ2 := Lib.hid (show w.heap.size + 2 ≤ W2.heap.size by have := hb01.size; have := HSZ.out; omega)
  have hT2 := hT0.later hb01
  clear hd hb1 hP hb01 hT0
  cases hq : instT p.ds x 1
  · have HNO := Lib.hid (mt_inst (m := mn) hq)
    clear hq hT2
    go_upto_region 2 with (refine storeOp flatDc 8 15 (b := w1.heap.size) (o := 0) (us := us) rfl rfl HPP.out.there HOU.out HLU.out ?_; rw [HPP.out.eq])
    go_wp2_with (refine storeOp flatDc 6 19 (b := w.heap.size + 1) (o := 0) (us := [.int .i64 0, .string ⟨#[]⟩, .slice none 0 0, .slice none 0 0, .slice none 0 0, .string ⟨#[]⟩, .slice none 0 0, .string ⟨#[]⟩, .slice none 0 0, .slice none 0 0, .string ⟨#[]⟩, .slice none 0 0, .int .i64 0, .int .i64 0, .int .i64 0, .string ⟨#[]⟩, .string ⟨#[]⟩, .slice none 0 0, .int .i64 0, .slice none 0 0, .slice none 0 0, .int .i64 0, .int .i64 0]) rfl rfl HT2.out z23_all rfl ?_)
    exact bodyPost_ret (results_tmethod _ rfl rfl (set_there (us := [.int .i64 0, .string ⟨#[]⟩, .slice none 0 0, .slice none 0 0, .slice none 0 0, .string ⟨#[]⟩, .slice none 0 0, .string ⟨#[]⟩, .slice none 0 0, .slice none 0 0, .string ⟨#[]⟩, .slice none 0 0, .int .i64 0, .int .i64 0, .int .i64 0, .string ⟨#[]⟩, .string ⟨#[]⟩, .slice none 0 0, .int .i64 0, .slice none 0 0, .slice none 0 0, .int .i64 0, .int .i64 0]) HT2.out) rfl) rfl ⟨_, by rw [HNO.out]; rfl, by rw [mtD_no HNO.out]; exact dcNone_in _ _ _, HBE2.out.trans (below_cells (Nat.le_succ _) _ _ _)⟩
  have HMS := Lib.hid (mt_some (m := mn) hq)
  have C2 := Lib.hid (find_any lo r p true x.name mn W2 HXN.out HMN.out hT2)
  clear hq hT2
  have x0 := HBX2.out 0 _ rfl
  go_upto_region 4 with (refine storeOp flatDc 8 15 (b := w1.heap.size) (o := 0) (us := us) rfl rfl HPP.out.there HOU.out HLU.out ?_; rw [HPP.out.eq])
  clear HPP HOU HLU
  go_wp2_with fail
  refine C2.out.mono ?_
  rintro e w3 ⟨us3, rfl, hd, hb3⟩
  clear C2 x0
  have hd : (atK p.ds (mtK x.name mn)).dat.In w3 False (· < lo) us3 := hd
  obtain ⟨d, hdd⟩ : ∃ d, atK p.ds (mtK x.name mn) = d := ⟨_, rfl⟩
  rw [hdd] at hd
  have HDD := Lib.hid hdd
  obtain ⟨u0, _, _, _, _, _, _, _, _, _, _, _, _, _, Vq, nv, cv, _, _, _, u6, _, _, _, hv⟩ := dc_c hd
  have hvl := hv.len
  rw [List.length_map] at hvl
  have HVL := Lib.hid hvl
  have H0 := Lib.hid u0
  have H6 := Lib.hid u6
  have HLU := Lib.hid (dc_len hd)
  have HOU := Lib.hid (dc_cells hd)
  obtain ⟨W4, hP⟩ := putZ z23 52 w3 (us := us3) (dc_len hd)
  have HPP := Lib.hid hP
  have hb4 := hb3.trans (hP.bel.mono hb3.size)
  have HBE4 := Lib.hid (HBE2.out.trans (hb4.mono HBE2.out.size))
  have HT4 := Lib.hid (there_later HT2.out hb4)
  have HX4 := Lib.hid (HBX2.out.later hb4)
  have HBD := Lib.hid hP.box
  have HD4 := Lib.hid (show d.dat.H W4 us3 from (Dat.In.later hd hP.bel fun k hk => Nat.lt_of_lt_of_le hk (Nat.le_trans HLO.out (Nat.le_trans HBE2.out.size hb3.size))).wide fun k hk => Nat.lt_of_lt_of_le hk (Nat.le_trans HLO.out HBE4.out.size))
  have HSZ4 := Lib.hid (show w.heap.size + 2 ≤ W4.heap.size by have := hb4.size; have := HSZ2.out; omega)
  have HMS := Lib.hid (show (methodT p.ds x mn).isSome = ((d.kind == 3) && ((nv : Int) == (m : Int))) by
    rw [HMS.out, HDD.out, HVL.out, HXL.out]
    congr 1
    by_cases h : nv = m
    · subst h; simp
    · rw [beq_eq_false_iff_ne.2 h, beq_eq_false_iff_ne.2 (by omega)])
  clear hd hb3 hb4 hP u0 u6 hv hvl hdd
  go_upto_region 5 with (refine storeOp flatDc 10 25 (b := w3.heap.size) (o := 0) (us := us3) rfl rfl HPP.out.there HOU.out HLU.out ?_; rw [HPP.out.eq])
  clear HPP
  have x0 := HBD.out 0 _ H0.out
  have x6 := HBD.out 6 _ H6.out
  have x1 := HX4.out 1 _ rfl
  cases e1 : (d.kind == 3)
  · have HNO := Lib.hid (show (methodT p.ds x mn).isSome = false by rw [HMS.out, e1]; rfl)
    go_upto_region 6 with fail
    go_wp2_with (refine storeOp flatDc 6 38 (b := w.heap.size + 1) (o := 0) (us := [.int .i64 0, .string ⟨#[]⟩, .slice none 0 0, .slice none 0 0, .slice none 0 0, .string ⟨#[]⟩, .slice none 0 0, .string ⟨#[]⟩, .slice none 0 0, .slice none 0 0, .string ⟨#[]⟩, .slice none 0 0, .int .i64 0, .int .i64 0, .int .i64 0, .string ⟨#[]⟩, .string ⟨#[]⟩, .slice none 0 0, .int .i64 0, .slice none 0 0, .slice none 0 0, .int .i64 0, .int .i64 0]) rfl rfl HT4.out z23_all rfl ?_)
    exact bodyPost_ret (results_tmethod _ rfl rfl (set_there (us := [.int .i64 0, .string ⟨#[]⟩, .slice none 0 0, .slice none 0 0, .slice none 0 0, .string ⟨#[]⟩, .slice none 0 0, .string ⟨#[]⟩, .slice none 0 0, .slice none 0 0, .string ⟨#[]⟩, .slice none 0 0, .int .i64 0, .int .i64 0, .int .i64 0, .string ⟨#[]⟩, .string ⟨#[]⟩, .slice none 0 0, .int .i64 0, .slice none 0 0, .slice none 0 0, .int .i64 0, .int .i64 0]) HT4.out) rfl) rfl ⟨_, by rw [HNO.out]; rfl, by rw [mtD_no HNO.out]; exact dcNone_in _ _ _, HBE4.out.trans (below_cells (Nat.le_succ _) _ _ _)⟩
  have k3 : d.kind = 3 := eq_of_beq e1
  rw [k3] at x0
  cases e3 : ((nv : Int) == (m : Int))
  · have HNO := Lib.hid (show (methodT p.ds x mn).isSome = false by rw [HMS.out, e3, Bool.and_false])
    go_upto_region 6 with fail
    go_wp2_with (refine storeOp flatDc 6 38 (b := w.heap.size + 1) (o := 0) (us := [.int .i64 0, .string ⟨#[]⟩, .slice none 0 0, .slice none 0 0, .slice none 0 0, .string ⟨#[]⟩, .slice none 0 0, .string ⟨#[]⟩, .slice none 0 0, .slice none 0 0, .string ⟨#[]⟩, .slice none 0 0, .int .i64 0, .int .i64 0, .int .i64 0, .string ⟨#[]⟩, .string ⟨#[]⟩, .slice none 0 0, .int .i64 0, .slice none 0 0, .slice none 0 0, .int .i64 0, .int .i64 0]) rfl rfl HT4.out z23_all rfl ?_)
    exact bodyPost_ret (results_tmethod _ rfl rfl (set_there (us := [.int .i64 0, .string ⟨#[]⟩, .slice none 0 0, .slice none 0 0, .slice none 0 0, .string ⟨#[]⟩, .slice none 0 0, .string ⟨#[]⟩, .slice none 0 0, .slice none 0 0, .string ⟨#[]⟩, .slice none 0 0, .int .i64 0, .int .i64 0, .int .i64 0, .string ⟨#[]⟩, .string ⟨#[]⟩, .slice none 0 0, .int .i64 0, .slice none 0 0, .slice none 0 0, .int .i64 0, .int .i64 0]) HT4.out) rfl) rfl ⟨_, by rw [HNO.out]; rfl, by rw [mtD_no HNO.out]; exact dcNone_in _ _ _, HBE4.out.trans (below_cells (Nat.le_succ _) _ _ _)⟩
  have HYES := Lib.hid (show (methodT p.ds x mn).isSome = true by rw [HMS.out, e1, e3]; rfl)
  have HPW := Lib.hid (show (⟨[d], Ex.none?⟩ : Pg).wt ≤ 1990 from by
    have h1 := HDW.out
    rw [HDD.out] at h1
    have h2 := exZ_wtN
    show sumBy Dc.wt [d] + Ex.none?.wt ≤ 1990
    simp only [sumBy]
    omega)
  go_upto_region 7 with fail
  clear x0 x6 x1
  obtain ⟨a0, a1, a2, a3, a4, a5, a6, a7, a8, a9, a10, a11, a12, a13, a14, a15, a16, a17, a18, a19, a20, a21, a22, rfl⟩ := list23T HLU.out
  have HBE5 := Lib.hid ((Below.refl W4.heap.size W4).alloc (Nat.le_refl _) (.cells #[a0, a1, a2, a3, a4, a5, a6, a7, a8, a9, a10, a11, a12, a13, a14, a15, a16, a17, a18, a19, a20, a21, a22] 52))
  have C9 := Lib.hid (clonePg_any ⟨[d], Ex.none?⟩ _ _ HPW.out (onePg 52 HD4.out))
  have HZ5 := Lib.hid (show (W4.alloc (.cells #[a0, a1, a2, a3, a4, a5, a6, a7, a8, a9, a10, a11, a12, a13, a14, a15, a16, a17, a18, a19, a20, a21, a22] 52)).heap.size = W4.heap.size + 1 by simp)
  obtain ⟨W5, hW5⟩ : ∃ X, W4.alloc (.cells #[a0, a1, a2, a3, a4, a5, a6, a7, a8, a9, a10, a11, a12, a13, a14, a15, a16, a17, a18, a19, a20, a21, a22] 52) = X := ⟨_, rfl⟩
  rw [show W4.alloc (.cells ([a0, a1, a2, a3, a4, a5, a6, a7, a8, a9, a10, a11, a12, a13, a14, a15, a16, a17, a18, a19, a20, a21, a22] : List Value).toArray 52) = W5 from hW5] at C9
  rw [hW5] at HBE5 HZ5
  have HW5 := Lib.hid hW5
  clear hW5
  go_wp2_with (refine loadOp flatDc 10 39 rfl HBD.out.at0 HLU.out ?_)
  rw [HW5.out]
  clear HW5
  go_wp2_with fail
  refine C9.out.mono ?_
  rintro e w9 ⟨vs, rfl, hd9, hb9⟩
  obtain ⟨D, nd, cd, bv, rfl, hr, hbv⟩ := pg_open hd9
  have hbl : bv.length = 8 := (Dat.In.len _ _ hbv).trans (Ex.dat_size _)
  obtain rfl : 1 = nd := hr.len
  have hfl := field_pg0 (us := .slice D 1 cd :: bv) (by simp [hbl]) rfl
  obtain ⟨pu, d2, ps, rfl, hd2, hpb, _, hu, hcs⟩ := dat_at hr (by omega : 0 < 1)
  obtain rfl := Option.some.inj hd2
  have hb9 := HBE5.out.trans (hb9.mono HBE5.out.size)
  have HU := Lib.hid hu
  have HCS := Lib.hid hcs
  have HPL := Lib.hid (dc_len hu)
  have HPO := Lib.hid (dc_cells hu)
  have HB9 := Lib.hid (HBE4.out.trans (hb9.mono HBE4.out.size))
  have HT9 := Lib.hid (there_later HT4.out hb9)
  clear hd9 hb9 hr hbv hbl hd2 hpb hu hcs
  go_wp2_with (first
    | (refine loadOp flatDc 44 45 rfl HCS.out HPL.out ?_)
    | (refine storeOp flatDc 6 45 (b := w.heap.size + 1) (o := 0) (us := ps) rfl rfl (by rw [HPL.out]; exact HT9.out) HPO.out HPL.out ?_))
  exact bodyPost_ret (results_tmethod _ rfl rfl (set_there (us := ps) (by rw [HPL.out]; exact HT9.out)) HPL.out) rfl ⟨ps, by rw [HYES.out]; rfl, by
    rw [mtD_yes HYES.out, HDD.out]
    refine (Dat.In.keep id (fun q hq => kept_of (S := Fresh W5 w9) (fun b hb => heap_setCells _ _ _ _ b (by have h1 : W5.heap.size ≤ b := hb.1; have := HSZ4.out; have := HZ5.out; omega)) q hq) (fun _ h => h) _ _ HU.out).wide fun b hb => ⟨?_, ?_⟩
    · have h1 : W5.heap.size ≤ b := hb.1
      have := HSZ4.out
      have := HZ5.out
      omega
    · rw [size_setCells_w]; exact hb.2, HB9.out.trans (below_cells (Nat.le_succ _) _ _ _)⟩
end Go.Proofs.YtjhlehdjdaphcaaDoor
