/- The law BindSubstitutes: true, at every input. The condition: the table of powers. -/
import Derived.Test.YtkdlidakdknhjaaDoorBdX
import Derived.Test.YtkdlidakdknhjaaDoorBdO
namespace Go.Proofs.YtkdlidakdknhjaaDoor
open Go.RowKit

theorem fewL_smallB {us : List Ty} (h : Ty.fewL us = true) : (∀ u ∈ us, u.Small) ∧ us.length ≤ 200 := by
  unfold Ty.fewL at h
  have h2 := Ty.wtL_of_cnt (of_decide_eq_true h)
  exact ⟨fun u hu => Ty.small_of_wt (Nat.le_trans (Ty.wtL_mem hu) (Nat.le_trans h2 (by omega))), Nat.le_trans (Ty.wtL_len us) h2⟩
theorem subst_lens (s : Sg) (ns : List ByteArray) (vs : List Ty) (h : s.wt ≤ 1000) : (s.subst ns vs).fs.length ≤ 100000 ∧ (s.subst ns vs).ps.length ≤ 100000 := by
  have h1 := Sg.len_f s
  have h2 := Sg.len_p s
  exact ⟨by show (s.fs.map _).length ≤ _; rw [List.length_map]; omega, by show (s.ps.map _).length ≤ _; rw [List.length_map]; omega⟩
/-- A boxed signature, names and types. -/
structure UX (w W : World) (p : Nat) (s : Sg) (us : List Value) (N : Option Addr) (nl : Nat) (ns : List ByteArray) (U : Option Addr) (ul : Nat) (vs : List Ty) : Prop where
  sg : SX W p s us
  names : Sl W N nl ns
  args : Here W U ul vs
  bel : Below w.heap.size w W
theorem UX.later {w W W' : World} {p : Nat} {s : Sg} {us : List Value} {N : Option Addr} {nl : Nat} {ns : List ByteArray} {U : Option Addr} {ul : Nat} {vs : List Ty} (h : UX w W p s us N nl ns U ul vs) (hb : Below W.heap.size W W') : UX w W' p s us N nl ns U ul vs :=
  ⟨h.sg.later hb, h.names.later hb, Here.later h.args hb, h.bel.trans (hb.mono h.bel.size)⟩
theorem bsubst_d (s : Sg) (us : List Value) (ns : List ByteArray) (vs : List Ty) (N U : Option Addr) (nl ul nc uc : Nat) (w : World) (hw : s.wt ≤ 1000) (hvs : ∀ v ∈ vs, v.Small) (hul : ul ≤ 1000) (hF : Fits ns nl nc) (h : s.dat.H w us) (hN : Sl w N nl ns) (hU : Here w U ul vs) :
    Calls Tryd.prog 24 #[.agg us.toArray, .slice N nl nc, .slice U ul uc] w (DPost w (s.subst ns vs).dat) := by
  have hn : s.name.size ≤ 9223372036854775807 := by obtain ⟨_, _, _, _, _, _, _, _, _, _, hn, _⟩ := sg_open h; exact hn
  exact (bsubst_any s us ns vs N U nl ul nc uc w hw hvs hul hF h hN hU).mono fun e w' hp => hp.post (t := s.subst ns vs) hn (subst_lens s ns vs hw)
theorem rsubst_d (s : Sg) (us : List Value) (ns : List ByteArray) (vs : List Ty) (N U : Option Addr) (nl ul nc uc : Nat) (w : World) (hw : s.wt ≤ 1000) (hvs : ∀ v ∈ vs, v.Small) (hnl : nl ≤ 1000000) (h : s.dat.H w us) (hN : Sl w N nl ns) (hU : Here w U ul vs) :
    Calls Tryd.prog 22 #[.agg us.toArray, .slice N nl nc, .slice U ul uc] w (DPost w (s.subst ns vs).dat) := by
  have hn : s.name.size ≤ 9223372036854775807 := by obtain ⟨_, _, _, _, _, _, _, _, _, _, hn, _⟩ := sg_open h; exact hn
  exact (rsubst_any s us ns vs N U nl ul nc uc w hw hvs hnl h hN hU).mono fun e w' hp => hp.post (t := s.subst ns vs) hn (subst_lens s ns vs hw)

theorem there_setCellsB {b o n : Nat} : ∀ {w : World}, w.there b o n → ∀ (g k : Nat) (vs : List Value), (w.setCells g k vs).there b o n
  | _, h, _, _, [] => h
  | _, h, g, k, v :: r => there_setCellsB (there_setCellB h ⟨g, k, none⟩ v) g (k + 1) r
theorem there_lt {w : World} {b : Nat} (h : w.there b 0 7) : b < w.heap.size := by
  obtain ⟨h1, _⟩ := h 0 (by omega)
  obtain ⟨v, hv⟩ := Option.isSome_iff_exists.1 h1
  exact cell_lt hv
/-- What a call has made, put into an older box. -/
theorem sub_put {w X : World} {t : Sg} {b : Nat} {rs : List Value} (h : t.dat.In X False (Fresh w X) rs) (hb : b < w.heap.size) (ht : X.there b 0 rs.length) : SX (X.setCells b 0 rs) b t rs :=
  ⟨set_there ht, (Dat.In.keep id (fun p hp => kept_of (S := Fresh w X) (fun c hc => heap_setCells _ _ _ _ c (by have := hc.1; omega)) p hp) (fun c hc => by rw [size_setCells_w]; exact hc.2) _ _ h)⟩

set_option maxRecDepth 100000 in
set_option maxHeartbeats 16000000 in
theorem bsubsts_law (s : Sg) (us : List Value) (ns : List ByteArray) (vs : List Ty) (N U : Option Addr) (nl ul nc uc : Nat) (w : World) (h1 : s.dat.H w us) (hF : Fits ns nl nc) (h2 : Sl w N nl ns) (h3 : Here w U ul vs) (hE : PowVar w) :
    Calls Tryd.prog 4 #[.agg us.toArray, .slice N nl nc, .slice U ul uc] w fun e w' => e = .returned (.bool true) ∧ Below w.heap.size w w' := by
  obtain ⟨F, nf, cf, Q, np, cp, Ar, mr, ar, rfl, _, hf, _⟩ := sg_open h1
  have hfl := hf.len
  rw [List.length_map] at hfl
  have HFL := Lib.hid hfl
  have HVL := Lib.hid h3.len
  have hb := (Below.refl w.heap.size w).alloc (Nat.le_refl _) (.cells #[.string s.name, .slice F nf cf, .slice Q np cp, .string s.res.name, .slice Ar mr ar, .int .i64 s.res.off, .int .i64 s.off] 28)
  obtain ⟨W0, hW0⟩ : ∃ W0, w.alloc (.cells #[.string s.name, .slice F nf cf, .slice Q np cp, .string s.res.name, .slice Ar mr ar, .int .i64 s.res.off, .int .i64 s.off] 28) = W0 := ⟨_, rfl⟩
  have hbx : Boxd W0 w.heap.size [.string s.name, .slice F nf cf, .slice Q np cp, .string s.res.name, .slice Ar mr ar, .int .i64 s.res.off, .int .i64 s.off] := hW0 ▸ Boxd.new w #[.string s.name, .slice F nf cf, .slice Q np cp, .string s.res.name, .slice Ar mr ar, .int .i64 s.res.off, .int .i64 s.off] 28
  rw [hW0] at hb
  have HS := Lib.hid (show UX w W0 w.heap.size s [.string s.name, .slice F nf cf, .slice Q np cp, .string s.res.name, .slice Ar mr ar, .int .i64 s.res.off, .int .i64 s.off] N nl ns U ul vs from ⟨⟨hbx, Dat.H.later h1 hb⟩, h2.later hb, Here.later h3 hb, hb⟩)
  have HP := Lib.hid (hE.later hb)
  have HW0 := Lib.hid hW0
  have HFT := Lib.hid hF
  obtain ⟨fa, hfa⟩ : ∃ x, (sigPg s).few = x := ⟨_, rfl⟩
  obtain ⟨fb, hfb⟩ : ∃ x, Ty.fewL vs = x := ⟨_, rfl⟩
  have HFA := Lib.hid hfa
  have HFB := Lib.hid hfb
  clear h1 h2 h3 hE hb hbx hW0 hfa hfb hF hf hfl
  go_enter Tryd.func4, Tryd.ntmps4
  go_upto_region 1 with fail
  rw [HW0.out]
  clear HW0
  go_wp2_with fail
  refine (bawake_any _ HP.out).mono ?_
  rintro e w1 ⟨rfl, hb⟩
  have HS := Lib.hid (HS.out.later hb)
  have HP := Lib.hid (HP.out.later hb)
  clear hb
  have C1 := Lib.hid (rfewSg_any s _ _ HS.out.sg.dat)
  go_wp2_with (refine loadOpJ flatSg 3 13 rfl rfl HS.out.sg.box.at0 rfl ?_)
  refine C1.out.mono ?_
  rintro e w2 ⟨rfl, hb⟩
  have HS := Lib.hid (HS.out.later hb)
  have HP := Lib.hid (HP.out.later hb)
  clear hb C1
  rw [HFA.out]
  cases fa
  · skip
    go_wp2_with fail
    refine (bawake_any _ HP.out).mono ?_
    rintro e w9 ⟨rfl, hb⟩
    have HS := Lib.hid (HS.out.later hb)
    clear hb
    go_wp2_with fail
    go_ret
    exact ⟨rfl, HS.out.bel⟩
  by_cases hn : 20 < nl
  · have y0 : (20 : Int) < nl := by omega
    clear hn
    go_wp2_with fail
    refine (bawake_any _ HP.out).mono ?_
    rintro e w9 ⟨rfl, hb⟩
    have HS := Lib.hid (HS.out.later hb)
    clear hb
    go_wp2_with fail
    go_ret
    exact ⟨rfl, HS.out.bel⟩
  have y0 : (nl : Int) ≤ 20 := by omega
  have HNL := Lib.hid (show nl ≤ 20 by omega)
  clear hn
  go_wp2_with fail
  refine (few_all_any vs U ul uc _ HS.out.args).mono ?_
  rintro e w3 ⟨rfl, hb⟩
  have HS := Lib.hid (HS.out.later hb)
  have HP := Lib.hid (HP.out.later hb)
  clear hb
  rw [HFB.out]
  cases fb
  · skip
    go_wp2_with fail
    refine (bawake_any _ HP.out).mono ?_
    rintro e w9 ⟨rfl, hb⟩
    have HS := Lib.hid (HS.out.later hb)
    clear hb
    go_wp2_with fail
    go_ret
    exact ⟨rfl, HS.out.bel⟩
  have HWT := Lib.hid (show s.wt ≤ 1000 from Nat.le_trans (sig_few HFA.out) (by omega))
  have HVS := Lib.hid (fewL_smallB HFB.out).1
  have HUL := Lib.hid (show ul ≤ 1000 by have := (fewL_smallB HFB.out).2; have := HVL.out; omega)
  clear HP
  have C3 := Lib.hid (bapply_any s _ vs U ul uc _ HWT.out HVS.out HUL.out HS.out.sg.dat HS.out.args)
  go_wp2_with (refine loadOpJ flatSg 3 29 rfl rfl HS.out.sg.box.at0 rfl ?_)
  refine C3.out.mono ?_
  rintro e w4 ⟨us4, rfl, hd, hb⟩
  obtain ⟨F4, nf4, cf4, Q4, np4, cp4, A4, m4, a4, e4, _⟩ := sg_open hd
  obtain ⟨us5, hus5⟩ : ∃ x, x = us4 := ⟨_, rfl⟩
  rw [← hus5] at hd
  subst e4
  obtain ⟨W4, hP4⟩ := putZ #[.string ⟨#[]⟩, .slice none 0 0, .slice none 0 0, .string ⟨#[]⟩, .slice none 0 0, .int .i64 0, .int .i64 0] 28 w4 (us := [.string (s.applied vs).name, .slice F4 nf4 cf4, .slice Q4 np4 cp4, .string (s.applied vs).res.name, .slice A4 m4 a4, .int .i64 (s.applied vs).res.off, .int .i64 (s.applied vs).off]) rfl
  have HPP := Lib.hid hP4
  have hbx4 := hP4.box
  rw [← hus5] at hbx4
  have HX7 := Lib.hid (show SX W4 w4.heap.size (s.applied vs) us5 from ⟨hbx4, Dat.H.later (hd.wide fun b hb => hb.2) hP4.bel⟩)
  have HL7 := Lib.hid (show us5.length = 7 from (Dat.In.len _ _ hd).trans (Sg.dat_size _))
  have HS := Lib.hid (HS.out.later (hb.trans (hP4.bel.mono hb.size)))
  clear hd hb hP4 hbx4 hus5 C3
  go_upto_region 4 with (refine storeOp flatSg 7 32 (b := w4.heap.size) (o := 0) (us := [.string (s.applied vs).name, .slice F4 nf4 cf4, .slice Q4 np4 cp4, .string (s.applied vs).res.name, .slice A4 m4 a4, .int .i64 (s.applied vs).res.off, .int .i64 (s.applied vs).off]) rfl rfl HPP.out.there sg_one rfl ?_; rw [HPP.out.eq])
  clear HPP
  obtain ⟨b7, hb7⟩ : ∃ x, x = w4.heap.size := ⟨_, rfl⟩
  rw [← hb7] at HX7
  rw [← hb7]
  clear hb7
  obtain ⟨W5, hP5⟩ := putZ #[.string ⟨#[]⟩, .slice none 0 0, .slice none 0 0, .string ⟨#[]⟩, .slice none 0 0, .int .i64 0, .int .i64 0] 28 W4 (us := [.string ⟨#[]⟩, .slice none 0 0, .slice none 0 0, .string ⟨#[]⟩, .slice none 0 0, .int .i64 0, .int .i64 0]) rfl
  have HPP := Lib.hid hP5
  have hth : W5.there W4.heap.size 0 7 := by rw [← hP5.eq]; exact there_setCellsB hP5.there _ _ _
  have HTH := Lib.hid hth
  have HBX9 := Lib.hid hP5.box
  have HB5 := Lib.hid hP5.bel
  have HSS := Lib.hid (HS.out.later hP5.bel)
  have x1 := HSS.out.sg.box 1 _ rfl
  clear hP5 hth
  go_upto_region 5 with (refine storeOp flatSg 9 34 (b := W4.heap.size) (o := 0) (us := [.string ⟨#[]⟩, .slice none 0 0, .slice none 0 0, .string ⟨#[]⟩, .slice none 0 0, .int .i64 0, .int .i64 0]) rfl rfl HPP.out.there sg_one rfl ?_; rw [HPP.out.eq])
  clear HPP
  by_cases he : nf = ul
  · skip
    have e1 : (((nf : Int) == (ul : Int))) = true := by simp; omega
    have HEQ := Lib.hid (show s.applied vs = s.subst s.names vs by rw [Sg.applied, if_pos (by have := HFL.out; have := HVL.out; omega)])
    have HBQ := Lib.hid (show (s.fs.length == vs.length) = true by simp; have := HFL.out; have := HVL.out; omega)
    subst he
    rw [HBQ.out]
    go_upto_region 6 with fail
    go_wp2_with fail
    have HB6 := Lib.hid (HB5.out.trans ((Below.refl W5.heap.size W5).drew.mono HB5.out.size))
    refine wp_region_held_drew (S := fun V => Below W4.heap.size W4 V ∧ V.there W4.heap.size 0 7) (by kernel_rfl) ⟨HB6.out, there_later HTH.out (Below.refl _ _).drew⟩ (fun hS => ?_)
    clear HB6 x1
    refine wpAnyH_take (i := 0) (v := .agg ([.string s.name, .slice F nf cf, .slice Q np cp, .string s.res.name, .slice Ar mr ar, .int .i64 s.res.off, .int .i64 s.off] : List Value).toArray) rfl (by kernel_rfl) (by kernel_rfl) (by kernel_rfl) (fun _ _ _ h => h) (Or.inl ⟨by rfl, fun V hV => loadYieldB flatSg rfl (HS.out.later hV.1).sg.box.at0 rfl⟩) (by assumption) ?_
    try simp only [Act.put, List.getElem_toArray, List.getElem_cons_zero, List.setIfInBounds_toArray, List.set_cons_zero, List.set_cons_succ]
    refine wpAnyH_take (i := 1) (v := ?_) rfl (by kernel_rfl) (by kernel_rfl) (by kernel_rfl) (fun _ _ _ h => h) (Or.inl ⟨by rfl, ?_⟩) (by assumption) ?_
    rotate_left
    · (intro V hV; go_simp; try with_reducible rfl)
    try simp only [Act.put, List.getElem_toArray, List.getElem_cons_zero, List.getElem_cons_succ, List.setIfInBounds_toArray, List.set_cons_zero, List.set_cons_succ]
    refine wpAnyH_take (i := 2) (v := ?_) rfl (by kernel_rfl) (by kernel_rfl) (by kernel_rfl) (fun _ _ _ h => h) (Or.inl ⟨by rfl, ?_⟩) (by assumption) ?_
    rotate_left
    · (intro V hV; have k0 := (HS.out.later hV.1).sg.box 1 _ rfl; go_simp; try with_reducible rfl)
    try simp only [Act.put, List.getElem_toArray, List.getElem_cons_zero, List.getElem_cons_succ, List.setIfInBounds_toArray, List.set_cons_zero, List.set_cons_succ]
    refine wpAnyH_take (i := 4) (v := ?_) rfl (by kernel_rfl) (by kernel_rfl) (by kernel_rfl) (fun _ _ _ h => h) (Or.inl ⟨by rfl, ?_⟩) (by assumption) ?_
    rotate_left
    · (intro V hV; go_simp; try with_reducible rfl)
    try simp only [Act.put, List.getElem_toArray, List.getElem_cons_zero, List.getElem_cons_succ, List.setIfInBounds_toArray, List.set_cons_zero, List.set_cons_succ]
    refine wpAnyH_ready (rs := [3]) (by kernel_rfl) (by simp) ?_
    refine AllReadyH.cons rfl (fun K hK => ?_) (AllReadyH.nil)
    go_simp
    refine (nms_at (k := nf) (by rw [List.length_map]; exact HFL.out) (rnames_any s.fs F nf cf _ (by have := HUL.out; omega) (by obtain ⟨_, _, _, _, _, _, _, _, _, e, _, h, _⟩ := sg_open (HS.out.later hS.1).sg.dat; cases e; exact h))).mono ?_
    rintro e V1 ⟨NA, nc1, rfl, hnc, hsl, hb1⟩
    have SS := And.intro (hS.1.trans (hb1.mono hS.1.size)) (there_later hS.2 hb1)
    have HSL := Lib.hid hsl
    clear hsl hnc
    clear hS hb1
    refine hK.out _ _ SS (fun hS => ?_)
    clear hK K SS
    try simp only [Act.put, List.getElem_toArray, List.getElem_cons_zero, List.getElem_cons_succ, List.setIfInBounds_toArray, List.set_cons_zero, List.set_cons_succ]
    refine wpAnyH_ready (rs := [5]) (by kernel_rfl) (by simp) ?_
    refine AllReadyH.cons rfl (fun K hK => ?_) (AllReadyH.nil)
    go_simp
    refine (rsubst_d s _ s.names vs NA U nf nf nc1 uc _ HWT.out HVS.out (by have := HUL.out; omega) (HS.out.later hS.1).sg.dat HSL.out (HS.out.later hS.1).args).mono ?_
    rintro e V1 ⟨rs, rfl, hr, hb1⟩
    have SS := And.intro (hS.1.trans (hb1.mono hS.1.size)) (there_later hS.2 hb1)
    have HR := Lib.hid hr
    have HXS := Lib.hid (there_lt hS.2)
    clear hr HSL
    clear hS hb1
    refine hK.out _ _ SS (fun hS => ?_)
    clear hK K SS
    try simp only [Act.put, List.getElem_toArray, List.getElem_cons_zero, List.getElem_cons_succ, List.setIfInBounds_toArray, List.set_cons_zero, List.set_cons_succ]
    refine wpAnyH_ready (rs := [6]) (by kernel_rfl) (by simp) ?_
    refine AllReadyH.cons rfl (fun K hK => ?_) (AllReadyH.nil)
    have HRL := Lib.hid (show rs.length = 7 from (Dat.In.len _ _ HR.out).trans (Sg.dat_size _))
    refine ready_storeB flatSg rfl (.tmp 9) (.tmp 46) rfl (b := W4.heap.size) (off := 0) (us := rs) rfl rfl (by rw [HRL.out]; exact hS.2) (sg_cells7 HR.out) HRL.out ?_
    have SS := And.intro (hS.1.trans (below_cells (B := W4.heap.size) (g := W4.heap.size) (Nat.le_refl _) rs 0 _)) (there_setCellsB hS.2 W4.heap.size 0 rs)
    have HX9 := Lib.hid (sub_put HR.out HXS.out (by rw [HRL.out]; exact hS.2))
    refine hK.out _ _ SS (fun hS => ?_)
    clear hK K SS
    try simp only [Act.put]
    refine wpAnyH_done (by kernel_rfl) ?_ _
    have HS6 := Lib.hid (HS.out.later hS.1)
    have HX76 := Lib.hid (HX7.out.later hS.1)
    rw [← HEQ.out] at HX9
    have x1 := HS6.out.sg.box 1 _ rfl
    have HSD := Lib.hid (HS6.out.later (Below.refl _ _).drew)
    have HX7D := Lib.hid (HX76.out.later (Below.refl _ _).drew)
    have HX9D := Lib.hid (HX9.out.later (Below.refl _ _).drew)
    clear hS HR HXS HS HSS HX7 HBX9 HB5 HTH HS6 HX76 HX9
    go_wp2_with fail
    refine wp_region_held_drew (S := fun V => UX w V w.heap.size s [.string s.name, .slice F nf cf, .slice Q np cp, .string s.res.name, .slice Ar mr ar, .int .i64 s.res.off, .int .i64 s.off] N nl ns U nf vs ∧ SX V b7 (s.applied vs) us5 ∧ SX V W4.heap.size (s.applied vs) rs) (by kernel_rfl) ⟨HSD.out, HX7D.out, HX9D.out⟩ (fun hS => ?_)
    clear HSD HX7D HX9D
    refine wpAnyH_take (i := 0) (v := .agg ([.string s.name, .slice F nf cf, .slice Q np cp, .string s.res.name, .slice Ar mr ar, .int .i64 s.res.off, .int .i64 s.off] : List Value).toArray) rfl (by kernel_rfl) (by kernel_rfl) (by kernel_rfl) (fun _ _ _ h => h) (Or.inl ⟨by rfl, fun V hV => loadYieldB flatSg rfl hV.1.sg.box.at0 rfl⟩) (by assumption) ?_
    try simp only [Act.put, List.getElem_toArray, List.getElem_cons_zero, List.setIfInBounds_toArray, List.set_cons_zero, List.set_cons_succ]
    refine wpAnyH_take (i := 1) (v := ?_) rfl (by kernel_rfl) (by kernel_rfl) (by kernel_rfl) (fun _ _ _ h => h) (Or.inl ⟨by rfl, ?_⟩) (by assumption) ?_
    rotate_left
    · (intro V hV; go_simp; try with_reducible rfl)
    try simp only [Act.put, List.getElem_toArray, List.getElem_cons_zero, List.getElem_cons_succ, List.setIfInBounds_toArray, List.set_cons_zero, List.set_cons_succ]
    refine wpAnyH_take (i := 2) (v := ?_) rfl (by kernel_rfl) (by kernel_rfl) (by kernel_rfl) (fun _ _ _ h => h) (Or.inl ⟨by rfl, ?_⟩) (by assumption) ?_
    rotate_left
    · (intro V hV; go_simp; try with_reducible rfl)
    try simp only [Act.put, List.getElem_toArray, List.getElem_cons_zero, List.getElem_cons_succ, List.setIfInBounds_toArray, List.set_cons_zero, List.set_cons_succ]
    refine wpAnyH_take (i := 4) (v := .agg ([.string s.name, .slice F nf cf, .slice Q np cp, .string s.res.name, .slice Ar mr ar, .int .i64 s.res.off, .int .i64 s.off] : List Value).toArray) rfl (by kernel_rfl) (by kernel_rfl) (by kernel_rfl) (fun _ _ _ h => h) (Or.inl ⟨by rfl, fun V hV => loadYieldB flatSg rfl hV.1.sg.box.at0 rfl⟩) (by assumption) ?_
    try simp only [Act.put, List.getElem_toArray, List.getElem_cons_zero, List.getElem_cons_succ, List.setIfInBounds_toArray, List.set_cons_zero, List.set_cons_succ]
    refine wpAnyH_take (i := 5) (v := ?_) rfl (by kernel_rfl) (by kernel_rfl) (by kernel_rfl) (fun _ _ _ h => h) (Or.inl ⟨by rfl, ?_⟩) (by assumption) ?_
    rotate_left
    · (intro V hV; go_simp; try with_reducible rfl)
    try simp only [Act.put, List.getElem_toArray, List.getElem_cons_zero, List.getElem_cons_succ, List.setIfInBounds_toArray, List.set_cons_zero, List.set_cons_succ]
    refine wpAnyH_take (i := 6) (v := ?_) rfl (by kernel_rfl) (by kernel_rfl) (by kernel_rfl) (fun _ _ _ h => h) (Or.inl ⟨by rfl, ?_⟩) (by assumption) ?_
    rotate_left
    · (intro V hV; go_simp; try with_reducible rfl)
    try simp only [Act.put, List.getElem_toArray, List.getElem_cons_zero, List.getElem_cons_succ, List.setIfInBounds_toArray, List.set_cons_zero, List.set_cons_succ]
    refine wpAnyH_ready (rs := [3]) (by kernel_rfl) (by simp) ?_
    refine AllReadyH.cons rfl (fun K hK => ?_) (AllReadyH.nil)
    go_simp
    refine (bsubst_d s _ ns vs N U nl nf nc uc _ HWT.out HVS.out HUL.out HFT.out hS.1.sg.dat hS.1.names hS.1.args).mono ?_
    rintro e V1 ⟨rs3, rfl, hd3, hb1⟩
    have SS := And.intro (hS.1.later hb1) (And.intro (hS.2.1.later hb1) (hS.2.2.later hb1))
    have HD3 := Lib.hid (show (s.subst ns vs).dat.H V1 rs3 from hd3.wide fun b hb => hb.2)
    clear hd3
    clear hS hb1
    refine hK.out _ _ SS (fun hS => ?_)
    clear hK K SS
    try simp only [Act.put, List.getElem_toArray, List.getElem_cons_zero, List.getElem_cons_succ, List.setIfInBounds_toArray, List.set_cons_zero, List.set_cons_succ]
    refine wpAnyH_ready (rs := [7]) (by kernel_rfl) (by simp) ?_
    refine AllReadyH.cons rfl (fun K hK => ?_) (AllReadyH.nil)
    go_simp
    refine (rsubst_d s _ ns vs N U nl nf nc uc _ HWT.out HVS.out (by have := HNL.out; omega) hS.1.sg.dat hS.1.names hS.1.args).mono ?_
    rintro e V1 ⟨rs7, rfl, hd7, hb1⟩
    have SS := And.intro (hS.1.later hb1) (And.intro (hS.2.1.later hb1) (hS.2.2.later hb1))
    have HD3 := Lib.hid (Dat.H.later HD3.out hb1)
    have HD7 := Lib.hid (show (s.subst ns vs).dat.H V1 rs7 from hd7.wide fun b hb => hb.2)
    clear hd7
    clear hS hb1
    refine hK.out _ _ SS (fun hS => ?_)
    clear hK K SS
    try simp only [Act.put, List.getElem_toArray, List.getElem_cons_zero, List.getElem_cons_succ, List.setIfInBounds_toArray, List.set_cons_zero, List.set_cons_succ]
    refine wpAnyH_ready (rs := [8]) (by kernel_rfl) (by simp) ?_
    refine AllReadyH.cons rfl (fun K hK => ?_) (AllReadyH.nil)
    go_simp
    refine (rsig_any (s.subst ns vs) (s.subst ns vs) rs3 rs7 true _ HD3.out HD7.out).mono ?_
    rintro e V1 ⟨rfl, hb1⟩
    have SS := And.intro (hS.1.later hb1) (And.intro (hS.2.1.later hb1) (hS.2.2.later hb1))
    rw [Sg.exact]
    clear HD3 HD7
    clear hS hb1
    refine hK.out _ _ SS (fun hS => ?_)
    clear hK K SS
    try simp only [Act.put, List.getElem_toArray, List.getElem_cons_zero, List.getElem_cons_succ, List.setIfInBounds_toArray, List.set_cons_zero, List.set_cons_succ]
    refine wpAnyH_take (i := 9) (v := ?_) rfl (by kernel_rfl) (by kernel_rfl) (by kernel_rfl) (fun _ _ _ h => h) (Or.inl ⟨by rfl, ?_⟩) (by assumption) ?_
    rotate_left
    · (intro V hV; go_simp; try with_reducible rfl)
    try simp only [Act.put, List.getElem_toArray, List.getElem_cons_zero, List.getElem_cons_succ, List.setIfInBounds_toArray, List.set_cons_zero, List.set_cons_succ]
    refine wpAnyH_take (i := 10) (v := ?_) rfl (by kernel_rfl) (by kernel_rfl) (by kernel_rfl) (fun _ _ _ h => h) (Or.inl ⟨by rfl, ?_⟩) (by assumption) ?_
    rotate_left
    · (intro V hV; go_simp; try with_reducible rfl)
    try simp only [Act.put, List.getElem_toArray, List.getElem_cons_zero, List.getElem_cons_succ, List.setIfInBounds_toArray, List.set_cons_zero, List.set_cons_succ]
    refine wpAnyH_take (i := 11) (v := ?_) rfl (by kernel_rfl) (by kernel_rfl) (by kernel_rfl) (fun _ _ _ h => h) (Or.inl ⟨by rfl, ?_⟩) (by assumption) ?_
    rotate_left
    · (intro V hV; go_simp; try with_reducible rfl)
    try simp only [Act.put, List.getElem_toArray, List.getElem_cons_zero, List.getElem_cons_succ, List.setIfInBounds_toArray, List.set_cons_zero, List.set_cons_succ]
    refine wpAnyH_take (i := 12) (v := ?_) rfl (by kernel_rfl) (by kernel_rfl) (by kernel_rfl) (fun _ _ _ h => h) (Or.inl ⟨by rfl, ?_⟩) (by assumption) ?_
    rotate_left
    · (intro V hV; have k0 := hV.1.sg.box 1 _ rfl; go_simp; try with_reducible rfl)
    try simp only [Act.put, List.getElem_toArray, List.getElem_cons_zero, List.getElem_cons_succ, List.setIfInBounds_toArray, List.set_cons_zero, List.set_cons_succ]
    refine wpAnyH_take (i := 13) (v := ?_) rfl (by kernel_rfl) (by kernel_rfl) (by kernel_rfl) (fun _ _ _ h => h) (Or.inl ⟨by rfl, ?_⟩) (by assumption) ?_
    rotate_left
    · (intro V hV; go_simp; try with_reducible rfl)
    try simp only [Act.put, List.getElem_toArray, List.getElem_cons_zero, List.getElem_cons_succ, List.setIfInBounds_toArray, List.set_cons_zero, List.set_cons_succ]
    refine wpAnyH_take (i := 14) (v := ?_) rfl (by kernel_rfl) (by kernel_rfl) (by kernel_rfl) (fun _ _ _ h => h) (Or.inl ⟨by rfl, ?_⟩) (by assumption) ?_
    rotate_left
    · (intro V hV; go_simp; try with_reducible rfl)
    try simp only [Act.put, List.getElem_toArray, List.getElem_cons_zero, List.getElem_cons_succ, List.setIfInBounds_toArray, List.set_cons_zero, List.set_cons_succ]
    refine wpAnyH_take (i := 15) (v := ?_) rfl (by kernel_rfl) (by kernel_rfl) (by kernel_rfl) (fun _ _ _ h => h) (Or.inl ⟨by rfl, ?_⟩) (by assumption) ?_
    rotate_left
    · (intro V hV; go_simp; try with_reducible rfl)
    try simp only [Act.put, List.getElem_toArray, List.getElem_cons_zero, List.getElem_cons_succ, List.setIfInBounds_toArray, List.set_cons_zero, List.set_cons_succ]
    refine wpAnyH_take (i := 16) (v := ?_) rfl (by kernel_rfl) (by kernel_rfl) (by kernel_rfl) (fun _ _ _ h => h) (Or.inl ⟨by rfl, ?_⟩) (by assumption) ?_
    rotate_left
    · (intro V hV; go_simp; try with_reducible rfl)
    try simp only [Act.put, List.getElem_toArray, List.getElem_cons_zero, List.getElem_cons_succ, List.setIfInBounds_toArray, List.set_cons_zero, List.set_cons_succ]
    refine wpAnyH_take (i := 17) (v := ?_) rfl (by kernel_rfl) (by kernel_rfl) (by kernel_rfl) (fun _ _ _ h => h) (Or.inl ⟨by rfl, ?_⟩) (by assumption) ?_
    rotate_left
    · (intro V hV; go_simp; try with_reducible rfl)
    try simp only [Act.put, List.getElem_toArray, List.getElem_cons_zero, List.getElem_cons_succ, List.setIfInBounds_toArray, List.set_cons_zero, List.set_cons_succ]
    refine wpAnyH_take (i := 18) (v := ?_) rfl (by kernel_rfl) (by kernel_rfl) (by kernel_rfl) (fun _ _ _ h => h) (Or.inl ⟨by rfl, ?_⟩) (by assumption) ?_
    rotate_left
    · (intro V hV; go_simp; try with_reducible rfl)
    try simp only [Act.put, List.getElem_toArray, List.getElem_cons_zero, List.getElem_cons_succ, List.setIfInBounds_toArray, List.set_cons_zero, List.set_cons_succ]
    refine wpAnyH_take (i := 19) (v := ?_) rfl (by kernel_rfl) (by kernel_rfl) (by kernel_rfl) (fun _ _ _ h => h) (Or.inl ⟨by rfl, ?_⟩) (by assumption) ?_
    rotate_left
    · (intro V hV; go_simp; try with_reducible rfl)
    try simp only [Act.put, List.getElem_toArray, List.getElem_cons_zero, List.getElem_cons_succ, List.setIfInBounds_toArray, List.set_cons_zero, List.set_cons_succ]
    refine wpAnyH_take (i := 20) (v := .agg (us5 : List Value).toArray) rfl (by kernel_rfl) (by kernel_rfl) (by kernel_rfl) (fun _ _ _ h => h) (Or.inl ⟨by rfl, fun V hV => loadYieldB flatSg rfl hV.2.1.box.at0 HL7.out⟩) (by assumption) ?_
    try simp only [Act.put, List.getElem_toArray, List.getElem_cons_zero, List.getElem_cons_succ, List.setIfInBounds_toArray, List.set_cons_zero, List.set_cons_succ]
    refine wpAnyH_take (i := 21) (v := .agg (rs : List Value).toArray) rfl (by kernel_rfl) (by kernel_rfl) (by kernel_rfl) (fun _ _ _ h => h) (Or.inl ⟨by rfl, fun V hV => loadYieldB flatSg rfl hV.2.2.box.at0 HRL.out⟩) (by assumption) ?_
    try simp only [Act.put, List.getElem_toArray, List.getElem_cons_zero, List.getElem_cons_succ, List.setIfInBounds_toArray, List.set_cons_zero, List.set_cons_succ]
    refine wpAnyH_ready (rs := [22]) (by kernel_rfl) (by simp) ?_
    refine AllReadyH.cons rfl (fun K hK => ?_) (AllReadyH.nil)
    go_simp
    refine (rsig_any (s.applied vs) (s.applied vs) _ _ true _ hS.2.1.dat hS.2.2.dat).mono ?_
    rintro e V1 ⟨rfl, hb1⟩
    have SS := And.intro (hS.1.later hb1) (And.intro (hS.2.1.later hb1) (hS.2.2.later hb1))
    rw [Sg.exact]
    clear hS hb1
    refine hK.out _ _ SS (fun hS => ?_)
    clear hK K SS
    try simp only [Act.put, List.getElem_toArray, List.getElem_cons_zero, List.getElem_cons_succ, List.setIfInBounds_toArray, List.set_cons_zero, List.set_cons_succ]
    refine wpAnyH_take (i := 23) (v := ?_) rfl (by kernel_rfl) (by kernel_rfl) (by kernel_rfl) (fun _ _ _ h => h) (Or.inl ⟨by rfl, ?_⟩) (by assumption) ?_
    rotate_left
    · (intro V hV; go_simp; try with_reducible rfl)
    try simp only [Act.put, List.getElem_toArray, List.getElem_cons_zero, List.getElem_cons_succ, List.setIfInBounds_toArray, List.set_cons_zero, List.set_cons_succ]
    refine wpAnyH_take (i := 24) (v := ?_) rfl (by kernel_rfl) (by kernel_rfl) (by kernel_rfl) (fun _ _ _ h => h) (Or.inl ⟨by rfl, ?_⟩) (by assumption) ?_
    rotate_left
    · (intro V hV; go_simp; try with_reducible rfl)
    try simp only [Act.put, List.getElem_toArray, List.getElem_cons_zero, List.getElem_cons_succ, List.setIfInBounds_toArray, List.set_cons_zero, List.set_cons_succ]
    refine wpAnyH_done (by kernel_rfl) ?_ _
    go_wp2_with fail
    go_ret
    exact ⟨rfl, hS.1.bel⟩
  · skip
    have e1 : (((nf : Int) == (ul : Int))) = false := by simp; omega
    have HEQ := Lib.hid (show s.applied vs = Sg.none? by rw [Sg.applied, if_neg (by have := HFL.out; have := HVL.out; omega)])
    have HBQ := Lib.hid (show (s.fs.length == vs.length) = false by simp; have := HFL.out; have := HVL.out; omega)
    rw [HBQ.out]
    have HX9 := Lib.hid (show SX W5 W4.heap.size (s.applied vs) [.string ⟨#[]⟩, .slice none 0 0, .slice none 0 0, .string ⟨#[]⟩, .slice none 0 0, .int .i64 0, .int .i64 0] from ⟨HBX9.out, by rw [HEQ.out]; exact none_dat⟩)
    have HSD := Lib.hid (HSS.out.later (Below.refl _ _).drew)
    have HX7D := Lib.hid ((HX7.out.later HB5.out).later (Below.refl _ _).drew)
    have HX9D := Lib.hid (HX9.out.later (Below.refl _ _).drew)
    clear HS HSS HX7 HBX9 HB5 HTH HX9 he
    go_wp2_with fail
    refine wp_region_held_drew (S := fun V => UX w V w.heap.size s [.string s.name, .slice F nf cf, .slice Q np cp, .string s.res.name, .slice Ar mr ar, .int .i64 s.res.off, .int .i64 s.off] N nl ns U ul vs ∧ SX V b7 (s.applied vs) us5 ∧ SX V W4.heap.size (s.applied vs) [.string ⟨#[]⟩, .slice none 0 0, .slice none 0 0, .string ⟨#[]⟩, .slice none 0 0, .int .i64 0, .int .i64 0]) (by kernel_rfl) ⟨HSD.out, HX7D.out, HX9D.out⟩ (fun hS => ?_)
    clear HSD HX7D HX9D
    refine wpAnyH_take (i := 0) (v := .agg ([.string s.name, .slice F nf cf, .slice Q np cp, .string s.res.name, .slice Ar mr ar, .int .i64 s.res.off, .int .i64 s.off] : List Value).toArray) rfl (by kernel_rfl) (by kernel_rfl) (by kernel_rfl) (fun _ _ _ h => h) (Or.inl ⟨by rfl, fun V hV => loadYieldB flatSg rfl hV.1.sg.box.at0 rfl⟩) (by assumption) ?_
    try simp only [Act.put, List.getElem_toArray, List.getElem_cons_zero, List.setIfInBounds_toArray, List.set_cons_zero, List.set_cons_succ]
    refine wpAnyH_take (i := 1) (v := ?_) rfl (by kernel_rfl) (by kernel_rfl) (by kernel_rfl) (fun _ _ _ h => h) (Or.inl ⟨by rfl, ?_⟩) (by assumption) ?_
    rotate_left
    · (intro V hV; go_simp; try with_reducible rfl)
    try simp only [Act.put, List.getElem_toArray, List.getElem_cons_zero, List.getElem_cons_succ, List.setIfInBounds_toArray, List.set_cons_zero, List.set_cons_succ]
    refine wpAnyH_take (i := 2) (v := ?_) rfl (by kernel_rfl) (by kernel_rfl) (by kernel_rfl) (fun _ _ _ h => h) (Or.inl ⟨by rfl, ?_⟩) (by assumption) ?_
    rotate_left
    · (intro V hV; go_simp; try with_reducible rfl)
    try simp only [Act.put, List.getElem_toArray, List.getElem_cons_zero, List.getElem_cons_succ, List.setIfInBounds_toArray, List.set_cons_zero, List.set_cons_succ]
    refine wpAnyH_take (i := 4) (v := .agg ([.string s.name, .slice F nf cf, .slice Q np cp, .string s.res.name, .slice Ar mr ar, .int .i64 s.res.off, .int .i64 s.off] : List Value).toArray) rfl (by kernel_rfl) (by kernel_rfl) (by kernel_rfl) (fun _ _ _ h => h) (Or.inl ⟨by rfl, fun V hV => loadYieldB flatSg rfl hV.1.sg.box.at0 rfl⟩) (by assumption) ?_
    try simp only [Act.put, List.getElem_toArray, List.getElem_cons_zero, List.getElem_cons_succ, List.setIfInBounds_toArray, List.set_cons_zero, List.set_cons_succ]
    refine wpAnyH_take (i := 5) (v := ?_) rfl (by kernel_rfl) (by kernel_rfl) (by kernel_rfl) (fun _ _ _ h => h) (Or.inl ⟨by rfl, ?_⟩) (by assumption) ?_
    rotate_left
    · (intro V hV; go_simp; try with_reducible rfl)
    try simp only [Act.put, List.getElem_toArray, List.getElem_cons_zero, List.getElem_cons_succ, List.setIfInBounds_toArray, List.set_cons_zero, List.set_cons_succ]
    refine wpAnyH_take (i := 6) (v := ?_) rfl (by kernel_rfl) (by kernel_rfl) (by kernel_rfl) (fun _ _ _ h => h) (Or.inl ⟨by rfl, ?_⟩) (by assumption) ?_
    rotate_left
    · (intro V hV; go_simp; try with_reducible rfl)
    try simp only [Act.put, List.getElem_toArray, List.getElem_cons_zero, List.getElem_cons_succ, List.setIfInBounds_toArray, List.set_cons_zero, List.set_cons_succ]
    refine wpAnyH_ready (rs := [3]) (by kernel_rfl) (by simp) ?_
    refine AllReadyH.cons rfl (fun K hK => ?_) (AllReadyH.nil)
    go_simp
    refine (bsubst_d s _ ns vs N U nl ul nc uc _ HWT.out HVS.out HUL.out HFT.out hS.1.sg.dat hS.1.names hS.1.args).mono ?_
    rintro e V1 ⟨rs3, rfl, hd3, hb1⟩
    have SS := And.intro (hS.1.later hb1) (And.intro (hS.2.1.later hb1) (hS.2.2.later hb1))
    have HD3 := Lib.hid (show (s.subst ns vs).dat.H V1 rs3 from hd3.wide fun b hb => hb.2)
    clear hd3
    clear hS hb1
    refine hK.out _ _ SS (fun hS => ?_)
    clear hK K SS
    try simp only [Act.put, List.getElem_toArray, List.getElem_cons_zero, List.getElem_cons_succ, List.setIfInBounds_toArray, List.set_cons_zero, List.set_cons_succ]
    refine wpAnyH_ready (rs := [7]) (by kernel_rfl) (by simp) ?_
    refine AllReadyH.cons rfl (fun K hK => ?_) (AllReadyH.nil)
    go_simp
    refine (rsubst_d s _ ns vs N U nl ul nc uc _ HWT.out HVS.out (by have := HNL.out; omega) hS.1.sg.dat hS.1.names hS.1.args).mono ?_
    rintro e V1 ⟨rs7, rfl, hd7, hb1⟩
    have SS := And.intro (hS.1.later hb1) (And.intro (hS.2.1.later hb1) (hS.2.2.later hb1))
    have HD3 := Lib.hid (Dat.H.later HD3.out hb1)
    have HD7 := Lib.hid (show (s.subst ns vs).dat.H V1 rs7 from hd7.wide fun b hb => hb.2)
    clear hd7
    clear hS hb1
    refine hK.out _ _ SS (fun hS => ?_)
    clear hK K SS
    try simp only [Act.put, List.getElem_toArray, List.getElem_cons_zero, List.getElem_cons_succ, List.setIfInBounds_toArray, List.set_cons_zero, List.set_cons_succ]
    refine wpAnyH_ready (rs := [8]) (by kernel_rfl) (by simp) ?_
    refine AllReadyH.cons rfl (fun K hK => ?_) (AllReadyH.nil)
    go_simp
    refine (rsig_any (s.subst ns vs) (s.subst ns vs) rs3 rs7 true _ HD3.out HD7.out).mono ?_
    rintro e V1 ⟨rfl, hb1⟩
    have SS := And.intro (hS.1.later hb1) (And.intro (hS.2.1.later hb1) (hS.2.2.later hb1))
    rw [Sg.exact]
    clear HD3 HD7
    clear hS hb1
    refine hK.out _ _ SS (fun hS => ?_)
    clear hK K SS
    try simp only [Act.put, List.getElem_toArray, List.getElem_cons_zero, List.getElem_cons_succ, List.setIfInBounds_toArray, List.set_cons_zero, List.set_cons_succ]
    refine wpAnyH_take (i := 9) (v := ?_) rfl (by kernel_rfl) (by kernel_rfl) (by kernel_rfl) (fun _ _ _ h => h) (Or.inl ⟨by rfl, ?_⟩) (by assumption) ?_
    rotate_left
    · (intro V hV; go_simp; try with_reducible rfl)
    try simp only [Act.put, List.getElem_toArray, List.getElem_cons_zero, List.getElem_cons_succ, List.setIfInBounds_toArray, List.set_cons_zero, List.set_cons_succ]
    refine wpAnyH_take (i := 10) (v := ?_) rfl (by kernel_rfl) (by kernel_rfl) (by kernel_rfl) (fun _ _ _ h => h) (Or.inl ⟨by rfl, ?_⟩) (by assumption) ?_
    rotate_left
    · (intro V hV; go_simp; try with_reducible rfl)
    try simp only [Act.put, List.getElem_toArray, List.getElem_cons_zero, List.getElem_cons_succ, List.setIfInBounds_toArray, List.set_cons_zero, List.set_cons_succ]
    refine wpAnyH_take (i := 11) (v := ?_) rfl (by kernel_rfl) (by kernel_rfl) (by kernel_rfl) (fun _ _ _ h => h) (Or.inl ⟨by rfl, ?_⟩) (by assumption) ?_
    rotate_left
    · (intro V hV; go_simp; try with_reducible rfl)
    try simp only [Act.put, List.getElem_toArray, List.getElem_cons_zero, List.getElem_cons_succ, List.setIfInBounds_toArray, List.set_cons_zero, List.set_cons_succ]
    refine wpAnyH_take (i := 12) (v := ?_) rfl (by kernel_rfl) (by kernel_rfl) (by kernel_rfl) (fun _ _ _ h => h) (Or.inl ⟨by rfl, ?_⟩) (by assumption) ?_
    rotate_left
    · (intro V hV; have k0 := hV.1.sg.box 1 _ rfl; go_simp; try with_reducible rfl)
    try simp only [Act.put, List.getElem_toArray, List.getElem_cons_zero, List.getElem_cons_succ, List.setIfInBounds_toArray, List.set_cons_zero, List.set_cons_succ]
    refine wpAnyH_take (i := 13) (v := ?_) rfl (by kernel_rfl) (by kernel_rfl) (by kernel_rfl) (fun _ _ _ h => h) (Or.inl ⟨by rfl, ?_⟩) (by assumption) ?_
    rotate_left
    · (intro V hV; go_simp; try with_reducible rfl)
    try simp only [Act.put, List.getElem_toArray, List.getElem_cons_zero, List.getElem_cons_succ, List.setIfInBounds_toArray, List.set_cons_zero, List.set_cons_succ]
    refine wpAnyH_take (i := 14) (v := ?_) rfl (by kernel_rfl) (by kernel_rfl) (by kernel_rfl) (fun _ _ _ h => h) (Or.inl ⟨by rfl, ?_⟩) (by assumption) ?_
    rotate_left
    · (intro V hV; go_simp; try with_reducible rfl)
    try simp only [Act.put, List.getElem_toArray, List.getElem_cons_zero, List.getElem_cons_succ, List.setIfInBounds_toArray, List.set_cons_zero, List.set_cons_succ]
    refine wpAnyH_take (i := 15) (v := ?_) rfl (by kernel_rfl) (by kernel_rfl) (by kernel_rfl) (fun _ _ _ h => h) (Or.inl ⟨by rfl, ?_⟩) (by assumption) ?_
    rotate_left
    · (intro V hV; go_simp; try with_reducible rfl)
    try simp only [Act.put, List.getElem_toArray, List.getElem_cons_zero, List.getElem_cons_succ, List.setIfInBounds_toArray, List.set_cons_zero, List.set_cons_succ]
    refine wpAnyH_take (i := 16) (v := ?_) rfl (by kernel_rfl) (by kernel_rfl) (by kernel_rfl) (fun _ _ _ h => h) (Or.inl ⟨by rfl, ?_⟩) (by assumption) ?_
    rotate_left
    · (intro V hV; go_simp; try with_reducible rfl)
    try simp only [Act.put, List.getElem_toArray, List.getElem_cons_zero, List.getElem_cons_succ, List.setIfInBounds_toArray, List.set_cons_zero, List.set_cons_succ]
    refine wpAnyH_take (i := 17) (v := ?_) rfl (by kernel_rfl) (by kernel_rfl) (by kernel_rfl) (fun _ _ _ h => h) (Or.inl ⟨by rfl, ?_⟩) (by assumption) ?_
    rotate_left
    · (intro V hV; go_simp; try with_reducible rfl)
    try simp only [Act.put, List.getElem_toArray, List.getElem_cons_zero, List.getElem_cons_succ, List.setIfInBounds_toArray, List.set_cons_zero, List.set_cons_succ]
    refine wpAnyH_take (i := 18) (v := ?_) rfl (by kernel_rfl) (by kernel_rfl) (by kernel_rfl) (fun _ _ _ h => h) (Or.inl ⟨by rfl, ?_⟩) (by assumption) ?_
    rotate_left
    · (intro V hV; go_simp; try with_reducible rfl)
    try simp only [Act.put, List.getElem_toArray, List.getElem_cons_zero, List.getElem_cons_succ, List.setIfInBounds_toArray, List.set_cons_zero, List.set_cons_succ]
    refine wpAnyH_take (i := 19) (v := ?_) rfl (by kernel_rfl) (by kernel_rfl) (by kernel_rfl) (fun _ _ _ h => h) (Or.inl ⟨by rfl, ?_⟩) (by assumption) ?_
    rotate_left
    · (intro V hV; go_simp; try with_reducible rfl)
    try simp only [Act.put, List.getElem_toArray, List.getElem_cons_zero, List.getElem_cons_succ, List.setIfInBounds_toArray, List.set_cons_zero, List.set_cons_succ]
    refine wpAnyH_take (i := 20) (v := .agg (us5 : List Value).toArray) rfl (by kernel_rfl) (by kernel_rfl) (by kernel_rfl) (fun _ _ _ h => h) (Or.inl ⟨by rfl, fun V hV => loadYieldB flatSg rfl hV.2.1.box.at0 HL7.out⟩) (by assumption) ?_
    try simp only [Act.put, List.getElem_toArray, List.getElem_cons_zero, List.getElem_cons_succ, List.setIfInBounds_toArray, List.set_cons_zero, List.set_cons_succ]
    refine wpAnyH_take (i := 21) (v := .agg ([.string ⟨#[]⟩, .slice none 0 0, .slice none 0 0, .string ⟨#[]⟩, .slice none 0 0, .int .i64 0, .int .i64 0] : List Value).toArray) rfl (by kernel_rfl) (by kernel_rfl) (by kernel_rfl) (fun _ _ _ h => h) (Or.inl ⟨by rfl, fun V hV => loadYieldB flatSg rfl hV.2.2.box.at0 rfl⟩) (by assumption) ?_
    try simp only [Act.put, List.getElem_toArray, List.getElem_cons_zero, List.getElem_cons_succ, List.setIfInBounds_toArray, List.set_cons_zero, List.set_cons_succ]
    refine wpAnyH_ready (rs := [22]) (by kernel_rfl) (by simp) ?_
    refine AllReadyH.cons rfl (fun K hK => ?_) (AllReadyH.nil)
    go_simp
    refine (rsig_any (s.applied vs) (s.applied vs) _ _ true _ hS.2.1.dat hS.2.2.dat).mono ?_
    rintro e V1 ⟨rfl, hb1⟩
    have SS := And.intro (hS.1.later hb1) (And.intro (hS.2.1.later hb1) (hS.2.2.later hb1))
    rw [Sg.exact]
    clear hS hb1
    refine hK.out _ _ SS (fun hS => ?_)
    clear hK K SS
    try simp only [Act.put, List.getElem_toArray, List.getElem_cons_zero, List.getElem_cons_succ, List.setIfInBounds_toArray, List.set_cons_zero, List.set_cons_succ]
    refine wpAnyH_take (i := 23) (v := ?_) rfl (by kernel_rfl) (by kernel_rfl) (by kernel_rfl) (fun _ _ _ h => h) (Or.inl ⟨by rfl, ?_⟩) (by assumption) ?_
    rotate_left
    · (intro V hV; go_simp; try with_reducible rfl)
    try simp only [Act.put, List.getElem_toArray, List.getElem_cons_zero, List.getElem_cons_succ, List.setIfInBounds_toArray, List.set_cons_zero, List.set_cons_succ]
    refine wpAnyH_take (i := 24) (v := ?_) rfl (by kernel_rfl) (by kernel_rfl) (by kernel_rfl) (fun _ _ _ h => h) (Or.inl ⟨by rfl, ?_⟩) (by assumption) ?_
    rotate_left
    · (intro V hV; go_simp; try with_reducible rfl)
    try simp only [Act.put, List.getElem_toArray, List.getElem_cons_zero, List.getElem_cons_succ, List.setIfInBounds_toArray, List.set_cons_zero, List.set_cons_succ]
    refine wpAnyH_done (by kernel_rfl) ?_ _
    go_wp2_with fail
    go_ret
    exact ⟨rfl, hS.1.bel⟩
end Go.Proofs.YtkdlidakdknhjaaDoor
