/- The walk of the law ReadBack: true, at every input. The conditions: the table of words, the variable of package errors. -/
import Derived.Test.YtbeejmlmplgaeaaDoorRbR
import Derived.Test.YtbeejmlmplgaeaaDoorRdV
import Derived.Test.YtbeejmlmplgaeaaDoorExH
namespace Go.Proofs.YtbeejmlmplgaeaaDoor.Rd
open Go.RowKit

theorem loadOpI {ty : TypeId} {z : Nat} (hf : Flat ty z) {ops : Array Oper} {rest : List Oper} {a : Act} {w : World} {Q : Exit → Act → World → Prop} {ps : String} {af : Array Edge} {g : Option (Nat × Bool)} (i d : Nat) {p : Addr} {us : List Value}
    (hw : Region.wanted { dst := some d, op := .load ty (.tmp i), type := ty, pos := ps, after := af, guard := g } (yielded ops a.tmps) = true) (hx : a.eval (.tmp i) = .pointer (some p)) (hc : CellsAt w p us) (hl : us.length = z)
    (h : wpList Tryd.prog ops Q rest (a.put (some d) (.agg us.toArray)) w) :
    wpList Tryd.prog ops Q ({ dst := some d, op := .load ty (.tmp i), type := ty, pos := ps, after := af, guard := g } :: rest) a w :=
  wpList_step fun K hK => by
    obtain ⟨dsc, h1, h2⟩ := hf.row
    rw [if_pos hw]
    unfold Oper.wp execOp
    simp only [hx, Instr.loadAt, Instr.sureAddr, Sem.run_bind, Sem.run_pure, Result.andThen_ok, run_load w p ty us _ hc h1 h2 (by rw [hl]; exact hf.size)]
    exact hK _ _ h
theorem exin_h {w : World} {lo : Nat} {t : Ex} {us : List Value} (h : t.dat.In w False (Fr lo w) us) : t.dat.H w us := Dat.In.wide h fun _ hb => hb.2
theorem tyin_h {w : World} {lo : Nat} {t : Ty} {us : List Value} (h : t.dat.In w False (Fr lo w) us) : ∃ B m c, us = [.string t.name, .slice B m c, .int .i64 t.off] ∧ t.name.size ≤ 9223372036854775807 ∧ Here w B m t.args := by
  obtain ⟨B, m, c, h1, h2, h3⟩ := ty_open h
  exact ⟨B, m, c, h1, h2, LiesN.wide h3 fun _ hb => hb.2⟩
theorem few_wt {t : Ty} (h : t.few = true) : t.wt ≤ 200 := by
  unfold Ty.few at h
  have := Ty.cnt_wt t 0 (by omega) (by have := of_decide_eq_true h; omega)
  have := of_decide_eq_true h
  omega
theorem xfew_wt3 {e : Ex} (h : e.few = true) : e.wt ≤ 250 := by
  unfold Ex.few at h
  exact Ex.wt_of_cnt (of_decide_eq_true h)
theorem ba_size (l : List UInt8) : (⟨l.toArray⟩ : ByteArray).size = l.length := by rw [Lib.size_eq]
theorem small_names {t : Ty} (h : t.Small) : ∀ s ∈ t.list, s.size ≤ 9223372036854775807 := fun s hs => by have := h.names s hs; omega
/-- What the law holds on to: the type and the expression, each in a box. -/
structure RB (w W : World) (t : Ty) (A : Option Addr) (m c : Nat) (e : Ex) (us : List Value) : Prop where
  bel : Below w.heap.size w W
  bt : Boxd W w.heap.size [.string t.name, .slice A m c, .int .i64 t.off]
  ht : Here W A m t.args
  be : Boxd W (w.heap.size + 1) us
  he : e.dat.H W us
  r : ResVar W
  x : ErrVar W
theorem RB.later {w W W' : World} {t : Ty} {A : Option Addr} {m c : Nat} {e : Ex} {us : List Value} (h : RB w W t A m c e us) (hb : Below W.heap.size W W') : RB w W' t A m c e us :=
  ⟨h.bel.trans (hb.mono h.bel.size), h.bt.later hb, h.ht.later hb, h.be.later hb, h.he.later hb, h.r.later hb, h.x.later hb⟩
theorem RB.new (w : World) (t : Ty) (A : Option Addr) (m c : Nat) (e : Ex) (us : List Value) (ht : Here w A m t.args) (he : e.dat.H w us) (hR : ResVar w) (hE : ErrVar w) :
    ∃ W, (w.alloc (.cells #[.string t.name, .slice A m c, .int .i64 t.off] 24)).alloc (.cells us.toArray 27) = W ∧ RB w W t A m c e us := by
  have hb1 : Below w.heap.size w (w.alloc (.cells #[.string t.name, .slice A m c, .int .i64 t.off] 24)) := (Below.refl _ _).alloc (Nat.le_refl _) _
  have hz : (w.alloc (.cells #[.string t.name, .slice A m c, .int .i64 t.off] 24)).heap.size = w.heap.size + 1 := by simp
  have hx := Boxd.new w #[.string t.name, .slice A m c, .int .i64 t.off] 24
  obtain ⟨W1, h1⟩ : ∃ W, w.alloc (.cells #[.string t.name, .slice A m c, .int .i64 t.off] 24) = W := ⟨_, rfl⟩
  rw [h1] at hb1 hx hz ⊢
  have hb2 : Below W1.heap.size W1 (W1.alloc (.cells us.toArray 27)) := (Below.refl _ _).alloc (Nat.le_refl _) _
  have hall := hb1.trans (hb2.mono hb1.size)
  have hy := Boxd.new W1 us.toArray 27
  rw [hz] at hy
  exact ⟨_, rfl, hall, hx.later hb2, ht.later hall, hy, he.later hall, hR.later hall, hE.later hall⟩
set_option maxRecDepth 100000 in
set_option maxHeartbeats 8000000 in
theorem readBack_law (t : Ty) (A : Option Addr) (m c : Nat) (e : Ex) (us : List Value) (w : World) (hn : t.name.size ≤ 9223372036854775807) (ht : Here w A m t.args) (he : e.dat.H w us) (hR : ResVar w) (hE : ErrVar w) :
    Calls Tryd.prog 3 #[.agg #[.string t.name, .slice A m c, .int .i64 t.off], .agg us.toArray] w (BoolPost true w) := by
  obtain ⟨W, hW, h0⟩ := RB.new w t A m c e us ht he hR hE
  obtain ⟨a1, a2, a3, a4, a5, a6, a7, a8, a9, rfl, -⟩ := ex_open he
  have HW := Lib.hid hW
  have H0 := Lib.hid h0
  have HN := Lib.hid hn
  have CA := Lib.hid (awake_any W h0.r h0.x)
  clear hn ht he hR hE hW h0
  go_enter Tryd.func3, Tryd.ntmps3
  go_upto_region 1 with fail
  rw [HW.out]
  go_cut [30] from 9 to 30 (fun s wx => s = .bool (!(t.few && e.few && t.right && e.right)) ∧ Below W.heap.size W wx)
  case first =>
    go_wp2_with fail
    refine CA.out.mono ?_
    rintro e1 w1 ⟨rfl, hb⟩
    have H1 := Lib.hid (H0.out.later hb)
    have B1 := Lib.hid hb
    clear hb CA
    obtain ⟨x0, x1, x2⟩ := (show _ ∧ _ ∧ _ from ⟨H1.out.bt 0 _ rfl, H1.out.bt 1 _ rfl, H1.out.bt 2 _ rfl⟩)
    have C2 := Lib.hid (few_any t A m c w1 HN.out H1.out.ht)
    go_wp2_with fail
    refine C2.out.mono ?_
    rintro e1 w2 ⟨rfl, hb⟩
    have H2 := Lib.hid (H1.out.later hb)
    have B2 := Lib.hid (B1.out.trans (hb.mono B1.out.size))
    clear hb C2 x0 x1 x2
    cases h1 : t.few
    · go_wp2_with fail
      go_meet
      exact ⟨by rw [h1]; rfl, B2.out⟩
    have F1 := Lib.hid h1
    clear h1
    have C3 := Lib.hid (xfew_any e _ w2 H2.out.he)
    go_wp2_with (refine loadOpI flatEx 3 17 rfl rfl (boxd_at0 H2.out.be) rfl ?_)
    refine C3.out.mono ?_
    rintro e1 w3 ⟨rfl, hb⟩
    have H3 := Lib.hid (H2.out.later hb)
    have B3 := Lib.hid (B2.out.trans (hb.mono B2.out.size))
    clear hb C3
    cases h2 : e.few
    · go_wp2_with fail
      go_meet
      exact ⟨by rw [F1.out, h2]; rfl, B3.out⟩
    have F2 := Lib.hid h2
    clear h2
    have HS := Lib.hid (Ty.small_of_wt (show t.wt ≤ 1000 by have := few_wt F1.out; omega))
    obtain ⟨x0, x1, x2⟩ := (show _ ∧ _ ∧ _ from ⟨H3.out.bt 0 _ rfl, H3.out.bt 1 _ rfl, H3.out.bt 2 _ rfl⟩)
    have C4 := Lib.hid (ref_right_any t A m c w3 (by have := HS.out.list; omega) (small_names HS.out) H3.out.ht)
    go_wp2_with fail
    refine C4.out.mono ?_
    rintro e1 w4 ⟨rfl, hb⟩
    have H4 := Lib.hid (H3.out.later hb)
    have B4 := Lib.hid (B3.out.trans (hb.mono B3.out.size))
    clear hb C4 x0 x1 x2
    cases h3 : t.right
    · go_wp2_with fail
      go_meet
      exact ⟨by rw [F1.out, F2.out, h3]; rfl, B4.out⟩
    have F3 := Lib.hid h3
    clear h3
    have C5 := Lib.hid (xref_right_any e _ w4 (by have := xfew_wt3 F2.out; omega) H4.out.he)
    go_wp2_with (refine loadOpI flatEx 3 27 rfl rfl (boxd_at0 H4.out.be) rfl ?_)
    refine C5.out.mono ?_
    rintro e1 w5 ⟨rfl, hb⟩
    have B5 := Lib.hid (B4.out.trans (hb.mono B4.out.size))
    clear hb C5
    go_wp2_with fail
    go_meet
    exact ⟨by rw [F1.out, F2.out, F3.out]; cases e.right <;> rfl, B5.out⟩
  case rest =>
    obtain ⟨rfl, hb⟩ := hcut
    have H1 := Lib.hid (H0.out.later hb)
    clear hb CA H0
    cases hall : (t.few && e.few && t.right && e.right)
    · have CA := Lib.hid (awake_any wc H1.out.r H1.out.x)
      clear hall
      go_wp2_with fail
      refine CA.out.mono ?_
      rintro e1 w1 ⟨rfl, hb⟩
      have HB := Lib.hid (H1.out.bel.trans (hb.mono H1.out.bel.size))
      clear hb CA
      go_wp2_with fail
      go_ret
      exact ⟨rfl, HB.out⟩
    simp only [Bool.and_eq_true] at hall
    obtain ⟨⟨⟨f1, f2⟩, r1⟩, r2⟩ := hall
    have WT := few_wt f1
    have WE := xfew_wt3 f2
    have LT := (tytext_len t).1
    have LE := (extext_len e r2).1
    have R1 := Lib.hid r1
    have R2 := Lib.hid r2
    clear f1 f2 r1 r2
    obtain ⟨u, hu, cu⟩ := tyO_back (s := ⟨t.text.toArray⟩) R1.out rfl
    obtain ⟨v, hv, sv⟩ := exO_back (s := ⟨e.text.toArray⟩) R2.out rfl
    have HU := Lib.hid hu
    have HV := Lib.hid hv
    have CU := Lib.hid cu
    have SV := Lib.hid sv
    clear hu hv cu sv
    obtain ⟨x0, x1, x2⟩ := (show _ ∧ _ ∧ _ from ⟨H1.out.bt 0 _ rfl, H1.out.bt 1 _ rfl, H1.out.bt 2 _ rfl⟩)
    have C2 := Lib.hid (ref_text_any t A m c wc (by omega) H1.out.ht)
    go_wp2_with fail
    refine C2.out.mono ?_
    rintro e1 w2 ⟨rfl, hb⟩
    have H2 := Lib.hid (H1.out.later hb)
    clear hb C2 x0 x1 x2
    have C3 := Lib.hid (readTy_any ⟨t.text.toArray⟩ w2 (by rw [ba_size]; omega) H2.out.r)
    go_wp2_with fail
    refine C3.out.mono ?_
    rintro e1 w3 ⟨vs, rfl, hin, hb⟩
    rw [HU.out] at hin ⊢
    rw [show (Out.good u).errV = .nilIface from rfl]
    have hin2 : u.dat.In w3 False (Fr w2.heap.size w3) vs := hin
    obtain ⟨B, l, d, rfl, hz, hh⟩ := tyin_h hin2
    have H3 := Lib.hid (H2.out.later hb)
    obtain ⟨W4, hW4⟩ : ∃ X, w3.alloc (.cells #[.string u.name, .slice B l d, .int .i64 u.off] 24) = X := ⟨_, rfl⟩
    have hb4 : Below w3.heap.size w3 W4 := hW4 ▸ (Below.refl _ _).alloc (Nat.le_refl _) _
    have H4 := Lib.hid (H3.out.later hb4)
    have BX := Lib.hid (show Boxd W4 w3.heap.size [.string u.name, .slice B l d, .int .i64 u.off] from hW4 ▸ Boxd.new w3 #[.string u.name, .slice B l d, .int .i64 u.off] 24)
    have HH := Lib.hid (hh.later hb4)
    have HZ := Lib.hid hz
    have HW4 := Lib.hid hW4
    clear hin hin2 hb hh hz hW4 hb4 C3
    go_upto_region 4 with fail
    rw [HW4.out]
    obtain ⟨gt, hgt⟩ : ∃ g, w3.heap.size = g := ⟨_, rfl⟩
    rw [hgt] at BX ⊢
    clear hgt
    have C5 := Lib.hid (xref_text_any e _ W4 R2.out (by omega) H4.out.he)
    go_wp2_with (refine loadOp flatEx 3 39 rfl (boxd_at0 H4.out.be) rfl ?_)
    refine C5.out.mono ?_
    rintro e1 w5 ⟨rfl, hb⟩
    have H5 := Lib.hid (H4.out.later hb)
    have BX5 := Lib.hid (BX.out.later hb)
    have HH5 := Lib.hid (HH.out.later hb)
    clear hb C5 BX HH
    have C6 := Lib.hid (readEx_any ⟨e.text.toArray⟩ w5 (by rw [ba_size]; omega) H5.out.r)
    go_wp2_with fail
    refine C6.out.mono ?_
    rintro e1 w6 ⟨vs, rfl, hin, hb⟩
    rw [HV.out] at hin ⊢
    rw [show (Out.good v).errV = .nilIface from rfl]
    have hin2 : v.dat.In w6 False (Fr w5.heap.size w6) vs := hin
    have hvh := exin_h hin2
    obtain ⟨b1, b2, b3, b4, b5, b6, b7, b8, b9, rfl, -⟩ := ex_open hin2
    have H6 := Lib.hid (H5.out.later hb)
    have BX6 := BX5.out.later hb
    have HH6 := HH5.out.later hb
    obtain ⟨W7, hW7⟩ : ∃ X, w6.alloc (.cells #[.int .i64 v.kind, .string v.name, .string v.ty.name, .slice b1 b2 b3, .int .i64 v.ty.off, .slice b4 b5 b6, .slice b7 b8 b9, .int .i64 v.off] 27) = X := ⟨_, rfl⟩
    have hb7 : Below w6.heap.size w6 W7 := hW7 ▸ (Below.refl _ _).alloc (Nat.le_refl _) _
    have H7 := Lib.hid (H6.out.later hb7)
    have BY7 := Lib.hid (show Boxd W7 w6.heap.size [.int .i64 v.kind, .string v.name, .string v.ty.name, .slice b1 b2 b3, .int .i64 v.ty.off, .slice b4 b5 b6, .slice b7 b8 b9, .int .i64 v.off] from hW7 ▸ Boxd.new w6 #[.int .i64 v.kind, .string v.name, .string v.ty.name, .slice b1 b2 b3, .int .i64 v.ty.off, .slice b4 b5 b6, .slice b7 b8 b9, .int .i64 v.off] 27)
    have BX7 := Lib.hid (BX6.later hb7)
    have HH7 := Lib.hid (HH6.later hb7)
    have HV7 := Lib.hid (hvh.later hb7)
    have HW7 := Lib.hid hW7
    clear hin hin2 hb hvh BX6 HH6 hW7 hb7 C6 BX5 HH5
    go_upto_region 5 with fail
    rw [HW7.out]
    obtain ⟨x0, x1, x2⟩ := (show _ ∧ _ ∧ _ from ⟨H7.out.bt 0 _ rfl, H7.out.bt 1 _ rfl, H7.out.bt 2 _ rfl⟩)
    obtain ⟨y0, y1, y2⟩ := (show _ ∧ _ ∧ _ from ⟨BX7.out 0 _ rfl, BX7.out 1 _ rfl, BX7.out 2 _ rfl⟩)
    have C8 := Lib.hid (show Calls Tryd.prog 14 #[.agg #[.string u.name, .slice B l d, .int .i64 u.off], .agg #[.string t.name, .slice A m c, .int .i64 t.off]] W7 (EqvPost W7 true) from by
      have := tsame_any u t B A l m d c W7 HZ.out HN.out HH7.out H7.out.ht
      rwa [CU.out] at this)
    go_wp2_with fail
    refine C8.out.mono ?_
    rintro e1 w8 ⟨rfl, hb⟩
    have H8 := Lib.hid (H7.out.later hb)
    have BY8 := Lib.hid (BY7.out.later hb)
    have C9 := Lib.hid (show Calls Tryd.prog 15 #[.agg #[.int .i64 v.kind, .string v.name, .string v.ty.name, .slice b1 b2 b3, .int .i64 v.ty.off, .slice b4 b5 b6, .slice b7 b8 b9, .int .i64 v.off], .agg #[.int .i64 e.kind, .string e.name, .string e.ty.name, .slice a1 a2 a3, .int .i64 e.ty.off, .slice a4 a5 a6, .slice a7 a8 a9, .int .i64 e.off]] w8 (EqvPost w8 true) from by
      have := xref_same_any v e _ _ w8 (HV7.out.later hb) H8.out.he
      rwa [SV.out] at this)
    clear hb C8 x0 x1 x2 y0 y1 y2
    go_wp2_with (first
      | (refine loadOpI flatEx 7 56 rfl rfl (boxd_at0 BY8.out) rfl ?_)
      | (refine loadOpI flatEx 3 57 rfl rfl (boxd_at0 H8.out.be) rfl ?_))
    refine C9.out.mono ?_
    rintro e1 w9 ⟨rfl, hb⟩
    have HB := Lib.hid (H8.out.bel.trans (hb.mono H8.out.bel.size))
    clear hb C9
    go_wp2_with fail
    go_ret
    exact ⟨rfl, HB.out⟩
end Go.Proofs.YtbeejmlmplgaeaaDoor.Rd
