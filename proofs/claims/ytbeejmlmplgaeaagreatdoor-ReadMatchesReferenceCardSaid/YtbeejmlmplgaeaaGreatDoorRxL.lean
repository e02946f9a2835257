/- The walk of the law ReadMatchesReference: true, at every input. The conditions: what the reference's Expr gives (RExAt), the table of words, the variable of package errors. -/
import Derived.Test.YtbeejmlmplgaeaaGreatDoorRxD
import Derived.Test.YtbeejmlmplgaeaaGreatDoorRxP
import Derived.Test.YtbeejmlmplgaeaaGreatDoorExE
import Derived.Test.YtbeejmlmplgaeaaGreatDoorExG
import Derived.Test.YtbeejmlmplgaeaaGreatDoorEkG
namespace Go.Proofs.YtbeejmlmplgaeaaGreatDoor.Rd
open Go.RowKit

/-- What is read from a short text is right and small. -/
theorem exO_good {s : ByteArray} (hs : s.size ≤ 2000) {t : Ex} (h : exO s = .good t) : t.right = true ∧ t.wt ≤ 1000 := by
  unfold exO wholeO at h
  cases hl : left s 0 with
  | bad i => rw [hl] at h; cases h
  | ok ts =>
    rw [hl] at h
    simp only at h
    cases hg : exF (2 * (full ts s.size).length + 2) (full ts s.size) with
    | bad q => rw [hg] at h; cases h
    | ok u q =>
      rw [hg] at h
      unfold endO at h
      simp only at h
      split at h
      · injection h with h
        subst h
        obtain ⟨h1, h2⟩ := (exF_good _).1 _ _ _ hg
        have h3 := wd_full hl
        exact ⟨h1, by omega⟩
      · cases h
theorem eqvL_same : ∀ ts : List Ty, Ty.eqvL ts ts = true
  | [] => by simp only [Ty.eqvL]
  | t :: r => by rw [Ty.eqvL, Ty.eqv_refl, eqvL_same r]; rfl
theorem eqv_same : ∀ e : Ex, e.eqv e = true := by
  refine Ex.ind fun k s t ts xs o ih => ?_
  have hL : ∀ ys : List Ex, (∀ y ∈ ys, y.eqv y = true) → Ex.eqvL ys ys = true := by
    intro ys
    induction ys with
    | nil => intro _; simp only [Ex.eqvL]
    | cons y r ih2 => intro h; rw [Ex.eqvL, h y (by simp), ih2 fun z hz => h z (by simp [hz])]; rfl
  rw [Ex.eqv, Ty.eqv_refl, eqvL_same, hL xs ih]
  simp
theorem loadOpH {ty : TypeId} {z : Nat} (hf : Flat ty z) {ops : Array Oper} {rest : List Oper} {a : Act} {w : World} {Q : Exit → Act → World → Prop} {ps : String} {af : Array Edge} {g : Option (Nat × Bool)} (i d : Nat) {p : Addr} {us : List Value}
    (hw : Region.wanted { dst := some d, op := .load ty (.tmp i), type := ty, pos := ps, after := af, guard := g } (yielded ops a.tmps) = true) (hx : a.eval (.tmp i) = .pointer (some p)) (hc : CellsAt w p us) (hl : us.length = z)
    (h : wpList Tryz.prog ops Q rest (a.put (some d) (.agg us.toArray)) w) :
    wpList Tryz.prog ops Q ({ dst := some d, op := .load ty (.tmp i), type := ty, pos := ps, after := af, guard := g } :: rest) a w :=
  wpList_step fun K hK => by
    obtain ⟨dsc, h1, h2⟩ := hf.row
    rw [if_pos hw]
    unfold Oper.wp execOp
    simp only [hx, Instr.loadAt, Instr.sureAddr, Sem.run_bind, Sem.run_pure, Result.andThen_ok, run_load w p ty us _ hc h1 h2 (by rw [hl]; exact hf.size)]
    exact hK _ _ h
theorem exin_here {w : World} {lo : Nat} {t : Ex} {us : List Value} (h : t.dat.In w False (Fr lo w) us) : t.dat.H w us := Dat.In.wide h fun _ hb => hb.2
set_option maxRecDepth 100000 in
set_option maxHeartbeats 4000000 in
theorem readMatches_law (hx : ∀ m, RExAt m) (s : ByteArray) (w : World) (hs : s.size ≤ 9223372036854775807) (hR : ResVar w) (hE : ErrVar w) :
    Calls Tryz.prog 4 #[.string s] w (BoolPost true w) := by
  have HR := Lib.hid hR
  have HE := Lib.hid hE
  have CA := Lib.hid (awake_any w hR hE)
  clear hR hE
  go_enter Tryz.func4, Tryz.ntmps4
  go_wp2_with fail
  refine CA.out.mono ?_
  rintro e w1 ⟨rfl, hb⟩
  have HR1 := Lib.hid (HR.out.later hb)
  have HE1 := Lib.hid (HE.out.later hb)
  have HB1 := Lib.hid hb
  clear hb CA
  by_cases hlen : 2000 < s.size
  · have y0 : (2000 : Int) < s.size := by omega
    have CA := Lib.hid (awake_any w1 HR1.out HE1.out)
    clear hlen
    go_wp2_with fail
    refine CA.out.mono ?_
    rintro e w2 ⟨rfl, hb⟩
    have HB2 := Lib.hid (HB1.out.trans (hb.mono HB1.out.size))
    clear hb CA
    go_wp2_with fail
    go_ret
    exact ⟨rfl, HB2.out⟩
  have y0 : (s.size : Int) ≤ 2000 := by omega
  have HL := Lib.hid (show s.size ≤ 2000 by omega)
  clear hlen hs
  have C2 := Lib.hid (readEx_any s w1 (by have := HL.out; omega) HR1.out)
  go_wp2_with fail
  refine C2.out.mono ?_
  rintro e w2 ⟨us, rfl, hin, hb⟩
  obtain ⟨a1, a2, a3, a4, a5, a6, a7, a8, a9, rfl, -⟩ := ex_open hin
  have hh := exin_here hin
  obtain ⟨W2, hW2⟩ : ∃ W, w2.alloc (.cells #[.int .i64 ((exO s).val exNone).kind, .string ((exO s).val exNone).name, .string ((exO s).val exNone).ty.name, .slice a1 a2 a3, .int .i64 ((exO s).val exNone).ty.off, .slice a4 a5 a6, .slice a7 a8 a9, .int .i64 ((exO s).val exNone).off] 28) = W := ⟨_, rfl⟩
  have hb2 : Below w2.heap.size w2 W2 := hW2 ▸ (Below.refl _ _).alloc (Nat.le_refl _) _
  have hall := hb.trans (hb2.mono hb.size)
  have HR2 := Lib.hid (HR1.out.later hall)
  have HE2 := Lib.hid (HE1.out.later hall)
  have HB2 := Lib.hid (HB1.out.trans (hall.mono HB1.out.size))
  have hx2 : Boxd W2 w2.heap.size [.int .i64 ((exO s).val exNone).kind, .string ((exO s).val exNone).name, .string ((exO s).val exNone).ty.name, .slice a1 a2 a3, .int .i64 ((exO s).val exNone).ty.off, .slice a4 a5 a6, .slice a7 a8 a9, .int .i64 ((exO s).val exNone).off] := hW2 ▸ Boxd.new w2 #[.int .i64 ((exO s).val exNone).kind, .string ((exO s).val exNone).name, .string ((exO s).val exNone).ty.name, .slice a1 a2 a3, .int .i64 ((exO s).val exNone).ty.off, .slice a4 a5 a6, .slice a7 a8 a9, .int .i64 ((exO s).val exNone).off] 28
  have HX2 := Lib.hid hx2
  have HH2 := Lib.hid (hh.later hb2)
  have HW2 := Lib.hid hW2
  have hl2 : w2.heap.size < W2.heap.size := by rw [← hW2]; simp
  have C3 := Lib.hid (rxwhole_any hx s W2 (by have := HL.out; omega))
  clear hin hb hh hb2 hall hx2 hW2 C2
  go_wp2_with fail
  rw [HW2.out]
  refine C3.out.mono ?_
  rintro e w3 ⟨us, rfl, hin, hb⟩
  obtain ⟨b1, b2, b3, b4, b5, b6, b7, b8, b9, rfl, -⟩ := ex_open hin
  have hh := exin_here hin
  obtain ⟨W3, hW3⟩ : ∃ W, w3.alloc (.cells #[.int .i64 ((exO s).val exNone).kind, .string ((exO s).val exNone).name, .string ((exO s).val exNone).ty.name, .slice b1 b2 b3, .int .i64 ((exO s).val exNone).ty.off, .slice b4 b5 b6, .slice b7 b8 b9, .int .i64 ((exO s).val exNone).off] 28) = W := ⟨_, rfl⟩
  have hb3 : Below w3.heap.size w3 W3 := hW3 ▸ (Below.refl _ _).alloc (Nat.le_refl _) _
  have hall := hb.trans (hb3.mono hb.size)
  have HR3 := Lib.hid (HR2.out.later hall)
  have HE3 := Lib.hid (HE2.out.later hall)
  have HB3 := Lib.hid (HB2.out.trans (hall.mono HB2.out.size))
  have hx3 : Boxd W3 w3.heap.size [.int .i64 ((exO s).val exNone).kind, .string ((exO s).val exNone).name, .string ((exO s).val exNone).ty.name, .slice b1 b2 b3, .int .i64 ((exO s).val exNone).ty.off, .slice b4 b5 b6, .slice b7 b8 b9, .int .i64 ((exO s).val exNone).off] := hW3 ▸ Boxd.new w3 #[.int .i64 ((exO s).val exNone).kind, .string ((exO s).val exNone).name, .string ((exO s).val exNone).ty.name, .slice b1 b2 b3, .int .i64 ((exO s).val exNone).ty.off, .slice b4 b5 b6, .slice b7 b8 b9, .int .i64 ((exO s).val exNone).off] 28
  have HX3 := Lib.hid hx3
  have HX23 := Lib.hid (HX2.out.later hall)
  have HH3 := Lib.hid (hh.later hb3)
  have HH23 := Lib.hid (HH2.out.later hall)
  have HW3 := Lib.hid hW3
  have hl3 : w3.heap.size < W3.heap.size := by rw [← hW3]; simp
  have C4 := Lib.hid (xref_equal_any ((exO s).val exNone) ((exO s).val exNone) _ _ W3 HH23.out HH3.out)
  have hgd : ∀ t, exO s = .good t → t.right = true ∧ t.wt ≤ 1000 := fun t h => exO_good HL.out h
  have hcd : ∀ c a, exO s = .err c a → c = 1 ∨ c = 2 := fun c a h => wholeO_code _ s c a h
  clear hin hb hh hb3 hall hx3 hW3 C3 HX2 HH2
  generalize exO s = o at *
  go_upto_region 5 with fail
  rw [HW3.out]
  go_wp2_with (first
    | (refine loadOp flatEx 3 27 rfl (boxd_at0 HX23.out) rfl ?_)
    | (refine loadOp flatEx 5 28 rfl (boxd_at0 HX3.out) rfl ?_))
  refine C4.out.mono ?_
  rintro e w4 ⟨rfl, hb⟩
  rw [eqv_same]
  have HR4 := Lib.hid (HR3.out.later hb)
  have HB4 := Lib.hid (HB3.out.trans (hb.mono HB3.out.size))
  have HX24 := Lib.hid (HX23.out.later hb)
  have HX34 := Lib.hid (HX3.out.later hb)
  have HH24 := Lib.hid (HH23.out.later hb)
  have HH34 := Lib.hid (HH3.out.later hb)
  have C5 := Lib.hid (told_out o w4 hcd (HE3.out.later hb))
  clear hb C4
  go_wp2_with fail
  refine C5.out.mono ?_
  rintro e w5 ⟨rfl, hb⟩
  have HR5 := Lib.hid (HR4.out.later hb)
  have HB5 := Lib.hid (HB4.out.trans (hb.mono HB4.out.size))
  have HX25 := Lib.hid (HX24.out.later hb)
  have HX35 := Lib.hid (HX34.out.later hb)
  have HH25 := Lib.hid (HH24.out.later hb)
  have HH35 := Lib.hid (HH34.out.later hb)
  clear hb C5
  cases o with
  | err k a =>
    simp only [Out.code, Out.at, Out.errV, Out.val] at *
    have e0 : (k != 0) = true := by rcases hcd k a rfl with rfl | rfl <;> rfl
    have e1 : (k == 0) = false := by rcases hcd k a rfl with rfl | rfl <;> rfl
    go_wp2_with fail
    go_ret
    exact ⟨rfl, HB5.out⟩
  | good t =>
    simp only [Out.code, Out.at, Out.errV, Out.val] at *
    have HRT := Lib.hid (hgd t rfl).1
    have HSM := Lib.hid (hgd t rfl).2
    have C6 := Lib.hid (xref_right_any t _ w5 HSM.out HH35.out)
    go_wp2_with (refine loadOpH flatEx 5 41 rfl rfl (boxd_at0 HX35.out) rfl ?_)
    refine C6.out.mono ?_
    rintro e w6 ⟨rfl, hb⟩
    rw [HRT.out]
    have HB6 := Lib.hid (HB5.out.trans (hb.mono HB5.out.size))
    have HX26 := Lib.hid (HX25.out.later hb)
    have C7 := Lib.hid (xright_any t _ w6 (HR5.out.later hb) HSM.out (HH25.out.later hb))
    clear hb C6
    go_wp2_with (refine loadOpH flatEx 3 44 rfl rfl (boxd_at0 HX26.out) rfl ?_)
    refine C7.out.mono ?_
    rintro e w7 ⟨rfl, hb⟩
    rw [HRT.out]
    have HB7 := Lib.hid (HB6.out.trans (hb.mono HB6.out.size))
    clear hb C7
    go_wp2_with fail
    go_ret
    exact ⟨rfl, HB7.out⟩
end Go.Proofs.YtbeejmlmplgaeaaGreatDoor.Rd
