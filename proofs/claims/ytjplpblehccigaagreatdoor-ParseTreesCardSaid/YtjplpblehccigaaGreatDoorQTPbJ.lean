/- The walk of the law ParseTrees: true, at every input; words for the laws that compare with the offsets. The conditions: the table of words, the variable of package errors. -/
import Derived.Test.YtjplpblehccigaaGreatDoorQTDrF
import Derived.Test.YtjplpblehccigaaGreatDoorQTPbH
import Derived.Test.YtjplpblehccigaaGreatDoorQTPbI
namespace Go.Proofs.YtjplpblehccigaaGreatDoor.Rd
open Go.RowKit

theorem eqvL8 : ∀ ts : List Ty, Ty.eqvL ts ts = true
  | [] => by simp only [Ty.eqvL]
  | t :: r => by rw [Ty.eqvL, Ty.eqv_refl, eqvL8 r]; rfl
theorem eqv8 : ∀ e : Ex, e.eqv e = true := by
  refine Ex.ind fun k s t ts xs o ih => ?_
  have hL : ∀ ys : List Ex, (∀ y ∈ ys, y.eqv y = true) → Ex.eqvL ys ys = true := by
    intro ys
    induction ys with
    | nil => intro _; simp only [Ex.eqvL]
    | cons y r ih2 => intro h; rw [Ex.eqvL, h y (by simp), ih2 fun z hz => h z (by simp [hz])]; rfl
  rw [Ex.eqv, Ty.eqv_refl, eqvL8, hL xs ih]
  simp
theorem fo_exact (f : Fo) : Fo.sameX true f f = true := by simp [Fo.sameX, bytesEq, cmp_refl, Ty.eqv_refl]
theorem sg_exact (s : Sg) : Sg.sameX true s s = true := by
  rw [Sg.sameX, sameBy_refl fo_exact, sameBy_refl fo_exact, cmp_refl, Ty.eqv_refl, bytesEq_refl]
  simp
theorem dc_exact (d : Dc) : Dc.sameX true d d = true := by
  rw [Dc.sameX, sameBy_refl fo_exact, sameBy_refl fo_exact, sameBy_refl sg_exact, sameBy_refl bytesEq_refl, sg_exact, Ex.same_refl', eqv8, bytesEq_refl, bytesEq_refl]
  simp
theorem pg_exact (p : Pg) : Pg.sameX true p p = true := by
  rw [Pg.sameX, sameBy_refl dc_exact, Ex.same_refl', eqv8]
  rfl
theorem loadOpG {ty : TypeId} {z : Nat} (hf : Flat ty z) {ops : Array Oper} {rest : List Oper} {a : Act} {w : World} {Q : Exit → Act → World → Prop} {ps : String} {af : Array Edge} {g : Option (Nat × Bool)} (i d : Nat) {p : Addr} {us : List Value}
    (hw : Region.wanted { dst := some d, op := .load ty (.tmp i), type := ty, pos := ps, after := af, guard := g } (yielded ops a.tmps) = true) (hx : a.eval (.tmp i) = .pointer (some p)) (hc : CellsAt w p us) (hl : us.length = z)
    (h : wpList Tryz.prog ops Q rest (a.put (some d) (.agg us.toArray)) w) :
    wpList Tryz.prog ops Q ({ dst := some d, op := .load ty (.tmp i), type := ty, pos := ps, after := af, guard := g } :: rest) a w :=
  wpList_step fun K hK => by
    obtain ⟨dsc, h1, h2⟩ := hf.row
    rw [if_pos hw]
    unfold Oper.wp execOp
    simp only [hx, Instr.loadAt, Instr.sureAddr, Sem.run_bind, Sem.run_pure, Result.andThen_ok, run_load w p ty us _ hc h1 h2 (by rw [hl]; exact hf.size)]
    exact hK _ _ h
theorem here8 {w : World} {lo : Nat} {d : Dat} {us : List Value} (h : d.In w False (Fr lo w) us) : d.H w us := Dat.In.wide h fun _ hb => hb.2
theorem code_ok {α : Type} (f : List Tk → Got α) (s : ByteArray) : (wholeO f s).ok = ((wholeO f s).code == 0) := by
  cases h : wholeO f s with
  | good v => rfl
  | err c a =>
    rcases wholeO_code f s c a h with rfl | rfl <;> rfl
set_option maxRecDepth 100000 in
set_option maxHeartbeats 8000000 in
theorem parseTrees_law (s : ByteArray) (w : World) (_hs : s.size ≤ 9223372036854775807) (hR : ResVar w) (hE : ErrVar w) :
    Calls Tryz.prog 7 #[.string s] w (BoolPost true w) := by
  have HR := Lib.hid hR
  have HE := Lib.hid hE
  have CA := Lib.hid (awake8_any w hR hE)
  clear hR hE
  go_enter Tryz.func7, Tryz.ntmps7
  go_wp2_with fail
  refine CA.out.mono ?_
  rintro e w1 ⟨rfl, hb⟩
  have HR1 := Lib.hid (HR.out.later hb)
  have HE1 := Lib.hid (HE.out.later hb)
  have HB1 := Lib.hid hb
  clear hb CA
  by_cases hlen : 2000 < s.size
  · have y0 : (2000 : Int) < s.size := by omega
    have CA := Lib.hid (awake8_any w1 HR1.out HE1.out)
    clear hlen
    go_wp2_with fail
    refine CA.out.mono ?_
    rintro e w2 ⟨rfl, hb⟩
    have HB2 := Lib.hid (HB1.out.trans (hb.mono HB1.out.size))
    clear hb CA
    go_wp2_with fail
    go_ret
    exact ⟨rfl, HB2.out⟩
  have y0 : (s.size : Int) ≤ 2000 := by omega
  have HL := Lib.hid (show s.size ≤ 2000 by omega)
  clear hlen
  have C2 := Lib.hid (paTree_any s w1 (by have := HL.out; omega) HR1.out)
  go_wp2_with fail
  refine C2.out.mono ?_
  rintro e w2 ⟨us, rfl, hin, hb⟩
  have h9 := pg_ones hin
  have hh := here8 hin
  obtain ⟨W2, hW2, hb2, bx2, th2⟩ := putProgram w2 h9.2
  have hall := hb.trans (hb2.mono hb.size)
  have HR2 := Lib.hid (HR1.out.later hall)
  have HE2 := Lib.hid (HE1.out.later hall)
  have HB2 := Lib.hid (HB1.out.trans (hall.mono HB1.out.size))
  have HX2 := Lib.hid bx2
  have HH2 := Lib.hid (hh.later hb2)
  have HV2 := Lib.hid hW2
  have TH2 := Lib.hid th2
  have HL2 := Lib.hid h9
  have C3 := Lib.hid (rprog8_any s W2 (by have := HL.out; omega))
  clear hin hb hh hb2 hall bx2 hW2 th2 h9 C2 HR1 HE1
  go_upto_region 4 with (refine storeOp flatPg 3 19 (b := w2.heap.size) (o := 0) (us := us) rfl rfl TH2.out HL2.out.1 HL2.out.2 ?_; rw [HV2.out])
  go_wp2_with fail
  refine C3.out.mono ?_
  rintro e w3 ⟨vs, rfl, hin, hb⟩
  have h9 := pg_ones hin
  have hh := here8 hin
  obtain ⟨W3, hW3, hb3, bx3, th3⟩ := putProgram w3 h9.2
  have hall := hb.trans (hb3.mono hb.size)
  have HR3 := Lib.hid (HR2.out.later hall)
  have HE3 := Lib.hid (HE2.out.later hall)
  have HB3 := Lib.hid (HB2.out.trans (hall.mono HB2.out.size))
  have HX3 := Lib.hid bx3
  have HX23 := Lib.hid (HX2.out.later hall)
  have HH3 := Lib.hid (hh.later hb3)
  have HH23 := Lib.hid (HH2.out.later hall)
  have HV3 := Lib.hid hW3
  have TH3 := Lib.hid th3
  have HL3 := Lib.hid h9
  clear hin hb hh hb3 hall bx3 hW3 th3 h9 C3 HX2 HH2 HR2 HE2 HV2 TH2
  have C4 := Lib.hid (rprog_any ((pgO s).val pgNone) ((pgO s).val pgNone) us vs true W3 HH23.out HH3.out)
  rw [pg_exact] at C4
  have HOK := Lib.hid (show (pgO s).ok = ((pgO s).code == 0) from code_ok progF s)
  go_upto_region 5 with (refine storeOp flatPg 5 24 (b := w3.heap.size) (o := 0) (us := vs) rfl rfl TH3.out HL3.out.1 HL3.out.2 ?_; rw [HV3.out])
  have hok := HOK.out
  obtain ⟨k, hk⟩ : ∃ k, (pgO s).code = k := ⟨_, rfl⟩
  obtain ⟨b, hb0⟩ : ∃ b, (pgO s).ok = b := ⟨_, rfl⟩
  rw [hk, hb0] at hok
  rw [hk, hb0]
  clear hk hb0
  subst hok
  go_wp2_with (first
    | (refine loadOpG flatPg 3 32 rfl rfl (boxd_at0 HX23.out) HL2.out.2 ?_)
    | (refine loadOpG flatPg 5 33 rfl rfl (boxd_at0 HX3.out) HL3.out.2 ?_))
  refine C4.out.mono ?_
  rintro e w4 ⟨rfl, hb⟩
  have HB4 := Lib.hid (HB3.out.trans (hb.mono HB3.out.size))
  clear hb C4
  go_wp2_with fail
  go_ret
  exact ⟨rfl, HB4.out⟩
end Go.Proofs.YtjplpblehccigaaGreatDoor.Rd
