/- The law TableNil: true, at every input. The condition: the table of powers. -/
import Derived.Test.YtjhlehdjdaphcaaDoorQNDrF
import Derived.Test.YtjhlehdjdaphcaaDoorQNTbO
namespace Go.Proofs.YtjhlehdjdaphcaaDoor
open Go.RowKit

theorem few_wtT {t : Ty} (h : t.few = true) : t.wt ≤ 200 := by
  unfold Ty.few at h
  have := Ty.cnt_wt t 0 (by omega) (by have := of_decide_eq_true h; omega)
  have := of_decide_eq_true h
  omega
theorem noInst (x : Ty) : instT [] x 1 = false ∧ instT [] x 2 = false := ⟨rfl, rfl⟩
theorem pgNN : Pg.sameX false ⟨[], Ex.none?⟩ ⟨[], Ex.none?⟩ = true := by
  first
    | decide
    | simp [Pg.sameX, sameBy, Ex.none?, Ex.same, Ex.sameL, Ex.sameT, Ty.cmp, Ty.cmpL]
set_option maxRecDepth 100000 in
set_option maxHeartbeats 4000000 in
theorem rsameT_any (a b : Pg) (us vs : List Value) (w : World) (h1 : a.dat.H w us) (h2 : b.dat.H w vs) : Calls Tryd.prog 29 #[.agg us.toArray, .agg vs.toArray] w (EqvPost w (Pg.sameX false a b)) := by
  have h := TwoD.new h1 h2 30
  obtain ⟨Du, nu, cu, A3u, m3u, a3u, B3u, l3u, b3u, C3u, n3u, c3u, rfl, -, -⟩ := pg_full h1
  obtain ⟨Dv, nv, cv, A3v, m3v, a3v, B3v, l3v, b3v, C3v, n3v, c3v, rfl, -, -⟩ := pg_full h2
  obtain ⟨W, hW⟩ : ∃ X, ((w.alloc (.cells #[.slice Du nu cu, .int .i64 a.main.kind, .string a.main.name, .string a.main.ty.name, .slice A3u m3u a3u, .int .i64 a.main.ty.off, .slice B3u l3u b3u, .slice C3u n3u c3u, .int .i64 a.main.off] 30)).alloc (.cells #[.slice Dv nv cv, .int .i64 b.main.kind, .string b.main.name, .string b.main.ty.name, .slice A3v m3v a3v, .int .i64 b.main.ty.off, .slice B3v l3v b3v, .slice C3v n3v c3v, .int .i64 b.main.off] 30)) = X := ⟨_, rfl⟩
  have H0 : TwoD w W a.dat b.dat [.slice Du nu cu, .int .i64 a.main.kind, .string a.main.name, .string a.main.ty.name, .slice A3u m3u a3u, .int .i64 a.main.ty.off, .slice B3u l3u b3u, .slice C3u n3u c3u, .int .i64 a.main.off] [.slice Dv nv cv, .int .i64 b.main.kind, .string b.main.name, .string b.main.ty.name, .slice A3v m3v a3v, .int .i64 b.main.ty.off, .slice B3v l3v b3v, .slice C3v n3v c3v, .int .i64 b.main.off] := hW ▸ h
  have HH := Lib.hid H0
  have HW := Lib.hid hW
  have C := Lib.hid (rprog_any a b _ _ false W H0.da H0.db)
  clear h h1 h2 H0 hW
  go_enter Tryd.func29, Tryd.ntmps29
  go_upto_region 1 with fail
  rw [HW.out]
  go_wp2_with (first
    | (refine loadOp flatPg 2 5 rfl HH.out.one.at0 rfl ?_)
    | (refine loadOp flatPg 3 6 rfl HH.out.two.at0 rfl ?_))
  refine C.out.mono ?_
  rintro e w1 ⟨rfl, hb⟩
  have HB := Lib.hid (HH.out.bel.trans (hb.mono HH.out.bel.size))
  clear hb C
  go_wp2_with fail
  go_ret
  exact ⟨rfl, HB.out⟩
theorem loadOpQ {ty : TypeId} {z : Nat} (hf : Flat ty z) {ops : Array Oper} {rest : List Oper} {a : Act} {w : World} {Q : Exit → Act → World → Prop} {ps : String} {af : Array Edge} {g : Option (Nat × Bool)} (i d : Nat) {p : Addr} {us : List Value}
    (hw : Region.wanted { dst := some d, op := .load ty (.tmp i), type := ty, pos := ps, after := af, guard := g } (yielded ops a.tmps) = true) (hx : a.eval (.tmp i) = .pointer (some p)) (hc : CellsAt w p us) (hl : us.length = z)
    (h : wpList Tryd.prog ops Q rest (a.put (some d) (.agg us.toArray)) w) :
    wpList Tryd.prog ops Q ({ dst := some d, op := .load ty (.tmp i), type := ty, pos := ps, after := af, guard := g } :: rest) a w :=
  wpList_step fun K hK => by
    obtain ⟨dsc, h1, h2⟩ := hf.row
    rw [if_pos hw]
    unfold Oper.wp execOp
    simp only [hx, Instr.loadAt, Instr.sureAddr, Sem.run_bind, Sem.run_pure, Result.andThen_ok, run_loadVar_at w p ty us _ hc h1 h2 (by rw [hl]; exact hf.size)]
    exact hK _ _ h
set_option maxRecDepth 100000 in
set_option maxHeartbeats 8000000 in
theorem tableNil_law (x : Ty) (A : Option Addr) (m c : Nat) (s : ByteArray) (w : World) (hxn : x.name.size ≤ 9223372036854775807) (hxa : Here w A m x.args) (hs : s.size ≤ 9223372036854775807) (hE : PowVar w) :
    Calls Tryd.prog 6 #[.agg #[.string x.name, .slice A m c, .int .i64 x.off], .string s] w (EqvPost w true) := by
  obtain ⟨W0, hW0⟩ : ∃ W0, w.alloc (.cells #[.string x.name, .slice A m c, .int .i64 x.off] 25) = W0 := ⟨_, rfl⟩
  have hb0 : Below w.heap.size w W0 := hW0 ▸ (Below.refl _ _).alloc (Nat.le_refl _) _
  have HBX0 := Lib.hid (show Boxd W0 w.heap.size [.string x.name, .slice A m c, .int .i64 x.off] from hW0 ▸ Boxd.new w #[.string x.name, .slice A m c, .int .i64 x.off] 25)
  have HXD0 := Lib.hid (show x.dat.H W0 [.string x.name, .slice A m c, .int .i64 x.off] from Dat.H.later (ty_shut hxn hxa) hb0)
  have HXA := Lib.hid (Here.later hxa hb0)
  have HXN := Lib.hid hxn
  have HS := Lib.hid hs
  have HPW := Lib.hid (hE.later hb0)
  have HB0 := Lib.hid hb0
  have HW0 := Lib.hid hW0
  have hsi : (s.size : Int) ≤ 9223372036854775807 := by omega
  clear hW0 hb0 hxn hxa hs hE
  go_enter Tryd.func6, Tryd.ntmps6
  go_upto_region 1 with fail
  rw [HW0.out]
  clear HW0
  go_wp2_with fail
  refine (tawake_any _).mono ?_
  rintro e w1 ⟨rfl, hb1⟩
  have HBX1 := Lib.hid (HBX0.out.later hb1)
  have HXD1 := Lib.hid (Dat.H.later HXD0.out hb1)
  have HB1 := Lib.hid (HB0.out.trans (hb1.mono HB0.out.size))
  have HXA1 := Lib.hid (Here.later HXA.out hb1)
  have HPW1 := Lib.hid (HPW.out.later hb1)
  clear hb1
  go_wp2_with (refine loadOpQ flatTy3 2 15 rfl rfl HBX1.out.at0 rfl ?_)
  refine (few_any x A m c w1 HXN.out HXA1.out).mono ?_
  rintro e w2 ⟨rfl, hb2⟩
  have HBX2 := Lib.hid (HBX1.out.later hb2)
  have HXD2 := Lib.hid (Dat.H.later HXD1.out hb2)
  have HB2 := Lib.hid (HB1.out.trans (hb2.mono HB1.out.size))
  have HPW2 := Lib.hid (HPW1.out.later hb2)
  clear hb2
  cases hf : x.few
  · clear hf
    go_upto_region 2 with fail
    go_wp2_with fail
    refine (tawake_any _).mono ?_
    rintro e w9 ⟨rfl, hb9⟩
    have HB9 := Lib.hid (HB2.out.trans (hb9.mono HB2.out.size))
    clear hb9
    go_wp2_with fail
    go_ret
    exact ⟨rfl, HB9.out⟩
  have HXW := Lib.hid (show x.wt ≤ 1000 from Nat.le_trans (few_wtT hf) (by omega))
  clear hf
  by_cases hl : s.size ≤ 300
  rotate_left
  · have y0 : (300 : Int) < s.size := by omega
    go_upto_region 2 with fail
    go_wp2_with fail
    refine (tawake_any _).mono ?_
    rintro e w9 ⟨rfl, hb9⟩
    have HB9 := Lib.hid (HB2.out.trans (hb9.mono HB2.out.size))
    clear hb9
    go_wp2_with fail
    go_ret
    exact ⟨rfl, HB9.out⟩
  have y0 : (s.size : Int) ≤ 300 := by omega
  clear hl
  go_upto_region 4 with fail
  go_wp2_with (refine loadOpQ flatTy3 2 27 rfl rfl HBX2.out.at0 rfl ?_)
  refine (tfields_any 0 (.pointer none) ⟨[], Ex.none?⟩ x _ w2 (fun _ h => absurd h List.not_mem_nil) HXW.out (Nat.zero_le _) HXD2.out (.inl ⟨rfl, rfl⟩)).mono ?_
  rintro e w3 ⟨v, rfl, _, _, hb3⟩
  rw [(noInst x).1]
  have HBX3 := Lib.hid (HBX2.out.later hb3)
  have HXD3 := Lib.hid (Dat.H.later HXD2.out hb3)
  have HB3 := Lib.hid (HB2.out.trans (hb3.mono HB2.out.size))
  have HPW3 := Lib.hid (HPW2.out.later hb3)
  clear hb3
  go_wp2_with (refine loadOpQ flatTy3 2 33 rfl rfl HBX3.out.at0 rfl ?_)
  refine (tspecs_no 0 (.pointer none) ⟨[], Ex.none?⟩ x _ w3 (Nat.zero_le _) HXD3.out (.inl ⟨rfl, rfl⟩) (noInst x).2).mono ?_
  rintro e w4 ⟨rfl, hb4⟩
  have HBX4 := Lib.hid (HBX3.out.later hb4)
  have HXD4 := Lib.hid (Dat.H.later HXD3.out hb4)
  have HB4 := Lib.hid (HB3.out.trans (hb4.mono HB3.out.size))
  have HPW4 := Lib.hid (HPW3.out.later hb4)
  clear hb4
  go_wp2_with (refine loadOpQ flatTy3 2 39 rfl rfl HBX4.out.at0 rfl ?_)
  refine (tmethod_any 0 (.pointer none) ⟨[], Ex.none?⟩ x _ s w4 (fun _ h => absurd h List.not_mem_nil) (Nat.zero_le _) HS.out HXD4.out (.inl ⟨rfl, rfl⟩)).mono ?_
  rintro e w5 ⟨us, rfl, hd, hb5⟩
  rw [mt_inst (noInst x).1]
  have HLU := Lib.hid (dc_len hd)
  have HOU := Lib.hid (dc_cells hd)
  obtain ⟨W6, hP⟩ := putZ z23 52 w5 (us := us) (dc_len hd)
  have HPP := Lib.hid hP
  have hb6 := hb5.trans (hP.bel.mono hb5.size)
  have HBX6 := Lib.hid (HBX4.out.later hb6)
  have HXD6 := Lib.hid (Dat.H.later HXD4.out hb6)
  have HB6 := Lib.hid (HB4.out.trans (hb6.mono HB4.out.size))
  have HPW6 := Lib.hid (HPW4.out.later hb6)
  clear hb5 hb6 hP hd
  go_upto_region 7 with (refine storeOp flatDc 10 42 (b := w5.heap.size) (o := 0) (us := us) rfl rfl HPP.out.there HOU.out HLU.out ?_; rw [HPP.out.eq])
  clear HPP
  have C7 := Lib.hid (show Calls Tryd.prog 14 #[.pointer none, .string s] W6 fun e w' => e = .returned (.int .i64 0) ∧ Below W6.heap.size W6 w' from tkind_any 0 _ ⟨[], Ex.none?⟩ s W6 HS.out (.inl ⟨rfl, rfl⟩))
  go_wp2_with fail
  refine C7.out.mono ?_
  rintro e w7 ⟨rfl, hb7⟩
  have HBX7 := Lib.hid (HBX6.out.later hb7)
  have HXD7 := Lib.hid (Dat.H.later HXD6.out hb7)
  have HB7 := Lib.hid (HB6.out.trans (hb7.mono HB6.out.size))
  have HPW7 := Lib.hid (HPW6.out.later hb7)
  clear hb7 C7
  go_wp2_with fail
  refine (tformals_any 0 (.pointer none) ⟨[], Ex.none?⟩ s w7 (fun _ h => absurd h List.not_mem_nil) (Nat.zero_le _) HS.out (.inl ⟨rfl, rfl⟩)).mono ?_
  rintro e w8 ⟨QA, qc, rfl, _, hb8⟩
  rw [show (tyD [] s).fs.length = 0 from rfl]
  have HBX8 := Lib.hid (HBX7.out.later hb8)
  have HXD8 := Lib.hid (Dat.H.later HXD7.out hb8)
  have HB8 := Lib.hid (HB7.out.trans (hb8.mono HB7.out.size))
  have HPW8 := Lib.hid (HPW7.out.later hb8)
  clear hb8
  go_wp2_with (refine loadOpQ flatTy3 2 69 rfl rfl HBX8.out.at0 rfl ?_)
  refine (tmethods_any 0 (.pointer none) ⟨[], Ex.none?⟩ x _ w8 (fun _ h => absurd h List.not_mem_nil) (by simp) HXW.out (Nat.zero_le _) HXD8.out (.inl ⟨rfl, rfl⟩) (fun _ _ _ _ h => by cases h) HPW8.out).mono ?_
  rintro e w9 ⟨MA, mc, rfl, _, hb9⟩
  rw [show ((methodsT [] x).map Sg.dat).length = 0 from rfl]
  have HBX9 := Lib.hid (HBX8.out.later hb9)
  have HXD9 := Lib.hid (Dat.H.later HXD8.out hb9)
  have HB9 := Lib.hid (HB8.out.trans (hb9.mono HB8.out.size))
  clear hb9
  go_wp2_with fail
  refine (tprogram_any 0 (.pointer none) ⟨[], Ex.none?⟩ w9 (Nat.le_trans (show (⟨[], Ex.none?⟩ : Pg).wt ≤ 1000 from by have := exZ_wtN; show 0 + Ex.none?.wt ≤ 1000; omega) (by omega)) (Nat.zero_le _) (.inl ⟨rfl, rfl⟩)).mono ?_
  rintro e w10 ⟨vs, rfl, hq, hb10⟩
  have HBX10 := Lib.hid (HBX9.out.later hb10)
  have HXD10 := Lib.hid (Dat.H.later HXD9.out hb10)
  have HB10 := Lib.hid (HB9.out.trans (hb10.mono HB9.out.size))
  have C := Lib.hid (rsameT_any ⟨[], Ex.none?⟩ ⟨[], Ex.none?⟩ vs [.slice none 0 0, .int .i64 0, .string ⟨#[]⟩, .string ⟨#[]⟩, .slice none 0 0, .int .i64 0, .slice none 0 0, .slice none 0 0, .int .i64 0] w10 (hq.wide fun b hb => hb.2) (pgNone_in _ _ _))
  rw [pgNN] at C
  clear hb10 hq
  go_wp2_with fail
  refine C.out.mono ?_
  rintro e w11 ⟨rfl, hb11⟩
  have HB11 := Lib.hid (HB10.out.trans (hb11.mono HB10.out.size))
  clear hb11 C
  go_wp2_with fail
  go_ret
  exact ⟨rfl, HB11.out⟩
end Go.Proofs.YtjhlehdjdaphcaaDoor
