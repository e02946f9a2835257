/- The walks of the reference's rightFormals, rightParams and rightSig. The condition: few parts.
The walk of the reference's RightDecl. The condition: few parts.
The walks of the reference's Right and Program. The condition of Right: few parts. -/
import Derived.Test.YtjhlehdjdaphcaaDoorQNDcM
import Derived.Test.YtjhlehdjdaphcaaDoorQNDrC
namespace Go.Proofs.YtjhlehdjdaphcaaDoor
open Go.RowKit

end Go.Proofs.YtjhlehdjdaphcaaDoor
namespace Go.Proofs.YtjhlehdjdaphcaaDoor
open Go.RowKit

end Go.Proofs.YtjhlehdjdaphcaaDoor
namespace Go.Proofs.YtjhlehdjdaphcaaDoor
open Go.RowKit

/-- A struct loaded whole in a region that draws its order. -/
theorem stillLoad {ty : TypeId} {z : Nat} (hf : Flat ty z) {ops : Array Oper} {rest : List Oper} {a : Act} {w : World} {Q : Act → Prop} {ps : String} {af : Array Edge} (i d : Nat) {p : Addr} {us : List Value} (hx : a.eval (.tmp i) = .pointer (some p)) (hc : CellsAt w p us) (hl : us.length = z)
    (h : wpStill Tryd.prog ops w Q rest (a.put (some d) (.agg us.toArray))) :
    wpStill Tryd.prog ops w Q ({ dst := some d, op := .load ty (.tmp i), type := ty, pos := ps, after := af, guard := none } :: rest) a :=
  wpStill_step fun K hK => by
    obtain ⟨dsc, h1, h2⟩ := hf.row
    split
    rotate_left
    · rename_i hw
      exact absurd rfl hw
    unfold Oper.still execOp
    simp only [hx, Instr.loadAt, Instr.sureAddr, Sem.run_bind, Sem.run_pure, Result.andThen_ok, run_loadVar_at w p ty us _ hc h1 h2 (by rw [hl]; exact hf.size), Oper.stillUpon_value]
    exact hK _ h
set_option maxRecDepth 100000 in
set_option maxHeartbeats 8000000 in
theorem rprog_any (a b : Pg) (us vs : List Value) (ex : Bool) (w : World) (h1 : a.dat.H w us) (h2 : b.dat.H w vs) : Calls Tryd.prog 28 #[.agg us.toArray, .agg vs.toArray, .bool ex] w (EqvPost w (Pg.sameX ex a b)) := by
  have h := TwoD.new h1 h2 30
  obtain ⟨Du, nu, cu, A3u, m3u, a3u, B3u, l3u, b3u, C3u, n3u, c3u, rfl, hd1, hb1⟩ := pg_full h1
  obtain ⟨Dv, nv, cv, A3v, m3v, a3v, B3v, l3v, b3v, C3v, n3v, c3v, rfl, hd2, hb2⟩ := pg_full h2
  have H0 := Lib.hid h
  have HZ0 := Lib.hid (Below.refl (((w.alloc (.cells #[.slice Du nu cu, .int .i64 a.main.kind, .string a.main.name, .string a.main.ty.name, .slice A3u m3u a3u, .int .i64 a.main.ty.off, .slice B3u l3u b3u, .slice C3u n3u c3u, .int .i64 a.main.off] 30)).alloc (.cells #[.slice Dv nv cv, .int .i64 b.main.kind, .string b.main.name, .string b.main.ty.name, .slice A3v m3v a3v, .int .i64 b.main.ty.off, .slice B3v l3v b3v, .slice C3v n3v c3v, .int .i64 b.main.off] 30))).heap.size (((w.alloc (.cells #[.slice Du nu cu, .int .i64 a.main.kind, .string a.main.name, .string a.main.ty.name, .slice A3u m3u a3u, .int .i64 a.main.ty.off, .slice B3u l3u b3u, .slice C3u n3u c3u, .int .i64 a.main.off] 30)).alloc (.cells #[.slice Dv nv cv, .int .i64 b.main.kind, .string b.main.name, .string b.main.ty.name, .slice A3v m3v a3v, .int .i64 b.main.ty.off, .slice B3v l3v b3v, .slice C3v n3v c3v, .int .i64 b.main.off] 30))))
  have HD1 := Lib.hid (RowH.later hd1 h.bel)
  have HD2 := Lib.hid (RowH.later hd2 h.bel)
  have HB1 := Lib.hid (Dat.H.later hb1 h.bel)
  have HB2 := Lib.hid (Dat.H.later hb2 h.bel)
  have hdx := hd1.len
  have hdy := hd2.len
  rw [List.length_map] at hdx hdy
  have i0 : (nu : Int) ≤ 9223372036854775807 := by have := hd1.le; omega
  clear h h1 h2 hd1 hd2 hb1 hb2
  obtain ⟨q0, hq0⟩ : ∃ q : Bool, sameBy (Dc.sameX ex) a.ds b.ds = q := ⟨_, rfl⟩
  obtain ⟨q1, hq1⟩ : ∃ q : Bool, a.main.same b.main = q := ⟨_, rfl⟩
  obtain ⟨q2, hq2⟩ : ∃ q : Bool, a.main.eqv b.main = q := ⟨_, rfl⟩
  have HD := Lib.hid (show Pg.sameX ex a b = (q1 && ((!ex || q2) && q0)) by rw [Pg.sameX, hq0, hq1, hq2]; cases q0 <;> cases q1 <;> cases q2 <;> cases ex <;> rfl)
  have HQ0 := Lib.hid hq0
  have HQ1 := Lib.hid hq1
  have HQ2 := Lib.hid hq2
  clear hq0 hq1 hq2
  have x0 := H0.out.one 0 _ rfl
  have x1 := H0.out.one 1 _ rfl
  have x2 := H0.out.one 2 _ rfl
  have x3 := H0.out.one 3 _ rfl
  have x4 := H0.out.one 4 _ rfl
  have x5 := H0.out.one 5 _ rfl
  have x6 := H0.out.one 6 _ rfl
  have x7 := H0.out.one 7 _ rfl
  have x8 := H0.out.one 8 _ rfl
  have y0 := H0.out.two 0 _ rfl
  have y1 := H0.out.two 1 _ rfl
  have y2 := H0.out.two 2 _ rfl
  have y3 := H0.out.two 3 _ rfl
  have y4 := H0.out.two 4 _ rfl
  have y5 := H0.out.two 5 _ rfl
  have y6 := H0.out.two 6 _ rfl
  have y7 := H0.out.two 7 _ rfl
  have y8 := H0.out.two 8 _ rfl
  by_cases hml : nu = nv
  rotate_left
  · have n0 : ((nu : Int) != (nv : Int)) = true := by simp; omega
    have HC := Lib.hid (HD.out.trans (by rw [← HQ0.out, sameBy_len (by omega)]; cases q1 <;> cases q2 <;> cases ex <;> rfl : _ = false))
    go_enter Tryd.func28, Tryd.ntmps28
    go_wp2_with fail
    go_ret
    exact ⟨ret_bool (by rw [HC.out]), H0.out.bel⟩
  subst hml
  have n0 : ((nu : Int) != (nu : Int)) = false := by simp
  go_enter Tryd.func28, Tryd.ntmps28
  go_wp2_with fail
  refine (xref_same_any a.main b.main _ _ _ (Dat.H.later HB1.out HZ0.out) (Dat.H.later HB2.out HZ0.out)).mono ?_
  rintro e w1 ⟨rfl, hb⟩
  rw [HQ1.out]
  have H1 := Lib.hid (H0.out.later hb)
  have HZ1 := Lib.hid (HZ0.out.trans (hb.mono HZ0.out.size))
  clear hb H0 HZ0 x0 x1 x2 x3 x4 x5 x6 x7 x8 y0 y1 y2 y3 y4 y5 y6 y7 y8
  have x1 := H1.out.one 1 _ rfl
  have x2 := H1.out.one 2 _ rfl
  have x3 := H1.out.one 3 _ rfl
  have x4 := H1.out.one 4 _ rfl
  have x5 := H1.out.one 5 _ rfl
  have x6 := H1.out.one 6 _ rfl
  have x7 := H1.out.one 7 _ rfl
  have x8 := H1.out.one 8 _ rfl
  have y1 := H1.out.two 1 _ rfl
  have y2 := H1.out.two 2 _ rfl
  have y3 := H1.out.two 3 _ rfl
  have y4 := H1.out.two 4 _ rfl
  have y5 := H1.out.two 5 _ rfl
  have y6 := H1.out.two 6 _ rfl
  have y7 := H1.out.two 7 _ rfl
  have y8 := H1.out.two 8 _ rfl
  cases q1
  · skip
    go_wp2_with fail
    go_ret
    exact ⟨ret_bool (by rw [HD.out]; rfl), H1.out.bel⟩
  · skip
    cases ex
    · skip
      clear x1 x2 x3 x4 x5 x6 x7 x8 y1 y2 y3 y4 y5 y6 y7 y8
      go_wp2_with fail
      go_loopw [7] (fun i wr => ∃ k : Nat, k ≤ nu ∧ i = .int .i64 k ∧ sameBy (Dc.sameX false) a.ds b.ds = sameBy (Dc.sameX false) (a.ds.drop k) (b.ds.drop k) ∧ Below w1.heap.size w1 wr) (fun i _ => nu - (intOf i).toNat)
      case atStart => exact ⟨0, by omega, rfl, rfl, Below.refl _ _⟩
      case round =>
        obtain ⟨k, hk, rfl, hc, hbel⟩ := hrel
        have HBL := Lib.hid hbel
        have HQ := Lib.hid hc
        have H8 := Lib.hid (H1.out.later hbel)
        have HZ8 := Lib.hid (HZ1.out.trans (hbel.mono HZ1.out.size))
        clear hc hbel
        have z0 : (0 : Int) ≤ k := by omega
        have x0 := H8.out.one 0 _ rfl
        have y0 := H8.out.two 0 _ rfl
        by_cases hlt1 : k < nu
        · have z1 : (k : Int) < nu := by omega
          obtain ⟨pu, u, ps, rfl, hx, _, _, hu, hcs⟩ := dat_at (RowH.later HD1.out HZ8.out) hlt1
          obtain ⟨pv, v, qs, rfl, hy2, _, _, hv, hds⟩ := dat_at (RowH.later HD2.out HZ8.out) hlt1
          have C := Lib.hid (fun (V : World) (hV : Below wr.heap.size wr V) => (rdecl_any u v ps qs false V (Dat.H.later hu hV) (Dat.H.later hv hV)).mono fun e w' (h : _ ∧ _) => (⟨h.1, hV.trans (h.2.mono hV.size)⟩ : _ ∧ Below wr.heap.size wr w'))
          have HS := Lib.hid (HQ.out.trans (sameBy_on hx hy2))
          have HLU := Lib.hid (dc_len hu)
          have HLV := Lib.hid (dc_len hv)
          have HF := Lib.hid hcs
          have HG := Lib.hid hds
          clear hx hy2 hu hv hcs hds HQ
          generalize Dc.sameX false u v = q at *
          go_wp2_with fail
          refine wp_region_still_tail 11 (by kernel_rfl) (by kernel_rfl) ?_
          simp only [List.take_succ_cons, List.take_zero, List.drop_succ_cons, List.drop_zero]
          iterate 4 still_step
          refine stillLoad flatDc 44 45 rfl HF.out HLU.out ?_
          iterate 4 still_step
          refine stillLoad flatDc 49 50 rfl HG.out HLV.out ?_
          iterate 1 still_step
          refine wpStill_nil ?_
          change wpList _ _ _ _ _ wr.drew
          go_wp2_with fail
          refine (C.out _ (Below.refl _ _).drew).mono ?_
          rintro e w9 ⟨rfl, hb1⟩
          have HB1_ := Lib.hid (HBL.out.trans (hb1.mono HBL.out.size))
          have H9 := Lib.hid (H8.out.later hb1)
          clear hb1 C x0 y0
          cases q
          · have HC := Lib.hid (HD.out.trans (by rw [← HQ0.out, HS.out]; rfl : _ = false))
            go_wp2_with fail
            go_ret
            exact ⟨ret_bool (by rw [HC.out]), H9.out.bel⟩
          · go_wp2_with fail
            go_roundw
            case rel => exact ⟨k + 1, by omega, by go_num, HS.out, HB1_.out⟩
            case measure => simp [intOf]; omega
        · have z1 : (nu : Int) ≤ k := by omega
          have hq := HQ.out
          rw [List.drop_eq_nil_of_le (by omega), List.drop_eq_nil_of_le (by omega), sameBy, HQ0.out] at hq
          subst hq
          go_wp2_with fail
          go_ret
          exact ⟨ret_bool (by rw [HD.out]; rfl), H8.out.bel⟩
    · skip
      go_wp2_with fail
      refine (xref_equal_any a.main b.main _ _ _ (Dat.H.later HB1.out HZ1.out) (Dat.H.later HB2.out HZ1.out)).mono ?_
      rintro e w2 ⟨rfl, hb⟩
      rw [HQ2.out]
      have H2 := Lib.hid (H1.out.later hb)
      have HZ2 := Lib.hid (HZ1.out.trans (hb.mono HZ1.out.size))
      clear hb H1 HZ1 x1 x2 x3 x4 x5 x6 x7 x8 y1 y2 y3 y4 y5 y6 y7 y8
      cases q2
      · skip
        go_wp2_with fail
        go_ret
        exact ⟨ret_bool (by rw [HD.out]; rfl), H2.out.bel⟩
      · skip
        clear HQ2
        go_wp2_with fail
        go_loopw [7] (fun i wr => ∃ k : Nat, k ≤ nu ∧ i = .int .i64 k ∧ sameBy (Dc.sameX true) a.ds b.ds = sameBy (Dc.sameX true) (a.ds.drop k) (b.ds.drop k) ∧ Below w2.heap.size w2 wr) (fun i _ => nu - (intOf i).toNat)
        case atStart => exact ⟨0, by omega, rfl, rfl, Below.refl _ _⟩
        case round =>
          obtain ⟨k, hk, rfl, hc, hbel⟩ := hrel
          have HBL := Lib.hid hbel
          have HQ := Lib.hid hc
          have H8 := Lib.hid (H2.out.later hbel)
          have HZ8 := Lib.hid (HZ2.out.trans (hbel.mono HZ2.out.size))
          clear hc hbel
          have z0 : (0 : Int) ≤ k := by omega
          have x0 := H8.out.one 0 _ rfl
          have y0 := H8.out.two 0 _ rfl
          by_cases hlt1 : k < nu
          · have z1 : (k : Int) < nu := by omega
            obtain ⟨pu, u, ps, rfl, hx, _, _, hu, hcs⟩ := dat_at (RowH.later HD1.out HZ8.out) hlt1
            obtain ⟨pv, v, qs, rfl, hy2, _, _, hv, hds⟩ := dat_at (RowH.later HD2.out HZ8.out) hlt1
            have C := Lib.hid (fun (V : World) (hV : Below wr.heap.size wr V) => (rdecl_any u v ps qs true V (Dat.H.later hu hV) (Dat.H.later hv hV)).mono fun e w' (h : _ ∧ _) => (⟨h.1, hV.trans (h.2.mono hV.size)⟩ : _ ∧ Below wr.heap.size wr w'))
            have HS := Lib.hid (HQ.out.trans (sameBy_on hx hy2))
            have HLU := Lib.hid (dc_len hu)
            have HLV := Lib.hid (dc_len hv)
            have HF := Lib.hid hcs
            have HG := Lib.hid hds
            clear hx hy2 hu hv hcs hds HQ
            generalize Dc.sameX true u v = q at *
            go_wp2_with fail
            refine wp_region_still_tail 11 (by kernel_rfl) (by kernel_rfl) ?_
            simp only [List.take_succ_cons, List.take_zero, List.drop_succ_cons, List.drop_zero]
            iterate 4 still_step
            refine stillLoad flatDc 44 45 rfl HF.out HLU.out ?_
            iterate 4 still_step
            refine stillLoad flatDc 49 50 rfl HG.out HLV.out ?_
            iterate 1 still_step
            refine wpStill_nil ?_
            change wpList _ _ _ _ _ wr.drew
            go_wp2_with fail
            refine (C.out _ (Below.refl _ _).drew).mono ?_
            rintro e w9 ⟨rfl, hb1⟩
            have HB1_ := Lib.hid (HBL.out.trans (hb1.mono HBL.out.size))
            have H9 := Lib.hid (H8.out.later hb1)
            clear hb1 C x0 y0
            cases q
            · have HC := Lib.hid (HD.out.trans (by rw [← HQ0.out, HS.out]; rfl : _ = false))
              go_wp2_with fail
              go_ret
              exact ⟨ret_bool (by rw [HC.out]), H9.out.bel⟩
            · go_wp2_with fail
              go_roundw
              case rel => exact ⟨k + 1, by omega, by go_num, HS.out, HB1_.out⟩
              case measure => simp [intOf]; omega
          · have z1 : (nu : Int) ≤ k := by omega
            have hq := HQ.out
            rw [List.drop_eq_nil_of_le (by omega), List.drop_eq_nil_of_le (by omega), sameBy, HQ0.out] at hq
            subst hq
            go_wp2_with fail
            go_ret
            exact ⟨ret_bool (by rw [HD.out]; rfl), H8.out.bel⟩
end Go.Proofs.YtjhlehdjdaphcaaDoor
