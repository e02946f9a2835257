/- The walks of the reference's formals and params. No condition.
The walk of the reference's Sig. No condition.
The walk of the reference's Decl. No condition. -/
import Derived.Test.YtjhlehdjdaphcaaDoorQMEkD
import Derived.Test.YtjhlehdjdaphcaaDoorQMTyH
namespace Go.Proofs.YtjhlehdjdaphcaaDoor
open Go.RowKit

theorem toBeq {a b : ByteArray} {q : Bool} (h : bytesEq a b = q) : (a.toList == b.toList) = q ∧ (a.toList != b.toList) = !q := by
  have e : (a.toList == b.toList) = q := by rw [← h, bytesEq, Lib.toList_data, Lib.toList_data]
  exact ⟨e, by rw [← e]; rfl⟩
theorem intBeq {a b : Int} {q : Bool} (h : (a == b) = q) : (a != b) = !q := by rw [← h]; rfl

set_option maxRecDepth 100000 in
set_option maxHeartbeats 8000000 in
theorem rformals_any (xs ys : List Fo) (A B : Option Addr) (m l c d : Nat) (ex : Bool) (w : World) (h1 : RowH w 5 A m (xs.map Fo.dat)) (h2 : RowH w 5 B l (ys.map Fo.dat)) :
    Calls Tryd.prog 41 #[.slice A m c, .slice B l d, .bool ex] w (EqvPost w (sameBy (Fo.sameX ex) xs ys)) := by
  have hm : (m : Int) ≤ 9223372036854775807 := by have := h1.le; omega
  have hl : (l : Int) ≤ 9223372036854775807 := by have := h2.le; omega
  have hxl := h1.len
  have hyl := h2.len
  rw [List.length_map] at hxl hyl
  have H1 := Lib.hid h1
  have H2 := Lib.hid h2
  clear h1 h2
  by_cases hml : m = l
  · subst hml
    have e0 : ((m : Int) != (m : Int)) = false := by simp
    go_enter Tryd.func41, Tryd.ntmps41
    go_wp2_with fail
    go_loopw [7] (fun i wr => ∃ k : Nat, k ≤ m ∧ i = .int .i64 k ∧ sameBy (Fo.sameX ex) xs ys = sameBy (Fo.sameX ex) (xs.drop k) (ys.drop k) ∧ Below w.heap.size w wr) (fun i _ => m - (intOf i).toNat)
    case atStart => exact ⟨0, by omega, rfl, rfl, Below.refl _ _⟩
    case round =>
      obtain ⟨k, hk, rfl, hc, hbel⟩ := hrel
      have HBL := Lib.hid hbel
      have HQ := Lib.hid hc
      clear hc
      have z0 : (0 : Int) ≤ k := by omega
      by_cases hlt1 : k < m
      · have z1 : (k : Int) < m := by omega
        obtain ⟨pu, u, ps, rfl, hx, _, _, hu, hcs⟩ := dat_at (RowH.later H1.out hbel) hlt1
        obtain ⟨pv, v, qs, rfl, hy2, _, _, hv, hds⟩ := dat_at (RowH.later H2.out hbel) hlt1
        have HF := Lib.hid hcs
        have HG := Lib.hid hds
        have HS := Lib.hid (HQ.out.trans (sameBy_on hx hy2))
        obtain ⟨Au, mu, au, rfl, _, htu, hau⟩ := fo_open hu
        obtain ⟨Av, mv, av, rfl, _, htv, hav⟩ := fo_open hv
        have C := Lib.hid (fun (V : World) (hV : Below wr.heap.size wr V) => (tsame_any u.ty v.ty Au Av mu mv au av V htu htv (Here.later hau hV) (Here.later hav hV)).mono fun e w' (h : _ ∧ _) => (⟨h.1, hV.trans (h.2.mono hV.size)⟩ : _ ∧ Below wr.heap.size wr w'))
        have CE := Lib.hid (fun (V : World) (hV : Below wr.heap.size wr V) => (ref_equal_any u.ty v.ty Au Av mu mv au av V htu htv (Here.later hau hV) (Here.later hav hV)).mono fun e w' (h : _ ∧ _) => (⟨h.1, hV.trans (h.2.mono hV.size)⟩ : _ ∧ Below wr.heap.size wr w'))
        obtain ⟨f0, f1, f2, f3, f4⟩ := cells5_at hcs
        obtain ⟨g0, g1, g2, g3, g4⟩ := cells5_at hds
        obtain ⟨q1, hq1⟩ : ∃ q : Bool, bytesEq u.name v.name = q := ⟨_, rfl⟩
        obtain ⟨q2, hq2⟩ : ∃ q : Bool, (Ty.cmp u.ty v.ty == 0) = q := ⟨_, rfl⟩
        obtain ⟨q3, hq3⟩ : ∃ q : Bool, (u.off == v.off) = q := ⟨_, rfl⟩
        obtain ⟨q4, hq4⟩ : ∃ q : Bool, Ty.eqv u.ty v.ty = q := ⟨_, rfl⟩
        obtain ⟨e1, e2⟩ := toBeq hq1
        have e3 := intBeq hq3
        have HS2 := Lib.hid (HS.out.trans (by rw [Fo.sameX, hq1, hq2, hq3, hq4] : _ = ((q1 && q2 && (!ex || (q3 && q4))) && sameBy (Fo.sameX ex) (xs.drop (k + 1)) (ys.drop (k + 1)))))
        rw [hq2] at C
        rw [hq4] at CE
        clear hx hy2 hu hv hcs hds hbel HQ hau hav HS hq1 hq2 hq4
        cases q1
        · rw [Bool.not_false] at e2
          go_wp2_with fail
          go_quiet (fail)
          go_wp2_with fail
          go_ret
          exact ⟨ret_bool (by rw [HS2.out]; rfl), below_drewN HBL.out _⟩
        · rw [Bool.not_true] at e2
          go_wp2_with fail
          go_still_tail 22, (by kernel_rfl)
          change wpList _ _ _ _ _ wr.drew
          go_wp2_with fail
          refine (C.out _ (Below.refl _ _).drew).mono ?_
          rintro e w1 ⟨rfl, hb1⟩
          have HB1 := Lib.hid (HBL.out.trans (hb1.mono HBL.out.size))
          have HBW := Lib.hid hb1
          clear hb1 C f0 f1 f2 f3 f4 g0 g1 g2 g3 g4
          cases q2
          · go_wp2_with fail
            go_ret
            exact ⟨ret_bool (by rw [HS2.out]; rfl), HB1.out⟩
          · obtain ⟨f0, f1, f2, f3, f4⟩ := cells5_at (HF.out.later HBW.out)
            obtain ⟨g0, g1, g2, g3, g4⟩ := cells5_at (HG.out.later HBW.out)
            cases ex
            · go_wp2_with fail
              go_quiet (fail)
              go_wp2_with fail
              go_roundw
              case rel => exact ⟨k + 1, by omega, by go_num, HS2.out, below_drewN HB1.out _⟩
              case measure => simp [intOf]; omega
            · cases q3
              · rw [Bool.not_false] at e3
                go_wp2_with fail
                go_quiet (fail)
                go_wp2_with fail
                go_ret
                exact ⟨ret_bool (by rw [HS2.out]; rfl), below_drewN HB1.out _⟩
              · rw [Bool.not_true] at e3
                go_wp2_with fail
                go_still_tail 24, (by kernel_rfl)
                change wpList _ _ _ _ _ w1.drew
                go_wp2_with fail
                refine (CE.out _ HBW.out.drew).mono ?_
                rintro e w2 ⟨rfl, hb2⟩
                have HB2 := Lib.hid (HBL.out.trans (hb2.mono HBL.out.size))
                clear hb2
                cases q4
                · go_wp2_with fail
                  go_ret
                  exact ⟨ret_bool (by rw [HS2.out]; rfl), HB2.out⟩
                · go_wp2_with fail
                  go_roundw
                  case rel => exact ⟨k + 1, by omega, by go_num, HS2.out, HB2.out⟩
                  case measure => simp [intOf]; omega
      · have z1 : (m : Int) ≤ k := by omega
        have hq := HQ.out
        rw [List.drop_eq_nil_of_le (by omega), List.drop_eq_nil_of_le (by omega), sameBy] at hq
        have HQ2 := Lib.hid hq
        clear hq hbel
        go_wp2_with fail
        go_ret
        exact ⟨ret_bool (by rw [HQ2.out]), HBL.out⟩
  · have e0 : ((m : Int) != (l : Int)) = true := by simp; omega
    have HQ2 := Lib.hid (show sameBy (Fo.sameX ex) xs ys = false from sameBy_len (by omega))
    clear hml
    go_enter Tryd.func41, Tryd.ntmps41
    go_wp2_with fail
    go_ret
    exact ⟨ret_bool (by rw [HQ2.out]), Below.refl _ _⟩

set_option maxRecDepth 100000 in
set_option maxHeartbeats 8000000 in
theorem rparams_any (xs ys : List Fo) (A B : Option Addr) (m l c d : Nat) (ex : Bool) (w : World) (h1 : RowH w 5 A m (xs.map Fo.dat)) (h2 : RowH w 5 B l (ys.map Fo.dat)) :
    Calls Tryd.prog 42 #[.slice A m c, .slice B l d, .bool ex] w (EqvPost w (sameBy (Fo.sameX ex) xs ys)) := by
  have hm : (m : Int) ≤ 9223372036854775807 := by have := h1.le; omega
  have hl : (l : Int) ≤ 9223372036854775807 := by have := h2.le; omega
  have hxl := h1.len
  have hyl := h2.len
  rw [List.length_map] at hxl hyl
  have H1 := Lib.hid h1
  have H2 := Lib.hid h2
  clear h1 h2
  by_cases hml : m = l
  · subst hml
    have e0 : ((m : Int) != (m : Int)) = false := by simp
    go_enter Tryd.func42, Tryd.ntmps42
    go_wp2_with fail
    go_loopw [7] (fun i wr => ∃ k : Nat, k ≤ m ∧ i = .int .i64 k ∧ sameBy (Fo.sameX ex) xs ys = sameBy (Fo.sameX ex) (xs.drop k) (ys.drop k) ∧ Below w.heap.size w wr) (fun i _ => m - (intOf i).toNat)
    case atStart => exact ⟨0, by omega, rfl, rfl, Below.refl _ _⟩
    case round =>
      obtain ⟨k, hk, rfl, hc, hbel⟩ := hrel
      have HBL := Lib.hid hbel
      have HQ := Lib.hid hc
      clear hc
      have z0 : (0 : Int) ≤ k := by omega
      by_cases hlt1 : k < m
      · have z1 : (k : Int) < m := by omega
        obtain ⟨pu, u, ps, rfl, hx, _, _, hu, hcs⟩ := dat_at (RowH.later H1.out hbel) hlt1
        obtain ⟨pv, v, qs, rfl, hy2, _, _, hv, hds⟩ := dat_at (RowH.later H2.out hbel) hlt1
        have HF := Lib.hid hcs
        have HG := Lib.hid hds
        have HS := Lib.hid (HQ.out.trans (sameBy_on hx hy2))
        obtain ⟨Au, mu, au, rfl, _, htu, hau⟩ := fo_open hu
        obtain ⟨Av, mv, av, rfl, _, htv, hav⟩ := fo_open hv
        have C := Lib.hid (fun (V : World) (hV : Below wr.heap.size wr V) => (tsame_any u.ty v.ty Au Av mu mv au av V htu htv (Here.later hau hV) (Here.later hav hV)).mono fun e w' (h : _ ∧ _) => (⟨h.1, hV.trans (h.2.mono hV.size)⟩ : _ ∧ Below wr.heap.size wr w'))
        have CE := Lib.hid (fun (V : World) (hV : Below wr.heap.size wr V) => (ref_equal_any u.ty v.ty Au Av mu mv au av V htu htv (Here.later hau hV) (Here.later hav hV)).mono fun e w' (h : _ ∧ _) => (⟨h.1, hV.trans (h.2.mono hV.size)⟩ : _ ∧ Below wr.heap.size wr w'))
        obtain ⟨f0, f1, f2, f3, f4⟩ := cells5_at hcs
        obtain ⟨g0, g1, g2, g3, g4⟩ := cells5_at hds
        obtain ⟨q1, hq1⟩ : ∃ q : Bool, bytesEq u.name v.name = q := ⟨_, rfl⟩
        obtain ⟨q2, hq2⟩ : ∃ q : Bool, (Ty.cmp u.ty v.ty == 0) = q := ⟨_, rfl⟩
        obtain ⟨q3, hq3⟩ : ∃ q : Bool, (u.off == v.off) = q := ⟨_, rfl⟩
        obtain ⟨q4, hq4⟩ : ∃ q : Bool, Ty.eqv u.ty v.ty = q := ⟨_, rfl⟩
        obtain ⟨e1, e2⟩ := toBeq hq1
        have e3 := intBeq hq3
        have HS2 := Lib.hid (HS.out.trans (by rw [Fo.sameX, hq1, hq2, hq3, hq4] : _ = ((q1 && q2 && (!ex || (q3 && q4))) && sameBy (Fo.sameX ex) (xs.drop (k + 1)) (ys.drop (k + 1)))))
        rw [hq2] at C
        rw [hq4] at CE
        clear hx hy2 hu hv hcs hds hbel HQ hau hav HS hq1 hq2 hq4
        cases q1
        · rw [Bool.not_false] at e2
          go_wp2_with fail
          go_quiet (fail)
          go_wp2_with fail
          go_ret
          exact ⟨ret_bool (by rw [HS2.out]; rfl), below_drewN HBL.out _⟩
        · rw [Bool.not_true] at e2
          go_wp2_with fail
          go_still_tail 22, (by kernel_rfl)
          change wpList _ _ _ _ _ wr.drew
          go_wp2_with fail
          refine (C.out _ (Below.refl _ _).drew).mono ?_
          rintro e w1 ⟨rfl, hb1⟩
          have HB1 := Lib.hid (HBL.out.trans (hb1.mono HBL.out.size))
          have HBW := Lib.hid hb1
          clear hb1 C f0 f1 f2 f3 f4 g0 g1 g2 g3 g4
          cases q2
          · go_wp2_with fail
            go_ret
            exact ⟨ret_bool (by rw [HS2.out]; rfl), HB1.out⟩
          · obtain ⟨f0, f1, f2, f3, f4⟩ := cells5_at (HF.out.later HBW.out)
            obtain ⟨g0, g1, g2, g3, g4⟩ := cells5_at (HG.out.later HBW.out)
            cases ex
            · go_wp2_with fail
              go_quiet (fail)
              go_wp2_with fail
              go_roundw
              case rel => exact ⟨k + 1, by omega, by go_num, HS2.out, below_drewN HB1.out _⟩
              case measure => simp [intOf]; omega
            · cases q3
              · rw [Bool.not_false] at e3
                go_wp2_with fail
                go_quiet (fail)
                go_wp2_with fail
                go_ret
                exact ⟨ret_bool (by rw [HS2.out]; rfl), below_drewN HB1.out _⟩
              · rw [Bool.not_true] at e3
                go_wp2_with fail
                go_still_tail 24, (by kernel_rfl)
                change wpList _ _ _ _ _ w1.drew
                go_wp2_with fail
                refine (CE.out _ HBW.out.drew).mono ?_
                rintro e w2 ⟨rfl, hb2⟩
                have HB2 := Lib.hid (HBL.out.trans (hb2.mono HBL.out.size))
                clear hb2
                cases q4
                · go_wp2_with fail
                  go_ret
                  exact ⟨ret_bool (by rw [HS2.out]; rfl), HB2.out⟩
                · go_wp2_with fail
                  go_roundw
                  case rel => exact ⟨k + 1, by omega, by go_num, HS2.out, HB2.out⟩
                  case measure => simp [intOf]; omega
      · have z1 : (m : Int) ≤ k := by omega
        have hq := HQ.out
        rw [List.drop_eq_nil_of_le (by omega), List.drop_eq_nil_of_le (by omega), sameBy] at hq
        have HQ2 := Lib.hid hq
        clear hq hbel
        go_wp2_with fail
        go_ret
        exact ⟨ret_bool (by rw [HQ2.out]), HBL.out⟩
  · have e0 : ((m : Int) != (l : Int)) = true := by simp; omega
    have HQ2 := Lib.hid (show sameBy (Fo.sameX ex) xs ys = false from sameBy_len (by omega))
    clear hml
    go_enter Tryd.func42, Tryd.ntmps42
    go_wp2_with fail
    go_ret
    exact ⟨ret_bool (by rw [HQ2.out]), Below.refl _ _⟩
end Go.Proofs.YtjhlehdjdaphcaaDoor
namespace Go.Proofs.YtjhlehdjdaphcaaDoor
open Go.RowKit

set_option maxRecDepth 100000 in
set_option maxHeartbeats 8000000 in
theorem rsig_any (a b : Sg) (us vs : List Value) (ex : Bool) (w : World) (h1 : a.dat.H w us) (h2 : b.dat.H w vs) : Calls Tryd.prog 43 #[.agg us.toArray, .agg vs.toArray, .bool ex] w (EqvPost w (Sg.sameX ex a b)) := by
  have h := TwoD.new h1 h2 50
  obtain ⟨Fu, nfu, cfu, Pu, npu, cpu, Au, mu, au, rfl, _, hf1, hp1, hn1, ha1⟩ := sg_open h1
  obtain ⟨Fv, nfv, cfv, Pv, npv, cpv, Av, mv, av, rfl, _, hf2, hp2, hn2, ha2⟩ := sg_open h2
  have H0 := Lib.hid h
  have HZ0 := Lib.hid (Below.refl (((w.alloc (.cells #[.string a.name, .slice Fu nfu cfu, .slice Pu npu cpu, .string a.res.name, .slice Au mu au, .int .i64 a.res.off, .int .i64 a.off] 50)).alloc (.cells #[.string b.name, .slice Fv nfv cfv, .slice Pv npv cpv, .string b.res.name, .slice Av mv av, .int .i64 b.res.off, .int .i64 b.off] 50))).heap.size (((w.alloc (.cells #[.string a.name, .slice Fu nfu cfu, .slice Pu npu cpu, .string a.res.name, .slice Au mu au, .int .i64 a.res.off, .int .i64 a.off] 50)).alloc (.cells #[.string b.name, .slice Fv nfv cfv, .slice Pv npv cpv, .string b.res.name, .slice Av mv av, .int .i64 b.res.off, .int .i64 b.off] 50))))
  have HF1 := Lib.hid (RowH.later hf1 h.bel)
  have HF2 := Lib.hid (RowH.later hf2 h.bel)
  have HP1 := Lib.hid (RowH.later hp1 h.bel)
  have HP2 := Lib.hid (RowH.later hp2 h.bel)
  have HA1 := Lib.hid (Here.later ha1 h.bel)
  have HA2 := Lib.hid (Here.later ha2 h.bel)
  clear h h1 h2 hf1 hf2 hp1 hp2 ha1 ha2
  obtain ⟨q0, hq0⟩ : ∃ q : Bool, bytesEq a.name b.name = q := ⟨_, rfl⟩
  obtain ⟨q1, hq1⟩ : ∃ q : Bool, sameBy (Fo.sameX ex) a.fs b.fs = q := ⟨_, rfl⟩
  obtain ⟨q2, hq2⟩ : ∃ q : Bool, sameBy (Fo.sameX ex) a.ps b.ps = q := ⟨_, rfl⟩
  obtain ⟨q3, hq3⟩ : ∃ q : Bool, (Ty.cmp a.res b.res == 0) = q := ⟨_, rfl⟩
  obtain ⟨q4, hq4⟩ : ∃ q : Bool, (a.off == b.off) = q := ⟨_, rfl⟩
  obtain ⟨q5, hq5⟩ : ∃ q : Bool, Ty.eqv a.res b.res = q := ⟨_, rfl⟩
  obtain ⟨e0, e1⟩ := toBeq hq0
  have e2 := hq4
  have HD := Lib.hid (show Sg.sameX ex a b = (q0 && (q1 && (q2 && (q3 && (!ex || (q4 && q5)))))) by rw [Sg.sameX, hq0, hq1, hq2, hq3, hq4, hq5]; simp [Bool.and_assoc])
  have HQ1 := Lib.hid hq1
  have HQ2 := Lib.hid hq2
  have HQ3 := Lib.hid hq3
  have HQ5 := Lib.hid hq5
  clear hq0 hq1 hq2 hq3 hq4 hq5
  have x0 := H0.out.one 0 _ rfl
  have x1 := H0.out.one 1 _ rfl
  have y0 := H0.out.two 0 _ rfl
  have y1 := H0.out.two 1 _ rfl
  go_enter Tryd.func43, Tryd.ntmps43
  cases q0
  · skip
    rw [Bool.not_false] at e1
    go_wp2_with fail
    go_ret
    exact ⟨ret_bool (by rw [HD.out]; rfl), H0.out.bel⟩
  · skip
    rw [Bool.not_true] at e1
    go_wp2_with fail
    refine (rformals_any a.fs b.fs Fu Fv nfu nfv cfu cfv ex _ (RowH.later HF1.out HZ0.out) (RowH.later HF2.out HZ0.out)).mono ?_
    rintro e w1 ⟨rfl, hb⟩
    rw [HQ1.out]
    have H1 := Lib.hid (H0.out.later hb)
    have HZ1 := Lib.hid (HZ0.out.trans (hb.mono HZ0.out.size))
    clear hb H0 HZ0 x0 x1 y0 y1
    have x2 := H1.out.one 2 _ rfl
    have y2 := H1.out.two 2 _ rfl
    cases q1
    · skip
      go_wp2_with fail
      go_ret
      exact ⟨ret_bool (by rw [HD.out]; rfl), H1.out.bel⟩
    · skip
      go_wp2_with fail
      refine (rparams_any a.ps b.ps Pu Pv npu npv cpu cpv ex _ (RowH.later HP1.out HZ1.out) (RowH.later HP2.out HZ1.out)).mono ?_
      rintro e w2 ⟨rfl, hb⟩
      rw [HQ2.out]
      have H2 := Lib.hid (H1.out.later hb)
      have HZ2 := Lib.hid (HZ1.out.trans (hb.mono HZ1.out.size))
      clear hb H1 HZ1 x2 y2
      have x3 := H2.out.one 3 _ rfl
      have x4 := H2.out.one 4 _ rfl
      have x5 := H2.out.one 5 _ rfl
      have y3 := H2.out.two 3 _ rfl
      have y4 := H2.out.two 4 _ rfl
      have y5 := H2.out.two 5 _ rfl
      cases q2
      · skip
        go_wp2_with fail
        go_ret
        exact ⟨ret_bool (by rw [HD.out]; rfl), H2.out.bel⟩
      · skip
        go_wp2_with fail
        refine (tsame_any a.res b.res Au Av mu mv au av _ hn1 hn2 (Here.later HA1.out HZ2.out) (Here.later HA2.out HZ2.out)).mono ?_
        rintro e w3 ⟨rfl, hb⟩
        rw [HQ3.out]
        have H3 := Lib.hid (H2.out.later hb)
        have HZ3 := Lib.hid (HZ2.out.trans (hb.mono HZ2.out.size))
        clear hb H2 HZ2 x3 x4 x5 y3 y4 y5
        have x3 := H3.out.one 3 _ rfl
        have x4 := H3.out.one 4 _ rfl
        have x5 := H3.out.one 5 _ rfl
        have x6 := H3.out.one 6 _ rfl
        have y3 := H3.out.two 3 _ rfl
        have y4 := H3.out.two 4 _ rfl
        have y5 := H3.out.two 5 _ rfl
        have y6 := H3.out.two 6 _ rfl
        cases q3
        · skip
          go_wp2_with fail
          go_ret
          exact ⟨ret_bool (by rw [HD.out]; rfl), H3.out.bel⟩
        · skip
          cases ex
          · skip
            go_wp2_with fail
            go_ret
            exact ⟨ret_bool (by rw [HD.out]; rfl), H3.out.bel⟩
          · skip
            cases q4
            · skip
              go_wp2_with fail
              go_ret
              exact ⟨ret_bool (by rw [HD.out]; rfl), H3.out.bel⟩
            · skip
              go_wp2_with fail
              refine (ref_equal_any a.res b.res Au Av mu mv au av _ hn1 hn2 (Here.later HA1.out HZ3.out) (Here.later HA2.out HZ3.out)).mono ?_
              rintro e w4 ⟨rfl, hb⟩
              rw [HQ5.out]
              have H4 := Lib.hid (H3.out.later hb)
              have HZ4 := Lib.hid (HZ3.out.trans (hb.mono HZ3.out.size))
              clear hb H3 HZ3 x3 x4 x5 x6 y3 y4 y5 y6
              go_wp2_with fail
              go_ret
              exact ⟨ret_bool (by rw [HD.out]; rfl), H4.out.bel⟩
end Go.Proofs.YtjhlehdjdaphcaaDoor
namespace Go.Proofs.YtjhlehdjdaphcaaDoor
open Go.RowKit

set_option maxRecDepth 100000 in
set_option maxHeartbeats 8000000 in
theorem rdecl_any (a b : Dc) (us vs : List Value) (ex : Bool) (w : World) (h1 : a.dat.H w us) (h2 : b.dat.H w vs) : Calls Tryd.prog 17 #[.agg us.toArray, .agg vs.toArray, .bool ex] w (EqvPost w (Dc.sameX ex a b)) := by
  have h := TwoD.new h1 h2 52
  obtain ⟨Fu, nfu, cfu, Pu, npu, cpu, Gu, ngu, cgu, Vu, nvu, cvu, F2u, nf2u, cf2u, P2u, np2u, cp2u, A2u, m2u, a2u, A3u, m3u, a3u, B3u, l3u, b3u, C3u, n3u, c3u, rfl, _, hf1, hp1, hg1, _, hv1, hs1, hb1⟩ := dc_full h1
  obtain ⟨Fv, nfv, cfv, Pv, npv, cpv, Gv, ngv, cgv, Vv, nvv, cvv, F2v, nf2v, cf2v, P2v, np2v, cp2v, A2v, m2v, a2v, A3v, m3v, a3v, B3v, l3v, b3v, C3v, n3v, c3v, rfl, _, hf2, hp2, hg2, _, hv2, hs2, hb2⟩ := dc_full h2
  have H0 := Lib.hid h
  have HZ0 := Lib.hid (Below.refl (((w.alloc (.cells #[.int .i64 a.kind, .string a.name, .slice Fu nfu cfu, .slice Pu npu cpu, .slice Gu ngu cgu, .string a.recv, .slice Vu nvu cvu, .string a.sig.name, .slice F2u nf2u cf2u, .slice P2u np2u cp2u, .string a.sig.res.name, .slice A2u m2u a2u, .int .i64 a.sig.res.off, .int .i64 a.sig.off, .int .i64 a.body.kind, .string a.body.name, .string a.body.ty.name, .slice A3u m3u a3u, .int .i64 a.body.ty.off, .slice B3u l3u b3u, .slice C3u n3u c3u, .int .i64 a.body.off, .int .i64 a.off] 52)).alloc (.cells #[.int .i64 b.kind, .string b.name, .slice Fv nfv cfv, .slice Pv npv cpv, .slice Gv ngv cgv, .string b.recv, .slice Vv nvv cvv, .string b.sig.name, .slice F2v nf2v cf2v, .slice P2v np2v cp2v, .string b.sig.res.name, .slice A2v m2v a2v, .int .i64 b.sig.res.off, .int .i64 b.sig.off, .int .i64 b.body.kind, .string b.body.name, .string b.body.ty.name, .slice A3v m3v a3v, .int .i64 b.body.ty.off, .slice B3v l3v b3v, .slice C3v n3v c3v, .int .i64 b.body.off, .int .i64 b.off] 52))).heap.size (((w.alloc (.cells #[.int .i64 a.kind, .string a.name, .slice Fu nfu cfu, .slice Pu npu cpu, .slice Gu ngu cgu, .string a.recv, .slice Vu nvu cvu, .string a.sig.name, .slice F2u nf2u cf2u, .slice P2u np2u cp2u, .string a.sig.res.name, .slice A2u m2u a2u, .int .i64 a.sig.res.off, .int .i64 a.sig.off, .int .i64 a.body.kind, .string a.body.name, .string a.body.ty.name, .slice A3u m3u a3u, .int .i64 a.body.ty.off, .slice B3u l3u b3u, .slice C3u n3u c3u, .int .i64 a.body.off, .int .i64 a.off] 52)).alloc (.cells #[.int .i64 b.kind, .string b.name, .slice Fv nfv cfv, .slice Pv npv cpv, .slice Gv ngv cgv, .string b.recv, .slice Vv nvv cvv, .string b.sig.name, .slice F2v nf2v cf2v, .slice P2v np2v cp2v, .string b.sig.res.name, .slice A2v m2v a2v, .int .i64 b.sig.res.off, .int .i64 b.sig.off, .int .i64 b.body.kind, .string b.body.name, .string b.body.ty.name, .slice A3v m3v a3v, .int .i64 b.body.ty.off, .slice B3v l3v b3v, .slice C3v n3v c3v, .int .i64 b.body.off, .int .i64 b.off] 52))))
  have HF1 := Lib.hid (RowH.later hf1 h.bel)
  have HF2 := Lib.hid (RowH.later hf2 h.bel)
  have HP1 := Lib.hid (RowH.later hp1 h.bel)
  have HP2 := Lib.hid (RowH.later hp2 h.bel)
  have HG1 := Lib.hid (RowH.later hg1 h.bel)
  have HG2 := Lib.hid (RowH.later hg2 h.bel)
  have HV1 := Lib.hid (RowH.later hv1 h.bel)
  have HV2 := Lib.hid (RowH.later hv2 h.bel)
  have HS1 := Lib.hid (Dat.H.later hs1 h.bel)
  have HS2 := Lib.hid (Dat.H.later hs2 h.bel)
  have HB1 := Lib.hid (Dat.H.later hb1 h.bel)
  have HB2 := Lib.hid (Dat.H.later hb2 h.bel)
  have hg1l := hg1.le
  have hg2l := hg2.le
  have hv1l := hv1.le
  have hv2l := hv2.le
  have hgx := hg1.len
  have hgy := hg2.len
  have hvx := hv1.len
  have hvy := hv2.len
  rw [List.length_map] at hgx hgy hvx hvy
  clear h h1 h2 hf1 hf2 hp1 hp2 hv1 hv2 hg1 hg2 hs1 hs2 hb1 hb2
  obtain ⟨q0, hq0⟩ : ∃ q : Bool, (a.kind == b.kind) = q := ⟨_, rfl⟩
  obtain ⟨q1, hq1⟩ : ∃ q : Bool, bytesEq a.name b.name = q := ⟨_, rfl⟩
  obtain ⟨q2, hq2⟩ : ∃ q : Bool, bytesEq a.recv b.recv = q := ⟨_, rfl⟩
  obtain ⟨q3, hq3⟩ : ∃ q : Bool, sameBy (Fo.sameX ex) a.fs b.fs = q := ⟨_, rfl⟩
  obtain ⟨q4, hq4⟩ : ∃ q : Bool, sameBy (Fo.sameX ex) a.ms b.ms = q := ⟨_, rfl⟩
  obtain ⟨q5, hq5⟩ : ∃ q : Bool, sameBy (Sg.sameX ex) a.gs b.gs = q := ⟨_, rfl⟩
  obtain ⟨q6, hq6⟩ : ∃ q : Bool, sameBy bytesEq a.vs b.vs = q := ⟨_, rfl⟩
  obtain ⟨q7, hq7⟩ : ∃ q : Bool, Sg.sameX ex a.sig b.sig = q := ⟨_, rfl⟩
  obtain ⟨q8, hq8⟩ : ∃ q : Bool, a.body.same b.body = q := ⟨_, rfl⟩
  obtain ⟨q9, hq9⟩ : ∃ q : Bool, (a.off == b.off) = q := ⟨_, rfl⟩
  obtain ⟨q10, hq10⟩ : ∃ q : Bool, a.body.eqv b.body = q := ⟨_, rfl⟩
  have e0 := intBeq hq0
  obtain ⟨e1, e1'⟩ := toBeq hq1
  obtain ⟨e2, e2'⟩ := toBeq hq2
  have e3 := hq9
  have HD := Lib.hid (show Dc.sameX ex a b = (q0 && (q1 && (q2 && (q3 && (q4 && (q5 && (q6 && (q7 && (q8 && (!ex || (q9 && q10))))))))))) by rw [Dc.sameX, hq0, hq1, hq2, hq3, hq4, hq5, hq6, hq7, hq8, hq9, hq10]; simp [Bool.and_assoc])
  have HQ3 := Lib.hid hq3
  have HQ4 := Lib.hid hq4
  have HQ5 := Lib.hid hq5
  have HQ6 := Lib.hid hq6
  have HQ7 := Lib.hid hq7
  have HQ8 := Lib.hid hq8
  have HQ10 := Lib.hid hq10
  have e4 : (a.kind == b.kind) = q0 := hq0
  clear hq0 hq1 hq2 hq3 hq4 hq5 hq6 hq7 hq8 hq9 hq10
  have x0 := H0.out.one 0 _ rfl
  have x1 := H0.out.one 1 _ rfl
  have x5 := H0.out.one 5 _ rfl
  have x2 := H0.out.one 2 _ rfl
  have y0 := H0.out.two 0 _ rfl
  have y1 := H0.out.two 1 _ rfl
  have y5 := H0.out.two 5 _ rfl
  have y2 := H0.out.two 2 _ rfl
  go_enter Tryd.func17, Tryd.ntmps17
  cases q0
  · skip
    rw [Bool.not_false] at e0
    go_wp2_with fail
    go_ret
    exact ⟨ret_bool (by rw [HD.out]; rfl), H0.out.bel⟩
  · skip
    rw [Bool.not_true] at e0
    cases q1
    · skip
      rw [Bool.not_false] at e1'
      go_wp2_with fail
      go_ret
      exact ⟨ret_bool (by rw [HD.out]; rfl), H0.out.bel⟩
    · skip
      rw [Bool.not_true] at e1'
      cases q2
      · skip
        rw [Bool.not_false] at e2'
        go_wp2_with fail
        go_ret
        exact ⟨ret_bool (by rw [HD.out]; rfl), H0.out.bel⟩
      · skip
        rw [Bool.not_true] at e2'
        go_wp2_with fail
        refine (rformals_any a.fs b.fs Fu Fv nfu nfv cfu cfv ex _ (RowH.later HF1.out HZ0.out) (RowH.later HF2.out HZ0.out)).mono ?_
        rintro e w1 ⟨rfl, hb⟩
        rw [HQ3.out]
        have H1 := Lib.hid (H0.out.later hb)
        have HZ1 := Lib.hid (HZ0.out.trans (hb.mono HZ0.out.size))
        clear hb H0 HZ0 x0 x1 x5 x2 y0 y1 y5 y2
        have x3 := H1.out.one 3 _ rfl
        have y3 := H1.out.two 3 _ rfl
        cases q3
        · skip
          go_wp2_with fail
          go_ret
          exact ⟨ret_bool (by rw [HD.out]; rfl), H1.out.bel⟩
        · skip
          go_wp2_with fail
          refine (rparams_any a.ms b.ms Pu Pv npu npv cpu cpv ex _ (RowH.later HP1.out HZ1.out) (RowH.later HP2.out HZ1.out)).mono ?_
          rintro e w2 ⟨rfl, hb⟩
          rw [HQ4.out]
          have H2 := Lib.hid (H1.out.later hb)
          have HZ2 := Lib.hid (HZ1.out.trans (hb.mono HZ1.out.size))
          clear hb H1 HZ1 x3 y3
          have x4 := H2.out.one 4 _ rfl
          have x6 := H2.out.one 6 _ rfl
          have y4 := H2.out.two 4 _ rfl
          have y6 := H2.out.two 6 _ rfl
          cases q4
          · skip
            go_wp2_with fail
            go_ret
            exact ⟨ret_bool (by rw [HD.out]; rfl), H2.out.bel⟩
          · skip
            by_cases hml : ngu = ngv
            rotate_left
            · have n0 : ((ngu : Int) != (ngv : Int)) = true := by simp; omega
              have HC := Lib.hid (HD.out.trans (by rw [← HQ5.out, sameBy_len (by omega)]; rfl : _ = false))
              go_wp2_with fail
              go_ret
              exact ⟨ret_bool (by rw [HC.out]), H2.out.bel⟩
            subst hml
            have n0 : ((ngu : Int) != (ngu : Int)) = false := by simp
            by_cases hmv : nvu = nvv
            rotate_left
            · have n1 : ((nvu : Int) != (nvv : Int)) = true := by simp; omega
              have HC := Lib.hid (HD.out.trans (by rw [← HQ6.out, sameBy_len (xs := a.vs) (by omega)]; cases q5 <;> rfl : _ = false))
              go_wp2_with fail
              go_ret
              exact ⟨ret_bool (by rw [HC.out]), H2.out.bel⟩
            subst hmv
            have n1 : ((nvu : Int) != (nvu : Int)) = false := by simp
            have i0 : (ngu : Int) ≤ 9223372036854775807 := by omega
            have i1 : (nvu : Int) ≤ 9223372036854775807 := by omega
            go_wp2_with fail
            clear x4 x6 y4 y6
            go_loopw [7] (fun i wr => ∃ k : Nat, k ≤ ngu ∧ i = .int .i64 k ∧ sameBy (Sg.sameX ex) a.gs b.gs = sameBy (Sg.sameX ex) (a.gs.drop k) (b.gs.drop k) ∧ Below w2.heap.size w2 wr) (fun i _ => ngu - (intOf i).toNat)
            case atStart => exact ⟨0, by omega, rfl, rfl, Below.refl _ _⟩
            case round =>
              obtain ⟨k, hk, rfl, hc, hbel⟩ := hrel
              have HBL := Lib.hid hbel
              have HQ := Lib.hid hc
              have H8 := Lib.hid (H2.out.later hbel)
              have HZ8 := Lib.hid (HZ2.out.trans (hbel.mono HZ2.out.size))
              clear hc hbel
              have z0 : (0 : Int) ≤ k := by omega
              have x4 := H8.out.one 4 _ rfl
              have y4 := H8.out.two 4 _ rfl
              by_cases hlt1 : k < ngu
              · have z1 : (k : Int) < ngu := by omega
                obtain ⟨pu, u, ps, rfl, hx, _, _, hu, hcs⟩ := dat_at (RowH.later HG1.out HZ8.out) hlt1
                obtain ⟨pv, v, qs, rfl, hy2, _, _, hv, hds⟩ := dat_at (RowH.later HG2.out HZ8.out) hlt1
                have C := Lib.hid (fun (V : World) (hV : Below wr.heap.size wr V) => (rsig_any u v ps qs ex V (Dat.H.later hu hV) (Dat.H.later hv hV)).mono fun e w' (h : _ ∧ _) => (⟨h.1, hV.trans (h.2.mono hV.size)⟩ : _ ∧ Below wr.heap.size wr w'))
                have HS := Lib.hid (HQ.out.trans (sameBy_on hx hy2))
                obtain ⟨Fu2, nfu2, cfu2, Pu2, npu2, cpu2, Au2, mu2, au2, rfl, _⟩ := sg_open hu
                obtain ⟨Fv2, nfv2, cfv2, Pv2, npv2, cpv2, Av2, mv2, av2, rfl, _⟩ := sg_open hv
                obtain ⟨f0, f1, f2, f3, f4, f5, f6⟩ := cells7_at hcs
                obtain ⟨g0, g1, g2, g3, g4, g5, g6⟩ := cells7_at hds
                clear hx hy2 hu hv hcs hds HQ
                generalize Sg.sameX ex u v = q at *
                go_wp2_with fail
                go_still_tail 11, (by kernel_rfl)
                change wpList _ _ _ _ _ wr.drew
                go_wp2_with fail
                refine (C.out _ (Below.refl _ _).drew).mono ?_
                rintro e w9 ⟨rfl, hb1⟩
                have HB1 := Lib.hid (HBL.out.trans (hb1.mono HBL.out.size))
                have H9 := Lib.hid (H8.out.later hb1)
                clear hb1 C f0 f1 f2 f3 f4 f5 f6 g0 g1 g2 g3 g4 g5 g6 x4 y4
                cases q
                · have HC := Lib.hid (HD.out.trans (by rw [← HQ5.out, HS.out]; rfl : _ = false))
                  go_wp2_with fail
                  go_ret
                  exact ⟨ret_bool (by rw [HC.out]), H9.out.bel⟩
                · go_wp2_with fail
                  go_roundw
                  case rel => exact ⟨k + 1, by omega, by go_num, HS.out, HB1.out⟩
                  case measure => simp [intOf]; omega
              · have z1 : (ngu : Int) ≤ k := by omega
                have hq := HQ.out
                rw [List.drop_eq_nil_of_le (by omega), List.drop_eq_nil_of_le (by omega), sameBy, HQ5.out] at hq
                subst hq
                clear HBL HQ H2 HZ2
                go_wp2_with fail
                generalize hV : wr = X at *
                clear hV x4 y4
                go_loopw [8] (fun i wr => ∃ k : Nat, k ≤ nvu ∧ i = .int .i64 k ∧ sameBy bytesEq a.vs b.vs = sameBy bytesEq (a.vs.drop k) (b.vs.drop k) ∧ Below X.heap.size X wr) (fun i _ => nvu - (intOf i).toNat)
                case atStart => exact ⟨0, by omega, rfl, rfl, Below.refl _ _⟩
                case round =>
                  obtain ⟨j, hj, rfl, hc, hbel⟩ := hrel
                  have HBL := Lib.hid hbel
                  have HQ := Lib.hid hc
                  have H11 := Lib.hid (H8.out.later hbel)
                  have HZ11 := Lib.hid (HZ8.out.trans (hbel.mono HZ8.out.size))
                  clear hc hbel
                  have z2 : (0 : Int) ≤ j := by omega
                  have x6 := H11.out.one 6 _ rfl
                  have y6 := H11.out.two 6 _ rfl
                  by_cases hlt1 : j < nvu
                  · have z3 : (j : Int) < nvu := by omega
                    obtain ⟨pu, u, ps, rfl, hx, _, _, hu, hcs⟩ := dat_at (RowH.later HV1.out HZ11.out) hlt1
                    obtain ⟨pv, v, qs, rfl, hy2, _, _, hv, hds⟩ := dat_at (RowH.later HV2.out HZ11.out) hlt1
                    rw [Dat.In] at hu hv
                    obtain ⟨rfl, _⟩ := hu
                    obtain ⟨rfl, _⟩ := hv
                    have HS := Lib.hid (HQ.out.trans (sameBy_on hx hy2))
                    have f0 := hcs 0 _ rfl
                    have g0 := hds 0 _ rfl
                    rw [add_add, Nat.mul_one, Nat.add_zero] at f0 g0
                    obtain ⟨q, hq⟩ : ∃ q : Bool, bytesEq u v = q := ⟨_, rfl⟩
                    obtain ⟨d1, d2⟩ := toBeq hq
                    rw [hq] at HS
                    clear hx hy2 hcs hds HQ hq
                    cases q
                    · rw [Bool.not_false] at d2
                      have HC := Lib.hid (HD.out.trans (by rw [← HQ6.out, HS.out]; rfl : _ = false))
                      go_wp2_with fail
                      go_quiet (fail)
                      go_wp2_with fail
                      go_ret
                      exact ⟨ret_bool (by rw [HC.out]), below_drewN H11.out.bel _⟩
                    · rw [Bool.not_true] at d2
                      go_wp2_with fail
                      go_quiet (fail)
                      go_wp2_with fail
                      go_roundw
                      case rel => exact ⟨j + 1, by omega, by go_num, HS.out, below_drewN HBL.out _⟩
                      case measure => simp [intOf]; omega
                  · have z3 : (nvu : Int) ≤ j := by omega
                    have hq := HQ.out
                    rw [List.drop_eq_nil_of_le (by omega), List.drop_eq_nil_of_le (by omega), sameBy, HQ6.out] at hq
                    subst hq
                    clear HBL HQ H8 HZ8
                    have x7 := H11.out.one 7 _ rfl
                    have x8 := H11.out.one 8 _ rfl
                    have x9 := H11.out.one 9 _ rfl
                    have x10 := H11.out.one 10 _ rfl
                    have x11 := H11.out.one 11 _ rfl
                    have x12 := H11.out.one 12 _ rfl
                    have x13 := H11.out.one 13 _ rfl
                    have y7 := H11.out.two 7 _ rfl
                    have y8 := H11.out.two 8 _ rfl
                    have y9 := H11.out.two 9 _ rfl
                    have y10 := H11.out.two 10 _ rfl
                    have y11 := H11.out.two 11 _ rfl
                    have y12 := H11.out.two 12 _ rfl
                    have y13 := H11.out.two 13 _ rfl
                    go_wp2_with fail
                    refine (rsig_any a.sig b.sig _ _ ex _ (Dat.H.later HS1.out HZ11.out) (Dat.H.later HS2.out HZ11.out)).mono ?_
                    rintro e w12 ⟨rfl, hb⟩
                    rw [HQ7.out]
                    have H12 := Lib.hid (H11.out.later hb)
                    have HZ12 := Lib.hid (HZ11.out.trans (hb.mono HZ11.out.size))
                    clear hb H11 HZ11 x7 x8 x9 x10 x11 x12 x13 y7 y8 y9 y10 y11 y12 y13 x6 y6
                    have x14 := H12.out.one 14 _ rfl
                    have x15 := H12.out.one 15 _ rfl
                    have x16 := H12.out.one 16 _ rfl
                    have x17 := H12.out.one 17 _ rfl
                    have x18 := H12.out.one 18 _ rfl
                    have x19 := H12.out.one 19 _ rfl
                    have x20 := H12.out.one 20 _ rfl
                    have x21 := H12.out.one 21 _ rfl
                    have y14 := H12.out.two 14 _ rfl
                    have y15 := H12.out.two 15 _ rfl
                    have y16 := H12.out.two 16 _ rfl
                    have y17 := H12.out.two 17 _ rfl
                    have y18 := H12.out.two 18 _ rfl
                    have y19 := H12.out.two 19 _ rfl
                    have y20 := H12.out.two 20 _ rfl
                    have y21 := H12.out.two 21 _ rfl
                    cases q7
                    · skip
                      go_wp2_with fail
                      go_ret
                      exact ⟨ret_bool (by rw [HD.out]; rfl), H12.out.bel⟩
                    · skip
                      go_wp2_with fail
                      refine (xref_same_any a.body b.body _ _ _ (Dat.H.later HB1.out HZ12.out) (Dat.H.later HB2.out HZ12.out)).mono ?_
                      rintro e w13 ⟨rfl, hb⟩
                      rw [HQ8.out]
                      have H13 := Lib.hid (H12.out.later hb)
                      have HZ13 := Lib.hid (HZ12.out.trans (hb.mono HZ12.out.size))
                      clear hb H12 HZ12 x14 x15 x16 x17 x18 x19 x20 x21 y14 y15 y16 y17 y18 y19 y20 y21
                      have x14 := H13.out.one 14 _ rfl
                      have x15 := H13.out.one 15 _ rfl
                      have x16 := H13.out.one 16 _ rfl
                      have x17 := H13.out.one 17 _ rfl
                      have x18 := H13.out.one 18 _ rfl
                      have x19 := H13.out.one 19 _ rfl
                      have x20 := H13.out.one 20 _ rfl
                      have x21 := H13.out.one 21 _ rfl
                      have x22 := H13.out.one 22 _ rfl
                      have y14 := H13.out.two 14 _ rfl
                      have y15 := H13.out.two 15 _ rfl
                      have y16 := H13.out.two 16 _ rfl
                      have y17 := H13.out.two 17 _ rfl
                      have y18 := H13.out.two 18 _ rfl
                      have y19 := H13.out.two 19 _ rfl
                      have y20 := H13.out.two 20 _ rfl
                      have y21 := H13.out.two 21 _ rfl
                      have y22 := H13.out.two 22 _ rfl
                      cases q8
                      · skip
                        go_wp2_with fail
                        go_ret
                        exact ⟨ret_bool (by rw [HD.out]; rfl), H13.out.bel⟩
                      · skip
                        cases ex
                        · skip
                          go_wp2_with fail
                          go_ret
                          exact ⟨ret_bool (by rw [HD.out]; rfl), H13.out.bel⟩
                        · skip
                          cases q9
                          · skip
                            go_wp2_with fail
                            go_ret
                            exact ⟨ret_bool (by rw [HD.out]; rfl), H13.out.bel⟩
                          · skip
                            go_wp2_with fail
                            refine (xref_equal_any a.body b.body _ _ _ (Dat.H.later HB1.out HZ13.out) (Dat.H.later HB2.out HZ13.out)).mono ?_
                            rintro e w14 ⟨rfl, hb⟩
                            rw [HQ10.out]
                            have H14 := Lib.hid (H13.out.later hb)
                            have HZ14 := Lib.hid (HZ13.out.trans (hb.mono HZ13.out.size))
                            clear hb H13 HZ13 x14 x15 x16 x17 x18 x19 x20 x21 x22 y14 y15 y16 y17 y18 y19 y20 y21 y22
                            go_wp2_with fail
                            go_ret
                            exact ⟨ret_bool (by rw [HD.out]; rfl), H14.out.bel⟩
end Go.Proofs.YtjhlehdjdaphcaaDoor
