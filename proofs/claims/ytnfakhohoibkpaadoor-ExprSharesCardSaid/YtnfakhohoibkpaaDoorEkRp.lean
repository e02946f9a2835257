/- The walk of the law ExprReplaces: true, at every input. The condition: the table of words. -/
import Derived.Test.YtnfakhohoibkpaaDoorEkSu
import Derived.Test.YtnfakhohoibkpaaDoorExR
namespace Go.Proofs.YtnfakhohoibkpaaDoor
open Go.RowKit

set_option maxRecDepth 100000 in
set_option maxHeartbeats 16000000 in
theorem xreplaces_any (a : Ex) (us : List Value) (ns : List ByteArray) (es : List Ex) (N U : Option Addr) (nl ul nc uc : Nat) (w : World) (h1 : a.dat.H w us) (hN : Sl w N nl ns) (hU : RowH w 8 U ul (Ex.dats es)) (hF : Fits ns nl nc) (hE : ResVar w) :
    Calls Tryd.prog 5 #[.agg us.toArray, .slice N nl nc, .slice U ul uc] w fun e w' => e = .returned (.bool true) ∧ Below w.heap.size w w' := by
  have hx := OneX.new h1 27
  have HX := Lib.hid hx
  have HN := Lib.hid (hN.later hx.bel)
  have HU := Lib.hid (RowH.later hU hx.bel)
  have HE := Lib.hid (hE.later hx.bel)
  have HUL := Lib.hid (show es.length = ul from (Ex.dats_len es).symm.trans hU.len)
  obtain ⟨fa, hfa⟩ : ∃ x, a.few = x := ⟨_, rfl⟩
  have HFA := Lib.hid hfa
  have HFF := Lib.hid hF
  obtain ⟨za0, za1, za2, za3, za4, za5, za6, za7, rfl⟩ := ex_eight2 h1
  clear hx h1 hE hfa hN hU hF
  go_enter Tryd.func5, Tryd.ntmps5
  go_wp2_with fail
  generalize hW : w.alloc (.cells #[za0, za1, za2, za3, za4, za5, za6, za7] 27) = W at *
  clear hW
  refine (xawake_any _ HE.out).mono ?_
  rintro e w1 ⟨rfl, hb⟩
  have HE1 := Lib.hid (HE.out.later hb)
  have HN1 := Lib.hid (HN.out.later hb)
  have HU1 := Lib.hid (RowH.later HU.out hb)
  have HX1 := Lib.hid (HX.out.later hb)
  clear hb HE HN HU HX
  obtain ⟨x0, x1, x2, x3, x4, x5, x6, x7⟩ := HX1.out.one.c8
  go_wp2_with fail
  refine (xfew_any a _ _ HX1.out.da).mono ?_
  rintro e w2 ⟨rfl, hb⟩
  rw [HFA.out]
  have HE2 := Lib.hid (HE1.out.later hb)
  have HN2 := Lib.hid (HN1.out.later hb)
  have HU2 := Lib.hid (RowH.later HU1.out hb)
  have HX2 := Lib.hid (HX1.out.later hb)
  clear hb HE1 HN1 HU1 HX1
  clear x0 x1 x2 x3 x4 x5 x6 x7
  cases fa
  · skip
    go_wp2_with fail
    refine (xawake_any _ HE2.out).mono ?_
    rintro e w9 ⟨rfl, hb⟩
    have HB9 := Lib.hid (HX2.out.bel.trans (hb.mono HX2.out.bel.size))
    clear hb
    go_wp2_with fail
    go_ret
    exact ⟨rfl, HB9.out⟩
  obtain ⟨x0, x1, x2, x3, x4, x5, x6, x7⟩ := HX2.out.one.c8
  by_cases h20 : 10 < nl
  · have y0 : (10 : Int) < nl := by omega
    go_wp2_with fail
    refine (xawake_any _ HE2.out).mono ?_
    rintro e w9 ⟨rfl, hb⟩
    have HB9 := Lib.hid (HX2.out.bel.trans (hb.mono HX2.out.bel.size))
    clear hb
    go_wp2_with fail
    go_ret
    exact ⟨rfl, HB9.out⟩
  have y0 : (nl : Int) ≤ 10 := by omega
  by_cases h21 : 10 < ul
  · have y1 : (10 : Int) < ul := by omega
    go_wp2_with fail
    refine (xawake_any _ HE2.out).mono ?_
    rintro e w9 ⟨rfl, hb⟩
    have HB9 := Lib.hid (HX2.out.bel.trans (hb.mono HX2.out.bel.size))
    clear hb
    go_wp2_with fail
    go_ret
    exact ⟨rfl, HB9.out⟩
  have y1 : (ul : Int) ≤ 10 := by omega
  have WC := Lib.hid (show nl ≤ 10 ∧ ul ≤ 10 by omega)
  clear h20 h21 x0 x1 x2 x3 x4 x5 x6 x7
  go_wp2_with fail
  obtain ⟨X, hX⟩ : ∃ X, X = w2 := ⟨_, rfl⟩
  subst hX
  go_loopw [7] (fun i V => ∃ j : Nat, j ≤ ul ∧ i = .int .i64 j ∧ Below X.heap.size X V ∧ ∀ v ∈ es.take j, v.few = true) (fun i _ => ul - (intOf i).toNat)
  case atStart => exact ⟨0, Nat.zero_le _, rfl, Below.refl _ _, fun v hv => by simp at hv⟩
  case round =>
    obtain ⟨j, hj, rfl, hbel, hfew⟩ := hrel
    have HBL := Lib.hid hbel
    have HFW := Lib.hid hfew
    by_cases hlt : j < ul
    · have z0 : (0 : Int) ≤ j := by omega
      have z1 : (j : Int) < ul := by omega
      obtain ⟨p, z, zs, rfl, hz, hzp, _, hzd, hzc⟩ := kid_at (RowH.later HU2.out hbel) hlt
      have HZ := Lib.hid hz
      have C := Lib.hid (xfew_any z zs wr hzd)
      obtain ⟨A8, m8, a8, B8, l8, b8, C8, n8, c8, rfl, _⟩ := ex_open hzd
      obtain ⟨w0, w1c, w2c, w3c, w4c, w5c, w6c, w7c⟩ := cells8_at hzc
      obtain ⟨fz, hfz⟩ : ∃ x, z.few = x := ⟨_, rfl⟩
      have HFZ := Lib.hid hfz
      clear hz hzp hzd hzc hbel hfew hfz
      go_wp2_with fail
      refine C.out.mono ?_
      rintro e w3 ⟨rfl, hb⟩
      rw [HFZ.out]
      have HB3 := Lib.hid (HBL.out.trans (hb.mono HBL.out.size))
      clear hb
      cases fz
      · skip
        go_wp2_with fail
        go_ret
        exact ⟨rfl, HX2.out.bel.trans (HB3.out.mono HX2.out.bel.size)⟩
      · skip
        go_wp2_with fail
        go_roundw
        case rel =>
          refine ⟨j + 1, by omega, by go_num, HB3.out, fun v hv => ?_⟩
          rw [List.take_add_one, HZ.out] at hv
          rcases List.mem_append.1 hv with hv | hv
          · exact HFW.out v hv
          · obtain rfl : v = z := by simpa using hv
            exact HFZ.out
        case measure => simp [intOf]; omega
    · have z1 : (ul : Int) ≤ j := by omega
      have hfe : ∀ v ∈ es, v.few = true := fun v hv => hfew v (by rwa [List.take_of_length_le (by rw [HUL.out]; omega)])
      have HX4 := Lib.hid (HX2.out.later hbel)
      have HN4 := Lib.hid (HN2.out.later hbel)
      have HU4 := Lib.hid (RowH.later HU2.out hbel)
      have WA := Lib.hid (xfew_wt2 HFA.out)
      have WB := Lib.hid (fun v hv => xfew_wt2 (hfe v hv))
      clear hbel hfew hfe HBL HFW
      obtain ⟨x0, x1, x2, x3, x4, x5, x6, x7⟩ := HX4.out.one.c8
      have l0 := cell_lt x0
      have CS := Lib.hid (fun (V : World) (hV : Below wr.heap.size wr V) => (show Calls Tryd.prog 25 #[.agg #[za0, za1, za2, za3, za4, za5, za6, za7], .slice N nl nc, .slice U ul uc] V _ from xreplace_any a _ ns es N U nl ul nc uc V (Nat.le_trans WA.out (by omega)) (fun v hv => Nat.le_trans (WB.out v hv) (by omega)) (by have := WC.out; omega) HFF.out (Dat.H.later HX4.out.da hV) (HN4.out.later hV) (RowH.later HU4.out hV)))
      have CR := Lib.hid (fun (V : World) (hV : Below wr.heap.size wr V) => (show Calls Tryd.prog 26 #[.agg #[za0, za1, za2, za3, za4, za5, za6, za7], .slice N nl nc, .slice U ul uc] V _ from xref_replace_any ns es N U nl ul nc uc (fun v hv => Nat.le_trans (WB.out v hv) (by omega)) (by have := WC.out; omega) (by have := WC.out; omega) a _ V (Nat.le_trans WA.out (by omega)) (Dat.H.later HX4.out.da hV) (HN4.out.later hV) (RowH.later HU4.out hV)))
      have CC := Lib.hid (fun (V : World) (hV : Below wr.heap.size wr V) => (show Calls Tryd.prog 25 #[.agg #[za0, za1, za2, za3, za4, za5, za6, za7], .slice none 0 0, .slice none 0 0] V (XPost V a) by
        have h := xreplace_any a _ [] [] none none 0 0 0 0 V (Nat.le_trans WA.out (by omega)) (fun v hv => by cases hv) (by omega) fits_nil (Dat.H.later HX4.out.da hV) (sl_none V) (Row.nil _ _ _ _ _)
        rwa [Ex.repl_none] at h))
      have HD := Lib.hid (fun (V : World) (hV : Below wr.heap.size wr V) => Dat.H.later HX4.out.da hV)
      have HBX := Lib.hid HX4.out.bel
      have SS : Below wr.heap.size wr wr ∧ wr.cell? ⟨w.heap.size, 0, none⟩ = some za0 ∧ wr.cell? ⟨w.heap.size, 1, none⟩ = some za1 ∧ wr.cell? ⟨w.heap.size, 2, none⟩ = some za2 ∧ wr.cell? ⟨w.heap.size, 3, none⟩ = some za3 ∧ wr.cell? ⟨w.heap.size, 4, none⟩ = some za4 ∧ wr.cell? ⟨w.heap.size, 5, none⟩ = some za5 ∧ wr.cell? ⟨w.heap.size, 6, none⟩ = some za6 ∧ wr.cell? ⟨w.heap.size, 7, none⟩ = some za7 := ⟨Below.refl _ _, x0, x1, x2, x3, x4, x5, x6, x7⟩
      have KP := Lib.hid (show ∀ V : World, Below wr.heap.size wr V → Below wr.heap.size wr V ∧ V.cell? ⟨w.heap.size, 0, none⟩ = some za0 ∧ V.cell? ⟨w.heap.size, 1, none⟩ = some za1 ∧ V.cell? ⟨w.heap.size, 2, none⟩ = some za2 ∧ V.cell? ⟨w.heap.size, 3, none⟩ = some za3 ∧ V.cell? ⟨w.heap.size, 4, none⟩ = some za4 ∧ V.cell? ⟨w.heap.size, 5, none⟩ = some za5 ∧ V.cell? ⟨w.heap.size, 6, none⟩ = some za6 ∧ V.cell? ⟨w.heap.size, 7, none⟩ = some za7 from fun V h => ⟨h, (h.cell (p := ⟨w.heap.size, 0, none⟩) l0).trans x0, (h.cell (p := ⟨w.heap.size, 1, none⟩) l0).trans x1, (h.cell (p := ⟨w.heap.size, 2, none⟩) l0).trans x2, (h.cell (p := ⟨w.heap.size, 3, none⟩) l0).trans x3, (h.cell (p := ⟨w.heap.size, 4, none⟩) l0).trans x4, (h.cell (p := ⟨w.heap.size, 5, none⟩) l0).trans x5, (h.cell (p := ⟨w.heap.size, 6, none⟩) l0).trans x6, (h.cell (p := ⟨w.heap.size, 7, none⟩) l0).trans x7⟩)
      clear WA WB WC HE2 HN2 HU2 HX2 HX4 HN4 HU4 HFA HFF HUL
      go_wp2_with fail
      refine wp_region_held_drew (S := fun W => Below wr.heap.size wr W ∧ W.cell? ⟨w.heap.size, 0, none⟩ = some za0 ∧ W.cell? ⟨w.heap.size, 1, none⟩ = some za1 ∧ W.cell? ⟨w.heap.size, 2, none⟩ = some za2 ∧ W.cell? ⟨w.heap.size, 3, none⟩ = some za3 ∧ W.cell? ⟨w.heap.size, 4, none⟩ = some za4 ∧ W.cell? ⟨w.heap.size, 5, none⟩ = some za5 ∧ W.cell? ⟨w.heap.size, 6, none⟩ = some za6 ∧ W.cell? ⟨w.heap.size, 7, none⟩ = some za7) (by kernel_rfl) (by first | exact SS | exact ⟨SS.1.drew, SS.2⟩) (fun hS => ?_)
      first
      | (refine wpAnyH_take (i := 0) (v := ?_) rfl (by kernel_rfl) (by kernel_rfl) (by kernel_rfl) (fun _ _ _ h => h) (Or.inl ⟨by rfl, ?_⟩) (by assumption) ?_
         rotate_left
         · (intro V hV; obtain ⟨_, x0, x1, x2, x3, x4, x5, x6, x7⟩ := hV; go_simp; try with_reducible rfl)
         try simp only [Act.put, List.getElem_toArray, List.getElem_cons_zero, List.setIfInBounds_toArray, List.set_cons_zero, List.set_cons_succ])
      | (refine wpAnyH_take (i := 0) (v := undef) rfl (by kernel_rfl) (by kernel_rfl) (by kernel_rfl) (fun _ _ _ h => h) (Or.inr ⟨by rfl, rfl⟩) (by assumption) ?_
         try simp only [Act.put, List.getElem_toArray, List.getElem_cons_zero, List.setIfInBounds_toArray, List.set_cons_zero, List.set_cons_succ])
      | fail "take 0"
      first
      | (refine wpAnyH_take (i := 1) (v := ?_) rfl (by kernel_rfl) (by kernel_rfl) (by kernel_rfl) (fun _ _ _ h => h) (Or.inl ⟨by rfl, ?_⟩) (by assumption) ?_
         rotate_left
         · (intro V hV; obtain ⟨_, x0, x1, x2, x3, x4, x5, x6, x7⟩ := hV; go_simp; try with_reducible rfl)
         try simp only [Act.put, List.getElem_toArray, List.getElem_cons_zero, List.getElem_cons_succ, List.setIfInBounds_toArray, List.set_cons_zero, List.set_cons_succ])
      | (refine wpAnyH_take (i := 1) (v := undef) rfl (by kernel_rfl) (by kernel_rfl) (by kernel_rfl) (fun _ _ _ h => h) (Or.inr ⟨by rfl, rfl⟩) (by assumption) ?_
         try simp only [Act.put, List.getElem_toArray, List.getElem_cons_zero, List.getElem_cons_succ, List.setIfInBounds_toArray, List.set_cons_zero, List.set_cons_succ])
      | fail "take 1"
      first
      | (refine wpAnyH_take (i := 2) (v := ?_) rfl (by kernel_rfl) (by kernel_rfl) (by kernel_rfl) (fun _ _ _ h => h) (Or.inl ⟨by rfl, ?_⟩) (by assumption) ?_
         rotate_left
         · (intro V hV; obtain ⟨_, x0, x1, x2, x3, x4, x5, x6, x7⟩ := hV; go_simp; try with_reducible rfl)
         try simp only [Act.put, List.getElem_toArray, List.getElem_cons_zero, List.getElem_cons_succ, List.setIfInBounds_toArray, List.set_cons_zero, List.set_cons_succ])
      | (refine wpAnyH_take (i := 2) (v := undef) rfl (by kernel_rfl) (by kernel_rfl) (by kernel_rfl) (fun _ _ _ h => h) (Or.inr ⟨by rfl, rfl⟩) (by assumption) ?_
         try simp only [Act.put, List.getElem_toArray, List.getElem_cons_zero, List.getElem_cons_succ, List.setIfInBounds_toArray, List.set_cons_zero, List.set_cons_succ])
      | fail "take 2"
      first
      | (refine wpAnyH_take (i := 4) (v := ?_) rfl (by kernel_rfl) (by kernel_rfl) (by kernel_rfl) (fun _ _ _ h => h) (Or.inl ⟨by rfl, ?_⟩) (by assumption) ?_
         rotate_left
         · (intro V hV; obtain ⟨_, x0, x1, x2, x3, x4, x5, x6, x7⟩ := hV; go_simp; try with_reducible rfl)
         try simp only [Act.put, List.getElem_toArray, List.getElem_cons_zero, List.getElem_cons_succ, List.setIfInBounds_toArray, List.set_cons_zero, List.set_cons_succ])
      | (refine wpAnyH_take (i := 4) (v := undef) rfl (by kernel_rfl) (by kernel_rfl) (by kernel_rfl) (fun _ _ _ h => h) (Or.inr ⟨by rfl, rfl⟩) (by assumption) ?_
         try simp only [Act.put, List.getElem_toArray, List.getElem_cons_zero, List.getElem_cons_succ, List.setIfInBounds_toArray, List.set_cons_zero, List.set_cons_succ])
      | fail "take 4"
      first
      | (refine wpAnyH_take (i := 5) (v := ?_) rfl (by kernel_rfl) (by kernel_rfl) (by kernel_rfl) (fun _ _ _ h => h) (Or.inl ⟨by rfl, ?_⟩) (by assumption) ?_
         rotate_left
         · (intro V hV; obtain ⟨_, x0, x1, x2, x3, x4, x5, x6, x7⟩ := hV; go_simp; try with_reducible rfl)
         try simp only [Act.put, List.getElem_toArray, List.getElem_cons_zero, List.getElem_cons_succ, List.setIfInBounds_toArray, List.set_cons_zero, List.set_cons_succ])
      | (refine wpAnyH_take (i := 5) (v := undef) rfl (by kernel_rfl) (by kernel_rfl) (by kernel_rfl) (fun _ _ _ h => h) (Or.inr ⟨by rfl, rfl⟩) (by assumption) ?_
         try simp only [Act.put, List.getElem_toArray, List.getElem_cons_zero, List.getElem_cons_succ, List.setIfInBounds_toArray, List.set_cons_zero, List.set_cons_succ])
      | fail "take 5"
      first
      | (refine wpAnyH_take (i := 6) (v := ?_) rfl (by kernel_rfl) (by kernel_rfl) (by kernel_rfl) (fun _ _ _ h => h) (Or.inl ⟨by rfl, ?_⟩) (by assumption) ?_
         rotate_left
         · (intro V hV; obtain ⟨_, x0, x1, x2, x3, x4, x5, x6, x7⟩ := hV; go_simp; try with_reducible rfl)
         try simp only [Act.put, List.getElem_toArray, List.getElem_cons_zero, List.getElem_cons_succ, List.setIfInBounds_toArray, List.set_cons_zero, List.set_cons_succ])
      | (refine wpAnyH_take (i := 6) (v := undef) rfl (by kernel_rfl) (by kernel_rfl) (by kernel_rfl) (fun _ _ _ h => h) (Or.inr ⟨by rfl, rfl⟩) (by assumption) ?_
         try simp only [Act.put, List.getElem_toArray, List.getElem_cons_zero, List.getElem_cons_succ, List.setIfInBounds_toArray, List.set_cons_zero, List.set_cons_succ])
      | fail "take 6"
      refine wpAnyH_ready (rs := [3]) (by kernel_rfl) (by simp) ?_
      refine AllReadyH.cons rfl (fun K hK => ?_) AllReadyH.nil
      go_simp
      refine (CS.out _ hS.1).mono ?_
      rintro e wS ⟨qs, rfl, hq, hb⟩
      obtain ⟨q0, q1, q2, q3, q4, q5, q6, q7, rfl⟩ := ex_eight2 hq
      have HQ := Lib.hid (show (a.repl ns es).dat.H wS _ from hq.wide fun b h => h.2)
      have SS := KP.out wS (hS.1.trans (hb.mono hS.1.size))
      clear hS hb hq
      refine hK.out _ _ SS (fun hS => ?_)
      clear hK K
      try simp only [Act.put, List.getElem_toArray, List.getElem_cons_zero, List.getElem_cons_succ, List.setIfInBounds_toArray, List.set_cons_zero, List.set_cons_succ]
      refine wpAnyH_ready (rs := [7]) (by kernel_rfl) (by simp) ?_
      refine AllReadyH.cons rfl (fun K hK => ?_) AllReadyH.nil
      go_simp
      refine (CR.out _ hS.1).mono ?_
      rintro e wR ⟨ps, rfl, hp, hb⟩
      obtain ⟨p0, p1, p2, p3, p4, p5, p6, p7, rfl⟩ := ex_eight2 hp
      have HP := Lib.hid (show (a.repl ns es).dat.H wR _ from hp.plain.wide fun b h => h.2)
      have HQ2 := Lib.hid (Dat.H.later HQ.out hb)
      have SS := KP.out wR (hS.1.trans (hb.mono hS.1.size))
      clear hS hb hp HQ
      refine hK.out _ _ SS (fun hS => ?_)
      clear hK K
      try simp only [Act.put, List.getElem_toArray, List.getElem_cons_zero, List.getElem_cons_succ, List.setIfInBounds_toArray, List.set_cons_zero, List.set_cons_succ]
      refine wpAnyH_ready (rs := [8]) (by kernel_rfl) (by simp) ?_
      refine AllReadyH.cons rfl (fun K hK => ?_) AllReadyH.nil
      go_simp
      refine (xref_equal_any _ _ _ _ _ HQ2.out HP.out).mono ?_
      rintro e wE ⟨rfl, hb⟩
      rw [eqv_self]
      have SS := KP.out wE (hS.1.trans (hb.mono hS.1.size))
      clear hS hb HQ2 HP
      refine hK.out _ _ SS (fun hS => ?_)
      clear hK K
      try simp only [Act.put, List.getElem_toArray, List.getElem_cons_zero, List.getElem_cons_succ, List.setIfInBounds_toArray, List.set_cons_zero, List.set_cons_succ]
      first
      | (refine wpAnyH_take (i := 9) (v := ?_) rfl (by kernel_rfl) (by kernel_rfl) (by kernel_rfl) (fun _ _ _ h => h) (Or.inl ⟨by rfl, ?_⟩) (by assumption) ?_
         rotate_left
         · (intro V hV; obtain ⟨_, x0, x1, x2, x3, x4, x5, x6, x7⟩ := hV; go_simp; try with_reducible rfl)
         try simp only [Act.put, List.getElem_toArray, List.getElem_cons_zero, List.getElem_cons_succ, List.setIfInBounds_toArray, List.set_cons_zero, List.set_cons_succ])
      | (refine wpAnyH_take (i := 9) (v := undef) rfl (by kernel_rfl) (by kernel_rfl) (by kernel_rfl) (fun _ _ _ h => h) (Or.inr ⟨by rfl, rfl⟩) (by assumption) ?_
         try simp only [Act.put, List.getElem_toArray, List.getElem_cons_zero, List.getElem_cons_succ, List.setIfInBounds_toArray, List.set_cons_zero, List.set_cons_succ])
      | fail "take 9"
      first
      | (refine wpAnyH_take (i := 10) (v := ?_) rfl (by kernel_rfl) (by kernel_rfl) (by kernel_rfl) (fun _ _ _ h => h) (Or.inl ⟨by rfl, ?_⟩) (by assumption) ?_
         rotate_left
         · (intro V hV; obtain ⟨_, x0, x1, x2, x3, x4, x5, x6, x7⟩ := hV; go_simp; try with_reducible rfl)
         try simp only [Act.put, List.getElem_toArray, List.getElem_cons_zero, List.getElem_cons_succ, List.setIfInBounds_toArray, List.set_cons_zero, List.set_cons_succ])
      | (refine wpAnyH_take (i := 10) (v := undef) rfl (by kernel_rfl) (by kernel_rfl) (by kernel_rfl) (fun _ _ _ h => h) (Or.inr ⟨by rfl, rfl⟩) (by assumption) ?_
         try simp only [Act.put, List.getElem_toArray, List.getElem_cons_zero, List.getElem_cons_succ, List.setIfInBounds_toArray, List.set_cons_zero, List.set_cons_succ])
      | fail "take 10"
      first
      | (refine wpAnyH_take (i := 12) (v := ?_) rfl (by kernel_rfl) (by kernel_rfl) (by kernel_rfl) (fun _ _ _ h => h) (Or.inl ⟨by rfl, ?_⟩) (by assumption) ?_
         rotate_left
         · (intro V hV; obtain ⟨_, x0, x1, x2, x3, x4, x5, x6, x7⟩ := hV; go_simp; try with_reducible rfl)
         try simp only [Act.put, List.getElem_toArray, List.getElem_cons_zero, List.getElem_cons_succ, List.setIfInBounds_toArray, List.set_cons_zero, List.set_cons_succ])
      | (refine wpAnyH_take (i := 12) (v := undef) rfl (by kernel_rfl) (by kernel_rfl) (by kernel_rfl) (fun _ _ _ h => h) (Or.inr ⟨by rfl, rfl⟩) (by assumption) ?_
         try simp only [Act.put, List.getElem_toArray, List.getElem_cons_zero, List.getElem_cons_succ, List.setIfInBounds_toArray, List.set_cons_zero, List.set_cons_succ])
      | fail "take 12"
      refine wpAnyH_ready (rs := [11]) (by kernel_rfl) (by simp) ?_
      refine AllReadyH.cons rfl (fun K hK => ?_) AllReadyH.nil
      go_simp
      refine (CC.out _ hS.1).mono ?_
      rintro e wC ⟨qs, rfl, hq, hb⟩
      obtain ⟨c0, c1, c2, c3, c4, c5, c6, c7, rfl⟩ := ex_eight2 hq
      have HQ := Lib.hid (show a.dat.H wC _ from hq.wide fun b h => h.2)
      have SS := KP.out wC (hS.1.trans (hb.mono hS.1.size))
      clear hS hb hq
      refine hK.out _ _ SS (fun hS => ?_)
      clear hK K
      try simp only [Act.put, List.getElem_toArray, List.getElem_cons_zero, List.getElem_cons_succ, List.setIfInBounds_toArray, List.set_cons_zero, List.set_cons_succ]
      refine wpAnyH_ready (rs := [13]) (by kernel_rfl) (by simp) ?_
      refine AllReadyH.cons rfl (fun K hK => ?_) AllReadyH.nil
      go_simp
      refine (xref_equal_any _ _ _ _ _ HQ.out (HD.out _ hS.1)).mono ?_
      rintro e wF ⟨rfl, hb⟩
      rw [eqv_self]
      have SS := KP.out wF (hS.1.trans (hb.mono hS.1.size))
      clear hS hb HQ
      refine hK.out _ _ SS (fun hS => ?_)
      clear hK K
      try simp only [Act.put, List.getElem_toArray, List.getElem_cons_zero, List.getElem_cons_succ, List.setIfInBounds_toArray, List.set_cons_zero, List.set_cons_succ]
      first
      | (refine wpAnyH_take (i := 14) (v := ?_) rfl (by kernel_rfl) (by kernel_rfl) (by kernel_rfl) (fun _ _ _ h => h) (Or.inl ⟨by rfl, ?_⟩) (by assumption) ?_
         rotate_left
         · (intro V hV; obtain ⟨_, x0, x1, x2, x3, x4, x5, x6, x7⟩ := hV; go_simp; try with_reducible rfl)
         try simp only [Act.put, List.getElem_toArray, List.getElem_cons_zero, List.getElem_cons_succ, List.setIfInBounds_toArray, List.set_cons_zero, List.set_cons_succ])
      | (refine wpAnyH_take (i := 14) (v := undef) rfl (by kernel_rfl) (by kernel_rfl) (by kernel_rfl) (fun _ _ _ h => h) (Or.inr ⟨by rfl, rfl⟩) (by assumption) ?_
         try simp only [Act.put, List.getElem_toArray, List.getElem_cons_zero, List.getElem_cons_succ, List.setIfInBounds_toArray, List.set_cons_zero, List.set_cons_succ])
      | fail "take 14"
      first
      | (refine wpAnyH_take (i := 15) (v := ?_) rfl (by kernel_rfl) (by kernel_rfl) (by kernel_rfl) (fun _ _ _ h => h) (Or.inl ⟨by rfl, ?_⟩) (by assumption) ?_
         rotate_left
         · (intro V hV; obtain ⟨_, x0, x1, x2, x3, x4, x5, x6, x7⟩ := hV; go_simp; try with_reducible rfl)
         try simp only [Act.put, List.getElem_toArray, List.getElem_cons_zero, List.getElem_cons_succ, List.setIfInBounds_toArray, List.set_cons_zero, List.set_cons_succ])
      | (refine wpAnyH_take (i := 15) (v := undef) rfl (by kernel_rfl) (by kernel_rfl) (by kernel_rfl) (fun _ _ _ h => h) (Or.inr ⟨by rfl, rfl⟩) (by assumption) ?_
         try simp only [Act.put, List.getElem_toArray, List.getElem_cons_zero, List.getElem_cons_succ, List.setIfInBounds_toArray, List.set_cons_zero, List.set_cons_succ])
      | fail "take 15"
      refine wpAnyH_done (by kernel_rfl) ?_ _
      go_wp2
      go_ret
      exact ⟨rfl, HBX.out.trans (Below.mono hS.1 HBX.out.size)⟩
end Go.Proofs.YtnfakhohoibkpaaDoor
