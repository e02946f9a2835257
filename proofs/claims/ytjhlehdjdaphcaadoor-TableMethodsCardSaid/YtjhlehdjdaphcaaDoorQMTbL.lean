/- The walk of table.New once more, with the capacities of the rows of variables; law11.sigs. The condition: few parts. -/
import Derived.Test.YtjhlehdjdaphcaaDoorQMTbC
import Derived.Test.YtjhlehdjdaphcaaDoorQMTbF
namespace Go.Proofs.YtjhlehdjdaphcaaDoor
open Go.RowKit

/-- The rows of variables of a table's declarations: no longer than their capacities. -/
def CapsAt (lo : Nat) (w : World) (tb : Nat) : Prop := ∀ D n c, w.cell? ⟨tb, 0, none⟩ = some (.slice (some D) n c) → ∀ i, i < n → D.block < lo ∧ ∀ V nv cv, w.cell? ⟨(D.add (i * 23)).block, (D.add (i * 23)).off + 6, none⟩ = some (.slice V nv cv) → nv ≤ cv
def TncPost (w : World) (p : Pg) (e : Ending) (w' : World) : Prop := ∃ tb, e = .returned (.pointer (some ⟨tb, 0, none⟩)) ∧ TabH w'.heap.size w' tb p ∧ CapsAt w'.heap.size w' tb ∧ Below w.heap.size w w'
set_option maxRecDepth 100000 in
set_option maxHeartbeats 8000000 in
theorem tnewC_any (p : Pg) (us : List Value) (w : World) (hw : p.wt ≤ 1990) (h : p.dat.H w us) : Calls Tryd.prog 11 #[.agg us.toArray] w (TncPost w p) := by
  have hmm := @run_makeMap Tryd.prog
  obtain ⟨W0, hW0⟩ : ∃ W0, w.alloc (.cells us.toArray 30) = W0 := ⟨_, rfl⟩
  have hb0 : Below w.heap.size w W0 := hW0 ▸ (Below.refl _ _).alloc (Nat.le_refl _) _
  have hbx : Boxd W0 w.heap.size us := hW0 ▸ Boxd.new w us.toArray 30
  have HL0 := Lib.hid (show us.length = 9 from (Dat.In.len _ _ h).trans (Pg.dat_size _))
  have HX0 := Lib.hid hbx.at0
  have C := Lib.hid (clonePgC_any p us W0 hw (Dat.H.later h hb0))
  have HW0 := Lib.hid hW0
  have HB0 := Lib.hid hb0
  have HWT := Lib.hid hw
  clear hW0 hb0 hbx h hw
  go_enter Tryd.func11, Tryd.ntmps11
  go_upto_region 1 with fail
  rw [HW0.out]
  clear HW0
  go_wp2_with (refine loadOp flatPg 1 10 rfl HX0.out HL0.out ?_)
  refine C.out.mono ?_
  rintro e w1 ⟨vs, rfl, hdC, hb1⟩
  have hd := pgC_dat hdC
  have hd1 := hd
  obtain ⟨a0, a1, a2, a3, a4, a5, a6, a7, a8, rfl⟩ := pg_let hd
  obtain ⟨DD, nd, cd, bv, hq, hrd, _⟩ := pg_open hd
  obtain ⟨rfl, rfl⟩ := List.cons.inj hq
  obtain ⟨DD2, nd2, cd2, bv2, hq2, hrdC, _⟩ := pgC_open hdC
  obtain ⟨hq3, hq4⟩ := List.cons.inj hq2
  clear hq4
  injection hq3 with e1 e2 e3
  subst e1 e2 e3
  have hdl := hrd.len
  rw [List.length_map] at hdl
  obtain ⟨g1, hg1⟩ : ∃ g, g = w1.heap.size := ⟨_, rfl⟩
  obtain ⟨g2, hg2⟩ : ∃ g, g = w1.heap.size + 1 := ⟨_, rfl⟩
  obtain ⟨tb, htb⟩ : ∃ g, g = w1.heap.size + 1 + 1 := ⟨_, rfl⟩
  obtain ⟨W3, hW3⟩ : ∃ W3, ((w1.alloc (.map #[] 0)).alloc (.map #[] 0)).alloc (.cells #[.slice DD nd cd, a1, a2, a3, a4, a5, a6, a7, a8, .map (some w1.heap.size), .map (some (w1.heap.size + 1))] 77) = W3 := ⟨_, rfl⟩
  have ha : Below w1.heap.size w1 (w1.alloc (.map #[] 0)) := (Below.refl _ _).alloc (Nat.le_refl _) _
  have hz1 : (w1.alloc (.map #[] 0)).heap.size = w1.heap.size + 1 := by simp
  have hb : Below (w1.alloc (.map #[] 0)).heap.size (w1.alloc (.map #[] 0)) ((w1.alloc (.map #[] 0)).alloc (.map #[] 0)) := (Below.refl _ _).alloc (Nat.le_refl _) _
  have hz2 : ((w1.alloc (.map #[] 0)).alloc (.map #[] 0)).heap.size = w1.heap.size + 1 + 1 := by simp
  have hc : Below ((w1.alloc (.map #[] 0)).alloc (.map #[] 0)).heap.size ((w1.alloc (.map #[] 0)).alloc (.map #[] 0)) W3 := hW3 ▸ (Below.refl _ _).alloc (Nat.le_refl _) _
  have hz3 : W3.heap.size = w1.heap.size + 3 := by rw [← hW3]; simp
  have hf3 : FirstAt W3 g1 0 (fun _ => none) := by
    rw [hg1]
    exact ((FirstAt.made w1).later hb).later hc
  have hm3 : MethOwn W3 W3.heap.size W3.heap.size g2 0 (fun _ => []) := by
    have h1 := MethOwn.made (w1.alloc (.map #[] 0)) W3.heap.size W3.heap.size (by omega)
    rw [hz1] at h1
    rw [hg2]
    exact h1.below hc
  have hbx3 : Boxd W3 tb [.slice DD nd cd, a1, a2, a3, a4, a5, a6, a7, a8, .map (some g1), .map (some g2)] := by
    have h1 := Boxd.new ((w1.alloc (.map #[] 0)).alloc (.map #[] 0)) #[.slice DD nd cd, a1, a2, a3, a4, a5, a6, a7, a8, .map (some w1.heap.size), .map (some (w1.heap.size + 1))] 77
    rw [hW3, hz2, ← htb, ← hg2, ← hg1] at h1
    exact h1
  have hbel3 : Below w1.heap.size w1 W3 := (ha.trans (hb.mono ha.size)).trans (hc.mono (by omega))
  have hb01 := HB0.out.trans (hb1.mono HB0.out.size)
  have hN3 : TnAt w W3 W3 W3.heap.size g1 g2 0 (idxK (p.ds.take 0)) (fun l => mlist p.ds l 0) := ⟨hf3, hm3, Nat.le_refl _, fun _ _ _ _ => rfl, hb01.trans (hbel3.mono hb01.size), Nat.le_refl _, by have := hb01.size; omega, by have := hb01.size; omega, by omega, by omega⟩
  have HN3 := Lib.hid hN3
  have HCR := Lib.hid (show ∀ D, DD = some D → ∀ i, i < nd → ∀ V nv cv, W3.cell? ⟨(D.add (i * 23)).block, (D.add (i * 23)).off + 6, none⟩ = some (.slice V nv cv) → (D.add (i * 23)).block < w1.heap.size ∧ nv ≤ cv from fun D hD i hi V nv cv hc => by
    obtain ⟨pu, d, ps, hA, _, hbk, _, hin, hcs⟩ := dat_at hrdC hi
    rw [hD] at hA
    obtain rfl := Option.some.inj hA
    have hblk : (D.add (i * 23)).block < w1.heap.size := by rw [block_of_add]; exact hbk.2
    obtain ⟨_, _, _, _, _, _, _, _, _, _, _, _, _, _, Vq, nv2, cv2, _, _, _, u6, _, _, _, _⟩ := dc_c (datC_dat hin)
    have h1 := at_off hcs u6 (by omega)
    have h2 := datC_cap hin u6
    rw [hbel3.cell (by exact hblk)] at hc
    rw [h1] at hc
    injection hc with hc
    injection hc with _ e2 e3
    rw [← e2, ← e3]
    exact ⟨hblk, h2⟩)
  have HDB := Lib.hid (show ∀ D, DD = some D → 0 < nd → D.block < w1.heap.size from fun D hD h0 => by
    obtain ⟨pu, d, ps, hA, _, hbk, _⟩ := dat_at hrdC h0
    rw [hD] at hA
    obtain rfl := Option.some.inj hA
    exact hbk.2)
  have HD3 := Lib.hid (show p.dat.In W3 False (· < w1.heap.size) _ from (Dat.In.later hd hbel3 fun k hk => hk.2).wide fun b hb => hb.2)
  have HBX3 := Lib.hid hbx3
  have HC9 := Lib.hid (hbx3 9 _ rfl)
  have HC10 := Lib.hid (hbx3 10 _ rfl)
  have x0 := hbx3 0 _ rfl
  have HW3 := Lib.hid hW3
  have HR3 := Lib.hid (show Row W3 False (· < w1.heap.size) 23 DD nd (p.ds.map Dc.dat) from (Row.later hrd hbel3 fun k hk => hk.2).wide fun b hb => hb.2)
  have HDL := Lib.hid hdl
  have HND := Lib.hid (show nd ≤ 1990 by have := Pg.len_d p; have := HWT.out; omega)
  have hndi : (nd : Int) ≤ 1990 := by have := HND.out; omega
  have HZ3 := Lib.hid hz3
  have HQ := Lib.hid (show tb < W3.heap.size ∧ tb ≠ g1 ∧ tb ≠ g2 ∧ w1.heap.size ≤ g1 ∧ w1.heap.size ≤ g2 ∧ W3.heap.size = w1.heap.size + 3 ∧ g1 < W3.heap.size ∧ g2 < W3.heap.size from ⟨by omega, by omega, by omega, by omega, by omega, by omega, by omega, by omega⟩)
  clear hdC hrdC hq2 hd hd1 hrd hq ha hb hc hf3 hm3 hbx3 hbel3 hb01 hN3 hW3 hdl hb1 C hz1 hz2
  go_upto_region 2 with fail
  rw [HW3.out, ← htb, ← hg2, ← hg1]
  clear HW3 htb hg1 hg2
  go_wp2_with fail
  clear hmm x0
  go_loopw [22] (fun i wr => ∃ k : Nat, k ≤ nd ∧ i = .int .i64 k ∧ TnAt w W3 wr wr.heap.size g1 g2 (2 * k) (idxK (p.ds.take k)) (fun l => mlist p.ds l k)) (fun i _ => nd - (intOf i).toNat)
  case atStart => exact ⟨0, by omega, rfl, HN3.out⟩
  case round =>
    obtain ⟨k, hk, rfl, hN⟩ := hrel
    have HN := Lib.hid hN
    have HKL := Lib.hid (show k ≤ 1990 by have := HND.out; omega)
    have y1 : (0 : Int) ≤ k := by omega
    by_cases hlt : k < nd
    · have y0 : (k : Int) < nd := by omega
      have hRr : Row wr False (· < w1.heap.size) 23 DD nd (p.ds.map Dc.dat) := HR3.out.keep id (kept_of fun b hb => hN.kp b (by have hb : b < w1.heap.size := hb; have := HQ.out; omega) (by have hb : b < w1.heap.size := hb; have := HQ.out; omega) (by have hb : b < w1.heap.size := hb; have := HQ.out; omega)) fun _ h => h
      obtain ⟨pu, d, ps, rfl, hx, _, _, hu, hcs⟩ := dat_at hRr hlt
      have hwr : w1.heap.size ≤ wr.heap.size := by have := hN.size; have := HQ.out; omega
      obtain ⟨W4, hP4⟩ := putZ z23 52 wr (us := ps) (dc_len hu)
      have CK := Lib.hid (keyOf_any d ps W4 (Dat.H.later (hu.wide fun b hb => Nat.lt_of_lt_of_le hb hwr) hP4.bel))
      have HLU := Lib.hid (dc_len hu)
      have HOU := Lib.hid (dc_cells hu)
      have HF := Lib.hid hcs
      have HP4 := Lib.hid hP4
      have HX4 := Lib.hid hP4.box.at0
      have HN4 := Lib.hid (hN.later hP4.bel)
      have HX := Lib.hid hx
      have HZ5 := Lib.hid (show W3.heap.size ≤ W4.heap.size by have := hN.size; have := hP4.bel.size; omega)
      have HWR4 := Lib.hid hP4.bel.size
      clear hRr hx hu hcs hP4 hN hwr hk
      go_wp2_with (first
        | (refine loadOp flatDc 25 26 rfl HF.out HLU.out ?_)
        | (refine storeOp flatDc 5 26 (b := wr.heap.size) (o := 0) (us := ps) rfl rfl HP4.out.there HOU.out HLU.out ?_; rw [HP4.out.eq])
        | (refine loadOp flatDc 5 28 rfl HX4.out HLU.out ?_))
      refine CK.out.mono ?_
      rintro e w5 ⟨b, s, m, rfl, hky, hs, hm, hb5⟩
      obtain ⟨W6, hP6⟩ := putZ #[.bool false, .string ⟨#[]⟩, .string ⟨#[]⟩] 79 w5 (us := [.bool b, .string s, .string m]) rfl
      have HP6 := Lib.hid hP6
      have HN6 := Lib.hid ((HN4.out.later hb5).later hP6.bel)
      have HX6 := Lib.hid hP6.box
      have HKY := Lib.hid hky
      have HSS := Lib.hid hs
      have HMM := Lib.hid hm
      have HW6S := Lib.hid (show w5.heap.size < W6.heap.size from Boxd.lt hP6.box)
      have HZ5 := Lib.hid (Nat.le_trans HZ5.out hb5.size)
      have HWR5 := Lib.hid (Nat.le_trans HWR4.out hb5.size)
      have hl5 := HZ5.out
      have hl3 := HZ3.out
      clear hky hs hm hb5 hP6 CK HP4 HX4 HF HN4
      cases hkk : d.ky with
      | none =>
        have HST := Lib.hid (ky_none_step HX.out hkk)
        rw [show (none : Option Ky).isSome = false from rfl]
        clear hkk
        go_upto_region 6 with (refine storeOp flatKy 6 30 (b := w5.heap.size) (o := 0) (us := [.bool b, .string s, .string m]) rfl rfl HP6.out.there ky_one rfl ?_; rw [HP6.out.eq])
        clear HP6
        cases hix : idxK (p.ds.take k) (kyK b s m) with
        | none =>
          have HLK := Lib.hid (fun (V : World) (hV : FirstAt V g1 (2 * k) (idxK (p.ds.take k))) => (by have hl := hV.look b HSS.out HMM.out; rw [hix] at hl; exact hl : (Instr.lookup 74 (.map (some g1)) (kyV b s m) true).run Tryd.prog V = .ok (.tuple #[.int .i64 0, .bool false]) V))
          clear hix
          go_wp2_with fail
          refine wp_region_held_drew (S := fun V => V.cell? ⟨tb, 9, none⟩ = some (.map (some g1)) ∧ CellsAt V ⟨w5.heap.size, 0, none⟩ [.bool b, .string s, .string m] ∧ FirstAt V g1 (2 * k) (idxK (p.ds.take k))) (by kernel_rfl) ⟨(HN6.out.later (Below.refl _ _).drew).cell HC9.out HQ.out.1 HQ.out.2.1 HQ.out.2.2.1, (HX6.out.later (Below.refl _ _).drew).at0, (HN6.out.later (Below.refl _ _).drew).first⟩ (fun hS => ?_)
          have HN7 := Lib.hid (HN6.out.later (Below.refl W6.heap.size W6).drew)
          have HX7 := Lib.hid (HX6.out.later (Below.refl W6.heap.size W6).drew)
          have HZ7 := Lib.hid (show W6.heap.size ≤ W6.drew.heap.size from (Below.refl W6.heap.size W6).drew.size)
          generalize W6.drew = W7 at *
          refine wpAnyH_take (i := 0) (v := ?_) rfl (by kernel_rfl) (by kernel_rfl) (by kernel_rfl) (fun _ _ _ h => h) (Or.inl ⟨by rfl, ?_⟩) (by assumption) ?_
          rotate_left
          · (intro V hV; go_simp; try with_reducible rfl)
          try simp only [Act.put, List.getElem_toArray, List.getElem_cons_zero, List.setIfInBounds_toArray, List.set_cons_zero, List.set_cons_succ]
          refine wpAnyH_take (i := 1) (v := ?_) rfl (by kernel_rfl) (by kernel_rfl) (by kernel_rfl) (fun _ _ _ h => h) (Or.inl ⟨by rfl, ?_⟩) (by assumption) ?_
          rotate_left
          · (intro V hV; go_simp; try with_reducible rfl)
          try simp only [Act.put, List.getElem_toArray, List.getElem_cons_zero, List.getElem_cons_succ, List.setIfInBounds_toArray, List.set_cons_zero, List.set_cons_succ]
          refine wpAnyH_take (i := 2) (v := ?_) rfl (by kernel_rfl) (by kernel_rfl) (by kernel_rfl) (fun _ _ _ h => h) (Or.inl ⟨by rfl, ?_⟩) (by assumption) ?_
          rotate_left
          · (intro V hV; go_simp; try with_reducible rfl)
          try simp only [Act.put, List.getElem_toArray, List.getElem_cons_zero, List.getElem_cons_succ, List.setIfInBounds_toArray, List.set_cons_zero, List.set_cons_succ]
          refine wpAnyH_take (i := 3) (v := ?_) rfl (by kernel_rfl) (by kernel_rfl) (by kernel_rfl) (fun _ _ _ h => h) (Or.inl ⟨by rfl, ?_⟩) (by assumption) ?_
          rotate_left
          · (intro V hV; obtain ⟨k1, k2, k3⟩ := hV; go_simp; try with_reducible rfl)
          try simp only [Act.put, List.getElem_toArray, List.getElem_cons_zero, List.getElem_cons_succ, List.setIfInBounds_toArray, List.set_cons_zero, List.set_cons_succ]
          refine wpAnyH_take (i := 4) (v := .agg ([.bool b, .string s, .string m] : List Value).toArray) rfl (by kernel_rfl) (by kernel_rfl) (by kernel_rfl) (fun _ _ _ h => h) (Or.inl ⟨by rfl, fun V hV => loadYieldB flatKy rfl hV.2.1 rfl⟩) (by assumption) ?_
          try simp only [Act.put, List.getElem_toArray, List.getElem_cons_zero, List.getElem_cons_succ, List.setIfInBounds_toArray, List.set_cons_zero, List.set_cons_succ]
          refine wpAnyH_take (i := 5) (v := ?_) rfl (by kernel_rfl) (by kernel_rfl) (by kernel_rfl) (fun _ _ _ h => h) (Or.inl ⟨by rfl, ?_⟩) (by assumption) ?_
          rotate_left
          · (intro V hV; have hl := HLK.out V hV.2.2; go_simp; try with_reducible rfl)
          try simp only [Act.put, List.getElem_toArray, List.getElem_cons_zero, List.getElem_cons_succ, List.setIfInBounds_toArray, List.set_cons_zero, List.set_cons_succ]
          refine wpAnyH_take (i := 6) (v := ?_) rfl (by kernel_rfl) (by kernel_rfl) (by kernel_rfl) (fun _ _ _ h => h) (Or.inl ⟨by rfl, ?_⟩) (by assumption) ?_
          rotate_left
          · (intro V hV; go_simp; try with_reducible rfl)
          try simp only [Act.put, List.getElem_toArray, List.getElem_cons_zero, List.getElem_cons_succ, List.setIfInBounds_toArray, List.set_cons_zero, List.set_cons_succ]
          refine wpAnyH_take (i := 7) (v := ?_) rfl (by kernel_rfl) (by kernel_rfl) (by kernel_rfl) (fun _ _ _ h => h) (Or.inl ⟨by rfl, ?_⟩) (by assumption) ?_
          rotate_left
          · (intro V hV; go_simp; try with_reducible rfl)
          try simp only [Act.put, List.getElem_toArray, List.getElem_cons_zero, List.getElem_cons_succ, List.setIfInBounds_toArray, List.set_cons_zero, List.set_cons_succ]
          refine wpAnyH_take (i := 8) (v := ?_) rfl (by kernel_rfl) (by kernel_rfl) (by kernel_rfl) (fun _ _ _ h => h) (Or.inl ⟨by rfl, ?_⟩) (by assumption) ?_
          rotate_left
          · (intro V hV; go_simp; try with_reducible rfl)
          try simp only [Act.put, List.getElem_toArray, List.getElem_cons_zero, List.getElem_cons_succ, List.setIfInBounds_toArray, List.set_cons_zero, List.set_cons_succ]
          refine wpAnyH_take (i := 9) (v := ?_) rfl (by kernel_rfl) (by kernel_rfl) (by kernel_rfl) (fun _ _ _ h => h) (Or.inl ⟨by rfl, ?_⟩) (by assumption) ?_
          rotate_left
          · (intro V hV; go_simp; try with_reducible rfl)
          try simp only [Act.put, List.getElem_toArray, List.getElem_cons_zero, List.getElem_cons_succ, List.setIfInBounds_toArray, List.set_cons_zero, List.set_cons_succ]
          refine wpAnyH_take (i := 10) (v := ?_) rfl (by kernel_rfl) (by kernel_rfl) (by kernel_rfl) (fun _ _ _ h => h) (Or.inl ⟨by rfl, ?_⟩) (by assumption) ?_
          rotate_left
          · (intro V hV; go_simp; try with_reducible rfl)
          try simp only [Act.put, List.getElem_toArray, List.getElem_cons_zero, List.getElem_cons_succ, List.setIfInBounds_toArray, List.set_cons_zero, List.set_cons_succ]
          refine wpAnyH_done (by kernel_rfl) ?_ _
          clear hS
          go_wp2_with fail
          go_roundw
          case rel => exact ⟨k + 1, by omega, by go_num, HN7.out.mono (by omega) HST.out.1 HST.out.2⟩
          case measure => simp [intOf]; omega
        | some j =>
          have HLK := Lib.hid (fun (V : World) (hV : FirstAt V g1 (2 * k) (idxK (p.ds.take k))) => (by have hl := hV.look b HSS.out HMM.out; rw [hix] at hl; exact hl : (Instr.lookup 74 (.map (some g1)) (kyV b s m) true).run Tryd.prog V = .ok (.tuple #[.int .i64 (j : Int), .bool true]) V))
          clear hix
          go_wp2_with fail
          refine wp_region_held_drew (S := fun V => V.cell? ⟨tb, 9, none⟩ = some (.map (some g1)) ∧ CellsAt V ⟨w5.heap.size, 0, none⟩ [.bool b, .string s, .string m] ∧ FirstAt V g1 (2 * k) (idxK (p.ds.take k))) (by kernel_rfl) ⟨(HN6.out.later (Below.refl _ _).drew).cell HC9.out HQ.out.1 HQ.out.2.1 HQ.out.2.2.1, (HX6.out.later (Below.refl _ _).drew).at0, (HN6.out.later (Below.refl _ _).drew).first⟩ (fun hS => ?_)
          have HN7 := Lib.hid (HN6.out.later (Below.refl W6.heap.size W6).drew)
          have HX7 := Lib.hid (HX6.out.later (Below.refl W6.heap.size W6).drew)
          have HZ7 := Lib.hid (show W6.heap.size ≤ W6.drew.heap.size from (Below.refl W6.heap.size W6).drew.size)
          generalize W6.drew = W7 at *
          refine wpAnyH_take (i := 0) (v := ?_) rfl (by kernel_rfl) (by kernel_rfl) (by kernel_rfl) (fun _ _ _ h => h) (Or.inl ⟨by rfl, ?_⟩) (by assumption) ?_
          rotate_left
          · (intro V hV; go_simp; try with_reducible rfl)
          try simp only [Act.put, List.getElem_toArray, List.getElem_cons_zero, List.setIfInBounds_toArray, List.set_cons_zero, List.set_cons_succ]
          refine wpAnyH_take (i := 1) (v := ?_) rfl (by kernel_rfl) (by kernel_rfl) (by kernel_rfl) (fun _ _ _ h => h) (Or.inl ⟨by rfl, ?_⟩) (by assumption) ?_
          rotate_left
          · (intro V hV; go_simp; try with_reducible rfl)
          try simp only [Act.put, List.getElem_toArray, List.getElem_cons_zero, List.getElem_cons_succ, List.setIfInBounds_toArray, List.set_cons_zero, List.set_cons_succ]
          refine wpAnyH_take (i := 2) (v := ?_) rfl (by kernel_rfl) (by kernel_rfl) (by kernel_rfl) (fun _ _ _ h => h) (Or.inl ⟨by rfl, ?_⟩) (by assumption) ?_
          rotate_left
          · (intro V hV; go_simp; try with_reducible rfl)
          try simp only [Act.put, List.getElem_toArray, List.getElem_cons_zero, List.getElem_cons_succ, List.setIfInBounds_toArray, List.set_cons_zero, List.set_cons_succ]
          refine wpAnyH_take (i := 3) (v := ?_) rfl (by kernel_rfl) (by kernel_rfl) (by kernel_rfl) (fun _ _ _ h => h) (Or.inl ⟨by rfl, ?_⟩) (by assumption) ?_
          rotate_left
          · (intro V hV; obtain ⟨k1, k2, k3⟩ := hV; go_simp; try with_reducible rfl)
          try simp only [Act.put, List.getElem_toArray, List.getElem_cons_zero, List.getElem_cons_succ, List.setIfInBounds_toArray, List.set_cons_zero, List.set_cons_succ]
          refine wpAnyH_take (i := 4) (v := .agg ([.bool b, .string s, .string m] : List Value).toArray) rfl (by kernel_rfl) (by kernel_rfl) (by kernel_rfl) (fun _ _ _ h => h) (Or.inl ⟨by rfl, fun V hV => loadYieldB flatKy rfl hV.2.1 rfl⟩) (by assumption) ?_
          try simp only [Act.put, List.getElem_toArray, List.getElem_cons_zero, List.getElem_cons_succ, List.setIfInBounds_toArray, List.set_cons_zero, List.set_cons_succ]
          refine wpAnyH_take (i := 5) (v := ?_) rfl (by kernel_rfl) (by kernel_rfl) (by kernel_rfl) (fun _ _ _ h => h) (Or.inl ⟨by rfl, ?_⟩) (by assumption) ?_
          rotate_left
          · (intro V hV; have hl := HLK.out V hV.2.2; go_simp; try with_reducible rfl)
          try simp only [Act.put, List.getElem_toArray, List.getElem_cons_zero, List.getElem_cons_succ, List.setIfInBounds_toArray, List.set_cons_zero, List.set_cons_succ]
          refine wpAnyH_take (i := 6) (v := ?_) rfl (by kernel_rfl) (by kernel_rfl) (by kernel_rfl) (fun _ _ _ h => h) (Or.inl ⟨by rfl, ?_⟩) (by assumption) ?_
          rotate_left
          · (intro V hV; go_simp; try with_reducible rfl)
          try simp only [Act.put, List.getElem_toArray, List.getElem_cons_zero, List.getElem_cons_succ, List.setIfInBounds_toArray, List.set_cons_zero, List.set_cons_succ]
          refine wpAnyH_take (i := 7) (v := ?_) rfl (by kernel_rfl) (by kernel_rfl) (by kernel_rfl) (fun _ _ _ h => h) (Or.inl ⟨by rfl, ?_⟩) (by assumption) ?_
          rotate_left
          · (intro V hV; go_simp; try with_reducible rfl)
          try simp only [Act.put, List.getElem_toArray, List.getElem_cons_zero, List.getElem_cons_succ, List.setIfInBounds_toArray, List.set_cons_zero, List.set_cons_succ]
          refine wpAnyH_take (i := 8) (v := ?_) rfl (by kernel_rfl) (by kernel_rfl) (by kernel_rfl) (fun _ _ _ h => h) (Or.inl ⟨by rfl, ?_⟩) (by assumption) ?_
          rotate_left
          · (intro V hV; go_simp; try with_reducible rfl)
          try simp only [Act.put, List.getElem_toArray, List.getElem_cons_zero, List.getElem_cons_succ, List.setIfInBounds_toArray, List.set_cons_zero, List.set_cons_succ]
          refine wpAnyH_take (i := 9) (v := ?_) rfl (by kernel_rfl) (by kernel_rfl) (by kernel_rfl) (fun _ _ _ h => h) (Or.inl ⟨by rfl, ?_⟩) (by assumption) ?_
          rotate_left
          · (intro V hV; go_simp; try with_reducible rfl)
          try simp only [Act.put, List.getElem_toArray, List.getElem_cons_zero, List.getElem_cons_succ, List.setIfInBounds_toArray, List.set_cons_zero, List.set_cons_succ]
          refine wpAnyH_take (i := 10) (v := ?_) rfl (by kernel_rfl) (by kernel_rfl) (by kernel_rfl) (fun _ _ _ h => h) (Or.inl ⟨by rfl, ?_⟩) (by assumption) ?_
          rotate_left
          · (intro V hV; go_simp; try with_reducible rfl)
          try simp only [Act.put, List.getElem_toArray, List.getElem_cons_zero, List.getElem_cons_succ, List.setIfInBounds_toArray, List.set_cons_zero, List.set_cons_succ]
          refine wpAnyH_done (by kernel_rfl) ?_ _
          clear hS
          go_wp2_with fail
          go_roundw
          case rel => exact ⟨k + 1, by omega, by go_num, HN7.out.mono (by omega) HST.out.1 HST.out.2⟩
          case measure => simp [intOf]; omega
      | some x =>
        obtain rfl := HKY.out x hkk
        rw [show (some (kyK b s m) : Option Ky).isSome = true from rfl]
        go_upto_region 6 with (refine storeOp flatKy 6 30 (b := w5.heap.size) (o := 0) (us := [.bool b, .string s, .string m]) rfl rfl HP6.out.there ky_one rfl ?_; rw [HP6.out.eq])
        clear HP6
        cases hix : idxK (p.ds.take k) (kyK b s m) with
        | some j =>
          have HST := Lib.hid (ky_old_step HX.out hkk hix)
          have HLK := Lib.hid (fun (V : World) (hV : FirstAt V g1 (2 * k) (idxK (p.ds.take k))) => (by have hl := hV.look b HSS.out HMM.out; rw [hix] at hl; exact hl : (Instr.lookup 74 (.map (some g1)) (kyV b s m) true).run Tryd.prog V = .ok (.tuple #[.int .i64 (j : Int), .bool true]) V))
          clear hix
          clear hkk
          go_wp2_with fail
          refine wp_region_held_drew (S := fun V => V.cell? ⟨tb, 9, none⟩ = some (.map (some g1)) ∧ CellsAt V ⟨w5.heap.size, 0, none⟩ [.bool b, .string s, .string m] ∧ FirstAt V g1 (2 * k) (idxK (p.ds.take k))) (by kernel_rfl) ⟨(HN6.out.later (Below.refl _ _).drew).cell HC9.out HQ.out.1 HQ.out.2.1 HQ.out.2.2.1, (HX6.out.later (Below.refl _ _).drew).at0, (HN6.out.later (Below.refl _ _).drew).first⟩ (fun hS => ?_)
          have HN7 := Lib.hid (HN6.out.later (Below.refl W6.heap.size W6).drew)
          have HX7 := Lib.hid (HX6.out.later (Below.refl W6.heap.size W6).drew)
          have HZ7 := Lib.hid (show W6.heap.size ≤ W6.drew.heap.size from (Below.refl W6.heap.size W6).drew.size)
          generalize W6.drew = W7 at *
          refine wpAnyH_take (i := 0) (v := ?_) rfl (by kernel_rfl) (by kernel_rfl) (by kernel_rfl) (fun _ _ _ h => h) (Or.inl ⟨by rfl, ?_⟩) (by assumption) ?_
          rotate_left
          · (intro V hV; go_simp; try with_reducible rfl)
          try simp only [Act.put, List.getElem_toArray, List.getElem_cons_zero, List.setIfInBounds_toArray, List.set_cons_zero, List.set_cons_succ]
          refine wpAnyH_take (i := 1) (v := ?_) rfl (by kernel_rfl) (by kernel_rfl) (by kernel_rfl) (fun _ _ _ h => h) (Or.inl ⟨by rfl, ?_⟩) (by assumption) ?_
          rotate_left
          · (intro V hV; go_simp; try with_reducible rfl)
          try simp only [Act.put, List.getElem_toArray, List.getElem_cons_zero, List.getElem_cons_succ, List.setIfInBounds_toArray, List.set_cons_zero, List.set_cons_succ]
          refine wpAnyH_take (i := 2) (v := ?_) rfl (by kernel_rfl) (by kernel_rfl) (by kernel_rfl) (fun _ _ _ h => h) (Or.inl ⟨by rfl, ?_⟩) (by assumption) ?_
          rotate_left
          · (intro V hV; go_simp; try with_reducible rfl)
          try simp only [Act.put, List.getElem_toArray, List.getElem_cons_zero, List.getElem_cons_succ, List.setIfInBounds_toArray, List.set_cons_zero, List.set_cons_succ]
          refine wpAnyH_take (i := 3) (v := ?_) rfl (by kernel_rfl) (by kernel_rfl) (by kernel_rfl) (fun _ _ _ h => h) (Or.inl ⟨by rfl, ?_⟩) (by assumption) ?_
          rotate_left
          · (intro V hV; obtain ⟨k1, k2, k3⟩ := hV; go_simp; try with_reducible rfl)
          try simp only [Act.put, List.getElem_toArray, List.getElem_cons_zero, List.getElem_cons_succ, List.setIfInBounds_toArray, List.set_cons_zero, List.set_cons_succ]
          refine wpAnyH_take (i := 4) (v := .agg ([.bool b, .string s, .string m] : List Value).toArray) rfl (by kernel_rfl) (by kernel_rfl) (by kernel_rfl) (fun _ _ _ h => h) (Or.inl ⟨by rfl, fun V hV => loadYieldB flatKy rfl hV.2.1 rfl⟩) (by assumption) ?_
          try simp only [Act.put, List.getElem_toArray, List.getElem_cons_zero, List.getElem_cons_succ, List.setIfInBounds_toArray, List.set_cons_zero, List.set_cons_succ]
          refine wpAnyH_take (i := 5) (v := ?_) rfl (by kernel_rfl) (by kernel_rfl) (by kernel_rfl) (fun _ _ _ h => h) (Or.inl ⟨by rfl, ?_⟩) (by assumption) ?_
          rotate_left
          · (intro V hV; have hl := HLK.out V hV.2.2; go_simp; try with_reducible rfl)
          try simp only [Act.put, List.getElem_toArray, List.getElem_cons_zero, List.getElem_cons_succ, List.setIfInBounds_toArray, List.set_cons_zero, List.set_cons_succ]
          refine wpAnyH_take (i := 6) (v := ?_) rfl (by kernel_rfl) (by kernel_rfl) (by kernel_rfl) (fun _ _ _ h => h) (Or.inl ⟨by rfl, ?_⟩) (by assumption) ?_
          rotate_left
          · (intro V hV; go_simp; try with_reducible rfl)
          try simp only [Act.put, List.getElem_toArray, List.getElem_cons_zero, List.getElem_cons_succ, List.setIfInBounds_toArray, List.set_cons_zero, List.set_cons_succ]
          refine wpAnyH_take (i := 7) (v := ?_) rfl (by kernel_rfl) (by kernel_rfl) (by kernel_rfl) (fun _ _ _ h => h) (Or.inl ⟨by rfl, ?_⟩) (by assumption) ?_
          rotate_left
          · (intro V hV; go_simp; try with_reducible rfl)
          try simp only [Act.put, List.getElem_toArray, List.getElem_cons_zero, List.getElem_cons_succ, List.setIfInBounds_toArray, List.set_cons_zero, List.set_cons_succ]
          refine wpAnyH_take (i := 8) (v := ?_) rfl (by kernel_rfl) (by kernel_rfl) (by kernel_rfl) (fun _ _ _ h => h) (Or.inl ⟨by rfl, ?_⟩) (by assumption) ?_
          rotate_left
          · (intro V hV; go_simp; try with_reducible rfl)
          try simp only [Act.put, List.getElem_toArray, List.getElem_cons_zero, List.getElem_cons_succ, List.setIfInBounds_toArray, List.set_cons_zero, List.set_cons_succ]
          refine wpAnyH_take (i := 9) (v := ?_) rfl (by kernel_rfl) (by kernel_rfl) (by kernel_rfl) (fun _ _ _ h => h) (Or.inl ⟨by rfl, ?_⟩) (by assumption) ?_
          rotate_left
          · (intro V hV; go_simp; try with_reducible rfl)
          try simp only [Act.put, List.getElem_toArray, List.getElem_cons_zero, List.getElem_cons_succ, List.setIfInBounds_toArray, List.set_cons_zero, List.set_cons_succ]
          refine wpAnyH_take (i := 10) (v := ?_) rfl (by kernel_rfl) (by kernel_rfl) (by kernel_rfl) (fun _ _ _ h => h) (Or.inl ⟨by rfl, ?_⟩) (by assumption) ?_
          rotate_left
          · (intro V hV; go_simp; try with_reducible rfl)
          try simp only [Act.put, List.getElem_toArray, List.getElem_cons_zero, List.getElem_cons_succ, List.setIfInBounds_toArray, List.set_cons_zero, List.set_cons_succ]
          refine wpAnyH_done (by kernel_rfl) ?_ _
          clear hS
          go_wp2_with fail
          go_roundw
          case rel => exact ⟨k + 1, by omega, by go_num, HN7.out.mono (by omega) HST.out.1 HST.out.2⟩
          case measure => simp [intOf]; omega
        | none =>
          have HST := Lib.hid (ky_new_step HX.out hkk hix)
          have HIX := Lib.hid hix
          have HLK := Lib.hid (fun (V : World) (hV : FirstAt V g1 (2 * k) (idxK (p.ds.take k))) => (by have hl := hV.look b HSS.out HMM.out; rw [hix] at hl; exact hl : (Instr.lookup 74 (.map (some g1)) (kyV b s m) true).run Tryd.prog V = .ok (.tuple #[.int .i64 0, .bool false]) V))
          clear hix
          clear hkk
          go_wp2_with fail
          refine wp_region_held_drew (S := fun V => V.cell? ⟨tb, 9, none⟩ = some (.map (some g1)) ∧ CellsAt V ⟨w5.heap.size, 0, none⟩ [.bool b, .string s, .string m] ∧ FirstAt V g1 (2 * k) (idxK (p.ds.take k))) (by kernel_rfl) ⟨(HN6.out.later (Below.refl _ _).drew).cell HC9.out HQ.out.1 HQ.out.2.1 HQ.out.2.2.1, (HX6.out.later (Below.refl _ _).drew).at0, (HN6.out.later (Below.refl _ _).drew).first⟩ (fun hS => ?_)
          have HN7 := Lib.hid (HN6.out.later (Below.refl W6.heap.size W6).drew)
          have HX7 := Lib.hid (HX6.out.later (Below.refl W6.heap.size W6).drew)
          have HZ7 := Lib.hid (show W6.heap.size ≤ W6.drew.heap.size from (Below.refl W6.heap.size W6).drew.size)
          generalize W6.drew = W7 at *
          refine wpAnyH_take (i := 0) (v := ?_) rfl (by kernel_rfl) (by kernel_rfl) (by kernel_rfl) (fun _ _ _ h => h) (Or.inl ⟨by rfl, ?_⟩) (by assumption) ?_
          rotate_left
          · (intro V hV; go_simp; try with_reducible rfl)
          try simp only [Act.put, List.getElem_toArray, List.getElem_cons_zero, List.setIfInBounds_toArray, List.set_cons_zero, List.set_cons_succ]
          refine wpAnyH_take (i := 1) (v := ?_) rfl (by kernel_rfl) (by kernel_rfl) (by kernel_rfl) (fun _ _ _ h => h) (Or.inl ⟨by rfl, ?_⟩) (by assumption) ?_
          rotate_left
          · (intro V hV; go_simp; try with_reducible rfl)
          try simp only [Act.put, List.getElem_toArray, List.getElem_cons_zero, List.getElem_cons_succ, List.setIfInBounds_toArray, List.set_cons_zero, List.set_cons_succ]
          refine wpAnyH_take (i := 2) (v := ?_) rfl (by kernel_rfl) (by kernel_rfl) (by kernel_rfl) (fun _ _ _ h => h) (Or.inl ⟨by rfl, ?_⟩) (by assumption) ?_
          rotate_left
          · (intro V hV; go_simp; try with_reducible rfl)
          try simp only [Act.put, List.getElem_toArray, List.getElem_cons_zero, List.getElem_cons_succ, List.setIfInBounds_toArray, List.set_cons_zero, List.set_cons_succ]
          refine wpAnyH_take (i := 3) (v := ?_) rfl (by kernel_rfl) (by kernel_rfl) (by kernel_rfl) (fun _ _ _ h => h) (Or.inl ⟨by rfl, ?_⟩) (by assumption) ?_
          rotate_left
          · (intro V hV; obtain ⟨k1, k2, k3⟩ := hV; go_simp; try with_reducible rfl)
          try simp only [Act.put, List.getElem_toArray, List.getElem_cons_zero, List.getElem_cons_succ, List.setIfInBounds_toArray, List.set_cons_zero, List.set_cons_succ]
          refine wpAnyH_take (i := 4) (v := .agg ([.bool b, .string s, .string m] : List Value).toArray) rfl (by kernel_rfl) (by kernel_rfl) (by kernel_rfl) (fun _ _ _ h => h) (Or.inl ⟨by rfl, fun V hV => loadYieldB flatKy rfl hV.2.1 rfl⟩) (by assumption) ?_
          try simp only [Act.put, List.getElem_toArray, List.getElem_cons_zero, List.getElem_cons_succ, List.setIfInBounds_toArray, List.set_cons_zero, List.set_cons_succ]
          refine wpAnyH_take (i := 5) (v := ?_) rfl (by kernel_rfl) (by kernel_rfl) (by kernel_rfl) (fun _ _ _ h => h) (Or.inl ⟨by rfl, ?_⟩) (by assumption) ?_
          rotate_left
          · (intro V hV; have hl := HLK.out V hV.2.2; go_simp; try with_reducible rfl)
          try simp only [Act.put, List.getElem_toArray, List.getElem_cons_zero, List.getElem_cons_succ, List.setIfInBounds_toArray, List.set_cons_zero, List.set_cons_succ]
          refine wpAnyH_take (i := 6) (v := ?_) rfl (by kernel_rfl) (by kernel_rfl) (by kernel_rfl) (fun _ _ _ h => h) (Or.inl ⟨by rfl, ?_⟩) (by assumption) ?_
          rotate_left
          · (intro V hV; go_simp; try with_reducible rfl)
          try simp only [Act.put, List.getElem_toArray, List.getElem_cons_zero, List.getElem_cons_succ, List.setIfInBounds_toArray, List.set_cons_zero, List.set_cons_succ]
          refine wpAnyH_take (i := 7) (v := ?_) rfl (by kernel_rfl) (by kernel_rfl) (by kernel_rfl) (fun _ _ _ h => h) (Or.inl ⟨by rfl, ?_⟩) (by assumption) ?_
          rotate_left
          · (intro V hV; go_simp; try with_reducible rfl)
          try simp only [Act.put, List.getElem_toArray, List.getElem_cons_zero, List.getElem_cons_succ, List.setIfInBounds_toArray, List.set_cons_zero, List.set_cons_succ]
          refine wpAnyH_take (i := 8) (v := ?_) rfl (by kernel_rfl) (by kernel_rfl) (by kernel_rfl) (fun _ _ _ h => h) (Or.inl ⟨by rfl, ?_⟩) (by assumption) ?_
          rotate_left
          · (intro V hV; go_simp; try with_reducible rfl)
          try simp only [Act.put, List.getElem_toArray, List.getElem_cons_zero, List.getElem_cons_succ, List.setIfInBounds_toArray, List.set_cons_zero, List.set_cons_succ]
          refine wpAnyH_take (i := 9) (v := ?_) rfl (by kernel_rfl) (by kernel_rfl) (by kernel_rfl) (fun _ _ _ h => h) (Or.inl ⟨by rfl, ?_⟩) (by assumption) ?_
          rotate_left
          · (intro V hV; go_simp; try with_reducible rfl)
          try simp only [Act.put, List.getElem_toArray, List.getElem_cons_zero, List.getElem_cons_succ, List.setIfInBounds_toArray, List.set_cons_zero, List.set_cons_succ]
          refine wpAnyH_take (i := 10) (v := ?_) rfl (by kernel_rfl) (by kernel_rfl) (by kernel_rfl) (fun _ _ _ h => h) (Or.inl ⟨by rfl, ?_⟩) (by assumption) ?_
          rotate_left
          · (intro V hV; go_simp; try with_reducible rfl)
          try simp only [Act.put, List.getElem_toArray, List.getElem_cons_zero, List.getElem_cons_succ, List.setIfInBounds_toArray, List.set_cons_zero, List.set_cons_succ]
          refine wpAnyH_done (by kernel_rfl) ?_ _
          clear hS
          go_upto_region 8 with fail
          have HN8 := Lib.hid (HN7.out.later (Below.refl W7.heap.size W7).drew)
          have HX8 := Lib.hid (HX7.out.later (Below.refl W7.heap.size W7).drew)
          have HZ8 := Lib.hid (show W7.heap.size ≤ W7.drew.heap.size from (Below.refl W7.heap.size W7).drew.size)
          go_wp2_with fail
          refine wp_region_held_drew (S := fun V => V.cell? ⟨tb, 9, none⟩ = some (.map (some g1)) ∧ CellsAt V ⟨w5.heap.size, 0, none⟩ [.bool b, .string s, .string m]) (by kernel_rfl) ⟨HN8.out.cell HC9.out HQ.out.1 HQ.out.2.1 HQ.out.2.2.1, HX8.out.at0⟩ (fun hS => ?_)
          generalize W7.drew = W8 at *
          refine wpAnyH_take (i := 0) (v := ?_) rfl (by kernel_rfl) (by kernel_rfl) (by kernel_rfl) (fun _ _ _ h => h) (Or.inl ⟨by rfl, ?_⟩) (by assumption) ?_
          rotate_left
          · (intro V hV; go_simp; try with_reducible rfl)
          try simp only [Act.put, List.getElem_toArray, List.getElem_cons_zero, List.setIfInBounds_toArray, List.set_cons_zero, List.set_cons_succ]
          refine wpAnyH_take (i := 1) (v := ?_) rfl (by kernel_rfl) (by kernel_rfl) (by kernel_rfl) (fun _ _ _ h => h) (Or.inl ⟨by rfl, ?_⟩) (by assumption) ?_
          rotate_left
          · (intro V hV; go_simp; try with_reducible rfl)
          try simp only [Act.put, List.getElem_toArray, List.getElem_cons_zero, List.getElem_cons_succ, List.setIfInBounds_toArray, List.set_cons_zero, List.set_cons_succ]
          refine wpAnyH_take (i := 2) (v := ?_) rfl (by kernel_rfl) (by kernel_rfl) (by kernel_rfl) (fun _ _ _ h => h) (Or.inl ⟨by rfl, ?_⟩) (by assumption) ?_
          rotate_left
          · (intro V hV; go_simp; try with_reducible rfl)
          try simp only [Act.put, List.getElem_toArray, List.getElem_cons_zero, List.getElem_cons_succ, List.setIfInBounds_toArray, List.set_cons_zero, List.set_cons_succ]
          refine wpAnyH_take (i := 3) (v := ?_) rfl (by kernel_rfl) (by kernel_rfl) (by kernel_rfl) (fun _ _ _ h => h) (Or.inl ⟨by rfl, ?_⟩) (by assumption) ?_
          rotate_left
          · (intro V hV; obtain ⟨k1, k2⟩ := hV; go_simp; try with_reducible rfl)
          try simp only [Act.put, List.getElem_toArray, List.getElem_cons_zero, List.getElem_cons_succ, List.setIfInBounds_toArray, List.set_cons_zero, List.set_cons_succ]
          refine wpAnyH_take (i := 4) (v := .agg ([.bool b, .string s, .string m] : List Value).toArray) rfl (by kernel_rfl) (by kernel_rfl) (by kernel_rfl) (fun _ _ _ h => h) (Or.inl ⟨by rfl, fun V hV => loadYieldB flatKy rfl hV.2 rfl⟩) (by assumption) ?_
          try simp only [Act.put, List.getElem_toArray, List.getElem_cons_zero, List.getElem_cons_succ, List.setIfInBounds_toArray, List.set_cons_zero, List.set_cons_succ]
          refine wpAnyH_take (i := 5) (v := ?_) rfl (by kernel_rfl) (by kernel_rfl) (by kernel_rfl) (fun _ _ _ h => h) (Or.inl ⟨by rfl, ?_⟩) (by assumption) ?_
          rotate_left
          · (intro V hV; go_simp; try with_reducible rfl)
          try simp only [Act.put, List.getElem_toArray, List.getElem_cons_zero, List.getElem_cons_succ, List.setIfInBounds_toArray, List.set_cons_zero, List.set_cons_succ]
          obtain ⟨W9, hrun9, hN9, hg9⟩ := HN8.out.put1 b HSS.out HMM.out HIX.out (by have := HKL.out; omega) k
          have HN9 := Lib.hid hN9
          have HX9 := Lib.hid (show Boxd W9 w5.heap.size [.bool b, .string s, .string m] from fun j u hu => ((kept_of (S := (· = w5.heap.size)) (fun c hc => hg9.block c (by have hc : c = _ := hc; have := HZ7.out; have := HZ8.out; have := HW6S.out; omega) (by have hc : c = _ := hc; have := HZ5.out; have := HQ.out; intro e; have := Option.some.inj e; omega)) ⟨w5.heap.size, j, none⟩ rfl).1).trans (HX8.out j u hu))
          have HZ9 := Lib.hid hg9.size
          clear hN9 hg9
          refine wpAnyH_ready (rs := [6]) (by kernel_rfl) (by simp) ?_
          refine AllReadyH.cons rfl (fun K hK => ?_) (AllReadyH.nil)
          go_simp
          clear hrun9
          have SS := (show W9.cell? ⟨tb, 9, none⟩ = some (.map (some g1)) ∧ CellsAt W9 ⟨w5.heap.size, 0, none⟩ [.bool b, .string s, .string m] from ⟨HN9.out.cell HC9.out HQ.out.1 HQ.out.2.1 HQ.out.2.2.1, HX9.out.at0⟩)
          refine hK.out _ _ SS (fun hS => ?_)
          clear hK K SS
          try simp only [Act.put]
          refine wpAnyH_done (by kernel_rfl) ?_ _
          clear hS
          have b0 := HX9.out 0 _ rfl
          have HZ9B := Lib.hid (show w5.heap.size < W9.heap.size by have := HZ7.out; have := HZ8.out; have := HZ9.out; have := HW6S.out; omega)
          cases b
          · go_wp2_with fail
            go_roundw
            case rel => exact ⟨k + 1, by omega, by go_num, HN9.out.mono (by omega) HST.out.1 (HST.out.2.1 (by first | rfl | trivial))⟩
            case measure => simp [intOf]; omega
          · skip
            go_upto_region 10 with fail
            clear b0
            obtain ⟨u, hlk, hown, htop, D, hD, hback⟩ := HN9.out.meth.look HSS.out
            obtain ⟨A0, c0, rfl⟩ := own_sl hown
            have HNA := Lib.hid (HN9.out.later (Below.refl W9.heap.size W9).drew)
            have HXA := Lib.hid (HX9.out.later (Below.refl W9.heap.size W9).drew)
            have HBA := Lib.hid (show Below W9.heap.size W9 W9.drew from (Below.refl W9.heap.size W9).drew)
            have HLK2 := Lib.hid hlk
            have HOWN := Lib.hid hown
            have HTOP := Lib.hid htop
            have HD := Lib.hid hD
            have HBK := Lib.hid hback
            clear hlk hown htop hD hback
            go_wp2_with fail
            refine wp_region_held_drew (S := fun V => V.cell? ⟨tb, 10, none⟩ = some (.map (some g2)) ∧ V.cell? ⟨w5.heap.size, 1, none⟩ = some (.string s)) (by kernel_rfl) ⟨HNA.out.cell HC10.out HQ.out.1 HQ.out.2.1 HQ.out.2.2.1, HXA.out 1 _ rfl⟩ (fun hS => ?_)
            clear HNA HXA
            generalize W9.drew = WA at *
            refine wpAnyH_take (i := 0) (v := ?_) rfl (by kernel_rfl) (by kernel_rfl) (by kernel_rfl) (fun _ _ _ h => h) (Or.inl ⟨by rfl, ?_⟩) (by assumption) ?_
            rotate_left
            · (intro V hV; go_simp; try with_reducible rfl)
            try simp only [Act.put, List.getElem_toArray, List.getElem_cons_zero, List.setIfInBounds_toArray, List.set_cons_zero, List.set_cons_succ]
            refine wpAnyH_take (i := 1) (v := ?_) rfl (by kernel_rfl) (by kernel_rfl) (by kernel_rfl) (fun _ _ _ h => h) (Or.inl ⟨by rfl, ?_⟩) (by assumption) ?_
            rotate_left
            · (intro V hV; go_simp; try with_reducible rfl)
            try simp only [Act.put, List.getElem_toArray, List.getElem_cons_zero, List.getElem_cons_succ, List.setIfInBounds_toArray, List.set_cons_zero, List.set_cons_succ]
            refine wpAnyH_take (i := 2) (v := ?_) rfl (by kernel_rfl) (by kernel_rfl) (by kernel_rfl) (fun _ _ _ h => h) (Or.inl ⟨by rfl, ?_⟩) (by assumption) ?_
            rotate_left
            · (intro V hV; go_simp; try with_reducible rfl)
            try simp only [Act.put, List.getElem_toArray, List.getElem_cons_zero, List.getElem_cons_succ, List.setIfInBounds_toArray, List.set_cons_zero, List.set_cons_succ]
            refine wpAnyH_take (i := 3) (v := ?_) rfl (by kernel_rfl) (by kernel_rfl) (by kernel_rfl) (fun _ _ _ h => h) (Or.inl ⟨by rfl, ?_⟩) (by assumption) ?_
            rotate_left
            · (intro V hV; obtain ⟨k1, k2⟩ := hV; go_simp; try with_reducible rfl)
            try simp only [Act.put, List.getElem_toArray, List.getElem_cons_zero, List.getElem_cons_succ, List.setIfInBounds_toArray, List.set_cons_zero, List.set_cons_succ]
            refine wpAnyH_take (i := 4) (v := ?_) rfl (by kernel_rfl) (by kernel_rfl) (by kernel_rfl) (fun _ _ _ h => h) (Or.inl ⟨by rfl, ?_⟩) (by assumption) ?_
            rotate_left
            · (intro V hV; go_simp; try with_reducible rfl)
            try simp only [Act.put, List.getElem_toArray, List.getElem_cons_zero, List.getElem_cons_succ, List.setIfInBounds_toArray, List.set_cons_zero, List.set_cons_succ]
            refine wpAnyH_take (i := 5) (v := ?_) rfl (by kernel_rfl) (by kernel_rfl) (by kernel_rfl) (fun _ _ _ h => h) (Or.inl ⟨by rfl, ?_⟩) (by assumption) ?_
            rotate_left
            · (intro V hV; obtain ⟨k1, k2⟩ := hV; go_simp; try with_reducible rfl)
            try simp only [Act.put, List.getElem_toArray, List.getElem_cons_zero, List.getElem_cons_succ, List.setIfInBounds_toArray, List.set_cons_zero, List.set_cons_succ]
            refine wpAnyH_take (i := 6) (v := ?_) rfl (by kernel_rfl) (by kernel_rfl) (by kernel_rfl) (fun _ _ _ h => h) (Or.inl ⟨by rfl, ?_⟩) (by assumption) ?_
            rotate_left
            · (intro V hV; go_simp; try with_reducible rfl)
            try simp only [Act.put, List.getElem_toArray, List.getElem_cons_zero, List.getElem_cons_succ, List.setIfInBounds_toArray, List.set_cons_zero, List.set_cons_succ]
            refine wpAnyH_take (i := 7) (v := ?_) rfl (by kernel_rfl) (by kernel_rfl) (by kernel_rfl) (fun _ _ _ h => h) (Or.inl ⟨by rfl, ?_⟩) (by assumption) ?_
            rotate_left
            · (intro V hV; go_simp; try with_reducible rfl)
            try simp only [Act.put, List.getElem_toArray, List.getElem_cons_zero, List.getElem_cons_succ, List.setIfInBounds_toArray, List.set_cons_zero, List.set_cons_succ]
            refine wpAnyH_take (i := 8) (v := ?_) rfl (by kernel_rfl) (by kernel_rfl) (by kernel_rfl) (fun _ _ _ h => h) (Or.inl ⟨by rfl, ?_⟩) (by assumption) ?_
            rotate_left
            · (intro V hV; go_simp; try with_reducible rfl)
            try simp only [Act.put, List.getElem_toArray, List.getElem_cons_zero, List.getElem_cons_succ, List.setIfInBounds_toArray, List.set_cons_zero, List.set_cons_succ]
            refine wpAnyH_take (i := 9) (v := ?_) rfl (by kernel_rfl) (by kernel_rfl) (by kernel_rfl) (fun _ _ _ h => h) (Or.inl ⟨by rfl, ?_⟩) (by assumption) ?_
            rotate_left
            · (intro V hV; obtain ⟨k1, k2⟩ := hV; go_simp; try with_reducible rfl)
            try simp only [Act.put, List.getElem_toArray, List.getElem_cons_zero, List.getElem_cons_succ, List.setIfInBounds_toArray, List.set_cons_zero, List.set_cons_succ]
            refine wpAnyH_take (i := 10) (v := ?_) rfl (by kernel_rfl) (by kernel_rfl) (by kernel_rfl) (fun _ _ _ h => h) (Or.inl ⟨by rfl, ?_⟩) (by assumption) ?_
            rotate_left
            · (intro V hV; go_simp; try with_reducible rfl)
            try simp only [Act.put, List.getElem_toArray, List.getElem_cons_zero, List.getElem_cons_succ, List.setIfInBounds_toArray, List.set_cons_zero, List.set_cons_succ]
            refine wpAnyH_take (i := 11) (v := ?_) rfl (by kernel_rfl) (by kernel_rfl) (by kernel_rfl) (fun _ _ _ h => h) (Or.inl ⟨by rfl, ?_⟩) (by assumption) ?_
            rotate_left
            · (intro V hV; obtain ⟨k1, k2⟩ := hV; go_simp; try with_reducible rfl)
            try simp only [Act.put, List.getElem_toArray, List.getElem_cons_zero, List.getElem_cons_succ, List.setIfInBounds_toArray, List.set_cons_zero, List.set_cons_succ]
            refine wpAnyH_take (i := 13) (v := ?_) rfl (by kernel_rfl) (by kernel_rfl) (by kernel_rfl) (fun _ _ _ h => h) (Or.inl ⟨by rfl, ?_⟩) (by assumption) ?_
            rotate_left
            · (intro V hV; go_simp; try with_reducible rfl)
            try simp only [Act.put, List.getElem_toArray, List.getElem_cons_zero, List.getElem_cons_succ, List.setIfInBounds_toArray, List.set_cons_zero, List.set_cons_succ]
            refine wpAnyH_ready (rs := [12, 14]) (by kernel_rfl) (by simp) ?_
            refine AllReadyH.cons rfl (fun K hK => ?_) (AllReadyH.cons rfl (fun K hK => ?_) AllReadyH.nil)
            · have hrun2 := HLK2.out WA HBA.out
              go_simp
              clear hrun2
              have SS := hS
              refine hK.out _ _ SS (fun hS => ?_)
              clear hK K SS
              try simp only [Act.put, List.getElem_toArray, List.getElem_cons_zero, List.getElem_cons_succ, List.setIfInBounds_toArray, List.set_cons_zero, List.set_cons_succ]
              refine wpAnyH_ready (rs := [14]) (by kernel_rfl) (by simp) ?_
              refine AllReadyH.cons rfl (fun K hK => ?_) (AllReadyH.nil)
              go_simp
              obtain ⟨WB, hWB⟩ : ∃ X, World.alloc WA (.cells #[.int .i64 (k : Int)] 3) = X := ⟨_, rfl⟩
              have hba : Below WA.heap.size WA WB := hWB ▸ (Below.refl _ _).alloc (Nat.le_refl _) _
              have HCB := Lib.hid (show WB.cell? ⟨WA.heap.size, 0, none⟩ = some (.int .i64 (k : Int)) from by rw [← hWB, World.cell?_alloc_at _ _ _ _ rfl]; rfl)
              have HBB := Lib.hid (HBA.out.trans (hba.mono HBA.out.size))
              rw [hWB]
              clear hWB
              have SS := (show WB.cell? ⟨tb, 10, none⟩ = some (.map (some g2)) ∧ WB.cell? ⟨w5.heap.size, 1, none⟩ = some (.string s) from ⟨(hba.cell (cell_lt hS.1)).trans hS.1, (hba.cell (cell_lt hS.2)).trans hS.2⟩)
              refine hK.out _ _ SS (fun hS => ?_)
              clear hK K SS
              try simp only [Act.put, List.getElem_toArray, List.getElem_cons_zero, List.getElem_cons_succ, List.setIfInBounds_toArray, List.set_cons_zero, List.set_cons_succ]
              refine wpAnyH_ready (rs := [15]) (by kernel_rfl) (by simp) ?_
              refine AllReadyH.cons rfl (fun K hK => ?_) (AllReadyH.nil)
              refine ready_append_row slInt rfl _ _ rfl rfl rfl (own_below HOWN.out HBB.out) (by have := HBB.out.size; have := HN9.out.size; omega) (us := [.int .i64 (k : Int)]) rfl (fun a ha j u hu => by obtain rfl := Option.some.inj ha; match j, hu with | 0, hu => obtain rfl := Option.some.inj hu; exact HCB.out | j + 1, hu => simp at hu) (fun u hu => by rw [List.mem_singleton] at hu; subst hu; rfl) (fun _ => ⟨_, rfl⟩) (by have := mlist_len p.ds s.data.toList k; have := HKL.out; omega) (by omega) ?_
              intro v' WC hA
              have HA := Lib.hid hA
              obtain ⟨WD, hrunD, hND, hgD⟩ := HN9.out.put2 HSS.out (by have := HKL.out; omega) HOWN.out HD.out HBK.out HBB.out hA
              have HNE := Lib.hid hND
              have HGD := Lib.hid hgD
              have hkc : ∀ {b j : Nat} {x : Value}, WB.cell? ⟨b, j, none⟩ = some x → b < W9.heap.size → b ≠ g2 → (Value.slice A0 (mlist p.ds s.data.toList k).length c0).ownBlock ≠ some b → WC.cell? ⟨b, j, none⟩ = some x ∧ WD.cell? ⟨b, j, none⟩ = some x := fun {b j x} hc hb h2 h3 => by
                have e1 := ((kept_of (S := (· = b)) (fun c hc2 => by have hc2 : c = b := hc2; subst hc2; exact hA.grow.block _ (Nat.lt_of_lt_of_le hb HBB.out.size) (fun e => h3 e.symm)) ⟨b, j, none⟩ rfl).1).trans hc
                exact ⟨e1, ((kept_of (S := (· = b)) (fun c hc2 => by have hc2 : c = b := hc2; subst hc2; exact hgD.block _ (Nat.lt_of_lt_of_le hb (Nat.le_trans HBB.out.size hA.grow.size)) (fun e => h2 (Option.some.inj e))) ⟨b, j, none⟩ rfl).1).trans e1⟩
              have q1 := hkc hS.1 (by have := HN9.out.size; have := HQ.out; omega) HQ.out.2.2.1 (fun e => by have := (HOWN.out.lt _ e).1; have := HQ.out; omega)
              have q2 := hkc hS.2 (by have := HZ7.out; have := HZ8.out; have := HZ9.out; have := HW6S.out; omega) (by have := HZ5.out; have := HQ.out; omega) (fun e => by have := HTOP.out _ e; have := HWR5.out; omega)
              clear hA hND hgD hkc
              have SS := (And.intro q1.1 q2.1)
              refine hK.out _ _ SS (fun hS => ?_)
              clear hK K SS
              try simp only [Act.put, List.getElem_toArray, List.getElem_cons_zero, List.getElem_cons_succ, List.setIfInBounds_toArray, List.set_cons_zero, List.set_cons_succ]
              refine wpAnyH_ready (rs := [16]) (by kernel_rfl) (by simp) ?_
              refine AllReadyH.cons rfl (fun K hK => ?_) (AllReadyH.nil)
              go_simp
              clear hrunD
              have SS := (And.intro q1.2 q2.2)
              refine hK.out _ _ SS (fun hS => ?_)
              clear hK K SS
              try simp only [Act.put]
              refine wpAnyH_done (by kernel_rfl) ?_ _
              clear hS
              go_wp2_with fail
              go_roundw
              case rel => exact ⟨k + 1, by omega, by go_num, HNE.out.mono (by omega) HST.out.1 (HST.out.2.2 (by first | rfl | trivial))⟩
              case measure => simp [intOf]; omega
            · go_simp
              obtain ⟨WB, hWB⟩ : ∃ X, World.alloc WA (.cells #[.int .i64 (k : Int)] 3) = X := ⟨_, rfl⟩
              have hba : Below WA.heap.size WA WB := hWB ▸ (Below.refl _ _).alloc (Nat.le_refl _) _
              have HCB := Lib.hid (show WB.cell? ⟨WA.heap.size, 0, none⟩ = some (.int .i64 (k : Int)) from by rw [← hWB, World.cell?_alloc_at _ _ _ _ rfl]; rfl)
              have HBB := Lib.hid (HBA.out.trans (hba.mono HBA.out.size))
              rw [hWB]
              clear hWB
              have SS := (show WB.cell? ⟨tb, 10, none⟩ = some (.map (some g2)) ∧ WB.cell? ⟨w5.heap.size, 1, none⟩ = some (.string s) from ⟨(hba.cell (cell_lt hS.1)).trans hS.1, (hba.cell (cell_lt hS.2)).trans hS.2⟩)
              refine hK.out _ _ SS (fun hS => ?_)
              clear hK K SS
              try simp only [Act.put, List.getElem_toArray, List.getElem_cons_zero, List.getElem_cons_succ, List.setIfInBounds_toArray, List.set_cons_zero, List.set_cons_succ]
              refine wpAnyH_ready (rs := [12]) (by kernel_rfl) (by simp) ?_
              refine AllReadyH.cons rfl (fun K hK => ?_) (AllReadyH.nil)
              have hrun2 := HLK2.out WB HBB.out
              go_simp
              clear hrun2
              have SS := hS
              refine hK.out _ _ SS (fun hS => ?_)
              clear hK K SS
              try simp only [Act.put, List.getElem_toArray, List.getElem_cons_zero, List.getElem_cons_succ, List.setIfInBounds_toArray, List.set_cons_zero, List.set_cons_succ]
              refine wpAnyH_ready (rs := [15]) (by kernel_rfl) (by simp) ?_
              refine AllReadyH.cons rfl (fun K hK => ?_) (AllReadyH.nil)
              refine ready_append_row slInt rfl _ _ rfl rfl rfl (own_below HOWN.out HBB.out) (by have := HBB.out.size; have := HN9.out.size; omega) (us := [.int .i64 (k : Int)]) rfl (fun a ha j u hu => by obtain rfl := Option.some.inj ha; match j, hu with | 0, hu => obtain rfl := Option.some.inj hu; exact HCB.out | j + 1, hu => simp at hu) (fun u hu => by rw [List.mem_singleton] at hu; subst hu; rfl) (fun _ => ⟨_, rfl⟩) (by have := mlist_len p.ds s.data.toList k; have := HKL.out; omega) (by omega) ?_
              intro v' WC hA
              have HA := Lib.hid hA
              obtain ⟨WD, hrunD, hND, hgD⟩ := HN9.out.put2 HSS.out (by have := HKL.out; omega) HOWN.out HD.out HBK.out HBB.out hA
              have HNE := Lib.hid hND
              have HGD := Lib.hid hgD
              have hkc : ∀ {b j : Nat} {x : Value}, WB.cell? ⟨b, j, none⟩ = some x → b < W9.heap.size → b ≠ g2 → (Value.slice A0 (mlist p.ds s.data.toList k).length c0).ownBlock ≠ some b → WC.cell? ⟨b, j, none⟩ = some x ∧ WD.cell? ⟨b, j, none⟩ = some x := fun {b j x} hc hb h2 h3 => by
                have e1 := ((kept_of (S := (· = b)) (fun c hc2 => by have hc2 : c = b := hc2; subst hc2; exact hA.grow.block _ (Nat.lt_of_lt_of_le hb HBB.out.size) (fun e => h3 e.symm)) ⟨b, j, none⟩ rfl).1).trans hc
                exact ⟨e1, ((kept_of (S := (· = b)) (fun c hc2 => by have hc2 : c = b := hc2; subst hc2; exact hgD.block _ (Nat.lt_of_lt_of_le hb (Nat.le_trans HBB.out.size hA.grow.size)) (fun e => h2 (Option.some.inj e))) ⟨b, j, none⟩ rfl).1).trans e1⟩
              have q1 := hkc hS.1 (by have := HN9.out.size; have := HQ.out; omega) HQ.out.2.2.1 (fun e => by have := (HOWN.out.lt _ e).1; have := HQ.out; omega)
              have q2 := hkc hS.2 (by have := HZ7.out; have := HZ8.out; have := HZ9.out; have := HW6S.out; omega) (by have := HZ5.out; have := HQ.out; omega) (fun e => by have := HTOP.out _ e; have := HWR5.out; omega)
              clear hA hND hgD hkc
              have SS := (And.intro q1.1 q2.1)
              refine hK.out _ _ SS (fun hS => ?_)
              clear hK K SS
              try simp only [Act.put, List.getElem_toArray, List.getElem_cons_zero, List.getElem_cons_succ, List.setIfInBounds_toArray, List.set_cons_zero, List.set_cons_succ]
              refine wpAnyH_ready (rs := [16]) (by kernel_rfl) (by simp) ?_
              refine AllReadyH.cons rfl (fun K hK => ?_) (AllReadyH.nil)
              go_simp
              clear hrunD
              have SS := (And.intro q1.2 q2.2)
              refine hK.out _ _ SS (fun hS => ?_)
              clear hK K SS
              try simp only [Act.put]
              refine wpAnyH_done (by kernel_rfl) ?_ _
              clear hS
              go_wp2_with fail
              go_roundw
              case rel => exact ⟨k + 1, by omega, by go_num, HNE.out.mono (by omega) HST.out.1 (HST.out.2.2 (by first | rfl | trivial))⟩
              case measure => simp [intOf]; omega
    · obtain rfl : k = nd := by omega
      have y0 : (k : Int) ≤ k := by omega
      have HT := Lib.hid (show TabH wr.heap.size wr tb p from ⟨Nat.le_refl _, [.slice DD k cd, a1, a2, a3, a4, a5, a6, a7, a8], g1, g2, 2 * k, (Dat.In.keep id (kept_of fun b hb => hN.kp b (by have hb : b < w1.heap.size := hb; have := HQ.out; omega) (by have hb : b < w1.heap.size := hb; have := HQ.out; omega) (by have hb : b < w1.heap.size := hb; have := HQ.out; omega)) (fun _ h => h) _ _ HD3.out).wide fun b hb => Nat.lt_of_lt_of_le hb (by have := hN.size; have := HZ3.out; omega),
        (fun j u hu => hN.cell (HBX3.out j u hu) HQ.out.1 HQ.out.2.1 HQ.out.2.2.1), by have := hN.first; rwa [List.take_of_length_le (by rw [HDL.out]; exact Nat.le_refl _)] at this, by have := hN.meth.at_ (fun l => Nat.le_trans (mlist_len p.ds l k) (by have := HND.out; omega)); rwa [HDL.out]⟩)
      have HCP := Lib.hid (show CapsAt wr.heap.size wr tb from fun D n c hc i hi => by
        rw [hN.cell (HBX3.out 0 _ rfl) HQ.out.1 HQ.out.2.1 HQ.out.2.2.1] at hc
        injection hc with hc
        injection hc with hD e2 e3
        subst e2
        have hkp := kept_of (V := W3) (V' := wr) (S := (· < w1.heap.size)) (fun b hb => hN.kp b (by have hb : b < w1.heap.size := hb; have := HQ.out; omega) (by have hb : b < w1.heap.size := hb; have := HQ.out; omega) (by have hb : b < w1.heap.size := hb; have := HQ.out; omega))
        have hlow := HDB.out D hD (by omega)
        refine ⟨by have := hN.size; have := HQ.out; omega, fun V nv cv hv => ?_⟩
        rw [(hkp ⟨(D.add (i * 23)).block, (D.add (i * 23)).off + 6, none⟩ (by show (D.add (i * 23)).block < _; rw [block_of_add]; exact hlow)).1] at hv
        exact (HCR.out D hD i hi V nv cv hv).2)
      have HBE := Lib.hid hN.bel
      clear hN
      go_wp2_with fail
      go_ret
      exact ⟨tb, rfl, HT.out, HCP.out, HBE.out⟩
end Go.Proofs.YtjhlehdjdaphcaaDoor
