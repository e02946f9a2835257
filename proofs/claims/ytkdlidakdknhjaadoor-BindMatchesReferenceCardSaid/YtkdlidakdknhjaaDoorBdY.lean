/- The law BindMatchesReference: true, at every input. The condition: the table of powers. -/
import Derived.Test.YtkdlidakdknhjaaDoorBdX
namespace Go.Proofs.YtkdlidakdknhjaaDoor
open Go.RowKit

set_option maxRecDepth 100000 in
set_option maxHeartbeats 16000000 in
theorem bmatch_law (a b : Sg) (us vs : List Value) (w : World) (h1 : a.dat.H w us) (h2 : b.dat.H w vs) (hE : PowVar w) :
    Calls Tryd.prog 3 #[.agg us.toArray, .agg vs.toArray] w fun e w' => e = .returned (.bool true) ∧ Below w.heap.size w w' := by
  have hul : us.length = 7 := (Dat.In.len _ _ h1).trans (Sg.dat_size a)
  have hvl : vs.length = 7 := (Dat.In.len _ _ h2).trans (Sg.dat_size b)
  have HUL := Lib.hid hul
  have HVL := Lib.hid hvl
  obtain ⟨b1, b2, b3⟩ := Boxd.pair w us.toArray vs.toArray 28
  obtain ⟨W0, hW0⟩ : ∃ W0, (w.alloc (.cells us.toArray 28)).alloc (.cells vs.toArray 28) = W0 := ⟨_, rfl⟩
  rw [hW0] at b1 b2 b3
  have HS := Lib.hid (show SX3 w W0 w.heap.size (w.heap.size + 1) (w.heap.size + 1) a b b us vs vs from ⟨⟨b2, Dat.H.later h1 b1⟩, ⟨b3, Dat.H.later h2 b1⟩, ⟨b3, Dat.H.later h2 b1⟩, hE.later b1, b1⟩)
  have HW0 := Lib.hid hW0
  obtain ⟨fa, hfa⟩ : ∃ x, (sigPg a).few = x := ⟨_, rfl⟩
  obtain ⟨fb, hfb⟩ : ∃ x, (sigPg b).few = x := ⟨_, rfl⟩
  have HFA := Lib.hid hfa
  have HFB := Lib.hid hfb
  clear h1 h2 hE hul hvl hW0 hfa hfb b1 b2 b3
  go_enter Tryd.func3, Tryd.ntmps3
  go_upto_region 1 with fail
  rw [HW0.out]
  clear HW0
  go_wp2_with fail
  refine (bawake_any _ HS.out.pow).mono ?_
  rintro e w1 ⟨rfl, hb⟩
  have HS := Lib.hid (HS.out.later hb)
  clear hb
  go_wp2_with (refine loadOpJ flatSg 2 9 rfl rfl HS.out.a.box.at0 HUL.out ?_)
  refine (rfewSg_any a _ _ HS.out.a.dat).mono ?_
  rintro e w2 ⟨rfl, hb⟩
  have HS := Lib.hid (HS.out.later hb)
  clear hb
  rw [HFA.out]
  cases fa
  · skip
    go_wp2_with fail
    refine (bawake_any _ HS.out.pow).mono ?_
    rintro e w9 ⟨rfl, hb⟩
    have HS := Lib.hid (HS.out.later hb)
    clear hb
    go_wp2_with fail
    go_ret
    exact ⟨rfl, HS.out.bel⟩
  go_wp2_with (refine loadOpJ flatSg 3 14 rfl rfl HS.out.b.box.at0 HVL.out ?_)
  refine (rfewSg_any b _ _ HS.out.b.dat).mono ?_
  rintro e w2 ⟨rfl, hb⟩
  have HS := Lib.hid (HS.out.later hb)
  clear hb
  rw [HFB.out]
  cases fb
  · skip
    go_wp2_with fail
    refine (bawake_any _ HS.out.pow).mono ?_
    rintro e w9 ⟨rfl, hb⟩
    have HS := Lib.hid (HS.out.later hb)
    clear hb
    go_wp2_with fail
    go_ret
    exact ⟨rfl, HS.out.bel⟩
  have HTA := Lib.hid (show a.wt ≤ 1000 from Nat.le_trans (sig_few HFA.out) (by omega))
  have HTB := Lib.hid (show b.wt ≤ 1000 from Nat.le_trans (sig_few HFB.out) (by omega))
  have HTC := Lib.hid (show a.canon.wt ≤ 1000 from Nat.le_trans (Sg.wt_canon (by have := HTA.out; omega)) HTA.out)
  obtain ⟨x, hx⟩ : ∃ x, Sg.alike a b = x := ⟨_, rfl⟩
  have HX := Lib.hid hx
  clear hx
  go_wp2_with (refine loadOpJ flatSg 2 19 rfl rfl HS.out.a.box.at0 HUL.out ?_)
  refine (bcanon_d a _ _ HTA.out HS.out.pow HS.out.a.dat).mono ?_
  rintro e w4 ⟨cs, rfl, hd, hb⟩
  obtain ⟨F, nf, cf, Q, np, cp, Ar, mr, ar, rfl, _⟩ := sg_open hd
  obtain ⟨W4, hP4⟩ := putZ #[.string ⟨#[]⟩, .slice none 0 0, .slice none 0 0, .string ⟨#[]⟩, .slice none 0 0, .int .i64 0, .int .i64 0] 28 w4 (us := [.string a.canon.name, .slice F nf cf, .slice Q np cp, .string a.canon.res.name, .slice Ar mr ar, .int .i64 a.canon.res.off, .int .i64 a.canon.off]) rfl
  have HPP := Lib.hid hP4
  have HS4 := HS.out.later (hb.trans (hP4.bel.mono hb.size))
  have hdw : a.canon.dat.H W4 [.string a.canon.name, .slice F nf cf, .slice Q np cp, .string a.canon.res.name, .slice Ar mr ar, .int .i64 a.canon.res.off, .int .i64 a.canon.off] := Dat.H.later (hd.wide fun b hb => hb.2) hP4.bel
  have HS := Lib.hid (show SX3 w W4 w.heap.size (w.heap.size + 1) w4.heap.size a b a.canon us vs [.string a.canon.name, .slice F nf cf, .slice Q np cp, .string a.canon.res.name, .slice Ar mr ar, .int .i64 a.canon.res.off, .int .i64 a.canon.off] from ⟨HS4.a, HS4.b, ⟨hP4.box, hdw⟩, HS4.pow, HS4.bel⟩)
  have HSD := Lib.hid (HS.out.later (Below.refl _ _).drew)
  have HXL := Lib.hid (show ([.string a.canon.name, .slice F nf cf, .slice Q np cp, .string a.canon.res.name, .slice Ar mr ar, .int .i64 a.canon.res.off, .int .i64 a.canon.off] : List Value).length = 7 from rfl)
  clear hd hb HS4 hdw hP4
  go_upto_region 4 with (refine storeOp flatSg 5 20 (b := w4.heap.size) (o := 0) (us := [.string a.canon.name, .slice F nf cf, .slice Q np cp, .string a.canon.res.name, .slice Ar mr ar, .int .i64 a.canon.res.off, .int .i64 a.canon.off]) rfl rfl HPP.out.there sg_one rfl ?_; rw [HPP.out.eq])
  clear HPP HS
  cases x
  · skip
    go_wp2_with fail
    refine wp_region_held_drew (S := fun V => SX3 w V w.heap.size (w.heap.size + 1) w4.heap.size a b a.canon us vs [.string a.canon.name, .slice F nf cf, .slice Q np cp, .string a.canon.res.name, .slice Ar mr ar, .int .i64 a.canon.res.off, .int .i64 a.canon.off]) (by kernel_rfl) HSD.out (fun hS => ?_)
    clear HSD
    refine wpAnyH_take (i := 0) (v := .agg [.string a.canon.name, .slice F nf cf, .slice Q np cp, .string a.canon.res.name, .slice Ar mr ar, .int .i64 a.canon.res.off, .int .i64 a.canon.off].toArray) rfl (by kernel_rfl) (by kernel_rfl) (by kernel_rfl) (fun _ _ _ h => h) (Or.inl ⟨by rfl, fun V hV => loadYieldB flatSg rfl hV.c.box.at0 HXL.out⟩) (by assumption) ?_
    try simp only [Act.put, List.getElem_toArray, List.getElem_cons_zero, List.setIfInBounds_toArray, List.set_cons_zero, List.set_cons_succ]
    refine wpAnyH_take (i := 1) (v := .agg us.toArray) rfl (by kernel_rfl) (by kernel_rfl) (by kernel_rfl) (fun _ _ _ h => h) (Or.inl ⟨by rfl, fun V hV => loadYieldB flatSg rfl hV.a.box.at0 HUL.out⟩) (by assumption) ?_
    try simp only [Act.put, List.getElem_toArray, List.getElem_cons_zero, List.getElem_cons_succ, List.setIfInBounds_toArray, List.set_cons_zero, List.set_cons_succ]
    refine wpAnyH_ready (rs := [2]) (by kernel_rfl) (by simp) ?_
    refine AllReadyH.cons rfl (fun K hK => ?_) (AllReadyH.nil)
    go_simp
    refine (rcanon_d a _ _ HTA.out hS.a.dat).mono ?_
    rintro e V1 ⟨us2, rfl, hd2, hb1⟩
    have SS := hS.later hb1
    have HD2 := Lib.hid (show a.canon.dat.H V1 us2 from hd2.wide fun b hb => hb.2)
    clear hd2
    clear hS hb1
    refine hK.out _ _ SS (fun hS => ?_)
    clear hK K SS
    try simp only [Act.put, List.getElem_toArray, List.getElem_cons_zero, List.getElem_cons_succ, List.setIfInBounds_toArray, List.set_cons_zero, List.set_cons_succ]
    refine wpAnyH_ready (rs := [3]) (by kernel_rfl) (by simp) ?_
    refine AllReadyH.cons rfl (fun K hK => ?_) (AllReadyH.nil)
    go_simp
    refine (rsig_any a.canon a.canon _ us2 true _ hS.c.dat HD2.out).mono ?_
    rintro e V1 ⟨rfl, hb1⟩
    have SS := hS.later hb1
    rw [Sg.exact]
    clear HD2
    clear hS hb1
    refine hK.out _ _ SS (fun hS => ?_)
    clear hK K SS
    try simp only [Act.put, List.getElem_toArray, List.getElem_cons_zero, List.getElem_cons_succ, List.setIfInBounds_toArray, List.set_cons_zero, List.set_cons_succ]
    refine wpAnyH_take (i := 4) (v := ?_) rfl (by kernel_rfl) (by kernel_rfl) (by kernel_rfl) (fun _ _ _ h => h) (Or.inl ⟨by rfl, ?_⟩) (by assumption) ?_
    rotate_left
    · (intro V hV; go_simp; try with_reducible rfl)
    try simp only [Act.put, List.getElem_toArray, List.getElem_cons_zero, List.getElem_cons_succ, List.setIfInBounds_toArray, List.set_cons_zero, List.set_cons_succ]
    refine wpAnyH_take (i := 5) (v := .agg [.string a.canon.name, .slice F nf cf, .slice Q np cp, .string a.canon.res.name, .slice Ar mr ar, .int .i64 a.canon.res.off, .int .i64 a.canon.off].toArray) rfl (by kernel_rfl) (by kernel_rfl) (by kernel_rfl) (fun _ _ _ h => h) (Or.inl ⟨by rfl, fun V hV => loadYieldB flatSg rfl hV.c.box.at0 HXL.out⟩) (by assumption) ?_
    try simp only [Act.put, List.getElem_toArray, List.getElem_cons_zero, List.getElem_cons_succ, List.setIfInBounds_toArray, List.set_cons_zero, List.set_cons_succ]
    refine wpAnyH_take (i := 7) (v := .agg [.string a.canon.name, .slice F nf cf, .slice Q np cp, .string a.canon.res.name, .slice Ar mr ar, .int .i64 a.canon.res.off, .int .i64 a.canon.off].toArray) rfl (by kernel_rfl) (by kernel_rfl) (by kernel_rfl) (fun _ _ _ h => h) (Or.inl ⟨by rfl, fun V hV => loadYieldB flatSg rfl hV.c.box.at0 HXL.out⟩) (by assumption) ?_
    try simp only [Act.put, List.getElem_toArray, List.getElem_cons_zero, List.getElem_cons_succ, List.setIfInBounds_toArray, List.set_cons_zero, List.set_cons_succ]
    refine wpAnyH_ready (rs := [6]) (by kernel_rfl) (by simp) ?_
    refine AllReadyH.cons rfl (fun K hK => ?_) (AllReadyH.nil)
    go_simp
    refine (bcanon_d a.canon _ _ HTC.out hS.pow hS.c.dat).mono ?_
    rintro e V1 ⟨us6, rfl, hd6, hb1⟩
    have SS := hS.later hb1
    rw [Sg.canon_canon] at hd6
    have HD6 := Lib.hid (show a.canon.dat.H V1 us6 from hd6.wide fun b hb => hb.2)
    clear hd6
    clear hS hb1
    refine hK.out _ _ SS (fun hS => ?_)
    clear hK K SS
    try simp only [Act.put, List.getElem_toArray, List.getElem_cons_zero, List.getElem_cons_succ, List.setIfInBounds_toArray, List.set_cons_zero, List.set_cons_succ]
    refine wpAnyH_ready (rs := [8]) (by kernel_rfl) (by simp) ?_
    refine AllReadyH.cons rfl (fun K hK => ?_) (AllReadyH.nil)
    go_simp
    refine (rsig_any a.canon a.canon us6 _ true _ HD6.out hS.c.dat).mono ?_
    rintro e V1 ⟨rfl, hb1⟩
    have SS := hS.later hb1
    rw [Sg.exact]
    clear HD6
    clear hS hb1
    refine hK.out _ _ SS (fun hS => ?_)
    clear hK K SS
    try simp only [Act.put, List.getElem_toArray, List.getElem_cons_zero, List.getElem_cons_succ, List.setIfInBounds_toArray, List.set_cons_zero, List.set_cons_succ]
    refine wpAnyH_take (i := 9) (v := ?_) rfl (by kernel_rfl) (by kernel_rfl) (by kernel_rfl) (fun _ _ _ h => h) (Or.inl ⟨by rfl, ?_⟩) (by assumption) ?_
    rotate_left
    · (intro V hV; go_simp; try with_reducible rfl)
    try simp only [Act.put, List.getElem_toArray, List.getElem_cons_zero, List.getElem_cons_succ, List.setIfInBounds_toArray, List.set_cons_zero, List.set_cons_succ]
    refine wpAnyH_take (i := 10) (v := ?_) rfl (by kernel_rfl) (by kernel_rfl) (by kernel_rfl) (fun _ _ _ h => h) (Or.inl ⟨by rfl, ?_⟩) (by assumption) ?_
    rotate_left
    · (intro V hV; go_simp; try with_reducible rfl)
    try simp only [Act.put, List.getElem_toArray, List.getElem_cons_zero, List.getElem_cons_succ, List.setIfInBounds_toArray, List.set_cons_zero, List.set_cons_succ]
    refine wpAnyH_take (i := 11) (v := .agg us.toArray) rfl (by kernel_rfl) (by kernel_rfl) (by kernel_rfl) (fun _ _ _ h => h) (Or.inl ⟨by rfl, fun V hV => loadYieldB flatSg rfl hV.a.box.at0 HUL.out⟩) (by assumption) ?_
    try simp only [Act.put, List.getElem_toArray, List.getElem_cons_zero, List.getElem_cons_succ, List.setIfInBounds_toArray, List.set_cons_zero, List.set_cons_succ]
    refine wpAnyH_take (i := 12) (v := .agg vs.toArray) rfl (by kernel_rfl) (by kernel_rfl) (by kernel_rfl) (fun _ _ _ h => h) (Or.inl ⟨by rfl, fun V hV => loadYieldB flatSg rfl hV.b.box.at0 HVL.out⟩) (by assumption) ?_
    try simp only [Act.put, List.getElem_toArray, List.getElem_cons_zero, List.getElem_cons_succ, List.setIfInBounds_toArray, List.set_cons_zero, List.set_cons_succ]
    refine wpAnyH_take (i := 14) (v := .agg us.toArray) rfl (by kernel_rfl) (by kernel_rfl) (by kernel_rfl) (fun _ _ _ h => h) (Or.inl ⟨by rfl, fun V hV => loadYieldB flatSg rfl hV.a.box.at0 HUL.out⟩) (by assumption) ?_
    try simp only [Act.put, List.getElem_toArray, List.getElem_cons_zero, List.getElem_cons_succ, List.setIfInBounds_toArray, List.set_cons_zero, List.set_cons_succ]
    refine wpAnyH_take (i := 15) (v := .agg vs.toArray) rfl (by kernel_rfl) (by kernel_rfl) (by kernel_rfl) (fun _ _ _ h => h) (Or.inl ⟨by rfl, fun V hV => loadYieldB flatSg rfl hV.b.box.at0 HVL.out⟩) (by assumption) ?_
    try simp only [Act.put, List.getElem_toArray, List.getElem_cons_zero, List.getElem_cons_succ, List.setIfInBounds_toArray, List.set_cons_zero, List.set_cons_succ]
    refine wpAnyH_ready (rs := [13]) (by kernel_rfl) (by simp) ?_
    refine AllReadyH.cons rfl (fun K hK => ?_) (AllReadyH.nil)
    go_simp
    refine (balike_any a b _ _ _ HTA.out HTB.out hS.pow hS.a.dat hS.b.dat).mono ?_
    rintro e V1 ⟨rfl, hb1⟩
    have SS := hS.later hb1
    rw [HX.out]
    clear hS hb1
    refine hK.out _ _ SS (fun hS => ?_)
    clear hK K SS
    try simp only [Act.put, List.getElem_toArray, List.getElem_cons_zero, List.getElem_cons_succ, List.setIfInBounds_toArray, List.set_cons_zero, List.set_cons_succ]
    refine wpAnyH_ready (rs := [16]) (by kernel_rfl) (by simp) ?_
    refine AllReadyH.cons rfl (fun K hK => ?_) (AllReadyH.nil)
    go_simp
    refine (ralike_any a b _ _ _ HTA.out HTB.out hS.a.dat hS.b.dat).mono ?_
    rintro e V1 ⟨rfl, hb1⟩
    have SS := hS.later hb1
    rw [HX.out]
    clear hS hb1
    refine hK.out _ _ SS (fun hS => ?_)
    clear hK K SS
    try simp only [Act.put, List.getElem_toArray, List.getElem_cons_zero, List.getElem_cons_succ, List.setIfInBounds_toArray, List.set_cons_zero, List.set_cons_succ]
    refine wpAnyH_take (i := 17) (v := ?_) rfl (by kernel_rfl) (by kernel_rfl) (by kernel_rfl) (fun _ _ _ h => h) (Or.inl ⟨by rfl, ?_⟩) (by assumption) ?_
    rotate_left
    · (intro V hV; go_simp; try with_reducible rfl)
    try simp only [Act.put, List.getElem_toArray, List.getElem_cons_zero, List.getElem_cons_succ, List.setIfInBounds_toArray, List.set_cons_zero, List.set_cons_succ]
    refine wpAnyH_take (i := 18) (v := ?_) rfl (by kernel_rfl) (by kernel_rfl) (by kernel_rfl) (fun _ _ _ h => h) (Or.inl ⟨by rfl, ?_⟩) (by assumption) ?_
    rotate_left
    · (intro V hV; go_simp; try with_reducible rfl)
    try simp only [Act.put, List.getElem_toArray, List.getElem_cons_zero, List.getElem_cons_succ, List.setIfInBounds_toArray, List.set_cons_zero, List.set_cons_succ]
    refine wpAnyH_take (i := 19) (v := ?_) rfl (by kernel_rfl) (by kernel_rfl) (by kernel_rfl) (fun _ _ _ h => h) (Or.inl ⟨by rfl, ?_⟩) (by assumption) ?_
    rotate_left
    · (intro V hV; go_simp; try with_reducible rfl)
    try simp only [Act.put, List.getElem_toArray, List.getElem_cons_zero, List.getElem_cons_succ, List.setIfInBounds_toArray, List.set_cons_zero, List.set_cons_succ]
    refine wpAnyH_take (i := 20) (v := .agg us.toArray) rfl (by kernel_rfl) (by kernel_rfl) (by kernel_rfl) (fun _ _ _ h => h) (Or.inl ⟨by rfl, fun V hV => loadYieldB flatSg rfl hV.a.box.at0 HUL.out⟩) (by assumption) ?_
    try simp only [Act.put, List.getElem_toArray, List.getElem_cons_zero, List.getElem_cons_succ, List.setIfInBounds_toArray, List.set_cons_zero, List.set_cons_succ]
    refine wpAnyH_take (i := 21) (v := .agg [.string a.canon.name, .slice F nf cf, .slice Q np cp, .string a.canon.res.name, .slice Ar mr ar, .int .i64 a.canon.res.off, .int .i64 a.canon.off].toArray) rfl (by kernel_rfl) (by kernel_rfl) (by kernel_rfl) (fun _ _ _ h => h) (Or.inl ⟨by rfl, fun V hV => loadYieldB flatSg rfl hV.c.box.at0 HXL.out⟩) (by assumption) ?_
    try simp only [Act.put, List.getElem_toArray, List.getElem_cons_zero, List.getElem_cons_succ, List.setIfInBounds_toArray, List.set_cons_zero, List.set_cons_succ]
    refine wpAnyH_ready (rs := [22]) (by kernel_rfl) (by simp) ?_
    refine AllReadyH.cons rfl (fun K hK => ?_) (AllReadyH.nil)
    go_simp
    refine (balike_any a a.canon _ _ _ HTA.out HTC.out hS.pow hS.a.dat hS.c.dat).mono ?_
    rintro e V1 ⟨rfl, hb1⟩
    have SS := hS.later hb1
    rw [Sg.alike_canon]
    clear hS hb1
    refine hK.out _ _ SS (fun hS => ?_)
    clear hK K SS
    try simp only [Act.put, List.getElem_toArray, List.getElem_cons_zero, List.getElem_cons_succ, List.setIfInBounds_toArray, List.set_cons_zero, List.set_cons_succ]
    refine wpAnyH_take (i := 23) (v := ?_) rfl (by kernel_rfl) (by kernel_rfl) (by kernel_rfl) (fun _ _ _ h => h) (Or.inl ⟨by rfl, ?_⟩) (by assumption) ?_
    rotate_left
    · (intro V hV; go_simp; try with_reducible rfl)
    try simp only [Act.put, List.getElem_toArray, List.getElem_cons_zero, List.getElem_cons_succ, List.setIfInBounds_toArray, List.set_cons_zero, List.set_cons_succ]
    refine wpAnyH_take (i := 24) (v := ?_) rfl (by kernel_rfl) (by kernel_rfl) (by kernel_rfl) (fun _ _ _ h => h) (Or.inl ⟨by rfl, ?_⟩) (by assumption) ?_
    rotate_left
    · (intro V hV; go_simp; try with_reducible rfl)
    try simp only [Act.put, List.getElem_toArray, List.getElem_cons_zero, List.getElem_cons_succ, List.setIfInBounds_toArray, List.set_cons_zero, List.set_cons_succ]
    refine wpAnyH_done (by kernel_rfl) ?_ _
    go_wp2_with fail
    go_ret
    exact ⟨rfl, hS.bel⟩
  · skip
    go_wp2_with fail
    refine wp_region_held_drew (S := fun V => SX3 w V w.heap.size (w.heap.size + 1) w4.heap.size a b a.canon us vs [.string a.canon.name, .slice F nf cf, .slice Q np cp, .string a.canon.res.name, .slice Ar mr ar, .int .i64 a.canon.res.off, .int .i64 a.canon.off]) (by kernel_rfl) HSD.out (fun hS => ?_)
    clear HSD
    refine wpAnyH_take (i := 0) (v := .agg [.string a.canon.name, .slice F nf cf, .slice Q np cp, .string a.canon.res.name, .slice Ar mr ar, .int .i64 a.canon.res.off, .int .i64 a.canon.off].toArray) rfl (by kernel_rfl) (by kernel_rfl) (by kernel_rfl) (fun _ _ _ h => h) (Or.inl ⟨by rfl, fun V hV => loadYieldB flatSg rfl hV.c.box.at0 HXL.out⟩) (by assumption) ?_
    try simp only [Act.put, List.getElem_toArray, List.getElem_cons_zero, List.setIfInBounds_toArray, List.set_cons_zero, List.set_cons_succ]
    refine wpAnyH_take (i := 1) (v := .agg us.toArray) rfl (by kernel_rfl) (by kernel_rfl) (by kernel_rfl) (fun _ _ _ h => h) (Or.inl ⟨by rfl, fun V hV => loadYieldB flatSg rfl hV.a.box.at0 HUL.out⟩) (by assumption) ?_
    try simp only [Act.put, List.getElem_toArray, List.getElem_cons_zero, List.getElem_cons_succ, List.setIfInBounds_toArray, List.set_cons_zero, List.set_cons_succ]
    refine wpAnyH_ready (rs := [2]) (by kernel_rfl) (by simp) ?_
    refine AllReadyH.cons rfl (fun K hK => ?_) (AllReadyH.nil)
    go_simp
    refine (rcanon_d a _ _ HTA.out hS.a.dat).mono ?_
    rintro e V1 ⟨us2, rfl, hd2, hb1⟩
    have SS := hS.later hb1
    have HD2 := Lib.hid (show a.canon.dat.H V1 us2 from hd2.wide fun b hb => hb.2)
    clear hd2
    clear hS hb1
    refine hK.out _ _ SS (fun hS => ?_)
    clear hK K SS
    try simp only [Act.put, List.getElem_toArray, List.getElem_cons_zero, List.getElem_cons_succ, List.setIfInBounds_toArray, List.set_cons_zero, List.set_cons_succ]
    refine wpAnyH_ready (rs := [3]) (by kernel_rfl) (by simp) ?_
    refine AllReadyH.cons rfl (fun K hK => ?_) (AllReadyH.nil)
    go_simp
    refine (rsig_any a.canon a.canon _ us2 true _ hS.c.dat HD2.out).mono ?_
    rintro e V1 ⟨rfl, hb1⟩
    have SS := hS.later hb1
    rw [Sg.exact]
    clear HD2
    clear hS hb1
    refine hK.out _ _ SS (fun hS => ?_)
    clear hK K SS
    try simp only [Act.put, List.getElem_toArray, List.getElem_cons_zero, List.getElem_cons_succ, List.setIfInBounds_toArray, List.set_cons_zero, List.set_cons_succ]
    refine wpAnyH_take (i := 4) (v := ?_) rfl (by kernel_rfl) (by kernel_rfl) (by kernel_rfl) (fun _ _ _ h => h) (Or.inl ⟨by rfl, ?_⟩) (by assumption) ?_
    rotate_left
    · (intro V hV; go_simp; try with_reducible rfl)
    try simp only [Act.put, List.getElem_toArray, List.getElem_cons_zero, List.getElem_cons_succ, List.setIfInBounds_toArray, List.set_cons_zero, List.set_cons_succ]
    refine wpAnyH_take (i := 5) (v := .agg [.string a.canon.name, .slice F nf cf, .slice Q np cp, .string a.canon.res.name, .slice Ar mr ar, .int .i64 a.canon.res.off, .int .i64 a.canon.off].toArray) rfl (by kernel_rfl) (by kernel_rfl) (by kernel_rfl) (fun _ _ _ h => h) (Or.inl ⟨by rfl, fun V hV => loadYieldB flatSg rfl hV.c.box.at0 HXL.out⟩) (by assumption) ?_
    try simp only [Act.put, List.getElem_toArray, List.getElem_cons_zero, List.getElem_cons_succ, List.setIfInBounds_toArray, List.set_cons_zero, List.set_cons_succ]
    refine wpAnyH_take (i := 7) (v := .agg [.string a.canon.name, .slice F nf cf, .slice Q np cp, .string a.canon.res.name, .slice Ar mr ar, .int .i64 a.canon.res.off, .int .i64 a.canon.off].toArray) rfl (by kernel_rfl) (by kernel_rfl) (by kernel_rfl) (fun _ _ _ h => h) (Or.inl ⟨by rfl, fun V hV => loadYieldB flatSg rfl hV.c.box.at0 HXL.out⟩) (by assumption) ?_
    try simp only [Act.put, List.getElem_toArray, List.getElem_cons_zero, List.getElem_cons_succ, List.setIfInBounds_toArray, List.set_cons_zero, List.set_cons_succ]
    refine wpAnyH_ready (rs := [6]) (by kernel_rfl) (by simp) ?_
    refine AllReadyH.cons rfl (fun K hK => ?_) (AllReadyH.nil)
    go_simp
    refine (bcanon_d a.canon _ _ HTC.out hS.pow hS.c.dat).mono ?_
    rintro e V1 ⟨us6, rfl, hd6, hb1⟩
    have SS := hS.later hb1
    rw [Sg.canon_canon] at hd6
    have HD6 := Lib.hid (show a.canon.dat.H V1 us6 from hd6.wide fun b hb => hb.2)
    clear hd6
    clear hS hb1
    refine hK.out _ _ SS (fun hS => ?_)
    clear hK K SS
    try simp only [Act.put, List.getElem_toArray, List.getElem_cons_zero, List.getElem_cons_succ, List.setIfInBounds_toArray, List.set_cons_zero, List.set_cons_succ]
    refine wpAnyH_ready (rs := [8]) (by kernel_rfl) (by simp) ?_
    refine AllReadyH.cons rfl (fun K hK => ?_) (AllReadyH.nil)
    go_simp
    refine (rsig_any a.canon a.canon us6 _ true _ HD6.out hS.c.dat).mono ?_
    rintro e V1 ⟨rfl, hb1⟩
    have SS := hS.later hb1
    rw [Sg.exact]
    clear HD6
    clear hS hb1
    refine hK.out _ _ SS (fun hS => ?_)
    clear hK K SS
    try simp only [Act.put, List.getElem_toArray, List.getElem_cons_zero, List.getElem_cons_succ, List.setIfInBounds_toArray, List.set_cons_zero, List.set_cons_succ]
    refine wpAnyH_take (i := 9) (v := ?_) rfl (by kernel_rfl) (by kernel_rfl) (by kernel_rfl) (fun _ _ _ h => h) (Or.inl ⟨by rfl, ?_⟩) (by assumption) ?_
    rotate_left
    · (intro V hV; go_simp; try with_reducible rfl)
    try simp only [Act.put, List.getElem_toArray, List.getElem_cons_zero, List.getElem_cons_succ, List.setIfInBounds_toArray, List.set_cons_zero, List.set_cons_succ]
    refine wpAnyH_take (i := 10) (v := ?_) rfl (by kernel_rfl) (by kernel_rfl) (by kernel_rfl) (fun _ _ _ h => h) (Or.inl ⟨by rfl, ?_⟩) (by assumption) ?_
    rotate_left
    · (intro V hV; go_simp; try with_reducible rfl)
    try simp only [Act.put, List.getElem_toArray, List.getElem_cons_zero, List.getElem_cons_succ, List.setIfInBounds_toArray, List.set_cons_zero, List.set_cons_succ]
    refine wpAnyH_take (i := 11) (v := .agg us.toArray) rfl (by kernel_rfl) (by kernel_rfl) (by kernel_rfl) (fun _ _ _ h => h) (Or.inl ⟨by rfl, fun V hV => loadYieldB flatSg rfl hV.a.box.at0 HUL.out⟩) (by assumption) ?_
    try simp only [Act.put, List.getElem_toArray, List.getElem_cons_zero, List.getElem_cons_succ, List.setIfInBounds_toArray, List.set_cons_zero, List.set_cons_succ]
    refine wpAnyH_take (i := 12) (v := .agg vs.toArray) rfl (by kernel_rfl) (by kernel_rfl) (by kernel_rfl) (fun _ _ _ h => h) (Or.inl ⟨by rfl, fun V hV => loadYieldB flatSg rfl hV.b.box.at0 HVL.out⟩) (by assumption) ?_
    try simp only [Act.put, List.getElem_toArray, List.getElem_cons_zero, List.getElem_cons_succ, List.setIfInBounds_toArray, List.set_cons_zero, List.set_cons_succ]
    refine wpAnyH_take (i := 14) (v := .agg us.toArray) rfl (by kernel_rfl) (by kernel_rfl) (by kernel_rfl) (fun _ _ _ h => h) (Or.inl ⟨by rfl, fun V hV => loadYieldB flatSg rfl hV.a.box.at0 HUL.out⟩) (by assumption) ?_
    try simp only [Act.put, List.getElem_toArray, List.getElem_cons_zero, List.getElem_cons_succ, List.setIfInBounds_toArray, List.set_cons_zero, List.set_cons_succ]
    refine wpAnyH_take (i := 15) (v := .agg vs.toArray) rfl (by kernel_rfl) (by kernel_rfl) (by kernel_rfl) (fun _ _ _ h => h) (Or.inl ⟨by rfl, fun V hV => loadYieldB flatSg rfl hV.b.box.at0 HVL.out⟩) (by assumption) ?_
    try simp only [Act.put, List.getElem_toArray, List.getElem_cons_zero, List.getElem_cons_succ, List.setIfInBounds_toArray, List.set_cons_zero, List.set_cons_succ]
    refine wpAnyH_ready (rs := [13]) (by kernel_rfl) (by simp) ?_
    refine AllReadyH.cons rfl (fun K hK => ?_) (AllReadyH.nil)
    go_simp
    refine (balike_any a b _ _ _ HTA.out HTB.out hS.pow hS.a.dat hS.b.dat).mono ?_
    rintro e V1 ⟨rfl, hb1⟩
    have SS := hS.later hb1
    rw [HX.out]
    clear hS hb1
    refine hK.out _ _ SS (fun hS => ?_)
    clear hK K SS
    try simp only [Act.put, List.getElem_toArray, List.getElem_cons_zero, List.getElem_cons_succ, List.setIfInBounds_toArray, List.set_cons_zero, List.set_cons_succ]
    refine wpAnyH_ready (rs := [16]) (by kernel_rfl) (by simp) ?_
    refine AllReadyH.cons rfl (fun K hK => ?_) (AllReadyH.nil)
    go_simp
    refine (ralike_any a b _ _ _ HTA.out HTB.out hS.a.dat hS.b.dat).mono ?_
    rintro e V1 ⟨rfl, hb1⟩
    have SS := hS.later hb1
    rw [HX.out]
    clear hS hb1
    refine hK.out _ _ SS (fun hS => ?_)
    clear hK K SS
    try simp only [Act.put, List.getElem_toArray, List.getElem_cons_zero, List.getElem_cons_succ, List.setIfInBounds_toArray, List.set_cons_zero, List.set_cons_succ]
    refine wpAnyH_take (i := 17) (v := ?_) rfl (by kernel_rfl) (by kernel_rfl) (by kernel_rfl) (fun _ _ _ h => h) (Or.inl ⟨by rfl, ?_⟩) (by assumption) ?_
    rotate_left
    · (intro V hV; go_simp; try with_reducible rfl)
    try simp only [Act.put, List.getElem_toArray, List.getElem_cons_zero, List.getElem_cons_succ, List.setIfInBounds_toArray, List.set_cons_zero, List.set_cons_succ]
    refine wpAnyH_take (i := 18) (v := ?_) rfl (by kernel_rfl) (by kernel_rfl) (by kernel_rfl) (fun _ _ _ h => h) (Or.inl ⟨by rfl, ?_⟩) (by assumption) ?_
    rotate_left
    · (intro V hV; go_simp; try with_reducible rfl)
    try simp only [Act.put, List.getElem_toArray, List.getElem_cons_zero, List.getElem_cons_succ, List.setIfInBounds_toArray, List.set_cons_zero, List.set_cons_succ]
    refine wpAnyH_take (i := 19) (v := ?_) rfl (by kernel_rfl) (by kernel_rfl) (by kernel_rfl) (fun _ _ _ h => h) (Or.inl ⟨by rfl, ?_⟩) (by assumption) ?_
    rotate_left
    · (intro V hV; go_simp; try with_reducible rfl)
    try simp only [Act.put, List.getElem_toArray, List.getElem_cons_zero, List.getElem_cons_succ, List.setIfInBounds_toArray, List.set_cons_zero, List.set_cons_succ]
    refine wpAnyH_take (i := 20) (v := .agg us.toArray) rfl (by kernel_rfl) (by kernel_rfl) (by kernel_rfl) (fun _ _ _ h => h) (Or.inl ⟨by rfl, fun V hV => loadYieldB flatSg rfl hV.a.box.at0 HUL.out⟩) (by assumption) ?_
    try simp only [Act.put, List.getElem_toArray, List.getElem_cons_zero, List.getElem_cons_succ, List.setIfInBounds_toArray, List.set_cons_zero, List.set_cons_succ]
    refine wpAnyH_take (i := 21) (v := .agg [.string a.canon.name, .slice F nf cf, .slice Q np cp, .string a.canon.res.name, .slice Ar mr ar, .int .i64 a.canon.res.off, .int .i64 a.canon.off].toArray) rfl (by kernel_rfl) (by kernel_rfl) (by kernel_rfl) (fun _ _ _ h => h) (Or.inl ⟨by rfl, fun V hV => loadYieldB flatSg rfl hV.c.box.at0 HXL.out⟩) (by assumption) ?_
    try simp only [Act.put, List.getElem_toArray, List.getElem_cons_zero, List.getElem_cons_succ, List.setIfInBounds_toArray, List.set_cons_zero, List.set_cons_succ]
    refine wpAnyH_ready (rs := [22]) (by kernel_rfl) (by simp) ?_
    refine AllReadyH.cons rfl (fun K hK => ?_) (AllReadyH.nil)
    go_simp
    refine (balike_any a a.canon _ _ _ HTA.out HTC.out hS.pow hS.a.dat hS.c.dat).mono ?_
    rintro e V1 ⟨rfl, hb1⟩
    have SS := hS.later hb1
    rw [Sg.alike_canon]
    clear hS hb1
    refine hK.out _ _ SS (fun hS => ?_)
    clear hK K SS
    try simp only [Act.put, List.getElem_toArray, List.getElem_cons_zero, List.getElem_cons_succ, List.setIfInBounds_toArray, List.set_cons_zero, List.set_cons_succ]
    refine wpAnyH_take (i := 23) (v := ?_) rfl (by kernel_rfl) (by kernel_rfl) (by kernel_rfl) (fun _ _ _ h => h) (Or.inl ⟨by rfl, ?_⟩) (by assumption) ?_
    rotate_left
    · (intro V hV; go_simp; try with_reducible rfl)
    try simp only [Act.put, List.getElem_toArray, List.getElem_cons_zero, List.getElem_cons_succ, List.setIfInBounds_toArray, List.set_cons_zero, List.set_cons_succ]
    refine wpAnyH_take (i := 24) (v := ?_) rfl (by kernel_rfl) (by kernel_rfl) (by kernel_rfl) (fun _ _ _ h => h) (Or.inl ⟨by rfl, ?_⟩) (by assumption) ?_
    rotate_left
    · (intro V hV; go_simp; try with_reducible rfl)
    try simp only [Act.put, List.getElem_toArray, List.getElem_cons_zero, List.getElem_cons_succ, List.setIfInBounds_toArray, List.set_cons_zero, List.set_cons_succ]
    refine wpAnyH_done (by kernel_rfl) ?_ _
    go_wp2_with fail
    go_ret
    exact ⟨rfl, hS.bel⟩
end Go.Proofs.YtkdlidakdknhjaaDoor
