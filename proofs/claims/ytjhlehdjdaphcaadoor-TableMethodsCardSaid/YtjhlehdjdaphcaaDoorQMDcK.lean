/- The walks of decl's clones of declarations and lists of types. The condition: few parts.
The walks of decl.each at declarations and at types. The condition: few parts.
The walk of decl.Clone at programs. The condition: few parts.
decl.Clone: what it gives, with the capacities of the variables' rows. The condition: few parts. -/
import Derived.Test.YtjhlehdjdaphcaaDoorQMDcM
import Derived.Deep.RegionHeld3
import Derived.Lib.AppendZerosOnto
namespace Go.Proofs.YtjhlehdjdaphcaaDoor
open Go.RowKit

theorem strs_ins {w w' : World} {N N' : Prop} {S S' : Nat → Prop} : ∀ {vs : List ByteArray} {us : List Value}, Dat.Ins w N S (vs.map Dat.str) us → Dat.Ins w' N' S' (vs.map Dat.str) us
  | [], us, h => by
    rw [List.map_nil, Dat.Ins] at h ⊢
    exact h
  | s :: r, us, h => by
    rw [List.map_cons, Dat.Ins] at h ⊢
    obtain ⟨u1, u2, h1, h2, h3⟩ := h
    rw [Dat.In] at h2
    exact ⟨u1, u2, h1, by rw [Dat.In]; exact h2, strs_ins h3⟩
theorem str_cells {w : World} {N : Prop} {S : Nat → Prop} {vs : List ByteArray} : ∀ d ∈ vs.map Dat.str, ∀ u, d.In w N S u → ∀ x ∈ u, x.oneCell' = true := fun d hd u hu x hx => by
  rw [List.mem_map] at hd
  obtain ⟨s, _, rfl⟩ := hd
  rw [Dat.In] at hu
  obtain ⟨rfl, _⟩ := hu
  rw [List.mem_singleton] at hx
  subst hx
  rfl
theorem strs_end {w W w1 : World} {n : Nat} {v : Value} {vs : List ByteArray} {us : List Value} {S : Nat → Prop} (_hb : Below w.heap.size w W) (hg : w.heap.size + 2 ≤ W.heap.size) (h : Appd W w1 W.heap.size 9 1 0 n (.slice none 0 0) v [] us) (hu : Dat.Ins W False S (vs.map Dat.str) us) (hn : n ≤ 1000000) :
    ∃ A c, v = .slice A vs.length c ∧ Row w1 False (Fr w w1) 1 A vs.length (vs.map Dat.str) ∧ Below W.heap.size W w1 := by
  have hlen : us.length = n := by have := h.own.1; simpa using this
  have hvl : us.length = vs.length := by
    have h1 := Dat.Ins.len _ _ hu
    rw [sizes_all (z := 1) (fun d hd => by rw [List.mem_map] at hd; obtain ⟨s, _, rfl⟩ := hd; rfl), List.length_map] at h1
    omega
  obtain ⟨A, c, h1, h2, _⟩ := row_of_own (N := False) (S := fun _ => False) (S' := Fr w w1) (ds := vs.map Dat.str) h.own (by rw [List.nil_append]; exact strs_ins hu) (fun d hd => by rw [List.mem_map] at hd; obtain ⟨s, _, rfl⟩ := hd; rfl) (by omega) (fun _ h => h.elim) (fun g hg2 => by
    rcases h.at_ with h3 | h3
    · rw [h3] at hg2; cases hg2
    · rw [h3] at hg2
      obtain rfl : W.heap.size = g := by injection hg2
      exact ⟨hg, (h.own.lt _ h3).2⟩) (by omega)
  refine ⟨A, c, by rw [h1]; congr 1; omega, by have h5 := h2; rwa [show 0 + n = vs.length by omega] at h5, (Below.refl _ _).grown h.grow (Nat.le_refl _) (fun k hk => by cases hk)⟩
theorem dcMk {w : World} {N : Prop} {S : Nat → Prop} {d : Dc} {u1 u2 u3 u4 u5 u6 : List Value} (h1 : d.name.size ≤ 9223372036854775807) (h2 : (Dat.arr false 5 (d.fs.map Fo.dat)).In w N S u1) (h3 : (Dat.arr false 5 (d.ms.map Fo.dat)).In w N S u2) (h4 : (Dat.arr false 7 (d.gs.map Sg.dat)).In w N S u3)
    (h5 : d.recv.size ≤ 9223372036854775807) (h6 : (Dat.arr false 1 (d.vs.map Dat.str)).In w N S u4) (h7 : d.sig.dat.In w N S u5) (h8 : d.body.dat.In w N S u6) :
    d.dat.In w N S (.int .i64 d.kind :: .string d.name :: (u1 ++ (u2 ++ (u3 ++ (.string d.recv :: (u4 ++ (u5 ++ (u6 ++ [.int .i64 d.off])))))))) := by
  rw [Dc.dat, Dat.In, Dat.Ins]
  refine ⟨[_], _, rfl, by rw [Dat.In], ?_⟩
  rw [Dat.Ins]
  refine ⟨[_], _, rfl, by rw [Dat.In]; exact ⟨rfl, h1⟩, ?_⟩
  rw [Dat.Ins]
  refine ⟨u1, _, rfl, h2, ?_⟩
  rw [Dat.Ins]
  refine ⟨u2, _, rfl, h3, ?_⟩
  rw [Dat.Ins]
  refine ⟨u3, _, rfl, h4, ?_⟩
  rw [Dat.Ins]
  refine ⟨[_], _, rfl, by rw [Dat.In]; exact ⟨rfl, h5⟩, ?_⟩
  rw [Dat.Ins]
  refine ⟨u4, _, rfl, h6, ?_⟩
  rw [Dat.Ins]
  refine ⟨u5, _, rfl, h7, ?_⟩
  rw [Dat.Ins]
  refine ⟨u6, _, rfl, h8, ?_⟩
  rw [Dat.Ins]
  exact ⟨[_], [], rfl, by rw [Dat.In], by rw [Dat.Ins]⟩

theorem results_cloneDecl {w : World} {b : Nat} {us : List Value} (tmps : Array Value) (ht : tmps[2]?.getD undef = .pointer (some ⟨b, 0, none⟩)) (hc : Boxd w b us) (hl : us.length = 23) : (results Tryd.f57 tmps).run Tryd.prog w = .ok (.agg us.toArray) w := by
  have h := run_loadVar_at w ⟨b, 0, none⟩ 52 us _ hc.at0 Tryd.underlying52 rfl (by rw [hl]; exact flatDc.size)
  have h2 : (asAddr (.pointer (some ⟨b, 0, none⟩))).run Tryd.prog w = .ok ⟨b, 0, none⟩ w := rfl
  simp [results, Tryd.results57, ht, h, h2, Sem.run_bind, Result.andThen]
set_option maxRecDepth 100000 in
set_option maxHeartbeats 16000000 in
theorem cloneDecl_any (f : Dc) (us : List Value) (w : World) (hw : f.wt ≤ 1990) (h : f.dat.H w us) : Calls Tryd.prog 57 #[.agg us.toArray] w (DPost w f.dat) := by
  have hM := Cl.new w us.toArray z23 52
  obtain ⟨W0, hW0⟩ : ∃ W0, (w.alloc (.cells us.toArray 52)).alloc (.cells z23 52) = W0 := ⟨_, rfl⟩
  rw [hW0] at hM
  obtain ⟨Fu, nfu, cfu, Pu, npu, cpu, Gu, ngu, cgu, Vu, nvu, cvu, F2u, nf2u, cf2u, P2u, np2u, cp2u, A2u, m2u, a2u, A3u, m3u, a3u, B3u, l3u, b3u, C3u, n3u, c3u, hus, hn, hf, hp, hg, hr0, hv, hs, hbd⟩ := dc_full h
  have M0 := Lib.hid (show Cl w W0 [.int .i64 f.kind, .string f.name, .slice Fu nfu cfu, .slice Pu npu cpu, .slice Gu ngu cgu, .string f.recv, .slice Vu nvu cvu, .string f.sig.name, .slice F2u nf2u cf2u, .slice P2u np2u cp2u, .string f.sig.res.name, .slice A2u m2u a2u, .int .i64 f.sig.res.off, .int .i64 f.sig.off, .int .i64 f.body.kind, .string f.body.name, .string f.body.ty.name, .slice A3u m3u a3u, .int .i64 f.body.ty.off, .slice B3u l3u b3u, .slice C3u n3u c3u, .int .i64 f.body.off, .int .i64 f.off] 23 by rw [← hus]; exact hM)
  have HW0 := Lib.hid hW0
  have HWT := Lib.hid hw
  have HN := Lib.hid (hn)
  have HF := Lib.hid (hf)
  have HP := Lib.hid (hp)
  have HG := Lib.hid (hg)
  have HR := Lib.hid (hr0)
  have HV := Lib.hid (hv)
  have HS := Lib.hid (hs)
  have HBD := Lib.hid (hbd)
  have HLF := Lib.hid ((show nfu ≤ 1990 by have := Dc.len_f f; have := hf.len; rw [List.length_map] at this; omega))
  have HLP := Lib.hid ((show npu ≤ 1990 by have := Dc.len_m f; have := hp.len; rw [List.length_map] at this; omega))
  have HLG := Lib.hid ((show ngu ≤ 1990 by have := Dc.len_g f; have := hg.len; rw [List.length_map] at this; omega))
  have HLV := Lib.hid ((show nvu ≤ 1990 by have := Dc.len_v f; have := hv.len; rw [List.length_map] at this; omega))
  clear hM h hus hW0 hw hn hf hp hg hr0 hv hs hbd
  go_enter Tryd.func57, Tryd.ntmps57
  go_upto_region 1 with fail
  rw [HW0.out]
  clear HW0
  have x2 := M0.out.box.box 2 _ rfl
  go_wp2_with fail
  refine ((eachFormal_any f.fs Fu nfu cfu W0 (fun g hg => Nat.le_trans (Dc.wt_f (d := f) hg) HWT.out) (by have := HLF.out; omega) (RowH.later HF.out M0.out.bel))).mono ?_
  rintro e w1 ⟨pA, pc, rfl, hr, hb⟩
  have Dp0m := Lib.hid (fr_new (arr_in (c := pc) hr) M0.out.big)
  have M0m := Lib.hid (M0.out.later hb)
  clear hr hb M0 x2
  obtain ⟨W1, hW⟩ : ∃ W1, w1.setCells w.heap.size 2 [.slice pA f.fs.length pc] = W1 := ⟨_, rfl⟩
  have HW := Lib.hid hW
  have M1 := Lib.hid (show Cl w W1 [.int .i64 f.kind, .string f.name, .slice pA f.fs.length pc, .slice Pu npu cpu, .slice Gu ngu cgu, .string f.recv, .slice Vu nvu cvu, .string f.sig.name, .slice F2u nf2u cf2u, .slice P2u np2u cp2u, .string f.sig.res.name, .slice A2u m2u a2u, .int .i64 f.sig.res.off, .int .i64 f.sig.off, .int .i64 f.body.kind, .string f.body.name, .string f.body.ty.name, .slice A3u m3u a3u, .int .i64 f.body.ty.off, .slice B3u l3u b3u, .slice C3u n3u c3u, .int .i64 f.body.off, .int .i64 f.off] 23 from hW ▸ M0m.out.set (p := [.int .i64 f.kind, .string f.name]) (vs := [.slice pA f.fs.length pc]) (r := [.slice Pu npu cpu, .slice Gu ngu cgu, .string f.recv, .slice Vu nvu cvu, .string f.sig.name, .slice F2u nf2u cf2u, .slice P2u np2u cp2u, .string f.sig.res.name, .slice A2u m2u a2u, .int .i64 f.sig.res.off, .int .i64 f.sig.off, .int .i64 f.body.kind, .string f.body.name, .string f.body.ty.name, .slice A3u m3u a3u, .int .i64 f.body.ty.off, .slice B3u l3u b3u, .slice C3u n3u c3u, .int .i64 f.body.off, .int .i64 f.off]) rfl (by intro j hj; simp only [List.length_cons, List.length_nil] at hj; exact (match j, hj with | 0, _ => rfl | 1, _ => rfl | j + 2, hj => absurd hj (by omega))) (by intro j hj; simp only [List.length_cons, List.length_nil] at hj; exact (match j, hj with | 0, _ => rfl | 1, _ => rfl | 2, _ => rfl | 3, _ => rfl | 4, _ => rfl | 5, _ => rfl | 6, _ => rfl | 7, _ => rfl | 8, _ => rfl | 9, _ => rfl | 10, _ => rfl | 11, _ => rfl | 12, _ => rfl | 13, _ => rfl | 14, _ => rfl | 15, _ => rfl | 16, _ => rfl | 17, _ => rfl | 18, _ => rfl | 19, _ => rfl | j + 20, hj => absurd hj (by omega))))
  have Dp1 := Lib.hid (show Dat.In W1 False (Fr w W1) _ _ from hW ▸ fr_set Dp0m.out 2 [.slice pA f.fs.length pc])
  clear hW Dp0m
  have y2 := M0m.out.box.box 2 _ rfl
  have e2 := M0m.out.box.free 2 (by simp)
  go_upto_region 2 with fail
  rw [show w1.setCell ⟨w.heap.size, 2, none⟩ (.slice pA f.fs.length pc) = W1 from HW.out]
  clear HW y2 e2 M0m
  have x3 := M1.out.box.box 3 _ rfl
  go_wp2_with fail
  refine ((eachParam_any f.ms Pu npu cpu W1 (fun g hg => Nat.le_trans (Dc.wt_m (d := f) hg) HWT.out) (by have := HLP.out; omega) (RowH.later HP.out M1.out.bel))).mono ?_
  rintro e w2 ⟨qA, qc, rfl, hr, hb⟩
  have Dq1m := Lib.hid (fr_new (arr_in (c := qc) hr) M1.out.big)
  have M1m := Lib.hid (M1.out.later hb)
  have Dp1m := Lib.hid (fr_later Dp1.out hb)
  clear hr hb M1 x3 Dp1
  obtain ⟨W2, hW⟩ : ∃ W2, w2.setCells w.heap.size 3 [.slice qA f.ms.length qc] = W2 := ⟨_, rfl⟩
  have HW := Lib.hid hW
  have M2 := Lib.hid (show Cl w W2 [.int .i64 f.kind, .string f.name, .slice pA f.fs.length pc, .slice qA f.ms.length qc, .slice Gu ngu cgu, .string f.recv, .slice Vu nvu cvu, .string f.sig.name, .slice F2u nf2u cf2u, .slice P2u np2u cp2u, .string f.sig.res.name, .slice A2u m2u a2u, .int .i64 f.sig.res.off, .int .i64 f.sig.off, .int .i64 f.body.kind, .string f.body.name, .string f.body.ty.name, .slice A3u m3u a3u, .int .i64 f.body.ty.off, .slice B3u l3u b3u, .slice C3u n3u c3u, .int .i64 f.body.off, .int .i64 f.off] 23 from hW ▸ M1m.out.set (p := [.int .i64 f.kind, .string f.name, .slice pA f.fs.length pc]) (vs := [.slice qA f.ms.length qc]) (r := [.slice Gu ngu cgu, .string f.recv, .slice Vu nvu cvu, .string f.sig.name, .slice F2u nf2u cf2u, .slice P2u np2u cp2u, .string f.sig.res.name, .slice A2u m2u a2u, .int .i64 f.sig.res.off, .int .i64 f.sig.off, .int .i64 f.body.kind, .string f.body.name, .string f.body.ty.name, .slice A3u m3u a3u, .int .i64 f.body.ty.off, .slice B3u l3u b3u, .slice C3u n3u c3u, .int .i64 f.body.off, .int .i64 f.off]) rfl (by intro j hj; simp only [List.length_cons, List.length_nil] at hj; exact (match j, hj with | 0, _ => rfl | 1, _ => rfl | 2, _ => rfl | j + 3, hj => absurd hj (by omega))) (by intro j hj; simp only [List.length_cons, List.length_nil] at hj; exact (match j, hj with | 0, _ => rfl | 1, _ => rfl | 2, _ => rfl | 3, _ => rfl | 4, _ => rfl | 5, _ => rfl | 6, _ => rfl | 7, _ => rfl | 8, _ => rfl | 9, _ => rfl | 10, _ => rfl | 11, _ => rfl | 12, _ => rfl | 13, _ => rfl | 14, _ => rfl | 15, _ => rfl | 16, _ => rfl | 17, _ => rfl | 18, _ => rfl | j + 19, hj => absurd hj (by omega))))
  have Dp2 := Lib.hid (show Dat.In W2 False (Fr w W2) _ _ from hW ▸ fr_set Dp1m.out 3 [.slice qA f.ms.length qc])
  have Dq2 := Lib.hid (show Dat.In W2 False (Fr w W2) _ _ from hW ▸ fr_set Dq1m.out 3 [.slice qA f.ms.length qc])
  clear hW Dp1m Dq1m
  have y3 := M1m.out.box.box 3 _ rfl
  have e3 := M1m.out.box.free 3 (by simp)
  go_upto_region 3 with fail
  rw [show w2.setCell ⟨w.heap.size, 3, none⟩ (.slice qA f.ms.length qc) = W2 from HW.out]
  clear HW y3 e3 M1m
  have x4 := M2.out.box.box 4 _ rfl
  go_wp2_with fail
  refine ((eachSig_any f.gs Gu ngu cgu W2 (fun g hg => Nat.le_trans (Dc.wt_g (d := f) hg) HWT.out) (by have := HLG.out; omega) (RowH.later HG.out M2.out.bel))).mono ?_
  rintro e w3 ⟨rA, rc, rfl, hr, hb⟩
  have Dr2m := Lib.hid (fr_new (arr_in (c := rc) hr) M2.out.big)
  have M2m := Lib.hid (M2.out.later hb)
  have Dp2m := Lib.hid (fr_later Dp2.out hb)
  have Dq2m := Lib.hid (fr_later Dq2.out hb)
  clear hr hb M2 x4 Dp2 Dq2
  obtain ⟨W3, hW⟩ : ∃ W3, w3.setCells w.heap.size 4 [.slice rA f.gs.length rc] = W3 := ⟨_, rfl⟩
  have HW := Lib.hid hW
  have M3 := Lib.hid (show Cl w W3 [.int .i64 f.kind, .string f.name, .slice pA f.fs.length pc, .slice qA f.ms.length qc, .slice rA f.gs.length rc, .string f.recv, .slice Vu nvu cvu, .string f.sig.name, .slice F2u nf2u cf2u, .slice P2u np2u cp2u, .string f.sig.res.name, .slice A2u m2u a2u, .int .i64 f.sig.res.off, .int .i64 f.sig.off, .int .i64 f.body.kind, .string f.body.name, .string f.body.ty.name, .slice A3u m3u a3u, .int .i64 f.body.ty.off, .slice B3u l3u b3u, .slice C3u n3u c3u, .int .i64 f.body.off, .int .i64 f.off] 23 from hW ▸ M2m.out.set (p := [.int .i64 f.kind, .string f.name, .slice pA f.fs.length pc, .slice qA f.ms.length qc]) (vs := [.slice rA f.gs.length rc]) (r := [.string f.recv, .slice Vu nvu cvu, .string f.sig.name, .slice F2u nf2u cf2u, .slice P2u np2u cp2u, .string f.sig.res.name, .slice A2u m2u a2u, .int .i64 f.sig.res.off, .int .i64 f.sig.off, .int .i64 f.body.kind, .string f.body.name, .string f.body.ty.name, .slice A3u m3u a3u, .int .i64 f.body.ty.off, .slice B3u l3u b3u, .slice C3u n3u c3u, .int .i64 f.body.off, .int .i64 f.off]) rfl (by intro j hj; simp only [List.length_cons, List.length_nil] at hj; exact (match j, hj with | 0, _ => rfl | 1, _ => rfl | 2, _ => rfl | 3, _ => rfl | j + 4, hj => absurd hj (by omega))) (by intro j hj; simp only [List.length_cons, List.length_nil] at hj; exact (match j, hj with | 0, _ => rfl | 1, _ => rfl | 2, _ => rfl | 3, _ => rfl | 4, _ => rfl | 5, _ => rfl | 6, _ => rfl | 7, _ => rfl | 8, _ => rfl | 9, _ => rfl | 10, _ => rfl | 11, _ => rfl | 12, _ => rfl | 13, _ => rfl | 14, _ => rfl | 15, _ => rfl | 16, _ => rfl | 17, _ => rfl | j + 18, hj => absurd hj (by omega))))
  have Dp3 := Lib.hid (show Dat.In W3 False (Fr w W3) _ _ from hW ▸ fr_set Dp2m.out 4 [.slice rA f.gs.length rc])
  have Dq3 := Lib.hid (show Dat.In W3 False (Fr w W3) _ _ from hW ▸ fr_set Dq2m.out 4 [.slice rA f.gs.length rc])
  have Dr3 := Lib.hid (show Dat.In W3 False (Fr w W3) _ _ from hW ▸ fr_set Dr2m.out 4 [.slice rA f.gs.length rc])
  clear hW Dp2m Dq2m Dr2m
  have y4 := M2m.out.box.box 4 _ rfl
  have e4 := M2m.out.box.free 4 (by simp)
  go_upto_region 4 with fail
  rw [show w3.setCell ⟨w.heap.size, 4, none⟩ (.slice rA f.gs.length rc) = W3 from HW.out]
  clear HW y4 e4 M2m
  have x6 := M3.out.box.box 6 _ rfl
  obtain ⟨us4, hu4, hl4, hc4⟩ := row_flat (RowH.later HV.out M3.out.bel) (fun d hd => by rw [List.mem_map] at hd; obtain ⟨s, _, rfl⟩ := hd; rfl)
  have HU4 := Lib.hid hu4
  have HL4 := Lib.hid hl4
  have HC4 := Lib.hid hc4
  have HON := Lib.hid (World.ownsRow_nil W3 W3.heap.size 9 1)
  have HSOM := Lib.hid (row_some (RowH.later HV.out M3.out.bel))
  clear hu4 hl4 hc4
  go_upto_region 5 with (at_builtin; refine wpList_append_row slStr rfl _ _ rfl rfl rfl HON.out (Nat.le_refl _) HL4.out HC4.out (ins_cells str_cells HU4.out) HSOM.out (by have := HLV.out; omega) (by omega) ?_; intro v4 w4 hA; obtain ⟨sA, sc, rfl, hr, hb⟩ := strs_end M3.out.bel M3.out.big hA HU4.out (by have := HLV.out; omega); have Ds3m := Lib.hid (arr_in (c := sc) hr); have M3m := Lib.hid (M3.out.later hb); have Dp3m := Lib.hid (fr_later Dp3.out hb); have Dq3m := Lib.hid (fr_later Dq3.out hb); have Dr3m := Lib.hid (fr_later Dr3.out hb); clear hr hb M3 x6 Dp3 Dq3 Dr3; obtain ⟨W4, hW⟩ : ∃ W4, w4.setCells w.heap.size 6 [.slice sA f.vs.length sc] = W4 := ⟨_, rfl⟩; have HW := Lib.hid hW; have M4 := Lib.hid (show Cl w W4 [.int .i64 f.kind, .string f.name, .slice pA f.fs.length pc, .slice qA f.ms.length qc, .slice rA f.gs.length rc, .string f.recv, .slice sA f.vs.length sc, .string f.sig.name, .slice F2u nf2u cf2u, .slice P2u np2u cp2u, .string f.sig.res.name, .slice A2u m2u a2u, .int .i64 f.sig.res.off, .int .i64 f.sig.off, .int .i64 f.body.kind, .string f.body.name, .string f.body.ty.name, .slice A3u m3u a3u, .int .i64 f.body.ty.off, .slice B3u l3u b3u, .slice C3u n3u c3u, .int .i64 f.body.off, .int .i64 f.off] 23 from hW ▸ M3m.out.set (p := [.int .i64 f.kind, .string f.name, .slice pA f.fs.length pc, .slice qA f.ms.length qc, .slice rA f.gs.length rc, .string f.recv]) (vs := [.slice sA f.vs.length sc]) (r := [.string f.sig.name, .slice F2u nf2u cf2u, .slice P2u np2u cp2u, .string f.sig.res.name, .slice A2u m2u a2u, .int .i64 f.sig.res.off, .int .i64 f.sig.off, .int .i64 f.body.kind, .string f.body.name, .string f.body.ty.name, .slice A3u m3u a3u, .int .i64 f.body.ty.off, .slice B3u l3u b3u, .slice C3u n3u c3u, .int .i64 f.body.off, .int .i64 f.off]) rfl (by intro j hj; simp only [List.length_cons, List.length_nil] at hj; exact (match j, hj with | 0, _ => rfl | 1, _ => rfl | 2, _ => rfl | 3, _ => rfl | 4, _ => rfl | 5, _ => rfl | j + 6, hj => absurd hj (by omega))) (by intro j hj; simp only [List.length_cons, List.length_nil] at hj; exact (match j, hj with | 0, _ => rfl | 1, _ => rfl | 2, _ => rfl | 3, _ => rfl | 4, _ => rfl | 5, _ => rfl | 6, _ => rfl | 7, _ => rfl | 8, _ => rfl | 9, _ => rfl | 10, _ => rfl | 11, _ => rfl | 12, _ => rfl | 13, _ => rfl | 14, _ => rfl | 15, _ => rfl | j + 16, hj => absurd hj (by omega)))); have Dp4 := Lib.hid (show Dat.In W4 False (Fr w W4) _ _ from hW ▸ fr_set Dp3m.out 6 [.slice sA f.vs.length sc]); have Dq4 := Lib.hid (show Dat.In W4 False (Fr w W4) _ _ from hW ▸ fr_set Dq3m.out 6 [.slice sA f.vs.length sc]); have Dr4 := Lib.hid (show Dat.In W4 False (Fr w W4) _ _ from hW ▸ fr_set Dr3m.out 6 [.slice sA f.vs.length sc]); have Ds4 := Lib.hid (show Dat.In W4 False (Fr w W4) _ _ from hW ▸ fr_set Ds3m.out 6 [.slice sA f.vs.length sc]); clear hW Dp3m Dq3m Dr3m Ds3m; have y6 := M3m.out.box.box 6 _ rfl; have e6 := M3m.out.box.free 6 (by simp))
  rw [show w4.setCell ⟨w.heap.size, 6, none⟩ (.slice sA f.vs.length sc) = W4 from HW.out]
  clear HW y6 e6 M3m
  have x7 := M4.out.box.box 7 _ rfl
  have x8 := M4.out.box.box 8 _ rfl
  have x9 := M4.out.box.box 9 _ rfl
  have x10 := M4.out.box.box 10 _ rfl
  have x11 := M4.out.box.box 11 _ rfl
  have x12 := M4.out.box.box 12 _ rfl
  have x13 := M4.out.box.box 13 _ rfl
  go_wp2_with fail
  refine ((show Calls Tryd.prog 76 #[.agg #[.string f.sig.name, .slice F2u nf2u cf2u, .slice P2u np2u cp2u, .string f.sig.res.name, .slice A2u m2u a2u, .int .i64 f.sig.res.off, .int .i64 f.sig.off]] W4 (DPost W4 f.sig.dat) from cloneSig_any f.sig _ W4 (Nat.le_trans Dc.wt_s HWT.out) (Dat.H.later HS.out M4.out.bel))).mono ?_
  rintro e w5 ⟨tu, rfl, hr, hb⟩
  have Dt4m := Lib.hid (fr_new hr M4.out.big)
  obtain ⟨tF, tnf, tcf, tP, tnp, tcp, tA, tm, ta, rfl, _⟩ := sg_open hr
  have M4m := Lib.hid (M4.out.later hb)
  have Dp4m := Lib.hid (fr_later Dp4.out hb)
  have Dq4m := Lib.hid (fr_later Dq4.out hb)
  have Dr4m := Lib.hid (fr_later Dr4.out hb)
  have Ds4m := Lib.hid (fr_later Ds4.out hb)
  clear hr hb M4 x7 x8 x9 x10 x11 x12 x13 Dp4 Dq4 Dr4 Ds4
  obtain ⟨W5, hW⟩ : ∃ W5, w5.setCells w.heap.size 7 [.string f.sig.name, .slice tF tnf tcf, .slice tP tnp tcp, .string f.sig.res.name, .slice tA tm ta, .int .i64 f.sig.res.off, .int .i64 f.sig.off] = W5 := ⟨_, rfl⟩
  have HW := Lib.hid hW
  have M5 := Lib.hid (show Cl w W5 [.int .i64 f.kind, .string f.name, .slice pA f.fs.length pc, .slice qA f.ms.length qc, .slice rA f.gs.length rc, .string f.recv, .slice sA f.vs.length sc, .string f.sig.name, .slice tF tnf tcf, .slice tP tnp tcp, .string f.sig.res.name, .slice tA tm ta, .int .i64 f.sig.res.off, .int .i64 f.sig.off, .int .i64 f.body.kind, .string f.body.name, .string f.body.ty.name, .slice A3u m3u a3u, .int .i64 f.body.ty.off, .slice B3u l3u b3u, .slice C3u n3u c3u, .int .i64 f.body.off, .int .i64 f.off] 23 from hW ▸ M4m.out.set (p := [.int .i64 f.kind, .string f.name, .slice pA f.fs.length pc, .slice qA f.ms.length qc, .slice rA f.gs.length rc, .string f.recv, .slice sA f.vs.length sc]) (vs := [.string f.sig.name, .slice tF tnf tcf, .slice tP tnp tcp, .string f.sig.res.name, .slice tA tm ta, .int .i64 f.sig.res.off, .int .i64 f.sig.off]) (r := [.int .i64 f.body.kind, .string f.body.name, .string f.body.ty.name, .slice A3u m3u a3u, .int .i64 f.body.ty.off, .slice B3u l3u b3u, .slice C3u n3u c3u, .int .i64 f.body.off, .int .i64 f.off]) rfl (by intro j hj; simp only [List.length_cons, List.length_nil] at hj; exact (match j, hj with | 0, _ => rfl | 1, _ => rfl | 2, _ => rfl | 3, _ => rfl | 4, _ => rfl | 5, _ => rfl | 6, _ => rfl | j + 7, hj => absurd hj (by omega))) (by intro j hj; simp only [List.length_cons, List.length_nil] at hj; exact (match j, hj with | 0, _ => rfl | 1, _ => rfl | 2, _ => rfl | 3, _ => rfl | 4, _ => rfl | 5, _ => rfl | 6, _ => rfl | 7, _ => rfl | 8, _ => rfl | j + 9, hj => absurd hj (by omega))))
  have Dp5 := Lib.hid (show Dat.In W5 False (Fr w W5) _ _ from hW ▸ fr_set Dp4m.out 7 [.string f.sig.name, .slice tF tnf tcf, .slice tP tnp tcp, .string f.sig.res.name, .slice tA tm ta, .int .i64 f.sig.res.off, .int .i64 f.sig.off])
  have Dq5 := Lib.hid (show Dat.In W5 False (Fr w W5) _ _ from hW ▸ fr_set Dq4m.out 7 [.string f.sig.name, .slice tF tnf tcf, .slice tP tnp tcp, .string f.sig.res.name, .slice tA tm ta, .int .i64 f.sig.res.off, .int .i64 f.sig.off])
  have Dr5 := Lib.hid (show Dat.In W5 False (Fr w W5) _ _ from hW ▸ fr_set Dr4m.out 7 [.string f.sig.name, .slice tF tnf tcf, .slice tP tnp tcp, .string f.sig.res.name, .slice tA tm ta, .int .i64 f.sig.res.off, .int .i64 f.sig.off])
  have Ds5 := Lib.hid (show Dat.In W5 False (Fr w W5) _ _ from hW ▸ fr_set Ds4m.out 7 [.string f.sig.name, .slice tF tnf tcf, .slice tP tnp tcp, .string f.sig.res.name, .slice tA tm ta, .int .i64 f.sig.res.off, .int .i64 f.sig.off])
  have Dt5 := Lib.hid (show Dat.In W5 False (Fr w W5) _ _ from hW ▸ fr_set Dt4m.out 7 [.string f.sig.name, .slice tF tnf tcf, .slice tP tnp tcp, .string f.sig.res.name, .slice tA tm ta, .int .i64 f.sig.res.off, .int .i64 f.sig.off])
  clear hW Dp4m Dq4m Dr4m Ds4m Dt4m
  have x14 := M5.out.box.box 14 _ rfl
  have x15 := M5.out.box.box 15 _ rfl
  have x16 := M5.out.box.box 16 _ rfl
  have x17 := M5.out.box.box 17 _ rfl
  have x18 := M5.out.box.box 18 _ rfl
  have x19 := M5.out.box.box 19 _ rfl
  have x20 := M5.out.box.box 20 _ rfl
  have x21 := M5.out.box.box 21 _ rfl
  have HT := Lib.hid (M4m.out.box.there 7 7 (by simp))
  have HO := Lib.hid (sg_cells Dt5.out)
  go_upto_region 6 with (refine storeOp flatSg 22 21 (b := w.heap.size) (o := 7) (us := [.string f.sig.name, .slice tF tnf tcf, .slice tP tnp tcp, .string f.sig.res.name, .slice tA tm ta, .int .i64 f.sig.res.off, .int .i64 f.sig.off]) rfl rfl HT.out HO.out rfl ?_; rw [HW.out])
  clear HW HT HO M4m
  go_wp2_with fail
  refine ((show Calls Tryd.prog 58 #[.agg #[.int .i64 f.body.kind, .string f.body.name, .string f.body.ty.name, .slice A3u m3u a3u, .int .i64 f.body.ty.off, .slice B3u l3u b3u, .slice C3u n3u c3u, .int .i64 f.body.off]] W5 (DPost W5 f.body.dat) from xclone_any f.body _ W5 (by have := Dc.wt_b (d := f); have := HWT.out; omega) (Dat.H.later HBD.out M5.out.bel))).mono ?_
  rintro e w6 ⟨bu, rfl, hr, hb⟩
  have Db5m := Lib.hid (fr_new hr M5.out.big)
  obtain ⟨bA, bm, ba, bB, bl, bb, bC, bn, bc, rfl, _⟩ := ex_open hr
  have M5m := Lib.hid (M5.out.later hb)
  have Dp5m := Lib.hid (fr_later Dp5.out hb)
  have Dq5m := Lib.hid (fr_later Dq5.out hb)
  have Dr5m := Lib.hid (fr_later Dr5.out hb)
  have Ds5m := Lib.hid (fr_later Ds5.out hb)
  have Dt5m := Lib.hid (fr_later Dt5.out hb)
  clear hr hb M5 x14 x15 x16 x17 x18 x19 x20 x21 Dp5 Dq5 Dr5 Ds5 Dt5
  obtain ⟨W6, hW⟩ : ∃ W6, w6.setCells w.heap.size 14 [.int .i64 f.body.kind, .string f.body.name, .string f.body.ty.name, .slice bA bm ba, .int .i64 f.body.ty.off, .slice bB bl bb, .slice bC bn bc, .int .i64 f.body.off] = W6 := ⟨_, rfl⟩
  have HW := Lib.hid hW
  have M6 := Lib.hid (show Cl w W6 [.int .i64 f.kind, .string f.name, .slice pA f.fs.length pc, .slice qA f.ms.length qc, .slice rA f.gs.length rc, .string f.recv, .slice sA f.vs.length sc, .string f.sig.name, .slice tF tnf tcf, .slice tP tnp tcp, .string f.sig.res.name, .slice tA tm ta, .int .i64 f.sig.res.off, .int .i64 f.sig.off, .int .i64 f.body.kind, .string f.body.name, .string f.body.ty.name, .slice bA bm ba, .int .i64 f.body.ty.off, .slice bB bl bb, .slice bC bn bc, .int .i64 f.body.off, .int .i64 f.off] 23 from hW ▸ M5m.out.set (p := [.int .i64 f.kind, .string f.name, .slice pA f.fs.length pc, .slice qA f.ms.length qc, .slice rA f.gs.length rc, .string f.recv, .slice sA f.vs.length sc, .string f.sig.name, .slice tF tnf tcf, .slice tP tnp tcp, .string f.sig.res.name, .slice tA tm ta, .int .i64 f.sig.res.off, .int .i64 f.sig.off]) (vs := [.int .i64 f.body.kind, .string f.body.name, .string f.body.ty.name, .slice bA bm ba, .int .i64 f.body.ty.off, .slice bB bl bb, .slice bC bn bc, .int .i64 f.body.off]) (r := [.int .i64 f.off]) rfl (by intro j hj; simp only [List.length_cons, List.length_nil] at hj; exact (match j, hj with | 0, _ => rfl | 1, _ => rfl | 2, _ => rfl | 3, _ => rfl | 4, _ => rfl | 5, _ => rfl | 6, _ => rfl | 7, _ => rfl | 8, _ => rfl | 9, _ => rfl | 10, _ => rfl | 11, _ => rfl | 12, _ => rfl | 13, _ => rfl | j + 14, hj => absurd hj (by omega))) (by intro j hj; simp only [List.length_cons, List.length_nil] at hj; exact (match j, hj with | 0, _ => rfl | j + 1, hj => absurd hj (by omega))))
  have Dp6 := Lib.hid (show Dat.In W6 False (Fr w W6) _ _ from hW ▸ fr_set Dp5m.out 14 [.int .i64 f.body.kind, .string f.body.name, .string f.body.ty.name, .slice bA bm ba, .int .i64 f.body.ty.off, .slice bB bl bb, .slice bC bn bc, .int .i64 f.body.off])
  have Dq6 := Lib.hid (show Dat.In W6 False (Fr w W6) _ _ from hW ▸ fr_set Dq5m.out 14 [.int .i64 f.body.kind, .string f.body.name, .string f.body.ty.name, .slice bA bm ba, .int .i64 f.body.ty.off, .slice bB bl bb, .slice bC bn bc, .int .i64 f.body.off])
  have Dr6 := Lib.hid (show Dat.In W6 False (Fr w W6) _ _ from hW ▸ fr_set Dr5m.out 14 [.int .i64 f.body.kind, .string f.body.name, .string f.body.ty.name, .slice bA bm ba, .int .i64 f.body.ty.off, .slice bB bl bb, .slice bC bn bc, .int .i64 f.body.off])
  have Ds6 := Lib.hid (show Dat.In W6 False (Fr w W6) _ _ from hW ▸ fr_set Ds5m.out 14 [.int .i64 f.body.kind, .string f.body.name, .string f.body.ty.name, .slice bA bm ba, .int .i64 f.body.ty.off, .slice bB bl bb, .slice bC bn bc, .int .i64 f.body.off])
  have Dt6 := Lib.hid (show Dat.In W6 False (Fr w W6) _ _ from hW ▸ fr_set Dt5m.out 14 [.int .i64 f.body.kind, .string f.body.name, .string f.body.ty.name, .slice bA bm ba, .int .i64 f.body.ty.off, .slice bB bl bb, .slice bC bn bc, .int .i64 f.body.off])
  have Db6 := Lib.hid (show Dat.In W6 False (Fr w W6) _ _ from hW ▸ fr_set Db5m.out 14 [.int .i64 f.body.kind, .string f.body.name, .string f.body.ty.name, .slice bA bm ba, .int .i64 f.body.ty.off, .slice bB bl bb, .slice bC bn bc, .int .i64 f.body.off])
  clear hW Dp5m Dq5m Dr5m Ds5m Dt5m Db5m
  have HT := Lib.hid (M5m.out.box.there 14 8 (by simp))
  have HO := Lib.hid (ex_cells' Db6.out)
  have HB := Lib.hid M6.out.box.box.at0
  have HFD := Lib.hid (show f.dat.In W6 False (Fr w W6) [.int .i64 f.kind, .string f.name, .slice pA f.fs.length pc, .slice qA f.ms.length qc, .slice rA f.gs.length rc, .string f.recv, .slice sA f.vs.length sc, .string f.sig.name, .slice tF tnf tcf, .slice tP tnp tcp, .string f.sig.res.name, .slice tA tm ta, .int .i64 f.sig.res.off, .int .i64 f.sig.off, .int .i64 f.body.kind, .string f.body.name, .string f.body.ty.name, .slice bA bm ba, .int .i64 f.body.ty.off, .slice bB bl bb, .slice bC bn bc, .int .i64 f.body.off, .int .i64 f.off] from dcMk HN.out Dp6.out Dq6.out Dr6.out HR.out Ds6.out Dt6.out Db6.out)
  have HOF := Lib.hid (dc_cells HFD.out)
  obtain ⟨WE, hWE⟩ : ∃ WE, W6.setCells (w.heap.size + 1) 0 [.int .i64 f.kind, .string f.name, .slice pA f.fs.length pc, .slice qA f.ms.length qc, .slice rA f.gs.length rc, .string f.recv, .slice sA f.vs.length sc, .string f.sig.name, .slice tF tnf tcf, .slice tP tnp tcp, .string f.sig.res.name, .slice tA tm ta, .int .i64 f.sig.res.off, .int .i64 f.sig.off, .int .i64 f.body.kind, .string f.body.name, .string f.body.ty.name, .slice bA bm ba, .int .i64 f.body.ty.off, .slice bB bl bb, .slice bC bn bc, .int .i64 f.body.off, .int .i64 f.off] = WE := ⟨_, rfl⟩
  have HWE := Lib.hid hWE
  have HEND := Lib.hid (show DPost w f.dat (.returned (.agg ([.int .i64 f.kind, .string f.name, .slice pA f.fs.length pc, .slice qA f.ms.length qc, .slice rA f.gs.length rc, .string f.recv, .slice sA f.vs.length sc, .string f.sig.name, .slice tF tnf tcf, .slice tP tnp tcp, .string f.sig.res.name, .slice tA tm ta, .int .i64 f.sig.res.off, .int .i64 f.sig.off, .int .i64 f.body.kind, .string f.body.name, .string f.body.ty.name, .slice bA bm ba, .int .i64 f.body.ty.off, .slice bB bl bb, .slice bC bn bc, .int .i64 f.body.off, .int .i64 f.off] : List Value).toArray)) WE from hWE ▸ cl_end M6.out HFD.out)
  have HBX := Lib.hid (show Boxd WE (w.heap.size + 1) [.int .i64 f.kind, .string f.name, .slice pA f.fs.length pc, .slice qA f.ms.length qc, .slice rA f.gs.length rc, .string f.recv, .slice sA f.vs.length sc, .string f.sig.name, .slice tF tnf tcf, .slice tP tnp tcp, .string f.sig.res.name, .slice tA tm ta, .int .i64 f.sig.res.off, .int .i64 f.sig.off, .int .i64 f.body.kind, .string f.body.name, .string f.body.ty.name, .slice bA bm ba, .int .i64 f.body.ty.off, .slice bB bl bb, .slice bC bn bc, .int .i64 f.body.off, .int .i64 f.off] from hWE ▸ set_there (M6.out.res))
  have HTE := Lib.hid M6.out.res
  clear hWE
  go_wp2_with (first
    | (refine storeOp flatEx 26 25 (b := w.heap.size) (o := 14) (us := [.int .i64 f.body.kind, .string f.body.name, .string f.body.ty.name, .slice bA bm ba, .int .i64 f.body.ty.off, .slice bB bl bb, .slice bC bn bc, .int .i64 f.body.off]) rfl rfl HT.out HO.out rfl ?_; rw [HW.out])
    | (refine loadOp flatDc 1 27 rfl HB.out rfl ?_)
    | (refine storeOp flatDc 2 27 (b := w.heap.size + 1) (o := 0) (us := [.int .i64 f.kind, .string f.name, .slice pA f.fs.length pc, .slice qA f.ms.length qc, .slice rA f.gs.length rc, .string f.recv, .slice sA f.vs.length sc, .string f.sig.name, .slice tF tnf tcf, .slice tP tnp tcp, .string f.sig.res.name, .slice tA tm ta, .int .i64 f.sig.res.off, .int .i64 f.sig.off, .int .i64 f.body.kind, .string f.body.name, .string f.body.ty.name, .slice bA bm ba, .int .i64 f.body.ty.off, .slice bB bl bb, .slice bC bn bc, .int .i64 f.body.off, .int .i64 f.off]) rfl rfl HTE.out HOF.out rfl ?_; rw [HWE.out]))
  exact bodyPost_ret (results_cloneDecl _ rfl HBX.out rfl) rfl HEND.out
end Go.Proofs.YtjhlehdjdaphcaaDoor
namespace Go.Proofs.YtjhlehdjdaphcaaDoor
open Go.RowKit

theorem infoDecl : (Tryd.prog.info? 52).map (fun i => (i.zero, i.size, i.bytes)) = some (some (.agg z23), 23, 392) := by kernel_rfl
theorem run_makeDecl (m : Nat) (hm : m ≤ 1000000) (W : World) : (Instr.makeSlice 22 (.int .i64 (m : Int)) (.int .i64 (m : Int))).run Tryd.prog W = .ok (.slice (some ⟨W.heap.size, 0, none⟩) m m) (W.alloc (.cells (madeCells z23 (m * 23)) 52)) := by
  obtain ⟨i0, hi0, hz0, hz1, hz2⟩ := info_parts infoDecl
  have hr := run_make (P := Tryd.prog) W 22 52 i0 _ Tryd.underlying22 hi0 hz0 .i64 .i64 m m (by omega) (Int.le_refl _) (by rw [hz2]; omega) (by omega)
  simp only [Int.toNat_natCast, hz1] at hr
  exact hr
set_option maxRecDepth 100000 in
set_option maxHeartbeats 8000000 in
theorem eachDecl_any (xs : List Dc) (A : Option Addr) (q c : Nat) (w : World) (hw : ∀ f ∈ xs, f.wt ≤ 1990) (hq : q ≤ 1000000) (h : RowH w 23 A q (xs.map Dc.dat)) :
    Calls Tryd.prog 56 #[.slice A q c, .func (.func 57) #[] #[]] w (RPost w 23 xs.length (xs.map Dc.dat)) := by
  have hxl := h.len
  rw [List.length_map] at hxl
  by_cases hm0 : q = 0
  · subst hm0
    obtain rfl := List.eq_nil_of_length_eq_zero hxl
    have e0 : (((0 : Nat) : Int) == 0) = true := rfl
    clear h
    go_enter Tryd.func56, Tryd.ntmps56
    go_wp2_with fail
    go_ret
    exact ⟨none, 0, rfl, Row.nil _ _ _ _ _, Below.refl _ _⟩
  · have e0 : ((q : Int) == 0) = false := by simp; omega
    have hmk := run_makeDecl q hq
    have HF := Lib.hid (fill_make (lo := w.heap.size) (n := 0) (a := w.heap.size) (z := 23) w q z23 52)
    have HB := Lib.hid (show Below w.heap.size w (w.alloc (.cells (madeCells z23 (q * 23)) 52)) from (Below.refl _ _).alloc (Nat.le_refl _) _)
    have hmi : (q : Int) ≤ 1000000 := by omega
    have H1 := Lib.hid h
    have HXL := Lib.hid hxl
    obtain ⟨g, hgz⟩ : ∃ g, g = w.heap.size := ⟨_, rfl⟩
    have HGZ := Lib.hid hgz
    clear h hxl
    go_enter Tryd.func56, Tryd.ntmps56
    go_wp2_with fail
    rw [← hgz] at HF ⊢
    clear hgz
    go_loopw [16] (fun i wr => ∃ k : Nat, k ≤ q ∧ i = .int .i64 k ∧ Fill w.heap.size 0 w.heap.size wr g q 23 ((xs.take k).map Dc.dat) ∧ Below w.heap.size w wr) (fun i _ => q - (intOf i).toNat)
    case atStart => exact ⟨0, by omega, rfl, by have h := HF.out; rw [HGZ.out] at h; rw [HGZ.out]; simpa using h, HB.out⟩
    case round =>
      obtain ⟨k, hk, rfl, hf, hbel⟩ := hrel
      have HBL := Lib.hid hbel
      have HFF := Lib.hid hf
      have y1 : (0 : Int) ≤ k := by omega
      by_cases hlt : k < q
      · have y0 : (k : Int) < q := by omega
        obtain ⟨pu, u, ps, rfl, hx, _, _, hu, hcs⟩ := dat_at (RowH.later H1.out hbel) hlt
        have HLU := Lib.hid (show ps.length = 23 from (Dat.In.len _ _ hu).trans (Dc.dat_size u))
        have HOU := Lib.hid (dc_cells hu)
        obtain ⟨W1, hP1⟩ := putZ z23 52 wr HLU.out
        have HP1 := Lib.hid hP1
        have HFC := Lib.hid hcs
        have HX := Lib.hid hP1.box.at0
        have C := Lib.hid (show Calls Tryd.prog 57 #[.agg ps.toArray] W1 (DPost W1 u.dat) from cloneDecl_any u ps W1 (hw u (List.mem_of_getElem? hx)) (Dat.H.later hu hP1.bel))
        have HB1 := Lib.hid hP1.bel
        have HST := Lib.hid (show (xs.take (k + 1)).map Dc.dat = (xs.take k).map Dc.dat ++ [u.dat] by rw [Ex.take_at hx, List.map_append]; rfl)
        have HKL := Lib.hid (show ((xs.take k).map Dc.dat).length = k by rw [List.length_map, List.length_take, HXL.out]; omega)
        clear hx hu hcs hbel hf hP1
        go_wp2_with (first
          | (refine loadOp flatDc 19 20 rfl HFC.out HLU.out ?_)
          | (refine storeOp flatDc 7 20 (b := wr.heap.size) (o := 0) rfl rfl HP1.out.there HOU.out HLU.out ?_; rw [HP1.out.eq])
          | (refine loadOp flatDc 7 24 rfl HX.out HLU.out ?_))
        refine C.out.mono ?_
        rintro e w3 ⟨vs, rfl, hv, hb3⟩
        have hbw := HB1.out.trans (hb3.mono HB1.out.size)
        have hgw : w.heap.size ≤ g := Nat.le_of_eq HGZ.out.symm
        have hs1 := HB1.out.size
        have hlv : vs.length = 23 := (Dat.In.len _ _ hv).trans (Dc.dat_size u)
        have HLV := Lib.hid hlv
        have HOV := Lib.hid (dc_cells hv)
        have HT := Lib.hid (show w3.there g (k * 23) vs.length by rw [hlv]; exact fill_there HFF.out hgw hbw hlt)
        have hsp := fill_round HFF.out hgw hbw (by rw [HKL.out]; exact hlt) (hv.wide fun b hb => ⟨Nat.le_trans hs1 hb.1, hb.2⟩) (Dc.dat_size u)
        rw [HKL.out] at hsp
        have HSP := Lib.hid hsp
        have HBW := Lib.hid (show Below w.heap.size w (w3.setCells g (k * 23) vs) from (HBL.out.trans (hbw.mono HBL.out.size)).trans (below_cells hgw vs _ w3))
        clear hv hb3 hbw hgw hs1 hlv hsp C HP1 HFC HX HB1
        go_wp2_with (refine storeOp flatDc 26 25 (b := g) (o := k * 23) rfl rfl HT.out HOV.out HLV.out ?_)
        go_roundw
        case rel => exact ⟨k + 1, by omega, by go_num, by rw [HST.out]; exact HSP.out, HBW.out⟩
        case measure => simp [intOf]; omega
      · have y0 : (q : Int) ≤ k := by omega
        rw [List.take_of_length_le (by rw [HXL.out]; omega)] at hf
        have HF2 := Lib.hid hf
        clear hf hbel
        go_wp2_with fail
        go_ret
        have hl : (xs.map Dc.dat).length = q := by rw [List.length_map]; exact HXL.out
        refine ⟨some ⟨g, 0, none⟩, q, by rw [HXL.out]; rfl, ?_, HBL.out⟩
        rw [HXL.out]
        exact (HF2.out.row hl (by omega) (Nat.le_of_eq HGZ.out.symm) (Nat.le_of_eq HGZ.out.symm)).wide fun b hb => ⟨hb.1, hb.2.elim (fun h => absurd h (Nat.not_lt_zero _)) fun h => h.2⟩
end Go.Proofs.YtjhlehdjdaphcaaDoor
namespace Go.Proofs.YtjhlehdjdaphcaaDoor
open Go.RowKit

theorem results_clonePg {w : World} {b : Nat} {us : List Value} (tmps : Array Value) (ht : tmps[2]?.getD undef = .pointer (some ⟨b, 0, none⟩)) (hc : Boxd w b us) (hl : us.length = 9) : (results Tryd.f32 tmps).run Tryd.prog w = .ok (.agg us.toArray) w := by
  have h := run_loadVar_at w ⟨b, 0, none⟩ 30 us _ hc.at0 Tryd.underlying30 rfl (by rw [hl]; exact flatPg.size)
  have h2 : (asAddr (.pointer (some ⟨b, 0, none⟩))).run Tryd.prog w = .ok ⟨b, 0, none⟩ w := rfl
  simp [results, Tryd.results32, ht, h, h2, Sem.run_bind, Result.andThen]
theorem ready_store {ty : TypeId} {z : Nat} (hf : Flat ty z) {ops : Array Oper} {o : Oper} {a : Act} {K : Act → World → Prop} {Q : Exit → Act → World → Prop} {E : Prop} (hgd : o.guard = none) (x y : Operand) (ho : o.op = .store ty x y) {w : World} {b off : Nat} {us : List Value}
    (hx : a.eval x = .pointer (some ⟨b, off, none⟩)) (hy : a.eval y = .agg us.toArray) (ht : w.there b off us.length) (h1 : ∀ u ∈ us, u.oneCell' = true) (hl : us.length = z) (h : K (a.put o.dst undef) (w.setCells b off us)) : if Region.wanted o (yielded ops a.tmps) = true then Oper.wp Tryd.prog o a w K Q else E := by
  have hw : Region.wanted o (yielded ops a.tmps) = true := by simp [Region.wanted, hgd]
  rw [if_pos hw]
  exact wp_store_mid ty x y ho b off us.toArray hx hy (by simpa using ht) (by rw [List.size_toArray, hl]; exact hf.size) (all_oneCell_toArray h1) (by simpa using h)
set_option maxRecDepth 100000 in
set_option maxHeartbeats 16000000 in
theorem clonePg_any (p : Pg) (us : List Value) (w : World) (hw : p.wt ≤ 1990) (h : p.dat.H w us) : Calls Tryd.prog 32 #[.agg us.toArray] w (DPost w p.dat) := by
  have hcl := Cl.new w us.toArray #[.slice none 0 0, .int .i64 0, .string ⟨#[]⟩, .string ⟨#[]⟩, .slice none 0 0, .int .i64 0, .slice none 0 0, .slice none 0 0, .int .i64 0] 30
  obtain ⟨W0, hW0⟩ : ∃ W0, ((w.alloc (.cells us.toArray 30)).alloc (.cells #[.slice none 0 0, .int .i64 0, .string ⟨#[]⟩, .string ⟨#[]⟩, .slice none 0 0, .int .i64 0, .slice none 0 0, .slice none 0 0, .int .i64 0] 30)) = W0 := ⟨_, rfl⟩
  rw [hW0] at hcl
  have hbel := hcl.bel
  have hbox := hcl.box.box
  have HCL := Lib.hid hcl
  have HBEL := Lib.hid hbel
  have h0 : p.dat.H W0 us := Dat.H.later h hbel
  have HW0 := Lib.hid hW0
  obtain ⟨D, n, c, bv, hus, hd, hbd⟩ := pg_open h0
  have hbl : bv.length = 8 := (Dat.In.len _ _ hbd).trans (Ex.dat_size _)
  have HBL := Lib.hid hbl
  have x0 := hbox 0 (.slice D n c) (by simp [hus])
  have r1 : W0.rangeAt w.heap.size 1 bv := fun j v hv => hbox (1 + j) v (by simp only [hus, Nat.add_comm 1 j]; simpa using hv)
  have SS : Below (w.heap.size + 1) W0 W0 ∧ W0.cell? ⟨w.heap.size, 0, none⟩ = some (.slice D n c) ∧ W0.rangeAt w.heap.size 1 bv := ⟨Below.refl _ _, x0, r1⟩
  have KP := Lib.hid (show ∀ V : World, Below (w.heap.size + 1) W0 V → Below (w.heap.size + 1) W0 V ∧ V.cell? ⟨w.heap.size, 0, none⟩ = some (.slice D n c) ∧ V.rangeAt w.heap.size 1 bv from fun V hV => ⟨hV, (hV.cell (p := ⟨w.heap.size, 0, none⟩) (Nat.lt_succ_self _)).trans x0, fun j v hv => (hV.cell (p := ⟨w.heap.size, 1 + j, none⟩) (Nat.lt_succ_self _)).trans (r1 j v hv)⟩)
  have hxl := hd.len
  rw [List.length_map] at hxl
  have HBG := Lib.hid (show w.heap.size + 1 ≤ W0.heap.size from Nat.le_of_succ_le hcl.big)
  have HDL := Lib.hid (show p.ds.length ≤ 1990 by have := sumBy_len Dc.wt_pos p.ds; unfold Pg.wt at hw; omega)
  have C5 := Lib.hid (fun (V : World) (hV : Below W0.heap.size W0 V) => eachDecl_any p.ds D n c V (fun d hd => Nat.le_trans (Pg.wt_d (p := p) hd) hw) (by have := HDL.out; omega) (RowH.later hd hV))
  have C8 := Lib.hid (fun (V : World) (hV : Below W0.heap.size W0 V) => xclone_any p.main bv V (by have := Pg.wt_main (p := p); omega) (Dat.H.later hbd hV))
  clear hus hbel hW0 hbox h h0 hd hbd x0 r1 hbl hw hcl hxl
  go_enter Tryd.func32, Tryd.ntmps32
  go_upto_region 1 with fail
  rw [HW0.out]
  clear HW0
  go_wp2_with fail
  refine wp_region_held_drew (S := fun V => Below (w.heap.size + 1) W0 V ∧ V.cell? ⟨w.heap.size, 0, none⟩ = some (.slice D n c) ∧ V.rangeAt w.heap.size 1 bv) (by kernel_rfl) ⟨SS.1.drew, SS.2⟩ (fun hS => ?_)
  clear SS
  first
  | (refine wpAnyH_take (i := 0) (v := ?_) rfl (by kernel_rfl) (by kernel_rfl) (by kernel_rfl) (fun _ _ _ h => h) (Or.inl ⟨by rfl, ?_⟩) (by assumption) ?_
     rotate_left
     · (intro V hV; obtain ⟨_, x0, x1⟩ := hV; go_simp; try with_reducible rfl)
     try simp only [Act.put, List.getElem_toArray, List.getElem_cons_zero, List.setIfInBounds_toArray, List.set_cons_zero, List.set_cons_succ])
  | (refine wpAnyH_take (i := 0) (v := undef) rfl (by kernel_rfl) (by kernel_rfl) (by kernel_rfl) (fun _ _ _ h => h) (Or.inr ⟨by rfl, rfl⟩) (by assumption) ?_
     try simp only [Act.put, List.getElem_toArray, List.getElem_cons_zero, List.setIfInBounds_toArray, List.set_cons_zero, List.set_cons_succ])
  | fail "take 0"
  first
  | (refine wpAnyH_take (i := 1) (v := ?_) rfl (by kernel_rfl) (by kernel_rfl) (by kernel_rfl) (fun _ _ _ h => h) (Or.inl ⟨by rfl, ?_⟩) (by assumption) ?_
     rotate_left
     · (intro V hV; obtain ⟨_, x0, x1⟩ := hV; go_simp; try with_reducible rfl)
     try simp only [Act.put, List.getElem_toArray, List.getElem_cons_zero, List.getElem_cons_succ, List.setIfInBounds_toArray, List.set_cons_zero, List.set_cons_succ])
  | (refine wpAnyH_take (i := 1) (v := undef) rfl (by kernel_rfl) (by kernel_rfl) (by kernel_rfl) (fun _ _ _ h => h) (Or.inr ⟨by rfl, rfl⟩) (by assumption) ?_
     try simp only [Act.put, List.getElem_toArray, List.getElem_cons_zero, List.getElem_cons_succ, List.setIfInBounds_toArray, List.set_cons_zero, List.set_cons_succ])
  | fail "take 1"
  first
  | (refine wpAnyH_take (i := 3) (v := ?_) rfl (by kernel_rfl) (by kernel_rfl) (by kernel_rfl) (fun _ _ _ h => h) (Or.inl ⟨by rfl, ?_⟩) (by assumption) ?_
     rotate_left
     · (intro V hV; obtain ⟨_, x0, x1⟩ := hV; go_simp; try with_reducible rfl)
     try simp only [Act.put, List.getElem_toArray, List.getElem_cons_zero, List.getElem_cons_succ, List.setIfInBounds_toArray, List.set_cons_zero, List.set_cons_succ])
  | (refine wpAnyH_take (i := 3) (v := undef) rfl (by kernel_rfl) (by kernel_rfl) (by kernel_rfl) (fun _ _ _ h => h) (Or.inr ⟨by rfl, rfl⟩) (by assumption) ?_
     try simp only [Act.put, List.getElem_toArray, List.getElem_cons_zero, List.getElem_cons_succ, List.setIfInBounds_toArray, List.set_cons_zero, List.set_cons_succ])
  | fail "take 3"
  refine wpAnyH_take (i := 4) (v := .agg bv.toArray) rfl (by kernel_rfl) (by kernel_rfl) (by kernel_rfl) (fun _ _ _ h => h) (yieldsIf_load_mid rfl 28 (.tmp 6) rfl w.heap.size 1 rfl bv _ (fun V hV => hV.2.2) Tryd.underlying28 rfl (by rw [HBL.out]; exact sizeE8)) (by assumption) ?_
  try simp only [Act.put, List.getElem_toArray, List.getElem_cons_zero, List.getElem_cons_succ, List.setIfInBounds_toArray, List.set_cons_zero, List.set_cons_succ]
  have HXD := Lib.hid (show Below W0.heap.size W0 W0.drew from (Below.refl _ _).drew)
  generalize World.drew W0 = Wd at *
  refine wpAnyH_ready (rs := [2]) (by kernel_rfl) (by simp) ?_
  refine AllReadyH.cons rfl (fun K hK => ?_) AllReadyH.nil
  go_simp
  refine (C5.out _ HXD.out).mono ?_
  rintro e wA ⟨A5, c5, rfl, hrow, hb⟩
  have HXA := Lib.hid (HXD.out.trans (hb.mono HXD.out.size))
  have R5 := Lib.hid hrow
  have SS := KP.out _ (HXA.out.mono HBG.out)
  refine hK.out _ _ SS (fun hS => ?_)
  clear hK K
  try simp only [Act.put, List.getElem_toArray, List.getElem_cons_zero, List.getElem_cons_succ, List.setIfInBounds_toArray, List.set_cons_zero, List.set_cons_succ]
  clear hb hrow
  refine wpAnyH_ready (rs := [5]) (by kernel_rfl) (by simp) ?_
  refine AllReadyH.cons rfl (fun K hK => ?_) AllReadyH.nil
  go_simp
  refine (C8.out _ HXA.out).mono ?_
  rintro e wB ⟨vs, rfl, hv, hb⟩
  obtain ⟨A1, m1, a1, B1, l1, b1, C1, n1, c1, rfl, _⟩ := ex_open hv
  have HXB := Lib.hid (HXA.out.trans (hb.mono HXA.out.size))
  have CLB := Lib.hid (HCL.out.later HXB.out)
  have hs1 := HXD.out.size
  have hs2 := HXA.out.size
  have hs3 := hb.size
  have hbig := HCL.out.big
  have hdat : p.dat.In wB False (Fr w wB) [.slice A5 p.ds.length c5, .int .i64 p.main.kind, .string p.main.name, .string p.main.ty.name, .slice A1 m1 a1, .int .i64 p.main.ty.off, .slice B1 l1 b1, .slice C1 n1 c1, .int .i64 p.main.off] := pg_shut ((R5.out.later hb fun _ h => h.2).wide fun b hb => ⟨by have := hb.1; omega, Nat.lt_of_lt_of_le hb.2 hs3⟩) (hv.wide fun b hb => ⟨by have := hb.1; omega, hb.2⟩)
  have HEND := Lib.hid (cl_end CLB.out hdat)
  have HTH := Lib.hid (show wB.there (w.heap.size + 1) 0 9 from CLB.out.res)
  have HONE := Lib.hid (show ∀ u ∈ ([.slice A5 p.ds.length c5, .int .i64 p.main.kind, .string p.main.name, .string p.main.ty.name, .slice A1 m1 a1, .int .i64 p.main.ty.off, .slice B1 l1 b1, .slice C1 n1 c1, .int .i64 p.main.off] : List Value), u.oneCell' = true by
    intro u hu
    simp only [List.mem_cons, List.not_mem_nil, or_false] at hu
    rcases hu with rfl | rfl | rfl | rfl | rfl | rfl | rfl | rfl | rfl <;> rfl)
  have SS := KP.out _ (HXB.out.mono HBG.out)
  refine hK.out _ _ SS (fun hS => ?_)
  clear hK K
  try simp only [Act.put, List.getElem_toArray, List.getElem_cons_zero, List.getElem_cons_succ, List.setIfInBounds_toArray, List.set_cons_zero, List.set_cons_succ]
  clear hb hv hdat hs1 hs2 hs3 hbig R5 CLB
  first
  | (refine wpAnyH_take (i := 6) (v := ?_) rfl (by kernel_rfl) (by kernel_rfl) (by kernel_rfl) (fun _ _ _ h => h) (Or.inl ⟨by rfl, ?_⟩) (by assumption) ?_
     rotate_left
     · (intro V hV; obtain ⟨_, x0, x1⟩ := hV; go_simp; try with_reducible rfl)
     try simp only [Act.put, List.getElem_toArray, List.getElem_cons_zero, List.getElem_cons_succ, List.setIfInBounds_toArray, List.set_cons_zero, List.set_cons_succ])
  | (refine wpAnyH_take (i := 6) (v := undef) rfl (by kernel_rfl) (by kernel_rfl) (by kernel_rfl) (fun _ _ _ h => h) (Or.inr ⟨by rfl, rfl⟩) (by assumption) ?_
     try simp only [Act.put, List.getElem_toArray, List.getElem_cons_zero, List.getElem_cons_succ, List.setIfInBounds_toArray, List.set_cons_zero, List.set_cons_succ])
  | fail "take 6"
  refine wpAnyH_ready (rs := [7]) (by kernel_rfl) (by simp) ?_
  refine AllReadyH.cons rfl (fun K hK => ?_) AllReadyH.nil
  refine ready_store flatPg rfl (.tmp 2) (.tmp 9) rfl (b := w.heap.size + 1) (off := 0) (us := [.slice A5 p.ds.length c5, .int .i64 p.main.kind, .string p.main.name, .string p.main.ty.name, .slice A1 m1 a1, .int .i64 p.main.ty.off, .slice B1 l1 b1, .slice C1 n1 c1, .int .i64 p.main.off]) rfl rfl HTH.out HONE.out rfl ?_
  have HBX := Lib.hid (set_there (us := [.slice A5 p.ds.length c5, .int .i64 p.main.kind, .string p.main.name, .string p.main.ty.name, .slice A1 m1 a1, .int .i64 p.main.ty.off, .slice B1 l1 b1, .slice C1 n1 c1, .int .i64 p.main.off]) HTH.out)
  have SS := KP.out _ ((HXB.out.mono HBG.out).trans (below_cells (Nat.le_refl _) [.slice A5 p.ds.length c5, .int .i64 p.main.kind, .string p.main.name, .string p.main.ty.name, .slice A1 m1 a1, .int .i64 p.main.ty.off, .slice B1 l1 b1, .slice C1 n1 c1, .int .i64 p.main.off] 0 wB))
  refine hK.out _ _ SS (fun hS => ?_)
  clear hK K
  try simp only [Act.put, List.getElem_toArray, List.getElem_cons_zero, List.getElem_cons_succ]
  refine wpAnyH_done (by kernel_rfl) ?_ _
  clear KP C5 C8 SS
  go_wp2_with fail
  exact bodyPost_ret (results_clonePg _ rfl HBX.out rfl) rfl HEND.out
end Go.Proofs.YtjhlehdjdaphcaaDoor

namespace Go.Proofs.YtjhlehdjdaphcaaDoor
open Go.RowKit

/-- A declaration whose row of variables is no longer than its capacity. -/
def Dc.datC (d : Dc) : Dat := .tup [.cell (.int .i64 d.kind), .str d.name, .arr false 5 (d.fs.map Fo.dat), .arr false 5 (d.ms.map Fo.dat), .arr false 7 (d.gs.map Sg.dat), .str d.recv, .arr true 1 (d.vs.map Dat.str), d.sig.dat, d.body.dat, .cell (.int .i64 d.off)]
theorem Dc.datC_size (d : Dc) : d.datC.size = 23 := by simp only [datC, Dat.size, Dat.sizes, Sg.dat_size, Ex.dat_size]
theorem arr_inQ {w : World} {S : Nat → Prop} {z : Nat} {A : Option Addr} {n c : Nat} {ds : List Dat} (h : Row w False S z A n ds) (hc : n ≤ c) : (Dat.arr true z ds).In w False S [.slice A n c] := by
  obtain rfl := h.len
  rw [Dat.In]
  exact ⟨A, c, rfl, h.le, (fun _ => hc), h.elems⟩
theorem arr_weak {w : World} {N : Prop} {S : Nat → Prop} {z : Nat} {ds : List Dat} {u : List Value} (h : (Dat.arr true z ds).In w N S u) : (Dat.arr false z ds).In w N S u := by
  rw [Dat.In] at h ⊢
  obtain ⟨A, c, h1, h2, _, h4⟩ := h
  exact ⟨A, c, h1, h2, (fun h => by cases h), h4⟩
theorem datC_dat {w : World} {N : Prop} {S : Nat → Prop} {d : Dc} {us : List Value} (h : d.datC.In w N S us) : d.dat.In w N S us := by
  rw [Dc.datC] at h
  rw [Dc.dat]
  simp only [Dat.In.eq_3, Dat.Ins] at h ⊢
  obtain ⟨u1, u2, rfl, a1, u3, u4, rfl, a2, u5, u6, rfl, a3, u7, u8, rfl, a4, u9, u10, rfl, a5, u11, u12, rfl, a6, u13, u14, rfl, a7, rest⟩ := h
  exact ⟨u1, _, rfl, a1, u3, _, rfl, a2, u5, _, rfl, a3, u7, _, rfl, a4, u9, _, rfl, a5, u11, _, rfl, a6, u13, _, rfl, arr_weak a7, rest⟩
/-- The capacity. -/
theorem datC_cap {w : World} {N : Prop} {S : Nat → Prop} {d : Dc} {us : List Value} {V : Option Addr} {n c : Nat} (h : d.datC.In w N S us) (h6 : us[6]? = some (.slice V n c)) : n ≤ c := by
  rw [Dc.datC] at h
  simp only [Dat.In.eq_3, Dat.Ins] at h
  obtain ⟨u1, u2, rfl, a1, u3, u4, rfl, a2, u5, u6, rfl, a3, u7, u8, rfl, a4, u9, u10, rfl, a5, u11, u12, rfl, a6, u13, u14, rfl, a7, rest⟩ := h
  simp only [Dat.In] at a1 a2 a3 a4 a5 a6 a7
  obtain rfl := a1
  obtain ⟨rfl, _⟩ := a2
  obtain ⟨_, _, rfl, _⟩ := a3
  obtain ⟨_, _, rfl, _⟩ := a4
  obtain ⟨_, _, rfl, _⟩ := a5
  obtain ⟨rfl, _⟩ := a6
  obtain ⟨_, _, rfl, _, hq, _⟩ := a7
  have e := Option.some.inj h6
  injection e with e1 e2 e3
  rw [← e2, ← e3]
  exact hq trivial |> fun h => by rwa [List.length_map] at h ⊢
theorem strs_endC {w W w1 : World} {n : Nat} {v : Value} {vs : List ByteArray} {us : List Value} {S : Nat → Prop} (hb : Below w.heap.size w W) (hg : w.heap.size + 2 ≤ W.heap.size) (h : Appd W w1 W.heap.size 9 1 0 n (.slice none 0 0) v [] us) (hu : Dat.Ins W False S (vs.map Dat.str) us) (hn : n ≤ 1000000) :
    ∃ A c, v = .slice A vs.length c ∧ Row w1 False (Fr w w1) 1 A vs.length (vs.map Dat.str) ∧ Below W.heap.size W w1 ∧ vs.length ≤ c := by
  obtain ⟨A, c, rfl, h1, h2⟩ := strs_end hb hg h hu hn
  refine ⟨A, c, rfl, h1, h2, ?_⟩
  rcases h.own.2 with ⟨hv, _⟩ | ⟨g, cap, cur, hv, _, _, hnc, _⟩
  · injection hv with _ e1 e2; omega
  · injection hv with _ e1 e2; omega
theorem dcMkC {w : World} {N : Prop} {S : Nat → Prop} {d : Dc} {u1 u2 u3 u4 u5 u6 : List Value} (h1 : d.name.size ≤ 9223372036854775807) (h2 : (Dat.arr false 5 (d.fs.map Fo.dat)).In w N S u1) (h3 : (Dat.arr false 5 (d.ms.map Fo.dat)).In w N S u2) (h4 : (Dat.arr false 7 (d.gs.map Sg.dat)).In w N S u3)
    (h5 : d.recv.size ≤ 9223372036854775807) (h6 : (Dat.arr true 1 (d.vs.map Dat.str)).In w N S u4) (h7 : d.sig.dat.In w N S u5) (h8 : d.body.dat.In w N S u6) :
    d.datC.In w N S (.int .i64 d.kind :: .string d.name :: (u1 ++ (u2 ++ (u3 ++ (.string d.recv :: (u4 ++ (u5 ++ (u6 ++ [.int .i64 d.off])))))))) := by
  rw [Dc.datC, Dat.In, Dat.Ins]
  refine ⟨[_], _, rfl, by rw [Dat.In], ?_⟩
  rw [Dat.Ins]
  refine ⟨[_], _, rfl, by rw [Dat.In]; exact ⟨rfl, h1⟩, ?_⟩
  rw [Dat.Ins]
  refine ⟨u1, _, rfl, h2, ?_⟩
  rw [Dat.Ins]
  refine ⟨u2, _, rfl, h3, ?_⟩
  rw [Dat.Ins]
  refine ⟨u3, _, rfl, h4, ?_⟩
  rw [Dat.Ins]
  refine ⟨[_], _, rfl, by rw [Dat.In]; exact ⟨rfl, h5⟩, ?_⟩
  rw [Dat.Ins]
  refine ⟨u4, _, rfl, h6, ?_⟩
  rw [Dat.Ins]
  refine ⟨u5, _, rfl, h7, ?_⟩
  rw [Dat.Ins]
  refine ⟨u6, _, rfl, h8, ?_⟩
  rw [Dat.Ins]
  exact ⟨[_], [], rfl, by rw [Dat.In], by rw [Dat.Ins]⟩
set_option maxRecDepth 100000 in
set_option maxHeartbeats 16000000 in
theorem cloneDeclC_any (f : Dc) (us : List Value) (w : World) (hw : f.wt ≤ 1990) (h : f.dat.H w us) : Calls Tryd.prog 57 #[.agg us.toArray] w (DPost w f.datC) := by
  have hM := Cl.new w us.toArray z23 52
  obtain ⟨W0, hW0⟩ : ∃ W0, (w.alloc (.cells us.toArray 52)).alloc (.cells z23 52) = W0 := ⟨_, rfl⟩
  rw [hW0] at hM
  obtain ⟨Fu, nfu, cfu, Pu, npu, cpu, Gu, ngu, cgu, Vu, nvu, cvu, F2u, nf2u, cf2u, P2u, np2u, cp2u, A2u, m2u, a2u, A3u, m3u, a3u, B3u, l3u, b3u, C3u, n3u, c3u, hus, hn, hf, hp, hg, hr0, hv, hs, hbd⟩ := dc_full h
  have M0 := Lib.hid (show Cl w W0 [.int .i64 f.kind, .string f.name, .slice Fu nfu cfu, .slice Pu npu cpu, .slice Gu ngu cgu, .string f.recv, .slice Vu nvu cvu, .string f.sig.name, .slice F2u nf2u cf2u, .slice P2u np2u cp2u, .string f.sig.res.name, .slice A2u m2u a2u, .int .i64 f.sig.res.off, .int .i64 f.sig.off, .int .i64 f.body.kind, .string f.body.name, .string f.body.ty.name, .slice A3u m3u a3u, .int .i64 f.body.ty.off, .slice B3u l3u b3u, .slice C3u n3u c3u, .int .i64 f.body.off, .int .i64 f.off] 23 by rw [← hus]; exact hM)
  have HW0 := Lib.hid hW0
  have HWT := Lib.hid hw
  have HN := Lib.hid (hn)
  have HF := Lib.hid (hf)
  have HP := Lib.hid (hp)
  have HG := Lib.hid (hg)
  have HR := Lib.hid (hr0)
  have HV := Lib.hid (hv)
  have HS := Lib.hid (hs)
  have HBD := Lib.hid (hbd)
  have HLF := Lib.hid ((show nfu ≤ 1990 by have := Dc.len_f f; have := hf.len; rw [List.length_map] at this; omega))
  have HLP := Lib.hid ((show npu ≤ 1990 by have := Dc.len_m f; have := hp.len; rw [List.length_map] at this; omega))
  have HLG := Lib.hid ((show ngu ≤ 1990 by have := Dc.len_g f; have := hg.len; rw [List.length_map] at this; omega))
  have HLV := Lib.hid ((show nvu ≤ 1990 by have := Dc.len_v f; have := hv.len; rw [List.length_map] at this; omega))
  clear hM h hus hW0 hw hn hf hp hg hr0 hv hs hbd
  go_enter Tryd.func57, Tryd.ntmps57
  go_upto_region 1 with fail
  rw [HW0.out]
  clear HW0
  have x2 := M0.out.box.box 2 _ rfl
  go_wp2_with fail
  refine ((eachFormal_any f.fs Fu nfu cfu W0 (fun g hg => Nat.le_trans (Dc.wt_f (d := f) hg) HWT.out) (by have := HLF.out; omega) (RowH.later HF.out M0.out.bel))).mono ?_
  rintro e w1 ⟨pA, pc, rfl, hr, hb⟩
  have Dp0m := Lib.hid (fr_new (arr_in (c := pc) hr) M0.out.big)
  have M0m := Lib.hid (M0.out.later hb)
  clear hr hb M0 x2
  obtain ⟨W1, hW⟩ : ∃ W1, w1.setCells w.heap.size 2 [.slice pA f.fs.length pc] = W1 := ⟨_, rfl⟩
  have HW := Lib.hid hW
  have M1 := Lib.hid (show Cl w W1 [.int .i64 f.kind, .string f.name, .slice pA f.fs.length pc, .slice Pu npu cpu, .slice Gu ngu cgu, .string f.recv, .slice Vu nvu cvu, .string f.sig.name, .slice F2u nf2u cf2u, .slice P2u np2u cp2u, .string f.sig.res.name, .slice A2u m2u a2u, .int .i64 f.sig.res.off, .int .i64 f.sig.off, .int .i64 f.body.kind, .string f.body.name, .string f.body.ty.name, .slice A3u m3u a3u, .int .i64 f.body.ty.off, .slice B3u l3u b3u, .slice C3u n3u c3u, .int .i64 f.body.off, .int .i64 f.off] 23 from hW ▸ M0m.out.set (p := [.int .i64 f.kind, .string f.name]) (vs := [.slice pA f.fs.length pc]) (r := [.slice Pu npu cpu, .slice Gu ngu cgu, .string f.recv, .slice Vu nvu cvu, .string f.sig.name, .slice F2u nf2u cf2u, .slice P2u np2u cp2u, .string f.sig.res.name, .slice A2u m2u a2u, .int .i64 f.sig.res.off, .int .i64 f.sig.off, .int .i64 f.body.kind, .string f.body.name, .string f.body.ty.name, .slice A3u m3u a3u, .int .i64 f.body.ty.off, .slice B3u l3u b3u, .slice C3u n3u c3u, .int .i64 f.body.off, .int .i64 f.off]) rfl (by intro j hj; simp only [List.length_cons, List.length_nil] at hj; exact (match j, hj with | 0, _ => rfl | 1, _ => rfl | j + 2, hj => absurd hj (by omega))) (by intro j hj; simp only [List.length_cons, List.length_nil] at hj; exact (match j, hj with | 0, _ => rfl | 1, _ => rfl | 2, _ => rfl | 3, _ => rfl | 4, _ => rfl | 5, _ => rfl | 6, _ => rfl | 7, _ => rfl | 8, _ => rfl | 9, _ => rfl | 10, _ => rfl | 11, _ => rfl | 12, _ => rfl | 13, _ => rfl | 14, _ => rfl | 15, _ => rfl | 16, _ => rfl | 17, _ => rfl | 18, _ => rfl | 19, _ => rfl | j + 20, hj => absurd hj (by omega))))
  have Dp1 := Lib.hid (show Dat.In W1 False (Fr w W1) _ _ from hW ▸ fr_set Dp0m.out 2 [.slice pA f.fs.length pc])
  clear hW Dp0m
  have y2 := M0m.out.box.box 2 _ rfl
  have e2 := M0m.out.box.free 2 (by simp)
  go_upto_region 2 with fail
  rw [show w1.setCell ⟨w.heap.size, 2, none⟩ (.slice pA f.fs.length pc) = W1 from HW.out]
  clear HW y2 e2 M0m
  have x3 := M1.out.box.box 3 _ rfl
  go_wp2_with fail
  refine ((eachParam_any f.ms Pu npu cpu W1 (fun g hg => Nat.le_trans (Dc.wt_m (d := f) hg) HWT.out) (by have := HLP.out; omega) (RowH.later HP.out M1.out.bel))).mono ?_
  rintro e w2 ⟨qA, qc, rfl, hr, hb⟩
  have Dq1m := Lib.hid (fr_new (arr_in (c := qc) hr) M1.out.big)
  have M1m := Lib.hid (M1.out.later hb)
  have Dp1m := Lib.hid (fr_later Dp1.out hb)
  clear hr hb M1 x3 Dp1
  obtain ⟨W2, hW⟩ : ∃ W2, w2.setCells w.heap.size 3 [.slice qA f.ms.length qc] = W2 := ⟨_, rfl⟩
  have HW := Lib.hid hW
  have M2 := Lib.hid (show Cl w W2 [.int .i64 f.kind, .string f.name, .slice pA f.fs.length pc, .slice qA f.ms.length qc, .slice Gu ngu cgu, .string f.recv, .slice Vu nvu cvu, .string f.sig.name, .slice F2u nf2u cf2u, .slice P2u np2u cp2u, .string f.sig.res.name, .slice A2u m2u a2u, .int .i64 f.sig.res.off, .int .i64 f.sig.off, .int .i64 f.body.kind, .string f.body.name, .string f.body.ty.name, .slice A3u m3u a3u, .int .i64 f.body.ty.off, .slice B3u l3u b3u, .slice C3u n3u c3u, .int .i64 f.body.off, .int .i64 f.off] 23 from hW ▸ M1m.out.set (p := [.int .i64 f.kind, .string f.name, .slice pA f.fs.length pc]) (vs := [.slice qA f.ms.length qc]) (r := [.slice Gu ngu cgu, .string f.recv, .slice Vu nvu cvu, .string f.sig.name, .slice F2u nf2u cf2u, .slice P2u np2u cp2u, .string f.sig.res.name, .slice A2u m2u a2u, .int .i64 f.sig.res.off, .int .i64 f.sig.off, .int .i64 f.body.kind, .string f.body.name, .string f.body.ty.name, .slice A3u m3u a3u, .int .i64 f.body.ty.off, .slice B3u l3u b3u, .slice C3u n3u c3u, .int .i64 f.body.off, .int .i64 f.off]) rfl (by intro j hj; simp only [List.length_cons, List.length_nil] at hj; exact (match j, hj with | 0, _ => rfl | 1, _ => rfl | 2, _ => rfl | j + 3, hj => absurd hj (by omega))) (by intro j hj; simp only [List.length_cons, List.length_nil] at hj; exact (match j, hj with | 0, _ => rfl | 1, _ => rfl | 2, _ => rfl | 3, _ => rfl | 4, _ => rfl | 5, _ => rfl | 6, _ => rfl | 7, _ => rfl | 8, _ => rfl | 9, _ => rfl | 10, _ => rfl | 11, _ => rfl | 12, _ => rfl | 13, _ => rfl | 14, _ => rfl | 15, _ => rfl | 16, _ => rfl | 17, _ => rfl | 18, _ => rfl | j + 19, hj => absurd hj (by omega))))
  have Dp2 := Lib.hid (show Dat.In W2 False (Fr w W2) _ _ from hW ▸ fr_set Dp1m.out 3 [.slice qA f.ms.length qc])
  have Dq2 := Lib.hid (show Dat.In W2 False (Fr w W2) _ _ from hW ▸ fr_set Dq1m.out 3 [.slice qA f.ms.length qc])
  clear hW Dp1m Dq1m
  have y3 := M1m.out.box.box 3 _ rfl
  have e3 := M1m.out.box.free 3 (by simp)
  go_upto_region 3 with fail
  rw [show w2.setCell ⟨w.heap.size, 3, none⟩ (.slice qA f.ms.length qc) = W2 from HW.out]
  clear HW y3 e3 M1m
  have x4 := M2.out.box.box 4 _ rfl
  go_wp2_with fail
  refine ((eachSig_any f.gs Gu ngu cgu W2 (fun g hg => Nat.le_trans (Dc.wt_g (d := f) hg) HWT.out) (by have := HLG.out; omega) (RowH.later HG.out M2.out.bel))).mono ?_
  rintro e w3 ⟨rA, rc, rfl, hr, hb⟩
  have Dr2m := Lib.hid (fr_new (arr_in (c := rc) hr) M2.out.big)
  have M2m := Lib.hid (M2.out.later hb)
  have Dp2m := Lib.hid (fr_later Dp2.out hb)
  have Dq2m := Lib.hid (fr_later Dq2.out hb)
  clear hr hb M2 x4 Dp2 Dq2
  obtain ⟨W3, hW⟩ : ∃ W3, w3.setCells w.heap.size 4 [.slice rA f.gs.length rc] = W3 := ⟨_, rfl⟩
  have HW := Lib.hid hW
  have M3 := Lib.hid (show Cl w W3 [.int .i64 f.kind, .string f.name, .slice pA f.fs.length pc, .slice qA f.ms.length qc, .slice rA f.gs.length rc, .string f.recv, .slice Vu nvu cvu, .string f.sig.name, .slice F2u nf2u cf2u, .slice P2u np2u cp2u, .string f.sig.res.name, .slice A2u m2u a2u, .int .i64 f.sig.res.off, .int .i64 f.sig.off, .int .i64 f.body.kind, .string f.body.name, .string f.body.ty.name, .slice A3u m3u a3u, .int .i64 f.body.ty.off, .slice B3u l3u b3u, .slice C3u n3u c3u, .int .i64 f.body.off, .int .i64 f.off] 23 from hW ▸ M2m.out.set (p := [.int .i64 f.kind, .string f.name, .slice pA f.fs.length pc, .slice qA f.ms.length qc]) (vs := [.slice rA f.gs.length rc]) (r := [.string f.recv, .slice Vu nvu cvu, .string f.sig.name, .slice F2u nf2u cf2u, .slice P2u np2u cp2u, .string f.sig.res.name, .slice A2u m2u a2u, .int .i64 f.sig.res.off, .int .i64 f.sig.off, .int .i64 f.body.kind, .string f.body.name, .string f.body.ty.name, .slice A3u m3u a3u, .int .i64 f.body.ty.off, .slice B3u l3u b3u, .slice C3u n3u c3u, .int .i64 f.body.off, .int .i64 f.off]) rfl (by intro j hj; simp only [List.length_cons, List.length_nil] at hj; exact (match j, hj with | 0, _ => rfl | 1, _ => rfl | 2, _ => rfl | 3, _ => rfl | j + 4, hj => absurd hj (by omega))) (by intro j hj; simp only [List.length_cons, List.length_nil] at hj; exact (match j, hj with | 0, _ => rfl | 1, _ => rfl | 2, _ => rfl | 3, _ => rfl | 4, _ => rfl | 5, _ => rfl | 6, _ => rfl | 7, _ => rfl | 8, _ => rfl | 9, _ => rfl | 10, _ => rfl | 11, _ => rfl | 12, _ => rfl | 13, _ => rfl | 14, _ => rfl | 15, _ => rfl | 16, _ => rfl | 17, _ => rfl | j + 18, hj => absurd hj (by omega))))
  have Dp3 := Lib.hid (show Dat.In W3 False (Fr w W3) _ _ from hW ▸ fr_set Dp2m.out 4 [.slice rA f.gs.length rc])
  have Dq3 := Lib.hid (show Dat.In W3 False (Fr w W3) _ _ from hW ▸ fr_set Dq2m.out 4 [.slice rA f.gs.length rc])
  have Dr3 := Lib.hid (show Dat.In W3 False (Fr w W3) _ _ from hW ▸ fr_set Dr2m.out 4 [.slice rA f.gs.length rc])
  clear hW Dp2m Dq2m Dr2m
  have y4 := M2m.out.box.box 4 _ rfl
  have e4 := M2m.out.box.free 4 (by simp)
  go_upto_region 4 with fail
  rw [show w3.setCell ⟨w.heap.size, 4, none⟩ (.slice rA f.gs.length rc) = W3 from HW.out]
  clear HW y4 e4 M2m
  have x6 := M3.out.box.box 6 _ rfl
  obtain ⟨us4, hu4, hl4, hc4⟩ := row_flat (RowH.later HV.out M3.out.bel) (fun d hd => by rw [List.mem_map] at hd; obtain ⟨s, _, rfl⟩ := hd; rfl)
  have HU4 := Lib.hid hu4
  have HL4 := Lib.hid hl4
  have HC4 := Lib.hid hc4
  have HON := Lib.hid (World.ownsRow_nil W3 W3.heap.size 9 1)
  have HSOM := Lib.hid (row_some (RowH.later HV.out M3.out.bel))
  clear hu4 hl4 hc4
  go_upto_region 5 with (at_builtin; refine wpList_append_row slStr rfl _ _ rfl rfl rfl HON.out (Nat.le_refl _) HL4.out HC4.out (ins_cells str_cells HU4.out) HSOM.out (by have := HLV.out; omega) (by omega) ?_; intro v4 w4 hA; obtain ⟨sA, sc, rfl, hr, hb, hcap⟩ := strs_endC M3.out.bel M3.out.big hA HU4.out (by have := HLV.out; omega); have Ds3m := Lib.hid (arr_inQ (c := sc) hr hcap); have M3m := Lib.hid (M3.out.later hb); have Dp3m := Lib.hid (fr_later Dp3.out hb); have Dq3m := Lib.hid (fr_later Dq3.out hb); have Dr3m := Lib.hid (fr_later Dr3.out hb); clear hr hb M3 x6 Dp3 Dq3 Dr3; obtain ⟨W4, hW⟩ : ∃ W4, w4.setCells w.heap.size 6 [.slice sA f.vs.length sc] = W4 := ⟨_, rfl⟩; have HW := Lib.hid hW; have M4 := Lib.hid (show Cl w W4 [.int .i64 f.kind, .string f.name, .slice pA f.fs.length pc, .slice qA f.ms.length qc, .slice rA f.gs.length rc, .string f.recv, .slice sA f.vs.length sc, .string f.sig.name, .slice F2u nf2u cf2u, .slice P2u np2u cp2u, .string f.sig.res.name, .slice A2u m2u a2u, .int .i64 f.sig.res.off, .int .i64 f.sig.off, .int .i64 f.body.kind, .string f.body.name, .string f.body.ty.name, .slice A3u m3u a3u, .int .i64 f.body.ty.off, .slice B3u l3u b3u, .slice C3u n3u c3u, .int .i64 f.body.off, .int .i64 f.off] 23 from hW ▸ M3m.out.set (p := [.int .i64 f.kind, .string f.name, .slice pA f.fs.length pc, .slice qA f.ms.length qc, .slice rA f.gs.length rc, .string f.recv]) (vs := [.slice sA f.vs.length sc]) (r := [.string f.sig.name, .slice F2u nf2u cf2u, .slice P2u np2u cp2u, .string f.sig.res.name, .slice A2u m2u a2u, .int .i64 f.sig.res.off, .int .i64 f.sig.off, .int .i64 f.body.kind, .string f.body.name, .string f.body.ty.name, .slice A3u m3u a3u, .int .i64 f.body.ty.off, .slice B3u l3u b3u, .slice C3u n3u c3u, .int .i64 f.body.off, .int .i64 f.off]) rfl (by intro j hj; simp only [List.length_cons, List.length_nil] at hj; exact (match j, hj with | 0, _ => rfl | 1, _ => rfl | 2, _ => rfl | 3, _ => rfl | 4, _ => rfl | 5, _ => rfl | j + 6, hj => absurd hj (by omega))) (by intro j hj; simp only [List.length_cons, List.length_nil] at hj; exact (match j, hj with | 0, _ => rfl | 1, _ => rfl | 2, _ => rfl | 3, _ => rfl | 4, _ => rfl | 5, _ => rfl | 6, _ => rfl | 7, _ => rfl | 8, _ => rfl | 9, _ => rfl | 10, _ => rfl | 11, _ => rfl | 12, _ => rfl | 13, _ => rfl | 14, _ => rfl | 15, _ => rfl | j + 16, hj => absurd hj (by omega)))); have Dp4 := Lib.hid (show Dat.In W4 False (Fr w W4) _ _ from hW ▸ fr_set Dp3m.out 6 [.slice sA f.vs.length sc]); have Dq4 := Lib.hid (show Dat.In W4 False (Fr w W4) _ _ from hW ▸ fr_set Dq3m.out 6 [.slice sA f.vs.length sc]); have Dr4 := Lib.hid (show Dat.In W4 False (Fr w W4) _ _ from hW ▸ fr_set Dr3m.out 6 [.slice sA f.vs.length sc]); have Ds4 := Lib.hid (show Dat.In W4 False (Fr w W4) _ _ from hW ▸ fr_set Ds3m.out 6 [.slice sA f.vs.length sc]); clear hW Dp3m Dq3m Dr3m Ds3m; have y6 := M3m.out.box.box 6 _ rfl; have e6 := M3m.out.box.free 6 (by simp))
  rw [show w4.setCell ⟨w.heap.size, 6, none⟩ (.slice sA f.vs.length sc) = W4 from HW.out]
  clear HW y6 e6 M3m
  have x7 := M4.out.box.box 7 _ rfl
  have x8 := M4.out.box.box 8 _ rfl
  have x9 := M4.out.box.box 9 _ rfl
  have x10 := M4.out.box.box 10 _ rfl
  have x11 := M4.out.box.box 11 _ rfl
  have x12 := M4.out.box.box 12 _ rfl
  have x13 := M4.out.box.box 13 _ rfl
  go_wp2_with fail
  refine ((show Calls Tryd.prog 76 #[.agg #[.string f.sig.name, .slice F2u nf2u cf2u, .slice P2u np2u cp2u, .string f.sig.res.name, .slice A2u m2u a2u, .int .i64 f.sig.res.off, .int .i64 f.sig.off]] W4 (DPost W4 f.sig.dat) from cloneSig_any f.sig _ W4 (Nat.le_trans Dc.wt_s HWT.out) (Dat.H.later HS.out M4.out.bel))).mono ?_
  rintro e w5 ⟨tu, rfl, hr, hb⟩
  have Dt4m := Lib.hid (fr_new hr M4.out.big)
  obtain ⟨tF, tnf, tcf, tP, tnp, tcp, tA, tm, ta, rfl, _⟩ := sg_open hr
  have M4m := Lib.hid (M4.out.later hb)
  have Dp4m := Lib.hid (fr_later Dp4.out hb)
  have Dq4m := Lib.hid (fr_later Dq4.out hb)
  have Dr4m := Lib.hid (fr_later Dr4.out hb)
  have Ds4m := Lib.hid (fr_later Ds4.out hb)
  clear hr hb M4 x7 x8 x9 x10 x11 x12 x13 Dp4 Dq4 Dr4 Ds4
  obtain ⟨W5, hW⟩ : ∃ W5, w5.setCells w.heap.size 7 [.string f.sig.name, .slice tF tnf tcf, .slice tP tnp tcp, .string f.sig.res.name, .slice tA tm ta, .int .i64 f.sig.res.off, .int .i64 f.sig.off] = W5 := ⟨_, rfl⟩
  have HW := Lib.hid hW
  have M5 := Lib.hid (show Cl w W5 [.int .i64 f.kind, .string f.name, .slice pA f.fs.length pc, .slice qA f.ms.length qc, .slice rA f.gs.length rc, .string f.recv, .slice sA f.vs.length sc, .string f.sig.name, .slice tF tnf tcf, .slice tP tnp tcp, .string f.sig.res.name, .slice tA tm ta, .int .i64 f.sig.res.off, .int .i64 f.sig.off, .int .i64 f.body.kind, .string f.body.name, .string f.body.ty.name, .slice A3u m3u a3u, .int .i64 f.body.ty.off, .slice B3u l3u b3u, .slice C3u n3u c3u, .int .i64 f.body.off, .int .i64 f.off] 23 from hW ▸ M4m.out.set (p := [.int .i64 f.kind, .string f.name, .slice pA f.fs.length pc, .slice qA f.ms.length qc, .slice rA f.gs.length rc, .string f.recv, .slice sA f.vs.length sc]) (vs := [.string f.sig.name, .slice tF tnf tcf, .slice tP tnp tcp, .string f.sig.res.name, .slice tA tm ta, .int .i64 f.sig.res.off, .int .i64 f.sig.off]) (r := [.int .i64 f.body.kind, .string f.body.name, .string f.body.ty.name, .slice A3u m3u a3u, .int .i64 f.body.ty.off, .slice B3u l3u b3u, .slice C3u n3u c3u, .int .i64 f.body.off, .int .i64 f.off]) rfl (by intro j hj; simp only [List.length_cons, List.length_nil] at hj; exact (match j, hj with | 0, _ => rfl | 1, _ => rfl | 2, _ => rfl | 3, _ => rfl | 4, _ => rfl | 5, _ => rfl | 6, _ => rfl | j + 7, hj => absurd hj (by omega))) (by intro j hj; simp only [List.length_cons, List.length_nil] at hj; exact (match j, hj with | 0, _ => rfl | 1, _ => rfl | 2, _ => rfl | 3, _ => rfl | 4, _ => rfl | 5, _ => rfl | 6, _ => rfl | 7, _ => rfl | 8, _ => rfl | j + 9, hj => absurd hj (by omega))))
  have Dp5 := Lib.hid (show Dat.In W5 False (Fr w W5) _ _ from hW ▸ fr_set Dp4m.out 7 [.string f.sig.name, .slice tF tnf tcf, .slice tP tnp tcp, .string f.sig.res.name, .slice tA tm ta, .int .i64 f.sig.res.off, .int .i64 f.sig.off])
  have Dq5 := Lib.hid (show Dat.In W5 False (Fr w W5) _ _ from hW ▸ fr_set Dq4m.out 7 [.string f.sig.name, .slice tF tnf tcf, .slice tP tnp tcp, .string f.sig.res.name, .slice tA tm ta, .int .i64 f.sig.res.off, .int .i64 f.sig.off])
  have Dr5 := Lib.hid (show Dat.In W5 False (Fr w W5) _ _ from hW ▸ fr_set Dr4m.out 7 [.string f.sig.name, .slice tF tnf tcf, .slice tP tnp tcp, .string f.sig.res.name, .slice tA tm ta, .int .i64 f.sig.res.off, .int .i64 f.sig.off])
  have Ds5 := Lib.hid (show Dat.In W5 False (Fr w W5) _ _ from hW ▸ fr_set Ds4m.out 7 [.string f.sig.name, .slice tF tnf tcf, .slice tP tnp tcp, .string f.sig.res.name, .slice tA tm ta, .int .i64 f.sig.res.off, .int .i64 f.sig.off])
  have Dt5 := Lib.hid (show Dat.In W5 False (Fr w W5) _ _ from hW ▸ fr_set Dt4m.out 7 [.string f.sig.name, .slice tF tnf tcf, .slice tP tnp tcp, .string f.sig.res.name, .slice tA tm ta, .int .i64 f.sig.res.off, .int .i64 f.sig.off])
  clear hW Dp4m Dq4m Dr4m Ds4m Dt4m
  have x14 := M5.out.box.box 14 _ rfl
  have x15 := M5.out.box.box 15 _ rfl
  have x16 := M5.out.box.box 16 _ rfl
  have x17 := M5.out.box.box 17 _ rfl
  have x18 := M5.out.box.box 18 _ rfl
  have x19 := M5.out.box.box 19 _ rfl
  have x20 := M5.out.box.box 20 _ rfl
  have x21 := M5.out.box.box 21 _ rfl
  have HT := Lib.hid (M4m.out.box.there 7 7 (by simp))
  have HO := Lib.hid (sg_cells Dt5.out)
  go_upto_region 6 with (refine storeOp flatSg 22 21 (b := w.heap.size) (o := 7) (us := [.string f.sig.name, .slice tF tnf tcf, .slice tP tnp tcp, .string f.sig.res.name, .slice tA tm ta, .int .i64 f.sig.res.off, .int .i64 f.sig.off]) rfl rfl HT.out HO.out rfl ?_; rw [HW.out])
  clear HW HT HO M4m
  go_wp2_with fail
  refine ((show Calls Tryd.prog 58 #[.agg #[.int .i64 f.body.kind, .string f.body.name, .string f.body.ty.name, .slice A3u m3u a3u, .int .i64 f.body.ty.off, .slice B3u l3u b3u, .slice C3u n3u c3u, .int .i64 f.body.off]] W5 (DPost W5 f.body.dat) from xclone_any f.body _ W5 (by have := Dc.wt_b (d := f); have := HWT.out; omega) (Dat.H.later HBD.out M5.out.bel))).mono ?_
  rintro e w6 ⟨bu, rfl, hr, hb⟩
  have Db5m := Lib.hid (fr_new hr M5.out.big)
  obtain ⟨bA, bm, ba, bB, bl, bb, bC, bn, bc, rfl, _⟩ := ex_open hr
  have M5m := Lib.hid (M5.out.later hb)
  have Dp5m := Lib.hid (fr_later Dp5.out hb)
  have Dq5m := Lib.hid (fr_later Dq5.out hb)
  have Dr5m := Lib.hid (fr_later Dr5.out hb)
  have Ds5m := Lib.hid (fr_later Ds5.out hb)
  have Dt5m := Lib.hid (fr_later Dt5.out hb)
  clear hr hb M5 x14 x15 x16 x17 x18 x19 x20 x21 Dp5 Dq5 Dr5 Ds5 Dt5
  obtain ⟨W6, hW⟩ : ∃ W6, w6.setCells w.heap.size 14 [.int .i64 f.body.kind, .string f.body.name, .string f.body.ty.name, .slice bA bm ba, .int .i64 f.body.ty.off, .slice bB bl bb, .slice bC bn bc, .int .i64 f.body.off] = W6 := ⟨_, rfl⟩
  have HW := Lib.hid hW
  have M6 := Lib.hid (show Cl w W6 [.int .i64 f.kind, .string f.name, .slice pA f.fs.length pc, .slice qA f.ms.length qc, .slice rA f.gs.length rc, .string f.recv, .slice sA f.vs.length sc, .string f.sig.name, .slice tF tnf tcf, .slice tP tnp tcp, .string f.sig.res.name, .slice tA tm ta, .int .i64 f.sig.res.off, .int .i64 f.sig.off, .int .i64 f.body.kind, .string f.body.name, .string f.body.ty.name, .slice bA bm ba, .int .i64 f.body.ty.off, .slice bB bl bb, .slice bC bn bc, .int .i64 f.body.off, .int .i64 f.off] 23 from hW ▸ M5m.out.set (p := [.int .i64 f.kind, .string f.name, .slice pA f.fs.length pc, .slice qA f.ms.length qc, .slice rA f.gs.length rc, .string f.recv, .slice sA f.vs.length sc, .string f.sig.name, .slice tF tnf tcf, .slice tP tnp tcp, .string f.sig.res.name, .slice tA tm ta, .int .i64 f.sig.res.off, .int .i64 f.sig.off]) (vs := [.int .i64 f.body.kind, .string f.body.name, .string f.body.ty.name, .slice bA bm ba, .int .i64 f.body.ty.off, .slice bB bl bb, .slice bC bn bc, .int .i64 f.body.off]) (r := [.int .i64 f.off]) rfl (by intro j hj; simp only [List.length_cons, List.length_nil] at hj; exact (match j, hj with | 0, _ => rfl | 1, _ => rfl | 2, _ => rfl | 3, _ => rfl | 4, _ => rfl | 5, _ => rfl | 6, _ => rfl | 7, _ => rfl | 8, _ => rfl | 9, _ => rfl | 10, _ => rfl | 11, _ => rfl | 12, _ => rfl | 13, _ => rfl | j + 14, hj => absurd hj (by omega))) (by intro j hj; simp only [List.length_cons, List.length_nil] at hj; exact (match j, hj with | 0, _ => rfl | j + 1, hj => absurd hj (by omega))))
  have Dp6 := Lib.hid (show Dat.In W6 False (Fr w W6) _ _ from hW ▸ fr_set Dp5m.out 14 [.int .i64 f.body.kind, .string f.body.name, .string f.body.ty.name, .slice bA bm ba, .int .i64 f.body.ty.off, .slice bB bl bb, .slice bC bn bc, .int .i64 f.body.off])
  have Dq6 := Lib.hid (show Dat.In W6 False (Fr w W6) _ _ from hW ▸ fr_set Dq5m.out 14 [.int .i64 f.body.kind, .string f.body.name, .string f.body.ty.name, .slice bA bm ba, .int .i64 f.body.ty.off, .slice bB bl bb, .slice bC bn bc, .int .i64 f.body.off])
  have Dr6 := Lib.hid (show Dat.In W6 False (Fr w W6) _ _ from hW ▸ fr_set Dr5m.out 14 [.int .i64 f.body.kind, .string f.body.name, .string f.body.ty.name, .slice bA bm ba, .int .i64 f.body.ty.off, .slice bB bl bb, .slice bC bn bc, .int .i64 f.body.off])
  have Ds6 := Lib.hid (show Dat.In W6 False (Fr w W6) _ _ from hW ▸ fr_set Ds5m.out 14 [.int .i64 f.body.kind, .string f.body.name, .string f.body.ty.name, .slice bA bm ba, .int .i64 f.body.ty.off, .slice bB bl bb, .slice bC bn bc, .int .i64 f.body.off])
  have Dt6 := Lib.hid (show Dat.In W6 False (Fr w W6) _ _ from hW ▸ fr_set Dt5m.out 14 [.int .i64 f.body.kind, .string f.body.name, .string f.body.ty.name, .slice bA bm ba, .int .i64 f.body.ty.off, .slice bB bl bb, .slice bC bn bc, .int .i64 f.body.off])
  have Db6 := Lib.hid (show Dat.In W6 False (Fr w W6) _ _ from hW ▸ fr_set Db5m.out 14 [.int .i64 f.body.kind, .string f.body.name, .string f.body.ty.name, .slice bA bm ba, .int .i64 f.body.ty.off, .slice bB bl bb, .slice bC bn bc, .int .i64 f.body.off])
  clear hW Dp5m Dq5m Dr5m Ds5m Dt5m Db5m
  have HT := Lib.hid (M5m.out.box.there 14 8 (by simp))
  have HO := Lib.hid (ex_cells' Db6.out)
  have HB := Lib.hid M6.out.box.box.at0
  have HFD := Lib.hid (show f.datC.In W6 False (Fr w W6) [.int .i64 f.kind, .string f.name, .slice pA f.fs.length pc, .slice qA f.ms.length qc, .slice rA f.gs.length rc, .string f.recv, .slice sA f.vs.length sc, .string f.sig.name, .slice tF tnf tcf, .slice tP tnp tcp, .string f.sig.res.name, .slice tA tm ta, .int .i64 f.sig.res.off, .int .i64 f.sig.off, .int .i64 f.body.kind, .string f.body.name, .string f.body.ty.name, .slice bA bm ba, .int .i64 f.body.ty.off, .slice bB bl bb, .slice bC bn bc, .int .i64 f.body.off, .int .i64 f.off] from dcMkC HN.out Dp6.out Dq6.out Dr6.out HR.out Ds6.out Dt6.out Db6.out)
  have HOF := Lib.hid (dc_cells (datC_dat HFD.out))
  obtain ⟨WE, hWE⟩ : ∃ WE, W6.setCells (w.heap.size + 1) 0 [.int .i64 f.kind, .string f.name, .slice pA f.fs.length pc, .slice qA f.ms.length qc, .slice rA f.gs.length rc, .string f.recv, .slice sA f.vs.length sc, .string f.sig.name, .slice tF tnf tcf, .slice tP tnp tcp, .string f.sig.res.name, .slice tA tm ta, .int .i64 f.sig.res.off, .int .i64 f.sig.off, .int .i64 f.body.kind, .string f.body.name, .string f.body.ty.name, .slice bA bm ba, .int .i64 f.body.ty.off, .slice bB bl bb, .slice bC bn bc, .int .i64 f.body.off, .int .i64 f.off] = WE := ⟨_, rfl⟩
  have HWE := Lib.hid hWE
  have HEND := Lib.hid (show DPost w f.datC (.returned (.agg ([.int .i64 f.kind, .string f.name, .slice pA f.fs.length pc, .slice qA f.ms.length qc, .slice rA f.gs.length rc, .string f.recv, .slice sA f.vs.length sc, .string f.sig.name, .slice tF tnf tcf, .slice tP tnp tcp, .string f.sig.res.name, .slice tA tm ta, .int .i64 f.sig.res.off, .int .i64 f.sig.off, .int .i64 f.body.kind, .string f.body.name, .string f.body.ty.name, .slice bA bm ba, .int .i64 f.body.ty.off, .slice bB bl bb, .slice bC bn bc, .int .i64 f.body.off, .int .i64 f.off] : List Value).toArray)) WE from hWE ▸ cl_end M6.out HFD.out)
  have HBX := Lib.hid (show Boxd WE (w.heap.size + 1) [.int .i64 f.kind, .string f.name, .slice pA f.fs.length pc, .slice qA f.ms.length qc, .slice rA f.gs.length rc, .string f.recv, .slice sA f.vs.length sc, .string f.sig.name, .slice tF tnf tcf, .slice tP tnp tcp, .string f.sig.res.name, .slice tA tm ta, .int .i64 f.sig.res.off, .int .i64 f.sig.off, .int .i64 f.body.kind, .string f.body.name, .string f.body.ty.name, .slice bA bm ba, .int .i64 f.body.ty.off, .slice bB bl bb, .slice bC bn bc, .int .i64 f.body.off, .int .i64 f.off] from hWE ▸ set_there (M6.out.res))
  have HTE := Lib.hid M6.out.res
  clear hWE
  go_wp2_with (first
    | (refine storeOp flatEx 26 25 (b := w.heap.size) (o := 14) (us := [.int .i64 f.body.kind, .string f.body.name, .string f.body.ty.name, .slice bA bm ba, .int .i64 f.body.ty.off, .slice bB bl bb, .slice bC bn bc, .int .i64 f.body.off]) rfl rfl HT.out HO.out rfl ?_; rw [HW.out])
    | (refine loadOp flatDc 1 27 rfl HB.out rfl ?_)
    | (refine storeOp flatDc 2 27 (b := w.heap.size + 1) (o := 0) (us := [.int .i64 f.kind, .string f.name, .slice pA f.fs.length pc, .slice qA f.ms.length qc, .slice rA f.gs.length rc, .string f.recv, .slice sA f.vs.length sc, .string f.sig.name, .slice tF tnf tcf, .slice tP tnp tcp, .string f.sig.res.name, .slice tA tm ta, .int .i64 f.sig.res.off, .int .i64 f.sig.off, .int .i64 f.body.kind, .string f.body.name, .string f.body.ty.name, .slice bA bm ba, .int .i64 f.body.ty.off, .slice bB bl bb, .slice bC bn bc, .int .i64 f.body.off, .int .i64 f.off]) rfl rfl HTE.out HOF.out rfl ?_; rw [HWE.out]))
  exact bodyPost_ret (results_cloneDecl _ rfl HBX.out rfl) rfl HEND.out
set_option maxRecDepth 100000 in
set_option maxHeartbeats 8000000 in
theorem eachDeclC_any (xs : List Dc) (A : Option Addr) (q c : Nat) (w : World) (hw : ∀ f ∈ xs, f.wt ≤ 1990) (hq : q ≤ 1000000) (h : RowH w 23 A q (xs.map Dc.dat)) :
    Calls Tryd.prog 56 #[.slice A q c, .func (.func 57) #[] #[]] w (RPost w 23 xs.length (xs.map Dc.datC)) := by
  have hxl := h.len
  rw [List.length_map] at hxl
  by_cases hm0 : q = 0
  · subst hm0
    obtain rfl := List.eq_nil_of_length_eq_zero hxl
    have e0 : (((0 : Nat) : Int) == 0) = true := rfl
    clear h
    go_enter Tryd.func56, Tryd.ntmps56
    go_wp2_with fail
    go_ret
    exact ⟨none, 0, rfl, Row.nil _ _ _ _ _, Below.refl _ _⟩
  · have e0 : ((q : Int) == 0) = false := by simp; omega
    have hmk := run_makeDecl q hq
    have HF := Lib.hid (fill_make (lo := w.heap.size) (n := 0) (a := w.heap.size) (z := 23) w q z23 52)
    have HB := Lib.hid (show Below w.heap.size w (w.alloc (.cells (madeCells z23 (q * 23)) 52)) from (Below.refl _ _).alloc (Nat.le_refl _) _)
    have hmi : (q : Int) ≤ 1000000 := by omega
    have H1 := Lib.hid h
    have HXL := Lib.hid hxl
    obtain ⟨g, hgz⟩ : ∃ g, g = w.heap.size := ⟨_, rfl⟩
    have HGZ := Lib.hid hgz
    clear h hxl
    go_enter Tryd.func56, Tryd.ntmps56
    go_wp2_with fail
    rw [← hgz] at HF ⊢
    clear hgz
    go_loopw [16] (fun i wr => ∃ k : Nat, k ≤ q ∧ i = .int .i64 k ∧ Fill w.heap.size 0 w.heap.size wr g q 23 ((xs.take k).map Dc.datC) ∧ Below w.heap.size w wr) (fun i _ => q - (intOf i).toNat)
    case atStart => exact ⟨0, by omega, rfl, by have h := HF.out; rw [HGZ.out] at h; rw [HGZ.out]; simpa using h, HB.out⟩
    case round =>
      obtain ⟨k, hk, rfl, hf, hbel⟩ := hrel
      have HBL := Lib.hid hbel
      have HFF := Lib.hid hf
      have y1 : (0 : Int) ≤ k := by omega
      by_cases hlt : k < q
      · have y0 : (k : Int) < q := by omega
        obtain ⟨pu, u, ps, rfl, hx, _, _, hu, hcs⟩ := dat_at (RowH.later H1.out hbel) hlt
        have HLU := Lib.hid (show ps.length = 23 from (Dat.In.len _ _ hu).trans (Dc.dat_size u))
        have HOU := Lib.hid (dc_cells hu)
        obtain ⟨W1, hP1⟩ := putZ z23 52 wr HLU.out
        have HP1 := Lib.hid hP1
        have HFC := Lib.hid hcs
        have HX := Lib.hid hP1.box.at0
        have C := Lib.hid (show Calls Tryd.prog 57 #[.agg ps.toArray] W1 (DPost W1 u.datC) from cloneDeclC_any u ps W1 (hw u (List.mem_of_getElem? hx)) (Dat.H.later hu hP1.bel))
        have HB1 := Lib.hid hP1.bel
        have HST := Lib.hid (show (xs.take (k + 1)).map Dc.datC = (xs.take k).map Dc.datC ++ [u.datC] by rw [Ex.take_at hx, List.map_append]; rfl)
        have HKL := Lib.hid (show ((xs.take k).map Dc.datC).length = k by rw [List.length_map, List.length_take, HXL.out]; omega)
        clear hx hu hcs hbel hf hP1
        go_wp2_with (first
          | (refine loadOp flatDc 19 20 rfl HFC.out HLU.out ?_)
          | (refine storeOp flatDc 7 20 (b := wr.heap.size) (o := 0) rfl rfl HP1.out.there HOU.out HLU.out ?_; rw [HP1.out.eq])
          | (refine loadOp flatDc 7 24 rfl HX.out HLU.out ?_))
        refine C.out.mono ?_
        rintro e w3 ⟨vs, rfl, hv, hb3⟩
        have hbw := HB1.out.trans (hb3.mono HB1.out.size)
        have hgw : w.heap.size ≤ g := Nat.le_of_eq HGZ.out.symm
        have hs1 := HB1.out.size
        have hlv : vs.length = 23 := (Dat.In.len _ _ hv).trans (Dc.datC_size u)
        have HLV := Lib.hid hlv
        have HOV := Lib.hid (dc_cells (datC_dat hv))
        have HT := Lib.hid (show w3.there g (k * 23) vs.length by rw [hlv]; exact fill_there HFF.out hgw hbw hlt)
        have hsp := fill_round HFF.out hgw hbw (by rw [HKL.out]; exact hlt) (hv.wide fun b hb => ⟨Nat.le_trans hs1 hb.1, hb.2⟩) (Dc.datC_size u)
        rw [HKL.out] at hsp
        have HSP := Lib.hid hsp
        have HBW := Lib.hid (show Below w.heap.size w (w3.setCells g (k * 23) vs) from (HBL.out.trans (hbw.mono HBL.out.size)).trans (below_cells hgw vs _ w3))
        clear hv hb3 hbw hgw hs1 hlv hsp C HP1 HFC HX HB1
        go_wp2_with (refine storeOp flatDc 26 25 (b := g) (o := k * 23) rfl rfl HT.out HOV.out HLV.out ?_)
        go_roundw
        case rel => exact ⟨k + 1, by omega, by go_num, by rw [HST.out]; exact HSP.out, HBW.out⟩
        case measure => simp [intOf]; omega
      · have y0 : (q : Int) ≤ k := by omega
        rw [List.take_of_length_le (by rw [HXL.out]; omega)] at hf
        have HF2 := Lib.hid hf
        clear hf hbel
        go_wp2_with fail
        go_ret
        have hl : (xs.map Dc.datC).length = q := by rw [List.length_map]; exact HXL.out
        refine ⟨some ⟨g, 0, none⟩, q, by rw [HXL.out]; rfl, ?_, HBL.out⟩
        rw [HXL.out]
        exact (HF2.out.row hl (by omega) (Nat.le_of_eq HGZ.out.symm) (Nat.le_of_eq HGZ.out.symm)).wide fun b hb => ⟨hb.1, hb.2.elim (fun h => absurd h (Nat.not_lt_zero _)) fun h => h.2⟩
/-- A program of such declarations. -/
def Pg.datC (p : Pg) : Dat := .tup [.arr false 23 (p.ds.map Dc.datC), p.main.dat]
theorem pgC_shut {w : World} {N : Prop} {S : Nat → Prop} {p : Pg} {D : Option Addr} {n c : Nat} {bv : List Value} (h1 : Row w N S 23 D n (p.ds.map Dc.datC)) (h2 : p.main.dat.In w N S bv) : p.datC.In w N S (.slice D n c :: bv) := by
  obtain rfl := h1.len
  rw [Pg.datC]
  simp only [Dat.In, Dat.Ins]
  exact ⟨[_], _, rfl, ⟨D, c, rfl, h1.le, (fun h => by cases h), h1.elems⟩, bv, [], by simp, h2, rfl⟩
theorem pgC_open {w : World} {N : Prop} {S : Nat → Prop} {p : Pg} {us : List Value} (h : p.datC.In w N S us) : ∃ D n c bv, us = .slice D n c :: bv ∧ Row w N S 23 D n (p.ds.map Dc.datC) ∧ p.main.dat.In w N S bv := by
  rw [Pg.datC] at h
  simp only [Dat.In, Dat.Ins] at h
  obtain ⟨u1, u2, rfl, ⟨D, c, rfl, h1, _, h2⟩, u3, u4, rfl, h3, rfl⟩ := h
  exact ⟨D, _, c, u3, by simp, ⟨rfl, h1, h2⟩, h3⟩
theorem rowC_dat {w : World} {N : Prop} {S : Nat → Prop} {A : Option Addr} {n : Nat} {ds : List Dc} (h : Row w N S 23 A n (ds.map Dc.datC)) : Row w N S 23 A n (ds.map Dc.dat) := by
  have hl := h.len
  rw [List.length_map] at hl
  refine ⟨by rw [List.length_map]; exact hl, h.le, Dat.Elems.of fun k d hk => ?_⟩
  rw [List.getElem?_map] at hk
  cases hd : ds[k]? with
  | none => rw [hd] at hk; cases hk
  | some x =>
    rw [hd] at hk
    obtain rfl : x.dat = d := by simpa using hk
    obtain ⟨a, us, e, h1, h2, h3, h4⟩ := h.at (k := k) (d := x.datC) (by rw [List.getElem?_map, hd]; rfl)
    exact ⟨a, us, e, h1, h2, datC_dat h3, by rw [Nat.zero_add]; exact h4⟩
theorem pgC_dat {w : World} {N : Prop} {S : Nat → Prop} {p : Pg} {us : List Value} (h : p.datC.In w N S us) : p.dat.In w N S us := by
  obtain ⟨D, n, c, bv, rfl, h1, h2⟩ := pgC_open h
  exact pg_shut (rowC_dat h1) h2
set_option maxRecDepth 100000 in
set_option maxHeartbeats 16000000 in
theorem clonePgC_any (p : Pg) (us : List Value) (w : World) (hw : p.wt ≤ 1990) (h : p.dat.H w us) : Calls Tryd.prog 32 #[.agg us.toArray] w (DPost w p.datC) := by
  have hcl := Cl.new w us.toArray #[.slice none 0 0, .int .i64 0, .string ⟨#[]⟩, .string ⟨#[]⟩, .slice none 0 0, .int .i64 0, .slice none 0 0, .slice none 0 0, .int .i64 0] 30
  obtain ⟨W0, hW0⟩ : ∃ W0, ((w.alloc (.cells us.toArray 30)).alloc (.cells #[.slice none 0 0, .int .i64 0, .string ⟨#[]⟩, .string ⟨#[]⟩, .slice none 0 0, .int .i64 0, .slice none 0 0, .slice none 0 0, .int .i64 0] 30)) = W0 := ⟨_, rfl⟩
  rw [hW0] at hcl
  have hbel := hcl.bel
  have hbox := hcl.box.box
  have HCL := Lib.hid hcl
  have HBEL := Lib.hid hbel
  have h0 : p.dat.H W0 us := Dat.H.later h hbel
  have HW0 := Lib.hid hW0
  obtain ⟨D, n, c, bv, hus, hd, hbd⟩ := pg_open h0
  have hbl : bv.length = 8 := (Dat.In.len _ _ hbd).trans (Ex.dat_size _)
  have HBL := Lib.hid hbl
  have x0 := hbox 0 (.slice D n c) (by simp [hus])
  have r1 : W0.rangeAt w.heap.size 1 bv := fun j v hv => hbox (1 + j) v (by simp only [hus, Nat.add_comm 1 j]; simpa using hv)
  have SS : Below (w.heap.size + 1) W0 W0 ∧ W0.cell? ⟨w.heap.size, 0, none⟩ = some (.slice D n c) ∧ W0.rangeAt w.heap.size 1 bv := ⟨Below.refl _ _, x0, r1⟩
  have KP := Lib.hid (show ∀ V : World, Below (w.heap.size + 1) W0 V → Below (w.heap.size + 1) W0 V ∧ V.cell? ⟨w.heap.size, 0, none⟩ = some (.slice D n c) ∧ V.rangeAt w.heap.size 1 bv from fun V hV => ⟨hV, (hV.cell (p := ⟨w.heap.size, 0, none⟩) (Nat.lt_succ_self _)).trans x0, fun j v hv => (hV.cell (p := ⟨w.heap.size, 1 + j, none⟩) (Nat.lt_succ_self _)).trans (r1 j v hv)⟩)
  have hxl := hd.len
  rw [List.length_map] at hxl
  have HBG := Lib.hid (show w.heap.size + 1 ≤ W0.heap.size from Nat.le_of_succ_le hcl.big)
  have HDL := Lib.hid (show p.ds.length ≤ 1990 by have := sumBy_len Dc.wt_pos p.ds; unfold Pg.wt at hw; omega)
  have C5 := Lib.hid (fun (V : World) (hV : Below W0.heap.size W0 V) => eachDeclC_any p.ds D n c V (fun d hd => Nat.le_trans (Pg.wt_d (p := p) hd) hw) (by have := HDL.out; omega) (RowH.later hd hV))
  have C8 := Lib.hid (fun (V : World) (hV : Below W0.heap.size W0 V) => xclone_any p.main bv V (by have := Pg.wt_main (p := p); omega) (Dat.H.later hbd hV))
  clear hus hbel hW0 hbox h h0 hd hbd x0 r1 hbl hw hcl hxl
  go_enter Tryd.func32, Tryd.ntmps32
  go_upto_region 1 with fail
  rw [HW0.out]
  clear HW0
  go_wp2_with fail
  refine wp_region_held_drew (S := fun V => Below (w.heap.size + 1) W0 V ∧ V.cell? ⟨w.heap.size, 0, none⟩ = some (.slice D n c) ∧ V.rangeAt w.heap.size 1 bv) (by kernel_rfl) ⟨SS.1.drew, SS.2⟩ (fun hS => ?_)
  clear SS
  first
  | (refine wpAnyH_take (i := 0) (v := ?_) rfl (by kernel_rfl) (by kernel_rfl) (by kernel_rfl) (fun _ _ _ h => h) (Or.inl ⟨by rfl, ?_⟩) (by assumption) ?_
     rotate_left
     · (intro V hV; obtain ⟨_, x0, x1⟩ := hV; go_simp; try with_reducible rfl)
     try simp only [Act.put, List.getElem_toArray, List.getElem_cons_zero, List.setIfInBounds_toArray, List.set_cons_zero, List.set_cons_succ])
  | (refine wpAnyH_take (i := 0) (v := undef) rfl (by kernel_rfl) (by kernel_rfl) (by kernel_rfl) (fun _ _ _ h => h) (Or.inr ⟨by rfl, rfl⟩) (by assumption) ?_
     try simp only [Act.put, List.getElem_toArray, List.getElem_cons_zero, List.setIfInBounds_toArray, List.set_cons_zero, List.set_cons_succ])
  | fail "take 0"
  first
  | (refine wpAnyH_take (i := 1) (v := ?_) rfl (by kernel_rfl) (by kernel_rfl) (by kernel_rfl) (fun _ _ _ h => h) (Or.inl ⟨by rfl, ?_⟩) (by assumption) ?_
     rotate_left
     · (intro V hV; obtain ⟨_, x0, x1⟩ := hV; go_simp; try with_reducible rfl)
     try simp only [Act.put, List.getElem_toArray, List.getElem_cons_zero, List.getElem_cons_succ, List.setIfInBounds_toArray, List.set_cons_zero, List.set_cons_succ])
  | (refine wpAnyH_take (i := 1) (v := undef) rfl (by kernel_rfl) (by kernel_rfl) (by kernel_rfl) (fun _ _ _ h => h) (Or.inr ⟨by rfl, rfl⟩) (by assumption) ?_
     try simp only [Act.put, List.getElem_toArray, List.getElem_cons_zero, List.getElem_cons_succ, List.setIfInBounds_toArray, List.set_cons_zero, List.set_cons_succ])
  | fail "take 1"
  first
  | (refine wpAnyH_take (i := 3) (v := ?_) rfl (by kernel_rfl) (by kernel_rfl) (by kernel_rfl) (fun _ _ _ h => h) (Or.inl ⟨by rfl, ?_⟩) (by assumption) ?_
     rotate_left
     · (intro V hV; obtain ⟨_, x0, x1⟩ := hV; go_simp; try with_reducible rfl)
     try simp only [Act.put, List.getElem_toArray, List.getElem_cons_zero, List.getElem_cons_succ, List.setIfInBounds_toArray, List.set_cons_zero, List.set_cons_succ])
  | (refine wpAnyH_take (i := 3) (v := undef) rfl (by kernel_rfl) (by kernel_rfl) (by kernel_rfl) (fun _ _ _ h => h) (Or.inr ⟨by rfl, rfl⟩) (by assumption) ?_
     try simp only [Act.put, List.getElem_toArray, List.getElem_cons_zero, List.getElem_cons_succ, List.setIfInBounds_toArray, List.set_cons_zero, List.set_cons_succ])
  | fail "take 3"
  refine wpAnyH_take (i := 4) (v := .agg bv.toArray) rfl (by kernel_rfl) (by kernel_rfl) (by kernel_rfl) (fun _ _ _ h => h) (yieldsIf_load_mid rfl 28 (.tmp 6) rfl w.heap.size 1 rfl bv _ (fun V hV => hV.2.2) Tryd.underlying28 rfl (by rw [HBL.out]; exact sizeE8)) (by assumption) ?_
  try simp only [Act.put, List.getElem_toArray, List.getElem_cons_zero, List.getElem_cons_succ, List.setIfInBounds_toArray, List.set_cons_zero, List.set_cons_succ]
  have HXD := Lib.hid (show Below W0.heap.size W0 W0.drew from (Below.refl _ _).drew)
  generalize World.drew W0 = Wd at *
  refine wpAnyH_ready (rs := [2]) (by kernel_rfl) (by simp) ?_
  refine AllReadyH.cons rfl (fun K hK => ?_) AllReadyH.nil
  go_simp
  refine (C5.out _ HXD.out).mono ?_
  rintro e wA ⟨A5, c5, rfl, hrow, hb⟩
  have HXA := Lib.hid (HXD.out.trans (hb.mono HXD.out.size))
  have R5 := Lib.hid hrow
  have SS := KP.out _ (HXA.out.mono HBG.out)
  refine hK.out _ _ SS (fun hS => ?_)
  clear hK K
  try simp only [Act.put, List.getElem_toArray, List.getElem_cons_zero, List.getElem_cons_succ, List.setIfInBounds_toArray, List.set_cons_zero, List.set_cons_succ]
  clear hb hrow
  refine wpAnyH_ready (rs := [5]) (by kernel_rfl) (by simp) ?_
  refine AllReadyH.cons rfl (fun K hK => ?_) AllReadyH.nil
  go_simp
  refine (C8.out _ HXA.out).mono ?_
  rintro e wB ⟨vs, rfl, hv, hb⟩
  obtain ⟨A1, m1, a1, B1, l1, b1, C1, n1, c1, rfl, _⟩ := ex_open hv
  have HXB := Lib.hid (HXA.out.trans (hb.mono HXA.out.size))
  have CLB := Lib.hid (HCL.out.later HXB.out)
  have hs1 := HXD.out.size
  have hs2 := HXA.out.size
  have hs3 := hb.size
  have hbig := HCL.out.big
  have hdat : p.datC.In wB False (Fr w wB) [.slice A5 p.ds.length c5, .int .i64 p.main.kind, .string p.main.name, .string p.main.ty.name, .slice A1 m1 a1, .int .i64 p.main.ty.off, .slice B1 l1 b1, .slice C1 n1 c1, .int .i64 p.main.off] := pgC_shut ((R5.out.later hb fun _ h => h.2).wide fun b hb => ⟨by have := hb.1; omega, Nat.lt_of_lt_of_le hb.2 hs3⟩) (hv.wide fun b hb => ⟨by have := hb.1; omega, hb.2⟩)
  have HEND := Lib.hid (cl_end CLB.out hdat)
  have HTH := Lib.hid (show wB.there (w.heap.size + 1) 0 9 from CLB.out.res)
  have HONE := Lib.hid (show ∀ u ∈ ([.slice A5 p.ds.length c5, .int .i64 p.main.kind, .string p.main.name, .string p.main.ty.name, .slice A1 m1 a1, .int .i64 p.main.ty.off, .slice B1 l1 b1, .slice C1 n1 c1, .int .i64 p.main.off] : List Value), u.oneCell' = true by
    intro u hu
    simp only [List.mem_cons, List.not_mem_nil, or_false] at hu
    rcases hu with rfl | rfl | rfl | rfl | rfl | rfl | rfl | rfl | rfl <;> rfl)
  have SS := KP.out _ (HXB.out.mono HBG.out)
  refine hK.out _ _ SS (fun hS => ?_)
  clear hK K
  try simp only [Act.put, List.getElem_toArray, List.getElem_cons_zero, List.getElem_cons_succ, List.setIfInBounds_toArray, List.set_cons_zero, List.set_cons_succ]
  clear hb hv hdat hs1 hs2 hs3 hbig R5 CLB
  first
  | (refine wpAnyH_take (i := 6) (v := ?_) rfl (by kernel_rfl) (by kernel_rfl) (by kernel_rfl) (fun _ _ _ h => h) (Or.inl ⟨by rfl, ?_⟩) (by assumption) ?_
     rotate_left
     · (intro V hV; obtain ⟨_, x0, x1⟩ := hV; go_simp; try with_reducible rfl)
     try simp only [Act.put, List.getElem_toArray, List.getElem_cons_zero, List.getElem_cons_succ, List.setIfInBounds_toArray, List.set_cons_zero, List.set_cons_succ])
  | (refine wpAnyH_take (i := 6) (v := undef) rfl (by kernel_rfl) (by kernel_rfl) (by kernel_rfl) (fun _ _ _ h => h) (Or.inr ⟨by rfl, rfl⟩) (by assumption) ?_
     try simp only [Act.put, List.getElem_toArray, List.getElem_cons_zero, List.getElem_cons_succ, List.setIfInBounds_toArray, List.set_cons_zero, List.set_cons_succ])
  | fail "take 6"
  refine wpAnyH_ready (rs := [7]) (by kernel_rfl) (by simp) ?_
  refine AllReadyH.cons rfl (fun K hK => ?_) AllReadyH.nil
  refine ready_store flatPg rfl (.tmp 2) (.tmp 9) rfl (b := w.heap.size + 1) (off := 0) (us := [.slice A5 p.ds.length c5, .int .i64 p.main.kind, .string p.main.name, .string p.main.ty.name, .slice A1 m1 a1, .int .i64 p.main.ty.off, .slice B1 l1 b1, .slice C1 n1 c1, .int .i64 p.main.off]) rfl rfl HTH.out HONE.out rfl ?_
  have HBX := Lib.hid (set_there (us := [.slice A5 p.ds.length c5, .int .i64 p.main.kind, .string p.main.name, .string p.main.ty.name, .slice A1 m1 a1, .int .i64 p.main.ty.off, .slice B1 l1 b1, .slice C1 n1 c1, .int .i64 p.main.off]) HTH.out)
  have SS := KP.out _ ((HXB.out.mono HBG.out).trans (below_cells (Nat.le_refl _) [.slice A5 p.ds.length c5, .int .i64 p.main.kind, .string p.main.name, .string p.main.ty.name, .slice A1 m1 a1, .int .i64 p.main.ty.off, .slice B1 l1 b1, .slice C1 n1 c1, .int .i64 p.main.off] 0 wB))
  refine hK.out _ _ SS (fun hS => ?_)
  clear hK K
  try simp only [Act.put, List.getElem_toArray, List.getElem_cons_zero, List.getElem_cons_succ]
  refine wpAnyH_done (by kernel_rfl) ?_ _
  clear KP C5 C8 SS
  go_wp2_with fail
  exact bodyPost_ret (results_clonePg _ rfl HBX.out rfl) rfl HEND.out
end Go.Proofs.YtjhlehdjdaphcaaDoor
