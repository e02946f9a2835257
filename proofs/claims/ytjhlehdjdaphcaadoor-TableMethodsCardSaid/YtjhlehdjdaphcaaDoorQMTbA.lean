/- The walks of package table: keyOf, find, instance, Kind, Formals, Program. The condition: few parts. -/
import Derived.Test.YtjhlehdjdaphcaaDoorQMBdM
import Derived.Test.YtjhlehdjdaphcaaDoorQMTbM
import Derived.Lib.AppendZerosOnto
namespace Go.Proofs.YtjhlehdjdaphcaaDoor
open Go.RowKit

theorem flatKy : Flat 79 3 := ⟨by kernel_rfl, _, Tryd.underlying79, rfl⟩
theorem ky_one {b : Bool} {s m : ByteArray} : ∀ u ∈ ([.bool b, .string s, .string m] : List Value), u.oneCell' = true := by
  intro u hu
  simp only [List.mem_cons, List.not_mem_nil, or_false] at hu
  rcases hu with rfl | rfl | rfl <;> rfl
theorem z23_all : ∀ u ∈ ([.int .i64 0, .string ⟨#[]⟩, .slice none 0 0, .slice none 0 0, .slice none 0 0, .string ⟨#[]⟩, .slice none 0 0, .string ⟨#[]⟩, .slice none 0 0, .slice none 0 0, .string ⟨#[]⟩, .slice none 0 0, .int .i64 0, .int .i64 0, .int .i64 0, .string ⟨#[]⟩, .string ⟨#[]⟩, .slice none 0 0, .int .i64 0, .slice none 0 0, .slice none 0 0, .int .i64 0, .int .i64 0] : List Value), u.oneCell' = true := by
  intro u hu
  simp only [List.mem_cons, List.not_mem_nil, or_false] at hu
  rcases hu with rfl | rfl | rfl | rfl | rfl | rfl | rfl | rfl | rfl | rfl | rfl | rfl | rfl | rfl | rfl | rfl | rfl | rfl | rfl | rfl | rfl | rfl | rfl <;> rfl
theorem dcNone_in (w : World) (N : Prop) (S : Nat → Prop) : Dc.none?.dat.In w N S [.int .i64 0, .string ⟨#[]⟩, .slice none 0 0, .slice none 0 0, .slice none 0 0, .string ⟨#[]⟩, .slice none 0 0, .string ⟨#[]⟩, .slice none 0 0, .slice none 0 0, .string ⟨#[]⟩, .slice none 0 0, .int .i64 0, .int .i64 0, .int .i64 0, .string ⟨#[]⟩, .string ⟨#[]⟩, .slice none 0 0, .int .i64 0, .slice none 0 0, .slice none 0 0, .int .i64 0, .int .i64 0] :=
  dc_shut (d := Dc.none?) (F := none) (P := none) (G := none) (V := none) (nf := 0) (np := 0) (ng := 0) (nv := 0) (by simp [Dc.none?, ByteArray.size]) (Row.nil _ _ _ _ _) (Row.nil _ _ _ _ _) (Row.nil _ _ _ _ _) (by simp [Dc.none?, ByteArray.size]) (Row.nil _ _ _ _ _) (sgNone_in _ _ _) (exNone_in _ _ _)
theorem pgNone_in (w : World) (N : Prop) (S : Nat → Prop) : (Pg.mk [] Ex.none?).dat.In w N S [.slice none 0 0, .int .i64 0, .string ⟨#[]⟩, .string ⟨#[]⟩, .slice none 0 0, .int .i64 0, .slice none 0 0, .slice none 0 0, .int .i64 0] :=
  pg_shut (p := Pg.mk [] Ex.none?) (D := none) (n := 0) (c := 0) (Row.nil _ _ _ _ _) (exNone_in _ _ _)
/-- What lies in a declaration. -/
theorem dc_c {w : World} {N : Prop} {S : Nat → Prop} {d : Dc} {us : List Value} (h : d.dat.In w N S us) : us[0]? = some (.int .i64 d.kind) ∧ us[1]? = some (.string d.name) ∧ us[7]? = some (.string d.sig.name) ∧ d.name.size ≤ 9223372036854775807 ∧ d.sig.name.size ≤ 9223372036854775807
    ∧ ∃ F nf cf P np cp G ng cg V nv cv, us[2]? = some (.slice F nf cf) ∧ us[3]? = some (.slice P np cp) ∧ us[4]? = some (.slice G ng cg) ∧ us[6]? = some (.slice V nv cv) ∧ Row w N S 5 F nf (d.fs.map Fo.dat) ∧ Row w N S 5 P np (d.ms.map Fo.dat) ∧ Row w N S 7 G ng (d.gs.map Sg.dat) ∧ Row w N S 1 V nv (d.vs.map Dat.str) := by
  obtain ⟨F, nf, cf, P, np, cp, G, ng, cg, V, nv, cv, sv, bv, rfl, h1, h2, h3, h4, _, h6, h7, _⟩ := dc_open h
  obtain ⟨F2, nf2, cf2, P2, np2, cp2, A2, m2, a2, rfl, h8, _⟩ := sg_open h7
  exact ⟨rfl, rfl, rfl, h1, h8, F, nf, cf, P, np, cp, G, ng, cg, V, nv, cv, rfl, rfl, rfl, rfl, h2, h3, h4, h6⟩
/-- Two boxes of different types, the second as it is laid. -/
theorem two_boxes (w : World) (us zs : Array Value) (T U : TypeId) {W : World} (hW : (w.alloc (.cells us T)).alloc (.cells zs U) = W) : Below w.heap.size w W ∧ Boxd W w.heap.size us.toList ∧ W.there (w.heap.size + 1) 0 zs.size ∧ W.heap.size = w.heap.size + 2 := by
  subst hW
  have hb1 : Below w.heap.size w (w.alloc (.cells us T)) := (Below.refl _ _).alloc (Nat.le_refl _) _
  have hb2 : Below (w.alloc (.cells us T)).heap.size (w.alloc (.cells us T)) ((w.alloc (.cells us T)).alloc (.cells zs U)) := (Below.refl _ _).alloc (Nat.le_refl _) _
  refine ⟨hb1.trans (hb2.mono hb1.size), (Boxd.new w us T).later hb2, ?_, by simp⟩
  have h := there_new (w.alloc (.cells us T)) zs U
  rwa [World.size_alloc] at h

/-! ### keyOf -/
def KeyPost (w : World) (d : Dc) (e : Ending) (w' : World) : Prop := ∃ b s m, e = .returned (.tuple #[kyV b s m, .bool d.ky.isSome]) ∧ (∀ x, d.ky = some x → kyK b s m = x) ∧ s.size ≤ 9223372036854775807 ∧ m.size ≤ 9223372036854775807 ∧ Below w.heap.size w w'
theorem results_keyOf {w : World} {b : Nat} {us : List Value} {v : Value} (tmps : Array Value) (ht : tmps[2]?.getD undef = .pointer (some ⟨b, 0, none⟩)) (hv : tmps[3]?.getD undef = v) (hc : Boxd w b us) (hl : us.length = 3) : (results Tryd.f33 tmps).run Tryd.prog w = .ok (.tuple #[.agg us.toArray, v]) w := by
  have h := run_loadVar_at w ⟨b, 0, none⟩ 79 us _ hc.at0 Tryd.underlying79 rfl (by rw [hl]; exact flatKy.size)
  have h2 : (asAddr (.pointer (some ⟨b, 0, none⟩))).run Tryd.prog w = .ok ⟨b, 0, none⟩ w := rfl
  simp [results, Tryd.results33, ht, hv, h, h2, Sem.run_bind, Result.andThen]
set_option maxRecDepth 100000 in
set_option maxHeartbeats 8000000 in
theorem keyOf_any (d : Dc) (us : List Value) (w : World) (h : d.dat.H w us) : Calls Tryd.prog 33 #[.agg us.toArray] w (KeyPost w d) := by
  obtain ⟨W0, hW0⟩ : ∃ W0, (w.alloc (.cells us.toArray 52)).alloc (.cells #[.bool false, .string ⟨#[]⟩, .string ⟨#[]⟩] 79) = W0 := ⟨_, rfl⟩
  obtain ⟨hb, hbx, hth, _⟩ := two_boxes _ _ _ _ _ hW0
  obtain ⟨u0, u1, u7, hn, hm, _⟩ := dc_c h
  have x0 := hbx 0 _ u0
  have x1 := hbx 1 _ u1
  have x7 := hbx 7 _ u7
  have HW0 := Lib.hid hW0
  have HB := Lib.hid hb
  have HT := Lib.hid (show W0.there (w.heap.size + 1) 0 3 from hth)
  have HN := Lib.hid hn
  have HM := Lib.hid hm
  clear hW0 hb hbx hth u0 u1 u7 hn hm h
  have k0 : (⟨#[]⟩ : ByteArray).size ≤ 9223372036854775807 := by simp [ByteArray.size]
  have HE := Lib.hid k0
  clear k0
  by_cases k1 : d.kind = 1
  · have e1 : (d.kind == 1) = true := by rw [k1]; rfl
    have HK := Lib.hid (show d.ky = some (kyK false d.name ⟨#[]⟩) by rw [Dc.ky, if_pos (.inl k1)])
    clear k1
    go_enter Tryd.func33, Tryd.ntmps33
    go_upto_region 1 with fail
    rw [HW0.out]
    clear HW0
    go_wp2_with (refine storeOp flatKy 2 11 (b := w.heap.size + 1) (o := 0) (us := [.bool false, .string d.name, .string ⟨#[]⟩]) rfl rfl HT.out ky_one rfl ?_)
    exact bodyPost_ret (results_keyOf _ rfl rfl (set_there (us := [.bool false, .string d.name, .string ⟨#[]⟩]) HT.out) rfl) rfl ⟨false, d.name, ⟨#[]⟩, by rw [HK.out]; rfl, fun x hx => Option.some.inj (HK.out.symm.trans hx), HN.out, HE.out, HB.out.trans (below_cells (Nat.le_succ _) _ _ _)⟩
  by_cases k2 : d.kind = 2
  · have e1 : (d.kind == 1) = false := by rw [k2]; rfl
    have e2 : (d.kind == 2) = true := by rw [k2]; rfl
    have HK := Lib.hid (show d.ky = some (kyK false d.name ⟨#[]⟩) by rw [Dc.ky, if_pos (.inr k2)])
    clear k1 k2
    go_enter Tryd.func33, Tryd.ntmps33
    go_upto_region 1 with fail
    rw [HW0.out]
    clear HW0
    go_wp2_with (refine storeOp flatKy 2 11 (b := w.heap.size + 1) (o := 0) (us := [.bool false, .string d.name, .string ⟨#[]⟩]) rfl rfl HT.out ky_one rfl ?_)
    exact bodyPost_ret (results_keyOf _ rfl rfl (set_there (us := [.bool false, .string d.name, .string ⟨#[]⟩]) HT.out) rfl) rfl ⟨false, d.name, ⟨#[]⟩, by rw [HK.out]; rfl, fun x hx => Option.some.inj (HK.out.symm.trans hx), HN.out, HE.out, HB.out.trans (below_cells (Nat.le_succ _) _ _ _)⟩
  have e1 : (d.kind == 1) = false := beq_eq_false_iff_ne.2 k1
  have e2 : (d.kind == 2) = false := beq_eq_false_iff_ne.2 k2
  by_cases k3 : d.kind = 3
  · have e3 : (d.kind == 3) = true := by rw [k3]; rfl
    have HK := Lib.hid (show d.ky = some (kyK true d.name d.sig.name) by rw [Dc.ky, if_neg (by omega), if_pos k3])
    clear k1 k2 k3
    go_enter Tryd.func33, Tryd.ntmps33
    go_upto_region 1 with fail
    rw [HW0.out]
    clear HW0
    go_wp2_with (refine storeOp flatKy 2 19 (b := w.heap.size + 1) (o := 0) (us := [.bool true, .string d.name, .string d.sig.name]) rfl rfl HT.out ky_one rfl ?_)
    exact bodyPost_ret (results_keyOf _ rfl rfl (set_there (us := [.bool true, .string d.name, .string d.sig.name]) HT.out) rfl) rfl ⟨true, d.name, d.sig.name, by rw [HK.out]; rfl, fun x hx => Option.some.inj (HK.out.symm.trans hx), HN.out, HM.out, HB.out.trans (below_cells (Nat.le_succ _) _ _ _)⟩
  · have e3 : (d.kind == 3) = false := beq_eq_false_iff_ne.2 k3
    have HK := Lib.hid (show d.ky = none by rw [Dc.ky, if_neg (by omega), if_neg k3])
    clear k1 k2 k3
    go_enter Tryd.func33, Tryd.ntmps33
    go_upto_region 1 with fail
    rw [HW0.out]
    clear HW0
    go_wp2_with (refine storeOp flatKy 2 20 (b := w.heap.size + 1) (o := 0) (us := [.bool false, .string ⟨#[]⟩, .string ⟨#[]⟩]) rfl rfl HT.out ky_one rfl ?_)
    exact bodyPost_ret (results_keyOf _ rfl rfl (set_there (us := [.bool false, .string ⟨#[]⟩, .string ⟨#[]⟩]) HT.out) rfl) rfl ⟨false, ⟨#[]⟩, ⟨#[]⟩, by rw [HK.out]; rfl, fun x hx => absurd (HK.out.symm.trans hx) (by simp), HE.out, HE.out, HB.out.trans (below_cells (Nat.le_succ _) _ _ _)⟩

/-! ### find -/
theorem tab_c {us : List Value} (hl : us.length = 9) {x y : Value} : (us ++ [x, y])[9]? = some x ∧ (us ++ [x, y])[10]? = some y :=
  ⟨by rw [List.getElem?_append_right (by omega), hl]; rfl, by rw [List.getElem?_append_right (by omega), hl]; rfl⟩
theorem results_find {w : World} {b : Nat} {us : List Value} (tmps : Array Value) (ht : tmps[4]?.getD undef = .pointer (some ⟨b, 0, none⟩)) (hc : Boxd w b us) (hl : us.length = 23) : (results Tryd.f39 tmps).run Tryd.prog w = .ok (.agg us.toArray) w := by
  have h := run_loadVar_at w ⟨b, 0, none⟩ 52 us _ hc.at0 Tryd.underlying52 rfl (by rw [hl]; exact flatDc.size)
  have h2 : (asAddr (.pointer (some ⟨b, 0, none⟩))).run Tryd.prog w = .ok ⟨b, 0, none⟩ w := rfl
  simp [results, Tryd.results39, ht, h, h2, Sem.run_bind, Result.andThen]
set_option maxRecDepth 100000 in
set_option maxHeartbeats 8000000 in
theorem find_any (lo : Nat) (r : Value) (p : Pg) (b : Bool) (s m : ByteArray) (w : World) (hs : s.size ≤ 9223372036854775807) (hm : m.size ≤ 9223372036854775807) (ht : TabR lo w r p) :
    Calls Tryd.prog 39 #[r, kyV b s m] w (LAt lo w (atK p.ds (kyK b s m)).dat) := by
  obtain ⟨W0, hW0⟩ : ∃ W0, (w.alloc (.cells #[.bool b, .string s, .string m] 79)).alloc (.cells z23 52) = W0 := ⟨_, rfl⟩
  obtain ⟨hb, hbx, hth, _⟩ := two_boxes _ _ _ _ _ hW0
  have HW0 := Lib.hid hW0
  have HB := Lib.hid hb
  have HBX := Lib.hid (show Boxd W0 w.heap.size [.bool b, .string s, .string m] from hbx)
  have HT := Lib.hid (show W0.there (w.heap.size + 1) 0 23 from hth)
  rcases ht with ⟨rfl, rfl⟩ | ⟨tb, rfl, h⟩
  · clear hW0 hb hbx hth
    go_enter Tryd.func39, Tryd.ntmps39
    go_upto_region 1 with fail
    rw [HW0.out]
    clear HW0
    go_wp2_with (refine storeOp flatDc 4 9 (b := w.heap.size + 1) (o := 0) (us := [.int .i64 0, .string ⟨#[]⟩, .slice none 0 0, .slice none 0 0, .slice none 0 0, .string ⟨#[]⟩, .slice none 0 0, .string ⟨#[]⟩, .slice none 0 0, .slice none 0 0, .string ⟨#[]⟩, .slice none 0 0, .int .i64 0, .int .i64 0, .int .i64 0, .string ⟨#[]⟩, .string ⟨#[]⟩, .slice none 0 0, .int .i64 0, .slice none 0 0, .slice none 0 0, .int .i64 0, .int .i64 0]) rfl rfl HT.out z23_all rfl ?_)
    exact bodyPost_ret (results_find _ rfl (set_there (us := [.int .i64 0, .string ⟨#[]⟩, .slice none 0 0, .slice none 0 0, .slice none 0 0, .string ⟨#[]⟩, .slice none 0 0, .string ⟨#[]⟩, .slice none 0 0, .slice none 0 0, .string ⟨#[]⟩, .slice none 0 0, .int .i64 0, .int .i64 0, .int .i64 0, .string ⟨#[]⟩, .string ⟨#[]⟩, .slice none 0 0, .int .i64 0, .slice none 0 0, .slice none 0 0, .int .i64 0, .int .i64 0]) HT.out) rfl) rfl ⟨_, rfl, by rw [atK_none rfl]; exact dcNone_in _ _ _, HB.out.trans (below_cells (Nat.le_succ _) _ _ _)⟩
  obtain ⟨us, g1, g2, nn, h1, h2, h3, _⟩ := h.ex
  obtain ⟨D, nd, cd, bv, rfl, hr, hbv⟩ := pg_open h1
  have hbl : bv.length = 8 := (Dat.In.len _ _ hbv).trans (Ex.dat_size _)
  have hc9 := (tab_c (us := .slice D nd cd :: bv) (x := .map (some g1)) (y := .map (some g2)) (by simp [hbl])).1
  have HBD := Lib.hid (h2.later hb)
  have HC9 := Lib.hid hc9
  have HFA := Lib.hid (h3.later hb)
  have HLO := Lib.hid h.le
  have HPG := Lib.hid (show p.dat.In W0 False (· < lo) _ from Dat.In.later h1 hb fun k hk => Nat.lt_of_lt_of_le hk h.le)
  have hln := hr.len
  rw [List.length_map] at hln
  have HLN := Lib.hid hln
  cases hi : idxK p.ds (kyK b s m) with
  | none =>
    have HLK := Lib.hid (fun (V : World) (hV : FirstAt V g1 nn (idxK p.ds)) => (by have hl := hV.look b hs hm; rw [hi] at hl; exact hl : (Instr.lookup 74 (.map (some g1)) (kyV b s m) true).run Tryd.prog V = .ok (.tuple #[.int .i64 0, .bool false]) V))
    have HAT := Lib.hid (atK_none hi)
    clear hW0 hb hbx hth h h1 h2 h3 hr hbv hc9 hi hln
    go_enter Tryd.func39, Tryd.ntmps39
    go_upto_region 1 with fail
    rw [HW0.out]
    clear HW0
    go_wp2_with fail
    refine wp_region_held_drew (S := fun V => V.cell? ⟨tb, 9, none⟩ = some (.map (some g1)) ∧ CellsAt V ⟨w.heap.size, 0, none⟩ [.bool b, .string s, .string m] ∧ FirstAt V g1 nn (idxK p.ds)) (by kernel_rfl) ⟨(HBD.out.later (Below.refl _ _).drew) 9 _ HC9.out, (HBX.out.later (Below.refl _ _).drew).at0, HFA.out.later (Below.refl _ _).drew⟩ (fun hS => ?_)
    have HBL := Lib.hid (HB.out.trans ((Below.refl W0.heap.size W0).drew.mono HB.out.size))
    have HDD := Lib.hid (HBD.out.later (Below.refl W0.heap.size W0).drew)
    have HPD := Lib.hid (show p.dat.In W0.drew False (· < lo) _ from Dat.In.later HPG.out (Below.refl W0.heap.size W0).drew fun k hk => Nat.lt_of_lt_of_le hk (Nat.le_trans HLO.out HB.out.size))
    have HTD := Lib.hid (there_later HT.out (Below.refl W0.heap.size W0).drew)
    generalize W0.drew = Wd at *
    refine wpAnyH_take (i := 0) (v := ?_) rfl (by kernel_rfl) (by kernel_rfl) (by kernel_rfl) (fun _ _ _ h => h) (Or.inl ⟨by rfl, ?_⟩) (by assumption) ?_
    rotate_left
    · (intro V hV; go_simp; try with_reducible rfl)
    try simp only [Act.put, List.getElem_toArray, List.getElem_cons_zero, List.setIfInBounds_toArray, List.set_cons_zero, List.set_cons_succ]
    refine wpAnyH_take (i := 1) (v := ?_) rfl (by kernel_rfl) (by kernel_rfl) (by kernel_rfl) (fun _ _ _ h => h) (Or.inl ⟨by rfl, ?_⟩) (by assumption) ?_
    rotate_left
    · (intro V hV; go_simp; try with_reducible rfl)
    try simp only [Act.put, List.getElem_toArray, List.getElem_cons_zero, List.getElem_cons_succ, List.setIfInBounds_toArray, List.set_cons_zero, List.set_cons_succ]
    refine wpAnyH_take (i := 2) (v := ?_) rfl (by kernel_rfl) (by kernel_rfl) (by kernel_rfl) (fun _ _ _ h => h) (Or.inl ⟨by rfl, ?_⟩) (by assumption) ?_
    rotate_left
    · (intro V hV; go_simp; try with_reducible rfl)
    try simp only [Act.put, List.getElem_toArray, List.getElem_cons_zero, List.getElem_cons_succ, List.setIfInBounds_toArray, List.set_cons_zero, List.set_cons_succ]
    refine wpAnyH_take (i := 3) (v := ?_) rfl (by kernel_rfl) (by kernel_rfl) (by kernel_rfl) (fun _ _ _ h => h) (Or.inl ⟨by rfl, ?_⟩) (by assumption) ?_
    rotate_left
    · (intro V hV; obtain ⟨k1, k2, k3⟩ := hV; go_simp; try with_reducible rfl)
    try simp only [Act.put, List.getElem_toArray, List.getElem_cons_zero, List.getElem_cons_succ, List.setIfInBounds_toArray, List.set_cons_zero, List.set_cons_succ]
    refine wpAnyH_take (i := 4) (v := .agg ([.bool b, .string s, .string m] : List Value).toArray) rfl (by kernel_rfl) (by kernel_rfl) (by kernel_rfl) (fun _ _ _ h => h) (Or.inl ⟨by rfl, fun V hV => loadYieldB flatKy rfl hV.2.1 rfl⟩) (by assumption) ?_
    try simp only [Act.put, List.getElem_toArray, List.getElem_cons_zero, List.getElem_cons_succ, List.setIfInBounds_toArray, List.set_cons_zero, List.set_cons_succ]
    refine wpAnyH_take (i := 5) (v := ?_) rfl (by kernel_rfl) (by kernel_rfl) (by kernel_rfl) (fun _ _ _ h => h) (Or.inl ⟨by rfl, ?_⟩) (by assumption) ?_
    rotate_left
    · (intro V hV; have hl := HLK.out V hV.2.2; go_simp; try with_reducible rfl)
    try simp only [Act.put, List.getElem_toArray, List.getElem_cons_zero, List.getElem_cons_succ, List.setIfInBounds_toArray, List.set_cons_zero, List.set_cons_succ]
    refine wpAnyH_take (i := 6) (v := ?_) rfl (by kernel_rfl) (by kernel_rfl) (by kernel_rfl) (fun _ _ _ h => h) (Or.inl ⟨by rfl, ?_⟩) (by assumption) ?_
    rotate_left
    · (intro V hV; go_simp; try with_reducible rfl)
    try simp only [Act.put, List.getElem_toArray, List.getElem_cons_zero, List.getElem_cons_succ, List.setIfInBounds_toArray, List.set_cons_zero, List.set_cons_succ]
    refine wpAnyH_take (i := 7) (v := ?_) rfl (by kernel_rfl) (by kernel_rfl) (by kernel_rfl) (fun _ _ _ h => h) (Or.inl ⟨by rfl, ?_⟩) (by assumption) ?_
    rotate_left
    · (intro V hV; go_simp; try with_reducible rfl)
    try simp only [Act.put, List.getElem_toArray, List.getElem_cons_zero, List.getElem_cons_succ, List.setIfInBounds_toArray, List.set_cons_zero, List.set_cons_succ]
    refine wpAnyH_take (i := 8) (v := ?_) rfl (by kernel_rfl) (by kernel_rfl) (by kernel_rfl) (fun _ _ _ h => h) (Or.inl ⟨by rfl, ?_⟩) (by assumption) ?_
    rotate_left
    · (intro V hV; go_simp; try with_reducible rfl)
    try simp only [Act.put, List.getElem_toArray, List.getElem_cons_zero, List.getElem_cons_succ, List.setIfInBounds_toArray, List.set_cons_zero, List.set_cons_succ]
    refine wpAnyH_take (i := 9) (v := ?_) rfl (by kernel_rfl) (by kernel_rfl) (by kernel_rfl) (fun _ _ _ h => h) (Or.inl ⟨by rfl, ?_⟩) (by assumption) ?_
    rotate_left
    · (intro V hV; go_simp; try with_reducible rfl)
    try simp only [Act.put, List.getElem_toArray, List.getElem_cons_zero, List.getElem_cons_succ, List.setIfInBounds_toArray, List.set_cons_zero, List.set_cons_succ]
    refine wpAnyH_take (i := 10) (v := ?_) rfl (by kernel_rfl) (by kernel_rfl) (by kernel_rfl) (fun _ _ _ h => h) (Or.inl ⟨by rfl, ?_⟩) (by assumption) ?_
    rotate_left
    · (intro V hV; go_simp; try with_reducible rfl)
    try simp only [Act.put, List.getElem_toArray, List.getElem_cons_zero, List.getElem_cons_succ, List.setIfInBounds_toArray, List.set_cons_zero, List.set_cons_succ]
    refine wpAnyH_done (by kernel_rfl) ?_ _
    clear hS
    go_wp2_with (refine storeOp flatDc 4 28 (b := w.heap.size + 1) (o := 0) (us := [.int .i64 0, .string ⟨#[]⟩, .slice none 0 0, .slice none 0 0, .slice none 0 0, .string ⟨#[]⟩, .slice none 0 0, .string ⟨#[]⟩, .slice none 0 0, .slice none 0 0, .string ⟨#[]⟩, .slice none 0 0, .int .i64 0, .int .i64 0, .int .i64 0, .string ⟨#[]⟩, .string ⟨#[]⟩, .slice none 0 0, .int .i64 0, .slice none 0 0, .slice none 0 0, .int .i64 0, .int .i64 0]) rfl rfl HTD.out z23_all rfl ?_)
    exact bodyPost_ret (results_find _ rfl (set_there (us := [.int .i64 0, .string ⟨#[]⟩, .slice none 0 0, .slice none 0 0, .slice none 0 0, .string ⟨#[]⟩, .slice none 0 0, .string ⟨#[]⟩, .slice none 0 0, .slice none 0 0, .string ⟨#[]⟩, .slice none 0 0, .int .i64 0, .int .i64 0, .int .i64 0, .string ⟨#[]⟩, .string ⟨#[]⟩, .slice none 0 0, .int .i64 0, .slice none 0 0, .slice none 0 0, .int .i64 0, .int .i64 0]) HTD.out) rfl) rfl ⟨_, rfl, by rw [HAT.out]; exact dcNone_in _ _ _, HBL.out.trans (below_cells (Nat.le_succ _) _ _ _)⟩
  | some i =>
    have hil := idx_lt hi
    have HLK := Lib.hid (fun (V : World) (hV : FirstAt V g1 nn (idxK p.ds)) => (by have hl := hV.look b hs hm; rw [hi] at hl; exact hl : (Instr.lookup 74 (.map (some g1)) (kyV b s m) true).run Tryd.prog V = .ok (.tuple #[.int .i64 (i : Int), .bool true]) V))
    obtain ⟨d, hd, _⟩ := idx_some hi
    have HAT := Lib.hid (atK_some hi hd)
    have HD := Lib.hid hd
    have y0 : (0 : Int) ≤ i := by omega
    have y1 : (i : Int) < nd := by omega
    have HLT := Lib.hid (show i < nd by omega)
    clear hW0 hb hbx hth h h1 h2 h3 hr hbv hc9 hi hln hil hd
    go_enter Tryd.func39, Tryd.ntmps39
    go_upto_region 1 with fail
    rw [HW0.out]
    clear HW0
    go_wp2_with fail
    refine wp_region_held_drew (S := fun V => V.cell? ⟨tb, 9, none⟩ = some (.map (some g1)) ∧ CellsAt V ⟨w.heap.size, 0, none⟩ [.bool b, .string s, .string m] ∧ FirstAt V g1 nn (idxK p.ds)) (by kernel_rfl) ⟨(HBD.out.later (Below.refl _ _).drew) 9 _ HC9.out, (HBX.out.later (Below.refl _ _).drew).at0, HFA.out.later (Below.refl _ _).drew⟩ (fun hS => ?_)
    have HBL := Lib.hid (HB.out.trans ((Below.refl W0.heap.size W0).drew.mono HB.out.size))
    have HDD := Lib.hid (HBD.out.later (Below.refl W0.heap.size W0).drew)
    have HPD := Lib.hid (show p.dat.In W0.drew False (· < lo) _ from Dat.In.later HPG.out (Below.refl W0.heap.size W0).drew fun k hk => Nat.lt_of_lt_of_le hk (Nat.le_trans HLO.out HB.out.size))
    have HTD := Lib.hid (there_later HT.out (Below.refl W0.heap.size W0).drew)
    generalize W0.drew = Wd at *
    refine wpAnyH_take (i := 0) (v := ?_) rfl (by kernel_rfl) (by kernel_rfl) (by kernel_rfl) (fun _ _ _ h => h) (Or.inl ⟨by rfl, ?_⟩) (by assumption) ?_
    rotate_left
    · (intro V hV; go_simp; try with_reducible rfl)
    try simp only [Act.put, List.getElem_toArray, List.getElem_cons_zero, List.setIfInBounds_toArray, List.set_cons_zero, List.set_cons_succ]
    refine wpAnyH_take (i := 1) (v := ?_) rfl (by kernel_rfl) (by kernel_rfl) (by kernel_rfl) (fun _ _ _ h => h) (Or.inl ⟨by rfl, ?_⟩) (by assumption) ?_
    rotate_left
    · (intro V hV; go_simp; try with_reducible rfl)
    try simp only [Act.put, List.getElem_toArray, List.getElem_cons_zero, List.getElem_cons_succ, List.setIfInBounds_toArray, List.set_cons_zero, List.set_cons_succ]
    refine wpAnyH_take (i := 2) (v := ?_) rfl (by kernel_rfl) (by kernel_rfl) (by kernel_rfl) (fun _ _ _ h => h) (Or.inl ⟨by rfl, ?_⟩) (by assumption) ?_
    rotate_left
    · (intro V hV; go_simp; try with_reducible rfl)
    try simp only [Act.put, List.getElem_toArray, List.getElem_cons_zero, List.getElem_cons_succ, List.setIfInBounds_toArray, List.set_cons_zero, List.set_cons_succ]
    refine wpAnyH_take (i := 3) (v := ?_) rfl (by kernel_rfl) (by kernel_rfl) (by kernel_rfl) (fun _ _ _ h => h) (Or.inl ⟨by rfl, ?_⟩) (by assumption) ?_
    rotate_left
    · (intro V hV; obtain ⟨k1, k2, k3⟩ := hV; go_simp; try with_reducible rfl)
    try simp only [Act.put, List.getElem_toArray, List.getElem_cons_zero, List.getElem_cons_succ, List.setIfInBounds_toArray, List.set_cons_zero, List.set_cons_succ]
    refine wpAnyH_take (i := 4) (v := .agg ([.bool b, .string s, .string m] : List Value).toArray) rfl (by kernel_rfl) (by kernel_rfl) (by kernel_rfl) (fun _ _ _ h => h) (Or.inl ⟨by rfl, fun V hV => loadYieldB flatKy rfl hV.2.1 rfl⟩) (by assumption) ?_
    try simp only [Act.put, List.getElem_toArray, List.getElem_cons_zero, List.getElem_cons_succ, List.setIfInBounds_toArray, List.set_cons_zero, List.set_cons_succ]
    refine wpAnyH_take (i := 5) (v := ?_) rfl (by kernel_rfl) (by kernel_rfl) (by kernel_rfl) (fun _ _ _ h => h) (Or.inl ⟨by rfl, ?_⟩) (by assumption) ?_
    rotate_left
    · (intro V hV; have hl := HLK.out V hV.2.2; go_simp; try with_reducible rfl)
    try simp only [Act.put, List.getElem_toArray, List.getElem_cons_zero, List.getElem_cons_succ, List.setIfInBounds_toArray, List.set_cons_zero, List.set_cons_succ]
    refine wpAnyH_take (i := 6) (v := ?_) rfl (by kernel_rfl) (by kernel_rfl) (by kernel_rfl) (fun _ _ _ h => h) (Or.inl ⟨by rfl, ?_⟩) (by assumption) ?_
    rotate_left
    · (intro V hV; go_simp; try with_reducible rfl)
    try simp only [Act.put, List.getElem_toArray, List.getElem_cons_zero, List.getElem_cons_succ, List.setIfInBounds_toArray, List.set_cons_zero, List.set_cons_succ]
    refine wpAnyH_take (i := 7) (v := ?_) rfl (by kernel_rfl) (by kernel_rfl) (by kernel_rfl) (fun _ _ _ h => h) (Or.inl ⟨by rfl, ?_⟩) (by assumption) ?_
    rotate_left
    · (intro V hV; go_simp; try with_reducible rfl)
    try simp only [Act.put, List.getElem_toArray, List.getElem_cons_zero, List.getElem_cons_succ, List.setIfInBounds_toArray, List.set_cons_zero, List.set_cons_succ]
    refine wpAnyH_take (i := 8) (v := ?_) rfl (by kernel_rfl) (by kernel_rfl) (by kernel_rfl) (fun _ _ _ h => h) (Or.inl ⟨by rfl, ?_⟩) (by assumption) ?_
    rotate_left
    · (intro V hV; go_simp; try with_reducible rfl)
    try simp only [Act.put, List.getElem_toArray, List.getElem_cons_zero, List.getElem_cons_succ, List.setIfInBounds_toArray, List.set_cons_zero, List.set_cons_succ]
    refine wpAnyH_take (i := 9) (v := ?_) rfl (by kernel_rfl) (by kernel_rfl) (by kernel_rfl) (fun _ _ _ h => h) (Or.inl ⟨by rfl, ?_⟩) (by assumption) ?_
    rotate_left
    · (intro V hV; go_simp; try with_reducible rfl)
    try simp only [Act.put, List.getElem_toArray, List.getElem_cons_zero, List.getElem_cons_succ, List.setIfInBounds_toArray, List.set_cons_zero, List.set_cons_succ]
    refine wpAnyH_take (i := 10) (v := ?_) rfl (by kernel_rfl) (by kernel_rfl) (by kernel_rfl) (fun _ _ _ h => h) (Or.inl ⟨by rfl, ?_⟩) (by assumption) ?_
    rotate_left
    · (intro V hV; go_simp; try with_reducible rfl)
    try simp only [Act.put, List.getElem_toArray, List.getElem_cons_zero, List.getElem_cons_succ, List.setIfInBounds_toArray, List.set_cons_zero, List.set_cons_succ]
    refine wpAnyH_done (by kernel_rfl) ?_ _
    clear hS
    obtain ⟨D8, n8, c8, b8, hq1, hrd, _⟩ := pg_open HPD.out
    obtain ⟨hq2, _⟩ := List.cons.inj hq1
    injection hq2 with q1 q2 q3
    subst q1 q2 q3
    obtain ⟨pu, d9, us9, rfl, hd9, _, _, hu, hcs⟩ := dat_at hrd HLT.out
    obtain rfl : d = d9 := Option.some.inj (HD.out.symm.trans hd9)
    have HLU := Lib.hid (dc_len hu)
    have HOU := Lib.hid (dc_cells hu)
    have HU := Lib.hid hu
    have HF := Lib.hid hcs
    have x0 := HDD.out 0 _ rfl
    clear hrd hd9 hu hcs hq1
    go_wp2_with (first
      | (refine loadOp flatDc 26 27 rfl HF.out HLU.out ?_)
      | (refine storeOp flatDc 4 27 (b := w.heap.size + 1) (o := 0) (us := us9) rfl rfl (by rw [HLU.out]; exact HTD.out) HOU.out HLU.out ?_))
    exact bodyPost_ret (results_find _ rfl (set_there (us := us9) (by rw [HLU.out]; exact HTD.out)) HLU.out) rfl ⟨us9, rfl, by rw [HAT.out]; exact Dat.In.later HU.out (below_cells (Nat.le_refl (w.heap.size + 1)) us9 0 Wd) (fun k hk => Nat.lt_succ_of_lt (Nat.lt_of_lt_of_le hk HLO.out)), HBL.out.trans (below_cells (Nat.le_succ _) _ _ _)⟩
end Go.Proofs.YtjhlehdjdaphcaaDoor
