/- The walks of bind's two closures: one gathers a type, one hands a type out. The conditions: their states. -/
import Derived.Test.YtjhlehdjdaphcaaDoorQMBdA
import Derived.Test.YtjhlehdjdaphcaaDoorQMDcG
import Derived.Deep.RegionHeld
namespace Go.Proofs.YtjhlehdjdaphcaaDoor
open Go.RowKit

theorem boxd_box {w : World} {b : Nat} {s : ByteArray} {A : Option Addr} {n c : Nat} {o : Int} (h : Box w b s A n c o) : Boxd w b [.string s, .slice A n c, .int .i64 o] := fun j u hu => by
  obtain ⟨h0, h1, h2⟩ := h
  match j, hu with
  | 0, hu => obtain rfl := Option.some.inj hu; exact h0
  | 1, hu => obtain rfl := Option.some.inj hu; exact h1
  | 2, hu => obtain rfl := Option.some.inj hu; exact h2
  | j + 3, hu => simp at hu
theorem boxd_at0B {w : World} {b : Nat} {us : List Value} (h : Boxd w b us) : CellsAt w ⟨b, 0, none⟩ us := h.at0
theorem res_there {w : World} {k : Nat} (h : ResAt w k) : w.there k 0 3 := fun j hj => by
  obtain ⟨c0, c1, c2, f0, f1, f2⟩ := h
  match j, hj with
  | 0, _ => exact ⟨by rw [Nat.add_zero, c0]; rfl, f0⟩
  | 1, _ => exact ⟨by rw [Nat.zero_add, c1]; rfl, f1⟩
  | 2, _ => exact ⟨by rw [Nat.zero_add, c2]; rfl, f2⟩
  | j + 3, hj => omega
theorem three_one {s : ByteArray} {A : Option Addr} {m c : Nat} {o : Int} : ∀ u ∈ ([.string s, .slice A m c, .int .i64 o] : List Value), u.oneCell' = true := by
  intro u hu
  simp only [List.mem_cons, List.not_mem_nil, or_false] at hu
  rcases hu with rfl | rfl | rfl <;> rfl
theorem results_collect {w : World} {b : Nat} {us : List Value} (tmps : Array Value) (ht : tmps[3]?.getD undef = .pointer (some ⟨b, 0, none⟩)) (hc : Boxd w b us) (hl : us.length = 3) : (results Tryd.f60 tmps).run Tryd.prog w = .ok (.agg us.toArray) w := by
  have h := run_loadVar_at w ⟨b, 0, none⟩ 25 us _ hc.at0 Tryd.underlying25 rfl (by rw [hl]; exact flatTy3.size)
  have h2 : (asAddr (.pointer (some ⟨b, 0, none⟩))).run Tryd.prog w = .ok ⟨b, 0, none⟩ w := rfl
  simp [results, Tryd.results60, ht, h, h2, Sem.run_bind, Result.andThen]
set_option maxRecDepth 100000 in
set_option maxHeartbeats 16000000 in
theorem collect_any (bx n lo : Nat) (ts : List Ty) (hlen : ts.length ≤ 100000) (i : Nat) (t : Ty) (ht : ts[i]? = some t) : DoCall 60 #[.pointer (some ⟨bx, 0, none⟩)] (K1 bx n lo ts) t t i := by
  intro us w hst hin
  show Calls Tryd.prog 60 #[.agg us.toArray, .pointer (some ⟨bx, 0, none⟩)] w _
  obtain ⟨A, m, c, rfl, _, _⟩ := ty_open hin
  obtain ⟨hb, hbx, hR, hz⟩ := twoW w t.name A m c t.off
  have HST := Lib.hid hst
  obtain ⟨q1, q2, q3, v, cs, d0, d1, d2, _⟩ := hst
  obtain ⟨A1, cv, rfl⟩ := own_sl d2
  have HOB := Lib.hid (show ∀ b, (Value.slice A1 i cv).ownBlock = some b → bx + 1 ≤ b ∧ b < w.heap.size from fun b hv => ⟨own_base d2 b hv, (d2.lt b hv).2⟩)
  obtain ⟨W0, hW0⟩ : ∃ W0, TwoW w t.name A m c t.off = W0 := ⟨_, rfl⟩
  rw [hW0] at hb hbx hR hz
  unfold TwoW at hW0
  have HW0 := Lib.hid hW0
  have G1 := Lib.hid (show W0.drew.cell? ⟨bx, 0, none⟩ = _ from (hb.cell (cell_lt d0)).trans d0)
  have G2 := Lib.hid (show W0.drew.frozen? ⟨bx, 0, none⟩ = false from (hb.frozen (p := ⟨bx, 0, none⟩) (cell_lt d0)).trans d1)
  have G3 := Lib.hid (show W0.drew.ownsRow (bx + 1) 25 3 (.slice A1 i cv) i cs from own_below d2 hb.drew)
  have HBD := Lib.hid (show Below w.heap.size w W0.drew from hb.drew)
  have HRD := Lib.hid (show ResAt W0.drew (w.heap.size + 1) from hR.later (Below.refl _ _).drew)
  have HXD := Lib.hid (show Box W0.drew w.heap.size t.name A m c t.off from hbx)
  have HSD := Lib.hid (show w.heap.size + 2 ≤ W0.drew.heap.size by show w.heap.size + 2 ≤ W0.heap.size; omega)
  have HBXL := Lib.hid (show bx < w.heap.size from q3)
  have HT := Lib.hid ht
  have HIN := Lib.hid hin
  have HNX := Lib.hid (show i + 1 ≤ 100000 by have := (List.getElem?_eq_some_iff.1 ht).1; omega)
  have zz0 : (0 : Int) ≤ i := by omega
  have zz1 : (i : Int) < (i : Int) + 1 := by omega
  have zz2 : (i : Int) ≤ 100000 := by have := HNX.out; omega
  have SS : W0.cell? ⟨w.heap.size, 0, none⟩ = some (.string t.name) ∧ W0.cell? ⟨w.heap.size, 1, none⟩ = some (.slice A m c) ∧ W0.cell? ⟨w.heap.size, 2, none⟩ = some (.int .i64 t.off) := hbx
  clear hb hR hz hW0 d0 d1 d2 q1 q2 q3 ht hin hbx hlen
  go_enter Tryd.func60, Tryd.ntmps60
  go_upto_region 1 with fail
  rw [HW0.out]
  clear HW0
  go_wp2_with fail
  refine wp_region_held_drew (S := fun V => V.cell? ⟨w.heap.size, 0, none⟩ = some (.string t.name) ∧ V.cell? ⟨w.heap.size, 1, none⟩ = some (.slice A m c) ∧ V.cell? ⟨w.heap.size, 2, none⟩ = some (.int .i64 t.off)) (by kernel_rfl) SS (fun hS => ?_)
  clear SS
  generalize W0.drew = Wd at *
  refine wpAnyH_take (i := 1) (v := ?_) rfl (by kernel_rfl) (by kernel_rfl) (by kernel_rfl) (fun _ _ _ h => h) (Or.inl ⟨by rfl, ?_⟩) (by assumption) ?_
  rotate_left
  · (intro V hV; obtain ⟨k0, k1, k2⟩ := hV; go_simp; try with_reducible rfl)
  try simp only [Act.put, List.getElem_toArray, List.getElem_cons_zero, List.getElem_cons_succ, List.setIfInBounds_toArray, List.set_cons_zero, List.set_cons_succ]
  have g1d := G1.out
  refine wpAnyH_ready (rs := [0, 3]) (by kernel_rfl) (by simp) ?_
  refine AllReadyH.cons rfl (fun K hK => ?_) (AllReadyH.cons rfl (fun K hK => ?_) (AllReadyH.nil))
  · skip
    go_simp
    have SS := hS
    refine hK.out _ _ SS (fun hS => ?_)
    clear hK K
    try simp only [Act.put, List.getElem_toArray, List.getElem_cons_zero, List.getElem_cons_succ, List.setIfInBounds_toArray, List.set_cons_zero, List.set_cons_succ]
    clear g1d
    refine wpAnyH_take (i := 2) (v := ?_) rfl (by kernel_rfl) (by kernel_rfl) (by kernel_rfl) (fun _ _ _ h => h) (Or.inl ⟨by rfl, ?_⟩) (by assumption) ?_
    rotate_left
    · (intro V hV; obtain ⟨k0, k1, k2⟩ := hV; go_simp; try with_reducible rfl)
    try simp only [Act.put, List.getElem_toArray, List.getElem_cons_zero, List.getElem_cons_succ, List.setIfInBounds_toArray, List.set_cons_zero, List.set_cons_succ]
    refine wpAnyH_ready (rs := [3]) (by kernel_rfl) (by simp) ?_
    refine AllReadyH.cons rfl (fun K hK => ?_) (AllReadyH.nil)
    go_simp
    have hba : Below Wd.heap.size Wd (World.alloc Wd (.cells #[.string ⟨#[]⟩, .slice none 0 0, .int .i64 0] 25)) := (Below.refl _ _).alloc (Nat.le_refl _) _
    have SS : (World.alloc Wd (.cells #[.string ⟨#[]⟩, .slice none 0 0, .int .i64 0] 25)).cell? ⟨w.heap.size, 0, none⟩ = some (.string t.name) ∧ (World.alloc Wd (.cells #[.string ⟨#[]⟩, .slice none 0 0, .int .i64 0] 25)).cell? ⟨w.heap.size, 1, none⟩ = some (.slice A m c) ∧ (World.alloc Wd (.cells #[.string ⟨#[]⟩, .slice none 0 0, .int .i64 0] 25)).cell? ⟨w.heap.size, 2, none⟩ = some (.int .i64 t.off) := ⟨(hba.cell (cell_lt hS.1)).trans hS.1, (hba.cell (cell_lt hS.2.1)).trans hS.2.1, (hba.cell (cell_lt hS.2.2)).trans hS.2.2⟩
    have HFZ := Lib.hid (flat_new (V := Wd) (lo := 0) (t := .mk ⟨#[]⟩ [] 0) 25 zero_tyB (Nat.zero_le _))
    have HBA := Lib.hid (HBD.out.trans (hba.mono HBD.out.size))
    have HRA := Lib.hid (HRD.out.later hba)
    have HXA := Lib.hid (HXD.out.later hba)
    have HSA := Lib.hid (show w.heap.size + 2 ≤ (World.alloc Wd (.cells #[.string ⟨#[]⟩, .slice none 0 0, .int .i64 0] 25)).heap.size by have := hba.size; have := HSD.out; omega)
    have g1a : (World.alloc Wd (.cells #[.string ⟨#[]⟩, .slice none 0 0, .int .i64 0] 25)).cell? ⟨bx, 0, none⟩ = some (.slice A1 i cv) := (hba.cell (cell_lt G1.out)).trans G1.out
    have g2a : (World.alloc Wd (.cells #[.string ⟨#[]⟩, .slice none 0 0, .int .i64 0] 25)).frozen? ⟨bx, 0, none⟩ = false := (hba.frozen (p := ⟨bx, 0, none⟩) (cell_lt G1.out)).trans G2.out
    have G3a := Lib.hid (own_below G3.out hba)
    generalize World.alloc Wd (.cells #[.string ⟨#[]⟩, .slice none 0 0, .int .i64 0] 25) = WA at *
    refine hK.out _ _ SS (fun hS => ?_)
    clear hK K
    try simp only [Act.put, List.getElem_toArray, List.getElem_cons_zero, List.getElem_cons_succ, List.setIfInBounds_toArray, List.set_cons_zero, List.set_cons_succ]
    clear hba
    refine wpAnyH_ready (rs := [4]) (by kernel_rfl) (by simp) ?_
    refine AllReadyH.cons rfl (fun K hK => ?_) (AllReadyH.nil)
    refine ready_append_row slTy rfl _ _ rfl rfl rfl G3a.out (by have := HBXL.out; have := HSA.out; omega) HFZ.out.len HFZ.out.cells HFZ.out.ones HFZ.out.some_ (by have := HNX.out; omega) (by omega) ?_
    intro v6 w6 hA6
    have hA6 : Appd WA w6 (bx + 1) 25 3 i 1 (.slice A1 i cv) v6 cs [.string ⟨#[]⟩, .slice none 0 0, .int .i64 0] := hA6
    obtain ⟨g6, c6, rfl⟩ : ∃ g6 c6, v6 = .slice (some ⟨g6, 0, none⟩) (i + 1) c6 := own_someB hA6.own (by omega)
    have hfa : ∀ k, some w.heap.size ≠ (Value.slice A1 i cv).ownBlock ∧ some (w.heap.size + k) ≠ (Value.slice A1 i cv).ownBlock := fun k => ⟨fun e => by have := (HOB.out _ e.symm).2; omega, fun e => by have := (HOB.out _ e.symm).2; omega⟩
    have SS : w6.cell? ⟨w.heap.size, 0, none⟩ = some (.string t.name) ∧ w6.cell? ⟨w.heap.size, 1, none⟩ = some (.slice A m c) ∧ w6.cell? ⟨w.heap.size, 2, none⟩ = some (.int .i64 t.off) := ⟨(hA6.grow.cell_far ⟨w.heap.size, 0, none⟩ (cell_lt hS.1) (hfa 0).1).trans hS.1, (hA6.grow.cell_far ⟨w.heap.size, 1, none⟩ (cell_lt hS.2.1) (hfa 0).1).trans hS.2.1, (hA6.grow.cell_far ⟨w.heap.size, 2, none⟩ (cell_lt hS.2.2) (hfa 0).1).trans hS.2.2⟩
    have hob2 : some bx ≠ (Value.slice A1 i cv).ownBlock := fun e => by have := (HOB.out _ e.symm).1; omega
    have z2 : w6.cell? ⟨bx, 0, none⟩ = some (.slice A1 i cv) := (hA6.grow.cell_far ⟨bx, 0, none⟩ (cell_lt g1a) hob2).trans g1a
    have z3 : w6.frozen? ⟨bx, 0, none⟩ = false := (hA6.grow.frozen_far ⟨bx, 0, none⟩ (cell_lt g1a) hob2).trans g2a
    have HTH := Lib.hid (own_thereB hA6.own)
    have hgk : bx ≠ g6 := by have := own_base hA6.own g6 rfl; omega
    have hbg : w.heap.size ≠ g6 := fun e => by
      rcases hA6.at_ with h3 | h3
      · exact (hfa 0).1 (by rw [e]; exact h3)
      · have h4 : g6 = WA.heap.size := Option.some.inj h3
        have := HSA.out
        omega
    have HFIN := Lib.hid (k1_step HST.out HBA.out HT.out rfl HIN.out g1a G3a.out hA6)
    refine hK.out _ _ SS (fun hS => ?_)
    clear hK K hA6 SS hfa hob2
    try simp only [Act.put, List.getElem_toArray, List.getElem_cons_zero, List.getElem_cons_succ, List.setIfInBounds_toArray, List.set_cons_zero, List.set_cons_succ]
    refine wpAnyH_take (i := 5) (v := ?_) rfl (by kernel_rfl) (by kernel_rfl) (by kernel_rfl) (fun _ _ _ h => h) (Or.inl ⟨by rfl, ?_⟩) (by assumption) ?_
    rotate_left
    · (intro V hV; obtain ⟨k0, k1, k2⟩ := hV; go_simp; try with_reducible rfl)
    try simp only [Act.put, List.getElem_toArray, List.getElem_cons_zero, List.getElem_cons_succ, List.setIfInBounds_toArray, List.set_cons_zero, List.set_cons_succ]
    have SS7 : (w6.setCells g6 (i * 3) [.string t.name, .slice A m c, .int .i64 t.off]).cell? ⟨w.heap.size, 0, none⟩ = some (.string t.name) ∧ (w6.setCells g6 (i * 3) [.string t.name, .slice A m c, .int .i64 t.off]).cell? ⟨w.heap.size, 1, none⟩ = some (.slice A m c) ∧ (w6.setCells g6 (i * 3) [.string t.name, .slice A m c, .int .i64 t.off]).cell? ⟨w.heap.size, 2, none⟩ = some (.int .i64 t.off) := ⟨(World.cell?_setCells_out _ _ _ _ _ (fun e => absurd e hbg)).trans hS.1, (World.cell?_setCells_out _ _ _ _ _ (fun e => absurd e hbg)).trans hS.2.1, (World.cell?_setCells_out _ _ _ _ _ (fun e => absurd e hbg)).trans hS.2.2⟩
    have hbk := HBXL.out
    have SS8 : (w6.setCell ⟨bx, 0, none⟩ (.slice (some ⟨g6, 0, none⟩) (i + 1) c6)).cell? ⟨w.heap.size, 0, none⟩ = some (.string t.name) ∧ (w6.setCell ⟨bx, 0, none⟩ (.slice (some ⟨g6, 0, none⟩) (i + 1) c6)).cell? ⟨w.heap.size, 1, none⟩ = some (.slice A m c) ∧ (w6.setCell ⟨bx, 0, none⟩ (.slice (some ⟨g6, 0, none⟩) (i + 1) c6)).cell? ⟨w.heap.size, 2, none⟩ = some (.int .i64 t.off) := ⟨(World.cell?_setCell_other _ _ _ _ (fun e => by injection e with e1; omega)).trans hS.1, (World.cell?_setCell_other _ _ _ _ (fun e => by injection e with e1; omega)).trans hS.2.1, (World.cell?_setCell_other _ _ _ _ (fun e => by injection e with e1; omega)).trans hS.2.2⟩
    have SS9 : (World.setCell (w6.setCells g6 (i * 3) [.string t.name, .slice A m c, .int .i64 t.off]) ⟨bx, 0, none⟩ (.slice (some ⟨g6, 0, none⟩) (i + 1) c6)).cell? ⟨w.heap.size, 0, none⟩ = some (.string t.name) ∧ (World.setCell (w6.setCells g6 (i * 3) [.string t.name, .slice A m c, .int .i64 t.off]) ⟨bx, 0, none⟩ (.slice (some ⟨g6, 0, none⟩) (i + 1) c6)).cell? ⟨w.heap.size, 1, none⟩ = some (.slice A m c) ∧ (World.setCell (w6.setCells g6 (i * 3) [.string t.name, .slice A m c, .int .i64 t.off]) ⟨bx, 0, none⟩ (.slice (some ⟨g6, 0, none⟩) (i + 1) c6)).cell? ⟨w.heap.size, 2, none⟩ = some (.int .i64 t.off) := ⟨(World.cell?_setCell_other _ _ _ _ (fun e => by injection e with e1; omega)).trans SS7.1, (World.cell?_setCell_other _ _ _ _ (fun e => by injection e with e1; omega)).trans SS7.2.1, (World.cell?_setCell_other _ _ _ _ (fun e => by injection e with e1; omega)).trans SS7.2.2⟩
    have hcm := setCells_commB ⟨bx, 0, none⟩ (.slice (some ⟨g6, 0, none⟩) (i + 1) c6) g6 hgk [.string t.name, .slice A m c, .int .i64 t.off] (i * 3) w6
    have HCM := Lib.hid hcm
    have z4 : (w6.setCells g6 (i * 3) [.string t.name, .slice A m c, .int .i64 t.off]).cell? ⟨bx, 0, none⟩ = some (.slice A1 i cv) := (World.cell?_setCells_out _ _ _ _ _ (fun e => absurd e hgk)).trans z2
    have z5 : (w6.setCells g6 (i * 3) [.string t.name, .slice A m c, .int .i64 t.off]).frozen? ⟨bx, 0, none⟩ = false := (World.frozen?_setCells _ _ _ _ _).trans z3
    have HT8 := Lib.hid (there_setCellB HTH.out ⟨bx, 0, none⟩ (.slice (some ⟨g6, 0, none⟩) (i + 1) c6))
    clear hcm hbk
    refine wpAnyH_ready (rs := [6, 7]) (by kernel_rfl) (by simp) ?_
    refine AllReadyH.cons rfl (fun K hK => ?_) (AllReadyH.cons rfl (fun K hK => ?_) (AllReadyH.nil))
    · skip
      refine ready_storeB flatTy3 rfl (.tmp 9) (.tmp 5) rfl (b := g6) (off := i * 3) (us := [.string t.name, .slice A m c, .int .i64 t.off]) rfl rfl HTH.out three_one rfl ?_
      refine hK.out _ _ SS7 (fun hS => ?_)
      clear hK K z2 z3
      try simp only [Act.put]
      refine wpAnyH_ready (rs := [7]) (by kernel_rfl) (by simp) ?_
      refine AllReadyH.cons rfl (fun K hK => ?_) (AllReadyH.nil)
      go_simp
      refine hK.out _ _ SS9 (fun hS => ?_)
      clear hK K z4 z5
      try simp only [Act.put]
      refine wpAnyH_done (by kernel_rfl) ?_ _
      obtain ⟨hm, hs2, hfr⟩ := HFIN.out
      have k9 := kept_of (V := WA) (S := fun b => w.heap.size ≤ b ∧ b < WA.heap.size) (fun b hb => (hfr b hb.1 hb.2).2)
      have HX9 := Lib.hid (show Boxd _ w.heap.size [.string t.name, .slice A m c, .int .i64 t.off] from fun j u hu => (k9 ⟨w.heap.size, j, none⟩ ⟨Nat.le_refl _, by have := HSA.out; show w.heap.size < _; omega⟩).1.trans (boxd_box HXA.out j u hu))
      have HT9 := Lib.hid (show World.there _ (w.heap.size + 1) 0 3 from fun j hj => by
        obtain ⟨e1, e2⟩ := k9 ⟨w.heap.size + 1, 0 + j, none⟩ ⟨Nat.le_succ _, by have := HSA.out; show w.heap.size + 1 < _; omega⟩
        obtain ⟨e3, e4⟩ := res_there HRA.out j hj
        exact ⟨by rw [e1]; exact e3, e2.trans e4⟩)
      have HF9 := Lib.hid (hfr (w.heap.size + 1) (Nat.le_succ _) (by have := HSA.out; omega)).1
      have HM9 := Lib.hid hm
      have HS9 := Lib.hid hs2
      clear hm hs2 hfr k9 hS HFIN
      generalize (World.setCell (w6.setCells g6 (i * 3) [.string t.name, .slice A m c, .int .i64 t.off]) ⟨bx, 0, none⟩ (.slice (some ⟨g6, 0, none⟩) (i + 1) c6)) = W9 at *
      have HB9 := Lib.hid (boxd_at0B HX9.out)
      go_wp2_with (first
        | (refine loadOp flatTy3 2 10 rfl HB9.out rfl ?_)
        | (refine storeOp flatTy3 3 10 (b := w.heap.size + 1) (o := 0) (us := [.string t.name, .slice A m c, .int .i64 t.off]) rfl rfl HT9.out three_one rfl ?_))
      refine bodyPost_ret (results_collect _ rfl (show Boxd _ _ [.string t.name, .slice A m c, .int .i64 t.off] from set_there (us := [.string t.name, .slice A m c, .int .i64 t.off]) HT9.out) rfl) rfl ?_
      obtain ⟨e1, e2, _⟩ := Bd.cells (k1_ok bx n lo ts) (g := w.heap.size + 1) HS9.out HM9.out (Nat.le_succ _) ((k1_ok bx n lo ts).lo _ _ HST.out).1 ((k1_ok bx n lo ts).lo _ _ HST.out).2 HF9.out 0 [.string t.name, .slice A m c, .int .i64 t.off]
      exact ⟨_, rfl, (Bd.given_in (k1_ok bx n lo ts) HST.out e1 HIN.out).wide fun b hb => .inl hb, e1, e2⟩
    · skip
      go_simp
      refine hK.out _ _ SS8 (fun hS => ?_)
      clear hK K z2 z3 z4 z5
      try simp only [Act.put]
      refine wpAnyH_ready (rs := [6]) (by kernel_rfl) (by simp) ?_
      refine AllReadyH.cons rfl (fun K hK => ?_) (AllReadyH.nil)
      refine ready_storeB flatTy3 rfl (.tmp 9) (.tmp 5) rfl (b := g6) (off := i * 3) (us := [.string t.name, .slice A m c, .int .i64 t.off]) rfl rfl HT8.out three_one rfl ?_
      rw [HCM.out]
      refine hK.out _ _ SS9 (fun hS => ?_)
      clear hK K
      try simp only [Act.put]
      refine wpAnyH_done (by kernel_rfl) ?_ _
      obtain ⟨hm, hs2, hfr⟩ := HFIN.out
      have k9 := kept_of (V := WA) (S := fun b => w.heap.size ≤ b ∧ b < WA.heap.size) (fun b hb => (hfr b hb.1 hb.2).2)
      have HX9 := Lib.hid (show Boxd _ w.heap.size [.string t.name, .slice A m c, .int .i64 t.off] from fun j u hu => (k9 ⟨w.heap.size, j, none⟩ ⟨Nat.le_refl _, by have := HSA.out; show w.heap.size < _; omega⟩).1.trans (boxd_box HXA.out j u hu))
      have HT9 := Lib.hid (show World.there _ (w.heap.size + 1) 0 3 from fun j hj => by
        obtain ⟨e1, e2⟩ := k9 ⟨w.heap.size + 1, 0 + j, none⟩ ⟨Nat.le_succ _, by have := HSA.out; show w.heap.size + 1 < _; omega⟩
        obtain ⟨e3, e4⟩ := res_there HRA.out j hj
        exact ⟨by rw [e1]; exact e3, e2.trans e4⟩)
      have HF9 := Lib.hid (hfr (w.heap.size + 1) (Nat.le_succ _) (by have := HSA.out; omega)).1
      have HM9 := Lib.hid hm
      have HS9 := Lib.hid hs2
      clear hm hs2 hfr k9 hS HFIN
      generalize (World.setCell (w6.setCells g6 (i * 3) [.string t.name, .slice A m c, .int .i64 t.off]) ⟨bx, 0, none⟩ (.slice (some ⟨g6, 0, none⟩) (i + 1) c6)) = W9 at *
      have HB9 := Lib.hid (boxd_at0B HX9.out)
      go_wp2_with (first
        | (refine loadOp flatTy3 2 10 rfl HB9.out rfl ?_)
        | (refine storeOp flatTy3 3 10 (b := w.heap.size + 1) (o := 0) (us := [.string t.name, .slice A m c, .int .i64 t.off]) rfl rfl HT9.out three_one rfl ?_))
      refine bodyPost_ret (results_collect _ rfl (show Boxd _ _ [.string t.name, .slice A m c, .int .i64 t.off] from set_there (us := [.string t.name, .slice A m c, .int .i64 t.off]) HT9.out) rfl) rfl ?_
      obtain ⟨e1, e2, _⟩ := Bd.cells (k1_ok bx n lo ts) (g := w.heap.size + 1) HS9.out HM9.out (Nat.le_succ _) ((k1_ok bx n lo ts).lo _ _ HST.out).1 ((k1_ok bx n lo ts).lo _ _ HST.out).2 HF9.out 0 [.string t.name, .slice A m c, .int .i64 t.off]
      exact ⟨_, rfl, (Bd.given_in (k1_ok bx n lo ts) HST.out e1 HIN.out).wide fun b hb => .inl hb, e1, e2⟩
  · skip
    go_simp
    have hba : Below Wd.heap.size Wd (World.alloc Wd (.cells #[.string ⟨#[]⟩, .slice none 0 0, .int .i64 0] 25)) := (Below.refl _ _).alloc (Nat.le_refl _) _
    have SS : (World.alloc Wd (.cells #[.string ⟨#[]⟩, .slice none 0 0, .int .i64 0] 25)).cell? ⟨w.heap.size, 0, none⟩ = some (.string t.name) ∧ (World.alloc Wd (.cells #[.string ⟨#[]⟩, .slice none 0 0, .int .i64 0] 25)).cell? ⟨w.heap.size, 1, none⟩ = some (.slice A m c) ∧ (World.alloc Wd (.cells #[.string ⟨#[]⟩, .slice none 0 0, .int .i64 0] 25)).cell? ⟨w.heap.size, 2, none⟩ = some (.int .i64 t.off) := ⟨(hba.cell (cell_lt hS.1)).trans hS.1, (hba.cell (cell_lt hS.2.1)).trans hS.2.1, (hba.cell (cell_lt hS.2.2)).trans hS.2.2⟩
    have HFZ := Lib.hid (flat_new (V := Wd) (lo := 0) (t := .mk ⟨#[]⟩ [] 0) 25 zero_tyB (Nat.zero_le _))
    have HBA := Lib.hid (HBD.out.trans (hba.mono HBD.out.size))
    have HRA := Lib.hid (HRD.out.later hba)
    have HXA := Lib.hid (HXD.out.later hba)
    have HSA := Lib.hid (show w.heap.size + 2 ≤ (World.alloc Wd (.cells #[.string ⟨#[]⟩, .slice none 0 0, .int .i64 0] 25)).heap.size by have := hba.size; have := HSD.out; omega)
    have g1a : (World.alloc Wd (.cells #[.string ⟨#[]⟩, .slice none 0 0, .int .i64 0] 25)).cell? ⟨bx, 0, none⟩ = some (.slice A1 i cv) := (hba.cell (cell_lt G1.out)).trans G1.out
    have g2a : (World.alloc Wd (.cells #[.string ⟨#[]⟩, .slice none 0 0, .int .i64 0] 25)).frozen? ⟨bx, 0, none⟩ = false := (hba.frozen (p := ⟨bx, 0, none⟩) (cell_lt G1.out)).trans G2.out
    have G3a := Lib.hid (own_below G3.out hba)
    generalize World.alloc Wd (.cells #[.string ⟨#[]⟩, .slice none 0 0, .int .i64 0] 25) = WA at *
    refine hK.out _ _ SS (fun hS => ?_)
    clear hK K
    try simp only [Act.put, List.getElem_toArray, List.getElem_cons_zero, List.getElem_cons_succ, List.setIfInBounds_toArray, List.set_cons_zero, List.set_cons_succ]
    clear hba
    clear g1d
    refine wpAnyH_ready (rs := [0]) (by kernel_rfl) (by simp) ?_
    refine AllReadyH.cons rfl (fun K hK => ?_) (AllReadyH.nil)
    go_simp
    have SS := hS
    refine hK.out _ _ SS (fun hS => ?_)
    clear hK K
    try simp only [Act.put, List.getElem_toArray, List.getElem_cons_zero, List.getElem_cons_succ, List.setIfInBounds_toArray, List.set_cons_zero, List.set_cons_succ]
    refine wpAnyH_take (i := 2) (v := ?_) rfl (by kernel_rfl) (by kernel_rfl) (by kernel_rfl) (fun _ _ _ h => h) (Or.inl ⟨by rfl, ?_⟩) (by assumption) ?_
    rotate_left
    · (intro V hV; obtain ⟨k0, k1, k2⟩ := hV; go_simp; try with_reducible rfl)
    try simp only [Act.put, List.getElem_toArray, List.getElem_cons_zero, List.getElem_cons_succ, List.setIfInBounds_toArray, List.set_cons_zero, List.set_cons_succ]
    refine wpAnyH_ready (rs := [4]) (by kernel_rfl) (by simp) ?_
    refine AllReadyH.cons rfl (fun K hK => ?_) (AllReadyH.nil)
    refine ready_append_row slTy rfl _ _ rfl rfl rfl G3a.out (by have := HBXL.out; have := HSA.out; omega) HFZ.out.len HFZ.out.cells HFZ.out.ones HFZ.out.some_ (by have := HNX.out; omega) (by omega) ?_
    intro v6 w6 hA6
    have hA6 : Appd WA w6 (bx + 1) 25 3 i 1 (.slice A1 i cv) v6 cs [.string ⟨#[]⟩, .slice none 0 0, .int .i64 0] := hA6
    obtain ⟨g6, c6, rfl⟩ : ∃ g6 c6, v6 = .slice (some ⟨g6, 0, none⟩) (i + 1) c6 := own_someB hA6.own (by omega)
    have hfa : ∀ k, some w.heap.size ≠ (Value.slice A1 i cv).ownBlock ∧ some (w.heap.size + k) ≠ (Value.slice A1 i cv).ownBlock := fun k => ⟨fun e => by have := (HOB.out _ e.symm).2; omega, fun e => by have := (HOB.out _ e.symm).2; omega⟩
    have SS : w6.cell? ⟨w.heap.size, 0, none⟩ = some (.string t.name) ∧ w6.cell? ⟨w.heap.size, 1, none⟩ = some (.slice A m c) ∧ w6.cell? ⟨w.heap.size, 2, none⟩ = some (.int .i64 t.off) := ⟨(hA6.grow.cell_far ⟨w.heap.size, 0, none⟩ (cell_lt hS.1) (hfa 0).1).trans hS.1, (hA6.grow.cell_far ⟨w.heap.size, 1, none⟩ (cell_lt hS.2.1) (hfa 0).1).trans hS.2.1, (hA6.grow.cell_far ⟨w.heap.size, 2, none⟩ (cell_lt hS.2.2) (hfa 0).1).trans hS.2.2⟩
    have hob2 : some bx ≠ (Value.slice A1 i cv).ownBlock := fun e => by have := (HOB.out _ e.symm).1; omega
    have z2 : w6.cell? ⟨bx, 0, none⟩ = some (.slice A1 i cv) := (hA6.grow.cell_far ⟨bx, 0, none⟩ (cell_lt g1a) hob2).trans g1a
    have z3 : w6.frozen? ⟨bx, 0, none⟩ = false := (hA6.grow.frozen_far ⟨bx, 0, none⟩ (cell_lt g1a) hob2).trans g2a
    have HTH := Lib.hid (own_thereB hA6.own)
    have hgk : bx ≠ g6 := by have := own_base hA6.own g6 rfl; omega
    have hbg : w.heap.size ≠ g6 := fun e => by
      rcases hA6.at_ with h3 | h3
      · exact (hfa 0).1 (by rw [e]; exact h3)
      · have h4 : g6 = WA.heap.size := Option.some.inj h3
        have := HSA.out
        omega
    have HFIN := Lib.hid (k1_step HST.out HBA.out HT.out rfl HIN.out g1a G3a.out hA6)
    refine hK.out _ _ SS (fun hS => ?_)
    clear hK K hA6 SS hfa hob2
    try simp only [Act.put, List.getElem_toArray, List.getElem_cons_zero, List.getElem_cons_succ, List.setIfInBounds_toArray, List.set_cons_zero, List.set_cons_succ]
    refine wpAnyH_take (i := 5) (v := ?_) rfl (by kernel_rfl) (by kernel_rfl) (by kernel_rfl) (fun _ _ _ h => h) (Or.inl ⟨by rfl, ?_⟩) (by assumption) ?_
    rotate_left
    · (intro V hV; obtain ⟨k0, k1, k2⟩ := hV; go_simp; try with_reducible rfl)
    try simp only [Act.put, List.getElem_toArray, List.getElem_cons_zero, List.getElem_cons_succ, List.setIfInBounds_toArray, List.set_cons_zero, List.set_cons_succ]
    have SS7 : (w6.setCells g6 (i * 3) [.string t.name, .slice A m c, .int .i64 t.off]).cell? ⟨w.heap.size, 0, none⟩ = some (.string t.name) ∧ (w6.setCells g6 (i * 3) [.string t.name, .slice A m c, .int .i64 t.off]).cell? ⟨w.heap.size, 1, none⟩ = some (.slice A m c) ∧ (w6.setCells g6 (i * 3) [.string t.name, .slice A m c, .int .i64 t.off]).cell? ⟨w.heap.size, 2, none⟩ = some (.int .i64 t.off) := ⟨(World.cell?_setCells_out _ _ _ _ _ (fun e => absurd e hbg)).trans hS.1, (World.cell?_setCells_out _ _ _ _ _ (fun e => absurd e hbg)).trans hS.2.1, (World.cell?_setCells_out _ _ _ _ _ (fun e => absurd e hbg)).trans hS.2.2⟩
    have hbk := HBXL.out
    have SS8 : (w6.setCell ⟨bx, 0, none⟩ (.slice (some ⟨g6, 0, none⟩) (i + 1) c6)).cell? ⟨w.heap.size, 0, none⟩ = some (.string t.name) ∧ (w6.setCell ⟨bx, 0, none⟩ (.slice (some ⟨g6, 0, none⟩) (i + 1) c6)).cell? ⟨w.heap.size, 1, none⟩ = some (.slice A m c) ∧ (w6.setCell ⟨bx, 0, none⟩ (.slice (some ⟨g6, 0, none⟩) (i + 1) c6)).cell? ⟨w.heap.size, 2, none⟩ = some (.int .i64 t.off) := ⟨(World.cell?_setCell_other _ _ _ _ (fun e => by injection e with e1; omega)).trans hS.1, (World.cell?_setCell_other _ _ _ _ (fun e => by injection e with e1; omega)).trans hS.2.1, (World.cell?_setCell_other _ _ _ _ (fun e => by injection e with e1; omega)).trans hS.2.2⟩
    have SS9 : (World.setCell (w6.setCells g6 (i * 3) [.string t.name, .slice A m c, .int .i64 t.off]) ⟨bx, 0, none⟩ (.slice (some ⟨g6, 0, none⟩) (i + 1) c6)).cell? ⟨w.heap.size, 0, none⟩ = some (.string t.name) ∧ (World.setCell (w6.setCells g6 (i * 3) [.string t.name, .slice A m c, .int .i64 t.off]) ⟨bx, 0, none⟩ (.slice (some ⟨g6, 0, none⟩) (i + 1) c6)).cell? ⟨w.heap.size, 1, none⟩ = some (.slice A m c) ∧ (World.setCell (w6.setCells g6 (i * 3) [.string t.name, .slice A m c, .int .i64 t.off]) ⟨bx, 0, none⟩ (.slice (some ⟨g6, 0, none⟩) (i + 1) c6)).cell? ⟨w.heap.size, 2, none⟩ = some (.int .i64 t.off) := ⟨(World.cell?_setCell_other _ _ _ _ (fun e => by injection e with e1; omega)).trans SS7.1, (World.cell?_setCell_other _ _ _ _ (fun e => by injection e with e1; omega)).trans SS7.2.1, (World.cell?_setCell_other _ _ _ _ (fun e => by injection e with e1; omega)).trans SS7.2.2⟩
    have hcm := setCells_commB ⟨bx, 0, none⟩ (.slice (some ⟨g6, 0, none⟩) (i + 1) c6) g6 hgk [.string t.name, .slice A m c, .int .i64 t.off] (i * 3) w6
    have HCM := Lib.hid hcm
    have z4 : (w6.setCells g6 (i * 3) [.string t.name, .slice A m c, .int .i64 t.off]).cell? ⟨bx, 0, none⟩ = some (.slice A1 i cv) := (World.cell?_setCells_out _ _ _ _ _ (fun e => absurd e hgk)).trans z2
    have z5 : (w6.setCells g6 (i * 3) [.string t.name, .slice A m c, .int .i64 t.off]).frozen? ⟨bx, 0, none⟩ = false := (World.frozen?_setCells _ _ _ _ _).trans z3
    have HT8 := Lib.hid (there_setCellB HTH.out ⟨bx, 0, none⟩ (.slice (some ⟨g6, 0, none⟩) (i + 1) c6))
    clear hcm hbk
    refine wpAnyH_ready (rs := [6, 7]) (by kernel_rfl) (by simp) ?_
    refine AllReadyH.cons rfl (fun K hK => ?_) (AllReadyH.cons rfl (fun K hK => ?_) (AllReadyH.nil))
    · skip
      refine ready_storeB flatTy3 rfl (.tmp 9) (.tmp 5) rfl (b := g6) (off := i * 3) (us := [.string t.name, .slice A m c, .int .i64 t.off]) rfl rfl HTH.out three_one rfl ?_
      refine hK.out _ _ SS7 (fun hS => ?_)
      clear hK K z2 z3
      try simp only [Act.put]
      refine wpAnyH_ready (rs := [7]) (by kernel_rfl) (by simp) ?_
      refine AllReadyH.cons rfl (fun K hK => ?_) (AllReadyH.nil)
      go_simp
      refine hK.out _ _ SS9 (fun hS => ?_)
      clear hK K z4 z5
      try simp only [Act.put]
      refine wpAnyH_done (by kernel_rfl) ?_ _
      obtain ⟨hm, hs2, hfr⟩ := HFIN.out
      have k9 := kept_of (V := WA) (S := fun b => w.heap.size ≤ b ∧ b < WA.heap.size) (fun b hb => (hfr b hb.1 hb.2).2)
      have HX9 := Lib.hid (show Boxd _ w.heap.size [.string t.name, .slice A m c, .int .i64 t.off] from fun j u hu => (k9 ⟨w.heap.size, j, none⟩ ⟨Nat.le_refl _, by have := HSA.out; show w.heap.size < _; omega⟩).1.trans (boxd_box HXA.out j u hu))
      have HT9 := Lib.hid (show World.there _ (w.heap.size + 1) 0 3 from fun j hj => by
        obtain ⟨e1, e2⟩ := k9 ⟨w.heap.size + 1, 0 + j, none⟩ ⟨Nat.le_succ _, by have := HSA.out; show w.heap.size + 1 < _; omega⟩
        obtain ⟨e3, e4⟩ := res_there HRA.out j hj
        exact ⟨by rw [e1]; exact e3, e2.trans e4⟩)
      have HF9 := Lib.hid (hfr (w.heap.size + 1) (Nat.le_succ _) (by have := HSA.out; omega)).1
      have HM9 := Lib.hid hm
      have HS9 := Lib.hid hs2
      clear hm hs2 hfr k9 hS HFIN
      generalize (World.setCell (w6.setCells g6 (i * 3) [.string t.name, .slice A m c, .int .i64 t.off]) ⟨bx, 0, none⟩ (.slice (some ⟨g6, 0, none⟩) (i + 1) c6)) = W9 at *
      have HB9 := Lib.hid (boxd_at0B HX9.out)
      go_wp2_with (first
        | (refine loadOp flatTy3 2 10 rfl HB9.out rfl ?_)
        | (refine storeOp flatTy3 3 10 (b := w.heap.size + 1) (o := 0) (us := [.string t.name, .slice A m c, .int .i64 t.off]) rfl rfl HT9.out three_one rfl ?_))
      refine bodyPost_ret (results_collect _ rfl (show Boxd _ _ [.string t.name, .slice A m c, .int .i64 t.off] from set_there (us := [.string t.name, .slice A m c, .int .i64 t.off]) HT9.out) rfl) rfl ?_
      obtain ⟨e1, e2, _⟩ := Bd.cells (k1_ok bx n lo ts) (g := w.heap.size + 1) HS9.out HM9.out (Nat.le_succ _) ((k1_ok bx n lo ts).lo _ _ HST.out).1 ((k1_ok bx n lo ts).lo _ _ HST.out).2 HF9.out 0 [.string t.name, .slice A m c, .int .i64 t.off]
      exact ⟨_, rfl, (Bd.given_in (k1_ok bx n lo ts) HST.out e1 HIN.out).wide fun b hb => .inl hb, e1, e2⟩
    · skip
      go_simp
      refine hK.out _ _ SS8 (fun hS => ?_)
      clear hK K z2 z3 z4 z5
      try simp only [Act.put]
      refine wpAnyH_ready (rs := [6]) (by kernel_rfl) (by simp) ?_
      refine AllReadyH.cons rfl (fun K hK => ?_) (AllReadyH.nil)
      refine ready_storeB flatTy3 rfl (.tmp 9) (.tmp 5) rfl (b := g6) (off := i * 3) (us := [.string t.name, .slice A m c, .int .i64 t.off]) rfl rfl HT8.out three_one rfl ?_
      rw [HCM.out]
      refine hK.out _ _ SS9 (fun hS => ?_)
      clear hK K
      try simp only [Act.put]
      refine wpAnyH_done (by kernel_rfl) ?_ _
      obtain ⟨hm, hs2, hfr⟩ := HFIN.out
      have k9 := kept_of (V := WA) (S := fun b => w.heap.size ≤ b ∧ b < WA.heap.size) (fun b hb => (hfr b hb.1 hb.2).2)
      have HX9 := Lib.hid (show Boxd _ w.heap.size [.string t.name, .slice A m c, .int .i64 t.off] from fun j u hu => (k9 ⟨w.heap.size, j, none⟩ ⟨Nat.le_refl _, by have := HSA.out; show w.heap.size < _; omega⟩).1.trans (boxd_box HXA.out j u hu))
      have HT9 := Lib.hid (show World.there _ (w.heap.size + 1) 0 3 from fun j hj => by
        obtain ⟨e1, e2⟩ := k9 ⟨w.heap.size + 1, 0 + j, none⟩ ⟨Nat.le_succ _, by have := HSA.out; show w.heap.size + 1 < _; omega⟩
        obtain ⟨e3, e4⟩ := res_there HRA.out j hj
        exact ⟨by rw [e1]; exact e3, e2.trans e4⟩)
      have HF9 := Lib.hid (hfr (w.heap.size + 1) (Nat.le_succ _) (by have := HSA.out; omega)).1
      have HM9 := Lib.hid hm
      have HS9 := Lib.hid hs2
      clear hm hs2 hfr k9 hS HFIN
      generalize (World.setCell (w6.setCells g6 (i * 3) [.string t.name, .slice A m c, .int .i64 t.off]) ⟨bx, 0, none⟩ (.slice (some ⟨g6, 0, none⟩) (i + 1) c6)) = W9 at *
      have HB9 := Lib.hid (boxd_at0B HX9.out)
      go_wp2_with (first
        | (refine loadOp flatTy3 2 10 rfl HB9.out rfl ?_)
        | (refine storeOp flatTy3 3 10 (b := w.heap.size + 1) (o := 0) (us := [.string t.name, .slice A m c, .int .i64 t.off]) rfl rfl HT9.out three_one rfl ?_))
      refine bodyPost_ret (results_collect _ rfl (show Boxd _ _ [.string t.name, .slice A m c, .int .i64 t.off] from set_there (us := [.string t.name, .slice A m c, .int .i64 t.off]) HT9.out) rfl) rfl ?_
      obtain ⟨e1, e2, _⟩ := Bd.cells (k1_ok bx n lo ts) (g := w.heap.size + 1) HS9.out HM9.out (Nat.le_succ _) ((k1_ok bx n lo ts).lo _ _ HST.out).1 ((k1_ok bx n lo ts).lo _ _ HST.out).2 HF9.out 0 [.string t.name, .slice A m c, .int .i64 t.off]
      exact ⟨_, rfl, (Bd.given_in (k1_ok bx n lo ts) HST.out e1 HIN.out).wide fun b hb => .inl hb, e1, e2⟩
end Go.Proofs.YtjhlehdjdaphcaaDoor
