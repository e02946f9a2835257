/- The walks of types.allReplaced and types.replaced. The conditions: the types are small. -/
import Derived.Test.YtioamnaknjhbpaaDoorTwI
import Derived.Deep.RegionHeld3
namespace Go.Proofs.YtioamnaknjhbpaaDoor
open Go.RowKit

/-- What replaced gives of t. -/
def RepAt (ns : List ByteArray) (us : List Ty) (t : Ty) : Prop := ∀ (A : Option Addr) (m c : Nat) (mv : Value) (w : World), t.name.size ≤ 9223372036854775807 → t.list.length ≤ 1000000 → Here w A m t.args → Gives w mv (fun s => Ty.pick s ns us) →
  Calls Tryd.prog 41 #[.agg #[.string t.name, .slice A m c, .int .i64 t.off], mv] w (TyPost w (t.subst ns us))

set_option maxRecDepth 100000 in
set_option maxHeartbeats 4000000 in
theorem allRep_any (ns : List ByteArray) (us xs : List Ty) (ih : ∀ t ∈ xs, RepAt ns us t) (A : Option Addr) (m c : Nat) (mv : Value) (w : World) (hm : m ≤ 1000000) (hx : ∀ x ∈ xs, x.list.length ≤ 1000000) (h : Here w A m xs) (hg : Gives w mv (fun s => Ty.pick s ns us)) :
    Calls Tryd.prog 43 #[.slice A m c, mv] w (AllPost w (xs.map (Ty.subst ns us))) := by
  have hl := h.len
  have HL := Lib.hid h
  have HG := Lib.hid hg
  have HX := Lib.hid hx
  have IH := Lib.hid ih
  by_cases hm0 : m = 0
  · subst hm0
    obtain rfl := List.eq_nil_of_length_eq_zero hl
    have e0 : (((0 : Nat) : Int) == 0) = true := rfl
    clear ih hx h hg
    go_enter Tryd.func43, Tryd.ntmps43
    go_wp2_with fail
    go_ret
    exact ⟨none, 0, rfl, Lies.nil _ _ _, Below.refl _ _⟩
  · have e0 : ((m : Int) == 0) = false := by simp; omega
    have hmk := run_make_ty m hm
    have hf := filled_make w m
    have hb : Below w.heap.size w (w.alloc (.cells (madeCells #[.string ⟨#[]⟩, .slice none 0 0, .int .i64 0] (m * 3)) 24)) := (Below.refl _ _).alloc (Nat.le_refl _) _
    have HF := Lib.hid hf
    have HB := Lib.hid hb
    have hmi : (m : Int) ≤ 1000000 := by omega
    have hgz : ∃ g, g = w.heap.size := ⟨_, rfl⟩
    obtain ⟨g, hgz⟩ := hgz
    have HGZ := Lib.hid hgz
    clear ih hx h hg hf hb
    go_enter Tryd.func43, Tryd.ntmps43
    go_wp2_with fail
    rw [← hgz] at HF ⊢
    clear hgz
    go_loopw [16] (fun i wr => ∃ k : Nat, k ≤ m ∧ i = .int .i64 k ∧ Filled wr g m ((xs.take k).map (Ty.subst ns us)) ∧ Below w.heap.size w wr) (fun i _ => m - (intOf i).toNat)
    case atStart => exact ⟨0, by omega, rfl, by simpa using HF.out, HB.out⟩
    case round =>
      obtain ⟨k, hk, rfl, hf, hbel⟩ := hrel
      have HBL := Lib.hid hbel
      have y1 : (0 : Int) ≤ k := by omega
      by_cases hlt : k < m
      · have y0 : (k : Int) < m := by omega
        obtain ⟨a, u, ys, p, B, n, d, rfl, hx, _, a0, a1, a2, hu, hl2⟩ := Lies.get (Here.later HL.out hbel) hlt
        have hka : Below wr.heap.size wr (wr.alloc (.cells #[.string u, .slice B n d, .int .i64 p] 24)) := (Below.refl _ _).alloc (Nat.le_refl _) _
        have C := Lib.hid (IH.out _ (List.mem_of_getElem? hx) B n d mv (wr.alloc (.cells #[.string u, .slice B n d, .int .i64 p] 24)) hu (HX.out _ (List.mem_of_getElem? hx)) (Here.later hl2 hka) ((HG.out.later hbel).later hka))
        simp only [Ty.name, Ty.off] at C
        obtain ⟨x0, x1, x2⟩ := Box.new wr u B n d p 24
        have HST := Lib.hid (show (xs.take (k + 1)).map (Ty.subst ns us) = (xs.take k).map (Ty.subst ns us) ++ [Ty.subst ns us (.mk u ys p)] by rw [List.take_add_one, hx]; simp)
        have HFF := Lib.hid hf
        have HK := Lib.hid hka
        have hlk : ((xs.take k).map (Ty.subst ns us)).length = k := by rw [List.length_map, List.length_take]; omega
        have HLK := Lib.hid hlk
        clear hx hl2 hka hf hbel hlk
        generalize Ty.subst ns us (.mk u ys p) = q at *
        go_wp2_with fail
        refine C.out.mono ?_
        rintro e w3 ⟨A3, m3, c3, rfl, hns, hl3, hb3⟩
        have hb4 := HK.out.trans (hb3.mono HK.out.size)
        have hf4 := HFF.out.later hb4
        have HT3 := Lib.hid (show w3.there g (k * 3) 3 from fun j hj => by
          have := hf4.there (k * 3 + j) (by omega)
          rwa [Nat.zero_add] at this)
        have hstep := hf4.step (n := m3) (c := c3) (by rw [HLK.out]; exact hlt) hns hl3 (fun b hb => ⟨by have h1 : (wr.alloc (.cells #[.string u, .slice B n d, .int .i64 p] 24)).heap.size ≤ b := hb.1; have := HFF.out.lt; simp at h1; omega, hb.2⟩)
        rw [HLK.out] at hstep
        have HSP := Lib.hid hstep
        have HB4 := Lib.hid ((HBL.out.trans (hb4.mono HBL.out.size)).trans (below_cells (B := w.heap.size) (g := g) (Nat.le_of_eq HGZ.out.symm) [.string q.name, .slice A3 m3 c3, .int .i64 q.off] (k * 3) w3))
        clear hns hl3 hb3 hb4 hf4 hstep x0 x1 x2 a0 a1 a2 C
        obtain ⟨e0, c0⟩ := Option.isSome_iff_exists.1 (HT3.out 0 (by omega)).1
        obtain ⟨e1, c1⟩ := Option.isSome_iff_exists.1 (HT3.out 1 (by omega)).1
        obtain ⟨e2, c2⟩ := Option.isSome_iff_exists.1 (HT3.out 2 (by omega)).1
        have f0 := (HT3.out 0 (by omega)).2
        have f1 := (HT3.out 1 (by omega)).2
        have f2 := (HT3.out 2 (by omega)).2
        rw [Nat.add_zero] at c0 f0
        have d1 : (w3.setCell ⟨g, k * 3, none⟩ (.string q.name)).cell? ⟨g, k * 3 + 1, none⟩ = some e1 := (World.cell?_setCell_other _ _ _ _ (by intro e; injection e with _ e; omega)).trans c1
        have d2 : ((w3.setCell ⟨g, k * 3, none⟩ (.string q.name)).setCell ⟨g, k * 3 + 1, none⟩ (.slice A3 m3 c3)).cell? ⟨g, k * 3 + 2, none⟩ = some e2 :=
          (World.cell?_setCell_other _ _ _ _ (by intro e; injection e with _ e; omega)).trans ((World.cell?_setCell_other _ _ _ _ (by intro e; injection e with _ e; omega)).trans c2)
        have h1 : (w3.setCell ⟨g, k * 3, none⟩ (.string q.name)).frozen? ⟨g, k * 3 + 1, none⟩ = false := (World.frozen?_setCell _ _ _ _).trans f1
        have h2 : ((w3.setCell ⟨g, k * 3, none⟩ (.string q.name)).setCell ⟨g, k * 3 + 1, none⟩ (.slice A3 m3 c3)).frozen? ⟨g, k * 3 + 2, none⟩ = false := (World.frozen?_setCell _ _ _ _).trans ((World.frozen?_setCell _ _ _ _).trans f2)
        clear c1 c2 f1 f2
        go_wp2_with fail
        go_roundw
        case rel => exact ⟨k + 1, by omega, by go_num, by rw [HST.out]; exact HSP.out, HB4.out⟩
        case measure => simp [intOf]; omega
      · have y0 : (m : Int) ≤ k := by omega
        have hjk : xs.take k = xs := List.take_of_length_le (by omega)
        rw [hjk] at hf
        have HFF := Lib.hid hf
        clear hf hbel
        go_wp2_with fail
        go_ret
        have hlm : (xs.map (Ty.subst ns us)).length = m := by rw [List.length_map]; exact hl
        refine ⟨some ⟨g, 0, none⟩, m, by rw [hlm]; rfl, ?_, HBL.out⟩
        rw [hlm]
        exact HFF.out.lies hlm (by omega) (Nat.le_of_eq HGZ.out.symm)

/-- The cells of a result that is not yet written. -/
structure ResAt (w : World) (k : Nat) : Prop where
  c0 : w.cell? ⟨k, 0, none⟩ = some (.string ⟨#[]⟩)
  c1 : w.cell? ⟨k, 1, none⟩ = some (.slice none 0 0)
  c2 : w.cell? ⟨k, 2, none⟩ = some (.int .i64 0)
  f0 : w.frozen? ⟨k, 0, none⟩ = false
  f1 : w.frozen? ⟨k, 1, none⟩ = false
  f2 : w.frozen? ⟨k, 2, none⟩ = false
theorem ResAt.later {w w' : World} {k : Nat} (h : ResAt w k) (hb : Below w.heap.size w w') : ResAt w' k := by
  have hk := cell_lt h.c0
  exact ⟨(hb.cell hk).trans h.c0, (hb.cell (p := ⟨k, 1, none⟩) hk).trans h.c1, (hb.cell (p := ⟨k, 2, none⟩) hk).trans h.c2, (hb.frozen hk).trans h.f0, (hb.frozen (p := ⟨k, 1, none⟩) hk).trans h.f1, (hb.frozen (p := ⟨k, 2, none⟩) hk).trans h.f2⟩
theorem resAt_of {w : World} {k : Nat} {T : TypeId} (h : w.heap[k]? = some (.cells #[.string ⟨#[]⟩, .slice none 0 0, .int .i64 0] T (0, 0))) : ResAt w k :=
  ⟨by rw [cell_of_row _ _ 0 _ _ (0, 0) h]; rfl, by rw [cell_of_row _ _ 1 _ _ (0, 0) h]; rfl, by rw [cell_of_row _ _ 2 _ _ (0, 0) h]; rfl, frozen_of_row h 0, frozen_of_row h 1, frozen_of_row h 2⟩
/-- The result is written. -/
theorem below_res {w W : World} {k : Nat} {u v x : Value} (hb : Below w.heap.size w W) (hk : w.heap.size ≤ k) : Below w.heap.size w (((W.setCell ⟨k, 0, none⟩ u).setCell ⟨k, 1, none⟩ v).setCell ⟨k, 2, none⟩ x) :=
  ((hb.setCell (p := ⟨k, 0, none⟩) hk _).setCell (p := ⟨k, 1, none⟩) hk _).setCell (p := ⟨k, 2, none⟩) hk _
theorem lies_res {W : World} {S S' : Nat → Prop} {A : Option Addr} {n k : Nat} {xs : List Ty} {u v x : Value} (h : Lies W S A n xs) (hk : ¬ S k) (hS : ∀ b, S b → S' b) : Lies (((W.setCell ⟨k, 0, none⟩ u).setCell ⟨k, 1, none⟩ v).setCell ⟨k, 2, none⟩ x) S' A n xs :=
  LiesN.wide (((LiesN.setCell h ⟨k, 0, none⟩ _ hk).setCell ⟨k, 1, none⟩ _ hk).setCell ⟨k, 2, none⟩ _ hk) hS
theorem size_res (W : World) (k : Nat) (u v x : Value) : (((W.setCell ⟨k, 0, none⟩ u).setCell ⟨k, 1, none⟩ v).setCell ⟨k, 2, none⟩ x).heap.size = W.heap.size := by simp [World.setCell]

theorem keep_res {w W : World} {s : ByteArray} {u v x y z : Value} (h : Below w.heap.size w W ∧ W.cell? ⟨w.heap.size, 0, none⟩ = some (.string s) ∧ W.cell? ⟨w.heap.size, 1, none⟩ = some u ∧ W.cell? ⟨w.heap.size, 2, none⟩ = some v) :
    Below w.heap.size w (((W.setCell ⟨w.heap.size + 1, 0, none⟩ x).setCell ⟨w.heap.size + 1, 1, none⟩ y).setCell ⟨w.heap.size + 1, 2, none⟩ z)
      ∧ (((W.setCell ⟨w.heap.size + 1, 0, none⟩ x).setCell ⟨w.heap.size + 1, 1, none⟩ y).setCell ⟨w.heap.size + 1, 2, none⟩ z).cell? ⟨w.heap.size, 0, none⟩ = some (.string s)
      ∧ (((W.setCell ⟨w.heap.size + 1, 0, none⟩ x).setCell ⟨w.heap.size + 1, 1, none⟩ y).setCell ⟨w.heap.size + 1, 2, none⟩ z).cell? ⟨w.heap.size, 1, none⟩ = some u
      ∧ (((W.setCell ⟨w.heap.size + 1, 0, none⟩ x).setCell ⟨w.heap.size + 1, 1, none⟩ y).setCell ⟨w.heap.size + 1, 2, none⟩ z).cell? ⟨w.heap.size, 2, none⟩ = some v := by
  have far : ∀ i j : Nat, (⟨w.heap.size, i, none⟩ : Addr) ≠ ⟨w.heap.size + 1, j, none⟩ := fun i j e => by injection e with e; omega
  refine ⟨below_res h.1 (Nat.le_succ _), ?_, ?_, ?_⟩
  · rw [World.cell?_setCell_other _ _ _ _ (far 0 2).symm, World.cell?_setCell_other _ _ _ _ (far 0 1).symm, World.cell?_setCell_other _ _ _ _ (far 0 0).symm]; exact h.2.1
  · rw [World.cell?_setCell_other _ _ _ _ (far 1 2).symm, World.cell?_setCell_other _ _ _ _ (far 1 1).symm, World.cell?_setCell_other _ _ _ _ (far 1 0).symm]; exact h.2.2.1
  · rw [World.cell?_setCell_other _ _ _ _ (far 2 2).symm, World.cell?_setCell_other _ _ _ _ (far 2 1).symm, World.cell?_setCell_other _ _ _ _ (far 2 0).symm]; exact h.2.2.2

/-- The two first blocks of a function that takes a type and gives one. -/
def TwoW (w : World) (s : ByteArray) (A : Option Addr) (m c : Nat) (o : Int) : World :=
  (w.alloc (.cells #[.string s, .slice A m c, .int .i64 o] 24)).alloc (.cells #[.string ⟨#[]⟩, .slice none 0 0, .int .i64 0] 24)
theorem twoW (w : World) (s : ByteArray) (A : Option Addr) (m c : Nat) (o : Int) : Below w.heap.size w (TwoW w s A m c o) ∧ Box (TwoW w s A m c o) w.heap.size s A m c o ∧ ResAt (TwoW w s A m c o) (w.heap.size + 1) ∧ (TwoW w s A m c o).heap.size = w.heap.size + 2 :=
  ⟨(box_pair w s ⟨#[]⟩ A none m 0 c 0 o 0 24).1, (box_pair w s ⟨#[]⟩ A none m 0 c 0 o 0 24).2.1, resAt_of (heap_alloc_two _ _ _), by simp [TwoW]⟩

theorem AllPost.since {wr V : World} {ts : List Ty} {e : Ending} {w' : World} (hV : Below wr.heap.size wr V) (h : AllPost V ts e w') : AllPost wr ts e w' := by
  obtain ⟨A, c, he, hl, hb⟩ := h
  exact ⟨A, c, he, LiesN.wide hl fun b hb => ⟨Nat.le_trans hV.size hb.1, hb.2⟩, hV.trans (hb.mono hV.size)⟩
/-- A clone of what stands for a name. -/
def CloneAt (t : Ty) : Prop := ∀ (A : Option Addr) (m c : Nat) (w : World), t.name.size ≤ 9223372036854775807 → Here w A m t.args →
  Calls Tryd.prog 29 #[.agg #[.string t.name, .slice A m c, .int .i64 t.off]] w (TyPost w t)

set_option maxRecDepth 100000 in
set_option maxHeartbeats 8000000 in
theorem rep_any (ns : List ByteArray) (us : List Ty) (hcl : ∀ s u, Ty.pick s ns us = some u → CloneAt u) : ∀ t : Ty, RepAt ns us t := by
  refine Ty.ind fun s xs o ih A m c mv w hs hll h hg => ?_
  simp only [Ty.name, Ty.args, Ty.off] at hs h ⊢
  have hm : (m : Int) ≤ 9223372036854775807 := by have := h.le; omega
  have hxl := h.len
  have hll2 : (Ty.listL xs).length ≤ 1000000 := by rw [Ty.list] at hll; simp only [List.length_cons] at hll; omega
  have hm6 : m ≤ 1000000 := by have := listL_len xs; omega
  obtain ⟨hb, hX, hR, hz⟩ := twoW w s A m c o
  have IH := Lib.hid ih
  have HLL := Lib.hid hll2
  have H2 := Lib.hid (Here.later h hb)
  have HG2 := Lib.hid (hg.later hb)
  have HB := Lib.hid hb
  have HX2 := Lib.hid hX
  have HR2 := Lib.hid hR
  have HZ := Lib.hid hz
  have HCL := Lib.hid hcl
  by_cases hc : ∃ u, Ty.pick s ns us = some u ∧ m = 0
  · obtain ⟨u, hu, rfl⟩ := hc
    obtain ⟨A', c', hus, hul, hrun⟩ := HG2.out.hit hs hu
    have hb3 : Below (TwoW w s A 0 c o).heap.size (TwoW w s A 0 c o) ((TwoW w s A 0 c o).alloc (.cells #[.string u.name, .slice A' u.args.length c', .int .i64 u.off] 24)) := (Below.refl _ _).alloc (Nat.le_refl _) _
    have C := Lib.hid (HCL.out s u hu A' u.args.length c' _ hus (Here.later hul hb3))
    have HX3 := Lib.hid (HX2.out.later hb3)
    have HR3 := Lib.hid (HR2.out.later hb3)
    have HB3 := Lib.hid (HB.out.trans (hb3.mono HB.out.size))
    have HZ3 := Lib.hid (show ((TwoW w s A 0 c o).alloc (.cells #[.string u.name, .slice A' u.args.length c', .int .i64 u.off] 24)).heap.size = w.heap.size + 3 by rw [World.size_alloc, HZ.out])
    have hsub : Ty.subst ns us (.mk s [] o) = .mk u.name u.args o := by
      cases u with
      | mk r ys p => exact subst_nil_some hu
    obtain rfl : xs = [] := List.eq_nil_of_length_eq_zero hxl
    have hbx3 := Box.new (TwoW w s A 0 c o) u.name A' u.args.length c' u.off 24
    rw [HZ.out] at hbx3
    have HY3 := Lib.hid hbx3
    have HSUB := Lib.hid hsub
    clear ih hll hll2 hb hX hR hz hcl h hg hb3 hxl hul hbx3 hsub
    obtain ⟨x0, x1, x2⟩ := HX2.out
    obtain ⟨y0, y1, y2⟩ := HX3.out
    obtain ⟨z0, z1, z2⟩ := HY3.out
    unfold TwoW at *
    go_enter Tryd.func41, Tryd.ntmps41
    go_wp2_with fail
    refine C.out.mono ?_
    rintro e w4 ⟨A4, m4, c4, rfl, hns4, hl4, hb4⟩
    have hx4 := ResAt.later HR3.out hb4
    have hy4 := Box.later HX3.out hb4
    have hb5 := HB3.out.trans (hb4.mono HB3.out.size)
    have hz5 : w.heap.size + 3 ≤ w4.heap.size := by have := hb4.size; have := HZ3.out; unfold TwoW at this; omega
    have hn5 : ∀ v : Value, Below w4.heap.size w4 (w4.alloc (.cells #[.string u.name, .slice A4 m4 c4, v] 24)) := fun v => (Below.refl _ _).alloc (Nat.le_refl _) _
    have hx5 := ResAt.later hx4 (hn5 (.int .i64 o))
    have hy5 := Box.later hy4 (hn5 (.int .i64 u.off))
    have HL4 := Lib.hid hl4
    have HB5 := Lib.hid hb5
    have HZ5 := Lib.hid hz5
    have HN5 := Lib.hid hn5
    clear hl4 hb4 hx4 hy4 hb5 hz5 hn5 x0 x1 x2 y0 y1 y2 z0 z1 z2
    obtain ⟨q0, q1, q2⟩ := hy5
    obtain ⟨y0, y1, y2, f0, f1, f2⟩ := hx5
    go_wp2_with fail
    refine bodyPost_ret (v := .agg #[.string u.name, .slice A4 m4 c4, .int .i64 o]) (by simp [results, Tryd.results41, go_sem, y0, y1, y2]) rfl ?_
    rw [HSUB.out]
    have hWz := HZ3.out
    unfold TwoW at hWz
    have hz5 := HZ5.out
    refine ⟨A4, m4, c4, rfl, hns4, lies_res (LiesN.alloc HL4.out (fun _ h => h.2) _) (by unfold Fresh; omega) ?_, below_res (HB5.out.trans ((HN5.out (.int .i64 o)).mono (by omega))) (Nat.le_succ _)⟩
    intro b hb
    have h1 := hb.1
    have h2 := hb.2
    exact ⟨by omega, by rw [size_res, World.size_alloc]; omega⟩
  · have hsub : Ty.subst ns us (.mk s xs o) = .mk s (xs.map (Ty.subst ns us)) o := by
      rw [← Ty.substL_map]
      by_cases hx : xs = []
      · subst hx
        have hm0 : m = 0 := by simpa using hxl.symm
        refine subst_nil_none ?_
        cases hp : Ty.pick s ns us with
        | none => rfl
        | some u => exact absurd ⟨u, hp, hm0⟩ hc
      · exact Ty.substL_eq ns us s xs o hx
    have HSUB := Lib.hid hsub
    obtain ⟨vs, vA, vn, vc, vo, b, hrun, hbm⟩ : ∃ (vs : ByteArray) (vA : Option Addr) (vn vc : Nat) (vo : Int) (b : Bool), (Instr.lookup 61 mv (.string s) true).run Tryd.prog (TwoW w s A m c o) = .ok (.tuple #[.agg #[.string vs, .slice vA vn vc, .int .i64 vo], .bool b]) (TwoW w s A m c o) ∧ (b = false ∨ m ≠ 0) := by
      cases hp : Ty.pick s ns us with
      | none => exact ⟨_, _, _, _, _, _, HG2.out.miss hs hp, .inl rfl⟩
      | some u =>
        obtain ⟨A', c', _, _, hr⟩ := HG2.out.hit hs hp
        exact ⟨_, _, _, _, _, _, hr, .inr fun h0 => hc ⟨u, hp, h0⟩⟩
    have hb3 : Below (TwoW w s A m c o).heap.size (TwoW w s A m c o) ((TwoW w s A m c o).alloc (.cells #[.string vs, .slice vA vn vc, .int .i64 vo] 24)) := (Below.refl _ _).alloc (Nat.le_refl _) _
    have HX3 := Lib.hid (HX2.out.later hb3)
    have HR3 := Lib.hid (HR2.out.later hb3)
    have HB3 := Lib.hid (HB.out.trans (hb3.mono HB.out.size))
    have C := Lib.hid (fun (V : World) (hV : Below w.heap.size w V) => allRep_any ns us xs IH.out A m c mv V hm6 (fun x hx => by have := listL_mem hx; have := HLL.out; omega) (Here.later h hV) (hg.later hV))
    have HZ3 := Lib.hid (show ((TwoW w s A m c o).alloc (.cells #[.string vs, .slice vA vn vc, .int .i64 vo] 24)).heap.size = w.heap.size + 3 by rw [World.size_alloc, HZ.out])
    clear ih hll hll2 hb hX hR hz hcl hc hsub h hg hb3 hxl
    obtain ⟨x0, x1, x2⟩ := HX2.out
    obtain ⟨z0, z1, z2⟩ := HX3.out
    unfold TwoW at *
    have hbm2 : b = false ∨ (b = true ∧ ((m : Int) == 0) = false) := by
      cases b
      · exact .inl rfl
      · exact .inr ⟨rfl, by rcases hbm with h | h; cases h; simp; omega⟩
    clear hbm
    rcases hbm2 with rfl | ⟨rfl, e0⟩
    all_goals
      go_enter Tryd.func41, Tryd.ntmps41
      go_wp2_with fail
      generalize hW : ((w.alloc (.cells #[.string s, .slice A m c, .int .i64 o] 24)).alloc (.cells #[.string ⟨#[]⟩, .slice none 0 0, .int .i64 0] 24)).alloc (.cells #[.string vs, .slice vA vn vc, .int .i64 vo] 24) = W at *
      clear hW
      have SS : Below w.heap.size w W ∧ W.cell? ⟨w.heap.size, 0, none⟩ = some (.string s) ∧ W.cell? ⟨w.heap.size, 1, none⟩ = some (.slice A m c) ∧ W.cell? ⟨w.heap.size, 2, none⟩ = some (.int .i64 o) := ⟨HB3.out, z0, z1, z2⟩
      go_region_held3 (fun V => Below w.heap.size w V ∧ V.cell? ⟨w.heap.size, 0, none⟩ = some (.string s) ∧ V.cell? ⟨w.heap.size, 1, none⟩ = some (.slice A m c) ∧ V.cell? ⟨w.heap.size, 2, none⟩ = some (.int .i64 o))
        (first | exact SS | exact ⟨SS.1.drew, SS.2⟩ | exact keep_res SS)
        (first
          | (go_at_call 43; go_loud (refine (C.out _ ?_).mono ?_; (first | exact SS.1 | exact SS.1.drew); rintro e w4 ⟨A4, c4, rfl, hl4, hb4⟩; have HB4 := Lib.hid (show Below w.heap.size w w4 by first | exact SS.1.trans (hb4.mono SS.1.size) | exact SS.1.drew.trans (hb4.mono SS.1.drew.size)); have hx4 : ResAt w4 (w.heap.size + 1) := (by first | exact ResAt.later HR3.out hb4 | exact ResAt.later (ResAt.later HR3.out (Below.refl _ _).drew) hb4); have HX4 : Box w4 w.heap.size s A m c o := (by first | exact Box.later HX3.out hb4 | exact Box.later (Box.later HX3.out (Below.refl _ _).drew) hb4); have SS : Below w.heap.size w w4 ∧ w4.cell? ⟨w.heap.size, 0, none⟩ = some (.string s) ∧ w4.cell? ⟨w.heap.size, 1, none⟩ = some (.slice A m c) ∧ w4.cell? ⟨w.heap.size, 2, none⟩ = some (.int .i64 o) := ⟨HB4.out, HX4.1, HX4.2.1, HX4.2.2⟩; obtain ⟨y0, y1, y2, f0, f1, f2⟩ := hx4; have HL4 := Lib.hid (show Lies w4 (fun b => W.heap.size ≤ b ∧ b < w4.heap.size) A4 (xs.map (Ty.subst ns us)).length (xs.map (Ty.subst ns us)) from hl4); clear hl4 hb4)))
      go_wp2
      refine bodyPost_ret (v := .agg #[.string s, .slice A4 (xs.map (Ty.subst ns us)).length c4, .int .i64 o]) (by simp [results, Tryd.results41, go_sem, y0, y1, y2]) rfl ?_
      rw [HSUB.out]
      have hWz := HZ3.out
      refine ⟨A4, _, c4, rfl, hs, lies_res HL4.out (by omega) ?_, below_res HB4.out (Nat.le_succ _)⟩
      intro b hb
      exact ⟨by have := hb.1; omega, by rw [size_res]; exact hb.2⟩
end Go.Proofs.YtioamnaknjhbpaaDoor
