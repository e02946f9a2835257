/- The walk of the closure that hands a type out. The condition: its state. -/
import Derived.Test.YtjhlehdjdaphcaaDoorQMBdA
import Derived.Deep.RegionHeld
import Derived.Lib.AppendZerosOnto
namespace Go.Proofs.YtjhlehdjdaphcaaDoor
open Go.RowKit

theorem row_tailB {w : World} {S : Nat → Prop} {C : Option Addr} {r c : Nat} {d : Dat} {ds : List Dat} (h : Row w False S 3 C r (d :: ds)) (hc : r ≤ c) : Row w False S 3 (if c = 1 then C else C.map (·.add (1 * 3))) (r - 1) ds := by
  have hl := h.len
  simp only [List.length_cons] at hl
  refine ⟨by omega, by have := h.le; omega, Dat.Elems.of fun k x hk => ?_⟩
  have hkl := (List.getElem?_eq_some_iff.1 hk).1
  obtain ⟨a, us, e, h1, _, h3, h4⟩ := h.at (k := k + 1) (d := x) (by simpa using hk)
  rw [if_neg (by omega), e]
  refine ⟨a.add (1 * 3), us, rfl, by rw [block_of_add]; exact h1, False.elim, h3, ?_⟩
  rw [add_add, show 1 * 3 + (0 + k) * 3 = (k + 1) * 3 by omega]
  exact h4
/-- One type less is left. -/
theorem k2_step {Ws w V : World} {bx lo i q c c1 : Nat} {rs : List Ty} {C' : Option Addr} {u : Value} (hs : (K2 Ws bx lo rs).St i w) (hi : i < rs.length) (hb : Below w.heap.size w V) (h0 : V.cell? ⟨bx, 0, none⟩ = some u) (hq : q = rs.length - i) (hc : q ≤ c) (hc1 : c1 = c - 1)
    (hl : Lies Ws (fun b => lo ≤ b ∧ b < bx) C' (q - 1) (rs.drop (i + 1))) :
    (K2 Ws bx lo rs).Mv w (V.setCell ⟨bx, 0, none⟩ (.slice C' (q - 1) c1)) ∧ (K2 Ws bx lo rs).St (i + 1) (V.setCell ⟨bx, 0, none⟩ (.slice C' (q - 1) c1)) := by
  obtain ⟨h1, h2, h3, h4, A, d, e0, e1, e2, e3⟩ := hs
  have hset : ∀ b, b ≠ bx → (V.setCell ⟨bx, 0, none⟩ (.slice C' (q - 1) c1)).heap[b]? = V.heap[b]? := fun b hb => Below.heap_setCell _ _ _ _ hb
  have hsz := hb.size
  refine ⟨⟨(hb.mono (show lo ≤ w.heap.size by omega)).setCell (p := ⟨bx, 0, none⟩) h1 _, fun b hbl hf => (hset b hf).trans (hb.block b hbl), fun b _ hf h => hf h⟩, h1, by simp only [World.setCell, Array.size_modify]; omega, by omega, fun b hbl => ?_, C', c1, ?_, ?_, by omega, ?_⟩
  · rw [hset b (by omega), hb.block b (by omega)]; exact h4 b hbl
  · rw [World.cell?_setCell_same _ _ _ h0, hq]; congr 2
  · rw [World.frozen?_setCell]; exact (hb.frozen (p := ⟨bx, 0, none⟩) h2).trans e1
  · rw [show rs.length - (i + 1) = q - 1 by omega]; exact hl

set_option maxRecDepth 100000 in
set_option maxHeartbeats 8000000 in
theorem handout_any (Ws : World) (bx lo : Nat) (rs : List Ty) (i : Nat) (t r : Ty) (hr : rs[i]? = some r) : DoCall 62 #[.pointer (some ⟨bx, 0, none⟩)] (K2 Ws bx lo rs) t r i := by
  intro us w hst hin
  show Calls Tryd.prog 62 #[.agg us.toArray, .pointer (some ⟨bx, 0, none⟩)] w _
  obtain ⟨A, k, c, rfl, _, _⟩ := ty_open hin
  obtain ⟨hb, hbx, hR, hz⟩ := twoW w t.name A k c t.off
  have hlo := hst.1
  have hbw := hst.2.1
  obtain ⟨h1, h2, h3, h4, A1, c1, hc1, hf1, hle, hl⟩ := (Bd.below (k2_ok Ws bx lo rs) hst hb).2
  have hlt := (List.getElem?_eq_some_iff.1 hr).1
  have hcons : rs.drop i = r :: rs.drop (i + 1) := Ex.drop_at hr
  have hq : 0 < rs.length - i := by omega
  have hrow := lies_row.1 hl
  rw [hcons, Ty.dats] at hrow
  have htail := row_tailB hrow hle
  have hl0 := hl
  rw [hcons] at hl0
  obtain ⟨p, u, ys, o, B, m, d, rfl, hx, hpb, c0, c1', c2, hu, hl2⟩ := Lies.get hl0 hq
  obtain rfl : r = .mk u ys o := by simpa using hx
  have hp0 : p.add (0 * 3) = p := by unfold Addr.add; simp
  rw [hp0] at c0 c1' c2
  have hbp : ∀ q : Addr, q.block < bx → (TwoW w t.name A k c t.off).cell? q = Ws.cell? q := fun q hq => World.cell?_of_block (w := Ws) (h4 q.block hq)
  have d0 := (hbp p hpb.2).trans c0
  have d1 := (hbp ⟨p.block, p.off + 1, none⟩ hpb.2).trans c1'
  have d2 := (hbp ⟨p.block, p.off + 2, none⟩ hpb.2).trans c2
  obtain ⟨q, hqq⟩ : ∃ q, q = rs.length - i := ⟨_, rfl⟩
  rw [← hqq] at hc1 hle hq htail
  have z0 : (0 : Int) < q := by omega
  have hq9 : q ≤ 9223372036854775807 := by have := hl.le; omega
  obtain ⟨C', hC'⟩ : ∃ C', C' = (if c1 = 1 then some p else (some p).map (·.add (1 * 3))) := ⟨_, rfl⟩
  rw [← hC'] at htail
  have hsl : ∀ W : World, (Instr.slice 23 (.slice (some p) q c1) (some (.int .i64 1)) none none).run Tryd.prog W = .ok (.slice C' (q - 1) (c1 - 1)) W := fun W => by
    rw [run_slice_l W 23 (some p) q c1 Tryd.underlying23 .i64 1 (by omega) (by omega), hC']
    simp [sliced, go_sem]
  have hbA : Below (TwoW w t.name A k c t.off).heap.size (TwoW w t.name A k c t.off) ((TwoW w t.name A k c t.off).alloc (.cells #[.string u, .slice B m d, .int .i64 o] 25)) := (Below.refl _ _).alloc (Nat.le_refl _) _
  have hc1A := (hbA.cell (cell_lt hc1)).trans hc1
  have hf1A := (hbA.frozen (p := ⟨bx, 0, none⟩) (cell_lt hc1)).trans hf1
  have hRA := hR.later hbA
  have hBx := Box.new (TwoW w t.name A k c t.off) u B m d o 25
  rw [hz] at hBx
  have hne : ∀ (g j : Nat), g ≠ bx → (⟨g, j, none⟩ : Addr) ≠ ⟨bx, 0, none⟩ := fun g j hg e => hg (by injection e)
  obtain ⟨W2, hW2⟩ : ∃ W2, W2 = ((TwoW w t.name A k c t.off).alloc (.cells #[.string u, .slice B m d, .int .i64 o] 25)).setCell ⟨bx, 0, none⟩ (.slice C' (q - 1) (c1 - 1)) := ⟨_, rfl⟩
  have hother : ∀ x : Addr, x ≠ ⟨bx, 0, none⟩ → W2.cell? x = ((TwoW w t.name A k c t.off).alloc (.cells #[.string u, .slice B m d, .int .i64 o] 25)).cell? x := fun x hx => by rw [hW2]; exact World.cell?_setCell_other _ _ _ _ (Ne.symm hx)
  have hfro : ∀ x : Addr, W2.frozen? x = ((TwoW w t.name A k c t.off).alloc (.cells #[.string u, .slice B m d, .int .i64 o] 25)).frozen? x := fun x => by rw [hW2]; exact World.frozen?_setCell _ _ _ _
  have hR2 : ResAt W2 (w.heap.size + 1) := ⟨(hother _ (hne _ _ (by omega))).trans hRA.c0, (hother _ (hne _ _ (by omega))).trans hRA.c1, (hother _ (hne _ _ (by omega))).trans hRA.c2, (hfro _).trans hRA.f0, (hfro _).trans hRA.f1, (hfro _).trans hRA.f2⟩
  have hBx2 : Box W2 (w.heap.size + 2) u B m d o := ⟨(hother _ (hne _ _ (by omega))).trans hBx.1, (hother _ (hne _ _ (by omega))).trans hBx.2.1, (hother _ (hne _ _ (by omega))).trans hBx.2.2⟩
  obtain ⟨hm2, hst2⟩ := k2_step hst hlt (hb.trans (hbA.mono hb.size)) hc1A hqq hle rfl (lies_row.2 htail)
  rw [← hW2] at hm2 hst2
  obtain ⟨hm3, hst3, _⟩ := Bd.cells (k2_ok Ws bx lo rs) (g := w.heap.size + 1) hst2 hm2 (Nat.le_succ _) (show lo ≤ w.heap.size by omega) (show bx ≤ w.heap.size by omega) (fun (e : w.heap.size + 1 = bx) => by omega) 0 [.string u, .slice B m d, .int .i64 o]
  have hl3 : Lies (W2.setCells (w.heap.size + 1) 0 [.string u, .slice B m d, .int .i64 o]) (fun b => lo ≤ b ∧ b < bx) B m ys := lies_row.2 ((lies_row.1 hl2).keep id (kept_of fun b hb => hst3.2.2.2.1 b hb.2) fun _ h => h)
  have HM3 := Lib.hid hm3
  have HST3 := Lib.hid hst3
  have HL3 := Lib.hid hl3
  have HU := Lib.hid hu
  have HWW := Lib.hid hW2
  obtain ⟨y0, y1, y2, f0, f1, f2⟩ := hR2
  obtain ⟨z3, z4, z5⟩ := hBx2
  clear hst hb hbx hR hl hlt hcons hrow htail hl0 hx hpb c0 c1' c2 hl2 hp0 hbp hqq hq hq9 hC' hbA hRA hBx hne hother hfro hm2 hst2 hle hlo hu hr hz h1 h2 h3 h4 hm3 hst3 hl3 hin hbw
  unfold TwoW at *
  go_enter Tryd.func62, Tryd.ntmps62
  rw [hW2] at y0 y1 y2 f0 f1 f2 z3 z4 z5
  clear hW2
  go_wp2_with fail
  refine bodyPost_ret (v := .agg #[.string u, .slice B m d, .int .i64 o]) (by simp [results, Tryd.results62, go_sem, y0, y1, y2]) rfl ?_
  rw [← HWW.out]
  exact ⟨[.string u, .slice B m d, .int .i64 o], rfl, ty_shut (t := .mk u ys o) HU.out (LiesN.wide HL3.out fun b hb => .inl hb), HM3.out, HST3.out⟩
end Go.Proofs.YtjhlehdjdaphcaaDoor
