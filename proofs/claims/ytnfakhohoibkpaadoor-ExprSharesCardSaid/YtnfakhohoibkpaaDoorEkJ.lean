/- The walks of expr.All (it gives a function), of the closures of Subst and of typesIn. The condition: few parts. -/
import Derived.Test.YtnfakhohoibkpaaDoorEkS
namespace Go.Proofs.YtnfakhohoibkpaaDoor
open Go.RowKit

set_option maxRecDepth 100000 in
set_option maxHeartbeats 4000000 in
theorem xall_fn (e : Ex) (us : List Value) (w : World) (hwt : e.wt ≤ 100000) (h : e.dat.H w us) : Calls Tryd.prog 28 #[.agg us.toArray] w (FnPost w) := by
  have HX := Lib.hid (OneX.new h 27)
  have C := Lib.hid (xclone_any e us _ hwt HX.out.da)
  obtain ⟨A, m, a, B, l, b, C', r, c, rfl, _⟩ := ex_open h
  obtain ⟨x0, x1, x2, x3, x4, x5, x6, x7⟩ := HX.out.one.c8
  clear h
  go_enter Tryd.func28, Tryd.ntmps28
  go_wp2_with fail
  refine C.out.mono ?_
  rintro e1 w1 ⟨vs, rfl, hv, hb1⟩
  have HB1 := Lib.hid ((HX.out.bel.trans (hb1.mono HX.out.bel.size)).alloc (by have := HX.out.bel.size; have := hb1.size; omega) (.cells vs.toArray 27))
  obtain ⟨_, _, _, _, _, _, _, _, _, rfl, _⟩ := ex_open hv
  clear hb1 x0 x1 x2 x3 x4 x5 x6 x7 C HX hv
  go_wp2_with fail
  go_ret
  exact ⟨_, _, _, rfl, HB1.out⟩

/-! ### the closure that hands the next type out -/
/-- What lies while Subst walks: the types that are left, and the closures; Ws is the world in which the walk began. -/
structure SubSt (Ws : World) (lo p7 p8 p9 : Nat) (rs : List Ty) (i : Nat) (V : World) : Prop where
  bel : Below p7 Ws V
  left : ∃ A c, V.cell? ⟨p7, 0, none⟩ = some (.slice A (rs.length - i) c) ∧ V.frozen? ⟨p7, 0, none⟩ = false ∧ rs.length - i ≤ c ∧ i ≤ rs.length ∧ Lies Ws (fun b => lo ≤ b ∧ b < p7) A (rs.length - i) (rs.drop i)
  next : V.cell? ⟨p8, 0, none⟩ = some (.func (.func 49) #[] #[.pointer (some ⟨p7, 0, none⟩)])
  self : V.cell? ⟨p9, 0, none⟩ = some (.func (.func 50) #[] #[.pointer (some ⟨p8, 0, none⟩), .pointer (some ⟨p9, 0, none⟩)])
theorem subSt_ok (Ws : World) (lo p7 p8 p9 s0 : Nat) (rs : List Ty) (h7 : p7 < s0) (h8 : p8 < s0) (h9 : p9 < s0) : ∀ i V V', Below s0 V V' → SubSt Ws lo p7 p8 p9 rs i V → SubSt Ws lo p7 p8 p9 rs i V' := fun i V V' hb h => by
  obtain ⟨A, c, h1, h2, h3, h4, h5⟩ := h.left
  exact ⟨h.bel.trans (hb.mono (Nat.le_of_lt h7)), ⟨A, c, (hb.cell (p := ⟨p7, 0, none⟩) h7).trans h1, (hb.frozen (p := ⟨p7, 0, none⟩) h7).trans h2, h3, h4, h5⟩, (hb.cell (p := ⟨p8, 0, none⟩) h8).trans h.next, (hb.cell (p := ⟨p9, 0, none⟩) h9).trans h.self⟩
theorem row_tail3 {w : World} {S : Nat → Prop} {C : Option Addr} {r c : Nat} {d : Dat} {ds : List Dat} (h : Row w False S 3 C r (d :: ds)) (hc : r ≤ c) : Row w False S 3 (if c = 1 then C else C.map (·.add (1 * 3))) (r - 1) ds := by
  have hl := h.len
  simp only [List.length_cons] at hl
  refine ⟨by omega, by have := h.le; omega, Dat.Elems.of fun k x hk => ?_⟩
  have hkl := (List.getElem?_eq_some_iff.1 hk).1
  obtain ⟨a, us, e, h1, _, h3, h4⟩ := h.at (k := k + 1) (d := x) (by simpa using hk)
  rw [if_neg (by omega), e]
  refine ⟨a.add (1 * 3), us, rfl, by rw [block_of_add]; exact h1, False.elim, h3, ?_⟩
  rw [add_add, show 1 * 3 + (0 + k) * 3 = (k + 1) * 3 by omega]
  exact h4

set_option maxRecDepth 100000 in
set_option maxHeartbeats 8000000 in
theorem subst1_any (Ws : World) (lo p7 p8 p9 : Nat) (rs : List Ty) (hlo : lo ≤ p7) (h78 : p7 < p8) (h89 : p8 < p9) (hws : p9 < Ws.heap.size) (t r : Ty) (i : Nat) (hr : rs[i]? = some r) :
    TCall 49 #[.pointer (some ⟨p7, 0, none⟩)] lo p7 (p7 + 1) Ws.heap.size (SubSt Ws lo p7 p8 p9 rs) t r i := by
  intro A k c w hs hst _ _
  show Calls Tryd.prog 49 #[.agg #[.string t.name, .slice A k c, .int .i64 t.off], .pointer (some ⟨p7, 0, none⟩)] w _
  obtain ⟨hb, hbx, hR, hz⟩ := twoW w t.name A k c t.off
  have hS2 := subSt_ok Ws lo p7 p8 p9 w.heap.size rs (by omega) (by omega) (by omega) i _ _ hb hst
  obtain ⟨A1, c1, hc1, hf1, hle, hil, hl⟩ := hS2.left
  have hlt := (List.getElem?_eq_some_iff.1 hr).1
  have hcons : rs.drop i = r :: rs.drop (i + 1) := Ex.drop_at hr
  have hq : 0 < rs.length - i := by omega
  have hrow := lies_row.1 hl
  rw [hcons, Ty.dats] at hrow
  have htail := row_tail3 hrow hle
  have hl0 := hl
  rw [hcons] at hl0
  obtain ⟨p, u, ys, o, B, m, d, rfl, hx, hpb, c0, c1', c2, hu, hl2⟩ := Lies.get hl0 hq
  obtain rfl : r = .mk u ys o := by simpa using hx
  have hp0 : p.add (0 * 3) = p := by unfold Addr.add; simp
  rw [hp0] at c0 c1' c2
  have hbp : ∀ q : Addr, q.block < p7 → (TwoW w t.name A k c t.off).cell? q = Ws.cell? q := fun q hq => hS2.bel.cell hq
  have d0 := (hbp p hpb.2).trans c0
  have d1 := (hbp ⟨p.block, p.off + 1, none⟩ hpb.2).trans c1'
  have d2 := (hbp ⟨p.block, p.off + 2, none⟩ hpb.2).trans c2
  obtain ⟨q, hqq⟩ : ∃ q, q = rs.length - i := ⟨_, rfl⟩
  rw [← hqq] at hc1 hle hq htail
  have z0 : (0 : Int) < q := by omega
  have hq9 : q ≤ 9223372036854775807 := by have := hl.le; omega
  obtain ⟨C', hC'⟩ : ∃ C', C' = (if c1 = 1 then some p else (some p).map (·.add (1 * 3))) := ⟨_, rfl⟩
  rw [← hC'] at htail
  have hsl : ∀ W : World, (Instr.slice 22 (.slice (some p) q c1) (some (.int .i64 1)) none none).run Tryd.prog W = .ok (.slice C' (q - 1) (c1 - 1)) W := fun W => by
    rw [run_slice_l W 22 (some p) q c1 Tryd.underlying22 .i64 1 (by omega) (by omega), hC']
    simp [sliced, go_sem]
  have hbA : Below (TwoW w t.name A k c t.off).heap.size (TwoW w t.name A k c t.off) ((TwoW w t.name A k c t.off).alloc (.cells #[.string u, .slice B m d, .int .i64 o] 24)) := (Below.refl _ _).alloc (Nat.le_refl _) _
  have hc1A := (hbA.cell (cell_lt hc1)).trans hc1
  have hf1A := (hbA.frozen (p := ⟨p7, 0, none⟩) (cell_lt hc1)).trans hf1
  have hRA := hR.later hbA
  have hBx := Box.new (TwoW w t.name A k c t.off) u B m d o 24
  rw [hz] at hBx
  have hne : ∀ (g j : Nat), g ≠ p7 → (⟨g, j, none⟩ : Addr) ≠ ⟨p7, 0, none⟩ := fun g j hg e => hg (by injection e)
  obtain ⟨W2, hW2⟩ : ∃ W2, W2 = ((TwoW w t.name A k c t.off).alloc (.cells #[.string u, .slice B m d, .int .i64 o] 24)).setCell ⟨p7, 0, none⟩ (.slice C' (q - 1) (c1 - 1)) := ⟨_, rfl⟩
  have hother : ∀ x : Addr, x ≠ ⟨p7, 0, none⟩ → W2.cell? x = ((TwoW w t.name A k c t.off).alloc (.cells #[.string u, .slice B m d, .int .i64 o] 24)).cell? x := fun x hx => by rw [hW2]; exact World.cell?_setCell_other _ _ _ _ (Ne.symm hx)
  have hfro : ∀ x : Addr, W2.frozen? x = ((TwoW w t.name A k c t.off).alloc (.cells #[.string u, .slice B m d, .int .i64 o] 24)).frozen? x := fun x => by rw [hW2]; exact World.frozen?_setCell _ _ _ _
  have hR2 : ResAt W2 (w.heap.size + 1) := ⟨(hother _ (hne _ _ (by omega))).trans hRA.c0, (hother _ (hne _ _ (by omega))).trans hRA.c1, (hother _ (hne _ _ (by omega))).trans hRA.c2, (hfro _).trans hRA.f0, (hfro _).trans hRA.f1, (hfro _).trans hRA.f2⟩
  have hBx2 : Box W2 (w.heap.size + 2) u B m d o := ⟨(hother _ (hne _ _ (by omega))).trans hBx.1, (hother _ (hne _ _ (by omega))).trans hBx.2.1, (hother _ (hne _ _ (by omega))).trans hBx.2.2⟩
  have hm2 : Mv lo p7 (p7 + 1) w W2 := by
    have h1 : Mv lo p7 (p7 + 1) w ((TwoW w t.name A k c t.off).alloc (.cells #[.string u, .slice B m d, .int .i64 o] 24)) := Mv.of (hb.trans (hbA.mono hb.size)) (by omega)
    refine ⟨h1.bel.trans (by rw [hW2]; exact (Below.refl _ _).setCell (p := ⟨p7, 0, none⟩) hlo _), by rw [hW2]; simp [World.setCell]; have := h1.size; simpa using this, fun x v hx hv => ?_⟩
    obtain ⟨e1, e2⟩ := h1.kp.2 x v hx hv
    exact ⟨(hother x (by rintro rfl; simp only at hx; omega)).trans e1, (hfro x).trans e2⟩
  have hbel2 : Below p7 Ws W2 := (hS2.bel.trans (hbA.mono (by rw [hz]; omega))).trans (by rw [hW2]; exact (Below.refl _ _).setCell (p := ⟨p7, 0, none⟩) (Nat.le_refl _) _)
  have hst2 : SubSt Ws lo p7 p8 p9 rs (i + 1) W2 := by
    refine ⟨hbel2, ⟨C', c1 - 1, ?_, ?_, by omega, by omega, ?_⟩, ?_, ?_⟩
    · rw [hW2, World.cell?_setCell_same _ _ _ hc1A, show rs.length - (i + 1) = q - 1 by omega]
    · exact (hfro _).trans hf1A
    · rw [show rs.length - (i + 1) = q - 1 by omega]; exact lies_row.2 htail
    · exact (hother _ (hne _ _ (by omega))).trans ((hbA.cell (cell_lt hS2.next)).trans hS2.next)
    · exact (hother _ (hne _ _ (by omega))).trans ((hbA.cell (cell_lt hS2.self)).trans hS2.self)
  have hsz2 : w.heap.size + 3 ≤ W2.heap.size := by rw [hW2]; simp only [World.setCell, Array.size_modify, World.size_alloc]; omega
  have HM2 := Lib.hid hm2
  have HST2 := Lib.hid hst2
  have HL2 := Lib.hid hl2
  have HB2 := Lib.hid hbel2
  have HU := Lib.hid hu
  have HLO := Lib.hid hlo
  have HWW := Lib.hid hW2
  have HSZ2 := Lib.hid hsz2
  have HSS := Lib.hid hs
  have H789 := Lib.hid (show p7 < w.heap.size ∧ p8 < w.heap.size ∧ p9 < w.heap.size ∧ p7 < p8 ∧ p8 < p9 by omega)
  obtain ⟨y0, y1, y2, f0, f1, f2⟩ := hR2
  obtain ⟨z3, z4, z5⟩ := hBx2
  clear hs hst hS2 hb hbx hR hil hl hlt hcons hrow htail hl0 hx hpb c0 c1' c2 hl2 hp0 hbp hqq hq hq9 hC' hbA hRA hBx hne hother hfro hm2 hbel2 hst2 hle hlo h78 h89 hws hu hr hz hsz2
  unfold TwoW at *
  go_enter Tryd.func49, Tryd.ntmps49
  rw [hW2] at y0 y1 y2 f0 f1 f2 z3 z4 z5
  clear hW2
  go_wp2_with fail
  refine bodyPost_ret (v := .agg #[.string u, .slice B m d, .int .i64 o]) (by simp [results, Tryd.results49, go_sem, y0, y1, y2]) rfl ?_
  rw [← HWW.out]
  have hV : ∀ i, SubSt Ws lo p7 p8 p9 rs i W2 → SubSt Ws lo p7 p8 p9 rs i (W2.setCells (w.heap.size + 1) 0 [.string u, .slice B m d, .int .i64 o]) := fun i =>
    subSt_ok Ws lo p7 p8 p9 w.heap.size rs (by have := H789.out; omega) (by have := H789.out; omega) (by have := H789.out; omega) i W2 _ (below_cells (Nat.le_succ _) _ 0 W2)
  have hB3 : Below p7 Ws (W2.setCells (w.heap.size + 1) 0 [.string u, .slice B m d, .int .i64 o]) := HB2.out.trans (below_cells (by have := H789.out; omega) _ 0 W2)
  have hM3 : Mv lo p7 (p7 + 1) w (W2.setCells (w.heap.size + 1) 0 [.string u, .slice B m d, .int .i64 o]) := HM2.out.setCells (by have := H789.out; have := HLO.out; omega) (Nat.le_succ _) 0 _
  exact ⟨B, m, d, rfl, HU.out, (LiesN.later HL2.out hB3 (fun _ h => h.2)).wide fun b hb => ⟨hb.1, .inl hb.2⟩, hM3, hV _ HST2.out⟩
end Go.Proofs.YtnfakhohoibkpaaDoor
