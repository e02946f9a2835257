/- The states of bind's closures: the one that gathers types, the one that hands types out, and none. No condition. -/
import Derived.Test.YtjhlehdjdaphcaaDoorQMBdM
import Derived.Lib.AppendZerosOnto
namespace Go.Proofs.YtjhlehdjdaphcaaDoor
open Go.RowKit

/-! ### types are gathered in a variable of the caller's -/
def K1 (bx n lo : Nat) (ts : List Ty) : Bd where
  lo := lo
  n := n
  Fp V b := b = bx ∨ ∃ v, V.cell? ⟨bx, 0, none⟩ = some v ∧ v.ownBlock = some b
  St i V := lo ≤ n ∧ n ≤ bx ∧ bx < V.heap.size ∧ ∃ v cs, V.cell? ⟨bx, 0, none⟩ = some v ∧ V.frozen? ⟨bx, 0, none⟩ = false ∧ V.ownsRow (bx + 1) 25 3 v i cs ∧ Dat.Ins V False (· < n) (Ty.dats (ts.take i)) cs
  R b := b < n
  nw := False
theorem k1_low {bx n lo i b : Nat} {ts : List Ty} {V : World} (hs : (K1 bx n lo ts).St i V) (hf : (K1 bx n lo ts).Fp V b) : bx ≤ b ∧ b < V.heap.size := by
  obtain ⟨h1, h2, h3, v, cs, c0, c1, c2, c3⟩ := hs
  rcases hf with rfl | ⟨v', e, hv⟩
  · exact ⟨Nat.le_refl _, h3⟩
  · rw [c0] at e
    obtain rfl := Option.some.inj e
    exact ⟨by have := own_base c2 b hv; omega, (c2.lt b hv).2⟩
theorem k1_ok (bx n lo : Nat) (ts : List Ty) : (K1 bx n lo ts).Ok where
  lo i V hs := by obtain ⟨h1, h2, h3, _⟩ := hs; exact ⟨by show lo ≤ _; omega, by show n ≤ _; omega⟩
  low i V b hs hf := by
    obtain ⟨h1, h2⟩ := k1_low hs hf
    exact ⟨by show n ≤ b; have := hs.2.1; omega, h2⟩
  res i V b hs hb := by
    have hb : b < n := hb
    refine ⟨by have := hs.2.1; have := hs.2.2.1; omega, fun hf => ?_⟩
    have := (k1_low hs hf).1
    have := hs.2.1
    omega
  keep i V V' hs hsz hk := by
    have hlow := fun b => k1_low (b := b) hs
    obtain ⟨h1, h2, h3, v, cs, c0, c1, c2, c3⟩ := hs
    have kb := kept_of (V := V) (V' := V') (S := fun b => b < V.heap.size ∧ (b < n ∨ (K1 bx n lo ts).Fp V b)) (fun b hb => hk b hb.1 hb.2)
    have e0 := kb ⟨bx, 0, none⟩ ⟨h3, .inr (.inl rfl)⟩
    have c0' : V'.cell? ⟨bx, 0, none⟩ = some v := e0.1.trans c0
    refine ⟨⟨h1, h2, Nat.lt_of_lt_of_le h3 hsz, v, cs, c0', e0.2.trans c1, ⟨c2.1, ?_⟩, Dat.Ins.keep id (fun p hp => kb p ⟨by show p.block < _; omega, .inl hp⟩) (fun _ h => h) _ _ c3⟩, fun b => ?_⟩
    · rcases c2.2 with h | ⟨g, cap, cur, e1, e2, e3, e4⟩
      · exact .inl h
      · exact .inr ⟨g, cap, cur, e1, e2, (hk g (Array.getElem?_eq_some_iff.1 e3).1 (.inr (.inr ⟨v, c0, by rw [e1]; rfl⟩))).trans e3, e4⟩
    · show (b = bx ∨ ∃ v, V'.cell? ⟨bx, 0, none⟩ = some v ∧ v.ownBlock = some b) ↔ (b = bx ∨ ∃ v, V.cell? ⟨bx, 0, none⟩ = some v ∧ v.ownBlock = some b)
      rw [c0, c0']
/-- One more type is gathered. -/
theorem k1_step {bx n lo i g c : Nat} {ts : List Ty} {t : Ty} {w WA w6 : World} {v : Value} {cs us : List Value} {z0 z1 z2 u0 u1 u2 : Value} (hs : (K1 bx n lo ts).St i w) (hb : Below w.heap.size w WA) (ht : ts[i]? = some t) (hus : us = [u0, u1, u2])
    (hin : t.dat.In w False (· < n) us) (c0 : WA.cell? ⟨bx, 0, none⟩ = some v) (hown : WA.ownsRow (bx + 1) 25 3 v i cs)
    (hA : Appd WA w6 (bx + 1) 25 3 i 1 v (.slice (some ⟨g, 0, none⟩) (i + 1) c) cs [z0, z1, z2]) :
    (K1 bx n lo ts).Mv w ((w6.setCells g (i * 3) us).setCell ⟨bx, 0, none⟩ (.slice (some ⟨g, 0, none⟩) (i + 1) c)) ∧ (K1 bx n lo ts).St (i + 1) ((w6.setCells g (i * 3) us).setCell ⟨bx, 0, none⟩ (.slice (some ⟨g, 0, none⟩) (i + 1) c))
      ∧ ∀ b, w.heap.size ≤ b → b < WA.heap.size → ¬ (K1 bx n lo ts).Fp ((w6.setCells g (i * 3) us).setCell ⟨bx, 0, none⟩ (.slice (some ⟨g, 0, none⟩) (i + 1) c)) b ∧ ((w6.setCells g (i * 3) us).setCell ⟨bx, 0, none⟩ (.slice (some ⟨g, 0, none⟩) (i + 1) c)).heap[b]? = WA.heap[b]? := by
  subst hus
  have hA7 := Appd.storeB u0 u1 u2 hA
  generalize hw7 : w6.setCells g (i * 3) [u0, u1, u2] = w7 at *
  clear hw7 hA
  have hlow := fun b => k1_low (b := b) hs
  have hres := fun b => (k1_ok bx n lo ts).res i w b hs
  obtain ⟨h1, h2, h3, v', cs', d0, d1, d2, d3⟩ := hs
  have ev : v' = v := by
    have := (hb.cell (p := ⟨bx, 0, none⟩) h3).trans d0
    rw [c0] at this
    exact (Option.some.inj this).symm
  subst ev
  have ecs : cs' = cs := by
    have e1 := own_below d2 hb
    have l1 := e1.1
    have l2 := hown.1
    rcases hown.2 with ⟨e, hz⟩ | ⟨gg, cap, cur, e, _⟩
    · have : cs.length = 0 := by rw [l2, hz]
      have : cs'.length = 0 := by rw [l1, hz]
      rw [List.eq_nil_of_length_eq_zero ‹cs.length = 0›, List.eq_nil_of_length_eq_zero ‹cs'.length = 0›]
    · refine List.ext_getElem (by rw [l1, l2]) fun j hj hj2 => ?_
      have q1 := e1.cells (g := gg) (by rw [e]; rfl) j _ (List.getElem?_eq_getElem hj)
      have q2 := hown.cells (g := gg) (by rw [e]; rfl) j _ (List.getElem?_eq_getElem hj2)
      rw [q1] at q2
      exact Option.some.inj q2
  subst ecs
  have hbw := hb.size
  have hob : ∀ b, v'.ownBlock = some b → bx + 1 ≤ b ∧ b < w.heap.size := fun b hv => ⟨own_base d2 b hv, (d2.lt b hv).2⟩
  have hnf : ∀ b, ¬ (K1 bx n lo ts).Fp w b → b ≠ bx ∧ v'.ownBlock ≠ some b := fun b hf => ⟨fun e => hf (.inl e), fun e => hf (.inr ⟨v', d0, e⟩)⟩
  have h7 : ∀ b, b < WA.heap.size → v'.ownBlock ≠ some b → w7.heap[b]? = WA.heap[b]? := fun b h1 h2 => hA7.grow.block b h1 (fun e => h2 e.symm)
  have hset : ∀ b, b ≠ bx → (w7.setCell ⟨bx, 0, none⟩ (.slice (some ⟨g, 0, none⟩) (i + 1) c)).heap[b]? = w7.heap[b]? := fun b hb => Below.heap_setCell _ _ _ _ hb
  have hbx7 : v'.ownBlock ≠ some bx := fun e => by have := (hob bx e).1; omega
  have k7 := kept_of (V := WA) (V' := w7) (S := (· = bx)) (fun b hb => by subst hb; exact h7 b (by omega) hbx7)
  have c7 : w7.cell? ⟨bx, 0, none⟩ = some v' := (k7 ⟨bx, 0, none⟩ rfl).1.trans c0
  have f7 : w7.frozen? ⟨bx, 0, none⟩ = false := (k7 ⟨bx, 0, none⟩ rfl).2.trans ((hb.frozen (p := ⟨bx, 0, none⟩) h3).trans d1)
  have hc9 : (w7.setCell ⟨bx, 0, none⟩ (.slice (some ⟨g, 0, none⟩) (i + 1) c)).cell? ⟨bx, 0, none⟩ = some (.slice (some ⟨g, 0, none⟩) (i + 1) c) := World.cell?_setCell_same _ _ _ c7
  have hfp : ∀ b, (K1 bx n lo ts).Fp (w7.setCell ⟨bx, 0, none⟩ (.slice (some ⟨g, 0, none⟩) (i + 1) c)) b → b = bx ∨ v'.ownBlock = some b ∨ b = WA.heap.size := fun b hf => by
    rcases hf with rfl | ⟨v2, e, hv⟩
    · exact .inl rfl
    · rw [hc9] at e
      obtain rfl := Option.some.inj e
      rcases hA7.at_ with h | h
      · exact .inr (.inl (h ▸ hv))
      · rw [h] at hv
        exact .inr (.inr (Option.some.inj hv).symm)
  have hkp : ∀ b, b < w.heap.size → ¬ (K1 bx n lo ts).Fp w b → (w7.setCell ⟨bx, 0, none⟩ (.slice (some ⟨g, 0, none⟩) (i + 1) c)).heap[b]? = w.heap[b]? := fun b hbl hf => by
    obtain ⟨n1, n2⟩ := hnf b hf
    rw [hset b n1, h7 b (by omega) n2, hb.block b hbl]
  have hsz : WA.heap.size ≤ w7.heap.size := hA7.grow.size
  refine ⟨⟨?_, hkp, fun b hbl hf h => ?_⟩, ⟨h1, h2, by simp only [World.setCell, Array.size_modify]; omega, _, _, hc9, ?_, ownsRow_setCell_below hA7.own (by show bx < bx + 1; omega) _, ?_⟩, fun b hb1 hb2 => ⟨fun h => ?_, ?_⟩⟩
  · exact ((hb.mono (show lo ≤ w.heap.size by omega)).grown hA7.grow (by omega) (fun k hk => by have := (hob k hk).1; omega)).setCell (p := ⟨bx, 0, none⟩) (by show lo ≤ bx; omega) _
  · obtain ⟨n1, n2⟩ := hnf b hf
    rcases hfp b h with h | h | h
    · exact n1 h
    · exact n2 h
    · omega
  · rw [World.frozen?_setCell]; exact f7
  · have hkeep := kept_of (V := w) (V' := w7.setCell ⟨bx, 0, none⟩ (.slice (some ⟨g, 0, none⟩) (i + 1) c)) (S := (· < n)) (fun b hbn => hkp b (by omega) (hres b hbn).2)
    rw [Ex.take_at ht, Ty.dats_map, List.map_append]
    exact Dat.Ins.snoc (Dat.In.keep id hkeep (fun _ h => h) _ _ hin) (by rw [← Ty.dats_map]; exact Dat.Ins.keep id hkeep (fun _ h => h) _ _ d3)
  · rcases hfp b h with h | h | h
    · omega
    · have := (hob b h).2; omega
    · omega
  · rw [hset b (by omega), h7 b hb2 (fun e => by have := (hob b e).2; omega)]

/-! ### types are handed out of a variable of the caller's -/
def K2 (Ws : World) (bx lo : Nat) (rs : List Ty) : Bd where
  lo := lo
  n := bx
  Fp _ b := b = bx
  St i V := lo ≤ bx ∧ bx < V.heap.size ∧ i ≤ rs.length ∧ (∀ b, b < bx → V.heap[b]? = Ws.heap[b]?) ∧ ∃ A c, V.cell? ⟨bx, 0, none⟩ = some (.slice A (rs.length - i) c) ∧ V.frozen? ⟨bx, 0, none⟩ = false ∧ rs.length - i ≤ c ∧ Lies Ws (fun b => lo ≤ b ∧ b < bx) A (rs.length - i) (rs.drop i)
  R b := lo ≤ b ∧ b < bx
  nw := False
theorem k2_ok (Ws : World) (bx lo : Nat) (rs : List Ty) : (K2 Ws bx lo rs).Ok where
  lo i V hs := ⟨by show lo ≤ _; have := hs.1; have := hs.2.1; omega, by show bx ≤ _; have := hs.2.1; omega⟩
  low i V b hs hf := by
    have hf : b = bx := hf
    subst hf
    exact ⟨Nat.le_refl _, hs.2.1⟩
  res i V b hs hb := by
    have hb : lo ≤ b ∧ b < bx := hb
    have := hs.2.1
    exact ⟨by omega, fun (h : b = bx) => by omega⟩
  keep i V V' hs hsz hk := by
    obtain ⟨h1, h2, h3, h4, A, c, c0, c1, c2, c3⟩ := hs
    have kb := kept_of (V := V) (V' := V') (S := (· = bx)) (fun b hb => by subst hb; exact hk b h2 (.inr rfl)) ⟨bx, 0, none⟩ rfl
    exact ⟨⟨h1, by omega, h3, fun b hb => (hk b (by omega) (.inl hb)).trans (h4 b hb), A, c, kb.1.trans c0, kb.2.trans c1, c2, c3⟩, fun b => Iff.rfl⟩

/-! ### no state -/
def KC (n : Nat) : Bd where
  lo := n
  n := n
  Fp _ _ := False
  St _ V := n ≤ V.heap.size
  R _ := False
  nw := True
theorem kc_ok (n : Nat) : (KC n).Ok where
  lo _ _ hs := ⟨hs, hs⟩
  low _ _ _ _ hf := hf.elim
  res _ _ _ _ hb := hb.elim
  keep _ _ _ hs hsz _ := ⟨Nat.le_trans hs hsz, fun _ => Iff.rfl⟩
theorem clone_do (n : Nat) (t : Ty) (ht : t.wt ≤ 1990) (i : Nat) : DoCall 69 #[] (KC n) t t i := by
  intro us w hs h
  have hs : n ≤ w.heap.size := hs
  refine (show Calls Tryd.prog 69 #[.agg us.toArray] w _ from tyClone_any t us w ht (h.wide fun b hb => Nat.lt_of_lt_of_le hb hs)).mono ?_
  rintro e w1 ⟨vs, rfl, hv, hb⟩
  obtain ⟨h1, h2⟩ := Bd.below (kc_ok n) (i := i + 1) (V := w) (V' := w1) hs hb
  exact ⟨vs, rfl, hv.wide fun b hb => .inr ⟨trivial, hb.1, hb.2, fun h => h⟩, h1, h2⟩
end Go.Proofs.YtjhlehdjdaphcaaDoor
