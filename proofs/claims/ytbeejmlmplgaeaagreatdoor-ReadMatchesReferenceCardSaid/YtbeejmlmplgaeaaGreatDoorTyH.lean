/- The walks of the reference's Subst and All of types. -/
import Derived.Test.YtbeejmlmplgaeaaGreatDoorTyF
import Derived.Test.YtbeejmlmplgaeaaGreatDoorTyB
import Derived.Deep.RegionLaw
import Derived.Deep.AppendLies
namespace Go.Proofs.YtbeejmlmplgaeaaGreatDoor
open Go.RowKit

/-- A type that the call has made, in blocks that may be written. -/
def TyNeat (w : World) (t : Ty) (e : Ending) (w' : World) : Prop :=
  ∃ A m c, e = .returned (.agg #[.string t.name, .slice A m c, .int .i64 t.off]) ∧ t.name.size ≤ 9223372036854775807 ∧ LiesN w' True (Fresh w w') A m t.args ∧ Below w.heap.size w w'
/-- A type that the call has made. -/
def TyPost (w : World) (t : Ty) (e : Ending) (w' : World) : Prop :=
  ∃ A m c, e = .returned (.agg #[.string t.name, .slice A m c, .int .i64 t.off]) ∧ t.name.size ≤ 9223372036854775807 ∧ Lies w' (Fresh w w') A m t.args ∧ Below w.heap.size w w'

theorem infoTy : (Tryz.prog.info? 25).map (fun i => (i.zero, i.size, i.bytes)) = some (some (.agg #[.string ⟨#[]⟩, .slice none 0 0, .int .i64 0]), 3, 48) := by kernel_rfl

def pickAt (s : ByteArray) (ns : List ByteArray) (us : List Ty) (k : Nat) : Prop := Ty.pick s ns us = Ty.pick s (ns.drop k) (us.drop k)
theorem pick_on {s n : ByteArray} {ns : List ByteArray} {us : List Ty} {k : Nat} (h : pickAt s ns us k) (hn : ns[k]? = some n) (hne : n.data.toList ≠ s.data.toList) : pickAt s ns us (k + 1) := by
  obtain ⟨h1, e1⟩ := List.getElem?_eq_some_iff.1 hn
  unfold pickAt at *
  rw [h, List.drop_eq_getElem_cons h1, e1, Ty.pick, if_neg hne, List.tail_drop]
theorem pick_hit {s n : ByteArray} {ns : List ByteArray} {us : List Ty} {k : Nat} (h : pickAt s ns us k) (hn : ns[k]? = some n) (he : n.data.toList = s.data.toList) : Ty.pick s ns us = us[k]? := by
  obtain ⟨h1, e1⟩ := List.getElem?_eq_some_iff.1 hn
  unfold pickAt at h
  rw [h, List.drop_eq_getElem_cons h1, e1, Ty.pick, if_pos he, List.head?_drop]
theorem pick_end {s : ByteArray} {ns : List ByteArray} {us : List Ty} {k : Nat} (h : pickAt s ns us k) (hk : ns.length ≤ k) : Ty.pick s ns us = none := by
  unfold pickAt at h
  rw [h, List.drop_eq_nil_of_le hk]
  simp only [Ty.pick]

theorem listL_len : ∀ xs : List Ty, xs.length ≤ (Ty.listL xs).length
  | [] => Nat.zero_le _
  | .mk s ys o :: r => by
    have := listL_len r
    simp only [List.length_cons, Ty.listL, Ty.list, List.length_append]
    omega
theorem listL_mem : ∀ {xs : List Ty} {x : Ty}, x ∈ xs → x.list.length ≤ (Ty.listL xs).length
  | y :: r, x, h => by
    simp only [Ty.listL, List.length_append]
    rcases List.mem_cons.1 h with rfl | h
    · omega
    · have := listL_mem h
      omega
theorem subst_nil_none {ns : List ByteArray} {us : List Ty} {s : ByteArray} {o : Int} (h : Ty.pick s ns us = none) : Ty.subst ns us (.mk s [] o) = .mk s (Ty.substL ns us []) o := by
  rw [Ty.subst, h]; simp only [Ty.substL]
theorem subst_nil_some {ns : List ByteArray} {us : List Ty} {s r : ByteArray} {ys : List Ty} {o p : Int} (h : Ty.pick s ns us = some (.mk r ys p)) : Ty.subst ns us (.mk s [] o) = .mk r ys o := by
  rw [Ty.subst, h]

/-- What holds at the head of the second loop's rounds: what is built so far. -/
def SubRel (wr V : World) (s : ByteArray) (o : Int) (k : Nat) (ts : List Ty) : Prop :=
  Below wr.heap.size wr V ∧ ∃ v cs S, V.cell? ⟨wr.heap.size, 0, none⟩ = some (.string s) ∧ V.cell? ⟨wr.heap.size, 1, none⟩ = some v ∧ V.cell? ⟨wr.heap.size, 2, none⟩ = some (.int .i64 o) ∧ V.frozen? ⟨wr.heap.size, 1, none⟩ = false
    ∧ V.ownsRow (wr.heap.size + 1) 25 3 v k cs ∧ RowsOf V True S cs ts ∧ (∀ b, S b → wr.heap.size + 1 ≤ b ∧ b < V.heap.size ∧ v.ownBlock ≠ some b)

theorem TyNeat.post {w : World} {t : Ty} {e : Ending} {w' : World} (h : TyNeat w t e w') : TyPost w t e w' := by
  obtain ⟨A, m, c, he, hn, hl, hb⟩ := h
  exact ⟨A, m, c, he, hn, hl.lies, hb⟩
theorem TyNeat.from {wr V : World} {t : Ty} {e : Ending} {w' : World} (hV : Below wr.heap.size wr V) (h : TyNeat V t e w') : TyNeat wr t e w' := by
  obtain ⟨A, m, c, he, hn, hl, hb⟩ := h
  exact ⟨A, m, c, he, hn, hl.wide fun b hb => ⟨Nat.le_trans hV.size hb.1, hb.2⟩, hV.trans (hb.mono hV.size)⟩
theorem TyPost.from {wr V : World} {t : Ty} {e : Ending} {w' : World} (hV : Below wr.heap.size wr V) (h : TyPost V t e w') : TyPost wr t e w' := by
  obtain ⟨A, m, c, he, hn, hl, hb⟩ := h
  exact ⟨A, m, c, he, hn, hl.wide fun b hb => ⟨Nat.le_trans hV.size hb.1, hb.2⟩, hV.trans (hb.mono hV.size)⟩

/-- One more type is built: the relation at the next round's head. -/
theorem sub_step {V0 wr w1 w2 : World} {s : ByteArray} {o : Int} {j : Nat} {ts : List Ty} {v : Value} {cs : List Value} {S : Nat → Prop} {t : Ty} {A1 : Option Addr} {m1 cc1 gg cap : Nat}
    (hbV : Below V0.heap.size V0 wr) (v0 : wr.cell? ⟨V0.heap.size, 0, none⟩ = some (.string s)) (v1 : wr.cell? ⟨V0.heap.size, 1, none⟩ = some v) (v2 : wr.cell? ⟨V0.heap.size, 2, none⟩ = some (.int .i64 o)) (vf : wr.frozen? ⟨V0.heap.size, 1, none⟩ = false)
    (hown : wr.ownsRow (V0.heap.size + 1) 25 3 v j cs) (hrows : RowsOf wr True S cs ts) (hS : ∀ b, S b → V0.heap.size + 1 ≤ b ∧ b < wr.heap.size ∧ v.ownBlock ≠ some b)
    (hb1 : Below wr.heap.size wr w1) (hns : t.name.size ≤ 9223372036854775807) (hl1 : LiesN w1 True (Fresh wr w1) A1 m1 t.args)
    (hown2 : w2.ownsRow (V0.heap.size + 1) 25 3 (.slice (some ⟨gg, 0, none⟩) (j + 1) cap) (j + 1) (cs ++ [.string t.name, .slice A1 m1 cc1, .int .i64 t.off]))
    (hgrow : (w1.alloc (.cells #[.string t.name, .slice A1 m1 cc1, .int .i64 t.off] 25)).grownBy w2 v.ownBlock) (hat : v.ownBlock = some gg ∨ gg = w1.heap.size + 1) (_hlt : gg < w2.heap.size) :
    SubRel V0 (w2.setCell ⟨V0.heap.size, 1, none⟩ (.slice (some ⟨gg, 0, none⟩) (j + 1) cap)) s o (j + 1) (ts ++ [t]) := by
  have l0 : V0.heap.size < wr.heap.size := cell_lt v0
  have s1 := hb1.size
  have s2 : w1.heap.size + 1 ≤ w2.heap.size := by have := hgrow.size; simpa using this
  have ob := own_base hown
  have ol : ∀ k, v.ownBlock = some k → k < wr.heap.size := fun k hk => (hown.lt k hk).2
  -- a cell of a block that is neither new nor the row's is as it was
  have far : ∀ p : Addr, p.block < w1.heap.size → v.ownBlock ≠ some p.block → w2.cell? p = w1.cell? p ∧ w2.frozen? p = w1.frozen? p := fun p h1 h2 => by
    rw [hgrow.cell_far p (by simp; omega) (fun h => h2 h.symm), hgrow.frozen_far p (by simp; omega) (fun h => h2 h.symm)]
    exact ⟨((Below.refl w1.heap.size w1).alloc (Nat.le_refl _) _).cell h1, ((Below.refl w1.heap.size w1).alloc (Nat.le_refl _) _).frozen h1⟩
  have far3 : ∀ (p : Addr) (u : Value), p.block ≠ V0.heap.size → (w2.setCell ⟨V0.heap.size, 1, none⟩ u).cell? p = w2.cell? p := fun p u h => World.cell?_setCell_other _ _ _ _ (by rintro rfl; exact h rfl)
  have nV : v.ownBlock ≠ some V0.heap.size := fun h => by have := ob _ h; omega
  have oldV : ∀ k, w2.cell? ⟨V0.heap.size, k, none⟩ = wr.cell? ⟨V0.heap.size, k, none⟩ := fun k => (far _ (by show V0.heap.size < _; omega) nV).1.trans (hb1.cell l0)
  refine ⟨?_, _, _, fun b => S b ∨ Fresh wr w1 b, ?_, World.cell?_setCell_same _ _ _ ((oldV 1).trans v1), ?_, ?_, ownsRow_setCell_below hown2 (by show V0.heap.size < _; omega) _, ?_, ?_⟩
  · have b1 := (hbV.trans (hb1.mono hbV.size)).alloc (Nat.le_trans hbV.size s1) (.cells #[.string t.name, .slice A1 m1 cc1, .int .i64 t.off] 25)
    exact (b1.grown hgrow (by simp; omega) (fun k hk => by have := ob k hk; omega)).setCell (Nat.le_refl _) _
  · rw [World.cell?_setCell_other _ _ _ _ (by intro h; injection h with _ h2; cases h2), oldV 0]; exact v0
  · rw [World.cell?_setCell_other _ _ _ _ (by intro h; injection h with _ h2; cases h2), oldV 2]; exact v2
  · rw [World.frozen?_setCell]
    refine (hgrow.frozen_far ⟨V0.heap.size, 1, none⟩ (by simp; omega) (fun h => nV h.symm)).trans ?_
    refine ((((Below.refl w1.heap.size w1).alloc (Nat.le_refl _) _).frozen (p := ⟨V0.heap.size, 1, none⟩) (by show V0.heap.size < _; omega))).trans ?_
    exact (hb1.frozen (p := ⟨V0.heap.size, 1, none⟩) l0).trans vf
  · refine RowsOf.snoc hns (hl1.keep (fun p hp => ?_) (fun b hb => .inr hb)) (hrows.keep (fun p hp => ?_) (fun b hb => .inl hb))
    · have h1 : wr.heap.size ≤ p.block := hp.1
      rw [far3 p _ (by omega), World.frozen?_setCell]
      exact far p hp.2 (fun h => by have := ol _ h; omega)
    · obtain ⟨h1, h2, h3⟩ := hS _ hp
      obtain ⟨e1, e2⟩ := far p (by omega) h3
      rw [far3 p _ (by omega), World.frozen?_setCell]
      exact ⟨e1.trans (hb1.cell h2), e2.trans (hb1.frozen h2)⟩
  · intro b hb
    have hz : (w2.setCell ⟨V0.heap.size, 1, none⟩ (.slice (some ⟨gg, 0, none⟩) (j + 1) cap)).heap.size = w2.heap.size := by simp [World.setCell]
    rw [hz]
    rcases hb with hb | hb
    · obtain ⟨h1, h2, h3⟩ := hS _ hb
      refine ⟨h1, by omega, fun h => ?_⟩
      simp only [Value.ownBlock, Option.some.injEq] at h
      rcases hat with h4 | h4
      · exact h3 (by rw [h4, h])
      · omega
    · have h1 : wr.heap.size ≤ b := hb.1
      have h2 : b < w1.heap.size := hb.2
      refine ⟨by omega, by omega, fun h => ?_⟩
      simp only [Value.ownBlock, Option.some.injEq] at h
      rcases hat with h4 | h4
      · have := ol _ h4; omega
      · omega

theorem substL_step {ns : List ByteArray} {us : List Ty} {xs : List Ty} {k : Nat} {x : Ty} (hx : xs[k]? = some x) : Ty.substL ns us (xs.take (k + 1)) = Ty.substL ns us (xs.take k) ++ [Ty.subst ns us x] := by
  rw [List.take_add_one, hx, Ty.substL_map, Ty.substL_map]
  simp

/-- Substituting nothing is cloning. -/
theorem subst_none : ∀ t : Ty, t.subst [] [] = t := by
  refine Ty.ind fun s xs o ih => ?_
  have hl : Ty.substL [] [] xs = xs := by
    rw [Ty.substL_map]
    conv => rhs; rw [← List.map_id xs]
    exact List.map_congr_left fun x hx => ih x hx
  cases xs with
  | nil => simp only [Ty.subst, Ty.pick]
  | cons x r => rw [Ty.substL_eq _ _ _ _ _ (by simp), hl]

end Go.Proofs.YtbeejmlmplgaeaaGreatDoor
namespace Go.Proofs.YtbeejmlmplgaeaaGreatDoor
open Go.RowKit

/-- Types that the call has made. -/
def AllPost (w : World) (ts : List Ty) (e : Ending) (w' : World) : Prop :=
  ∃ A c, e = .returned (.slice A ts.length c) ∧ Lies w' (Fresh w w') A ts.length ts ∧ Below w.heap.size w w'

/-- Types that the call has made, in blocks that may be written. -/
def AllNeat (w : World) (ts : List Ty) (e : Ending) (w' : World) : Prop :=
  ∃ A c, e = .returned (.slice A ts.length c) ∧ LiesN w' True (Fresh w w') A ts.length ts ∧ Below w.heap.size w w'
theorem AllNeat.post {w : World} {ts : List Ty} {e : Ending} {w' : World} (h : AllNeat w ts e w') : AllPost w ts e w' :=
  let ⟨A, c, h1, h2, h3⟩ := h; ⟨A, c, h1, h2.lies, h3⟩
end Go.Proofs.YtbeejmlmplgaeaaGreatDoor
