/- The walks of the reference's Subst and All of types. -/
import Derived.Test.YtjhlehdjdaphcaaDoorQMExA
import Derived.Test.YtjhlehdjdaphcaaDoorShelf
import Derived.Deep.RegionLaw
import Derived.Deep.AppendLies
import Derived.BigQuiet
import Derived.Deep.QuietTactic
import Derived.Deep.RegionHeld3
import Derived.Lib.LaidTab
import Derived.Lib.SmallJoins
import Derived.WalkLawsBesides
import Derived.WalkSpells
namespace Go.Proofs.YtjhlehdjdaphcaaDoor
open Go.RowKit

/-- A type that the call has made, in blocks that may be written. -/
def TyNeat (w : World) (t : Ty) (e : Ending) (w' : World) : Prop :=
  ∃ A m c, e = .returned (.agg #[.string t.name, .slice A m c, .int .i64 t.off]) ∧ t.name.size ≤ 9223372036854775807 ∧ LiesN w' True (Fresh w w') A m t.args ∧ Below w.heap.size w w'
/-- A type that the call has made. -/
def TyPost (w : World) (t : Ty) (e : Ending) (w' : World) : Prop :=
  ∃ A m c, e = .returned (.agg #[.string t.name, .slice A m c, .int .i64 t.off]) ∧ t.name.size ≤ 9223372036854775807 ∧ Lies w' (Fresh w w') A m t.args ∧ Below w.heap.size w w'

theorem infoTy : (Tryd.prog.info? 25).map (fun i => (i.zero, i.size, i.bytes)) = some (some (.agg #[.string ⟨#[]⟩, .slice none 0 0, .int .i64 0]), 3, 48) := by kernel_rfl

def pickAt (s : ByteArray) (ns : List ByteArray) (us : List Ty) (k : Nat) : Prop := Ty.pick s ns us = Ty.pick s (ns.drop k) (us.drop k)
theorem pick_on {s n : ByteArray} {ns : List ByteArray} {us : List Ty} {k : Nat} (h : pickAt s ns us k) (hn : ns[k]? = some n) (hne : n.data.toList ≠ s.data.toList) : pickAt s ns us (k + 1) := by
  obtain ⟨h1, e1⟩ := List.getElem?_eq_some_iff.1 hn
  unfold pickAt at *
  rw [h, List.drop_eq_getElem_cons h1, e1, Ty.pick, if_neg hne, List.tail_drop]
theorem pick_hit {s n : ByteArray} {ns : List ByteArray} {us : List Ty} {k : Nat} (h : pickAt s ns us k) (hn : ns[k]? = some n) (he : n.data.toList = s.data.toList) : Ty.pick s ns us = us[k]? := by
  obtain ⟨h1, e1⟩ := List.getElem?_eq_some_iff.1 hn
  unfold pickAt at h
  rw [h, List.drop_eq_getElem_cons h1, e1, Ty.pick, if_pos he, List.head?_drop]
theorem pick_end {s : ByteArray} {ns : List ByteArray} {us : List Ty} {k : Nat} (h : pickAt s ns us k) (hk : ns.length ≤ k) : Ty.pick s ns us = none := by
  unfold pickAt at h
  rw [h, List.drop_eq_nil_of_le hk]
  simp only [Ty.pick]

theorem listL_len : ∀ xs : List Ty, xs.length ≤ (Ty.listL xs).length
  | [] => Nat.zero_le _
  | .mk s ys o :: r => by
    have := listL_len r
    simp only [List.length_cons, Ty.listL, Ty.list, List.length_append]
    omega
theorem listL_mem : ∀ {xs : List Ty} {x : Ty}, x ∈ xs → x.list.length ≤ (Ty.listL xs).length
  | y :: r, x, h => by
    simp only [Ty.listL, List.length_append]
    rcases List.mem_cons.1 h with rfl | h
    · omega
    · have := listL_mem h
      omega
theorem subst_nil_none {ns : List ByteArray} {us : List Ty} {s : ByteArray} {o : Int} (h : Ty.pick s ns us = none) : Ty.subst ns us (.mk s [] o) = .mk s (Ty.substL ns us []) o := by
  rw [Ty.subst, h]; simp only [Ty.substL]
theorem subst_nil_some {ns : List ByteArray} {us : List Ty} {s r : ByteArray} {ys : List Ty} {o p : Int} (h : Ty.pick s ns us = some (.mk r ys p)) : Ty.subst ns us (.mk s [] o) = .mk r ys o := by
  rw [Ty.subst, h]

/-- What holds at the head of the second loop's rounds: what is built so far. -/
def SubRel (wr V : World) (s : ByteArray) (o : Int) (k : Nat) (ts : List Ty) : Prop :=
  Below wr.heap.size wr V ∧ ∃ v cs S, V.cell? ⟨wr.heap.size, 0, none⟩ = some (.string s) ∧ V.cell? ⟨wr.heap.size, 1, none⟩ = some v ∧ V.cell? ⟨wr.heap.size, 2, none⟩ = some (.int .i64 o) ∧ V.frozen? ⟨wr.heap.size, 1, none⟩ = false
    ∧ V.ownsRow (wr.heap.size + 1) 25 3 v k cs ∧ RowsOf V True S cs ts ∧ (∀ b, S b → wr.heap.size + 1 ≤ b ∧ b < V.heap.size ∧ v.ownBlock ≠ some b)

theorem TyNeat.post {w : World} {t : Ty} {e : Ending} {w' : World} (h : TyNeat w t e w') : TyPost w t e w' := by
  obtain ⟨A, m, c, he, hn, hl, hb⟩ := h
  exact ⟨A, m, c, he, hn, hl.lies, hb⟩
theorem TyNeat.from {wr V : World} {t : Ty} {e : Ending} {w' : World} (hV : Below wr.heap.size wr V) (h : TyNeat V t e w') : TyNeat wr t e w' := by
  obtain ⟨A, m, c, he, hn, hl, hb⟩ := h
  exact ⟨A, m, c, he, hn, hl.wide fun b hb => ⟨Nat.le_trans hV.size hb.1, hb.2⟩, hV.trans (hb.mono hV.size)⟩
/-- One more type is built: the relation at the next round's head. -/
theorem sub_step {V0 wr w1 w2 : World} {s : ByteArray} {o : Int} {j : Nat} {ts : List Ty} {v : Value} {cs : List Value} {S : Nat → Prop} {t : Ty} {A1 : Option Addr} {m1 cc1 gg cap : Nat}
    (hbV : Below V0.heap.size V0 wr) (v0 : wr.cell? ⟨V0.heap.size, 0, none⟩ = some (.string s)) (v1 : wr.cell? ⟨V0.heap.size, 1, none⟩ = some v) (v2 : wr.cell? ⟨V0.heap.size, 2, none⟩ = some (.int .i64 o)) (vf : wr.frozen? ⟨V0.heap.size, 1, none⟩ = false)
    (hown : wr.ownsRow (V0.heap.size + 1) 25 3 v j cs) (hrows : RowsOf wr True S cs ts) (hS : ∀ b, S b → V0.heap.size + 1 ≤ b ∧ b < wr.heap.size ∧ v.ownBlock ≠ some b)
    (hb1 : Below wr.heap.size wr w1) (hns : t.name.size ≤ 9223372036854775807) (hl1 : LiesN w1 True (Fresh wr w1) A1 m1 t.args)
    (hown2 : w2.ownsRow (V0.heap.size + 1) 25 3 (.slice (some ⟨gg, 0, none⟩) (j + 1) cap) (j + 1) (cs ++ [.string t.name, .slice A1 m1 cc1, .int .i64 t.off]))
    (hgrow : (w1.alloc (.cells #[.string t.name, .slice A1 m1 cc1, .int .i64 t.off] 25)).grownBy w2 v.ownBlock) (hat : v.ownBlock = some gg ∨ gg = w1.heap.size + 1) (_hlt : gg < w2.heap.size) :
    SubRel V0 (w2.setCell ⟨V0.heap.size, 1, none⟩ (.slice (some ⟨gg, 0, none⟩) (j + 1) cap)) s o (j + 1) (ts ++ [t]) := by
  have l0 : V0.heap.size < wr.heap.size := cell_lt v0
  have s1 := hb1.size
  have s2 : w1.heap.size + 1 ≤ w2.heap.size := by have := hgrow.size; simpa using this
  have ob := own_base hown
  have ol : ∀ k, v.ownBlock = some k → k < wr.heap.size := fun k hk => (hown.lt k hk).2
  -- a cell of a block that is neither new nor the row's is as it was
  have far : ∀ p : Addr, p.block < w1.heap.size → v.ownBlock ≠ some p.block → w2.cell? p = w1.cell? p ∧ w2.frozen? p = w1.frozen? p := fun p h1 h2 => by
    rw [hgrow.cell_far p (by simp; omega) (fun h => h2 h.symm), hgrow.frozen_far p (by simp; omega) (fun h => h2 h.symm)]
    exact ⟨((Below.refl w1.heap.size w1).alloc (Nat.le_refl _) _).cell h1, ((Below.refl w1.heap.size w1).alloc (Nat.le_refl _) _).frozen h1⟩
  have far3 : ∀ (p : Addr) (u : Value), p.block ≠ V0.heap.size → (w2.setCell ⟨V0.heap.size, 1, none⟩ u).cell? p = w2.cell? p := fun p u h => World.cell?_setCell_other _ _ _ _ (by rintro rfl; exact h rfl)
  have nV : v.ownBlock ≠ some V0.heap.size := fun h => by have := ob _ h; omega
  have oldV : ∀ k, w2.cell? ⟨V0.heap.size, k, none⟩ = wr.cell? ⟨V0.heap.size, k, none⟩ := fun k => (far _ (by show V0.heap.size < _; omega) nV).1.trans (hb1.cell l0)
  refine ⟨?_, _, _, fun b => S b ∨ Fresh wr w1 b, ?_, World.cell?_setCell_same _ _ _ ((oldV 1).trans v1), ?_, ?_, ownsRow_setCell_below hown2 (by show V0.heap.size < _; omega) _, ?_, ?_⟩
  · have b1 := (hbV.trans (hb1.mono hbV.size)).alloc (Nat.le_trans hbV.size s1) (.cells #[.string t.name, .slice A1 m1 cc1, .int .i64 t.off] 25)
    exact (b1.grown hgrow (by simp; omega) (fun k hk => by have := ob k hk; omega)).setCell (Nat.le_refl _) _
  · rw [World.cell?_setCell_other _ _ _ _ (by intro h; injection h with _ h2; cases h2), oldV 0]; exact v0
  · rw [World.cell?_setCell_other _ _ _ _ (by intro h; injection h with _ h2; cases h2), oldV 2]; exact v2
  · rw [World.frozen?_setCell]
    refine (hgrow.frozen_far ⟨V0.heap.size, 1, none⟩ (by simp; omega) (fun h => nV h.symm)).trans ?_
    refine ((((Below.refl w1.heap.size w1).alloc (Nat.le_refl _) _).frozen (p := ⟨V0.heap.size, 1, none⟩) (by show V0.heap.size < _; omega))).trans ?_
    exact (hb1.frozen (p := ⟨V0.heap.size, 1, none⟩) l0).trans vf
  · refine RowsOf.snoc hns (hl1.keep (fun p hp => ?_) (fun b hb => .inr hb)) (hrows.keep (fun p hp => ?_) (fun b hb => .inl hb))
    · have h1 : wr.heap.size ≤ p.block := hp.1
      rw [far3 p _ (by omega), World.frozen?_setCell]
      exact far p hp.2 (fun h => by have := ol _ h; omega)
    · obtain ⟨h1, h2, h3⟩ := hS _ hp
      obtain ⟨e1, e2⟩ := far p (by omega) h3
      rw [far3 p _ (by omega), World.frozen?_setCell]
      exact ⟨e1.trans (hb1.cell h2), e2.trans (hb1.frozen h2)⟩
  · intro b hb
    have hz : (w2.setCell ⟨V0.heap.size, 1, none⟩ (.slice (some ⟨gg, 0, none⟩) (j + 1) cap)).heap.size = w2.heap.size := by simp [World.setCell]
    rw [hz]
    rcases hb with hb | hb
    · obtain ⟨h1, h2, h3⟩ := hS _ hb
      refine ⟨h1, by omega, fun h => ?_⟩
      simp only [Value.ownBlock, Option.some.injEq] at h
      rcases hat with h4 | h4
      · exact h3 (by rw [h4, h])
      · omega
    · have h1 : wr.heap.size ≤ b := hb.1
      have h2 : b < w1.heap.size := hb.2
      refine ⟨by omega, by omega, fun h => ?_⟩
      simp only [Value.ownBlock, Option.some.injEq] at h
      rcases hat with h4 | h4
      · have := ol _ h4; omega
      · omega

theorem substL_step {ns : List ByteArray} {us : List Ty} {xs : List Ty} {k : Nat} {x : Ty} (hx : xs[k]? = some x) : Ty.substL ns us (xs.take (k + 1)) = Ty.substL ns us (xs.take k) ++ [Ty.subst ns us x] := by
  rw [List.take_add_one, hx, Ty.substL_map, Ty.substL_map]
  simp

set_option maxRecDepth 100000 in
set_option maxHeartbeats 8000000 in
theorem sub_gen (ns : List ByteArray) (us : List Ty) (N U : Option Addr) (nl ul nc uc : Nat)
    (hcl : ∀ u ∈ us, ∀ (A : Option Addr) (m c : Nat) (V : World), u.name.size ≤ 9223372036854775807 → Here V A m u.args → Calls Tryd.prog 47 #[.agg #[.string u.name, .slice A m c, .int .i64 u.off], .slice none 0 0, .slice none 0 0] V (TyNeat V u)) :
    ∀ (t : Ty) (A : Option Addr) (m c : Nat) (w : World), t.name.size ≤ 9223372036854775807 → t.list.length ≤ 1000000 → nl ≤ 1000000 → Here w A m t.args → Sl w N nl ns → Here w U ul us →
    Calls Tryd.prog 47 #[.agg #[.string t.name, .slice A m c, .int .i64 t.off], .slice N nl nc, .slice U ul uc] w (TyNeat w (t.subst ns us)) := by
  refine Ty.ind fun s xs o ih A m c w hs hll hnn h hN hU => ?_
  simp only [Ty.name, Ty.args, Ty.off] at hs h ⊢
  have hb1 : Below w.heap.size w (w.alloc (.cells #[.string s, .slice A m c, .int .i64 o] 25)) := (Below.refl _ _).alloc (Nat.le_refl _) _
  have hb : Below w.heap.size w ((w.alloc (.cells #[.string s, .slice A m c, .int .i64 o] 25)).alloc (.cells #[.string ⟨#[]⟩, .slice none 0 0, .int .i64 0] 25)) := hb1.alloc (by simp) _
  have hxl := h.len
  have hll2 := listL_len xs
  have hld : Ty.list (.mk s xs o) = s :: Ty.listL xs := by rw [Ty.list]
  rw [hld, List.length_cons] at hll
  have hmm : m ≤ 1000000 := by omega
  have HLL := Lib.hid hll
  have IH := Lib.hid ih
  have HN := Lib.hid hN
  have HU := Lib.hid hU
  have H := Lib.hid h
  have HCL := Lib.hid hcl
  have HX := Lib.hid ((Box.new w s A m c o 25).later (w' := (w.alloc (.cells #[.string s, .slice A m c, .int .i64 o] 25)).alloc (.cells #[.string ⟨#[]⟩, .slice none 0 0, .int .i64 0] 25)) ((Below.refl _ _).alloc (Nat.le_refl _) _))
  have hy := Box.new (w.alloc (.cells #[.string s, .slice A m c, .int .i64 o] 25)) ⟨#[]⟩ none 0 0 0 25
  have hf : ∀ k, k < 3 → ((w.alloc (.cells #[.string s, .slice A m c, .int .i64 o] 25)).alloc (.cells #[.string ⟨#[]⟩, .slice none 0 0, .int .i64 0] 25)).frozen? ⟨w.heap.size + 1, k, none⟩ = false := by
    intro k hk
    have e : w.heap.size + 1 = (w.alloc (.cells #[.string s, .slice A m c, .int .i64 o] 25)).heap.size := by simp
    rw [e]
    simp
  rw [show (w.alloc (.cells #[.string s, .slice A m c, .int .i64 o] 25)).heap.size = w.heap.size + 1 by simp] at hy
  have HY := Lib.hid hy
  have HF := Lib.hid hf
  have HB := Lib.hid hb
  have HBW := Lib.hid (show ((w.alloc (.cells #[.string s, .slice A m c, .int .i64 o] 25)).alloc (.cells #[.string ⟨#[]⟩, .slice none 0 0, .int .i64 0] 25)).heap.size = w.heap.size + 2 by simp)
  have hP : pickAt s ns us 0 := by unfold pickAt; rw [List.drop_zero, List.drop_zero]
  have HP := Lib.hid hP
  have HXL := Lib.hid hxl
  clear ih hN hU h hb hb1 hcl hy hf hld hll hll2 hP hxl
  obtain ⟨i0, hi0, hz0, hz1, hz2⟩ := info_parts infoTy
  go_enter Tryd.func47, Tryd.ntmps47
  go_wp2_with fail
  generalize hW : (w.alloc (.cells #[.string s, .slice A m c, .int .i64 o] 25)).alloc (.cells #[.string ⟨#[]⟩, .slice none 0 0, .int .i64 0] 25) = W at *
  clear hW
  go_loopw [7] (fun i wr => ∃ k : Nat, k ≤ nl ∧ i = .int .i64 k ∧ pickAt s ns us k ∧ Below W.heap.size W wr) (fun i _ => nl - (intOf i).toNat)
  case atStart => exact ⟨0, by omega, rfl, HP.out, Below.refl _ _⟩
  case round =>
    obtain ⟨k, hk, rfl, hp, hbel⟩ := hrel
    have hwW := HBW.out
    obtain ⟨x0, x1, x2⟩ := HX.out.later hbel
    obtain ⟨y0, y1, y2⟩ := HY.out.later hbel
    have f0 := (hbel.frozen (p := ⟨w.heap.size + 1, 0, none⟩) (by show w.heap.size + 1 < _; omega)).trans (HF.out 0 (by omega))
    have f1 := (hbel.frozen (p := ⟨w.heap.size + 1, 1, none⟩) (by show w.heap.size + 1 < _; omega)).trans (HF.out 1 (by omega))
    have f2 := (hbel.frozen (p := ⟨w.heap.size + 1, 2, none⟩) (by show w.heap.size + 1 < _; omega)).trans (HF.out 2 (by omega))
    have hbw := HB.out.trans (hbel.mono HB.out.size)
    have hbs := hbel.size
    have HBL := Lib.hid hbel
    have HBX := Lib.hid hbw
    have HPK := Lib.hid hp
    clear hp
    by_cases hgo : k < nl ∧ m = 0
    · obtain ⟨hlt, rfl⟩ := hgo
      obtain rfl : xs = [] := List.eq_nil_of_length_eq_zero HXL.out
      have z0 : (0 : Int) ≤ k := by omega
      have z1 : (k : Int) < nl := by omega
      obtain ⟨a, q, rfl, hq, c0⟩ := (HN.out.later hbw).get hlt
      have HQ := Lib.hid hq
      clear hbel hbw hq
      by_cases he : q.toList = s.toList
      · have e1 : (q.toList == s.toList) = true := by simp [he]
        have HE := Lib.hid (show q.data.toList = s.data.toList by rw [← Lib.toList_data, ← Lib.toList_data]; exact he)
        clear he
        go_wp2_with fail
        go_quiet (fail)
        by_cases hu : k < ul
        · have z2 : (k : Int) < ul := by omega
          obtain ⟨b, r, ys, p, B, l, d, rfl, hx, _, d0, d1, d2, hr, hl⟩ := Lies.get (Here.later HU.out HBX.out) hu
          have C := Lib.hid (fun (V : World) (hV : Below wr.heap.size wr V) => HCL.out _ (List.mem_of_getElem? hx) B l d V hr (Here.later hl hV))
          have HSB := Lib.hid (subst_nil_some (o := o) ((pick_hit HPK.out HQ.out HE.out).trans hx))
          clear hx hl
          go_wp2_with fail
          refine (C.out _ (below_drewN (Below.refl _ _) _)).mono ?_
          rintro e w1 ⟨A1, m1, cc1, rfl, hns, hl1, hb1⟩
          simp only [Ty.name, Ty.off, Ty.args] at hns hl1 ⊢
          have hb2 : Below wr.heap.size wr w1 := (below_drewN (Below.refl _ wr) _).trans hb1
          have hb3 := hb2.alloc hb2.size (.cells #[.string r, .slice A1 m1 cc1, .int .i64 p] 25)
          have hb4 := hb2.alloc hb2.size (.cells #[.string r, .slice A1 m1 cc1, .int .i64 o] 25)
          have hsz1 := hb2.size
          have x2' := (hb3.cell (p := ⟨w.heap.size, 2, none⟩) (by show w.heap.size < _; omega)).trans x2
          have y0' := (hb4.cell (p := ⟨w.heap.size + 1, 0, none⟩) (by show w.heap.size + 1 < _; omega)).trans y0
          have y1' := (hb4.cell (p := ⟨w.heap.size + 1, 1, none⟩) (by show w.heap.size + 1 < _; omega)).trans y1
          have y2' := (hb4.cell (p := ⟨w.heap.size + 1, 2, none⟩) (by show w.heap.size + 1 < _; omega)).trans y2
          have f0' := (hb4.frozen (p := ⟨w.heap.size + 1, 0, none⟩) (by show w.heap.size + 1 < _; omega)).trans f0
          have f1' := (hb4.frozen (p := ⟨w.heap.size + 1, 1, none⟩) (by show w.heap.size + 1 < _; omega)).trans f1
          have f2' := (hb4.frozen (p := ⟨w.heap.size + 1, 2, none⟩) (by show w.heap.size + 1 < _; omega)).trans f2
          have HL1 := Lib.hid (show LiesN w1 True (Fresh wr w1) A1 m1 ys from hl1)
          have HB3 := Lib.hid (HBX.out.trans (hb4.mono HBX.out.size))
          clear hl1 hb1 hb2 hb3 hb4
          go_wp2_with fail
          refine bodyPost_ret (v := .agg #[.string r, .slice A1 m1 cc1, .int .i64 o]) (by simp [results, Tryd.results47, go_sem, y0', y1', y2']) rfl ?_
          rw [HSB.out]
          have hS : ∀ b, Fresh wr w1 b → b < w1.heap.size := fun b h => h.2
          have hno : ∀ k, ¬ Fresh wr w1 (Addr.block ⟨w.heap.size + 1, k, none⟩) := fun k h => by have h1 : wr.heap.size ≤ w.heap.size + 1 := h.1; omega
          refine ⟨A1, m1, cc1, rfl, hns, ((((HL1.out.alloc hS _).setCell _ _ (hno _)).setCell _ _ (hno _)).setCell _ _ (hno _)).wide ?_, ?_⟩
          · intro b hb
            have h1 : wr.heap.size ≤ b := hb.1
            have h2 : b < w1.heap.size := hb.2
            exact ⟨by omega, by simp [World.setCell]; omega⟩
          · exact ((HB3.out.setCell (by show w.heap.size ≤ w.heap.size + 1; omega) _).setCell (by show w.heap.size ≤ w.heap.size + 1; omega) _).setCell (by show w.heap.size ≤ w.heap.size + 1; omega) _
        · have z2 : (ul : Int) ≤ k := by omega
          have HSB := Lib.hid (subst_nil_none (o := o) ((pick_hit HPK.out HQ.out HE.out).trans (List.getElem?_eq_none (by rw [HU.out.len]; omega))))
          go_wp2_with fail
          refine bodyPost_ret (v := .agg #[.string s, .slice A 0 c, .int .i64 o]) (by simp [results, Tryd.results47, go_sem, y0, y1, y2]) rfl ?_
          rw [HSB.out]
          simp only [Ty.substL]
          refine ⟨A, 0, c, rfl, hs, LiesN.nil _ _ _ _, ?_⟩
          exact (((below_drewN HBX.out _).setCell (by show w.heap.size ≤ w.heap.size + 1; omega) _).setCell (by show w.heap.size ≤ w.heap.size + 1; omega) _).setCell (by show w.heap.size ≤ w.heap.size + 1; omega) _
      · have e1 : (q.toList == s.toList) = false := by simpa using he
        have HE := Lib.hid (show q.data.toList ≠ s.data.toList by rw [← Lib.toList_data, ← Lib.toList_data]; exact he)
        clear he
        go_wp2_with fail
        go_quiet (fail)
        go_wp2_with fail
        go_roundw
        case rel => exact ⟨k + 1, by omega, by go_num, pick_on HPK.out HQ.out HE.out, below_drewN HBL.out _⟩
        case measure => simp [intOf]; omega
    · have hsub : Ty.subst ns us (.mk s xs o) = .mk s (Ty.substL ns us xs) o := by
        by_cases hx : xs = []
        · subst hx
          have hm0 : m = 0 := by have := HXL.out; simpa using this.symm
          exact subst_nil_none (pick_end HPK.out (by rw [HN.out.len]; omega))
        · exact Ty.substL_eq ns us s xs o hx
      have HSB := Lib.hid hsub
      have hv : ((k : Int) < nl ∧ ((m : Int) == 0) = false) ∨ (nl : Int) ≤ k := by
        by_cases h1 : k < nl
        · exact .inl ⟨by omega, by simp; omega⟩
        · exact .inr (by omega)
      clear hgo hsub
      rcases hv with ⟨q1, q2⟩ | q1
      all_goals
        go_wp2_with fail
        have hrel0 : SubRel wr (wr.alloc (.cells #[.string s, .slice none 0 0, .int .i64 o] 25)) s o 0 [] := by
          refine ⟨(Below.refl _ _).alloc (Nat.le_refl _) _, .slice none 0 0, [], fun _ => False, ?_, ?_, ?_, by simp, World.ownsRow_nil _ _ _ _, rfl, fun b h => h.elim⟩
          all_goals (rw [World.cell?_alloc_at _ _ _ _ rfl]; rfl)
        have HR0 := Lib.hid hrel0
        clear hrel0
        obtain ⟨V0, hV0⟩ : ∃ V0, V0 = wr := ⟨wr, rfl⟩
        subst hV0
        go_loopw [10] (fun i V => ∃ k : Nat, k ≤ m ∧ i = .int .i64 k ∧ SubRel V0 V s o k (Ty.substL ns us (xs.take k))) (fun i _ => m - (intOf i).toNat)
        case atStart => exact ⟨0, by omega, rfl, by rw [List.take_zero]; simp only [Ty.substL]; exact HR0.out⟩
        case round =>
          obtain ⟨j, hj, rfl, hbV, v, cs, S, v0, v1, v2, vf, hown, hrows, hS⟩ := hrel
          have hbx2 := HBX.out.trans (hbV.mono HBX.out.size)
          have x1' := (hbV.cell (p := ⟨w.heap.size, 1, none⟩) (by show w.heap.size < _; omega)).trans x1
          have hvs := hbV.size
          have HBV := Lib.hid hbV
          have HBY := Lib.hid hbx2
          have HRO := Lib.hid hrows
          have HSS := Lib.hid hS
          clear hrows hS
          by_cases hlt : j < m
          · have y3 : (0 : Int) ≤ j := by omega
            have y4 : (j : Int) < m := by omega
            obtain ⟨a, r, ys, p, B, l, d, rfl, hx, _, c0, c1, c2, hr, hl⟩ := Lies.get (Here.later H.out hbx2) hlt
            have hls := listL_mem (List.mem_of_getElem? hx)
            have C := Lib.hid (fun (V : World) (hV : Below wr.heap.size wr V) => (IH.out _ (List.mem_of_getElem? hx) B l d V hr (by have := HLL.out; omega) hnn (Here.later hl hV) ((HN.out.later hbx2).later hV) (Here.later (Here.later HU.out hbx2) hV)).mono fun e w' h => TyNeat.from hV h)
            simp only [Ty.name, Ty.off] at C
            have hst := substL_step (ns := ns) (us := us) hx
            have HST := Lib.hid hst
            have hb1 := cell_lt v1
            have hb1' : V0.heap.size < wr.heap.size := hb1
            have hob := own_base hown
            have HOB := Lib.hid hob
            clear hx hl hls hbx2 hbV hst hob
            generalize hT : Ty.subst ns us (.mk r ys p) = t at *
            clear hT
            go_wp2_with fail
            go_region_law (first
              | (go_simp; go_at_call 47; refine (C.out _ (by first | exact Below.refl _ _ | exact (Below.refl _ _).drew | exact (Below.refl _ _).drew.drew)).mono ?_; rintro e w1 ⟨A1, m1, cc1, rfl, hns, hl1, hb2⟩; have v1c := (hb2.cell (p := ⟨V0.heap.size, 1, none⟩) hb1').trans v1; have HO1 := Lib.hid (own_below hown hb2); have hsz1 := hb2.size; have v1e := ((((Below.refl w1.heap.size w1).alloc (Nat.le_refl _) (.cells #[.string t.name, .slice A1 m1 cc1, .int .i64 t.off] 25)).cell (p := ⟨V0.heap.size, 1, none⟩) (by show V0.heap.size < _; omega)).trans v1c); have HL1 := Lib.hid hl1; have HB2 := Lib.hid hb2; clear hl1 hb2)
              | (refine step_append_lies _ rfl _ _ 23 rfl (V0.heap.size + 1) 25 i0 _ 3 48 Tryd.underlying23 hi0 hz0 hz1 hz2 rfl (by omega) v j cs (by rfl) (HO1.out.alloc _) ⟨w1.heap.size, 0, none⟩ 1 1 [.string t.name, .slice A1 m1 cc1, .int .i64 t.off] (by rfl) (by rfl) (World.news_of_block (cs := #[.string t.name, .slice A1 m1 cc1, .int .i64 t.off]) (t := 25) (fr := (0, 0)) (heap_alloc_new w1 _)) (by simp [Value.oneCell']) (by omega) (by unfold maxLen; omega) (by omega) (by simp; omega) (w1.heap.size + 1) (by simp) ?_
                 intro gg cap w2 hown2 hgrow2 hat2 hlt2
                 have v1d := (hgrow2.cell_far ⟨V0.heap.size, 1, none⟩ (by simp; omega) (fun h => absurd (HOB.out _ h.symm) (Nat.not_succ_le_self _))).trans ((((Below.refl w1.heap.size w1).alloc (Nat.le_refl _) _).cell (p := ⟨V0.heap.size, 1, none⟩) (by show V0.heap.size < _; omega)).trans v1c)
                 have vfd := (hgrow2.frozen_far ⟨V0.heap.size, 1, none⟩ (by simp; omega) (fun h => absurd (HOB.out _ h.symm) (Nat.not_succ_le_self _))).trans ((((Below.refl w1.heap.size w1).alloc (Nat.le_refl _) _).frozen (p := ⟨V0.heap.size, 1, none⟩) (by show V0.heap.size < _; omega)).trans ((HB2.out.frozen (p := ⟨V0.heap.size, 1, none⟩) hb1').trans vf))
                 have HR2 := Lib.hid (sub_step HBV.out v0 v1 v2 vf hown HRO.out HSS.out HB2.out hns HL1.out hown2 hgrow2 hat2 hlt2)
                 clear hown2 hgrow2 hat2 hlt2))
            all_goals
              go_wp2
              go_roundw
              case rel => exact ⟨j + 1, by omega, by go_num, by rw [HST.out]; exact HR2.out⟩
              case measure => simp [intOf]; omega
          · have y4 : (m : Int) ≤ j := by omega
            have hjm : j = m := by omega
            subst hjm
            obtain ⟨A1, c1, rfl, hl1⟩ := lies_of_own (S' := fun b => V0.heap.size + 1 ≤ b ∧ b < wr.heap.size) hown HRO.out (fun b hb => ⟨(HSS.out b hb).1, (HSS.out b hb).2.1⟩) (fun g hg => ⟨own_base hown g hg, (hown.lt g hg).2⟩) (by omega)
            rw [List.take_of_length_le (by rw [HXL.out]; omega)] at hl1
            have HL1 := Lib.hid hl1
            have y0' := (hbV.cell (p := ⟨w.heap.size + 1, 0, none⟩) (by show w.heap.size + 1 < _; omega)).trans y0
            have y1' := (hbV.cell (p := ⟨w.heap.size + 1, 1, none⟩) (by show w.heap.size + 1 < _; omega)).trans y1
            have y2' := (hbV.cell (p := ⟨w.heap.size + 1, 2, none⟩) (by show w.heap.size + 1 < _; omega)).trans y2
            have f0' := (hbV.frozen (p := ⟨w.heap.size + 1, 0, none⟩) (by show w.heap.size + 1 < _; omega)).trans f0
            have f1' := (hbV.frozen (p := ⟨w.heap.size + 1, 1, none⟩) (by show w.heap.size + 1 < _; omega)).trans f1
            have f2' := (hbV.frozen (p := ⟨w.heap.size + 1, 2, none⟩) (by show w.heap.size + 1 < _; omega)).trans f2
            clear hl1 hown hbx2 hbV
            go_wp2_with fail
            refine bodyPost_ret (v := .agg #[.string s, .slice A1 j c1, .int .i64 o]) (by simp [results, Tryd.results47, go_sem, y0', y1', y2']) rfl ?_
            rw [HSB.out]
            have hno : ∀ k, ¬ (V0.heap.size + 1 ≤ (Addr.block ⟨w.heap.size + 1, k, none⟩) ∧ (Addr.block ⟨w.heap.size + 1, k, none⟩) < wr.heap.size) := fun k h => by have h1 : V0.heap.size + 1 ≤ w.heap.size + 1 := h.1; omega
            refine ⟨A1, j, c1, rfl, hs, (((HL1.out.setCell _ _ (hno _)).setCell _ _ (hno _)).setCell _ _ (hno _)).wide ?_, ?_⟩
            · intro b hb
              have h1 : V0.heap.size + 1 ≤ b := hb.1
              have h2 : b < wr.heap.size := hb.2
              exact ⟨by omega, by simp [World.setCell]; omega⟩
            · exact ((HBY.out.setCell (by show w.heap.size ≤ w.heap.size + 1; omega) _).setCell (by show w.heap.size ≤ w.heap.size + 1; omega) _).setCell (by show w.heap.size ≤ w.heap.size + 1; omega) _

/-- Substituting nothing is cloning. -/
theorem subst_none : ∀ t : Ty, t.subst [] [] = t := by
  refine Ty.ind fun s xs o ih => ?_
  have hl : Ty.substL [] [] xs = xs := by
    rw [Ty.substL_map]
    conv => rhs; rw [← List.map_id xs]
    exact List.map_congr_left fun x hx => ih x hx
  cases xs with
  | nil => simp only [Ty.subst, Ty.pick]
  | cons x r => rw [Ty.substL_eq _ _ _ _ _ (by simp), hl]

theorem clone_neat (t : Ty) (A : Option Addr) (m c : Nat) (w : World) (hs : t.name.size ≤ 9223372036854775807) (hl : t.list.length ≤ 1000000) (h : Here w A m t.args) :
    Calls Tryd.prog 47 #[.agg #[.string t.name, .slice A m c, .int .i64 t.off], .slice none 0 0, .slice none 0 0] w (TyNeat w t) := by
  have := sub_gen [] [] none none 0 0 0 0 (fun u hu => by cases hu) t A m c w hs hl (by omega) h ⟨rfl, fun j p hj => by simp at hj⟩ (Lies.nil _ _ _)
  rwa [subst_none] at this
end Go.Proofs.YtjhlehdjdaphcaaDoor
namespace Go.Proofs.YtjhlehdjdaphcaaDoor
open Go.RowKit

theorem ref_subst_any (ns : List ByteArray) (us : List Ty) (N U : Option Addr) (nl ul nc uc : Nat) (t : Ty) (A : Option Addr) (m c : Nat) (w : World)
    (hus : ∀ u ∈ us, u.list.length ≤ 1000000) (hs : t.name.size ≤ 9223372036854775807) (hl : t.list.length ≤ 1000000) (hnl : nl ≤ 1000000) (h : Here w A m t.args) (hN : Sl w N nl ns) (hU : Here w U ul us) :
    Calls Tryd.prog 47 #[.agg #[.string t.name, .slice A m c, .int .i64 t.off], .slice N nl nc, .slice U ul uc] w (TyPost w (t.subst ns us)) :=
  (sub_gen ns us N U nl ul nc uc (fun u hu A m c V hs h => clone_neat u A m c V hs (hus u hu) h) t A m c w hs hl hnl h hN hU).mono fun _ _ h => h.post

/-- Types that the call has made. -/
def AllPost (w : World) (ts : List Ty) (e : Ending) (w' : World) : Prop :=
  ∃ A c, e = .returned (.slice A ts.length c) ∧ Lies w' (Fresh w w') A ts.length ts ∧ Below w.heap.size w w'

end Go.Proofs.YtjhlehdjdaphcaaDoor
