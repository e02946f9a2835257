/- The walks of types.Clone, types.Subst and types.All. The conditions: the types are small. -/
import Derived.Test.YtioamnaknjhbpaaDoorTwJ
import Derived.Test.YtioamnaknjhbpaaDoorTwH
namespace Go.Proofs.YtioamnaknjhbpaaDoor
open Go.RowKit

theorem pick_none_nil (s : ByteArray) : Ty.pick s [] [] = none := by rw [Ty.pick]
theorem gives_nil (w : World) : Gives w (.map none) (fun s => Ty.pick s [] []) := .inl ⟨rfl, fun s => pick_none_nil s⟩

/-- The first two blocks of a function that takes a type and gives one, and its written result. -/
theorem ret_res {w W : World} {t : Ty} {A : Option Addr} {m c k : Nat} (hB : Below w.heap.size w W) (hk : w.heap.size ≤ k) (hn : t.name.size ≤ 9223372036854775807) (h : Lies W (fun b => Fresh w W b ∧ b ≠ k) A m t.args) :
    TyPost w t (.returned (.agg #[.string t.name, .slice A m c, .int .i64 t.off])) (((W.setCell ⟨k, 0, none⟩ (.string t.name)).setCell ⟨k, 1, none⟩ (.slice A m c)).setCell ⟨k, 2, none⟩ (.int .i64 t.off)) :=
  ⟨A, m, c, rfl, hn, lies_res h (by rintro ⟨_, h⟩; exact h rfl) (fun b hb => ⟨hb.1.1, by rw [size_res]; exact hb.1.2⟩), below_res hB hk⟩

set_option maxRecDepth 100000 in
set_option maxHeartbeats 4000000 in
theorem clone_any (t : Ty) (hll : t.list.length ≤ 1000000) : CloneAt t := by
  intro A m c w hs h
  obtain ⟨hb, hX, hR, hz⟩ := twoW w t.name A m c t.off
  have C := Lib.hid (rep_any [] [] (fun s u hu => by rw [pick_none_nil] at hu; cases hu) t A m c (.map none) _ hs hll (Here.later h hb) (gives_nil _))
  rw [subst_none] at C
  have HB := Lib.hid hb
  have HR := Lib.hid hR
  have HZ := Lib.hid hz
  clear hb hR hz h
  obtain ⟨x0, x1, x2⟩ := hX
  unfold TwoW at *
  go_enter Tryd.func29, Tryd.ntmps29
  go_wp2_with fail
  refine C.out.mono ?_
  rintro e w4 ⟨A4, m4, c4, rfl, hns4, hl4, hb4⟩
  have HL4 := Lib.hid hl4
  have HB4 := Lib.hid (HB.out.trans (hb4.mono HB.out.size))
  obtain ⟨y0, y1, y2, f0, f1, f2⟩ := ResAt.later HR.out hb4
  clear hl4 hb4
  go_wp2_with fail
  refine bodyPost_ret (v := .agg #[.string t.name, .slice A4 m4 c4, .int .i64 t.off]) (by simp [results, Tryd.results29, go_sem, y0, y1, y2]) rfl ?_
  have hz := HZ.out
  exact ret_res HB4.out (Nat.le_succ _) hns4 (LiesN.wide HL4.out fun b hb => ⟨⟨by have := hb.1; omega, hb.2⟩, by have := hb.1; omega⟩)

theorem pick_mem {s : ByteArray} {u : Ty} : ∀ {ns : List ByteArray} {us : List Ty}, Ty.pick s ns us = some u → u ∈ us
  | [], us, h => by rw [Ty.pick] at h; cases h
  | n :: ns, us, h => by
    rw [Ty.pick] at h
    split at h
    · exact List.mem_of_mem_head? h
    · exact List.mem_of_mem_tail (pick_mem h)
theorem name_le {t : Ty} (h : t.Small) : t.name.size ≤ 9223372036854775807 := by
  have := h.names t.name (by cases t; simp [Ty.list, Ty.name])
  omega
theorem clones {us : List Ty} (hu : ∀ u ∈ us, u.Small) (ns : List ByteArray) (s : ByteArray) (u : Ty) (h : Ty.pick s ns us = some u) : CloneAt u :=
  clone_any u (by have := (hu u (pick_mem h)).list; omega)

set_option maxRecDepth 100000 in
set_option maxHeartbeats 8000000 in
theorem subst_any (ns : List ByteArray) (us : List Ty) (N U : Option Addr) (nl ul nc uc : Nat) (t : Ty) (A : Option Addr) (m c : Nat) (w : World) (hus : ∀ u ∈ us, u.Small) (ht : t.Small) (hul : ul ≤ 1000) (hF : Fits ns nl nc) (h : Here w A m t.args) (hN : Sl w N nl ns) (hU : Here w U ul us) :
    Calls Tryd.prog 23 #[.agg #[.string t.name, .slice A m c, .int .i64 t.off], .slice N nl nc, .slice U ul uc] w (TyPost w (t.subst ns us)) := by
  obtain ⟨hb, hX, hR, hz⟩ := twoW w t.name A m c t.off
  have HSN := Lib.hid (name_le ht)
  have HSL := Lib.hid (show t.list.length ≤ 1000000 by have := ht.list; omega)
  have C1 := Lib.hid (fun (V : World) (hV : Below w.heap.size w V) => byName_any ns us N U nl ul nc uc V hul hF (hN.later hV) (Here.later hU hV))
  have C2 := Lib.hid (fun (mv : Value) (V : World) (hV : Below w.heap.size w V) (hg : Gives V mv (fun s => Ty.pick s ns us)) => rep_any ns us (clones hus ns) t A m c mv V HSN.out HSL.out (Here.later h hV) hg)
  have HB := Lib.hid hb
  have HR := Lib.hid hR
  have HX := Lib.hid hX
  have HZ := Lib.hid hz
  clear hb hR hz h hN hU hX
  obtain ⟨x0, x1, x2⟩ := HX.out
  unfold TwoW at *
  generalize t.subst ns us = q at *
  go_enter Tryd.func23, Tryd.ntmps23
  go_wp2_with fail
  generalize hW : (w.alloc (.cells #[.string t.name, .slice A m c, .int .i64 t.off] 24)).alloc (.cells #[.string ⟨#[]⟩, .slice none 0 0, .int .i64 0] 24) = W at *
  clear hW
  have SS : Below w.heap.size w W ∧ W.cell? ⟨w.heap.size, 0, none⟩ = some (.string t.name) ∧ W.cell? ⟨w.heap.size, 1, none⟩ = some (.slice A m c) ∧ W.cell? ⟨w.heap.size, 2, none⟩ = some (.int .i64 t.off) := ⟨HB.out, x0, x1, x2⟩
  go_region_held3 (fun V => Below w.heap.size w V ∧ V.cell? ⟨w.heap.size, 0, none⟩ = some (.string t.name) ∧ V.cell? ⟨w.heap.size, 1, none⟩ = some (.slice A m c) ∧ V.cell? ⟨w.heap.size, 2, none⟩ = some (.int .i64 t.off))
    (first | exact SS | exact ⟨SS.1.drew, SS.2⟩ | exact keep_res SS)
    (first
      | (go_at_call 42; go_loud (refine (C1.out _ ?_).mono ?_; (first | exact SS.1 | exact SS.1.drew); rintro e w3 ⟨g, n, rfl, hg3, hb3⟩; have hW3 : Below W.heap.size W w3 := (by first | exact hb3 | exact (Below.refl _ _).drew.trans hb3); have HB3 := Lib.hid (HB.out.trans (hW3.mono HB.out.size)); have HX3 := Box.later HX.out hW3; have HR3 := Lib.hid (ResAt.later HR.out hW3); have HW3 := Lib.hid hW3; have HG3 := Lib.hid hg3; have SS : Below w.heap.size w w3 ∧ w3.cell? ⟨w.heap.size, 0, none⟩ = some (.string t.name) ∧ w3.cell? ⟨w.heap.size, 1, none⟩ = some (.slice A m c) ∧ w3.cell? ⟨w.heap.size, 2, none⟩ = some (.int .i64 t.off) := ⟨HB3.out, HX3.1, HX3.2.1, HX3.2.2⟩; clear hg3 hb3 hW3 HX3))
      | (go_at_call 41; go_loud (refine (C2.out _ _ SS.1 (.inr ⟨_, _, rfl, HG3.out⟩)).mono ?_; rintro e w4 ⟨A4, m4, c4, rfl, hns4, hl4, hb4⟩; have HB4 := Lib.hid (HB3.out.trans (hb4.mono HB3.out.size)); have HX4 := Box.later (Box.later HX.out HW3.out) hb4; have hx4 := ResAt.later HR3.out hb4; have SS : Below w.heap.size w w4 ∧ w4.cell? ⟨w.heap.size, 0, none⟩ = some (.string t.name) ∧ w4.cell? ⟨w.heap.size, 1, none⟩ = some (.slice A m c) ∧ w4.cell? ⟨w.heap.size, 2, none⟩ = some (.int .i64 t.off) := ⟨HB4.out, HX4.1, HX4.2.1, HX4.2.2⟩; obtain ⟨y0, y1, y2, f0, f1, f2⟩ := hx4; have HL4 := Lib.hid hl4; clear hl4 hb4 HX4)))
  all_goals
    go_wp2
    refine bodyPost_ret (v := .agg #[.string q.name, .slice A4 m4 c4, .int .i64 q.off]) (by simp [results, Tryd.results23, go_sem, y0, y1, y2]) rfl ?_
    have hz := HZ.out
    have hz3 := HW3.out.size
    exact ret_res HB4.out (Nat.le_succ _) hns4 (LiesN.wide HL4.out fun b hb => ⟨⟨by have := hb.1; omega, hb.2⟩, by have := hb.1; omega⟩)

set_option maxRecDepth 100000 in
set_option maxHeartbeats 4000000 in
theorem all_any (xs : List Ty) (ns : List ByteArray) (us : List Ty) (A N U : Option Addr) (m c nl ul nc uc : Nat) (w : World) (hus : ∀ u ∈ us, u.Small) (hxs : ∀ x ∈ xs, x.Small) (hm : m ≤ 1000) (hul : ul ≤ 1000) (hF : Fits ns nl nc) (h : Here w A m xs) (hN : Sl w N nl ns) (hU : Here w U ul us) :
    Calls Tryd.prog 24 #[.slice A m c, .slice N nl nc, .slice U ul uc] w (AllPost w (xs.map (Ty.subst ns us))) := by
  have C1 := Lib.hid (byName_any ns us N U nl ul nc uc w hul hF hN hU)
  have C2 := Lib.hid (fun (mv : Value) (V : World) (hV : Below w.heap.size w V) (hg : Gives V mv (fun s => Ty.pick s ns us)) => allRep_any ns us xs (fun x hx A' m' c' mv' w' hs hl hh hg' => rep_any ns us (clones hus ns) x A' m' c' mv' w' hs hl hh hg') A m c mv V (by omega) (fun x hx => by have := (hxs x hx).list; omega) (Here.later h hV) hg)
  clear h hN hU
  go_enter Tryd.func24, Tryd.ntmps24
  go_wp2_with fail
  refine C1.out.mono ?_
  rintro e w3 ⟨g, n, rfl, hg3, hb3⟩
  have HG3 := Lib.hid hg3
  have HB3 := Lib.hid hb3
  clear hg3 hb3
  go_wp2_with fail
  refine (C2.out _ _ HB3.out (.inr ⟨_, _, rfl, HG3.out⟩)).mono ?_
  rintro e w4 h4
  obtain ⟨A4, c4, rfl, hl4, hb4⟩ := h4.since HB3.out
  have HL4 := Lib.hid hl4
  have HB4 := Lib.hid hb4
  clear hl4 hb4 h4
  go_wp2_with fail
  go_ret
  exact ⟨A4, c4, by simp, HL4.out, HB4.out⟩
end Go.Proofs.YtioamnaknjhbpaaDoor
