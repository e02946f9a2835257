/- The walk of types.Right: a loop over the names of the type, which returns early. The condition: the type is small. -/
import Derived.Test.YtioamnaknjhbpaaDoorTwD
import Derived.Test.YtioamnaknjhbpaaDoorNmC
namespace Go.Proofs.YtioamnaknjhbpaaDoor
open Go.RowKit
attribute [local go_sem] Oper.semAt_some

theorem right_res {w : World} {r : Addr} {b : Bool} (tmps : Array Value) (ht : tmps[2]?.getD undef = .pointer (some r)) (hc : w.cell? r = some (.bool b)) :
    (results Tryd.f20 tmps).run Tryd.prog w = .ok (.bool b) w := by
  simp [results, Tryd.results20, ht, go_sem, hc]

/-- The end of Right behind its loop: b is stored in the result's cell, the block of the rounds' deferred calls is taken. -/
theorem right_leave {w W : World} {k D : Nat} {v0 : Value} {b : Bool} (tmps : Array Value) (ht : tmps[2]?.getD undef = .pointer (some ⟨k, 0, none⟩)) (hb : Below w.heap.size w W) (hk : w.heap.size ≤ k) (hD : w.heap.size ≤ D)
    (hK : W.heap[D]? = some (.deferred (some []))) (h0 : W.cell? ⟨k, 0, none⟩ = some v0) :
    bodyPostM Fence.wide 9 Tryd.prog Tryd.f20 (EqvPost w b) .ret { tmps, defers := [{ target := .collected D, args := #[] }] } (W.setCell ⟨k, 0, none⟩ (.bool b)) := by
  have hK2 : (W.setCell ⟨k, 0, none⟩ (.bool b)).heap[D]? = some (.deferred (some [])) := (KeepsOthers.setCell _ _ _).same D _ hK rfl
  have hc : (W.setCell ⟨k, 0, none⟩ (.bool b)).cell? ⟨k, 0, none⟩ = some (.bool b) := World.cell?_setCell_same _ _ _ h0
  have hc2 := cell_kept hc (grownBy_putObj' _ D (.deferred none)) (fun r e => by cases e; exact ⟨_, hK2, rfl⟩)
  refine ⟨by simp, .inl ⟨_, _, rfl, run_takeDeferred hK2, ?_⟩⟩
  exact ⟨_, right_res tmps ht hc2, rfl, (hb.setCell (p := ⟨k, 0, none⟩) hk _).trans (belowK_b (w := w) (Nat.le_refl _) _ D _ _ hD hK2 rfl rfl)⟩
/-- .. where the round itself has stored false. -/
theorem right_leave2 {w W : World} {k D : Nat} {b : Bool} (tmps : Array Value) (ht : tmps[2]?.getD undef = .pointer (some ⟨k, 0, none⟩)) (hb : Below w.heap.size w W) (hD : w.heap.size ≤ D)
    (hK : W.heap[D]? = some (.deferred (some []))) (h0 : W.cell? ⟨k, 0, none⟩ = some (.bool b)) :
    bodyPostM Fence.wide 9 Tryd.prog Tryd.f20 (EqvPost w b) .ret { tmps, defers := [{ target := .collected D, args := #[] }] } W := by
  have hc2 := cell_kept h0 (grownBy_putObj' _ D (.deferred none)) (fun r e => by cases e; exact ⟨_, hK, rfl⟩)
  refine ⟨by simp, .inl ⟨_, _, rfl, run_takeDeferred hK, ?_⟩⟩
  exact ⟨_, right_res tmps ht hc2, rfl, hb.trans (belowK_b (w := w) (Nat.le_refl _) _ D _ _ hD hK rfl rfl)⟩

theorem keepsOthers_below {W W' : World} (h : Below W.heap.size W W') : KeepsOthers W W' := ⟨h.size, fun k _ ho _ => (h.block k (Array.getElem?_eq_some_iff.1 ho).1).trans ho⟩

theorem isB_stop {l pre : List ByteArray} (hp : pre <+: l) (h : ¬ ∀ s ∈ pre, Nm.isB s.data.toList = true) : (l.all fun s => Nm.isB s.data.toList) = false := by
  rw [Bool.eq_false_iff]
  intro ha
  exact h fun s hs => List.all_eq_true.1 ha s (hp.subset hs)

set_option maxRecDepth 100000 in
set_option maxHeartbeats 8000000 in
theorem right_any (t : Ty) (A : Option Addr) (m c : Nat) (w : World) (hE : ResVar w) (hsm : t.Small) (h : Here w A m t.args) :
    Calls Tryd.prog 20 #[.agg #[.string t.name, .slice A m c, .int .i64 t.off]] w (EqvPost w t.right) := by
  have hb : Below w.heap.size w ((w.alloc (.cells #[.string t.name, .slice A m c, .int .i64 t.off] 24)).alloc (.cells #[.bool false] 4)) := ((Below.refl _ _).alloc (Nat.le_refl _) _).alloc (by simp) _
  have HB := Lib.hid hb
  have HBx := Lib.hid ((Box.new w t.name A m c t.off 24).later (w' := (w.alloc (.cells #[.string t.name, .slice A m c, .int .i64 t.off] 24)).alloc (.cells #[.bool false] 4)) ((Below.refl _ _).alloc (Nat.le_refl _) _))
  have HR := Lib.hid (show ((w.alloc (.cells #[.string t.name, .slice A m c, .int .i64 t.off] 24)).alloc (.cells #[.bool false] 4)).heap[w.heap.size + 1]? = some (.cells #[.bool false] 4) from heap_alloc_two _ _ _)
  have HH := Lib.hid (Here.later h hb)
  have HE := Lib.hid (hE.later hb)
  have HS := Lib.hid hsm
  clear hb h hE
  refine (callsIn_wide (n := 9)).1 (callsIn_of_wp_marks Tryd.func20 rfl trivial ?_ rfl)
  simp only [Tryd.ntmps20, List.size_toArray, List.length_cons, List.length_nil, Nat.reduceAdd, Nat.reduceSub, Array.replicate_succ, Array.replicate_zero, List.push_toArray, List.append_toArray, List.nil_append, List.cons_append]
  refine wpIn_wide.2 ?_
  obtain ⟨x0, x1, x2⟩ := HBx.out
  go_wp2_with fail
  generalize hW : (w.alloc (.cells #[.string t.name, .slice A m c, .int .i64 t.off] 24)).alloc (.cells #[.bool false] 4) = W at *
  clear hW
  refine (namesOk t A m c _ HS.out HH.out).mono ?_
  rintro e w5 ⟨g, lb, rfl, hb, hent, hseq⟩
  clear x0 x1 x2
  have B5 := Lib.hid (HB.out.trans (hb.mono HB.out.size))
  have E5 := Lib.hid (HE.out.later hb)
  have R5 := Lib.hid ((hb.block _ (Array.getElem?_eq_some_iff.1 HR.out).1).trans HR.out)
  have HEN := Lib.hid hent
  have HSQ := Lib.hid hseq
  clear hb hent hseq HB HE HR HH HBx
  go_wp2_with fail
  refine (wpIn_wide (n := 9)).1 ?_
  refine wpIn_rangeFunc_ownF rfl (by omega) (gf := g) (lb := lb) rfl trivial HEN.out (HSQ.out 8 w5 (by omega) (Below.refl _ _)) (fun h k => h.trans k) (fun W l o o' _ h hc _ => Keep.put W l o o' h hc) (Below.refl _ _) (fun _ => rfl)
    (fun pre W => (∀ s ∈ pre, Nm.isB s.data.toList = true) ∧ Below w5.heap.size w5 W)
    (fun c pre W => c = .ret ∧ (¬ ∀ s ∈ pre, Nm.isB s.data.toList = true) ∧ W.cell? ⟨w.heap.size + 1, 0, none⟩ = some (.bool false) ∧ Below w.heap.size w W)
    (OwnFrom.and (fun s A B row hs hg hr => hs) (ownFrom_below (Nat.le_refl _) (Nat.le_refl _)))
    (fun c s A B row hs hg hr => ⟨hs.1, hs.2.1, cell_kept hs.2.2.1 hg (fun r e => (hr r e).2), ownFrom_below (β := List ByteArray) (Nat.le_refl _) B5.out.size s A B row hs.2.2.2 hg hr⟩)
    ⟨(fun _ h => by cases h), Below.refl _ _⟩ (fun x => { tmps := #[.agg #[.string t.name, .slice A m c, .int .i64 t.off], .pointer (some ⟨w.heap.size, 0, none⟩), .pointer (some ⟨w.heap.size + 1, 0, none⟩), .string x, .agg #[.string t.name, .slice A m c, .int .i64 t.off],
      .func (.func g) #[] lb, .string x, undef, undef, undef], defers := [] }) ?assign ?body ?done ?stop
  case assign =>
    intro l x W K hK
    gi_wp2
    exact hK
  case body =>
    rintro l pre x Wr ⟨hpre, hbw⟩ hlen
    have hr := (hbw.block _ (Array.getElem?_eq_some_iff.1 R5.out).1).trans R5.out
    have C := Lib.hid (nm_is_any x Wr (E5.out.later hbw))
    have HP := Lib.hid hpre
    have HBW := Lib.hid hbw
    have HRR := Lib.hid hr
    clear hpre hbw hlen hr
    have hdd : ∀ k : Nat, (Fence.wide.depth.isSome = true → 1 ≤ k) := fun k h => by cases h
    by_cases hx : Nm.isB x.data.toList = true
    · have q1 : (!Nm.isB x.data.toList) = false := by simp [hx]
      have HX := Lib.hid hx
      clear hx
      gi_wp2_with (refine ⟨trivial, ?_⟩; gi_at_call 39; refine (CallsIn.inRound l (callsIn_wide.2 C.out)).mono ?_; clear C; rintro e W2 ⟨rfl, hb2⟩; have HB2 := Lib.hid hb2; clear hb2)
      exact ⟨keepsOthers_below HB2.out, Keep.of_below HB2.out, fun s hs => by
        rcases List.mem_append.1 hs with hs | hs
        · exact HP.out s hs
        · rw [List.mem_singleton.1 hs]; exact HX.out, HBW.out.trans (HB2.out.mono HBW.out.size)⟩
    · have q1 : (!Nm.isB x.data.toList) = true := by simpa using hx
      have HX := Lib.hid hx
      clear hx
      gi_wp2_with (refine ⟨trivial, ?_⟩; gi_at_call 39; refine (CallsIn.inRound l (callsIn_wide.2 C.out)).mono ?_; clear C; rintro e W2 ⟨rfl, hb2⟩; have HB2 := Lib.hid hb2; have hr2 := (hb2.block _ (Array.getElem?_eq_some_iff.1 HRR.out).1).trans HRR.out; have r0 : W2.cell? ⟨w.heap.size + 1, 0, none⟩ = some (.bool false) := (by rw [cell_of_row _ _ 0 _ _ (0, 0) hr2]; rfl); have r1 : W2.frozen? ⟨w.heap.size + 1, 0, none⟩ = false := frozen_of_row hr2 0; have HR2 := Lib.hid r0; clear hb2 hr2)
      exact ⟨(keepsOthers_below HB2.out).trans (KeepsOthers.setCell _ _ _), rfl, fun h => HX.out (h x (by simp)), World.cell?_setCell_same _ _ _ HR2.out,
        (B5.out.trans ((HBW.out.trans (HB2.out.mono HBW.out.size)).mono B5.out.size)).setCell (p := ⟨w.heap.size + 1, 0, none⟩) (Nat.le_succ _) _⟩
  case done =>
    rintro D ys W hD rfl ⟨hpre, hbw⟩ hK
    have hr := (hbw.block _ (Array.getElem?_eq_some_iff.1 R5.out).1).trans R5.out
    have r0 : W.cell? ⟨w.heap.size + 1, 0, none⟩ = some (.bool false) := by rw [cell_of_row _ _ 0 _ _ (0, 0) hr]; rfl
    have r1 : W.frozen? ⟨w.heap.size + 1, 0, none⟩ = false := frozen_of_row hr 0
    have ht : t.right = true := List.all_eq_true.2 hpre
    have HTR := Lib.hid ht
    have HLV := Lib.hid (fun tmps ht => right_leave (w := w) (W := W) (k := w.heap.size + 1) (b := true) tmps ht (B5.out.trans (hbw.mono B5.out.size)) (Nat.le_succ _) (Nat.le_trans B5.out.size hD) hK r0)
    clear hK hbw hD hpre hr ht
    go_wp2_with fail
    rw [HTR.out]
    exact HLV.out _ rfl
  case stop =>
    rintro D c pre W hD hpre ⟨rfl, hx, hc, hbw⟩ hK
    have ht : t.right = false := isB_stop hpre hx
    have HTR := Lib.hid ht
    have HLV := Lib.hid (fun tmps ht => right_leave2 (w := w) (W := W) (k := w.heap.size + 1) (b := false) tmps ht hbw (Nat.le_trans B5.out.size hD) hK hc)
    clear hK hbw hD hpre hx hc ht
    refine wpIn_wide.2 ?_
    go_wp2_with fail
    rw [HTR.out]
    exact HLV.out _ rfl
end Go.Proofs.YtioamnaknjhbpaaDoor
