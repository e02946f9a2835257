/- The walk of expr.Value: a range over the parts. No condition. -/
import Derived.Test.YtnfakhohoibkpaaDoorEkC
import Derived.RangeFuncNested
namespace Go.Proofs.YtnfakhohoibkpaaDoor
open Go.RowKit
attribute [local go_sem] Oper.semAt_some

theorem xlistL_all (p : Ex → Bool) : ∀ xs : List Ex, (Ex.listL xs).all p = xs.all (fun x => x.list.all p)
  | [] => by simp [Ex.listL]
  | a :: xs => by rw [Ex.listL, List.all_append, xlistL_all p xs, List.all_cons]
def isLit (x : Ex) : Bool := x.kind == 3
theorem value_list : ∀ e : Ex, e.value = e.list.all isLit := by
  refine Ex.ind fun k s t ts xs o ih => ?_
  rw [Ex.value, Ex.list, List.all_cons, xlistL_all, Ex.valueL_all]
  have : xs.all Ex.value = xs.all (fun x => x.list.all isLit) := by
    clear o
    induction xs with
    | nil => rfl
    | cons a r ih2 => rw [List.all_cons, List.all_cons, ih a (by simp), ih2 (fun e he => ih e (by simp [he]))]
  rw [this, Bool.and_comm]
  rfl
/-- What a round of a loop over parts begins with: the part lies in a box of its own. -/
def BoxAx {w0 : World} {n : Nat} (mk : Addr → Part w0 n → Act) (x : Part w0 n) (a' : Act) (W : World) : Prop := ∃ B, a' = mk ⟨B, 0, none⟩ x ∧ Boxd W B x.1.2
theorem boxAx_own {w0 : World} {n B : Nat} (mk : Addr → Part w0 n → Act) (x : Part w0 n) (a' : Act) : OwnFrom B (fun (_ : Unit) W => BoxAx mk x a' W) := fun _ X Y row hs hg hr => by
  obtain ⟨b, e, h⟩ := hs
  exact ⟨b, e, fun j u hu => cell_kept (h j u hu) hg (fun r e => (hr r e).2)⟩
/-- All of these parts meet p. -/
def AllP {w0 : World} {n : Nat} (p : Ex → Bool) (q : List (Part w0 n)) : Prop := ∀ x ∈ q, p x.ex = true
theorem AllP.nil {w0 : World} {n : Nat} (p : Ex → Bool) : AllP p ([] : List (Part w0 n)) := fun _ h => by cases h
theorem AllP.snoc {w0 : World} {n : Nat} {p : Ex → Bool} {q : List (Part w0 n)} {x : Part w0 n} (h : AllP p q) (hx : p x.ex = true) : AllP p (q ++ [x]) := fun y hy => by
  rcases List.mem_append.1 hy with hy | hy
  · exact h y hy
  · rw [List.mem_singleton.1 hy]; exact hx
theorem AllP.last {w0 : World} {n : Nat} {p : Ex → Bool} {q : List (Part w0 n)} {x : Part w0 n} (h : AllP p (q ++ [x])) : p x.ex = true := h x (by simp)
theorem all_parts {w0 : World} {n : Nat} {p : Ex → Bool} {q : List (Part w0 n)} {l : List Ex} (hq : q.map Part.ex = l) (h : AllP p q) : l.all p = true := by
  rw [← hq, List.all_map]
  exact List.all_eq_true.2 h
theorem not_parts {w0 : World} {n : Nat} {p : Ex → Bool} {q : List (Part w0 n)} {l : List Ex} (hq : q.map Part.ex <+: l) (h : ¬ AllP p q) : l.all p = false := by
  rw [Bool.eq_false_iff]
  intro ha
  exact h fun s hs => List.all_eq_true.1 ha s.ex (hq.subset (List.mem_map_of_mem hs))

theorem value_res {w : World} {r : Addr} {b : Bool} (tmps : Array Value) (ht : tmps[2]?.getD undef = .pointer (some r)) (hc : w.cell? r = some (.bool b)) :
    (results Tryd.f18 tmps).run Tryd.prog w = .ok (.bool b) w := by
  simp [results, Tryd.results18, ht, go_sem, hc]
/-- The end behind the loop: b is stored in the result's cell, the block of the rounds' deferred calls is taken. -/
theorem value_leave {w W : World} {k D : Nat} {v0 : Value} {b : Bool} (tmps : Array Value) (ht : tmps[2]?.getD undef = .pointer (some ⟨k, 0, none⟩)) (hb : Below w.heap.size w W) (hk : w.heap.size ≤ k) (hD : w.heap.size ≤ D)
    (hK : W.heap[D]? = some (.deferred (some []))) (h0 : W.cell? ⟨k, 0, none⟩ = some v0) :
    bodyPostM Fence.wide 9 Tryd.prog Tryd.f18 (EqvPost w b) .ret { tmps, defers := [{ target := .collected D, args := #[] }] } (W.setCell ⟨k, 0, none⟩ (.bool b)) := by
  have hK2 : (W.setCell ⟨k, 0, none⟩ (.bool b)).heap[D]? = some (.deferred (some [])) := (KeepsOthers.setCell _ _ _).same D _ hK rfl
  have hc : (W.setCell ⟨k, 0, none⟩ (.bool b)).cell? ⟨k, 0, none⟩ = some (.bool b) := World.cell?_setCell_same _ _ _ h0
  have hc2 := cell_kept hc (grownBy_putObj' _ D (.deferred none)) (fun r e => by cases e; exact ⟨_, hK2, rfl⟩)
  refine ⟨by simp, .inl ⟨_, _, rfl, run_takeDeferred hK2, ?_⟩⟩
  exact ⟨_, value_res tmps ht hc2, rfl, (hb.setCell (p := ⟨k, 0, none⟩) hk _).trans (belowK_b (w := w) (Nat.le_refl _) _ D _ _ hD hK2 rfl rfl)⟩
/-- .. where the round itself has stored it. -/
theorem value_leave2 {w W : World} {k D : Nat} {b : Bool} (tmps : Array Value) (ht : tmps[2]?.getD undef = .pointer (some ⟨k, 0, none⟩)) (hb : Below w.heap.size w W) (hD : w.heap.size ≤ D)
    (hK : W.heap[D]? = some (.deferred (some []))) (h0 : W.cell? ⟨k, 0, none⟩ = some (.bool b)) :
    bodyPostM Fence.wide 9 Tryd.prog Tryd.f18 (EqvPost w b) .ret { tmps, defers := [{ target := .collected D, args := #[] }] } W := by
  have hc2 := cell_kept h0 (grownBy_putObj' _ D (.deferred none)) (fun r e => by cases e; exact ⟨_, hK, rfl⟩)
  refine ⟨by simp, .inl ⟨_, _, rfl, run_takeDeferred hK, ?_⟩⟩
  exact ⟨_, value_res tmps ht hc2, rfl, hb.trans (belowK_b (w := w) (Nat.le_refl _) _ D _ _ hD hK rfl rfl)⟩

/-- The first two blocks of a function that takes an expression and gives a bool in a cell. -/
theorem box_bool {w : World} {e : Ex} {us : List Value} (h : e.dat.H w us) :
    OneX w ((w.alloc (.cells us.toArray 27)).alloc (.cells #[.bool false] 4)) e us ∧ ((w.alloc (.cells us.toArray 27)).alloc (.cells #[.bool false] 4)).heap[w.heap.size + 1]? = some (.cells #[.bool false] 4) :=
  ⟨(OneX.new h 27).later ((Below.refl _ _).alloc (Nat.le_refl _) _), heap_alloc_two _ _ _⟩

set_option maxRecDepth 100000 in
set_option maxHeartbeats 8000000 in
theorem xvalue_any (e : Ex) (us : List Value) (w : World) (hwt : e.wt ≤ 1000) (h : e.dat.H w us) : Calls Tryd.prog 18 #[.agg us.toArray] w (EqvPost w e.value) := by
  have hx := box_bool h
  obtain ⟨A, m, a, B, l, b, C, r, c, rfl, _⟩ := ex_open h
  have HX := Lib.hid hx.1
  have HR := Lib.hid hx.2
  have HV := Lib.hid (value_list e)
  clear hx h
  refine (callsIn_wide (n := 9)).1 (callsIn_of_wp_marks Tryd.func18 rfl trivial ?_ rfl)
  simp only [Tryd.ntmps18, List.size_toArray, List.length_cons, List.length_nil, Nat.reduceAdd, Nat.reduceSub, Array.replicate_succ, Array.replicate_zero, List.push_toArray, List.append_toArray, List.nil_append, List.cons_append]
  refine wpIn_wide.2 ?_
  obtain ⟨x0, x1, x2, x3, x4, x5, x6, x7⟩ := HX.out.one.c8
  go_wp2_with fail
  generalize hW : (w.alloc (.cells #[.int .i64 e.kind, .string e.name, .string e.ty.name, .slice A m a, .int .i64 e.ty.off, .slice B l b, .slice C r c, .int .i64 e.off] 27)).alloc (.cells #[.bool false] 4) = W at *
  clear hW
  refine (parts_any _ e _ _ (Nat.le_refl _) hwt HX.out.da).mono ?_
  rintro e5 w5 ⟨g, lb, rfl, hb, hent, hseq⟩
  clear x0 x1 x2 x3 x4 x5 x6 x7
  have B5 := Lib.hid (HX.out.bel.trans (hb.mono HX.out.bel.size))
  have R5 := Lib.hid ((hb.block _ (Array.getElem?_eq_some_iff.1 HR.out).1).trans HR.out)
  have HEN := Lib.hid hent
  have HSQ := Lib.hid hseq
  clear hb hent hseq HX HR
  go_wp2_with fail
  refine (wpIn_wide (n := 9)).1 ?_
  refine wpIn_rangeFunc_ownH rfl (by omega) (gf := g) (lb := lb) rfl trivial HEN.out (HSQ.out 8 w5 (by omega) (Below.refl _ _)) (fun h k => h.trans k) (fun W l o o' _ h hc _ => KeepE.put W l o o' h hc) (Below.refl _ _) (fun _ => rfl)
    (fun pre W => AllP isLit pre ∧ Below w5.heap.size w5 W)
    (fun c pre W => c = .ret ∧ (¬ AllP isLit pre) ∧ W.cell? ⟨w.heap.size + 1, 0, none⟩ = some (.bool false) ∧ Below w.heap.size w W)
    (OwnFrom.and (fun s A B row hs hg hr => hs) (ownFrom_below (Nat.le_refl _) (Nat.le_refl _)))
    (fun c s A B row hs hg hr => ⟨hs.1, hs.2.1, cell_kept hs.2.2.1 hg (fun r e => (hr r e).2), ownFrom_below (β := Unit) (Nat.le_refl _) B5.out.size () A B row hs.2.2.2 hg hr⟩)
    ⟨AllP.nil _, Below.refl _ _⟩
    (BoxAx fun p x => { tmps := #[.agg #[.int .i64 e.kind, .string e.name, .string e.ty.name, .slice A m a, .int .i64 e.ty.off, .slice B l b, .slice C r c, .int .i64 e.off], .pointer (some ⟨w.heap.size, 0, none⟩), .pointer (some ⟨w.heap.size + 1, 0, none⟩), .pointer (some p), .agg #[.int .i64 e.kind, .string e.name, .string e.ty.name, .slice A m a, .int .i64 e.ty.off, .slice B l b, .slice C r c, .int .i64 e.off],
      .func (.func g) #[] lb, .agg x.1.2.toArray, undef, undef, undef], defers := [] }) (boxAx_own _) ?assign ?body ?done ?stop
  case assign =>
    rintro l pre ⟨⟨u, us⟩, hx⟩ W K ⟨hpre, hbw⟩ hK
    have hb1 : Below W.heap.size W (W.alloc (.cells us.toArray 27)) := (Below.refl _ _).alloc (Nat.le_refl _) _
    have HK := Lib.hid (fun a' (ha : a' = _) => hK a' (W.alloc (.cells us.toArray 27)) ((keepsOthers_below hb1).from _) (KeepE.of_below hb1) ⟨hpre, hbw.trans (hb1.mono hbw.size)⟩ ⟨W.heap.size, ha, Boxd.new W us.toArray 27⟩)
    obtain ⟨_, _, _, _, _, _, _, _, _, rfl, _⟩ := ex_open (e := u) (us := us) hx.2
    clear hK hb1 hpre hbw
    simp only [Part.enc]
    gi_wp2
    exact HK.out _ rfl
  case body =>
    rintro l pre ⟨⟨u, us⟩, hx⟩ a' Wr _ _ ⟨hpre, hbw⟩ ⟨bx, rfl, hbx⟩ hlen
    have hr := (hbw.block _ (Array.getElem?_eq_some_iff.1 R5.out).1).trans R5.out
    have r0 : Wr.cell? ⟨w.heap.size + 1, 0, none⟩ = some (.bool false) := by rw [cell_of_row _ _ 0 _ _ (0, 0) hr]; rfl
    have r1 : Wr.frozen? ⟨w.heap.size + 1, 0, none⟩ = false := frozen_of_row hr 0
    obtain ⟨_, _, _, _, _, _, _, _, _, rfl, _⟩ := ex_open (e := u) (us := us) hx.2
    obtain ⟨y0, y1, y2, y3, y4, y5, y6, y7⟩ := hbx.c8
    have HP := Lib.hid hpre
    have HBW := Lib.hid hbw
    have HXX := Lib.hid hx
    clear hpre hbw hlen hr hbx
    by_cases hk : u.kind = 3
    · have q1 : (u.kind != 3) = false := by simp [hk]
      have HKK := Lib.hid hk
      clear hk
      gi_wp2
      exact ⟨(KeepsOthers.refl _).from _, KeepE.refl _ _ _, HP.out.snoc (by simp [Part.ex, isLit, HKK.out]), HBW.out⟩
    · have q1 : (u.kind != 3) = true := by simpa using hk
      have HKK := Lib.hid hk
      clear hk
      gi_wp2
      exact ⟨(KeepsOthers.setCell _ _ _).from _, rfl, fun h => HKK.out (by have := h.last; simpa [Part.ex, isLit] using this), World.cell?_setCell_same _ _ _ r0,
        (B5.out.trans (HBW.out.mono B5.out.size)).setCell (p := ⟨w.heap.size + 1, 0, none⟩) (Nat.le_succ _) _⟩
  case done =>
    rintro D ys W hD hys ⟨hpre, hbw⟩ hK
    have hr := (hbw.block _ (Array.getElem?_eq_some_iff.1 R5.out).1).trans R5.out
    have r0 : W.cell? ⟨w.heap.size + 1, 0, none⟩ = some (.bool false) := by rw [cell_of_row _ _ 0 _ _ (0, 0) hr]; rfl
    have r1 : W.frozen? ⟨w.heap.size + 1, 0, none⟩ = false := frozen_of_row hr 0
    have ht : e.value = true := HV.out.trans (all_parts hys hpre)
    have HTR := Lib.hid ht
    have HLV := Lib.hid (fun tmps ht => value_leave (w := w) (W := W) (k := w.heap.size + 1) (b := true) tmps ht (B5.out.trans (hbw.mono B5.out.size)) (Nat.le_succ _) (Nat.le_trans B5.out.size hD) hK r0)
    clear hK hbw hD hpre hr ht hys
    go_wp2_with fail
    rw [HTR.out]
    exact HLV.out _ rfl
  case stop =>
    rintro D c pre W hD hpre ⟨rfl, hx, hc, hbw⟩ hK
    have ht : e.value = false := HV.out.trans (not_parts hpre hx)
    have HTR := Lib.hid ht
    have HLV := Lib.hid (fun tmps ht => value_leave2 (w := w) (W := W) (k := w.heap.size + 1) (b := false) tmps ht hbw (Nat.le_trans B5.out.size hD) hK hc)
    clear hK hbw hD hpre hx hc ht
    refine wpIn_wide.2 ?_
    go_wp2_with fail
    rw [HTR.out]
    exact HLV.out _ rfl
end Go.Proofs.YtnfakhohoibkpaaDoor
