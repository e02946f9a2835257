/- The walk of the law ExprWalks: true, at every input. The condition: the table of words. -/
import Derived.Test.YtnfakhohoibkpaaDoorEkAw
import Derived.Test.YtnfakhohoibkpaaDoorEkSu
import Derived.Test.YtnfakhohoibkpaaDoorExQ
import Derived.Test.YtnfakhohoibkpaaDoorExL
import Derived.Test.YtnfakhohoibkpaaDoorEkI
namespace Go.Proofs.YtnfakhohoibkpaaDoor
open Go.RowKit
attribute [local go_sem] Oper.semAt_some

theorem same_refl : ∀ e : Ex, e.same e = true := by
  refine Ex.ind fun k s t ts xs o ih => ?_
  rw [Ex.same_mk]
  have hL : ∀ l : List Ex, (∀ x ∈ l, x ∈ xs) → Ex.sameL l l = true := by
    intro l
    induction l with
    | nil => intro _; rw [Ex.sameL]
    | cons a r ih2 =>
      intro h
      rw [Ex.sameL, ih a (h a (by simp)), ih2 fun x hx => h x (by simp [hx])]
      rfl
  have hc : ∀ t : Ty, Ty.cmp t t = 0 := fun t => by have := Ty.cmp_neg t t; omega
  have hT : ∀ l : List Ty, Ex.sameT l l = true := by
    intro l
    induction l with
    | nil => rw [Ex.sameT]
    | cons a r ih => rw [Ex.sameT, hc a, ih]; rfl
  exact ⟨rfl, rfl, hc t, hT ts, hL xs fun _ h => h⟩
theorem list_wt : ∀ e : Ex, e.list.length ≤ e.wt := by
  refine Ex.ind fun k s t ts xs o ih => ?_
  have hL : ∀ ys : List Ex, (∀ y ∈ ys, y ∈ xs) → (Ex.listL ys).length ≤ Ex.wtL ys := by
    intro ys
    induction ys with
    | nil => intro _; simp [Ex.listL]
    | cons y r ih2 =>
      intro hy
      have h1 := ih y (hy y (by simp))
      have h2 := ih2 fun z hz => hy z (by simp [hz])
      simp only [Ex.listL, Ex.wtL, List.length_append]; omega
  have h1 := hL xs fun _ h => h
  have h3 : 1 ≤ Ty.wt t := by cases t; simp only [Ty.wt]; omega
  simp only [Ex.list, Ex.wt, List.length_cons]; omega
/-- The list that the reference gives, as a row. -/
theorem list_row {w : World} {lo g : Nat} {es : List Ex} {cs : List Value} (hlo : lo ≤ w.heap.size) (hl : es.length ≤ 9223372036854775807) (hc : ∀ j u, cs[j]? = some u → w.cell? ⟨g, j, none⟩ = some u) (hd : Dat.Ins w False (· < lo) (Ex.dats es) cs) : RowH w 8 (some ⟨g, 0, none⟩) es.length (Ex.dats es) :=
  ⟨Ex.dats_len es, hl, Dat.Elems.of fun k d hk => by
    have hz : ∀ x ∈ Ex.dats es, x.size = 8 := fun x hx => by
      rw [Ex.dats_map] at hx
      obtain ⟨y, _, rfl⟩ := List.mem_map.1 hx
      exact Ex.dat_size y
    obtain ⟨u, h3, h4⟩ := hd.at hz hk
    have h5 : ∀ i v, u[i]? = some v → w.cell? ⟨g, k * 8 + i, none⟩ = some v := fun i v hv => hc _ _ (h4 i v hv)
    have h6 : u.length = 8 := (Dat.In.len d u h3).trans (hz d (List.mem_of_getElem? hk))
    obtain ⟨v0, hv0⟩ : ∃ v, u[0]? = some v := ⟨_, List.getElem?_eq_getElem (by omega)⟩
    exact ⟨⟨g, 0, none⟩, u, rfl, show g < w.heap.size from cell_lt (h5 0 v0 hv0), False.elim, h3.wide fun b hb => Nat.lt_of_lt_of_le hb hlo, fun i v hv => by rw [add_add, add_zero_addr, Nat.zero_add]; exact h5 i v hv⟩⟩
theorem KeepO.set {q : Option Nat} {n m : Nat} (W : World) (b i : Nat) (u : Value) (h : n ≤ b) (h2 : b < m) (hq : q = none := by rfl) : KeepO q n m W (W.setCell ⟨b, i, none⟩ u) :=
  ⟨by simp [World.setCell], fun _ => ⟨fun k hk => absurd (hq.symm.trans hk) (by simp), fun p v hp _ hv => ⟨(World.cell?_setCell_other _ _ _ _ (by rintro rfl; simp only at hp; omega)).trans hv, World.frozen?_setCell _ _ _ _⟩, fun k hk _ => by
    obtain ⟨j, hj, _⟩ := hk
    rw [hq] at hj
    cases hj⟩⟩
/-- What a round is told of what it is given. -/
def EltAx (mk : Addr → Elt → Act) (x : Elt) (a' : Act) (W : World) : Prop := ∃ B, a' = mk ⟨B, 0, none⟩ x ∧ Boxd W B x.2 ∧ x.1.dat.H W x.2
theorem eltAx_own {B : Nat} (mk : Addr → Elt → Act) (x : Elt) (a' : Act) : OwnFrom B (fun (_ : Unit) W => EltAx mk x a' W) := fun _ X Y row hs hg hr => by
  obtain ⟨b, h1, h2, h3⟩ := hs
  refine ⟨b, h1, fun j u hu => cell_kept (h2 j u hu) hg (fun r e => (hr r e).2), ?_⟩
  exact (Dat.In.last (fun p v _ hv => cell_kept hv hg (fun r e => (hr r e).2)) _ _ h3).wide fun b hb => Nat.lt_of_lt_of_le hb hg.size

theorem eqlFnE (fn : Fn) (tys : Array Value) (cb : Array Value) (w : World) : (binOp .eql 42 (.func fn tys cb) .nilFunc).run Tryd.prog w = .ok (.bool false) w := by kernel_rfl
/-- What lies since the beginning: the boxed expression, the boxed number, the result's cell. -/
structure LayE (w W : World) (us : List Value) (e : Ex) (st : Int) : Prop where
  bel : Below w.heap.size w W
  one : Boxd W w.heap.size us
  dat : e.dat.H W us
  num : W.cell? ⟨w.heap.size + 1, 0, none⟩ = some (.int .u8 st)
  res : W.heap[w.heap.size + 2]? = some (.cells #[.bool false] 4 (0, 0))
  env : ResVar W
theorem LayE.later {w W W' : World} {us : List Value} {e : Ex} {st : Int} (h : LayE w W us e st) (hb : Below W.heap.size W W') : LayE w W' us e st :=
  ⟨h.bel.trans (hb.mono h.bel.size), h.one.later hb, Dat.H.later h.dat hb, (hb.cell (cell_lt h.num)).trans h.num, (hb.block _ (Array.getElem?_eq_some_iff.1 h.res).1).trans h.res, h.env.later hb⟩
theorem LayE.r0 {w W : World} {us : List Value} {e : Ex} {st : Int} (h : LayE w W us e st) : W.cell? ⟨w.heap.size + 2, 0, none⟩ = some (.bool false) := by rw [cell_of_row _ _ 0 _ _ (0, 0) h.res]; rfl
theorem LayE.r1 {w W : World} {us : List Value} {e : Ex} {st : Int} (h : LayE w W us e st) : W.frozen? ⟨w.heap.size + 2, 0, none⟩ = false := frozen_of_row h.res 0

theorem res_cellE {w : World} {r : Addr} {b : Bool} (tmps : Array Value) (ht : tmps[4]?.getD undef = .pointer (some r)) (hc : w.cell? r = some (.bool b)) :
    (results Tryd.f6 tmps).run Tryd.prog w = .ok (.bool b) w := by
  simp [results, Tryd.results6, ht, go_sem, hc]

/-- The end of the function behind its loop, which has laid a block for its rounds' deferred calls. -/
theorem leave_markE {w W : World} {k D : Nat} {v0 : Value} (tmps : Array Value) (ht : tmps[4]?.getD undef = .pointer (some ⟨k, 0, none⟩)) (hb : Below w.heap.size w W) (hk : w.heap.size ≤ k) (hD : w.heap.size ≤ D)
    (hK : W.heap[D]? = some (.deferred (some []))) (h0 : W.cell? ⟨k, 0, none⟩ = some v0) :
    bodyPostM Fence.wide 9 Tryd.prog Tryd.f6 (fun e w' => e = .returned (.bool true) ∧ Below w.heap.size w w') .ret { tmps, defers := [{ target := .collected D, args := #[] }] } (W.setCell ⟨k, 0, none⟩ (.bool true)) := by
  have hK2 : (W.setCell ⟨k, 0, none⟩ (.bool true)).heap[D]? = some (.deferred (some [])) := (KeepsOthers.setCell _ _ _).same D _ hK rfl
  have hc : (W.setCell ⟨k, 0, none⟩ (.bool true)).cell? ⟨k, 0, none⟩ = some (.bool true) := World.cell?_setCell_same _ _ _ h0
  have hc2 := cell_kept hc (grownBy_putObj' _ D (.deferred none)) (fun r e => by cases e; exact ⟨_, hK2, rfl⟩)
  refine ⟨by simp, .inl ⟨_, _, rfl, run_takeDeferred hK2, ?_⟩⟩
  exact ⟨_, res_cellE tmps ht hc2, rfl, (hb.setCell (p := ⟨k, 0, none⟩) hk _).trans (belowK_b (w := w) (Nat.le_refl _) _ D _ _ hD hK2 rfl rfl)⟩

set_option maxRecDepth 100000 in
set_option maxHeartbeats 8000000 in
theorem xwalks_any (e : Ex) (us : List Value) (st : Int) (w : World) (h : e.dat.H w us) (hs0 : 0 ≤ st) (hs1 : st ≤ 255) (hE : ResVar w) :
    Calls Tryd.prog 6 #[.agg us.toArray, .int .u8 st] w fun e w' => e = .returned (.bool true) ∧ Below w.heap.size w w' := by
  have hx : LayE w (((w.alloc (.cells us.toArray 27)).alloc (.cells #[.int .u8 st] 5)).alloc (.cells #[.bool false] 4)) us e st := by
    have hb1 : Below w.heap.size w (w.alloc (.cells us.toArray 27)) := (Below.refl _ _).alloc (Nat.le_refl _) _
    have hb : Below (w.alloc (.cells us.toArray 27)).heap.size (w.alloc (.cells us.toArray 27)) (((w.alloc (.cells us.toArray 27)).alloc (.cells #[.int .u8 st] 5)).alloc (.cells #[.bool false] 4)) :=
      ((Below.refl _ _).alloc (Nat.le_refl _) _).alloc (by simp) _
    have hb0 := hb1.trans (hb.mono hb1.size)
    refine ⟨hb0, (Boxd.new w us.toArray 27).later hb, Dat.H.later h hb0, ?_, ?_, hE.later hb0⟩
    · rw [cell_of_row _ _ 0 _ _ (0, 0) (heap_old (heap_new_at (by simp)))]; rfl
    · exact heap_new_at (by simp)
  have L0 := Lib.hid hx
  obtain ⟨fe, hfe⟩ : ∃ x, e.few = x := ⟨_, rfl⟩
  have Fe := Lib.hid hfe
  obtain ⟨u0, u1, u2, u3, u4, u5, u6, u7, rfl⟩ := ex_eight2 h
  clear hx hE h hfe
  refine (callsIn_wide (n := 9)).1 (callsIn_of_wp_marks Tryd.func6 rfl trivial ?_ rfl)
  simp only [Tryd.ntmps6, List.size_toArray, List.length_cons, List.length_nil, Nat.reduceAdd, Nat.reduceSub, Array.replicate_succ, Array.replicate_zero, List.push_toArray, List.append_toArray, List.nil_append, List.cons_append]
  refine wpIn_wide.2 ?_
  go_wp2_with fail
  generalize hW : ((w.alloc (.cells #[u0, u1, u2, u3, u4, u5, u6, u7] 27)).alloc (.cells #[.int .u8 st] 5)).alloc (.cells #[.bool false] 4) = W at *
  clear hW
  refine (xawake_any _ L0.out.env).mono ?_
  rintro e1 w1 ⟨rfl, hb⟩
  have L1 := Lib.hid (L0.out.later hb)
  clear hb L0
  obtain ⟨t0, t1, t2, t3, t4, t5, t6, t7⟩ := L1.out.one.c8
  go_wp2_with fail
  refine (xfew_any e _ _ L1.out.dat).mono ?_
  rintro e2 w2 ⟨rfl, hb⟩
  rw [Fe.out]
  clear t0 t1 t2 t3 t4 t5 t6 t7
  have L2 := Lib.hid (L1.out.later hb)
  clear hb L1
  cases fe
  · skip
    go_wp2_with fail
    refine (xawake_any _ L2.out.env).mono ?_
    rintro e3 w3 ⟨rfl, hb⟩
    have L3 := Lib.hid (L2.out.later hb)
    clear hb L2
    have r0 := L3.out.r0
    have r1 := L3.out.r1
    go_wp2_with fail
    exact ⟨_, res_cellE _ rfl (World.cell?_setCell_same' _ _ _ (by rw [r0]; rfl)), rfl, L3.out.bel.setCell (p := ⟨w.heap.size + 1 + 1, 0, none⟩) (by simp; omega) _⟩
  have WT := Lib.hid (xfew_wt2 Fe.out)
  obtain ⟨t0, t1, t2, t3, t4, t5, t6, t7⟩ := L2.out.one.c8
  go_wp2_with fail
  refine (xref_list_any e _ w2 w2.heap.size (Nat.le_refl _) (by have := list_wt e; have := WT.out; omega) L2.out.dat).mono ?_
  rintro e3 w3 ⟨gb, gc, cs, rfl, hgb, hcs, hds, hb⟩
  clear t0 t1 t2 t3 t4 t5 t6 t7
  have L3 := Lib.hid (L2.out.later hb)
  have hw2 := hb.size
  have R3 := Lib.hid (list_row hw2 (by have := list_wt e; have := WT.out; omega) hcs hds)
  clear hb L2 hcs hds hgb hw2
  obtain ⟨p, hp⟩ : ∃ p : Addr, (⟨gb, 0, none⟩ : Addr) = p := ⟨_, rfl⟩
  rw [hp] at R3 ⊢
  clear hp gb
  obtain ⟨t0, t1, t2, t3, t4, t5, t6, t7⟩ := L3.out.one.c8
  have hb4 : Below w3.heap.size w3 (w3.alloc (.cells #[.slice (some p) e.list.length gc] 25)) := (Below.refl _ _).alloc (Nat.le_refl _) _
  have L4 := Lib.hid (L3.out.later hb4)
  have R4 := Lib.hid (RowH.later R3.out hb4)
  have WX4 := Lib.hid (show (w3.alloc (.cells #[.slice (some p) e.list.length gc] 25)).cell? ⟨w3.heap.size, 0, none⟩ = some (.slice (some p) e.list.length gc) by rw [World.cell?_alloc_at _ _ _ _ rfl]; rfl)
  clear hb4 L3 R3 t0 t1 t2 t3 t4 t5 t6 t7
  obtain ⟨t0, t1, t2, t3, t4, t5, t6, t7⟩ := L4.out.one.c8
  go_wp2_with fail
  generalize hW4 : w3.alloc (.cells #[.slice (some p) e.list.length gc] 25) = w4 at *
  clear hW4
  refine (xall_any e _ w4 (by have := WT.out; omega) L4.out.dat).mono ?_
  rintro e4 w5 ⟨g, lb, rfl, hb, hent, hseq⟩
  clear t0 t1 t2 t3 t4 t5 t6 t7
  have L5 := Lib.hid (L4.out.later hb)
  have R5 := Lib.hid (RowH.later R4.out hb)
  have WX5 := Lib.hid ((hb.cell (cell_lt WX4.out)).trans WX4.out)
  have HEN := Lib.hid hent
  have HSQ := Lib.hid hseq
  clear hb hent hseq L4 R4 WX4
  have eqf := eqlFnE (.func g) #[] lb
  go_wp2_with fail
  have hb6 : Below w5.heap.size w5 (w5.alloc (.cells #[.int .i64 0] 3)) := (Below.refl _ _).alloc (Nat.le_refl _) _
  have hz6 : w5.heap.size ≤ (w5.alloc (.cells #[.int .i64 0] 3)).heap.size := hb6.size
  have n0 : (w5.alloc (.cells #[.int .i64 0] 3)).cell? ⟨w5.heap.size, 0, none⟩ = some (.int .i64 0) := by rw [World.cell?_alloc_at _ _ _ _ rfl]; rfl
  have n1 : (w5.alloc (.cells #[.int .i64 0] 3)).frozen? ⟨w5.heap.size, 0, none⟩ = false := by simp
  have hlt6 : w5.heap.size < (w5.alloc (.cells #[.int .i64 0] 3)).heap.size := by simp
  refine (wpIn_wide (n := 9)).1 ?_
  generalize hW6 : w5.alloc (.cells #[.int .i64 0] 3) = w6 at *
  clear hW6
  refine range_if (by omega) (gf := g) (lb := lb) rfl HEN.out (HSQ.out none 8 w6 (by omega) hb6 (fun k hk => by cases hk)) (fun h k => h.trans k) (fun W l o o' _ h hc _ => KeepO.put W l o o' h hc) (Below.refl _ _) (fun _ => rfl)
    (fun pre W => (W.cell? ⟨w5.heap.size, 0, none⟩ = some (.int .i64 pre.length) ∧ W.frozen? ⟨w5.heap.size, 0, none⟩ = false ∧ (pre.length : Int) ≤ st) ∧ Below w5.heap.size w5 W)
    (fun c pre W => (c = .ret ∧ ¬ pre.map Prod.fst <+: e.list) ∨ (c = .exit 0 ∧ W.cell? ⟨w5.heap.size, 0, none⟩ = some (.int .i64 pre.length) ∧ (pre.length : Int) = st + 1 ∧ Below w5.heap.size w5 W))
    (OwnFrom.and (Own.from (fun s A B row hs hg hr => ⟨cell_kept hs.1 hg hr, (frozen_kept hs.1 hg hr).trans hs.2.1, hs.2.2⟩) _) (ownFrom_below (Nat.le_refl _) hz6))
    (fun s A B hs hb => ⟨⟨(hb.cell (cell_lt hs.1.1)).trans hs.1.1, (hb.frozen (p := ⟨w5.heap.size, 0, none⟩) (cell_lt hs.1.1)).trans hs.1.2.1, hs.1.2.2⟩, hs.2.trans (hb.mono hs.2.size)⟩)
    (fun c s A B row hs hg hr => hs.imp id fun h => ⟨h.1, cell_kept h.2.1 hg (fun r e => (hr r e).2), h.2.2.1, ownFrom_below (β := List Elt) (Nat.le_refl _) hz6 s A B row h.2.2.2 hg hr⟩)
    ⟨⟨n0, n1, hs0⟩, hb6⟩ (EltAx fun q x => { tmps := #[.agg #[u0, u1, u2, u3, u4, u5, u6, u7], .int .u8 st, .pointer (some ⟨w.heap.size, 0, none⟩), .pointer (some ⟨w.heap.size + 1, 0, none⟩), .pointer (some ⟨w.heap.size + 1 + 1, 0, none⟩),
      .pointer (some ⟨w3.heap.size, 0, none⟩), .func (.func g) #[] lb, .pointer (some ⟨w5.heap.size, 0, none⟩), .pointer (some q), .bool true, .bool false, .bool false, .agg #[u0, u1, u2, u3, u4, u5, u6, u7], .bool true, .bool false, .bool false, undef,
      .agg #[u0, u1, u2, u3, u4, u5, u6, u7], .slice (some p) e.list.length gc, .agg #[u0, u1, u2, u3, u4, u5, u6, u7], .func (.func g) #[] lb, .func (.func g) #[] lb, .bool false, .func (.func g) #[] lb, .agg x.2.toArray, undef, undef, undef, undef, undef, undef, undef, undef, undef, undef, undef, undef, undef, undef, undef, undef, undef, undef, undef, undef, undef, undef, undef, undef, undef, undef, undef], defers := [] }) (eltAx_own _) ?assign ?body ?done ?stop
  case assign =>
    rintro l pre ⟨z, zs⟩ W K hC ⟨⟨hc, hf, hle⟩, hbw⟩ hK
    have hb1 : Below W.heap.size W (W.alloc (.cells zs.toArray 27)) := (Below.refl _ _).alloc (Nat.le_refl _) _
    have HK := Lib.hid (fun a' (ha : a' = _) => hK a' (W.alloc (.cells zs.toArray 27)) ((keepsOthers_below hb1).from _) (KeepO.new hb1) ⟨⟨(hb1.cell (cell_lt hc)).trans hc, (hb1.frozen (p := ⟨w5.heap.size, 0, none⟩) (cell_lt hc)).trans hf, hle⟩, hbw.trans (hb1.mono hbw.size)⟩ ⟨W.heap.size, ha, Boxd.new W zs.toArray 27, Dat.In.wide (Dat.In.later (hC.2.wide (S' := (· < W.heap.size)) fun b hb => hb.2.1) hb1 (fun _ h => h)) fun b hb => Nat.lt_of_lt_of_le hb hb1.size⟩)
    obtain ⟨_, _, _, _, _, _, _, _, _, rfl, _⟩ := ex_open (e := z) (us := zs) hC.2
    clear hK hb1 hc hf hle hbw hC
    simp only [Elt.enc]
    gi_wp2
    exact HK.out _ rfl
  case body =>
    rintro l pre ⟨z, zs⟩ a' Wr _ _ ⟨⟨hc, hf, hle⟩, hbw⟩ ⟨bx, rfl, hbx, hzd⟩ hlen
    obtain ⟨ea0, ea1, ea2, ea3, ea4, ea5, ea6, ea7, rfl⟩ := ex_eight2 hzd
    obtain ⟨p2, y, ys, hpe, hy, _, _, hyd, hyc⟩ := kid_at (RowH.later R5.out hbw) hlen
    obtain rfl := Option.some.inj hpe
    obtain ⟨ka0, ka1, ka2, ka3, ka4, ka5, ka6, ka7, rfl⟩ := ex_eight2 hyd
    have x0 := (hbw.cell (cell_lt WX5.out)).trans WX5.out
    have hln : (e.list.length : Int) ≤ 1000 := by have := list_wt e; have := WT.out; omega
    have y0 : (pre.length : Int) < e.list.length := by omega
    have y1 : (0 : Int) ≤ pre.length := by omega
    have y2 : ¬ e.list.length ≤ pre.length := by omega
    have HYL := Lib.hid (show pre.length < e.list.length from hlen)
    have HY := Lib.hid hy
    have HF := Lib.hid hf
    have HLE := Lib.hid hle
    have HBW := Lib.hid hbw
    have HBX := Lib.hid hbx
    have HC := Lib.hid hc
    have HZD := Lib.hid hzd
    have HYD := Lib.hid hyd
    have HYC := Lib.hid hyc
    have HX0 := Lib.hid x0
    clear hy hf hle hbw hlen hbx hc hzd hyd hyc x0
    obtain ⟨sb, hsb⟩ : ∃ b, z.same y = b := ⟨_, rfl⟩
    have HSB := Lib.hid hsb
    have hdr : Below Wr.heap.size Wr Wr.drew := (Below.refl _ _).drew
    have CSM := Lib.hid (fun (V : World) (hV : Below Wr.drew.heap.size Wr.drew V) => (show Calls Tryd.prog 13 #[.agg #[ea0, ea1, ea2, ea3, ea4, ea5, ea6, ea7], .agg #[ka0, ka1, ka2, ka3, ka4, ka5, ka6, ka7]] V (EqvPost V sb) from hsb ▸ xref_same_any z y _ _ V (Dat.H.later (Dat.H.later HZD.out hdr) hV) (Dat.H.later (Dat.H.later HYD.out hdr) hV)))
    have HBD := Lib.hid (HBW.out.trans (hdr.mono HBW.out.size))
    have HKD := Lib.hid (show KeepsOthers Wr Wr.drew from ⟨Nat.le_refl _, fun _ _ h _ => h⟩)
    have HKP := Lib.hid (KeepO.new (q := none) (n := w5.heap.size) (m := w6.heap.size) hdr)
    have HLW := Lib.hid (show w5.heap.size < Wr.drew.heap.size from cell_lt (p := ⟨w5.heap.size, 0, none⟩) HC.out)
    have HFD := Lib.hid (show Wr.drew.frozen? ⟨w5.heap.size, 0, none⟩ = false from HF.out)
    obtain ⟨s2, s3, s4, s5, s6, s7, s8, s9⟩ := HBX.out.c8
    obtain ⟨s10, s11, s12, s13, s14, s15, s16, s17⟩ := cells8_at HYC.out
    have s0 := HC.out
    have s1 := HX0.out
    have hcat : Below Wr.drew.heap.size Wr.drew Wr.drew ∧ Wr.drew.cell? ⟨w5.heap.size, 0, none⟩ = some (.int .i64 pre.length) ∧ Wr.drew.cell? ⟨w3.heap.size, 0, none⟩ = some (.slice (some p) e.list.length gc) ∧ Wr.drew.cell? ⟨bx, 0, none⟩ = some ea0 ∧ Wr.drew.cell? ⟨bx, 1, none⟩ = some ea1 ∧ Wr.drew.cell? ⟨bx, 2, none⟩ = some ea2 ∧ Wr.drew.cell? ⟨bx, 3, none⟩ = some ea3 ∧ Wr.drew.cell? ⟨bx, 4, none⟩ = some ea4 ∧ Wr.drew.cell? ⟨bx, 5, none⟩ = some ea5 ∧ Wr.drew.cell? ⟨bx, 6, none⟩ = some ea6 ∧ Wr.drew.cell? ⟨bx, 7, none⟩ = some ea7 ∧ Wr.drew.cell? (p.add (pre.length * 8)) = some ka0 ∧ Wr.drew.cell? ⟨(p.add (pre.length * 8)).block, (p.add (pre.length * 8)).off + 1, none⟩ = some ka1 ∧ Wr.drew.cell? ⟨(p.add (pre.length * 8)).block, (p.add (pre.length * 8)).off + 2, none⟩ = some ka2 ∧ Wr.drew.cell? ⟨(p.add (pre.length * 8)).block, (p.add (pre.length * 8)).off + 3, none⟩ = some ka3 ∧ Wr.drew.cell? ⟨(p.add (pre.length * 8)).block, (p.add (pre.length * 8)).off + 4, none⟩ = some ka4 ∧ Wr.drew.cell? ⟨(p.add (pre.length * 8)).block, (p.add (pre.length * 8)).off + 5, none⟩ = some ka5 ∧ Wr.drew.cell? ⟨(p.add (pre.length * 8)).block, (p.add (pre.length * 8)).off + 6, none⟩ = some ka6 ∧ Wr.drew.cell? ⟨(p.add (pre.length * 8)).block, (p.add (pre.length * 8)).off + 7, none⟩ = some ka7 := ⟨Below.refl _ _, s0, s1, s2, s3, s4, s5, s6, s7, s8, s9, s10, s11, s12, s13, s14, s15, s16, s17⟩
    have HSS := Lib.hid hcat
    clear s0 s1 s2 s3 s4 s5 s6 s7 s8 s9 s10 s11 s12 s13 s14 s15 s16 s17 hcat hsb hdr HZD HYD HYC HX0 HBX HC HF
    gi_wp2
    have SS := HSS.out
    obtain ⟨_, s0, s1, s2, s3, s4, s5, s6, s7, s8, s9, s10, s11, s12, s13, s14, s15, s16, s17⟩ := SS
    have SS := HSS.out
    have KP := Lib.hid (show ∀ V : World, Below Wr.drew.heap.size Wr.drew V → Below Wr.drew.heap.size Wr.drew V ∧ V.cell? ⟨w5.heap.size, 0, none⟩ = some (.int .i64 pre.length) ∧ V.cell? ⟨w3.heap.size, 0, none⟩ = some (.slice (some p) e.list.length gc) ∧ V.cell? ⟨bx, 0, none⟩ = some ea0 ∧ V.cell? ⟨bx, 1, none⟩ = some ea1 ∧ V.cell? ⟨bx, 2, none⟩ = some ea2 ∧ V.cell? ⟨bx, 3, none⟩ = some ea3 ∧ V.cell? ⟨bx, 4, none⟩ = some ea4 ∧ V.cell? ⟨bx, 5, none⟩ = some ea5 ∧ V.cell? ⟨bx, 6, none⟩ = some ea6 ∧ V.cell? ⟨bx, 7, none⟩ = some ea7 ∧ V.cell? (p.add (pre.length * 8)) = some ka0 ∧ V.cell? ⟨(p.add (pre.length * 8)).block, (p.add (pre.length * 8)).off + 1, none⟩ = some ka1 ∧ V.cell? ⟨(p.add (pre.length * 8)).block, (p.add (pre.length * 8)).off + 2, none⟩ = some ka2 ∧ V.cell? ⟨(p.add (pre.length * 8)).block, (p.add (pre.length * 8)).off + 3, none⟩ = some ka3 ∧ V.cell? ⟨(p.add (pre.length * 8)).block, (p.add (pre.length * 8)).off + 4, none⟩ = some ka4 ∧ V.cell? ⟨(p.add (pre.length * 8)).block, (p.add (pre.length * 8)).off + 5, none⟩ = some ka5 ∧ V.cell? ⟨(p.add (pre.length * 8)).block, (p.add (pre.length * 8)).off + 6, none⟩ = some ka6 ∧ V.cell? ⟨(p.add (pre.length * 8)).block, (p.add (pre.length * 8)).off + 7, none⟩ = some ka7 from fun V h => ⟨h, (h.cell (cell_lt s0)).trans s0, (h.cell (cell_lt s1)).trans s1, (h.cell (cell_lt s2)).trans s2, (h.cell (cell_lt s3)).trans s3, (h.cell (cell_lt s4)).trans s4, (h.cell (cell_lt s5)).trans s5, (h.cell (cell_lt s6)).trans s6, (h.cell (cell_lt s7)).trans s7, (h.cell (cell_lt s8)).trans s8, (h.cell (cell_lt s9)).trans s9, (h.cell (cell_lt s10)).trans s10, (h.cell (cell_lt s11)).trans s11, (h.cell (cell_lt s12)).trans s12, (h.cell (cell_lt s13)).trans s13, (h.cell (cell_lt s14)).trans s14, (h.cell (cell_lt s15)).trans s15, (h.cell (cell_lt s16)).trans s16, (h.cell (cell_lt s17)).trans s17⟩)
    clear HSS s0 s1 s2 s3 s4 s5 s6 s7 s8 s9 s10 s11 s12 s13 s14 s15 s16 s17
    cases sb
    all_goals
      refine region_round (S := fun V => Below Wr.drew.heap.size Wr.drew V ∧ V.cell? ⟨w5.heap.size, 0, none⟩ = some (.int .i64 pre.length) ∧ V.cell? ⟨w3.heap.size, 0, none⟩ = some (.slice (some p) e.list.length gc) ∧ V.cell? ⟨bx, 0, none⟩ = some ea0 ∧ V.cell? ⟨bx, 1, none⟩ = some ea1 ∧ V.cell? ⟨bx, 2, none⟩ = some ea2 ∧ V.cell? ⟨bx, 3, none⟩ = some ea3 ∧ V.cell? ⟨bx, 4, none⟩ = some ea4 ∧ V.cell? ⟨bx, 5, none⟩ = some ea5 ∧ V.cell? ⟨bx, 6, none⟩ = some ea6 ∧ V.cell? ⟨bx, 7, none⟩ = some ea7 ∧ V.cell? (p.add (pre.length * 8)) = some ka0 ∧ V.cell? ⟨(p.add (pre.length * 8)).block, (p.add (pre.length * 8)).off + 1, none⟩ = some ka1 ∧ V.cell? ⟨(p.add (pre.length * 8)).block, (p.add (pre.length * 8)).off + 2, none⟩ = some ka2 ∧ V.cell? ⟨(p.add (pre.length * 8)).block, (p.add (pre.length * 8)).off + 3, none⟩ = some ka3 ∧ V.cell? ⟨(p.add (pre.length * 8)).block, (p.add (pre.length * 8)).off + 4, none⟩ = some ka4 ∧ V.cell? ⟨(p.add (pre.length * 8)).block, (p.add (pre.length * 8)).off + 5, none⟩ = some ka5 ∧ V.cell? ⟨(p.add (pre.length * 8)).block, (p.add (pre.length * 8)).off + 6, none⟩ = some ka6 ∧ V.cell? ⟨(p.add (pre.length * 8)).block, (p.add (pre.length * 8)).off + 7, none⟩ = some ka7) (by kernel_rfl) (by kernel_rfl) (by rintro ⟨_, _, h⟩; exact h) SS (fun hS => ?_)
      clear SS
      generalize World.drew Wr = Wd at *
      first
      | (refine wpAnyH_take (i := 0) (v := ?_) rfl (by kernel_rfl) (by kernel_rfl) (by kernel_rfl) (fun _ _ _ h => h) (Or.inl ⟨by rfl, ?_⟩) (by assumption) ?_
         rotate_left
         · (intro V hV; obtain ⟨_, x0, x1, x2, x3, x4, x5, x6, x7, x8, x9, x10, x11, x12, x13, x14, x15, x16, x17⟩ := hV; go_simp; try with_reducible rfl)
         try simp only [Act.put, List.getElem_toArray, List.getElem_cons_zero, List.setIfInBounds_toArray, List.set_cons_zero, List.set_cons_succ])
      | (refine wpAnyH_take (i := 0) (v := undef) rfl (by kernel_rfl) (by kernel_rfl) (by kernel_rfl) (fun _ _ _ h => h) (Or.inr ⟨by rfl, rfl⟩) (by assumption) ?_
         try simp only [Act.put, List.getElem_toArray, List.getElem_cons_zero, List.setIfInBounds_toArray, List.set_cons_zero, List.set_cons_succ])
      | fail "take 0"
      first
      | (refine wpAnyH_take (i := 1) (v := ?_) rfl (by kernel_rfl) (by kernel_rfl) (by kernel_rfl) (fun _ _ _ h => h) (Or.inl ⟨by rfl, ?_⟩) (by assumption) ?_
         rotate_left
         · (intro V hV; obtain ⟨_, x0, x1, x2, x3, x4, x5, x6, x7, x8, x9, x10, x11, x12, x13, x14, x15, x16, x17⟩ := hV; go_simp; try with_reducible rfl)
         try simp only [Act.put, List.getElem_toArray, List.getElem_cons_zero, List.getElem_cons_succ, List.setIfInBounds_toArray, List.set_cons_zero, List.set_cons_succ])
      | (refine wpAnyH_take (i := 1) (v := undef) rfl (by kernel_rfl) (by kernel_rfl) (by kernel_rfl) (fun _ _ _ h => h) (Or.inr ⟨by rfl, rfl⟩) (by assumption) ?_
         try simp only [Act.put, List.getElem_toArray, List.getElem_cons_zero, List.getElem_cons_succ, List.setIfInBounds_toArray, List.set_cons_zero, List.set_cons_succ])
      | fail "take 1"
      first
      | (refine wpAnyH_take (i := 2) (v := ?_) rfl (by kernel_rfl) (by kernel_rfl) (by kernel_rfl) (fun _ _ _ h => h) (Or.inl ⟨by rfl, ?_⟩) (by assumption) ?_
         rotate_left
         · (intro V hV; obtain ⟨_, x0, x1, x2, x3, x4, x5, x6, x7, x8, x9, x10, x11, x12, x13, x14, x15, x16, x17⟩ := hV; go_simp; try with_reducible rfl)
         try simp only [Act.put, List.getElem_toArray, List.getElem_cons_zero, List.getElem_cons_succ, List.setIfInBounds_toArray, List.set_cons_zero, List.set_cons_succ])
      | (refine wpAnyH_take (i := 2) (v := undef) rfl (by kernel_rfl) (by kernel_rfl) (by kernel_rfl) (fun _ _ _ h => h) (Or.inr ⟨by rfl, rfl⟩) (by assumption) ?_
         try simp only [Act.put, List.getElem_toArray, List.getElem_cons_zero, List.getElem_cons_succ, List.setIfInBounds_toArray, List.set_cons_zero, List.set_cons_succ])
      | fail "take 2"
      first
      | (refine wpAnyH_take (i := 3) (v := ?_) rfl (by kernel_rfl) (by kernel_rfl) (by kernel_rfl) (fun _ _ _ h => h) (Or.inl ⟨by rfl, ?_⟩) (by assumption) ?_
         rotate_left
         · (intro V hV; obtain ⟨_, x0, x1, x2, x3, x4, x5, x6, x7, x8, x9, x10, x11, x12, x13, x14, x15, x16, x17⟩ := hV; go_simp; try with_reducible rfl)
         try simp only [Act.put, List.getElem_toArray, List.getElem_cons_zero, List.getElem_cons_succ, List.setIfInBounds_toArray, List.set_cons_zero, List.set_cons_succ])
      | (refine wpAnyH_take (i := 3) (v := undef) rfl (by kernel_rfl) (by kernel_rfl) (by kernel_rfl) (fun _ _ _ h => h) (Or.inr ⟨by rfl, rfl⟩) (by assumption) ?_
         try simp only [Act.put, List.getElem_toArray, List.getElem_cons_zero, List.getElem_cons_succ, List.setIfInBounds_toArray, List.set_cons_zero, List.set_cons_succ])
      | fail "take 3"
      first
      | (refine wpAnyH_take (i := 4) (v := ?_) rfl (by kernel_rfl) (by kernel_rfl) (by kernel_rfl) (fun _ _ _ h => h) (Or.inl ⟨by rfl, ?_⟩) (by assumption) ?_
         rotate_left
         · (intro V hV; obtain ⟨_, x0, x1, x2, x3, x4, x5, x6, x7, x8, x9, x10, x11, x12, x13, x14, x15, x16, x17⟩ := hV; go_simp; try with_reducible rfl)
         try simp only [Act.put, List.getElem_toArray, List.getElem_cons_zero, List.getElem_cons_succ, List.setIfInBounds_toArray, List.set_cons_zero, List.set_cons_succ])
      | (refine wpAnyH_take (i := 4) (v := undef) rfl (by kernel_rfl) (by kernel_rfl) (by kernel_rfl) (fun _ _ _ h => h) (Or.inr ⟨by rfl, rfl⟩) (by assumption) ?_
         try simp only [Act.put, List.getElem_toArray, List.getElem_cons_zero, List.getElem_cons_succ, List.setIfInBounds_toArray, List.set_cons_zero, List.set_cons_succ])
      | fail "take 4"
      first
      | (refine wpAnyH_take (i := 5) (v := ?_) rfl (by kernel_rfl) (by kernel_rfl) (by kernel_rfl) (fun _ _ _ h => h) (Or.inl ⟨by rfl, ?_⟩) (by assumption) ?_
         rotate_left
         · (intro V hV; obtain ⟨_, x0, x1, x2, x3, x4, x5, x6, x7, x8, x9, x10, x11, x12, x13, x14, x15, x16, x17⟩ := hV; go_simp; try with_reducible rfl)
         try simp only [Act.put, List.getElem_toArray, List.getElem_cons_zero, List.getElem_cons_succ, List.setIfInBounds_toArray, List.set_cons_zero, List.set_cons_succ])
      | (refine wpAnyH_take (i := 5) (v := undef) rfl (by kernel_rfl) (by kernel_rfl) (by kernel_rfl) (fun _ _ _ h => h) (Or.inr ⟨by rfl, rfl⟩) (by assumption) ?_
         try simp only [Act.put, List.getElem_toArray, List.getElem_cons_zero, List.getElem_cons_succ, List.setIfInBounds_toArray, List.set_cons_zero, List.set_cons_succ])
      | fail "take 5"
      first
      | (refine wpAnyH_take (i := 6) (v := ?_) rfl (by kernel_rfl) (by kernel_rfl) (by kernel_rfl) (fun _ _ _ h => h) (Or.inl ⟨by rfl, ?_⟩) (by assumption) ?_
         rotate_left
         · (intro V hV; obtain ⟨_, x0, x1, x2, x3, x4, x5, x6, x7, x8, x9, x10, x11, x12, x13, x14, x15, x16, x17⟩ := hV; go_simp; try with_reducible rfl)
         try simp only [Act.put, List.getElem_toArray, List.getElem_cons_zero, List.getElem_cons_succ, List.setIfInBounds_toArray, List.set_cons_zero, List.set_cons_succ])
      | (refine wpAnyH_take (i := 6) (v := undef) rfl (by kernel_rfl) (by kernel_rfl) (by kernel_rfl) (fun _ _ _ h => h) (Or.inr ⟨by rfl, rfl⟩) (by assumption) ?_
         try simp only [Act.put, List.getElem_toArray, List.getElem_cons_zero, List.getElem_cons_succ, List.setIfInBounds_toArray, List.set_cons_zero, List.set_cons_succ])
      | fail "take 6"
      first
      | (refine wpAnyH_take (i := 7) (v := ?_) rfl (by kernel_rfl) (by kernel_rfl) (by kernel_rfl) (fun _ _ _ h => h) (Or.inl ⟨by rfl, ?_⟩) (by assumption) ?_
         rotate_left
         · (intro V hV; obtain ⟨_, x0, x1, x2, x3, x4, x5, x6, x7, x8, x9, x10, x11, x12, x13, x14, x15, x16, x17⟩ := hV; go_simp; try with_reducible rfl)
         try simp only [Act.put, List.getElem_toArray, List.getElem_cons_zero, List.getElem_cons_succ, List.setIfInBounds_toArray, List.set_cons_zero, List.set_cons_succ])
      | (refine wpAnyH_take (i := 7) (v := undef) rfl (by kernel_rfl) (by kernel_rfl) (by kernel_rfl) (fun _ _ _ h => h) (Or.inr ⟨by rfl, rfl⟩) (by assumption) ?_
         try simp only [Act.put, List.getElem_toArray, List.getElem_cons_zero, List.getElem_cons_succ, List.setIfInBounds_toArray, List.set_cons_zero, List.set_cons_succ])
      | fail "take 7"
      first
      | (refine wpAnyH_take (i := 8) (v := ?_) rfl (by kernel_rfl) (by kernel_rfl) (by kernel_rfl) (fun _ _ _ h => h) (Or.inl ⟨by rfl, ?_⟩) (by assumption) ?_
         rotate_left
         · (intro V hV; obtain ⟨_, x0, x1, x2, x3, x4, x5, x6, x7, x8, x9, x10, x11, x12, x13, x14, x15, x16, x17⟩ := hV; go_simp; try with_reducible rfl)
         try simp only [Act.put, List.getElem_toArray, List.getElem_cons_zero, List.getElem_cons_succ, List.setIfInBounds_toArray, List.set_cons_zero, List.set_cons_succ])
      | (refine wpAnyH_take (i := 8) (v := undef) rfl (by kernel_rfl) (by kernel_rfl) (by kernel_rfl) (fun _ _ _ h => h) (Or.inr ⟨by rfl, rfl⟩) (by assumption) ?_
         try simp only [Act.put, List.getElem_toArray, List.getElem_cons_zero, List.getElem_cons_succ, List.setIfInBounds_toArray, List.set_cons_zero, List.set_cons_succ])
      | fail "take 8"
      first
      | (refine wpAnyH_take (i := 9) (v := ?_) rfl (by kernel_rfl) (by kernel_rfl) (by kernel_rfl) (fun _ _ _ h => h) (Or.inl ⟨by rfl, ?_⟩) (by assumption) ?_
         rotate_left
         · (intro V hV; obtain ⟨_, x0, x1, x2, x3, x4, x5, x6, x7, x8, x9, x10, x11, x12, x13, x14, x15, x16, x17⟩ := hV; go_simp; try with_reducible rfl)
         try simp only [Act.put, List.getElem_toArray, List.getElem_cons_zero, List.getElem_cons_succ, List.setIfInBounds_toArray, List.set_cons_zero, List.set_cons_succ])
      | (refine wpAnyH_take (i := 9) (v := undef) rfl (by kernel_rfl) (by kernel_rfl) (by kernel_rfl) (fun _ _ _ h => h) (Or.inr ⟨by rfl, rfl⟩) (by assumption) ?_
         try simp only [Act.put, List.getElem_toArray, List.getElem_cons_zero, List.getElem_cons_succ, List.setIfInBounds_toArray, List.set_cons_zero, List.set_cons_succ])
      | fail "take 9"
      refine wpAnyH_ready (rs := [10]) (by kernel_rfl) (by simp) ?_
      refine AllReadyH.cons rfl (fun K hK => ?_) AllReadyH.nil
      go_simp
      refine (CSM.out _ hS.1).mono ?_
      rintro e9 wS ⟨rfl, hbS⟩
      have SS := KP.out wS (hS.1.trans (hbS.mono hS.1.size))
      have HBS := Lib.hid (hS.1.trans (hbS.mono hS.1.size))
      clear hS hbS
      refine hK.out _ _ SS (fun hS => ?_)
      clear hK K
      try simp only [Act.put, List.getElem_toArray, List.getElem_cons_zero, List.getElem_cons_succ, List.setIfInBounds_toArray, List.set_cons_zero, List.set_cons_succ]
      first
      | (refine wpAnyH_take (i := 11) (v := ?_) rfl (by kernel_rfl) (by kernel_rfl) (by kernel_rfl) (fun _ _ _ h => h) (Or.inl ⟨by rfl, ?_⟩) (by assumption) ?_
         rotate_left
         · (intro V hV; obtain ⟨_, x0, x1, x2, x3, x4, x5, x6, x7, x8, x9, x10, x11, x12, x13, x14, x15, x16, x17⟩ := hV; go_simp; try with_reducible rfl)
         try simp only [Act.put, List.getElem_toArray, List.getElem_cons_zero, List.getElem_cons_succ, List.setIfInBounds_toArray, List.set_cons_zero, List.set_cons_succ])
      | (refine wpAnyH_take (i := 11) (v := undef) rfl (by kernel_rfl) (by kernel_rfl) (by kernel_rfl) (fun _ _ _ h => h) (Or.inr ⟨by rfl, rfl⟩) (by assumption) ?_
         try simp only [Act.put, List.getElem_toArray, List.getElem_cons_zero, List.getElem_cons_succ, List.setIfInBounds_toArray, List.set_cons_zero, List.set_cons_succ])
      | fail "take 11"
      first
      | (refine wpAnyH_take (i := 12) (v := ?_) rfl (by kernel_rfl) (by kernel_rfl) (by kernel_rfl) (fun _ _ _ h => h) (Or.inl ⟨by rfl, ?_⟩) (by assumption) ?_
         rotate_left
         · (intro V hV; obtain ⟨_, x0, x1, x2, x3, x4, x5, x6, x7, x8, x9, x10, x11, x12, x13, x14, x15, x16, x17⟩ := hV; go_simp; try with_reducible rfl)
         try simp only [Act.put, List.getElem_toArray, List.getElem_cons_zero, List.getElem_cons_succ, List.setIfInBounds_toArray, List.set_cons_zero, List.set_cons_succ])
      | (refine wpAnyH_take (i := 12) (v := undef) rfl (by kernel_rfl) (by kernel_rfl) (by kernel_rfl) (fun _ _ _ h => h) (Or.inr ⟨by rfl, rfl⟩) (by assumption) ?_
         try simp only [Act.put, List.getElem_toArray, List.getElem_cons_zero, List.getElem_cons_succ, List.setIfInBounds_toArray, List.set_cons_zero, List.set_cons_succ])
      | fail "take 12"
      refine wpAnyH_done (by kernel_rfl) ?_ _
    · have HB5 := HBD.out.trans (HBS.out.mono HBD.out.size)
      have OL := L5.out.later HB5
      have r0 := OL.r0
      have r1 := OL.r1
      have HKS := Lib.hid (HKD.out.trans (keepsOthers_below HBS.out))
      have HNP := Lib.hid (show ¬ (pre ++ [(z, [ea0, ea1, ea2, ea3, ea4, ea5, ea6, ea7])]).map Prod.fst <+: e.list by
        rintro ⟨r, hr⟩
        have h1 := HY.out
        rw [← hr] at h1
        simp at h1
        have h2 := HSB.out
        rw [h1, same_refl] at h2
        cases h2)
      clear OL HB5
      gi_wp2
      exact ⟨(HKS.out.trans (KeepsOthers.setCell _ _ _)).from _, .inl ⟨rfl, HNP.out⟩⟩
    · have HB5 := HBD.out.trans (HBS.out.mono HBD.out.size)
      have OL := L5.out.later HB5
      obtain ⟨_, hc, x0, _⟩ := hS
      have hf : wS.frozen? ⟨w5.heap.size, 0, none⟩ = false := (HBS.out.frozen (p := ⟨w5.heap.size, 0, none⟩) HLW.out).trans HFD.out
      have q0 := OL.num
      have HKS := Lib.hid (HKD.out.trans (keepsOthers_below HBS.out))
      have hb5 : w.heap.size + 2 < w5.heap.size := (Array.getElem?_eq_some_iff.1 L5.out.res).1
      have q1 : (wS.setCell ⟨w5.heap.size, 0, none⟩ (.int .i64 (pre.length + 1))).cell? ⟨w.heap.size + 1, 0, none⟩ = some (.int .u8 st) := (World.cell?_setCell_other _ _ _ _ (by intro e; injection e; omega)).trans q0
      have HK := Lib.hid (show (wS.setCell ⟨w5.heap.size, 0, none⟩ (.int .i64 (pre.length + 1))).cell? ⟨w5.heap.size, 0, none⟩ = some (.int .i64 (pre ++ [(z, [ea0, ea1, ea2, ea3, ea4, ea5, ea6, ea7])]).length) by
        rw [World.cell?_setCell_same' _ _ _ (by rw [hc]; rfl)]; simp)
      have HF := Lib.hid (show (wS.setCell ⟨w5.heap.size, 0, none⟩ (.int .i64 (pre.length + 1))).frozen? ⟨w5.heap.size, 0, none⟩ = false by rw [World.frozen?_setCell]; exact hf)
      have HB2 := Lib.hid (show Below w5.heap.size wS (wS.setCell ⟨w5.heap.size, 0, none⟩ (.int .i64 (pre.length + 1))) from (Below.refl w5.heap.size wS).setCell (p := ⟨w5.heap.size, 0, none⟩) (Nat.le_refl _) _)
      have HKO := Lib.hid (show KeepO none w5.heap.size w6.heap.size Wr (wS.setCell ⟨w5.heap.size, 0, none⟩ (.int .i64 (pre.length + 1))) from (HKP.out.trans (KeepO.new HBS.out)).trans (KeepO.set wS _ _ _ (Nat.le_refl _) hlt6))
      have HL1 := Lib.hid (show ((pre ++ [(z, [ea0, ea1, ea2, ea3, ea4, ea5, ea6, ea7])]).length : Int) = pre.length + 1 by simp)
      have HB6 := Lib.hid HB5
      clear OL HB5 hb5
      by_cases hst : st < (pre.length : Int) + 1
      · gi_wp2
        exact ⟨(HKS.out.trans (KeepsOthers.setCell _ _ _)).from _, .inr ⟨rfl, HK.out, by rw [HL1.out]; have := HLE.out; omega, HB6.out.trans HB2.out⟩⟩
      · have hst2 : (pre.length : Int) + 1 ≤ st := by omega
        gi_wp2
        exact ⟨(HKS.out.trans (KeepsOthers.setCell _ _ _)).from _, HKO.out, ⟨HK.out, HF.out, by rw [HL1.out]; omega⟩, HB6.out.trans HB2.out⟩
  case done =>
    rintro D ys W hD hys ⟨⟨hc, hf, hle⟩, hbw⟩ hK
    have hyl : ys.length = e.list.length := by rw [← hys, List.length_map]
    rw [hyl] at hc hle
    have x0 := (hbw.cell (cell_lt WX5.out)).trans WX5.out
    have OL := L5.out.later hbw
    have q0 := OL.num
    have r0 := OL.r0
    have r1 := OL.r1
    have HLV := Lib.hid (fun tmps ht => leave_markE (w := w) (W := W) (k := w.heap.size + 2) tmps ht OL.bel (by omega) (Nat.le_trans L5.out.bel.size (Nat.le_trans hz6 hD)) hK r0)
    have hln : (e.list.length : Int) ≤ 1000 := by have := list_wt e; have := WT.out; omega
    have hle2 : (e.list.length : Int) ≤ st + 1 := by omega
    clear hK hbw hD OL hys hyl
    go_wp2_with fail
    rw [show ((e.list.length : Int) == min (e.list.length : Int) (st + 1)) = true by rw [Int.min_eq_left hle2]; simp]
    exact HLV.out _ rfl
  case stop =>
    rintro D c pre W hD hpre hx hK
    rcases hx with ⟨_, h⟩ | ⟨rfl, hc, hlen, hbw⟩
    · exact absurd hpre h
    have hpl := hpre.length_le
    rw [List.length_map] at hpl
    have x0 := (hbw.cell (cell_lt WX5.out)).trans WX5.out
    have OL := L5.out.later hbw
    have q0 := OL.num
    have r0 := OL.r0
    have r1 := OL.r1
    have HLV := Lib.hid (fun tmps ht => leave_markE (w := w) (W := W) (k := w.heap.size + 2) tmps ht OL.bel (by omega) (Nat.le_trans L5.out.bel.size (Nat.le_trans hz6 hD)) hK r0)
    have hln : (e.list.length : Int) ≤ 1000 := by have := list_wt e; have := WT.out; omega
    have hle2 : st + 1 ≤ (e.list.length : Int) := by omega
    rw [hlen] at hc
    clear hK hbw hD hpre hlen hpl OL
    refine wpIn_wide.2 ?_
    go_wp2_with fail
    rw [show (st + 1 == min (e.list.length : Int) (st + 1)) = true by rw [Int.min_eq_right hle2]; simp]
    exact HLV.out _ rfl
end Go.Proofs.YtnfakhohoibkpaaDoor
