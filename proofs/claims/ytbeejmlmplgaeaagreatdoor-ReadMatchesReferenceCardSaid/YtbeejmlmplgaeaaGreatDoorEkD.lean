/- The walks of expr.visit and expr.parts: an iterator over an expression and its kids, by a helper that calls itself and hands yield on. No condition.
The walk of expr.Value: a range over the parts. No condition. -/
import Derived.Test.YtbeejmlmplgaeaaGreatDoorExG
import Derived.Test.YtbeejmlmplgaeaaGreatDoorTyK
import Derived.Test.YtbeejmlmplgaeaaGreatDoorTwD
import Derived.RangeFuncKeeps
import Derived.RangeFuncNested
namespace Go.Proofs.YtbeejmlmplgaeaaGreatDoor
open Go.RowKit
attribute [local go_sem] Oper.semAt_some

theorem room_of_none {F : Fence} (hd : F.depth = none) (k : Nat) : F.room k := fun d h => by rw [hd] at h; cases h
theorem RoundIn.anyDepth {F : Fence} (hd : F.depth = none) {m m' : Nat} {P : Program} {l : Nat} {f : FuncId} {tmps : Array Value} {assign body : Code} {w : World} {R : Ending → World → Prop}
    (h : RoundIn F m P l f tmps assign body w R) : RoundIn F m' P l f tmps assign body w R := ⟨h.1, fun c cs _ => h.2 c cs (room_of_none hd _)⟩
theorem YieldAt.anyDepth {F : Fence} (hd : F.depth = none) {m : Nat} (m' : Nat) {P : Program} {l : Nat} {args : Array Value} {W : World} {R : Ending → World → Prop} (h : YieldAt F m P l args W R) : YieldAt F m' P l args W R := by
  obtain ⟨fn, tmps, assign, body, hy, hR⟩ := h
  exact ⟨fn, tmps, assign, body, hy, RoundIn.anyDepth hd hR⟩

/-! ### data last where the cells that are there last -/
def Lasts (w w' : World) (S : Nat → Prop) : Prop := ∀ (p : Addr) (v : Value), S p.block → w.cell? p = some v → w'.cell? p = some v
theorem Keep.lasts {n m : Nat} {w w' : World} (h : Keep n m w w') : Lasts w w' (· < n) := fun p v hp hv => (h.2 p v (.inl hp) hv).1
mutual
theorem Dat.In.last {w w' : World} {S : Nat → Prop} (hk : Lasts w w' S) : ∀ (d : Dat) (us : List Value), d.In w False S us → d.In w' False S us
  | .cell v, us, h => by rw [Dat.In] at h ⊢; exact h
  | .str s, us, h => by rw [Dat.In] at h ⊢; exact h
  | .tup fs, us, h => by rw [Dat.In] at h ⊢; exact Dat.Ins.last hk fs us h
  | .arr q z xs, us, h => by
    rw [Dat.In] at h ⊢
    obtain ⟨A, c, h1, h2, hq, h3⟩ := h
    exact ⟨A, c, h1, h2, hq, Dat.Elems.last hk z A xs 0 h3⟩
theorem Dat.Ins.last {w w' : World} {S : Nat → Prop} (hk : Lasts w w' S) : ∀ (ds : List Dat) (us : List Value), Dat.Ins w False S ds us → Dat.Ins w' False S ds us
  | [], us, h => by rw [Dat.Ins] at h ⊢; exact h
  | d :: r, us, h => by
    rw [Dat.Ins] at h ⊢
    obtain ⟨u1, u2, h1, h2, h3⟩ := h
    exact ⟨u1, u2, h1, Dat.In.last hk d u1 h2, Dat.Ins.last hk r u2 h3⟩
theorem Dat.Elems.last {w w' : World} {S : Nat → Prop} (hk : Lasts w w' S) (z : Nat) (A : Option Addr) : ∀ (ds : List Dat) (i : Nat), Dat.Elems w False S z A i ds → Dat.Elems w' False S z A i ds
  | [], i, h => by rw [Dat.Elems]; trivial
  | d :: r, i, h => by
    rw [Dat.Elems] at h ⊢
    obtain ⟨⟨a, us, e, h1, h2, h3, h4⟩, h5⟩ := h
    exact ⟨⟨a, us, e, h1, False.elim, Dat.In.last hk d us h3, fun j u hu => hk _ _ (by rw [block_of_add, block_of_add]; exact h1) (h4 j u hu)⟩, Dat.Elems.last hk z A r (i + 1) h5⟩
end
theorem CellsAt.last {w w' : World} {S : Nat → Prop} {p : Addr} {us : List Value} (h : CellsAt w p us) (hk : Lasts w w' S) (hp : S p.block) : CellsAt w' p us := fun j u hu => hk _ _ (by rw [block_of_add]; exact hp) (h j u hu)
theorem Boxd.kept {w w' : World} {n m b : Nat} {us : List Value} (h : Boxd w b us) (hk : Keep n m w w') (hb : m ≤ b) : Boxd w' b us := fun j u hu => (hk.2 ⟨b, j, none⟩ _ (.inr hb) (h j u hu)).1

/-- What a round keeps: the cells below n, and each boxed expression from m on. -/
structure KeepE (n m : Nat) (W W' : World) : Prop where
  size : W.heap.size ≤ W'.heap.size
  low : ∀ (p : Addr) (v : Value), p.block < n → W.cell? p = some v → W'.cell? p = some v ∧ W'.frozen? p = W.frozen? p
  box : ∀ (k : Nat) (cs : Array Value), m ≤ k → W.heap[k]? = some (.cells cs 28 (0, 0)) → W'.heap[k]? = some (.cells cs 28 (0, 0))
theorem KeepE.refl (n m : Nat) (W : World) : KeepE n m W W := ⟨Nat.le_refl _, fun _ _ _ h => ⟨h, rfl⟩, fun _ _ _ h => h⟩
theorem KeepE.trans {n m : Nat} {A B C : World} (h : KeepE n m A B) (k : KeepE n m B C) : KeepE n m A C :=
  ⟨Nat.le_trans h.size k.size, fun p v hp hv => by obtain ⟨h1, h2⟩ := h.low p v hp hv; obtain ⟨h3, h4⟩ := k.low p v hp h1; exact ⟨h3, h4.trans h2⟩, fun i cs hi hc => k.box i cs hi (h.box i cs hi hc)⟩
theorem KeepE.put {n m : Nat} (W : World) (l : Nat) (o o' : Obj) (h : W.heap[l]? = some o) (hc : o.isCells = false) : KeepE n m W (W.putObj l o') :=
  ⟨(grownBy_putObj' W l o').size, fun _ _ _ hv => ⟨cell_kept hv (grownBy_putObj' W l o') (fun r e => by cases e; exact ⟨o, h, hc⟩), frozen_kept hv (grownBy_putObj' W l o') (fun r e => by cases e; exact ⟨o, h, hc⟩)⟩,
    fun k cs _ hk => (World.putObj_heap_other (by rintro rfl; rw [hk] at h; cases h; cases hc)).trans hk⟩
theorem KeepE.set {n m : Nat} (W : World) (b i : Nat) (u : Value) (h : n ≤ b) (h2 : b < m) : KeepE n m W (W.setCell ⟨b, i, none⟩ u) :=
  ⟨by simp [World.setCell], fun p v hp hv => ⟨(World.cell?_setCell_other _ _ _ _ (by rintro rfl; simp only at hp; omega)).trans hv, World.frozen?_setCell _ _ _ _⟩,
    fun k cs hk hc => (Below.heap_setCell _ _ _ _ (by simp only; omega)).trans hc⟩
theorem KeepE.of_below {n m : Nat} {W W' : World} (h : Below W.heap.size W W') : KeepE n m W W' :=
  ⟨h.size, fun _ _ _ hv => ⟨(h.cell (cell_lt hv)).trans hv, h.frozen (cell_lt hv)⟩, fun k _ _ hk => (h.block k (Array.getElem?_eq_some_iff.1 hk).1).trans hk⟩
theorem KeepE.lasts {n m : Nat} {w w' : World} (h : KeepE n m w w') : Lasts w w' (· < n) := fun p v hp hv => (h.low p v hp hv).1
/-- A boxed expression, as a block. -/
def BoxE (W : World) (k : Nat) (us : Array Value) : Prop := W.heap[k]? = some (.cells us 28 (0, 0))
theorem BoxE.new (w : World) (us : Array Value) : BoxE (w.alloc (.cells us 28)) w.heap.size us := (MapKept.heap_alloc w _).1
theorem BoxE.boxd {W : World} {k : Nat} {us : Array Value} (h : BoxE W k us) : Boxd W k us.toList := fun j u hu => by
  rw [cell_of_row _ _ j _ _ (0, 0) h]
  simpa using hu
theorem BoxE.kept {W W' : World} {n m k : Nat} {us : Array Value} (h : BoxE W k us) (hk : KeepE n m W W') (hb : m ≤ k) : BoxE W' k us := hk.box k us hb h

/-- A part: an expression of few parts that lies in the blocks below n of a world. -/
abbrev Part (w0 : World) (n : Nat) : Type := {x : Ex × List Value // x.1.wt ≤ 1000 ∧ x.1.dat.In w0 False (· < n) x.2}
def Part.ex {w0 : World} {n : Nat} (x : Part w0 n) : Ex := x.1.1
def Part.enc {w0 : World} {n : Nat} (x : Part w0 n) : Array Value := #[.agg x.1.2.toArray]

theorem xlistL_app : ∀ (a b : List Ex), Ex.listL (a ++ b) = Ex.listL a ++ Ex.listL b
  | [], b => by simp [Ex.listL]
  | x :: a, b => by simp [Ex.listL, xlistL_app a b]
theorem xlistL_pre {xs : List Ex} {j : Nat} {x : Ex} {q : List Ex} (hx : xs[j]? = some x) (hq : q <+: x.list) : Ex.listL (xs.take j) ++ q <+: Ex.listL xs := by
  have h : Ex.listL xs = Ex.listL (xs.take j) ++ x.list ++ Ex.listL (xs.drop (j + 1)) := by rw [← Ex.listL_step hx, ← xlistL_app, List.take_append_drop]
  obtain ⟨r, hr⟩ := hq
  exact ⟨r ++ Ex.listL (xs.drop (j + 1)), by rw [h, ← hr]; simp⟩

/-- How a walk over parts ends. -/
def PartsDone {w0 : World} (n m : Nat) (J Jx : List (Part w0 n) → World → Prop) (pre : List (Part w0 n)) (l : List Ex) (W : World) (e : Ending) (W' : World) : Prop :=
  (e = .returned (.bool true) ∧ (∃ q : List (Part w0 n), q.map Part.ex = l ∧ J (pre ++ q) W') ∧ KeepE n m W W') ∨ (e = .returned (.bool false) ∧ ∃ q : List (Part w0 n), q.map Part.ex <+: l ∧ Jx (pre ++ q) W')

set_option maxRecDepth 100000 in
set_option maxHeartbeats 8000000 in
theorem visit_in (w0 : World) (l n m K B0 : Nat) (J Jx : List (Part w0 n) → World → Prop) (hJa : AbidesFrom B0 J)
    (hY : ∀ d pre x W, J pre W → pre.length < K → YieldAt Fence.wide d Tryz.prog l (Part.enc x) W fun e W' =>
      (e = .returned (.bool true) ∧ J (pre ++ [x]) W' ∧ KeepE n m W W') ∨ (e = .returned (.bool false) ∧ Jx (pre ++ [x]) W')) :
    ∀ (e : Ex) (us : List Value), e.wt ≤ 1000 → e.dat.In w0 False (· < n) us → ∀ (d : Nat) (pre : List (Part w0 n)) (W : World), m ≤ W.heap.size → KeepE n m w0 W → J pre W → pre.length + e.list.length ≤ K →
      CallsIn Fence.wide d Tryz.prog 167 #[.agg us.toArray, .func (.yield l) #[] #[]] W (PartsDone n m J Jx pre e.list W) := by
  refine Ex.ind fun k s t ts xs o ih us hwt h d pre W hm hkw hJ hN => ?_
  have HWT := Lib.hid (show ∀ x ∈ xs, Ex.wt x ≤ 1000 from fun x hx => Nat.le_trans (Ex.wt_kid (e := .mk k s t ts xs o) hx) hwt)
  obtain ⟨A, q0, a, B, l0, b, C, r, c, rfl, hs, ht, ha, hb, hc⟩ := ex_open h
  have hlist : Ex.list (.mk k s t ts xs o) = .mk k s t ts xs o :: Ex.listL xs := by rw [Ex.list]
  simp only [Ex.kind, Ex.name, Ex.ty, Ex.targs, Ex.kids, Ex.off] at hs ht ha hb hc h ⊢
  rw [hlist] at hN ⊢
  simp only [List.length_cons] at hN
  have hdd : ∀ k : Nat, (Fence.wide.depth.isSome = true → 1 ≤ k) := fun k h => by cases h
  have hbx := BoxE.new W #[.int .i64 k, .string s, .string t.name, .slice A q0 a, .int .i64 t.off, .slice B l0 b, .slice C r c, .int .i64 o]
  have hkp : KeepE n m W (W.alloc (.cells #[.int .i64 k, .string s, .string t.name, .slice A q0 a, .int .i64 t.off, .slice B l0 b, .slice C r c, .int .i64 o] 28)) := KeepE.of_below ((Below.refl _ _).alloc (Nat.le_refl _) _)
  have hJ1 := hJa pre W (W.alloc (.cells #[.int .i64 k, .string s, .string t.name, .slice A q0 a, .int .i64 t.off, .slice B l0 b, .slice C r c, .int .i64 o] 28)) none hJ (World.grownBy_alloc W _ none) (fun r e => by cases e)
  have hkm : (r : Int) ≤ 9223372036854775807 := by have := hc.le; omega
  have hxl := hc.len
  rw [Ex.dats_len] at hxl
  obtain ⟨x0, hx0⟩ : ∃ x0 : Part w0 n, x0 = ⟨(.mk k s t ts xs o, [.int .i64 k, .string s, .string t.name, .slice A q0 a, .int .i64 t.off, .slice B l0 b, .slice C r c, .int .i64 o]), hwt, h⟩ := ⟨_, rfl⟩
  have hex : x0.ex = .mk k s t ts xs o := by rw [hx0]; rfl
  have henc : Part.enc x0 = #[.agg #[.int .i64 k, .string s, .string t.name, .slice A q0 a, .int .i64 t.off, .slice B l0 b, .slice C r c, .int .i64 o]] := by rw [hx0]; rfl
  have hR := hY (d - 1) pre x0 _ hJ1 (by omega)
  rw [henc] at hR
  obtain ⟨fn, tmps, assign, body, hy, hR⟩ := hR
  have HR := Lib.hid hR
  have HB := Lib.hid hbx
  have HK := Lib.hid hkp
  have HKW := Lib.hid hkw
  have HC := Lib.hid hc
  have HM := Lib.hid hm
  have HN := Lib.hid hN
  have HEX := Lib.hid hex
  have IH := Lib.hid ih
  obtain ⟨y0, y1, y2, y3, y4, y5, y6, y7⟩ := hbx.boxd.c8
  clear hR hkp ih h hwt hc ha hb hJ hJ1 hN hbx hkw hx0 henc hex hlist
  refine callsIn_of_wp Tryz.func167 rfl trivial ?_ rfl
  simp only [Tryz.ntmps167, List.size_toArray, List.length_cons, List.length_nil, Nat.reduceAdd, Nat.reduceSub, Array.replicate_succ, Array.replicate_zero, List.push_toArray, List.append_toArray, List.nil_append, List.cons_append]
  gi_wp2_with (((try refine ⟨hdd _, ?_⟩); refine HR.out.mono ?_; clear HR y0 y1 y2 y3 y4 y5 y6 y7; rintro e W2 (⟨rfl, hJ2, hk2⟩ | ⟨rfl, hx2⟩); obtain ⟨y0, y1, y2, y3, y4, y5, y6, y7⟩ := (HB.out.kept hk2 HM.out).boxd.c8; have HK2 := Lib.hid (HK.out.trans hk2); have HJ2 := Lib.hid hJ2; clear hk2 hJ2))
  · gi_loopw [14] (fun i wr => ∃ j : Nat, j ≤ r ∧ i = .int .i64 j ∧ (∃ q : List (Part w0 n), q.map Part.ex = .mk k s t ts xs o :: Ex.listL (xs.take j) ∧ J (pre ++ q) wr) ∧ KeepE n m W wr) (fun i _ => r - (intOf i).toNat)
    case atStart => exact ⟨0, by omega, rfl, ⟨[x0], by simp [Ex.listL, HEX.out], HJ2.out⟩, HK2.out⟩
    case round =>
      obtain ⟨j, hj, rfl, ⟨q, hq, hjj⟩, hkk⟩ := hrel
      have HKK := Lib.hid hkk
      have HQ := Lib.hid hq
      by_cases hlt : j < r
      · have z0 : (j : Int) < r := by omega
        have z1 : (0 : Int) ≤ j := by omega
        obtain ⟨p, u, ps, rfl, hx, hpn, _, hu, hcs⟩ := kid_at HC.out hlt
        have hks := (HKW.out.trans hkk)
        have hcs2 := hcs.last hks.lasts (by rw [block_of_add]; exact hpn)
        have hka : KeepE n m wr (wr.alloc (.cells ps.toArray 28)) := KeepE.of_below ((Below.refl _ _).alloc (Nat.le_refl _) _)
        have hst := Ex.listL_step hx
        have hle := Ex.listL_take xs (j + 1)
        rw [hst, List.length_append] at hle
        have hql : q.length = 1 + (Ex.listL (xs.take j)).length := by have := congrArg List.length hq; simp at this; omega
        have C1 := Lib.hid (IH.out u (List.mem_of_getElem? hx) ps (HWT.out u (List.mem_of_getElem? hx)) hu (d - 1) (pre ++ q) (wr.alloc (.cells ps.toArray 28))
          (Nat.le_trans HM.out (Nat.le_trans hkk.size hka.size)) (hks.trans hka) (hJa _ _ _ none hjj (World.grownBy_alloc wr _ none) (fun r e => by cases e)) (by have := HN.out; rw [List.length_append]; omega))
        have HX := Lib.hid (Boxd.new wr ps.toArray 28)
        obtain ⟨A2, m2, a2, B2, l2, b2, C2, n2, c2, rfl, _⟩ := ex_open hu
        obtain ⟨f0, f1, f2, f3, f4, f5, f6, f7⟩ := cells8_at hcs2
        obtain ⟨g0, g1, g2, g3, g4, g5, g6, g7⟩ := HX.out.c8
        have HKA := Lib.hid (hkk.trans hka)
        have HST := Lib.hid hst
        have HXJ := Lib.hid hx
        clear hx hu hcs hcs2 hks hjj hkk hka hst hle hj hq hql HX
        gi_wp2_with (refine ⟨trivial, hdd _, ?_⟩; refine C1.out.mono ?_; clear C1; rintro e W3 (⟨rfl, ⟨q3, hq3, hJ3⟩, hk3⟩ | ⟨rfl, q3, hq3, hx3⟩))
        · go_roundw
          case rel => exact ⟨j + 1, by omega, by go_num, ⟨q ++ q3, by rw [List.map_append, HQ.out, hq3, HST.out]; rfl, by rw [← List.append_assoc]; exact hJ3⟩, HKA.out.trans hk3⟩
          case measure => simp [intOf]; omega
        · go_ret
          exact .inr ⟨rfl, q ++ q3, by rw [List.map_append, HQ.out, List.cons_append]; exact List.cons_prefix_cons.2 ⟨rfl, xlistL_pre HXJ.out hq3⟩, by rw [← List.append_assoc]; exact hx3⟩
      · have z0 : (r : Int) ≤ j := by omega
        have hjk : xs.take j = xs := List.take_of_length_le (by omega)
        rw [hjk] at HQ
        have HJJ := Lib.hid hjj
        clear hjj hkk hq
        gi_wp2
        go_ret
        exact .inl ⟨rfl, ⟨q, HQ.out, HJJ.out⟩, HKK.out⟩
  · go_ret
    exact .inr ⟨rfl, [x0], by rw [List.map_cons, HEX.out]; exact ⟨Ex.listL xs, rfl⟩, hx2⟩

/-- What parts gives: a function over which a range takes the parts, in their order; a round may write what the caller has made since. -/
def PartsPost (n0 : Nat) (w : World) (x : Ex) (e : Ending) (w' : World) : Prop := ∃ g lb, e = .returned (.func (.func g) #[] lb) ∧ Below w.heap.size w w' ∧
  (∀ args W, (callFunc g args).run Tryz.prog W = .ok (.enter g args) W) ∧
  ∀ n w2, 1 ≤ n → Below w'.heap.size w' w2 → SeqStopsK Fence.wide n Tryz.prog g lb (Part.enc (w0 := w') (n := n0)) (KeepE n0 w2.heap.size) (fun q => q.map Part.ex = x.list) (fun q => q.map Part.ex <+: x.list) x.list.length w2

set_option maxRecDepth 100000 in
set_option maxHeartbeats 2000000 in
theorem parts_in (w0 : World) (l n m d Bt : Nat) (e : Ex) (us : List Value) (hwt : e.wt ≤ 1000) (h : e.dat.In w0 False (· < n) us) (J Jx : List (Part w0 n) → World → Prop) (W : World) (hJa : AbidesFrom W.heap.size J)
    (hY : ∀ pre x V, J pre V → pre.length < e.list.length → YieldAt Fence.wide (d - 1) Tryz.prog l (Part.enc x) V fun e W' =>
      (e = .returned (.bool true) ∧ J (pre ++ [x]) W' ∧ KeepE n m V W') ∨ (e = .returned (.bool false) ∧ Jx (pre ++ [x]) W'))
    (hm : m ≤ W.heap.size) (hk : KeepE n m w0 W) (hB : Boxd W Bt us) (h0 : J [] W) :
    CallsIn Fence.wide d Tryz.prog 166 #[.func (.yield l) #[] #[], .pointer (some ⟨Bt, 0, none⟩)] W fun e' W' => (∃ v, e' = .returned v) ∧ ((∃ ys : List (Part w0 n), ys.map Part.ex = e.list ∧ J ys W') ∨ (∃ pre : List (Part w0 n), pre.map Part.ex <+: e.list ∧ Jx pre W')) := by
  have hdd : ∀ k : Nat, (Fence.wide.depth.isSome = true → 1 ≤ k) := fun k h => by cases h
  have C := Lib.hid (visit_in w0 l n m e.list.length W.heap.size J Jx hJa (fun e pre x V hj hl => YieldAt.anyDepth rfl e (hY pre x V hj hl)) e us hwt h (d - 1) [] W hm hk h0 (by simp))
  obtain ⟨A, q0, a, B, l0, b, C', r, c, rfl, _⟩ := ex_open h
  obtain ⟨y0, y1, y2, y3, y4, y5, y6, y7⟩ := hB.c8
  clear hY hJa h h0 hB hk
  refine callsIn_of_wp Tryz.func166 rfl trivial ?_ rfl
  simp only [Tryz.ntmps166, List.size_toArray, List.length_cons, List.length_nil, Nat.reduceAdd, Nat.reduceSub, Array.replicate_succ, Array.replicate_zero, List.push_toArray, List.append_toArray, List.nil_append, List.cons_append]
  gi_wp2_with (refine ⟨trivial, hdd _, ?_⟩; refine C.out.mono ?_; clear C; rintro e W3 (⟨rfl, ⟨q3, hq3, hJ3⟩, hk3⟩ | ⟨rfl, q3, hq3, hx3⟩))
  · go_end0
    exact ⟨⟨_, rfl⟩, .inl ⟨q3, hq3, by simpa using hJ3⟩⟩
  · go_end0
    exact ⟨⟨_, rfl⟩, .inr ⟨q3, hq3, by simpa using hx3⟩⟩

theorem parts_any (n0 : Nat) (e : Ex) (us : List Value) (w : World) (hn : n0 ≤ w.heap.size) (hwt : e.wt ≤ 1000) (h : e.dat.In w False (· < n0) us) : Calls Tryz.prog 72 #[.agg us.toArray] w (PartsPost n0 w e) := by
  have hb : Below w.heap.size w (w.alloc (.cells us.toArray 28)) := (Below.refl _ _).alloc (Nat.le_refl _) _
  have HB := Lib.hid hb
  have HX := Lib.hid (Boxd.new w us.toArray 28)
  have HL := Lib.hid (Dat.In.later h hb (fun _ h => Nat.lt_of_lt_of_le h hn))
  have HZ := Lib.hid (show w.heap.size < (w.alloc (.cells us.toArray 28)).heap.size by simp)
  obtain ⟨A, q0, a, B, l0, b, C', r, c, rfl, _⟩ := ex_open h
  clear hb h
  go_enter Tryz.func72, Tryz.ntmps72
  go_wp2_with fail
  go_ret
  generalize hW : w.alloc (.cells #[.int .i64 e.kind, .string e.name, .string e.ty.name, .slice A q0 a, .int .i64 e.ty.off, .slice B l0 b, .slice C' r c, .int .i64 e.off] 28) = w' at *
  refine ⟨166, #[.pointer (some ⟨w.heap.size, 0, none⟩)], rfl, HB.out, enters_of Tryz.func166 (by kernel_rfl) rfl, fun n w2 _ hb2 l J Jx W hWb hJ _ hY h0 => ?_⟩
  have hbw : Below w'.heap.size w' W := hb2.trans (hWb.mono hb2.size)
  exact parts_in w' l n0 w2.heap.size n w.heap.size e _ hwt HL.out J Jx W hJ hY hWb.size (KeepE.of_below hbw) (HX.out.later hbw) h0
end Go.Proofs.YtbeejmlmplgaeaaGreatDoor
namespace Go.Proofs.YtbeejmlmplgaeaaGreatDoor
open Go.RowKit
attribute [local go_sem] Oper.semAt_some

theorem xlistL_all (p : Ex → Bool) : ∀ xs : List Ex, (Ex.listL xs).all p = xs.all (fun x => x.list.all p)
  | [] => by simp [Ex.listL]
  | a :: xs => by rw [Ex.listL, List.all_append, xlistL_all p xs, List.all_cons]
def isLit (x : Ex) : Bool := x.kind == 3
theorem value_list : ∀ e : Ex, e.value = e.list.all isLit := by
  refine Ex.ind fun k s t ts xs o ih => ?_
  rw [Ex.value, Ex.list, List.all_cons, xlistL_all, Ex.valueL_all]
  have : xs.all Ex.value = xs.all (fun x => x.list.all isLit) := by
    clear o
    induction xs with
    | nil => rfl
    | cons a r ih2 => rw [List.all_cons, List.all_cons, ih a (by simp), ih2 (fun e he => ih e (by simp [he]))]
  rw [this, Bool.and_comm]
  rfl
/-- What a round of a loop over parts begins with: the part lies in a box of its own. -/
def BoxAx {w0 : World} {n : Nat} (mk : Addr → Part w0 n → Act) (x : Part w0 n) (a' : Act) (W : World) : Prop := ∃ B, a' = mk ⟨B, 0, none⟩ x ∧ Boxd W B x.1.2
theorem boxAx_own {w0 : World} {n B : Nat} (mk : Addr → Part w0 n → Act) (x : Part w0 n) (a' : Act) : OwnFrom B (fun (_ : Unit) W => BoxAx mk x a' W) := fun _ X Y row hs hg hr => by
  obtain ⟨b, e, h⟩ := hs
  exact ⟨b, e, fun j u hu => cell_kept (h j u hu) hg (fun r e => (hr r e).2)⟩
/-- All of these parts meet p. -/
def AllP {w0 : World} {n : Nat} (p : Ex → Bool) (q : List (Part w0 n)) : Prop := ∀ x ∈ q, p x.ex = true
theorem AllP.nil {w0 : World} {n : Nat} (p : Ex → Bool) : AllP p ([] : List (Part w0 n)) := fun _ h => by cases h
theorem AllP.snoc {w0 : World} {n : Nat} {p : Ex → Bool} {q : List (Part w0 n)} {x : Part w0 n} (h : AllP p q) (hx : p x.ex = true) : AllP p (q ++ [x]) := fun y hy => by
  rcases List.mem_append.1 hy with hy | hy
  · exact h y hy
  · rw [List.mem_singleton.1 hy]; exact hx
theorem AllP.last {w0 : World} {n : Nat} {p : Ex → Bool} {q : List (Part w0 n)} {x : Part w0 n} (h : AllP p (q ++ [x])) : p x.ex = true := h x (by simp)
theorem all_parts {w0 : World} {n : Nat} {p : Ex → Bool} {q : List (Part w0 n)} {l : List Ex} (hq : q.map Part.ex = l) (h : AllP p q) : l.all p = true := by
  rw [← hq, List.all_map]
  exact List.all_eq_true.2 h
theorem not_parts {w0 : World} {n : Nat} {p : Ex → Bool} {q : List (Part w0 n)} {l : List Ex} (hq : q.map Part.ex <+: l) (h : ¬ AllP p q) : l.all p = false := by
  rw [Bool.eq_false_iff]
  intro ha
  exact h fun s hs => List.all_eq_true.1 ha s.ex (hq.subset (List.mem_map_of_mem hs))

/-- The first two blocks of a function that takes an expression and gives a bool in a cell. -/
theorem box_bool {w : World} {e : Ex} {us : List Value} (h : e.dat.H w us) :
    OneX w ((w.alloc (.cells us.toArray 28)).alloc (.cells #[.bool false] 4)) e us ∧ ((w.alloc (.cells us.toArray 28)).alloc (.cells #[.bool false] 4)).heap[w.heap.size + 1]? = some (.cells #[.bool false] 4) :=
  ⟨(OneX.new h 28).later ((Below.refl _ _).alloc (Nat.le_refl _) _), heap_alloc_two _ _ _⟩

end Go.Proofs.YtbeejmlmplgaeaaGreatDoor
