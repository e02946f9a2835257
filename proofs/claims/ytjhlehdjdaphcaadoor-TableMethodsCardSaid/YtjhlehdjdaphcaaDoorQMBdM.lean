/- Calls that put something in place of types, with a state in memory: what each gives and keeps, block by block. No condition. -/
import Derived.Test.YtjhlehdjdaphcaaDoorQMBdP
import Derived.Test.YtjhlehdjdaphcaaDoorQMDcM
import Derived.Lib.AppendZerosOnto
namespace Go.Proofs.YtjhlehdjdaphcaaDoor
open Go.RowKit

/-- What a call does to the world: what is neither below lo nor in the state's own blocks Fp stays. -/
structure Mf (lo : Nat) (Fp : World → Nat → Prop) (V V' : World) : Prop where
  bel : Below lo V V'
  kp : ∀ b, b < V.heap.size → ¬ Fp V b → V'.heap[b]? = V.heap[b]?
  fp : ∀ b, b < V.heap.size → ¬ Fp V b → ¬ Fp V' b
theorem Mf.refl (lo : Nat) (Fp : World → Nat → Prop) (V : World) : Mf lo Fp V V := ⟨Below.refl _ _, fun _ _ _ => rfl, fun _ _ h => h⟩
theorem Mf.size {lo : Nat} {Fp : World → Nat → Prop} {V V' : World} (h : Mf lo Fp V V') : V.heap.size ≤ V'.heap.size := h.bel.size
theorem Mf.trans {lo : Nat} {Fp : World → Nat → Prop} {U V W : World} (h : Mf lo Fp U V) (k : Mf lo Fp V W) : Mf lo Fp U W :=
  ⟨h.bel.trans k.bel, fun b hb hn => (k.kp b (Nat.lt_of_lt_of_le hb h.size) (h.fp b hb hn)).trans (h.kp b hb hn), fun b hb hn => k.fp b (Nat.lt_of_lt_of_le hb h.size) (h.fp b hb hn)⟩
theorem kept_of {V V' : World} {S : Nat → Prop} (h : ∀ b, S b → V'.heap[b]? = V.heap[b]?) : Kept V V' S := fun _ hp => ⟨World.cell?_of_block (w := V) (h _ hp), World.frozen?_of_block (w := V) (h _ hp)⟩
theorem heap_setCells (g : Nat) : ∀ (vs : List Value) (o : Nat) (w : World) (b : Nat), b ≠ g → (w.setCells g o vs).heap[b]? = w.heap[b]?
  | [], _, _, _, _ => rfl
  | v :: r, o, w, b, h => (heap_setCells g r (o + 1) _ b h).trans (Below.heap_setCell w ⟨g, o, none⟩ v b h)

/-- A state: the number i of what was done; its own blocks; the blocks below n hold what is given, those of R what is handed out; nw: what is made may lead to new blocks, too. -/
structure Bd where
  lo : Nat
  n : Nat
  Fp : World → Nat → Prop
  St : Nat → World → Prop
  R : Nat → Prop
  nw : Prop
structure Bd.Ok (K : Bd) : Prop where
  lo : ∀ i V, K.St i V → K.lo ≤ V.heap.size ∧ K.n ≤ V.heap.size
  low : ∀ i V b, K.St i V → K.Fp V b → K.n ≤ b ∧ b < V.heap.size
  res : ∀ i V b, K.St i V → K.R b → b < V.heap.size ∧ ¬ K.Fp V b
  keep : ∀ i V V', K.St i V → V.heap.size ≤ V'.heap.size → (∀ b, b < V.heap.size → (b < K.n ∨ K.Fp V b) → V'.heap[b]? = V.heap[b]?) → K.St i V' ∧ ∀ b, K.Fp V' b ↔ K.Fp V b
abbrev Bd.Mv (K : Bd) : World → World → Prop := Mf K.lo K.Fp
/-- The blocks that what was made leads to: handed out, or made since the heap had a blocks. -/
def Bd.Got (K : Bd) (a : Nat) (V : World) (b : Nat) : Prop := K.R b ∨ (K.nw ∧ a ≤ b ∧ b < V.heap.size ∧ ¬ K.Fp V b)

namespace Bd
variable {K : Bd}
theorem below (hK : K.Ok) {i : Nat} {V V' : World} (hs : K.St i V) (hb : Below V.heap.size V V') : K.Mv V V' ∧ K.St i V' := by
  obtain ⟨h1, h2⟩ := hK.keep i V V' hs hb.size fun b hl _ => hb.block b hl
  exact ⟨⟨hb.mono (hK.lo i V hs).1, fun b hl _ => hb.block b hl, fun b _ hn h => hn ((h2 b).1 h)⟩, h1⟩
theorem cells (hK : K.Ok) {i g : Nat} {V0 V : World} (hs : K.St i V) (hm : K.Mv V0 V) (hg : V0.heap.size ≤ g) (hl : K.lo ≤ V0.heap.size) (hn : K.n ≤ V0.heap.size) (hf : ¬ K.Fp V g) (o : Nat) (vs : List Value) :
    K.Mv V0 (V.setCells g o vs) ∧ K.St i (V.setCells g o vs) ∧ ∀ b, K.Fp (V.setCells g o vs) b ↔ K.Fp V b := by
  obtain ⟨h1, h2⟩ := hK.keep i V (V.setCells g o vs) hs (by rw [size_setCells_w]; exact Nat.le_refl _) fun b _ hb => heap_setCells g vs o V b (fun e => by
    subst e
    rcases hb with hb | hb
    · omega
    · exact hf hb)
  exact ⟨⟨hm.bel.trans (below_cells (Nat.le_trans hl hg) vs o V), fun b hb hn => (heap_setCells g vs o V b (by omega)).trans (hm.kp b hb hn), fun b hb hn h => hm.fp b hb hn ((h2 b).1 h)⟩, h1, h2⟩
theorem Got.mv (_hK : K.Ok) {a b : Nat} {V V' : World} (hm : K.Mv V V') (h : K.Got a V b) : K.Got a V' b :=
  h.imp id fun h => ⟨h.1, h.2.1, Nat.lt_of_lt_of_le h.2.2.1 hm.size, hm.fp b h.2.2.1 h.2.2.2⟩
theorem Got.kept (hK : K.Ok) {i a : Nat} {V V' : World} (hs : K.St i V) (hm : K.Mv V V') : Kept V V' (K.Got a V) := kept_of fun b hb => by
  rcases hb with hb | hb
  · obtain ⟨h1, h2⟩ := hK.res i V b hs hb
    exact hm.kp b h1 h2
  · exact hm.kp b hb.2.2.1 hb.2.2.2
theorem Got.up {a a' b : Nat} {V : World} (h : K.Got a V b) (ha : a' ≤ a) : K.Got a' V b := h.imp id fun h => ⟨h.1, Nat.le_trans ha h.2.1, h.2.2⟩
/-- What is given stays. -/
theorem given (hK : K.Ok) {i : Nat} {V V' : World} (hs : K.St i V) (hm : K.Mv V V') : Kept V V' (· < K.n) := kept_of fun b hb =>
  hm.kp b (Nat.lt_of_lt_of_le hb (hK.lo i V hs).2) fun h => by have := (hK.low i V b hs h).1; omega
theorem given_row (hK : K.Ok) {i z q : Nat} {V V' : World} {A : Option Addr} {ds : List Dat} (hs : K.St i V) (hm : K.Mv V V') (h : Row V False (· < K.n) z A q ds) : Row V' False (· < K.n) z A q ds := h.keep id (given hK hs hm) fun _ h => h
theorem given_in (hK : K.Ok) {i : Nat} {V V' : World} {d : Dat} {us : List Value} (hs : K.St i V) (hm : K.Mv V V') (h : d.In V False (· < K.n) us) : d.In V' False (· < K.n) us := Dat.In.keep id (given hK hs hm) (fun _ h => h) d us h
end Bd

/-- A block that the call has made, with these cells. -/
structure Held (w : World) (g m : Nat) (cs : List Value) : Prop where
  there : w.there g 0 m
  lt : g < w.heap.size
  at_ : w.rangeAt g 0 cs
theorem Held.kept {w w' : World} {g m : Nat} {cs : List Value} (h : Held w g m cs) (hk : w'.heap[g]? = w.heap[g]?) (hs : w.heap.size ≤ w'.heap.size) : Held w' g m cs := by
  have e : ∀ p : Addr, p.block = g → w'.cell? p = w.cell? p ∧ w'.frozen? p = w.frozen? p := fun p hp => kept_of (S := (· = g)) (fun b hb => by rw [hb]; exact hk) p hp
  refine ⟨fun j hj => ?_, Nat.lt_of_lt_of_le h.lt hs, fun j v hv => ?_⟩
  · rw [(e ⟨g, 0 + j, none⟩ rfl).1, (e ⟨g, 0 + j, none⟩ rfl).2]; exact h.there j hj
  · rw [(e ⟨g, 0 + j, none⟩ rfl).1]; exact h.at_ j v hv
/-- Some of its cells are written. -/
theorem Held.set {w : World} {g m : Nat} {p us vs r : List Value} (h : Held w g m (p ++ (us ++ r))) (hl : vs.length = us.length) (hm : p.length + us.length ≤ m) : Held (w.setCells g p.length vs) g m (p ++ (vs ++ r)) := by
  have ht : w.there g p.length vs.length := fun j hj => by
    have := h.there (p.length + j) (by omega)
    rwa [Nat.zero_add] at this
  refine ⟨World.there_setCells h.there _ _ _, by rw [size_setCells_w]; exact h.lt, fun j v hv => ?_⟩
  rw [Nat.zero_add]
  by_cases h1 : j < p.length
  · rw [List.getElem?_append_left h1] at hv
    rw [World.cell?_setCells_out _ _ _ _ _ (fun _ _ => .inl h1)]
    have := h.at_ j v (by rw [List.getElem?_append_left h1]; exact hv)
    rwa [Nat.zero_add] at this
  · by_cases h2 : j < p.length + vs.length
    · rw [List.getElem?_append_right (by omega), List.getElem?_append_left (by omega)] at hv
      have := World.rangeAt_setCells_same w g p.length vs ht (j - p.length) v hv
      rwa [show p.length + (j - p.length) = j by omega] at this
    · rw [World.cell?_setCells_out _ _ _ _ _ (fun _ _ => .inr (by simp only; omega))]
      have := h.at_ j v (by
        rw [List.getElem?_append_right (by omega), List.getElem?_append_right (by omega)] at hv ⊢
        rw [← hv, hl])
      rwa [Nat.zero_add] at this

/-- What a call in place of a type gives. -/
def DoPost (K : Bd) (r : Ty) (i : Nat) (V : World) (e : Ending) (V' : World) : Prop :=
  ∃ us, e = .returned (.agg us.toArray) ∧ r.dat.In V' False (K.Got V.heap.size V') us ∧ K.Mv V V' ∧ K.St i V'
def DoCall (g : Nat) (cb : Array Value) (K : Bd) (t r : Ty) (i : Nat) : Prop := ∀ (us : List Value) (V : World), K.St i V → t.dat.In V False (· < K.n) us →
  Calls Tryd.prog g (#[.agg us.toArray] ++ cb) V (DoPost K r (i + 1) V)
/-- A row that the call has made: nothing, or a block of its own, in front of what it leads to. -/
def RowGot (K : Bd) (a : Nat) (V : World) (q z : Nat) (v : Value) (ds : List Dat) : Prop :=
  (q = 0 ∧ v = .slice none 0 0 ∧ ds = []) ∨ ∃ g c cs, v = .slice (some ⟨g, 0, none⟩) q c ∧ q ≤ c ∧ Held V g (q * z) cs ∧ Dat.Ins V False (fun b => K.Got a V b ∧ b ≠ g) ds cs ∧ ds.length = q ∧ (∀ d ∈ ds, d.size = z) ∧ a ≤ g ∧ ¬ K.Fp V g
theorem RowGot.mv {K : Bd} (hK : K.Ok) {i a q z : Nat} {V V' : World} {v : Value} {ds : List Dat} (hs : K.St i V) (hm : K.Mv V V') (h : RowGot K a V q z v ds) : RowGot K a V' q z v ds := by
  rcases h with h | ⟨g, c, cs, h1, hc, h2, h3, h4, h5, h6, h7⟩
  · exact .inl h
  · exact .inr ⟨g, c, cs, h1, hc, h2.kept (hm.kp g h2.lt h7) hm.size, Dat.Ins.keep id (fun p hp => Bd.Got.kept hK hs hm p hp.1) (fun b hb => ⟨Bd.Got.mv hK hm hb.1, hb.2⟩) ds cs h3, h4, h5, h6, hm.fp g h2.lt h7⟩
/-- As a slice. -/
theorem RowGot.row {K : Bd} {a q z : Nat} {V : World} {v : Value} {ds : List Dat} (h : RowGot K a V q z v ds) (hq : q ≤ 9223372036854775807) : ∃ A c, v = .slice A q c ∧ q ≤ c ∧ Row V False (fun b => K.Got a V b ∨ (a ≤ b ∧ b < V.heap.size ∧ ¬ K.Fp V b)) z A q ds := by
  rcases h with ⟨rfl, rfl, rfl⟩ | ⟨g, c, cs, rfl, hc, h2, h3, h4, h5, h6, h7⟩
  · exact ⟨none, 0, rfl, Nat.le_refl _, Row.nil _ _ _ _ _⟩
  · refine ⟨some ⟨g, 0, none⟩, c, rfl, hc, h4, hq, Dat.Elems.of fun k d hk => ?_⟩
    obtain ⟨u, hu, hat⟩ := h3.at h5 hk
    refine ⟨⟨g, 0, none⟩, u, rfl, (.inr ⟨h6, h2.lt, h7⟩), False.elim, hu.wide fun b hb => .inl hb.1, fun j x hx => ?_⟩
    rw [Nat.zero_add, add_add, add_zero_addr]
    have := h2.at_ _ _ (hat j x hx)
    rwa [Nat.zero_add] at this

/-! ### operations of a region that draws its order -/
theorem setThreeB {cs : List Value} {n : Nat} (h : cs.length = n) {z0 z1 z2 u0 u1 u2 : Value} : (((cs ++ [z0, z1, z2]).set n u0).set (n + 1) u1).set (n + 1 + 1) u2 = cs ++ [u0, u1, u2] := by
  subst h
  rw [List.set_append_right _ _ (Nat.le_refl _), List.set_append_right _ _ (by omega), List.set_append_right _ _ (by omega), Nat.sub_self, show cs.length + 1 - cs.length = 1 by omega, show cs.length + 1 + 1 - cs.length = 2 by omega]
  rfl
theorem heap_cellsB {W : World} {g k : Nat} (hk : k ≠ g) (o : Nat) (vs : List Value) : (W.setCells g o vs).heap[k]? = W.heap[k]? := by
  induction vs generalizing o W with
  | nil => rfl
  | cons v r ih => rw [World.setCells, ih]; exact Below.heap_setCell _ _ _ _ (by simp only; exact fun e => hk e)
theorem own_someB {W : World} {B n : Nat} {v : Value} {cs : List Value} (h : W.ownsRow B 25 3 v n cs) (hn : 0 < n) : ∃ g cap, v = .slice (some ⟨g, 0, none⟩) n cap := by
  rcases h.2 with ⟨_, h0⟩ | ⟨g, cap, _, rfl, _⟩
  · omega
  · exact ⟨g, cap, rfl⟩
theorem zero_tyB {w : World} {N : Prop} {S : Nat → Prop} : (Ty.mk ⟨#[]⟩ [] 0).dat.In w N S [.string ⟨#[]⟩, .slice none 0 0, .int .i64 0] :=
  ty_shut (t := .mk ⟨#[]⟩ [] 0) (by simp [Ty.name, ByteArray.size]) (lies_row.2 (Row.nil w N S 3 none))
theorem own_thereB {W : World} {B n g c : Nat} {cs : List Value} (h : W.ownsRow B 25 3 (.slice (some ⟨g, 0, none⟩) (n + 1) c) (n + 1) cs) : W.there g (n * 3) 3 := fun j hj => by
  have hl := h.1
  have hlt : n * 3 + j < cs.length := by omega
  have hc := h.cells (g := g) rfl (n * 3 + j) _ (List.getElem?_eq_getElem hlt)
  rw [add_zero_addr] at hc
  refine ⟨by rw [hc]; rfl, ?_⟩
  rcases h.2 with ⟨e, _⟩ | ⟨g', cap, cur, e, _, hg, _⟩
  · cases e
  · cases e
    simp [World.frozen?, hg]
theorem Appd.storeB {W W1 : World} {s n g c1 : Nat} {v : Value} {cs : List Value} {z0 z1 z2 : Value} (u0 u1 u2 : Value) (hA : Appd W W1 s 25 3 n 1 v (.slice (some ⟨g, 0, none⟩) (n + 1) c1) cs [z0, z1, z2]) :
    Appd W (W1.setCells g (n * 3) [u0, u1, u2]) s 25 3 n 1 v (.slice (some ⟨g, 0, none⟩) (n + 1) c1) cs [u0, u1, u2] := by
  have hl : cs.length = n * 3 := by have := hA.own.1; simp only [List.length_append, List.length_cons, List.length_nil] at this; omega
  have h1 := ((hA.own.stored (n * 3) u0).1.stored (n * 3 + 1) u1).1.stored (n * 3 + 1 + 1) u2
  refine ⟨?_, ⟨hA.grow.os, hA.grow.tape, hA.grow.output, by rw [size_setCells_w]; exact hA.grow.size, fun k hk hne => ?_⟩, hA.at_⟩
  · have := h1.1
    rw [setThreeB hl] at this
    exact this
  · refine (heap_cellsB (fun e => ?_) _ _).trans (hA.grow.block k hk hne)
    subst e
    rcases hA.at_ with h3 | h3
    · exact hne h3
    · have h4 : k = W.heap.size := by simpa [Value.ownBlock] using h3
      omega
theorem ready_storeB {ty : TypeId} {z : Nat} (hf : Flat ty z) {ops : Array Oper} {o : Oper} {a : Act} {K : Act → World → Prop} {Q : Exit → Act → World → Prop} {E : Prop} (hgd : o.guard = none) (x y : Operand) (ho : o.op = .store ty x y) {w : World} {b off : Nat} {us : List Value}
    (hx : a.eval x = .pointer (some ⟨b, off, none⟩)) (hy : a.eval y = .agg us.toArray) (ht : w.there b off us.length) (h1 : ∀ u ∈ us, u.oneCell' = true) (hl : us.length = z) (h : K (a.put o.dst undef) (w.setCells b off us)) : if Region.wanted o (yielded ops a.tmps) = true then Oper.wp Tryd.prog o a w K Q else E := by
  have hw : Region.wanted o (yielded ops a.tmps) = true := by simp [Region.wanted, hgd]
  rw [if_pos hw]
  exact wp_store_mid ty x y ho b off us.toArray hx hy (by simpa using ht) (by rw [List.size_toArray, hl]; exact hf.size) (all_oneCell_toArray h1) (by simpa using h)
theorem setCell_commB (w : World) (p q : Addr) (u v : Value) (h : p.block ≠ q.block) : (w.setCell p u).setCell q v = (w.setCell q v).setCell p u := by
  simp only [World.setCell]
  congr 1
  apply Array.ext
  · simp
  · intro i h1 h2
    simp only [Array.getElem_modify]
    by_cases e1 : p.block = i
    · by_cases e2 : q.block = i
      · omega
      · simp [e1, e2]
    · by_cases e2 : q.block = i <;> simp [e1, e2]
theorem setCells_commB (p : Addr) (v : Value) (g : Nat) (h : p.block ≠ g) : ∀ (vs : List Value) (o : Nat) (w : World), (w.setCell p v).setCells g o vs = (w.setCells g o vs).setCell p v
  | [], _, _ => rfl
  | x :: r, o, w => by
    rw [World.setCells, World.setCells, setCell_commB w p ⟨g, o, none⟩ v x h]
    exact setCells_commB p v g h r (o + 1) _
theorem there_setCellB {w : World} {b o n : Nat} (h : w.there b o n) (p : Addr) (v : Value) : (w.setCell p v).there b o n := by
  intro j hj
  obtain ⟨h1, h2⟩ := h j hj
  refine ⟨?_, (World.frozen?_setCell _ _ _ _).trans h2⟩
  by_cases e : p = ⟨b, o + j, none⟩
  · rw [← e] at h1 ⊢
    rw [World.cell?_setCell_same' _ _ _ h1]
    rfl
  · rw [World.cell?_setCell_other _ _ _ _ e]
    exact h1
theorem loadYieldB {ty : TypeId} {z : Nat} (hf : Flat ty z) {f : Operand → Value} {V : World} {d i : Nat} {ps : String} {af : Array Edge} {g : Option (Nat × Bool)} {p : Addr} {us : List Value} (hx : f (.tmp i) = .pointer (some p)) (hc : CellsAt V p us) (hl : us.length = z) :
    (execOp f { dst := some d, op := .load ty (.tmp i), type := ty, pos := ps, after := af, guard := g }).run Tryd.prog V = .ok (.value (.agg us.toArray)) V := by
  obtain ⟨dsc, h1, h2⟩ := hf.row
  unfold execOp
  simp only [hx, Instr.loadAt, Instr.sureAddr, Sem.run_bind, Sem.run_pure, Result.andThen_ok, run_loadVar_at V p ty us _ hc h1 h2 (by rw [hl]; exact hf.size)]
theorem own_sl {w : World} {base n size : Nat} {e : TypeId} {v : Value} {xs : List Value} (h : w.ownsRow base e size v n xs) : ∃ A c, v = .slice A n c := by
  rcases h.2 with ⟨rfl, rfl⟩ | ⟨g, cap, _, rfl, _⟩
  · exact ⟨none, 0, rfl⟩
  · exact ⟨_, cap, rfl⟩
end Go.Proofs.YtjhlehdjdaphcaaDoor
