/- Calls that put something in place of types and expressions: what each gives and keeps; a row of data that is filled in place; a boxed struct that is written. No condition. -/
import Derived.Test.YtjhlehdjdaphcaaDoorQMEkD
import Derived.Test.YtjhlehdjdaphcaaDoorQMTwH
namespace Go.Proofs.YtjhlehdjdaphcaaDoor
open Go.RowKit

/-- The blocks that every call here keeps: all but those from n to m. -/
def Safe (n m : Nat) (w : World) (b : Nat) : Prop := b < w.heap.size ∧ (b < n ∨ m ≤ b)
/-- The blocks of what a call gives: below n, or made since the heap had a blocks. -/
def NewAt (lo n a : Nat) (w : World) (b : Nat) : Prop := lo ≤ b ∧ (b < n ∨ (a ≤ b ∧ b < w.heap.size))
abbrev NewOr (lo n : Nat) (V V' : World) (b : Nat) : Prop := NewAt lo n V.heap.size V' b
theorem NewAt.wide {lo n a a' : Nat} {w w' : World} {b : Nat} (h : NewAt lo n a w b) (ha : a' ≤ a) (hw : w.heap.size ≤ w'.heap.size) : NewAt lo n a' w' b :=
  ⟨h.1, h.2.imp id fun h => ⟨Nat.le_trans ha h.1, Nat.lt_of_lt_of_le h.2 hw⟩⟩
theorem NewAt.safe {lo n m a : Nat} {w : World} {b : Nat} (h : NewAt lo n a w b) (ha : m ≤ a) : b < n ∨ m ≤ b := h.2.imp id fun h => Nat.le_trans ha h.1
/-- What such a call does to the world. -/
structure Mv (lo n m : Nat) (V V' : World) : Prop where
  bel : Below lo V V'
  kp : Keep n m V V'
theorem Mv.refl (lo n m : Nat) (V : World) : Mv lo n m V V := ⟨Below.refl _ _, Keep.refl _ _ _⟩
theorem Mv.trans {lo n m : Nat} {U V W : World} (h : Mv lo n m U V) (k : Mv lo n m V W) : Mv lo n m U W := ⟨h.bel.trans k.bel, h.kp.trans k.kp⟩
theorem Mv.of {lo n m : Nat} {V V' : World} (h : Below V.heap.size V V') (hlo : lo ≤ V.heap.size) : Mv lo n m V V' := ⟨h.mono hlo, Keep.of_below h⟩
theorem Mv.size {lo n m : Nat} {V V' : World} (h : Mv lo n m V V') : V.heap.size ≤ V'.heap.size := h.kp.1
/-- Cells of a block that was made since. -/
theorem Mv.setCells {lo n m g : Nat} {w W : World} (h : Mv lo n m w W) (hlo : lo ≤ w.heap.size) (hg : w.heap.size ≤ g) (o : Nat) (vs : List Value) : Mv lo n m w (W.setCells g o vs) :=
  ⟨h.bel.trans (below_cells (Nat.le_trans hlo hg) vs o W), by rw [size_setCells_w]; exact h.size, fun p v hp hv => by
    have hb := cell_lt hv
    obtain ⟨e1, e2⟩ := h.kp.2 p v hp hv
    exact ⟨(World.cell?_setCells_out _ _ _ _ _ (fun e => by omega)).trans e1, (World.frozen?_setCells _ _ _ _ _).trans e2⟩⟩

theorem Keep.lastsS {n m : Nat} {w w' : World} (h : Keep n m w w') {S : Nat → Prop} (hS : ∀ b, S b → b < n ∨ m ≤ b) : Lasts w w' S := fun p v hp hv => (h.2 p v (hS _ hp) hv).1
theorem Dat.In.moved {n m : Nat} {w w' : World} {S S' : Nat → Prop} {d : Dat} {us : List Value} (h : d.In w False S us) (hk : Keep n m w w') (hS : ∀ b, S b → b < n ∨ m ≤ b) (hS' : ∀ b, S b → S' b) : d.In w' False S' us :=
  (Dat.In.last (hk.lastsS hS) d us h).wide hS'
theorem Row.moved {n m z k : Nat} {w w' : World} {S S' : Nat → Prop} {A : Option Addr} {ds : List Dat} (h : Row w False S z A k ds) (hk : Keep n m w w') (hS : ∀ b, S b → b < n ∨ m ≤ b) (hS' : ∀ b, S b → S' b) : Row w' False S' z A k ds :=
  Row.wide ⟨h.len, h.le, Dat.Elems.last (hk.lastsS hS) z A ds 0 h.elems⟩ hS'
theorem Lies.moved {n m k : Nat} {w w' : World} {S S' : Nat → Prop} {A : Option Addr} {ts : List Ty} (h : Lies w S A k ts) (hk : Keep n m w w') (hS : ∀ b, S b → b < n ∨ m ≤ b) (hS' : ∀ b, S b → S' b) : Lies w' S' A k ts :=
  lies_row.2 (Row.moved (lies_row.1 h) hk hS hS')
theorem Safe.up {n m : Nat} {w w' : World} (h : w.heap.size ≤ w'.heap.size) : ∀ b, Safe n m w b → Safe n m w' b := fun _ hb => ⟨Nat.lt_of_lt_of_le hb.1 h, hb.2⟩
theorem Lies.mv {lo n m k : Nat} {w w' : World} {A : Option Addr} {ts : List Ty} (h : Lies w (Safe n m w) A k ts) (hk : Mv lo n m w w') : Lies w' (Safe n m w') A k ts := h.moved hk.kp (fun _ h => h.2) (Safe.up hk.size)
theorem Row.mv {lo n m k z : Nat} {w w' : World} {A : Option Addr} {ds : List Dat} (h : Row w False (Safe n m w) z A k ds) (hk : Mv lo n m w w') : Row w' False (Safe n m w') z A k ds := h.moved hk.kp (fun _ h => h.2) (Safe.up hk.size)
theorem Dat.In.mv {lo n m : Nat} {w w' : World} {d : Dat} {us : List Value} (h : d.In w False (Safe n m w) us) (hk : Mv lo n m w w') : d.In w' False (Safe n m w') us := h.moved hk.kp (fun _ h => h.2) (Safe.up hk.size)

/-! ### a row of data that is filled in place -/
structure Fill (lo n a : Nat) (w : World) (g q z : Nat) (ds : List Dat) : Prop where
  there : w.there g 0 (q * z)
  lt : g < w.heap.size
  rows : ∃ cs, Dat.Ins w False (fun b => NewAt lo n a w b ∧ b ≠ g) ds cs ∧ w.rangeAt g 0 cs
  sz : ∀ d ∈ ds, d.size = z
theorem Dat.Ins.wide {w : World} {N : Prop} {S S' : Nat → Prop} {ds : List Dat} {us : List Value} (h : Dat.Ins w N S ds us) (hS : ∀ b, S b → S' b) : Dat.Ins w N S' ds us := Dat.Ins.keep id (fun _ _ => ⟨rfl, rfl⟩) hS ds us h
theorem sizes_all {z : Nat} : ∀ {ds : List Dat}, (∀ d ∈ ds, d.size = z) → Dat.sizes ds = ds.length * z
  | [], _ => by simp [Dat.sizes]
  | d :: r, h => by rw [Dat.sizes, h d List.mem_cons_self, sizes_all (fun x hx => h x (List.mem_cons_of_mem _ hx)), List.length_cons, Nat.add_mul, Nat.one_mul]; omega
theorem Fill.move {lo n m a g q z : Nat} {w w' : World} {ds : List Dat} (h : Fill lo n a w g q z ds) (hg : g < n ∨ m ≤ g) (ha : m ≤ a) (hk : Keep n m w w') : Fill lo n a w' g q z ds := by
  obtain ⟨cs, h1, h2⟩ := h.rows
  refine ⟨fun j hj => ?_, Nat.lt_of_lt_of_le h.lt hk.1, ⟨cs, ?_, fun j v hv => (hk.2 ⟨g, 0 + j, none⟩ v hg (h2 j v hv)).1⟩, h.sz⟩
  · obtain ⟨v, hv⟩ := Option.isSome_iff_exists.1 (h.there j hj).1
    obtain ⟨e1, e2⟩ := hk.2 ⟨g, 0 + j, none⟩ v hg hv
    exact ⟨by rw [e1]; rfl, e2.trans (h.there j hj).2⟩
  · exact (Dat.Ins.last (hk.lastsS fun b hb => hb.1.safe ha) ds cs h1).wide fun b hb => ⟨hb.1.wide (Nat.le_refl _) hk.1, hb.2⟩
theorem Fill.step {lo n a g q z : Nat} {w : World} {ds : List Dat} {d : Dat} {us : List Value} {S' : Nat → Prop} (h : Fill lo n a w g q z ds) (hlt : ds.length < q) (hd : d.In w False S' us) (hS' : ∀ b, S' b → NewAt lo n a w b ∧ b ≠ g) (hz : d.size = z) :
    Fill lo n a (w.setCells g (ds.length * z) us) g q z (ds ++ [d]) := by
  obtain ⟨cs, h1, h2⟩ := h.rows
  have hcl : cs.length = ds.length * z := (Dat.Ins.len ds cs h1).trans (sizes_all h.sz)
  have hul : us.length = z := (Dat.In.len d us hd).trans hz
  have hqz : ds.length * z + z ≤ q * z := by have := Nat.mul_le_mul_right z (show ds.length + 1 ≤ q from hlt); rwa [Nat.add_mul, Nat.one_mul] at this
  have hkept : ∀ S : Nat → Prop, (∀ b, S b → b ≠ g) → Kept w (w.setCells g (ds.length * z) us) S := fun S hS p hp => ⟨World.cell?_setCells_out _ _ _ _ _ (fun e => absurd e (hS _ hp)), World.frozen?_setCells _ _ _ _ _⟩
  have hup : ∀ b, NewAt lo n a w b ∧ b ≠ g → NewAt lo n a (w.setCells g (ds.length * z) us) b ∧ b ≠ g := fun b hb => ⟨hb.1.wide (Nat.le_refl _) (by rw [size_setCells_w]; omega), hb.2⟩
  refine ⟨World.there_setCells h.there _ _ _, by rw [size_setCells_w]; exact h.lt, ⟨cs ++ us, ?_, ?_⟩, fun x hx => ?_⟩
  · exact Dat.Ins.snoc (Dat.In.keep id (hkept _ fun b hb => (hS' b hb).2) (fun b hb => hup b (hS' b hb)) d us hd) (Dat.Ins.keep id (hkept _ fun b hb => hb.2) hup ds cs h1)
  · intro j v hv
    by_cases hj : j < cs.length
    · rw [List.getElem?_append_left hj] at hv
      exact World.rangeAt_setCells_apart h2 _ _ _ (.inr (.inl (by omega))) j v hv
    · rw [List.getElem?_append_right (by omega)] at hv
      have ht : w.there g (ds.length * z) us.length := fun i hi => by
        have := h.there (ds.length * z + i) (by omega)
        rwa [Nat.zero_add] at this
      have := World.rangeAt_setCells_same w g (ds.length * z) us ht (j - cs.length) v hv
      rwa [show ds.length * z + (j - cs.length) = 0 + j by omega] at this
  · rcases List.mem_append.1 hx with hx | hx
    · exact h.sz x hx
    · rw [List.mem_singleton.1 hx]; exact hz
/-- All are written: a slice. -/
theorem Fill.row {lo n a g q z : Nat} {w : World} {ds : List Dat} (h : Fill lo n a w g q z ds) (hq : ds.length = q) (hq2 : q ≤ 9223372036854775807) (hlo : lo ≤ g) (hg : a ≤ g) : Row w False (NewAt lo n a w) z (some ⟨g, 0, none⟩) q ds := by
  obtain ⟨cs, h1, h2⟩ := h.rows
  refine ⟨hq, hq2, Dat.Elems.of fun k d hk => ?_⟩
  obtain ⟨u, hu, hat⟩ := h1.at h.sz hk
  refine ⟨⟨g, 0, none⟩, u, rfl, ⟨hlo, .inr ⟨hg, h.lt⟩⟩, False.elim, hu.wide fun b hb => hb.1, fun j x hx => ?_⟩
  rw [Nat.zero_add, add_add, add_zero_addr]
  have := h2 _ _ (hat j x hx)
  rwa [Nat.zero_add] at this
theorem fill_make {lo n a z : Nat} (W : World) (q : Nat) (e : Array Value) (T : TypeId) : Fill lo n a (W.alloc (.cells (madeCells e (q * z)) T)) W.heap.size q z [] := by
  refine ⟨fun j hj => ⟨?_, ?_⟩, by simp, ⟨[], by rw [Dat.Ins], fun j v hv => by simp at hv⟩, fun _ h => by cases h⟩
  · rw [cell_of_row _ _ (0 + j) _ _ (0, 0) (MapKept.heap_alloc W _).1]
    rw [Array.getElem?_eq_getElem (by rw [size_madeCells]; omega)]; rfl
  · exact frozen_of_row (MapKept.heap_alloc W _).1 _

/-! ### a boxed struct that is written -/
structure BoxF (W : World) (k : Nat) (us : List Value) : Prop where
  box : Boxd W k us
  free : ∀ j, j < us.length → W.frozen? ⟨k, j, none⟩ = false
theorem BoxF.new (w : World) (us : Array Value) (T : TypeId) : BoxF (w.alloc (.cells us T)) w.heap.size us.toList := ⟨Boxd.new w us T, fun j _ => frozen_of_row (MapKept.heap_alloc w _).1 j⟩
theorem BoxF.kept {n m k : Nat} {w w' : World} {us : List Value} (h : BoxF w k us) (hk : Keep n m w w') (hb : m ≤ k) : BoxF w' k us :=
  ⟨h.box.kept hk hb, fun j hj => (hk.2 ⟨k, j, none⟩ _ (.inr hb) (h.box j _ (List.getElem?_eq_getElem hj))).2.trans (h.free j hj)⟩
theorem BoxF.later {k : Nat} {w w' : World} {us : List Value} (h : BoxF w k us) (hb : Below w.heap.size w w') : BoxF w' k us :=
  ⟨h.box.later hb, fun j hj => (hb.frozen (p := ⟨k, j, none⟩) (cell_lt (h.box j _ (List.getElem?_eq_getElem hj)))).trans (h.free j hj)⟩
/-- Another block is written. -/
theorem BoxF.other {k g : Nat} {w : World} {us : List Value} (h : BoxF w k us) (hg : k ≠ g) (o : Nat) (vs : List Value) : BoxF (w.setCells g o vs) k us :=
  ⟨fun j u hu => (World.cell?_setCells_out _ _ _ _ _ (fun e => absurd e hg)).trans (h.box j u hu), fun j hj => (World.frozen?_setCells _ _ _ _ _).trans (h.free j hj)⟩
/-- Some of its cells are written. -/
theorem BoxF.set {k : Nat} {w : World} {p vs r : List Value} {us : List Value} (hvl : ∀ u, vs.length = u → (p ++ vs ++ r).length = us.length) (h : BoxF w k us) (hp : ∀ j, j < p.length → us[j]? = p[j]?) (hr : ∀ j, j < r.length → us[p.length + vs.length + j]? = r[j]?) :
    BoxF (w.setCells k p.length vs) k (p ++ vs ++ r) := by
  have hl := hvl _ rfl
  simp only [List.length_append] at hl
  refine ⟨fun j u hu => ?_, fun j hj => (World.frozen?_setCells _ _ _ _ _).trans (h.free j (by simp only [List.length_append] at hj; omega))⟩
  by_cases h1 : j < p.length
  · rw [List.append_assoc, List.getElem?_append_left h1] at hu
    exact (World.cell?_setCells_out _ _ _ _ _ (fun _ _ => .inl h1)).trans (h.box j u ((hp j h1).trans hu))
  · by_cases h2 : j < p.length + vs.length
    · rw [List.append_assoc, List.getElem?_append_right (by omega), List.getElem?_append_left (by omega)] at hu
      have ht : w.there k p.length vs.length := fun i hi => ⟨by
        rw [h.box (p.length + i) _ (List.getElem?_eq_getElem (by omega))]; rfl, h.free _ (by omega)⟩
      have := World.rangeAt_setCells_same w k p.length vs ht (j - p.length) u hu
      rwa [show p.length + (j - p.length) = j by omega] at this
    · have hj := (List.getElem?_eq_some_iff.1 hu).1
      simp only [List.length_append] at hj
      rw [List.append_assoc, List.getElem?_append_right (by omega), List.getElem?_append_right (by omega)] at hu
      refine (World.cell?_setCells_out _ _ _ _ _ (fun _ _ => .inr (by simp only; omega))).trans (h.box j u ?_)
      rw [← hu, ← hr (j - p.length - vs.length) (by omega)]
      congr 1; omega

/-! ### the calls -/
/-- What a call in place of a type gives. -/
def TGot (lo n m : Nat) (St : Nat → World → Prop) (r : Ty) (i : Nat) (V : World) (e : Ending) (V' : World) : Prop :=
  ∃ A k c, e = .returned (.agg #[.string r.name, .slice A k c, .int .i64 r.off]) ∧ r.name.size ≤ 9223372036854775807 ∧ Lies V' (NewOr lo n V V') A k r.args ∧ Mv lo n m V V' ∧ St i V'
def TCall (g : Nat) (cb : Array Value) (lo n m s0 : Nat) (St : Nat → World → Prop) (t r : Ty) (i : Nat) : Prop := ∀ (A : Option Addr) (k c : Nat) (V : World), s0 ≤ V.heap.size → St i V → t.name.size ≤ 9223372036854775807 → Lies V (Safe n m V) A k t.args →
  Calls Tryd.prog g (#[.agg #[.string t.name, .slice A k c, .int .i64 t.off]] ++ cb) V (TGot lo n m St r (i + 1) V)
/-- What a call in place of an expression gives. -/
def KGot (lo n m : Nat) (St : Nat → World → Prop) (y : Ex) (i : Nat) (V : World) (e : Ending) (V' : World) : Prop :=
  ∃ us, e = .returned (.agg us.toArray) ∧ y.dat.In V' False (NewOr lo n V V') us ∧ Mv lo n m V V' ∧ St i V'
def KCall (g : Nat) (cb : Array Value) (lo n m s0 : Nat) (St : Nat → World → Prop) (x y : Ex) (i i' : Nat) : Prop := ∀ (us : List Value) (V : World), s0 ≤ V.heap.size → St i V → x.dat.In V False (Safe n m V) us →
  Calls Tryd.prog g (#[.agg us.toArray] ++ cb) V (KGot lo n m St y i' V)
/-- What a call in place of a list of types gives. -/
def TsGot (lo n m : Nat) (St : Nat → World → Prop) (rs : List Ty) (i : Nat) (V : World) (e : Ending) (V' : World) : Prop :=
  ∃ A c, e = .returned (.slice A rs.length c) ∧ Lies V' (NewOr lo n V V') A rs.length rs ∧ Mv lo n m V V' ∧ St i V'
def KsGot (lo n m : Nat) (St : Nat → World → Prop) (ys : List Ex) (i : Nat) (V : World) (e : Ending) (V' : World) : Prop :=
  ∃ A c, e = .returned (.slice A ys.length c) ∧ ys.length ≤ c ∧ Row V' False (NewOr lo n V V') 8 A ys.length (Ex.dats ys) ∧ Mv lo n m V V' ∧ St i V'
end Go.Proofs.YtjhlehdjdaphcaaDoor
