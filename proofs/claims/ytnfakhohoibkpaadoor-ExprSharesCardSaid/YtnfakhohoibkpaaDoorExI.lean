/- The walk of the reference's Subst of expressions: what it gives lies in new blocks, which may be written. The condition: few parts. -/
import Derived.Test.YtnfakhohoibkpaaDoorExP
import Derived.Deep.RegionLaw
import Derived.Deep.AppendLies
import Derived.Deep.DeepCutAuto
namespace Go.Proofs.YtnfakhohoibkpaaDoor
open Go.RowKit

theorem infoEx : (Tryd.prog.info? 27).map (fun i => (i.zero, i.size, i.bytes)) = some (some (.agg #[.int .i64 0, .string ⟨#[]⟩, .string ⟨#[]⟩, .slice none 0 0, .int .i64 0, .slice none 0 0, .slice none 0 0, .int .i64 0]), 8, 128) := by kernel_rfl

theorem sizeEx : (Tryd.prog.info? 27).map (·.size) = some 8 := by kernel_rfl
/-- A whole expression is stored, within a region that is held. -/
theorem ready_store8 {ops : Array Oper} {Q : Exit → Act → World → Prop} {a : Act} {w : World} {o : Oper} {K' : Act → World → Prop} (x y : Operand) (ho : o.op = .store 27 x y) (hwant : Region.wanted o (yielded ops a.tmps) = true) (b off : Nat) (vs : Array Value)
    (hx : a.eval x = .pointer (some ⟨b, off, none⟩)) (hy : a.eval y = .agg vs) (ht : w.there b off vs.size) (hsz : vs.size = 8) (h1 : vs.all (·.oneCell') = true) (h : K' (a.put o.dst undef) (w.setCells b off vs.toList)) :
    if Region.wanted o (yielded ops a.tmps) = true then Oper.wp Tryd.prog o a w K' Q else K' (a.put o.dst undef) w := by
  rw [if_pos hwant]
  exact wp_store_mid 27 x y ho b off vs hx hy ht (by rw [hsz]; exact sizeEx) h1 h

/-! ### a result that lies in a block of eight cells -/
/-- The zero value of an expression, not yet written. -/
structure Res8 (w : World) (k : Nat) : Prop where
  box : Boxd w k [.int .i64 0, .string ⟨#[]⟩, .string ⟨#[]⟩, .slice none 0 0, .int .i64 0, .slice none 0 0, .slice none 0 0, .int .i64 0]
  free : ∀ j, w.frozen? ⟨k, j, none⟩ = false
theorem Res8.later {w w' : World} {k : Nat} (h : Res8 w k) (hb : Below w.heap.size w w') : Res8 w' k := ⟨h.box.later hb, fun j => (hb.frozen (p := ⟨k, j, none⟩) h.box.lt).trans (h.free j)⟩
theorem res8_of {w : World} {k : Nat} (h : w.heap[k]? = some (.cells #[.int .i64 0, .string ⟨#[]⟩, .string ⟨#[]⟩, .slice none 0 0, .int .i64 0, .slice none 0 0, .slice none 0 0, .int .i64 0] 27 (0, 0))) : Res8 w k :=
  ⟨fun j u hu => by rw [cell_of_row _ _ j _ _ (0, 0) h]; simpa using hu, frozen_of_row h⟩
theorem set_below {B g : Nat} (hg : B ≤ g) : ∀ (vs : List Value) (o : Nat) (w : World), Below B w (w.setCells g o vs)
  | [], _, _ => Below.refl _ _
  | v :: r, o, w => ((Below.refl B w).setCell (p := ⟨g, o, none⟩) hg v).trans (set_below hg r (o + 1) _)
theorem set_size (b : Nat) : ∀ (vs : List Value) (o : Nat) (w : World), (w.setCells b o vs).heap.size = w.heap.size
  | [], _, _ => rfl
  | v :: r, o, w => by rw [World.setCells, set_size b r (o + 1)]; simp [World.setCell]
theorem Dat.In.setCells {w : World} {N : Prop} {S : Nat → Prop} {d : Dat} {us : List Value} (h : d.In w N S us) (g o : Nat) (vs : List Value) (hg : ¬ S g) : d.In (w.setCells g o vs) N S us :=
  Dat.In.keep id (fun p hp => ⟨World.cell?_setCells_out _ _ _ _ _ (fun e => (hg (by first | (rw [← e]; exact hp) | (rw [e]; exact hp))).elim), World.frozen?_setCells _ _ _ _ _⟩) (fun _ h => h) d us h
/-- The result is written whole. -/
theorem ret8 {w W : World} {x : Ex} {us : List Value} {k : Nat} (hB : Below w.heap.size w W) (hk : w.heap.size ≤ k) (h : x.dat.In W True (fun b => Fresh w W b ∧ b ≠ k) us) : XNeat w x (.returned (.agg us.toArray)) (W.setCells k 0 us) :=
  ⟨us, rfl, (h.setCells k 0 us (fun h => h.2 rfl)).wide fun b hb => ⟨hb.1.1, by rw [set_size]; exact hb.1.2⟩, hB.trans (set_below hk us 0 W)⟩

theorem store8i {ops : Array Oper} {rest : List Oper} {a : Act} {w : World} {Q : Exit → Act → World → Prop} {ps : String} {af : Array Edge} (i j : Nat) {b o : Nat} {vs : Array Value} (hx : a.eval (.tmp i) = .pointer (some ⟨b, o, none⟩)) (hy : a.eval (.tmp j) = .agg vs)
    (ht : w.there b o vs.size) (h1 : vs.all (·.oneCell') = true) (hsz : vs.size = 8) (h : wpList Tryd.prog ops Q rest (a.put none undef) (w.setCells b o vs.toList)) :
    wpList Tryd.prog ops Q ({ dst := none, op := .store 27 (.tmp i) (.tmp j), type := 0, pos := ps, after := af, guard := none } :: rest) a w :=
  wpList_store_mid rfl 27 (.tmp i) (.tmp j) rfl b o vs hx hy ht (by rw [hsz]; exact sizeEx) h1 h

/-- The first two blocks of a function that takes an expression and gives one. -/
theorem two8 {w : World} {e : Ex} {us : List Value} (h : e.dat.H w us) :
    OneX w ((w.alloc (.cells us.toArray 27)).alloc (.cells #[.int .i64 0, .string ⟨#[]⟩, .string ⟨#[]⟩, .slice none 0 0, .int .i64 0, .slice none 0 0, .slice none 0 0, .int .i64 0] 27)) e us ∧ Res8 ((w.alloc (.cells us.toArray 27)).alloc (.cells #[.int .i64 0, .string ⟨#[]⟩, .string ⟨#[]⟩, .slice none 0 0, .int .i64 0, .slice none 0 0, .slice none 0 0, .int .i64 0] 27)) (w.heap.size + 1) ∧ ((w.alloc (.cells us.toArray 27)).alloc (.cells #[.int .i64 0, .string ⟨#[]⟩, .string ⟨#[]⟩, .slice none 0 0, .int .i64 0, .slice none 0 0, .slice none 0 0, .int .i64 0] 27)).heap.size = w.heap.size + 2 :=
  ⟨(OneX.new h 27).later ((Below.refl _ _).alloc (Nat.le_refl _) _), res8_of (heap_alloc_two _ _ _), by simp⟩

/-- What holds at the head of the kids' loop, which began in W2: the expression that is built lies in block k, its kids so far are v. -/
structure KidRow (w W2 V : World) (k : Nat) (u0 u1 u2 u3 u4 u5 u7 v : Value) (j : Nat) (xs : List Ex) : Prop where
  bel : Below w.heap.size w V
  kept : Kept W2 V fun b => b < W2.heap.size ∧ b ≠ k
  size : W2.heap.size ≤ V.heap.size
  low : w.heap.size + 1 < k
  lt : k < W2.heap.size
  box : Boxd V k [u0, u1, u2, u3, u4, u5, v, u7]
  free : V.frozen? ⟨k, 6, none⟩ = false
  row : Built V True 27 8 W2.heap.size v j (Ex.dats xs)
theorem KidRow.kbox {w W2 V : World} {k : Nat} {u0 u1 u2 u3 u4 u5 u7 v : Value} {j : Nat} {xs : List Ex} (h : KidRow w W2 V k u0 u1 u2 u3 u4 u5 u7 v j xs) {b : Nat} {us : List Value} (hb : Boxd W2 b us) (h1 : b < W2.heap.size) (h2 : b ≠ k) : Boxd V b us :=
  fun i u hu => (h.kept ⟨b, i, none⟩ ⟨h1, h2⟩).1.trans (hb i u hu)
theorem KidRow.kres {w W2 V : World} {k : Nat} {u0 u1 u2 u3 u4 u5 u7 v : Value} {j : Nat} {xs : List Ex} (h : KidRow w W2 V k u0 u1 u2 u3 u4 u5 u7 v j xs) {b : Nat} (hb : Res8 W2 b) (h2 : b ≠ k) : Res8 V b :=
  ⟨h.kbox hb.box hb.box.lt h2, fun i => (h.kept ⟨b, i, none⟩ ⟨hb.box.lt, h2⟩).2.trans (hb.free i)⟩
/-- One more kid. -/
theorem KidRow.step {w W2 V w1 w3 : World} {k : Nat} {u0 u1 u2 u3 u4 u5 u7 v : Value} {j : Nat} {xs : List Ex} {x : Ex} {us cs : List Value} {S : Nat → Prop} {gg cap : Nat} {T : TypeId} (h : KidRow w W2 V k u0 u1 u2 u3 u4 u5 u7 v j xs)
    (hown : V.ownsRow W2.heap.size 27 8 v j cs) (hrows : Dat.Ins V True S (Ex.dats xs) cs) (hzs : ∀ x ∈ Ex.dats xs, x.size = 8) (hS : ∀ b, S b → W2.heap.size ≤ b ∧ b < V.heap.size ∧ v.ownBlock ≠ some b)
    (hb1 : Below V.heap.size V w1) (hx : x.dat.In w1 True (Fresh V w1) us) (hown2 : w3.ownsRow W2.heap.size 27 8 (.slice (some ⟨gg, 0, none⟩) (j + 1) cap) (j + 1) (cs ++ us))
    (hgrow : (w1.alloc (.cells us.toArray T)).grownBy w3 v.ownBlock) (hat : v.ownBlock = some gg ∨ gg = w1.heap.size + 1) :
    KidRow w W2 (w3.setCell ⟨k, 6, none⟩ (.slice (some ⟨gg, 0, none⟩) (j + 1) cap)) k u0 u1 u2 u3 u4 u5 u7 (.slice (some ⟨gg, 0, none⟩) (j + 1) cap) (j + 1) (xs ++ [x]) := by
  have hlt := h.lt
  have hlow := h.low
  have hsz := h.size
  have hs1 := hb1.size
  have hob : ∀ g, v.ownBlock = some g → W2.heap.size ≤ g := own_base hown
  have hol : ∀ g, v.ownBlock = some g → g < V.heap.size := fun g hg => (hown.lt g hg).2
  have hno : v.ownBlock ≠ some k := fun e => by have := hob k e; omega
  have far : ∀ p : Addr, p.block < w1.heap.size → v.ownBlock ≠ some p.block → w3.cell? p = w1.cell? p ∧ w3.frozen? p = w1.frozen? p := fun p h1 h2 => by
    rw [hgrow.cell_far p (by simp; omega) (fun h => h2 h.symm), hgrow.frozen_far p (by simp; omega) (fun h => h2 h.symm)]
    exact ⟨((Below.refl w1.heap.size w1).alloc (Nat.le_refl _) _).cell h1, ((Below.refl w1.heap.size w1).alloc (Nat.le_refl _) _).frozen h1⟩
  have far2 : ∀ p : Addr, p.block < V.heap.size → v.ownBlock ≠ some p.block → w3.cell? p = V.cell? p ∧ w3.frozen? p = V.frozen? p := fun p h1 h2 =>
    ⟨(far p (by omega) h2).1.trans (hb1.cell h1), (far p (by omega) h2).2.trans (hb1.frozen h1)⟩
  have hst : Built w3 True 27 8 W2.heap.size (.slice (some ⟨gg, 0, none⟩) (j + 1) cap) (j + 1) (Ex.dats xs ++ [x.dat]) := by
    refine Built.step hown hrows hzs hS hb1 hx (fun b hb => ?_) (Ex.dat_size x) hown2 hgrow hat
    have h1 : V.heap.size ≤ b := hb.1
    exact ⟨by omega, hb.2, fun e => by have := hol b e; omega⟩
  have hsz3 : w1.heap.size + 1 ≤ w3.heap.size := by have := hgrow.size; simpa using this
  have hbel3 : Below w.heap.size w w3 :=
    ((h.bel.trans (hb1.mono h.bel.size)).alloc (by omega) _).grown hgrow (by simp; omega) (fun g hg => by have := hob g hg; omega)
  refine ⟨hbel3.setCell (by show w.heap.size ≤ k; omega) _, fun p hp => ?_, by simp [World.setCell]; omega, hlow, hlt, fun i u hu => ?_, ?_, ?_⟩
  · rw [World.cell?_setCell_other _ _ _ _ (by rintro rfl; exact hp.2 rfl), World.frozen?_setCell]
    have h2 := far2 p (by have := hp.1; omega) (fun e => by have := hob _ e; have := hp.1; omega)
    have h3 := h.kept p hp
    exact ⟨h2.1.trans h3.1, h2.2.trans h3.2⟩
  · by_cases hi : i = 6
    · subst hi
      obtain rfl : Value.slice (some ⟨gg, 0, none⟩) (j + 1) cap = u := by simpa using hu
      exact World.cell?_setCell_same _ _ _ ((far2 ⟨k, 6, none⟩ (by show k < _; omega) hno).1.trans (h.box 6 v rfl))
    · rw [World.cell?_setCell_other _ _ _ _ (by intro e; injection e with _ e; exact hi e.symm)]
      refine (far2 ⟨k, i, none⟩ (by show k < _; omega) hno).1.trans (h.box i u ?_)
      match i, hi, hu with
      | 0, _, hu => exact hu
      | 1, _, hu => exact hu
      | 2, _, hu => exact hu
      | 3, _, hu => exact hu
      | 4, _, hu => exact hu
      | 5, _, hu => exact hu
      | 7, _, hu => exact hu
      | i + 8, _, hu => simp at hu
  · rw [World.frozen?_setCell]
    exact (far2 ⟨k, 6, none⟩ (by show k < _; omega) hno).2.trans h.free
  · rw [Ex.dats_snoc]
    obtain ⟨cs3, S3, g1, g2, g3, g4⟩ := hst
    refine ⟨cs3, S3, ownsRow_setCell_below g1 (by show k < _; omega) _, Dat.Ins.keep id (fun p hp => ?_) (fun _ h => h) _ _ g2, g3, fun b hb => ?_⟩
    · have h1 := (g4 _ hp).1
      exact ⟨World.cell?_setCell_other _ _ _ _ (by rintro rfl; simp only at h1; omega), World.frozen?_setCell _ _ _ _⟩
    · have h1 := g4 b hb
      exact ⟨h1.1, by simpa [World.setCell] using h1.2.1, h1.2.2⟩
/-- The expression that was built. -/
theorem KidRow.done {w W2 V : World} {k : Nat} {e : Ex} {v : Value} {j a b : Nat} {A B : Option Addr} {m l : Nat} (h : KidRow w W2 V k (.int .i64 e.kind) (.string e.name) (.string e.ty.name) (.slice A m a) (.int .i64 e.ty.off) (.slice B l b) (.int .i64 e.off) v j e.kids)
    (hs : e.name.size ≤ 9223372036854775807) (ht : e.ty.name.size ≤ 9223372036854775807) (ha : LiesN W2 True (fun b => w.heap.size + 1 < b ∧ b < W2.heap.size ∧ b ≠ k) A m e.ty.args) (hb : LiesN W2 True (fun b => w.heap.size + 1 < b ∧ b < W2.heap.size ∧ b ≠ k) B l e.targs) (hj : j ≤ 9223372036854775807) :
    ∃ C c, v = .slice C j c ∧ e.dat.In V True (fun b => Fresh w V b ∧ b ≠ w.heap.size + 1) [.int .i64 e.kind, .string e.name, .string e.ty.name, .slice A m a, .int .i64 e.ty.off, .slice B l b, .slice C j c, .int .i64 e.off] := by
  have hsz := h.size
  have hlt := h.lt
  have hlow := h.low
  obtain ⟨C, c, hv, hr, hcap⟩ := h.row.row (by omega) hj
  refine ⟨C, c, hv, ex_shut hs ht ?_ ?_ ?_ hcap⟩
  · exact (ha.keep (fun p hp => h.kept p ⟨hp.2.1, hp.2.2⟩) (fun _ h => h)).wide fun b hb => ⟨⟨by omega, by omega⟩, by omega⟩
  · exact (hb.keep (fun p hp => h.kept p ⟨hp.2.1, hp.2.2⟩) (fun _ h => h)).wide fun b hb => ⟨⟨by omega, by omega⟩, by omega⟩
  · exact hr.wide fun b hb => ⟨⟨by have := hb.1; omega, hb.2⟩, by have := hb.1; omega⟩

/-- What region 1 leaves: the expression without its kids lies in block k. -/
structure Head (w W2 : World) (k : Nat) (us : List Value) (e : Ex) (A B : Option Addr) (m a l b : Nat) : Prop where
  bel : Below w.heap.size w W2
  one : Boxd W2 w.heap.size us
  res : Res8 W2 (w.heap.size + 1)
  low : w.heap.size + 1 < k
  lt : k < W2.heap.size
  box : Boxd W2 k [.int .i64 e.kind, .string e.name, .string e.ty.name, .slice A m a, .int .i64 e.ty.off, .slice B l b, .slice none 0 0, .int .i64 e.off]
  free : W2.frozen? ⟨k, 6, none⟩ = false
  hn : e.ty.name.size ≤ 9223372036854775807
  ha : LiesN W2 True (fun b => w.heap.size + 1 < b ∧ b < W2.heap.size ∧ b ≠ k) A m e.ty.args
  hb : LiesN W2 True (fun b => w.heap.size + 1 < b ∧ b < W2.heap.size ∧ b ≠ k) B l e.targs
theorem Head.row {w W2 : World} {k : Nat} {us : List Value} {e : Ex} {A B : Option Addr} {m a l b : Nat} (h : Head w W2 k us e A B m a l b) :
    KidRow w W2 W2 k (.int .i64 e.kind) (.string e.name) (.string e.ty.name) (.slice A m a) (.int .i64 e.ty.off) (.slice B l b) (.int .i64 e.off) (.slice none 0 0) 0 [] :=
  ⟨h.bel, fun _ _ => ⟨rfl, rfl⟩, Nat.le_refl _, h.low, h.lt, h.box, h.free, Built.nil _ _ _ _ _⟩
theorem res8_new (w : World) : Res8 (w.alloc (.cells #[.int .i64 0, .string ⟨#[]⟩, .string ⟨#[]⟩, .slice none 0 0, .int .i64 0, .slice none 0 0, .slice none 0 0, .int .i64 0] 27)) w.heap.size := res8_of (MapKept.heap_alloc w _).1
theorem Res8.set {w : World} {k : Nat} {us : List Value} (h : Res8 w k) (hl : us.length = 8) : Boxd (w.setCells k 0 us) k us := fun j u hu => by
  have ht : w.there k 0 us.length := fun i hi => ⟨by
    rw [Nat.zero_add]
    obtain ⟨v, hv⟩ : ∃ v, ([.int .i64 0, .string ⟨#[]⟩, .string ⟨#[]⟩, .slice none 0 0, .int .i64 0, .slice none 0 0, .slice none 0 0, .int .i64 0] : List Value)[i]? = some v := ⟨_, List.getElem?_eq_getElem (by simp only [List.length_cons, List.length_nil]; omega)⟩
    rw [h.box i v hv]; rfl, h.free _⟩
  have := World.rangeAt_setCells_same w k 0 us ht j u hu
  rwa [Nat.zero_add] at this
theorem Res8.there {w : World} {k : Nat} (h : Res8 w k) : w.there k 0 8 := fun i hi => ⟨by
    rw [Nat.zero_add]
    obtain ⟨v, hv⟩ : ∃ v, ([.int .i64 0, .string ⟨#[]⟩, .string ⟨#[]⟩, .slice none 0 0, .int .i64 0, .slice none 0 0, .slice none 0 0, .int .i64 0] : List Value)[i]? = some v := ⟨_, List.getElem?_eq_getElem (by simp only [List.length_cons, List.length_nil]; omega)⟩
    rw [h.box i v hv]; rfl, h.free _⟩
theorem lies_set {w : World} {N : Prop} {S : Nat → Prop} {A : Option Addr} {n : Nat} {xs : List Ty} (h : LiesN w N S A n xs) (g o : Nat) (vs : List Value) (hg : ¬ S g) : LiesN (w.setCells g o vs) N S A n xs :=
  h.keep (fun p hp => ⟨World.cell?_setCells_out _ _ _ _ _ (fun e => (hg (by first | (rw [← e]; exact hp) | (rw [e]; exact hp))).elim), World.frozen?_setCells _ _ _ _ _⟩) (fun _ h => h)
/-- The three places where the new block may be made, as the worlds behind: last, first, between the two calls. -/
theorem head_of {w W wx : World} {k : Nat} {us : List Value} {e : Ex} {A B : Option Addr} {m a l b : Nat} (hW : Below w.heap.size w W) (ho : Boxd W w.heap.size us) (hR : Res8 W (w.heap.size + 1)) (hs : W.heap.size = w.heap.size + 2) (hx : Below W.heap.size W wx) (hk : W.heap.size ≤ k) (hlt : k < wx.heap.size)
    (box : Boxd wx k [.int .i64 e.kind, .string e.name, .string e.ty.name, .slice A m a, .int .i64 e.ty.off, .slice B l b, .slice none 0 0, .int .i64 e.off]) (free : wx.frozen? ⟨k, 6, none⟩ = false) (hn : e.ty.name.size ≤ 9223372036854775807)
    (ha : LiesN wx True (fun b => W.heap.size ≤ b ∧ b < wx.heap.size ∧ b ≠ k) A m e.ty.args) (hb : LiesN wx True (fun b => W.heap.size ≤ b ∧ b < wx.heap.size ∧ b ≠ k) B l e.targs) : Head w wx k us e A B m a l b :=
  ⟨hW.trans (hx.mono hW.size), ho.later hx, hR.later hx, by omega, hlt, box, free, hn, ha.wide fun b h => ⟨by omega, h.2⟩, hb.wide fun b h => ⟨by omega, h.2⟩⟩
theorem head_any {w W V wA V1 wB wZ : World} {k : Nat} {us : List Value} {e : Ex} {A B : Option Addr} {m a l b : Nat} (hW : Below w.heap.size w W) (ho : Boxd W w.heap.size us) (hR : Res8 W (w.heap.size + 1)) (hs : W.heap.size = w.heap.size + 2) (hV : Below W.heap.size W V)
    (hA : Below V.heap.size V wA) (hV1 : Below wA.heap.size wA V1) (hB : Below V1.heap.size V1 wB) (hZ : Below wB.heap.size wB wZ) (hz : Res8 wZ k) (hk : W.heap.size ≤ k) (hkA : k < V.heap.size ∨ wA.heap.size ≤ k) (hkB : k < V1.heap.size ∨ wB.heap.size ≤ k) (hn : e.ty.name.size ≤ 9223372036854775807) (ha : LiesN wA True (Fresh V wA) A m e.ty.args) (hb : LiesN wB True (Fresh V1 wB) B l e.targs) :
    Head w (wZ.setCells k 0 [.int .i64 e.kind, .string e.name, .string e.ty.name, .slice A m a, .int .i64 e.ty.off, .slice B l b, .slice none 0 0, .int .i64 e.off]) k us e A B m a l b := by
  have s1 := hV.size
  have s2 := hA.size
  have s3 := hV1.size
  have s4 := hB.size
  have s5 := hZ.size
  have hlt : k < wZ.heap.size := hz.box.lt
  refine head_of hW ho hR hs (((((hV.trans (hA.mono s1)).trans (hV1.mono (by omega))).trans (hB.mono (by omega))).trans (hZ.mono (by omega))).trans (set_below hk _ 0 wZ)) hk (by rw [set_size]; exact hlt) (hz.set rfl) (by rw [World.frozen?_setCells]; exact hz.free 6) hn ?_ ?_
  · refine (lies_set (((ha.later hV1 (fun b h => h.2)).later hB (fun b h => by have := h.2; omega)).later hZ (fun b h => by have := h.2; omega)) k 0 _ (fun h => ?_)).wide fun b h => ?_
    · have h1 := h.1
      have h2 := h.2
      omega
    · have h1 := h.1
      have h2 := h.2
      exact ⟨by omega, by rw [set_size]; omega, by omega⟩
  · refine (lies_set (hb.later hZ (fun b h => h.2)) k 0 _ (fun h => ?_)).wide fun b h => ?_
    · have h1 := h.1
      have h2 := h.2
      omega
    · have h1 := h.1
      have h2 := h.2
      exact ⟨by omega, by rw [set_size]; omega, by omega⟩

/-- An expression that the call has made; if it has no kids, its list of kids is nil. -/
def XNeatK (w : World) (x : Ex) (e : Ending) (w' : World) : Prop := XNeat w x e w' ∧ (x.kids = [] → ∀ us : List Value, e = .returned (.agg us.toArray) → us[6]? = some (.slice none 0 0))
set_option maxRecDepth 100000 in
set_option maxHeartbeats 16000000 in
theorem xref_subst_k (ns : List ByteArray) (us : List Ty) (N U : Option Addr) (nl ul nc uc : Nat) (hus : ∀ u ∈ us, u.list.length ≤ 1000000) (hnl : nl ≤ 1000000) : ∀ (e : Ex) (vs : List Value) (w : World), e.wt ≤ 100000 → e.dat.H w vs → Sl w N nl ns → Here w U ul us →
    Calls Tryd.prog 23 #[.agg vs.toArray, .slice N nl nc, .slice U ul uc] w (XNeatK w (e.subst ns us)) := by
  refine Ex.ind fun k s t ts xs o ih vs w hwt h hN hU => ?_
  obtain ⟨A, m, a, B, l, b, C, r, c, rfl, hs, ht, ha, hb, hc⟩ := ex_open h
  obtain ⟨h1, hR, hz⟩ := two8 h
  have hwt1 := Ex.wt_ty (e := .mk k s t ts xs o)
  have hwt2 := fun u => Ex.wt_targ (e := .mk k s t ts xs o) (t := u)
  have hwt3 := fun x => Ex.wt_kid (e := .mk k s t ts xs o) (x := x)
  have hwt4 : xs.length ≤ Ex.wt (.mk k s t ts xs o) := by have := Ex.wtL_len xs; simp only [Ex.wt]; omega
  have hwt5 : ts.length ≤ Ex.wt (.mk k s t ts xs o) := by have := Ty.wtL_len ts; simp only [Ex.wt]; omega
  simp only [Ex.kind, Ex.name, Ex.ty, Ex.targs, Ex.kids, Ex.off] at hs ht ha hb hc h1 hwt1 hwt2 hwt3 hR hz ⊢
  have hxl := hc.len
  rw [Ex.dats_len] at hxl
  have htl := hb.len
  have hr : r ≤ 1000000 := by omega
  have hl : l ≤ 1000000 := by omega
  have IH := Lib.hid ih
  have H := Lib.hid h1
  have HWX := Lib.hid (show ∀ x ∈ xs, Ex.wt x ≤ 100000 from fun x hx => Nat.le_trans (hwt3 x hx) hwt)
  have HN := Lib.hid (hN.later h1.bel)
  have HU := Lib.hid (Here.later hU h1.bel)
  have HK := Lib.hid (RowH.later hc h1.bel)
  have HZ := Lib.hid hz
  have HK0 := Lib.hid hc
  have HN0 := Lib.hid hN
  have HU0 := Lib.hid hU
  have HXL := Lib.hid hxl
  have HB := Lib.hid (h1.bel)
  have HR := Lib.hid hR
  have hll : t.list.length ≤ 1000000 := by have := Ty.list_wt t; omega
  have hlt : ∀ u ∈ ts, u.list.length ≤ 1000000 := fun u hu => by have := Ty.list_wt u; have := hwt2 u hu; omega
  have hSUB := Lib.hid (show Ex.subst ns us (.mk k s t ts xs o) = .mk k s (Ty.subst ns us t) (ts.map (Ty.subst ns us)) (xs.map (Ex.subst ns us)) o by rw [Ex.subst, Ex.substL_map])
  have HA := Lib.hid (Here.later ha h1.bel)
  have HT := Lib.hid (Here.later hb h1.bel)
  obtain ⟨x0, x1, x2, x3, x4, x5, x6, x7⟩ := H.out.one.c8
  clear ih h h1 ha hb hc hwt hwt1 hwt2 hwt3 hwt4 hwt5 hz hR hN hU
  rw [hSUB.out]
  go_enter Tryd.func23, Tryd.ntmps23
  go_upto_region 1 with fail
  generalize hW : (w.alloc (.cells #[.int .i64 k, .string s, .string t.name, .slice A m a, .int .i64 t.off, .slice B l b, .slice C r c, .int .i64 o] 27)).alloc (.cells #[.int .i64 0, .string ⟨#[]⟩, .string ⟨#[]⟩, .slice none 0 0, .int .i64 0, .slice none 0 0, .slice none 0 0, .int .i64 0] 27) = W at *
  clear hW
  have C1 := Lib.hid (fun (V : World) (hV : Below W.heap.size W V) => ref_subst_neat ns us N U nl ul nc uc t A m a V hus ht hll hnl (Here.later HA.out hV) (HN.out.later hV) (Here.later HU.out hV))
  have hle : (ts.map (Ty.subst ns us)).length = l := by rw [List.length_map]; exact htl
  have C2 := Lib.hid (fun (V : World) (hV : Below W.heap.size W V) => (ref_all_neat ts ns us B N U l b nl ul nc uc V hus hlt hl hnl (Here.later HT.out hV) (HN.out.later hV) (Here.later HU.out hV)).mono fun e w' h => (show ∃ A c, e = .returned (.slice A l c) ∧ LiesN w' True (Fresh V w') A l (ts.map (Ty.subst ns us)) ∧ Below V.heap.size V w' by
    obtain ⟨A, c, h1, h2, h3⟩ := h
    rw [hle] at h1 h2
    exact ⟨A, c, h1, h2, h3⟩))
  clear hll hlt HA HT hle
  generalize Ty.subst ns us t = t' at *
  generalize ts.map (Ty.subst ns us) = ts' at *
  have SS : Below W.heap.size W W ∧ W.cell? ⟨w.heap.size, 0, none⟩ = some (.int .i64 k) ∧ W.cell? ⟨w.heap.size, 1, none⟩ = some (.string s) ∧ W.cell? ⟨w.heap.size, 2, none⟩ = some (.string t.name) ∧ W.cell? ⟨w.heap.size, 3, none⟩ = some (.slice A m a) ∧ W.cell? ⟨w.heap.size, 4, none⟩ = some (.int .i64 t.off) ∧ W.cell? ⟨w.heap.size, 5, none⟩ = some (.slice B l b) ∧ W.cell? ⟨w.heap.size, 6, none⟩ = some (.slice C r c) ∧ W.cell? ⟨w.heap.size, 7, none⟩ = some (.int .i64 o) := ⟨Below.refl _ _, x0, x1, x2, x3, x4, x5, x6, x7⟩
  have KP := Lib.hid (show ∀ w1 : World, Below W.heap.size W w1 → Below W.heap.size W w1 ∧ w1.cell? ⟨w.heap.size, 0, none⟩ = some (.int .i64 k) ∧ w1.cell? ⟨w.heap.size, 1, none⟩ = some (.string s) ∧ w1.cell? ⟨w.heap.size, 2, none⟩ = some (.string t.name) ∧ w1.cell? ⟨w.heap.size, 3, none⟩ = some (.slice A m a) ∧ w1.cell? ⟨w.heap.size, 4, none⟩ = some (.int .i64 t.off) ∧ w1.cell? ⟨w.heap.size, 5, none⟩ = some (.slice B l b) ∧ w1.cell? ⟨w.heap.size, 6, none⟩ = some (.slice C r c) ∧ w1.cell? ⟨w.heap.size, 7, none⟩ = some (.int .i64 o) from fun w1 h => ⟨h, (h.cell (cell_lt x0)).trans x0, (h.cell (cell_lt x1)).trans x1, (h.cell (cell_lt x2)).trans x2, (h.cell (cell_lt x3)).trans x3, (h.cell (cell_lt x4)).trans x4, (h.cell (cell_lt x5)).trans x5, (h.cell (cell_lt x6)).trans x6, (h.cell (cell_lt x7)).trans x7⟩)
  go_cut [7] (fun s7 wx => ∃ kb A1 m1 a1 B1 b1, s7 = .pointer (some ⟨kb, 0, none⟩) ∧ Head w wx kb [.int .i64 k, .string s, .string t.name, .slice A m a, .int .i64 t.off, .slice B l b, .slice C r c, .int .i64 o] (.mk k s t' ts' [] o) A1 B1 m1 a1 l b1)
  case first =>
    refine wp_region_held_drew (S := fun V => Below W.heap.size W V ∧ V.cell? ⟨w.heap.size, 0, none⟩ = some (.int .i64 k) ∧ V.cell? ⟨w.heap.size, 1, none⟩ = some (.string s) ∧ V.cell? ⟨w.heap.size, 2, none⟩ = some (.string t.name) ∧ V.cell? ⟨w.heap.size, 3, none⟩ = some (.slice A m a) ∧ V.cell? ⟨w.heap.size, 4, none⟩ = some (.int .i64 t.off) ∧ V.cell? ⟨w.heap.size, 5, none⟩ = some (.slice B l b) ∧ V.cell? ⟨w.heap.size, 6, none⟩ = some (.slice C r c) ∧ V.cell? ⟨w.heap.size, 7, none⟩ = some (.int .i64 o)) (by kernel_rfl) ⟨SS.1.drew, SS.2⟩ (fun hS => ?_)
    first
    | (refine wpAnyH_take (i := 0) (v := ?_) rfl (by kernel_rfl) (by kernel_rfl) (by kernel_rfl) (fun _ _ _ h => h) (Or.inl ⟨by rfl, ?_⟩) (by assumption) ?_
       rotate_left
       · (intro V hV; obtain ⟨_, x0, x1, x2, x3, x4, x5, x6, x7⟩ := hV; go_simp; try with_reducible rfl)
       try simp only [Act.put, List.getElem_toArray, List.getElem_cons_zero, List.setIfInBounds_toArray, List.set_cons_zero, List.set_cons_succ])
    | (refine wpAnyH_take (i := 0) (v := undef) rfl (by kernel_rfl) (by kernel_rfl) (by kernel_rfl) (fun _ _ _ h => h) (Or.inr ⟨by rfl, rfl⟩) (by assumption) ?_
       try simp only [Act.put, List.getElem_toArray, List.getElem_cons_zero, List.setIfInBounds_toArray, List.set_cons_zero, List.set_cons_succ])
    | fail "take 0"
    first
    | (refine wpAnyH_take (i := 1) (v := ?_) rfl (by kernel_rfl) (by kernel_rfl) (by kernel_rfl) (fun _ _ _ h => h) (Or.inl ⟨by rfl, ?_⟩) (by assumption) ?_
       rotate_left
       · (intro V hV; obtain ⟨_, x0, x1, x2, x3, x4, x5, x6, x7⟩ := hV; go_simp; try with_reducible rfl)
       try simp only [Act.put, List.getElem_toArray, List.getElem_cons_zero, List.getElem_cons_succ, List.setIfInBounds_toArray, List.set_cons_zero, List.set_cons_succ])
    | (refine wpAnyH_take (i := 1) (v := undef) rfl (by kernel_rfl) (by kernel_rfl) (by kernel_rfl) (fun _ _ _ h => h) (Or.inr ⟨by rfl, rfl⟩) (by assumption) ?_
       try simp only [Act.put, List.getElem_toArray, List.getElem_cons_zero, List.getElem_cons_succ, List.setIfInBounds_toArray, List.set_cons_zero, List.set_cons_succ])
    | fail "take 1"
    first
    | (refine wpAnyH_take (i := 2) (v := ?_) rfl (by kernel_rfl) (by kernel_rfl) (by kernel_rfl) (fun _ _ _ h => h) (Or.inl ⟨by rfl, ?_⟩) (by assumption) ?_
       rotate_left
       · (intro V hV; obtain ⟨_, x0, x1, x2, x3, x4, x5, x6, x7⟩ := hV; go_simp; try with_reducible rfl)
       try simp only [Act.put, List.getElem_toArray, List.getElem_cons_zero, List.getElem_cons_succ, List.setIfInBounds_toArray, List.set_cons_zero, List.set_cons_succ])
    | (refine wpAnyH_take (i := 2) (v := undef) rfl (by kernel_rfl) (by kernel_rfl) (by kernel_rfl) (fun _ _ _ h => h) (Or.inr ⟨by rfl, rfl⟩) (by assumption) ?_
       try simp only [Act.put, List.getElem_toArray, List.getElem_cons_zero, List.getElem_cons_succ, List.setIfInBounds_toArray, List.set_cons_zero, List.set_cons_succ])
    | fail "take 2"
    first
    | (refine wpAnyH_take (i := 3) (v := ?_) rfl (by kernel_rfl) (by kernel_rfl) (by kernel_rfl) (fun _ _ _ h => h) (Or.inl ⟨by rfl, ?_⟩) (by assumption) ?_
       rotate_left
       · (intro V hV; obtain ⟨_, x0, x1, x2, x3, x4, x5, x6, x7⟩ := hV; go_simp; try with_reducible rfl)
       try simp only [Act.put, List.getElem_toArray, List.getElem_cons_zero, List.getElem_cons_succ, List.setIfInBounds_toArray, List.set_cons_zero, List.set_cons_succ])
    | (refine wpAnyH_take (i := 3) (v := undef) rfl (by kernel_rfl) (by kernel_rfl) (by kernel_rfl) (fun _ _ _ h => h) (Or.inr ⟨by rfl, rfl⟩) (by assumption) ?_
       try simp only [Act.put, List.getElem_toArray, List.getElem_cons_zero, List.getElem_cons_succ, List.setIfInBounds_toArray, List.set_cons_zero, List.set_cons_succ])
    | fail "take 3"
    first
    | (refine wpAnyH_take (i := 4) (v := ?_) rfl (by kernel_rfl) (by kernel_rfl) (by kernel_rfl) (fun _ _ _ h => h) (Or.inl ⟨by rfl, ?_⟩) (by assumption) ?_
       rotate_left
       · (intro V hV; obtain ⟨_, x0, x1, x2, x3, x4, x5, x6, x7⟩ := hV; go_simp; try with_reducible rfl)
       try simp only [Act.put, List.getElem_toArray, List.getElem_cons_zero, List.getElem_cons_succ, List.setIfInBounds_toArray, List.set_cons_zero, List.set_cons_succ])
    | (refine wpAnyH_take (i := 4) (v := undef) rfl (by kernel_rfl) (by kernel_rfl) (by kernel_rfl) (fun _ _ _ h => h) (Or.inr ⟨by rfl, rfl⟩) (by assumption) ?_
       try simp only [Act.put, List.getElem_toArray, List.getElem_cons_zero, List.getElem_cons_succ, List.setIfInBounds_toArray, List.set_cons_zero, List.set_cons_succ])
    | fail "take 4"
    first
    | (refine wpAnyH_take (i := 5) (v := ?_) rfl (by kernel_rfl) (by kernel_rfl) (by kernel_rfl) (fun _ _ _ h => h) (Or.inl ⟨by rfl, ?_⟩) (by assumption) ?_
       rotate_left
       · (intro V hV; obtain ⟨_, x0, x1, x2, x3, x4, x5, x6, x7⟩ := hV; go_simp; try with_reducible rfl)
       try simp only [Act.put, List.getElem_toArray, List.getElem_cons_zero, List.getElem_cons_succ, List.setIfInBounds_toArray, List.set_cons_zero, List.set_cons_succ])
    | (refine wpAnyH_take (i := 5) (v := undef) rfl (by kernel_rfl) (by kernel_rfl) (by kernel_rfl) (fun _ _ _ h => h) (Or.inr ⟨by rfl, rfl⟩) (by assumption) ?_
       try simp only [Act.put, List.getElem_toArray, List.getElem_cons_zero, List.getElem_cons_succ, List.setIfInBounds_toArray, List.set_cons_zero, List.set_cons_succ])
    | fail "take 5"
    first
    | (refine wpAnyH_take (i := 6) (v := ?_) rfl (by kernel_rfl) (by kernel_rfl) (by kernel_rfl) (fun _ _ _ h => h) (Or.inl ⟨by rfl, ?_⟩) (by assumption) ?_
       rotate_left
       · (intro V hV; obtain ⟨_, x0, x1, x2, x3, x4, x5, x6, x7⟩ := hV; go_simp; try with_reducible rfl)
       try simp only [Act.put, List.getElem_toArray, List.getElem_cons_zero, List.getElem_cons_succ, List.setIfInBounds_toArray, List.set_cons_zero, List.set_cons_succ])
    | (refine wpAnyH_take (i := 6) (v := undef) rfl (by kernel_rfl) (by kernel_rfl) (by kernel_rfl) (fun _ _ _ h => h) (Or.inr ⟨by rfl, rfl⟩) (by assumption) ?_
       try simp only [Act.put, List.getElem_toArray, List.getElem_cons_zero, List.getElem_cons_succ, List.setIfInBounds_toArray, List.set_cons_zero, List.set_cons_succ])
    | fail "take 6"
    first
    | (refine wpAnyH_take (i := 7) (v := ?_) rfl (by kernel_rfl) (by kernel_rfl) (by kernel_rfl) (fun _ _ _ h => h) (Or.inl ⟨by rfl, ?_⟩) (by assumption) ?_
       rotate_left
       · (intro V hV; obtain ⟨_, x0, x1, x2, x3, x4, x5, x6, x7⟩ := hV; go_simp; try with_reducible rfl)
       try simp only [Act.put, List.getElem_toArray, List.getElem_cons_zero, List.getElem_cons_succ, List.setIfInBounds_toArray, List.set_cons_zero, List.set_cons_succ])
    | (refine wpAnyH_take (i := 7) (v := undef) rfl (by kernel_rfl) (by kernel_rfl) (by kernel_rfl) (fun _ _ _ h => h) (Or.inr ⟨by rfl, rfl⟩) (by assumption) ?_
       try simp only [Act.put, List.getElem_toArray, List.getElem_cons_zero, List.getElem_cons_succ, List.setIfInBounds_toArray, List.set_cons_zero, List.set_cons_succ])
    | fail "take 7"
    first
    | (refine wpAnyH_take (i := 9) (v := ?_) rfl (by kernel_rfl) (by kernel_rfl) (by kernel_rfl) (fun _ _ _ h => h) (Or.inl ⟨by rfl, ?_⟩) (by assumption) ?_
       rotate_left
       · (intro V hV; obtain ⟨_, x0, x1, x2, x3, x4, x5, x6, x7⟩ := hV; go_simp; try with_reducible rfl)
       try simp only [Act.put, List.getElem_toArray, List.getElem_cons_zero, List.getElem_cons_succ, List.setIfInBounds_toArray, List.set_cons_zero, List.set_cons_succ])
    | (refine wpAnyH_take (i := 9) (v := undef) rfl (by kernel_rfl) (by kernel_rfl) (by kernel_rfl) (fun _ _ _ h => h) (Or.inr ⟨by rfl, rfl⟩) (by assumption) ?_
       try simp only [Act.put, List.getElem_toArray, List.getElem_cons_zero, List.getElem_cons_succ, List.setIfInBounds_toArray, List.set_cons_zero, List.set_cons_succ])
    | fail "take 9"
    first
    | (refine wpAnyH_take (i := 10) (v := ?_) rfl (by kernel_rfl) (by kernel_rfl) (by kernel_rfl) (fun _ _ _ h => h) (Or.inl ⟨by rfl, ?_⟩) (by assumption) ?_
       rotate_left
       · (intro V hV; obtain ⟨_, x0, x1, x2, x3, x4, x5, x6, x7⟩ := hV; go_simp; try with_reducible rfl)
       try simp only [Act.put, List.getElem_toArray, List.getElem_cons_zero, List.getElem_cons_succ, List.setIfInBounds_toArray, List.set_cons_zero, List.set_cons_succ])
    | (refine wpAnyH_take (i := 10) (v := undef) rfl (by kernel_rfl) (by kernel_rfl) (by kernel_rfl) (fun _ _ _ h => h) (Or.inr ⟨by rfl, rfl⟩) (by assumption) ?_
       try simp only [Act.put, List.getElem_toArray, List.getElem_cons_zero, List.getElem_cons_succ, List.setIfInBounds_toArray, List.set_cons_zero, List.set_cons_succ])
    | fail "take 10"
    first
    | (refine wpAnyH_take (i := 11) (v := ?_) rfl (by kernel_rfl) (by kernel_rfl) (by kernel_rfl) (fun _ _ _ h => h) (Or.inl ⟨by rfl, ?_⟩) (by assumption) ?_
       rotate_left
       · (intro V hV; obtain ⟨_, x0, x1, x2, x3, x4, x5, x6, x7⟩ := hV; go_simp; try with_reducible rfl)
       try simp only [Act.put, List.getElem_toArray, List.getElem_cons_zero, List.getElem_cons_succ, List.setIfInBounds_toArray, List.set_cons_zero, List.set_cons_succ])
    | (refine wpAnyH_take (i := 11) (v := undef) rfl (by kernel_rfl) (by kernel_rfl) (by kernel_rfl) (fun _ _ _ h => h) (Or.inr ⟨by rfl, rfl⟩) (by assumption) ?_
       try simp only [Act.put, List.getElem_toArray, List.getElem_cons_zero, List.getElem_cons_succ, List.setIfInBounds_toArray, List.set_cons_zero, List.set_cons_succ])
    | fail "take 11"
    first
    | (refine wpAnyH_take (i := 12) (v := ?_) rfl (by kernel_rfl) (by kernel_rfl) (by kernel_rfl) (fun _ _ _ h => h) (Or.inl ⟨by rfl, ?_⟩) (by assumption) ?_
       rotate_left
       · (intro V hV; obtain ⟨_, x0, x1, x2, x3, x4, x5, x6, x7⟩ := hV; go_simp; try with_reducible rfl)
       try simp only [Act.put, List.getElem_toArray, List.getElem_cons_zero, List.getElem_cons_succ, List.setIfInBounds_toArray, List.set_cons_zero, List.set_cons_succ])
    | (refine wpAnyH_take (i := 12) (v := undef) rfl (by kernel_rfl) (by kernel_rfl) (by kernel_rfl) (fun _ _ _ h => h) (Or.inr ⟨by rfl, rfl⟩) (by assumption) ?_
       try simp only [Act.put, List.getElem_toArray, List.getElem_cons_zero, List.getElem_cons_succ, List.setIfInBounds_toArray, List.set_cons_zero, List.set_cons_succ])
    | fail "take 12"
    first
    | (refine wpAnyH_take (i := 14) (v := ?_) rfl (by kernel_rfl) (by kernel_rfl) (by kernel_rfl) (fun _ _ _ h => h) (Or.inl ⟨by rfl, ?_⟩) (by assumption) ?_
       rotate_left
       · (intro V hV; obtain ⟨_, x0, x1, x2, x3, x4, x5, x6, x7⟩ := hV; go_simp; try with_reducible rfl)
       try simp only [Act.put, List.getElem_toArray, List.getElem_cons_zero, List.getElem_cons_succ, List.setIfInBounds_toArray, List.set_cons_zero, List.set_cons_succ])
    | (refine wpAnyH_take (i := 14) (v := undef) rfl (by kernel_rfl) (by kernel_rfl) (by kernel_rfl) (fun _ _ _ h => h) (Or.inr ⟨by rfl, rfl⟩) (by assumption) ?_
       try simp only [Act.put, List.getElem_toArray, List.getElem_cons_zero, List.getElem_cons_succ, List.setIfInBounds_toArray, List.set_cons_zero, List.set_cons_succ])
    | fail "take 14"
    first
    | (refine wpAnyH_take (i := 15) (v := ?_) rfl (by kernel_rfl) (by kernel_rfl) (by kernel_rfl) (fun _ _ _ h => h) (Or.inl ⟨by rfl, ?_⟩) (by assumption) ?_
       rotate_left
       · (intro V hV; obtain ⟨_, x0, x1, x2, x3, x4, x5, x6, x7⟩ := hV; go_simp; try with_reducible rfl)
       try simp only [Act.put, List.getElem_toArray, List.getElem_cons_zero, List.getElem_cons_succ, List.setIfInBounds_toArray, List.set_cons_zero, List.set_cons_succ])
    | (refine wpAnyH_take (i := 15) (v := undef) rfl (by kernel_rfl) (by kernel_rfl) (by kernel_rfl) (fun _ _ _ h => h) (Or.inr ⟨by rfl, rfl⟩) (by assumption) ?_
       try simp only [Act.put, List.getElem_toArray, List.getElem_cons_zero, List.getElem_cons_succ, List.setIfInBounds_toArray, List.set_cons_zero, List.set_cons_succ])
    | fail "take 15"
    have hD := SS.1.drew
    refine wpAnyH_ready (rs := [8, 17]) (by kernel_rfl) (by simp) ?_
    refine AllReadyH.cons rfl (fun K hK => ?_) (AllReadyH.cons rfl (fun K hK => ?_) (AllReadyH.nil))
    · skip
      go_simp
      refine (C1.out _ hS.1).mono ?_
      rintro e wA ⟨A1, m1, a1, rfl, hns1, hl1, hbA⟩
      have hBA : Below (W.drew).heap.size (W.drew) wA := hbA
      have hV0 := hS.1
      have SS := KP.out wA (Below.trans hS.1 (Below.mono hbA (Below.size hS.1)))
      refine hK.out _ _ SS (fun hS => ?_)
      clear hK K
      try simp only [Act.put, List.getElem_toArray, List.getElem_cons_zero, List.getElem_cons_succ, List.setIfInBounds_toArray, List.set_cons_zero, List.set_cons_succ]
      refine wpAnyH_ready (rs := [13, 17]) (by kernel_rfl) (by simp) ?_
      refine AllReadyH.cons rfl (fun K hK => ?_) (AllReadyH.cons rfl (fun K hK => ?_) (AllReadyH.nil))
      · skip
        go_simp
        refine (C2.out _ hS.1).mono ?_
        rintro e wB ⟨B1, b1, rfl, hl2, hbB⟩
        have hBB : Below (wA).heap.size (wA) wB := hbB
        have SS := KP.out wB (Below.trans hS.1 (Below.mono hbB (Below.size hS.1)))
        refine hK.out _ _ SS (fun hS => ?_)
        clear hK K
        try simp only [Act.put, List.getElem_toArray, List.getElem_cons_zero, List.getElem_cons_succ, List.setIfInBounds_toArray, List.set_cons_zero, List.set_cons_succ]
        first
        | (refine wpAnyH_take (i := 16) (v := ?_) rfl (by kernel_rfl) (by kernel_rfl) (by kernel_rfl) (fun _ _ _ h => h) (Or.inl ⟨by rfl, ?_⟩) (by assumption) ?_
           rotate_left
           · (intro V hV; obtain ⟨_, x0, x1, x2, x3, x4, x5, x6, x7⟩ := hV; go_simp; try with_reducible rfl)
           try simp only [Act.put, List.getElem_toArray, List.getElem_cons_zero, List.getElem_cons_succ, List.setIfInBounds_toArray, List.set_cons_zero, List.set_cons_succ])
        | (refine wpAnyH_take (i := 16) (v := undef) rfl (by kernel_rfl) (by kernel_rfl) (by kernel_rfl) (fun _ _ _ h => h) (Or.inr ⟨by rfl, rfl⟩) (by assumption) ?_
           try simp only [Act.put, List.getElem_toArray, List.getElem_cons_zero, List.getElem_cons_succ, List.setIfInBounds_toArray, List.set_cons_zero, List.set_cons_succ])
        | fail "take 16"
        refine wpAnyH_ready (rs := [17]) (by kernel_rfl) (by simp) ?_
        refine AllReadyH.cons rfl (fun K hK => ?_) (AllReadyH.nil)
        go_simp
        have zz := res8_new wB
        have hk := Below.size hS.1
        have hbZ : Below (wB).heap.size wB (World.alloc wB (.cells #[.int .i64 0, .string ⟨#[]⟩, .string ⟨#[]⟩, .slice none 0 0, .int .i64 0, .slice none 0 0, .slice none 0 0, .int .i64 0] 27)) := (Below.refl _ _).alloc (Nat.le_refl _) _
        have SS := KP.out _ (Below.trans hS.1 (Below.mono hbZ (Below.size hS.1)))
        refine hK.out _ _ SS (fun hS => ?_)
        clear hK K
        try simp only [Act.put, List.getElem_toArray, List.getElem_cons_zero, List.getElem_cons_succ, List.setIfInBounds_toArray, List.set_cons_zero, List.set_cons_succ]
        have hth := zz.there
        have hone : (#[.int .i64 k, .string s, .string t'.name, .slice A1 m1 a1, .int .i64 t'.off, .slice B1 l b1, .slice none 0 0, .int .i64 o] : Array Value).all (·.oneCell') = true := by simp [Value.oneCell']
        have hset := Below.trans hS.1 (set_below hk [.int .i64 k, .string s, .string t'.name, .slice A1 m1 a1, .int .i64 t'.off, .slice B1 l b1, .slice none 0 0, .int .i64 o] 0 (World.alloc wB (.cells #[.int .i64 0, .string ⟨#[]⟩, .string ⟨#[]⟩, .slice none 0 0, .int .i64 0, .slice none 0 0, .slice none 0 0, .int .i64 0] 27)))
        refine wpAnyH_ready (rs := [18]) (by kernel_rfl) (by simp) ?_
        refine AllReadyH.cons rfl (fun K hK => ?_) (AllReadyH.nil)
        refine ready_store8 (.tmp 7) (.tmp 25) rfl (by kernel_rfl) (wB.heap.size) 0 #[.int .i64 k, .string s, .string t'.name, .slice A1 m1 a1, .int .i64 t'.off, .slice B1 l b1, .slice none 0 0, .int .i64 o] (by rfl) (by rfl) hth rfl hone ?_
        refine hK.out _ _ (KP.out _ hset) (fun hS => ?_)
        clear hK K
        refine wpAnyH_done (by kernel_rfl) ?_ _
        have hhead := Lib.hid (head_any (e := .mk k s t' ts' [] o) (a := a1) (b := b1) HB.out H.out.one HR.out HZ.out hD hBA (Below.refl _ _) hBB ((Below.refl _ _).alloc (Nat.le_refl _) _) zz hk (.inr (by have h1 := hBA.size; have h2 := hBB.size; have h3 := hV0.size; first | omega | (simp only [World.size_alloc] at h1 h2 h3 ⊢; omega))) (.inr (Nat.le_refl _)) hns1 hl1 hl2)
        go_wp2_with fail
        go_meet
        exact ⟨_, _, _, _, _, _, rfl, hhead.out⟩
      · skip
        go_simp
        have zz := res8_new wA
        have hk := Below.size hS.1
        have hbZ : Below (wA).heap.size wA (World.alloc wA (.cells #[.int .i64 0, .string ⟨#[]⟩, .string ⟨#[]⟩, .slice none 0 0, .int .i64 0, .slice none 0 0, .slice none 0 0, .int .i64 0] 27)) := (Below.refl _ _).alloc (Nat.le_refl _) _
        have SS := KP.out _ (Below.trans hS.1 (Below.mono hbZ (Below.size hS.1)))
        refine hK.out _ _ SS (fun hS => ?_)
        clear hK K
        try simp only [Act.put, List.getElem_toArray, List.getElem_cons_zero, List.getElem_cons_succ, List.setIfInBounds_toArray, List.set_cons_zero, List.set_cons_succ]
        refine wpAnyH_ready (rs := [13]) (by kernel_rfl) (by simp) ?_
        refine AllReadyH.cons rfl (fun K hK => ?_) (AllReadyH.nil)
        go_simp
        refine (C2.out _ hS.1).mono ?_
        rintro e wB ⟨B1, b1, rfl, hl2, hbB⟩
        have hBB : Below (World.alloc wA (.cells #[.int .i64 0, .string ⟨#[]⟩, .string ⟨#[]⟩, .slice none 0 0, .int .i64 0, .slice none 0 0, .slice none 0 0, .int .i64 0] 27)).heap.size (World.alloc wA (.cells #[.int .i64 0, .string ⟨#[]⟩, .string ⟨#[]⟩, .slice none 0 0, .int .i64 0, .slice none 0 0, .slice none 0 0, .int .i64 0] 27)) wB := hbB
        have SS := KP.out wB (Below.trans hS.1 (Below.mono hbB (Below.size hS.1)))
        refine hK.out _ _ SS (fun hS => ?_)
        clear hK K
        try simp only [Act.put, List.getElem_toArray, List.getElem_cons_zero, List.getElem_cons_succ, List.setIfInBounds_toArray, List.set_cons_zero, List.set_cons_succ]
        have zz : Res8 wB _ := Res8.later zz hBB
        first
        | (refine wpAnyH_take (i := 16) (v := ?_) rfl (by kernel_rfl) (by kernel_rfl) (by kernel_rfl) (fun _ _ _ h => h) (Or.inl ⟨by rfl, ?_⟩) (by assumption) ?_
           rotate_left
           · (intro V hV; obtain ⟨_, x0, x1, x2, x3, x4, x5, x6, x7⟩ := hV; go_simp; try with_reducible rfl)
           try simp only [Act.put, List.getElem_toArray, List.getElem_cons_zero, List.getElem_cons_succ, List.setIfInBounds_toArray, List.set_cons_zero, List.set_cons_succ])
        | (refine wpAnyH_take (i := 16) (v := undef) rfl (by kernel_rfl) (by kernel_rfl) (by kernel_rfl) (fun _ _ _ h => h) (Or.inr ⟨by rfl, rfl⟩) (by assumption) ?_
           try simp only [Act.put, List.getElem_toArray, List.getElem_cons_zero, List.getElem_cons_succ, List.setIfInBounds_toArray, List.set_cons_zero, List.set_cons_succ])
        | fail "take 16"
        have hth := zz.there
        have hone : (#[.int .i64 k, .string s, .string t'.name, .slice A1 m1 a1, .int .i64 t'.off, .slice B1 l b1, .slice none 0 0, .int .i64 o] : Array Value).all (·.oneCell') = true := by simp [Value.oneCell']
        have hset := Below.trans hS.1 (set_below hk [.int .i64 k, .string s, .string t'.name, .slice A1 m1 a1, .int .i64 t'.off, .slice B1 l b1, .slice none 0 0, .int .i64 o] 0 (wB))
        refine wpAnyH_ready (rs := [18]) (by kernel_rfl) (by simp) ?_
        refine AllReadyH.cons rfl (fun K hK => ?_) (AllReadyH.nil)
        refine ready_store8 (.tmp 7) (.tmp 25) rfl (by kernel_rfl) (wA.heap.size) 0 #[.int .i64 k, .string s, .string t'.name, .slice A1 m1 a1, .int .i64 t'.off, .slice B1 l b1, .slice none 0 0, .int .i64 o] (by rfl) (by rfl) hth rfl hone ?_
        refine hK.out _ _ (KP.out _ hset) (fun hS => ?_)
        clear hK K
        refine wpAnyH_done (by kernel_rfl) ?_ _
        have hhead := Lib.hid (head_any (e := .mk k s t' ts' [] o) (a := a1) (b := b1) HB.out H.out.one HR.out HZ.out hD hBA ((Below.refl _ _).alloc (Nat.le_refl _) _) hBB (Below.refl _ _) zz hk (.inr (Nat.le_refl _)) (.inl (by simp)) hns1 hl1 hl2)
        go_wp2_with fail
        go_meet
        exact ⟨_, _, _, _, _, _, rfl, hhead.out⟩
    · skip
      go_simp
      have zz := res8_new W.drew
      have hk := Below.size hS.1
      have hbZ : Below (W.drew).heap.size W.drew (World.alloc W.drew (.cells #[.int .i64 0, .string ⟨#[]⟩, .string ⟨#[]⟩, .slice none 0 0, .int .i64 0, .slice none 0 0, .slice none 0 0, .int .i64 0] 27)) := (Below.refl _ _).alloc (Nat.le_refl _) _
      have SS := KP.out _ (Below.trans hS.1 (Below.mono hbZ (Below.size hS.1)))
      refine hK.out _ _ SS (fun hS => ?_)
      clear hK K
      try simp only [Act.put, List.getElem_toArray, List.getElem_cons_zero, List.getElem_cons_succ, List.setIfInBounds_toArray, List.set_cons_zero, List.set_cons_succ]
      refine wpAnyH_ready (rs := [8]) (by kernel_rfl) (by simp) ?_
      refine AllReadyH.cons rfl (fun K hK => ?_) (AllReadyH.nil)
      go_simp
      refine (C1.out _ hS.1).mono ?_
      rintro e wA ⟨A1, m1, a1, rfl, hns1, hl1, hbA⟩
      have hBA : Below (World.alloc W.drew (.cells #[.int .i64 0, .string ⟨#[]⟩, .string ⟨#[]⟩, .slice none 0 0, .int .i64 0, .slice none 0 0, .slice none 0 0, .int .i64 0] 27)).heap.size (World.alloc W.drew (.cells #[.int .i64 0, .string ⟨#[]⟩, .string ⟨#[]⟩, .slice none 0 0, .int .i64 0, .slice none 0 0, .slice none 0 0, .int .i64 0] 27)) wA := hbA
      have hV0 := hS.1
      have SS := KP.out wA (Below.trans hS.1 (Below.mono hbA (Below.size hS.1)))
      refine hK.out _ _ SS (fun hS => ?_)
      clear hK K
      try simp only [Act.put, List.getElem_toArray, List.getElem_cons_zero, List.getElem_cons_succ, List.setIfInBounds_toArray, List.set_cons_zero, List.set_cons_succ]
      have zz : Res8 wA _ := Res8.later zz hBA
      refine wpAnyH_ready (rs := [13]) (by kernel_rfl) (by simp) ?_
      refine AllReadyH.cons rfl (fun K hK => ?_) (AllReadyH.nil)
      go_simp
      refine (C2.out _ hS.1).mono ?_
      rintro e wB ⟨B1, b1, rfl, hl2, hbB⟩
      have hBB : Below (wA).heap.size (wA) wB := hbB
      have SS := KP.out wB (Below.trans hS.1 (Below.mono hbB (Below.size hS.1)))
      refine hK.out _ _ SS (fun hS => ?_)
      clear hK K
      try simp only [Act.put, List.getElem_toArray, List.getElem_cons_zero, List.getElem_cons_succ, List.setIfInBounds_toArray, List.set_cons_zero, List.set_cons_succ]
      have zz : Res8 wB _ := Res8.later zz hBB
      first
      | (refine wpAnyH_take (i := 16) (v := ?_) rfl (by kernel_rfl) (by kernel_rfl) (by kernel_rfl) (fun _ _ _ h => h) (Or.inl ⟨by rfl, ?_⟩) (by assumption) ?_
         rotate_left
         · (intro V hV; obtain ⟨_, x0, x1, x2, x3, x4, x5, x6, x7⟩ := hV; go_simp; try with_reducible rfl)
         try simp only [Act.put, List.getElem_toArray, List.getElem_cons_zero, List.getElem_cons_succ, List.setIfInBounds_toArray, List.set_cons_zero, List.set_cons_succ])
      | (refine wpAnyH_take (i := 16) (v := undef) rfl (by kernel_rfl) (by kernel_rfl) (by kernel_rfl) (fun _ _ _ h => h) (Or.inr ⟨by rfl, rfl⟩) (by assumption) ?_
         try simp only [Act.put, List.getElem_toArray, List.getElem_cons_zero, List.getElem_cons_succ, List.setIfInBounds_toArray, List.set_cons_zero, List.set_cons_succ])
      | fail "take 16"
      have hth := zz.there
      have hone : (#[.int .i64 k, .string s, .string t'.name, .slice A1 m1 a1, .int .i64 t'.off, .slice B1 l b1, .slice none 0 0, .int .i64 o] : Array Value).all (·.oneCell') = true := by simp [Value.oneCell']
      have hset := Below.trans hS.1 (set_below hk [.int .i64 k, .string s, .string t'.name, .slice A1 m1 a1, .int .i64 t'.off, .slice B1 l b1, .slice none 0 0, .int .i64 o] 0 (wB))
      refine wpAnyH_ready (rs := [18]) (by kernel_rfl) (by simp) ?_
      refine AllReadyH.cons rfl (fun K hK => ?_) (AllReadyH.nil)
      refine ready_store8 (.tmp 7) (.tmp 25) rfl (by kernel_rfl) (W.drew.heap.size) 0 #[.int .i64 k, .string s, .string t'.name, .slice A1 m1 a1, .int .i64 t'.off, .slice B1 l b1, .slice none 0 0, .int .i64 o] (by rfl) (by rfl) hth rfl hone ?_
      refine hK.out _ _ (KP.out _ hset) (fun hS => ?_)
      clear hK K
      refine wpAnyH_done (by kernel_rfl) ?_ _
      have hhead := Lib.hid (head_any (e := .mk k s t' ts' [] o) (a := a1) (b := b1) HB.out H.out.one HR.out HZ.out hV0 hBA (Below.refl _ _) hBB (Below.refl _ _) zz hk (.inl (by simp)) (.inl (by have h1 := hBA.size; have h2 := hBB.size; have h3 := hV0.size; first | omega | (simp only [World.size_alloc] at h1 h2 h3 ⊢; omega))) hns1 hl1 hl2)
      go_wp2_with fail
      go_meet
      exact ⟨_, _, _, _, _, _, rfl, hhead.out⟩
  case rest =>
    obtain ⟨kb, A1, m1, a1, B1, b1, rfl, hh⟩ := hcut
    have HH := Lib.hid hh
    clear hh C1 C2 HN HU HK HR HB H
    obtain ⟨i0, hi0, hz0, hz1, hz2⟩ := info_parts infoEx
    go_wp2_with fail
    obtain ⟨V0, hV0⟩ : ∃ V0, V0 = wc := ⟨wc, rfl⟩
    subst hV0
    go_loopw [8] (fun i V => ∃ (j : Nat) (v : Value), j ≤ r ∧ i = .int .i64 j ∧ KidRow w V0 V kb (.int .i64 k) (.string s) (.string t'.name) (.slice A1 m1 a1) (.int .i64 t'.off) (.slice B1 l b1) (.int .i64 o) v j ((xs.take j).map (Ex.subst ns us)) ∧ (j = 0 → v = .slice none 0 0)) (fun i _ => r - (intOf i).toNat)
    case atStart => exact ⟨0, _, Nat.zero_le _, rfl, by rw [List.take_zero]; exact HH.out.row, fun _ => rfl⟩
    case round =>
      obtain ⟨j, v, hj, rfl, hrow, hv0⟩ := hrel
      have HV0 := Lib.hid hv0
      clear hv0
      have HR := Lib.hid hrow
      have x6' := (hrow.kbox HH.out.one HH.out.one.lt (by have h9 := hrow.low; omega)) 6 _ rfl
      have v1 := hrow.box 6 v rfl
      have vf := hrow.free
      have hkb := cell_lt v1
      by_cases hlt : j < r
      · have y3 : (0 : Int) ≤ j := by omega
        have y4 : (j : Int) < r := by omega
        obtain ⟨p, z, zs, rfl, hz, hzp, _, hzd, hzc⟩ := kid_at (RowH.later HK0.out hrow.bel) hlt
        have hmem := List.mem_of_getElem? hz
        have C := Lib.hid (fun (V : World) (hV : Below wr.heap.size wr V) => (IH.out z hmem zs V (HWX.out z hmem) (Dat.H.later hzd hV) ((HN0.out.later hrow.bel).later hV) (Here.later (Here.later HU0.out hrow.bel) hV)).mono fun e w' h => XNeat.from hV h.1)
        have hst : (xs.take (j + 1)).map (Ex.subst ns us) = (xs.take j).map (Ex.subst ns us) ++ [z.subst ns us] := by rw [List.take_add_one, hz]; simp
        have HST := Lib.hid hst
        obtain ⟨A8, m8, a8, B8, l8, b8, C8, n8, c8, rfl, _⟩ := ex_open hzd
        obtain ⟨w0, w1c, w2c, w3c, w4c, w5c, w6c, w7c⟩ := cells8_at hzc
        obtain ⟨cs, S, hown, hrows, hzs, hS⟩ := hrow.row
        have HRO := Lib.hid hrows
        have HZS := Lib.hid hzs
        have HSS := Lib.hid hS
        have HOB := Lib.hid (own_base hown)
        have HKL := Lib.hid (And.intro hrow.low hrow.lt)
        have hvs := hrow.size
        clear hz hzp hzd hzc hmem hst hrow hrows hzs hS
        generalize z.subst ns us = y at *
        go_wp2_with fail
        go_region_law (first
          | (go_simp; go_at_call 23; refine (C.out _ (by first | exact Below.refl _ _ | exact (Below.refl _ _).drew | exact (Below.refl _ _).drew.drew)).mono ?_; rintro e w1 ⟨qs, rfl, hq, hb2⟩; obtain ⟨A7, m7, c7, B7, l7, d7, C7, r7, f7, rfl, _⟩ := ex_open hq; have v1c := (hb2.cell (p := ⟨kb, 6, none⟩) hkb).trans v1; have HO1 := Lib.hid (own_below hown hb2); have hsz1 := hb2.size; have v1e := ((((Below.refl w1.heap.size w1).alloc (Nat.le_refl _) (.cells #[.int .i64 y.kind, .string y.name, .string y.ty.name, .slice A7 m7 c7, .int .i64 y.ty.off, .slice B7 l7 d7, .slice C7 r7 f7, .int .i64 y.off] 27)).cell (p := ⟨kb, 6, none⟩) (by show kb < _; omega)).trans v1c); have HQ := Lib.hid hq; have HB2 := Lib.hid hb2; clear hq hb2)
          | (refine step_append_lies _ rfl _ _ 25 rfl V0.heap.size 27 i0 _ 8 128 Tryd.underlying25 hi0 hz0 hz1 hz2 rfl (by omega) v j cs (by rfl) (HO1.out.alloc _) ⟨w1.heap.size, 0, none⟩ 1 1 [.int .i64 y.kind, .string y.name, .string y.ty.name, .slice A7 m7 c7, .int .i64 y.ty.off, .slice B7 l7 d7, .slice C7 r7 f7, .int .i64 y.off] (by rfl) (by rfl) (World.news_of_block (cs := #[.int .i64 y.kind, .string y.name, .string y.ty.name, .slice A7 m7 c7, .int .i64 y.ty.off, .slice B7 l7 d7, .slice C7 r7 f7, .int .i64 y.off]) (t := 27) (fr := (0, 0)) (heap_alloc_new w1 _)) (by simp [Value.oneCell']) (by omega) (by unfold maxLen; omega) (by omega) (by simp; omega) (w1.heap.size + 1) (by simp) ?_
             intro gg cap w2 hown2 hgrow2 hat2 hlt2
             have v1d := (hgrow2.cell_far ⟨kb, 6, none⟩ (by simp; omega) (fun h => absurd (HOB.out _ h.symm) (by have := HKL.out.2; show ¬ _ ≤ kb; omega))).trans ((((Below.refl w1.heap.size w1).alloc (Nat.le_refl _) _).cell (p := ⟨kb, 6, none⟩) (by show kb < _; omega)).trans v1c)
             have vfd := (hgrow2.frozen_far ⟨kb, 6, none⟩ (by simp; omega) (fun h => absurd (HOB.out _ h.symm) (by have := HKL.out.2; show ¬ _ ≤ kb; omega))).trans ((((Below.refl w1.heap.size w1).alloc (Nat.le_refl _) _).frozen (p := ⟨kb, 6, none⟩) (by show kb < _; omega)).trans ((HB2.out.frozen (p := ⟨kb, 6, none⟩) hkb).trans vf))
             have HR2 := Lib.hid (KidRow.step HR.out hown HRO.out HZS.out HSS.out HB2.out HQ.out hown2 hgrow2 hat2)
             clear hown2 hgrow2 hat2 hlt2))
        all_goals
          go_wp2
          go_roundw
          case rel => exact ⟨j + 1, _, by omega, by go_num, by rw [HST.out]; exact HR2.out, fun h => by omega⟩
          case measure => simp [intOf]; omega
      · have y4 : (r : Int) ≤ j := by omega
        obtain rfl : j = r := by omega
        rw [List.take_of_length_le (by rw [HXL.out]; omega)] at hrow
        obtain ⟨q0, q1, q2, q3, q4, q5, q6, q7⟩ := hrow.box.c8
        have hres := hrow.kres HH.out.res (by have h9 := hrow.low; omega)
        obtain ⟨D, dc, rfl, hd⟩ := KidRow.done (e := .mk k s t' ts' (xs.map (Ex.subst ns us)) o) hrow hs HH.out.hn HH.out.ha HH.out.hb (by omega)
        have HD := Lib.hid hd
        have HBW := Lib.hid hrow.bel
        have HT1 := Lib.hid hres.there
        have HRS := Lib.hid hres
        have HO1 := Lib.hid (show (#[.int .i64 k, .string s, .string t'.name, .slice A1 m1 a1, .int .i64 t'.off, .slice B1 l b1, .slice D j dc, .int .i64 o] : Array Value).all (·.oneCell') = true by simp [Value.oneCell'])
        obtain ⟨W2, hW2⟩ : ∃ W2, W2 = wr.setCells (w.heap.size + 1) 0 [.int .i64 k, .string s, .string t'.name, .slice A1 m1 a1, .int .i64 t'.off, .slice B1 l b1, .slice D j dc, .int .i64 o] := ⟨_, rfl⟩
        have HW2 := Lib.hid hW2
        clear hW2 hd hres hrow
        go_wp2_with (refine store8i 6 46 (b := w.heap.size + 1) (o := 0) (vs := #[.int .i64 k, .string s, .string t'.name, .slice A1 m1 a1, .int .i64 t'.off, .slice B1 l b1, .slice D j dc, .int .i64 o]) rfl rfl HT1.out HO1.out rfl ?_; show wpList _ _ _ _ _ (wr.setCells (w.heap.size + 1) 0 [.int .i64 k, .string s, .string t'.name, .slice A1 m1 a1, .int .i64 t'.off, .slice B1 l b1, .slice D j dc, .int .i64 o]); rw [← HW2.out])
        have hfin : Boxd W2 (w.heap.size + 1) [.int .i64 k, .string s, .string t'.name, .slice A1 m1 a1, .int .i64 t'.off, .slice B1 l b1, .slice D j dc, .int .i64 o] := by rw [HW2.out]; exact HRS.out.set rfl
        obtain ⟨r0, r1, r2, r3, r4, r5, r6, r7⟩ := hfin.c8
        refine bodyPost_ret (v := .agg #[.int .i64 k, .string s, .string t'.name, .slice A1 m1 a1, .int .i64 t'.off, .slice B1 l b1, .slice D j dc, .int .i64 o]) (by simp [results, Tryd.results23, go_sem, r0, r1, r2, r3, r4, r5, r6, r7]) rfl ?_
        rw [HW2.out]
        refine ⟨ret8 HBW.out (Nat.le_succ _) HD.out, fun hk vs2 hu => ?_⟩
        have hj0 : j = 0 := by
          have h1 := congrArg List.length (show xs.map (Ex.subst ns us) = [] from hk)
          rw [List.length_map, HXL.out] at h1
          exact h1
        have h2 := HV0.out hj0
        injection hu with hu
        injection hu with hu
        have h3 := congrArg Array.toList hu
        rw [show vs2 = _ from h3.symm, ← h2]
        rfl
theorem xref_subst_any (ns : List ByteArray) (us : List Ty) (N U : Option Addr) (nl ul nc uc : Nat) (hus : ∀ u ∈ us, u.list.length ≤ 1000000) (hnl : nl ≤ 1000000) (e : Ex) (vs : List Value) (w : World) (hwt : e.wt ≤ 100000) (h : e.dat.H w vs) (hN : Sl w N nl ns) (hU : Here w U ul us) :
    Calls Tryd.prog 23 #[.agg vs.toArray, .slice N nl nc, .slice U ul uc] w (XNeat w (e.subst ns us)) := (xref_subst_k ns us N U nl ul nc uc hus hnl e vs w hwt h hN hU).mono fun _ _ h => h.1
end Go.Proofs.YtnfakhohoibkpaaDoor
