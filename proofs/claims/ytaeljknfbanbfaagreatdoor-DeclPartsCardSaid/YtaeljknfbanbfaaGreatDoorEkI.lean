/- A loop over an iterator that says where what it yields lies: a condition C on each element and on the world in which it comes; what a round keeps is a relation of worlds. No condition.
The walk of the iterator that expr.All gives: it yields the parts of a clone that it makes itself; a round may write the caller's cells made since, and the row that a cell of the caller holds. The condition: few parts. -/
import Derived.Test.YtaeljknfbanbfaaGreatDoorEkC
import Derived.Test.YtaeljknfbanbfaaGreatDoorEkV
namespace Go.Proofs.YtaeljknfbanbfaaGreatDoor
open Go.RowKit

/-- An iterator that yields only what C allows. -/
def SeqIf {α : Type} (n : Nat) (g : Nat) (lb : Array Value) (enc : α → Array Value) (C : α → World → Prop) (Kp : World → World → Prop) (S Sp : List α → Prop) (N : Nat) (w : World) : Prop :=
  ∀ (l : Nat) (J Jx : List α → World → Prop) (W : World), Below w.heap.size w W → AbidesFrom W.heap.size J → AbidesFrom W.heap.size Jx → (∀ s A B, J s A → Below A.heap.size A B → J s B) →
    (∀ pre x V, C x V → J pre V → pre.length < N → YieldAt Fence.wide (n - 1) Tryz.prog l (enc x) V fun e W' =>
      (e = .returned (.bool true) ∧ J (pre ++ [x]) W' ∧ Kp V W') ∨ (e = .returned (.bool false) ∧ Jx (pre ++ [x]) W')) →
    J [] W →
    CallsIn Fence.wide n Tryz.prog g (#[.func (.yield l) #[] #[]] ++ lb) W fun e W' => (∃ v, e = .returned v) ∧ ((∃ xs, S xs ∧ J xs W') ∨ (∃ pre, Sp pre ∧ Jx pre W'))

/-- The two blocks of book-keeping of a loop that began in a world of s blocks. -/
def Books (s : Nat) (r : Loop) (W : World) : Prop := W.heap[s + 1]? = some (.loop r) ∧ W.heap[s]? = some (.deferred (some []))
theorem Books.lt {s : Nat} {r : Loop} {W : World} (h : Books s r W) : s + 1 < W.heap.size := (Array.getElem?_eq_some_iff.1 h.1).1
theorem Books.from {s : Nat} {r : Loop} {W W' : World} (h : Books s r W) (hk : KeepsFrom s W W') : Books s r W' := ⟨hk.same _ _ (by omega) h.1 rfl, hk.same _ _ (Nat.le_refl _) h.2 rfl⟩
theorem Books.walk {s : Nat} {r : Loop} {W W' : World} {row : Option Nat} (h : Books s r W) (hg : W.grownBy W' row) (hr : ∀ k, row = some k → ∃ o : Obj, W.heap[k]? = some o ∧ o.isWalk = true) : Books s r W' :=
  ⟨(grownBy_keeps hg hr h.1 rfl).trans h.1, (grownBy_keeps hg hr h.2 rfl).trans h.2⟩
theorem Books.below {s : Nat} {r : Loop} {W W' : World} (h : Books s r W) (hb : Below W.heap.size W W') : Books s r W' := ⟨(hb.block _ h.lt).trans h.1, (hb.block _ (Nat.lt_of_succ_lt h.lt)).trans h.2⟩
theorem Books.put {s : Nat} {r r' : Loop} {W : World} (h : Books s r W) : Books s r' (W.putObj (s + 1) (.loop r')) := ⟨World.putObj_heap_same h.lt, (World.putObj_heap_other (by omega)).trans h.2⟩

/-- How a round ends. -/
def roundIf {α : Type} (s : Nat) (Kp : World → World → Prop) (I : List α → World → Prop) (Ix : Code → List α → World → Prop) (xs : List α) (W : World) : Exit → Act → World → Prop
  | .normal, _, W' => KeepsFrom s W W' ∧ Kp W W' ∧ I xs W'
  | .ret, _, W' => KeepsFrom s W W' ∧ Ix .ret xs W'
  | .exit i, _, W' => KeepsFrom s W W' ∧ Ix (.exit i) xs W'
  | .goto t, _, W' => KeepsFrom s W W' ∧ Ix (.goto t) xs W'
  | .panic _, _, _ => False
  | .outgrown, _, _ => False

set_option maxHeartbeats 2000000 in
theorem range_if {α : Type} {n : Nat} (h1 : 1 ≤ n) {g : Operand} {ps : Array Tmp} {assign body : Code} {Q : Exit → Act → World → Prop} {a : Act} {w : World} {gf : Nat} {lb : Array Value} (hg : a.eval g = .func (.func gf) #[] lb)
    (eg : ∀ args W, (callFunc gf args).run Tryz.prog W = .ok (.enter gf args) W) {enc : α → Array Value} {C : α → World → Prop} {Kp : World → World → Prop} {S Sp : List α → Prop} {N : Nat} {w0 : World} (hseq : SeqIf (n - 1) gf lb enc C Kp S Sp N w0)
    (hKt : ∀ {A B D : World}, Kp A B → Kp B D → Kp A D) (hKb : ∀ (W : World) (l : Nat) (o o' : Obj), w.heap.size ≤ l → W.heap[l]? = some o → o.isCells = false → o.isWalk = false → Kp W (W.putObj l o')) (hb0 : Below w0.heap.size w0 w) (hps : ∀ x, (enc x).size = ps.size)
    (I : List α → World → Prop) (Ix : Code → List α → World → Prop) (hI : OwnFrom w.heap.size I) (hI2 : ∀ s A B, I s A → Below A.heap.size A B → I s B) (hIx : ∀ c, OwnFrom w.heap.size (Ix c)) (h0 : I [] w) (Ax : α → Act → World → Prop) (hAx : ∀ x a', OwnFrom w.heap.size (fun (_ : Unit) W => Ax x a' W))
    (hassign : ∀ (l : Nat) (pre : List α) (x : α) (W : World) (K : Act → World → Prop), C x W → I pre W → (∀ a' W', KeepsFrom w.heap.size W W' → Kp W W' → I pre W' → Ax x a' W' → K a' W') →
      assign.wpIn (Fence.wide.inRound l) (n - 1 - 1) Tryz.prog (Exit.then K (fun _ _ _ => False)) { tmps := (ps.zip (enc x)).foldl (fun t (p, v) => t.setIfInBounds p v) a.tmps, defers := [] } W)
    (hbody : ∀ (l : Nat) (pre : List α) (x : α) (a' : Act) (W : World), w.heap.size ≤ l → (∃ r, W.heap[l]? = some (.loop r)) → I pre W → Ax x a' W → pre.length < N → body.wpIn (Fence.wide.inRound l) (n - 1 - 1) Tryz.prog (roundIf w.heap.size Kp I Ix (pre ++ [x]) W) a' W)
    (hdone : ∀ (D : Nat) (xs : List α) (W : World), w.heap.size ≤ D → S xs → I xs W → W.heap[D]? = some (.deferred (some [])) → Q .normal { a with defers := { target := .collected D, args := #[] } :: a.defers } W)
    (hstop : ∀ (D : Nat) (c : Code) (pre : List α) (W : World), w.heap.size ≤ D → Sp pre → Ix c pre W → W.heap[D]? = some (.deferred (some [])) → c.wpIn Fence.wide n Tryz.prog Q { a with defers := { target := .collected D, args := #[] } :: a.defers } W) :
    (Code.rangeFunc g ps assign body).wpIn Fence.wide n Tryz.prog Q a w := by
  refine wpIn_rangeFunc fun fn hfn => ?_
  obtain ⟨rc, hrc⟩ : ∃ rc : LoopState → Option Code → Loop, rc = fun st pe => { state := st, pending := pe, fn, tmps := a.tmps, params := ps, assign, body, defers := w.heap.size } := ⟨_, rfl⟩
  have hwg : ∀ (row : Option Nat) (W1 A : World), w.heap.size ≤ W1.heap.size → (∀ r, row = some r → W1.heap.size ≤ r ∧ ∃ o : Obj, A.heap[r]? = some o ∧ o.isWalk = true) → (∀ r, row = some r → w.heap.size ≤ r ∧ ∃ o : Obj, A.heap[r]? = some o ∧ o.isCells = false) := fun row W1 A hs h r e => by
    obtain ⟨h2, o, h3, h4⟩ := h r e
    exact ⟨Nat.le_trans hs h2, o, h3, Obj.not_cells_of_walk h4⟩
  obtain ⟨W1, hW1⟩ : ∃ W1, W1 = (w.alloc (.deferred (some []))).alloc (.loop (rc .ready none)) := ⟨_, rfl⟩
  have hbk : Books w.heap.size (rc .ready none) ((w.alloc (.deferred (some []))).alloc (.loop (rc .ready none))) := ⟨by
      have h2 := World.alloc_heap_new (w.alloc (.deferred (some []))) (.loop (rc .ready none))
      rwa [World.size_alloc] at h2, (Below.heap_alloc _ _ _ (by simp)).trans (World.alloc_heap_new w _)⟩
  have hI1 : I [] ((w.alloc (.deferred (some []))).alloc (.loop (rc .ready none))) := hI.alloc _ (hI.alloc _ h0)
  have hb1 : Below w0.heap.size w0 ((w.alloc (.deferred (some []))).alloc (.loop (rc .ready none))) := hb0.trans ((((Below.refl _ w).alloc (Nat.le_refl _) _).alloc (by simp) _).mono hb0.size)
  have hs1 : w.heap.size ≤ ((w.alloc (.deferred (some []))).alloc (.loop (rc .ready none))).heap.size := by simp only [World.size_alloc]; omega
  refine ⟨w.heap.size + 1, [{ target := .collected w.heap.size, args := #[] }], W1, { target := .fn (.func gf) lb, args := #[.func (.yield (w.heap.size + 1)) #[] #[]] }, W1, gf,
    #[.func (.yield (w.heap.size + 1)) #[] #[]] ++ lb, W1, by rw [hW1, hrc]; exact run_enterLoop_outer _ _ _ _ _, ?_, ?_, ?_, fun _ => h1, ?_⟩
  · simp only [resolve, hg]
    simp [go_sem]
  · intro f' hf'
    trivial
  · simp [invoke, go_sem, eg]
  rw [← hW1] at hbk hI1 hb1 hs1
  refine (hseq (w.heap.size + 1) (fun pre W => I pre W ∧ Books w.heap.size (rc .ready none) W) (fun pre W => ∃ c, Ix c pre W ∧ Books w.heap.size (rc .done (some c)) W) W1 hb1
    (fun s A B row hs hg' hr => ⟨hI s A B row hs.1 hg' (hwg row W1 A hs1 hr), hs.2.walk hg' (fun k e => (hr k e).2)⟩)
    (fun s A B row hs hg' hr => hs.elim fun c hc => ⟨c, hIx c s A B row hc.1 hg' (hwg row W1 A hs1 hr), hc.2.walk hg' (fun k e => (hr k e).2)⟩) (fun s A B hs hb => ⟨hI2 s A B hs.1 hb, hs.2.below hb⟩) ?_ ⟨hI1, hbk⟩).mono ?_
  · rintro pre x V hC ⟨hi, hk⟩ hlen
    have hy := run_yield (P := Tryz.prog) (args := enc x) hk.1 (by rw [hrc]; exact hps x)
    rw [hrc] at hy
    refine ⟨fn, _, assign, body, hy, roundIn_of_wpIn hfn (hassign _ pre x V _ hC hi ?_)⟩
    clear hy
    intro a' V2 hkf hkp hi2 hax
    have hk2 := hk.from hkf
    refine ⟨_, run_beginRound hk2.1 (by rw [hrc]), ?_⟩
    have hk3 : Books w.heap.size { rc .ready none with state := .busy } (V2.putObj (w.heap.size + 1) (.loop { rc .ready none with state := .busy })) := hk2.put
    have hp3 : Kp V2 (V2.putObj (w.heap.size + 1) (.loop { rc .ready none with state := .busy })) := hKb _ _ _ _ (by omega) hk2.1 rfl rfl
    refine wpIn_mono (hbody _ pre x a' _ (by omega) ⟨_, hk3.1⟩ (hI.putObj _ hi2 (by omega) hk2.1 rfl) ((hAx x a').putObj (s := ()) _ hax (by omega) hk2.1 rfl) hlen) ?_
    have fin : ∀ (jump : Option Code) (V3 : World), KeepsFrom w.heap.size (V2.putObj (w.heap.size + 1) (.loop { rc .ready none with state := .busy })) V3 → ∃ V4, (Instr.endRound (w.heap.size + 1) jump).run Tryz.prog V3 = .ok (.bool jump.isNone) V4 ∧
        V4 = V3.putObj (w.heap.size + 1) (.loop (rc (if jump.isNone then .ready else .done) jump)) ∧ Books w.heap.size (rc (if jump.isNone then .ready else .done) jump) V4 ∧ Kp V3 V4 ∧ V3.heap[w.heap.size + 1]? = some (.loop { rc .ready none with state := .busy }) := fun jump V3 hk4 => by
      have hk5 := hk3.from hk4
      have hrun := run_endRound (P := Tryz.prog) jump hk5.1
      refine ⟨_, hrun, by rw [hrc], ?_, hKb _ _ _ _ (by omega) hk5.1 rfl rfl, hk5.1⟩
      have := hk5.put (r' := rc (if jump.isNone then .ready else .done) jump)
      rw [hrc] at this ⊢
      exact this
    rintro e a3 V3 hp
    cases e with
    | normal =>
      obtain ⟨hk4, hkp4, hi4⟩ := hp
      obtain ⟨V4, hr, he, hb4, hkp5, hl⟩ := fin none V3 hk4
      exact ⟨_, _, hr, .inl ⟨rfl, ⟨by rw [he]; exact hI.putObj _ hi4 (by omega) hl rfl, hb4⟩, hKt hkp (hKt (hKt hp3 hkp4) hkp5)⟩⟩
    | ret =>
      obtain ⟨hk4, hi4⟩ := hp
      obtain ⟨V4, hr, he, hb4, hkp5, hl⟩ := fin (some .ret) V3 hk4
      exact ⟨_, _, hr, .inr ⟨rfl, .ret, by rw [he]; exact (hIx _).putObj _ hi4 (by omega) hl rfl, hb4⟩⟩
    | exit i =>
      obtain ⟨hk4, hi4⟩ := hp
      obtain ⟨V4, hr, he, hb4, hkp5, hl⟩ := fin (some (.exit i)) V3 hk4
      exact ⟨_, _, hr, .inr ⟨rfl, .exit i, by rw [he]; exact (hIx _).putObj _ hi4 (by omega) hl rfl, hb4⟩⟩
    | goto t =>
      obtain ⟨hk4, hi4⟩ := hp
      obtain ⟨V4, hr, he, hb4, hkp5, hl⟩ := fin (some (.goto t)) V3 hk4
      exact ⟨_, _, hr, .inr ⟨rfl, .goto t, by rw [he]; exact (hIx _).putObj _ hi4 (by omega) hl rfl, hb4⟩⟩
    | panic ch => exact hp.elim
    | outgrown => exact hp.elim
  · rintro e W2 ⟨⟨v, rfl⟩, (⟨xs, hS, hi, hb⟩ | ⟨pre, hSp, c, hi, hb⟩)⟩
    · have hr := run_endLoop (P := Tryz.prog) hb.1 (by rw [hrc]; simp)
      exact ⟨none, _, by rw [hr, hrc], hdone _ xs _ (Nat.le_refl _) hS (hI.putObj _ hi (by omega) hb.1 rfl) ((World.putObj_heap_other (by omega)).trans hb.2)⟩
    · have hr := run_endLoop (P := Tryz.prog) hb.1 (by rw [hrc]; simp)
      exact ⟨some c, _, by rw [hr, hrc], hstop _ c pre _ (Nat.le_refl _) hSp ((hIx c).putObj _ hi (by omega) hb.1 rfl) ((World.putObj_heap_other (by omega)).trans hb.2)⟩
end Go.Proofs.YtaeljknfbanbfaaGreatDoor
namespace Go.Proofs.YtaeljknfbanbfaaGreatDoor
open Go.RowKit
attribute [local go_sem] Oper.semAt_some

/-- The cell q is there. -/
def HasQ (q : Option Nat) (W : World) : Prop := ∀ k, q = some k → ∃ v, W.cell? ⟨k, 0, none⟩ = some v ∧ ∀ b, v.ownBlock = some b → b < W.heap.size
/-- Block b is the row that the cell q holds. -/
def OwnQ (q : Option Nat) (W : World) (b : Nat) : Prop := ∃ k, q = some k ∧ ∃ v, W.cell? ⟨k, 0, none⟩ = some v ∧ v.ownBlock = some b
/-- What a round keeps: all cells but those that the caller has made before the loop, and but the caller's row. -/
def KeepO (q : Option Nat) (n m : Nat) (A B : World) : Prop := A.heap.size ≤ B.heap.size ∧ (HasQ q A → HasQ q B ∧ (∀ p v, (p.block < n ∨ m ≤ p.block) → ¬ OwnQ q A p.block → A.cell? p = some v → B.cell? p = some v ∧ B.frozen? p = A.frozen? p) ∧ ∀ b, OwnQ q B b → b < A.heap.size → OwnQ q A b)
theorem KeepO.refl (q : Option Nat) (n m : Nat) (A : World) : KeepO q n m A A := ⟨Nat.le_refl _, fun h => ⟨h, fun _ _ _ _ h => ⟨h, rfl⟩, fun _ h _ => h⟩⟩
theorem KeepO.trans {q : Option Nat} {n m : Nat} {A B D : World} (h : KeepO q n m A B) (k : KeepO q n m B D) : KeepO q n m A D :=
  ⟨Nat.le_trans h.1 k.1, fun hA => by
    obtain ⟨hB, h1, h2⟩ := h.2 hA
    obtain ⟨hD, h3, h4⟩ := k.2 hB
    refine ⟨hD, fun p v hp ho hv => ?_, fun b hb hl => h2 b (h4 b hb (Nat.lt_of_lt_of_le hl h.1)) hl⟩
    obtain ⟨e1, e2⟩ := h1 p v hp ho hv
    obtain ⟨e3, e4⟩ := h3 p v hp (fun hw => ho (h2 _ hw (cell_lt hv))) e1
    exact ⟨e3, e4.trans e2⟩⟩
theorem KeepO.all {q : Option Nat} {n m : Nat} {A B : World} (hs : A.heap.size ≤ B.heap.size) (h : ∀ p v, A.cell? p = some v → B.cell? p = some v ∧ B.frozen? p = A.frozen? p) : KeepO q n m A B :=
  ⟨hs, fun hA => ⟨fun k hk => (hA k hk).elim fun v hv => ⟨v, (h _ v hv.1).1, fun b hb => Nat.lt_of_lt_of_le (hv.2 b hb) hs⟩, fun p v _ _ hv => h p v hv, fun b hb _ => by
    obtain ⟨k, hk, v, hv, ho⟩ := hb
    obtain ⟨u, hu, _⟩ := hA k hk
    rw [(h _ u hu).1] at hv
    cases hv
    exact ⟨k, hk, _, hu, ho⟩⟩⟩
theorem KeepO.new {q : Option Nat} {n m : Nat} {A B : World} (h : Below A.heap.size A B) : KeepO q n m A B := KeepO.all h.size fun _ _ hv => ⟨(h.cell (cell_lt hv)).trans hv, h.frozen (cell_lt hv)⟩
theorem KeepO.grown {q : Option Nat} {n m : Nat} {A B : World} {row : Option Nat} (hg : A.grownBy B row) (hr : ∀ r, row = some r → ∃ o : Obj, A.heap[r]? = some o ∧ o.isCells = false) : KeepO q n m A B :=
  KeepO.all hg.size fun _ _ hv => ⟨cell_kept hv hg hr, frozen_kept hv hg hr⟩
theorem KeepO.put {q : Option Nat} {n m : Nat} (W : World) (l : Nat) (o o' : Obj) (h : W.heap[l]? = some o) (hc : o.isCells = false) : KeepO q n m W (W.putObj l o') :=
  KeepO.grown (grownBy_putObj' W l o') (fun r e => by cases e; exact ⟨o, h, hc⟩)
/-- Data that lie from m on and not in the caller's row last. -/
def Aside (q : Option Nat) (m : Nat) (A : World) (b : Nat) : Prop := m ≤ b ∧ b < A.heap.size ∧ ¬ OwnQ q A b
theorem KeepO.lasts {q : Option Nat} {n m : Nat} {A B : World} (h : KeepO q n m A B) (hq : HasQ q A) : Lasts A B (Aside q m A) := fun p v hp hv => ((h.2 hq).2.1 p v (.inr hp.1) hp.2.2 hv).1
theorem KeepO.aside {q : Option Nat} {n m : Nat} {A B : World} (h : KeepO q n m A B) (hq : HasQ q A) {b : Nat} (hb : Aside q m A b) : Aside q m B b :=
  ⟨hb.1, Nat.lt_of_lt_of_le hb.2.1 h.1, fun ho => hb.2.2 ((h.2 hq).2.2 b ho hb.2.1)⟩
theorem KeepO.boxd {q : Option Nat} {n m b : Nat} {A B : World} {us : List Value} (h : KeepO q n m A B) (hq : HasQ q A) (hb : Aside q m A b) (hx : Boxd A b us) : Boxd B b us := fun j u hu => ((h.2 hq).2.1 ⟨b, j, none⟩ u (.inr hb.1) hb.2.2 (hx j u hu)).1
theorem KeepO.into {q : Option Nat} {n m : Nat} {A B : World} {d : Dat} {us : List Value} (h : KeepO q n m A B) (hq : HasQ q A) (hd : d.In A False (Aside q m A) us) : d.In B False (Aside q m B) us :=
  (Dat.In.last (h.lasts hq) d us hd).wide fun _ hb => h.aside hq hb

/-- A block that is new lies aside. -/
theorem aside_new {q : Option Nat} {m : Nat} {A B : World} (h : Below A.heap.size A B) (hq : HasQ q A) (hm : m ≤ A.heap.size) {b : Nat} (hb : A.heap.size ≤ b) (hl : b < B.heap.size) : Aside q m B b :=
  ⟨Nat.le_trans hm hb, hl, fun ho => by
    have h1 := ((KeepO.new (n := 0) (m := 0) h).2 hq).2.2
    obtain ⟨k, hk, v, hv, hw⟩ := ho
    obtain ⟨u, hu, hlt⟩ := hq k hk
    rw [(h.cell (cell_lt hu)).trans hu] at hv
    cases hv
    have := hlt b hw
    omega⟩
theorem Row.last {w w' : World} {S : Nat → Prop} {z n : Nat} {A : Option Addr} {ds : List Dat} (h : Row w False S z A n ds) (hk : Lasts w w' S) : Row w' False S z A n ds := ⟨h.len, h.le, Dat.Elems.last hk z A ds 0 h.elems⟩

/-- What is yielded: an expression, as its eight cells. -/
abbrev Elt : Type := Ex × List Value
def Elt.enc (x : Elt) : Array Value := #[.agg x.2.toArray]
def Elt.At (q : Option Nat) (m : Nat) (x : Elt) (V : World) : Prop := x.1.wt ≤ 100000 ∧ x.1.dat.In V False (Aside q m V) x.2
def EltsDone (q : Option Nat) (n m : Nat) (J Jx : List Elt → World → Prop) (pre : List Elt) (l : List Ex) (W : World) (e : Ending) (W' : World) : Prop :=
  (e = .returned (.bool true) ∧ (∃ ys : List Elt, ys.map Prod.fst = l ∧ J (pre ++ ys) W') ∧ KeepO q n m W W') ∨ (e = .returned (.bool false) ∧ ∃ ys : List Elt, ys.map Prod.fst <+: l ∧ Jx (pre ++ ys) W')

set_option maxRecDepth 100000 in
set_option maxHeartbeats 8000000 in
theorem visit_el (q : Option Nat) (l n m K B0 : Nat) (J Jx : List Elt → World → Prop) (hJa : AbidesFrom B0 J)
    (hY : ∀ d pre x W, Elt.At q m x W → J pre W → pre.length < K → YieldAt Fence.wide d Tryz.prog l (Elt.enc x) W fun e W' =>
      (e = .returned (.bool true) ∧ J (pre ++ [x]) W' ∧ KeepO q n m W W') ∨ (e = .returned (.bool false) ∧ Jx (pre ++ [x]) W')) :
    ∀ (e : Ex) (us : List Value), e.wt ≤ 100000 → ∀ (d : Nat) (pre : List Elt) (W : World), HasQ q W → m ≤ W.heap.size → e.dat.In W False (Aside q m W) us → J pre W → pre.length + e.list.length ≤ K →
      CallsIn Fence.wide d Tryz.prog 153 #[.agg us.toArray, .func (.yield l) #[] #[]] W (EltsDone q n m J Jx pre e.list W) := by
  refine Ex.ind fun k s t ts xs o ih us hwt d pre W hq hm h hJ hN => ?_
  have HWT := Lib.hid (show ∀ x ∈ xs, Ex.wt x ≤ 100000 from fun x hx => Nat.le_trans (Ex.wt_kid (e := .mk k s t ts xs o) hx) hwt)
  have hbel : Below W.heap.size W (W.alloc (.cells us.toArray 33)) := (Below.refl _ _).alloc (Nat.le_refl _) _
  have hkp : KeepO q n m W (W.alloc (.cells us.toArray 33)) := KeepO.new hbel
  have hJ1 : J pre (W.alloc (.cells us.toArray 33)) := hJa pre W _ none hJ (World.grownBy_alloc W _ none) (fun r e => by cases e)
  have hd1 := hkp.into hq h
  have hbx : Boxd (W.alloc (.cells us.toArray 33)) W.heap.size us := Boxd.new W us.toArray 33
  have has1 : Aside q m (W.alloc (.cells us.toArray 33)) W.heap.size := aside_new hbel hq hm (Nat.le_refl _) (by simp)
  have hR := hY (d - 1) pre (.mk k s t ts xs o, us) _ ⟨hwt, hd1⟩ hJ1 (by have h1 : (Ex.list (.mk k s t ts xs o)).length = (Ex.listL xs).length + 1 := (by rw [Ex.list, List.length_cons]); omega)
  obtain ⟨fn, tmps, assign, body, hy, hR⟩ := hR
  have HD1 := Lib.hid hd1
  have hq1 := (hkp.2 hq).1
  obtain ⟨A, q0, a, B, l0, b, C, r, c, rfl, hs, ht, ha, hb, hc⟩ := ex_open hd1
  have hlist : Ex.list (.mk k s t ts xs o) = .mk k s t ts xs o :: Ex.listL xs := by rw [Ex.list]
  simp only [Ex.kind, Ex.name, Ex.ty, Ex.targs, Ex.kids, Ex.off] at hs ht ha hb hc h hd1 hy hR hbx hkp hq1 has1 ⊢
  rw [hlist] at hN ⊢
  simp only [List.length_cons] at hN
  have hdd : ∀ k : Nat, (Fence.wide.depth.isSome = true → 1 ≤ k) := fun k h => by cases h
  simp only [Elt.enc] at hy hR
  have hkm : (r : Int) ≤ 9223372036854775807 := by have := hc.le; omega
  have hxl := hc.len
  rw [Ex.dats_len] at hxl
  have HR := Lib.hid hR
  have HB := Lib.hid hbx
  have HK := Lib.hid hkp
  have HC := Lib.hid hc
  have HM := Lib.hid hm
  have HN := Lib.hid hN
  have HQ1 := Lib.hid hq1
  have HA1 := Lib.hid has1
  have IH := Lib.hid ih
  obtain ⟨y0, y1, y2, y3, y4, y5, y6, y7⟩ := hbx.c8
  clear hR hkp ih h hwt hc ha hb hJ hJ1 hN hbx hlist hd1 HD1 hq1 has1 hbel
  generalize hW1 : W.alloc (.cells #[.int .i64 k, .string s, .string t.name, .slice A q0 a, .int .i64 t.off, .slice B l0 b, .slice C r c, .int .i64 o] 33) = W1 at HR HB HK HC HQ1 HA1
  have HW1 := Lib.hid hW1
  clear hW1
  refine callsIn_of_wp Tryz.func153 rfl trivial ?_ rfl
  simp only [Tryz.ntmps153, List.size_toArray, List.length_cons, List.length_nil, Nat.reduceAdd, Nat.reduceSub, Array.replicate_succ, Array.replicate_zero, List.push_toArray, List.append_toArray, List.nil_append, List.cons_append]
  gi_wp2_with (((try refine ⟨hdd _, ?_⟩); rw [HW1.out]; refine HR.out.mono ?_; clear HR HW1 y0 y1 y2 y3 y4 y5 y6 y7; rintro e W2 (⟨rfl, hJ2, hk2⟩ | ⟨rfl, hx2⟩); obtain ⟨y0, y1, y2, y3, y4, y5, y6, y7⟩ := (hk2.boxd HQ1.out HA1.out HB.out).c8; have HK2 := Lib.hid hk2; have HJ2 := Lib.hid hJ2; clear hk2 hJ2))
  · gi_loopw [14] (fun i wr => ∃ j : Nat, j ≤ r ∧ i = .int .i64 j ∧ (∃ ys : List Elt, ys.map Prod.fst = .mk k s t ts xs o :: Ex.listL (xs.take j) ∧ J (pre ++ ys) wr) ∧ KeepO q n m W1 wr) (fun i _ => r - (intOf i).toNat)
    case atStart => exact ⟨0, by omega, rfl, ⟨[(.mk k s t ts xs o, _)], by simp [Ex.listL], HJ2.out⟩, HK2.out⟩
    case round =>
      obtain ⟨j, hj, rfl, ⟨ys, hys, hjj⟩, hkk⟩ := hrel
      have HKK := Lib.hid hkk
      have HQ := Lib.hid hys
      by_cases hlt : j < r
      · have z0 : (j : Int) < r := by omega
        have z1 : (0 : Int) ≤ j := by omega
        obtain ⟨p, u, ps, rfl, hx, hpn, _, hu, hcs⟩ := kid_at (HC.out.last (hkk.lasts HQ1.out)) hlt
        have hqr := (hkk.2 HQ1.out).1
        have hba : Below wr.heap.size wr (wr.alloc (.cells ps.toArray 33)) := (Below.refl _ _).alloc (Nat.le_refl _) _
        have hka : KeepO q n m wr (wr.alloc (.cells ps.toArray 33)) := KeepO.new hba
        have hst := Ex.listL_step hx
        have hle := Ex.listL_take xs (j + 1)
        rw [hst, List.length_append] at hle
        have hql : ys.length = 1 + (Ex.listL (xs.take j)).length := by have := congrArg List.length hys; simp at this; omega
        have C1 := Lib.hid (IH.out u (List.mem_of_getElem? hx) ps (HWT.out u (List.mem_of_getElem? hx)) (d - 1) (pre ++ ys) (wr.alloc (.cells ps.toArray 33))
          (hka.2 hqr).1 (Nat.le_trans HM.out (Nat.le_trans HK.out.1 (Nat.le_trans hkk.1 hka.1))) (hka.into hqr (hu.wide fun b hb => hkk.aside HQ1.out hb)) (hJa _ _ _ none hjj (World.grownBy_alloc wr _ none) (fun r e => by cases e)) (by have := HN.out; rw [List.length_append]; omega))
        have HX := Lib.hid (Boxd.new wr ps.toArray 33)
        obtain ⟨A2, m2, a2, B2, l2, b2, C2, n2, c2, rfl, _⟩ := ex_open hu
        obtain ⟨f0, f1, f2, f3, f4, f5, f6, f7⟩ := cells8_at hcs
        obtain ⟨g0, g1, g2, g3, g4, g5, g6, g7⟩ := HX.out.c8
        have HKA := Lib.hid (hkk.trans hka)
        have HST := Lib.hid hst
        have HXJ := Lib.hid hx
        clear hx hu hcs hjj hkk hka hst hle hj hys hql HX hpn hqr hba
        gi_wp2_with (refine ⟨trivial, hdd _, ?_⟩; refine C1.out.mono ?_; clear C1; rintro e W3 (⟨rfl, ⟨q3, hq3, hJ3⟩, hk3⟩ | ⟨rfl, q3, hq3, hx3⟩))
        · go_roundw
          case rel => exact ⟨j + 1, by omega, by go_num, ⟨ys ++ q3, by rw [List.map_append, HQ.out, hq3, HST.out]; rfl, by rw [← List.append_assoc]; exact hJ3⟩, HKA.out.trans hk3⟩
          case measure => simp [intOf]; omega
        · go_ret
          exact .inr ⟨rfl, ys ++ q3, by rw [List.map_append, HQ.out, List.cons_append]; exact List.cons_prefix_cons.2 ⟨rfl, xlistL_pre HXJ.out hq3⟩, by rw [← List.append_assoc]; exact hx3⟩
      · have z0 : (r : Int) ≤ j := by omega
        have hjk : xs.take j = xs := List.take_of_length_le (by omega)
        rw [hjk] at HQ
        have HJJ := Lib.hid hjj
        clear hjj hkk hys
        gi_wp2
        go_ret
        exact .inl ⟨rfl, ⟨ys, HQ.out, HJJ.out⟩, HK.out.trans HKK.out⟩
  · go_ret
    exact .inr ⟨rfl, [(.mk k s t ts xs o, _)], by rw [List.map_cons]; exact ⟨Ex.listL xs, rfl⟩, hx2⟩

/-- What All gives: a function over which a range takes the expression and its kids, in their order. -/
def AllSeq (w : World) (x : Ex) (e : Ending) (w' : World) : Prop := ∃ g lb, e = .returned (.func (.func g) #[] lb) ∧ Below w.heap.size w w' ∧
  (∀ args W, (callFunc g args).run Tryz.prog W = .ok (.enter g args) W) ∧
  ∀ (q : Option Nat) n w2, 1 ≤ n → Below w'.heap.size w' w2 → HasQ q w2 → SeqIf n g lb Elt.enc (Elt.At q w2.heap.size) (KeepO q w'.heap.size w2.heap.size) (fun ys => ys.map Prod.fst = x.list) (fun ys => ys.map Prod.fst <+: x.list) x.list.length w2
theorem AllSeq.fn {w : World} {x : Ex} {e : Ending} {w' : World} (h : AllSeq w x e w') : FnPost w e w' := let ⟨_, _, h1, h2, _⟩ := h; ⟨_, _, _, h1, h2⟩

set_option maxRecDepth 100000 in
set_option maxHeartbeats 4000000 in
theorem all1_el (q : Option Nat) (l n m d Bt : Nat) (e : Ex) (us : List Value) (hwt : e.wt ≤ 100000) (J Jx : List Elt → World → Prop) (W : World) (hq : HasQ q W) (hm : m ≤ W.heap.size) (h : e.dat.H W us) (hJa : AbidesFrom W.heap.size J) (hJb : ∀ s A B, J s A → Below A.heap.size A B → J s B)
    (hY : ∀ pre x V, Elt.At q m x V → J pre V → pre.length < e.list.length → YieldAt Fence.wide (d - 1) Tryz.prog l (Elt.enc x) V fun e W' =>
      (e = .returned (.bool true) ∧ J (pre ++ [x]) W' ∧ KeepO q n m V W') ∨ (e = .returned (.bool false) ∧ Jx (pre ++ [x]) W'))
    (hB : Boxd W Bt us) (h0 : J [] W) :
    CallsIn Fence.wide d Tryz.prog 169 #[.func (.yield l) #[] #[], .pointer (some ⟨Bt, 0, none⟩)] W fun e' W' => (∃ v, e' = .returned v) ∧ ((∃ ys : List Elt, ys.map Prod.fst = e.list ∧ J ys W') ∨ (∃ pre : List Elt, pre.map Prod.fst <+: e.list ∧ Jx pre W')) := by
  have hdd : ∀ k : Nat, (Fence.wide.depth.isSome = true → 1 ≤ k) := fun k h => by cases h
  have C0 := Lib.hid (xclone_any e us W hwt h)
  have V0 := Lib.hid (visit_el q l n m e.list.length W.heap.size J Jx hJa (fun e pre x V ha hj hl => YieldAt.anyDepth rfl e (hY pre x V ha hj hl)) e)
  have HJ := Lib.hid (fun (V : World) (hb : Below W.heap.size W V) => hJb [] W V h0 hb)
  have HQ := Lib.hid (And.intro hq hm)
  have HWT := Lib.hid hwt
  obtain ⟨A, q0, a, B, l0, b, C', r, c, rfl, _⟩ := ex_open h
  obtain ⟨y0, y1, y2, y3, y4, y5, y6, y7⟩ := hB.c8
  clear hY hJa hJb h h0 hB hq hm hwt
  refine callsIn_of_wp Tryz.func169 rfl trivial ?_ rfl
  simp only [Tryz.ntmps169, List.size_toArray, List.length_cons, List.length_nil, Nat.reduceAdd, Nat.reduceSub, Array.replicate_succ, Array.replicate_zero, List.push_toArray, List.append_toArray, List.nil_append, List.cons_append]
  gi_wp2_with (refine ⟨trivial, hdd _, ?_⟩; first
    | (refine (callsIn_wide.2 C0.out).mono ?_; clear C0; rintro e1 W1 ⟨vs, rfl, hv, hb1⟩
       have hq1 := ((KeepO.new (n := n) (m := m) hb1).2 HQ.out.1).1
       have C1 := Lib.hid (V0.out vs HWT.out (d - 1) [] W1 hq1 (Nat.le_trans HQ.out.2 hb1.size) (hv.wide fun b hb => aside_new hb1 HQ.out.1 HQ.out.2 hb.1 hb.2) (HJ.out W1 hb1) (by simp))
       obtain ⟨_, _, _, _, _, _, _, _, _, rfl, _⟩ := ex_open hv
       clear hv hb1 hq1 y0 y1 y2 y3 y4 y5 y6 y7 V0)
    | (refine C1.out.mono ?_; clear C1; rintro e2 W3 (⟨rfl, ⟨q3, hq3, hJ3⟩, hk3⟩ | ⟨rfl, q3, hq3, hx3⟩)))
  · go_end0
    exact ⟨⟨_, rfl⟩, .inl ⟨q3, hq3, by simpa using hJ3⟩⟩
  · go_end0
    exact ⟨⟨_, rfl⟩, .inr ⟨q3, hq3, by simpa using hx3⟩⟩

set_option maxRecDepth 100000 in
set_option maxHeartbeats 4000000 in
theorem xall_any (e : Ex) (us : List Value) (w : World) (hwt : e.wt ≤ 100000) (h : e.dat.H w us) : Calls Tryz.prog 126 #[.agg us.toArray] w (AllSeq w e) := by
  have HX := Lib.hid (OneX.new h 33)
  have C := Lib.hid (xclone_any e us _ hwt HX.out.da)
  have HWT := Lib.hid hwt
  obtain ⟨A, m, a, B, l, b, C', r, c, rfl, _⟩ := ex_open h
  obtain ⟨x0, x1, x2, x3, x4, x5, x6, x7⟩ := HX.out.one.c8
  clear h hwt
  go_enter Tryz.func126, Tryz.ntmps126
  go_wp2_with fail
  refine C.out.mono ?_
  rintro e1 w1 ⟨vs, rfl, hv, hb1⟩
  have hba : Below w1.heap.size w1 (w1.alloc (.cells vs.toArray 33)) := (Below.refl _ _).alloc (Nat.le_refl _) _
  have HB1 := Lib.hid ((HX.out.bel.trans (hb1.mono HX.out.bel.size)).trans (hba.mono (by have := HX.out.bel.size; have := hb1.size; omega)))
  have HV := Lib.hid (Dat.In.later (hv.wide (S' := (· < w1.heap.size)) fun b hb => hb.2) hba (fun _ h => h))
  have HBX := Lib.hid (Boxd.new w1 vs.toArray 33)
  have HSZ := Lib.hid (show w1.heap.size < (w1.alloc (.cells vs.toArray 33)).heap.size by simp)
  obtain ⟨_, _, _, _, _, _, _, _, _, rfl, _⟩ := ex_open hv
  clear hb1 hba x0 x1 x2 x3 x4 x5 x6 x7 C HX hv
  go_wp2_with fail
  go_ret
  generalize hW' : w1.alloc (.cells _ 33) = w' at *
  refine ⟨_, _, rfl, HB1.out, enters_of Tryz.func169 (by kernel_rfl) rfl, fun q n w2 _ hb2 hq l J Jx W hWb hJ _ hJb hY h0 => ?_⟩
  have hbw : Below w'.heap.size w' W := hb2.trans (hWb.mono hb2.size)
  exact all1_el q l w'.heap.size w2.heap.size n w1.heap.size e _ HWT.out J Jx W ((KeepO.new (n := 0) (m := 0) hWb).2 hq).1 hWb.size (Dat.In.wide (Dat.In.later HV.out (hbw.mono (Nat.le_of_lt HSZ.out)) (fun _ h => h)) fun b hb => Nat.lt_of_lt_of_le hb (Nat.le_trans (Nat.le_of_lt HSZ.out) hbw.size)) hJ hJb hY (HBX.out.later hbw) h0
end Go.Proofs.YtaeljknfbanbfaaGreatDoor
