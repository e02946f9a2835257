/- The walk of the law ExprShares: true, at every input. The condition: the table of words. -/
import Derived.Test.YtnfakhohoibkpaaDoorEkRp
import Derived.Test.YtnfakhohoibkpaaDoorEkT
namespace Go.Proofs.YtnfakhohoibkpaaDoor
open Go.RowKit

/-- A boxed expression. -/
structure LX (W : World) (b : Nat) (e : Ex) (us : List Value) : Prop where
  box : Boxd W b us
  dat : e.dat.H W us
theorem LX.later {W W' : World} {b : Nat} {e : Ex} {us : List Value} (h : LX W b e us) (hb : Below W.heap.size W W') : LX W' b e us := ⟨h.box.later hb, Dat.H.later h.dat hb⟩
/-- A boxed expression that may be written, its blocks from n1 on. -/
structure OwnX (W : World) (n1 b : Nat) (e : Ex) (us : List Value) : Prop where
  row : W.heap[b]? = some (.cells us.toArray 27 (0, 0))
  neat : e.dat.In W True (fun k => n1 ≤ k ∧ k < W.heap.size) us
  ge : n1 ≤ b
theorem OwnX.lt {W : World} {n1 b : Nat} {e : Ex} {us : List Value} (h : OwnX W n1 b e us) : b < W.heap.size := (Array.getElem?_eq_some_iff.1 h.row).1
theorem OwnX.boxd {W : World} {n1 b : Nat} {e : Ex} {us : List Value} (h : OwnX W n1 b e us) : Boxd W b us := fun j u hu => by
  rw [cell_of_row _ _ j _ _ (0, 0) h.row]
  simpa using hu
theorem OwnX.later {W W' : World} {n1 b : Nat} {e : Ex} {us : List Value} (h : OwnX W n1 b e us) (hb : Below W.heap.size W W') : OwnX W' n1 b e us :=
  ⟨(hb.block _ h.lt).trans h.row, (h.neat.later hb (fun _ h => h.2)).wide (fun _ h => ⟨h.1, Nat.lt_of_lt_of_le h.2 hb.size⟩), h.ge⟩
theorem OwnX.new {V0 V1 : World} {n1 : Nat} {e : Ex} {us : List Value} (hl : e.dat.In V1 True (Fresh V0 V1) us) (hn : n1 ≤ V0.heap.size) (hs : V0.heap.size ≤ V1.heap.size) : OwnX (V1.alloc (.cells us.toArray 27)) n1 V1.heap.size e us := by
  have hb : Below V1.heap.size V1 (V1.alloc (.cells us.toArray 27)) := (Below.refl _ _).alloc (Nat.le_refl _) _
  refine ⟨heap_alloc_new _ _, (hl.later hb (fun _ h => h.2)).wide fun k h => ?_, Nat.le_trans hn hs⟩
  have h1 : V0.heap.size ≤ k := h.1
  have h2 : k < V1.heap.size := h.2
  exact ⟨by omega, by simp; omega⟩
theorem OwnX.lx {W : World} {n1 b : Nat} {e : Ex} {us : List Value} (h : OwnX W n1 b e us) : LX W b e us := ⟨h.boxd, h.neat.plain.wide fun _ h => h.2⟩
theorem OwnX.shape {W : World} {n1 b K : Nat} {e : Ex} {us : List Value} (h : OwnX W n1 b e us) (hK : ∀ x ∈ e.list, x.name.size ≤ K) : ShpX W (fun k => n1 ≤ k ∧ k < W.heap.size) K (some ⟨b, 0, none⟩) 0 e :=
  shpX_of (fun _ h => h) e b 0 us h.neat (fun j u hu => by rw [show 0 * 8 + j = j by omega]; exact h.boxd j u hu) ⟨h.ge, h.lt⟩ (fun k => frozen_of_row h.row k) hK
/-- The shapes of both that are to be changed. -/
structure ShapesX (W : World) (n1 n3 : Nat) (b d : Nat) (e v : Ex) : Prop where
  one : ShpX W (fun k => n1 ≤ k ∧ k < n3) 100000 (some ⟨b, 0, none⟩) 0 e
  two : ShpX W (fun k => n1 ≤ k ∧ k < n3) 100000 (some ⟨d, 0, none⟩) 0 v
  le : n3 ≤ W.heap.size
theorem ShapesX.later {W W' : World} {n1 n3 b d : Nat} {e v : Ex} (h : ShapesX W n1 n3 b d e v) (hb : Below W.heap.size W W') : ShapesX W' n1 n3 b d e v := by
  have hs : Kept W W' (fun k => n1 ≤ k ∧ k < n3) := fun p hp => ⟨hb.cell (Nat.lt_of_lt_of_le hp.2 h.le), hb.frozen (Nat.lt_of_lt_of_le hp.2 h.le)⟩
  exact ⟨h.one.keep hs, h.two.keep hs, Nat.le_trans h.le hb.size⟩
/-- A boxed expression far from the blocks n1 to n3. -/
structure DisX (W : World) (n1 n3 b : Nat) (e : Ex) (us : List Value) : Prop where
  box : Boxd W b us
  dat : e.dat.In W False (fun k => (k < n1 ∨ n3 ≤ k) ∧ k < W.heap.size) us
  far : b < n1 ∨ n3 ≤ b
theorem DisX.later {W W' : World} {n1 n3 b : Nat} {e : Ex} {us : List Value} (h : DisX W n1 n3 b e us) (hb : Below W.heap.size W W') : DisX W' n1 n3 b e us :=
  ⟨h.box.later hb, (h.dat.later hb (fun _ h => h.2)).wide (fun _ h => ⟨h.1, Nat.lt_of_lt_of_le h.2 hb.size⟩), h.far⟩
theorem DisX.chg {W W' : World} {n1 n3 b k : Nat} {e : Ex} {us : List Value} (h : DisX W n1 n3 b e us) (hc : ChgX (fun k => n1 ≤ k ∧ k < n3) k W W') : DisX W' n1 n3 b e us := by
  have hs := hc.kept (T := fun k => k < n1 ∨ n3 ≤ k) (fun b hb h => by omega)
  exact ⟨fun j u hu => (hs ⟨b, j, none⟩ h.far).1.trans (h.box j u hu), Dat.In.keep id (fun p hp => hs p hp.1) (fun _ h => ⟨h.1, by rw [hc.size]; exact h.2⟩) _ _ h.dat, h.far⟩
theorem DisX.lx {W : World} {n1 n3 b : Nat} {e : Ex} {us : List Value} (h : DisX W n1 n3 b e us) : LX W b e us := ⟨h.box, h.dat.wide fun _ h => h.2⟩
theorem DisX.new {V0 V1 : World} {n1 n3 : Nat} {e : Ex} {us : List Value} (hl : e.dat.In V1 False (Fresh V0 V1) us) (hn : n3 ≤ V0.heap.size) (hs : V0.heap.size ≤ V1.heap.size) : DisX (V1.alloc (.cells us.toArray 27)) n1 n3 V1.heap.size e us := by
  have hb : Below V1.heap.size V1 (V1.alloc (.cells us.toArray 27)) := (Below.refl _ _).alloc (Nat.le_refl _) _
  refine ⟨Boxd.new V1 us.toArray 27, (hl.later hb (fun _ h => h.2)).wide fun k h => ?_, .inr (Nat.le_trans hn hs)⟩
  have h1 : V0.heap.size ≤ k := h.1
  have h2 : k < V1.heap.size := h.2
  exact ⟨.inr (by omega), by simp; omega⟩
theorem wt_list : ∀ e x : Ex, x ∈ e.list → x.wt ≤ e.wt := by
  refine Ex.ind fun k s t ts xs o ih x hx => ?_
  have hL : ∀ ys : List Ex, (∀ y ∈ ys, y ∈ xs) → x ∈ Ex.listL ys → x.wt ≤ Ex.wtL ys := by
    intro ys
    induction ys with
    | nil => intro _ h; simp [Ex.listL] at h
    | cons y r ih2 =>
      intro hy h
      rw [Ex.listL] at h
      rw [Ex.wtL]
      rcases List.mem_append.1 h with h | h
      · have := ih y (hy y (by simp)) x h; omega
      · have := ih2 (fun z hz => hy z (by simp [hz])) h; omega
  rw [Ex.list] at hx
  rcases List.mem_cons.1 hx with rfl | hx
  · exact Nat.le_refl _
  · have := hL xs (fun _ h => h) hx
    simp only [Ex.wt]
    omega
theorem names_small {e : Ex} (h : e.wt ≤ 250) : ∀ x ∈ e.list, x.name.size ≤ 100000 := fun x hx => by
  have h1 := wt_list e x hx
  cases x with
  | mk k s t ts xs o =>
    simp only [Ex.wt] at h1
    simp only [Ex.name]
    omega
theorem list_wtS : ∀ e : Ex, e.list.length ≤ e.wt := by
  refine Ex.ind fun k s t ts xs o ih => ?_
  have hL : ∀ ys : List Ex, (∀ y ∈ ys, y ∈ xs) → (Ex.listL ys).length ≤ Ex.wtL ys := by
    intro ys
    induction ys with
    | nil => intro _; simp [Ex.listL]
    | cons y r ih2 =>
      intro hy
      have h1 := ih y (hy y (by simp))
      have h2 := ih2 fun z hz => hy z (by simp [hz])
      simp only [Ex.listL, Ex.wtL, List.length_append]; omega
  have h1 := hL xs fun _ h => h
  have h3 : 1 ≤ Ty.wt t := by cases t; simp only [Ty.wt]; omega
  simp only [Ex.list, Ex.wt, List.length_cons]; omega
theorem fits_xy : Fits [⟨#[120]⟩, ⟨#[121]⟩] 2 2 := ⟨Nat.le_refl _, fun s hs => by
  simp only [List.mem_cons, List.not_mem_nil, or_false] at hs
  rcases hs with rfl | rfl <;> (show 1 ≤ _; omega)⟩
theorem alloc_bel (W : World) (o : Obj) : Below W.heap.size W (W.alloc o) := (Below.refl _ _).alloc (Nat.le_refl _) _
theorem two_bel (W : World) (o o2 : Obj) : Below W.heap.size W ((W.alloc o).alloc o2) := ((Below.refl _ _).alloc (Nat.le_refl _) _).alloc (by simp) _
/-- Two names, and twice an expression, each pair in a new block. -/
theorem put_two (W : World) (v : Ex) (us : List Value) (h : v.dat.H W us) :
    Sl ((W.alloc (.cells #[.string ⟨#[120]⟩, .string ⟨#[121]⟩] 9)).alloc (.cells (us ++ us).toArray 27)) (some ⟨W.heap.size, 0, none⟩) 2 [⟨#[120]⟩, ⟨#[121]⟩]
      ∧ RowH ((W.alloc (.cells #[.string ⟨#[120]⟩, .string ⟨#[121]⟩] 9)).alloc (.cells (us ++ us).toArray 27)) 8 (some ⟨W.heap.size + 1, 0, none⟩) 2 (Ex.dats [v, v]) := by
  have hb := two_bel W (.cells #[.string ⟨#[120]⟩, .string ⟨#[121]⟩] 9) (.cells (us ++ us).toArray 27)
  have hz : ((W.alloc (.cells #[.string ⟨#[120]⟩, .string ⟨#[121]⟩] 9)).alloc (.cells (us ++ us).toArray 27)).heap.size = W.heap.size + 2 := by simp
  have h2 := Dat.H.later h hb
  refine ⟨⟨rfl, fun j p hj => ⟨_, rfl, by show W.heap.size < _; omega, ?_⟩⟩, ?_⟩
  · rw [add_zero_addr, cell_of_row _ _ j _ _ (0, 0) (heap_old (heap_alloc_new W (.cells #[.string ⟨#[120]⟩, .string ⟨#[121]⟩] 9)))]
    match j, hj with
    | 0, hj => simpa using hj
    | 1, hj => simpa using hj
    | j + 2, hj => simp at hj
  · refine row_of_block (ds := Ex.dats [v, v]) (heap_new_at (by simp)) (by show W.heap.size + 1 < _; omega) ?_ ?_ (by simp [Ex.dats])
    · show Dat.Ins _ _ _ [v.dat, v.dat] _
      rw [Dat.Ins]
      refine ⟨us, us, by simp, h2, ?_⟩
      rw [Dat.Ins]
      exact ⟨us, [], by simp, h2, by rw [Dat.Ins]⟩
    · intro x hx
      rw [Ex.dats_map, List.mem_map] at hx
      obtain ⟨y, _, rfl⟩ := hx
      exact Ex.dat_size y

set_option maxRecDepth 100000 in
set_option maxHeartbeats 16000000 in
theorem xshares_any (a v : Ex) (us vs : List Value) (w : World) (h1 : a.dat.H w us) (h2 : v.dat.H w vs) (hE : ResVar w) :
    Calls Tryd.prog 7 #[.agg us.toArray, .agg vs.toArray] w fun e w' => e = .returned (.bool true) ∧ Below w.heap.size w w' := by
  have hx := Boxd.pair w us.toArray vs.toArray 27
  have B0 := Lib.hid hx.1
  have A0 := Lib.hid (LX.mk hx.2.1 (Dat.H.later h1 hx.1))
  have Z0 := Lib.hid (LX.mk hx.2.2 (Dat.H.later h2 hx.1))
  have E0 := Lib.hid (hE.later hx.1)
  obtain ⟨fa, hfa⟩ : ∃ x, a.few = x := ⟨_, rfl⟩
  obtain ⟨fv, hfv⟩ : ∃ x, v.few = x := ⟨_, rfl⟩
  have FA := Lib.hid hfa
  have FV := Lib.hid hfv
  obtain ⟨pA, pm, pa, pB, pl, pb, pC, pn, pc, rfl, _⟩ := ex_open h1
  obtain ⟨qA, qm, qa, qB, ql, qb, qC, qn, qc, rfl, _⟩ := ex_open h2
  clear hx h1 h2 hE hfa hfv
  go_enter Tryd.func7, Tryd.ntmps7
  go_wp2_with fail
  generalize hW : (w.alloc (.cells #[.int .i64 a.kind, .string a.name, .string a.ty.name, .slice pA pm pa, .int .i64 a.ty.off, .slice pB pl pb, .slice pC pn pc, .int .i64 a.off] 27)).alloc (.cells #[.int .i64 v.kind, .string v.name, .string v.ty.name, .slice qA qm qa, .int .i64 v.ty.off, .slice qB ql qb, .slice qC qn qc, .int .i64 v.off] 27) = W0 at *
  clear hW
  refine (xawake_any _ E0.out).mono ?_
  rintro e w1 ⟨rfl, hb⟩
  have B1 := Lib.hid (B0.out.trans (hb.mono B0.out.size))
  have A1 := Lib.hid (A0.out.later hb)
  have Z1 := Lib.hid (Z0.out.later hb)
  have E1 := Lib.hid (E0.out.later hb)
  clear hb B0 A0 Z0 E0
  obtain ⟨x0, x1, x2, x3, x4, x5, x6, x7⟩ := A1.out.box.c8
  go_wp2_with fail
  refine (xfew_any a _ _ A1.out.dat).mono ?_
  rintro e w2 ⟨rfl, hb⟩
  rw [FA.out]
  clear x0 x1 x2 x3 x4 x5 x6 x7
  have B2 := Lib.hid (B1.out.trans (hb.mono B1.out.size))
  have A2 := Lib.hid (A1.out.later hb)
  have Z2 := Lib.hid (Z1.out.later hb)
  have E2 := Lib.hid (E1.out.later hb)
  clear hb B1 A1 Z1 E1
  cases fa
  · skip
    go_wp2_with fail
    refine (xawake_any _ E2.out).mono ?_
    rintro e w9 ⟨rfl, hb⟩
    have HB9 := Lib.hid (B2.out.trans (hb.mono B2.out.size))
    clear hb
    go_wp2_with fail
    go_ret
    exact ⟨rfl, HB9.out⟩
  obtain ⟨x0, x1, x2, x3, x4, x5, x6, x7⟩ := Z2.out.box.c8
  go_wp2_with fail
  refine (xfew_any v _ _ Z2.out.dat).mono ?_
  rintro e Y ⟨rfl, hb⟩
  rw [FV.out]
  clear x0 x1 x2 x3 x4 x5 x6 x7
  have B3 := Lib.hid (B2.out.trans (hb.mono B2.out.size))
  have A3 := Lib.hid (A2.out.later hb)
  have Z3 := Lib.hid (Z2.out.later hb)
  have E3 := Lib.hid (E2.out.later hb)
  clear hb B2 A2 Z2 E2
  cases fv
  · skip
    go_wp2_with fail
    refine (xawake_any _ E3.out).mono ?_
    rintro e w9 ⟨rfl, hb⟩
    have HB9 := Lib.hid (B3.out.trans (hb.mono B3.out.size))
    clear hb
    go_wp2_with fail
    go_ret
    exact ⟨rfl, HB9.out⟩
  have WA := Lib.hid (xfew_wt2 FA.out)
  have WV := Lib.hid (xfew_wt2 FV.out)
  have KA := Lib.hid (names_small WA.out)
  have KV := Lib.hid (names_small WV.out)
  have HSB := Lib.hid (show w.heap.size + 2 ≤ Y.heap.size by have h1 := Z3.out.box 0 _ rfl; have h2 := cell_lt h1; simp only at h2; omega)
  have HY := Lib.hid (Below.refl Y.heap.size Y)
  have HAY := Lib.hid A3.out.dat
  clear E3 FA FV
  have T3 := Lib.hid (Below.refl Y.heap.size Y)
  clear HY
  obtain ⟨x0, x1, x2, x3, x4, x5, x6, x7⟩ := A3.out.box.c8
  go_wp2_with fail
  refine ((by have h := xref_subst_any [] [] none none 0 0 0 0 (fun _ h => by cases h) (Nat.zero_le _) a _ Y (Nat.le_trans WA.out (by omega)) A3.out.dat (sl_none Y) (Lies.nil _ _ _); rw [Ex.subst_none] at h; exact h : Calls Tryd.prog 23 #[.agg #[.int .i64 a.kind, .string a.name, .string a.ty.name, .slice pA pm pa, .int .i64 a.ty.off, .slice pB pl pb, .slice pC pn pc, .int .i64 a.off], .slice none 0 0, .slice none 0 0] Y (XNeat Y a))).mono ?_
  rintro e V1 ⟨ou, rfl, hlo, hb0⟩
  have hso := hb0.size
  have hb : Below _ _ _ := hb0.trans ((alloc_bel V1 (.cells ou.toArray 27)).mono hb0.size)
  clear hb0 x0 x1 x2 x3 x4 x5 x6 x7
  have hF := OwnX.new (n1 := Y.heap.size) hlo (Nat.le_refl _) hso
  have B4 := Lib.hid (B3.out.trans (hb.mono B3.out.size))
  have A4 := Lib.hid (A3.out.later hb)
  have Z4 := Lib.hid (Z3.out.later hb)
  have T4 := Lib.hid (T3.out.trans (hb.mono T3.out.size))
  clear hb B3 A3 Z3 T3
  obtain ⟨oA, om, oa, oB, ol, ob, oC, on, oc, rfl, _⟩ := ex_open hlo
  have F4 := Lib.hid hF
  clear hF hlo hso
  have hz1 := T4.out.size
  obtain ⟨x0, x1, x2, x3, x4, x5, x6, x7⟩ := Z4.out.box.c8
  go_wp2_with fail
  generalize hX1 : V1.alloc (.cells #[.int .i64 a.kind, .string a.name, .string a.ty.name, .slice oA om oa, .int .i64 a.ty.off, .slice oB ol ob, .slice oC on oc, .int .i64 a.off] 27) = X1 at *
  have HX1 := Lib.hid hX1
  clear hX1
  refine (by have h := xref_subst_any [] [] none none 0 0 0 0 (fun _ h => by cases h) (Nat.zero_le _) v _ X1 (Nat.le_trans WV.out (by omega)) Z4.out.dat (sl_none X1) (Lies.nil _ _ _); rw [Ex.subst_none] at h; exact h : Calls Tryd.prog 23 #[.agg #[.int .i64 v.kind, .string v.name, .string v.ty.name, .slice qA qm qa, .int .i64 v.ty.off, .slice qB ql qb, .slice qC qn qc, .int .i64 v.off], .slice none 0 0, .slice none 0 0] X1 (XNeat X1 v)).mono ?_
  rintro e V2 ⟨vu, rfl, hlv, hb0⟩
  have hsv := hb0.size
  have hb : Below _ _ _ := hb0.trans ((alloc_bel V2 (.cells vu.toArray 27)).mono hb0.size)
  clear hb0 x0 x1 x2 x3 x4 x5 x6 x7
  have hG := OwnX.new (n1 := Y.heap.size) hlv hz1 hsv
  have B5 := Lib.hid (B4.out.trans (hb.mono B4.out.size))
  have A5 := Lib.hid (A4.out.later hb)
  have Z5 := Lib.hid (Z4.out.later hb)
  have T5 := Lib.hid (T4.out.trans (hb.mono T4.out.size))
  have F5 := Lib.hid (F4.out.later hb)
  clear hb B4 A4 Z4 T4 F4
  obtain ⟨vA, vm, va, vB, vl, vb, vC, vn, vc, rfl, _⟩ := ex_open hlv
  have G5 := Lib.hid hG
  clear hG hlv hsv hz1
  obtain ⟨x0, x1, x2, x3, x4, x5, x6, x7⟩ := F5.out.boxd.c8
  go_wp2_with fail
  generalize hX2 : V2.alloc (.cells #[.int .i64 v.kind, .string v.name, .string v.ty.name, .slice vA vm va, .int .i64 v.ty.off, .slice vB vl vb, .slice vC vn vc, .int .i64 v.off] 27) = X2 at *
  have HX2 := Lib.hid hX2
  clear hX2
  have P5 := Lib.hid (ShapesX.mk (F5.out.shape KA.out) (G5.out.shape KV.out) (Nat.le_refl _))
  have D5 := Lib.hid (DisX.mk (n1 := Y.heap.size) (n3 := X2.heap.size) A5.out.box ((Dat.In.later HAY.out T5.out (fun _ h => h)).wide fun k hk => ⟨.inl hk, Nat.lt_of_lt_of_le hk T5.out.size⟩) (.inl (by have := HSB.out; omega)))
  have O5 := Lib.hid F5.out.lx
  have Q5 := Lib.hid G5.out.lx
  clear F5 G5
  refine (show Calls Tryd.prog 24 #[.agg #[.int .i64 a.kind, .string a.name, .string a.ty.name, .slice oA om oa, .int .i64 a.ty.off, .slice oB ol ob, .slice oC on oc, .int .i64 a.off]] X2 (XPost X2 a) from xclone_any a _ X2 (Nat.le_trans WA.out (by omega)) O5.out.dat).mono ?_
  rintro e V3 ⟨cu, rfl, hlc, hb0⟩
  have hsc := hb0.size
  have hb : Below _ _ _ := hb0.trans ((alloc_bel V3 (.cells cu.toArray 27)).mono hb0.size)
  clear hb0 x0 x1 x2 x3 x4 x5 x6 x7
  have hD := DisX.new (n1 := Y.heap.size) (n3 := X2.heap.size) hlc (Nat.le_refl _) hsc
  have B6 := Lib.hid (B5.out.trans (hb.mono B5.out.size))
  have A6 := Lib.hid (A5.out.later hb)
  have Z6 := Lib.hid (Z5.out.later hb)
  have T6 := Lib.hid (T5.out.trans (hb.mono T5.out.size))
  have P6 := Lib.hid (P5.out.later hb)
  have D6 := Lib.hid (D5.out.later hb)
  have O6 := Lib.hid (O5.out.later hb)
  have Q6 := Lib.hid (Q5.out.later hb)
  clear hb B5 A5 Z5 T5 P5 D5 O5 Q5
  obtain ⟨cA, cm, ca, cB, cl, cb, cC, cn, cc, rfl, _⟩ := ex_open hlc
  have C6 := Lib.hid hD
  clear hD hlc hsc
  obtain ⟨x0, x1, x2, x3, x4, x5, x6, x7⟩ := O6.out.box.c8
  go_upto_region 6 with fail
  generalize hX3 : V3.alloc (.cells #[.int .i64 a.kind, .string a.name, .string a.ty.name, .slice cA cm ca, .int .i64 a.ty.off, .slice cB cl cb, .slice cC cn cc, .int .i64 a.off] 27) = X3 at *
  have HX3 := Lib.hid hX3
  clear hX3 x0 x1 x2 x3 x4 x5 x6 x7
  obtain ⟨x0, x1, x2, x3, x4, x5, x6, x7⟩ := O6.out.box.c8
  obtain ⟨y0, y1, y2, y3, y4, y5, y6, y7⟩ := (Q6.out.later (alloc_bel X3 (.cells #[.string ⟨#[120]⟩, .string ⟨#[121]⟩] 9))).box.c8
  have hput := put_two X3 v _ Q6.out.dat
  simp only [List.cons_append, List.nil_append] at hput
  have hbt := two_bel X3 (.cells #[.string ⟨#[120]⟩, .string ⟨#[121]⟩] 9) (.cells #[.int .i64 v.kind, .string v.name, .string v.ty.name, .slice vA vm va, .int .i64 v.ty.off, .slice vB vl vb, .slice vC vn vc, .int .i64 v.off, .int .i64 v.kind, .string v.name, .string v.ty.name, .slice vA vm va, .int .i64 v.ty.off, .slice vB vl vb, .slice vC vn vc, .int .i64 v.off] 27)
  have HDT := Lib.hid (Dat.H.later O6.out.dat hbt)
  have HPT := Lib.hid hput
  clear hput
  go_wp2_with fail
  refine (show Calls Tryd.prog 25 #[.agg #[.int .i64 a.kind, .string a.name, .string a.ty.name, .slice oA om oa, .int .i64 a.ty.off, .slice oB ol ob, .slice oC on oc, .int .i64 a.off], .slice (some ⟨X3.heap.size, 0, none⟩) 2 2, .slice (some ⟨X3.heap.size + 1, 0, none⟩) 2 2] ((X3.alloc (.cells #[.string ⟨#[120]⟩, .string ⟨#[121]⟩] 9)).alloc (.cells #[.int .i64 v.kind, .string v.name, .string v.ty.name, .slice vA vm va, .int .i64 v.ty.off, .slice vB vl vb, .slice vC vn vc, .int .i64 v.off, .int .i64 v.kind, .string v.name, .string v.ty.name, .slice vA vm va, .int .i64 v.ty.off, .slice vB vl vb, .slice vC vn vc, .int .i64 v.off] 27)) (XPost _ (Ex.repl [⟨#[120]⟩, ⟨#[121]⟩] [v, v] a)) from xreplace_any a _ [⟨#[120]⟩, ⟨#[121]⟩] [v, v] _ _ 2 2 2 2 _ (Nat.le_trans WA.out (by omega)) (fun x hx => by simp only [List.mem_cons, List.not_mem_nil, or_false, or_self] at hx; subst hx; have := WV.out; omega) (by omega) fits_xy HDT.out HPT.out.1 HPT.out.2).mono ?_
  rintro e V4 ⟨ru, rfl, hlr, hb0⟩
  have hsr := hb0.size
  have hb : Below _ _ _ := (hbt.trans (hb0.mono hbt.size)).trans ((alloc_bel V4 (.cells ru.toArray 27)).mono (Nat.le_trans hbt.size hb0.size))
  have hD := DisX.new (n1 := Y.heap.size) (n3 := X2.heap.size) hlr (Nat.le_trans P6.out.le hbt.size) hsr
  clear hb0 hbt HDT HPT x0 x1 x2 x3 x4 x5 x6 x7 y0 y1 y2 y3 y4 y5 y6 y7
  have B7 := Lib.hid (B6.out.trans (hb.mono B6.out.size))
  have A7 := Lib.hid (A6.out.later hb)
  have Z7 := Lib.hid (Z6.out.later hb)
  have T7 := Lib.hid (T6.out.trans (hb.mono T6.out.size))
  have P7 := Lib.hid (P6.out.later hb)
  have D7 := Lib.hid (D6.out.later hb)
  have O7 := Lib.hid (O6.out.later hb)
  have Q7 := Lib.hid (Q6.out.later hb)
  have C7 := Lib.hid (C6.out.later hb)
  clear hb B6 A6 Z6 T6 P6 D6 O6 Q6 C6
  obtain ⟨rA, rm, ra, rB, rl, rb, rC, rn, rc, rfl, _⟩ := ex_open hlr
  have R7 := Lib.hid hD
  clear hD hlr hsr
  go_upto_region 7 with fail
  generalize hX4 : V4.alloc (.cells #[.int .i64 (Ex.repl [⟨#[120]⟩, ⟨#[121]⟩] [v, v] a).kind, .string (Ex.repl [⟨#[120]⟩, ⟨#[121]⟩] [v, v] a).name, .string (Ex.repl [⟨#[120]⟩, ⟨#[121]⟩] [v, v] a).ty.name, .slice rA rm ra, .int .i64 (Ex.repl [⟨#[120]⟩, ⟨#[121]⟩] [v, v] a).ty.off, .slice rB rl rb, .slice rC rn rc, .int .i64 (Ex.repl [⟨#[120]⟩, ⟨#[121]⟩] [v, v] a).off] 27) = X4 at *
  have HX4 := Lib.hid hX4
  clear hX4
  obtain ⟨x0, x1, x2, x3, x4, x5, x6, x7⟩ := A7.out.box.c8
  obtain ⟨y0, y1, y2, y3, y4, y5, y6, y7⟩ := (Z7.out.later (alloc_bel X4 (.cells #[.string ⟨#[120]⟩, .string ⟨#[121]⟩] 9))).box.c8
  have hput := put_two X4 v _ Z7.out.dat
  simp only [List.cons_append, List.nil_append] at hput
  have hbt := two_bel X4 (.cells #[.string ⟨#[120]⟩, .string ⟨#[121]⟩] 9) (.cells #[.int .i64 v.kind, .string v.name, .string v.ty.name, .slice qA qm qa, .int .i64 v.ty.off, .slice qB ql qb, .slice qC qn qc, .int .i64 v.off, .int .i64 v.kind, .string v.name, .string v.ty.name, .slice qA qm qa, .int .i64 v.ty.off, .slice qB ql qb, .slice qC qn qc, .int .i64 v.off] 27)
  have HDT := Lib.hid (Dat.H.later A7.out.dat hbt)
  have HPT := Lib.hid hput
  clear hput
  go_wp2_with fail
  refine (show Calls Tryd.prog 26 #[.agg #[.int .i64 a.kind, .string a.name, .string a.ty.name, .slice pA pm pa, .int .i64 a.ty.off, .slice pB pl pb, .slice pC pn pc, .int .i64 a.off], .slice (some ⟨X4.heap.size, 0, none⟩) 2 2, .slice (some ⟨X4.heap.size + 1, 0, none⟩) 2 2] ((X4.alloc (.cells #[.string ⟨#[120]⟩, .string ⟨#[121]⟩] 9)).alloc (.cells #[.int .i64 v.kind, .string v.name, .string v.ty.name, .slice qA qm qa, .int .i64 v.ty.off, .slice qB ql qb, .slice qC qn qc, .int .i64 v.off, .int .i64 v.kind, .string v.name, .string v.ty.name, .slice qA qm qa, .int .i64 v.ty.off, .slice qB ql qb, .slice qC qn qc, .int .i64 v.off] 27)) (XNeat _ (Ex.repl [⟨#[120]⟩, ⟨#[121]⟩] [v, v] a)) from xref_replace_any [⟨#[120]⟩, ⟨#[121]⟩] [v, v] _ _ 2 2 2 2 (fun x hx => by simp only [List.mem_cons, List.not_mem_nil, or_false, or_self] at hx; subst hx; have := WV.out; omega) (by omega) (by omega) a _ _ (Nat.le_trans WA.out (by omega)) HDT.out HPT.out.1 HPT.out.2).mono ?_
  rintro e V5 ⟨tu, rfl, hlt, hb0⟩
  have hst := hb0.size
  have hb : Below _ _ _ := (hbt.trans (hb0.mono hbt.size)).trans ((alloc_bel V5 (.cells tu.toArray 27)).mono (Nat.le_trans hbt.size hb0.size))
  have hD := DisX.new (n1 := Y.heap.size) (n3 := X2.heap.size) hlt.plain (Nat.le_trans P7.out.le hbt.size) hst
  clear hb0 hbt HDT HPT x0 x1 x2 x3 x4 x5 x6 x7 y0 y1 y2 y3 y4 y5 y6 y7
  have B8 := Lib.hid (B7.out.trans (hb.mono B7.out.size))
  have A8 := Lib.hid (A7.out.later hb)
  have Z8 := Lib.hid (Z7.out.later hb)
  have T8 := Lib.hid (T7.out.trans (hb.mono T7.out.size))
  have P8 := Lib.hid (P7.out.later hb)
  have D8 := Lib.hid (D7.out.later hb)
  have O8 := Lib.hid (O7.out.later hb)
  have Q8 := Lib.hid (Q7.out.later hb)
  have C8 := Lib.hid (C7.out.later hb)
  have R8 := Lib.hid (R7.out.later hb)
  clear hb B7 A7 Z7 T7 P7 D7 O7 Q7 C7 R7
  obtain ⟨tA, tm, ta, tB, tl, tb, tC, tn, tc, rfl, _⟩ := ex_open hlt
  have T8 := Lib.hid hD
  clear hD hlt hst
  go_wp2_with fail
  generalize hX5 : V5.alloc (.cells #[.int .i64 (Ex.repl [⟨#[120]⟩, ⟨#[121]⟩] [v, v] a).kind, .string (Ex.repl [⟨#[120]⟩, ⟨#[121]⟩] [v, v] a).name, .string (Ex.repl [⟨#[120]⟩, ⟨#[121]⟩] [v, v] a).ty.name, .slice tA tm ta, .int .i64 (Ex.repl [⟨#[120]⟩, ⟨#[121]⟩] [v, v] a).ty.off, .slice tB tl tb, .slice tC tn tc, .int .i64 (Ex.repl [⟨#[120]⟩, ⟨#[121]⟩] [v, v] a).off] 27) = X5 at *
  have HX5 := Lib.hid hX5
  clear hX5
  refine (show Calls Tryd.prog 29 #[.pointer (some ⟨V1.heap.size, 0, none⟩)] X5 (ChgXPost (fun k => Y.heap.size ≤ k ∧ k < X2.heap.size) a.list.length X5) from changeX_any (fun k => Y.heap.size ≤ k ∧ k < X2.heap.size) a 100000 V1.heap.size 0 X5 (Nat.le_trans WA.out (by omega)) P8.out.one (by omega) (by have := list_wtS a; have := WA.out; omega)).mono ?_
  rintro e Y1 ⟨rfl, hc1⟩
  have PY := Lib.hid (hc1.shape (by omega) v _ _ P8.out.two)
  have DA := Lib.hid (D8.out.chg hc1)
  have DC := Lib.hid (C8.out.chg hc1)
  have DR := Lib.hid (R8.out.chg hc1)
  have DT := Lib.hid (T8.out.chg hc1)
  have HB := Lib.hid (B8.out.trans (hc1.below (n := w.heap.size) (fun b hb => by have h1 : Y.heap.size ≤ b := hb.1; have := HSB.out; omega)))
  clear hc1 B8 A8 Z8 T8 P8 D8 O8 Q8 C8 R8
  go_wp2_with fail
  refine (show Calls Tryd.prog 29 #[.pointer (some ⟨V2.heap.size, 0, none⟩)] Y1 (ChgXPost (fun k => Y.heap.size ≤ k ∧ k < X2.heap.size) v.list.length Y1) from changeX_any (fun k => Y.heap.size ≤ k ∧ k < X2.heap.size) v (100000 + a.list.length) V2.heap.size 0 Y1 (Nat.le_trans WV.out (by omega)) PY.out (by omega) (by have := list_wtS a; have := WA.out; have := list_wtS v; have := WV.out; omega)).mono ?_
  rintro e Y2 ⟨rfl, hc2⟩
  have LA := Lib.hid (DA.out.chg hc2).lx
  have LC := Lib.hid (DC.out.chg hc2).lx
  have LR := Lib.hid (DR.out.chg hc2).lx
  have LT := Lib.hid (DT.out.chg hc2).lx
  have HB2 := Lib.hid (HB.out.trans (hc2.below (n := w.heap.size) (fun b hb => by have h1 : Y.heap.size ≤ b := hb.1; have := HSB.out; omega)))
  clear hc2 DA DC DR DT HB PY
  obtain ⟨x0, x1, x2, x3, x4, x5, x6, x7⟩ := LC.out.box.c8
  obtain ⟨y0, y1, y2, y3, y4, y5, y6, y7⟩ := LA.out.box.c8
  go_wp2_with fail
  refine (show Calls Tryd.prog 21 #[.agg #[.int .i64 a.kind, .string a.name, .string a.ty.name, .slice cA cm ca, .int .i64 a.ty.off, .slice cB cl cb, .slice cC cn cc, .int .i64 a.off], .agg #[.int .i64 a.kind, .string a.name, .string a.ty.name, .slice pA pm pa, .int .i64 a.ty.off, .slice pB pl pb, .slice pC pn pc, .int .i64 a.off]] Y2 (EqvPost Y2 (a.eqv a)) from xref_equal_any a a _ _ Y2 LC.out.dat LA.out.dat).mono ?_
  rintro e Y3 ⟨rfl, hb⟩
  rw [eqv_self]
  have LR3 := Lib.hid (LR.out.later hb)
  have LT3 := Lib.hid (LT.out.later hb)
  have HB3 := Lib.hid (HB2.out.trans (hb.mono HB2.out.size))
  clear hb LA LC LR LT HB2 x0 x1 x2 x3 x4 x5 x6 x7 y0 y1 y2 y3 y4 y5 y6 y7
  obtain ⟨x0, x1, x2, x3, x4, x5, x6, x7⟩ := LR3.out.box.c8
  obtain ⟨y0, y1, y2, y3, y4, y5, y6, y7⟩ := LT3.out.box.c8
  go_wp2_with fail
  refine (show Calls Tryd.prog 21 #[.agg #[.int .i64 (Ex.repl [⟨#[120]⟩, ⟨#[121]⟩] [v, v] a).kind, .string (Ex.repl [⟨#[120]⟩, ⟨#[121]⟩] [v, v] a).name, .string (Ex.repl [⟨#[120]⟩, ⟨#[121]⟩] [v, v] a).ty.name, .slice rA rm ra, .int .i64 (Ex.repl [⟨#[120]⟩, ⟨#[121]⟩] [v, v] a).ty.off, .slice rB rl rb, .slice rC rn rc, .int .i64 (Ex.repl [⟨#[120]⟩, ⟨#[121]⟩] [v, v] a).off], .agg #[.int .i64 (Ex.repl [⟨#[120]⟩, ⟨#[121]⟩] [v, v] a).kind, .string (Ex.repl [⟨#[120]⟩, ⟨#[121]⟩] [v, v] a).name, .string (Ex.repl [⟨#[120]⟩, ⟨#[121]⟩] [v, v] a).ty.name, .slice tA tm ta, .int .i64 (Ex.repl [⟨#[120]⟩, ⟨#[121]⟩] [v, v] a).ty.off, .slice tB tl tb, .slice tC tn tc, .int .i64 (Ex.repl [⟨#[120]⟩, ⟨#[121]⟩] [v, v] a).off]] Y3 (EqvPost Y3 ((Ex.repl [⟨#[120]⟩, ⟨#[121]⟩] [v, v] a).eqv (Ex.repl [⟨#[120]⟩, ⟨#[121]⟩] [v, v] a))) from xref_equal_any (Ex.repl [⟨#[120]⟩, ⟨#[121]⟩] [v, v] a) (Ex.repl [⟨#[120]⟩, ⟨#[121]⟩] [v, v] a) _ _ Y3 LR3.out.dat LT3.out.dat).mono ?_
  rintro e Y4 ⟨rfl, hb⟩
  rw [eqv_self]
  have HB4 := Lib.hid (HB3.out.trans (hb.mono HB3.out.size))
  clear hb LR3 LT3 HB3 x0 x1 x2 x3 x4 x5 x6 x7 y0 y1 y2 y3 y4 y5 y6 y7
  go_wp2_with fail
  go_ret
  exact ⟨rfl, HB4.out⟩
end Go.Proofs.YtnfakhohoibkpaaDoor
