/- The walk of the law TypesShare over the contracts of package types: true, at every input. -/
import Derived.Test.YtioamnaknjhbpaaDoorTyT
namespace Go.Proofs.YtioamnaknjhbpaaDoor
open Go.RowKit

/-- Since a world. -/
structure Since (V W : World) : Prop where
  below : Below V.heap.size V W
theorem Since.later {V W W' : World} (h : Since V W) (hb : Below W.heap.size W W') : Since V W' := ⟨h.below.trans (hb.mono h.below.size)⟩
/-- A boxed type that may be written, its blocks from n1 on. -/
structure OwnF (W : World) (n1 b : Nat) (t : Ty) (A : Option Addr) (m c : Nat) : Prop where
  row : W.heap[b]? = some (.cells #[.string t.name, .slice A m c, .int .i64 t.off] 24)
  neat : LiesN W True (fun k => n1 ≤ k ∧ k < W.heap.size) A m t.args
  ge : n1 ≤ b
theorem OwnF.lt {W : World} {n1 b : Nat} {t : Ty} {A : Option Addr} {m c : Nat} (h : OwnF W n1 b t A m c) : b < W.heap.size := (Array.getElem?_eq_some_iff.1 h.row).1
theorem OwnF.later {W W' : World} {n1 b : Nat} {t : Ty} {A : Option Addr} {m c : Nat} (h : OwnF W n1 b t A m c) (hb : Below W.heap.size W W') : OwnF W' n1 b t A m c :=
  ⟨(hb.block _ h.lt).trans h.row, (h.neat.later hb (fun _ h => h.2)).wide (fun _ h => ⟨h.1, Nat.lt_of_lt_of_le h.2 hb.size⟩), h.ge⟩
theorem OwnF.new {V0 V1 : World} {n1 : Nat} {t : Ty} {A : Option Addr} {m : Nat} (c : Nat) (hl : LiesN V1 True (Fresh V0 V1) A m t.args) (hn : n1 ≤ V0.heap.size) (hs : V0.heap.size ≤ V1.heap.size) :
    OwnF (V1.alloc (.cells #[.string t.name, .slice A m c, .int .i64 t.off] 24)) n1 V1.heap.size t A m c := by
  refine ⟨heap_alloc_new _ _, (hl.alloc (fun _ h => h.2) _).wide fun k h => ?_, Nat.le_trans hn hs⟩
  have h1 : V0.heap.size ≤ k := h.1
  have h2 : k < V1.heap.size := h.2
  exact ⟨by omega, by simp; omega⟩
theorem OwnF.shape {W : World} {n1 b K : Nat} {t : Ty} {A : Option Addr} {m c : Nat} (h : OwnF W n1 b t A m c) (hK : ∀ s ∈ t.list, s.size ≤ K) : ShpC W (fun k => n1 ≤ k ∧ k < W.heap.size) K (some ⟨b, 0, none⟩) 0 t := by
  have hx := box_of_row h.row
  have hg := h.ge
  have hlt := h.lt
  have hfr := fun k => frozen_of_row h.row k
  have hne := h.neat
  cases t with
  | mk s xs o =>
    simp only [Ty.name, Ty.args, Ty.off, Ty.list, List.mem_cons] at *
    rw [ShpC]
    refine ⟨b, A, c, s, rfl, ⟨hg, hlt⟩, hfr, hx.1, hK s (.inl rfl), by rw [hne.len]; exact hx.2.1, shp_of_args (fun _ h => h) xs A 0 hne.args (fun u hu => hK u (.inr hu))⟩
theorem ShpL.keep {w w' : World} {S : Nat → Prop} {K : Nat} (h : Go.Proofs.YtioamnaknjhbpaaDoor.Same w w' S) : ∀ (xs : List Ty) (A : Option Addr) (i : Nat), ShpL w S K A i xs → ShpL w' S K A i xs := by
  refine Ty.indL (fun A i _ => by rw [ShpL]; trivial) fun s ys o r ih1 ih2 A i hs => ?_
  rw [ShpL, ShpC] at hs ⊢
  obtain ⟨⟨g, B, c, s0, e, hg, hf, c0, hz, c1, ha⟩, hr⟩ := hs
  exact ⟨⟨g, B, c, s0, e, hg, fun k => (h ⟨g, k, none⟩ hg).2.trans (hf k), (h ⟨g, i * 3, none⟩ hg).1.trans c0, hz, (h ⟨g, i * 3 + 1, none⟩ hg).1.trans c1, ih1 B 0 ha⟩, ih2 A (i + 1) hr⟩
theorem ShpC.keep {w w' : World} {S : Nat → Prop} {K : Nat} (h : Go.Proofs.YtioamnaknjhbpaaDoor.Same w w' S) {t : Ty} {A : Option Addr} {i : Nat} (hs : ShpC w S K A i t) : ShpC w' S K A i t := by
  have := ShpL.keep h [t] A i (by rw [ShpL, ShpL]; exact ⟨hs, trivial⟩)
  rw [ShpL] at this
  exact this.1
/-- The shapes of both that are to be changed. -/
structure Shapes (W : World) (n1 n3 : Nat) (b d : Nat) (t a : Ty) : Prop where
  one : ShpC W (fun k => n1 ≤ k ∧ k < n3) 100000 (some ⟨b, 0, none⟩) 0 t
  two : ShpC W (fun k => n1 ≤ k ∧ k < n3) 100000 (some ⟨d, 0, none⟩) 0 a
  le : n3 ≤ W.heap.size
theorem Shapes.later {W W' : World} {n1 n3 b d : Nat} {t a : Ty} (h : Shapes W n1 n3 b d t a) (hb : Below W.heap.size W W') : Shapes W' n1 n3 b d t a := by
  have hs : Go.Proofs.YtioamnaknjhbpaaDoor.Same W W' (fun k => n1 ≤ k ∧ k < n3) := fun p hp => ⟨hb.cell (Nat.lt_of_lt_of_le hp.2 h.le), hb.frozen (Nat.lt_of_lt_of_le hp.2 h.le)⟩
  exact ⟨h.one.keep hs, h.two.keep hs, Nat.le_trans h.le hb.size⟩
/-- A boxed type far from the blocks n1 to n3. -/
structure Dis (W : World) (n1 n3 b : Nat) (t : Ty) (A : Option Addr) (m c : Nat) : Prop where
  box : Box W b t.name A m c t.off
  args : Lies W (fun k => (k < n1 ∨ n3 ≤ k) ∧ k < W.heap.size) A m t.args
  far : b < n1 ∨ n3 ≤ b
theorem Dis.later {W W' : World} {n1 n3 b : Nat} {t : Ty} {A : Option Addr} {m c : Nat} (h : Dis W n1 n3 b t A m c) (hb : Below W.heap.size W W') : Dis W' n1 n3 b t A m c :=
  ⟨h.box.later hb, (LiesN.later h.args hb (fun _ h => h.2)).wide (fun _ h => ⟨h.1, Nat.lt_of_lt_of_le h.2 hb.size⟩), h.far⟩
theorem Dis.chg {W W' : World} {n1 n3 b k : Nat} {t : Ty} {A : Option Addr} {m c : Nat} (h : Dis W n1 n3 b t A m c) (hc : Chg (fun k => n1 ≤ k ∧ k < n3) k W W') : Dis W' n1 n3 b t A m c := by
  have hs := hc.same (T := fun k => k < n1 ∨ n3 ≤ k) (fun b hb h => by omega)
  obtain ⟨b0, b1, b2⟩ := h.box
  refine ⟨⟨(hs ⟨b, 0, none⟩ h.far).1.trans b0, (hs ⟨b, 1, none⟩ h.far).1.trans b1, (hs ⟨b, 2, none⟩ h.far).1.trans b2⟩, LiesN.keep h.args (fun p hp => hs p hp.1) (fun _ h => ⟨h.1, by rw [hc.size]; exact h.2⟩), h.far⟩
theorem Dis.one {W : World} {n1 n3 b : Nat} {t : Ty} {A : Option Addr} {m c : Nat} (h : Dis W n1 n3 b t A m c) : One W b t A m c := ⟨h.box, LiesN.wide h.args fun _ h => h.2⟩
theorem Dis.new {V0 V1 : World} {n1 n3 : Nat} {t : Ty} {A : Option Addr} {m : Nat} (c : Nat) (hl : Lies V1 (Fresh V0 V1) A m t.args) (hn : n3 ≤ V0.heap.size) (hs : V0.heap.size ≤ V1.heap.size) :
    Dis (V1.alloc (.cells #[.string t.name, .slice A m c, .int .i64 t.off] 24)) n1 n3 V1.heap.size t A m c := by
  refine ⟨Box.new _ _ _ _ _ _ _, (LiesN.alloc hl (fun _ h => h.2) _).wide fun k h => ?_, .inr (Nat.le_trans hn hs)⟩
  have h1 : V0.heap.size ≤ k := h.1
  have h2 : k < V1.heap.size := h.2
  exact ⟨.inr (by omega), by simp; omega⟩
theorem alloc_below (W : World) (o : Obj) : Below W.heap.size W (W.alloc o) := (Below.refl _ _).alloc (Nat.le_refl _) _
/-- A name and a type, each in a new block. -/
theorem put_new (W : World) (t : Ty) (A : Option Addr) (m c : Nat) (hn : t.name.size ≤ 9223372036854775807) (h : Here W A m t.args) :
    Puts ((W.alloc (.cells #[.string ⟨#[97]⟩] 9)).alloc (.cells #[.string t.name, .slice A m c, .int .i64 t.off] 24)) (some ⟨W.heap.size, 0, none⟩) 1 [⟨#[97]⟩] (some ⟨W.heap.size + 1, 0, none⟩) 1 [t] := by
  have hb : Below W.heap.size W ((W.alloc (.cells #[.string ⟨#[97]⟩] 9)).alloc (.cells #[.string t.name, .slice A m c, .int .i64 t.off] 24)) := two_below W _ _
  have hz : ((W.alloc (.cells #[.string ⟨#[97]⟩] 9)).alloc (.cells #[.string t.name, .slice A m c, .int .i64 t.off] 24)).heap.size = W.heap.size + 2 := by simp
  refine ⟨⟨rfl, fun j p hj => ⟨_, rfl, by show W.heap.size < _; omega, ?_⟩⟩, ?_⟩
  · rw [add_at, cell_of_row _ _ j _ _ (0, 0) (heap_old (heap_alloc_new W (.cells #[.string ⟨#[97]⟩] 9)))]
    cases j with
    | zero => simpa using hj
    | succ j => simp at hj
  · have hl := h.len
    refine lies_of_row (cs := #[.string t.name, .slice A m c, .int .i64 t.off]) (heap_new_at (by simp)) (by show W.heap.size + 1 < _; omega) rfl (by omega) ⟨A, c, [], ?_, hn, ?_, rfl⟩
    · rw [hl]
    · rw [hl]; exact Here.later h hb

set_option maxRecDepth 100000 in
set_option maxHeartbeats 8000000 in
theorem typesShare_any (L : TypesOk) (t : Ty) (At : Option Addr) (mt ct : Nat) (a : Ty) (Aa : Option Addr) (ma ca : Nat) (w : World) (nt : t.name.size ≤ 9223372036854775807) (ht : Here w At mt t.args) (na : a.name.size ≤ 9223372036854775807) (ha : Here w Aa ma a.args) (hE : ResVar w) :
    Calls Tryd.prog 6 #[.agg #[.string t.name, .slice At mt ct, .int .i64 t.off], .agg #[.string a.name, .slice Aa ma ca, .int .i64 a.off]] w fun e w' => e = .returned (.bool true) ∧ Below w.heap.size w w' := by
  have hx := two_box w t At mt ct a Aa ma ca 24 hE ht ha
  have B0 := Lib.hid hx.1
  have Ot0 := Lib.hid hx.2.1
  have Oa0 := Lib.hid hx.2.2
  obtain ⟨ft, hft⟩ : ∃ x, t.few = x := ⟨_, rfl⟩
  have Ft := Lib.hid hft
  obtain ⟨fa, hfa⟩ : ∃ x, a.few = x := ⟨_, rfl⟩
  have Fa := Lib.hid hfa
  clear hx hE ht ha hft hfa
  go_enter Tryd.func6, Tryd.ntmps6
  go_wp2_with fail
  generalize hW : (w.alloc (.cells #[.string t.name, .slice At mt ct, .int .i64 t.off] 24)).alloc (.cells #[.string a.name, .slice Aa ma ca, .int .i64 a.off] 24) = W at *
  clear hW
  obtain ⟨t0, t1, t2⟩ := Ot0.out.box
  obtain ⟨a0, a1, a2⟩ := Oa0.out.box
  refine (awake_any L _ B0.out.env).mono ?_
  rintro e w1 ⟨rfl, hb⟩
  clear t0 t1 t2 a0 a1 a2
  have B1 := Lib.hid (B0.out.later hb)
  have Ot1 := Lib.hid (Ot0.out.later hb)
  have Oa1 := Lib.hid (Oa0.out.later hb)
  clear hb B0 Ot0 Oa0
  obtain ⟨t0, t1, t2⟩ := Ot1.out.box
  obtain ⟨a0, a1, a2⟩ := Oa1.out.box
  go_wp2_with fail
  refine (few_any t At mt ct _ nt Ot1.out.here).mono ?_
  rintro e w2 ⟨rfl, hb⟩
  rw [Ft.out]
  clear t0 t1 t2 a0 a1 a2
  have B2 := Lib.hid (B1.out.later hb)
  have Ot2 := Lib.hid (Ot1.out.later hb)
  have Oa2 := Lib.hid (Oa1.out.later hb)
  clear hb B1 Ot1 Oa1
  cases ft
  · skip
    obtain ⟨t0, t1, t2⟩ := Ot2.out.box
    obtain ⟨a0, a1, a2⟩ := Oa2.out.box
    go_wp2_with fail
    refine (awake_any L _ B2.out.env).mono ?_
    rintro e w3 ⟨rfl, hb⟩
    clear t0 t1 t2 a0 a1 a2
    have B3 := Lib.hid (B2.out.later hb)
    have Ot3 := Lib.hid (Ot2.out.later hb)
    have Oa3 := Lib.hid (Oa2.out.later hb)
    clear hb B2 Ot2 Oa2
    obtain ⟨t0, t1, t2⟩ := Ot3.out.box
    obtain ⟨a0, a1, a2⟩ := Oa3.out.box
    go_wp2_with fail
    go_ret
    exact ⟨rfl, B3.out.below⟩
  obtain ⟨t0, t1, t2⟩ := Ot2.out.box
  obtain ⟨a0, a1, a2⟩ := Oa2.out.box
  go_wp2_with fail
  refine (few_any a Aa ma ca _ na Oa2.out.here).mono ?_
  rintro e w3 ⟨rfl, hb⟩
  rw [Fa.out]
  clear t0 t1 t2 a0 a1 a2
  have B3 := Lib.hid (B2.out.later hb)
  have Ot3 := Lib.hid (Ot2.out.later hb)
  have Oa3 := Lib.hid (Oa2.out.later hb)
  clear hb B2 Ot2 Oa2
  cases fa
  · skip
    obtain ⟨t0, t1, t2⟩ := Ot3.out.box
    obtain ⟨a0, a1, a2⟩ := Oa3.out.box
    go_wp2_with fail
    refine (awake_any L _ B3.out.env).mono ?_
    rintro e w4 ⟨rfl, hb⟩
    clear t0 t1 t2 a0 a1 a2
    have B4 := Lib.hid (B3.out.later hb)
    have Ot4 := Lib.hid (Ot3.out.later hb)
    have Oa4 := Lib.hid (Oa3.out.later hb)
    clear hb B3 Ot3 Oa3
    obtain ⟨t0, t1, t2⟩ := Ot4.out.box
    obtain ⟨a0, a1, a2⟩ := Oa4.out.box
    go_wp2_with fail
    go_ret
    exact ⟨rfl, B4.out.below⟩
  have St := Lib.hid (few_small Ft.out)
  have Sa := Lib.hid (few_small Fa.out)
  have Z3 := Lib.hid (Since.mk (Below.refl w3.heap.size w3))
  have HT0 := Lib.hid Ot3.out.here
  have HSB := Lib.hid (show w.heap.size + 2 ≤ w3.heap.size by have h1 := cell_lt Oa3.out.box.1; have h2 : w.heap.size + 1 < w3.heap.size := h1; omega)
  have KT := Lib.hid (fun s hs => St.out.names s hs)
  have KA := Lib.hid (fun s hs => Sa.out.names s hs)
  obtain ⟨t0, t1, t2⟩ := Ot3.out.box
  obtain ⟨a0, a1, a2⟩ := Oa3.out.box
  go_wp2_with fail
  refine (clone_neat t At mt ct _ nt (Nat.le_trans St.out.list (by omega)) Ot3.out.here).mono ?_
  rintro e V1 ⟨A2, m2, d2, rfl, hno, hlo, hb0⟩
  have hb : Below _ _ _ := hb0.trans ((alloc_below V1 (.cells #[.string t.name, .slice A2 m2 d2, .int .i64 t.off] 24)).mono hb0.size)
  have hso := hb0.size
  have HNo := Lib.hid hno
  have ho := One.new d2 24 (hlo.lies.here)
  clear hb0 hno
  have hF := OwnF.new (n1 := w3.heap.size) d2 hlo (Nat.le_refl _) hso
  clear t0 t1 t2 a0 a1 a2
  have B4 := Lib.hid (B3.out.later hb)
  have Ot4 := Lib.hid (Ot3.out.later hb)
  have Oa4 := Lib.hid (Oa3.out.later hb)
  have Z4 := Lib.hid (Z3.out.later hb)
  clear hb B3 Ot3 Oa3 Z3
  have Oo4 := Lib.hid ho
  have F4 := Lib.hid hF
  clear ho hF hlo
  have hz1 := Z4.out.below.size
  obtain ⟨t0, t1, t2⟩ := Ot4.out.box
  obtain ⟨a0, a1, a2⟩ := Oa4.out.box
  obtain ⟨o0, o1, o2⟩ := Oo4.out.box
  go_wp2_with fail
  refine (clone_neat a Aa ma ca _ na (Nat.le_trans Sa.out.list (by omega)) Oa4.out.here).mono ?_
  rintro e V2 ⟨A3, m3, d3, rfl, hnr, hlr, hb0⟩
  have hb : Below _ _ _ := hb0.trans ((alloc_below V2 (.cells #[.string a.name, .slice A3 m3 d3, .int .i64 a.off] 24)).mono hb0.size)
  have hsr := hb0.size
  have HNr := Lib.hid hnr
  have ho := One.new d3 24 (hlr.lies.here)
  clear hb0 hnr
  have hG := OwnF.new (n1 := w3.heap.size) d3 hlr hz1 hsr
  clear t0 t1 t2 a0 a1 a2 o0 o1 o2
  have B5 := Lib.hid (B4.out.later hb)
  have Ot5 := Lib.hid (Ot4.out.later hb)
  have Oa5 := Lib.hid (Oa4.out.later hb)
  have Oo5 := Lib.hid (Oo4.out.later hb)
  have Z5 := Lib.hid (Z4.out.later hb)
  have F5 := Lib.hid (F4.out.later hb)
  clear hb B4 Ot4 Oa4 Oo4 Z4 F4
  have Or5 := Lib.hid ho
  have G5 := Lib.hid hG
  clear ho hG hlr hz1 hso hsr
  obtain ⟨t0, t1, t2⟩ := Ot5.out.box
  obtain ⟨a0, a1, a2⟩ := Oa5.out.box
  obtain ⟨o0, o1, o2⟩ := Oo5.out.box
  obtain ⟨r0, r1, r2⟩ := Or5.out.box
  go_wp2_with fail
  generalize hX2 : V2.alloc (.cells #[.string a.name, .slice A3 m3 d3, .int .i64 a.off] 24) = X2 at *
  have P5 := Lib.hid (Shapes.mk (F5.out.shape KT.out) (G5.out.shape KA.out) (Nat.le_refl _))
  have D5 := Lib.hid (Dis.mk (n1 := w3.heap.size) (n3 := X2.heap.size) Ot5.out.box ((LiesN.later HT0.out Z5.out.below (fun _ h => h)).wide (fun k hk => ⟨.inl hk, Nat.lt_of_lt_of_le hk Z5.out.below.size⟩)) (.inl (by have := HSB.out; omega)))
  clear hX2 F5 G5
  have hx2 : X2.heap.size ≤ X2.heap.size := Nat.le_refl _
  refine (L.clone t A2 m2 d2 _ St.out Oo5.out.here).mono ?_
  rintro e V3 ⟨A4, m4, d4, rfl, hnc, hlc, hb0⟩
  have hb : Below _ _ _ := hb0.trans ((alloc_below V3 (.cells #[.string t.name, .slice A4 m4 d4, .int .i64 t.off] 24)).mono hb0.size)
  have hsc := hb0.size
  have HNc := Lib.hid hnc
  have ho := One.new d4 24 (hlc.here)
  clear hb0 hnc
  have hD := Dis.new (n1 := w3.heap.size) (n3 := X2.heap.size) d4 hlc hx2 hsc
  clear t0 t1 t2 a0 a1 a2 o0 o1 o2 r0 r1 r2
  have B6 := Lib.hid (B5.out.later hb)
  have Ot6 := Lib.hid (Ot5.out.later hb)
  have Oa6 := Lib.hid (Oa5.out.later hb)
  have Oo6 := Lib.hid (Oo5.out.later hb)
  have Or6 := Lib.hid (Or5.out.later hb)
  have Z6 := Lib.hid (Z5.out.later hb)
  have P6 := Lib.hid (P5.out.later hb)
  have D6 := Lib.hid (D5.out.later hb)
  clear hb B5 Ot5 Oa5 Oo5 Or5 Z5 P5 D5
  have Oc6 := Lib.hid ho
  have E6 := Lib.hid hD
  clear ho hD hlc hsc hx2
  obtain ⟨t0, t1, t2⟩ := Ot6.out.box
  obtain ⟨a0, a1, a2⟩ := Oa6.out.box
  obtain ⟨o0, o1, o2⟩ := Oo6.out.box
  obtain ⟨r0, r1, r2⟩ := Or6.out.box
  obtain ⟨c0, c1, c2⟩ := Oc6.out.box
  have hbn := alloc_below (V3.alloc (.cells #[.string t.name, .slice A4 m4 d4, .int .i64 t.off] 24)) (.cells #[.string ⟨#[97]⟩] 9)
  obtain ⟨z0, z1, z2⟩ := (Or6.out.later hbn).box
  have hput := put_new (V3.alloc (.cells #[.string t.name, .slice A4 m4 d4, .int .i64 t.off] 24)) a A3 m3 d3 na Or6.out.here
  rw [show (V3.alloc (.cells #[.string t.name, .slice A4 m4 d4, .int .i64 t.off] 24)).heap.size = V3.heap.size + 1 by simp] at hput
  have hb := two_below (V3.alloc (.cells #[.string t.name, .slice A4 m4 d4, .int .i64 t.off] 24)) (.cells #[.string ⟨#[97]⟩] 9) (.cells #[.string a.name, .slice A3 m3 d3, .int .i64 a.off] 24)
  go_wp2_with fail
  clear hbn z0 z1 z2
  clear t0 t1 t2 a0 a1 a2 o0 o1 o2 r0 r1 r2 c0 c1 c2
  have B7 := Lib.hid (B6.out.later hb)
  have Ot7 := Lib.hid (Ot6.out.later hb)
  have Oa7 := Lib.hid (Oa6.out.later hb)
  have Oo7 := Lib.hid (Oo6.out.later hb)
  have Or7 := Lib.hid (Or6.out.later hb)
  have Oc7 := Lib.hid (Oc6.out.later hb)
  have Z7 := Lib.hid (Z6.out.later hb)
  have P7 := Lib.hid (P6.out.later hb)
  have D7 := Lib.hid (D6.out.later hb)
  have E7 := Lib.hid (E6.out.later hb)
  clear hb B6 Ot6 Oa6 Oo6 Or6 Oc6 Z6 P6 D6 E6
  have Y7 := Lib.hid hput
  clear hput
  have hx3 := P7.out.le
  have HQ := Lib.hid (show (Ty.subst [⟨#[97]⟩] [a] t) = (Ty.subst [⟨#[97]⟩] [a] t) from rfl)
  clear HQ
  obtain ⟨t0, t1, t2⟩ := Ot7.out.box
  obtain ⟨a0, a1, a2⟩ := Oa7.out.box
  obtain ⟨o0, o1, o2⟩ := Oo7.out.box
  obtain ⟨r0, r1, r2⟩ := Or7.out.box
  obtain ⟨c0, c1, c2⟩ := Oc7.out.box
  refine (L.subst [⟨#[97]⟩] [a] _ _ 1 1 1 1 t A2 m2 d2 _ (by intro u hu; rw [List.mem_singleton.1 hu]; exact Sa.out) St.out (by omega) (by omega) (fits_b 97) Oo7.out.here Y7.out.names Y7.out.types).mono ?_
  rintro e V4 ⟨A5, m5, d5, rfl, hns, hls, hb0⟩
  have hb : Below _ _ _ := hb0.trans ((alloc_below V4 (.cells #[.string (Ty.subst [⟨#[97]⟩] [a] t).name, .slice A5 m5 d5, .int .i64 (Ty.subst [⟨#[97]⟩] [a] t).off] 24)).mono hb0.size)
  have hss := hb0.size
  have HNs := Lib.hid hns
  have ho := One.new d5 24 (hls.here)
  clear hb0 hns
  have hD := Dis.new (n1 := w3.heap.size) (n3 := X2.heap.size) d5 hls hx3 hss
  clear t0 t1 t2 a0 a1 a2 o0 o1 o2 r0 r1 r2 c0 c1 c2
  have B8 := Lib.hid (B7.out.later hb)
  have Ot8 := Lib.hid (Ot7.out.later hb)
  have Oa8 := Lib.hid (Oa7.out.later hb)
  have Oo8 := Lib.hid (Oo7.out.later hb)
  have Or8 := Lib.hid (Or7.out.later hb)
  have Oc8 := Lib.hid (Oc7.out.later hb)
  have Z8 := Lib.hid (Z7.out.later hb)
  have P8 := Lib.hid (P7.out.later hb)
  have D8 := Lib.hid (D7.out.later hb)
  have E8 := Lib.hid (E7.out.later hb)
  have Y8 := Lib.hid (Y7.out.later hb)
  clear hb B7 Ot7 Oa7 Oo7 Or7 Oc7 Z7 P7 D7 E7 Y7
  have Os8 := Lib.hid ho
  have H8 := Lib.hid hD
  clear ho hD hls hss hx3
  clear Y8
  obtain ⟨t0, t1, t2⟩ := Ot8.out.box
  obtain ⟨a0, a1, a2⟩ := Oa8.out.box
  obtain ⟨o0, o1, o2⟩ := Oo8.out.box
  obtain ⟨r0, r1, r2⟩ := Or8.out.box
  obtain ⟨c0, c1, c2⟩ := Oc8.out.box
  obtain ⟨s0, s1, s2⟩ := Os8.out.box
  have hbn := alloc_below (V4.alloc (.cells #[.string (Ty.subst [⟨#[97]⟩] [a] t).name, .slice A5 m5 d5, .int .i64 (Ty.subst [⟨#[97]⟩] [a] t).off] 24)) (.cells #[.string ⟨#[97]⟩] 9)
  obtain ⟨z0, z1, z2⟩ := (Oa8.out.later hbn).box
  have hput := put_new (V4.alloc (.cells #[.string (Ty.subst [⟨#[97]⟩] [a] t).name, .slice A5 m5 d5, .int .i64 (Ty.subst [⟨#[97]⟩] [a] t).off] 24)) a Aa ma ca na Oa8.out.here
  rw [show (V4.alloc (.cells #[.string (Ty.subst [⟨#[97]⟩] [a] t).name, .slice A5 m5 d5, .int .i64 (Ty.subst [⟨#[97]⟩] [a] t).off] 24)).heap.size = V4.heap.size + 1 by simp] at hput
  have hb := two_below (V4.alloc (.cells #[.string (Ty.subst [⟨#[97]⟩] [a] t).name, .slice A5 m5 d5, .int .i64 (Ty.subst [⟨#[97]⟩] [a] t).off] 24)) (.cells #[.string ⟨#[97]⟩] 9) (.cells #[.string a.name, .slice Aa ma ca, .int .i64 a.off] 24)
  go_wp2_with fail
  clear hbn z0 z1 z2
  clear t0 t1 t2 a0 a1 a2 o0 o1 o2 r0 r1 r2 c0 c1 c2 s0 s1 s2
  have B9 := Lib.hid (B8.out.later hb)
  have Ot9 := Lib.hid (Ot8.out.later hb)
  have Oa9 := Lib.hid (Oa8.out.later hb)
  have Oo9 := Lib.hid (Oo8.out.later hb)
  have Or9 := Lib.hid (Or8.out.later hb)
  have Oc9 := Lib.hid (Oc8.out.later hb)
  have Os9 := Lib.hid (Os8.out.later hb)
  have Z9 := Lib.hid (Z8.out.later hb)
  have P9 := Lib.hid (P8.out.later hb)
  have D9 := Lib.hid (D8.out.later hb)
  have E9 := Lib.hid (E8.out.later hb)
  have H9 := Lib.hid (H8.out.later hb)
  clear hb B8 Ot8 Oa8 Oo8 Or8 Oc8 Os8 Z8 P8 D8 E8 H8
  have Y9 := Lib.hid hput
  clear hput
  have hx3 := P9.out.le
  have HQ := Lib.hid (show (Ty.subst [⟨#[97]⟩] [a] t) = (Ty.subst [⟨#[97]⟩] [a] t) from rfl)
  clear HQ
  obtain ⟨t0, t1, t2⟩ := Ot9.out.box
  obtain ⟨a0, a1, a2⟩ := Oa9.out.box
  obtain ⟨o0, o1, o2⟩ := Oo9.out.box
  obtain ⟨r0, r1, r2⟩ := Or9.out.box
  obtain ⟨c0, c1, c2⟩ := Oc9.out.box
  obtain ⟨s0, s1, s2⟩ := Os9.out.box
  refine (ref_subst_any [⟨#[97]⟩] [a] _ _ 1 1 1 1 t At mt ct _ (by intro u hu; rw [List.mem_singleton.1 hu]; exact (Nat.le_trans Sa.out.list (by omega))) nt (Nat.le_trans St.out.list (by omega)) (by omega) Ot9.out.here Y9.out.names Y9.out.types).mono ?_
  rintro e V5 ⟨A6, m6, d6, rfl, hnq, hlq, hb0⟩
  have hb : Below _ _ _ := hb0.trans ((alloc_below V5 (.cells #[.string (Ty.subst [⟨#[97]⟩] [a] t).name, .slice A6 m6 d6, .int .i64 (Ty.subst [⟨#[97]⟩] [a] t).off] 24)).mono hb0.size)
  have hsq := hb0.size
  have HNq := Lib.hid hnq
  have ho := One.new d6 24 (hlq.here)
  clear hb0 hnq
  have hD := Dis.new (n1 := w3.heap.size) (n3 := X2.heap.size) d6 hlq hx3 hsq
  clear t0 t1 t2 a0 a1 a2 o0 o1 o2 r0 r1 r2 c0 c1 c2 s0 s1 s2
  have B10 := Lib.hid (B9.out.later hb)
  have Ot10 := Lib.hid (Ot9.out.later hb)
  have Oa10 := Lib.hid (Oa9.out.later hb)
  have Oo10 := Lib.hid (Oo9.out.later hb)
  have Or10 := Lib.hid (Or9.out.later hb)
  have Oc10 := Lib.hid (Oc9.out.later hb)
  have Os10 := Lib.hid (Os9.out.later hb)
  have Z10 := Lib.hid (Z9.out.later hb)
  have P10 := Lib.hid (P9.out.later hb)
  have D10 := Lib.hid (D9.out.later hb)
  have E10 := Lib.hid (E9.out.later hb)
  have H10 := Lib.hid (H9.out.later hb)
  have Y10 := Lib.hid (Y9.out.later hb)
  clear hb B9 Ot9 Oa9 Oo9 Or9 Oc9 Os9 Z9 P9 D9 E9 H9 Y9
  have Oq10 := Lib.hid ho
  have J10 := Lib.hid hD
  clear ho hD hlq hsq hx3
  clear Y10
  go_wp2_with fail
  refine (change_any (fun k => w3.heap.size ≤ k ∧ k < X2.heap.size) t 100000 V1.heap.size 0 _ P10.out.one (by have := St.out.list; omega)).mono ?_
  rintro e Y1 ⟨rfl, hc1⟩
  have PY := Lib.hid (hc1.shapeC a _ _ P10.out.two)
  have DT := Lib.hid (D10.out.chg hc1)
  have DC := Lib.hid (E10.out.chg hc1)
  have DS := Lib.hid (H10.out.chg hc1)
  have DQ := Lib.hid (J10.out.chg hc1)
  have HB := Lib.hid (B10.out.below.trans (hc1.below (n := w.heap.size) (fun b hb => by have h1 : w3.heap.size ≤ b := hb.1; have := HSB.out; omega)))
  clear hc1 B10 Ot10 Oa10 Oo10 Or10 Oc10 Os10 Oq10 Z10 P10 D10 E10 H10 J10
  go_wp2_with fail
  refine (change_any (fun k => w3.heap.size ≤ k ∧ k < X2.heap.size) a _ V2.heap.size 0 _ PY.out (by have := St.out.list; have := Sa.out.list; omega)).mono ?_
  rintro e Y2 ⟨rfl, hc2⟩
  have DT2 := Lib.hid (DT.out.chg hc2).one
  have DC2 := Lib.hid (DC.out.chg hc2).one
  have DS2 := Lib.hid (DS.out.chg hc2).one
  have DQ2 := Lib.hid (DQ.out.chg hc2).one
  have HB2 := Lib.hid (HB.out.trans (hc2.below (n := w.heap.size) (fun b hb => by have h1 : w3.heap.size ≤ b := hb.1; have := HSB.out; omega)))
  clear hc2 DT DC DS DQ HB PY
  obtain ⟨t0, t1, t2⟩ := DT2.out.box
  obtain ⟨c0, c1, c2⟩ := DC2.out.box
  go_wp2_with fail
  have CE1 := Lib.hid (ref_equal_any t t A4 At m4 mt d4 ct _ nt nt DC2.out.here DT2.out.here)
  rw [Ty.eqv_refl] at CE1
  refine CE1.out.mono ?_
  rintro e Y3 ⟨rfl, hb⟩
  have DS3 := Lib.hid (DS2.out.later hb)
  have DQ3 := Lib.hid (DQ2.out.later hb)
  have HB3 := Lib.hid (HB2.out.trans (hb.mono HB2.out.size))
  clear hb t0 t1 t2 c0 c1 c2 CE1
  obtain ⟨s0, s1, s2⟩ := DS3.out.box
  obtain ⟨q0, q1, q2⟩ := DQ3.out.box
  go_wp2_with fail
  have CE2 := Lib.hid (ref_equal_any (Ty.subst [⟨#[97]⟩] [a] t) (Ty.subst [⟨#[97]⟩] [a] t) A5 A6 m5 m6 d5 d6 _ HNs.out HNs.out DS3.out.here DQ3.out.here)
  rw [Ty.eqv_refl] at CE2
  refine CE2.out.mono ?_
  rintro e Y4 ⟨rfl, hb⟩
  have HB4 := Lib.hid (HB3.out.trans (hb.mono HB3.out.size))
  clear hb s0 s1 s2 q0 q1 q2 CE2
  go_wp2_with fail
  go_ret
  exact ⟨rfl, HB4.out⟩
end Go.Proofs.YtioamnaknjhbpaaDoor
