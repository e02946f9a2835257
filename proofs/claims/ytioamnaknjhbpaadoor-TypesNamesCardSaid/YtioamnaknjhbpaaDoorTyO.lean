/- The walk of the law TypesOrder over the contracts of package types: true, at every input. -/
import Derived.Test.YtioamnaknjhbpaaDoorTyN
namespace Go.Proofs.YtioamnaknjhbpaaDoor
open Go.RowKit

/-- What a law keeps from its start on. -/
structure Base (w W : World) : Prop where
  below : Below w.heap.size w W
  env : ResVar W
theorem Base.later {w W W' : World} (h : Base w W) (hb : Below W.heap.size W W') : Base w W' := ⟨h.below.trans (hb.mono h.below.size), h.env.later hb⟩
/-- A boxed type and its arguments. -/
structure One (W : World) (b : Nat) (t : Ty) (A : Option Addr) (m c : Nat) : Prop where
  box : Box W b t.name A m c t.off
  here : Here W A m t.args
theorem One.later {W W' : World} {b : Nat} {t : Ty} {A : Option Addr} {m c : Nat} (h : One W b t A m c) (hb : Below W.heap.size W W') : One W' b t A m c := ⟨h.box.later hb, h.here.later hb⟩
theorem One.new {W : World} {t : Ty} {A : Option Addr} {m : Nat} (c : Nat) (T : TypeId) (h : Here W A m t.args) : One (W.alloc (.cells #[.string t.name, .slice A m c, .int .i64 t.off] T)) W.heap.size t A m c :=
  ⟨Box.new W t.name A m c t.off T, h.later ((Below.refl _ _).alloc (Nat.le_refl _) _)⟩
theorem one_box (w : World) (t : Ty) (A : Option Addr) (m c : Nat) (T : TypeId) (hE : ResVar w) (h : Here w A m t.args) :
    Base w (w.alloc (.cells #[.string t.name, .slice A m c, .int .i64 t.off] T)) ∧ One (w.alloc (.cells #[.string t.name, .slice A m c, .int .i64 t.off] T)) w.heap.size t A m c := by
  have hb : Below w.heap.size w (w.alloc (.cells #[.string t.name, .slice A m c, .int .i64 t.off] T)) := (Below.refl _ _).alloc (Nat.le_refl _) _
  exact ⟨⟨hb, hE.later hb⟩, One.new c T h⟩
theorem two_box (w : World) (t : Ty) (A : Option Addr) (m c : Nat) (u : Ty) (B : Option Addr) (l d : Nat) (T : TypeId) (hE : ResVar w) (h : Here w A m t.args) (h2 : Here w B l u.args) :
    Base w ((w.alloc (.cells #[.string t.name, .slice A m c, .int .i64 t.off] T)).alloc (.cells #[.string u.name, .slice B l d, .int .i64 u.off] T)) ∧ One ((w.alloc (.cells #[.string t.name, .slice A m c, .int .i64 t.off] T)).alloc (.cells #[.string u.name, .slice B l d, .int .i64 u.off] T)) w.heap.size t A m c
      ∧ One ((w.alloc (.cells #[.string t.name, .slice A m c, .int .i64 t.off] T)).alloc (.cells #[.string u.name, .slice B l d, .int .i64 u.off] T)) (w.heap.size + 1) u B l d := by
  obtain ⟨h3, h4⟩ := one_box w t A m c T hE h
  obtain ⟨h5, h6⟩ := one_box _ u B l d T h3.env (h2.later h3.below)
  rw [show (w.alloc (.cells #[.string t.name, .slice A m c, .int .i64 t.off] T)).heap.size = w.heap.size + 1 by simp] at h6
  exact ⟨h3.later h5.below, h4.later h5.below, h6⟩
theorem three_box (w : World) (t : Ty) (A : Option Addr) (m c : Nat) (u : Ty) (B : Option Addr) (l d : Nat) (v : Ty) (C : Option Addr) (k q : Nat) (T : TypeId) (hE : ResVar w) (h : Here w A m t.args) (h2 : Here w B l u.args) (h3 : Here w C k v.args) :
    Base w (((w.alloc (.cells #[.string t.name, .slice A m c, .int .i64 t.off] T)).alloc (.cells #[.string u.name, .slice B l d, .int .i64 u.off] T)).alloc (.cells #[.string v.name, .slice C k q, .int .i64 v.off] T))
      ∧ One (((w.alloc (.cells #[.string t.name, .slice A m c, .int .i64 t.off] T)).alloc (.cells #[.string u.name, .slice B l d, .int .i64 u.off] T)).alloc (.cells #[.string v.name, .slice C k q, .int .i64 v.off] T)) w.heap.size t A m c
      ∧ One (((w.alloc (.cells #[.string t.name, .slice A m c, .int .i64 t.off] T)).alloc (.cells #[.string u.name, .slice B l d, .int .i64 u.off] T)).alloc (.cells #[.string v.name, .slice C k q, .int .i64 v.off] T)) (w.heap.size + 1) u B l d
      ∧ One (((w.alloc (.cells #[.string t.name, .slice A m c, .int .i64 t.off] T)).alloc (.cells #[.string u.name, .slice B l d, .int .i64 u.off] T)).alloc (.cells #[.string v.name, .slice C k q, .int .i64 v.off] T)) (w.heap.size + 1 + 1) v C k q := by
  obtain ⟨h4, h5, h6⟩ := two_box w t A m c u B l d T hE h h2
  obtain ⟨h7, h8⟩ := one_box _ v C k q T h4.env (h3.later h4.below)
  rw [show ((w.alloc (.cells #[.string t.name, .slice A m c, .int .i64 t.off] T)).alloc (.cells #[.string u.name, .slice B l d, .int .i64 u.off] T)).heap.size = w.heap.size + 1 + 1 by simp] at h8
  exact ⟨h4.later h7.below, h5.later h7.below, h6.later h7.below, h8⟩

set_option maxRecDepth 100000 in
set_option maxHeartbeats 8000000 in
theorem typesOrder_any (L : TypesOk) (a : Ty) (Aa : Option Addr) (ma ca : Nat) (b : Ty) (Ab : Option Addr) (mb cb : Nat) (z : Ty) (Az : Option Addr) (mz cz : Nat) (w : World) (na : a.name.size ≤ 9223372036854775807) (ha : Here w Aa ma a.args) (nb : b.name.size ≤ 9223372036854775807) (hb : Here w Ab mb b.args) (nz : z.name.size ≤ 9223372036854775807) (hz : Here w Az mz z.args) (hE : ResVar w) :
    Calls Tryd.prog 7 #[.agg #[.string a.name, .slice Aa ma ca, .int .i64 a.off], .agg #[.string b.name, .slice Ab mb cb, .int .i64 b.off], .agg #[.string z.name, .slice Az mz cz, .int .i64 z.off]] w fun e w' => e = .returned (.bool true) ∧ Below w.heap.size w w' := by
  have hx := three_box w a Aa ma ca b Ab mb cb z Az mz cz 24 hE ha hb hz
  have B0 := Lib.hid hx.1
  have Oa0 := Lib.hid hx.2.1
  have Ob0 := Lib.hid hx.2.2.1
  have Oz0 := Lib.hid hx.2.2.2
  obtain ⟨fa, hfa⟩ : ∃ x, a.few = x := ⟨_, rfl⟩
  have Fa := Lib.hid hfa
  obtain ⟨fb, hfb⟩ : ∃ x, b.few = x := ⟨_, rfl⟩
  have Fb := Lib.hid hfb
  obtain ⟨fz, hfz⟩ : ∃ x, z.few = x := ⟨_, rfl⟩
  have Fz := Lib.hid hfz
  clear hx hE ha hb hz hfa hfb hfz
  have HT := Lib.hid (Ty.cmp_trans a b z)
  have HN := Lib.hid (Ty.cmp_neg a b)
  have HC := Lib.hid (Ty.cmp_cases a b)
  go_enter Tryd.func7, Tryd.ntmps7
  go_wp2_with fail
  generalize hW : ((w.alloc (.cells #[.string a.name, .slice Aa ma ca, .int .i64 a.off] 24)).alloc (.cells #[.string b.name, .slice Ab mb cb, .int .i64 b.off] 24)).alloc (.cells #[.string z.name, .slice Az mz cz, .int .i64 z.off] 24) = W at *
  clear hW
  obtain ⟨a0, a1, a2⟩ := Oa0.out.box
  obtain ⟨b0, b1, b2⟩ := Ob0.out.box
  obtain ⟨z0, z1, z2⟩ := Oz0.out.box
  refine (awake_any L _ B0.out.env).mono ?_
  rintro e w1 ⟨rfl, hb⟩
  clear a0 a1 a2 b0 b1 b2 z0 z1 z2
  have B1 := Lib.hid (B0.out.later hb)
  have Oa1 := Lib.hid (Oa0.out.later hb)
  have Ob1 := Lib.hid (Ob0.out.later hb)
  have Oz1 := Lib.hid (Oz0.out.later hb)
  clear hb B0 Oa0 Ob0 Oz0
  obtain ⟨a0, a1, a2⟩ := Oa1.out.box
  obtain ⟨b0, b1, b2⟩ := Ob1.out.box
  obtain ⟨z0, z1, z2⟩ := Oz1.out.box
  go_wp2_with fail
  refine (few_any a Aa ma ca _ na Oa1.out.here).mono ?_
  rintro e w2 ⟨rfl, hb⟩
  rw [Fa.out]
  clear a0 a1 a2 b0 b1 b2 z0 z1 z2
  have B2 := Lib.hid (B1.out.later hb)
  have Oa2 := Lib.hid (Oa1.out.later hb)
  have Ob2 := Lib.hid (Ob1.out.later hb)
  have Oz2 := Lib.hid (Oz1.out.later hb)
  clear hb B1 Oa1 Ob1 Oz1
  cases fa
  · skip
    obtain ⟨a0, a1, a2⟩ := Oa2.out.box
    obtain ⟨b0, b1, b2⟩ := Ob2.out.box
    obtain ⟨z0, z1, z2⟩ := Oz2.out.box
    go_wp2_with fail
    refine (awake_any L _ B2.out.env).mono ?_
    rintro e w3 ⟨rfl, hb⟩
    clear a0 a1 a2 b0 b1 b2 z0 z1 z2
    have B3 := Lib.hid (B2.out.later hb)
    have Oa3 := Lib.hid (Oa2.out.later hb)
    have Ob3 := Lib.hid (Ob2.out.later hb)
    have Oz3 := Lib.hid (Oz2.out.later hb)
    clear hb B2 Oa2 Ob2 Oz2
    obtain ⟨a0, a1, a2⟩ := Oa3.out.box
    obtain ⟨b0, b1, b2⟩ := Ob3.out.box
    obtain ⟨z0, z1, z2⟩ := Oz3.out.box
    go_wp2_with fail
    go_ret
    exact ⟨rfl, B3.out.below⟩
  obtain ⟨a0, a1, a2⟩ := Oa2.out.box
  obtain ⟨b0, b1, b2⟩ := Ob2.out.box
  obtain ⟨z0, z1, z2⟩ := Oz2.out.box
  go_wp2_with fail
  refine (few_any b Ab mb cb _ nb Ob2.out.here).mono ?_
  rintro e w3 ⟨rfl, hb⟩
  rw [Fb.out]
  clear a0 a1 a2 b0 b1 b2 z0 z1 z2
  have B3 := Lib.hid (B2.out.later hb)
  have Oa3 := Lib.hid (Oa2.out.later hb)
  have Ob3 := Lib.hid (Ob2.out.later hb)
  have Oz3 := Lib.hid (Oz2.out.later hb)
  clear hb B2 Oa2 Ob2 Oz2
  cases fb
  · skip
    obtain ⟨a0, a1, a2⟩ := Oa3.out.box
    obtain ⟨b0, b1, b2⟩ := Ob3.out.box
    obtain ⟨z0, z1, z2⟩ := Oz3.out.box
    go_wp2_with fail
    refine (awake_any L _ B3.out.env).mono ?_
    rintro e w4 ⟨rfl, hb⟩
    clear a0 a1 a2 b0 b1 b2 z0 z1 z2
    have B4 := Lib.hid (B3.out.later hb)
    have Oa4 := Lib.hid (Oa3.out.later hb)
    have Ob4 := Lib.hid (Ob3.out.later hb)
    have Oz4 := Lib.hid (Oz3.out.later hb)
    clear hb B3 Oa3 Ob3 Oz3
    obtain ⟨a0, a1, a2⟩ := Oa4.out.box
    obtain ⟨b0, b1, b2⟩ := Ob4.out.box
    obtain ⟨z0, z1, z2⟩ := Oz4.out.box
    go_wp2_with fail
    go_ret
    exact ⟨rfl, B4.out.below⟩
  obtain ⟨a0, a1, a2⟩ := Oa3.out.box
  obtain ⟨b0, b1, b2⟩ := Ob3.out.box
  obtain ⟨z0, z1, z2⟩ := Oz3.out.box
  go_wp2_with fail
  refine (few_any z Az mz cz _ nz Oz3.out.here).mono ?_
  rintro e w4 ⟨rfl, hb⟩
  rw [Fz.out]
  clear a0 a1 a2 b0 b1 b2 z0 z1 z2
  have B4 := Lib.hid (B3.out.later hb)
  have Oa4 := Lib.hid (Oa3.out.later hb)
  have Ob4 := Lib.hid (Ob3.out.later hb)
  have Oz4 := Lib.hid (Oz3.out.later hb)
  clear hb B3 Oa3 Ob3 Oz3
  cases fz
  · skip
    obtain ⟨a0, a1, a2⟩ := Oa4.out.box
    obtain ⟨b0, b1, b2⟩ := Ob4.out.box
    obtain ⟨z0, z1, z2⟩ := Oz4.out.box
    go_wp2_with fail
    refine (awake_any L _ B4.out.env).mono ?_
    rintro e w5 ⟨rfl, hb⟩
    clear a0 a1 a2 b0 b1 b2 z0 z1 z2
    have B5 := Lib.hid (B4.out.later hb)
    have Oa5 := Lib.hid (Oa4.out.later hb)
    have Ob5 := Lib.hid (Ob4.out.later hb)
    have Oz5 := Lib.hid (Oz4.out.later hb)
    clear hb B4 Oa4 Ob4 Oz4
    obtain ⟨a0, a1, a2⟩ := Oa5.out.box
    obtain ⟨b0, b1, b2⟩ := Ob5.out.box
    obtain ⟨z0, z1, z2⟩ := Oz5.out.box
    go_wp2_with fail
    go_ret
    exact ⟨rfl, B5.out.below⟩
  have Sa := Lib.hid (few_small Fa.out)
  have Sb := Lib.hid (few_small Fb.out)
  have Sz := Lib.hid (few_small Fz.out)
  obtain ⟨a0, a1, a2⟩ := Oa4.out.box
  obtain ⟨b0, b1, b2⟩ := Ob4.out.box
  obtain ⟨z0, z1, z2⟩ := Oz4.out.box
  go_wp2_with fail
  refine (L.cmp a b Aa Ab ma mb ca cb _ Sa.out Sb.out Oa4.out.here Ob4.out.here).mono ?_
  rintro e w5 ⟨rfl, hb⟩
  clear a0 a1 a2 b0 b1 b2 z0 z1 z2
  have B5 := Lib.hid (B4.out.later hb)
  have Oa5 := Lib.hid (Oa4.out.later hb)
  have Ob5 := Lib.hid (Ob4.out.later hb)
  have Oz5 := Lib.hid (Oz4.out.later hb)
  clear hb B4 Oa4 Ob4 Oz4
  obtain ⟨a0, a1, a2⟩ := Oa5.out.box
  obtain ⟨b0, b1, b2⟩ := Ob5.out.box
  obtain ⟨z0, z1, z2⟩ := Oz5.out.box
  go_wp2_with fail
  refine (L.cmp b a Ab Aa mb ma cb ca _ Sb.out Sa.out Ob5.out.here Oa5.out.here).mono ?_
  rintro e w6 ⟨rfl, hb⟩
  clear a0 a1 a2 b0 b1 b2 z0 z1 z2
  have B6 := Lib.hid (B5.out.later hb)
  have Oa6 := Lib.hid (Oa5.out.later hb)
  have Ob6 := Lib.hid (Ob5.out.later hb)
  have Oz6 := Lib.hid (Oz5.out.later hb)
  clear hb B5 Oa5 Ob5 Oz5
  rw [HN.out]
  have CS := Lib.hid (fun V h1 h2 => L.same a b Aa Ab ma mb ca cb V Sa.out Sb.out h1 h2)
  rcases HC.out with hk | hk | hk
  all_goals rw [hk] at CS HT; rw [hk]; clear hk
  · skip
    obtain ⟨a0, a1, a2⟩ := Oa6.out.box
    obtain ⟨b0, b1, b2⟩ := Ob6.out.box
    obtain ⟨z0, z1, z2⟩ := Oz6.out.box
    go_wp2_with fail
    refine (CS.out _ Oa6.out.here Ob6.out.here).mono ?_
    rintro e w7 ⟨rfl, hb⟩
    clear a0 a1 a2 b0 b1 b2 z0 z1 z2
    have B7 := Lib.hid (B6.out.later hb)
    have Oa7 := Lib.hid (Oa6.out.later hb)
    have Ob7 := Lib.hid (Ob6.out.later hb)
    have Oz7 := Lib.hid (Oz6.out.later hb)
    clear hb B6 Oa6 Ob6 Oz6
    obtain ⟨a0, a1, a2⟩ := Oa7.out.box
    obtain ⟨b0, b1, b2⟩ := Ob7.out.box
    obtain ⟨z0, z1, z2⟩ := Oz7.out.box
    go_wp2_with fail
    refine (L.cmp b z Ab Az mb mz cb cz _ Sb.out Sz.out Ob7.out.here Oz7.out.here).mono ?_
    rintro e w8 ⟨rfl, hb⟩
    clear a0 a1 a2 b0 b1 b2 z0 z1 z2
    have B8 := Lib.hid (B7.out.later hb)
    have Oa8 := Lib.hid (Oa7.out.later hb)
    have Ob8 := Lib.hid (Ob7.out.later hb)
    have Oz8 := Lib.hid (Oz7.out.later hb)
    clear hb B7 Oa7 Ob7 Oz7
    by_cases hz : 0 < b.cmp z
    · skip
      obtain ⟨a0, a1, a2⟩ := Oa8.out.box
      obtain ⟨b0, b1, b2⟩ := Ob8.out.box
      obtain ⟨z0, z1, z2⟩ := Oz8.out.box
      go_wp2_with fail
      go_ret
      exact ⟨rfl, B8.out.below⟩
    have hz2 : b.cmp z ≤ 0 := by omega
    have hz3 := HT.out (by omega) hz2
    clear hz
    obtain ⟨a0, a1, a2⟩ := Oa8.out.box
    obtain ⟨b0, b1, b2⟩ := Ob8.out.box
    obtain ⟨z0, z1, z2⟩ := Oz8.out.box
    go_wp2_with fail
    refine (L.cmp a z Aa Az ma mz ca cz _ Sa.out Sz.out Oa8.out.here Oz8.out.here).mono ?_
    rintro e w9 ⟨rfl, hb⟩
    clear a0 a1 a2 b0 b1 b2 z0 z1 z2
    have B9 := Lib.hid (B8.out.later hb)
    have Oa9 := Lib.hid (Oa8.out.later hb)
    have Ob9 := Lib.hid (Ob8.out.later hb)
    have Oz9 := Lib.hid (Oz8.out.later hb)
    clear hb B8 Oa8 Ob8 Oz8
    obtain ⟨a0, a1, a2⟩ := Oa9.out.box
    obtain ⟨b0, b1, b2⟩ := Ob9.out.box
    obtain ⟨z0, z1, z2⟩ := Oz9.out.box
    go_wp2_with fail
    go_ret
    exact ⟨rfl, B9.out.below⟩
  · skip
    obtain ⟨a0, a1, a2⟩ := Oa6.out.box
    obtain ⟨b0, b1, b2⟩ := Ob6.out.box
    obtain ⟨z0, z1, z2⟩ := Oz6.out.box
    go_wp2_with fail
    refine (CS.out _ Oa6.out.here Ob6.out.here).mono ?_
    rintro e w7 ⟨rfl, hb⟩
    clear a0 a1 a2 b0 b1 b2 z0 z1 z2
    have B7 := Lib.hid (B6.out.later hb)
    have Oa7 := Lib.hid (Oa6.out.later hb)
    have Ob7 := Lib.hid (Ob6.out.later hb)
    have Oz7 := Lib.hid (Oz6.out.later hb)
    clear hb B6 Oa6 Ob6 Oz6
    obtain ⟨a0, a1, a2⟩ := Oa7.out.box
    obtain ⟨b0, b1, b2⟩ := Ob7.out.box
    obtain ⟨z0, z1, z2⟩ := Oz7.out.box
    go_wp2_with fail
    refine (L.cmp b z Ab Az mb mz cb cz _ Sb.out Sz.out Ob7.out.here Oz7.out.here).mono ?_
    rintro e w8 ⟨rfl, hb⟩
    clear a0 a1 a2 b0 b1 b2 z0 z1 z2
    have B8 := Lib.hid (B7.out.later hb)
    have Oa8 := Lib.hid (Oa7.out.later hb)
    have Ob8 := Lib.hid (Ob7.out.later hb)
    have Oz8 := Lib.hid (Oz7.out.later hb)
    clear hb B7 Oa7 Ob7 Oz7
    by_cases hz : 0 < b.cmp z
    · skip
      obtain ⟨a0, a1, a2⟩ := Oa8.out.box
      obtain ⟨b0, b1, b2⟩ := Ob8.out.box
      obtain ⟨z0, z1, z2⟩ := Oz8.out.box
      go_wp2_with fail
      go_ret
      exact ⟨rfl, B8.out.below⟩
    have hz2 : b.cmp z ≤ 0 := by omega
    have hz3 := HT.out (by omega) hz2
    clear hz
    obtain ⟨a0, a1, a2⟩ := Oa8.out.box
    obtain ⟨b0, b1, b2⟩ := Ob8.out.box
    obtain ⟨z0, z1, z2⟩ := Oz8.out.box
    go_wp2_with fail
    refine (L.cmp a z Aa Az ma mz ca cz _ Sa.out Sz.out Oa8.out.here Oz8.out.here).mono ?_
    rintro e w9 ⟨rfl, hb⟩
    clear a0 a1 a2 b0 b1 b2 z0 z1 z2
    have B9 := Lib.hid (B8.out.later hb)
    have Oa9 := Lib.hid (Oa8.out.later hb)
    have Ob9 := Lib.hid (Ob8.out.later hb)
    have Oz9 := Lib.hid (Oz8.out.later hb)
    clear hb B8 Oa8 Ob8 Oz8
    obtain ⟨a0, a1, a2⟩ := Oa9.out.box
    obtain ⟨b0, b1, b2⟩ := Ob9.out.box
    obtain ⟨z0, z1, z2⟩ := Oz9.out.box
    go_wp2_with fail
    go_ret
    exact ⟨rfl, B9.out.below⟩
  · skip
    obtain ⟨a0, a1, a2⟩ := Oa6.out.box
    obtain ⟨b0, b1, b2⟩ := Ob6.out.box
    obtain ⟨z0, z1, z2⟩ := Oz6.out.box
    go_wp2_with fail
    refine (CS.out _ Oa6.out.here Ob6.out.here).mono ?_
    rintro e w7 ⟨rfl, hb⟩
    clear a0 a1 a2 b0 b1 b2 z0 z1 z2
    have B7 := Lib.hid (B6.out.later hb)
    have Oa7 := Lib.hid (Oa6.out.later hb)
    have Ob7 := Lib.hid (Ob6.out.later hb)
    have Oz7 := Lib.hid (Oz6.out.later hb)
    clear hb B6 Oa6 Ob6 Oz6
    obtain ⟨a0, a1, a2⟩ := Oa7.out.box
    obtain ⟨b0, b1, b2⟩ := Ob7.out.box
    obtain ⟨z0, z1, z2⟩ := Oz7.out.box
    go_wp2_with fail
    go_ret
    exact ⟨rfl, B7.out.below⟩
end Go.Proofs.YtioamnaknjhbpaaDoor
