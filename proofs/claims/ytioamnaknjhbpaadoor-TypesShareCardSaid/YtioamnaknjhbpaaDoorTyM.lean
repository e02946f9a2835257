/- The laws' look at fixed examples of layer 4. -/
import Derived.Test.YtioamnaknjhbpaaDoorTyL
namespace Go.Proofs.YtioamnaknjhbpaaDoor
open Go.RowKit

def exW (w : World) : World :=
  (((((w.alloc (.cells #[.string ⟨#[98]⟩, .slice none 0 0, .int .i64 0] 24)).alloc (.cells #[.string ⟨#[98]⟩, .slice none 0 0, .int .i64 0] 24)).alloc
    (.cells #[.string ⟨#[97]⟩, .slice none 0 0, .int .i64 0, .string ⟨#[76, 105, 115, 116]⟩, .slice (some ⟨w.heap.size + 1, 0, none⟩) 1 1, .int .i64 0] 24)).alloc
    (.cells #[.string ⟨#[77, 97, 112]⟩, .slice (some ⟨w.heap.size + 2, 0, none⟩) 2 2, .int .i64 0] 24)).alloc (.cells #[.string ⟨#[98]⟩] 9)).alloc (.cells #[.string ⟨#[73, 110, 116]⟩, .slice none 0 0, .int .i64 0] 24)

theorem exW_def (w : World) : (((((w.alloc (.cells #[.string ⟨#[98]⟩, .slice none 0 0, .int .i64 0] 24)).alloc (.cells #[.string ⟨#[98]⟩, .slice none 0 0, .int .i64 0] 24)).alloc (.cells #[.string ⟨#[97]⟩, .slice none 0 0, .int .i64 0, .string ⟨#[76, 105, 115, 116]⟩, .slice (some ⟨w.heap.size + 1, 0, none⟩) 1 1, .int .i64 0] 24)).alloc (.cells #[.string ⟨#[77, 97, 112]⟩, .slice (some ⟨w.heap.size + 2, 0, none⟩) 2 2, .int .i64 0] 24)).alloc (.cells #[.string ⟨#[98]⟩] 9)).alloc (.cells #[.string ⟨#[73, 110, 116]⟩, .slice none 0 0, .int .i64 0] 24) = exW w := rfl
theorem heap_old {w : World} {o x : Obj} {k : Nat} (h : w.heap[k]? = some x) : (w.alloc o).heap[k]? = some x := (Below.heap_alloc w o k (Array.getElem?_eq_some_iff.1 h).1).trans h
theorem heap_new_at {w : World} {o : Obj} {n : Nat} (h : w.heap.size = n) : (w.alloc o).heap[n]? = some o := by subst h; exact heap_alloc_new w o
theorem exW_size (w : World) : (exW w).heap.size = w.heap.size + 6 := by simp [exW]
theorem exW_below (w : World) : Below w.heap.size w (exW w) := by
  unfold exW
  refine ((((((Below.refl _ _).alloc (Nat.le_refl _) _).alloc ?_ _).alloc ?_ _).alloc ?_ _).alloc ?_ _).alloc ?_ _ <;> simp <;> omega
theorem exW_0 (w : World) : (exW w).heap[w.heap.size]? = some (.cells #[.string ⟨#[98]⟩, .slice none 0 0, .int .i64 0] 24) := (heap_old (heap_old (heap_old (heap_old (heap_old (heap_alloc_new w _))))))
theorem exW_1 (w : World) : (exW w).heap[w.heap.size + 1]? = some (.cells #[.string ⟨#[98]⟩, .slice none 0 0, .int .i64 0] 24) := (heap_old (heap_old (heap_old (heap_old (heap_new_at (by simp))))))
theorem exW_2 (w : World) : (exW w).heap[w.heap.size + 2]? = some (.cells #[.string ⟨#[97]⟩, .slice none 0 0, .int .i64 0, .string ⟨#[76, 105, 115, 116]⟩, .slice (some ⟨w.heap.size + 1, 0, none⟩) 1 1, .int .i64 0] 24) := (heap_old (heap_old (heap_old (heap_new_at (by simp)))))
theorem exW_3 (w : World) : (exW w).heap[w.heap.size + 3]? = some (.cells #[.string ⟨#[77, 97, 112]⟩, .slice (some ⟨w.heap.size + 2, 0, none⟩) 2 2, .int .i64 0] 24) := (heap_old (heap_old (heap_new_at (by simp))))
theorem exW_4 (w : World) : (exW w).heap[w.heap.size + 4]? = some (.cells #[.string ⟨#[98]⟩] 9) := (heap_old (heap_new_at (by simp)))
theorem exW_5 (w : World) : (exW w).heap[w.heap.size + 5]? = some (.cells #[.string ⟨#[73, 110, 116]⟩, .slice none 0 0, .int .i64 0] 24) := (heap_new_at (by simp))

/-- A block of types that is known whole. -/
theorem lies_of_row {w : World} {S : Nat → Prop} {g n : Nat} {cs : Array Value} {T : TypeId} {ts : List Ty} (hg : w.heap[g]? = some (.cells cs T)) (hS : S g) (hn : ts.length = n) (hn2 : n ≤ 9223372036854775807)
    (hr : RowsOf w False S cs.toList ts) : Lies w S (some ⟨g, 0, none⟩) n ts := by
  refine ⟨hn, hn2, ArgsIn.of fun k t hk => ?_⟩
  obtain ⟨B, d, c0, c1, c2, hsz, hl⟩ := hr.at hk
  have hcell : ∀ i u, cs.toList[i]? = some u → w.cell? ⟨g, i, none⟩ = some u := fun i u hu => by
    rw [cell_of_row w g i cs T (0, 0) hg]
    simpa using hu
  have ha : (⟨g, 0, none⟩ : Addr).add (k * 3) = ⟨g, k * 3, none⟩ := by unfold Addr.add; split <;> simp_all
  cases t with
  | mk s ys o =>
    rw [Nat.zero_add, TyCells]
    refine ⟨⟨g, 0, none⟩, B, d, rfl, hS, False.elim, ?_, ?_, ?_, hsz, hl.le, hl.args⟩
    · rw [ha]; exact hcell _ _ c0
    · rw [ha]; exact hcell _ _ c1
    · rw [ha]; exact hcell _ _ c2
theorem box_of_row {w : World} {g : Nat} {T : TypeId} {s : ByteArray} {A : Option Addr} {n c : Nat} {o : Int} (hg : w.heap[g]? = some (.cells #[.string s, .slice A n c, .int .i64 o] T)) : Box w g s A n c o := by
  refine ⟨?_, ?_, ?_⟩ <;> (rw [cell_of_row w g _ _ T (0, 0) hg]; rfl)

theorem exW_args (w : World) : Here (exW w) (some ⟨w.heap.size + 2, 0, none⟩) 2 exT.args := by
  have hz := exW_size w
  have hb : Here (exW w) (some ⟨w.heap.size + 1, 0, none⟩) 1 [.mk ⟨#[98]⟩ [] 0] :=
    lies_of_row (exW_1 w) (by show w.heap.size + 1 < _; omega) rfl (by omega) ⟨none, 0, [], rfl, by simp [Ty.name, ByteArray.size], Lies.nil _ _ _, rfl⟩
  exact lies_of_row (exW_2 w) (by show w.heap.size + 2 < _; omega) rfl (by omega) ⟨none, 0, _, rfl, by simp [Ty.name, ByteArray.size], Lies.nil _ _ _, some ⟨w.heap.size + 1, 0, none⟩, 1, [], rfl, by simp [Ty.name, ByteArray.size], hb, rfl⟩
theorem exW_int (w : World) : Here (exW w) (some ⟨w.heap.size + 5, 0, none⟩) 1 [exI] :=
  lies_of_row (exW_5 w) (by show w.heap.size + 5 < _; have := exW_size w; omega) rfl (by omega) ⟨none, 0, [], rfl, by simp [exI, Ty.name, ByteArray.size], Lies.nil _ _ _, rfl⟩
theorem exW_names (w : World) : Sl (exW w) (some ⟨w.heap.size + 4, 0, none⟩) 1 [⟨#[98]⟩] := by
  refine ⟨rfl, fun j p hj => ⟨_, rfl, by show w.heap.size + 4 < _; have := exW_size w; omega, ?_⟩⟩
  have ha : (⟨w.heap.size + 4, 0, none⟩ : Addr).add j = ⟨w.heap.size + 4, j, none⟩ := by unfold Addr.add; split <;> simp_all
  rw [ha, cell_of_row _ _ j _ _ (0, 0) (exW_4 w)]
  cases j with
  | zero => simpa using hj
  | succ j => simp at hj

theorem neqFn (fn : Fn) (tys : Array Value) (cb : Array Value) (w : World) : (binOp .neq 38 (.func fn tys cb) .nilFunc).run Tryd.prog w = .ok (.bool true) w := by kernel_rfl
theorem eqlFn (fn : Fn) (tys : Array Value) (cb : Array Value) (w : World) : (binOp .eql 38 (.func fn tys cb) .nilFunc).run Tryd.prog w = .ok (.bool false) w := by kernel_rfl

/-- What lies while the examples are looked at. -/
structure ExF (W : World) (b tb ab sb : Nat) (A : Option Addr) (m c : Nat) : Prop where
  bb : Box W b ⟨#[98]⟩ none 0 0 0
  bt : Box W tb ⟨#[77, 97, 112]⟩ (some ⟨ab, 0, none⟩) 2 2 0
  bs : Box W sb ⟨#[77, 97, 112]⟩ A m c 0
  at_ : Here W (some ⟨ab, 0, none⟩) 2 exT.args
  as_ : Here W A m exS.args
theorem ExF.later {W W' : World} {b tb ab sb : Nat} {A : Option Addr} {m c : Nat} (h : ExF W b tb ab sb A m c) (hb : Below W.heap.size W W') : ExF W' b tb ab sb A m c :=
  ⟨h.bb.later hb, h.bt.later hb, h.bs.later hb, h.at_.later hb, h.as_.later hb⟩

/-- The contracts at the examples, in bare values. -/
structure ExC (L : TypesOk) : Prop where
  textT : ∀ A c W, Here W A 2 exT.args → Calls Tryd.prog 14 #[.agg #[.string ⟨#[77, 97, 112]⟩, .slice A 2 c, .int .i64 0]] W (TxtPost W [77, 97, 112, 91, 97, 44, 32, 76, 105, 115, 116, 91, 98, 93, 93])
  textS : ∀ A m c W, Here W A m exS.args → Calls Tryd.prog 14 #[.agg #[.string ⟨#[77, 97, 112]⟩, .slice A m c, .int .i64 0]] W (TxtPost W [77, 97, 112, 91, 97, 44, 32, 76, 105, 115, 116, 91, 73, 110, 116, 93, 93])
  depthT : ∀ A c W, Here W A 2 exT.args → Calls Tryd.prog 16 #[.agg #[.string ⟨#[77, 97, 112]⟩, .slice A 2 c, .int .i64 0]] W (NatPost W 3)
  sizeT : ∀ A c W, Here W A 2 exT.args → Calls Tryd.prog 18 #[.agg #[.string ⟨#[77, 97, 112]⟩, .slice A 2 c, .int .i64 0]] W (NatPost W 4)
  rightT : ∀ A c W, ResVar W → Here W A 2 exT.args → Calls Tryd.prog 20 #[.agg #[.string ⟨#[77, 97, 112]⟩, .slice A 2 c, .int .i64 0]] W (EqvPost W true)
  sameT : ∀ A c W, Here W A 2 exT.args → Calls Tryd.prog 13 #[.agg #[.string ⟨#[77, 97, 112]⟩, .slice A 2 c, .int .i64 0], .agg #[.string ⟨#[77, 97, 112]⟩, .slice A 2 c, .int .i64 0]] W (EqvPost W true)
  sameS : ∀ A c B m d W, Here W A 2 exT.args → Here W B m exS.args → Calls Tryd.prog 13 #[.agg #[.string ⟨#[77, 97, 112]⟩, .slice A 2 c, .int .i64 0], .agg #[.string ⟨#[77, 97, 112]⟩, .slice B m d, .int .i64 0]] W (EqvPost W false)
  cmpB : ∀ A c W, Here W A 2 exT.args → Calls Tryd.prog 11 #[.agg #[.string ⟨#[98]⟩, .slice none 0 0, .int .i64 0], .agg #[.string ⟨#[77, 97, 112]⟩, .slice A 2 c, .int .i64 0]] W (CmpPost W 1)
  namesT : ∀ A c W, Here W A 2 exT.args → Calls Tryd.prog 28 #[.agg #[.string ⟨#[77, 97, 112]⟩, .slice A 2 c, .int .i64 0]] W (FnPost W)
theorem exC (L : TypesOk) : ExC L where
  textT A c W h := by have := L.text exT A 2 c W exT_small h; rwa [exT_text] at this
  textS A m c W h := by have := L.text exS A m c W exS_small h; rwa [exS_text] at this
  depthT A c W h := by have := L.depth exT A 2 c W exT_small h; rwa [exT_depth] at this
  sizeT A c W h := by have := L.size exT A 2 c W exT_small h; rwa [exT_size] at this
  rightT A c W hE h := by have := L.right exT A 2 c W hE exT_small h; rwa [exT_right] at this
  sameT A c W h := by have := L.same exT exT A A 2 2 c c W exT_small exT_small h h; rwa [exTT] at this
  sameS A c B m d W h h2 := by have := L.same exT exS A B 2 m c d W exT_small exS_small h h2; rwa [exTS] at this
  cmpB A c W h := by have := L.cmp exB exT none A 0 2 0 c W exB_small exT_small (Lies.nil _ _ _) h; rwa [exBT] at this
  namesT A c W h := L.names exT A 2 c W exT_small h

set_option maxRecDepth 100000 in
set_option maxHeartbeats 4000000 in
theorem awake_any (L : TypesOk) (w : World) (hE : ResVar w) :
    Calls Tryd.prog 9 #[] w fun e w' => e = .returned (.bool true) ∧ Below w.heap.size w w' := by
  have X := exC L
  have C1 := Lib.hid ((L.subst [⟨#[98]⟩] [exI] _ _ 1 1 1 1 exT _ 2 2 _ (by intro u hu; rw [List.mem_singleton.1 hu]; exact exI_small) exT_small (by omega) (by omega) (fits_b 98) (exW_args w) (exW_names w) (exW_int w)))
  rw [exT_subst] at C1
  have HT := Lib.hid (show Here (exW w) (some ⟨w.heap.size + 1 + 1, 0, none⟩) 2 exT.args from exW_args w)
  have B0 := Lib.hid (box_of_row (exW_0 w))
  have B3 := Lib.hid (show Box (exW w) (w.heap.size + 1 + 1 + 1) ⟨#[77, 97, 112]⟩ (some ⟨w.heap.size + 1 + 1, 0, none⟩) 2 2 0 from box_of_row (exW_3 w))
  have HB := Lib.hid (exW_below w)
  have HE := Lib.hid (hE.later (exW_below w))
  go_enter Tryd.func9, Tryd.ntmps9
  go_wp2_with fail
  rw [exW_def]
  generalize exW w = W at *
  refine C1.out.mono ?_
  rintro e w1 ⟨A1, m1, c1, rfl, _, hl1, hb1⟩
  simp only [show exS.name = ⟨#[77, 97, 112]⟩ from rfl, show exS.off = 0 from rfl] at *
  have hb2 : Below w1.heap.size w1 (w1.alloc (.cells #[.string ⟨#[77, 97, 112]⟩, .slice A1 m1 c1, .int .i64 0] 24)) := (Below.refl _ _).alloc (Nat.le_refl _) _
  have hb3 := hb1.trans (hb2.mono hb1.size)
  have F := Lib.hid (ExF.mk (B0.out.later hb3) (B3.out.later hb3) (Box.new w1 ⟨#[77, 97, 112]⟩ A1 m1 c1 0 24) (Here.later HT.out hb3) ((Lies.here hl1).later hb2))
  have HE2 := Lib.hid (HE.out.later hb3)
  have HB2 := Lib.hid (HB.out.trans (hb3.mono HB.out.size))
  clear hb1 hb2 hb3 hl1
  obtain ⟨b0, b1, b2⟩ := F.out.bb
  obtain ⟨t0, t1, t2⟩ := F.out.bt
  obtain ⟨s0, s1, s2⟩ := F.out.bs
  go_wp2_with fail
  refine (X.textT _ _ _ F.out.at_).mono ?_
  rintro e w2 ⟨rfl, hb⟩
  have F2 := Lib.hid (F.out.later hb)
  have HE3 := Lib.hid (HE2.out.later hb)
  have HB3 := Lib.hid (HB2.out.trans (hb.mono HB2.out.size))
  clear hb b0 b1 b2 t0 t1 t2 s0 s1 s2 F HE2 HB2
  obtain ⟨b0, b1, b2⟩ := F2.out.bb
  obtain ⟨t0, t1, t2⟩ := F2.out.bt
  obtain ⟨s0, s1, s2⟩ := F2.out.bs
  go_wp2_with fail
  refine (X.textS _ _ _ _ F2.out.as_).mono ?_
  rintro e w3 ⟨rfl, hb⟩
  have F3 := Lib.hid (F2.out.later hb)
  have HE4 := Lib.hid (HE3.out.later hb)
  have HB4 := Lib.hid (HB3.out.trans (hb.mono HB3.out.size))
  clear hb b0 b1 b2 t0 t1 t2 s0 s1 s2 F2 HE3 HB3
  obtain ⟨b0, b1, b2⟩ := F3.out.bb
  obtain ⟨t0, t1, t2⟩ := F3.out.bt
  obtain ⟨s0, s1, s2⟩ := F3.out.bs
  go_wp2_with fail
  refine (X.depthT _ _ _ F3.out.at_).mono ?_
  rintro e w4 ⟨rfl, hb⟩
  have F4 := Lib.hid (F3.out.later hb)
  have HE5 := Lib.hid (HE4.out.later hb)
  have HB5 := Lib.hid (HB4.out.trans (hb.mono HB4.out.size))
  clear hb b0 b1 b2 t0 t1 t2 s0 s1 s2 F3 HE4 HB4
  obtain ⟨b0, b1, b2⟩ := F4.out.bb
  obtain ⟨t0, t1, t2⟩ := F4.out.bt
  obtain ⟨s0, s1, s2⟩ := F4.out.bs
  go_wp2_with fail
  refine (X.sizeT _ _ _ F4.out.at_).mono ?_
  rintro e w5 ⟨rfl, hb⟩
  have F5 := Lib.hid (F4.out.later hb)
  have HE6 := Lib.hid (HE5.out.later hb)
  have HB6 := Lib.hid (HB5.out.trans (hb.mono HB5.out.size))
  clear hb b0 b1 b2 t0 t1 t2 s0 s1 s2 F4 HE5 HB5
  obtain ⟨b0, b1, b2⟩ := F5.out.bb
  obtain ⟨t0, t1, t2⟩ := F5.out.bt
  obtain ⟨s0, s1, s2⟩ := F5.out.bs
  go_wp2_with fail
  refine (X.rightT _ _ _ HE6.out F5.out.at_).mono ?_
  rintro e w6 ⟨rfl, hb⟩
  have F6 := Lib.hid (F5.out.later hb)
  have HB7 := Lib.hid (HB6.out.trans (hb.mono HB6.out.size))
  clear hb b0 b1 b2 t0 t1 t2 s0 s1 s2 F5 HB6
  obtain ⟨b0, b1, b2⟩ := F6.out.bb
  obtain ⟨t0, t1, t2⟩ := F6.out.bt
  obtain ⟨s0, s1, s2⟩ := F6.out.bs
  go_wp2_with fail
  refine (X.sameT _ _ _ F6.out.at_).mono ?_
  rintro e w7 ⟨rfl, hb⟩
  have F7 := Lib.hid (F6.out.later hb)
  have HB8 := Lib.hid (HB7.out.trans (hb.mono HB7.out.size))
  clear hb b0 b1 b2 t0 t1 t2 s0 s1 s2 F6 HB7
  obtain ⟨b0, b1, b2⟩ := F7.out.bb
  obtain ⟨t0, t1, t2⟩ := F7.out.bt
  obtain ⟨s0, s1, s2⟩ := F7.out.bs
  go_wp2_with fail
  refine (X.sameS _ _ _ _ _ _ F7.out.at_ F7.out.as_).mono ?_
  rintro e w8 ⟨rfl, hb⟩
  have F8 := Lib.hid (F7.out.later hb)
  have HB9 := Lib.hid (HB8.out.trans (hb.mono HB8.out.size))
  clear hb b0 b1 b2 t0 t1 t2 s0 s1 s2 F7 HB8
  obtain ⟨b0, b1, b2⟩ := F8.out.bb
  obtain ⟨t0, t1, t2⟩ := F8.out.bt
  obtain ⟨s0, s1, s2⟩ := F8.out.bs
  go_wp2_with fail
  refine (X.cmpB _ _ _ F8.out.at_).mono ?_
  rintro e w9 ⟨rfl, hb⟩
  have F9 := Lib.hid (F8.out.later hb)
  have HB10 := Lib.hid (HB9.out.trans (hb.mono HB9.out.size))
  clear hb b0 b1 b2 t0 t1 t2 s0 s1 s2 F8 HB9
  obtain ⟨b0, b1, b2⟩ := F9.out.bb
  obtain ⟨t0, t1, t2⟩ := F9.out.bt
  obtain ⟨s0, s1, s2⟩ := F9.out.bs
  go_wp2_with fail
  refine (X.namesT _ _ _ F9.out.at_).mono ?_
  rintro e w10 ⟨fn, tys, cb, rfl, hb⟩
  have HB11 := Lib.hid (HB10.out.trans (hb.mono HB10.out.size))
  clear hb b0 b1 b2 t0 t1 t2 s0 s1 s2 F9 HB10
  have nq := neqFn fn tys cb
  go_wp2_with fail
  go_ret
  exact ⟨rfl, HB11.out⟩
end Go.Proofs.YtioamnaknjhbpaaDoor
