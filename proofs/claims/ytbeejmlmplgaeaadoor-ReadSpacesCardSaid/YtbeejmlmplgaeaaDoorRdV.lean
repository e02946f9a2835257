/- The walks of the helper told of layer 7's laws, and of their look at fixed examples. The conditions: the table of words, the variable of package errors. -/
import Derived.Test.YtbeejmlmplgaeaaDoorRdW
import Derived.Test.YtbeejmlmplgaeaaDoorEfC
import Derived.Test.YtbeejmlmplgaeaaDoorTyF
namespace Go.Proofs.YtbeejmlmplgaeaaDoor.Rd
open Go.RowKit

/-- The code and the offset of an outcome. -/
def Out.code {α : Type} : Out α → Int
  | .good _ => 0
  | .err c _ => c
def Out.at {α : Type} : Out α → Int
  | .good _ => 0
  | .err _ o => o
def BoolPost (b : Bool) (w : World) (e : Ending) (w' : World) : Prop := e = .returned (.bool b) ∧ Below w.heap.size w w'
set_option maxRecDepth 100000 in
set_option maxHeartbeats 1000000 in
theorem told_nil (a : Int) (w : World) : Calls Tryd.prog 20 #[.nilIface, .int .i64 0, .int .i64 a] w (BoolPost true w) := by
  go_enter Tryd.func20, Tryd.ntmps20
  go_wp2_with fail
  go_ret
  exact ⟨rfl, Below.refl _ _⟩
set_option maxRecDepth 100000 in
set_option maxHeartbeats 1000000 in
theorem told_fault (c a : Int) (w : World) (hc : c = 1 ∨ c = 2) (hE : ErrVar w) : Calls Tryd.prog 20 #[faultV c a, .int .i64 c, .int .i64 a] w (BoolPost true w) := by
  have e0 : (c == 0) = false := by rcases hc with rfl | rfl <;> rfl
  have C := Lib.hid (code_fault c a w hE)
  have D := Lib.hid (fun w hE => at_fault c a w hE)
  have HE := Lib.hid hE
  unfold faultV at *
  clear hc hE
  go_enter Tryd.func20, Tryd.ntmps20
  go_wp2_with fail
  refine C.out.mono ?_
  rintro e w1 ⟨rfl, hb1⟩
  have HE1 := Lib.hid (HE.out.later hb1)
  have HB1 := Lib.hid hb1
  clear hb1
  go_wp2_with fail
  refine (D.out _ HE1.out).mono ?_
  rintro e w2 ⟨rfl, hb2⟩
  have HB2 := Lib.hid (HB1.out.trans (hb2.mono HB1.out.size))
  clear hb2
  go_wp2_with fail
  go_ret
  exact ⟨ret_bool (by simp), HB2.out⟩
theorem told_out {α : Type} (o : Out α) (w : World) (ho : ∀ c a, o = .err c a → c = 1 ∨ c = 2) (hE : ErrVar w) : Calls Tryd.prog 20 #[o.errV, .int .i64 o.code, .int .i64 o.at] w (BoolPost true w) := by
  cases o with
  | good v => exact told_nil 0 w
  | err c a => exact told_fault c a w (ho c a rfl) hE
theorem wholeO_code {α : Type} (f : List Tk → Got α) (s : ByteArray) (c a : Int) (h : wholeO f s = .err c a) : c = 1 ∨ c = 2 := by
  unfold wholeO at h
  split at h
  · injection h with h1 h2
    exact .inl h1.symm
  · unfold endO at h
    split at h
    · split at h
      · cases h
      · injection h with h1 h2
        exact .inr h1.symm
    · injection h with h1 h2
      exact .inr h1.symm

/-- 'x.f(y).(T)' -/
def aw1 : ByteArray := ⟨#[120, 46, 102, 40, 121, 41, 46, 40, 84, 41]⟩
/-- 'Map[a, List[b]]' -/
def aw2 : ByteArray := ⟨#[77, 97, 112, 91, 97, 44, 32, 76, 105, 115, 116, 91, 98, 93, 93]⟩
/-- 'x.' -/
def aw3 : ByteArray := ⟨#[120, 46]⟩
/-- 'a, b' -/
def aw4 : ByteArray := ⟨#[97, 44, 32, 98]⟩
def awE : Ex := exAssert (.mk ⟨#[84]⟩ [] 8) (exCall ⟨#[102]⟩ [] [exVar ⟨#[120]⟩ 0, exVar ⟨#[121]⟩ 4] 2) 7
def awT : Ty := .mk ⟨#[77, 97, 112]⟩ [.mk ⟨#[97]⟩ [] 4, .mk ⟨#[76, 105, 115, 116]⟩ [.mk ⟨#[98]⟩ [] 12] 7] 0
theorem aw_left1 : left aw1 0 = .ok [⟨1, [120], 0⟩, ⟨2, [46], 1⟩, ⟨1, [102], 2⟩, ⟨2, [40], 3⟩, ⟨1, [121], 4⟩, ⟨2, [41], 5⟩, ⟨2, [46], 6⟩, ⟨2, [40], 7⟩, ⟨1, [84], 8⟩, ⟨2, [41], 9⟩] := by unfold left; rw [List.drop_zero]; rfl
theorem aw_left2 : left aw2 0 = .ok [⟨1, [77, 97, 112], 0⟩, ⟨2, [91], 3⟩, ⟨1, [97], 4⟩, ⟨2, [44], 5⟩, ⟨1, [76, 105, 115, 116], 7⟩, ⟨2, [91], 11⟩, ⟨1, [98], 12⟩, ⟨2, [93], 13⟩, ⟨2, [93], 14⟩] := by unfold left; rw [List.drop_zero]; rfl
theorem aw_left3 : left aw3 0 = .ok [⟨1, [120], 0⟩, ⟨2, [46], 1⟩] := by unfold left; rw [List.drop_zero]; rfl
theorem aw_left4 : left aw4 0 = .ok [⟨1, [97], 0⟩, ⟨2, [44], 1⟩, ⟨1, [98], 3⟩] := by unfold left; rw [List.drop_zero]; rfl
theorem aw_o1 : exO aw1 = .good awE := by unfold exO wholeO; rw [aw_left1]; rfl
theorem aw_o2 : tyO aw2 = .good awT := by unfold tyO wholeO; rw [aw_left2]; rfl
theorem aw_o3 : exO aw3 = .err 2 2 := by unfold exO wholeO; rw [aw_left3]; rfl
theorem fullN : full [⟨1, [97], 0⟩, ⟨2, [44], 1⟩, ⟨1, [98], 3⟩] aw4.size = [⟨1, ⟨#[97]⟩, 0⟩, ⟨2, ⟨#[44]⟩, 1⟩, ⟨1, ⟨#[98]⟩, 3⟩, ⟨3, ⟨#[]⟩, 4⟩] := rfl
theorem aw_tokens (w : World) : Calls Tryd.prog 17 #[.string ⟨#[97, 44, 32, 98]⟩] w fun e w' => ∃ A cap, e = .returned (.tuple #[.slice A 4 cap, .nilIface]) ∧ TS w' A 4 [⟨1, ⟨#[97]⟩, 0⟩, ⟨2, ⟨#[44]⟩, 1⟩, ⟨1, ⟨#[98]⟩, 3⟩, ⟨3, ⟨#[]⟩, 4⟩] ∧ Below w.heap.size w w' :=
  (lex_tokens_any aw4 w (by decide)).mono fun e w' ⟨hb, h⟩ => by
    rw [aw_left4] at h
    obtain ⟨A, c, he, ht⟩ := h
    exact ⟨A, c, he, ht, hb⟩
theorem aw_ok : Tidy [⟨1, ⟨#[97]⟩, 0⟩, ⟨2, ⟨#[44]⟩, 1⟩, ⟨1, ⟨#[98]⟩, 3⟩, ⟨3, ⟨#[]⟩, 4⟩] ∧ ∀ t ∈ ([⟨1, ⟨#[97]⟩, 0⟩, ⟨2, ⟨#[44]⟩, 1⟩, ⟨1, ⟨#[98]⟩, 3⟩, ⟨3, ⟨#[]⟩, 4⟩] : List Tk), t.s.size ≤ 100000 := by
  have h := full_ok (s := aw4) aw_left4 (by decide)
  rw [fullN] at h
  exact ⟨h.1, h.2.2⟩
/-- What the look at fixed examples has read, in blocks below c0. -/
structure AwOk (W : World) (c0 b1 b3 : Nat) (us vs : List Value) (a : Addr) : Prop where
  e : Boxd W b1 us
  k : W.cell? a = some (.int .i64 2)
  t : Boxd W b3 vs
  ty : awT.dat.In W False (· < c0) vs
  err : ErrVar W
  lt : b1 < c0 ∧ b3 < c0 ∧ a.block < c0 ∧ 1 < c0
theorem AwOk.later {W W' : World} {c0 b1 b3 : Nat} {us vs : List Value} {a : Addr} (h : AwOk W c0 b1 b3 us vs a) (hb : Below c0 W W') : AwOk W' c0 b1 b3 us vs a :=
  ⟨fun j u hu => (hb.cell (p := ⟨b1, j, none⟩) h.lt.1).trans (h.e j u hu), (hb.cell h.lt.2.2.1).trans h.k, fun j u hu => (hb.cell (p := ⟨b3, j, none⟩) h.lt.2.1).trans (h.t j u hu), h.ty.later hb fun _ h => h, (hb.cell (p := ⟨1, 0, none⟩) h.lt.2.2.2).trans h.err, h.lt⟩
theorem cur_err {w w' : World} {c c0 : Nat} (h : w.grownBy w' (some c)) (h1 : c0 ≤ c) (h2 : c ≤ w.heap.size) : Below c0 w w' := (gb_below h h2).mono h1

set_option maxRecDepth 100000 in
set_option maxHeartbeats 16000000 in
theorem awake_any (w : World) (hR : ResVar w) (hE : ErrVar w) : Calls Tryd.prog 5 #[] w (BoolPost true w) := by
  have C1 := Lib.hid (show Calls Tryd.prog 12 #[.string ⟨#[120, 46, 102, 40, 121, 41, 46, 40, 84, 41]⟩] w (fun e w' => ∃ us, e = .returned (.tuple #[.agg us.toArray, .nilIface]) ∧ awE.dat.In w' False (Fr w.heap.size w') us ∧ Below w.heap.size w w') from
    (readEx_any aw1 w (by decide) hR).mono fun e w' h => by
      obtain ⟨us, h1, h2, h3⟩ := h
      rw [aw_o1] at h1 h2
      exact ⟨us, h1, h2, h3⟩)
  have HR := Lib.hid hR
  have HE := Lib.hid hE
  clear hR hE
  go_enter Tryd.func5, Tryd.ntmps5
  go_wp2_with fail
  refine C1.out.mono ?_
  rintro e w1 ⟨us, rfl, hd, hb⟩
  obtain ⟨A1, m1, a1, B1, l1, b1, K1, n1, k1, rfl, -, -, -, -, hkids⟩ := ex_open hd
  obtain ⟨a, y, ys, rfl, hy, hS, -, hyd, hcs⟩ := kid_at hkids (show 0 < n1 by have := hkids.len; rw [Ex.dats_len] at this; rw [← this]; decide)
  have hn1 : n1 = 1 := by have := hkids.len; rw [Ex.dats_len] at this; rw [← this]; rfl
  subst hn1
  have hk2 : w1.cell? a = some (.int .i64 2) := by
    obtain rfl : exCall ⟨#[102]⟩ [] [exVar ⟨#[120]⟩ 0, exVar ⟨#[121]⟩ 4] 2 = y := by
      have : (awE.kids)[0]? = some (exCall ⟨#[102]⟩ [] [exVar ⟨#[120]⟩ 0, exVar ⟨#[121]⟩ 4] 2) := rfl
      exact Option.some.inj (this.symm.trans hy)
    obtain ⟨z1, z2, z3, z4, z5, z6, z7, z8, z9, rfl, -⟩ := ex_open hyd
    have h := hcs 0 _ rfl
    rw [Nat.zero_mul, show (a.add 0).add 0 = a by simp [Addr.add]] at h
    exact h
  have HK := Lib.hid hk2
  have HKL := Lib.hid hS.2
  have HR1 := Lib.hid (HR.out.later hb)
  have HE1 := Lib.hid (HE.out.later hb)
  have HB1 := Lib.hid hb
  obtain ⟨W1, hW1⟩ : ∃ W, w1.alloc (.cells #[.int .i64 awE.kind, .string awE.name, .string awE.ty.name, .slice A1 m1 a1, .int .i64 awE.ty.off, .slice B1 l1 b1, .slice (some a) 1 k1, .int .i64 awE.off] 27) = W := ⟨_, rfl⟩
  have hb1 : Below w1.heap.size w1 W1 := hW1 ▸ (Below.refl _ _).alloc (Nat.le_refl _) _
  have HX1 := Lib.hid (show Boxd W1 w1.heap.size [.int .i64 awE.kind, .string awE.name, .string awE.ty.name, .slice A1 m1 a1, .int .i64 awE.ty.off, .slice B1 l1 b1, .slice (some a) 1 k1, .int .i64 awE.off] from hW1 ▸ Boxd.new w1 #[.int .i64 awE.kind, .string awE.name, .string awE.ty.name, .slice A1 m1 a1, .int .i64 awE.ty.off, .slice B1 l1 b1, .slice (some a) 1 k1, .int .i64 awE.off] 27)
  have HW1 := Lib.hid hW1
  have HBW1 := Lib.hid hb1
  have HS1 := Lib.hid (show W1.heap.size = w1.heap.size + 1 by rw [← hW1]; simp)
  have C2 := Lib.hid (show Calls Tryd.prog 10 #[.string ⟨#[77, 97, 112, 91, 97, 44, 32, 76, 105, 115, 116, 91, 98, 93, 93]⟩] W1 (fun e w' => ∃ us, e = .returned (.tuple #[.agg us.toArray, .nilIface]) ∧ awT.dat.In w' False (Fr W1.heap.size w') us ∧ Below W1.heap.size W1 w') from
    (readTy_any aw2 W1 (by decide) (HR1.out.later hb1)).mono fun e w' h => by
      obtain ⟨us, h1, h2, h3⟩ := h
      rw [aw_o2] at h1 h2
      exact ⟨us, h1, h2, h3⟩)
  clear hd hb hkids hy hS hyd hcs hk2 C1 hW1 hb1
  go_wp2_with fail
  rw [HW1.out]
  refine C2.out.mono ?_
  rintro e w2 ⟨vs, rfl, hd, hb⟩
  obtain ⟨A2, m2, c2, rfl, -⟩ := ty_open hd
  obtain ⟨W2, hW2⟩ : ∃ W, w2.alloc (.cells #[.string awT.name, .slice A2 m2 c2, .int .i64 awT.off] 24) = W := ⟨_, rfl⟩
  have hb2 : Below w2.heap.size w2 W2 := hW2 ▸ (Below.refl _ _).alloc (Nat.le_refl _) _
  have hs2 : W2.heap.size = w2.heap.size + 1 := by rw [← hW2]; simp
  have hall : Below w1.heap.size w1 W2 := (HBW1.out.trans (hb.mono HBW1.out.size)).trans (hb2.mono (Nat.le_trans HBW1.out.size hb.size))
  have HAW := Lib.hid (show AwOk W2 W2.heap.size w1.heap.size w2.heap.size [.int .i64 awE.kind, .string awE.name, .string awE.ty.name, .slice A1 m1 a1, .int .i64 awE.ty.off, .slice B1 l1 b1, .slice (some a) 1 k1, .int .i64 awE.off] [.string awT.name, .slice A2 m2 c2, .int .i64 awT.off] a from
    ⟨(HX1.out.later hb).later hb2, (hall.cell HKL.out).trans HK.out, hW2 ▸ Boxd.new w2 #[.string awT.name, .slice A2 m2 c2, .int .i64 awT.off] 24, (hd.later hb2 fun k hk => hk.2).wide fun k hk => by have := hk.2; omega, HE1.out.later hall, by have := HS1.out; have := hb.size; omega, by omega, by have := HKL.out; have := hall.size; omega, by have := cell_lt (HE1.out.later hall); exact this⟩)
  have HR2 := Lib.hid (HR1.out.later hall)
  have HB2 := Lib.hid (HB1.out.trans (hall.mono HB1.out.size))
  have HW2 := Lib.hid hW2
  have C3 := Lib.hid (show Calls Tryd.prog 12 #[.string ⟨#[120, 46]⟩] W2 (fun e w' => ∃ us, e = .returned (.tuple #[.agg us.toArray, .iface 90 (.agg #[.int .i64 2, .int .i64 2])]) ∧ exNone.dat.In w' False (Fr W2.heap.size w') us ∧ Below W2.heap.size W2 w') from
    (readEx_any aw3 W2 (by decide) HR2.out).mono fun e w' h => by
      obtain ⟨us, h1, h2, h3⟩ := h
      rw [aw_o3] at h1 h2
      exact ⟨us, h1, h2, h3⟩)
  clear hd hb C2 hW2 hb2 hall HX1 HK HKL HBW1 HE1 HR1 HW1
  go_wp2_with fail
  rw [HW2.out]
  refine C3.out.mono ?_
  rintro e w3 ⟨xs, rfl, hd, hb⟩
  obtain ⟨A3, m3, a3, B3, l3, b3, K3, n3, k3, rfl, -⟩ := ex_open hd
  obtain ⟨W3, hW3⟩ : ∃ W, w3.alloc (.cells #[.int .i64 exNone.kind, .string exNone.name, .string exNone.ty.name, .slice A3 m3 a3, .int .i64 exNone.ty.off, .slice B3 l3 b3, .slice K3 n3 k3, .int .i64 exNone.off] 27) = W := ⟨_, rfl⟩
  have hb3 : Below w3.heap.size w3 W3 := hW3 ▸ (Below.refl _ _).alloc (Nat.le_refl _) _
  have hall : Below W2.heap.size W2 W3 := hb.trans (hb3.mono hb.size)
  have HR3 := Lib.hid (HR2.out.later hall)
  have HB3 := Lib.hid (HB2.out.trans (hall.mono HB2.out.size))
  have HA3 := Lib.hid (HAW.out.later hall)
  have HS23 := Lib.hid hall.size
  have HW3 := Lib.hid hW3
  have C4 := Lib.hid (aw_tokens W3)
  clear hd hb C3 hW3 hb3 hall HAW HW2 HR2
  go_wp2_with fail
  rw [HW3.out]
  refine C4.out.mono ?_
  rintro e w4 ⟨A4, c4, rfl, hts, hb⟩
  have HR4 := Lib.hid (HR3.out.later hb)
  have HB4 := Lib.hid (HB3.out.trans (hb.mono HB3.out.size))
  have HA4 := Lib.hid (HA3.out.later (hb.mono HS23.out))
  have hs34 : W2.heap.size ≤ w4.heap.size := Nat.le_trans HS23.out hb.size
  have C5 := Lib.hid (new_cursor A4 4 c4 _ w4 aw_ok.1 (by decide) aw_ok.2 HR4.out hts)
  clear hts hb C4 HW3 HR3
  go_wp2_with fail
  refine C5.out.mono ?_
  rintro e w5 ⟨c, rfl, hc, hcur, hb⟩
  have HC5 := Lib.hid hcur
  have HB5 := Lib.hid (HB4.out.trans (hb.mono HB4.out.size))
  have HA5 := Lib.hid (HA4.out.later (hb.mono hs34))
  have HCC := Lib.hid (show W2.heap.size ≤ c from Nat.le_trans hs34 hc)
  have HWC := Lib.hid (show w.heap.size ≤ c from Nat.le_trans HB2.out.size HCC.out)
  have C6 := Lib.hid (show Calls Tryd.prog 19 #[.pointer (some ⟨c, 0, none⟩)] w5 (fun e w' => e = .returned (.tuple #[.string ⟨#[97]⟩, .int .i64 0]) ∧ Cur w' c [⟨2, ⟨#[44]⟩, 1⟩, ⟨1, ⟨#[98]⟩, 3⟩, ⟨3, ⟨#[]⟩, 4⟩] false ∧ w5.grownBy w' (some c)) from
    (name_any c _ false w5 hcur).mono fun e w' h => by
      obtain ⟨t, h1, -, h2, h3⟩ := h
      rw [show stop false [⟨1, ⟨#[97]⟩, 0⟩, ⟨2, ⟨#[44]⟩, 1⟩, ⟨1, ⟨#[98]⟩, 3⟩, ⟨3, ⟨#[]⟩, 4⟩] (name [⟨1, ⟨#[97]⟩, 0⟩, ⟨2, ⟨#[44]⟩, 1⟩, ⟨1, ⟨#[98]⟩, 3⟩, ⟨3, ⟨#[]⟩, 4⟩]) = Got.ok ⟨1, ⟨#[97]⟩, 0⟩ [⟨2, ⟨#[44]⟩, 1⟩, ⟨1, ⟨#[98]⟩, 3⟩, ⟨3, ⟨#[]⟩, 4⟩] from rfl] at h2
      obtain ⟨rfl, h2⟩ := h2
      exact ⟨h1, h2, h3⟩)
  have HLT5 := Lib.hid hcur.lt
  clear hc hcur hb C5
  go_wp2_with fail
  refine C6.out.mono ?_
  rintro e w6 ⟨rfl, hcur, hg⟩
  have HC6 := Lib.hid hcur
  have HB6 := Lib.hid (HB5.out.trans (cur_err hg HWC.out (Nat.le_of_lt HLT5.out)))
  have HA6 := Lib.hid (HA5.out.later (cur_err hg HCC.out (Nat.le_of_lt HLT5.out)))
  clear hcur hg C6
  obtain ⟨g1, hg1⟩ : ∃ g, g = w1.heap.size := ⟨_, rfl⟩
  rw [← hg1] at HA6 ⊢
  have x0 : w6.cell? ⟨g1, 0, none⟩ = some (.int .i64 5) := HA6.out.e 0 _ rfl
  have x6 := HA6.out.e 6 _ rfl
  have x7 : w6.cell? ⟨g1, 7, none⟩ = some (.int .i64 7) := HA6.out.e 7 _ rfl
  clear hg1
  have xk := HA6.out.k
  have t0 := HA6.out.t 0 _ rfl
  have t1 := HA6.out.t 1 _ rfl
  have t2 := HA6.out.t 2 _ rfl
  have CT := Lib.hid (show Calls Tryd.prog 11 #[.agg #[.string awT.name, .slice A2 m2 c2, .int .i64 awT.off]] w6 (TxtPost w6 [77, 97, 112, 91, 97, 44, 32, 76, 105, 115, 116, 91, 98, 93, 93]) from by
    obtain ⟨A, m, cc, e, hn, hl⟩ := ty_open HA6.out.ty
    simp only [List.cons.injEq, Value.slice.injEq, and_true, true_and] at e
    obtain ⟨rfl, rfl, rfl⟩ := e
    have h := ref_text_any awT A2 m2 c2 w6 (by decide) (LiesN.wide hl fun k hk => by have := HC6.out.lt; have := HCC.out; omega)
    rwa [show awT.text = [77, 97, 112, 91, 97, 44, 32, 76, 105, 115, 116, 91, 98, 93, 93] from by simp [awT, Ty.text, Ty.textL]] at h)
  go_wp2_with fail
  refine CT.out.mono ?_
  rintro e w7 ⟨rfl, hb⟩
  have HB7 := Lib.hid (HB6.out.trans (hb.mono HB6.out.size))
  have HC7 := Lib.hid (HC6.out.later hb)
  have C8 := Lib.hid (show Calls Tryd.prog 20 #[.iface 90 (.agg #[.int .i64 2, .int .i64 2]), .int .i64 2, .int .i64 2] w7 (BoolPost true w7) from told_fault 2 2 w7 (.inr rfl) (HA6.out.err.later hb))
  clear hb CT x0 x6 x7 xk t0 t1 t2 HA6
  go_wp2_with fail
  refine C8.out.mono ?_
  rintro e w8 ⟨rfl, hb⟩
  have HB8 := Lib.hid (HB7.out.trans (hb.mono HB7.out.size))
  have HC8 := Lib.hid (HC7.out.later hb)
  clear hb C8
  have C9 := Lib.hid (show Calls Tryd.prog 21 #[.pointer (some ⟨c, 0, none⟩), .string ⟨#[44]⟩] w8 (fun e w' => e = .returned (.bool true) ∧ Cur w' c [⟨1, ⟨#[98]⟩, 3⟩, ⟨3, ⟨#[]⟩, 4⟩] false ∧ w8.grownBy w' (some c)) from take_any c _ false ⟨#[44]⟩ w8 HC8.out)
  go_wp2_with fail
  refine C9.out.mono ?_
  rintro e w9 ⟨rfl, hcur, hg⟩
  have HB9 := Lib.hid (HB8.out.trans (cur_err hg HWC.out (Nat.le_of_lt HC8.out.lt)))
  have HC9 := Lib.hid hcur
  clear hcur hg C9
  have CA := Lib.hid (show Calls Tryd.prog 22 #[.pointer (some ⟨c, 0, none⟩), .string ⟨#[98]⟩] w9 (fun e w' => e = .returned (.bool true) ∧ Below w9.heap.size w9 w') from next_any c _ false ⟨#[98]⟩ w9 HC9.out)
  go_wp2_with fail
  refine CA.out.mono ?_
  rintro e wA ⟨rfl, hb⟩
  have HBA := Lib.hid (HB9.out.trans (hb.mono HB9.out.size))
  have HCA := Lib.hid (HC9.out.later hb)
  clear hb CA
  have CB := Lib.hid (show Calls Tryd.prog 21 #[.pointer (some ⟨c, 0, none⟩), .string ⟨#[120]⟩] wA (fun e w' => e = .returned (.bool false) ∧ Cur w' c [⟨1, ⟨#[98]⟩, 3⟩, ⟨3, ⟨#[]⟩, 4⟩] false ∧ wA.grownBy w' (some c)) from take_any c _ false ⟨#[120]⟩ wA HCA.out)
  go_wp2_with fail
  refine CB.out.mono ?_
  rintro e wB ⟨rfl, hcur, hg⟩
  have HBB := Lib.hid (HBA.out.trans (cur_err hg HWC.out (Nat.le_of_lt HCA.out.lt)))
  clear hcur hg CB
  go_wp2_with fail
  go_ret
  exact ⟨rfl, HBB.out⟩
end Go.Proofs.YtbeejmlmplgaeaaDoor.Rd
