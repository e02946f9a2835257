/- The laws' helper told, their look at fixed examples, and the laws LexMatchesReference and LexLines: true, at every input. -/
import Derived.Test.YtfbahblhcmgbiaaDoorLxL
import Derived.Deep.RegionHeld3
namespace Go.Proofs.YtfbahblhcmgbiaaDoor
open Go.RowKit

theorem told_at (o : Int) (w : World) (hE : ErrVar w) :
    Calls Tryd.prog 11 #[faultV 1 o, .int .i64 o] w fun e w' => e = .returned (.bool true) ∧ Below w.heap.size w w' := by
  have C := Lib.hid (code_fault 1 o w hE)
  have D := Lib.hid (fun w hE => at_fault 1 o w hE)
  unfold faultV at *
  go_enter Tryd.func11, Tryd.ntmps11
  go_wp2_with fail
  refine C.out.mono ?_
  rintro e w1 ⟨rfl, hb1⟩
  have hE1 := hE.later hb1
  go_wp2_with fail
  refine (D.out _ hE1).mono ?_
  rintro e w2 ⟨rfl, hb2⟩
  go_wp2_with fail
  go_ret
  exact ⟨ret_bool (by simp), hb1.trans (hb2.mono hb1.size)⟩

def bsOf (l : List UInt8) : ByteArray := ⟨l.toArray⟩
theorem left_of (s : ByteArray) : left s 0 = Lx.lex s.data.toList 0 := by unfold left; rw [List.drop_zero]

/-- 'a._ // x' -/
def ex1 : ByteArray := ⟨#[97, 46, 95, 32, 47, 47, 32, 120]⟩
/-- 'a / b' -/
def ex2 : ByteArray := ⟨#[97, 32, 47, 32, 98]⟩
theorem left1 : left ex1 0 = .ok [⟨1, [97], 0⟩, ⟨2, [46], 1⟩, ⟨2, [95], 2⟩] := by rw [left_of]; rfl
theorem left2 : left ex2 0 = .bad 2 := by rw [left_of]; rfl
theorem lex1 (L : LexOk) (w : World) : Calls Tryd.prog 9 #[.string ⟨#[97, 46, 95, 32, 47, 47, 32, 120]⟩] w fun e w' => ∃ A c, e = .returned (.tuple #[.slice A 4 c, .nilIface]) ∧ TS w' A 4 [⟨1, ⟨#[97]⟩, 0⟩, ⟨2, ⟨#[46]⟩, 1⟩, ⟨2, ⟨#[95]⟩, 2⟩, ⟨3, ⟨#[]⟩, 8⟩] ∧ Below w.heap.size w w' :=
  (L.tokens ex1 w (by decide)).mono fun e w' ⟨hb, h⟩ => by
    rw [left1] at h
    obtain ⟨A, c, he, ht⟩ := h
    exact ⟨A, c, he, ht, hb⟩
theorem lex2 (L : LexOk) (w : World) : Calls Tryd.prog 9 #[.string ⟨#[97, 32, 47, 32, 98]⟩] w fun e w' => e = .returned (.tuple #[.slice none 0 0, faultV 1 2]) ∧ Below w.heap.size w w' :=
  (L.tokens ex2 w (by decide)).mono fun e w' ⟨hb, h⟩ => by
    rw [left2] at h
    exact ⟨h, hb⟩
theorem line1 (L : LexOk) (w : World) : Calls Tryd.prog 18 #[.string ⟨#[97, 10, 98]⟩, .int .i64 2] w fun e w' => e = .returned (.tuple #[.int .i64 2, .int .i64 1]) ∧ Below w.heap.size w w' :=
  L.line ⟨#[97, 10, 98]⟩ 2 w (by decide) (by omega) (by omega)

/-- A new block of tokens. -/
theorem ts_of_new (w : World) (T : TypeId) (cs : Array Value) (n : Nat) (ts : List Tk) (hn : ts.length = n) (h : cs.toList = ts.flatMap cells3) : TS (w.alloc (.cells cs T)) (some ⟨w.heap.size, 0, none⟩) n ts := by
  have hg := heap_alloc_new w (.cells cs T)
  refine ⟨hn, fun j t hj => ⟨_, rfl, by simp, ?_⟩⟩
  have hcell : ∀ i u, (ts.flatMap cells3)[i]? = some u → (w.alloc (.cells cs T)).cell? ⟨w.heap.size, i, none⟩ = some u := fun i u hu => by
    rw [cell_of_row _ w.heap.size i cs T (0, 0) hg]
    rw [← h] at hu
    simpa using hu
  obtain ⟨h1, h2, h3⟩ := cells3_at ts j t hj
  have ha : (⟨w.heap.size, 0, none⟩ : Addr).add (j * 3) = ⟨w.heap.size, j * 3, none⟩ := by unfold Addr.add; split <;> simp_all
  rw [ha]
  exact ⟨hcell _ _ h1, hcell _ _ h2, hcell _ _ h3⟩
theorem alikeB_self : ∀ l : List Tk, alikeB l l = true
  | [] => rfl
  | x :: l => by simp [alikeB, sameT, alikeB_self l]

def exT : List Tk := [⟨1, ⟨#[97]⟩, 0⟩, ⟨2, ⟨#[46]⟩, 1⟩, ⟨2, ⟨#[95]⟩, 2⟩, ⟨3, ⟨#[]⟩, 8⟩]
theorem same1 (L : LexOk) (A : Option Addr) (c : Nat) (w : World) (h : TS w A 4 exT) :
    Calls Tryd.prog 16 #[.slice A 4 c, .slice A 4 c] w fun e w' => e = .returned (.bool true) ∧ Below w.heap.size w w' := by
  have := L.same A A 4 4 c c exT exT w (by omega) (by omega) h h
  rwa [alikeB_self] at this
theorem join1 (L : LexOk) (A : Option Addr) (c : Nat) (w : World) (h : TS w A 4 exT) :
    Calls Tryd.prog 14 #[.slice A 4 c] w fun e w' => e = .returned (.string ⟨#[97, 32, 46, 32, 95]⟩) ∧ Below w.heap.size w w' :=
  L.join A 4 c exT w (by omega) (by decide) (by intro t ht; simp only [exT, List.mem_cons, List.not_mem_nil, or_false] at ht; rcases ht with rfl | rfl | rfl | rfl <;> simp) h

set_option maxHeartbeats 2000000 in
theorem awake_any (L : LexOk) (w : World) (hE : ErrVar w) :
    Calls Tryd.prog 8 #[] w fun e w' => e = .returned (.bool true) ∧ Below w.heap.size w w' := by
  go_enter Tryd.func8, Tryd.ntmps8
  go_wp2_with fail
  refine (lex1 L _).mono ?_
  rintro e w1 ⟨A, c, rfl, ht, hb1⟩
  have HT := Lib.hid ht
  have hE1 := hE.later hb1
  clear ht
  go_wp2_with fail
  refine (lex2 L _).mono ?_
  rintro e w2 ⟨rfl, hb2⟩
  have HT2 := Lib.hid (HT.out.later hb2)
  have hE2 := hE1.later hb2
  have hB2 := hb1.trans (hb2.mono hb1.size)
  have TO := Lib.hid (fun w hE => told_at 2 w hE)
  unfold faultV at *
  clear hb1 hb2 hE1
  go_wp2_with fail
  refine (line1 L _).mono ?_
  rintro e w3 ⟨rfl, hb3⟩
  have HT3 := Lib.hid (HT2.out.later hb3)
  have hE3 := hE2.later hb3
  have hB3 := hB2.trans (hb3.mono hB2.size)
  clear hb3 hB2 hE2
  go_wp2_with fail
  refine (plain_any A 4 c exT _ (by omega) HT3.out).mono ?_
  rintro e w4 ⟨A', c', rfl, hp, hb4⟩
  have HT4 := Lib.hid (HT3.out.later hb4)
  have hE4 := hE3.later hb4
  have hB4 := hB3.trans (hb4.mono hB3.size)
  have hb5 : Below w4.heap.size w4 (w4.alloc (.cells #[.int .i64 1, .string ⟨#[97]⟩, .int .i64 0, .int .i64 2, .string ⟨#[46]⟩, .int .i64 1, .int .i64 2, .string ⟨#[95]⟩, .int .i64 2, .int .i64 3, .string ⟨#[]⟩, .int .i64 8] 44)) := (Below.refl _ _).alloc (Nat.le_refl _) _
  have HP := Lib.hid (hp.later hb5)
  have HN := Lib.hid (ts_of_new w4 44 #[.int .i64 1, .string ⟨#[97]⟩, .int .i64 0, .int .i64 2, .string ⟨#[46]⟩, .int .i64 1, .int .i64 2, .string ⟨#[95]⟩, .int .i64 2, .int .i64 3, .string ⟨#[]⟩, .int .i64 8] 4 exT rfl rfl)
  have hE5 := hE4.later hb5
  have HT5 := Lib.hid (HT4.out.later hb5)
  have hB5 := hB4.trans (hb5.mono hB4.size)
  clear hp hb4 hb5 hE3 hE4 hB3 hB4
  go_wp2_with fail
  refine (same_same A' (some ⟨w4.heap.size, 0, none⟩) 4 c' 4 exT _ (by omega) HP.out HN.out).mono ?_
  rintro e w6 ⟨rfl, hb6⟩
  have hE6 := hE5.later hb6
  have HT6 := Lib.hid (HT5.out.later hb6)
  have hB6 := hB5.trans (hb6.mono hB5.size)
  clear hb6 hE5 hB5
  go_wp2_with fail
  refine (TO.out _ hE6).mono ?_
  rintro e w7 ⟨rfl, hb7⟩
  have HT7 := Lib.hid (HT6.out.later hb7)
  have hB7 := hB6.trans (hb7.mono hB6.size)
  clear hb7 hE6 hB6
  go_wp2_with fail
  refine (join1 L A c _ HT7.out).mono ?_
  rintro e w8 ⟨rfl, hb8⟩
  have HT8 := Lib.hid (HT7.out.later hb8)
  have hB8 := hB7.trans (hb8.mono hB7.size)
  clear hb8 hB7
  go_wp2_with fail
  refine (same1 L A c _ HT8.out).mono ?_
  rintro e w9 ⟨rfl, hb9⟩
  have hB9 := hB8.trans (hb9.mono hB8.size)
  clear hb9 hB8
  go_wp2_with fail
  go_ret
  exact ⟨rfl, hB9⟩

theorem wide_len : ∀ ts : List Lx.Tok, ts.length ≤ Lx.wide ts
  | [] => Nat.zero_le _
  | t :: l => by have := wide_len l; simp only [List.length_cons, Lx.wide]; omega
theorem tok_count {s : ByteArray} {ts : List Lx.Tok} (hs : s.size ≤ 5000) (h : left s 0 = .ok ts) : ts.length ≤ 10000 := by
  rw [left_of] at h
  have h1 := (Lx.lex_right h).2
  have h2 := wide_len ts
  rw [← Lib.size_eq] at h1
  omega

set_option maxHeartbeats 2000000 in
theorem matches_any (L : LexOk) (s : ByteArray) (hs : s.size ≤ 9223372036854775807) (w : World) (hE : ErrVar w) :
    Calls Tryd.prog 3 #[.string s] w fun e w' => e = .returned (.bool true) ∧ Below w.heap.size w w' := by
  by_cases hl : 5000 < s.size
  · have z : (5000 : Int) < s.size := by omega
    go_enter Tryd.func3, Tryd.ntmps3
    go_wp2_with fail
    refine (awake_any L _ hE).mono ?_
    rintro e w1 ⟨rfl, hb1⟩
    have hE1 := hE.later hb1
    go_wp2_with fail
    refine (awake_any L _ hE1).mono ?_
    rintro e w2 ⟨rfl, hb2⟩
    have hB2 := hb1.trans (hb2.mono hb1.size)
    go_wp2_with fail
    go_ret
    exact ⟨rfl, hB2⟩
  · have z : (s.size : Int) ≤ 5000 := by omega
    have C1 := Lib.hid (fun w => L.tokens s w (by omega))
    have C2 := Lib.hid (fun w => ref_tokens_any s (by omega) w)
    have TO := Lib.hid told_at
    unfold faultV at TO
    obtain ⟨r, hr⟩ : ∃ r, left s 0 = r := ⟨_, rfl⟩
    have HR := Lib.hid hr
    clear hr
    cases r with
    | bad i =>
      go_enter Tryd.func3, Tryd.ntmps3
      go_wp2_with fail
      refine (awake_any L _ hE).mono ?_
      rintro e w1 ⟨rfl, hb1⟩
      have hE1 := hE.later hb1
      go_wp2_with fail
      refine (C1.out _).mono ?_
      rintro e w2 ⟨hb2, he⟩
      rw [HR.out] at he
      obtain rfl := he
      have hE2 := hE1.later hb2
      have hB2 := hb1.trans (hb2.mono hb1.size)
      unfold faultV
      clear hb1 hb2 hE1
      go_wp2_with fail
      refine (C2.out _).mono ?_
      rintro e w3 ⟨hb3, he⟩
      rw [HR.out] at he
      obtain rfl := he
      have hE3 := hE2.later hb3
      have hB3 := hB2.trans (hb3.mono hB2.size)
      clear hb3 hE2 hB2
      go_wp2_with fail
      have hb3 : Below w3.heap.size w3 (w3.alloc (.cells #[.slice none 0 0, .int .i64 i] 30)) := (Below.refl _ _).alloc (Nat.le_refl _) _
      refine (TO.out _ _ (hE3.later hb3)).mono ?_
      rintro e w4 ⟨rfl, hb4⟩
      have hB4 := (hB3.trans (hb3.mono hB3.size)).trans (hb4.mono (hB3.trans (hb3.mono hB3.size)).size)
      clear hb3
      go_wp2_with fail
      go_ret
      exact ⟨rfl, hB4⟩
    | ok ts =>
      go_enter Tryd.func3, Tryd.ntmps3
      go_wp2_with fail
      refine (awake_any L _ hE).mono ?_
      rintro e w1 ⟨rfl, hb1⟩
      go_wp2_with fail
      refine (C1.out _).mono ?_
      rintro e w2 ⟨hb2, he⟩
      rw [HR.out] at he
      obtain ⟨A, c, rfl, ht⟩ := he
      have HT := Lib.hid ht
      have hB2 := hb1.trans (hb2.mono hb1.size)
      clear hb1 hb2 ht
      go_wp2_with fail
      refine (C2.out _).mono ?_
      rintro e w3 ⟨hb3, he⟩
      rw [HR.out] at he
      obtain ⟨A2, c2, rfl, ht2⟩ := he
      have HT2 := Lib.hid ht2
      have HT3 := Lib.hid (HT.out.later hb3)
      have hB3 := hB2.trans (hb3.mono hB2.size)
      clear hb3 hB2 ht2
      go_wp2_with fail
      obtain ⟨X, hX⟩ : ∃ X, X = w3.alloc (.cells #[.slice A2 (ts.length + 1) c2, .int .i64 (-1)] 30) := ⟨_, rfl⟩
      have hbX : Below w3.heap.size w3 X := by rw [hX]; exact (Below.refl _ _).alloc (Nat.le_refl _) _
      have x0 : X.cell? ⟨w3.heap.size, 0, none⟩ = some (.slice A2 (ts.length + 1) c2) := by rw [hX, World.cell?_alloc_at _ _ _ _ rfl]; rfl
      rw [← hX]
      have hn : ts.length ≤ 10000 := tok_count (s := s) (by omega) HR.out
      have CP := Lib.hid (fun (V : World) (hV : Below X.heap.size X V) => (plain_any A (ts.length + 1) c (full ts s.size) V (by omega) ((HT3.out.later hbX).later hV)).mono fun e w' (h : ∃ A' c', _ ∧ _ ∧ _) => (h.elim fun A' h => h.elim fun c' h => ⟨A', c', h.1, h.2.1, hV.trans (h.2.2.mono hV.size)⟩ : ∃ A' c', e = .returned (.slice A' (ts.length + 1) c') ∧ TS w' A' (ts.length + 1) (full ts s.size) ∧ Below X.heap.size X w'))
      have CS := Lib.hid (fun (A' : Option Addr) (c' : Nat) (V : World) (hV : Below X.heap.size X V) (hT : TS V A' (ts.length + 1) (full ts s.size)) => (same_same A' A2 (ts.length + 1) c' c2 (full ts s.size) V (by omega) hT ((HT2.out.later hbX).later hV)).mono fun e w' (h : _ ∧ _) => (⟨h.1, hV.trans (h.2.mono hV.size)⟩ : _ ∧ Below X.heap.size X w'))
      have SS : Below X.heap.size X X ∧ X.cell? ⟨w3.heap.size, 0, none⟩ = some (.slice A2 (ts.length + 1) c2) := ⟨Below.refl _ _, x0⟩
      have hlt := cell_lt x0
      have HXX := Lib.hid hX
      have HB3 := Lib.hid (hB3.trans (hbX.mono hB3.size))
      clear hX hbX hB3
      go_region_held3 (fun W => Below X.heap.size X W ∧ W.cell? ⟨w3.heap.size, 0, none⟩ = some (.slice A2 (ts.length + 1) c2))
        (first | exact SS | exact ⟨SS.1.drew, SS.2⟩)
        (first
          | (go_at_call 13; refine (CP.out _ ?_).mono ?_; (first | exact SS.1 | exact SS.1.drew); rintro e w6 ⟨A', c', rfl, hT, hb6⟩; have HP := Lib.hid hT; clear hT; have SS : Below X.heap.size X w6 ∧ w6.cell? ⟨w3.heap.size, 0, none⟩ = some (.slice A2 (ts.length + 1) c2) := ⟨hb6, (hb6.cell hlt).trans x0⟩)
          | (go_at_call 12; refine (CS.out A' c' _ ?_ HP.out).mono ?_; (first | exact SS.1 | exact SS.1.drew); rintro e w6 ⟨rfl, hb6⟩; have SS : Below X.heap.size X w6 ∧ w6.cell? ⟨w3.heap.size, 0, none⟩ = some (.slice A2 (ts.length + 1) c2) := ⟨hb6, (hb6.cell hlt).trans x0⟩))
      go_wp2
      go_ret
      exact ⟨rfl, HB3.out.trans (Below.mono SS.1 HB3.out.size)⟩
end Go.Proofs.YtfbahblhcmgbiaaDoor
