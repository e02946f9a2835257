/- The walk of the law LexSame over the contracts of package lex: true, at every input. -/
import Derived.Test.YtfbahblhcmgbiaaDoorLxM
namespace Go.Proofs.YtfbahblhcmgbiaaDoor
open Go.RowKit

theorem infoLex : (Tryd.prog.info? 43).map (fun i => (i.zero, i.size, i.bytes)) = some (some (.agg #[.int .i64 0, .string ⟨#[]⟩, .int .i64 0]), 3, 32) := by kernel_rfl

def Built (W wr : World) (v : Value) (k : Nat) (ts : List Tk) : Prop := Below W.heap.size W wr ∧ wr.ownsRow W.heap.size 43 3 v k ((ts.take k).flatMap cells3)

set_option maxRecDepth 100000 in
set_option maxHeartbeats 4000000 in
theorem same_any (L : LexOk) (A B : Option Addr) (n m ca cb : Nat) (a b : List Tk) (w : World) (hn : n ≤ 9223372036854775807) (hm : m ≤ 9223372036854775807) (ha : TS w A n a) (hb : TS w B m b) (hE : ErrVar w) :
    Calls Tryd.prog 6 #[.slice A n ca, .slice B m cb] w fun e w' => e = .returned (.bool true) ∧ Below w.heap.size w w' := by
  by_cases hl : 50 < n ∨ 50 < m
  · have hl1 : 50 < n ∨ (n ≤ 50 ∧ 50 < m) := by omega
    clear hl ha hb
    rcases hl1 with z1 | ⟨z0, z1⟩
    all_goals
      have zz : (50 : Int) < n ∨ (50 : Int) < m := by omega
      clear zz
      go_enter Tryd.func6, Tryd.ntmps6
      go_wp2_with fail
      refine (awake_any L _ hE).mono ?_
      rintro e w1 ⟨rfl, hb1⟩
      have hE1 := hE.later hb1
      go_wp2_with fail
      refine (awake_any L _ hE1).mono ?_
      rintro e w2 ⟨rfl, hb2⟩
      have hB2 := hb1.trans (hb2.mono hb1.size)
      go_wp2_with fail
      go_ret
      exact ⟨rfl, hB2⟩
  · have z1 : n ≤ 50 := by omega
    have z2 : m ≤ 50 := by omega
    clear hl
    obtain ⟨i0, hi0, hz0, hz1, hz2⟩ := info_parts infoLex
    have HA := Lib.hid ha
    have HB := Lib.hid hb
    clear ha hb
    go_enter Tryd.func6, Tryd.ntmps6
    go_wp2_with fail
    refine (awake_any L _ hE).mono ?_
    rintro e W ⟨rfl, hb1⟩
    have HA1 := Lib.hid (HA.out.later hb1)
    have HB1 := Lib.hid (HB.out.later hb1)
    have HW := Lib.hid hb1
    clear hb1
    go_wp2_with fail
    go_loopw [5, 6] (fun v i wr => ∃ k : Nat, k ≤ n ∧ i = .int .i64 k ∧ Built W wr v k a) (fun _ i _ => n - (intOf i).toNat)
    case atStart => exact ⟨0, by omega, rfl, Below.refl _ _, World.ownsRow_nil _ _ _ _⟩
    case round =>
      obtain ⟨k, hk, rfl, hbel, hown⟩ := hrel
      by_cases hlt : k < n
      · obtain ⟨ad, t, rfl, ht, c0, c1, c2⟩ := (HA1.out.later hbel).get hlt
        have y1 : (k : Int) < n := by omega
        have HS := Lib.hid (cells3_snoc a k t ht)
        have HBB := Lib.hid hbel
        have hsz := hbel.size
        clear ht hbel
        go_wp2_with (at_builtin; refine wpList_append_own _ rfl _ _ 23 rfl W.heap.size 43 i0 _ 3 32 Tryd.underlying23 hi0 hz0 hz1 hz2 rfl (by omega) _ k _ rfl (hown.alloc _) ⟨_, 0, none⟩ 1 1 (cells3 t) rfl rfl (World.news_of_block (cs := #[.int .i64 t.k, .string t.s, .int .i64 t.o]) (t := 43) (fr := (0, 0)) (heap_alloc_new _ _)) (by simp [cells3, Value.oneCell']) (by unfold maxLen; omega) (by omega) (by simp; omega) ?_; intro v' w1 hown1 hgrow1 hnil1)
        go_roundw
        case rel =>
          refine ⟨k + 1, by omega, by go_num, Below.grown (HBB.out.alloc hsz _) hgrow1 (by simp; omega) (own_base hown), ?_⟩
          rw [← HS.out]
          exact hown1
        case measure => simp [intOf]; omega
      · have hkn : k = n := by omega
        have y1 : (n : Int) ≤ k := by omega
        have ht : a.take k = a := List.take_of_length_le (by rw [HA1.out.len]; omega)
        rw [ht, hkn] at hown
        obtain ⟨A', c', rfl, hts⟩ := ts_of_own HA1.out.len hown
        have HX := Lib.hid hts
        have HBB := Lib.hid hbel
        have HB2 := Lib.hid (HB1.out.later hbel)
        have HA2 := Lib.hid (HA1.out.later hbel)
        obtain ⟨V, hV⟩ : ∃ V : World, V = wr := ⟨_, rfl⟩
        subst hV
        clear hbel hts hown ht hkn
        go_wp2_with fail
        go_loopw [7, 8] (fun v i wr => ∃ k : Nat, k ≤ m ∧ i = .int .i64 k ∧ Built V wr v k b) (fun _ i _ => m - (intOf i).toNat)
        case atStart => exact ⟨0, by omega, rfl, Below.refl _ _, World.ownsRow_nil _ _ _ _⟩
        case round =>
          obtain ⟨j, hj, rfl, hbel, hown⟩ := hrel
          by_cases hlt2 : j < m
          · obtain ⟨ad, t, rfl, ht, c0, c1, c2⟩ := (HB2.out.later hbel).get hlt2
            have y2 : (j : Int) < m := by omega
            have HS := Lib.hid (cells3_snoc b j t ht)
            have HBC := Lib.hid hbel
            have hsz := hbel.size
            clear ht hbel
            go_wp2_with (at_builtin; refine wpList_append_own _ rfl _ _ 23 rfl V.heap.size 43 i0 _ 3 32 Tryd.underlying23 hi0 hz0 hz1 hz2 rfl (by omega) _ j _ rfl (hown.alloc _) ⟨_, 0, none⟩ 1 1 (cells3 t) rfl rfl (World.news_of_block (cs := #[.int .i64 t.k, .string t.s, .int .i64 t.o]) (t := 43) (fr := (0, 0)) (heap_alloc_new _ _)) (by simp [cells3, Value.oneCell']) (by unfold maxLen; omega) (by omega) (by simp; omega) ?_; intro v' w1 hown1 hgrow1 hnil1)
            go_roundw
            case rel =>
              refine ⟨j + 1, by omega, by go_num, Below.grown (HBC.out.alloc hsz _) hgrow1 (by simp; omega) (own_base hown), ?_⟩
              rw [← HS.out]
              exact hown1
            case measure => simp [intOf]; omega
          · have hjm : j = m := by omega
            have y2 : (m : Int) ≤ j := by omega
            have ht : b.take j = b := List.take_of_length_le (by rw [HB2.out.len]; omega)
            rw [ht, hjm] at hown
            obtain ⟨B', d', rfl, hts⟩ := ts_of_own HB2.out.len hown
            have HY := Lib.hid hts
            have HXX := Lib.hid (HX.out.later hbel)
            have HA3 := Lib.hid (HA2.out.later hbel)
            have HB3 := Lib.hid (HB2.out.later hbel)
            have HT := Lib.hid ((HW.out.trans (HBB.out.mono HW.out.size)).trans (hbel.mono (HW.out.trans (HBB.out.mono HW.out.size)).size))
            clear hbel hts hown ht hjm
            go_wp2_with fail
            refine (L.same A' B' n m c' d' a b _ hn hm HXX.out HY.out).mono ?_
            rintro e w2 ⟨rfl, hb2⟩
            have HX2 := Lib.hid (HXX.out.later hb2)
            have HA4 := Lib.hid (HA3.out.later hb2)
            have HB4 := Lib.hid (HB3.out.later hb2)
            have HT2 := Lib.hid (HT.out.trans (hb2.mono HT.out.size))
            clear hb2
            go_wp2_with fail
            refine (alike_any A B n m ca cb a b _ hn hm HA4.out HB4.out).mono ?_
            rintro e w3 ⟨rfl, hb3⟩
            have HX3 := Lib.hid (HX2.out.later hb3)
            have HT3 := Lib.hid (HT2.out.trans (hb3.mono HT2.out.size))
            clear hb3
            have hq : (alikeB a b == alikeB a b) = true := by simp
            go_wp2_with fail
            refine (L.same A' A' n n c' c' a a _ hn hn HX3.out HX3.out).mono ?_
            rintro e w4 ⟨rfl, hb4⟩
            go_wp2_with fail
            go_ret
            exact ⟨ret_bool (by simp [alikeB_self]), HT3.out.trans (hb4.mono HT3.out.size)⟩
end Go.Proofs.YtfbahblhcmgbiaaDoor
