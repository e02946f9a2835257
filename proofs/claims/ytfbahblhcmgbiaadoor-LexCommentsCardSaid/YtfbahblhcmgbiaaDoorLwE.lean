/- The walk of lex.Join: a slice of the texts, then strings.Join. -/
import Derived.Test.YtfbahblhcmgbiaaDoorLwD
import Derived.Lib.Join
namespace Go.Proofs.YtfbahblhcmgbiaaDoor
open Go.RowKit

/-- The texts of all but the tokens of kind 3. -/
def strs (l : List Tk) : List ByteArray := (l.filter fun t => !(t.k == 3)).map (·.s)
theorem strs_snoc (a : List Tk) (k : Nat) (t : Tk) (h : a[k]? = some t) : strs (a.take (k + 1)) = if t.k = 3 then strs (a.take k) else strs (a.take k) ++ [t.s] := by
  unfold strs
  rw [List.take_add_one, h]
  by_cases h3 : t.k = 3 <;> simp [h3]
theorem strs_len (l : List Tk) : (strs l).length ≤ wideT l := by
  unfold strs
  induction l with
  | nil => simp
  | cons t r ih =>
    simp only [List.filter_cons, wideT]
    split <;> simp at * <;> omega

theorem joinT_tail : ∀ (l : List Tk) (s : List UInt8), s ≠ [] → joinT s l = s ++ Lib.joinTail [32] ((strs l).map (·.data.toList))
  | [], s, _ => by simp [joinT, strs, Lib.joinTail]
  | t :: r, s, hs => by
    have ih := joinT_tail r (s ++ [32] ++ t.s.data.toList) (by simp)
    have ih2 := joinT_tail r s hs
    unfold strs at *
    by_cases h3 : t.k = 3
    · simp [joinT, h3, ih2]
    · simp [joinT, h3, hs] at ih ⊢
      simp [ih, Lib.joinTail]
theorem joinT_join : ∀ (l : List Tk), (∀ t ∈ l, t.k = 3 ∨ t.s.data.toList ≠ []) → joinT [] l = Lib.join ((strs l).map (·.data.toList)) [32]
  | [], _ => rfl
  | t :: r, h => by
    have ih := joinT_join r (fun x hx => h x (List.mem_cons_of_mem _ hx))
    by_cases h3 : t.k = 3
    · have e : strs (t :: r) = strs r := by simp [strs, h3]
      rw [e, ← ih]
      simp [joinT, h3]
    · have e : strs (t :: r) = t.s :: strs r := by simp [strs, h3]
      have hne : t.s.data.toList ≠ [] := (h t (by simp)).resolve_left h3
      rw [e, List.map_cons, Lib.join_cons, ← joinT_tail r _ hne]
      simp [joinT, h3]

theorem infoStr : (Tryd.prog.info? 9).map (fun i => (i.zero, i.size, i.bytes)) = some (some (.string ⟨#[]⟩), 1, 16) := by kernel_rfl
theorem heap_alloc_two (w : World) (o1 o2 : Obj) : ((w.alloc o1).alloc o2).heap[w.heap.size + 1]? = some o2 := by
  have h := heap_alloc_new (w.alloc o1) o2
  have e : (w.alloc o1).heap.size = w.heap.size + 1 := by simp
  rwa [e] at h
def boxS (s : ByteArray) : Value := .string s

/-- What holds at a round's head. -/
def JoinRel (w wr : World) (v : Value) (l : List Tk) : Prop := Below w.heap.size w wr ∧ wr.ownsRow w.heap.size 9 1 v (strs l).length ((strs l).map boxS)

/-- strings.Join at what the call has built. -/
theorem join_own {w W : World} {v : Value} {xs : List ByteArray} (hb : Below w.heap.size w W) (h : W.ownsRow w.heap.size 9 1 v xs.length (xs.map boxS)) (hN : xs.length ≤ 1000000)
    (hlen : (Lib.join (xs.map (·.data.toList)) [32]).length ≤ 1000000) :
    Calls Tryd.prog 26 #[v, .string ⟨#[32]⟩] W fun e w' => e = .returned (.string ⟨(Lib.join (xs.map (·.data.toList)) [32]).toArray⟩) ∧ Below w.heap.size w w' := by
  rcases h.2 with ⟨rfl, h0⟩ | ⟨g, cap, cur, rfl, hbg, hg, hn, hc, hs, ht⟩
  · obtain rfl : xs = [] := List.eq_nil_of_length_eq_zero h0
    refine (Tryd.strings_Join_none none 0 ⟨#[32]⟩ W).mono fun e w' ⟨he, hw⟩ => ⟨he, ?_⟩
    rw [hw]
    exact hb
  · have hlt : g < W.heap.size := (Array.getElem?_eq_some_iff.1 hg).1
    refine (Tryd.strings_Join g 0 cap xs ⟨#[32]⟩ W (fun j x hx => ?_) hlt (by omega) hn (by show (Lib.join _ [32]).length ≤ _; omega)).mono fun e w' ⟨he, hw⟩ => ⟨he, hb.trans (hw.mono hb.size)⟩
    have h1 : (xs.map boxS)[j]? = some (.string x) := by simp [hx, boxS]
    have h2 := h.cells (g := g) rfl j _ h1
    have ha : (⟨g, 0, none⟩ : Addr).add j = ⟨g, 0 + j, none⟩ := by unfold Addr.add; split <;> simp_all
    rw [← ha]
    exact h2

set_option maxRecDepth 100000 in
set_option maxHeartbeats 2000000 in
theorem lex_join_any (A : Option Addr) (n ca : Nat) (a : List Tk) (w : World) (hn : n ≤ 9223372036854775807) (hw : wideT a ≤ 1000000) (hne : ∀ t ∈ a, t.k = 3 ∨ t.s.data.toList ≠ []) (ha : TS w A n a) :
    Calls Tryd.prog 14 #[.slice A n ca] w fun e w' => e = .returned (.string ⟨(joinT [] a).toArray⟩) ∧ Below w.heap.size w w' := by
  have HA := Lib.hid ha
  have hj := joinT_join a hne
  have hl := joinT_le a []
  rw [hj] at hl
  have HJ := Lib.hid hj
  have hl2 : (Lib.join ((strs a).map (·.data.toList)) [32]).length ≤ 1000000 := by simp only [List.length_nil] at hl; omega
  have HL := Lib.hid hl2
  have HW := Lib.hid hw
  obtain ⟨i0, hi0, hz0, hz1, hz2⟩ := info_parts infoStr
  clear ha hj hl hl2 hne hw
  go_enter Tryd.func14, Tryd.ntmps14
  go_wp2_with fail
  go_loopw [3, 8] (fun v i wr => ∃ k : Nat, k ≤ n ∧ i = .int .i64 k ∧ JoinRel w wr v (a.take k)) (fun _ i _ => n - (intOf i).toNat)
  case atStart => exact ⟨0, by omega, rfl, Below.refl _ _, World.ownsRow_nil _ _ _ _⟩
  case round =>
    obtain ⟨k, hk, rfl, hb, ho⟩ := hrel
    by_cases hlt : k < n
    · obtain ⟨ad, t, rfl, ht, c0, c1, c2⟩ := (HA.out.later hb).get hlt
      have z0 : (0 : Int) ≤ k := by omega
      have z1 : (k : Int) < n := by omega
      have hs := strs_snoc a k t ht
      have hsz := hb.size
      have hx : (strs (a.take k)).length ≤ 1000000 := Nat.le_trans (strs_len _) (Nat.le_trans (wideT_take a k) HW.out)
      have hb1 := hb.alloc hsz (.cells #[.int .i64 t.k, .string t.s, .int .i64 t.o] 43)
      have HB1 := Lib.hid hb1
      have hsz1 := hb1.size
      clear hb ht hb1
      by_cases h3 : t.k = 3
      · rw [if_pos h3] at hs
        have HS := Lib.hid hs
        have e1 : (t.k != 3) = false := by simp [h3]
        clear hs h3
        go_wp2_with fail
        go_roundw
        case rel =>
          refine ⟨k + 1, by omega, by go_num, HB1.out, ?_⟩
          rw [HS.out]
          exact ho.alloc _
        case measure => simp [intOf]; omega
      · rw [if_neg h3] at hs
        have HS := Lib.hid hs
        have e1 : (t.k != 3) = true := by simp [h3]
        clear hs h3
        go_wp2_with (at_builtin; refine wpList_append_own _ rfl _ _ 56 rfl w.heap.size 9 i0 _ 1 16 Tryd.underlying56 hi0 hz0 hz1 hz2 rfl (by omega) _ (strs (a.take k)).length _ rfl ((ho.alloc _).alloc _) ⟨_, 0, none⟩ 1 1 [.string t.s] rfl rfl (World.news_of_block (cs := #[.string t.s]) (t := 9) (fr := (0, 0)) (heap_alloc_two _ _ _)) (by simp [Value.oneCell']) (by unfold maxLen; omega) (by omega) (by simp; omega) ?_; intro v' w1 hown1 hgrow1 hnil1; have HO := Lib.hid (And.intro (Below.grown (HB1.out.alloc hsz1 _) hgrow1 (by simp; omega) (own_base ho)) hown1); clear hown1 hgrow1 hnil1)
        go_roundw
        case rel =>
          refine ⟨k + 1, by omega, by go_num, HO.out.1, ?_⟩
          rw [HS.out, List.map_append, List.length_append]
          exact HO.out.2
        case measure => simp [intOf]; omega
    · have z1 : (n : Int) ≤ k := by omega
      have ht : a.take k = a := List.take_of_length_le (by rw [HA.out.len]; omega)
      rw [ht] at ho
      have C := Lib.hid (join_own hb ho (Nat.le_trans (strs_len a) HW.out) HL.out)
      clear hb ho ht
      go_wp2_with fail
      refine C.out.mono ?_
      rintro e w' ⟨rfl, hb2⟩
      have HB2 := Lib.hid hb2
      clear hb2
      go_wp2_with fail
      go_ret
      exact ⟨ret_str (by rw [HJ.out]), HB2.out⟩
end Go.Proofs.YtfbahblhcmgbiaaDoor
