/- The walks of the reference's Count, Few and FewAll. -/
import Derived.Test.YtioamnaknjhbpaaDoorTyB
import Derived.Outline
import Derived.WalkSpells
import Derived.WalkLawsBesides
import Derived.Deep.QuietTactic
import Derived.BigQuiet
namespace Go.Proofs.YtioamnaknjhbpaaDoor
open Go.RowKit

theorem cntL_on {xs : List Ty} {k : Nat} {x : Ty} {n : Int} (hx : xs[k]? = some x) (hn : n ≤ 2000) : Ty.cntL (xs.drop k) n = Ty.cntL (xs.drop (k + 1)) (Ty.cnt x n) := by
  obtain ⟨h1, e1⟩ := List.getElem?_eq_some_iff.1 hx
  rw [List.drop_eq_getElem_cons h1, e1, Ty.cntL, if_pos hn]
theorem cntL_off {xs : List Ty} {k : Nat} {n : Int} (hn : ¬ n ≤ 2000) : Ty.cntL (xs.drop k) n = n := by
  cases xs.drop k with
  | nil => simp only [Ty.cntL]
  | cons a r => rw [Ty.cntL, if_neg hn]
theorem cntL_end {xs : List Ty} {k : Nat} {n : Int} (hk : xs.length ≤ k) : Ty.cntL (xs.drop k) n = n := by
  rw [List.drop_eq_nil_of_le hk]; simp only [Ty.cntL]

/-- What Count returns, within bounds. -/
def CntPost (w : World) (c : Int) (e : Ending) (w' : World) : Prop := e = .returned (.int .i64 c) ∧ 0 ≤ c ∧ c ≤ 1000000000000000000 ∧ Below w.heap.size w w'

set_option maxHeartbeats 2000000 in
theorem count_any : ∀ (t : Ty) (A : Option Addr) (m c : Nat) (n : Int) (w : World), t.name.size ≤ 9223372036854775807 → 0 ≤ n → n ≤ 2000 → Here w A m t.args →
    Calls Tryd.prog 31 #[.agg #[.string t.name, .slice A m c, .int .i64 t.off], .int .i64 n] w (CntPost w (t.cnt n)) := by
  refine Ty.ind fun s xs o ih A m c n w hs h0 h1 h => ?_
  simp only [Ty.name, Ty.args, Ty.off] at hs h ⊢
  have hb : Below w.heap.size w (w.alloc (.cells #[.string s, .slice A m c, .int .i64 o] 24)) := (Below.refl _ _).alloc (Nat.le_refl _) _
  have hm : (m : Int) ≤ 9223372036854775807 := by have := h.le; omega
  have z1 : (s.size : Int) / 50 ≤ 200000000000000000 := by omega
  have z2 : 0 ≤ (s.size : Int) / 50 := by omega
  have IH := Lib.hid ih
  have H := Lib.hid (Here.later h hb)
  have HX := Lib.hid (Box.new w s A m c o 24)
  have HB := Lib.hid hb
  have HC := Lib.hid (show Ty.cnt (.mk s xs o) n = Ty.cntL (xs.drop 0) (n + 1 + s.size / 50) by rw [List.drop_zero, Ty.cnt])
  clear ih h hb
  go_enter Tryd.func31, Tryd.ntmps31
  go_wp2_with fail
  generalize hW : w.alloc (.cells #[.string s, .slice A m c, .int .i64 o] 24) = W at *
  clear hW
  go_loopw [1, 5] (fun v i wr => ∃ (k : Nat) (q : Int), k ≤ m ∧ i = .int .i64 k ∧ v = .int .i64 q ∧ 0 ≤ q ∧ q ≤ 1000000000000000000 ∧ Ty.cnt (.mk s xs o) n = Ty.cntL (xs.drop k) q ∧ Below W.heap.size W wr) (fun _ i _ => m - (intOf i).toNat)
  case atStart => exact ⟨0, _, by omega, rfl, rfl, by omega, by omega, HC.out, Below.refl _ _⟩
  case round =>
    obtain ⟨k, q, hk, rfl, rfl, hq0, hq1, hc, hbel⟩ := hrel
    obtain ⟨x0, x1, x2⟩ := HX.out.later hbel
    have HBL := Lib.hid hbel
    have HQ := Lib.hid hc
    clear hc
    by_cases hlt : k < m
    · have y0 : (k : Int) < m := by omega
      by_cases hq : q ≤ 2000
      · obtain ⟨a, u, ys, p, B, l, d, rfl, hx, _, c0, c1, c2, hu, hl⟩ := (H.out.later hbel).get hlt
        have C := Lib.hid (IH.out _ (List.mem_of_getElem? hx) B l d q wr hu hq0 hq hl)
        have HQ2 := Lib.hid (HQ.out.trans (cntL_on hx hq))
        clear hx hl hbel
        simp only [Ty.name, Ty.off] at C
        go_wp2_with fail
        refine C.out.mono ?_
        rintro e w1 ⟨rfl, g0, g1, hb1⟩
        have HB1 := Lib.hid (HBL.out.trans (hb1.mono HBL.out.size))
        clear hb1
        go_wp2_with fail
        go_roundw
        case rel => exact ⟨k + 1, _, by omega, by go_num, rfl, g0, g1, HQ2.out, HB1.out⟩
        case measure => simp [intOf]; omega
      · have HQ2 := Lib.hid (HQ.out.trans (cntL_off hq))
        have y1 : 2000 < q := by omega
        clear hq hbel
        go_wp2_with fail
        go_ret
        exact ⟨ret_int (by rw [HQ2.out]), by rw [HQ2.out]; omega, by rw [HQ2.out]; omega, HB.out.trans (HBL.out.mono HB.out.size)⟩
    · have y0 : (m : Int) ≤ k := by omega
      have HQ2 := Lib.hid (HQ.out.trans (cntL_end (by rw [H.out.len]; omega)))
      clear hbel
      go_wp2_with fail
      go_ret
      exact ⟨ret_int (by rw [HQ2.out]), by rw [HQ2.out]; omega, by rw [HQ2.out]; omega, HB.out.trans (HBL.out.mono HB.out.size)⟩

def Ty.few (t : Ty) : Bool := decide (t.cnt 0 ≤ 200)
def Ty.fewL (xs : List Ty) : Bool := decide (Ty.cntL xs 0 ≤ 200)

theorem few_any (t : Ty) (A : Option Addr) (m c : Nat) (w : World) (hs : t.name.size ≤ 9223372036854775807) (h : Here w A m t.args) :
    Calls Tryd.prog 10 #[.agg #[.string t.name, .slice A m c, .int .i64 t.off]] w fun e w' => e = .returned (.bool t.few) ∧ Below w.heap.size w w' := by
  have hb : Below w.heap.size w (w.alloc (.cells #[.string t.name, .slice A m c, .int .i64 t.off] 24)) := (Below.refl _ _).alloc (Nat.le_refl _) _
  have C := Lib.hid (count_any t A m c 0 _ hs (by omega) (by omega) (h.later hb))
  have HB := Lib.hid hb
  have HF := Lib.hid (show t.few = decide (t.cnt 0 ≤ 200) from rfl)
  clear hb h
  go_enter Tryd.func10, Tryd.ntmps10
  go_wp2_with fail
  refine C.out.mono ?_
  rintro e w1 ⟨rfl, g0, g1, hb1⟩
  have HB1 := Lib.hid (HB.out.trans (hb1.mono HB.out.size))
  clear hb1
  go_wp2_with fail
  go_ret
  exact ⟨ret_bool HF.out.symm, HB1.out⟩

set_option maxHeartbeats 1000000 in
theorem few_all_any (xs : List Ty) (A : Option Addr) (m c : Nat) (w : World) (h : Here w A m xs) :
    Calls Tryd.prog 22 #[.slice A m c] w fun e w' => e = .returned (.bool (Ty.fewL xs)) ∧ Below w.heap.size w w' := by
  have hm : (m : Int) ≤ 9223372036854775807 := by have := h.le; omega
  have H := Lib.hid h
  have HF := Lib.hid (show Ty.fewL xs = decide (Ty.cntL (xs.drop 0) 0 ≤ 200) from rfl)
  clear h
  go_enter Tryd.func22, Tryd.ntmps22
  go_wp2_with fail
  go_loopw [3, 4] (fun v i wr => ∃ (k : Nat) (q : Int), k ≤ m ∧ i = .int .i64 k ∧ v = .int .i64 q ∧ 0 ≤ q ∧ q ≤ 1000000000000000000 ∧ Ty.fewL xs = decide (Ty.cntL (xs.drop k) q ≤ 200) ∧ Below w.heap.size w wr) (fun _ i _ => m - (intOf i).toNat)
  case atStart => exact ⟨0, 0, by omega, rfl, rfl, by omega, by omega, HF.out, Below.refl _ _⟩
  case round =>
    obtain ⟨k, q, hk, rfl, rfl, hq0, hq1, hc, hbel⟩ := hrel
    have HBL := Lib.hid hbel
    have HQ := Lib.hid hc
    clear hc
    by_cases hlt : k < m
    · have y0 : (k : Int) < m := by omega
      by_cases hq : q ≤ 2000
      · obtain ⟨a, u, ys, p, B, l, d, rfl, hx, _, c0, c1, c2, hu, hl⟩ := (H.out.later hbel).get hlt
        have C := Lib.hid (count_any (.mk u ys p) B l d q wr hu hq0 hq hl)
        have HQ2 := Lib.hid (HQ.out.trans (by rw [cntL_on hx hq]))
        clear hx hl hbel
        simp only [Ty.name, Ty.off] at C
        go_wp2_with fail
        refine C.out.mono ?_
        rintro e w1 ⟨rfl, g0, g1, hb1⟩
        have HB1 := Lib.hid (HBL.out.trans (hb1.mono HBL.out.size))
        clear hb1
        go_wp2_with fail
        go_roundw
        case rel => exact ⟨k + 1, _, by omega, by go_num, rfl, g0, g1, HQ2.out, HB1.out⟩
        case measure => simp [intOf]; omega
      · have HQ2 := Lib.hid (HQ.out.trans (by rw [cntL_off hq]))
        have y1 : 2000 < q := by omega
        clear hq hbel
        go_wp2_with fail
        go_ret
        exact ⟨ret_bool (by rw [HQ2.out]), HBL.out⟩
    · have y0 : (m : Int) ≤ k := by omega
      have HQ2 := Lib.hid (HQ.out.trans (by rw [cntL_end (by rw [H.out.len]; omega)]))
      clear hbel
      go_wp2_with fail
      go_ret
      exact ⟨ret_bool (by rw [HQ2.out]), HBL.out⟩
end Go.Proofs.YtioamnaknjhbpaaDoor
