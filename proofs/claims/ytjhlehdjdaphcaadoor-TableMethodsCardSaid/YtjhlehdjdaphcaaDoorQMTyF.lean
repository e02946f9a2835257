/- The walks of the reference's Count, Few, FewAll, Compare and Equal of types.
The walks of the reference's Text, Depth, List and Right of types. -/
import Derived.Test.YtjhlehdjdaphcaaDoorQMNmR
import Derived.Outline
import Derived.WalkSpells
import Derived.WalkLawsBesides
import Derived.Deep.QuietTactic
import Derived.BigQuiet
import Derived.Deep.RegionHeld3
import Derived.Lib.SmallJoins
namespace Go.Proofs.YtjhlehdjdaphcaaDoor
open Go.RowKit

theorem cntL_on {xs : List Ty} {k : Nat} {x : Ty} {n : Int} (hx : xs[k]? = some x) (hn : n ≤ 2000) : Ty.cntL (xs.drop k) n = Ty.cntL (xs.drop (k + 1)) (Ty.cnt x n) := by
  obtain ⟨h1, e1⟩ := List.getElem?_eq_some_iff.1 hx
  rw [List.drop_eq_getElem_cons h1, e1, Ty.cntL, if_pos hn]
theorem cntL_off {xs : List Ty} {k : Nat} {n : Int} (hn : ¬ n ≤ 2000) : Ty.cntL (xs.drop k) n = n := by
  cases xs.drop k with
  | nil => simp only [Ty.cntL]
  | cons a r => rw [Ty.cntL, if_neg hn]
theorem cntL_end {xs : List Ty} {k : Nat} {n : Int} (hk : xs.length ≤ k) : Ty.cntL (xs.drop k) n = n := by
  rw [List.drop_eq_nil_of_le hk]; simp only [Ty.cntL]

/-- What Count returns, within bounds. -/
def CntPost (w : World) (c : Int) (e : Ending) (w' : World) : Prop := e = .returned (.int .i64 c) ∧ 0 ≤ c ∧ c ≤ 1000000000000000000 ∧ Below w.heap.size w w'

set_option maxHeartbeats 2000000 in
theorem count_any : ∀ (t : Ty) (A : Option Addr) (m c : Nat) (n : Int) (w : World), t.name.size ≤ 9223372036854775807 → 0 ≤ n → n ≤ 500000000000000000 → Here w A m t.args →
    Calls Tryd.prog 31 #[.agg #[.string t.name, .slice A m c, .int .i64 t.off], .int .i64 n] w (CntPost w (t.cnt n)) := by
  refine Ty.ind fun s xs o ih A m c n w hs h0 h1 h => ?_
  simp only [Ty.name, Ty.args, Ty.off] at hs h ⊢
  have hb : Below w.heap.size w (w.alloc (.cells #[.string s, .slice A m c, .int .i64 o] 25)) := (Below.refl _ _).alloc (Nat.le_refl _) _
  have hm : (m : Int) ≤ 9223372036854775807 := by have := h.le; omega
  have z1 : (s.size : Int) / 50 ≤ 200000000000000000 := by omega
  have z2 : 0 ≤ (s.size : Int) / 50 := by omega
  have IH := Lib.hid ih
  have H := Lib.hid (Here.later h hb)
  have HX := Lib.hid (Box.new w s A m c o 25)
  have HB := Lib.hid hb
  have HC := Lib.hid (show Ty.cnt (.mk s xs o) n = Ty.cntL (xs.drop 0) (n + 1 + s.size / 50) by rw [List.drop_zero, Ty.cnt])
  clear ih h hb
  go_enter Tryd.func31, Tryd.ntmps31
  go_wp2_with fail
  generalize hW : w.alloc (.cells #[.string s, .slice A m c, .int .i64 o] 25) = W at *
  clear hW
  go_loopw [1, 5] (fun v i wr => ∃ (k : Nat) (q : Int), k ≤ m ∧ i = .int .i64 k ∧ v = .int .i64 q ∧ 0 ≤ q ∧ q ≤ 1000000000000000000 ∧ Ty.cnt (.mk s xs o) n = Ty.cntL (xs.drop k) q ∧ Below W.heap.size W wr) (fun _ i _ => m - (intOf i).toNat)
  case atStart => exact ⟨0, _, by omega, rfl, rfl, by omega, by omega, HC.out, Below.refl _ _⟩
  case round =>
    obtain ⟨k, q, hk, rfl, rfl, hq0, hq1, hc, hbel⟩ := hrel
    obtain ⟨x0, x1, x2⟩ := HX.out.later hbel
    have HBL := Lib.hid hbel
    have HQ := Lib.hid hc
    clear hc
    by_cases hlt : k < m
    · have y0 : (k : Int) < m := by omega
      by_cases hq : q ≤ 2000
      · obtain ⟨a, u, ys, p, B, l, d, rfl, hx, _, c0, c1, c2, hu, hl⟩ := (H.out.later hbel).get hlt
        have C := Lib.hid (IH.out _ (List.mem_of_getElem? hx) B l d q wr hu hq0 (by omega) hl)
        have HQ2 := Lib.hid (HQ.out.trans (cntL_on hx hq))
        clear hx hl hbel
        simp only [Ty.name, Ty.off] at C
        go_wp2_with fail
        refine C.out.mono ?_
        rintro e w1 ⟨rfl, g0, g1, hb1⟩
        have HB1 := Lib.hid (HBL.out.trans (hb1.mono HBL.out.size))
        clear hb1
        go_wp2_with fail
        go_roundw
        case rel => exact ⟨k + 1, _, by omega, by go_num, rfl, g0, g1, HQ2.out, HB1.out⟩
        case measure => simp [intOf]; omega
      · have HQ2 := Lib.hid (HQ.out.trans (cntL_off hq))
        have y1 : 2000 < q := by omega
        clear hq hbel
        go_wp2_with fail
        go_ret
        exact ⟨ret_int (by rw [HQ2.out]), by rw [HQ2.out]; omega, by rw [HQ2.out]; omega, HB.out.trans (HBL.out.mono HB.out.size)⟩
    · have y0 : (m : Int) ≤ k := by omega
      have HQ2 := Lib.hid (HQ.out.trans (cntL_end (by rw [H.out.len]; omega)))
      clear hbel
      go_wp2_with fail
      go_ret
      exact ⟨ret_int (by rw [HQ2.out]), by rw [HQ2.out]; omega, by rw [HQ2.out]; omega, HB.out.trans (HBL.out.mono HB.out.size)⟩

def Ty.few (t : Ty) : Bool := decide (t.cnt 0 ≤ 200)
theorem few_any (t : Ty) (A : Option Addr) (m c : Nat) (w : World) (hs : t.name.size ≤ 9223372036854775807) (h : Here w A m t.args) :
    Calls Tryd.prog 10 #[.agg #[.string t.name, .slice A m c, .int .i64 t.off]] w fun e w' => e = .returned (.bool t.few) ∧ Below w.heap.size w w' := by
  have hb : Below w.heap.size w (w.alloc (.cells #[.string t.name, .slice A m c, .int .i64 t.off] 25)) := (Below.refl _ _).alloc (Nat.le_refl _) _
  have C := Lib.hid (count_any t A m c 0 _ hs (by omega) (by omega) (h.later hb))
  have HB := Lib.hid hb
  have HF := Lib.hid (show t.few = decide (t.cnt 0 ≤ 200) from rfl)
  clear hb h
  go_enter Tryd.func10, Tryd.ntmps10
  go_wp2_with fail
  refine C.out.mono ?_
  rintro e w1 ⟨rfl, g0, g1, hb1⟩
  have HB1 := Lib.hid (HB.out.trans (hb1.mono HB.out.size))
  clear hb1
  go_wp2_with fail
  go_ret
  exact ⟨ret_bool HF.out.symm, HB1.out⟩

end Go.Proofs.YtjhlehdjdaphcaaDoor
namespace Go.Proofs.YtjhlehdjdaphcaaDoor
open Go.RowKit

theorem cmpL_on {xs ys : List Ty} {k : Nat} {x y : Ty} (hx : xs[k]? = some x) (hy : ys[k]? = some y) : Ty.cmpL (xs.drop k) (ys.drop k) = if Ty.cmp x y = 0 then Ty.cmpL (xs.drop (k + 1)) (ys.drop (k + 1)) else Ty.cmp x y := by
  obtain ⟨h1, e1⟩ := List.getElem?_eq_some_iff.1 hx
  obtain ⟨h2, e2⟩ := List.getElem?_eq_some_iff.1 hy
  rw [List.drop_eq_getElem_cons h1, List.drop_eq_getElem_cons h2, e1, e2, Ty.cmpL]
theorem cmpL_off {xs ys : List Ty} {k : Nat} (h : k = xs.length ∧ k ≤ ys.length ∨ k = ys.length ∧ k ≤ xs.length) : Ty.cmpL (xs.drop k) (ys.drop k) = if xs.length < ys.length then -1 else if ys.length < xs.length then 1 else 0 := by
  rcases h with ⟨rfl, h⟩ | ⟨rfl, h⟩
  · rw [List.drop_length]
    cases e : ys.drop xs.length with
    | nil =>
      have := List.drop_eq_nil_iff.1 e
      rw [Ty.cmpL, if_neg (by omega), if_neg (by omega)]
    | cons y r =>
      have : xs.length < ys.length := by
        rcases Nat.lt_or_ge xs.length ys.length with h1 | h1
        · exact h1
        · rw [List.drop_eq_nil_of_le h1] at e; cases e
      rw [Ty.cmpL, if_pos this]
  · rw [List.drop_length]
    cases e : xs.drop ys.length with
    | nil =>
      have := List.drop_eq_nil_iff.1 e
      rw [Ty.cmpL, if_neg (by omega), if_neg (by omega)]
    | cons y r =>
      have : ys.length < xs.length := by
        rcases Nat.lt_or_ge ys.length xs.length with h1 | h1
        · exact h1
        · rw [List.drop_eq_nil_of_le h1] at e; cases e
      rw [Ty.cmpL, if_neg (by omega), if_pos this]

/-- What a comparison returns. -/
def CmpPost (w : World) (c : Int) (e : Ending) (w' : World) : Prop := e = .returned (.int .i64 c) ∧ Below w.heap.size w w'

set_option maxRecDepth 100000 in
set_option maxHeartbeats 4000000 in
theorem ref_cmp_any : ∀ (t u : Ty) (A B : Option Addr) (m l c d : Nat) (w : World), t.name.size ≤ 9223372036854775807 → u.name.size ≤ 9223372036854775807 → Here w A m t.args → Here w B l u.args →
    Calls Tryd.prog 81 #[.agg #[.string t.name, .slice A m c, .int .i64 t.off], .agg #[.string u.name, .slice B l d, .int .i64 u.off]] w (CmpPost w (t.cmp u)) := by
  refine Ty.ind fun s xs o ih u A B m l c d w hs hu h1 h2 => ?_
  obtain ⟨r, ys, p⟩ := u
  simp only [Ty.name, Ty.args, Ty.off] at hs hu h1 h2 ⊢
  have hb : Below w.heap.size w ((w.alloc (.cells #[.string s, .slice A m c, .int .i64 o] 25)).alloc (.cells #[.string r, .slice B l d, .int .i64 p] 25)) := ((Below.refl _ _).alloc (Nat.le_refl _) _).alloc (by simp) _
  have hb1 : Below (w.alloc (.cells #[.string s, .slice A m c, .int .i64 o] 25)).heap.size (w.alloc (.cells #[.string s, .slice A m c, .int .i64 o] 25)) ((w.alloc (.cells #[.string s, .slice A m c, .int .i64 o] 25)).alloc (.cells #[.string r, .slice B l d, .int .i64 p] 25)) := (Below.refl _ _).alloc (Nat.le_refl _) _
  have IH := Lib.hid ih
  have H1 := Lib.hid (Here.later h1 hb)
  have H2 := Lib.hid (Here.later h2 hb)
  have HX := Lib.hid ((Box.new w s A m c o 25).later hb1)
  have hy := Box.new (w.alloc (.cells #[.string s, .slice A m c, .int .i64 o] 25)) r B l d p 25
  rw [show (w.alloc (.cells #[.string s, .slice A m c, .int .i64 o] 25)).heap.size = w.heap.size + 1 by simp] at hy
  have HY := Lib.hid hy
  have HB := Lib.hid hb
  have hm : (m : Int) ≤ 9223372036854775807 := by have := h1.le; omega
  have hl : (l : Int) ≤ 9223372036854775807 := by have := h2.le; omega
  clear ih h1 h2 hb hb1 hy
  by_cases hsr : s.data.toList = r.data.toList
  · have HC := Lib.hid (show Ty.cmp (.mk s xs o) (.mk r ys p) = Ty.cmpL (xs.drop 0) (ys.drop 0) by rw [List.drop_zero, List.drop_zero, Ty.cmp, if_pos hsr])
    have e1 : (s.toList == r.toList) = true := by rw [Lib.toList_data, Lib.toList_data]; simp [hsr]
    have e2 : (s.toList != r.toList) = false := by rw [Lib.toList_data, Lib.toList_data]; simp [hsr]
    clear hsr
    go_enter Tryd.func81, Tryd.ntmps81
    go_wp2_with fail
    generalize hW : (w.alloc (.cells #[.string s, .slice A m c, .int .i64 o] 25)).alloc (.cells #[.string r, .slice B l d, .int .i64 p] 25) = W at *
    clear hW
    go_loopw [5] (fun i wr => ∃ k : Nat, k ≤ m ∧ k ≤ l ∧ i = .int .i64 k ∧ Ty.cmp (.mk s xs o) (.mk r ys p) = Ty.cmpL (xs.drop k) (ys.drop k) ∧ Below W.heap.size W wr) (fun i _ => m - (intOf i).toNat)
    case atStart => exact ⟨0, by omega, by omega, rfl, HC.out, Below.refl _ _⟩
    case round =>
      obtain ⟨k, hk, hk2, rfl, hc, hbel⟩ := hrel
      obtain ⟨x0, x1, x2⟩ := HX.out.later hbel
      obtain ⟨y0, y1, y2⟩ := HY.out.later hbel
      have HBL := Lib.hid hbel
      have HQ := Lib.hid hc
      clear hc
      by_cases hlt : k < m ∧ k < l
      · obtain ⟨hlt1, hlt2⟩ := hlt
        have z0 : (0 : Int) ≤ k := by omega
        have z1 : (k : Int) < m := by omega
        have z2 : (k : Int) < l := by omega
        obtain ⟨a, s2, as2, o2, A2, m2, c2, rfl, hx, _, a0, a1, a2, hs2, hl2⟩ := (H1.out.later hbel).get hlt1
        obtain ⟨b, r2, bs2, p2, B2, l2, d2, rfl, hy, _, b0, b1, b2, hr2, hl3⟩ := (H2.out.later hbel).get hlt2
        have C := Lib.hid (fun (V : World) (hV : Below wr.heap.size wr V) => (IH.out _ (List.mem_of_getElem? hx) (.mk r2 bs2 p2) A2 B2 m2 l2 c2 d2 V hs2 hr2 (Here.later hl2 hV) (Here.later hl3 hV)).mono fun e w' (h : _ ∧ _) => (⟨h.1, hV.trans (h.2.mono hV.size)⟩ : _ ∧ Below wr.heap.size wr w'))
        have HS := Lib.hid (HQ.out.trans (cmpL_on hx hy))
        simp only [Ty.name, Ty.off] at C
        clear hx hy hl2 hl3 hbel HQ
        have k0 := cell_lt a0
        have k1 := cell_lt b0
        rw [block_of_add] at k0 k1
        have k2 := cell_lt x1
        have k3 := cell_lt y1
        have SS : Below wr.heap.size wr wr ∧ wr.cell? ⟨w.heap.size, 1, none⟩ = some (.slice (some a) m c) ∧ wr.cell? ⟨w.heap.size + 1, 1, none⟩ = some (.slice (some b) l d) ∧ wr.cell? (a.add (k * 3)) = some (.string s2)
          ∧ wr.cell? ⟨(a.add (k * 3)).block, (a.add (k * 3)).off + 1, none⟩ = some (.slice A2 m2 c2) ∧ wr.cell? ⟨(a.add (k * 3)).block, (a.add (k * 3)).off + 2, none⟩ = some (.int .i64 o2) ∧ wr.cell? (b.add (k * 3)) = some (.string r2)
          ∧ wr.cell? ⟨(b.add (k * 3)).block, (b.add (k * 3)).off + 1, none⟩ = some (.slice B2 l2 d2) ∧ wr.cell? ⟨(b.add (k * 3)).block, (b.add (k * 3)).off + 2, none⟩ = some (.int .i64 p2) := ⟨Below.refl _ _, x1, y1, a0, a1, a2, b0, b1, b2⟩
        go_wp2_with fail
        go_region_held3 (fun V => Below wr.heap.size wr V ∧ V.cell? ⟨w.heap.size, 1, none⟩ = some (.slice (some a) m c) ∧ V.cell? ⟨w.heap.size + 1, 1, none⟩ = some (.slice (some b) l d) ∧ V.cell? (a.add (k * 3)) = some (.string s2)
          ∧ V.cell? ⟨(a.add (k * 3)).block, (a.add (k * 3)).off + 1, none⟩ = some (.slice A2 m2 c2) ∧ V.cell? ⟨(a.add (k * 3)).block, (a.add (k * 3)).off + 2, none⟩ = some (.int .i64 o2) ∧ V.cell? (b.add (k * 3)) = some (.string r2)
          ∧ V.cell? ⟨(b.add (k * 3)).block, (b.add (k * 3)).off + 1, none⟩ = some (.slice B2 l2 d2) ∧ V.cell? ⟨(b.add (k * 3)).block, (b.add (k * 3)).off + 2, none⟩ = some (.int .i64 p2))
          (first | exact SS | exact ⟨SS.1.drew, SS.2⟩)
          (first
            | (go_at_call 81; refine (C.out _ ?_).mono ?_; (first | exact SS.1 | exact SS.1.drew); rintro e w1 ⟨rfl, hb1⟩; have SS : Below wr.heap.size wr w1 ∧ w1.cell? ⟨w.heap.size, 1, none⟩ = some (.slice (some a) m c) ∧ w1.cell? ⟨w.heap.size + 1, 1, none⟩ = some (.slice (some b) l d) ∧ w1.cell? (a.add (k * 3)) = some (.string s2)
          ∧ w1.cell? ⟨(a.add (k * 3)).block, (a.add (k * 3)).off + 1, none⟩ = some (.slice A2 m2 c2) ∧ w1.cell? ⟨(a.add (k * 3)).block, (a.add (k * 3)).off + 2, none⟩ = some (.int .i64 o2) ∧ w1.cell? (b.add (k * 3)) = some (.string r2)
          ∧ w1.cell? ⟨(b.add (k * 3)).block, (b.add (k * 3)).off + 1, none⟩ = some (.slice B2 l2 d2) ∧ w1.cell? ⟨(b.add (k * 3)).block, (b.add (k * 3)).off + 2, none⟩ = some (.int .i64 p2) := ⟨hb1, (hb1.cell k2).trans x1, (hb1.cell k3).trans y1, (hb1.cell (by rw [block_of_add]; exact k0)).trans a0, (hb1.cell (p := ⟨(a.add (k * 3)).block, _, none⟩) (by rw [block_of_add]; exact k0)).trans a1, (hb1.cell (p := ⟨(a.add (k * 3)).block, _, none⟩) (by rw [block_of_add]; exact k0)).trans a2, (hb1.cell (by rw [block_of_add]; exact k1)).trans b0, (hb1.cell (p := ⟨(b.add (k * 3)).block, _, none⟩) (by rw [block_of_add]; exact k1)).trans b1, (hb1.cell (p := ⟨(b.add (k * 3)).block, _, none⟩) (by rw [block_of_add]; exact k1)).trans b2⟩; clear hb1))
        have HB1 := Lib.hid (HBL.out.trans (SS.1.mono HBL.out.size))
        clear SS
        by_cases hz : Ty.cmp (.mk s2 as2 o2) (.mk r2 bs2 p2) = 0
        · have HS2 := Lib.hid (HS.out.trans (if_pos hz))
          have q1 : (Ty.cmp (.mk s2 as2 o2) (.mk r2 bs2 p2) != 0) = false := by simp [hz]
          have q2 : (Ty.cmp (.mk s2 as2 o2) (.mk r2 bs2 p2) == 0) = true := by simp [hz]
          clear hz
          go_wp2
          go_roundw
          case rel => exact ⟨k + 1, by omega, by omega, by go_num, HS2.out, HB1.out⟩
          case measure => simp [intOf]; omega
        · have HS2 := Lib.hid (HS.out.trans (if_neg hz))
          have q1 : (Ty.cmp (.mk s2 as2 o2) (.mk r2 bs2 p2) != 0) = true := by simp [hz]
          have q2 : (Ty.cmp (.mk s2 as2 o2) (.mk r2 bs2 p2) == 0) = false := by simp [hz]
          clear hz
          go_wp2
          go_ret
          exact ⟨ret_int (by rw [HS2.out]), HB.out.trans (HB1.out.mono HB.out.size)⟩
      · have hq := HQ.out.trans (cmpL_off (by rw [H1.out.len, H2.out.len]; omega))
        rw [H1.out.len, H2.out.len] at hq
        have HQ2 := Lib.hid hq
        clear hq hbel
        by_cases h3 : m < l
        · have q1 : (m : Int) < l := by omega
          by_cases h4 : k < m
          · omega
          · have q2 : (m : Int) ≤ k := by omega
            go_wp2_with fail
            go_ret
            exact ⟨ret_int (by rw [HQ2.out, if_pos h3]), HB.out.trans (HBL.out.mono HB.out.size)⟩
        · by_cases h4 : l < m
          · have q1 : (l : Int) < m := by omega
            have q2 : (l : Int) ≤ k := by omega
            have q3 : (k : Int) < m := by omega
            go_wp2_with fail
            go_ret
            exact ⟨ret_int (by rw [HQ2.out, if_neg h3, if_pos h4]), HB.out.trans (HBL.out.mono HB.out.size)⟩
          · have q1 : (m : Int) ≤ k := by omega
            have hml : l = m := by omega
            have e3 : ((m : Int) < (l : Int)) = False := by simp; omega
            have e4 : ((l : Int) < (m : Int)) = False := by simp; omega
            clear hml
            go_wp2_with fail
            go_ret
            exact ⟨ret_int (by rw [HQ2.out, if_neg h3, if_neg h4]), HB.out.trans (HBL.out.mono HB.out.size)⟩
  · have HC := Lib.hid (show Ty.cmp (.mk s xs o) (.mk r ys p) = Lib.compareBytes s.data.toList r.data.toList by rw [Ty.cmp, if_neg hsr])
    have e1 : (s.toList == r.toList) = false := by rw [Lib.toList_data, Lib.toList_data]; simpa using hsr
    have e2 : (s.toList != r.toList) = true := by rw [Lib.toList_data, Lib.toList_data]; simpa using hsr
    clear hsr
    go_enter Tryd.func81, Tryd.ntmps81
    go_wp2_with fail
    refine (nm_ref_compare_any s r hs hu _).mono ?_
    rintro e w1 ⟨rfl, hw⟩
    have HW := Lib.hid hw
    clear hw
    go_wp2_with fail
    go_ret
    exact ⟨ret_int (by rw [HC.out]), HB.out.trans (HW.out.mono HB.out.size)⟩
end Go.Proofs.YtjhlehdjdaphcaaDoor
namespace Go.Proofs.YtjhlehdjdaphcaaDoor
open Go.RowKit

theorem eqvL_len : ∀ {xs ys : List Ty}, xs.length ≠ ys.length → Ty.eqvL xs ys = false
  | [], [], h => absurd rfl h
  | [], _ :: _, _ => by simp only [Ty.eqvL]
  | _ :: _, [], _ => by simp only [Ty.eqvL]
  | x :: xs, y :: ys, h => by
    rw [Ty.eqvL, eqvL_len (xs := xs) (ys := ys) (by simp at h; omega), Bool.and_false]
theorem eqvL_on {xs ys : List Ty} {k : Nat} {x y : Ty} (hx : xs[k]? = some x) (hy : ys[k]? = some y) : Ty.eqvL (xs.drop k) (ys.drop k) = (Ty.eqv x y && Ty.eqvL (xs.drop (k + 1)) (ys.drop (k + 1))) := by
  obtain ⟨h1, e1⟩ := List.getElem?_eq_some_iff.1 hx
  obtain ⟨h2, e2⟩ := List.getElem?_eq_some_iff.1 hy
  rw [List.drop_eq_getElem_cons h1, List.drop_eq_getElem_cons h2, e1, e2, Ty.eqvL]

def EqvPost (w : World) (c : Bool) (e : Ending) (w' : World) : Prop := e = .returned (.bool c) ∧ Below w.heap.size w w'

set_option maxRecDepth 100000 in
set_option maxHeartbeats 4000000 in
theorem ref_equal_any : ∀ (t u : Ty) (A B : Option Addr) (m l c d : Nat) (w : World), t.name.size ≤ 9223372036854775807 → u.name.size ≤ 9223372036854775807 → Here w A m t.args → Here w B l u.args →
    Calls Tryd.prog 65 #[.agg #[.string t.name, .slice A m c, .int .i64 t.off], .agg #[.string u.name, .slice B l d, .int .i64 u.off]] w (EqvPost w (t.eqv u)) := by
  refine Ty.ind fun s xs o ih u A B m l c d w hs hu h1 h2 => ?_
  obtain ⟨r, ys, p⟩ := u
  simp only [Ty.name, Ty.args, Ty.off] at hs hu h1 h2 ⊢
  have hb : Below w.heap.size w ((w.alloc (.cells #[.string s, .slice A m c, .int .i64 o] 25)).alloc (.cells #[.string r, .slice B l d, .int .i64 p] 25)) := ((Below.refl _ _).alloc (Nat.le_refl _) _).alloc (by simp) _
  have hb1 : Below (w.alloc (.cells #[.string s, .slice A m c, .int .i64 o] 25)).heap.size (w.alloc (.cells #[.string s, .slice A m c, .int .i64 o] 25)) ((w.alloc (.cells #[.string s, .slice A m c, .int .i64 o] 25)).alloc (.cells #[.string r, .slice B l d, .int .i64 p] 25)) := (Below.refl _ _).alloc (Nat.le_refl _) _
  have IH := Lib.hid ih
  have H1 := Lib.hid (Here.later h1 hb)
  have H2 := Lib.hid (Here.later h2 hb)
  have HX := Lib.hid ((Box.new w s A m c o 25).later hb1)
  have hy := Box.new (w.alloc (.cells #[.string s, .slice A m c, .int .i64 o] 25)) r B l d p 25
  rw [show (w.alloc (.cells #[.string s, .slice A m c, .int .i64 o] 25)).heap.size = w.heap.size + 1 by simp] at hy
  have HY := Lib.hid hy
  have HB := Lib.hid hb
  have hm : (m : Int) ≤ 9223372036854775807 := by have := h1.le; omega
  have hl : (l : Int) ≤ 9223372036854775807 := by have := h2.le; omega
  have hxl := h1.len
  have hyl := h2.len
  have HD := Lib.hid (show Ty.eqv (.mk s xs o) (.mk r ys p) = ((s.data.toList == r.data.toList) && (o == p) && Ty.eqvL xs ys) by rw [Ty.eqv])
  clear ih h1 h2 hb hb1 hy
  by_cases hsr : s.data.toList = r.data.toList
  · have e1 : (s.toList == r.toList) = true := by rw [Lib.toList_data, Lib.toList_data]; simp [hsr]
    have e2 : (s.toList != r.toList) = false := by rw [Lib.toList_data, Lib.toList_data]; simp [hsr]
    have e5 : (!(s.toList == r.toList)) = false := by rw [e1]; rfl
    by_cases hop : o = p
    · have e3 : (o != p) = false := by simp [hop]
      have e4 : (o == p) = true := by simp [hop]
      by_cases hml : m = l
      · subst hml
        have HC := Lib.hid (show Ty.eqv (.mk s xs o) (.mk r ys p) = Ty.eqvL (xs.drop 0) (ys.drop 0) by rw [HD.out, hsr, e4]; simp)
        have hnn : (!((m : Int) == (m : Int))) = false := by simp
        clear hsr hop hxl hyl
        go_enter Tryd.func65, Tryd.ntmps65
        go_wp2_with fail
        generalize hW : (w.alloc (.cells #[.string s, .slice A m c, .int .i64 o] 25)).alloc (.cells #[.string r, .slice B m d, .int .i64 p] 25) = W at *
        clear hW
        go_loopw [5] (fun i wr => ∃ k : Nat, k ≤ m ∧ i = .int .i64 k ∧ Ty.eqv (.mk s xs o) (.mk r ys p) = Ty.eqvL (xs.drop k) (ys.drop k) ∧ Below W.heap.size W wr) (fun i _ => m - (intOf i).toNat)
        case atStart => exact ⟨0, by omega, rfl, HC.out, Below.refl _ _⟩
        case round =>
          obtain ⟨k, hk, rfl, hc, hbel⟩ := hrel
          obtain ⟨x0, x1, x2⟩ := HX.out.later hbel
          obtain ⟨y0, y1, y2⟩ := HY.out.later hbel
          have HBL := Lib.hid hbel
          have HQ := Lib.hid hc
          clear hc
          by_cases hlt : k < m
          · have z0 : (0 : Int) ≤ k := by omega
            have z1 : (k : Int) < m := by omega
            obtain ⟨a, s2, as2, o2, A2, m2, c2, rfl, hx, _, a0, a1, a2, hs2, hl2⟩ := (H1.out.later hbel).get hlt
            obtain ⟨b, r2, bs2, p2, B2, l2, d2, rfl, hy, _, b0, b1, b2, hr2, hl3⟩ := (H2.out.later hbel).get hlt
            have C := Lib.hid (fun (V : World) (hV : Below wr.heap.size wr V) => (IH.out _ (List.mem_of_getElem? hx) (.mk r2 bs2 p2) A2 B2 m2 l2 c2 d2 V hs2 hr2 (Here.later hl2 hV) (Here.later hl3 hV)).mono fun e w' (h : _ ∧ _) => (⟨h.1, hV.trans (h.2.mono hV.size)⟩ : _ ∧ Below wr.heap.size wr w'))
            have HS := Lib.hid (HQ.out.trans (eqvL_on hx hy))
            simp only [Ty.name, Ty.off] at C
            clear hx hy hl2 hl3 hbel HQ
            have k0 := cell_lt a0
            have k1 := cell_lt b0
            rw [block_of_add] at k0 k1
            have k2 := cell_lt x1
            have k3 := cell_lt y1
            have SS : Below wr.heap.size wr wr ∧ wr.cell? ⟨w.heap.size, 1, none⟩ = some (.slice (some a) m c) ∧ wr.cell? ⟨w.heap.size + 1, 1, none⟩ = some (.slice (some b) m d) ∧ wr.cell? (a.add (k * 3)) = some (.string s2)
              ∧ wr.cell? ⟨(a.add (k * 3)).block, (a.add (k * 3)).off + 1, none⟩ = some (.slice A2 m2 c2) ∧ wr.cell? ⟨(a.add (k * 3)).block, (a.add (k * 3)).off + 2, none⟩ = some (.int .i64 o2) ∧ wr.cell? (b.add (k * 3)) = some (.string r2)
              ∧ wr.cell? ⟨(b.add (k * 3)).block, (b.add (k * 3)).off + 1, none⟩ = some (.slice B2 l2 d2) ∧ wr.cell? ⟨(b.add (k * 3)).block, (b.add (k * 3)).off + 2, none⟩ = some (.int .i64 p2) := ⟨Below.refl _ _, x1, y1, a0, a1, a2, b0, b1, b2⟩
            go_wp2_with fail
            go_region_held3 (fun V => Below wr.heap.size wr V ∧ V.cell? ⟨w.heap.size, 1, none⟩ = some (.slice (some a) m c) ∧ V.cell? ⟨w.heap.size + 1, 1, none⟩ = some (.slice (some b) m d) ∧ V.cell? (a.add (k * 3)) = some (.string s2)
              ∧ V.cell? ⟨(a.add (k * 3)).block, (a.add (k * 3)).off + 1, none⟩ = some (.slice A2 m2 c2) ∧ V.cell? ⟨(a.add (k * 3)).block, (a.add (k * 3)).off + 2, none⟩ = some (.int .i64 o2) ∧ V.cell? (b.add (k * 3)) = some (.string r2)
              ∧ V.cell? ⟨(b.add (k * 3)).block, (b.add (k * 3)).off + 1, none⟩ = some (.slice B2 l2 d2) ∧ V.cell? ⟨(b.add (k * 3)).block, (b.add (k * 3)).off + 2, none⟩ = some (.int .i64 p2))
              (first | exact SS | exact ⟨SS.1.drew, SS.2⟩)
              (first
                | (go_at_call 65; refine (C.out _ ?_).mono ?_; (first | exact SS.1 | exact SS.1.drew); rintro e w1 ⟨rfl, hb1⟩; have SS : Below wr.heap.size wr w1 ∧ w1.cell? ⟨w.heap.size, 1, none⟩ = some (.slice (some a) m c) ∧ w1.cell? ⟨w.heap.size + 1, 1, none⟩ = some (.slice (some b) m d) ∧ w1.cell? (a.add (k * 3)) = some (.string s2)
              ∧ w1.cell? ⟨(a.add (k * 3)).block, (a.add (k * 3)).off + 1, none⟩ = some (.slice A2 m2 c2) ∧ w1.cell? ⟨(a.add (k * 3)).block, (a.add (k * 3)).off + 2, none⟩ = some (.int .i64 o2) ∧ w1.cell? (b.add (k * 3)) = some (.string r2)
              ∧ w1.cell? ⟨(b.add (k * 3)).block, (b.add (k * 3)).off + 1, none⟩ = some (.slice B2 l2 d2) ∧ w1.cell? ⟨(b.add (k * 3)).block, (b.add (k * 3)).off + 2, none⟩ = some (.int .i64 p2) := ⟨hb1, (hb1.cell k2).trans x1, (hb1.cell k3).trans y1, (hb1.cell (by rw [block_of_add]; exact k0)).trans a0, (hb1.cell (p := ⟨(a.add (k * 3)).block, _, none⟩) (by rw [block_of_add]; exact k0)).trans a1, (hb1.cell (p := ⟨(a.add (k * 3)).block, _, none⟩) (by rw [block_of_add]; exact k0)).trans a2, (hb1.cell (by rw [block_of_add]; exact k1)).trans b0, (hb1.cell (p := ⟨(b.add (k * 3)).block, _, none⟩) (by rw [block_of_add]; exact k1)).trans b1, (hb1.cell (p := ⟨(b.add (k * 3)).block, _, none⟩) (by rw [block_of_add]; exact k1)).trans b2⟩; clear hb1))
            have HB1 := Lib.hid (HBL.out.trans (SS.1.mono HBL.out.size))
            clear SS
            cases hz : Ty.eqv (.mk s2 as2 o2) (.mk r2 bs2 p2)
            · have HS2 := Lib.hid (HS.out.trans (by rw [hz]; rfl : _ = false))
              go_wp2
              go_ret
              exact ⟨ret_bool (by rw [HS2.out]), HB.out.trans (HB1.out.mono HB.out.size)⟩
            · have HS2 := Lib.hid (HS.out.trans (by rw [hz]; rfl : _ = Ty.eqvL (xs.drop (k + 1)) (ys.drop (k + 1))))
              go_wp2
              go_roundw
              case rel => exact ⟨k + 1, by omega, by go_num, HS2.out, HB1.out⟩
              case measure => simp [intOf]; omega
          · have hq := HQ.out
            rw [List.drop_eq_nil_of_le (by rw [H1.out.len]; omega), List.drop_eq_nil_of_le (by rw [H2.out.len]; omega), Ty.eqvL] at hq
            have HQ2 := Lib.hid hq
            have q1 : (m : Int) ≤ k := by omega
            clear hq hbel
            go_wp2_with fail
            go_ret
            exact ⟨ret_bool (by rw [HQ2.out]), HB.out.trans (HBL.out.mono HB.out.size)⟩
      · have HC := Lib.hid (show Ty.eqv (.mk s xs o) (.mk r ys p) = false by rw [HD.out, eqvL_len (by rw [hxl, hyl]; exact hml), Bool.and_false])
        have e6 : ((m : Int) != (l : Int)) = true := by simp; omega
        have e7 : ((m : Int) == (l : Int)) = false := by simp; omega
        clear hsr hop hxl hyl hml
        go_enter Tryd.func65, Tryd.ntmps65
        go_wp2_with fail
        go_ret
        exact ⟨ret_bool (by rw [HC.out]), HB.out⟩
    · have e3 : (o != p) = true := by simp [hop]
      have e4 : (o == p) = false := by simp [hop]
      have HC := Lib.hid (show Ty.eqv (.mk s xs o) (.mk r ys p) = false by rw [HD.out, e4, Bool.and_false, Bool.false_and])
      clear hsr hop hxl hyl
      go_enter Tryd.func65, Tryd.ntmps65
      go_wp2_with fail
      go_ret
      exact ⟨ret_bool (by rw [HC.out]), HB.out⟩
  · have e1 : (s.toList == r.toList) = false := by rw [Lib.toList_data, Lib.toList_data]; simpa using hsr
    have e2 : (s.toList != r.toList) = true := by rw [Lib.toList_data, Lib.toList_data]; simpa using hsr
    have e5 : (!(s.toList == r.toList)) = true := by rw [e1]; rfl
    have HC := Lib.hid (show Ty.eqv (.mk s xs o) (.mk r ys p) = false by rw [HD.out, show (s.data.toList == r.data.toList) = false by simpa using hsr, Bool.false_and, Bool.false_and])
    clear hsr hxl hyl
    go_enter Tryd.func65, Tryd.ntmps65
    go_wp2_with fail
    go_ret
    exact ⟨ret_bool (by rw [HC.out]), HB.out⟩
end Go.Proofs.YtjhlehdjdaphcaaDoor

namespace Go.Proofs.YtjhlehdjdaphcaaDoor
open Go.RowKit

/-- The text of a type whose last arguments are not yet there. -/
def pre (s : List UInt8) : List Ty → List UInt8
  | [] => s
  | a :: r => s ++ [91] ++ Ty.text a ++ Ty.textL r
/-! ### the depth -/
end Go.Proofs.YtjhlehdjdaphcaaDoor
namespace Go.Proofs.YtjhlehdjdaphcaaDoor
open Go.RowKit

/-! ### right types -/
end Go.Proofs.YtjhlehdjdaphcaaDoor
