/- The walks of the reference's Text and Depth. -/
import Derived.Test.YtioamnaknjhbpaaDoorTyE
import Derived.Lib.SmallJoins
namespace Go.Proofs.YtioamnaknjhbpaaDoor
open Go.RowKit

theorem textL_snoc : ∀ (r : List Ty) (x : Ty), Ty.textL (r ++ [x]) = Ty.textL r ++ [44, 32] ++ Ty.text x
  | [], x => by simp [Ty.textL]
  | a :: r, x => by
    have := textL_snoc r x
    simp only [List.cons_append, Ty.textL, this, List.append_assoc]
/-- The text of a type whose last arguments are not yet there. -/
def pre (s : List UInt8) : List Ty → List UInt8
  | [] => s
  | a :: r => s ++ [91] ++ Ty.text a ++ Ty.textL r
theorem pre_step (s : List UInt8) {xs : List Ty} {k : Nat} {x : Ty} (hx : xs[k]? = some x) : pre s (xs.take (k + 1)) = pre s (xs.take k) ++ (if k = 0 then [91] else [44, 32]) ++ Ty.text x := by
  rw [List.take_add_one, hx]
  cases xs with
  | nil => simp at hx
  | cons a r =>
    cases k with
    | zero =>
      obtain rfl : a = x := by simpa using hx
      simp [pre, Ty.textL]
    | succ k =>
      simp only [List.take_succ_cons, Option.toList_some, List.cons_append, pre, textL_snoc, if_neg (Nat.succ_ne_zero k), List.append_assoc]
theorem pre_all (s : ByteArray) (xs : List Ty) (o : Int) : Ty.text (.mk s xs o) = if xs.length = 0 then pre s.data.toList xs else pre s.data.toList xs ++ [93] := by
  cases xs with
  | nil => simp only [Ty.text, pre, List.length_nil, if_true]
  | cons a r => simp [Ty.text, pre]
theorem textL_le : ∀ (r q : List Ty), (Ty.textL r).length ≤ (Ty.textL (r ++ q)).length
  | [], _ => by simp [Ty.textL]
  | a :: r, q => by
    have := textL_le r q
    simp only [List.cons_append, Ty.textL, List.length_append, List.length_cons]
    omega
theorem pre_le (s : List UInt8) (xs : List Ty) (k : Nat) : (pre s (xs.take k)).length ≤ (pre s xs).length := by
  cases xs with
  | nil => simp
  | cons a r =>
    cases k with
    | zero => simp [pre]
    | succ k =>
      have := textL_le (r.take k) (r.drop k)
      rw [List.take_append_drop] at this
      simp only [List.take_succ_cons, pre, List.length_append]
      omega
theorem text_pre (s : ByteArray) (xs : List Ty) (o : Int) : (pre s.data.toList xs).length ≤ (Ty.text (.mk s xs o)).length := by
  rw [pre_all]
  split <;> simp

def TxtPost (w : World) (l : List UInt8) (e : Ending) (w' : World) : Prop := e = .returned (.string ⟨l.toArray⟩) ∧ Below w.heap.size w w'

set_option maxRecDepth 100000 in
set_option maxHeartbeats 4000000 in
theorem ref_text_any : ∀ (t : Ty) (A : Option Addr) (m c : Nat) (w : World), t.text.length ≤ 1000000 → Here w A m t.args →
    Calls Tryd.prog 15 #[.agg #[.string t.name, .slice A m c, .int .i64 t.off]] w (TxtPost w t.text) := by
  refine Ty.ind fun s xs o ih A m c w hs h => ?_
  simp only [Ty.name, Ty.args, Ty.off] at h ⊢
  have hb : Below w.heap.size w (w.alloc (.cells #[.string s, .slice A m c, .int .i64 o] 24)) := (Below.refl _ _).alloc (Nat.le_refl _) _
  have hm : (m : Int) ≤ 9223372036854775807 := by have := h.le; omega
  have hxl := h.len
  have IH := Lib.hid ih
  have H := Lib.hid (Here.later h hb)
  have HX := Lib.hid (Box.new w s A m c o 24)
  have HB := Lib.hid hb
  have HT := Lib.hid hs
  have hp := text_pre s xs o
  have HP := Lib.hid (Nat.le_trans hp hs)
  have HS0 : s = ⟨(pre s.data.toList (xs.take 0)).toArray⟩ := bytes_eq (by simp [pre])
  have HSS := Lib.hid HS0
  clear ih h hb hp hs HS0
  go_enter Tryd.func15, Tryd.ntmps15
  go_wp2_with fail
  generalize hW : w.alloc (.cells #[.string s, .slice A m c, .int .i64 o] 24) = W at *
  clear hW
  go_loopw [3, 4] (fun v i wr => ∃ k : Nat, k ≤ m ∧ i = .int .i64 k ∧ v = .string ⟨(pre s.data.toList (xs.take k)).toArray⟩ ∧ Below W.heap.size W wr) (fun _ i _ => m - (intOf i).toNat)
  case atStart => exact ⟨0, by omega, rfl, congrArg Value.string HSS.out, Below.refl _ _⟩
  case round =>
    obtain ⟨k, hk, rfl, rfl, hbel⟩ := hrel
    obtain ⟨x0, x1, x2⟩ := HX.out.later hbel
    have HBL := Lib.hid hbel
    have hpk := pre_le s.data.toList xs k
    by_cases hlt : k < m
    · have y0 : (k : Int) < m := by omega
      obtain ⟨a, u, ys, p, B, l, d, rfl, hx, _, c0, c1, c2, hu, hl⟩ := (H.out.later hbel).get hlt
      have hst := pre_step s.data.toList hx
      have hle := pre_le s.data.toList xs (k + 1)
      rw [hst] at hle
      simp only [List.length_append] at hle
      have htx : (Ty.text (.mk u ys p)).length ≤ 1000000 := by have := HP.out; omega
      have hpr : (pre s.data.toList (xs.take k)).length ≤ 1000000 := by have := HP.out; omega
      have C := Lib.hid (IH.out _ (List.mem_of_getElem? hx) B l d wr htx hl)
      clear hle hx hl hbel hpk
      simp only [Ty.name, Ty.off] at C
      generalize hP : pre s.data.toList (xs.take k) = P at *
      by_cases h0 : k = 0
      · rw [if_pos h0] at hst
        have HST := Lib.hid hst
        have e0 : ((k : Int) == 0) = true := by simp [h0]
        clear hst h0 hP
        go_wp2_with fail
        refine C.out.mono ?_
        rintro e w1 ⟨rfl, hb1⟩
        have HB1 := Lib.hid (HBL.out.trans (hb1.mono HBL.out.size))
        clear hb1
        generalize hX : Ty.text (.mk u ys p) = X at *
        clear hX
        go_wp2_with fail
        go_roundw
        case rel =>
          refine ⟨k + 1, by omega, by go_num, ?_, HB1.out⟩
          have := ret_str (a := (⟨P.toArray⟩ : ByteArray) ++ ⟨#[91]⟩ ++ ⟨X.toArray⟩) (b := ⟨(pre s.data.toList (xs.take (k + 1))).toArray⟩) (by rw [Go.Joins.data_append, Go.Joins.data_append, HST.out])
          injection this
        case measure => simp [intOf]; omega
      · rw [if_neg h0] at hst
        have HST := Lib.hid hst
        have e0 : ((k : Int) == 0) = false := by simp; omega
        clear hst h0 hP
        go_wp2_with fail
        refine C.out.mono ?_
        rintro e w1 ⟨rfl, hb1⟩
        have HB1 := Lib.hid (HBL.out.trans (hb1.mono HBL.out.size))
        clear hb1
        generalize hX : Ty.text (.mk u ys p) = X at *
        clear hX
        go_wp2_with fail
        go_roundw
        case rel =>
          refine ⟨k + 1, by omega, by go_num, ?_, HB1.out⟩
          have := ret_str (a := (⟨P.toArray⟩ : ByteArray) ++ ⟨#[44, 32]⟩ ++ ⟨X.toArray⟩) (b := ⟨(pre s.data.toList (xs.take (k + 1))).toArray⟩) (by rw [Go.Joins.data_append, Go.Joins.data_append, HST.out])
          injection this
        case measure => simp [intOf]; omega
    · have y0 : (m : Int) ≤ k := by omega
      have hall := pre_all s xs o
      rw [List.take_of_length_le (by omega : xs.length ≤ k)] at hpk ⊢
      have hpr : (pre s.data.toList xs).length ≤ 1000000 := by have := HP.out; omega
      clear hbel hpk
      generalize pre s.data.toList xs = P at *
      by_cases h0 : m = 0
      · rw [if_pos (by omega)] at hall
        have HA := Lib.hid hall
        have q0 : (m : Int) ≤ 0 := by omega
        clear hall hxl h0
        go_wp2_with fail
        go_ret
        exact ⟨ret_str (by rw [HA.out]), HB.out.trans (HBL.out.mono HB.out.size)⟩
      · rw [if_neg (by omega)] at hall
        have HA := Lib.hid hall
        have q0 : (0 : Int) < m := by omega
        clear hall hxl h0
        go_wp2_with fail
        go_ret
        exact ⟨ret_str (by rw [HA.out, Go.Joins.data_append]), HB.out.trans (HBL.out.mono HB.out.size)⟩

/-! ### the depth -/
theorem depthL_snoc : ∀ (r : List Ty) (x : Ty), Ty.depthL (r ++ [x]) = max (Ty.depthL r) (x.depth + 1)
  | [], x => by simp [Ty.depthL]
  | a :: r, x => by
    have := depthL_snoc r x
    simp only [List.cons_append, Ty.depthL, this]
    omega
theorem depthL_le : ∀ (r q : List Ty), Ty.depthL r ≤ Ty.depthL (r ++ q)
  | [], _ => by simp [Ty.depthL]
  | a :: r, q => by
    have := depthL_le r q
    simp only [List.cons_append, Ty.depthL]
    omega
theorem depthL_take (xs : List Ty) (k : Nat) : Ty.depthL (xs.take k) ≤ Ty.depthL xs := by
  have := depthL_le (xs.take k) (xs.drop k)
  rwa [List.take_append_drop] at this

def NatPost (w : World) (n : Nat) (e : Ending) (w' : World) : Prop := e = .returned (.int .i64 n) ∧ Below w.heap.size w w'

set_option maxHeartbeats 2000000 in
theorem ref_depth_any : ∀ (t : Ty) (A : Option Addr) (m c : Nat) (w : World), t.depth ≤ 1000000 → Here w A m t.args →
    Calls Tryd.prog 17 #[.agg #[.string t.name, .slice A m c, .int .i64 t.off]] w (NatPost w t.depth) := by
  refine Ty.ind fun s xs o ih A m c w hs h => ?_
  simp only [Ty.name, Ty.args, Ty.off] at h ⊢
  have hb : Below w.heap.size w (w.alloc (.cells #[.string s, .slice A m c, .int .i64 o] 24)) := (Below.refl _ _).alloc (Nat.le_refl _) _
  have hm : (m : Int) ≤ 9223372036854775807 := by have := h.le; omega
  have hxl := h.len
  have IH := Lib.hid ih
  have H := Lib.hid (Here.later h hb)
  have HX := Lib.hid (Box.new w s A m c o 24)
  have HB := Lib.hid hb
  have HD := Lib.hid (show Ty.depth (.mk s xs o) = max 1 (Ty.depthL xs) by rw [Ty.depth])
  rw [HD.out] at hs
  have HT := Lib.hid hs
  clear ih h hb hs
  go_enter Tryd.func17, Tryd.ntmps17
  go_wp2_with fail
  generalize hW : w.alloc (.cells #[.string s, .slice A m c, .int .i64 o] 24) = W at *
  clear hW
  go_loopw [3, 4] (fun v i wr => ∃ (k q : Nat), k ≤ m ∧ i = .int .i64 k ∧ v = .int .i64 q ∧ q = max 1 (Ty.depthL (xs.take k)) ∧ Below W.heap.size W wr) (fun _ i _ => m - (intOf i).toNat)
  case atStart => exact ⟨0, 1, by omega, rfl, rfl, by simp [Ty.depthL], Below.refl _ _⟩
  case round =>
    obtain ⟨k, q, hk, rfl, rfl, hq, hbel⟩ := hrel
    obtain ⟨x0, x1, x2⟩ := HX.out.later hbel
    have HBL := Lib.hid hbel
    have hpk := depthL_take xs k
    have hq1 : (q : Int) ≤ 1000000 := by have := HT.out; omega
    by_cases hlt : k < m
    · have y0 : (k : Int) < m := by omega
      obtain ⟨a, u, ys, p, B, l, d, rfl, hx, _, c0, c1, c2, hu, hl⟩ := (H.out.later hbel).get hlt
      have hst := depthL_snoc (xs.take k) (.mk u ys p)
      rw [show xs.take k ++ [Ty.mk u ys p] = xs.take (k + 1) by rw [List.take_add_one, hx]; rfl] at hst
      have hle := depthL_take xs (k + 1)
      have htx : Ty.depth (.mk u ys p) ≤ 1000000 := by have := HT.out; omega
      have C := Lib.hid (IH.out _ (List.mem_of_getElem? hx) B l d wr htx hl)
      simp only [Ty.name, Ty.off] at C
      have HST := Lib.hid hst
      have HQ := Lib.hid hq
      clear hle hx hl hbel hpk hst hq
      generalize Ty.depth (.mk u ys p) = g at *
      have z3 : (g : Int) ≤ 1000000 := by omega
      clear htx
      by_cases h0 : q < 1 + g
      · have z4 : (q : Int) < 1 + g := by omega
        go_wp2_with fail
        refine C.out.mono ?_
        rintro e w1 ⟨rfl, hb1⟩
        have HB1 := Lib.hid (HBL.out.trans (hb1.mono HBL.out.size))
        clear hb1
        go_wp2_with fail
        go_roundw
        case rel => exact ⟨k + 1, 1 + g, by omega, by go_num, by go_num, by rw [HST.out]; have := HQ.out; omega, HB1.out⟩
        case measure => simp [intOf]; omega
      · have z4 : (1 : Int) + g ≤ q := by omega
        clear h0
        go_wp2_with fail
        refine C.out.mono ?_
        rintro e w1 ⟨rfl, hb1⟩
        have HB1 := Lib.hid (HBL.out.trans (hb1.mono HBL.out.size))
        clear hb1
        go_wp2_with fail
        go_roundw
        case rel => exact ⟨k + 1, q, by omega, by go_num, rfl, by rw [HST.out]; have := HQ.out; omega, HB1.out⟩
        case measure => simp [intOf]; omega
    · have y0 : (m : Int) ≤ k := by omega
      rw [List.take_of_length_le (by omega : xs.length ≤ k)] at hq
      have HQ := Lib.hid hq
      clear hbel hpk hq
      go_wp2_with fail
      go_ret
      exact ⟨ret_int (by rw [HD.out, HQ.out]), HB.out.trans (HBL.out.mono HB.out.size)⟩
end Go.Proofs.YtioamnaknjhbpaaDoor
