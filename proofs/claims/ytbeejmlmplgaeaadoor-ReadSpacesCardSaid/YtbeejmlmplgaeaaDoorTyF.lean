/- The walks of the reference's Text, Depth, List and Right of types. -/
import Derived.Test.YtbeejmlmplgaeaaDoorTyC
import Derived.Lib.SmallJoins
import Derived.Test.YtbeejmlmplgaeaaDoorNmR
namespace Go.Proofs.YtbeejmlmplgaeaaDoor
open Go.RowKit

theorem textL_snoc : ∀ (r : List Ty) (x : Ty), Ty.textL (r ++ [x]) = Ty.textL r ++ [44, 32] ++ Ty.text x
  | [], x => by simp [Ty.textL]
  | a :: r, x => by
    have := textL_snoc r x
    simp only [List.cons_append, Ty.textL, this, List.append_assoc]
/-- The text of a type whose last arguments are not yet there. -/
def pre (s : List UInt8) : List Ty → List UInt8
  | [] => s
  | a :: r => s ++ [91] ++ Ty.text a ++ Ty.textL r
theorem pre_step (s : List UInt8) {xs : List Ty} {k : Nat} {x : Ty} (hx : xs[k]? = some x) : pre s (xs.take (k + 1)) = pre s (xs.take k) ++ (if k = 0 then [91] else [44, 32]) ++ Ty.text x := by
  rw [List.take_add_one, hx]
  cases xs with
  | nil => simp at hx
  | cons a r =>
    cases k with
    | zero =>
      obtain rfl : a = x := by simpa using hx
      simp [pre, Ty.textL]
    | succ k =>
      simp only [List.take_succ_cons, Option.toList_some, List.cons_append, pre, textL_snoc, if_neg (Nat.succ_ne_zero k), List.append_assoc]
theorem pre_all (s : ByteArray) (xs : List Ty) (o : Int) : Ty.text (.mk s xs o) = if xs.length = 0 then pre s.data.toList xs else pre s.data.toList xs ++ [93] := by
  cases xs with
  | nil => simp only [Ty.text, pre, List.length_nil, if_true]
  | cons a r => simp [Ty.text, pre]
theorem textL_le : ∀ (r q : List Ty), (Ty.textL r).length ≤ (Ty.textL (r ++ q)).length
  | [], _ => by simp [Ty.textL]
  | a :: r, q => by
    have := textL_le r q
    simp only [List.cons_append, Ty.textL, List.length_append, List.length_cons]
    omega
theorem pre_le (s : List UInt8) (xs : List Ty) (k : Nat) : (pre s (xs.take k)).length ≤ (pre s xs).length := by
  cases xs with
  | nil => simp
  | cons a r =>
    cases k with
    | zero => simp [pre]
    | succ k =>
      have := textL_le (r.take k) (r.drop k)
      rw [List.take_append_drop] at this
      simp only [List.take_succ_cons, pre, List.length_append]
      omega
theorem text_pre (s : ByteArray) (xs : List Ty) (o : Int) : (pre s.data.toList xs).length ≤ (Ty.text (.mk s xs o)).length := by
  rw [pre_all]
  split <;> simp

def TxtPost (w : World) (l : List UInt8) (e : Ending) (w' : World) : Prop := e = .returned (.string ⟨l.toArray⟩) ∧ Below w.heap.size w w'

set_option maxRecDepth 100000 in
set_option maxHeartbeats 4000000 in
theorem ref_text_any : ∀ (t : Ty) (A : Option Addr) (m c : Nat) (w : World), t.text.length ≤ 1000000 → Here w A m t.args →
    Calls Tryd.prog 11 #[.agg #[.string t.name, .slice A m c, .int .i64 t.off]] w (TxtPost w t.text) := by
  refine Ty.ind fun s xs o ih A m c w hs h => ?_
  simp only [Ty.name, Ty.args, Ty.off] at h ⊢
  have hb : Below w.heap.size w (w.alloc (.cells #[.string s, .slice A m c, .int .i64 o] 24)) := (Below.refl _ _).alloc (Nat.le_refl _) _
  have hm : (m : Int) ≤ 9223372036854775807 := by have := h.le; omega
  have hxl := h.len
  have IH := Lib.hid ih
  have H := Lib.hid (Here.later h hb)
  have HX := Lib.hid (Box.new w s A m c o 24)
  have HB := Lib.hid hb
  have HT := Lib.hid hs
  have hp := text_pre s xs o
  have HP := Lib.hid (Nat.le_trans hp hs)
  have HS0 : s = ⟨(pre s.data.toList (xs.take 0)).toArray⟩ := bytes_eq (by simp [pre])
  have HSS := Lib.hid HS0
  clear ih h hb hp hs HS0
  go_enter Tryd.func11, Tryd.ntmps11
  go_wp2_with fail
  generalize hW : w.alloc (.cells #[.string s, .slice A m c, .int .i64 o] 24) = W at *
  clear hW
  go_loopw [3, 4] (fun v i wr => ∃ k : Nat, k ≤ m ∧ i = .int .i64 k ∧ v = .string ⟨(pre s.data.toList (xs.take k)).toArray⟩ ∧ Below W.heap.size W wr) (fun _ i _ => m - (intOf i).toNat)
  case atStart => exact ⟨0, by omega, rfl, congrArg Value.string HSS.out, Below.refl _ _⟩
  case round =>
    obtain ⟨k, hk, rfl, rfl, hbel⟩ := hrel
    obtain ⟨x0, x1, x2⟩ := HX.out.later hbel
    have HBL := Lib.hid hbel
    have hpk := pre_le s.data.toList xs k
    by_cases hlt : k < m
    · have y0 : (k : Int) < m := by omega
      obtain ⟨a, u, ys, p, B, l, d, rfl, hx, _, c0, c1, c2, hu, hl⟩ := (H.out.later hbel).get hlt
      have hst := pre_step s.data.toList hx
      have hle := pre_le s.data.toList xs (k + 1)
      rw [hst] at hle
      simp only [List.length_append] at hle
      have htx : (Ty.text (.mk u ys p)).length ≤ 1000000 := by have := HP.out; omega
      have hpr : (pre s.data.toList (xs.take k)).length ≤ 1000000 := by have := HP.out; omega
      have C := Lib.hid (IH.out _ (List.mem_of_getElem? hx) B l d wr htx hl)
      clear hle hx hl hbel hpk
      simp only [Ty.name, Ty.off] at C
      generalize hP : pre s.data.toList (xs.take k) = P at *
      by_cases h0 : k = 0
      · rw [if_pos h0] at hst
        have HST := Lib.hid hst
        have e0 : ((k : Int) == 0) = true := by simp [h0]
        clear hst h0 hP
        go_wp2_with fail
        refine C.out.mono ?_
        rintro e w1 ⟨rfl, hb1⟩
        have HB1 := Lib.hid (HBL.out.trans (hb1.mono HBL.out.size))
        clear hb1
        generalize hX : Ty.text (.mk u ys p) = X at *
        clear hX
        go_wp2_with fail
        go_roundw
        case rel =>
          refine ⟨k + 1, by omega, by go_num, ?_, HB1.out⟩
          have := ret_str (a := (⟨P.toArray⟩ : ByteArray) ++ ⟨#[91]⟩ ++ ⟨X.toArray⟩) (b := ⟨(pre s.data.toList (xs.take (k + 1))).toArray⟩) (by rw [Go.Joins.data_append, Go.Joins.data_append, HST.out])
          injection this
        case measure => simp [intOf]; omega
      · rw [if_neg h0] at hst
        have HST := Lib.hid hst
        have e0 : ((k : Int) == 0) = false := by simp; omega
        clear hst h0 hP
        go_wp2_with fail
        refine C.out.mono ?_
        rintro e w1 ⟨rfl, hb1⟩
        have HB1 := Lib.hid (HBL.out.trans (hb1.mono HBL.out.size))
        clear hb1
        generalize hX : Ty.text (.mk u ys p) = X at *
        clear hX
        go_wp2_with fail
        go_roundw
        case rel =>
          refine ⟨k + 1, by omega, by go_num, ?_, HB1.out⟩
          have := ret_str (a := (⟨P.toArray⟩ : ByteArray) ++ ⟨#[44, 32]⟩ ++ ⟨X.toArray⟩) (b := ⟨(pre s.data.toList (xs.take (k + 1))).toArray⟩) (by rw [Go.Joins.data_append, Go.Joins.data_append, HST.out])
          injection this
        case measure => simp [intOf]; omega
    · have y0 : (m : Int) ≤ k := by omega
      have hall := pre_all s xs o
      rw [List.take_of_length_le (by omega : xs.length ≤ k)] at hpk ⊢
      have hpr : (pre s.data.toList xs).length ≤ 1000000 := by have := HP.out; omega
      clear hbel hpk
      generalize pre s.data.toList xs = P at *
      by_cases h0 : m = 0
      · rw [if_pos (by omega)] at hall
        have HA := Lib.hid hall
        have q0 : (m : Int) ≤ 0 := by omega
        clear hall hxl h0
        go_wp2_with fail
        go_ret
        exact ⟨ret_str (by rw [HA.out]), HB.out.trans (HBL.out.mono HB.out.size)⟩
      · rw [if_neg (by omega)] at hall
        have HA := Lib.hid hall
        have q0 : (0 : Int) < m := by omega
        clear hall hxl h0
        go_wp2_with fail
        go_ret
        exact ⟨ret_str (by rw [HA.out, Go.Joins.data_append]), HB.out.trans (HBL.out.mono HB.out.size)⟩

/-! ### the depth -/
theorem depthL_snoc : ∀ (r : List Ty) (x : Ty), Ty.depthL (r ++ [x]) = max (Ty.depthL r) (x.depth + 1)
  | [], x => by simp [Ty.depthL]
  | a :: r, x => by
    have := depthL_snoc r x
    simp only [List.cons_append, Ty.depthL, this]
    omega
theorem depthL_le : ∀ (r q : List Ty), Ty.depthL r ≤ Ty.depthL (r ++ q)
  | [], _ => by simp [Ty.depthL]
  | a :: r, q => by
    have := depthL_le r q
    simp only [List.cons_append, Ty.depthL]
    omega
theorem depthL_take (xs : List Ty) (k : Nat) : Ty.depthL (xs.take k) ≤ Ty.depthL xs := by
  have := depthL_le (xs.take k) (xs.drop k)
  rwa [List.take_append_drop] at this

def NatPost (w : World) (n : Nat) (e : Ending) (w' : World) : Prop := e = .returned (.int .i64 n) ∧ Below w.heap.size w w'

end Go.Proofs.YtbeejmlmplgaeaaDoor
namespace Go.Proofs.YtbeejmlmplgaeaaDoor
open Go.RowKit

theorem listL_snoc : ∀ (r : List Ty) (x : Ty), Ty.listL (r ++ [x]) = Ty.listL r ++ x.list
  | [], x => by simp [Ty.listL]
  | a :: r, x => by
    have := listL_snoc r x
    simp only [List.cons_append, Ty.listL, this, List.append_assoc]
theorem listL_step {xs : List Ty} {k : Nat} {x : Ty} (hx : xs[k]? = some x) : Ty.listL (xs.take (k + 1)) = Ty.listL (xs.take k) ++ x.list := by
  rw [List.take_add_one, hx]
  exact listL_snoc _ _
theorem listL_le : ∀ (r q : List Ty), (Ty.listL r).length ≤ (Ty.listL (r ++ q)).length
  | [], _ => by simp [Ty.listL]
  | a :: r, q => by
    have := listL_le r q
    simp only [List.cons_append, Ty.listL, List.length_append]
    omega
theorem listL_take (xs : List Ty) (k : Nat) : (Ty.listL (xs.take k)).length ≤ (Ty.listL xs).length := by
  have := listL_le (xs.take k) (xs.drop k)
  rwa [List.take_append_drop] at this

/-- A list of strings that the call has made. -/
def ListPost (w : World) (l : List ByteArray) (e : Ending) (w' : World) : Prop :=
  ∃ g cap, e = .returned (.slice (some ⟨g, 0, none⟩) l.length cap) ∧ w'.ownsRow w.heap.size 9 1 (.slice (some ⟨g, 0, none⟩) l.length cap) l.length (l.map boxS) ∧ Below w.heap.size w w'

theorem one_string (s : ByteArray) : ([s].map boxS) = (#[Value.string s] : Array Value).toList := rfl

set_option maxRecDepth 100000 in
set_option maxHeartbeats 4000000 in
theorem ref_list_any : ∀ (t : Ty) (A : Option Addr) (m c : Nat) (w : World), t.list.length ≤ 1000000 → Here w A m t.args →
    Calls Tryd.prog 25 #[.agg #[.string t.name, .slice A m c, .int .i64 t.off]] w (ListPost w t.list) := by
  refine Ty.ind fun s xs o ih A m c w hs h => ?_
  simp only [Ty.name, Ty.args, Ty.off] at h ⊢
  have hb : Below w.heap.size w (w.alloc (.cells #[.string s, .slice A m c, .int .i64 o] 24)) := (Below.refl _ _).alloc (Nat.le_refl _) _
  have hb2 : Below w.heap.size w ((w.alloc (.cells #[.string s, .slice A m c, .int .i64 o] 24)).alloc (.cells #[.string s] 9)) := hb.alloc (by simp) _
  have hm : (m : Int) ≤ 9223372036854775807 := by have := h.le; omega
  have hxl := h.len
  have IH := Lib.hid ih
  have H := Lib.hid h
  have HX := Lib.hid ((Box.new w s A m c o 24).later (w' := (w.alloc (.cells #[.string s, .slice A m c, .int .i64 o] 24)).alloc (.cells #[.string s] 9)) ((Below.refl _ _).alloc (Nat.le_refl _) _))
  have hown := own_new (w.alloc (.cells #[.string s, .slice A m c, .int .i64 o] 24)) (w.heap.size + 1) 9 #[.string s] 1 1 (by simp) (by unfold maxLen; omega) rfl
  rw [show (w.alloc (.cells #[.string s, .slice A m c, .int .i64 o] 24)).heap.size = w.heap.size + 1 by simp, ← one_string] at hown
  have HO := Lib.hid hown
  have HB := Lib.hid hb2
  have HBW := Lib.hid (show w.heap.size + 2 ≤ ((w.alloc (.cells #[.string s, .slice A m c, .int .i64 o] 24)).alloc (.cells #[.string s] 9)).heap.size by simp)
  have hD : Ty.list (.mk s xs o) = s :: Ty.listL xs := by rw [Ty.list]
  have HD := Lib.hid hD
  rw [hD] at hs
  have HT := Lib.hid hs
  obtain ⟨i0, hi0, hz0, hz1, hz2⟩ := info_parts infoStr
  clear ih h hb hb2 hs hown hD
  go_enter Tryd.func25, Tryd.ntmps25
  go_wp2_with fail
  generalize hW : (w.alloc (.cells #[.string s, .slice A m c, .int .i64 o] 24)).alloc (.cells #[.string s] 9) = W at *
  have hwW : w.heap.size + 2 ≤ W.heap.size := HBW.out
  clear hW
  go_loopw [3, 4] (fun v i wr => ∃ k : Nat, k ≤ m ∧ i = .int .i64 k ∧ wr.ownsRow (w.heap.size + 1) 9 1 v (s :: Ty.listL (xs.take k)).length ((s :: Ty.listL (xs.take k)).map boxS) ∧ Below (w.heap.size + 1) W wr) (fun _ i _ => m - (intOf i).toNat)
  case atStart => exact ⟨0, by omega, rfl, HO.out, Below.refl _ _⟩
  case round =>
    obtain ⟨k, hk, rfl, hown, hbel⟩ := hrel
    obtain ⟨x0, x1, x2⟩ := HX.out.laterB hbel (by omega)
    have hbw : Below w.heap.size w wr := HB.out.trans (hbel.mono (by omega))
    have hsz := hbel.size
    have HBL := Lib.hid hbel
    have HBX := Lib.hid hbw
    have hpk := listL_take xs k
    have hlen : (s :: Ty.listL (xs.take k)).length ≤ 1000000 := by have := HT.out; simp only [List.length_cons] at this ⊢; omega
    by_cases hlt : k < m
    · have y0 : (k : Int) < m := by omega
      obtain ⟨a, u, ys, p, B, l, d, rfl, hx, _, c0, c1, c2, hu, hl⟩ := Lies.get (Here.later H.out hbw) hlt
      have hst := listL_step hx
      have hle := listL_take xs (k + 1)
      rw [hst] at hle
      have htx : (Ty.list (.mk u ys p)).length ≤ 1000000 := by have := HT.out; simp only [List.length_cons, List.length_append] at this hle; omega
      have hle2 : (s :: Ty.listL (xs.take k)).length + (Ty.list (.mk u ys p)).length ≤ 1000000 := by have := HT.out; simp only [List.length_cons, List.length_append] at this hle ⊢; omega
      have C := Lib.hid (IH.out _ (List.mem_of_getElem? hx) B l d wr htx hl)
      simp only [Ty.name, Ty.off] at C
      have HST := Lib.hid hst
      clear hle hx hl hbel hbw hpk hst
      generalize hG : Ty.list (.mk u ys p) = g at *
      clear hG
      generalize hP : s :: Ty.listL (xs.take k) = P at *
      have HP := Lib.hid hP
      clear hP
      go_wp2_with fail
      refine C.out.mono ?_
      rintro e w1 ⟨gb, gc, rfl, hown1, hb1⟩
      have hownk := own_below hown hb1
      have hb2 := HBL.out.trans (hb1.mono (show w.heap.size + 1 ≤ wr.heap.size by omega))
      have HB1 := Lib.hid hb2
      have hsz1 := hb2.size
      have HC1 := Lib.hid (hown1.cells (g := gb) rfl)
      have HL1 := Lib.hid hown1.1
      clear hb1 hb2 hown hown1
      go_wp2_with (at_builtin; refine wpList_append_own _ rfl _ _ 60 rfl (w.heap.size + 1) 9 i0 _ 1 16 Tryd.underlying60 hi0 hz0 hz1 hz2 rfl (by omega) _ P.length _ rfl hownk ⟨gb, 0, none⟩ g.length gc (g.map boxS) rfl HL1.out HC1.out (by intro x hx; simp only [List.mem_map] at hx; obtain ⟨y, _, rfl⟩ := hx; rfl) (by unfold maxLen; omega) (by omega) (by omega) ?_; intro v' w2 hown2 hgrow2 hnil2; have HO2 := Lib.hid (And.intro hown2 (Below.grown HB1.out hgrow2 (by omega) (own_base hownk))); clear hown2 hgrow2 hnil2)
      go_roundw
      case rel =>
        obtain ⟨ho2, hb3⟩ := HO2.out
        refine ⟨k + 1, by omega, by go_num, ?_, hb3⟩
        rw [HST.out, ← List.cons_append, HP.out, List.length_append, List.map_append]
        exact ho2
      case measure => simp [intOf]; omega
    · have y0 : (m : Int) ≤ k := by omega
      rw [List.take_of_length_le (by omega : xs.length ≤ k)] at hown
      rw [← HD.out] at hown
      have hne : (Ty.list (.mk s xs o)).length ≠ 0 := by rw [HD.out]; simp
      rcases hown.2 with ⟨rfl, h0⟩ | ⟨gb, cap, cur, rfl, hrest⟩
      · exact absurd h0 hne
      · have HOO := Lib.hid (own_wide hown (Nat.le_succ _))
        clear hbel hbw hpk hlen hown hrest hne
        go_wp2_with fail
        go_ret
        exact ⟨gb, cap, rfl, HOO.out, HBX.out⟩

/-! ### right types -/
theorem all_on {l : List ByteArray} {k : Nat} {s : ByteArray} (hs : l[k]? = some s) : (l.drop k).all (fun s => Nm.isB s.data.toList) = (Nm.isB s.data.toList && (l.drop (k + 1)).all fun s => Nm.isB s.data.toList) := by
  obtain ⟨h1, e1⟩ := List.getElem?_eq_some_iff.1 hs
  rw [List.drop_eq_getElem_cons h1, e1, List.all_cons]

set_option maxHeartbeats 2000000 in
theorem ref_right_any (t : Ty) (A : Option Addr) (m c : Nat) (w : World) (hs : t.list.length ≤ 1000000) (hz : ∀ s ∈ t.list, s.size ≤ 9223372036854775807) (h : Here w A m t.args) :
    Calls Tryd.prog 8 #[.agg #[.string t.name, .slice A m c, .int .i64 t.off]] w (EqvPost w t.right) := by
  have hb : Below w.heap.size w (w.alloc (.cells #[.string t.name, .slice A m c, .int .i64 t.off] 24)) := (Below.refl _ _).alloc (Nat.le_refl _) _
  have C := Lib.hid (ref_list_any t A m c _ hs (h.later hb))
  have HB := Lib.hid hb
  have HR := Lib.hid (show t.right = (t.list.drop 0).all (fun s => Nm.isB s.data.toList) from rfl)
  have HZ := Lib.hid hz
  clear hb h hz
  generalize hG : t.list = l at *
  clear hG
  go_enter Tryd.func8, Tryd.ntmps8
  go_wp2_with fail
  refine C.out.mono ?_
  rintro e w1 ⟨gb, gc, rfl, hown1, hb1⟩
  obtain ⟨A', c', he, hsl⟩ := sl_of_own (ps := l) rfl hown1
  obtain ⟨rfl, rfl⟩ : A' = some ⟨gb, 0, none⟩ ∧ c' = gc := by injection he with e1 e2 e3; exact ⟨e1.symm, e3.symm⟩
  have HSL := Lib.hid hsl
  have HB1 := Lib.hid (HB.out.trans (hb1.mono HB.out.size))
  clear hb1 hown1 he hsl
  go_wp2_with fail
  go_loopw [4] (fun i wr => ∃ k : Nat, k ≤ l.length ∧ i = .int .i64 k ∧ t.right = (l.drop k).all (fun s => Nm.isB s.data.toList) ∧ wr = w1) (fun i _ => l.length - (intOf i).toNat)
  case atStart => exact ⟨0, by omega, rfl, HR.out, rfl⟩
  case round =>
    obtain ⟨k, hk, rfl, hr, rfl⟩ := hrel
    by_cases hlt : k < l.length
    · have z0 : (0 : Int) ≤ k := by omega
      have z1 : (k : Int) < l.length := by omega
      obtain ⟨a, p, hae, hp, hc⟩ := HSL.out.get hlt
      obtain rfl := Option.some.inj hae
      rw [show (⟨gb, 0, none⟩ : Addr).add k = ⟨gb, k, none⟩ by unfold Addr.add; split <;> simp_all] at hc
      have hps := HZ.out p (List.mem_of_getElem? hp)
      have hst := hr.trans (all_on hp)
      have HST := Lib.hid hst
      clear hr hp hst hae
      cases hb : Nm.isB p.data.toList
      · have HS2 := Lib.hid (HST.out.trans (by rw [hb]; rfl : _ = false))
        go_wp2_with fail
        refine (nm_ref_is_any p hps _).mono ?_
        rintro e w2 ⟨rfl, rfl⟩
        go_wp2_with fail
        go_ret
        exact ⟨ret_bool (by rw [HS2.out]), HB1.out⟩
      · have HS2 := Lib.hid (HST.out.trans (by rw [hb]; rfl : _ = (l.drop (k + 1)).all fun s => Nm.isB s.data.toList))
        go_wp2_with fail
        refine (nm_ref_is_any p hps _).mono ?_
        rintro e w2 ⟨rfl, rfl⟩
        go_wp2_with fail
        go_roundw
        case rel => exact ⟨k + 1, by omega, by go_num, HS2.out, by trivial⟩
        case measure => simp [intOf]; omega
    · have y0 : (l.length : Int) ≤ k := by omega
      rw [List.drop_eq_nil_of_le (by omega), List.all_nil] at hr
      have HS2 := Lib.hid hr
      clear hr
      go_wp2_with fail
      go_ret
      exact ⟨ret_bool (by rw [HS2.out]), HB1.out⟩
end Go.Proofs.YtbeejmlmplgaeaaDoor
