/- The walks of expr.allRight and expr.rightAlone. The condition: the types are small. -/
import Derived.Test.YtaaemebghkobkaaDoorEkD
import Derived.Test.YtaaemebghkobkaaDoorEkA
import Derived.Deep.RegionHeld3
import Derived.Deep.DeepCutAuto
import Derived.Deep.QuietTactic
import Derived.BigQuiet
namespace Go.Proofs.YtaaemebghkobkaaDoor
open Go.RowKit

theorem all_drop_on {xs : List Ty} {k : Nat} {x : Ty} (hx : xs[k]? = some x) : (xs.drop k).all Ty.right = (x.right && (xs.drop (k + 1)).all Ty.right) := Ex.all_on hx

set_option maxRecDepth 100000 in
set_option maxHeartbeats 4000000 in
theorem allRight_any (ts : List Ty) (B : Option Addr) (l b : Nat) (w : World) (hE : ResVar w) (hsm : ∀ t ∈ ts, t.Small) (h : Here w B l ts) :
    Calls Tryd.prog 62 #[.slice B l b] w (EqvPost w (ts.all Ty.right)) := by
  have hl : (l : Int) ≤ 9223372036854775807 := by have := h.le; omega
  have hxl := h.len
  have H := Lib.hid h
  have HE := Lib.hid hE
  have HS := Lib.hid hsm
  clear h hE hsm
  go_enter Tryd.func62, Tryd.ntmps62
  go_wp2_with fail
  go_loopw [7] (fun i wr => ∃ k : Nat, k ≤ l ∧ i = .int .i64 k ∧ ts.all Ty.right = (ts.drop k).all Ty.right ∧ Below w.heap.size w wr) (fun i _ => l - (intOf i).toNat)
  case atStart => exact ⟨0, by omega, rfl, by rw [List.drop_zero], Below.refl _ _⟩
  case round =>
    obtain ⟨k, hk, rfl, hc, hbel⟩ := hrel
    have HBL := Lib.hid hbel
    have HQ := Lib.hid hc
    clear hc
    have z0 : (0 : Int) ≤ k := by omega
    by_cases hlt : k < l
    · have z1 : (k : Int) < l := by omega
      obtain ⟨p, u, ys, po, A2, m2, d2, rfl, hx, _, c0, c1, c2, hu, hl2⟩ := (H.out.later hbel).get hlt
      have hka : Below wr.heap.size wr (wr.alloc (.cells #[.string u, .slice A2 m2 d2, .int .i64 po] 24)) := (Below.refl _ _).alloc (Nat.le_refl _) _
      have CC := Lib.hid (right_any (.mk u ys po) A2 m2 d2 (wr.alloc (.cells #[.string u, .slice A2 m2 d2, .int .i64 po] 24)) ((HE.out.later hbel).later hka) (HS.out _ (List.mem_of_getElem? hx)) (Here.later hl2 hka))
      obtain ⟨x0, x1, x2⟩ := Box.new wr u A2 m2 d2 po 24
      simp only [Ty.name, Ty.off] at CC
      have HST := Lib.hid (HQ.out.trans (all_drop_on hx))
      have HK2 := Lib.hid (HBL.out.trans (hka.mono HBL.out.size))
      clear hx hl2 hbel hka
      generalize Ty.right (.mk u ys po) = q at *
      go_wp2_with fail
      refine CC.out.mono ?_
      rintro e w3 ⟨rfl, hb3⟩
      have HB3 := Lib.hid (HK2.out.trans (hb3.mono HK2.out.size))
      clear hb3 x0 x1 x2 c0 c1 c2
      cases q
      · have HC := Lib.hid (HST.out.trans (by simp : _ = false))
        go_wp2_with fail
        go_ret
        exact ⟨ret_bool (by rw [HC.out]), HB3.out⟩
      · have HC := Lib.hid (HST.out.trans (by simp : _ = (ts.drop (k + 1)).all Ty.right))
        go_wp2_with fail
        go_roundw
        case rel => exact ⟨k + 1, by omega, by go_num, HC.out, HB3.out⟩
        case measure => simp [intOf]; omega
    · have z1 : (l : Int) ≤ k := by omega
      have hq := HQ.out
      rw [List.drop_eq_nil_of_le (by omega), List.all_nil] at hq
      have HC := Lib.hid hq
      clear hq hbel
      go_wp2_with fail
      go_ret
      exact ⟨ret_bool (by rw [HC.out]), HBL.out⟩

/-! ### what is asked besides the kids -/
def Ty.zero : Ty := .mk ⟨#[]⟩ [] 0
/-- Is the type that of an expression without one. -/
def Ty.none? (t : Ty) : Bool := t.cmp Ty.zero == 0
theorem none_iff (t : Ty) : t.none? = (t.name.size == 0 && t.args.length == 0) := by
  obtain ⟨s, xs, o⟩ := t
  rw [Ty.none?, Ty.zero, Ty.cmp]
  have hs := Lib.size_eq s
  by_cases h : s.data.toList = (⟨#[]⟩ : ByteArray).data.toList
  · rw [if_pos h]
    have h0 : s.size = 0 := by rw [hs, h]; rfl
    cases xs with
    | nil => simp [Ty.cmpL, Ty.name, Ty.args, h0]
    | cons a r => simp [Ty.cmpL, Ty.name, Ty.args]
  · rw [if_neg h]
    have h0 : s.size ≠ 0 := fun e => h (by rw [hs] at e; exact List.eq_nil_of_length_eq_zero e)
    have h1 : Lib.compareBytes s.data.toList (⟨#[]⟩ : ByteArray).data.toList ≠ 0 := fun e => h ((Nm.cmp_zero _ _).1 e)
    have h2 : (s.size == 0) = false := by simpa using h0
    have h3 : (Lib.compareBytes s.data.toList (⟨#[]⟩ : ByteArray).data.toList == 0) = false := by simpa using h1
    rw [h3, Ty.name, h2, Bool.false_and]
theorem none_wrong {t : Ty} (h : t.none? = true) : t.right = false := by
  obtain ⟨s, xs, o⟩ := t
  rw [none_iff, Bool.and_eq_true] at h
  have h0 : s.data.toList = [] := by have := Lib.size_eq s; have h1 : s.size = 0 := by simpa [Ty.name] using h.1
                                     exact List.eq_nil_of_length_eq_zero (by omega)
  rw [Ty.right, Ty.list, List.all_cons, h0]
  have : Nm.isB [] = false := by decide
  rw [this, Bool.false_and]

def emptyB (s : ByteArray) : Bool := s.toList == []
theorem empty_size (s : ByteArray) : (s.size == 0) = emptyB s := by
  rw [emptyB, Lib.toList_data, Lib.size_eq]
  cases s.data.toList <;> rfl
theorem all_no {α : Type} (ts : List α) : ts.all (fun _ => false) = (ts.length == 0) := by cases ts <;> rfl
theorem fit1 (s : ByteArray) (t : Ty) (ts : List Ty) (n : Nat) : Ex.fit 1 s t ts n = (Nm.isB s.data.toList && (t.none? && (ts.length == 0 && n == 0))) := by
  have h := none_wrong (t := t)
  have e : Ex.typed 1 = false := rfl
  simp only [Ex.fit, e, Bool.false_or, ← none_iff, if_true]
  rw [show (fun u : Ty => ((1 : Int) == 2 && u.right)) = fun _ => false from rfl, all_no]
  cases hn : t.none?
  · simp
  · rw [h hn]; cases Nm.isB s.data.toList <;> cases (ts.length == 0) <;> cases (n == 0) <;> rfl
theorem fit2 (s : ByteArray) (t : Ty) (ts : List Ty) (n : Nat) : Ex.fit 2 s t ts n = (Nm.isB s.data.toList && (t.none? && (ts.all Ty.right && decide (0 < n)))) := by
  have h := none_wrong (t := t)
  have e : Ex.typed 2 = false := rfl
  simp only [Ex.fit, e, Bool.false_or, ← none_iff]
  rw [show (fun u : Ty => ((2 : Int) == 2 && u.right)) = Ty.right from rfl]
  cases hn : t.none?
  · simp
  · rw [h hn]; cases Nm.isB s.data.toList <;> cases ts.all Ty.right <;> simp [Nat.succ_le_iff]
theorem fit3 (s : ByteArray) (t : Ty) (ts : List Ty) (n : Nat) : Ex.fit 3 s t ts n = (emptyB s && (t.right && ts.length == 0)) := by
  have e : Ex.typed 3 = true := rfl
  simp only [Ex.fit, e, Bool.true_or, Bool.and_true, if_true, empty_size]
  rw [show (fun u : Ty => ((3 : Int) == 2 && u.right)) = fun _ => false from rfl, all_no]
  cases emptyB s <;> cases t.right <;> cases (ts.length == 0) <;> simp
theorem fit4 (s : ByteArray) (t : Ty) (ts : List Ty) (n : Nat) : Ex.fit 4 s t ts n = (Nm.isB s.data.toList && (t.none? && (ts.length == 0 && n == 1))) := by
  have h := none_wrong (t := t)
  have e : Ex.typed 4 = false := rfl
  simp only [Ex.fit, e, Bool.false_or, ← none_iff]
  rw [show (fun u : Ty => ((4 : Int) == 2 && u.right)) = fun _ => false from rfl, all_no]
  cases hn : t.none?
  · simp
  · rw [h hn]; cases Nm.isB s.data.toList <;> cases (ts.length == 0) <;> cases (n == 1) <;> simp
theorem fit5 (s : ByteArray) (t : Ty) (ts : List Ty) (n : Nat) : Ex.fit 5 s t ts n = (emptyB s && (t.right && (ts.length == 0 && n == 1))) := by
  have e : Ex.typed 5 = true := rfl
  simp only [Ex.fit, e, Bool.true_or, Bool.and_true, if_true, empty_size]
  rw [show (fun u : Ty => ((5 : Int) == 2 && u.right)) = fun _ => false from rfl, all_no]
  cases emptyB s <;> cases t.right <;> cases (ts.length == 0) <;> cases (n == 1) <;> simp
theorem fit0 {k : Int} (h : k ≠ 1 ∧ k ≠ 2 ∧ k ≠ 3 ∧ k ≠ 4 ∧ k ≠ 5) (s : ByteArray) (t : Ty) (ts : List Ty) (n : Nat) : Ex.fit k s t ts n = false := by
  obtain ⟨h1, h2, h3, h4, h5⟩ := h
  simp [Ex.fit, h1, h2, h3, h4, h5]
def alone (x : Ex) : Bool := Ex.fit x.kind x.name x.ty x.targs x.kids.length
theorem right_list : ∀ e : Ex, e.right = e.list.all alone := by
  refine Ex.ind fun k s t ts xs o ih => ?_
  rw [Ex.right, Ex.list, List.all_cons, xlistL_all, Ex.rightL_all]
  have : xs.all Ex.right = xs.all (fun x => x.list.all alone) := by
    clear o
    have hL : ∀ ys : List Ex, (∀ y ∈ ys, y ∈ xs) → ys.all Ex.right = ys.all (fun x => x.list.all alone) := by
      intro ys
      induction ys with
      | nil => intro _; rfl
      | cons a r ih2 => intro hy; rw [List.all_cons, List.all_cons, ih a (hy a (by simp)), ih2 (fun e he => hy e (by simp [he]))]
    exact hL xs (fun _ h => h)
  rw [this, Bool.and_comm]
  rfl
end Go.Proofs.YtaaemebghkobkaaDoor
