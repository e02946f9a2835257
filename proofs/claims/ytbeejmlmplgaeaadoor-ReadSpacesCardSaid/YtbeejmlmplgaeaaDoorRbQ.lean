/- What is read from the tokens of a type or an expression is the same. No program, no condition. -/
import Derived.Test.YtbeejmlmplgaeaaDoorRbP
namespace Go.Proofs.YtbeejmlmplgaeaaDoor.Rd

/-- Tokens with these texts, none of them End. -/
def Tx (ts : List Tk) (ws : List (List UInt8)) : Prop := ts.map (fun t => t.s.data.toList) = ws ∧ ∀ t ∈ ts, t.k ≠ 3
theorem Tx.nil {ts : List Tk} (h : Tx ts []) : ts = [] := by simpa using h.1
theorem Tx.cons {ts : List Tk} {w : List UInt8} {ws : List (List UInt8)} (h : Tx ts (w :: ws)) : ∃ t r, ts = t :: r ∧ t.s.data.toList = w ∧ t.k ≠ 3 ∧ Tx r ws := by
  obtain ⟨h1, h2⟩ := h
  cases ts with
  | nil => cases h1
  | cons t r =>
    simp only [List.map_cons, List.cons.injEq] at h1
    exact ⟨t, r, rfl, h1.1, h2 t (by simp), h1.2, fun x hx => h2 x (by simp [hx])⟩
theorem Tx.app {ts : List Tk} {u v : List (List UInt8)} (h : Tx ts (u ++ v)) : ∃ a b, ts = a ++ b ∧ Tx a u ∧ Tx b v := by
  obtain ⟨h1, h2⟩ := h
  obtain ⟨a, b, rfl, h3, h4⟩ := List.map_eq_append_iff.1 h1
  exact ⟨a, b, rfl, ⟨h3, fun x hx => h2 x (by simp [hx])⟩, ⟨h4, fun x hx => h2 x (by simp [hx])⟩⟩
theorem isT_pos {t : Tk} {r : List Tk} {s : List UInt8} (h : t.s.data.toList = s) (hk : t.k ≠ 3) : isT s (t :: r) = true := by
  rw [isT, h]
  simp [hk]
theorem isT_neg {t : Tk} {r : List Tk} {s : List UInt8} (h : t.s.data.toList ≠ s) : isT s (t :: r) = false := by
  rw [isT, Bool.and_eq_false_iff]
  exact .inr (by simpa using h)
theorem must_pos {t : Tk} {r : List Tk} {s : List UInt8} (h : t.s.data.toList = s) (hk : t.k ≠ 3) : must s (t :: r) = .ok () r := by
  rw [must, isT_pos h hk, if_pos rfl]
  rfl
theorem name_pos {t : Tk} {r : List Tk} (h : Nm.isB t.s.data.toList = true) : name (t :: r) = .ok t r := by
  rw [name, if_pos (show nameB t = true from h)]
theorem isB_ne {l : List UInt8} {c : UInt8} (h : Nm.isB l = true) (hc : Lx.cl c ≠ 1) : l ≠ [c] := by
  rintro rfl
  obtain ⟨x, r, e, hx, -⟩ := isB_word h
  injection e with e1 _
  rw [e1] at hc
  exact hc hx

/-! ### types -/
def TyBack (t : Ty) : Prop := ∀ (n : Nat) (ts q : List Tk), Tx ts (tyW t) → isT [91] q = false → ts.length ≤ n → ∃ u, tyF n (ts ++ q) = .ok u q ∧ Ty.cmp u t = 0
theorem tyWL_head {r : List Tk} {xs : List Ty} (h : Tx r (tyWL xs)) (q : List Tk) : isT [91] (r ++ q) = false ∧ 1 ≤ r.length := by
  cases xs with
  | nil =>
    rw [tyWL] at h
    obtain ⟨t, r', rfl, ht, -, -⟩ := h.cons
    exact ⟨isT_neg (by rw [ht]; decide), by simp⟩
  | cons a r =>
    rw [tyWL] at h
    obtain ⟨t, r', rfl, ht, -, -⟩ := h.cons
    exact ⟨isT_neg (by rw [ht]; decide), by simp⟩
theorem more_back : ∀ (xs : List Ty) (n : Nat) (acc : List Ty) (r q : List Tk), (∀ x ∈ xs, TyBack x) → Tx r (tyWL xs) → r.length ≤ n → ∃ us z, moreF n acc (r ++ q) = .ok (acc ++ us) (z :: q) ∧ Ty.cmpL us xs = 0 ∧ z.s.data.toList = [93] ∧ z.k ≠ 3
  | [], n, acc, r, q, _, h, hn => by
    rw [tyWL] at h
    obtain ⟨z, r', rfl, hz, hk, h2⟩ := h.cons
    obtain rfl := h2.nil
    obtain ⟨m, rfl⟩ : ∃ m, n = m + 1 := ⟨n - 1, by simp at hn; omega⟩
    refine ⟨[], z, ?_, rfl, hz, hk⟩
    rw [List.append_nil, moreF_succ, List.cons_append, isT_neg (by rw [hz]; decide), List.nil_append]
    rfl
  | a :: xs, n, acc, r, q, ha, h, hn => by
    rw [tyWL] at h
    obtain ⟨z, r', rfl, hz, hk, h2⟩ := h.cons
    obtain ⟨b, c, rfl, hb, hc⟩ := h2.app
    simp only [List.length_cons, List.length_append] at hn
    obtain ⟨m, rfl⟩ : ∃ m, n = m + 1 := ⟨n - 1, by omega⟩
    obtain ⟨u, e1, c1⟩ := ha a (by simp) m b (c ++ q) hb (tyWL_head hc q).1 (by omega)
    obtain ⟨us, y, e2, c2, hy, hy3⟩ := more_back xs m (acc ++ [u]) c q (fun x hx => ha x (by simp [hx])) hc (by omega)
    refine ⟨u :: us, y, ?_, ?_, hy, hy3⟩
    · rw [moreF_succ, List.cons_append, isT_pos hz hk, if_pos rfl, List.tail_cons, List.append_assoc, e1, bind_ok, e2, List.append_assoc]
      rfl
    · rw [Ty.cmpL, c1, if_pos rfl, c2]
theorem targs_back {xs : List Ty} (hx : ∀ x ∈ xs, TyBack x) (n : Nat) (r q : List Tk) (h : Tx r (targW xs)) (hq : isT [91] q = false) (hn : r.length ≤ n) : ∃ us, targsF n (r ++ q) = .ok us q ∧ Ty.cmpL us xs = 0 := by
  cases xs with
  | nil =>
    obtain rfl := Tx.nil h
    refine ⟨[], ?_, rfl⟩
    rw [List.nil_append]
    unfold targsF targsG
    rw [hq]
    rfl
  | cons a xs =>
    rw [targW] at h
    obtain ⟨z, r', rfl, hz, hk, h2⟩ := h.cons
    obtain ⟨b, c, rfl, hb, hc⟩ := h2.app
    simp only [List.length_cons, List.length_append] at hn
    obtain ⟨u, e1, c1⟩ := hx a (by simp) n b (c ++ q) hb (tyWL_head hc q).1 (by omega)
    obtain ⟨us, y, e2, c2, hy, hy3⟩ := more_back xs n [u] c q (fun x hx2 => hx x (by simp [hx2])) hc (by omega)
    refine ⟨u :: us, ?_, by rw [Ty.cmpL, c1, if_pos rfl, c2]⟩
    unfold targsF targsG
    rw [List.cons_append, isT_pos hz hk, if_pos rfl, List.tail_cons, List.append_assoc, manyF, e1, bind_ok, e2, bind_ok, must_pos hy hy3]
    rfl
theorem ty_back : ∀ t : Ty, t.right = true → TyBack t := by
  refine Ty.ind fun s xs o ih h n ts q ht hq hn => ?_
  rw [Ty.right_mk, Bool.and_eq_true] at h
  have hx := (rightL_iff xs).1 h.2
  rw [tyW_mk] at ht
  obtain ⟨z, r, rfl, hz, hk, h2⟩ := ht.cons
  simp only [List.length_cons] at hn
  obtain ⟨m, rfl⟩ : ∃ m, n = m + 1 := ⟨n - 1, by omega⟩
  obtain ⟨us, e, c⟩ := targs_back (fun x hm => ih x hm (hx x hm)) m r q h2 hq (by omega)
  refine ⟨.mk z.s us z.o, ?_, ?_⟩
  · rw [tyF_succ, List.cons_append, name_pos (by rw [hz]; exact h.1), bind_ok, e]
    rfl
  · rw [Ty.cmp, if_pos hz, c]

/-! ### expressions -/
theorem sameT_of : ∀ {us ts : List Ty}, Ty.cmpL us ts = 0 → Ex.sameT us ts = true
  | [], [], _ => rfl
  | [], _ :: _, h => by rw [Ty.cmpL] at h; cases h
  | _ :: _, [], h => by rw [Ty.cmpL] at h; cases h
  | a :: us, b :: ts, h => by
    rw [Ty.cmpL] at h
    split at h
    · rename_i h1
      rw [Ex.sameT, h1, sameT_of h]
      rfl
    · rename_i h1
      exact absurd h h1
theorem tyNone_same {t : Ty} (h1 : t.name.size = 0) (h2 : t.args = []) : Ty.cmp tyNone t = 0 := by
  obtain ⟨s, xs, o⟩ := t
  have hs : s.data.toList = [] := List.eq_nil_of_length_eq_zero (by rw [← Lib.size_eq]; exact h1)
  obtain rfl : xs = [] := h2
  rw [tyNone, Ty.cmp, if_pos (by rw [hs]), Ty.cmpL]
theorem exW_head : ∀ e : Ex, e.right = true → ∃ w ws, exW e = w :: ws ∧ Nm.isB w = true := by
  refine Ex.ind fun k s t ts xs o ih h => ?_
  rw [Ex.right, Bool.and_eq_true, Ex.rightL_all] at h
  have hk : ∀ x ∈ xs, ∃ w ws, exW x = w :: ws ∧ Nm.isB w = true := fun x hx => ih x hx (List.all_eq_true.1 h.1 x hx)
  have ht : t.right = true → ∃ w ws, tyW t = w :: ws ∧ Nm.isB w = true := fun h => by
    obtain ⟨s, ys, p⟩ := t
    rw [Ty.right_mk, Bool.and_eq_true] at h
    exact ⟨_, _, tyW_mk s ys p, h.1⟩
  rcases fit_cases h.2 with ⟨rfl, hn, rfl, hs, -⟩ | ⟨rfl, hn, hts, hs, -⟩ | ⟨rfl, rfl, hs, ht1⟩ | ⟨rfl, hn, rfl, hs, -⟩ | ⟨rfl, hn, rfl, hs, ht1⟩
  · obtain rfl := List.eq_nil_of_length_eq_zero hn
    exact ⟨s.data.toList, [], by rw [exW, if_pos rfl], hs⟩
  · cases xs with
    | nil => exact absurd hn (by decide)
    | cons a r =>
      obtain ⟨w, ws, e, hw⟩ := hk a (by simp)
      exact ⟨w, _, by rw [exW, e]; rfl, hw⟩
  · obtain ⟨w, ws, e, hw⟩ := ht ht1
    cases xs with
    | nil => exact ⟨w, _, by rw [exW, e]; rfl, hw⟩
    | cons a r => exact ⟨w, _, by rw [exW, e]; rfl, hw⟩
  · cases xs with
    | nil => cases hn
    | cons a r =>
      obtain ⟨w, ws, e, hw⟩ := hk a (by simp)
      exact ⟨w, _, by rw [exW, e]; rfl, hw⟩
  · cases xs with
    | nil => cases hn
    | cons a r =>
      obtain ⟨w, ws, e, hw⟩ := hk a (by simp)
      exact ⟨w, _, by rw [exW, e]; rfl, hw⟩
/-- Nothing that would go on with what was read. -/
structure Clear (q : List Tk) : Prop where
  b : isT [91] q = false
  c : isT [123] q = false
  p : isT [40] q = false
theorem clear_of {t : Tk} {r : List Tk} {s : List UInt8} (h : t.s.data.toList = s) (h1 : s ≠ [91]) (h2 : s ≠ [123]) (h3 : s ≠ [40]) : Clear (t :: r) := ⟨isT_neg (by rw [h]; exact h1), isT_neg (by rw [h]; exact h2), isT_neg (by rw [h]; exact h3)⟩
def ExBack (e : Ex) : Prop := ∀ (n : Nat) (ts q : List Tk), Tx ts (exW e) → Clear q → ts.length + 1 ≤ n → ∃ u m, exF n (ts ++ q) = restsF m u q ∧ u.same e = true ∧ n ≤ m + ts.length ∧ 1 ≤ ts.length
/-- What is read where no dot follows. -/
theorem ExBack.ends {e : Ex} (h : ExBack e) {n : Nat} {ts q : List Tk} (ht : Tx ts (exW e)) (hc : Clear q) (hd : isT [46] q = false) (hn : ts.length + 1 ≤ n) : ∃ u, exF n (ts ++ q) = .ok u q ∧ u.same e = true := by
  obtain ⟨u, m, e1, hs, hm, -⟩ := h n ts q ht hc hn
  obtain ⟨k, rfl⟩ : ∃ k, m = k + 1 := ⟨m - 1, by omega⟩
  exact ⟨u, by rw [e1, restsF_succ, hd]; rfl, hs⟩
theorem exWM_head {r : List Tk} {xs : List Ex} (h : Tx r (exWM xs)) {z : Tk} {s : List UInt8} (hz : z.s.data.toList = s) (h1 : s ≠ [91]) (h2 : s ≠ [123]) (h3 : s ≠ [40]) (h4 : s ≠ [46]) (q : List Tk) : Clear (r ++ z :: q) ∧ isT [46] (r ++ z :: q) = false := by
  cases xs with
  | nil =>
    obtain rfl := Tx.nil h
    exact ⟨clear_of hz h1 h2 h3, isT_neg (by rw [hz]; exact h4)⟩
  | cons a r =>
    rw [exWM] at h
    obtain ⟨t, r', rfl, ht, -, -⟩ := h.cons
    exact ⟨clear_of ht (by decide) (by decide) (by decide), isT_neg (by rw [ht]; decide)⟩
theorem moreX_back {z : Tk} {s : List UInt8} (hz : z.s.data.toList = s) (h1 : s ≠ [91]) (h2 : s ≠ [123]) (h3 : s ≠ [40]) (h4 : s ≠ [46]) (h5 : s ≠ [44]) (q : List Tk) : ∀ (xs : List Ex) (n : Nat) (acc : List Ex) (r : List Tk), (∀ x ∈ xs, ExBack x) → Tx r (exWM xs) → r.length + 1 ≤ n →
    ∃ us, moreX n acc (r ++ z :: q) = .ok (acc ++ us) (z :: q) ∧ Ex.sameL us xs = true
  | [], n, acc, r, _, h, hn => by
    obtain rfl := Tx.nil h
    obtain ⟨m, rfl⟩ : ∃ m, n = m + 1 := ⟨n - 1, by omega⟩
    refine ⟨[], ?_, rfl⟩
    rw [List.append_nil, moreX_succ, List.nil_append, isT_neg (by rw [hz]; exact h5)]
    rfl
  | a :: xs, n, acc, r, ha, h, hn => by
    rw [exWM] at h
    obtain ⟨y, r', rfl, hy, hk, h6⟩ := h.cons
    obtain ⟨b, c, rfl, hb, hc⟩ := h6.app
    simp only [List.length_cons, List.length_append] at hn
    obtain ⟨m, rfl⟩ : ∃ m, n = m + 1 := ⟨n - 1, by omega⟩
    have hh := exWM_head hc hz h1 h2 h3 h4 q
    obtain ⟨u, e1, c1⟩ := (ha a (by simp)).ends (n := m) hb hh.1 hh.2 (by omega)
    obtain ⟨us, e2, c2⟩ := moreX_back hz h1 h2 h3 h4 h5 q xs m (acc ++ [u]) c (fun x hx => ha x (by simp [hx])) hc (by omega)
    refine ⟨u :: us, ?_, by rw [Ex.sameL, c1, c2]; rfl⟩
    rw [moreX_succ, List.cons_append, isT_pos hy hk, if_pos rfl, List.tail_cons, List.append_assoc, e1, bind_ok, e2, List.append_assoc]
    rfl
theorem args_back {z : Tk} {s : List UInt8} (hz : z.s.data.toList = s) (hk : z.k ≠ 3) (h1 : s ≠ [91]) (h2 : s ≠ [123]) (h3 : s ≠ [40]) (h4 : s ≠ [46]) (h5 : s ≠ [44]) (h6 : Nm.isB s = false) (q : List Tk) (xs : List Ex) (n : Nat) (r : List Tk) (hx : ∀ x ∈ xs, ExBack x ∧ x.right = true) (h : Tx r (exWC xs)) (hn : r.length + 1 ≤ n) :
    ∃ us, argsF n s (r ++ z :: q) = .ok us q ∧ Ex.sameL us xs = true := by
  cases xs with
  | nil =>
    obtain rfl := Tx.nil h
    refine ⟨[], ?_, rfl⟩
    unfold argsF argsG
    rw [List.nil_append, isT_pos hz hk, if_pos rfl]
    rfl
  | cons a xs =>
    rw [exWC] at h
    obtain ⟨b, c, rfl, hb, hc⟩ := h.app
    simp only [List.length_append] at hn
    have hh := exWM_head hc hz h1 h2 h3 h4 q
    obtain ⟨w, ws, ew, hw⟩ := exW_head a (hx a (by simp)).2
    have hb2 := hb
    rw [ew] at hb2
    obtain ⟨y, r', rfl, hy, -, -⟩ := hb2.cons
    obtain ⟨u, e1, c1⟩ := (hx a (by simp)).1.ends (n := n) hb hh.1 hh.2 (by omega)
    obtain ⟨us, e2, c2⟩ := moreX_back hz h1 h2 h3 h4 h5 q xs n [u] c (fun x hm => (hx x (by simp [hm])).1) hc (by simp at hn; omega)
    refine ⟨u :: us, ?_, by rw [Ex.sameL, c1, c2]; rfl⟩
    have hne : isT s (y :: r' ++ (c ++ z :: q)) = false := isT_neg (by rw [hy]; rintro rfl; rw [hw] at h6; cases h6)
    unfold argsF argsG
    rw [List.append_assoc, hne, if_neg (by decide), manyX, e1, bind_ok, e2, bind_ok, must_pos hz hk]
    rfl
theorem ex_back : ∀ e : Ex, e.right = true → ExBack e := by
  refine Ex.ind fun k s t ts xs o ih h n rs q hr hq hn => ?_
  rw [Ex.right, Bool.and_eq_true, Ex.rightL_all] at h
  have hk : ∀ x ∈ xs, ExBack x ∧ x.right = true := fun x hx => ⟨ih x hx (List.all_eq_true.1 h.1 x hx), List.all_eq_true.1 h.1 x hx⟩
  rcases fit_cases h.2 with ⟨rfl, hl, rfl, hs, ht1, ht2⟩ | ⟨rfl, hl, hts, hs, ht1, ht2⟩ | ⟨rfl, rfl, hs, ht⟩ | ⟨rfl, hl, rfl, hs, ht1, ht2⟩ | ⟨rfl, hl, rfl, hs, ht⟩
  · obtain rfl := List.eq_nil_of_length_eq_zero hl
    rw [exW, if_pos rfl] at hr
    obtain ⟨x, r, rfl, hx, hx3, h2⟩ := hr.cons
    obtain rfl := h2.nil
    simp only [List.length_cons, List.length_nil] at hn
    obtain ⟨m, rfl⟩ : ∃ m, n = m + 2 := ⟨n - 2, by omega⟩
    refine ⟨exVar x.s x.o, m + 1, ?_, ?_, by simp, by simp⟩
    · have e1 : targsF m q = .ok [] q := by
        unfold targsF targsG
        rw [hq.b]
        rfl
      rw [exF_succ]
      have e2 : firstF (m + 1) ([x] ++ q) = .ok (exVar x.s x.o) q := by
        unfold firstF firstG
        rw [tyF_succ, List.cons_append, name_pos (by rw [hx]; exact hs), bind_ok, List.nil_append, e1, bind_ok, bind_ok]
        show (if (([] : List Ty).isEmpty && !isT [123] q) = true then _ else _) = _
        rw [hq.c]
        rfl
      rw [e2]
      rfl
    · rw [exVar, Ex.same, hx, tyNone_same ht1 ht2]
      simp [Ex.sameT, Ex.sameL]
  · cases xs with
    | nil => exact absurd hl (by decide)
    | cons a r =>
      simp only [exW] at hr
      rw [if_neg (by decide), if_neg (by decide), if_neg (by decide), if_neg (by decide)] at hr
      obtain ⟨ra, rb, rfl, hra, hrb⟩ := hr.app
      obtain ⟨d, r1, rfl, hd, hd3, h1⟩ := hrb.cons
      obtain ⟨x, r2, rfl, hx, hx3, h2⟩ := h1.cons
      obtain ⟨rt, r3, rfl, hrt, h3⟩ := h2.app
      obtain ⟨l, r4, rfl, hl4, hl3, h4⟩ := h3.cons
      obtain ⟨rc, r5, rfl, hrc, h5⟩ := h4.app
      obtain ⟨z, r6, rfl, hz, hz3, h6⟩ := h5.cons
      obtain rfl := h6.nil
      simp only [List.length_append, List.length_cons, List.length_nil] at hn
      obtain ⟨u, m, e1, hu, hm, -⟩ := (hk a (by simp)).1 n ra (d :: x :: (rt ++ l :: (rc ++ z :: q))) hra (clear_of hd (by decide) (by decide) (by decide)) (by omega)
      obtain ⟨m', rfl⟩ : ∃ m', m = m' + 1 := ⟨m - 1, by omega⟩
      obtain ⟨us, e2, c2⟩ := targs_back (fun y hy => ty_back y (hts y hy)) m' rt (l :: (rc ++ z :: q)) hrt (isT_neg (by rw [hl4]; decide)) (by omega)
      obtain ⟨ys, e3, c3⟩ := args_back hz hz3 (by decide) (by decide) (by decide) (by decide) (by decide) (by decide) q r m' rc (fun y hy => hk y (by simp [hy])) hrc (by omega)
      refine ⟨exCall x.s us (u :: ys) x.o, m', ?_, ?_, by simp only [List.length_append, List.length_cons]; omega, by simp only [List.length_append, List.length_cons]; omega⟩
      · have hc : (us.isEmpty && !isT [40] (l :: (rc ++ z :: q))) = false := by rw [isT_pos hl4 hl3]; simp
        have e4 : restF m' u (x :: (rt ++ l :: (rc ++ z :: q))) = .ok (exCall x.s us (u :: ys) x.o) q := by
          unfold restF restG
          rw [isT_neg (by rw [hx]; exact isB_ne hs (by decide)), if_neg (by decide), name_pos (by rw [hx]; exact hs), bind_ok, e2, bind_ok, hc, if_neg (by decide), must_pos hl4 hl3, bind_ok]
          show Got.bind (argsF m' [41] (rc ++ z :: q)) _ = _
          rw [e3]
          rfl
        simp only [List.append_assoc, List.cons_append, List.nil_append]
        rw [e1, restsF_succ, isT_pos hd hd3, if_pos rfl, List.tail_cons, e4]
        rfl
      · rw [exCall, Ex.same, hx, tyNone_same ht1 ht2, sameT_of c2, Ex.sameL, hu, c3]
        simp
  · have hnd : ∀ (xs' : List Ex) (t' : Ty) (o' : Int), Ty.cmp t' t = 0 → Ex.sameL xs' xs = true → (exLit t' xs').same (.mk 3 s t [] xs o) = true := fun xs' t' o' h1 h2 => by
      rw [exLit, Ex.same, h1, h2, hs]
      simp [Ex.sameT]
    have key : ∃ rt rc l z, rs = rt ++ l :: (rc ++ [z]) ∧ Tx rt (tyW t) ∧ Tx rc (exWC xs) ∧ l.s.data.toList = [123] ∧ l.k ≠ 3 ∧ z.s.data.toList = [125] ∧ z.k ≠ 3 := by
      cases xs with
      | nil =>
        rw [exW, if_neg (by decide)] at hr
        obtain ⟨rt, r1, rfl, hrt, h1⟩ := hr.app
        obtain ⟨l, r2, rfl, hl4, hl3, h2⟩ := h1.cons
        obtain ⟨z, r3, rfl, hz, hz3, h3⟩ := h2.cons
        obtain rfl := h3.nil
        exact ⟨rt, [], l, z, rfl, hrt, ⟨rfl, by simp⟩, hl4, hl3, hz, hz3⟩
      | cons a r =>
        rw [exW, if_neg (by decide), if_pos rfl] at hr
        obtain ⟨rt, r1, rfl, hrt, h1⟩ := hr.app
        obtain ⟨l, r2, rfl, hl4, hl3, h2⟩ := h1.cons
        obtain ⟨rc, r3, rfl, hrc, h3⟩ := h2.app
        obtain ⟨z, r4, rfl, hz, hz3, h4⟩ := h3.cons
        obtain rfl := h4.nil
        exact ⟨rt, rc, l, z, rfl, hrt, by rw [exWC]; exact hrc, hl4, hl3, hz, hz3⟩
    obtain ⟨rt, rc, l, z, rfl, hrt, hrc, hl4, hl3, hz, hz3⟩ := key
    simp only [List.length_append, List.length_cons, List.length_nil] at hn
    obtain ⟨m, rfl⟩ : ∃ m, n = m + 1 := ⟨n - 1, by omega⟩
    obtain ⟨u, e1, c1⟩ := ty_back t ht m rt (l :: (rc ++ z :: q)) hrt (isT_neg (by rw [hl4]; decide)) (by omega)
    obtain ⟨ys, e3, c3⟩ := args_back hz hz3 (by decide) (by decide) (by decide) (by decide) (by decide) (by decide) q xs m rc hk hrc (by omega)
    refine ⟨exLit u ys, m, ?_, hnd ys u 0 c1 c3, by simp only [List.length_append, List.length_cons]; omega, by simp only [List.length_append, List.length_cons]; omega⟩
    have hc : (u.args.isEmpty && !isT [123] (l :: (rc ++ z :: q))) = false := by rw [isT_pos hl4 hl3]; simp
    have e4 : firstF m (rt ++ l :: (rc ++ z :: q)) = .ok (exLit u ys) q := by
      unfold firstF firstG
      rw [e1, bind_ok, hc, if_neg (by decide), must_pos hl4 hl3, bind_ok]
      show Got.bind (argsF m [125] (rc ++ z :: q)) _ = _
      rw [e3]
      rfl
    simp only [List.append_assoc, List.cons_append, List.nil_append]
    rw [exF_succ, e4]
    rfl
  · cases xs with
    | nil => cases hl
    | cons a r =>
      obtain rfl : r = [] := List.eq_nil_of_length_eq_zero (by simpa using hl)
      rw [exW, if_neg (by decide), if_neg (by decide), if_neg (by decide), if_pos rfl] at hr
      obtain ⟨ra, rb, rfl, hra, hrb⟩ := hr.app
      obtain ⟨d, r1, rfl, hd, hd3, h1⟩ := hrb.cons
      obtain ⟨x, r2, rfl, hx, hx3, h2⟩ := h1.cons
      obtain rfl := h2.nil
      simp only [List.length_append, List.length_cons, List.length_nil] at hn
      obtain ⟨u, m, e1, hu, hm, -⟩ := (hk a (by simp)).1 n ra (d :: x :: q) hra (clear_of hd (by decide) (by decide) (by decide)) (by omega)
      obtain ⟨m', rfl⟩ : ∃ m', m = m' + 1 := ⟨m - 1, by omega⟩
      refine ⟨exField x.s u x.o, m', ?_, ?_, by simp only [List.length_append, List.length_cons, List.length_nil]; omega, by simp only [List.length_append, List.length_cons, List.length_nil]; omega⟩
      · have e2 : targsF m' q = .ok [] q := by
          unfold targsF targsG
          rw [hq.b]
          rfl
        have e4 : restF m' u (x :: q) = .ok (exField x.s u x.o) q := by
          unfold restF restG
          rw [isT_neg (by rw [hx]; exact isB_ne hs (by decide)), if_neg (by decide), name_pos (by rw [hx]; exact hs), bind_ok, e2, bind_ok]
          show (if (([] : List Ty).isEmpty && !isT [40] q) = true then _ else _) = _
          rw [hq.p]
          rfl
        simp only [List.append_assoc, List.cons_append, List.nil_append]
        rw [e1, restsF_succ, isT_pos hd hd3, if_pos rfl, List.tail_cons, e4]
        rfl
      · rw [exField, Ex.same, hx, tyNone_same ht1 ht2, Ex.sameL, hu]
        simp [Ex.sameT, Ex.sameL]
  · cases xs with
    | nil => cases hl
    | cons a r =>
      obtain rfl : r = [] := List.eq_nil_of_length_eq_zero (by simpa using hl)
      rw [exW, if_neg (by decide), if_neg (by decide), if_pos rfl] at hr
      obtain ⟨ra, rb, rfl, hra, hrb⟩ := hr.app
      obtain ⟨d, r1, rfl, hd, hd3, h1⟩ := hrb.cons
      obtain ⟨l, r2, rfl, hl4, hl3, h2⟩ := h1.cons
      obtain ⟨rt, r3, rfl, hrt, h3⟩ := h2.app
      obtain ⟨z, r4, rfl, hz, hz3, h4⟩ := h3.cons
      obtain rfl := h4.nil
      simp only [List.length_append, List.length_cons, List.length_nil] at hn
      obtain ⟨u, m, e1, hu, hm, -⟩ := (hk a (by simp)).1 n ra (d :: l :: (rt ++ z :: q)) hra (clear_of hd (by decide) (by decide) (by decide)) (by omega)
      obtain ⟨m', rfl⟩ : ∃ m', m = m' + 1 := ⟨m - 1, by omega⟩
      obtain ⟨v, e2, c2⟩ := ty_back t ht m' rt (z :: q) hrt (isT_neg (by rw [hz]; decide)) (by omega)
      refine ⟨exAssert v u (off (l :: (rt ++ z :: q))), m', ?_, ?_, by simp only [List.length_append, List.length_cons, List.length_nil]; omega, by simp only [List.length_append, List.length_cons, List.length_nil]; omega⟩
      · have e4 : restF m' u (l :: (rt ++ z :: q)) = .ok (exAssert v u (off (l :: (rt ++ z :: q)))) q := by
          unfold restF restG
          rw [isT_pos hl4 hl3, if_pos rfl, List.tail_cons, e2, bind_ok, must_pos hz hz3]
          rfl
        simp only [List.append_assoc, List.cons_append, List.nil_append]
        rw [e1, restsF_succ, isT_pos hd hd3, if_pos rfl, List.tail_cons, e4]
        rfl
      · rw [exAssert, Ex.same, hs, c2, Ex.sameL, hu]
        simp [Ex.sameT, Ex.sameL]
end Go.Proofs.YtbeejmlmplgaeaaDoor.Rd
