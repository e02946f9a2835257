/- The walks of the laws DeclPlain and DeclTypes: true, at every input. The condition: the table of words. -/
import Derived.Test.YtaeljknfbanbfaaGreatDoorDrP
import Derived.Test.YtaeljknfbanbfaaGreatDoorDrN
import Derived.Test.YtaeljknfbanbfaaGreatDoorDrK
import Derived.Test.YtaeljknfbanbfaaGreatDoorDrF
namespace Go.Proofs.YtaeljknfbanbfaaGreatDoor
open Go.RowKit

theorem pg_nine {w : World} {N : Prop} {S : Nat → Prop} {p : Pg} {us : List Value} (h : p.dat.In w N S us) : ∃ u0 u1 u2 u3 u4 u5 u6 u7 u8, us = [u0, u1, u2, u3, u4, u5, u6, u7, u8] := by
  obtain ⟨Dp, n, c, A3, m3, a3, B3, l3, b3, C3, n3, c3, rfl, _⟩ := pg_full h
  exact ⟨_, _, _, _, _, _, _, _, _, rfl⟩
/-- A boxed program. -/
structure PX (W : World) (b : Nat) (p : Pg) (us : List Value) : Prop where
  box : Boxd W b us
  dat : p.dat.H W us
theorem PX.later {W W' : World} {b : Nat} {p : Pg} {us : List Value} (h : PX W b p us) (hb : Below W.heap.size W W') : PX W' b p us := ⟨h.box.later hb, Dat.H.later h.dat hb⟩
theorem Ty.wt_mem {t : Ty} {ts : List Ty} (h : t ∈ ts) : t.wt ≤ Ty.wtL ts := by
  induction ts with
  | nil => cases h
  | cons a r ih =>
    rw [Ty.wtL]
    rcases List.mem_cons.1 h with rfl | h
    · omega
    · have := ih h; omega
theorem Ex.own_wt {x : Ex} {t : Ty} (h : t ∈ Ex.own x) : t.wt ≤ x.wt := by
  obtain ⟨k, s, u, ts, xs, o⟩ := x
  rw [Ex.own] at h
  rw [Ex.wt]
  rcases List.mem_append.1 h with h | h
  · have := Ty.wt_mem (show t ∈ ts from h); omega
  · by_cases hk : Ex.typed (Ex.mk k s u ts xs o).kind = true
    · rw [if_pos hk] at h
      have := List.mem_singleton.1 h
      simp only [Ex.ty] at this
      rw [this]; omega
    · rw [if_neg hk] at h
      cases h
theorem Ex.mem_wt : ∀ e x : Ex, x ∈ e.list → x.wt ≤ e.wt := by
  refine Ex.ind fun k s t ts xs o ih x hx => ?_
  rw [Ex.list] at hx
  rcases List.mem_cons.1 hx with rfl | hx
  · exact Nat.le_refl _
  have hL : ∀ l : List Ex, (∀ y ∈ l, y ∈ xs) → x ∈ Ex.listL l → x.wt ≤ Ex.wtL l := by
    intro l
    induction l with
    | nil => intro _ h; rw [Ex.listL] at h; cases h
    | cons a r ih2 =>
      intro hm h
      rw [Ex.listL] at h
      rw [Ex.wtL]
      rcases List.mem_append.1 h with h | h
      · have := ih a (hm a (by simp)) x h; omega
      · have := ih2 (fun y hy => hm y (by simp [hy])) h; omega
  have := hL xs (fun _ h => h) hx
  rw [Ex.wt]
  omega
theorem Ex.types_wt {e : Ex} {t : Ty} (h : t ∈ e.types) : t.wt ≤ e.wt := by
  rw [Ex.types, List.mem_flatMap] at h
  obtain ⟨x, hx, ht⟩ := h
  exact Nat.le_trans (Ex.own_wt ht) (Ex.mem_wt e x hx)
theorem Fo.types_wt {t : Ty} {fs : List Fo} (h : t ∈ fs.map Fo.ty) : t.wt ≤ sumBy Fo.wt fs := by
  obtain ⟨f, hf, rfl⟩ := List.mem_map.1 h
  exact Nat.le_trans Fo.wt_ty (sumBy_mem (g := Fo.wt) hf)
theorem Sg.types_wt {s : Sg} {t : Ty} (h : t ∈ s.types) : t.wt ≤ s.wt := by
  rw [Sg.types] at h
  unfold Sg.wt
  rcases List.mem_append.1 h with h | h
  · rcases List.mem_append.1 h with h | h
    · have := Fo.types_wt h; omega
    · have := Fo.types_wt h; omega
  · rw [List.mem_singleton.1 h]; omega
theorem Dc.types_wt {d : Dc} {t : Ty} (h : t ∈ d.types) : t.wt ≤ d.wt := by
  rw [Dc.types] at h
  unfold Dc.wt
  rcases List.mem_append.1 h with h | h
  · rcases List.mem_append.1 h with h | h
    · rcases List.mem_append.1 h with h | h
      · have := Fo.types_wt h; omega
      · have := Fo.types_wt h; omega
    · obtain ⟨s, hs, ht⟩ := List.mem_flatMap.1 h
      have := Sg.types_wt ht
      have := sumBy_mem (g := Sg.wt) hs
      omega
  · split at h
    · rcases List.mem_append.1 h with h | h
      · have := Sg.types_wt h; omega
      · have := Ex.types_wt h; omega
    · cases h
theorem Pg.types_wt {p : Pg} {t : Ty} (h : t ∈ p.types) : t.wt ≤ p.wt := by
  rw [Pg.types] at h
  unfold Pg.wt
  rcases List.mem_append.1 h with h | h
  · obtain ⟨d, hd, ht⟩ := List.mem_flatMap.1 h
    have := Dc.types_wt ht
    have := sumBy_mem (g := Dc.wt) hd
    omega
  · have := Ex.types_wt h; omega

theorem max_fold (l : List Nat) (a b : Nat) : l.foldl max (max a b) = max a (l.foldl max b) := by
  induction l generalizing b with
  | nil => rfl
  | cons x r ih => rw [List.foldl_cons, List.foldl_cons, Nat.max_assoc, ih]
theorem fold_swap (l r : List Nat) (a : Nat) : r.foldl max (l.foldl max a) = l.foldl max (r.foldl max a) := by
  induction l generalizing a with
  | nil => rfl
  | cons x q ih => rw [List.foldl_cons, List.foldl_cons, ih, Nat.max_comm a x, max_fold, Nat.max_comm]
theorem fold_ge (l : List Nat) (a : Nat) : a ≤ l.foldl max a := by
  induction l generalizing a with
  | nil => exact Nat.le_refl _
  | cons x r ih => exact Nat.le_trans (Nat.le_max_left a x) (ih _)
theorem Ex.depth_pos (e : Ex) : 1 ≤ e.depth := by
  obtain ⟨k, s, t, ts, xs, o⟩ := e
  rw [Ex.depth]
  split <;> omega
theorem Ex.depth_none {e : Ex} (h : e.same Ex.none? = true) : e.depth = 1 := by
  obtain ⟨k, s, t, ts, xs, o⟩ := e
  rw [Ex.none?, Ex.same] at h
  simp only [Bool.and_eq_true, beq_iff_eq] at h
  obtain ⟨⟨⟨⟨rfl, _⟩, _⟩, ht⟩, hx⟩ := h
  have h1 : ts = [] := by cases ts with
    | nil => rfl
    | cons a r => simp [Ex.sameT] at ht
  have h2 : xs = [] := by cases xs with
    | nil => rfl
    | cons a r => simp [Ex.sameL] at hx
  subst h1 h2
  simp [Ex.depth, Ex.typed, Ty.depthL, Ex.depthL]
theorem fold_bodies : ∀ (ds : List Dc) (a : Nat), 1 ≤ a → (∀ d ∈ ds, d.right = true) → (ds.map fun d => if d.kind = 3 then d.body.depth else 0).foldl max a = (ds.map fun d => d.body.depth).foldl max a
  | [], a, _, _ => rfl
  | d :: r, a, h1, h => by
    rw [List.map_cons, List.map_cons, List.foldl_cons, List.foldl_cons]
    have hd : max a (if d.kind = 3 then d.body.depth else 0) = max a d.body.depth := by
      by_cases hk : d.kind = 3
      · rw [if_pos hk]
      · have hr := h d (by simp)
        rw [Dc.right, if_neg hk] at hr
        simp only [Bool.and_eq_true] at hr
        have hs : d.body.same Ex.none? = true := hr.2.1.2
        rw [if_neg hk, Ex.depth_none hs]
        omega
    rw [hd]
    exact fold_bodies r _ (by omega) fun x hx => h x (by simp [hx])
/-- Both reckon the same depth. -/
theorem Pg.depth_eq {p : Pg} (h : p.right = true) : p.depthR = p.depth := by
  rw [Pg.right, Bool.and_eq_true, List.all_eq_true] at h
  rw [Pg.depthR, fold_bodies p.ds _ (Nat.le_trans (Ex.depth_pos p.main) (fold_ge _ _)) h.1, fold_swap]
  rfl

set_option maxRecDepth 100000 in
set_option maxHeartbeats 16000000 in
theorem dplain_law (p : Pg) (us : List Value) (w : World) (h : p.dat.H w us) (hE : ResVar w) :
    Calls Tryz.prog 5 #[.agg us.toArray] w fun e w' => e = .returned (.bool true) ∧ Below w.heap.size w w' := by
  have hx := Boxd.new w us.toArray 40
  have hb : Below w.heap.size w (w.alloc (.cells us.toArray 40)) := (Below.refl _ _).alloc (Nat.le_refl _) _
  have H0 := Lib.hid (show PX (w.alloc (.cells us.toArray 40)) w.heap.size p us from ⟨hx, Dat.H.later h hb⟩)
  have HE0 := Lib.hid (hE.later hb)
  have HB0 := Lib.hid hb
  obtain ⟨fa, hfa⟩ : ∃ x, p.few = x := ⟨_, rfl⟩
  obtain ⟨ra, hra⟩ : ∃ x, p.right = x := ⟨_, rfl⟩
  have HFA := Lib.hid hfa
  have HRA := Lib.hid hra
  obtain ⟨vp0, vp1, vp2, vp3, vp4, vp5, vp6, vp7, vp8, rfl⟩ := pg_nine h
  clear hx hb h hE hfa hra
  go_enter Tryz.func5, Tryz.ntmps5
  go_wp2_with fail
  generalize hW : w.alloc (.cells #[vp0, vp1, vp2, vp3, vp4, vp5, vp6, vp7, vp8] 40) = W at *
  clear hW
  generalize hb0 : w.heap.size = b0 at H0 ⊢
  clear hb0
  refine (dawake_any _ HE0.out).mono ?_
  rintro e w1 ⟨rfl, hb⟩
  have H1 := Lib.hid (H0.out.later hb)
  have HE1 := Lib.hid (HE0.out.later hb)
  have HB1 := Lib.hid (HB0.out.trans (hb.mono HB0.out.size))
  clear hb H0 HE0 HB0
  obtain ⟨x0, x1, x2, x3, x4, x5, x6, x7, x8⟩ := H1.out.box.c9
  go_wp2_with fail
  refine (rfewPg_any p _ _ H1.out.dat).mono ?_
  rintro e w2 ⟨rfl, hb⟩
  rw [HFA.out]
  have H2 := Lib.hid (H1.out.later hb)
  have HE2 := Lib.hid (HE1.out.later hb)
  have HB2 := Lib.hid (HB1.out.trans (hb.mono HB1.out.size))
  clear hb H1 HE1 HB1
  clear x0 x1 x2 x3 x4 x5 x6 x7 x8
  cases fa
  · skip
    go_wp2_with fail
    refine (dawake_any _ HE2.out).mono ?_
    rintro e w9 ⟨rfl, hb⟩
    have HB9 := Lib.hid (HB2.out.trans (hb.mono HB2.out.size))
    clear hb
    go_wp2_with fail
    go_ret
    exact ⟨rfl, HB9.out⟩
  have HWT := Lib.hid (Nat.le_trans (Pg.wt_few HFA.out) (show 600 ≤ 1000 by omega))
  obtain ⟨x0, x1, x2, x3, x4, x5, x6, x7, x8⟩ := H2.out.box.c9
  go_wp2_with fail
  refine (rright_any p _ _ (fun d hd => Nat.le_trans (Pg.wt_d hd) HWT.out) (Nat.le_trans Pg.wt_main HWT.out) H2.out.dat).mono ?_
  rintro e w3 ⟨rfl, hb⟩
  rw [HRA.out]
  have H3 := Lib.hid (H2.out.later hb)
  have HE3 := Lib.hid (HE2.out.later hb)
  have HB3 := Lib.hid (HB2.out.trans (hb.mono HB2.out.size))
  clear hb H2 HE2 HB2
  clear x0 x1 x2 x3 x4 x5 x6 x7 x8
  cases ra
  · skip
    go_wp2_with fail
    refine (dawake_any _ HE3.out).mono ?_
    rintro e w9 ⟨rfl, hb⟩
    have HB9 := Lib.hid (HB3.out.trans (hb.mono HB3.out.size))
    clear hb
    go_wp2_with fail
    go_ret
    exact ⟨rfl, HB9.out⟩
  go_wp2_with fail
  generalize hX : w3 = X at *
  clear hX
  have SS : Below X.heap.size X X ∧ PX X b0 p [vp0, vp1, vp2, vp3, vp4, vp5, vp6, vp7, vp8] := ⟨Below.refl _ _, H3.out⟩
  refine wp_region_held_drew (S := fun V => Below X.heap.size X V ∧ PX V b0 p [vp0, vp1, vp2, vp3, vp4, vp5, vp6, vp7, vp8]) (by kernel_rfl) (by exact ⟨SS.1.drew, SS.2.later (Below.refl _ _).drew⟩) (fun hS => ?_)
  refine wpAnyH_take (i := 0) (v := .agg #[vp0, vp1, vp2, vp3, vp4, vp5, vp6, vp7, vp8]) rfl (by kernel_rfl) (by kernel_rfl) (by kernel_rfl) (fun _ _ _ h => h) (Or.inl ⟨by rfl, fun V hV => loadYield flatPg rfl hV.2.box.at0 rfl⟩) (by assumption) ?_
  try simp only [Act.put, List.getElem_toArray, List.getElem_cons_zero, List.setIfInBounds_toArray, List.set_cons_zero, List.set_cons_succ]
  refine wpAnyH_take (i := 2) (v := .agg #[vp0, vp1, vp2, vp3, vp4, vp5, vp6, vp7, vp8]) rfl (by kernel_rfl) (by kernel_rfl) (by kernel_rfl) (fun _ _ _ h => h) (Or.inl ⟨by rfl, fun V hV => loadYield flatPg rfl hV.2.box.at0 rfl⟩) (by assumption) ?_
  try simp only [Act.put, List.getElem_toArray, List.getElem_cons_zero, List.getElem_cons_succ, List.setIfInBounds_toArray, List.set_cons_zero, List.set_cons_succ]
  refine wpAnyH_ready (rs := [1]) (by kernel_rfl) (by simp) ?_
  refine AllReadyH.cons rfl (fun K hK => ?_) AllReadyH.nil
  go_simp
  refine (plainPg_any p _ _ HWT.out hS.2.dat).mono ?_
  rintro e Wv ⟨rfl, hb⟩
  have SS : Below X.heap.size X Wv ∧ PX Wv b0 p [vp0, vp1, vp2, vp3, vp4, vp5, vp6, vp7, vp8] := ⟨hS.1.trans (hb.mono hS.1.size), hS.2.later hb⟩
  clear hS hb
  refine hK.out _ _ SS (fun hS => ?_)
  clear hK K
  try simp only [Act.put, List.getElem_toArray, List.getElem_cons_zero, List.getElem_cons_succ, List.setIfInBounds_toArray, List.set_cons_zero, List.set_cons_succ]
  refine wpAnyH_ready (rs := [3]) (by kernel_rfl) (by simp) ?_
  refine AllReadyH.cons rfl (fun K hK => ?_) AllReadyH.nil
  go_simp
  refine (rplain_any p _ _ HWT.out hS.2.dat).mono ?_
  rintro e Wv ⟨rfl, hb⟩
  have SS : Below X.heap.size X Wv ∧ PX Wv b0 p [vp0, vp1, vp2, vp3, vp4, vp5, vp6, vp7, vp8] := ⟨hS.1.trans (hb.mono hS.1.size), hS.2.later hb⟩
  clear hS hb
  refine hK.out _ _ SS (fun hS => ?_)
  clear hK K
  try simp only [Act.put, List.getElem_toArray, List.getElem_cons_zero, List.getElem_cons_succ, List.setIfInBounds_toArray, List.set_cons_zero, List.set_cons_succ]
  first
  | (refine wpAnyH_take (i := 4) (v := ?_) rfl (by kernel_rfl) (by kernel_rfl) (by kernel_rfl) (fun _ _ _ h => h) (Or.inl ⟨by rfl, ?_⟩) (by assumption) ?_
     rotate_left
     · (intro V hV; obtain ⟨_, _⟩ := hV; go_simp; try with_reducible rfl)
     try simp only [Act.put, List.getElem_toArray, List.getElem_cons_zero, List.getElem_cons_succ, List.setIfInBounds_toArray, List.set_cons_zero, List.set_cons_succ])
  | (refine wpAnyH_take (i := 4) (v := undef) rfl (by kernel_rfl) (by kernel_rfl) (by kernel_rfl) (fun _ _ _ h => h) (Or.inr ⟨by rfl, rfl⟩) (by assumption) ?_
     try simp only [Act.put, List.getElem_toArray, List.getElem_cons_zero, List.getElem_cons_succ, List.setIfInBounds_toArray, List.set_cons_zero, List.set_cons_succ])
  | fail "take 4"
  first
  | (refine wpAnyH_take (i := 5) (v := ?_) rfl (by kernel_rfl) (by kernel_rfl) (by kernel_rfl) (fun _ _ _ h => h) (Or.inl ⟨by rfl, ?_⟩) (by assumption) ?_
     rotate_left
     · (intro V hV; obtain ⟨_, _⟩ := hV; go_simp; try with_reducible rfl)
     try simp only [Act.put, List.getElem_toArray, List.getElem_cons_zero, List.getElem_cons_succ, List.setIfInBounds_toArray, List.set_cons_zero, List.set_cons_succ])
  | (refine wpAnyH_take (i := 5) (v := undef) rfl (by kernel_rfl) (by kernel_rfl) (by kernel_rfl) (fun _ _ _ h => h) (Or.inr ⟨by rfl, rfl⟩) (by assumption) ?_
     try simp only [Act.put, List.getElem_toArray, List.getElem_cons_zero, List.getElem_cons_succ, List.setIfInBounds_toArray, List.set_cons_zero, List.set_cons_succ])
  | fail "take 5"
  refine wpAnyH_done (by kernel_rfl) ?_ _
  go_wp2_with fail
  go_ret
  exact ⟨ret_bool (by simp), HB3.out.trans (SS.1.mono HB3.out.size)⟩
set_option maxRecDepth 100000 in
set_option maxHeartbeats 16000000 in
theorem dtypes_law (p : Pg) (us : List Value) (w : World) (h : p.dat.H w us) (hE : ResVar w) :
    Calls Tryz.prog 4 #[.agg us.toArray] w fun e w' => e = .returned (.bool true) ∧ Below w.heap.size w w' := by
  have hx := Boxd.new w us.toArray 40
  have hb : Below w.heap.size w (w.alloc (.cells us.toArray 40)) := (Below.refl _ _).alloc (Nat.le_refl _) _
  have H0 := Lib.hid (show PX (w.alloc (.cells us.toArray 40)) w.heap.size p us from ⟨hx, Dat.H.later h hb⟩)
  have HE0 := Lib.hid (hE.later hb)
  have HB0 := Lib.hid hb
  obtain ⟨fa, hfa⟩ : ∃ x, p.few = x := ⟨_, rfl⟩
  obtain ⟨ra, hra⟩ : ∃ x, p.right = x := ⟨_, rfl⟩
  have HFA := Lib.hid hfa
  have HRA := Lib.hid hra
  obtain ⟨vp0, vp1, vp2, vp3, vp4, vp5, vp6, vp7, vp8, rfl⟩ := pg_nine h
  clear hx hb h hE hfa hra
  go_enter Tryz.func4, Tryz.ntmps4
  go_wp2_with fail
  generalize hW : w.alloc (.cells #[vp0, vp1, vp2, vp3, vp4, vp5, vp6, vp7, vp8] 40) = W at *
  clear hW
  generalize hb0 : w.heap.size = b0 at H0 ⊢
  clear hb0
  refine (dawake_any _ HE0.out).mono ?_
  rintro e w1 ⟨rfl, hb⟩
  have H1 := Lib.hid (H0.out.later hb)
  have HE1 := Lib.hid (HE0.out.later hb)
  have HB1 := Lib.hid (HB0.out.trans (hb.mono HB0.out.size))
  clear hb H0 HE0 HB0
  obtain ⟨x0, x1, x2, x3, x4, x5, x6, x7, x8⟩ := H1.out.box.c9
  go_wp2_with fail
  refine (rfewPg_any p _ _ H1.out.dat).mono ?_
  rintro e w2 ⟨rfl, hb⟩
  rw [HFA.out]
  have H2 := Lib.hid (H1.out.later hb)
  have HE2 := Lib.hid (HE1.out.later hb)
  have HB2 := Lib.hid (HB1.out.trans (hb.mono HB1.out.size))
  clear hb H1 HE1 HB1
  clear x0 x1 x2 x3 x4 x5 x6 x7 x8
  cases fa
  · skip
    go_wp2_with fail
    refine (dawake_any _ HE2.out).mono ?_
    rintro e w9 ⟨rfl, hb⟩
    have HB9 := Lib.hid (HB2.out.trans (hb.mono HB2.out.size))
    clear hb
    go_wp2_with fail
    go_ret
    exact ⟨rfl, HB9.out⟩
  have HWT := Lib.hid (Nat.le_trans (Pg.wt_few HFA.out) (show 600 ≤ 1000 by omega))
  obtain ⟨x0, x1, x2, x3, x4, x5, x6, x7, x8⟩ := H2.out.box.c9
  go_wp2_with fail
  refine (rright_any p _ _ (fun d hd => Nat.le_trans (Pg.wt_d hd) HWT.out) (Nat.le_trans Pg.wt_main HWT.out) H2.out.dat).mono ?_
  rintro e w3 ⟨rfl, hb⟩
  rw [HRA.out]
  have H3 := Lib.hid (H2.out.later hb)
  have HE3 := Lib.hid (HE2.out.later hb)
  have HB3 := Lib.hid (HB2.out.trans (hb.mono HB2.out.size))
  clear hb H2 HE2 HB2
  clear x0 x1 x2 x3 x4 x5 x6 x7 x8
  cases ra
  · skip
    go_wp2_with fail
    refine (dawake_any _ HE3.out).mono ?_
    rintro e w9 ⟨rfl, hb⟩
    have HB9 := Lib.hid (HB3.out.trans (hb.mono HB3.out.size))
    clear hb
    go_wp2_with fail
    go_ret
    exact ⟨rfl, HB9.out⟩
  obtain ⟨x0, x1, x2, x3, x4, x5, x6, x7, x8⟩ := H3.out.box.c9
  have HTW := Lib.hid (fun (t : Ty) (ht : t ∈ p.types) => Nat.le_trans (Pg.types_wt ht) HWT.out)
  go_wp2_with fail
  refine (typesPg_any p _ _ HWT.out HTW.out H3.out.dat).mono ?_
  rintro e w4 ⟨A, c, rfl, hrow, hb⟩
  have H4 := Lib.hid (H3.out.later hb)
  have HB4 := Lib.hid (HB3.out.trans (hb.mono HB3.out.size))
  have HR1 := Lib.hid (show RowH w4 3 A p.types.length (p.types.map Ty.dat) from hrow.wide fun _ h => h.2)
  clear hb hrow H3 HB3 HE3 x0 x1 x2 x3 x4 x5 x6 x7 x8
  obtain ⟨x0, x1, x2, x3, x4, x5, x6, x7, x8⟩ := H4.out.box.c9
  go_wp2_with fail
  refine (rtypes_any p _ _ _ (Nat.le_refl _) HWT.out H4.out.dat).mono ?_
  rintro e w5 ⟨v5, rfl, hr⟩
  have hb := hr.bel
  have H5 := Lib.hid (H4.out.later hb)
  have HB5 := Lib.hid (HB4.out.trans (hb.mono HB4.out.size))
  have HR5 := Lib.hid (RowH.later HR1.out hb)
  have hq := Pg.types_len p
  have hwt := HWT.out
  obtain ⟨B, d, us1, rfl, _⟩ := hr.flat (Nat.le_refl _)
  obtain ⟨_, hrow⟩ := hr.row (by omega)
  have HR6 := Lib.hid hrow
  have hn9 : (p.types.length : Int) ≤ 1000 := by omega
  clear hb hr hrow hq hwt H4 HB4 HR1 x0 x1 x2 x3 x4 x5 x6 x7 x8
  obtain ⟨nt, hnt⟩ : ∃ n, p.types.length = n := ⟨_, rfl⟩
  have HNT := Lib.hid hnt
  rw [hnt] at hn9 HR5 HR6 ⊢
  clear hnt
  have n0 : ((nt : Int) != (nt : Int)) = false := by simp
  go_wp2_with fail
  go_loopw [5] (fun i wr => ∃ k : Nat, k ≤ nt ∧ i = .int .i64 k ∧ Below w5.heap.size w5 wr) (fun i _ => nt - (intOf i).toNat)
  case atStart => exact ⟨0, by omega, rfl, Below.refl _ _⟩
  case round =>
    obtain ⟨k, hk, rfl, hbel⟩ := hrel
    have HBL := Lib.hid hbel
    have z0 : (0 : Int) ≤ k := by omega
    by_cases hlt : k < nt
    · have z1 : (k : Int) < nt := by omega
      obtain ⟨pu, u, ps, rfl, hxk, _, _, hu, hcs⟩ := dat_at (RowH.later HR5.out hbel) hlt
      obtain ⟨pv, v, qs, rfl, hyk, _, _, hv, hds⟩ := dat_at (RowH.later HR6.out hbel) hlt
      obtain rfl : u = v := Option.some.inj (hxk.symm.trans hyk)
      obtain ⟨Au, mu, au, rfl, htu, hau⟩ := ty_open hu
      obtain ⟨Av, mv, av, rfl, _, hav⟩ := ty_open hv
      have C := Lib.hid (fun (V : World) (hV : Below wr.heap.size wr V) => (ref_equal_any u u Au Av mu mv au av V htu htu (Here.later hau hV) (Here.later hav hV)).mono fun e w' (h : _ ∧ _) => (⟨h.1, hV.trans (h.2.mono hV.size)⟩ : _ ∧ Below wr.heap.size wr w'))
      rw [show Ty.eqv u u = true from Ty.eqv_refl u] at C
      obtain ⟨f0, f1, f2⟩ := cells3_at.1 hcs
      obtain ⟨g0, g1, g2⟩ := cells3_at.1 hds
      clear hxk hyk hu hv hcs hds hbel hau hav
      go_wp2_with fail
      go_still_tail 8, (by kernel_rfl)
      change wpList _ _ _ _ _ wr.drew
      go_wp2_with fail
      refine (C.out _ (Below.refl _ _).drew).mono ?_
      rintro e w6 ⟨rfl, hb6⟩
      have HB6 := Lib.hid (HBL.out.trans (hb6.mono HBL.out.size))
      clear hb6
      go_wp2_with fail
      go_roundw
      case rel => exact ⟨k + 1, by omega, by go_num, HB6.out⟩
      case measure => simp [intOf]; omega
    · have z1 : (nt : Int) ≤ k := by omega
      have H7 := Lib.hid (H5.out.later hbel)
      have HB7 := Lib.hid (HB5.out.trans (hbel.mono HB5.out.size))
      clear hbel HR5 HR6 H5
      go_wp2_with fail
      generalize hX : wr = X at *
      clear hX
      have SS : Below X.heap.size X X ∧ PX X b0 p [vp0, vp1, vp2, vp3, vp4, vp5, vp6, vp7, vp8] := ⟨Below.refl _ _, H7.out⟩
      refine wp_region_held_drew (S := fun V => Below X.heap.size X V ∧ PX V b0 p [vp0, vp1, vp2, vp3, vp4, vp5, vp6, vp7, vp8]) (by kernel_rfl) (by exact ⟨SS.1.drew, SS.2.later (Below.refl _ _).drew⟩) (fun hS => ?_)
      refine wpAnyH_take (i := 0) (v := .agg #[vp0, vp1, vp2, vp3, vp4, vp5, vp6, vp7, vp8]) rfl (by kernel_rfl) (by kernel_rfl) (by kernel_rfl) (fun _ _ _ h => h) (Or.inl ⟨by rfl, fun V hV => loadYield flatPg rfl hV.2.box.at0 rfl⟩) (by assumption) ?_
      try simp only [Act.put, List.getElem_toArray, List.getElem_cons_zero, List.setIfInBounds_toArray, List.set_cons_zero, List.set_cons_succ]
      refine wpAnyH_take (i := 2) (v := .agg #[vp0, vp1, vp2, vp3, vp4, vp5, vp6, vp7, vp8]) rfl (by kernel_rfl) (by kernel_rfl) (by kernel_rfl) (fun _ _ _ h => h) (Or.inl ⟨by rfl, fun V hV => loadYield flatPg rfl hV.2.box.at0 rfl⟩) (by assumption) ?_
      try simp only [Act.put, List.getElem_toArray, List.getElem_cons_zero, List.getElem_cons_succ, List.setIfInBounds_toArray, List.set_cons_zero, List.set_cons_succ]
      refine wpAnyH_ready (rs := [1]) (by kernel_rfl) (by simp) ?_
      refine AllReadyH.cons rfl (fun K hK => ?_) AllReadyH.nil
      go_simp
      refine (depthPg_any p _ _ HWT.out HTW.out hS.2.dat).mono ?_
      rintro e Wv ⟨rfl, hb⟩
      have SS : Below X.heap.size X Wv ∧ PX Wv b0 p [vp0, vp1, vp2, vp3, vp4, vp5, vp6, vp7, vp8] := ⟨hS.1.trans (hb.mono hS.1.size), hS.2.later hb⟩
      clear hS hb
      refine hK.out _ _ SS (fun hS => ?_)
      clear hK K
      try simp only [Act.put, List.getElem_toArray, List.getElem_cons_zero, List.getElem_cons_succ, List.setIfInBounds_toArray, List.set_cons_zero, List.set_cons_succ]
      refine wpAnyH_ready (rs := [3]) (by kernel_rfl) (by simp) ?_
      refine AllReadyH.cons rfl (fun K hK => ?_) AllReadyH.nil
      go_simp
      have CS := rdepth_any p _ _ HWT.out HTW.out hS.2.dat
      rw [Pg.depth_eq HRA.out] at CS
      refine (CS).mono ?_
      rintro e Wv ⟨rfl, hb⟩
      have SS : Below X.heap.size X Wv ∧ PX Wv b0 p [vp0, vp1, vp2, vp3, vp4, vp5, vp6, vp7, vp8] := ⟨hS.1.trans (hb.mono hS.1.size), hS.2.later hb⟩
      clear hS hb
      refine hK.out _ _ SS (fun hS => ?_)
      clear hK K
      try simp only [Act.put, List.getElem_toArray, List.getElem_cons_zero, List.getElem_cons_succ, List.setIfInBounds_toArray, List.set_cons_zero, List.set_cons_succ]
      first
      | (refine wpAnyH_take (i := 4) (v := ?_) rfl (by kernel_rfl) (by kernel_rfl) (by kernel_rfl) (fun _ _ _ h => h) (Or.inl ⟨by rfl, ?_⟩) (by assumption) ?_
         rotate_left
         · (intro V hV; obtain ⟨_, _⟩ := hV; go_simp; try with_reducible rfl)
         try simp only [Act.put, List.getElem_toArray, List.getElem_cons_zero, List.getElem_cons_succ, List.setIfInBounds_toArray, List.set_cons_zero, List.set_cons_succ])
      | (refine wpAnyH_take (i := 4) (v := undef) rfl (by kernel_rfl) (by kernel_rfl) (by kernel_rfl) (fun _ _ _ h => h) (Or.inr ⟨by rfl, rfl⟩) (by assumption) ?_
         try simp only [Act.put, List.getElem_toArray, List.getElem_cons_zero, List.getElem_cons_succ, List.setIfInBounds_toArray, List.set_cons_zero, List.set_cons_succ])
      | fail "take 4"
      first
      | (refine wpAnyH_take (i := 5) (v := ?_) rfl (by kernel_rfl) (by kernel_rfl) (by kernel_rfl) (fun _ _ _ h => h) (Or.inl ⟨by rfl, ?_⟩) (by assumption) ?_
         rotate_left
         · (intro V hV; obtain ⟨_, _⟩ := hV; go_simp; try with_reducible rfl)
         try simp only [Act.put, List.getElem_toArray, List.getElem_cons_zero, List.getElem_cons_succ, List.setIfInBounds_toArray, List.set_cons_zero, List.set_cons_succ])
      | (refine wpAnyH_take (i := 5) (v := undef) rfl (by kernel_rfl) (by kernel_rfl) (by kernel_rfl) (fun _ _ _ h => h) (Or.inr ⟨by rfl, rfl⟩) (by assumption) ?_
         try simp only [Act.put, List.getElem_toArray, List.getElem_cons_zero, List.getElem_cons_succ, List.setIfInBounds_toArray, List.set_cons_zero, List.set_cons_succ])
      | fail "take 5"
      refine wpAnyH_done (by kernel_rfl) ?_ _
      go_wp2_with fail
      go_ret
      exact ⟨ret_bool (by simp), HB7.out.trans (SS.1.mono HB7.out.size)⟩
end Go.Proofs.YtaeljknfbanbfaaGreatDoor
