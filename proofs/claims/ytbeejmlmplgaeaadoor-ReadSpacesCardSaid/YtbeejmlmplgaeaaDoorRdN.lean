/- The walks of slices.Clone at tokens and of read.New. The condition: tokens of a text. -/
import Derived.Test.YtbeejmlmplgaeaaDoorRdD
import Derived.Deep.DeepCutAuto
namespace Go.Proofs.YtbeejmlmplgaeaaDoor.Rd
open Go.RowKit

theorem cells_of (w : World) : ∀ (ts : List Tk) (a : Addr), (∀ j t, ts[j]? = some t → CellsAt w (a.add (j * 3)) (cells3 t)) → CellsAt w a (ts.flatMap cells3)
  | [], a, h => fun j u hu => by simp at hu
  | t :: r, a, h => fun j u hu => by
    rw [List.flatMap_cons] at hu
    have hl : (cells3 t).length = 3 := rfl
    by_cases hj : j < 3
    · rw [List.getElem?_append_left (by omega)] at hu
      have := h 0 t rfl j u hu
      rwa [Nat.zero_mul, add_add, Nat.zero_add] at this
    · rw [List.getElem?_append_right (by omega), hl] at hu
      have h2 := cells_of w r (a.add 3) (fun i x hx => by
        have := h (i + 1) x (by simpa using hx)
        rwa [add_add, show 3 + i * 3 = (i + 1) * 3 by omega]) (j - 3) u hu
      rwa [add_add, show 3 + (j - 3) = j by omega] at h2
theorem ts_cells {w : World} {a : Addr} {n : Nat} {ts : List Tk} (h : TS w (some a) n ts) : CellsAt w a (ts.flatMap cells3) := by
  refine cells_of w ts a fun j t hj => ?_
  obtain ⟨b, e, h1, h2, h3, h4⟩ := h.at_ j t hj
  injection e with e
  subst e
  have hs : ∀ i, ∃ p : Addr, p = (a.add (j * 3)).add i := fun i => ⟨_, rfl⟩
  intro i u hu
  match i, hu with
  | 0, hu => simp only [cells3, List.getElem?_cons_zero, Option.some.injEq] at hu; subst hu; simpa [Addr.add] using h2
  | 1, hu => simp only [cells3, List.getElem?_cons_succ, List.getElem?_cons_zero, Option.some.injEq] at hu; subst hu; simpa [Addr.add] using h3
  | 2, hu => simp only [cells3, List.getElem?_cons_succ, List.getElem?_cons_zero, Option.some.injEq] at hu; subst hu; simpa [Addr.add] using h4
  | i + 3, hu => simp [cells3] at hu
theorem cells3_len : ∀ ts : List Tk, (ts.flatMap cells3).length = ts.length * 3
  | [] => rfl
  | t :: r => by rw [List.flatMap_cons, List.length_append, cells3_len r, List.length_cons, Nat.add_mul]; show 3 + _ = _; omega
theorem cells3_one {ts : List Tk} : ∀ u ∈ ts.flatMap cells3, u.oneCell' = true := by
  intro u hu
  rw [List.mem_flatMap] at hu
  obtain ⟨t, _, hu⟩ := hu
  simp only [cells3, List.mem_cons, List.not_mem_nil, or_false] at hu
  rcases hu with rfl | rfl | rfl <;> rfl
theorem infoTk : (Tryd.prog.info? 76).map (fun i => (i.zero, i.size, i.bytes)) = some (some (.agg #[.int .i64 0, .string ⟨#[]⟩, .int .i64 0]), 3, 32) := by kernel_rfl
def ClonePost (w : World) (l : List Tk) (e : Ending) (w' : World) : Prop := ∃ A cap, e = .returned (.slice A l.length cap) ∧ l.length ≤ cap ∧ TS w' A l.length l ∧ Below w.heap.size w w'
set_option maxRecDepth 100000 in
set_option maxHeartbeats 1000000 in
theorem cloneTk_any (A : Option Addr) (n cap : Nat) (l : List Tk) (w : World) (hl : l ≠ []) (hn : n ≤ 100000) (h : TS w A n l) : Calls Tryd.prog 37 #[.slice A n cap] w (ClonePost w l) := by
  obtain rfl := h.len
  cases l with
  | nil => exact absurd rfl hl
  | cons t r =>
    obtain ⟨a, rfl, -⟩ := h.at_ 0 t rfl
    have HC := Lib.hid (ts_cells h)
    obtain ⟨q, hq⟩ : ∃ q, q = (t :: r).length := ⟨_, rfl⟩
    rw [← hq] at hn ⊢
    have HQ := Lib.hid hq
    clear h hl hq
    obtain ⟨i0, hi0, hz0, hz1, hz2⟩ := info_parts infoTk
    have en := fun w => Lib.run_eql_slice_nil (P := Tryd.prog) w 49 76 (some a) q cap 0 0 Tryd.underlying49
    have hq1 : 1 ≤ q := by rw [HQ.out]; simp
    have hsn : (Option.isNone (some a)) = false := rfl
    have HOWN := Lib.hid (World.ownsRow_lit (base := w.heap.size) (e := 76) (size := 3) w #[] 0 (Nat.le_refl _) (Nat.zero_le _) rfl)
    have HC1 := Lib.hid (show ∀ j u, ((t :: r).flatMap cells3)[j]? = some u → (w.alloc (.cells #[] 76)).cell? (a.add j) = some u from fun j u hu => by
      have h1 := HC.out j u hu
      exact (((Below.refl w.heap.size w).alloc (Nat.le_refl _) _).cell (cell_lt h1)).trans h1)
    have HL := Lib.hid (show ((t :: r).flatMap cells3).length = q * 3 by rw [cells3_len, ← HQ.out])
    go_enter Tryd.func37, Tryd.ntmps37
    go_wp2_with (at_builtin; refine wpList_append_lies _ rfl _ _ 49 rfl w.heap.size 76 i0 _ 3 32 Tryd.underlying49 hi0 hz0 hz1 hz2 rfl (by omega) _ 0 _ rfl HOWN.out a q cap ((t :: r).flatMap cells3) rfl HL.out HC1.out cells3_one (by omega) (by unfold maxLen; omega) (by omega) (by simp) _ rfl ?_; intro g cap2 w2 hown2 hgrow2 hat2 hlt2; have HO := Lib.hid (And.intro hown2 hgrow2); clear hown2 hgrow2 hat2 hlt2)
    go_ret
    have hown : w2.ownsRow w.heap.size 76 3 (.slice (some ⟨g, 0, none⟩) q cap2) q ((t :: r).flatMap cells3) := by
      have := HO.out.1
      rwa [Nat.zero_add] at this
    obtain ⟨A2, c2, e2, ht⟩ := ts_of_own HQ.out.symm hown
    simp only [Value.slice.injEq] at e2
    obtain ⟨rfl, -, rfl⟩ := e2
    refine ⟨some ⟨g, 0, none⟩, cap2, by rw [← HQ.out]; rfl, ?_, by rw [← HQ.out]; exact ht, ?_⟩
    · rw [← HQ.out]
      rcases hown.2 with ⟨h1, _⟩ | ⟨g2, cp, cur, h1, _, _, h2, _⟩
      · cases h1
      · simp only [Value.slice.injEq] at h1
        omega
    · exact Below.grown ((Below.refl _ _).alloc (Nat.le_refl _) _) HO.out.2 (by simp) fun k hk => by
        have hk2 : some w.heap.size = some k := hk
        injection hk2 with hk2
        omega
def NewPost (w : World) (l : List Tk) (e : Ending) (w' : World) : Prop := ∃ c, e = .returned (.pointer (some ⟨c, 0, none⟩)) ∧ w.heap.size ≤ c ∧ Cur w' c l false ∧ Below w.heap.size w w'
set_option maxRecDepth 100000 in
set_option maxHeartbeats 1000000 in
theorem new_cursor (A : Option Addr) (n cap : Nat) (l : List Tk) (w : World) (hT : Tidy l) (hl : l.length ≤ 100000) (hs : ∀ t ∈ l, t.s.size ≤ 100000) (hE : ResVar w) (h : TS w A n l) : Calls Tryd.prog 18 #[.slice A n cap] w (NewPost w l) := by
  have HT := Lib.hid hT
  have HL := Lib.hid hl
  have HS := Lib.hid hs
  have HE := Lib.hid hE
  have hn := h.len
  have C := Lib.hid (cloneTk_any A n cap l w hT.ne (by omega) h)
  clear hT hl hs hE hn h
  go_enter Tryd.func18, Tryd.ntmps18
  go_wp2_with fail
  refine C.out.mono ?_
  rintro e w1 ⟨B, c2, rfl, hc, ht, hb⟩
  have HCP := Lib.hid hc
  have H1 := Lib.hid ht
  have B1 := Lib.hid hb
  clear hc ht hb
  go_wp2_with fail
  go_ret
  refine ⟨w1.heap.size, rfl, B1.out.size, ⟨HT.out, ⟨B, c2, ?_, HCP.out, H1.out.later ((Below.refl _ _).alloc (Nat.le_refl _) _), ?_⟩, ?_, ?_, HL.out, HS.out, ?_, ?_⟩, B1.out.alloc B1.out.size _⟩
  · rw [World.cell?_alloc_at _ _ _ _ rfl]; rfl
  · rintro a rfl
    obtain ⟨t, r, e⟩ : ∃ t r, l = t :: r := by
      cases l with
      | nil => exact absurd rfl HT.out.ne
      | cons t r => exact ⟨t, r, rfl⟩
    obtain ⟨b, e2, h2, -⟩ := H1.out.at_ 0 t (by rw [e]; rfl)
    injection e2 with e2
    subst e2
    exact h2
  · rw [World.cell?_alloc_at _ _ _ _ rfl]; rfl
  · exact ⟨frozen_of_row (heap_alloc_new _ _) _, frozen_of_row (heap_alloc_new _ _) _⟩
  · exact HE.out.later (B1.out.alloc B1.out.size _)
  · exact Nat.lt_of_lt_of_le (var_lt gRes HE.out) B1.out.size
end Go.Proofs.YtbeejmlmplgaeaaDoor.Rd
