/- The texts of small types and expressions are short, and are read as themselves. No program, no condition. -/
import Derived.Test.YtbeejmlmplgaeaaDoorRbQ
import Derived.Test.YtbeejmlmplgaeaaDoorRdW
namespace Go.Proofs.YtbeejmlmplgaeaaDoor.Rd

/-! ### sizes -/
theorem targ_len : ∀ ts : List Ty, (∀ t ∈ ts, t.text.length + 2 ≤ 54 * Ty.wt t ∧ (tyW t).length + 1 ≤ 3 * Ty.wt t) → (Ty.textL ts).length ≤ 54 * Ty.wtL ts ∧ (tyWL ts).length ≤ 3 * Ty.wtL ts + 1
  | [], _ => by simp [Ty.textL, tyWL, Ty.wtL]
  | a :: r, h => by
    have h1 := h a (by simp)
    have h2 := targ_len r fun t ht => h t (by simp [ht])
    rw [Ty.textL, tyWL, Ty.wtL]
    simp only [List.length_append, List.length_cons, List.length_nil]
    omega
theorem targs_len {ts : List Ty} (h : ∀ t ∈ ts, t.text.length + 2 ≤ 54 * Ty.wt t ∧ (tyW t).length + 1 ≤ 3 * Ty.wt t) : (Ex.targText ts).length ≤ 54 * Ty.wtL ts ∧ (targW ts).length ≤ 3 * Ty.wtL ts + 1 := by
  cases ts with
  | nil => exact ⟨by show ([] : List UInt8).length ≤ _; simp, by simp [targW]⟩
  | cons a r =>
    have h1 := h a (by simp)
    have h2 := targ_len r fun t ht => h t (by simp [ht])
    rw [Ex.targText, Ty.text, targW, Ty.wtL]
    simp only [List.length_append, List.length_cons, List.length_nil]
    have : (⟨#[]⟩ : ByteArray).data.toList.length = 0 := rfl
    omega
theorem tytext_len : ∀ t : Ty, t.text.length + 2 ≤ 54 * Ty.wt t ∧ (tyW t).length + 1 ≤ 3 * Ty.wt t := by
  refine Ty.ind fun s xs o ih => ?_
  have h := targs_len ih
  have hs : s.data.toList.length = s.size := (Lib.size_eq s).symm
  rw [text_mk, tyW_mk, Ty.wt]
  simp only [List.length_append, List.length_cons, hs]
  omega
theorem textM_len : ∀ xs : List Ex, (∀ x ∈ xs, x.text.length + 2 ≤ 56 * x.wt ∧ (exW x).length + 1 ≤ 8 * x.wt) → (Ex.textM xs).length ≤ 56 * Ex.wtL xs ∧ (exWM xs).length ≤ 8 * Ex.wtL xs
  | [], _ => by simp [Ex.textM, exWM]
  | a :: r, h => by
    have h1 := h a (by simp)
    have h2 := textM_len r fun t ht => h t (by simp [ht])
    rw [Ex.textM, exWM, Ex.wtL]
    simp only [List.length_append, List.length_cons, List.length_nil]
    omega
theorem textC_len {xs : List Ex} (h : ∀ x ∈ xs, x.text.length + 2 ≤ 56 * x.wt ∧ (exW x).length + 1 ≤ 8 * x.wt) : (Ex.textC xs).length ≤ 56 * Ex.wtL xs ∧ (exWC xs).length ≤ 8 * Ex.wtL xs := by
  cases xs with
  | nil => simp [Ex.textC, exWC]
  | cons a r =>
    have h1 := h a (by simp)
    have h2 := textM_len r fun t ht => h t (by simp [ht])
    rw [Ex.textC, exWC, Ex.wtL]
    simp only [List.length_append]
    omega
theorem extext_len : ∀ e : Ex, e.right = true → e.text.length + 2 ≤ 56 * e.wt ∧ (exW e).length + 1 ≤ 8 * e.wt := by
  refine Ex.ind fun k s t ts xs o ih h => ?_
  rw [Ex.right, Bool.and_eq_true, Ex.rightL_all] at h
  have hk : ∀ x ∈ xs, x.text.length + 2 ≤ 56 * x.wt ∧ (exW x).length + 1 ≤ 8 * x.wt := fun x hx => ih x hx (List.all_eq_true.1 h.1 x hx)
  have hs : s.data.toList.length = s.size := (Lib.size_eq s).symm
  have ht := tytext_len t
  have hw : 1 ≤ Ty.wt t := by cases t; rw [Ty.wt]; omega
  have hts := targs_len (ts := ts) fun u _ => tytext_len u
  rcases fit_cases h.2 with ⟨rfl, hn, rfl, -⟩ | ⟨rfl, hn, -⟩ | ⟨rfl, rfl, -⟩ | ⟨rfl, hn, rfl, -⟩ | ⟨rfl, hn, rfl, h0, -⟩
  · obtain rfl := List.eq_nil_of_length_eq_zero hn
    rw [Ex.text, exW, if_pos rfl, if_pos rfl, Ex.wt, hs]
    simp only [List.length_cons, List.length_nil, Ex.wtL, Ty.wtL]
    omega
  · cases xs with
    | nil => exact absurd hn (by decide)
    | cons a r =>
      have h1 := hk a (by simp)
      have h2 := textC_len fun x hx => hk x (List.mem_cons_of_mem a hx)
      rw [Ex.text, exW, if_neg (by decide), if_neg (by decide), if_neg (by decide), if_neg (by decide), if_neg (by decide), if_neg (by decide), if_neg (by decide), Ex.tailA, if_neg (by decide), if_neg (by decide), Ex.wt, Ex.wtL]
      simp only [List.length_append, List.length_cons, List.length_nil, hs]
      omega
  · cases xs with
    | nil =>
      rw [Ex.text, exW, if_neg (by decide), if_neg (by decide), Ex.wt]
      simp only [List.length_append, List.length_cons, List.length_nil, Ex.wtL, Ty.wtL]
      omega
    | cons a r =>
      have h1 := hk a (by simp)
      have h2 := textM_len r fun x hx => hk x (List.mem_cons_of_mem a hx)
      rw [Ex.text, exW, if_neg (by decide), if_pos rfl, if_neg (by decide), if_pos rfl, Ex.wt, Ex.wtL]
      simp only [List.length_append, List.length_cons, List.length_nil, Ty.wtL]
      omega
  · cases xs with
    | nil => cases hn
    | cons a r =>
      obtain rfl : r = [] := List.eq_nil_of_length_eq_zero (by simpa using hn)
      have h1 := hk a (by simp)
      rw [Ex.text, exW, if_neg (by decide), if_neg (by decide), if_pos (.inr rfl), if_neg (by decide), if_neg (by decide), if_neg (by decide), if_pos rfl, Ex.tailA, if_neg (by decide), if_pos rfl, Ex.wt, Ex.wtL, Ex.wtL]
      simp only [List.length_append, List.length_cons, List.length_nil, hs, Ty.wtL]
      omega
  · cases xs with
    | nil => cases hn
    | cons a r =>
      obtain rfl : r = [] := List.eq_nil_of_length_eq_zero (by simpa using hn)
      have h1 := hk a (by simp)
      rw [Ex.text, exW, if_neg (by decide), if_neg (by decide), if_pos (.inl rfl), if_neg (by decide), if_neg (by decide), if_pos rfl, Ex.tailA, if_pos rfl, Ex.wt, Ex.wtL, Ex.wtL, h0]
      simp only [List.length_append, List.length_cons, List.length_nil, Ty.wtL]
      omega

/-! ### whole texts -/
theorem tx_map {ts : List Lx.Tok} {ws : List (List UInt8)} (h : ts.map Lx.Tok.text = ws) (hr : ∀ t ∈ ts, t.right) : Tx (ts.map tk) ws := by
  refine ⟨?_, fun t ht => ?_⟩
  · rw [← h, List.map_map]
    exact List.map_congr_left fun t _ => by simp [tk]
  · obtain ⟨u, hu, rfl⟩ := List.mem_map.1 ht
    rcases hr u hu with ⟨h1, -⟩ | ⟨h1, -⟩ <;> (show u.kind ≠ 3; rw [h1]; decide)
theorem lexes_left {c : Bool} {s : ByteArray} {ws : List (List UInt8)} (h : Lexes c s.data.toList ws) : ∃ ts, left s 0 = .ok ts ∧ Tx (ts.map tk) ws ∧ ts.length = ws.length := by
  obtain ⟨ts, e, h1, h2⟩ := h [] 0 (fun _ c hc => by cases hc)
  refine ⟨ts, ?_, tx_map h1 h2, by rw [← h1, List.length_map]⟩
  unfold left
  rw [List.drop_zero, ← List.append_nil s.data.toList, e, Lx.lex_nil]
  simp [Lx.Res.app]
theorem tyO_back {t : Ty} {s : ByteArray} (hr : t.right = true) (hs : s.data.toList = t.text) : ∃ u, tyO s = .good u ∧ Ty.cmp u t = 0 := by
  obtain ⟨ts, e, h1, -⟩ := lexes_left (s := s) (by rw [hs]; exact ty_lexes t hr)
  obtain ⟨u, h2, h3⟩ := ty_back t hr (2 * (full ts s.size).length + 2) (ts.map tk) [⟨3, ⟨#[]⟩, s.size⟩] h1 rfl (by simp only [full, List.length_append, List.length_map]; omega)
  refine ⟨u, ?_, h3⟩
  unfold tyO wholeO
  rw [e]
  show endO (tyF (2 * (full ts s.size).length + 2) (full ts s.size)) = _
  rw [show full ts s.size = ts.map tk ++ [⟨3, ⟨#[]⟩, s.size⟩] from rfl] at h2 ⊢
  rw [h2]
  rfl
theorem exO_of {e : Ex} {s : ByteArray} {ts : List Lx.Tok} (hr : e.right = true) (hl : left s 0 = .ok ts) (h1 : Tx (ts.map tk) (exW e)) : ∃ u, exO s = .good u ∧ u.same e = true := by
  obtain ⟨u, h2, h3⟩ := (ex_back e hr).ends (n := 2 * (full ts s.size).length + 2) (ts := ts.map tk) (q := [⟨3, ⟨#[]⟩, s.size⟩]) h1 ⟨rfl, rfl, rfl⟩ rfl (by simp only [full, List.length_append, List.length_map]; omega)
  refine ⟨u, ?_, h3⟩
  unfold exO wholeO
  rw [hl]
  show endO (exF (2 * (full ts s.size).length + 2) (full ts s.size)) = _
  rw [show full ts s.size = ts.map tk ++ [⟨3, ⟨#[]⟩, s.size⟩] from rfl] at h2 ⊢
  rw [h2]
  rfl
theorem exO_back {e : Ex} {s : ByteArray} (hr : e.right = true) (hs : s.data.toList = e.text) : ∃ u, exO s = .good u ∧ u.same e = true := by
  obtain ⟨ts, h, h1, -⟩ := lexes_left (s := s) (by rw [hs]; exact ex_lexes e hr)
  exact exO_of hr h h1
end Go.Proofs.YtbeejmlmplgaeaaDoor.Rd
