/- The walk of the law LexJoins over the contracts of package lex: true, at every input. -/
import Derived.Test.YtfbahblhcmgbiaaDoorLxM
namespace Go.Proofs.YtfbahblhcmgbiaaDoor
open Go.RowKit

theorem fieldBad (i : Int) (w : World) : (Instr.field 30 (.agg #[.slice none 0 0, .int .i64 i]) 1).run Tryd.prog w = .ok (.int .i64 i) w := by kernel_rfl
theorem bytes_size (l : List UInt8) : (⟨l.toArray⟩ : ByteArray).size = l.length := by
  rw [Lib.size_eq]
theorem wide_full (ts : List Lx.Tok) (n : Nat) : wideT (full ts n) = Lx.wide ts + 1 := by
  unfold full
  induction ts with
  | nil => rfl
  | cons t r ih =>
    simp only [List.map_cons, List.cons_append, wideT, Lx.wide, ih]
    rw [show (tk t).s.size = t.text.length from bytes_size _]
    omega
theorem alike_len : ∀ {a b : List Lx.Tok}, Lx.alike a b → a.length = b.length
  | [], [], _ => rfl
  | _ :: _, _ :: _, ⟨_, h⟩ => by simp [alike_len h]
  | [], _ :: _, h => h.elim
  | _ :: _, [], h => h.elim
theorem alike_full {a b : List Lx.Tok} (n m : Nat) (h : Lx.alike a b) : alikeB (full a n) (full b m) = true := by
  unfold full
  induction a generalizing b with
  | nil =>
    cases b with
    | nil => simp [alikeB, sameT]
    | cons => exact h.elim
  | cons x a ih =>
    cases b with
    | nil => exact h.elim
    | cons y b =>
      obtain ⟨⟨h1, h2⟩, h3⟩ := h
      have := ih h3
      simp only [List.map_cons, List.cons_append, alikeB, this, Bool.and_true, sameT, tk, h1, h2, BEq.rfl]
theorem joinT_nonempty : ∀ (ts : List Lx.Tok) (s : List UInt8), (∀ t ∈ ts, t.right) → s ≠ [] → joinT s (ts.map tk) = s ++ (ts.flatMap fun t => 32 :: t.text)
  | [], s, _, _ => by simp [joinT]
  | t :: r, s, h, hs => by
    have hk : (tk t).k ≠ 3 := by
      rcases h t (by simp) with ⟨h1, _⟩ | ⟨h1, _⟩ <;> (show t.kind ≠ 3; omega)
    simp only [List.map_cons, joinT, if_neg hk, if_neg hs]
    rw [joinT_nonempty r _ (fun x hx => h x (by simp [hx])) (by simp)]
    simp [tk]
theorem joinL_flat : ∀ (r : List Lx.Tok) (t : Lx.Tok), Lx.joinL (t :: r) = t.text ++ (r.flatMap fun t => 32 :: t.text)
  | [], t => by simp [Lx.joinL]
  | u :: r, t => by
    rw [Lx.joinL, joinL_flat r u]
    simp
theorem joinT_end : ∀ (l : List Tk) (s : List UInt8) (n : Int), joinT s (l ++ [⟨3, ⟨#[]⟩, n⟩]) = joinT s l := fun l s n => by
  rw [joinT_snoc, if_pos rfl]
theorem joinT_full (ts : List Lx.Tok) (n : Nat) (h : ∀ t ∈ ts, t.right) : joinT [] (full ts n) = Lx.joinL ts := by
  unfold full
  rw [joinT_end]
  cases ts with
  | nil => rfl
  | cons t r =>
    have hk : (tk t).k ≠ 3 := by
      rcases h t (by simp) with ⟨h1, _⟩ | ⟨h1, _⟩ <;> (show t.kind ≠ 3; omega)
    have hne : t.text ≠ [] := by
      rcases h t (by simp) with ⟨_, c, q, h2, _⟩ | ⟨_, c, h2, _⟩ <;> simp [h2]
    simp only [List.map_cons, joinT, if_neg hk, if_true]
    rw [show (tk t).s.data.toList = t.text by simp [tk], joinT_nonempty r _ (fun x hx => h x (by simp [hx])) hne, joinL_flat]

theorem full_texts (ts : List Lx.Tok) (n : Nat) (h : ∀ t ∈ ts, t.right) : ∀ t ∈ full ts n, t.k = 3 ∨ t.s.data.toList ≠ [] := by
  intro t ht
  simp only [full, List.mem_append, List.mem_map, List.mem_singleton] at ht
  rcases ht with ⟨x, hx, rfl⟩ | rfl
  · refine .inr ?_
    rcases h x hx with ⟨_, c, q, h2, _⟩ | ⟨_, c, h2, _⟩ <;> simp [tk, h2]
  · exact .inl rfl

set_option maxHeartbeats 4000000 in
set_option maxRecDepth 100000 in
theorem joins_any (L : LexOk) (s : ByteArray) (_hs : s.size ≤ 9223372036854775807) (w : World) (hE : ErrVar w) :
    Calls Tryd.prog 4 #[.string s] w fun e w' => e = .returned (.bool true) ∧ Below w.heap.size w w' := by
  by_cases hl : 3000 < s.size
  · have z : (3000 : Int) < s.size := by omega
    go_enter Tryd.func4, Tryd.ntmps4
    go_wp2_with fail
    refine (awake_any L _ hE).mono ?_
    rintro e w1 ⟨rfl, hb1⟩
    have hE1 := hE.later hb1
    go_wp2_with fail
    refine (awake_any L _ hE1).mono ?_
    rintro e w2 ⟨rfl, hb2⟩
    have hB2 := hb1.trans (hb2.mono hb1.size)
    go_wp2_with fail
    go_ret
    exact ⟨rfl, hB2⟩
  · have z : (s.size : Int) ≤ 3000 := by omega
    have C1 := Lib.hid (fun w => L.tokens s w (by omega))
    have C2 := Lib.hid (fun w => ref_tokens_any s (by omega) w)
    obtain ⟨r, hr⟩ : ∃ r, left s 0 = r := ⟨_, rfl⟩
    have HR := Lib.hid hr
    cases r with
    | bad i =>
      clear hr
      have zi : (0 : Int) ≤ i := by omega
      have hf := fieldBad
      go_enter Tryd.func4, Tryd.ntmps4
      go_wp2_with fail
      refine (awake_any L _ hE).mono ?_
      rintro e w1 ⟨rfl, hb1⟩
      go_wp2_with fail
      refine (C1.out _).mono ?_
      rintro e w2 ⟨hb2, he⟩
      rw [HR.out] at he
      obtain rfl := he
      have hB2 := hb1.trans (hb2.mono hb1.size)
      unfold faultV
      clear hb1 hb2
      go_wp2_with fail
      refine (C2.out _).mono ?_
      rintro e w3 ⟨hb3, he⟩
      rw [HR.out] at he
      obtain rfl := he
      have hB3 := hB2.trans (hb3.mono hB2.size)
      clear hb3 hB2
      go_wp2_with fail
      go_ret
      exact ⟨rfl, hB3⟩
    | ok ts =>
      have hlx : Lx.lex s.data.toList 0 = .ok ts := by rw [← left_of]; exact hr
      obtain ⟨hright, hwide⟩ := Lx.lex_right hlx
      rw [← Lib.size_eq] at hwide
      have hcount := wide_len ts
      obtain ⟨us, hus, hal⟩ := Lx.lex_join ts 0 hright
      have hjl := Lx.joinL_wide ts
      obtain ⟨J, hJ⟩ : ∃ J : ByteArray, J = ⟨(Lx.joinL ts).toArray⟩ := ⟨_, rfl⟩
      have hJs : J.size ≤ 65536 := by rw [hJ, bytes_size]; omega
      have hJl : left J 0 = .ok us := by rw [left_of, hJ]; simpa using hus
      have hul := alike_len hal
      have K1 := Lib.hid (alike_full s.size J.size (Lx.alike_symm hal))
      have K2 := Lib.hid (alike_full J.size s.size hal)
      have hjt : (⟨(joinT [] (full ts s.size)).toArray⟩ : ByteArray) = J := by rw [joinT_full ts s.size hright, hJ]
      have hwt : wideT (full ts s.size) ≤ 1000000 := by rw [wide_full]; omega
      have hn : ts.length ≤ 10000 := by omega
      have hne := full_texts ts s.size hright
      have CJ := Lib.hid (fun (A : Option Addr) (c : Nat) (w : World) (h : TS w A (ts.length + 1) (full ts s.size)) => (L.join A (ts.length + 1) c _ w (by omega) hwt hne h))
      have CK := Lib.hid (fun (A : Option Addr) (c : Nat) (w : World) (h : TS w A (ts.length + 1) (full ts s.size)) => (ref_join_any A (ts.length + 1) c _ w (by omega) hwt h))
      rw [hjt] at CJ CK
      have CM := Lib.hid (fun w => L.tokens J w hJs)
      have HM := Lib.hid hJl
      have HU := Lib.hid hul
      clear hr hlx hright hwide hcount hus hal hjl hJ hJl hul hjt hwt hne
      go_enter Tryd.func4, Tryd.ntmps4
      go_wp2_with fail
      refine (awake_any L _ hE).mono ?_
      rintro e w1 ⟨rfl, hb1⟩
      go_wp2_with fail
      refine (C1.out _).mono ?_
      rintro e w2 ⟨hb2, he⟩
      rw [HR.out] at he
      obtain ⟨A, c, rfl, ht⟩ := he
      have HT := Lib.hid ht
      have hB2 := hb1.trans (hb2.mono hb1.size)
      clear hb1 hb2 ht
      go_wp2_with fail
      refine (C2.out _).mono ?_
      rintro e w3 ⟨hb3, he⟩
      rw [HR.out] at he
      obtain ⟨A2, c2, rfl, ht2⟩ := he
      have hB3 := hB2.trans (hb3.mono hB2.size)
      have hbX : Below w3.heap.size w3 (w3.alloc (.cells #[.slice A2 (ts.length + 1) c2, .int .i64 (-1)] 30)) := (Below.refl _ _).alloc (Nat.le_refl _) _
      have x0 : (w3.alloc (.cells #[.slice A2 (ts.length + 1) c2, .int .i64 (-1)] 30)).cell? ⟨w3.heap.size, 0, none⟩ = some (.slice A2 (ts.length + 1) c2) := by rw [World.cell?_alloc_at _ _ _ _ rfl]; rfl
      have HT3 := Lib.hid ((HT.out.later hb3).later hbX)
      have HR3 := Lib.hid (ht2.later hbX)
      have HX3 := Lib.hid x0
      have HB3 := Lib.hid (hB3.trans (hbX.mono hB3.size))
      clear hb3 hB2 hB3 hbX x0 ht2
      go_wp2_with fail
      refine (CJ.out A c _ HT3.out).mono ?_
      rintro e w4 ⟨rfl, hb4⟩
      have HT4 := Lib.hid (HT3.out.later hb4)
      have HR4 := Lib.hid (HR3.out.later hb4)
      have HX4 := Lib.hid ((hb4.cell (cell_lt HX3.out)).trans HX3.out)
      have HB4 := Lib.hid (HB3.out.trans (hb4.mono HB3.out.size))
      clear hb4
      go_wp2_with fail
      refine (CM.out _).mono ?_
      rintro e X ⟨hb5, he⟩
      rw [HM.out] at he
      obtain ⟨A5, c5, rfl, ht5⟩ := he
      rw [HU.out] at ht5 ⊢
      have HM5 := Lib.hid ht5
      have HT5 := Lib.hid (HT4.out.later hb5)
      have HR5 := Lib.hid (HR4.out.later hb5)
      have x0 := (hb5.cell (cell_lt HX4.out)).trans HX4.out
      have HB5 := Lib.hid (HB4.out.trans (hb5.mono HB4.out.size))
      clear hb5 ht5
      have hlt := cell_lt x0
      have D1 := Lib.hid (fun (V : World) (hV : Below X.heap.size X V) => (CK.out A2 c2 V (HR5.out.later hV)).mono fun e w' (h : _ ∧ _) => (⟨h.1, by rw [← h.2]; exact hV⟩ : _ ∧ Below X.heap.size X w'))
      have D2 := Lib.hid (fun (V : World) (hV : Below X.heap.size X V) => (L.same A A5 (ts.length + 1) (ts.length + 1) c c5 (full ts s.size) (full us J.size) V (by omega) (by omega) (HT5.out.later hV) (HM5.out.later hV)).mono fun e w' (h : _ ∧ _) => (⟨by rw [h.1, K1.out], hV.trans (h.2.mono hV.size)⟩ : e = .returned (.bool true) ∧ Below X.heap.size X w'))
      have D3 := Lib.hid (fun (V : World) (hV : Below X.heap.size X V) => (plain_any A5 (ts.length + 1) c5 (full us J.size) V (by omega) (HM5.out.later hV)).mono fun e w' (h : ∃ A' c', _ ∧ _ ∧ _) => (h.elim fun A' h => h.elim fun c' h => ⟨A', c', h.1, h.2.1, hV.trans (h.2.2.mono hV.size)⟩ : ∃ A' c', e = .returned (.slice A' (ts.length + 1) c') ∧ TS w' A' (ts.length + 1) (full us J.size) ∧ Below X.heap.size X w'))
      have D4 := Lib.hid (fun (A' : Option Addr) (c' : Nat) (V : World) (hV : Below X.heap.size X V) (hT : TS V A' (ts.length + 1) (full us J.size)) => (alike_any A' A2 (ts.length + 1) (ts.length + 1) c' c2 (full us J.size) (full ts s.size) V (by omega) (by omega) hT (HR5.out.later hV)).mono fun e w' (h : _ ∧ _) => (⟨by rw [h.1, K2.out], hV.trans (h.2.mono hV.size)⟩ : e = .returned (.bool true) ∧ Below X.heap.size X w'))
      have SS : Below X.heap.size X X ∧ X.cell? ⟨w3.heap.size, 0, none⟩ = some (.slice A2 (ts.length + 1) c2) := ⟨Below.refl _ _, x0⟩
      go_wp2_with fail
      go_region_held3 (fun W => Below X.heap.size X W ∧ W.cell? ⟨w3.heap.size, 0, none⟩ = some (.slice A2 (ts.length + 1) c2))
        (first | exact SS | exact ⟨SS.1.drew, SS.2⟩)
        (first
          | (go_at_call 15; refine (D1.out _ ?_).mono ?_; (first | exact SS.1 | exact SS.1.drew); rintro e w6 ⟨rfl, hb6⟩; have SS : Below X.heap.size X w6 ∧ w6.cell? ⟨w3.heap.size, 0, none⟩ = some (.slice A2 (ts.length + 1) c2) := ⟨hb6, (hb6.cell hlt).trans x0⟩)
          | (go_at_call 16; refine (D2.out _ ?_).mono ?_; (first | exact SS.1 | exact SS.1.drew); rintro e w6 ⟨rfl, hb6⟩; have SS : Below X.heap.size X w6 ∧ w6.cell? ⟨w3.heap.size, 0, none⟩ = some (.slice A2 (ts.length + 1) c2) := ⟨hb6, (hb6.cell hlt).trans x0⟩)
          | (go_at_call 13; refine (D3.out _ ?_).mono ?_; (first | exact SS.1 | exact SS.1.drew); rintro e w6 ⟨A', c', rfl, hT, hb6⟩; have HP := Lib.hid hT; clear hT; have SS : Below X.heap.size X w6 ∧ w6.cell? ⟨w3.heap.size, 0, none⟩ = some (.slice A2 (ts.length + 1) c2) := ⟨hb6, (hb6.cell hlt).trans x0⟩)
          | (go_at_call 17; refine (D4.out A' c' _ ?_ HP.out).mono ?_; (first | exact SS.1 | exact SS.1.drew); rintro e w6 ⟨rfl, hb6⟩; have SS : Below X.heap.size X w6 ∧ w6.cell? ⟨w3.heap.size, 0, none⟩ = some (.slice A2 (ts.length + 1) c2) := ⟨hb6, (hb6.cell hlt).trans x0⟩))
      go_wp2
      go_ret
      exact ⟨rfl, HB5.out.trans (Below.mono SS.1 HB5.out.size)⟩
end Go.Proofs.YtfbahblhcmgbiaaDoor
