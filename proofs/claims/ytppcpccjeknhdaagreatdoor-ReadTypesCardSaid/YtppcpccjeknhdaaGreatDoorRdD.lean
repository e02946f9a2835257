/- The walks of the small methods of read.Cursor: whether it has an error, whether a text is next, reading it, a name, the end. The condition: the cursor stands in tokens of a text. -/
import Derived.Test.YtppcpccjeknhdaaGreatDoorRdC
namespace Go.Proofs.YtppcpccjeknhdaaGreatDoor.Rd
open Go.RowKit

set_option maxRecDepth 100000 in
set_option maxHeartbeats 1000000 in
theorem failed_any (c : Nat) (l : List Tk) (b : Bool) (w : World) (h : Cur w c l b) : Calls Tryz.prog 137 #[.pointer (some ⟨c, 0, none⟩)] w fun e w' => e = .returned (.bool b) ∧ w = w' := by
  have x1 := h.err
  clear h
  cases b
  · rw [errV, if_neg (by decide)] at x1
    go_enter Tryz.func137, Tryz.ntmps137
    go_wp2_with fail
    go_ret
    exact ⟨rfl, rfl⟩
  · rw [errV, if_pos rfl, faultV] at x1
    go_enter Tryz.func137, Tryz.ntmps137
    go_wp2_with fail
    go_ret
    exact ⟨rfl, rfl⟩
/-- What Next gives. -/
def nextB (b : Bool) (s : List UInt8) (l : List Tk) : Bool := !b && isT s l
set_option maxRecDepth 100000 in
set_option maxHeartbeats 1000000 in
theorem next_any (c : Nat) (l : List Tk) (b : Bool) (s : ByteArray) (w : World) (h : Cur w c l b) : Calls Tryz.prog 58 #[.pointer (some ⟨c, 0, none⟩), .string s] w fun e w' => e = .returned (.bool (nextB b s.data.toList l)) ∧ Below w.heap.size w w' := by
  have H := Lib.hid h
  obtain ⟨t, r, a, n, cap, rfl, -⟩ := h.head
  clear h
  obtain ⟨q, hq⟩ : ∃ q : Bool, (t.s.data.toList == s.data.toList) = q := ⟨_, rfl⟩
  have e0 : (t.s.toList == s.toList) = q := by rw [← hq, Lib.toList_data, Lib.toList_data]
  have e1 : nextB b s.data.toList (t :: r) = (!b && (!(t.k == 3) && q)) := by rw [← hq]; rfl
  have E := Lib.hid e1
  clear e1 hq
  cases hk : (t.k == 3)
  · have hk2 : (t.k != 3) = true := by rw [bne, hk]; rfl
    cases b <;>
    ( go_enter Tryz.func58, Tryz.ntmps58
      go_wp2_with fail
      refine (peek_any c _ _ w H.out).mono ?_
      rintro e w1 ⟨rfl, hb⟩
      have B1 := Lib.hid (hb.alloc hb.size (.cells #[.int .i64 t.k, .string t.s, .int .i64 t.o] 180))
      have H1 := Lib.hid ((H.out.later hb).later ((Below.refl _ _).alloc (Nat.le_refl _) (.cells #[.int .i64 t.k, .string t.s, .int .i64 t.o] 180)))
      clear hb
      go_wp2_with fail
      refine (failed_any c _ _ _ H1.out).mono ?_
      rintro e w2 ⟨rfl, rfl⟩
      go_wp2_with fail
      go_ret
      exact ⟨by rw [E.out, hk]; cases q <;> rfl, B1.out⟩ )
  · have hk2 : (t.k != 3) = false := by rw [bne, hk]; rfl
    cases b <;>
    ( go_enter Tryz.func58, Tryz.ntmps58
      go_wp2_with fail
      refine (peek_any c _ _ w H.out).mono ?_
      rintro e w1 ⟨rfl, hb⟩
      have B1 := Lib.hid (hb.alloc hb.size (.cells #[.int .i64 t.k, .string t.s, .int .i64 t.o] 180))
      have H1 := Lib.hid ((H.out.later hb).later ((Below.refl _ _).alloc (Nat.le_refl _) (.cells #[.int .i64 t.k, .string t.s, .int .i64 t.o] 180)))
      clear hb
      go_wp2_with fail
      refine (failed_any c _ _ _ H1.out).mono ?_
      rintro e w2 ⟨rfl, rfl⟩
      go_wp2_with fail
      go_ret
      exact ⟨by rw [E.out, hk]; cases q <;> rfl, B1.out⟩ )

theorem nextB_cons {b : Bool} {s : List UInt8} {l : List Tk} (h : nextB b s l = true) : b = false ∧ isT s l = true := by
  unfold nextB at h
  cases b
  · exact ⟨rfl, by simpa using h⟩
  · cases h
/-- The cursor behind Take. -/
def takeL (b : Bool) (s : List UInt8) (l : List Tk) : List Tk := if nextB b s l then l.tail else l
def TakePost (c : Nat) (l : List Tk) (b : Bool) (s : List UInt8) (w : World) (e : Ending) (w' : World) : Prop := e = .returned (.bool (nextB b s l)) ∧ Cur w' c (takeL b s l) b ∧ w.grownBy w' (some c)
set_option maxRecDepth 100000 in
set_option maxHeartbeats 1000000 in
theorem take_any (c : Nat) (l : List Tk) (b : Bool) (s : ByteArray) (w : World) (h : Cur w c l b) : Calls Tryz.prog 57 #[.pointer (some ⟨c, 0, none⟩), .string s] w (TakePost c l b s.data.toList w) := by
  have H := Lib.hid h
  cases hx : nextB b s.data.toList l
  · have HX := Lib.hid hx
    clear h hx
    go_enter Tryz.func57, Tryz.ntmps57
    go_wp2_with fail
    refine (next_any c _ _ s w H.out).mono ?_
    rintro e w1 ⟨rfl, hb⟩
    rw [HX.out]
    have H1 := Lib.hid (H.out.later hb)
    have G1 := Lib.hid (gb_of (some c) hb)
    clear hb
    go_wp2_with fail
    go_ret
    exact ⟨by rw [HX.out]; rfl, by rw [takeL, HX.out]; exact H1.out, G1.out⟩
  · have HX := Lib.hid hx
    obtain ⟨rfl, hi⟩ := nextB_cons hx
    obtain ⟨t, r, rfl, hk, -⟩ := isT_cons hi
    have HK := Lib.hid hk
    have htl := h.tidy.tail hk
    clear h hx hi hk
    go_enter Tryz.func57, Tryz.ntmps57
    go_wp2_with fail
    refine (next_any c _ _ s w H.out).mono ?_
    rintro e w1 ⟨rfl, hb⟩
    rw [HX.out]
    have H1 := Lib.hid (H.out.later hb)
    have G1 := Lib.hid (gb_of (some c) hb)
    obtain ⟨t2, r2, a, n, cap, e0, hn, x0, hcap, -⟩ := H1.out.head
    injection e0 with e0 e1
    subst e0 e1
    have HN := Lib.hid hn
    have f0 := H1.out.free.1
    have hn1 : 1 ≤ n := by
      cases r with
      | nil => exact absurd rfl htl.ne
      | cons x r => rw [HN.out]; simp
    have hn2 : n ≤ 100000 := by have := H.out.len; simp only [List.length_cons] at this; have := HN.out; omega
    have hn3 : 1 < cap := by omega
    have hn4 : ¬ cap = 1 := by omega
    have HNX := Lib.hid (H1.out.next HK.out HN.out x0)
    have HG := Lib.hid (gb_trans G1.out (gb_set w1 c 0 (.slice (some (a.add 3)) n (cap - 1))))
    clear hb hn htl
    go_wp2_with fail
    go_ret
    exact ⟨by rw [HX.out]; rfl, by rw [takeL, HX.out]; exact HNX.out, HG.out⟩
theorem take_stop {b : Bool} {s : List UInt8} {l : List Tk} (h : nextB b s l = false) : stop b l (must s l) = .bad l := by
  cases b
  · have : isT s l = false := by simpa [nextB] using h
    rw [stop, if_neg (by decide), must, this]
    rfl
  · rfl
theorem take_go {b : Bool} {s : List UInt8} {l : List Tk} (h : nextB b s l = true) : b = false ∧ takeL b s l = l.tail ∧ stop b l (must s l) = .ok () l.tail := by
  obtain ⟨rfl, hi⟩ := nextB_cons h
  refine ⟨rfl, by rw [takeL, h]; rfl, by rw [stop, if_neg (by decide), must, hi]; rfl⟩
def MustPost (c : Nat) (l : List Tk) (b : Bool) (s : List UInt8) (w : World) (e : Ending) (w' : World) : Prop := e = .returned (.tuple #[]) ∧ Aft w' c () (stop b l (must s l)) ∧ w.grownBy w' (some c)
set_option maxRecDepth 100000 in
set_option maxHeartbeats 1000000 in
theorem must_any (c : Nat) (l : List Tk) (b : Bool) (s : ByteArray) (w : World) (h : Cur w c l b) : Calls Tryz.prog 161 #[.pointer (some ⟨c, 0, none⟩), .string s] w (MustPost c l b s.data.toList w) := by
  have H := Lib.hid h
  cases hx : nextB b s.data.toList l
  · have HX := Lib.hid hx
    clear h hx
    go_enter Tryz.func161, Tryz.ntmps161
    go_wp2_with fail
    refine (take_any c _ _ s w H.out).mono ?_
    rintro e w1 ⟨rfl, hc, hg⟩
    rw [HX.out]
    have H1 := Lib.hid hc
    have G1 := Lib.hid hg
    clear hc hg
    go_wp2_with fail
    refine (fail_any c _ _ _ H1.out).mono ?_
    rintro e w2 ⟨rfl, hc, hg⟩
    have H2 := Lib.hid hc
    have G2 := Lib.hid (gb_trans G1.out hg)
    clear hc hg
    go_wp2_with fail
    go_end0
    refine ⟨rfl, ?_, G2.out⟩
    rw [take_stop HX.out]
    have := H2.out
    rw [takeL, HX.out] at this
    exact this
  · have HX := Lib.hid hx
    clear h hx
    go_enter Tryz.func161, Tryz.ntmps161
    go_wp2_with fail
    refine (take_any c _ _ s w H.out).mono ?_
    rintro e w1 ⟨rfl, hc, hg⟩
    rw [HX.out]
    have H1 := Lib.hid hc
    have G1 := Lib.hid hg
    clear hc hg
    go_wp2_with fail
    go_end0
    obtain ⟨rfl, e1, e2⟩ := take_go HX.out
    refine ⟨rfl, ?_, G1.out⟩
    rw [e2]
    have := H1.out
    rw [e1] at this
    exact ⟨rfl, this⟩

theorem below_drewN (B : Nat) (w : World) (n : Nat) : Below B w (w.drewN n) := ⟨rfl, rfl, rfl, Nat.le_refl _, fun _ _ => rfl⟩
/-- What Name gives. -/
def NamePost (c : Nat) (l : List Tk) (b : Bool) (w : World) (e : Ending) (w' : World) : Prop := ∃ t : Tk, e = .returned (.tuple #[.string t.s, .int .i64 t.o]) ∧ t.s.size ≤ 100000 ∧ Aft w' c t (stop b l (name l)) ∧ w.grownBy w' (some c)
theorem name_ok {t : Tk} {r : List Tk} (h : nameB t = true) : stop false (t :: r) (name (t :: r)) = .ok t r := by rw [stop, if_neg (by decide), name, if_pos h]
theorem name_bad {t : Tk} {b : Bool} {r : List Tk} (h : b = true ∨ nameB t = false) : stop b (t :: r) (name (t :: r)) = .bad (t :: r) := by
  rcases h with rfl | h
  · rfl
  · cases b
    · rw [stop, if_neg (by decide), name, if_neg (by rw [h]; decide)]
    · rfl
theorem next_self {t : Tk} {r : List Tk} {b : Bool} {w : World} {c : Nat} (h : Cur w c (t :: r) b) (hn : nameB t = true) : nextB b t.s.data.toList (t :: r) = !b := by
  have hk := h.tidy.name hn
  unfold nextB
  rw [isT, hk]
  simp
/-- The same; where there is no name, an empty one and 0. -/
def NameStrict (c : Nat) (l : List Tk) (b : Bool) (w : World) (e : Ending) (w' : World) : Prop := ∃ t : Tk, e = .returned (.tuple #[.string t.s, .int .i64 t.o]) ∧ t.s.size ≤ 100000 ∧ Aft w' c t (stop b l (name l)) ∧ w.grownBy w' (some c) ∧ ∀ q, stop b l (name l) = .bad q → t = ⟨0, ⟨#[]⟩, 0⟩
set_option maxRecDepth 100000 in
set_option maxHeartbeats 1000000 in
theorem name_strict (c : Nat) (l : List Tk) (b : Bool) (w : World) (h : Cur w c l b) : Calls Tryz.prog 55 #[.pointer (some ⟨c, 0, none⟩)] w (NameStrict c l b w) := by
  have H := Lib.hid h
  obtain ⟨t, r, a, n, cap, rfl, -⟩ := h.head
  have ht : t.s.size ≤ 100000 := h.small t List.mem_cons_self
  have HTS := Lib.hid ht
  obtain ⟨q, hq⟩ : ∃ q : Bool, nameB t = q := ⟨_, rfl⟩
  have HQ := Lib.hid hq
  have HIS := Lib.hid (fun (W : World) (hE : ResVar W) => show Calls Tryz.prog 74 #[.string t.s] W (fun e w' => e = .returned (.bool q) ∧ Below W.heap.size W w') by rw [← hq]; exact (nm_is_any t.s W hE).mono fun e w' h => h)
  clear h ht hq
  go_enter Tryz.func55, Tryz.ntmps55
  go_wp2_with fail
  refine (peek_any c _ _ w H.out).mono ?_
  rintro e w1 ⟨rfl, hb⟩
  obtain ⟨W1, hW1⟩ : ∃ W, w1.alloc (.cells #[.int .i64 t.k, .string t.s, .int .i64 t.o] 180) = W := ⟨_, rfl⟩
  have B1 := Lib.hid (show Below w.heap.size w W1 from hW1 ▸ hb.alloc hb.size _)
  have H1 := Lib.hid (H.out.later B1.out)
  have x1 : W1.cell? ⟨w1.heap.size, 1, none⟩ = some (.string t.s) := by rw [← hW1, World.cell?_alloc_at _ _ _ _ rfl]; rfl
  have x2 : W1.cell? ⟨w1.heap.size, 2, none⟩ = some (.int .i64 t.o) := by rw [← hW1, World.cell?_alloc_at _ _ _ _ rfl]; rfl
  have hlt1 : w1.heap.size < W1.heap.size := by rw [← hW1]; simp
  have hcne : w1.heap.size ≠ c := by have h1 := H.out.lt; have h2 := hb.size; omega
  have HW1 := Lib.hid hW1
  clear hb hW1
  go_wp2_with fail
  rw [HW1.out]
  refine (HIS.out W1 H1.out.res).mono ?_
  rintro e w2 ⟨rfl, hb⟩
  have y1 := (hb.cell (p := ⟨w1.heap.size, 1, none⟩) hlt1).trans x1
  have y2 := (hb.cell (p := ⟨w1.heap.size, 2, none⟩) hlt1).trans x2
  have B2 := Lib.hid (B1.out.trans (hb.mono B1.out.size))
  have H2 := Lib.hid (H1.out.later hb)
  have hlt2 : w1.heap.size < w2.heap.size := Nat.lt_of_lt_of_le hlt1 hb.size
  clear hb x1 x2 HIS H1 B1 HW1 hlt1
  cases q
  · go_wp2_with fail
    refine (fail_any c _ _ _ H2.out).mono ?_
    rintro e w3 ⟨rfl, hc, hg⟩
    have H3 := Lib.hid hc
    have z1 := gb_cell hg y1 hcne
    have z2 := gb_cell hg y2 hcne
    have G3 := Lib.hid (gb_trans (gb_of (some c) B2.out) hg)
    clear hc hg y1 y2
    go_wp2_with fail
    refine (take_any c _ _ t.s _ H3.out).mono ?_
    rintro e w4 ⟨rfl, hc, hg⟩
    rw [show nextB true t.s.data.toList (t :: r) = false from rfl]
    have H4 := Lib.hid hc
    have G4 := Lib.hid (gb_trans G3.out hg)
    clear hc hg z1 z2
    go_wp2_with fail
    go_ret2
    exact ⟨⟨0, ⟨#[]⟩, 0⟩, rfl, by show (0 : Nat) ≤ 100000; omega, by rw [name_bad (.inr HQ.out)]; exact H4.out, G4.out, fun _ _ => rfl⟩
  · go_wp2_with fail
    refine (take_any c _ _ t.s _ H2.out).mono ?_
    rintro e w3 ⟨rfl, hc, hg⟩
    rw [next_self H2.out HQ.out]
    rw [takeL, next_self H2.out HQ.out] at hc
    have H3 := Lib.hid hc
    have z1 := gb_cell hg y1 hcne
    have z2 := gb_cell hg y2 hcne
    have G3 := Lib.hid (gb_trans (gb_of (some c) B2.out) hg)
    clear hc hg y1 y2
    cases b
    · go_wp2_with fail
      go_quiet (fail)
      go_wp2_with fail
      go_ret2
      exact ⟨t, rfl, HTS.out, by rw [name_ok HQ.out]; exact ⟨rfl, H3.out.later (below_drewN _ _ _)⟩, gb_trans G3.out (gb_of _ (below_drewN _ _ _)), fun q h => by rw [name_ok HQ.out] at h; cases h⟩
    · go_wp2_with fail
      go_ret2
      exact ⟨⟨0, ⟨#[]⟩, 0⟩, rfl, by show (0 : Nat) ≤ 100000; omega, by rw [name_bad (.inl rfl)]; exact H3.out, G3.out, fun _ _ => rfl⟩

theorem name_any (c : Nat) (l : List Tk) (b : Bool) (w : World) (h : Cur w c l b) : Calls Tryz.prog 55 #[.pointer (some ⟨c, 0, none⟩)] w (NamePost c l b w) :=
  (name_strict c l b w h).mono fun _ _ ⟨t, h1, h2, h3, h4, _⟩ => ⟨t, h1, h2, h3, h4⟩

/-- What End gives: nil, or the error. -/
def endV (b : Bool) (l : List Tk) : Value := if b || (l.headD ⟨3, ⟨#[]⟩, 0⟩).k != 3 then faultV 2 (off l) else .nilIface
set_option maxRecDepth 100000 in
set_option maxHeartbeats 1000000 in
theorem end_any (c : Nat) (l : List Tk) (b : Bool) (w : World) (h : Cur w c l b) : Calls Tryz.prog 138 #[.pointer (some ⟨c, 0, none⟩)] w fun e w' => e = .returned (endV b l) ∧ w.grownBy w' (some c) := by
  have H := Lib.hid h
  obtain ⟨t, r, a, n, cap, rfl, -⟩ := h.head
  clear h
  have g2 := fun w => fieldTk0 t.k t.o t.s w
  cases hk : (t.k == 3)
  · have hk2 : (t.k != 3) = true := by rw [bne, hk]; rfl
    go_enter Tryz.func138, Tryz.ntmps138
    go_wp2_with fail
    refine (peek_any c _ _ w H.out).mono ?_
    rintro e w1 ⟨rfl, hb⟩
    have H1 := Lib.hid (H.out.later hb)
    have G1 := Lib.hid (gb_of (some c) hb)
    clear hb
    go_wp2_with fail
    refine (fail_any c _ _ _ H1.out).mono ?_
    rintro e w2 ⟨rfl, hc, hg⟩
    have x1 := hc.err
    rw [errV, if_pos rfl, faultV] at x1
    have G2 := Lib.hid (gb_trans G1.out hg)
    clear hc hg
    go_wp2_with fail
    go_ret
    exact ⟨by rw [endV]; simp [hk2]; rfl, G2.out⟩
  · have hk2 : (t.k != 3) = false := by rw [bne, hk]; rfl
    go_enter Tryz.func138, Tryz.ntmps138
    go_wp2_with fail
    refine (peek_any c _ _ w H.out).mono ?_
    rintro e w1 ⟨rfl, hb⟩
    have H1 := Lib.hid (H.out.later hb)
    have G1 := Lib.hid (gb_of (some c) hb)
    have x1 := H1.out.err
    clear hb
    cases b
    · rw [errV, if_neg (by decide)] at x1
      go_wp2_with fail
      go_ret
      exact ⟨by rw [endV]; simp [hk2], G1.out⟩
    · rw [errV, if_pos rfl, faultV] at x1
      go_wp2_with fail
      go_ret
      exact ⟨by rw [endV]; simp [hk2]; rfl, G1.out⟩
end Go.Proofs.YtppcpccjeknhdaaGreatDoor.Rd
