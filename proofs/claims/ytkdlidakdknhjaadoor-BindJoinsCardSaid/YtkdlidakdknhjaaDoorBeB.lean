/- The law BindJoins: true, at every input. The condition: the table of powers. -/
import Derived.Test.YtkdlidakdknhjaaDoorBdX
namespace Go.Proofs.YtkdlidakdknhjaaDoor
open Go.RowKit

theorem wrap64_inJ (n : Int) (h : -9223372036854775808 ≤ n ∧ n ≤ 9223372036854775807) : wrap64 n = n := by unfold wrap64; omega
/-- Two rows of formals. -/
structure JX (w W : World) (A : Option Addr) (m : Nat) (xs : List Fo) (B : Option Addr) (l : Nat) (ys : List Fo) : Prop where
  one : RowH W 5 A m (xs.map Fo.dat)
  two : RowH W 5 B l (ys.map Fo.dat)
  bel : Below w.heap.size w W
theorem JX.later {w W W' : World} {A : Option Addr} {m : Nat} {xs : List Fo} {B : Option Addr} {l : Nat} {ys : List Fo} (h : JX w W A m xs B l ys) (hb : Below W.heap.size W W') : JX w W' A m xs B l ys :=
  ⟨RowH.later h.one hb, RowH.later h.two hb, h.bel.trans (hb.mono h.bel.size)⟩
theorem join_posts (xs ys zs : List Fo) (A B : Option Addr) (m l q c d : Nat) (w : World) (hz : zs = xs ++ ys) (hq : q = m + l) (hx : ∀ f ∈ zs, f.wt ≤ 1990) (hm : m ≤ 40000) (hl : l ≤ 40000) (h1 : RowH w 5 A m (xs.map Fo.dat)) (h2 : RowH w 5 B l (ys.map Fo.dat)) :
    Calls Tryd.prog 30 #[.slice A m c, .slice B l d] w (fun e w' => ∃ L cl, e = .returned (.slice L q cl) ∧ RowH w' 5 L q (zs.map Fo.dat) ∧ Below w.heap.size w w') := by
  subst hz hq
  refine (bjoin_any xs ys A B m l c d w hx hm hl h1 h2).mono ?_
  rintro e w' ⟨L, cl, rfl, hr, hb⟩
  exact ⟨L, cl, rfl, Row.wide hr fun b hb => hb.2, hb⟩
theorem fo_midB {V : World} {pu : Addr} {k : Nat} {u0 u1 u2 u3 u4 : Value} (h : CellsAt V (pu.add (k * 5)) [u0, u1, u2, u3, u4]) : CellsAt V ⟨(pu.add (k * 5)).block, (pu.add (k * 5)).off + 1, none⟩ [u1, u2, u3] := by
  obtain ⟨_, c1, c2, c3, _⟩ := cells5_at h
  intro j u hu
  match j, hu with
  | 0, hu => obtain rfl := Option.some.inj hu; exact c1
  | 1, hu => obtain rfl := Option.some.inj hu; exact c2
  | 2, hu => obtain rfl := Option.some.inj hu; exact c3
  | j + 3, hu => simp at hu
theorem there_setCellsJ {b o n : Nat} : ∀ {w : World}, w.there b o n → ∀ (g k : Nat) (vs : List Value), (w.setCells g k vs).there b o n
  | _, h, _, _, [] => h
  | _, h, g, k, v :: r => there_setCellsJ (there_setCellB h ⟨g, k, none⟩ v) g (k + 1) r
/-- A box of five cells, laid and filled. -/
theorem putTwo (T : TypeId) (w : World) {us : List Value} (hl : us.length = 5) : ∃ W1 W2, PutZ #[.string ⟨#[]⟩, .string ⟨#[]⟩, .slice none 0 0, .int .i64 0, .int .i64 0] T w W1 [.string ⟨#[]⟩, .string ⟨#[]⟩, .slice none 0 0, .int .i64 0, .int .i64 0] ∧ W1.there w.heap.size 0 5 ∧ W1.setCells w.heap.size 0 us = W2 ∧ Below w.heap.size w W2 ∧ Boxd W2 w.heap.size us := by
  obtain ⟨W1, h1⟩ := putZ #[.string ⟨#[]⟩, .string ⟨#[]⟩, .slice none 0 0, .int .i64 0, .int .i64 0] T w (us := [.string ⟨#[]⟩, .string ⟨#[]⟩, .slice none 0 0, .int .i64 0, .int .i64 0]) rfl
  have h2 : W1.there w.heap.size 0 5 := by rw [← h1.eq]; exact there_setCellsJ h1.there _ _ _
  exact ⟨W1, _, h1, h2, rfl, h1.bel.trans (below_cells (Nat.le_refl _) us 0 _), set_there (by rw [hl]; exact h2)⟩

set_option maxRecDepth 100000 in
set_option maxHeartbeats 16000000 in
theorem bjoins_law (xs ys : List Fo) (A B : Option Addr) (m l ca cb : Nat) (w : World) (h1 : RowH w 5 A m (xs.map Fo.dat)) (h2 : RowH w 5 B l (ys.map Fo.dat)) (hE : PowVar w) :
    Calls Tryd.prog 6 #[.slice A m ca, .slice B l cb] w fun e w' => e = .returned (.bool true) ∧ Below w.heap.size w w' := by
  have hxl := h1.len
  have hyl := h2.len
  rw [List.length_map] at hxl hyl
  have HXL := Lib.hid hxl
  have HYL := Lib.hid hyl
  have HS := Lib.hid (show JX w w A m xs B l ys from ⟨h1, h2, Below.refl _ _⟩)
  have HP := Lib.hid hE
  obtain ⟨fa, hfa⟩ : ∃ x, (envPg xs).few = x := ⟨_, rfl⟩
  obtain ⟨fb, hfb⟩ : ∃ x, (envPg ys).few = x := ⟨_, rfl⟩
  have HFA := Lib.hid hfa
  have HFB := Lib.hid hfb
  clear h1 h2 hE hxl hyl hfa hfb
  go_enter Tryd.func6, Tryd.ntmps6
  go_wp2_with fail
  refine (bawake_any _ HP.out).mono ?_
  rintro e w1 ⟨rfl, hb⟩
  have HS := Lib.hid (HS.out.later hb)
  have HP := Lib.hid (HP.out.later hb)
  clear hb
  go_wp2_with fail
  refine (rfewEnv_any xs A m ca _ HS.out.one).mono ?_
  rintro e w2 ⟨rfl, hb⟩
  have HS := Lib.hid (HS.out.later hb)
  have HP := Lib.hid (HP.out.later hb)
  clear hb
  rw [HFA.out]
  cases fa
  · skip
    go_wp2_with fail
    refine (bawake_any _ HP.out).mono ?_
    rintro e w9 ⟨rfl, hb⟩
    have HS := Lib.hid (HS.out.later hb)
    clear hb
    go_wp2_with fail
    go_ret
    exact ⟨rfl, HS.out.bel⟩
  go_wp2_with fail
  refine (rfewEnv_any ys B l cb _ HS.out.two).mono ?_
  rintro e w3 ⟨rfl, hb⟩
  have HS := Lib.hid (HS.out.later hb)
  have HP := Lib.hid (HP.out.later hb)
  clear hb
  rw [HFB.out]
  cases fb
  · skip
    go_wp2_with fail
    refine (bawake_any _ HP.out).mono ?_
    rintro e w9 ⟨rfl, hb⟩
    have HS := Lib.hid (HS.out.later hb)
    clear hb
    go_wp2_with fail
    go_ret
    exact ⟨rfl, HS.out.bel⟩
  have HWX := Lib.hid (env_few HFA.out)
  have HWY := Lib.hid (env_few HFB.out)
  have hm6 : m ≤ 600 := by have := HWX.out.1; have := HXL.out; omega
  have hl6 : l ≤ 600 := by have := HWY.out.1; have := HYL.out; omega
  obtain ⟨zs, hz⟩ : ∃ z, z = xs ++ ys := ⟨_, rfl⟩
  obtain ⟨q, hq⟩ : ∃ q, q = m + l := ⟨_, rfl⟩
  have HZ := Lib.hid hz
  have HQ := Lib.hid hq
  have HM := Lib.hid hm6
  have HL := Lib.hid hl6
  have HWZ := Lib.hid (show ∀ f ∈ zs, f.wt ≤ 600 from fun f hf => by
    rw [hz] at hf
    rcases List.mem_append.1 hf with h | h
    · exact HWX.out.2 f h
    · exact HWY.out.2 f h)
  have HZL := Lib.hid (show zs.length = q by rw [hz, List.length_append, HXL.out, HYL.out, hq])
  have q1 : ((q : Int) != (m : Int) + (l : Int)) = false := by simp; omega
  have q2 : (0 : Int) ≤ q := by omega
  have q3 : (q : Int) ≤ 1200 := by omega
  have q4 : (0 : Int) ≤ (m : Int) + (l : Int) := by omega
  have q5 : (m : Int) + (l : Int) ≤ 1200 := by omega
  have C3 := Lib.hid (join_posts xs ys zs A B m l q ca cb _ hz hq (fun f hf => Nat.le_trans (HWZ.out f hf) (by omega)) (by omega) (by omega) HS.out.one HS.out.two)
  clear HP hz hq hm6 hl6
  go_wp2_with fail
  refine C3.out.mono ?_
  rintro e w4 ⟨L, cl, rfl, hr, hb⟩
  have HR := Lib.hid hr
  have HS := Lib.hid (HS.out.later hb)
  have C4 := Lib.hid (nms_at (k := q) (by rw [List.length_map]; exact HZL.out) (bnames_any zs L q cl w4 (by have := HM.out; have := HL.out; have := HQ.out; omega) hr))
  clear hr hb C3
  go_wp2_with fail
  refine C4.out.mono ?_
  rintro e w5 ⟨NA, nc, rfl, _, hsl, hb⟩
  have HN := Lib.hid hsl
  have HR := Lib.hid (RowH.later HR.out hb)
  have HS := Lib.hid (HS.out.later hb)
  clear hsl hb C4
  go_wp2_with fail
  have HQ3 := Lib.hid q3
  clear q1 q2 q3 q4 q5
  go_loopw [7] (fun i wr => ∃ k : Nat, k ≤ q ∧ i = .int .i64 k ∧ Below w5.heap.size w5 wr) (fun i _ => q - (intOf i).toNat)
  case atStart => exact ⟨0, by omega, rfl, Below.refl _ _⟩
  case round =>
    obtain ⟨k, hk, rfl, hbel⟩ := hrel
    have HBL := Lib.hid hbel
    have y1 : (0 : Int) ≤ k := by omega
    by_cases hlt : k < q
    · have y0 : (k : Int) < q := by omega
      have y9 : (k : Int) + 1 ≤ 9223372036854775807 := by have := HQ3.out; omega
      obtain ⟨pu, x, ps, rfl, hx, _, _, hu, hcs⟩ := dat_at (RowH.later HR.out hbel) hlt
      obtain ⟨B9, m9, a9, rfl, hn9, hty9, hta9⟩ := fo_open hu
      obtain ⟨pn, rfl, _, hcn⟩ := (HN.out.later hbel).at_ k x.name (by rw [List.getElem?_map, hx]; rfl)
      have HC9 := Lib.hid hcs
      have HN9 := Lib.hid hcn
      have HT9 := Lib.hid hty9
      have HA9 := Lib.hid (show Here wr B9 m9 x.ty.args from hta9)
      have HXK := Lib.hid hx
      have HSR := Lib.hid (HS.out.later hbel)
      clear hx hu hcs hcn hn9 hty9 hta9 hbel
      by_cases hkm : k < m
      · have y2 : (k : Int) < m := by omega
        obtain ⟨pa, x8, ps, rfl, hx8, _, _, hu8, hc8⟩ := dat_at HSR.out.one hkm
        obtain rfl : x = x8 := Option.some.inj ((HXK.out.symm.trans (by rw [HZ.out, List.getElem?_append_left (by rw [HXL.out]; exact hkm)])).trans hx8)
        obtain ⟨B8, m8, a8, rfl, _, hty8, hta8⟩ := fo_open hu8
        obtain ⟨W1, W2, hP1, ht1, hW2, hb2, hbx2⟩ := putTwo 48 wr (us := [.string x.name, .string x.ty.name, .slice B8 m8 a8, .int .i64 x.ty.off, .int .i64 x.off]) rfl
        have HPP := Lib.hid hP1
        have HC8 := Lib.hid (hc8.later hP1.bel)
        have HTH := Lib.hid ht1
        have HW2 := Lib.hid hW2
        have HX2 := Lib.hid hbx2
        have HB2 := Lib.hid hb2
        have HA8 := Lib.hid (Here.later (show Here wr B8 m8 x.ty.args from hta8) hb2)
        clear hx8 hu8 hc8 hty8 hta8 hP1 ht1 hW2 hb2 hbx2 hkm
        go_upto_region 11 with (refine storeOp flatFo 8 48 (b := wr.heap.size) (o := 0) (us := [.string ⟨#[]⟩, .string ⟨#[]⟩, .slice none 0 0, .int .i64 0, .int .i64 0]) rfl rfl HPP.out.there five_oneB rfl ?_; rw [HPP.out.eq])
        go_upto_region 14 with (first
          | (refine loadOp flatFo 55 56 rfl HC8.out rfl ?_)
          | (refine storeOp flatFo 8 56 (b := wr.heap.size) (o := 0) (us := [.string x.name, .string x.ty.name, .slice B8 m8 a8, .int .i64 x.ty.off, .int .i64 x.off]) rfl rfl HTH.out five_oneB rfl ?_; rw [HW2.out]))
        go_wp2_with fail
        have HB2D := Lib.hid (HB2.out.trans ((Below.refl W2.heap.size W2).drew.mono HB2.out.size))
        refine wp_region_held_drew (S := fun V => (CellsAt V (pu.add (k * 5)) [.string x.name, .string x.ty.name, .slice B9 m9 a9, .int .i64 x.ty.off, .int .i64 x.off] ∧ Boxd V wr.heap.size [.string x.name, .string x.ty.name, .slice B8 m8 a8, .int .i64 x.ty.off, .int .i64 x.off] ∧ V.cell? (pn.add k) = some (.string x.name)) ∧ Here V B9 m9 x.ty.args ∧ Here V B8 m8 x.ty.args) (by kernel_rfl) ⟨⟨HC9.out.later HB2D.out, HX2.out.later (Below.refl _ _).drew, (HB2D.out.cell (cell_lt HN9.out)).trans HN9.out⟩, Here.later HA9.out HB2D.out, Here.later HA8.out (Below.refl _ _).drew⟩ (fun hS => ?_)
        refine wpAnyH_take (i := 0) (v := ?_) rfl (by kernel_rfl) (by kernel_rfl) (by kernel_rfl) (fun _ _ _ h => h) (Or.inl ⟨by rfl, ?_⟩) (by assumption) ?_
        rotate_left
        · (intro V hV; go_simp; try with_reducible rfl)
        try simp only [Act.put, List.getElem_toArray, List.getElem_cons_zero, List.setIfInBounds_toArray, List.set_cons_zero, List.set_cons_succ]
        refine wpAnyH_take (i := 1) (v := ?_) rfl (by kernel_rfl) (by kernel_rfl) (by kernel_rfl) (fun _ _ _ h => h) (Or.inl ⟨by rfl, ?_⟩) (by assumption) ?_
        rotate_left
        · (intro V hV; go_simp; try with_reducible rfl)
        try simp only [Act.put, List.getElem_toArray, List.getElem_cons_zero, List.getElem_cons_succ, List.setIfInBounds_toArray, List.set_cons_zero, List.set_cons_succ]
        refine wpAnyH_take (i := 2) (v := ?_) rfl (by kernel_rfl) (by kernel_rfl) (by kernel_rfl) (fun _ _ _ h => h) (Or.inl ⟨by rfl, ?_⟩) (by assumption) ?_
        rotate_left
        · (intro V hV; go_simp; try with_reducible rfl)
        try simp only [Act.put, List.getElem_toArray, List.getElem_cons_zero, List.getElem_cons_succ, List.setIfInBounds_toArray, List.set_cons_zero, List.set_cons_succ]
        refine wpAnyH_take (i := 3) (v := ?_) rfl (by kernel_rfl) (by kernel_rfl) (by kernel_rfl) (fun _ _ _ h => h) (Or.inl ⟨by rfl, ?_⟩) (by assumption) ?_
        rotate_left
        · (intro V hV; go_simp; try with_reducible rfl)
        try simp only [Act.put, List.getElem_toArray, List.getElem_cons_zero, List.getElem_cons_succ, List.setIfInBounds_toArray, List.set_cons_zero, List.set_cons_succ]
        refine wpAnyH_take (i := 4) (v := ?_) rfl (by kernel_rfl) (by kernel_rfl) (by kernel_rfl) (fun _ _ _ h => h) (Or.inl ⟨by rfl, ?_⟩) (by assumption) ?_
        rotate_left
        · (intro V hV; obtain ⟨⟨kc, kb, kn⟩, _, _⟩ := hV; obtain ⟨c0, _, _, _, c4⟩ := cells5_at kc; obtain ⟨b0, _, _, _, b4⟩ := kb.c5; go_simp; try with_reducible rfl)
        try simp only [Act.put, List.getElem_toArray, List.getElem_cons_zero, List.getElem_cons_succ, List.setIfInBounds_toArray, List.set_cons_zero, List.set_cons_succ]
        refine wpAnyH_take (i := 5) (v := ?_) rfl (by kernel_rfl) (by kernel_rfl) (by kernel_rfl) (fun _ _ _ h => h) (Or.inl ⟨by rfl, ?_⟩) (by assumption) ?_
        rotate_left
        · (intro V hV; go_simp; try with_reducible rfl)
        try simp only [Act.put, List.getElem_toArray, List.getElem_cons_zero, List.getElem_cons_succ, List.setIfInBounds_toArray, List.set_cons_zero, List.set_cons_succ]
        refine wpAnyH_take (i := 6) (v := ?_) rfl (by kernel_rfl) (by kernel_rfl) (by kernel_rfl) (fun _ _ _ h => h) (Or.inl ⟨by rfl, ?_⟩) (by assumption) ?_
        rotate_left
        · (intro V hV; obtain ⟨⟨kc, kb, kn⟩, _, _⟩ := hV; obtain ⟨c0, _, _, _, c4⟩ := cells5_at kc; obtain ⟨b0, _, _, _, b4⟩ := kb.c5; go_simp; try with_reducible rfl)
        try simp only [Act.put, List.getElem_toArray, List.getElem_cons_zero, List.getElem_cons_succ, List.setIfInBounds_toArray, List.set_cons_zero, List.set_cons_succ]
        refine wpAnyH_take (i := 7) (v := ?_) rfl (by kernel_rfl) (by kernel_rfl) (by kernel_rfl) (fun _ _ _ h => h) (Or.inl ⟨by rfl, ?_⟩) (by assumption) ?_
        rotate_left
        · (intro V hV; go_simp; try with_reducible rfl)
        try simp only [Act.put, List.getElem_toArray, List.getElem_cons_zero, List.getElem_cons_succ, List.setIfInBounds_toArray, List.set_cons_zero, List.set_cons_succ]
        refine wpAnyH_take (i := 8) (v := ?_) rfl (by kernel_rfl) (by kernel_rfl) (by kernel_rfl) (fun _ _ _ h => h) (Or.inl ⟨by rfl, ?_⟩) (by assumption) ?_
        rotate_left
        · (intro V hV; go_simp; try with_reducible rfl)
        try simp only [Act.put, List.getElem_toArray, List.getElem_cons_zero, List.getElem_cons_succ, List.setIfInBounds_toArray, List.set_cons_zero, List.set_cons_succ]
        refine wpAnyH_take (i := 9) (v := ?_) rfl (by kernel_rfl) (by kernel_rfl) (by kernel_rfl) (fun _ _ _ h => h) (Or.inl ⟨by rfl, ?_⟩) (by assumption) ?_
        rotate_left
        · (intro V hV; go_simp; try with_reducible rfl)
        try simp only [Act.put, List.getElem_toArray, List.getElem_cons_zero, List.getElem_cons_succ, List.setIfInBounds_toArray, List.set_cons_zero, List.set_cons_succ]
        refine wpAnyH_take (i := 10) (v := ?_) rfl (by kernel_rfl) (by kernel_rfl) (by kernel_rfl) (fun _ _ _ h => h) (Or.inl ⟨by rfl, ?_⟩) (by assumption) ?_
        rotate_left
        · (intro V hV; go_simp; try with_reducible rfl)
        try simp only [Act.put, List.getElem_toArray, List.getElem_cons_zero, List.getElem_cons_succ, List.setIfInBounds_toArray, List.set_cons_zero, List.set_cons_succ]
        refine wpAnyH_take (i := 11) (v := ?_) rfl (by kernel_rfl) (by kernel_rfl) (by kernel_rfl) (fun _ _ _ h => h) (Or.inl ⟨by rfl, ?_⟩) (by assumption) ?_
        rotate_left
        · (intro V hV; go_simp; try with_reducible rfl)
        try simp only [Act.put, List.getElem_toArray, List.getElem_cons_zero, List.getElem_cons_succ, List.setIfInBounds_toArray, List.set_cons_zero, List.set_cons_succ]
        refine wpAnyH_take (i := 12) (v := ?_) rfl (by kernel_rfl) (by kernel_rfl) (by kernel_rfl) (fun _ _ _ h => h) (Or.inl ⟨by rfl, ?_⟩) (by assumption) ?_
        rotate_left
        · (intro V hV; go_simp; try with_reducible rfl)
        try simp only [Act.put, List.getElem_toArray, List.getElem_cons_zero, List.getElem_cons_succ, List.setIfInBounds_toArray, List.set_cons_zero, List.set_cons_succ]
        refine wpAnyH_take (i := 13) (v := ?_) rfl (by kernel_rfl) (by kernel_rfl) (by kernel_rfl) (fun _ _ _ h => h) (Or.inl ⟨by rfl, ?_⟩) (by assumption) ?_
        rotate_left
        · (intro V hV; obtain ⟨⟨kc, kb, kn⟩, _, _⟩ := hV; obtain ⟨c0, _, _, _, c4⟩ := cells5_at kc; obtain ⟨b0, _, _, _, b4⟩ := kb.c5; go_simp; try with_reducible rfl)
        try simp only [Act.put, List.getElem_toArray, List.getElem_cons_zero, List.getElem_cons_succ, List.setIfInBounds_toArray, List.set_cons_zero, List.set_cons_succ]
        refine wpAnyH_take (i := 14) (v := ?_) rfl (by kernel_rfl) (by kernel_rfl) (by kernel_rfl) (fun _ _ _ h => h) (Or.inl ⟨by rfl, ?_⟩) (by assumption) ?_
        rotate_left
        · (intro V hV; go_simp; try with_reducible rfl)
        try simp only [Act.put, List.getElem_toArray, List.getElem_cons_zero, List.getElem_cons_succ, List.setIfInBounds_toArray, List.set_cons_zero, List.set_cons_succ]
        refine wpAnyH_take (i := 15) (v := ?_) rfl (by kernel_rfl) (by kernel_rfl) (by kernel_rfl) (fun _ _ _ h => h) (Or.inl ⟨by rfl, ?_⟩) (by assumption) ?_
        rotate_left
        · (intro V hV; obtain ⟨⟨kc, kb, kn⟩, _, _⟩ := hV; obtain ⟨c0, _, _, _, c4⟩ := cells5_at kc; obtain ⟨b0, _, _, _, b4⟩ := kb.c5; go_simp; try with_reducible rfl)
        try simp only [Act.put, List.getElem_toArray, List.getElem_cons_zero, List.getElem_cons_succ, List.setIfInBounds_toArray, List.set_cons_zero, List.set_cons_succ]
        refine wpAnyH_take (i := 16) (v := ?_) rfl (by kernel_rfl) (by kernel_rfl) (by kernel_rfl) (fun _ _ _ h => h) (Or.inl ⟨by rfl, ?_⟩) (by assumption) ?_
        rotate_left
        · (intro V hV; go_simp; try with_reducible rfl)
        try simp only [Act.put, List.getElem_toArray, List.getElem_cons_zero, List.getElem_cons_succ, List.setIfInBounds_toArray, List.set_cons_zero, List.set_cons_succ]
        refine wpAnyH_take (i := 17) (v := ?_) rfl (by kernel_rfl) (by kernel_rfl) (by kernel_rfl) (fun _ _ _ h => h) (Or.inl ⟨by rfl, ?_⟩) (by assumption) ?_
        rotate_left
        · (intro V hV; go_simp; try with_reducible rfl)
        try simp only [Act.put, List.getElem_toArray, List.getElem_cons_zero, List.getElem_cons_succ, List.setIfInBounds_toArray, List.set_cons_zero, List.set_cons_succ]
        refine wpAnyH_take (i := 18) (v := ?_) rfl (by kernel_rfl) (by kernel_rfl) (by kernel_rfl) (fun _ _ _ h => h) (Or.inl ⟨by rfl, ?_⟩) (by assumption) ?_
        rotate_left
        · (intro V hV; go_simp; try with_reducible rfl)
        try simp only [Act.put, List.getElem_toArray, List.getElem_cons_zero, List.getElem_cons_succ, List.setIfInBounds_toArray, List.set_cons_zero, List.set_cons_succ]
        refine wpAnyH_take (i := 19) (v := ?_) rfl (by kernel_rfl) (by kernel_rfl) (by kernel_rfl) (fun _ _ _ h => h) (Or.inl ⟨by rfl, ?_⟩) (by assumption) ?_
        rotate_left
        · (intro V hV; go_simp; try with_reducible rfl)
        try simp only [Act.put, List.getElem_toArray, List.getElem_cons_zero, List.getElem_cons_succ, List.setIfInBounds_toArray, List.set_cons_zero, List.set_cons_succ]
        refine wpAnyH_take (i := 20) (v := ?_) rfl (by kernel_rfl) (by kernel_rfl) (by kernel_rfl) (fun _ _ _ h => h) (Or.inl ⟨by rfl, ?_⟩) (by assumption) ?_
        rotate_left
        · (intro V hV; go_simp; try with_reducible rfl)
        try simp only [Act.put, List.getElem_toArray, List.getElem_cons_zero, List.getElem_cons_succ, List.setIfInBounds_toArray, List.set_cons_zero, List.set_cons_succ]
        refine wpAnyH_take (i := 21) (v := ?_) rfl (by kernel_rfl) (by kernel_rfl) (by kernel_rfl) (fun _ _ _ h => h) (Or.inl ⟨by rfl, ?_⟩) (by assumption) ?_
        rotate_left
        · (intro V hV; go_simp; try with_reducible rfl)
        try simp only [Act.put, List.getElem_toArray, List.getElem_cons_zero, List.getElem_cons_succ, List.setIfInBounds_toArray, List.set_cons_zero, List.set_cons_succ]
        refine wpAnyH_take (i := 22) (v := ?_) rfl (by kernel_rfl) (by kernel_rfl) (by kernel_rfl) (fun _ _ _ h => h) (Or.inl ⟨by rfl, ?_⟩) (by assumption) ?_
        rotate_left
        · (intro V hV; obtain ⟨⟨kc, kb, kn⟩, _, _⟩ := hV; obtain ⟨c0, _, _, _, c4⟩ := cells5_at kc; obtain ⟨b0, _, _, _, b4⟩ := kb.c5; go_simp; try with_reducible rfl)
        try simp only [Act.put, List.getElem_toArray, List.getElem_cons_zero, List.getElem_cons_succ, List.setIfInBounds_toArray, List.set_cons_zero, List.set_cons_succ]
        refine wpAnyH_take (i := 23) (v := ?_) rfl (by kernel_rfl) (by kernel_rfl) (by kernel_rfl) (fun _ _ _ h => h) (Or.inl ⟨by rfl, ?_⟩) (by assumption) ?_
        rotate_left
        · (intro V hV; go_simp; try with_reducible rfl)
        try simp only [Act.put, List.getElem_toArray, List.getElem_cons_zero, List.getElem_cons_succ, List.setIfInBounds_toArray, List.set_cons_zero, List.set_cons_succ]
        refine wpAnyH_take (i := 24) (v := ?_) rfl (by kernel_rfl) (by kernel_rfl) (by kernel_rfl) (fun _ _ _ h => h) (Or.inl ⟨by rfl, ?_⟩) (by assumption) ?_
        rotate_left
        · (intro V hV; obtain ⟨⟨kc, kb, kn⟩, _, _⟩ := hV; obtain ⟨c0, _, _, _, c4⟩ := cells5_at kc; obtain ⟨b0, _, _, _, b4⟩ := kb.c5; go_simp; try with_reducible rfl)
        try simp only [Act.put, List.getElem_toArray, List.getElem_cons_zero, List.getElem_cons_succ, List.setIfInBounds_toArray, List.set_cons_zero, List.set_cons_succ]
        refine wpAnyH_take (i := 25) (v := ?_) rfl (by kernel_rfl) (by kernel_rfl) (by kernel_rfl) (fun _ _ _ h => h) (Or.inl ⟨by rfl, ?_⟩) (by assumption) ?_
        rotate_left
        · (intro V hV; go_simp; try with_reducible rfl)
        try simp only [Act.put, List.getElem_toArray, List.getElem_cons_zero, List.getElem_cons_succ, List.setIfInBounds_toArray, List.set_cons_zero, List.set_cons_succ]
        refine wpAnyH_take (i := 26) (v := ?_) rfl (by kernel_rfl) (by kernel_rfl) (by kernel_rfl) (fun _ _ _ h => h) (Or.inl ⟨by rfl, ?_⟩) (by assumption) ?_
        rotate_left
        · (intro V hV; go_simp; try with_reducible rfl)
        try simp only [Act.put, List.getElem_toArray, List.getElem_cons_zero, List.getElem_cons_succ, List.setIfInBounds_toArray, List.set_cons_zero, List.set_cons_succ]
        refine wpAnyH_take (i := 27) (v := ?_) rfl (by kernel_rfl) (by kernel_rfl) (by kernel_rfl) (fun _ _ _ h => h) (Or.inl ⟨by rfl, ?_⟩) (by assumption) ?_
        rotate_left
        · (intro V hV; go_simp; try with_reducible rfl)
        try simp only [Act.put, List.getElem_toArray, List.getElem_cons_zero, List.getElem_cons_succ, List.setIfInBounds_toArray, List.set_cons_zero, List.set_cons_succ]
        refine wpAnyH_take (i := 28) (v := ?_) rfl (by kernel_rfl) (by kernel_rfl) (by kernel_rfl) (fun _ _ _ h => h) (Or.inl ⟨by rfl, ?_⟩) (by assumption) ?_
        rotate_left
        · (intro V hV; go_simp; try with_reducible rfl)
        try simp only [Act.put, List.getElem_toArray, List.getElem_cons_zero, List.getElem_cons_succ, List.setIfInBounds_toArray, List.set_cons_zero, List.set_cons_succ]
        refine wpAnyH_take (i := 29) (v := ?_) rfl (by kernel_rfl) (by kernel_rfl) (by kernel_rfl) (fun _ _ _ h => h) (Or.inl ⟨by rfl, ?_⟩) (by assumption) ?_
        rotate_left
        · (intro V hV; go_simp; try with_reducible rfl)
        try simp only [Act.put, List.getElem_toArray, List.getElem_cons_zero, List.getElem_cons_succ, List.setIfInBounds_toArray, List.set_cons_zero, List.set_cons_succ]
        refine wpAnyH_take (i := 30) (v := ?_) rfl (by kernel_rfl) (by kernel_rfl) (by kernel_rfl) (fun _ _ _ h => h) (Or.inl ⟨by rfl, ?_⟩) (by assumption) ?_
        rotate_left
        · (intro V hV; go_simp; try with_reducible rfl)
        try simp only [Act.put, List.getElem_toArray, List.getElem_cons_zero, List.getElem_cons_succ, List.setIfInBounds_toArray, List.set_cons_zero, List.set_cons_succ]
        refine wpAnyH_take (i := 31) (v := ?_) rfl (by kernel_rfl) (by kernel_rfl) (by kernel_rfl) (fun _ _ _ h => h) (Or.inl ⟨by rfl, ?_⟩) (by assumption) ?_
        rotate_left
        · (intro V hV; go_simp; try with_reducible rfl)
        try simp only [Act.put, List.getElem_toArray, List.getElem_cons_zero, List.getElem_cons_succ, List.setIfInBounds_toArray, List.set_cons_zero, List.set_cons_succ]
        refine wpAnyH_take (i := 32) (v := .agg ([.string x.ty.name, .slice B9 m9 a9, .int .i64 x.ty.off] : List Value).toArray) rfl (by kernel_rfl) (by kernel_rfl) (by kernel_rfl) (fun _ _ _ h => h) (Or.inl ⟨by rfl, fun V hV => loadYieldB flatTy3 rfl (fo_midB hV.1.1) rfl⟩) (by assumption) ?_
        try simp only [Act.put, List.getElem_toArray, List.getElem_cons_zero, List.getElem_cons_succ, List.setIfInBounds_toArray, List.set_cons_zero, List.set_cons_succ]
        refine wpAnyH_take (i := 33) (v := ?_) rfl (by kernel_rfl) (by kernel_rfl) (by kernel_rfl) (fun _ _ _ h => h) (Or.inl ⟨by rfl, ?_⟩) (by assumption) ?_
        rotate_left
        · (intro V hV; go_simp; try with_reducible rfl)
        try simp only [Act.put, List.getElem_toArray, List.getElem_cons_zero, List.getElem_cons_succ, List.setIfInBounds_toArray, List.set_cons_zero, List.set_cons_succ]
        refine wpAnyH_take (i := 34) (v := .agg ([.string x.ty.name, .slice B8 m8 a8, .int .i64 x.ty.off] : List Value).toArray) rfl (by kernel_rfl) (by kernel_rfl) (by kernel_rfl) (fun _ _ _ h => h) (Or.inl ⟨by rfl, fun V hV => loadYieldB flatTy3 rfl (boxd_mid hV.1.2.1) rfl⟩) (by assumption) ?_
        try simp only [Act.put, List.getElem_toArray, List.getElem_cons_zero, List.getElem_cons_succ, List.setIfInBounds_toArray, List.set_cons_zero, List.set_cons_succ]
        refine wpAnyH_ready (rs := [35]) (by kernel_rfl) (by simp) ?_
        refine AllReadyH.cons rfl (fun K hK => ?_) (AllReadyH.nil)
        go_simp
        refine (ref_equal_any x.ty x.ty B9 B8 m9 m8 a9 a8 _ HT9.out HT9.out hS.2.1 hS.2.2).mono ?_
        rintro e V1 ⟨rfl, hb1⟩
        rw [Ty.eqv_refl]
        have HB3 := Lib.hid hb1
        have SS := And.intro (And.intro (hS.1.1.later hb1) (And.intro (hS.1.2.1.later hb1) ((hb1.cell (cell_lt hS.1.2.2)).trans hS.1.2.2))) (And.intro (Here.later hS.2.1 hb1) (Here.later hS.2.2 hb1))
        clear hb1
        refine hK.out _ _ SS (fun hS => ?_)
        clear hK K SS
        try simp only [Act.put, List.getElem_toArray, List.getElem_cons_zero, List.getElem_cons_succ, List.setIfInBounds_toArray, List.set_cons_zero, List.set_cons_succ]
        refine wpAnyH_take (i := 36) (v := ?_) rfl (by kernel_rfl) (by kernel_rfl) (by kernel_rfl) (fun _ _ _ h => h) (Or.inl ⟨by rfl, ?_⟩) (by assumption) ?_
        rotate_left
        · (intro V hV; go_simp; try with_reducible rfl)
        try simp only [Act.put, List.getElem_toArray, List.getElem_cons_zero, List.getElem_cons_succ, List.setIfInBounds_toArray, List.set_cons_zero, List.set_cons_succ]
        refine wpAnyH_take (i := 37) (v := ?_) rfl (by kernel_rfl) (by kernel_rfl) (by kernel_rfl) (fun _ _ _ h => h) (Or.inl ⟨by rfl, ?_⟩) (by assumption) ?_
        rotate_left
        · (intro V hV; go_simp; try with_reducible rfl)
        try simp only [Act.put, List.getElem_toArray, List.getElem_cons_zero, List.getElem_cons_succ, List.setIfInBounds_toArray, List.set_cons_zero, List.set_cons_succ]
        refine wpAnyH_done (by kernel_rfl) ?_ _
        clear hS
        go_wp2_with fail
        go_roundw
        case rel => exact ⟨k + 1, by omega, by go_num, HBL.out.trans ((HB2D.out.trans (HB3.out.mono HB2D.out.size)).mono HBL.out.size)⟩
        case measure => simp [intOf]; omega
      · have y2 : (m : Int) ≤ k := by omega
        obtain ⟨j, hj⟩ : ∃ j, k = m + j := ⟨k - m, by omega⟩
        have hjl : j < l := by have := HQ.out; omega
        have y3 : (k : Int) - (m : Int) = j := by omega
        have y4 : (0 : Int) ≤ j := by omega
        have y5 : (j : Int) < l := by omega
        obtain ⟨pa, x8, ps, rfl, hx8, _, _, hu8, hc8⟩ := dat_at HSR.out.two hjl
        obtain rfl : x = x8 := Option.some.inj ((HXK.out.symm.trans (by rw [HZ.out, List.getElem?_append_right (by rw [HXL.out]; omega), HXL.out, show k - m = j by omega])).trans hx8)
        obtain ⟨B8, m8, a8, rfl, _, hty8, hta8⟩ := fo_open hu8
        obtain ⟨W1, W2, hP1, ht1, hW2, hb2, hbx2⟩ := putTwo 48 wr (us := [.string x.name, .string x.ty.name, .slice B8 m8 a8, .int .i64 x.ty.off, .int .i64 x.off]) rfl
        have HPP := Lib.hid hP1
        have HC8 := Lib.hid (hc8.later hP1.bel)
        have HYW := Lib.hid (show wrap64 (j : Int) = (j : Int) from wrap64_inJ _ (by have := HL.out; omega))
        have HTH := Lib.hid ht1
        have HW2 := Lib.hid hW2
        have HX2 := Lib.hid hbx2
        have HB2 := Lib.hid hb2
        have HA8 := Lib.hid (Here.later (show Here wr B8 m8 x.ty.args from hta8) hb2)
        clear hx8 hu8 hc8 hty8 hta8 hP1 ht1 hW2 hb2 hbx2 hkm hj hjl
        go_upto_region 11 with (refine storeOp flatFo 8 48 (b := wr.heap.size) (o := 0) (us := [.string ⟨#[]⟩, .string ⟨#[]⟩, .slice none 0 0, .int .i64 0, .int .i64 0]) rfl rfl HPP.out.there five_oneB rfl ?_; rw [HPP.out.eq])
        have HY := Lib.hid (And.intro y3 (And.intro y4 y5))
        have HY0 := Lib.hid (And.intro y0 y9)
        clear y0 y9 y3 y4 y5
        go_upto_region 13 with fail
        obtain ⟨y3, y4, y5⟩ := HY.out
        have y6 := HYW.out
        go_upto_region 14 with (first
          | (refine loadOp flatFo 62 63 rfl HC8.out rfl ?_)
          | (refine storeOp flatFo 8 63 (b := wr.heap.size) (o := 0) (us := [.string x.name, .string x.ty.name, .slice B8 m8 a8, .int .i64 x.ty.off, .int .i64 x.off]) rfl rfl HTH.out five_oneB rfl ?_; rw [HW2.out]))
        clear y2 y3 y4 y5 y6
        obtain ⟨y0, y9⟩ := HY0.out
        go_wp2_with fail
        have HB2D := Lib.hid (HB2.out.trans ((Below.refl W2.heap.size W2).drew.mono HB2.out.size))
        refine wp_region_held_drew (S := fun V => (CellsAt V (pu.add (k * 5)) [.string x.name, .string x.ty.name, .slice B9 m9 a9, .int .i64 x.ty.off, .int .i64 x.off] ∧ Boxd V wr.heap.size [.string x.name, .string x.ty.name, .slice B8 m8 a8, .int .i64 x.ty.off, .int .i64 x.off] ∧ V.cell? (pn.add k) = some (.string x.name)) ∧ Here V B9 m9 x.ty.args ∧ Here V B8 m8 x.ty.args) (by kernel_rfl) ⟨⟨HC9.out.later HB2D.out, HX2.out.later (Below.refl _ _).drew, (HB2D.out.cell (cell_lt HN9.out)).trans HN9.out⟩, Here.later HA9.out HB2D.out, Here.later HA8.out (Below.refl _ _).drew⟩ (fun hS => ?_)
        refine wpAnyH_take (i := 0) (v := ?_) rfl (by kernel_rfl) (by kernel_rfl) (by kernel_rfl) (fun _ _ _ h => h) (Or.inl ⟨by rfl, ?_⟩) (by assumption) ?_
        rotate_left
        · (intro V hV; go_simp; try with_reducible rfl)
        try simp only [Act.put, List.getElem_toArray, List.getElem_cons_zero, List.setIfInBounds_toArray, List.set_cons_zero, List.set_cons_succ]
        refine wpAnyH_take (i := 1) (v := ?_) rfl (by kernel_rfl) (by kernel_rfl) (by kernel_rfl) (fun _ _ _ h => h) (Or.inl ⟨by rfl, ?_⟩) (by assumption) ?_
        rotate_left
        · (intro V hV; go_simp; try with_reducible rfl)
        try simp only [Act.put, List.getElem_toArray, List.getElem_cons_zero, List.getElem_cons_succ, List.setIfInBounds_toArray, List.set_cons_zero, List.set_cons_succ]
        refine wpAnyH_take (i := 2) (v := ?_) rfl (by kernel_rfl) (by kernel_rfl) (by kernel_rfl) (fun _ _ _ h => h) (Or.inl ⟨by rfl, ?_⟩) (by assumption) ?_
        rotate_left
        · (intro V hV; go_simp; try with_reducible rfl)
        try simp only [Act.put, List.getElem_toArray, List.getElem_cons_zero, List.getElem_cons_succ, List.setIfInBounds_toArray, List.set_cons_zero, List.set_cons_succ]
        refine wpAnyH_take (i := 3) (v := ?_) rfl (by kernel_rfl) (by kernel_rfl) (by kernel_rfl) (fun _ _ _ h => h) (Or.inl ⟨by rfl, ?_⟩) (by assumption) ?_
        rotate_left
        · (intro V hV; go_simp; try with_reducible rfl)
        try simp only [Act.put, List.getElem_toArray, List.getElem_cons_zero, List.getElem_cons_succ, List.setIfInBounds_toArray, List.set_cons_zero, List.set_cons_succ]
        refine wpAnyH_take (i := 4) (v := ?_) rfl (by kernel_rfl) (by kernel_rfl) (by kernel_rfl) (fun _ _ _ h => h) (Or.inl ⟨by rfl, ?_⟩) (by assumption) ?_
        rotate_left
        · (intro V hV; obtain ⟨⟨kc, kb, kn⟩, _, _⟩ := hV; obtain ⟨c0, _, _, _, c4⟩ := cells5_at kc; obtain ⟨b0, _, _, _, b4⟩ := kb.c5; go_simp; try with_reducible rfl)
        try simp only [Act.put, List.getElem_toArray, List.getElem_cons_zero, List.getElem_cons_succ, List.setIfInBounds_toArray, List.set_cons_zero, List.set_cons_succ]
        refine wpAnyH_take (i := 5) (v := ?_) rfl (by kernel_rfl) (by kernel_rfl) (by kernel_rfl) (fun _ _ _ h => h) (Or.inl ⟨by rfl, ?_⟩) (by assumption) ?_
        rotate_left
        · (intro V hV; go_simp; try with_reducible rfl)
        try simp only [Act.put, List.getElem_toArray, List.getElem_cons_zero, List.getElem_cons_succ, List.setIfInBounds_toArray, List.set_cons_zero, List.set_cons_succ]
        refine wpAnyH_take (i := 6) (v := ?_) rfl (by kernel_rfl) (by kernel_rfl) (by kernel_rfl) (fun _ _ _ h => h) (Or.inl ⟨by rfl, ?_⟩) (by assumption) ?_
        rotate_left
        · (intro V hV; obtain ⟨⟨kc, kb, kn⟩, _, _⟩ := hV; obtain ⟨c0, _, _, _, c4⟩ := cells5_at kc; obtain ⟨b0, _, _, _, b4⟩ := kb.c5; go_simp; try with_reducible rfl)
        try simp only [Act.put, List.getElem_toArray, List.getElem_cons_zero, List.getElem_cons_succ, List.setIfInBounds_toArray, List.set_cons_zero, List.set_cons_succ]
        refine wpAnyH_take (i := 7) (v := ?_) rfl (by kernel_rfl) (by kernel_rfl) (by kernel_rfl) (fun _ _ _ h => h) (Or.inl ⟨by rfl, ?_⟩) (by assumption) ?_
        rotate_left
        · (intro V hV; go_simp; try with_reducible rfl)
        try simp only [Act.put, List.getElem_toArray, List.getElem_cons_zero, List.getElem_cons_succ, List.setIfInBounds_toArray, List.set_cons_zero, List.set_cons_succ]
        refine wpAnyH_take (i := 8) (v := ?_) rfl (by kernel_rfl) (by kernel_rfl) (by kernel_rfl) (fun _ _ _ h => h) (Or.inl ⟨by rfl, ?_⟩) (by assumption) ?_
        rotate_left
        · (intro V hV; go_simp; try with_reducible rfl)
        try simp only [Act.put, List.getElem_toArray, List.getElem_cons_zero, List.getElem_cons_succ, List.setIfInBounds_toArray, List.set_cons_zero, List.set_cons_succ]
        refine wpAnyH_take (i := 9) (v := ?_) rfl (by kernel_rfl) (by kernel_rfl) (by kernel_rfl) (fun _ _ _ h => h) (Or.inl ⟨by rfl, ?_⟩) (by assumption) ?_
        rotate_left
        · (intro V hV; go_simp; try with_reducible rfl)
        try simp only [Act.put, List.getElem_toArray, List.getElem_cons_zero, List.getElem_cons_succ, List.setIfInBounds_toArray, List.set_cons_zero, List.set_cons_succ]
        refine wpAnyH_take (i := 10) (v := ?_) rfl (by kernel_rfl) (by kernel_rfl) (by kernel_rfl) (fun _ _ _ h => h) (Or.inl ⟨by rfl, ?_⟩) (by assumption) ?_
        rotate_left
        · (intro V hV; go_simp; try with_reducible rfl)
        try simp only [Act.put, List.getElem_toArray, List.getElem_cons_zero, List.getElem_cons_succ, List.setIfInBounds_toArray, List.set_cons_zero, List.set_cons_succ]
        refine wpAnyH_take (i := 11) (v := ?_) rfl (by kernel_rfl) (by kernel_rfl) (by kernel_rfl) (fun _ _ _ h => h) (Or.inl ⟨by rfl, ?_⟩) (by assumption) ?_
        rotate_left
        · (intro V hV; go_simp; try with_reducible rfl)
        try simp only [Act.put, List.getElem_toArray, List.getElem_cons_zero, List.getElem_cons_succ, List.setIfInBounds_toArray, List.set_cons_zero, List.set_cons_succ]
        refine wpAnyH_take (i := 12) (v := ?_) rfl (by kernel_rfl) (by kernel_rfl) (by kernel_rfl) (fun _ _ _ h => h) (Or.inl ⟨by rfl, ?_⟩) (by assumption) ?_
        rotate_left
        · (intro V hV; go_simp; try with_reducible rfl)
        try simp only [Act.put, List.getElem_toArray, List.getElem_cons_zero, List.getElem_cons_succ, List.setIfInBounds_toArray, List.set_cons_zero, List.set_cons_succ]
        refine wpAnyH_take (i := 13) (v := ?_) rfl (by kernel_rfl) (by kernel_rfl) (by kernel_rfl) (fun _ _ _ h => h) (Or.inl ⟨by rfl, ?_⟩) (by assumption) ?_
        rotate_left
        · (intro V hV; obtain ⟨⟨kc, kb, kn⟩, _, _⟩ := hV; obtain ⟨c0, _, _, _, c4⟩ := cells5_at kc; obtain ⟨b0, _, _, _, b4⟩ := kb.c5; go_simp; try with_reducible rfl)
        try simp only [Act.put, List.getElem_toArray, List.getElem_cons_zero, List.getElem_cons_succ, List.setIfInBounds_toArray, List.set_cons_zero, List.set_cons_succ]
        refine wpAnyH_take (i := 14) (v := ?_) rfl (by kernel_rfl) (by kernel_rfl) (by kernel_rfl) (fun _ _ _ h => h) (Or.inl ⟨by rfl, ?_⟩) (by assumption) ?_
        rotate_left
        · (intro V hV; go_simp; try with_reducible rfl)
        try simp only [Act.put, List.getElem_toArray, List.getElem_cons_zero, List.getElem_cons_succ, List.setIfInBounds_toArray, List.set_cons_zero, List.set_cons_succ]
        refine wpAnyH_take (i := 15) (v := ?_) rfl (by kernel_rfl) (by kernel_rfl) (by kernel_rfl) (fun _ _ _ h => h) (Or.inl ⟨by rfl, ?_⟩) (by assumption) ?_
        rotate_left
        · (intro V hV; obtain ⟨⟨kc, kb, kn⟩, _, _⟩ := hV; obtain ⟨c0, _, _, _, c4⟩ := cells5_at kc; obtain ⟨b0, _, _, _, b4⟩ := kb.c5; go_simp; try with_reducible rfl)
        try simp only [Act.put, List.getElem_toArray, List.getElem_cons_zero, List.getElem_cons_succ, List.setIfInBounds_toArray, List.set_cons_zero, List.set_cons_succ]
        refine wpAnyH_take (i := 16) (v := ?_) rfl (by kernel_rfl) (by kernel_rfl) (by kernel_rfl) (fun _ _ _ h => h) (Or.inl ⟨by rfl, ?_⟩) (by assumption) ?_
        rotate_left
        · (intro V hV; go_simp; try with_reducible rfl)
        try simp only [Act.put, List.getElem_toArray, List.getElem_cons_zero, List.getElem_cons_succ, List.setIfInBounds_toArray, List.set_cons_zero, List.set_cons_succ]
        refine wpAnyH_take (i := 17) (v := ?_) rfl (by kernel_rfl) (by kernel_rfl) (by kernel_rfl) (fun _ _ _ h => h) (Or.inl ⟨by rfl, ?_⟩) (by assumption) ?_
        rotate_left
        · (intro V hV; go_simp; try with_reducible rfl)
        try simp only [Act.put, List.getElem_toArray, List.getElem_cons_zero, List.getElem_cons_succ, List.setIfInBounds_toArray, List.set_cons_zero, List.set_cons_succ]
        refine wpAnyH_take (i := 18) (v := ?_) rfl (by kernel_rfl) (by kernel_rfl) (by kernel_rfl) (fun _ _ _ h => h) (Or.inl ⟨by rfl, ?_⟩) (by assumption) ?_
        rotate_left
        · (intro V hV; go_simp; try with_reducible rfl)
        try simp only [Act.put, List.getElem_toArray, List.getElem_cons_zero, List.getElem_cons_succ, List.setIfInBounds_toArray, List.set_cons_zero, List.set_cons_succ]
        refine wpAnyH_take (i := 19) (v := ?_) rfl (by kernel_rfl) (by kernel_rfl) (by kernel_rfl) (fun _ _ _ h => h) (Or.inl ⟨by rfl, ?_⟩) (by assumption) ?_
        rotate_left
        · (intro V hV; go_simp; try with_reducible rfl)
        try simp only [Act.put, List.getElem_toArray, List.getElem_cons_zero, List.getElem_cons_succ, List.setIfInBounds_toArray, List.set_cons_zero, List.set_cons_succ]
        refine wpAnyH_take (i := 20) (v := ?_) rfl (by kernel_rfl) (by kernel_rfl) (by kernel_rfl) (fun _ _ _ h => h) (Or.inl ⟨by rfl, ?_⟩) (by assumption) ?_
        rotate_left
        · (intro V hV; go_simp; try with_reducible rfl)
        try simp only [Act.put, List.getElem_toArray, List.getElem_cons_zero, List.getElem_cons_succ, List.setIfInBounds_toArray, List.set_cons_zero, List.set_cons_succ]
        refine wpAnyH_take (i := 21) (v := ?_) rfl (by kernel_rfl) (by kernel_rfl) (by kernel_rfl) (fun _ _ _ h => h) (Or.inl ⟨by rfl, ?_⟩) (by assumption) ?_
        rotate_left
        · (intro V hV; go_simp; try with_reducible rfl)
        try simp only [Act.put, List.getElem_toArray, List.getElem_cons_zero, List.getElem_cons_succ, List.setIfInBounds_toArray, List.set_cons_zero, List.set_cons_succ]
        refine wpAnyH_take (i := 22) (v := ?_) rfl (by kernel_rfl) (by kernel_rfl) (by kernel_rfl) (fun _ _ _ h => h) (Or.inl ⟨by rfl, ?_⟩) (by assumption) ?_
        rotate_left
        · (intro V hV; obtain ⟨⟨kc, kb, kn⟩, _, _⟩ := hV; obtain ⟨c0, _, _, _, c4⟩ := cells5_at kc; obtain ⟨b0, _, _, _, b4⟩ := kb.c5; go_simp; try with_reducible rfl)
        try simp only [Act.put, List.getElem_toArray, List.getElem_cons_zero, List.getElem_cons_succ, List.setIfInBounds_toArray, List.set_cons_zero, List.set_cons_succ]
        refine wpAnyH_take (i := 23) (v := ?_) rfl (by kernel_rfl) (by kernel_rfl) (by kernel_rfl) (fun _ _ _ h => h) (Or.inl ⟨by rfl, ?_⟩) (by assumption) ?_
        rotate_left
        · (intro V hV; go_simp; try with_reducible rfl)
        try simp only [Act.put, List.getElem_toArray, List.getElem_cons_zero, List.getElem_cons_succ, List.setIfInBounds_toArray, List.set_cons_zero, List.set_cons_succ]
        refine wpAnyH_take (i := 24) (v := ?_) rfl (by kernel_rfl) (by kernel_rfl) (by kernel_rfl) (fun _ _ _ h => h) (Or.inl ⟨by rfl, ?_⟩) (by assumption) ?_
        rotate_left
        · (intro V hV; obtain ⟨⟨kc, kb, kn⟩, _, _⟩ := hV; obtain ⟨c0, _, _, _, c4⟩ := cells5_at kc; obtain ⟨b0, _, _, _, b4⟩ := kb.c5; go_simp; try with_reducible rfl)
        try simp only [Act.put, List.getElem_toArray, List.getElem_cons_zero, List.getElem_cons_succ, List.setIfInBounds_toArray, List.set_cons_zero, List.set_cons_succ]
        refine wpAnyH_take (i := 25) (v := ?_) rfl (by kernel_rfl) (by kernel_rfl) (by kernel_rfl) (fun _ _ _ h => h) (Or.inl ⟨by rfl, ?_⟩) (by assumption) ?_
        rotate_left
        · (intro V hV; go_simp; try with_reducible rfl)
        try simp only [Act.put, List.getElem_toArray, List.getElem_cons_zero, List.getElem_cons_succ, List.setIfInBounds_toArray, List.set_cons_zero, List.set_cons_succ]
        refine wpAnyH_take (i := 26) (v := ?_) rfl (by kernel_rfl) (by kernel_rfl) (by kernel_rfl) (fun _ _ _ h => h) (Or.inl ⟨by rfl, ?_⟩) (by assumption) ?_
        rotate_left
        · (intro V hV; go_simp; try with_reducible rfl)
        try simp only [Act.put, List.getElem_toArray, List.getElem_cons_zero, List.getElem_cons_succ, List.setIfInBounds_toArray, List.set_cons_zero, List.set_cons_succ]
        refine wpAnyH_take (i := 27) (v := ?_) rfl (by kernel_rfl) (by kernel_rfl) (by kernel_rfl) (fun _ _ _ h => h) (Or.inl ⟨by rfl, ?_⟩) (by assumption) ?_
        rotate_left
        · (intro V hV; go_simp; try with_reducible rfl)
        try simp only [Act.put, List.getElem_toArray, List.getElem_cons_zero, List.getElem_cons_succ, List.setIfInBounds_toArray, List.set_cons_zero, List.set_cons_succ]
        refine wpAnyH_take (i := 28) (v := ?_) rfl (by kernel_rfl) (by kernel_rfl) (by kernel_rfl) (fun _ _ _ h => h) (Or.inl ⟨by rfl, ?_⟩) (by assumption) ?_
        rotate_left
        · (intro V hV; go_simp; try with_reducible rfl)
        try simp only [Act.put, List.getElem_toArray, List.getElem_cons_zero, List.getElem_cons_succ, List.setIfInBounds_toArray, List.set_cons_zero, List.set_cons_succ]
        refine wpAnyH_take (i := 29) (v := ?_) rfl (by kernel_rfl) (by kernel_rfl) (by kernel_rfl) (fun _ _ _ h => h) (Or.inl ⟨by rfl, ?_⟩) (by assumption) ?_
        rotate_left
        · (intro V hV; go_simp; try with_reducible rfl)
        try simp only [Act.put, List.getElem_toArray, List.getElem_cons_zero, List.getElem_cons_succ, List.setIfInBounds_toArray, List.set_cons_zero, List.set_cons_succ]
        refine wpAnyH_take (i := 30) (v := ?_) rfl (by kernel_rfl) (by kernel_rfl) (by kernel_rfl) (fun _ _ _ h => h) (Or.inl ⟨by rfl, ?_⟩) (by assumption) ?_
        rotate_left
        · (intro V hV; go_simp; try with_reducible rfl)
        try simp only [Act.put, List.getElem_toArray, List.getElem_cons_zero, List.getElem_cons_succ, List.setIfInBounds_toArray, List.set_cons_zero, List.set_cons_succ]
        refine wpAnyH_take (i := 31) (v := ?_) rfl (by kernel_rfl) (by kernel_rfl) (by kernel_rfl) (fun _ _ _ h => h) (Or.inl ⟨by rfl, ?_⟩) (by assumption) ?_
        rotate_left
        · (intro V hV; go_simp; try with_reducible rfl)
        try simp only [Act.put, List.getElem_toArray, List.getElem_cons_zero, List.getElem_cons_succ, List.setIfInBounds_toArray, List.set_cons_zero, List.set_cons_succ]
        refine wpAnyH_take (i := 32) (v := .agg ([.string x.ty.name, .slice B9 m9 a9, .int .i64 x.ty.off] : List Value).toArray) rfl (by kernel_rfl) (by kernel_rfl) (by kernel_rfl) (fun _ _ _ h => h) (Or.inl ⟨by rfl, fun V hV => loadYieldB flatTy3 rfl (fo_midB hV.1.1) rfl⟩) (by assumption) ?_
        try simp only [Act.put, List.getElem_toArray, List.getElem_cons_zero, List.getElem_cons_succ, List.setIfInBounds_toArray, List.set_cons_zero, List.set_cons_succ]
        refine wpAnyH_take (i := 33) (v := ?_) rfl (by kernel_rfl) (by kernel_rfl) (by kernel_rfl) (fun _ _ _ h => h) (Or.inl ⟨by rfl, ?_⟩) (by assumption) ?_
        rotate_left
        · (intro V hV; go_simp; try with_reducible rfl)
        try simp only [Act.put, List.getElem_toArray, List.getElem_cons_zero, List.getElem_cons_succ, List.setIfInBounds_toArray, List.set_cons_zero, List.set_cons_succ]
        refine wpAnyH_take (i := 34) (v := .agg ([.string x.ty.name, .slice B8 m8 a8, .int .i64 x.ty.off] : List Value).toArray) rfl (by kernel_rfl) (by kernel_rfl) (by kernel_rfl) (fun _ _ _ h => h) (Or.inl ⟨by rfl, fun V hV => loadYieldB flatTy3 rfl (boxd_mid hV.1.2.1) rfl⟩) (by assumption) ?_
        try simp only [Act.put, List.getElem_toArray, List.getElem_cons_zero, List.getElem_cons_succ, List.setIfInBounds_toArray, List.set_cons_zero, List.set_cons_succ]
        refine wpAnyH_ready (rs := [35]) (by kernel_rfl) (by simp) ?_
        refine AllReadyH.cons rfl (fun K hK => ?_) (AllReadyH.nil)
        go_simp
        refine (ref_equal_any x.ty x.ty B9 B8 m9 m8 a9 a8 _ HT9.out HT9.out hS.2.1 hS.2.2).mono ?_
        rintro e V1 ⟨rfl, hb1⟩
        rw [Ty.eqv_refl]
        have HB3 := Lib.hid hb1
        have SS := And.intro (And.intro (hS.1.1.later hb1) (And.intro (hS.1.2.1.later hb1) ((hb1.cell (cell_lt hS.1.2.2)).trans hS.1.2.2))) (And.intro (Here.later hS.2.1 hb1) (Here.later hS.2.2 hb1))
        clear hb1
        refine hK.out _ _ SS (fun hS => ?_)
        clear hK K SS
        try simp only [Act.put, List.getElem_toArray, List.getElem_cons_zero, List.getElem_cons_succ, List.setIfInBounds_toArray, List.set_cons_zero, List.set_cons_succ]
        refine wpAnyH_take (i := 36) (v := ?_) rfl (by kernel_rfl) (by kernel_rfl) (by kernel_rfl) (fun _ _ _ h => h) (Or.inl ⟨by rfl, ?_⟩) (by assumption) ?_
        rotate_left
        · (intro V hV; go_simp; try with_reducible rfl)
        try simp only [Act.put, List.getElem_toArray, List.getElem_cons_zero, List.getElem_cons_succ, List.setIfInBounds_toArray, List.set_cons_zero, List.set_cons_succ]
        refine wpAnyH_take (i := 37) (v := ?_) rfl (by kernel_rfl) (by kernel_rfl) (by kernel_rfl) (fun _ _ _ h => h) (Or.inl ⟨by rfl, ?_⟩) (by assumption) ?_
        rotate_left
        · (intro V hV; go_simp; try with_reducible rfl)
        try simp only [Act.put, List.getElem_toArray, List.getElem_cons_zero, List.getElem_cons_succ, List.setIfInBounds_toArray, List.set_cons_zero, List.set_cons_succ]
        refine wpAnyH_done (by kernel_rfl) ?_ _
        clear hS
        go_wp2_with fail
        go_roundw
        case rel => exact ⟨k + 1, by omega, by go_num, HBL.out.trans ((HB2D.out.trans (HB3.out.mono HB2D.out.size)).mono HBL.out.size)⟩
        case measure => simp [intOf]; omega
    · obtain rfl : k = q := by omega
      have y0 : (k : Int) ≤ k := by omega
      go_wp2_with fail
      go_ret
      exact ⟨rfl, HS.out.bel.trans (HBL.out.mono HS.out.bel.size)⟩
end Go.Proofs.YtkdlidakdknhjaaDoor
