/- The walk of the reference's Text of expressions. The condition: the expression is right, and its text is short. -/
import Derived.Test.YtbeejmlmplgaeaaDoorExG
import Derived.Deep.RegionLaw
namespace Go.Proofs.YtbeejmlmplgaeaaDoor
open Go.RowKit

theorem textC_at {P : List UInt8} {ys : List Ex} {j : Nat} {x : Ex} (h : ys[j]? = some x) : P ++ Ex.textC (ys.take (j + 1)) = P ++ Ex.textC (ys.take j) ++ (if j = 0 then [] else [44, 32]) ++ x.text := by
  rw [Ex.textC_step h]; simp only [List.append_assoc]

set_option maxRecDepth 100000 in
set_option maxHeartbeats 16000000 in
theorem xref_text_any : ∀ (e : Ex) (us : List Value) (w : World), e.right = true → e.text.length ≤ 1000000 → e.dat.H w us → Calls Tryd.prog 13 #[.agg us.toArray] w (TxtPost w e.text) := by
  refine Ex.ind fun k s t ts xs o ih us w hR hlen h => ?_
  obtain ⟨A, m, a, B, l, b, C, r, c, rfl, hs, ht, ha, hb, hc⟩ := ex_open h
  have h1 := OneX.new h 27
  simp only [Ex.kind, Ex.name, Ex.ty, Ex.targs, Ex.kids, Ex.off] at hs ht ha hb hc h1 ⊢
  have hr : (r : Int) ≤ 9223372036854775807 := by have := hc.le; omega
  have hxl := hc.len
  rw [Ex.dats_len] at hxl
  have IH := Lib.hid ih
  have H := Lib.hid h1
  have HR := Lib.hid (Ex.right_kids hR)
  have HA := Lib.hid (Here.later ha h1.bel)
  have HT := Lib.hid (Here.later hb h1.bel)
  have HK := Lib.hid (RowH.later hc h1.bel)
  have hkind := Ex.right_kind hR
  obtain ⟨x0, x1, x2, x3, x4, x5, x6, x7⟩ := H.out.one.c8
  have hsl := Lib.size_eq s
  clear ih h h1 ha hb hc hR
  rcases hkind with rfl | ⟨rfl, hn⟩ | rfl | ⟨rfl, hn⟩ | ⟨rfl, hn⟩
  · rw [Ex.text_var] at hlen ⊢
    go_enter Tryd.func13, Tryd.ntmps13
    go_wp2_with fail
    go_ret
    exact ⟨ret_str (by simp), H.out.bel⟩
  · -- a call
    obtain ⟨x, r2, rfl⟩ : ∃ x r2, xs = x :: r2 := by
      cases xs with
      | nil => simp at hn
      | cons x r2 => exact ⟨x, r2, rfl⟩
    have HTX := Lib.hid (Ex.text_call s t ts x r2 o)
    rw [HTX.out] at hlen
    simp only [List.length_append, List.length_cons, List.length_nil] at hlen hxl
    obtain ⟨p, u, ps, rfl, hx, _, hpb, hu, hcs⟩ := kid_at HK.out (k := 0) (by omega)
    obtain rfl : x = u := by simpa using hx
    have CC := Lib.hid (fun (V : World) (hV : Below (w.alloc (.cells #[.int .i64 2, .string s, .string t.name, .slice A m a, .int .i64 t.off, .slice B l b, .slice (some p) r c, .int .i64 o] 27)).heap.size (w.alloc (.cells #[.int .i64 2, .string s, .string t.name, .slice A m a, .int .i64 t.off, .slice B l b, .slice (some p) r c, .int .i64 o] 27)) V) => IH.out x (by simp) ps V (HR.out x (by simp)) (by omega) (Dat.H.later hu hV))
    obtain ⟨A2, m2, a2, B2, l2, b2, C2, n2, c2, rfl, _⟩ := ex_open hu
    obtain ⟨c0, c1, c3, c4, c5, c6, c7, c8⟩ := cells8_at hcs
    rw [Nat.zero_mul, show p.add 0 = p from rfl] at c0 c1 c3 c4 c5 c6 c7 c8
    clear hx hu hcs
    go_enter Tryd.func13, Tryd.ntmps13
    go_wp2_with fail
    generalize hW : w.alloc (.cells #[.int .i64 2, .string s, .string t.name, .slice A m a, .int .i64 t.off, .slice B l b, .slice (some p) r c, .int .i64 o] 27) = W at *
    clear hW
    generalize hX : x.text = X at *
    have q1 : X.length ≤ 1000000 := by omega
    have q2 : s.size ≤ 1000000 := by omega
    have q3 : (9223372036854775807 < X.length + 1) = False := by simp; omega
    have q4 : (9223372036854775807 < X.length + 1 + s.size) = False := by simp; omega
    have HLEN := Lib.hid hlen
    have HSL := Lib.hid hsl
    have z0 : 0 < r := by omega
    clear hlen hsl
    clear hX
    have SS : Below W.heap.size W W ∧ W.cell? ⟨w.heap.size, 1, none⟩ = some (.string s) ∧ W.cell? ⟨w.heap.size, 6, none⟩ = some (.slice (some p) r c) ∧ W.cell? p = some (.int .i64 x.kind) ∧ W.cell? ⟨p.block, p.off + 1, none⟩ = some (.string x.name) ∧ W.cell? ⟨p.block, p.off + 2, none⟩ = some (.string x.ty.name) ∧ W.cell? ⟨p.block, p.off + 3, none⟩ = some (.slice A2 m2 a2) ∧ W.cell? ⟨p.block, p.off + 4, none⟩ = some (.int .i64 x.ty.off) ∧ W.cell? ⟨p.block, p.off + 5, none⟩ = some (.slice B2 l2 b2) ∧ W.cell? ⟨p.block, p.off + 6, none⟩ = some (.slice C2 n2 c2) ∧ W.cell? ⟨p.block, p.off + 7, none⟩ = some (.int .i64 x.off) := ⟨Below.refl _ _, x1, x6, c0, c1, c3, c4, c5, c6, c7, c8⟩
    have KP := Lib.hid (show ∀ w1 : World, Below W.heap.size W w1 → Below W.heap.size W w1 ∧ w1.cell? ⟨w.heap.size, 1, none⟩ = some (.string s) ∧ w1.cell? ⟨w.heap.size, 6, none⟩ = some (.slice (some p) r c) ∧ w1.cell? p = some (.int .i64 x.kind) ∧ w1.cell? ⟨p.block, p.off + 1, none⟩ = some (.string x.name) ∧ w1.cell? ⟨p.block, p.off + 2, none⟩ = some (.string x.ty.name) ∧ w1.cell? ⟨p.block, p.off + 3, none⟩ = some (.slice A2 m2 a2) ∧ w1.cell? ⟨p.block, p.off + 4, none⟩ = some (.int .i64 x.ty.off) ∧ w1.cell? ⟨p.block, p.off + 5, none⟩ = some (.slice B2 l2 b2) ∧ w1.cell? ⟨p.block, p.off + 6, none⟩ = some (.slice C2 n2 c2) ∧ w1.cell? ⟨p.block, p.off + 7, none⟩ = some (.int .i64 x.off) from fun w1 h => ⟨h, (h.cell (cell_lt x1)).trans x1, (h.cell (cell_lt x6)).trans x6, (h.cell (cell_lt c0)).trans c0, (h.cell (cell_lt c1)).trans c1, (h.cell (cell_lt c3)).trans c3, (h.cell (cell_lt c4)).trans c4, (h.cell (cell_lt c5)).trans c5, (h.cell (cell_lt c6)).trans c6, (h.cell (cell_lt c7)).trans c7, (h.cell (cell_lt c8)).trans c8⟩)
    go_region_held3 (fun V => Below W.heap.size W V ∧ V.cell? ⟨w.heap.size, 1, none⟩ = some (.string s) ∧ V.cell? ⟨w.heap.size, 6, none⟩ = some (.slice (some p) r c) ∧ V.cell? p = some (.int .i64 x.kind) ∧ V.cell? ⟨p.block, p.off + 1, none⟩ = some (.string x.name) ∧ V.cell? ⟨p.block, p.off + 2, none⟩ = some (.string x.ty.name) ∧ V.cell? ⟨p.block, p.off + 3, none⟩ = some (.slice A2 m2 a2) ∧ V.cell? ⟨p.block, p.off + 4, none⟩ = some (.int .i64 x.ty.off) ∧ V.cell? ⟨p.block, p.off + 5, none⟩ = some (.slice B2 l2 b2) ∧ V.cell? ⟨p.block, p.off + 6, none⟩ = some (.slice C2 n2 c2) ∧ V.cell? ⟨p.block, p.off + 7, none⟩ = some (.int .i64 x.off))
      (first | exact SS | exact ⟨SS.1.drew, SS.2⟩)
      (first
        | (go_at_call 13; refine (CC.out _ ?_).mono ?_; (first | exact SS.1 | exact SS.1.drew); rintro e w1 ⟨rfl, hb1⟩; have hb2 : Below W.heap.size W w1 := (by first | exact hb1 | exact (Below.refl _ _).drew.trans hb1); have SS := KP.out w1 hb2; have HB2 := Lib.hid hb2; clear hb1 hb2))
    all_goals
      clear q3 q4 CC c0 c1 c3 c4 c5 c6 c7 c8 x0 x1 x2 x3 x4 x5 x6 x7 SS KP
      have H2 := Lib.hid (H.out.later HB2.out)
      obtain ⟨x0, x1, x2, x3, x4, x5, x6, x7⟩ := H2.out.one.c8
      have hlen := HLEN.out
      have hsl := HSL.out
      have hPe : (({ data := X.toArray } : ByteArray) ++ { data := #[46] } ++ s) = ⟨(X ++ [46] ++ s.data.toList).toArray⟩ := bytes_eq (by simp)
      have hPl : (X ++ [46] ++ s.data.toList).length = X.length + 1 + s.data.toList.length := by simp only [List.length_append, List.length_cons, List.length_nil]
      rw [hPe]
      generalize X ++ [46] ++ s.data.toList = P0 at *
      have q5 : P0.length ≤ 1000002 := by omega
      clear hPe
      have hta : (Ex.targText ts).length ≤ 1000000 := by omega
      have CB := Lib.hid (ref_text_any (.mk ⟨#[]⟩ ts 0) B l b w1 hta (Here.later HT.out HB2.out))
      rw [show Ty.text (.mk ⟨#[]⟩ ts 0) = Ex.targText ts from rfl, show (Ty.mk ⟨#[]⟩ ts 0).name = ⟨#[]⟩ from rfl, show (Ty.mk ⟨#[]⟩ ts 0).off = 0 from rfl] at CB
      go_wp2_with fail
      refine CB.out.mono ?_
      rintro e w4 ⟨rfl, hb4⟩
      have HB4 := Lib.hid (HB2.out.trans (hb4.mono HB2.out.size))
      have H3 := Lib.hid (H2.out.later hb4)
      generalize hG : Ex.targText ts = G at *
      clear hb4 CB H2 x0 x1 x2 x3 x4 x5 x6 x7 hG
      obtain ⟨x0, x1, x2, x3, x4, x5, x6, x7⟩ := H3.out.one.c8
      have q8 : G.length ≤ 1000000 := by omega
      have HPL := Lib.hid hPl
      clear hlen hsl hPl
      go_wp2_with fail
      have hPe2 : (({ data := P0.toArray } : ByteArray) ++ { data := G.toArray } ++ { data := #[40] }) = ⟨(P0 ++ G ++ [40]).toArray⟩ := bytes_eq (by simp)
      have hlen := HLEN.out
      have hsl := HSL.out
      have hPl := HPL.out
      have hPl2 : (P0 ++ G ++ [40]).length + (Ex.textC r2).length ≤ 1000000 := by simp only [List.length_append, List.length_cons, List.length_nil]; omega
      rw [hPe2]
      generalize P0 ++ G ++ [40] = P at *
      clear hPe2 hlen hsl hPl q5 q8
      have hyl : r2.length + 1 = r := by omega
      clear x0 x1 x2 x3 x4 x5 x6 x7
      have HKL := Lib.hid (RowH.later HK.out HB4.out)
      have H4 := Lib.hid (H.out.later HB4.out)
      go_loopw [3, 6] (fun v i wr => ∃ j : Nat, 1 + j ≤ r ∧ i = .int .i64 ((1 + j : Nat) : Int) ∧ v = .string ⟨(P ++ Ex.textC (r2.take j)).toArray⟩ ∧ Below w4.heap.size w4 wr) (fun _ i _ => r - (intOf i).toNat)
      case atStart => exact ⟨0, by omega, rfl, by simp only [List.take_zero, Ex.textC, List.append_nil], Below.refl _ _⟩
      case round =>
        obtain ⟨j, hj, rfl, rfl, hbel⟩ := hrel
        have H5 := Lib.hid (H4.out.later hbel)
        obtain ⟨x0, x1, x2, x3, x4, x5, x6, x7⟩ := H5.out.one.c8
        have HBL := Lib.hid hbel
        have hpk := Ex.textC_take r2 j
        have hpl : (P ++ Ex.textC (r2.take j)).length ≤ 1000000 := by rw [List.length_append]; omega
        by_cases hlt : 1 + j < r
        · have z1 : ((1 + j : Nat) : Int) < r := by omega
          obtain ⟨p2, u, ps, hp2, hx, _, _, hu, hcs⟩ := kid_at (RowH.later HKL.out hbel) hlt
          obtain rfl : p = p2 := by simpa using hp2
          have hy : r2[j]? = some u := by simpa [Nat.add_comm] using hx
          have hmem : u ∈ (x :: r2) := List.mem_of_getElem? hx
          have hle := Ex.textC_take r2 (j + 1)
          rw [Ex.textC_step hy] at hle
          simp only [List.length_append] at hle
          have hst := textC_at (P := P) hy
          have hxt : u.text.length ≤ 1000000 := by omega
          have hjl : (P ++ Ex.textC (r2.take j)).length + 2 ≤ 1000000 + 2 := by omega
          have CC := Lib.hid (IH.out u hmem ps wr (HR.out u hmem) hxt hu)
          obtain ⟨_, _, _, _, _, _, _, _, _, rfl, _⟩ := ex_open hu
          obtain ⟨c0, c1, c2, c3, c4, c5, c6, c7⟩ := cells8_at hcs
          generalize P ++ Ex.textC (r2.take j) = Q at *
          generalize hU : u.text = U at *
          clear hx hy hu hcs hbel hle hU hpk
          by_cases h0 : j = 0
          · rw [if_pos h0, List.append_nil] at hst
            have HST := Lib.hid hst
            have e0 : ((1 + j : Nat) : Int) ≤ (1 : Int) := by omega
            clear hst h0
            go_wp2_with fail
            refine CC.out.mono ?_
            rintro e w5 ⟨rfl, hb5⟩
            have HB5 := Lib.hid (HBL.out.trans (hb5.mono HBL.out.size))
            clear hb5
            go_wp2_with fail
            go_roundw
            case rel =>
              refine ⟨j + 1, by omega, by go_num, ?_, HB5.out⟩
              have := ret_str (a := (⟨Q.toArray⟩ : ByteArray) ++ ⟨U.toArray⟩) (b := ⟨(P ++ Ex.textC (r2.take (j + 1))).toArray⟩) (by rw [Go.Joins.data_append, HST.out])
              injection this
            case measure => simp [intOf]; omega
          · rw [if_neg h0] at hst
            have HST := Lib.hid hst
            have e0 : (1 : Int) < ((1 + j : Nat) : Int) := by omega
            clear hst h0
            go_wp2_with fail
            refine CC.out.mono ?_
            rintro e w5 ⟨rfl, hb5⟩
            have HB5 := Lib.hid (HBL.out.trans (hb5.mono HBL.out.size))
            clear hb5
            go_wp2_with fail
            go_roundw
            case rel =>
              refine ⟨j + 1, by omega, by go_num, ?_, HB5.out⟩
              have := ret_str (a := (⟨Q.toArray⟩ : ByteArray) ++ ⟨#[44, 32]⟩ ++ ⟨U.toArray⟩) (b := ⟨(P ++ Ex.textC (r2.take (j + 1))).toArray⟩) (by rw [Go.Joins.data_append, Go.Joins.data_append, HST.out])
              injection this
            case measure => simp [intOf]; omega
        · have z1 : (r : Int) ≤ ((1 + j : Nat) : Int) := by omega
          rw [List.take_of_length_le (by omega : r2.length ≤ j)] at hpl ⊢
          clear hbel hpk
          have HF := Lib.hid (show Ex.text _ = (P ++ Ex.textC r2) ++ [41] from HTX.out)
          generalize P ++ Ex.textC r2 = Q at *
          go_wp2_with fail
          go_ret
          exact ⟨ret_str (by rw [HF.out, Go.Joins.data_append]), H5.out.bel⟩
  · -- a literal
    have HTX := Lib.hid (Ex.text_lit s t ts xs o)
    rw [HTX.out] at hlen
    simp only [List.length_append, List.length_cons, List.length_nil] at hlen
    have q8 : t.text.length ≤ 1000000 := by omega
    have CB := Lib.hid (ref_text_any t A m a _ q8 HA.out)
    have HLEN := Lib.hid hlen
    clear hlen hsl
    go_enter Tryd.func13, Tryd.ntmps13
    go_wp2_with fail
    refine CB.out.mono ?_
    rintro e w4 ⟨rfl, hb4⟩
    have HB4 := Lib.hid hb4
    have H3 := Lib.hid (H.out.later hb4)
    clear hb4 CB x0 x1 x2 x3 x4 x5 x6 x7
    obtain ⟨x0, x1, x2, x3, x4, x5, x6, x7⟩ := H3.out.one.c8
    have hlen := HLEN.out
    generalize t.text = G at *
    go_wp2_with fail
    have hPe2 : (({ data := G.toArray } : ByteArray) ++ { data := #[123] }) = ⟨(G ++ [123]).toArray⟩ := bytes_eq (by simp)
    have hPl2 : (G ++ [123]).length + (Ex.textC xs).length ≤ 1000000 := by simp only [List.length_append, List.length_cons, List.length_nil]; omega
    rw [hPe2]
    generalize G ++ [123] = P at *
    clear hPe2 hlen q8
    have hyl : xs.length = r := hxl
    clear x0 x1 x2 x3 x4 x5 x6 x7
    have HKL := Lib.hid (RowH.later HK.out HB4.out)
    have H4 := Lib.hid (H.out.later HB4.out)
    go_loopw [3, 6] (fun v i wr => ∃ j : Nat, j ≤ r ∧ i = .int .i64 ((j : Nat) : Int) ∧ v = .string ⟨(P ++ Ex.textC (xs.take j)).toArray⟩ ∧ Below w4.heap.size w4 wr) (fun _ i _ => r - (intOf i).toNat)
    case atStart => exact ⟨0, by omega, rfl, by simp only [List.take_zero, Ex.textC, List.append_nil], Below.refl _ _⟩
    case round =>
      obtain ⟨j, hj, rfl, rfl, hbel⟩ := hrel
      have H5 := Lib.hid (H4.out.later hbel)
      obtain ⟨x0, x1, x2, x3, x4, x5, x6, x7⟩ := H5.out.one.c8
      have HBL := Lib.hid hbel
      have hpk := Ex.textC_take xs j
      have hpl : (P ++ Ex.textC (xs.take j)).length ≤ 1000000 := by rw [List.length_append]; omega
      by_cases hlt : j < r
      · have z1 : ((j : Nat) : Int) < r := by omega
        obtain ⟨p2, u, ps, hp2, hx, _, _, hu, hcs⟩ := kid_at (RowH.later HKL.out hbel) hlt
        subst hp2
        have hy : xs[j]? = some u := by simpa using hx
        have hmem : u ∈ xs := List.mem_of_getElem? hx
        have hle := Ex.textC_take xs (j + 1)
        rw [Ex.textC_step hy] at hle
        simp only [List.length_append] at hle
        have hst := textC_at (P := P) hy
        have hxt : u.text.length ≤ 1000000 := by omega
        have hjl : (P ++ Ex.textC (xs.take j)).length + 2 ≤ 1000000 + 2 := by omega
        have CC := Lib.hid (IH.out u hmem ps wr (HR.out u hmem) hxt hu)
        obtain ⟨_, _, _, _, _, _, _, _, _, rfl, _⟩ := ex_open hu
        obtain ⟨c0, c1, c2, c3, c4, c5, c6, c7⟩ := cells8_at hcs
        generalize P ++ Ex.textC (xs.take j) = Q at *
        generalize hU : u.text = U at *
        clear hx hy hu hcs hbel hle hU hpk
        by_cases h0 : j = 0
        · rw [if_pos h0, List.append_nil] at hst
          have HST := Lib.hid hst
          have e0 : ((j : Nat) : Int) ≤ (0 : Int) := by omega
          clear hst h0
          go_wp2_with fail
          refine CC.out.mono ?_
          rintro e w5 ⟨rfl, hb5⟩
          have HB5 := Lib.hid (HBL.out.trans (hb5.mono HBL.out.size))
          clear hb5
          go_wp2_with fail
          go_roundw
          case rel =>
            refine ⟨j + 1, by omega, by go_num, ?_, HB5.out⟩
            have := ret_str (a := (⟨Q.toArray⟩ : ByteArray) ++ ⟨U.toArray⟩) (b := ⟨(P ++ Ex.textC (xs.take (j + 1))).toArray⟩) (by rw [Go.Joins.data_append, HST.out])
            injection this
          case measure => simp [intOf]; omega
        · rw [if_neg h0] at hst
          have HST := Lib.hid hst
          have e0 : (0 : Int) < ((j : Nat) : Int) := by omega
          clear hst h0
          go_wp2_with fail
          refine CC.out.mono ?_
          rintro e w5 ⟨rfl, hb5⟩
          have HB5 := Lib.hid (HBL.out.trans (hb5.mono HBL.out.size))
          clear hb5
          go_wp2_with fail
          go_roundw
          case rel =>
            refine ⟨j + 1, by omega, by go_num, ?_, HB5.out⟩
            have := ret_str (a := (⟨Q.toArray⟩ : ByteArray) ++ ⟨#[44, 32]⟩ ++ ⟨U.toArray⟩) (b := ⟨(P ++ Ex.textC (xs.take (j + 1))).toArray⟩) (by rw [Go.Joins.data_append, Go.Joins.data_append, HST.out])
            injection this
          case measure => simp [intOf]; omega
      · have z1 : (r : Int) ≤ ((j : Nat) : Int) := by omega
        rw [List.take_of_length_le (by omega : xs.length ≤ j)] at hpl ⊢
        clear hbel hpk
        have HF := Lib.hid (show Ex.text _ = (P ++ Ex.textC xs) ++ [125] from HTX.out)
        generalize P ++ Ex.textC xs = Q at *
        go_wp2_with fail
        go_ret
        exact ⟨ret_str (by rw [HF.out, Go.Joins.data_append]), H5.out.bel⟩
  · -- a selection
    obtain ⟨x, rfl⟩ := List.length_eq_one_iff.1 hn
    rw [Ex.text_field] at hlen ⊢
    simp only [List.length_append, List.length_cons, List.length_nil] at hlen hxl
    subst hxl
    obtain ⟨p, u, ps, rfl, hx, _, hpb, hu, hcs⟩ := kid_at HK.out (k := 0) (by omega)
    obtain rfl : x = u := by simpa using hx
    have CC := Lib.hid (fun (V : World) (hV : Below (w.alloc (.cells #[.int .i64 4, .string s, .string t.name, .slice A m a, .int .i64 t.off, .slice B l b, .slice (some p) 1 c, .int .i64 o] 27)).heap.size (w.alloc (.cells #[.int .i64 4, .string s, .string t.name, .slice A m a, .int .i64 t.off, .slice B l b, .slice (some p) 1 c, .int .i64 o] 27)) V) => IH.out x (by simp) ps V (HR.out x (by simp)) (by omega) (Dat.H.later hu hV))
    obtain ⟨A2, m2, a2, B2, l2, b2, C2, n2, c2, rfl, _⟩ := ex_open hu
    obtain ⟨c0, c1, c3, c4, c5, c6, c7, c8⟩ := cells8_at hcs
    rw [Nat.zero_mul, show p.add 0 = p from rfl] at c0 c1 c3 c4 c5 c6 c7 c8
    clear hx hu hcs
    go_enter Tryd.func13, Tryd.ntmps13
    go_wp2_with fail
    generalize hW : w.alloc (.cells #[.int .i64 4, .string s, .string t.name, .slice A m a, .int .i64 t.off, .slice B l b, .slice (some p) 1 c, .int .i64 o] 27) = W at *
    clear hW
    generalize hX : x.text = X at *
    have q1 : X.length ≤ 1000000 := by omega
    have q2 : s.size ≤ 1000000 := by omega
    have q3 : (9223372036854775807 < X.length + 1) = False := by simp; omega
    have q4 : (9223372036854775807 < X.length + 1 + s.size) = False := by simp; omega
    have HLEN := Lib.hid hlen
    have HSL := Lib.hid hsl
    clear hlen hsl
    clear hX
    have SS : Below W.heap.size W W ∧ W.cell? ⟨w.heap.size, 1, none⟩ = some (.string s) ∧ W.cell? ⟨w.heap.size, 6, none⟩ = some (.slice (some p) 1 c) ∧ W.cell? p = some (.int .i64 x.kind) ∧ W.cell? ⟨p.block, p.off + 1, none⟩ = some (.string x.name) ∧ W.cell? ⟨p.block, p.off + 2, none⟩ = some (.string x.ty.name) ∧ W.cell? ⟨p.block, p.off + 3, none⟩ = some (.slice A2 m2 a2) ∧ W.cell? ⟨p.block, p.off + 4, none⟩ = some (.int .i64 x.ty.off) ∧ W.cell? ⟨p.block, p.off + 5, none⟩ = some (.slice B2 l2 b2) ∧ W.cell? ⟨p.block, p.off + 6, none⟩ = some (.slice C2 n2 c2) ∧ W.cell? ⟨p.block, p.off + 7, none⟩ = some (.int .i64 x.off) := ⟨Below.refl _ _, x1, x6, c0, c1, c3, c4, c5, c6, c7, c8⟩
    have KP := Lib.hid (show ∀ w1 : World, Below W.heap.size W w1 → Below W.heap.size W w1 ∧ w1.cell? ⟨w.heap.size, 1, none⟩ = some (.string s) ∧ w1.cell? ⟨w.heap.size, 6, none⟩ = some (.slice (some p) 1 c) ∧ w1.cell? p = some (.int .i64 x.kind) ∧ w1.cell? ⟨p.block, p.off + 1, none⟩ = some (.string x.name) ∧ w1.cell? ⟨p.block, p.off + 2, none⟩ = some (.string x.ty.name) ∧ w1.cell? ⟨p.block, p.off + 3, none⟩ = some (.slice A2 m2 a2) ∧ w1.cell? ⟨p.block, p.off + 4, none⟩ = some (.int .i64 x.ty.off) ∧ w1.cell? ⟨p.block, p.off + 5, none⟩ = some (.slice B2 l2 b2) ∧ w1.cell? ⟨p.block, p.off + 6, none⟩ = some (.slice C2 n2 c2) ∧ w1.cell? ⟨p.block, p.off + 7, none⟩ = some (.int .i64 x.off) from fun w1 h => ⟨h, (h.cell (cell_lt x1)).trans x1, (h.cell (cell_lt x6)).trans x6, (h.cell (cell_lt c0)).trans c0, (h.cell (cell_lt c1)).trans c1, (h.cell (cell_lt c3)).trans c3, (h.cell (cell_lt c4)).trans c4, (h.cell (cell_lt c5)).trans c5, (h.cell (cell_lt c6)).trans c6, (h.cell (cell_lt c7)).trans c7, (h.cell (cell_lt c8)).trans c8⟩)
    go_region_held3 (fun V => Below W.heap.size W V ∧ V.cell? ⟨w.heap.size, 1, none⟩ = some (.string s) ∧ V.cell? ⟨w.heap.size, 6, none⟩ = some (.slice (some p) 1 c) ∧ V.cell? p = some (.int .i64 x.kind) ∧ V.cell? ⟨p.block, p.off + 1, none⟩ = some (.string x.name) ∧ V.cell? ⟨p.block, p.off + 2, none⟩ = some (.string x.ty.name) ∧ V.cell? ⟨p.block, p.off + 3, none⟩ = some (.slice A2 m2 a2) ∧ V.cell? ⟨p.block, p.off + 4, none⟩ = some (.int .i64 x.ty.off) ∧ V.cell? ⟨p.block, p.off + 5, none⟩ = some (.slice B2 l2 b2) ∧ V.cell? ⟨p.block, p.off + 6, none⟩ = some (.slice C2 n2 c2) ∧ V.cell? ⟨p.block, p.off + 7, none⟩ = some (.int .i64 x.off))
      (first | exact SS | exact ⟨SS.1.drew, SS.2⟩)
      (first
        | (go_at_call 13; refine (CC.out _ ?_).mono ?_; (first | exact SS.1 | exact SS.1.drew); rintro e w1 ⟨rfl, hb1⟩; have hb2 : Below W.heap.size W w1 := (by first | exact hb1 | exact (Below.refl _ _).drew.trans hb1); have SS := KP.out w1 hb2; have HB2 := Lib.hid hb2; clear hb1 hb2))
    all_goals
      clear q3 q4 CC c0 c1 c3 c4 c5 c6 c7 c8 x0 x1 x2 x3 x4 x5 x6 x7 SS KP
      have H2 := Lib.hid (H.out.later HB2.out)
      obtain ⟨x0, x1, x2, x3, x4, x5, x6, x7⟩ := H2.out.one.c8
      have hlen := HLEN.out
      have hsl := HSL.out
      have hPe : (({ data := X.toArray } : ByteArray) ++ { data := #[46] } ++ s) = ⟨(X ++ [46] ++ s.data.toList).toArray⟩ := bytes_eq (by simp)
      have hPl : (X ++ [46] ++ s.data.toList).length = X.length + 1 + s.data.toList.length := by simp only [List.length_append, List.length_cons, List.length_nil]
      rw [hPe]
      generalize X ++ [46] ++ s.data.toList = P0 at *
      have q5 : P0.length ≤ 1000002 := by omega
      clear hPe
      go_wp2
      go_ret
      exact ⟨ret_str (by simp), H2.out.bel⟩
  · -- an assertion
    obtain ⟨x, rfl⟩ := List.length_eq_one_iff.1 hn
    rw [Ex.text_assert] at hlen ⊢
    simp only [List.length_append, List.length_cons, List.length_nil] at hlen hxl
    subst hxl
    obtain ⟨p, u, ps, rfl, hx, _, hpb, hu, hcs⟩ := kid_at HK.out (k := 0) (by omega)
    obtain rfl : x = u := by simpa using hx
    have CC := Lib.hid (fun (V : World) (hV : Below (w.alloc (.cells #[.int .i64 5, .string s, .string t.name, .slice A m a, .int .i64 t.off, .slice B l b, .slice (some p) 1 c, .int .i64 o] 27)).heap.size (w.alloc (.cells #[.int .i64 5, .string s, .string t.name, .slice A m a, .int .i64 t.off, .slice B l b, .slice (some p) 1 c, .int .i64 o] 27)) V) => IH.out x (by simp) ps V (HR.out x (by simp)) (by omega) (Dat.H.later hu hV))
    obtain ⟨A2, m2, a2, B2, l2, b2, C2, n2, c2, rfl, _⟩ := ex_open hu
    obtain ⟨c0, c1, c3, c4, c5, c6, c7, c8⟩ := cells8_at hcs
    rw [Nat.zero_mul, show p.add 0 = p from rfl] at c0 c1 c3 c4 c5 c6 c7 c8
    clear hx hu hcs
    go_enter Tryd.func13, Tryd.ntmps13
    go_wp2_with fail
    generalize hW : w.alloc (.cells #[.int .i64 5, .string s, .string t.name, .slice A m a, .int .i64 t.off, .slice B l b, .slice (some p) 1 c, .int .i64 o] 27) = W at *
    clear hW
    generalize hX : x.text = X at *
    have q1 : X.length ≤ 1000000 := by omega
    have q2 : s.size ≤ 1000000 := by omega
    have q3 : (9223372036854775807 < X.length + 1) = False := by simp; omega
    have q4 : (9223372036854775807 < X.length + 1 + s.size) = False := by simp; omega
    have HLEN := Lib.hid hlen
    have HSL := Lib.hid hsl
    clear hlen hsl
    clear hX
    have SS : Below W.heap.size W W ∧ W.cell? ⟨w.heap.size, 1, none⟩ = some (.string s) ∧ W.cell? ⟨w.heap.size, 6, none⟩ = some (.slice (some p) 1 c) ∧ W.cell? p = some (.int .i64 x.kind) ∧ W.cell? ⟨p.block, p.off + 1, none⟩ = some (.string x.name) ∧ W.cell? ⟨p.block, p.off + 2, none⟩ = some (.string x.ty.name) ∧ W.cell? ⟨p.block, p.off + 3, none⟩ = some (.slice A2 m2 a2) ∧ W.cell? ⟨p.block, p.off + 4, none⟩ = some (.int .i64 x.ty.off) ∧ W.cell? ⟨p.block, p.off + 5, none⟩ = some (.slice B2 l2 b2) ∧ W.cell? ⟨p.block, p.off + 6, none⟩ = some (.slice C2 n2 c2) ∧ W.cell? ⟨p.block, p.off + 7, none⟩ = some (.int .i64 x.off) := ⟨Below.refl _ _, x1, x6, c0, c1, c3, c4, c5, c6, c7, c8⟩
    have KP := Lib.hid (show ∀ w1 : World, Below W.heap.size W w1 → Below W.heap.size W w1 ∧ w1.cell? ⟨w.heap.size, 1, none⟩ = some (.string s) ∧ w1.cell? ⟨w.heap.size, 6, none⟩ = some (.slice (some p) 1 c) ∧ w1.cell? p = some (.int .i64 x.kind) ∧ w1.cell? ⟨p.block, p.off + 1, none⟩ = some (.string x.name) ∧ w1.cell? ⟨p.block, p.off + 2, none⟩ = some (.string x.ty.name) ∧ w1.cell? ⟨p.block, p.off + 3, none⟩ = some (.slice A2 m2 a2) ∧ w1.cell? ⟨p.block, p.off + 4, none⟩ = some (.int .i64 x.ty.off) ∧ w1.cell? ⟨p.block, p.off + 5, none⟩ = some (.slice B2 l2 b2) ∧ w1.cell? ⟨p.block, p.off + 6, none⟩ = some (.slice C2 n2 c2) ∧ w1.cell? ⟨p.block, p.off + 7, none⟩ = some (.int .i64 x.off) from fun w1 h => ⟨h, (h.cell (cell_lt x1)).trans x1, (h.cell (cell_lt x6)).trans x6, (h.cell (cell_lt c0)).trans c0, (h.cell (cell_lt c1)).trans c1, (h.cell (cell_lt c3)).trans c3, (h.cell (cell_lt c4)).trans c4, (h.cell (cell_lt c5)).trans c5, (h.cell (cell_lt c6)).trans c6, (h.cell (cell_lt c7)).trans c7, (h.cell (cell_lt c8)).trans c8⟩)
    go_region_held3 (fun V => Below W.heap.size W V ∧ V.cell? ⟨w.heap.size, 1, none⟩ = some (.string s) ∧ V.cell? ⟨w.heap.size, 6, none⟩ = some (.slice (some p) 1 c) ∧ V.cell? p = some (.int .i64 x.kind) ∧ V.cell? ⟨p.block, p.off + 1, none⟩ = some (.string x.name) ∧ V.cell? ⟨p.block, p.off + 2, none⟩ = some (.string x.ty.name) ∧ V.cell? ⟨p.block, p.off + 3, none⟩ = some (.slice A2 m2 a2) ∧ V.cell? ⟨p.block, p.off + 4, none⟩ = some (.int .i64 x.ty.off) ∧ V.cell? ⟨p.block, p.off + 5, none⟩ = some (.slice B2 l2 b2) ∧ V.cell? ⟨p.block, p.off + 6, none⟩ = some (.slice C2 n2 c2) ∧ V.cell? ⟨p.block, p.off + 7, none⟩ = some (.int .i64 x.off))
      (first | exact SS | exact ⟨SS.1.drew, SS.2⟩)
      (first
        | (go_at_call 13; refine (CC.out _ ?_).mono ?_; (first | exact SS.1 | exact SS.1.drew); rintro e w1 ⟨rfl, hb1⟩; have hb2 : Below W.heap.size W w1 := (by first | exact hb1 | exact (Below.refl _ _).drew.trans hb1); have SS := KP.out w1 hb2; have HB2 := Lib.hid hb2; clear hb1 hb2))
    all_goals
      clear q3 q4 CC c0 c1 c3 c4 c5 c6 c7 c8 x0 x1 x2 x3 x4 x5 x6 x7 SS KP
      have H2 := Lib.hid (H.out.later HB2.out)
      obtain ⟨x0, x1, x2, x3, x4, x5, x6, x7⟩ := H2.out.one.c8
      have hlen := HLEN.out
      have hsl := HSL.out
      have hPe : (({ data := X.toArray } : ByteArray) ++ { data := #[46] } ++ s) = ⟨(X ++ [46] ++ s.data.toList).toArray⟩ := bytes_eq (by simp)
      have hPl : (X ++ [46] ++ s.data.toList).length = X.length + 1 + s.data.toList.length := by simp only [List.length_append, List.length_cons, List.length_nil]
      rw [hPe]
      generalize X ++ [46] ++ s.data.toList = P0 at *
      have q5 : P0.length ≤ 1000002 := by omega
      clear hPe
      have CB := Lib.hid (ref_text_any t A m a w1 (by omega) (Here.later HA.out HB2.out))
      have q8 : t.text.length ≤ 1000000 := by omega
      clear hlen hsl hPl
      go_wp2_with fail
      refine CB.out.mono ?_
      rintro e w4 ⟨rfl, hb4⟩
      have HB4 := Lib.hid (H2.out.bel.trans (hb4.mono H2.out.bel.size))
      clear hb4
      generalize t.text = G at *
      go_wp2_with fail
      go_ret
      exact ⟨ret_str (by simp), HB4.out⟩
end Go.Proofs.YtbeejmlmplgaeaaDoor
