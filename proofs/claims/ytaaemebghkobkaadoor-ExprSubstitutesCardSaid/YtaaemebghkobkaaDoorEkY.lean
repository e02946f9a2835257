/- The walk of each[Expr], at the function values that package expr hands it. The conditions: what those functions give. -/
import Derived.Test.YtaaemebghkobkaaDoorEkX
namespace Go.Proofs.YtaaemebghkobkaaDoor
open Go.RowKit

/-- The store of a whole expression into its place in the slice. -/
theorem store8_at {P : Program} {ops : Array Oper} {rest : List Oper} {a : Act} {w : World} {Q : Exit → Act → World → Prop} {ps : String} {af : Array Edge} {b o : Nat} {vs : Array Value} (hx : a.eval (.tmp 26) = .pointer (some ⟨b, o, none⟩)) (hy : a.eval (.tmp 25) = .agg vs)
    (ht : w.there b o vs.size) (h1 : vs.all (·.oneCell') = true) (hi : (P.info? 27).map (·.size) = some vs.size) (h : wpList P ops Q rest (a.put none undef) (w.setCells b o vs.toList)) :
    wpList P ops Q ({ dst := none, op := .store 27 (.tmp 26) (.tmp 25), type := 0, pos := ps, after := af, guard := none } :: rest) a w :=
  wpList_store_mid rfl 27 (.tmp 26) (.tmp 25) rfl b o vs hx hy ht hi h1 h

set_option maxRecDepth 100000 in
set_option maxHeartbeats 16000000 in
theorem eachE_C (lo n m s0 : Nat) (St : Nat → World → Prop) (hSt : ∀ i V V', Below s0 V V' → St i V → St i V') (hlo : lo ≤ s0) (hnm : n ≤ m) (hms : m ≤ s0) (xs ys : List Ex) (st : Nat → Nat) (hl : ys.length = xs.length)
    (hT : ∀ j x y, xs[j]? = some x → ys[j]? = some y → KCall 24 #[] lo n m s0 St x y (st j) (st (j + 1))) (A : Option Addr) (q c : Nat) (w : World) (hq : q ≤ 1000000) (hs : s0 ≤ w.heap.size) (h0 : St (st 0) w) (h : Row w False (Safe n m w) 8 A q (Ex.dats xs)) :
    Calls Tryd.prog 74 #[.slice A q c, .func (.func 24) #[] #[]] w (KsGot lo n m St ys (st ys.length) w) := by
  have hxl := h.len
  rw [Ex.dats_len] at hxl
  have HL := Lib.hid h
  have HTT := Lib.hid hT
  have HSt := Lib.hid hSt
  have H0 := Lib.hid h0
  by_cases hm0 : q = 0
  · subst hm0
    obtain rfl := List.eq_nil_of_length_eq_zero hxl
    obtain rfl := List.eq_nil_of_length_eq_zero hl
    have e0 : (((0 : Nat) : Int) == 0) = true := rfl
    clear hT hSt h h0
    go_enter Tryd.func74, Tryd.ntmps74
    go_wp2_with fail
    go_ret
    exact ⟨none, 0, rfl, Nat.le_refl _, Row.nil _ _ _ _ _, Mv.refl _ _ _ _, H0.out⟩
  · have e0 : ((q : Int) == 0) = false := by simp; omega
    have hmk := run_make_ex q hq
    have HF := Lib.hid (fill_make (lo := lo) (n := n) (a := w.heap.size) (z := 8) w q #[.int .i64 0, .string ⟨#[]⟩, .string ⟨#[]⟩, .slice none 0 0, .int .i64 0, .slice none 0 0, .slice none 0 0, .int .i64 0] 27)
    have HB := Lib.hid (show Below w.heap.size w (w.alloc (.cells (madeCells #[.int .i64 0, .string ⟨#[]⟩, .string ⟨#[]⟩, .slice none 0 0, .int .i64 0, .slice none 0 0, .slice none 0 0, .int .i64 0] (q * 8)) 27)) from (Below.refl _ _).alloc (Nat.le_refl _) _)
    have hmi : (q : Int) ≤ 1000000 := by omega
    obtain ⟨g, hgz⟩ : ∃ g, g = w.heap.size := ⟨_, rfl⟩
    have HGZ := Lib.hid hgz
    have HS := Lib.hid hs
    have HLO := Lib.hid hlo
    have HNM := Lib.hid hnm
    have HMS := Lib.hid hms
    have HRL := Lib.hid hl
    have HXL := Lib.hid hxl
    clear hT hSt h h0 hs hlo hnm hms hl hxl
    go_enter Tryd.func74, Tryd.ntmps74
    go_wp2_with fail
    rw [← hgz] at HF ⊢
    clear hgz
    go_loopw [16] (fun i wr => ∃ k : Nat, k ≤ q ∧ i = .int .i64 k ∧ Fill lo n w.heap.size wr g q 8 (Ex.dats (ys.take k)) ∧ Mv lo n m w wr ∧ St (st k) wr) (fun i _ => q - (intOf i).toNat)
    case atStart => exact ⟨0, by omega, rfl, by have h := HF.out; rw [HGZ.out] at h; rw [HGZ.out]; simpa [Ex.dats] using h, Mv.of HB.out (Nat.le_trans HLO.out HS.out), HSt.out _ _ _ (HB.out.mono HS.out) H0.out⟩
    case round =>
      obtain ⟨k, hk, rfl, hf, hmv, hst⟩ := hrel
      have HMV := Lib.hid hmv
      have HFF := Lib.hid hf
      have y1 : (0 : Int) ≤ k := by omega
      by_cases hlt : k < q
      · have y0 : (k : Int) < q := by omega
        obtain ⟨p, u, ps, rfl, hx, _, _, hu, hcs⟩ := kid_at (Row.mv HL.out hmv) hlt
        obtain ⟨yy, hrr⟩ : ∃ yy, ys[k]? = some yy := ⟨_, List.getElem?_eq_getElem (by have := HXL.out; have := HRL.out; omega)⟩
        have hka : Below wr.heap.size wr (wr.alloc (.cells ps.toArray 27)) := (Below.refl _ _).alloc (Nat.le_refl _) _
        have hlow : lo ≤ wr.heap.size := by have := hmv.size; have := HLO.out; have := HS.out; omega
        have hka2 : Mv lo n m wr (wr.alloc (.cells ps.toArray 27)) := Mv.of hka hlow
        have C := Lib.hid (show Calls Tryd.prog 24 #[.agg ps.toArray] _ _ from HTT.out k _ _ hx hrr ps (wr.alloc (.cells ps.toArray 27)) (by have := hmv.size; have := HS.out; have := hka.size; omega) (HSt.out _ _ _ (hka.mono (by have := hmv.size; have := HS.out; omega)) hst) (Dat.In.mv hu hka2))
        have HBX := Lib.hid (Boxd.new wr ps.toArray 27)
        obtain ⟨_, _, _, _, _, _, _, _, _, rfl, _⟩ := ex_open hu
        obtain ⟨b0, b1, b2, b3, b4, b5, b6, b7⟩ := cells8_at hcs
        obtain ⟨x0, x1, x2, x3, x4, x5, x6, x7⟩ := HBX.out.c8
        have HRR := Lib.hid hrr
        have HK := Lib.hid hka2
        have hrl : (Ex.dats (ys.take k)).length = k := by rw [Ex.dats_len, List.length_take]; have := HXL.out; have := HRL.out; omega
        have HLK := Lib.hid hrl
        clear hx hu hka hka2 hf hmv hst hrl hrr hlow hcs HBX
        go_wp2_with fail
        refine C.out.mono ?_
        rintro e w3 ⟨vs, rfl, hv3, hm3, hst3⟩
        have hk4 := HK.out.trans hm3
        have hgm : m ≤ g := by have := HGZ.out; have := HMS.out; have := HS.out; omega
        have hf4 := HFF.out.move (m := m) (.inr hgm) (by have := HMS.out; have := HS.out; omega) hk4.kp
        have HT3 := Lib.hid (show w3.there g (k * 8) 8 from fun j hj => by
          have := hf4.there (k * 8 + j) (by omega)
          rwa [Nat.zero_add] at this)
        have hszw := HMV.out.size
        have hszg := HFF.out.lt
        have hstep := hf4.step (d := yy.dat) (us := vs) (by rw [HLK.out]; exact hlt) hv3 (fun b hb => by
          have h2 := hb.2
          rw [World.size_alloc] at h2
          refine ⟨⟨hb.1, h2.imp id fun h => ⟨by omega, h.2⟩⟩, fun e => ?_⟩
          have := HNM.out
          rcases h2 with h2 | h2 <;> omega) (Ex.dat_size yy)
        rw [HLK.out] at hstep
        have HSP := Lib.hid hstep
        have HM4 := Lib.hid ((HMV.out.trans hk4).setCells (Nat.le_trans HLO.out HS.out) (Nat.le_of_eq HGZ.out.symm) (k * 8) vs)
        have HS4 := Lib.hid (HSt.out _ _ _ (below_cells (B := s0) (g := g) (by have := HGZ.out; have := HS.out; omega) vs (k * 8) w3) hst3)
        have HST := Lib.hid (show Ex.dats (ys.take (k + 1)) = Ex.dats (ys.take k) ++ [yy.dat] by rw [Ex.take_at HRR.out, Ex.dats_snoc])
        obtain ⟨A3, m3, c3, B3, l3, d3, C3, r3, f3, rfl, _⟩ := ex_open hv3
        clear hv3 hm3 hst3 hk4 hgm hf4 hszw hszg hstep x0 x1 x2 x3 x4 x5 x6 x7 b0 b1 b2 b3 b4 b5 b6 b7 C
        have HOC := Lib.hid (show (#[.int .i64 yy.kind, .string yy.name, .string yy.ty.name, .slice A3 m3 c3, .int .i64 yy.ty.off, .slice B3 l3 d3, .slice C3 r3 f3, .int .i64 yy.off] : Array Value).all (·.oneCell') = true by simp [Value.oneCell'])
        go_wp2_with (refine store8_at (b := g) (o := k * 8) (vs := #[.int .i64 yy.kind, .string yy.name, .string yy.ty.name, .slice A3 m3 c3, .int .i64 yy.ty.off, .slice B3 l3 d3, .slice C3 r3 f3, .int .i64 yy.off]) rfl rfl HT3.out HOC.out sizeE8 ?_)
        go_roundw
        case rel => exact ⟨k + 1, by omega, by go_num, by rw [HST.out]; exact HSP.out, HM4.out, HS4.out⟩
        case measure => simp [intOf]; omega
      · have y0 : (q : Int) ≤ k := by omega
        have hrl : ys.length = q := by have := HXL.out; have := HRL.out; omega
        have hjk : ys.take k = ys := List.take_of_length_le (by omega)
        have hkq : k = ys.length := by omega
        rw [hjk] at hf
        rw [hkq] at hst
        have HFF2 := Lib.hid hf
        have HS2 := Lib.hid hst
        have HRQ := Lib.hid hrl
        clear hf hmv hst hjk hkq hrl
        go_wp2_with fail
        go_ret
        have hr := HFF2.out.row (by rw [Ex.dats_len]; exact HRQ.out) (by omega) (by have := HGZ.out; have := HLO.out; have := HS.out; omega) (Nat.le_of_eq HGZ.out.symm)
        refine ⟨some ⟨g, 0, none⟩, q, by rw [HRQ.out]; rfl, Nat.le_of_eq HRQ.out, ?_, HMV.out, HS2.out⟩
        rw [HRQ.out]
        exact hr

set_option maxRecDepth 100000 in
set_option maxHeartbeats 16000000 in
theorem eachE_S (p8 p9 : Nat) (lo n m s0 : Nat) (St : Nat → World → Prop) (hSt : ∀ i V V', Below s0 V V' → St i V → St i V') (hlo : lo ≤ s0) (hnm : n ≤ m) (hms : m ≤ s0) (xs ys : List Ex) (st : Nat → Nat) (hl : ys.length = xs.length)
    (hT : ∀ j x y, xs[j]? = some x → ys[j]? = some y → KCall 50 #[.pointer (some ⟨p8, 0, none⟩), .pointer (some ⟨p9, 0, none⟩)] lo n m s0 St x y (st j) (st (j + 1))) (A : Option Addr) (q c : Nat) (w : World) (hq : q ≤ 1000000) (hs : s0 ≤ w.heap.size) (h0 : St (st 0) w) (h : Row w False (Safe n m w) 8 A q (Ex.dats xs)) :
    Calls Tryd.prog 74 #[.slice A q c, .func (.func 50) #[] #[.pointer (some ⟨p8, 0, none⟩), .pointer (some ⟨p9, 0, none⟩)]] w (KsGot lo n m St ys (st ys.length) w) := by
  have hxl := h.len
  rw [Ex.dats_len] at hxl
  have HL := Lib.hid h
  have HTT := Lib.hid hT
  have HSt := Lib.hid hSt
  have H0 := Lib.hid h0
  by_cases hm0 : q = 0
  · subst hm0
    obtain rfl := List.eq_nil_of_length_eq_zero hxl
    obtain rfl := List.eq_nil_of_length_eq_zero hl
    have e0 : (((0 : Nat) : Int) == 0) = true := rfl
    clear hT hSt h h0
    go_enter Tryd.func74, Tryd.ntmps74
    go_wp2_with fail
    go_ret
    exact ⟨none, 0, rfl, Nat.le_refl _, Row.nil _ _ _ _ _, Mv.refl _ _ _ _, H0.out⟩
  · have e0 : ((q : Int) == 0) = false := by simp; omega
    have hmk := run_make_ex q hq
    have HF := Lib.hid (fill_make (lo := lo) (n := n) (a := w.heap.size) (z := 8) w q #[.int .i64 0, .string ⟨#[]⟩, .string ⟨#[]⟩, .slice none 0 0, .int .i64 0, .slice none 0 0, .slice none 0 0, .int .i64 0] 27)
    have HB := Lib.hid (show Below w.heap.size w (w.alloc (.cells (madeCells #[.int .i64 0, .string ⟨#[]⟩, .string ⟨#[]⟩, .slice none 0 0, .int .i64 0, .slice none 0 0, .slice none 0 0, .int .i64 0] (q * 8)) 27)) from (Below.refl _ _).alloc (Nat.le_refl _) _)
    have hmi : (q : Int) ≤ 1000000 := by omega
    obtain ⟨g, hgz⟩ : ∃ g, g = w.heap.size := ⟨_, rfl⟩
    have HGZ := Lib.hid hgz
    have HS := Lib.hid hs
    have HLO := Lib.hid hlo
    have HNM := Lib.hid hnm
    have HMS := Lib.hid hms
    have HRL := Lib.hid hl
    have HXL := Lib.hid hxl
    clear hT hSt h h0 hs hlo hnm hms hl hxl
    go_enter Tryd.func74, Tryd.ntmps74
    go_wp2_with fail
    rw [← hgz] at HF ⊢
    clear hgz
    go_loopw [16] (fun i wr => ∃ k : Nat, k ≤ q ∧ i = .int .i64 k ∧ Fill lo n w.heap.size wr g q 8 (Ex.dats (ys.take k)) ∧ Mv lo n m w wr ∧ St (st k) wr) (fun i _ => q - (intOf i).toNat)
    case atStart => exact ⟨0, by omega, rfl, by have h := HF.out; rw [HGZ.out] at h; rw [HGZ.out]; simpa [Ex.dats] using h, Mv.of HB.out (Nat.le_trans HLO.out HS.out), HSt.out _ _ _ (HB.out.mono HS.out) H0.out⟩
    case round =>
      obtain ⟨k, hk, rfl, hf, hmv, hst⟩ := hrel
      have HMV := Lib.hid hmv
      have HFF := Lib.hid hf
      have y1 : (0 : Int) ≤ k := by omega
      by_cases hlt : k < q
      · have y0 : (k : Int) < q := by omega
        obtain ⟨p, u, ps, rfl, hx, _, _, hu, hcs⟩ := kid_at (Row.mv HL.out hmv) hlt
        obtain ⟨yy, hrr⟩ : ∃ yy, ys[k]? = some yy := ⟨_, List.getElem?_eq_getElem (by have := HXL.out; have := HRL.out; omega)⟩
        have hka : Below wr.heap.size wr (wr.alloc (.cells ps.toArray 27)) := (Below.refl _ _).alloc (Nat.le_refl _) _
        have hlow : lo ≤ wr.heap.size := by have := hmv.size; have := HLO.out; have := HS.out; omega
        have hka2 : Mv lo n m wr (wr.alloc (.cells ps.toArray 27)) := Mv.of hka hlow
        have C := Lib.hid (show Calls Tryd.prog 50 #[.agg ps.toArray, .pointer (some ⟨p8, 0, none⟩), .pointer (some ⟨p9, 0, none⟩)] _ _ from HTT.out k _ _ hx hrr ps (wr.alloc (.cells ps.toArray 27)) (by have := hmv.size; have := HS.out; have := hka.size; omega) (HSt.out _ _ _ (hka.mono (by have := hmv.size; have := HS.out; omega)) hst) (Dat.In.mv hu hka2))
        have HBX := Lib.hid (Boxd.new wr ps.toArray 27)
        obtain ⟨_, _, _, _, _, _, _, _, _, rfl, _⟩ := ex_open hu
        obtain ⟨b0, b1, b2, b3, b4, b5, b6, b7⟩ := cells8_at hcs
        obtain ⟨x0, x1, x2, x3, x4, x5, x6, x7⟩ := HBX.out.c8
        have HRR := Lib.hid hrr
        have HK := Lib.hid hka2
        have hrl : (Ex.dats (ys.take k)).length = k := by rw [Ex.dats_len, List.length_take]; have := HXL.out; have := HRL.out; omega
        have HLK := Lib.hid hrl
        clear hx hu hka hka2 hf hmv hst hrl hrr hlow hcs HBX
        go_wp2_with fail
        refine C.out.mono ?_
        rintro e w3 ⟨vs, rfl, hv3, hm3, hst3⟩
        have hk4 := HK.out.trans hm3
        have hgm : m ≤ g := by have := HGZ.out; have := HMS.out; have := HS.out; omega
        have hf4 := HFF.out.move (m := m) (.inr hgm) (by have := HMS.out; have := HS.out; omega) hk4.kp
        have HT3 := Lib.hid (show w3.there g (k * 8) 8 from fun j hj => by
          have := hf4.there (k * 8 + j) (by omega)
          rwa [Nat.zero_add] at this)
        have hszw := HMV.out.size
        have hszg := HFF.out.lt
        have hstep := hf4.step (d := yy.dat) (us := vs) (by rw [HLK.out]; exact hlt) hv3 (fun b hb => by
          have h2 := hb.2
          rw [World.size_alloc] at h2
          refine ⟨⟨hb.1, h2.imp id fun h => ⟨by omega, h.2⟩⟩, fun e => ?_⟩
          have := HNM.out
          rcases h2 with h2 | h2 <;> omega) (Ex.dat_size yy)
        rw [HLK.out] at hstep
        have HSP := Lib.hid hstep
        have HM4 := Lib.hid ((HMV.out.trans hk4).setCells (Nat.le_trans HLO.out HS.out) (Nat.le_of_eq HGZ.out.symm) (k * 8) vs)
        have HS4 := Lib.hid (HSt.out _ _ _ (below_cells (B := s0) (g := g) (by have := HGZ.out; have := HS.out; omega) vs (k * 8) w3) hst3)
        have HST := Lib.hid (show Ex.dats (ys.take (k + 1)) = Ex.dats (ys.take k) ++ [yy.dat] by rw [Ex.take_at HRR.out, Ex.dats_snoc])
        obtain ⟨A3, m3, c3, B3, l3, d3, C3, r3, f3, rfl, _⟩ := ex_open hv3
        clear hv3 hm3 hst3 hk4 hgm hf4 hszw hszg hstep x0 x1 x2 x3 x4 x5 x6 x7 b0 b1 b2 b3 b4 b5 b6 b7 C
        have HOC := Lib.hid (show (#[.int .i64 yy.kind, .string yy.name, .string yy.ty.name, .slice A3 m3 c3, .int .i64 yy.ty.off, .slice B3 l3 d3, .slice C3 r3 f3, .int .i64 yy.off] : Array Value).all (·.oneCell') = true by simp [Value.oneCell'])
        go_wp2_with (refine store8_at (b := g) (o := k * 8) (vs := #[.int .i64 yy.kind, .string yy.name, .string yy.ty.name, .slice A3 m3 c3, .int .i64 yy.ty.off, .slice B3 l3 d3, .slice C3 r3 f3, .int .i64 yy.off]) rfl rfl HT3.out HOC.out sizeE8 ?_)
        go_roundw
        case rel => exact ⟨k + 1, by omega, by go_num, by rw [HST.out]; exact HSP.out, HM4.out, HS4.out⟩
        case measure => simp [intOf]; omega
      · have y0 : (q : Int) ≤ k := by omega
        have hrl : ys.length = q := by have := HXL.out; have := HRL.out; omega
        have hjk : ys.take k = ys := List.take_of_length_le (by omega)
        have hkq : k = ys.length := by omega
        rw [hjk] at hf
        rw [hkq] at hst
        have HFF2 := Lib.hid hf
        have HS2 := Lib.hid hst
        have HRQ := Lib.hid hrl
        clear hf hmv hst hjk hkq hrl
        go_wp2_with fail
        go_ret
        have hr := HFF2.out.row (by rw [Ex.dats_len]; exact HRQ.out) (by omega) (by have := HGZ.out; have := HLO.out; have := HS.out; omega) (Nat.le_of_eq HGZ.out.symm)
        refine ⟨some ⟨g, 0, none⟩, q, by rw [HRQ.out]; rfl, Nat.le_of_eq HRQ.out, ?_, HMV.out, HS2.out⟩
        rw [HRQ.out]
        exact hr

set_option maxRecDepth 100000 in
set_option maxHeartbeats 16000000 in
theorem eachE_R (p8 p9 : Nat) (lo n m s0 : Nat) (St : Nat → World → Prop) (hSt : ∀ i V V', Below s0 V V' → St i V → St i V') (hlo : lo ≤ s0) (hnm : n ≤ m) (hms : m ≤ s0) (xs ys : List Ex) (st : Nat → Nat) (hl : ys.length = xs.length)
    (hT : ∀ j x y, xs[j]? = some x → ys[j]? = some y → KCall 56 #[.pointer (some ⟨p8, 0, none⟩), .pointer (some ⟨p9, 0, none⟩)] lo n m s0 St x y (st j) (st (j + 1))) (A : Option Addr) (q c : Nat) (w : World) (hq : q ≤ 1000000) (hs : s0 ≤ w.heap.size) (h0 : St (st 0) w) (h : Row w False (Safe n m w) 8 A q (Ex.dats xs)) :
    Calls Tryd.prog 74 #[.slice A q c, .func (.func 56) #[] #[.pointer (some ⟨p8, 0, none⟩), .pointer (some ⟨p9, 0, none⟩)]] w (KsGot lo n m St ys (st ys.length) w) := by
  have hxl := h.len
  rw [Ex.dats_len] at hxl
  have HL := Lib.hid h
  have HTT := Lib.hid hT
  have HSt := Lib.hid hSt
  have H0 := Lib.hid h0
  by_cases hm0 : q = 0
  · subst hm0
    obtain rfl := List.eq_nil_of_length_eq_zero hxl
    obtain rfl := List.eq_nil_of_length_eq_zero hl
    have e0 : (((0 : Nat) : Int) == 0) = true := rfl
    clear hT hSt h h0
    go_enter Tryd.func74, Tryd.ntmps74
    go_wp2_with fail
    go_ret
    exact ⟨none, 0, rfl, Nat.le_refl _, Row.nil _ _ _ _ _, Mv.refl _ _ _ _, H0.out⟩
  · have e0 : ((q : Int) == 0) = false := by simp; omega
    have hmk := run_make_ex q hq
    have HF := Lib.hid (fill_make (lo := lo) (n := n) (a := w.heap.size) (z := 8) w q #[.int .i64 0, .string ⟨#[]⟩, .string ⟨#[]⟩, .slice none 0 0, .int .i64 0, .slice none 0 0, .slice none 0 0, .int .i64 0] 27)
    have HB := Lib.hid (show Below w.heap.size w (w.alloc (.cells (madeCells #[.int .i64 0, .string ⟨#[]⟩, .string ⟨#[]⟩, .slice none 0 0, .int .i64 0, .slice none 0 0, .slice none 0 0, .int .i64 0] (q * 8)) 27)) from (Below.refl _ _).alloc (Nat.le_refl _) _)
    have hmi : (q : Int) ≤ 1000000 := by omega
    obtain ⟨g, hgz⟩ : ∃ g, g = w.heap.size := ⟨_, rfl⟩
    have HGZ := Lib.hid hgz
    have HS := Lib.hid hs
    have HLO := Lib.hid hlo
    have HNM := Lib.hid hnm
    have HMS := Lib.hid hms
    have HRL := Lib.hid hl
    have HXL := Lib.hid hxl
    clear hT hSt h h0 hs hlo hnm hms hl hxl
    go_enter Tryd.func74, Tryd.ntmps74
    go_wp2_with fail
    rw [← hgz] at HF ⊢
    clear hgz
    go_loopw [16] (fun i wr => ∃ k : Nat, k ≤ q ∧ i = .int .i64 k ∧ Fill lo n w.heap.size wr g q 8 (Ex.dats (ys.take k)) ∧ Mv lo n m w wr ∧ St (st k) wr) (fun i _ => q - (intOf i).toNat)
    case atStart => exact ⟨0, by omega, rfl, by have h := HF.out; rw [HGZ.out] at h; rw [HGZ.out]; simpa [Ex.dats] using h, Mv.of HB.out (Nat.le_trans HLO.out HS.out), HSt.out _ _ _ (HB.out.mono HS.out) H0.out⟩
    case round =>
      obtain ⟨k, hk, rfl, hf, hmv, hst⟩ := hrel
      have HMV := Lib.hid hmv
      have HFF := Lib.hid hf
      have y1 : (0 : Int) ≤ k := by omega
      by_cases hlt : k < q
      · have y0 : (k : Int) < q := by omega
        obtain ⟨p, u, ps, rfl, hx, _, _, hu, hcs⟩ := kid_at (Row.mv HL.out hmv) hlt
        obtain ⟨yy, hrr⟩ : ∃ yy, ys[k]? = some yy := ⟨_, List.getElem?_eq_getElem (by have := HXL.out; have := HRL.out; omega)⟩
        have hka : Below wr.heap.size wr (wr.alloc (.cells ps.toArray 27)) := (Below.refl _ _).alloc (Nat.le_refl _) _
        have hlow : lo ≤ wr.heap.size := by have := hmv.size; have := HLO.out; have := HS.out; omega
        have hka2 : Mv lo n m wr (wr.alloc (.cells ps.toArray 27)) := Mv.of hka hlow
        have C := Lib.hid (show Calls Tryd.prog 56 #[.agg ps.toArray, .pointer (some ⟨p8, 0, none⟩), .pointer (some ⟨p9, 0, none⟩)] _ _ from HTT.out k _ _ hx hrr ps (wr.alloc (.cells ps.toArray 27)) (by have := hmv.size; have := HS.out; have := hka.size; omega) (HSt.out _ _ _ (hka.mono (by have := hmv.size; have := HS.out; omega)) hst) (Dat.In.mv hu hka2))
        have HBX := Lib.hid (Boxd.new wr ps.toArray 27)
        obtain ⟨_, _, _, _, _, _, _, _, _, rfl, _⟩ := ex_open hu
        obtain ⟨b0, b1, b2, b3, b4, b5, b6, b7⟩ := cells8_at hcs
        obtain ⟨x0, x1, x2, x3, x4, x5, x6, x7⟩ := HBX.out.c8
        have HRR := Lib.hid hrr
        have HK := Lib.hid hka2
        have hrl : (Ex.dats (ys.take k)).length = k := by rw [Ex.dats_len, List.length_take]; have := HXL.out; have := HRL.out; omega
        have HLK := Lib.hid hrl
        clear hx hu hka hka2 hf hmv hst hrl hrr hlow hcs HBX
        go_wp2_with fail
        refine C.out.mono ?_
        rintro e w3 ⟨vs, rfl, hv3, hm3, hst3⟩
        have hk4 := HK.out.trans hm3
        have hgm : m ≤ g := by have := HGZ.out; have := HMS.out; have := HS.out; omega
        have hf4 := HFF.out.move (m := m) (.inr hgm) (by have := HMS.out; have := HS.out; omega) hk4.kp
        have HT3 := Lib.hid (show w3.there g (k * 8) 8 from fun j hj => by
          have := hf4.there (k * 8 + j) (by omega)
          rwa [Nat.zero_add] at this)
        have hszw := HMV.out.size
        have hszg := HFF.out.lt
        have hstep := hf4.step (d := yy.dat) (us := vs) (by rw [HLK.out]; exact hlt) hv3 (fun b hb => by
          have h2 := hb.2
          rw [World.size_alloc] at h2
          refine ⟨⟨hb.1, h2.imp id fun h => ⟨by omega, h.2⟩⟩, fun e => ?_⟩
          have := HNM.out
          rcases h2 with h2 | h2 <;> omega) (Ex.dat_size yy)
        rw [HLK.out] at hstep
        have HSP := Lib.hid hstep
        have HM4 := Lib.hid ((HMV.out.trans hk4).setCells (Nat.le_trans HLO.out HS.out) (Nat.le_of_eq HGZ.out.symm) (k * 8) vs)
        have HS4 := Lib.hid (HSt.out _ _ _ (below_cells (B := s0) (g := g) (by have := HGZ.out; have := HS.out; omega) vs (k * 8) w3) hst3)
        have HST := Lib.hid (show Ex.dats (ys.take (k + 1)) = Ex.dats (ys.take k) ++ [yy.dat] by rw [Ex.take_at HRR.out, Ex.dats_snoc])
        obtain ⟨A3, m3, c3, B3, l3, d3, C3, r3, f3, rfl, _⟩ := ex_open hv3
        clear hv3 hm3 hst3 hk4 hgm hf4 hszw hszg hstep x0 x1 x2 x3 x4 x5 x6 x7 b0 b1 b2 b3 b4 b5 b6 b7 C
        have HOC := Lib.hid (show (#[.int .i64 yy.kind, .string yy.name, .string yy.ty.name, .slice A3 m3 c3, .int .i64 yy.ty.off, .slice B3 l3 d3, .slice C3 r3 f3, .int .i64 yy.off] : Array Value).all (·.oneCell') = true by simp [Value.oneCell'])
        go_wp2_with (refine store8_at (b := g) (o := k * 8) (vs := #[.int .i64 yy.kind, .string yy.name, .string yy.ty.name, .slice A3 m3 c3, .int .i64 yy.ty.off, .slice B3 l3 d3, .slice C3 r3 f3, .int .i64 yy.off]) rfl rfl HT3.out HOC.out sizeE8 ?_)
        go_roundw
        case rel => exact ⟨k + 1, by omega, by go_num, by rw [HST.out]; exact HSP.out, HM4.out, HS4.out⟩
        case measure => simp [intOf]; omega
      · have y0 : (q : Int) ≤ k := by omega
        have hrl : ys.length = q := by have := HXL.out; have := HRL.out; omega
        have hjk : ys.take k = ys := List.take_of_length_le (by omega)
        have hkq : k = ys.length := by omega
        rw [hjk] at hf
        rw [hkq] at hst
        have HFF2 := Lib.hid hf
        have HS2 := Lib.hid hst
        have HRQ := Lib.hid hrl
        clear hf hmv hst hjk hkq hrl
        go_wp2_with fail
        go_ret
        have hr := HFF2.out.row (by rw [Ex.dats_len]; exact HRQ.out) (by omega) (by have := HGZ.out; have := HLO.out; have := HS.out; omega) (Nat.le_of_eq HGZ.out.symm)
        refine ⟨some ⟨g, 0, none⟩, q, by rw [HRQ.out]; rfl, Nat.le_of_eq HRQ.out, ?_, HMV.out, HS2.out⟩
        rw [HRQ.out]
        exact hr
end Go.Proofs.YtaaemebghkobkaaDoor
