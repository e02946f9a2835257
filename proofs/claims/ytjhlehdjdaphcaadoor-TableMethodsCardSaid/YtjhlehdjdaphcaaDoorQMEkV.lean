/- The walks of each[Type], each[Expr] and mapped, at the function values that package expr hands them. The conditions: what those functions give.
The walk of each[Expr], at the function values that package expr hands it. The conditions: what those functions give.
The walk of mapped, at the function values that package expr hands it; Clone. The conditions: what those functions give.
The walk of expr.Clone. The condition: few parts. -/
import Derived.Test.YtjhlehdjdaphcaaDoorQMEkW
import Derived.Test.YtjhlehdjdaphcaaDoorQMExP
namespace Go.Proofs.YtjhlehdjdaphcaaDoor
open Go.RowKit

theorem infoE8 : (Tryd.prog.info? 28).map (fun i => (i.zero, i.size, i.bytes)) = some (some (.agg #[.int .i64 0, .string ⟨#[]⟩, .string ⟨#[]⟩, .slice none 0 0, .int .i64 0, .slice none 0 0, .slice none 0 0, .int .i64 0]), 8, 128) := by kernel_rfl
theorem sizeE8 : (Tryd.prog.info? 28).map (·.size) = some 8 := by kernel_rfl
theorem run_make_ex (m : Nat) (hm : m ≤ 1000000) (W : World) : (Instr.makeSlice 26 (.int .i64 (m : Int)) (.int .i64 (m : Int))).run Tryd.prog W =
    .ok (.slice (some ⟨W.heap.size, 0, none⟩) m m) (W.alloc (.cells (madeCells #[.int .i64 0, .string ⟨#[]⟩, .string ⟨#[]⟩, .slice none 0 0, .int .i64 0, .slice none 0 0, .slice none 0 0, .int .i64 0] (m * 8)) 28)) := by
  obtain ⟨i0, hi0, hz0, hz1, hz2⟩ := info_parts infoE8
  have hr := run_make (P := Tryd.prog) W 26 28 i0 _ Tryd.underlying26 hi0 hz0 .i64 .i64 m m (by omega) (Int.le_refl _) (by rw [hz2]; omega) (by omega)
  simp only [Int.toNat_natCast, hz1] at hr
  exact hr

set_option maxRecDepth 100000 in
set_option maxHeartbeats 8000000 in
theorem eachT_C (lo n m s0 : Nat) (St : Nat → World → Prop) (hSt : ∀ i V V', Below s0 V V' → St i V → St i V') (hlo : lo ≤ s0) (hnm : n ≤ m) (hms : m ≤ s0) (xs rs : List Ty) (i0 : Nat) (hl : rs.length = xs.length)
    (hT : ∀ j t r, xs[j]? = some t → rs[j]? = some r → TCall 69 #[] lo n m s0 St t r (i0 + j)) (A : Option Addr) (q c : Nat) (w : World) (hq : q ≤ 1000000) (hs : s0 ≤ w.heap.size) (h0 : St i0 w) (h : Lies w (Safe n m w) A q xs) :
    Calls Tryd.prog 85 #[.slice A q c, .func (.func 69) #[] #[]] w (TsGot lo n m St rs (i0 + rs.length) w) := by
  have hxl := h.len
  have HL := Lib.hid h
  have HTT := Lib.hid hT
  have HSt := Lib.hid hSt
  have H0 := Lib.hid h0
  by_cases hm0 : q = 0
  · subst hm0
    obtain rfl := List.eq_nil_of_length_eq_zero hxl
    obtain rfl := List.eq_nil_of_length_eq_zero hl
    have e0 : (((0 : Nat) : Int) == 0) = true := rfl
    clear hT hSt h h0
    go_enter Tryd.func85, Tryd.ntmps85
    go_wp2_with fail
    go_ret
    exact ⟨none, 0, rfl, Lies.nil _ _ _, Mv.refl _ _ _ _, H0.out⟩
  · have e0 : ((q : Int) == 0) = false := by simp; omega
    have hmk := run_make_ty q hq
    have HF := Lib.hid (fill_make (lo := lo) (n := n) (a := w.heap.size) (z := 3) w q #[.string ⟨#[]⟩, .slice none 0 0, .int .i64 0] 25)
    have HB := Lib.hid (show Below w.heap.size w (w.alloc (.cells (madeCells #[.string ⟨#[]⟩, .slice none 0 0, .int .i64 0] (q * 3)) 25)) from (Below.refl _ _).alloc (Nat.le_refl _) _)
    have hmi : (q : Int) ≤ 1000000 := by omega
    obtain ⟨g, hgz⟩ : ∃ g, g = w.heap.size := ⟨_, rfl⟩
    have HGZ := Lib.hid hgz
    have HS := Lib.hid hs
    have HLO := Lib.hid hlo
    have HNM := Lib.hid hnm
    have HMS := Lib.hid hms
    have HRL := Lib.hid hl
    clear hT hSt h h0 hs hlo hnm hms hl hxl
    go_enter Tryd.func85, Tryd.ntmps85
    go_wp2_with fail
    rw [← hgz] at HF ⊢
    clear hgz
    go_loopw [16] (fun i wr => ∃ k : Nat, k ≤ q ∧ i = .int .i64 k ∧ Fill lo n w.heap.size wr g q 3 (Ty.dats (rs.take k)) ∧ Mv lo n m w wr ∧ St (i0 + k) wr) (fun i _ => q - (intOf i).toNat)
    case atStart => exact ⟨0, by omega, rfl, by have h := HF.out; rw [HGZ.out] at h; rw [HGZ.out]; simpa [Ty.dats] using h, Mv.of HB.out (Nat.le_trans HLO.out HS.out), HSt.out _ _ _ (HB.out.mono HS.out) H0.out⟩
    case round =>
      obtain ⟨k, hk, rfl, hf, hmv, hst⟩ := hrel
      have HMV := Lib.hid hmv
      have HFF := Lib.hid hf
      have y1 : (0 : Int) ≤ k := by omega
      by_cases hlt : k < q
      · have y0 : (k : Int) < q := by omega
        obtain ⟨a, u, ys, p, B, n2, d, rfl, hx, _, a0, a1, a2, hu, hl2⟩ := Lies.get (HL.out.mv hmv) hlt
        obtain ⟨rr, hrr⟩ : ∃ rr, rs[k]? = some rr := ⟨_, List.getElem?_eq_getElem (by have := HL.out.len; have := HRL.out; omega)⟩
        have hka : Below wr.heap.size wr (wr.alloc (.cells #[.string u, .slice B n2 d, .int .i64 p] 25)) := (Below.refl _ _).alloc (Nat.le_refl _) _
        have hlow : lo ≤ wr.heap.size := by have := hmv.size; have := HLO.out; have := HS.out; omega
        have hka2 : Mv lo n m wr (wr.alloc (.cells #[.string u, .slice B n2 d, .int .i64 p] 25)) := Mv.of hka hlow
        have C := Lib.hid (show Calls Tryd.prog 69 #[.agg #[.string u, .slice B n2 d, .int .i64 p]] _ _ from HTT.out k _ _ hx hrr B n2 d (wr.alloc (.cells #[.string u, .slice B n2 d, .int .i64 p] 25)) (by have := hmv.size; have := HS.out; have := hka.size; omega) (HSt.out _ _ _ (hka.mono (by have := hmv.size; have := HS.out; omega)) hst) hu (Lies.mv hl2 hka2))
        obtain ⟨x0, x1, x2⟩ := Box.new wr u B n2 d p 25
        have HRR := Lib.hid hrr
        have HK := Lib.hid hka2
        have hrl : (Ty.dats (rs.take k)).length = k := by rw [Ty.dats_len, List.length_take]; have := HL.out.len; have := HRL.out; omega
        have HLK := Lib.hid hrl
        clear hx hl2 hka hka2 hf hmv hst hrl hrr hlow
        go_wp2_with fail
        refine C.out.mono ?_
        rintro e w3 ⟨A3, m3, c3, rfl, hns, hl3, hm3, hst3⟩
        have hk4 := HK.out.trans hm3
        have hgm : m ≤ g := by have := HGZ.out; have := HMS.out; have := HS.out; omega
        have hf4 := HFF.out.move (m := m) (.inr hgm) (by have := HMS.out; have := HS.out; omega) hk4.kp
        have HT3 := Lib.hid (show w3.there g (k * 3) 3 from fun j hj => by
          have := hf4.there (k * 3 + j) (by omega)
          rwa [Nat.zero_add] at this)
        have hszw := HMV.out.size
        have hszg := HFF.out.lt
        have hstep := hf4.step (d := rr.dat) (us := [.string rr.name, .slice A3 m3 c3, .int .i64 rr.off]) (by rw [HLK.out]; exact hlt) (ty_shut hns hl3) (fun b hb => by
          have h1 : (wr.alloc (.cells #[.string u, .slice B n2 d, .int .i64 p] 25)).heap.size = wr.heap.size + 1 := by simp
          have h2 := hb.2
          rw [h1] at h2
          refine ⟨⟨hb.1, h2.imp id fun h => ⟨by omega, h.2⟩⟩, fun e => ?_⟩
          have := HNM.out
          rcases h2 with h2 | h2 <;> omega) (Ty.dat_size rr)
        rw [HLK.out] at hstep
        have HSP := Lib.hid hstep
        have HM4 := Lib.hid ((HMV.out.trans hk4).setCells (Nat.le_trans HLO.out HS.out) (Nat.le_of_eq HGZ.out.symm) (k * 3) [.string rr.name, .slice A3 m3 c3, .int .i64 rr.off])
        have HS4 := Lib.hid (HSt.out _ _ _ (below_cells (B := s0) (g := g) (by have := HGZ.out; have := HS.out; omega) [.string rr.name, .slice A3 m3 c3, .int .i64 rr.off] (k * 3) w3) hst3)
        have HST := Lib.hid (show Ty.dats (rs.take (k + 1)) = Ty.dats (rs.take k) ++ [rr.dat] by rw [Ex.take_at HRR.out, Ty.dats_map, Ty.dats_map, List.map_append]; rfl)
        clear hns hl3 hm3 hst3 hk4 hgm hf4 hszw hszg hstep x0 x1 x2 a0 a1 a2 C
        obtain ⟨e0, c0⟩ := Option.isSome_iff_exists.1 (HT3.out 0 (by omega)).1
        have f0 := (HT3.out 0 (by omega)).2
        obtain ⟨e1, c1⟩ := Option.isSome_iff_exists.1 (HT3.out 1 (by omega)).1
        have f1 := (HT3.out 1 (by omega)).2
        obtain ⟨e2, c2⟩ := Option.isSome_iff_exists.1 (HT3.out 2 (by omega)).1
        have f2 := (HT3.out 2 (by omega)).2
        rw [Nat.add_zero] at c0 f0
        have d1 : (w3.setCell ⟨g, k * 3, none⟩ (.string rr.name)).cell? ⟨g, k * 3 + 1, none⟩ = some e1 := by
          rw [World.cell?_setCell_other _ _ _ _ (by intro e; injection e with _ e; omega)]; exact c1
        have h1 : (w3.setCell ⟨g, k * 3, none⟩ (.string rr.name)).frozen? ⟨g, k * 3 + 1, none⟩ = false := by
          rw [World.frozen?_setCell]; exact f1
        have d2 : ((w3.setCell ⟨g, k * 3, none⟩ (.string rr.name)).setCell ⟨g, k * 3 + 1, none⟩ (.slice A3 m3 c3)).cell? ⟨g, k * 3 + 2, none⟩ = some e2 := by
          rw [World.cell?_setCell_other _ _ _ _ (by intro e; injection e with _ e; omega), World.cell?_setCell_other _ _ _ _ (by intro e; injection e with _ e; omega)]; exact c2
        have h2 : ((w3.setCell ⟨g, k * 3, none⟩ (.string rr.name)).setCell ⟨g, k * 3 + 1, none⟩ (.slice A3 m3 c3)).frozen? ⟨g, k * 3 + 2, none⟩ = false := by
          rw [World.frozen?_setCell, World.frozen?_setCell]; exact f2
        clear c1 f1 c2 f2
        go_wp2_with fail
        go_roundw
        case rel => exact ⟨k + 1, by omega, by go_num, by rw [HST.out]; exact HSP.out, HM4.out, HS4.out⟩
        case measure => simp [intOf]; omega
      · have y0 : (q : Int) ≤ k := by omega
        have hrl : rs.length = q := by have := HL.out.len; have := HRL.out; omega
        have hjk : rs.take k = rs := List.take_of_length_le (by omega)
        have hkq : k = rs.length := by omega
        rw [hjk] at hf
        rw [hkq] at hst
        have HFF2 := Lib.hid hf
        have HS2 := Lib.hid hst
        have HRQ := Lib.hid hrl
        clear hf hmv hst hjk hkq hrl
        go_wp2_with fail
        go_ret
        have hr := HFF2.out.row (by rw [Ty.dats_len]; exact HRQ.out) (by omega) (by have := HGZ.out; have := HLO.out; have := HS.out; omega) (Nat.le_of_eq HGZ.out.symm)
        refine ⟨some ⟨g, 0, none⟩, q, by rw [HRQ.out]; rfl, ?_, HMV.out, HS2.out⟩
        rw [HRQ.out]
        exact lies_row.2 hr

end Go.Proofs.YtjhlehdjdaphcaaDoor
namespace Go.Proofs.YtjhlehdjdaphcaaDoor
open Go.RowKit

/-- The store of a whole expression into its place in the slice. -/
theorem store8_at {P : Program} {ops : Array Oper} {rest : List Oper} {a : Act} {w : World} {Q : Exit → Act → World → Prop} {ps : String} {af : Array Edge} {b o : Nat} {vs : Array Value} (hx : a.eval (.tmp 26) = .pointer (some ⟨b, o, none⟩)) (hy : a.eval (.tmp 25) = .agg vs)
    (ht : w.there b o vs.size) (h1 : vs.all (·.oneCell') = true) (hi : (P.info? 28).map (·.size) = some vs.size) (h : wpList P ops Q rest (a.put none undef) (w.setCells b o vs.toList)) :
    wpList P ops Q ({ dst := none, op := .store 28 (.tmp 26) (.tmp 25), type := 0, pos := ps, after := af, guard := none } :: rest) a w :=
  wpList_store_mid rfl 28 (.tmp 26) (.tmp 25) rfl b o vs hx hy ht hi h1 h

set_option maxRecDepth 100000 in
set_option maxHeartbeats 16000000 in
theorem eachE_C (lo n m s0 : Nat) (St : Nat → World → Prop) (hSt : ∀ i V V', Below s0 V V' → St i V → St i V') (hlo : lo ≤ s0) (hnm : n ≤ m) (hms : m ≤ s0) (xs ys : List Ex) (st : Nat → Nat) (hl : ys.length = xs.length)
    (hT : ∀ j x y, xs[j]? = some x → ys[j]? = some y → KCall 58 #[] lo n m s0 St x y (st j) (st (j + 1))) (A : Option Addr) (q c : Nat) (w : World) (hq : q ≤ 1000000) (hs : s0 ≤ w.heap.size) (h0 : St (st 0) w) (h : Row w False (Safe n m w) 8 A q (Ex.dats xs)) :
    Calls Tryd.prog 86 #[.slice A q c, .func (.func 58) #[] #[]] w (KsGot lo n m St ys (st ys.length) w) := by
  have hxl := h.len
  rw [Ex.dats_len] at hxl
  have HL := Lib.hid h
  have HTT := Lib.hid hT
  have HSt := Lib.hid hSt
  have H0 := Lib.hid h0
  by_cases hm0 : q = 0
  · subst hm0
    obtain rfl := List.eq_nil_of_length_eq_zero hxl
    obtain rfl := List.eq_nil_of_length_eq_zero hl
    have e0 : (((0 : Nat) : Int) == 0) = true := rfl
    clear hT hSt h h0
    go_enter Tryd.func86, Tryd.ntmps86
    go_wp2_with fail
    go_ret
    exact ⟨none, 0, rfl, Nat.le_refl _, Row.nil _ _ _ _ _, Mv.refl _ _ _ _, H0.out⟩
  · have e0 : ((q : Int) == 0) = false := by simp; omega
    have hmk := run_make_ex q hq
    have HF := Lib.hid (fill_make (lo := lo) (n := n) (a := w.heap.size) (z := 8) w q #[.int .i64 0, .string ⟨#[]⟩, .string ⟨#[]⟩, .slice none 0 0, .int .i64 0, .slice none 0 0, .slice none 0 0, .int .i64 0] 28)
    have HB := Lib.hid (show Below w.heap.size w (w.alloc (.cells (madeCells #[.int .i64 0, .string ⟨#[]⟩, .string ⟨#[]⟩, .slice none 0 0, .int .i64 0, .slice none 0 0, .slice none 0 0, .int .i64 0] (q * 8)) 28)) from (Below.refl _ _).alloc (Nat.le_refl _) _)
    have hmi : (q : Int) ≤ 1000000 := by omega
    obtain ⟨g, hgz⟩ : ∃ g, g = w.heap.size := ⟨_, rfl⟩
    have HGZ := Lib.hid hgz
    have HS := Lib.hid hs
    have HLO := Lib.hid hlo
    have HNM := Lib.hid hnm
    have HMS := Lib.hid hms
    have HRL := Lib.hid hl
    have HXL := Lib.hid hxl
    clear hT hSt h h0 hs hlo hnm hms hl hxl
    go_enter Tryd.func86, Tryd.ntmps86
    go_wp2_with fail
    rw [← hgz] at HF ⊢
    clear hgz
    go_loopw [16] (fun i wr => ∃ k : Nat, k ≤ q ∧ i = .int .i64 k ∧ Fill lo n w.heap.size wr g q 8 (Ex.dats (ys.take k)) ∧ Mv lo n m w wr ∧ St (st k) wr) (fun i _ => q - (intOf i).toNat)
    case atStart => exact ⟨0, by omega, rfl, by have h := HF.out; rw [HGZ.out] at h; rw [HGZ.out]; simpa [Ex.dats] using h, Mv.of HB.out (Nat.le_trans HLO.out HS.out), HSt.out _ _ _ (HB.out.mono HS.out) H0.out⟩
    case round =>
      obtain ⟨k, hk, rfl, hf, hmv, hst⟩ := hrel
      have HMV := Lib.hid hmv
      have HFF := Lib.hid hf
      have y1 : (0 : Int) ≤ k := by omega
      by_cases hlt : k < q
      · have y0 : (k : Int) < q := by omega
        obtain ⟨p, u, ps, rfl, hx, _, _, hu, hcs⟩ := kid_at (Row.mv HL.out hmv) hlt
        obtain ⟨yy, hrr⟩ : ∃ yy, ys[k]? = some yy := ⟨_, List.getElem?_eq_getElem (by have := HXL.out; have := HRL.out; omega)⟩
        have hka : Below wr.heap.size wr (wr.alloc (.cells ps.toArray 28)) := (Below.refl _ _).alloc (Nat.le_refl _) _
        have hlow : lo ≤ wr.heap.size := by have := hmv.size; have := HLO.out; have := HS.out; omega
        have hka2 : Mv lo n m wr (wr.alloc (.cells ps.toArray 28)) := Mv.of hka hlow
        have C := Lib.hid (show Calls Tryd.prog 58 #[.agg ps.toArray] _ _ from HTT.out k _ _ hx hrr ps (wr.alloc (.cells ps.toArray 28)) (by have := hmv.size; have := HS.out; have := hka.size; omega) (HSt.out _ _ _ (hka.mono (by have := hmv.size; have := HS.out; omega)) hst) (Dat.In.mv hu hka2))
        have HBX := Lib.hid (Boxd.new wr ps.toArray 28)
        obtain ⟨_, _, _, _, _, _, _, _, _, rfl, _⟩ := ex_open hu
        obtain ⟨b0, b1, b2, b3, b4, b5, b6, b7⟩ := cells8_at hcs
        obtain ⟨x0, x1, x2, x3, x4, x5, x6, x7⟩ := HBX.out.c8
        have HRR := Lib.hid hrr
        have HK := Lib.hid hka2
        have hrl : (Ex.dats (ys.take k)).length = k := by rw [Ex.dats_len, List.length_take]; have := HXL.out; have := HRL.out; omega
        have HLK := Lib.hid hrl
        clear hx hu hka hka2 hf hmv hst hrl hrr hlow hcs HBX
        go_wp2_with fail
        refine C.out.mono ?_
        rintro e w3 ⟨vs, rfl, hv3, hm3, hst3⟩
        have hk4 := HK.out.trans hm3
        have hgm : m ≤ g := by have := HGZ.out; have := HMS.out; have := HS.out; omega
        have hf4 := HFF.out.move (m := m) (.inr hgm) (by have := HMS.out; have := HS.out; omega) hk4.kp
        have HT3 := Lib.hid (show w3.there g (k * 8) 8 from fun j hj => by
          have := hf4.there (k * 8 + j) (by omega)
          rwa [Nat.zero_add] at this)
        have hszw := HMV.out.size
        have hszg := HFF.out.lt
        have hstep := hf4.step (d := yy.dat) (us := vs) (by rw [HLK.out]; exact hlt) hv3 (fun b hb => by
          have h2 := hb.2
          rw [World.size_alloc] at h2
          refine ⟨⟨hb.1, h2.imp id fun h => ⟨by omega, h.2⟩⟩, fun e => ?_⟩
          have := HNM.out
          rcases h2 with h2 | h2 <;> omega) (Ex.dat_size yy)
        rw [HLK.out] at hstep
        have HSP := Lib.hid hstep
        have HM4 := Lib.hid ((HMV.out.trans hk4).setCells (Nat.le_trans HLO.out HS.out) (Nat.le_of_eq HGZ.out.symm) (k * 8) vs)
        have HS4 := Lib.hid (HSt.out _ _ _ (below_cells (B := s0) (g := g) (by have := HGZ.out; have := HS.out; omega) vs (k * 8) w3) hst3)
        have HST := Lib.hid (show Ex.dats (ys.take (k + 1)) = Ex.dats (ys.take k) ++ [yy.dat] by rw [Ex.take_at HRR.out, Ex.dats_snoc])
        obtain ⟨A3, m3, c3, B3, l3, d3, C3, r3, f3, rfl, _⟩ := ex_open hv3
        clear hv3 hm3 hst3 hk4 hgm hf4 hszw hszg hstep x0 x1 x2 x3 x4 x5 x6 x7 b0 b1 b2 b3 b4 b5 b6 b7 C
        have HOC := Lib.hid (show (#[.int .i64 yy.kind, .string yy.name, .string yy.ty.name, .slice A3 m3 c3, .int .i64 yy.ty.off, .slice B3 l3 d3, .slice C3 r3 f3, .int .i64 yy.off] : Array Value).all (·.oneCell') = true by simp [Value.oneCell'])
        go_wp2_with (refine store8_at (b := g) (o := k * 8) (vs := #[.int .i64 yy.kind, .string yy.name, .string yy.ty.name, .slice A3 m3 c3, .int .i64 yy.ty.off, .slice B3 l3 d3, .slice C3 r3 f3, .int .i64 yy.off]) rfl rfl HT3.out HOC.out sizeE8 ?_)
        go_roundw
        case rel => exact ⟨k + 1, by omega, by go_num, by rw [HST.out]; exact HSP.out, HM4.out, HS4.out⟩
        case measure => simp [intOf]; omega
      · have y0 : (q : Int) ≤ k := by omega
        have hrl : ys.length = q := by have := HXL.out; have := HRL.out; omega
        have hjk : ys.take k = ys := List.take_of_length_le (by omega)
        have hkq : k = ys.length := by omega
        rw [hjk] at hf
        rw [hkq] at hst
        have HFF2 := Lib.hid hf
        have HS2 := Lib.hid hst
        have HRQ := Lib.hid hrl
        clear hf hmv hst hjk hkq hrl
        go_wp2_with fail
        go_ret
        have hr := HFF2.out.row (by rw [Ex.dats_len]; exact HRQ.out) (by omega) (by have := HGZ.out; have := HLO.out; have := HS.out; omega) (Nat.le_of_eq HGZ.out.symm)
        refine ⟨some ⟨g, 0, none⟩, q, by rw [HRQ.out]; rfl, Nat.le_of_eq HRQ.out, ?_, HMV.out, HS2.out⟩
        rw [HRQ.out]
        exact hr

end Go.Proofs.YtjhlehdjdaphcaaDoor
namespace Go.Proofs.YtjhlehdjdaphcaaDoor
open Go.RowKit

theorem store3_at {P : Program} {ops : Array Oper} {rest : List Oper} {a : Act} {w : World} {Q : Exit → Act → World → Prop} {ps : String} {af : Array Edge} {b o : Nat} {vs : Array Value} (hx : a.eval (.tmp 11) = .pointer (some ⟨b, o, none⟩)) (hy : a.eval (.tmp 10) = .agg vs)
    (ht : w.there b o vs.size) (h1 : vs.all (·.oneCell') = true) (hi : (P.info? 25).map (·.size) = some vs.size) (h : wpList P ops Q rest (a.put none undef) (w.setCells b o vs.toList)) :
    wpList P ops Q ({ dst := none, op := .store 25 (.tmp 11) (.tmp 10), type := 0, pos := ps, after := af, guard := none } :: rest) a w :=
  wpList_store_mid rfl 25 (.tmp 11) (.tmp 10) rfl b o vs hx hy ht hi h1 h
theorem store8m_at {P : Program} {ops : Array Oper} {rest : List Oper} {a : Act} {w : World} {Q : Exit → Act → World → Prop} {ps : String} {af : Array Edge} {b o : Nat} {vs : Array Value} (hx : a.eval (.tmp 6) = .pointer (some ⟨b, o, none⟩)) (hy : a.eval (.tmp 22) = .agg vs)
    (ht : w.there b o vs.size) (h1 : vs.all (·.oneCell') = true) (hi : (P.info? 28).map (·.size) = some vs.size) (h : wpList P ops Q rest (a.put none undef) (w.setCells b o vs.toList)) :
    wpList P ops Q ({ dst := none, op := .store 28 (.tmp 6) (.tmp 22), type := 0, pos := ps, after := af, guard := none } :: rest) a w :=
  wpList_store_mid rfl 28 (.tmp 6) (.tmp 22) rfl b o vs hx hy ht hi h1 h
theorem sizeT3 : (Tryd.prog.info? 25).map (·.size) = some 3 := by kernel_rfl

theorem BoxF.set234 {W : World} {k : Nat} {u0 u1 u2 u3 u4 u5 u6 u7 : Value} (h : BoxF W k [u0, u1, u2, u3, u4, u5, u6, u7]) (v2 v3 v4 : Value) : BoxF (W.setCells k 2 [v2, v3, v4]) k [u0, u1, v2, v3, v4, u5, u6, u7] :=
  BoxF.set (p := [u0, u1]) (vs := [v2, v3, v4]) (r := [u5, u6, u7]) (us := [u0, u1, u2, u3, u4, u5, u6, u7]) (fun _ _ => rfl) h (fun j hj => by match j, hj with | 0, _ => rfl | 1, _ => rfl) (fun j hj => by match j, hj with | 0, _ => rfl | 1, _ => rfl | 2, _ => rfl)
theorem BoxF.set5 {W : World} {k : Nat} {u0 u1 u2 u3 u4 u5 u6 u7 : Value} (h : BoxF W k [u0, u1, u2, u3, u4, u5, u6, u7]) (v5 : Value) : BoxF (W.setCells k 5 [v5]) k [u0, u1, u2, u3, u4, v5, u6, u7] :=
  BoxF.set (p := [u0, u1, u2, u3, u4]) (vs := [v5]) (r := [u6, u7]) (us := [u0, u1, u2, u3, u4, u5, u6, u7]) (fun _ _ => rfl) h (fun j hj => by match j, hj with | 0, _ => rfl | 1, _ => rfl | 2, _ => rfl | 3, _ => rfl | 4, _ => rfl) (fun j hj => by match j, hj with | 0, _ => rfl | 1, _ => rfl)
theorem BoxF.set6 {W : World} {k : Nat} {u0 u1 u2 u3 u4 u5 u6 u7 : Value} (h : BoxF W k [u0, u1, u2, u3, u4, u5, u6, u7]) (v6 : Value) : BoxF (W.setCells k 6 [v6]) k [u0, u1, u2, u3, u4, u5, v6, u7] :=
  BoxF.set (p := [u0, u1, u2, u3, u4, u5]) (vs := [v6]) (r := [u7]) (us := [u0, u1, u2, u3, u4, u5, u6, u7]) (fun _ _ => rfl) h (fun j hj => by match j, hj with | 0, _ => rfl | 1, _ => rfl | 2, _ => rfl | 3, _ => rfl | 4, _ => rfl | 5, _ => rfl) (fun j hj => by match j, hj with | 0, _ => rfl)
theorem BoxF.setAll {W : World} {k : Nat} {us vs : List Value} (h : BoxF W k us) (hl : vs.length = us.length) : BoxF (W.setCells k 0 vs) k vs := by
  have := BoxF.set (p := []) (vs := vs) (r := []) (fun _ _ => by simp [hl]) h (fun j hj => by simp at hj) (fun j hj => by simp at hj)
  simpa using this
theorem BoxF.there {W : World} {k : Nat} {us : List Value} (h : BoxF W k us) (o q : Nat) (ho : o + q ≤ us.length) : W.there k o q := fun j hj => ⟨by
  rw [h.box (o + j) _ (List.getElem?_eq_getElem (by omega))]; rfl, h.free _ (by omega)⟩

theorem Lies.new_mv {lo n m a k : Nat} {W V : World} {A : Option Addr} {ts : List Ty} (h : Lies W (NewAt lo n a W) A k ts) (ha : m ≤ a) (hk : Mv lo n m W V) : Lies V (NewAt lo n a V) A k ts :=
  h.moved hk.kp (fun _ h => h.safe ha) fun _ h => h.wide (Nat.le_refl _) hk.size
theorem new_ne {lo n a g : Nat} {W : World} {b : Nat} (h : NewAt lo n a W b) (hg : n ≤ g) (hga : g < a) : b ≠ g := by
  intro e; subst e; rcases h.2 with h | h <;> omega
theorem Row.new_set {lo n a g k z : Nat} {W : World} {A : Option Addr} {ds : List Dat} (h : Row W False (NewAt lo n a W) z A k ds) (hg : n ≤ g) (hga : g < a) (o : Nat) (vs : List Value) : Row (W.setCells g o vs) False (NewAt lo n a (W.setCells g o vs)) z A k ds :=
  h.keep id (fun p hp => ⟨World.cell?_setCells_out _ _ _ _ _ (fun e => absurd e (new_ne hp hg hga)), World.frozen?_setCells _ _ _ _ _⟩) fun _ h => h.wide (Nat.le_refl _) (by rw [size_setCells_w]; exact Nat.le_refl _)
theorem Lies.new_set {lo n a g k : Nat} {W : World} {A : Option Addr} {ts : List Ty} (h : Lies W (NewAt lo n a W) A k ts) (hg : n ≤ g) (hga : g < a) (o : Nat) (vs : List Value) : Lies (W.setCells g o vs) (NewAt lo n a (W.setCells g o vs)) A k ts :=
  lies_row.2 (Row.new_set (lies_row.1 h) hg hga o vs)

/-- What a walk of mapped carries: the box, the result that is not yet written, the state. -/
structure Mp (lo n m s0 : Nat) (St : Nat → World → Prop) (w W : World) (us : List Value) (i : Nat) : Prop where
  mv : Mv lo n m w W
  box : BoxF W w.heap.size us
  res : BoxF W (w.heap.size + 1) [.int .i64 0, .string ⟨#[]⟩, .string ⟨#[]⟩, .slice none 0 0, .int .i64 0, .slice none 0 0, .slice none 0 0, .int .i64 0]
  st : St i W
  big : w.heap.size + 2 ≤ W.heap.size
theorem Mp.new {lo n m s0 : Nat} {St : Nat → World → Prop} {w : World} {us : List Value} {i : Nat} (hSt : ∀ i V V', Below s0 V V' → St i V → St i V') (hlo : lo ≤ w.heap.size) (hs : s0 ≤ w.heap.size) (h0 : St i w) :
    Mp lo n m s0 St w ((w.alloc (.cells us.toArray 28)).alloc (.cells #[.int .i64 0, .string ⟨#[]⟩, .string ⟨#[]⟩, .slice none 0 0, .int .i64 0, .slice none 0 0, .slice none 0 0, .int .i64 0] 28)) us i := by
  have hb : Below w.heap.size w ((w.alloc (.cells us.toArray 28)).alloc (.cells #[.int .i64 0, .string ⟨#[]⟩, .string ⟨#[]⟩, .slice none 0 0, .int .i64 0, .slice none 0 0, .slice none 0 0, .int .i64 0] 28)) := ((Below.refl _ _).alloc (Nat.le_refl _) _).alloc (by simp) _
  have h2 := BoxF.new (w.alloc (.cells us.toArray 28)) #[.int .i64 0, .string ⟨#[]⟩, .string ⟨#[]⟩, .slice none 0 0, .int .i64 0, .slice none 0 0, .slice none 0 0, .int .i64 0] 28
  rw [World.size_alloc] at h2
  exact ⟨Mv.of hb hlo, (BoxF.new w us.toArray 28).later ((Below.refl _ _).alloc (Nat.le_refl _) _), h2, hSt _ _ _ (hb.mono hs) h0, by simp⟩
theorem Mp.call {lo n m s0 i i' : Nat} {St : Nat → World → Prop} {w W V : World} {us : List Value} (h : Mp lo n m s0 St w W us i) (hms : m ≤ w.heap.size) (hm : Mv lo n m W V) (hst : St i' V) : Mp lo n m s0 St w V us i' :=
  ⟨h.mv.trans hm, h.box.kept hm.kp hms, h.res.kept hm.kp (by omega), hst, Nat.le_trans h.big hm.size⟩
theorem Mp.set {lo n m s0 i o : Nat} {St : Nat → World → Prop} {w W : World} {us us' vs : List Value} (h : Mp lo n m s0 St w W us i) (hSt : ∀ i V V', Below s0 V V' → St i V → St i V') (hlo : lo ≤ w.heap.size) (hs : s0 ≤ w.heap.size)
    (hb : BoxF (W.setCells w.heap.size o vs) w.heap.size us') : Mp lo n m s0 St w (W.setCells w.heap.size o vs) us' i :=
  ⟨h.mv.setCells hlo (Nat.le_refl _) o vs, hb, h.res.other (by omega) o vs, hSt _ _ _ (below_cells hs vs o W) h.st, by rw [size_setCells_w]; exact h.big⟩

set_option maxRecDepth 100000 in
set_option maxHeartbeats 16000000 in
theorem mapped_C (lo n m s0 : Nat) (St : Nat → World → Prop) (hSt : ∀ i V V', Below s0 V V' → St i V → St i V') (hlo : lo ≤ s0) (hnm : n ≤ m) (hms : m ≤ s0) (k : Int) (s : ByteArray) (t r' : Ty) (ts rs : List Ty) (xs ys : List Ex) (o : Int) (i0 : Nat) (st : Nat → Nat)
    (hrl : rs.length = ts.length) (hyl : ys.length = xs.length) (h1 : TCall 69 #[] lo n m s0 St t r' i0) (h2 : ∀ j t r, ts[j]? = some t → rs[j]? = some r → TCall 69 #[] lo n m s0 St t r (i0 + 1 + j))
    (hst0 : st 0 = i0 + 1 + rs.length) (h3 : ∀ j x y, xs[j]? = some x → ys[j]? = some y → KCall 58 #[] lo n m s0 St x y (st j) (st (j + 1))) (us : List Value) (w : World) (hs : s0 ≤ w.heap.size) (h0 : St i0 w)
    (htq : ts.length ≤ 1000000) (hxq : xs.length ≤ 1000000) (h : (Ex.dat (.mk k s t ts xs o)).In w False (Safe n m w) us) :
    Calls Tryd.prog 77 #[.agg us.toArray, .func (.func 69) #[] #[], .func (.func 58) #[] #[]] w (KGot lo n m St (.mk k s r' rs ys o) (st ys.length) w) := by
  obtain ⟨A, q, a, B, l, b, C, r, c, rfl, hsz, htz, ha, hb, hc⟩ := ex_open h
  simp only [Ex.kind, Ex.name, Ex.ty, Ex.targs, Ex.kids, Ex.off] at hsz htz ha hb hc ⊢
  have htl := hb.len
  have hxl := hc.len
  rw [Ex.dats_len] at hxl
  have hlo2 : lo ≤ w.heap.size := Nat.le_trans hlo hs
  have hms2 : m ≤ w.heap.size := Nat.le_trans hms hs
  have M0 := Lib.hid (Mp.new (lo := lo) (n := n) (m := m) (s0 := s0) (us := [.int .i64 k, .string s, .string t.name, .slice A q a, .int .i64 t.off, .slice B l b, .slice C r c, .int .i64 o]) hSt hlo2 hs h0)
  have HSt := Lib.hid hSt
  have HLO := Lib.hid hlo2
  have HMS := Lib.hid hms2
  have HNM := Lib.hid hnm
  have HS := Lib.hid hs
  have HSZ := Lib.hid hsz
  have HB := Lib.hid hb
  have HC := Lib.hid hc
  have HRL := Lib.hid (show rs.length = l by omega)
  have HYL := Lib.hid (show ys.length = r by omega)
  have C1 := Lib.hid (show Calls Tryd.prog 69 #[.agg #[.string t.name, .slice A q a, .int .i64 t.off]] _ _ from h1 A q a _ (by have := M0.out.big; omega) M0.out.st htz (Lies.mv ha M0.out.mv))
  have C2 := Lib.hid (fun (V : World) (hV : Mv lo n m w V) (hz : St (i0 + 1) V) => eachT_C lo n m s0 St hSt hlo hnm hms ts rs (i0 + 1) hrl h2 B l b V (by omega) (by have := hV.size; omega) hz (Lies.mv hb hV))
  have C3 := Lib.hid (fun (V : World) (hV : Mv lo n m w V) (hz : St (i0 + 1 + rs.length) V) => eachE_C lo n m s0 St hSt hlo hnm hms xs ys st hyl h3 C r c V (by omega) (by have := hV.size; omega) (by rw [hst0]; exact hz) (hc.mv hV))
  obtain ⟨x0, x1, x2, x3, x4, x5, x6, x7⟩ := M0.out.box.box.c8
  clear h1 h2 h3 hSt hlo hnm hms hs h0 h hsz htz ha hb hc hlo2 hms2 hrl hyl hst0 htq hxq htl hxl
  go_enter Tryd.func77, Tryd.ntmps77
  go_wp2_with fail
  refine C1.out.mono ?_
  rintro e w1 ⟨A1, k1, c1, rfl, hn1, hl1, hm1, hs1⟩
  have M1 := Lib.hid (M0.out.call HMS.out hm1 hs1)
  have N1 := Lib.hid hn1
  have L1 := Lib.hid (show Lies w1 (NewAt lo n (w.heap.size + 2) w1) A1 k1 r'.args from hl1.wide fun _ h => h.wide M0.out.big (Nat.le_refl _))
  clear hm1 hs1 hn1 hl1 C1 M0 x0 x1 x2 x3 x4 x5 x6 x7
  obtain ⟨x0, x1, x2, x3, x4, x5, x6, x7⟩ := M1.out.box.box.c8
  have HT1 := Lib.hid (M1.out.box.there 2 3 (by simp))
  have HO1 := Lib.hid (show (#[.string r'.name, .slice A1 k1 c1, .int .i64 r'.off] : Array Value).all (·.oneCell') = true by simp [Value.oneCell'])
  have M2 := Lib.hid (M1.out.set (us' := [.int .i64 k, .string s, .string r'.name, .slice A1 k1 c1, .int .i64 r'.off, .slice B l b, .slice C r c, .int .i64 o]) HSt.out HLO.out HS.out (M1.out.box.set234 (.string r'.name) (.slice A1 k1 c1) (.int .i64 r'.off)))
  have L2 := Lib.hid (Lies.new_set L1.out (g := w.heap.size) (by have := HNM.out; have := HMS.out; omega) (by omega) 2 [.string r'.name, .slice A1 k1 c1, .int .i64 r'.off])
  have D2 := Lib.hid (C2.out _ M2.out.mv M2.out.st)
  obtain ⟨z0, z1, z2, z3, z4, z5, z6, z7⟩ := M2.out.box.box.c8
  clear L1 M1 C2 x0 x1 x5 x6 x7
  obtain ⟨W2, hW2⟩ : ∃ W2, W2 = w1.setCells w.heap.size 2 [.string r'.name, .slice A1 k1 c1, .int .i64 r'.off] := ⟨_, rfl⟩
  rw [← hW2] at M2 L2 D2 z0 z1 z2 z3 z4 z5 z6 z7
  have HW2 := Lib.hid hW2
  clear hW2
  go_wp2_with (refine store3_at (b := w.heap.size) (o := 2) (vs := #[.string r'.name, .slice A1 k1 c1, .int .i64 r'.off]) rfl rfl HT1.out HO1.out sizeT3 ?_; show wpList _ _ _ _ _ (w1.setCells w.heap.size 2 [.string r'.name, .slice A1 k1 c1, .int .i64 r'.off]); rw [← HW2.out])
  refine D2.out.mono ?_
  rintro e w3 ⟨B3, b3, rfl, hl3, hm3, hs3⟩
  have M3 := Lib.hid (M2.out.call HMS.out hm3 hs3)
  have L3 := Lib.hid (Lies.new_mv L2.out (by have := HMS.out; omega) hm3)
  have T3 := Lib.hid (show Lies w3 (NewAt lo n (w.heap.size + 2) w3) B3 rs.length rs from hl3.wide fun _ h => h.wide M2.out.big (Nat.le_refl _))
  clear hm3 hs3 hl3 D2 M2 L2 z0 z1 z2 z3 z4 z5 z6 z7 x2 x3 x4 HW2 HT1 HO1
  obtain ⟨x0, x1, x2, x3, x4, x5, x6, x7⟩ := M3.out.box.box.c8
  have f5 := M3.out.box.free 5 (by simp)
  have M4 := Lib.hid (show Mp lo n m s0 St w (w3.setCell ⟨w.heap.size, 5, none⟩ (.slice B3 rs.length b3)) _ _ from M3.out.set (vs := [.slice B3 rs.length b3]) HSt.out HLO.out HS.out (M3.out.box.set5 (.slice B3 rs.length b3)))
  have L4 := Lib.hid (show Lies (w3.setCell ⟨w.heap.size, 5, none⟩ (.slice B3 rs.length b3)) (NewAt lo n (w.heap.size + 2) (w3.setCell ⟨w.heap.size, 5, none⟩ (.slice B3 rs.length b3))) _ _ _ from Lies.new_set L3.out (g := w.heap.size) (by have := HNM.out; have := HMS.out; omega) (by omega) 5 [.slice B3 rs.length b3])
  have T4 := Lib.hid (show Lies (w3.setCell ⟨w.heap.size, 5, none⟩ (.slice B3 rs.length b3)) (NewAt lo n (w.heap.size + 2) (w3.setCell ⟨w.heap.size, 5, none⟩ (.slice B3 rs.length b3))) _ _ _ from Lies.new_set T3.out (g := w.heap.size) (by have := HNM.out; have := HMS.out; omega) (by omega) 5 [.slice B3 rs.length b3])
  have D3 := Lib.hid (C3.out _ M4.out.mv M4.out.st)
  obtain ⟨z0, z1, z2, z3, z4, z5, z6, z7⟩ := M4.out.box.box.c8
  clear L3 T3 M3 C3
  go_wp2_with fail
  refine D3.out.mono ?_
  rintro e w5 ⟨C5, c5, rfl, hc5, hr5, hm5, hs5⟩
  have M5 := Lib.hid (M4.out.call HMS.out hm5 hs5)
  have L5 := Lib.hid (Lies.new_mv L4.out (by have := HMS.out; omega) hm5)
  have T5 := Lib.hid (Lies.new_mv T4.out (by have := HMS.out; omega) hm5)
  have K5 := Lib.hid (show Row w5 False (NewAt lo n (w.heap.size + 2) w5) 8 C5 ys.length (Ex.dats ys) from hr5.wide fun _ h => h.wide M4.out.big (Nat.le_refl _))
  have HC5 := Lib.hid hc5
  clear hm5 hs5 hr5 hc5 D3 M4 L4 T4 z0 z1 z2 z3 z4 z5 z6 z7 x0 x1 x2 x3 x4 x5 x6 x7 f5
  obtain ⟨x0, x1, x2, x3, x4, x5, x6, x7⟩ := M5.out.box.box.c8
  have f6 := M5.out.box.free 6 (by simp)
  have M6 := Lib.hid (show Mp lo n m s0 St w (w5.setCell ⟨w.heap.size, 6, none⟩ (.slice C5 ys.length c5)) _ _ from M5.out.set (vs := [.slice C5 ys.length c5]) HSt.out HLO.out HS.out (M5.out.box.set6 (.slice C5 ys.length c5)))
  have L6 := Lib.hid (show Lies (w5.setCell ⟨w.heap.size, 6, none⟩ (.slice C5 ys.length c5)) (NewAt lo n (w.heap.size + 2) (w5.setCell ⟨w.heap.size, 6, none⟩ (.slice C5 ys.length c5))) _ _ _ from Lies.new_set L5.out (g := w.heap.size) (by have := HNM.out; have := HMS.out; omega) (by omega) 6 [.slice C5 ys.length c5])
  have T6 := Lib.hid (show Lies (w5.setCell ⟨w.heap.size, 6, none⟩ (.slice C5 ys.length c5)) (NewAt lo n (w.heap.size + 2) (w5.setCell ⟨w.heap.size, 6, none⟩ (.slice C5 ys.length c5))) _ _ _ from Lies.new_set T5.out (g := w.heap.size) (by have := HNM.out; have := HMS.out; omega) (by omega) 6 [.slice C5 ys.length c5])
  have K6 := Lib.hid (show Row (w5.setCell ⟨w.heap.size, 6, none⟩ (.slice C5 ys.length c5)) False (NewAt lo n (w.heap.size + 2) (w5.setCell ⟨w.heap.size, 6, none⟩ (.slice C5 ys.length c5))) _ _ _ _ from K5.out.new_set (g := w.heap.size) (by have := HNM.out; have := HMS.out; omega) (by omega) 6 [.slice C5 ys.length c5])
  obtain ⟨z0, z1, z2, z3, z4, z5, z6, z7⟩ := M6.out.box.box.c8
  have HT6 := Lib.hid (M6.out.res.there 0 8 (by simp))
  have HO6 := Lib.hid (show (#[.int .i64 k, .string s, .string r'.name, .slice A1 k1 c1, .int .i64 r'.off, .slice B3 rs.length b3, .slice C5 ys.length c5, .int .i64 o] : Array Value).all (·.oneCell') = true by simp [Value.oneCell'])
  clear L5 T5 K5 M5
  obtain ⟨W6, hW6⟩ : ∃ W6, W6 = (w5.setCell ⟨w.heap.size, 6, none⟩ (.slice C5 ys.length c5)).setCells (w.heap.size + 1) 0 [.int .i64 k, .string s, .string r'.name, .slice A1 k1 c1, .int .i64 r'.off, .slice B3 rs.length b3, .slice C5 ys.length c5, .int .i64 o] := ⟨_, rfl⟩
  have HW6 := Lib.hid hW6
  clear hW6
  go_wp2_with (refine store8m_at (b := w.heap.size + 1) (o := 0) (vs := #[.int .i64 k, .string s, .string r'.name, .slice A1 k1 c1, .int .i64 r'.off, .slice B3 rs.length b3, .slice C5 ys.length c5, .int .i64 o]) rfl rfl HT6.out HO6.out sizeE8 ?_; show wpList _ _ _ _ _ ((w5.setCell ⟨w.heap.size, 6, none⟩ (.slice C5 ys.length c5)).setCells (w.heap.size + 1) 0 [.int .i64 k, .string s, .string r'.name, .slice A1 k1 c1, .int .i64 r'.off, .slice B3 rs.length b3, .slice C5 ys.length c5, .int .i64 o]); rw [← HW6.out])
  have hres : BoxF W6 (w.heap.size + 1) [.int .i64 k, .string s, .string r'.name, .slice A1 k1 c1, .int .i64 r'.off, .slice B3 rs.length b3, .slice C5 ys.length c5, .int .i64 o] := by rw [HW6.out]; exact M6.out.res.setAll rfl
  obtain ⟨y0, y1, y2, y3, y4, y5, y6, y7⟩ := hres.box.c8
  refine bodyPost_ret (v := .agg #[.int .i64 k, .string s, .string r'.name, .slice A1 k1 c1, .int .i64 r'.off, .slice B3 rs.length b3, .slice C5 ys.length c5, .int .i64 o]) (by simp [results, Tryd.results77, go_sem, y0, y1, y2, y3, y4, y5, y6, y7]) rfl ?_
  have hup : ∀ b, NewAt lo n (w.heap.size + 2) W6 b → NewOr lo n w W6 b := fun b h => h.wide (by omega) (Nat.le_refl _)
  have hg1 : n ≤ w.heap.size + 1 := by have := HNM.out; have := HMS.out; omega
  refine ⟨_, rfl, ?_, ?_, ?_⟩
  · rw [HW6.out] at hup ⊢
    exact ex_shut (e := .mk k s r' rs ys o) HSZ.out N1.out ((Lies.new_set L6.out hg1 (by omega) _ _).wide hup) ((Lies.new_set T6.out hg1 (by omega) _ _).wide hup) ((K6.out.new_set hg1 (by omega) _ _).wide hup) HC5.out
  · rw [HW6.out]; exact M6.out.mv.setCells HLO.out (by omega) _ _
  · rw [HW6.out]; exact HSt.out _ _ _ (below_cells (by have := HS.out; omega) _ _ _) M6.out.st

end Go.Proofs.YtjhlehdjdaphcaaDoor
namespace Go.Proofs.YtjhlehdjdaphcaaDoor
open Go.RowKit

theorem store8c_at {P : Program} {ops : Array Oper} {rest : List Oper} {a : Act} {w : World} {Q : Exit → Act → World → Prop} {ps : String} {af : Array Edge} {b o : Nat} {vs : Array Value} (hx : a.eval (.tmp 2) = .pointer (some ⟨b, o, none⟩)) (hy : a.eval (.tmp 4) = .agg vs)
    (ht : w.there b o vs.size) (h1 : vs.all (·.oneCell') = true) (hi : (P.info? 28).map (·.size) = some vs.size) (h : wpList P ops Q rest (a.put none undef) (w.setCells b o vs.toList)) :
    wpList P ops Q ({ dst := none, op := .store 28 (.tmp 2) (.tmp 4), type := 0, pos := ps, after := af, guard := none } :: rest) a w :=
  wpList_store_mid rfl 28 (.tmp 2) (.tmp 4) rfl b o vs hx hy ht hi h1 h

def XCloneAt (e : Ex) : Prop := ∀ (us : List Value) (w : World), e.wt ≤ 100000 → e.dat.H w us → Calls Tryd.prog 58 #[.agg us.toArray] w (XPost w e)
theorem safe0 {V : World} : ∀ b, Safe 0 0 V b → b < V.heap.size := fun _ h => h.1
theorem tcall_clone (t : Ty) (hwt : Ty.wt t ≤ 100000) (lo s0 : Nat) (hlo : lo ≤ s0) (St : Nat → World → Prop) (hSt : ∀ i V V', Below s0 V V' → St i V → St i V') (hc : ∀ i i' V, St i V → St i' V) (i : Nat) : TCall 69 #[] lo 0 0 s0 St t t i := by
  intro A k c V hs hst hn h
  refine (show Calls Tryd.prog 69 #[.agg #[.string t.name, .slice A k c, .int .i64 t.off]] V _ from clone_any t (by have := Ty.list_wt t; omega) A k c V hn (LiesN.wide h safe0)).mono ?_
  rintro e V' ⟨A', k', c', rfl, h1, h2, hb⟩
  exact ⟨A', k', c', rfl, h1, LiesN.wide h2 fun b hb => ⟨by have := hb.1; omega, .inr hb⟩, Mv.of hb (by omega), hc _ _ _ (hSt _ _ _ (hb.mono hs) hst)⟩
theorem kcall_clone {x : Ex} (ih : XCloneAt x) (hwt : x.wt ≤ 100000) (lo s0 : Nat) (hlo : lo ≤ s0) (St : Nat → World → Prop) (hSt : ∀ i V V', Below s0 V V' → St i V → St i V') (hc : ∀ i i' V, St i V → St i' V) (i i' : Nat) : KCall 58 #[] lo 0 0 s0 St x x i i' := by
  intro us V hs hst h
  refine (show Calls Tryd.prog 58 #[.agg us.toArray] V _ from ih us V hwt (h.wide safe0)).mono ?_
  rintro e V' ⟨us', rfl, h2, hb⟩
  exact ⟨us', rfl, h2.wide fun b hb => ⟨by have := hb.1; omega, .inr hb⟩, Mv.of hb (by omega), hc _ _ _ (hSt _ _ _ (hb.mono hs) hst)⟩

/-- The first two blocks of a function that takes an expression and gives one. -/
theorem box_zero {w : World} {e : Ex} {us : List Value} (h : e.dat.H w us) :
    OneX w ((w.alloc (.cells us.toArray 28)).alloc (.cells #[.int .i64 0, .string ⟨#[]⟩, .string ⟨#[]⟩, .slice none 0 0, .int .i64 0, .slice none 0 0, .slice none 0 0, .int .i64 0] 28)) e us
      ∧ BoxF ((w.alloc (.cells us.toArray 28)).alloc (.cells #[.int .i64 0, .string ⟨#[]⟩, .string ⟨#[]⟩, .slice none 0 0, .int .i64 0, .slice none 0 0, .slice none 0 0, .int .i64 0] 28)) (w.heap.size + 1) [.int .i64 0, .string ⟨#[]⟩, .string ⟨#[]⟩, .slice none 0 0, .int .i64 0, .slice none 0 0, .slice none 0 0, .int .i64 0] := by
  refine ⟨(OneX.new h 28).later ((Below.refl _ _).alloc (Nat.le_refl _) _), ?_⟩
  have h2 := BoxF.new (w.alloc (.cells us.toArray 28)) #[.int .i64 0, .string ⟨#[]⟩, .string ⟨#[]⟩, .slice none 0 0, .int .i64 0, .slice none 0 0, .slice none 0 0, .int .i64 0] 28
  rw [World.size_alloc] at h2
  exact h2
/-- The result of such a function is written. -/
theorem xpost_set {w W : World} {x : Ex} {us : List Value} {k : Nat} (hB : Below w.heap.size w W) (hk : w.heap.size ≤ k) (h : x.dat.In W False (fun b => Fresh w W b ∧ b ≠ k) us) : XPost w x (.returned (.agg us.toArray)) (W.setCells k 0 us) :=
  ⟨us, rfl, Dat.In.keep id (fun p hp => ⟨World.cell?_setCells_out _ _ _ _ _ (fun e => absurd e hp.2), World.frozen?_setCells _ _ _ _ _⟩) (fun b hb => ⟨hb.1.1, by rw [size_setCells_w]; exact hb.1.2⟩) _ _ h, hB.trans (below_cells hk us 0 W)⟩

set_option maxRecDepth 100000 in
set_option maxHeartbeats 4000000 in
theorem xclone_any : ∀ e : Ex, XCloneAt e := by
  refine Ex.ind fun k s t ts xs o ih us w hwt h => ?_
  have hh := box_zero h
  have hwt1 := Ex.wt_ty (e := .mk k s t ts xs o)
  have hwt2 := fun u => Ex.wt_targ (e := .mk k s t ts xs o) (t := u)
  have hwt3 := fun y => Ex.wt_kid (e := .mk k s t ts xs o) (x := y)
  have hwt4 : xs.length ≤ Ex.wt (.mk k s t ts xs o) := by have := Ex.wtL_len xs; simp only [Ex.wt]; omega
  have hwt5 : ts.length ≤ Ex.wt (.mk k s t ts xs o) := by have := Ty.wtL_len ts; simp only [Ex.wt]; omega
  have HX := Lib.hid hh.1
  have HR := Lib.hid hh.2
  have C := Lib.hid (fun (V : World) (hV : (Ex.dat (.mk k s t ts xs o)).H V us) => show Calls Tryd.prog 77 #[.agg us.toArray, .func (.func 69) #[] #[], .func (.func 58) #[] #[]] V _ from
    mapped_C V.heap.size 0 0 V.heap.size (fun _ _ => True) (fun _ _ _ _ _ => trivial) (Nat.le_refl _) (Nat.le_refl _) (Nat.zero_le _) k s t t ts ts xs xs o 0 (fun j => 0 + 1 + ts.length + j) rfl rfl
      (tcall_clone t (Nat.le_trans hwt1 hwt) _ _ (Nat.le_refl _) _ (fun _ _ _ _ _ => trivial) (fun _ _ _ _ => trivial) 0)
      (fun j a b h1 h2 => by rw [h1] at h2; injection h2 with h2; subst h2; exact tcall_clone a (Nat.le_trans (hwt2 a (List.mem_of_getElem? h1)) hwt) _ _ (Nat.le_refl _) _ (fun _ _ _ _ _ => trivial) (fun _ _ _ _ => trivial) _) rfl
      (fun j a b h1 h2 => by rw [h1] at h2; injection h2 with h2; subst h2; exact kcall_clone (ih a (List.mem_of_getElem? h1)) (Nat.le_trans (hwt3 a (List.mem_of_getElem? h1)) hwt) _ _ (Nat.le_refl _) _ (fun _ _ _ _ _ => trivial) (fun _ _ _ _ => trivial) _ _)
      us V (Nat.le_refl _) trivial (by omega) (by omega) (hV.wide fun b hb => ⟨hb, .inr (Nat.zero_le _)⟩))
  obtain ⟨A, m, a, B, l, b, C', r, c, rfl, _⟩ := ex_open h
  obtain ⟨x0, x1, x2, x3, x4, x5, x6, x7⟩ := HX.out.one.c8
  simp only [Ex.kind, Ex.name, Ex.ty, Ex.off] at x0 x1 x2 x3 x4 x5 x6 x7 HX HR C ⊢
  clear ih h hh hwt hwt1 hwt2 hwt3 hwt4 hwt5
  go_enter Tryd.func58, Tryd.ntmps58
  go_wp2_with fail
  refine (C.out _ HX.out.da).mono ?_
  rintro e w1 ⟨vs, rfl, hv, hm, _⟩
  have HB1 := Lib.hid (HX.out.bel.trans (hm.bel.mono HX.out.bel.size))
  have HR1 := Lib.hid (HR.out.later hm.bel)
  have HV := Lib.hid (show (Ex.dat (.mk k s t ts xs o)).In w1 False (fun b => Fresh w w1 b ∧ b ≠ w.heap.size + 1) vs from hv.wide fun b hb => by
    have h1 := hb.1
    rcases hb.2 with h2 | h2
    · omega
    · rw [World.size_alloc, World.size_alloc] at h1
      exact ⟨⟨by omega, h2.2⟩, by omega⟩)
  obtain ⟨A3, m3, c3, B3, l3, d3, C3, r3, f3, rfl, _⟩ := ex_open hv
  simp only [Ex.kind, Ex.name, Ex.ty, Ex.off] at HV ⊢
  clear hv hm x0 x1 x2 x3 x4 x5 x6 x7 C HX HR
  have HT1 := Lib.hid (HR1.out.there 0 8 (by simp))
  have HO1 := Lib.hid (show (#[.int .i64 k, .string s, .string t.name, .slice A3 m3 c3, .int .i64 t.off, .slice B3 l3 d3, .slice C3 r3 f3, .int .i64 o] : Array Value).all (·.oneCell') = true by simp [Value.oneCell'])
  obtain ⟨W2, hW2⟩ : ∃ W2, W2 = w1.setCells (w.heap.size + 1) 0 [.int .i64 k, .string s, .string t.name, .slice A3 m3 c3, .int .i64 t.off, .slice B3 l3 d3, .slice C3 r3 f3, .int .i64 o] := ⟨_, rfl⟩
  have HW2 := Lib.hid hW2
  clear hW2
  go_wp2_with (refine store8c_at (b := w.heap.size + 1) (o := 0) (vs := #[.int .i64 k, .string s, .string t.name, .slice A3 m3 c3, .int .i64 t.off, .slice B3 l3 d3, .slice C3 r3 f3, .int .i64 o]) rfl rfl HT1.out HO1.out sizeE8 ?_; show wpList _ _ _ _ _ (w1.setCells (w.heap.size + 1) 0 [.int .i64 k, .string s, .string t.name, .slice A3 m3 c3, .int .i64 t.off, .slice B3 l3 d3, .slice C3 r3 f3, .int .i64 o]); rw [← HW2.out])
  have hres : BoxF W2 (w.heap.size + 1) [.int .i64 k, .string s, .string t.name, .slice A3 m3 c3, .int .i64 t.off, .slice B3 l3 d3, .slice C3 r3 f3, .int .i64 o] := by rw [HW2.out]; exact HR1.out.setAll rfl
  obtain ⟨y0, y1, y2, y3, y4, y5, y6, y7⟩ := hres.box.c8
  refine bodyPost_ret (v := .agg #[.int .i64 k, .string s, .string t.name, .slice A3 m3 c3, .int .i64 t.off, .slice B3 l3 d3, .slice C3 r3 f3, .int .i64 o]) (by simp [results, Tryd.results58, go_sem, y0, y1, y2, y3, y4, y5, y6, y7]) rfl ?_
  rw [HW2.out]
  exact xpost_set HB1.out (Nat.le_succ _) HV.out
end Go.Proofs.YtjhlehdjdaphcaaDoor
