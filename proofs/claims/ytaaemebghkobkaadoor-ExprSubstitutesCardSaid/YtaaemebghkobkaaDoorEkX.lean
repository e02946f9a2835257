/- The walks of each[Type], each[Expr] and mapped, at the function values that package expr hands them. The conditions: what those functions give. -/
import Derived.Test.YtaaemebghkobkaaDoorEkW
namespace Go.Proofs.YtaaemebghkobkaaDoor
open Go.RowKit

theorem infoE8 : (Tryd.prog.info? 27).map (fun i => (i.zero, i.size, i.bytes)) = some (some (.agg #[.int .i64 0, .string ⟨#[]⟩, .string ⟨#[]⟩, .slice none 0 0, .int .i64 0, .slice none 0 0, .slice none 0 0, .int .i64 0]), 8, 128) := by kernel_rfl
theorem sizeE8 : (Tryd.prog.info? 27).map (·.size) = some 8 := by kernel_rfl
theorem run_make_ex (m : Nat) (hm : m ≤ 1000000) (W : World) : (Instr.makeSlice 25 (.int .i64 (m : Int)) (.int .i64 (m : Int))).run Tryd.prog W =
    .ok (.slice (some ⟨W.heap.size, 0, none⟩) m m) (W.alloc (.cells (madeCells #[.int .i64 0, .string ⟨#[]⟩, .string ⟨#[]⟩, .slice none 0 0, .int .i64 0, .slice none 0 0, .slice none 0 0, .int .i64 0] (m * 8)) 27)) := by
  obtain ⟨i0, hi0, hz0, hz1, hz2⟩ := info_parts infoE8
  have hr := run_make (P := Tryd.prog) W 25 27 i0 _ Tryd.underlying25 hi0 hz0 .i64 .i64 m m (by omega) (Int.le_refl _) (by rw [hz2]; omega) (by omega)
  simp only [Int.toNat_natCast, hz1] at hr
  exact hr

set_option maxRecDepth 100000 in
set_option maxHeartbeats 8000000 in
theorem eachT_C (lo n m s0 : Nat) (St : Nat → World → Prop) (hSt : ∀ i V V', Below s0 V V' → St i V → St i V') (hlo : lo ≤ s0) (hnm : n ≤ m) (hms : m ≤ s0) (xs rs : List Ty) (i0 : Nat) (hl : rs.length = xs.length)
    (hT : ∀ j t r, xs[j]? = some t → rs[j]? = some r → TCall 54 #[] lo n m s0 St t r (i0 + j)) (A : Option Addr) (q c : Nat) (w : World) (hq : q ≤ 1000000) (hs : s0 ≤ w.heap.size) (h0 : St i0 w) (h : Lies w (Safe n m w) A q xs) :
    Calls Tryd.prog 73 #[.slice A q c, .func (.func 54) #[] #[]] w (TsGot lo n m St rs (i0 + rs.length) w) := by
  have hxl := h.len
  have HL := Lib.hid h
  have HTT := Lib.hid hT
  have HSt := Lib.hid hSt
  have H0 := Lib.hid h0
  by_cases hm0 : q = 0
  · subst hm0
    obtain rfl := List.eq_nil_of_length_eq_zero hxl
    obtain rfl := List.eq_nil_of_length_eq_zero hl
    have e0 : (((0 : Nat) : Int) == 0) = true := rfl
    clear hT hSt h h0
    go_enter Tryd.func73, Tryd.ntmps73
    go_wp2_with fail
    go_ret
    exact ⟨none, 0, rfl, Lies.nil _ _ _, Mv.refl _ _ _ _, H0.out⟩
  · have e0 : ((q : Int) == 0) = false := by simp; omega
    have hmk := run_make_ty q hq
    have HF := Lib.hid (fill_make (lo := lo) (n := n) (a := w.heap.size) (z := 3) w q #[.string ⟨#[]⟩, .slice none 0 0, .int .i64 0] 24)
    have HB := Lib.hid (show Below w.heap.size w (w.alloc (.cells (madeCells #[.string ⟨#[]⟩, .slice none 0 0, .int .i64 0] (q * 3)) 24)) from (Below.refl _ _).alloc (Nat.le_refl _) _)
    have hmi : (q : Int) ≤ 1000000 := by omega
    obtain ⟨g, hgz⟩ : ∃ g, g = w.heap.size := ⟨_, rfl⟩
    have HGZ := Lib.hid hgz
    have HS := Lib.hid hs
    have HLO := Lib.hid hlo
    have HNM := Lib.hid hnm
    have HMS := Lib.hid hms
    have HRL := Lib.hid hl
    clear hT hSt h h0 hs hlo hnm hms hl hxl
    go_enter Tryd.func73, Tryd.ntmps73
    go_wp2_with fail
    rw [← hgz] at HF ⊢
    clear hgz
    go_loopw [16] (fun i wr => ∃ k : Nat, k ≤ q ∧ i = .int .i64 k ∧ Fill lo n w.heap.size wr g q 3 (Ty.dats (rs.take k)) ∧ Mv lo n m w wr ∧ St (i0 + k) wr) (fun i _ => q - (intOf i).toNat)
    case atStart => exact ⟨0, by omega, rfl, by have h := HF.out; rw [HGZ.out] at h; rw [HGZ.out]; simpa [Ty.dats] using h, Mv.of HB.out (Nat.le_trans HLO.out HS.out), HSt.out _ _ _ (HB.out.mono HS.out) H0.out⟩
    case round =>
      obtain ⟨k, hk, rfl, hf, hmv, hst⟩ := hrel
      have HMV := Lib.hid hmv
      have HFF := Lib.hid hf
      have y1 : (0 : Int) ≤ k := by omega
      by_cases hlt : k < q
      · have y0 : (k : Int) < q := by omega
        obtain ⟨a, u, ys, p, B, n2, d, rfl, hx, _, a0, a1, a2, hu, hl2⟩ := Lies.get (HL.out.mv hmv) hlt
        obtain ⟨rr, hrr⟩ : ∃ rr, rs[k]? = some rr := ⟨_, List.getElem?_eq_getElem (by have := HL.out.len; have := HRL.out; omega)⟩
        have hka : Below wr.heap.size wr (wr.alloc (.cells #[.string u, .slice B n2 d, .int .i64 p] 24)) := (Below.refl _ _).alloc (Nat.le_refl _) _
        have hlow : lo ≤ wr.heap.size := by have := hmv.size; have := HLO.out; have := HS.out; omega
        have hka2 : Mv lo n m wr (wr.alloc (.cells #[.string u, .slice B n2 d, .int .i64 p] 24)) := Mv.of hka hlow
        have C := Lib.hid (show Calls Tryd.prog 54 #[.agg #[.string u, .slice B n2 d, .int .i64 p]] _ _ from HTT.out k _ _ hx hrr B n2 d (wr.alloc (.cells #[.string u, .slice B n2 d, .int .i64 p] 24)) (by have := hmv.size; have := HS.out; have := hka.size; omega) (HSt.out _ _ _ (hka.mono (by have := hmv.size; have := HS.out; omega)) hst) hu (Lies.mv hl2 hka2))
        obtain ⟨x0, x1, x2⟩ := Box.new wr u B n2 d p 24
        have HRR := Lib.hid hrr
        have HK := Lib.hid hka2
        have hrl : (Ty.dats (rs.take k)).length = k := by rw [Ty.dats_len, List.length_take]; have := HL.out.len; have := HRL.out; omega
        have HLK := Lib.hid hrl
        clear hx hl2 hka hka2 hf hmv hst hrl hrr hlow
        go_wp2_with fail
        refine C.out.mono ?_
        rintro e w3 ⟨A3, m3, c3, rfl, hns, hl3, hm3, hst3⟩
        have hk4 := HK.out.trans hm3
        have hgm : m ≤ g := by have := HGZ.out; have := HMS.out; have := HS.out; omega
        have hf4 := HFF.out.move (m := m) (.inr hgm) (by have := HMS.out; have := HS.out; omega) hk4.kp
        have HT3 := Lib.hid (show w3.there g (k * 3) 3 from fun j hj => by
          have := hf4.there (k * 3 + j) (by omega)
          rwa [Nat.zero_add] at this)
        have hszw := HMV.out.size
        have hszg := HFF.out.lt
        have hstep := hf4.step (d := rr.dat) (us := [.string rr.name, .slice A3 m3 c3, .int .i64 rr.off]) (by rw [HLK.out]; exact hlt) (ty_shut hns hl3) (fun b hb => by
          have h1 : (wr.alloc (.cells #[.string u, .slice B n2 d, .int .i64 p] 24)).heap.size = wr.heap.size + 1 := by simp
          have h2 := hb.2
          rw [h1] at h2
          refine ⟨⟨hb.1, h2.imp id fun h => ⟨by omega, h.2⟩⟩, fun e => ?_⟩
          have := HNM.out
          rcases h2 with h2 | h2 <;> omega) (Ty.dat_size rr)
        rw [HLK.out] at hstep
        have HSP := Lib.hid hstep
        have HM4 := Lib.hid ((HMV.out.trans hk4).setCells (Nat.le_trans HLO.out HS.out) (Nat.le_of_eq HGZ.out.symm) (k * 3) [.string rr.name, .slice A3 m3 c3, .int .i64 rr.off])
        have HS4 := Lib.hid (HSt.out _ _ _ (below_cells (B := s0) (g := g) (by have := HGZ.out; have := HS.out; omega) [.string rr.name, .slice A3 m3 c3, .int .i64 rr.off] (k * 3) w3) hst3)
        have HST := Lib.hid (show Ty.dats (rs.take (k + 1)) = Ty.dats (rs.take k) ++ [rr.dat] by rw [Ex.take_at HRR.out, Ty.dats_map, Ty.dats_map, List.map_append]; rfl)
        clear hns hl3 hm3 hst3 hk4 hgm hf4 hszw hszg hstep x0 x1 x2 a0 a1 a2 C
        obtain ⟨e0, c0⟩ := Option.isSome_iff_exists.1 (HT3.out 0 (by omega)).1
        have f0 := (HT3.out 0 (by omega)).2
        obtain ⟨e1, c1⟩ := Option.isSome_iff_exists.1 (HT3.out 1 (by omega)).1
        have f1 := (HT3.out 1 (by omega)).2
        obtain ⟨e2, c2⟩ := Option.isSome_iff_exists.1 (HT3.out 2 (by omega)).1
        have f2 := (HT3.out 2 (by omega)).2
        rw [Nat.add_zero] at c0 f0
        have d1 : (w3.setCell ⟨g, k * 3, none⟩ (.string rr.name)).cell? ⟨g, k * 3 + 1, none⟩ = some e1 := by
          rw [World.cell?_setCell_other _ _ _ _ (by intro e; injection e with _ e; omega)]; exact c1
        have h1 : (w3.setCell ⟨g, k * 3, none⟩ (.string rr.name)).frozen? ⟨g, k * 3 + 1, none⟩ = false := by
          rw [World.frozen?_setCell]; exact f1
        have d2 : ((w3.setCell ⟨g, k * 3, none⟩ (.string rr.name)).setCell ⟨g, k * 3 + 1, none⟩ (.slice A3 m3 c3)).cell? ⟨g, k * 3 + 2, none⟩ = some e2 := by
          rw [World.cell?_setCell_other _ _ _ _ (by intro e; injection e with _ e; omega), World.cell?_setCell_other _ _ _ _ (by intro e; injection e with _ e; omega)]; exact c2
        have h2 : ((w3.setCell ⟨g, k * 3, none⟩ (.string rr.name)).setCell ⟨g, k * 3 + 1, none⟩ (.slice A3 m3 c3)).frozen? ⟨g, k * 3 + 2, none⟩ = false := by
          rw [World.frozen?_setCell, World.frozen?_setCell]; exact f2
        clear c1 f1 c2 f2
        go_wp2_with fail
        go_roundw
        case rel => exact ⟨k + 1, by omega, by go_num, by rw [HST.out]; exact HSP.out, HM4.out, HS4.out⟩
        case measure => simp [intOf]; omega
      · have y0 : (q : Int) ≤ k := by omega
        have hrl : rs.length = q := by have := HL.out.len; have := HRL.out; omega
        have hjk : rs.take k = rs := List.take_of_length_le (by omega)
        have hkq : k = rs.length := by omega
        rw [hjk] at hf
        rw [hkq] at hst
        have HFF2 := Lib.hid hf
        have HS2 := Lib.hid hst
        have HRQ := Lib.hid hrl
        clear hf hmv hst hjk hkq hrl
        go_wp2_with fail
        go_ret
        have hr := HFF2.out.row (by rw [Ty.dats_len]; exact HRQ.out) (by omega) (by have := HGZ.out; have := HLO.out; have := HS.out; omega) (Nat.le_of_eq HGZ.out.symm)
        refine ⟨some ⟨g, 0, none⟩, q, by rw [HRQ.out]; rfl, ?_, HMV.out, HS2.out⟩
        rw [HRQ.out]
        exact lies_row.2 hr

set_option maxRecDepth 100000 in
set_option maxHeartbeats 8000000 in
theorem eachT_S (p7 : Nat) (lo n m s0 : Nat) (St : Nat → World → Prop) (hSt : ∀ i V V', Below s0 V V' → St i V → St i V') (hlo : lo ≤ s0) (hnm : n ≤ m) (hms : m ≤ s0) (xs rs : List Ty) (i0 : Nat) (hl : rs.length = xs.length)
    (hT : ∀ j t r, xs[j]? = some t → rs[j]? = some r → TCall 49 #[.pointer (some ⟨p7, 0, none⟩)] lo n m s0 St t r (i0 + j)) (A : Option Addr) (q c : Nat) (w : World) (hq : q ≤ 1000000) (hs : s0 ≤ w.heap.size) (h0 : St i0 w) (h : Lies w (Safe n m w) A q xs) :
    Calls Tryd.prog 73 #[.slice A q c, .func (.func 49) #[] #[.pointer (some ⟨p7, 0, none⟩)]] w (TsGot lo n m St rs (i0 + rs.length) w) := by
  have hxl := h.len
  have HL := Lib.hid h
  have HTT := Lib.hid hT
  have HSt := Lib.hid hSt
  have H0 := Lib.hid h0
  by_cases hm0 : q = 0
  · subst hm0
    obtain rfl := List.eq_nil_of_length_eq_zero hxl
    obtain rfl := List.eq_nil_of_length_eq_zero hl
    have e0 : (((0 : Nat) : Int) == 0) = true := rfl
    clear hT hSt h h0
    go_enter Tryd.func73, Tryd.ntmps73
    go_wp2_with fail
    go_ret
    exact ⟨none, 0, rfl, Lies.nil _ _ _, Mv.refl _ _ _ _, H0.out⟩
  · have e0 : ((q : Int) == 0) = false := by simp; omega
    have hmk := run_make_ty q hq
    have HF := Lib.hid (fill_make (lo := lo) (n := n) (a := w.heap.size) (z := 3) w q #[.string ⟨#[]⟩, .slice none 0 0, .int .i64 0] 24)
    have HB := Lib.hid (show Below w.heap.size w (w.alloc (.cells (madeCells #[.string ⟨#[]⟩, .slice none 0 0, .int .i64 0] (q * 3)) 24)) from (Below.refl _ _).alloc (Nat.le_refl _) _)
    have hmi : (q : Int) ≤ 1000000 := by omega
    obtain ⟨g, hgz⟩ : ∃ g, g = w.heap.size := ⟨_, rfl⟩
    have HGZ := Lib.hid hgz
    have HS := Lib.hid hs
    have HLO := Lib.hid hlo
    have HNM := Lib.hid hnm
    have HMS := Lib.hid hms
    have HRL := Lib.hid hl
    clear hT hSt h h0 hs hlo hnm hms hl hxl
    go_enter Tryd.func73, Tryd.ntmps73
    go_wp2_with fail
    rw [← hgz] at HF ⊢
    clear hgz
    go_loopw [16] (fun i wr => ∃ k : Nat, k ≤ q ∧ i = .int .i64 k ∧ Fill lo n w.heap.size wr g q 3 (Ty.dats (rs.take k)) ∧ Mv lo n m w wr ∧ St (i0 + k) wr) (fun i _ => q - (intOf i).toNat)
    case atStart => exact ⟨0, by omega, rfl, by have h := HF.out; rw [HGZ.out] at h; rw [HGZ.out]; simpa [Ty.dats] using h, Mv.of HB.out (Nat.le_trans HLO.out HS.out), HSt.out _ _ _ (HB.out.mono HS.out) H0.out⟩
    case round =>
      obtain ⟨k, hk, rfl, hf, hmv, hst⟩ := hrel
      have HMV := Lib.hid hmv
      have HFF := Lib.hid hf
      have y1 : (0 : Int) ≤ k := by omega
      by_cases hlt : k < q
      · have y0 : (k : Int) < q := by omega
        obtain ⟨a, u, ys, p, B, n2, d, rfl, hx, _, a0, a1, a2, hu, hl2⟩ := Lies.get (HL.out.mv hmv) hlt
        obtain ⟨rr, hrr⟩ : ∃ rr, rs[k]? = some rr := ⟨_, List.getElem?_eq_getElem (by have := HL.out.len; have := HRL.out; omega)⟩
        have hka : Below wr.heap.size wr (wr.alloc (.cells #[.string u, .slice B n2 d, .int .i64 p] 24)) := (Below.refl _ _).alloc (Nat.le_refl _) _
        have hlow : lo ≤ wr.heap.size := by have := hmv.size; have := HLO.out; have := HS.out; omega
        have hka2 : Mv lo n m wr (wr.alloc (.cells #[.string u, .slice B n2 d, .int .i64 p] 24)) := Mv.of hka hlow
        have C := Lib.hid (show Calls Tryd.prog 49 #[.agg #[.string u, .slice B n2 d, .int .i64 p], .pointer (some ⟨p7, 0, none⟩)] _ _ from HTT.out k _ _ hx hrr B n2 d (wr.alloc (.cells #[.string u, .slice B n2 d, .int .i64 p] 24)) (by have := hmv.size; have := HS.out; have := hka.size; omega) (HSt.out _ _ _ (hka.mono (by have := hmv.size; have := HS.out; omega)) hst) hu (Lies.mv hl2 hka2))
        obtain ⟨x0, x1, x2⟩ := Box.new wr u B n2 d p 24
        have HRR := Lib.hid hrr
        have HK := Lib.hid hka2
        have hrl : (Ty.dats (rs.take k)).length = k := by rw [Ty.dats_len, List.length_take]; have := HL.out.len; have := HRL.out; omega
        have HLK := Lib.hid hrl
        clear hx hl2 hka hka2 hf hmv hst hrl hrr hlow
        go_wp2_with fail
        refine C.out.mono ?_
        rintro e w3 ⟨A3, m3, c3, rfl, hns, hl3, hm3, hst3⟩
        have hk4 := HK.out.trans hm3
        have hgm : m ≤ g := by have := HGZ.out; have := HMS.out; have := HS.out; omega
        have hf4 := HFF.out.move (m := m) (.inr hgm) (by have := HMS.out; have := HS.out; omega) hk4.kp
        have HT3 := Lib.hid (show w3.there g (k * 3) 3 from fun j hj => by
          have := hf4.there (k * 3 + j) (by omega)
          rwa [Nat.zero_add] at this)
        have hszw := HMV.out.size
        have hszg := HFF.out.lt
        have hstep := hf4.step (d := rr.dat) (us := [.string rr.name, .slice A3 m3 c3, .int .i64 rr.off]) (by rw [HLK.out]; exact hlt) (ty_shut hns hl3) (fun b hb => by
          have h1 : (wr.alloc (.cells #[.string u, .slice B n2 d, .int .i64 p] 24)).heap.size = wr.heap.size + 1 := by simp
          have h2 := hb.2
          rw [h1] at h2
          refine ⟨⟨hb.1, h2.imp id fun h => ⟨by omega, h.2⟩⟩, fun e => ?_⟩
          have := HNM.out
          rcases h2 with h2 | h2 <;> omega) (Ty.dat_size rr)
        rw [HLK.out] at hstep
        have HSP := Lib.hid hstep
        have HM4 := Lib.hid ((HMV.out.trans hk4).setCells (Nat.le_trans HLO.out HS.out) (Nat.le_of_eq HGZ.out.symm) (k * 3) [.string rr.name, .slice A3 m3 c3, .int .i64 rr.off])
        have HS4 := Lib.hid (HSt.out _ _ _ (below_cells (B := s0) (g := g) (by have := HGZ.out; have := HS.out; omega) [.string rr.name, .slice A3 m3 c3, .int .i64 rr.off] (k * 3) w3) hst3)
        have HST := Lib.hid (show Ty.dats (rs.take (k + 1)) = Ty.dats (rs.take k) ++ [rr.dat] by rw [Ex.take_at HRR.out, Ty.dats_map, Ty.dats_map, List.map_append]; rfl)
        clear hns hl3 hm3 hst3 hk4 hgm hf4 hszw hszg hstep x0 x1 x2 a0 a1 a2 C
        obtain ⟨e0, c0⟩ := Option.isSome_iff_exists.1 (HT3.out 0 (by omega)).1
        have f0 := (HT3.out 0 (by omega)).2
        obtain ⟨e1, c1⟩ := Option.isSome_iff_exists.1 (HT3.out 1 (by omega)).1
        have f1 := (HT3.out 1 (by omega)).2
        obtain ⟨e2, c2⟩ := Option.isSome_iff_exists.1 (HT3.out 2 (by omega)).1
        have f2 := (HT3.out 2 (by omega)).2
        rw [Nat.add_zero] at c0 f0
        have d1 : (w3.setCell ⟨g, k * 3, none⟩ (.string rr.name)).cell? ⟨g, k * 3 + 1, none⟩ = some e1 := by
          rw [World.cell?_setCell_other _ _ _ _ (by intro e; injection e with _ e; omega)]; exact c1
        have h1 : (w3.setCell ⟨g, k * 3, none⟩ (.string rr.name)).frozen? ⟨g, k * 3 + 1, none⟩ = false := by
          rw [World.frozen?_setCell]; exact f1
        have d2 : ((w3.setCell ⟨g, k * 3, none⟩ (.string rr.name)).setCell ⟨g, k * 3 + 1, none⟩ (.slice A3 m3 c3)).cell? ⟨g, k * 3 + 2, none⟩ = some e2 := by
          rw [World.cell?_setCell_other _ _ _ _ (by intro e; injection e with _ e; omega), World.cell?_setCell_other _ _ _ _ (by intro e; injection e with _ e; omega)]; exact c2
        have h2 : ((w3.setCell ⟨g, k * 3, none⟩ (.string rr.name)).setCell ⟨g, k * 3 + 1, none⟩ (.slice A3 m3 c3)).frozen? ⟨g, k * 3 + 2, none⟩ = false := by
          rw [World.frozen?_setCell, World.frozen?_setCell]; exact f2
        clear c1 f1 c2 f2
        go_wp2_with fail
        go_roundw
        case rel => exact ⟨k + 1, by omega, by go_num, by rw [HST.out]; exact HSP.out, HM4.out, HS4.out⟩
        case measure => simp [intOf]; omega
      · have y0 : (q : Int) ≤ k := by omega
        have hrl : rs.length = q := by have := HL.out.len; have := HRL.out; omega
        have hjk : rs.take k = rs := List.take_of_length_le (by omega)
        have hkq : k = rs.length := by omega
        rw [hjk] at hf
        rw [hkq] at hst
        have HFF2 := Lib.hid hf
        have HS2 := Lib.hid hst
        have HRQ := Lib.hid hrl
        clear hf hmv hst hjk hkq hrl
        go_wp2_with fail
        go_ret
        have hr := HFF2.out.row (by rw [Ty.dats_len]; exact HRQ.out) (by omega) (by have := HGZ.out; have := HLO.out; have := HS.out; omega) (Nat.le_of_eq HGZ.out.symm)
        refine ⟨some ⟨g, 0, none⟩, q, by rw [HRQ.out]; rfl, ?_, HMV.out, HS2.out⟩
        rw [HRQ.out]
        exact lies_row.2 hr
end Go.Proofs.YtaaemebghkobkaaDoor
