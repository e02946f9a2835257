/- The walk of expr.Subst. The condition: few parts. -/
import Derived.Test.YtaaemebghkobkaaDoorEkN
import Derived.Test.YtaaemebghkobkaaDoorTwE
namespace Go.Proofs.YtaaemebghkobkaaDoor
open Go.RowKit
attribute [local go_sem] run_store_fn

set_option maxRecDepth 100000 in
set_option maxHeartbeats 8000000 in
theorem xsubst_any (e : Ex) (us : List Value) (ns : List ByteArray) (vs : List Ty) (N U : Option Addr) (nl ul nc uc : Nat) (w : World) (hwt : e.wt ≤ 1000) (hvs : ∀ v ∈ vs, v.Small) (hul : ul ≤ 1000) (hF : Fits ns nl nc) (h : e.dat.H w us) (hN : Sl w N nl ns) (hU : Here w U ul vs) :
    Calls Tryd.prog 22 #[.agg us.toArray, .slice N nl nc, .slice U ul uc] w (XPost w (e.subst ns vs)) := by
  have hh := box_zero h
  have HX := Lib.hid hh.1
  have HR := Lib.hid hh.2
  have HWT := Lib.hid hwt
  have CT := Lib.hid (typesIn_any e us _ hwt hh.1.da)
  have CA := Lib.hid (fun (A : Option Addr) (c : Nat) (V : World) (hV : Below w.heap.size w V) (hl : Here V A e.typs.length e.typs) => all_cap e.typs ns vs A N U e.typs.length c nl ul nc uc V hvs (fun x hx => ty_few (Nat.le_trans (Ex.typs_mem e x hx) hwt)) (Nat.le_trans (Ex.typs_len e) hwt) hul hF hl (hN.later hV) (Here.later hU hV))
  have HRL := Lib.hid (show (e.typs.map (Ty.subst ns vs)).length = e.typs.length from List.length_map _)
  obtain ⟨A, m, a, B, l, b, C', r, c, rfl, _⟩ := ex_open h
  obtain ⟨x0, x1, x2, x3, x4, x5, x6, x7⟩ := HX.out.one.c8
  clear hh h hN hU hwt hvs hul hF
  go_enter Tryd.func22, Tryd.ntmps22
  go_wp2_with fail
  refine CT.out.mono ?_
  rintro e0 w1 ⟨TA, tc, rfl, hl1, hb1⟩
  have HB1 := Lib.hid (HX.out.bel.trans (hb1.mono HX.out.bel.size))
  have HX1 := Lib.hid (HX.out.later hb1)
  have HR1 := Lib.hid (HR.out.later hb1)
  have HS1 := Lib.hid (show w.heap.size + 2 ≤ w1.heap.size by have := hb1.size; rw [World.size_alloc, World.size_alloc] at this; omega)
  have CA1 := Lib.hid (CA.out TA tc w1 HB1.out hl1)
  clear hl1 hb1 x0 x1 x2 x3 x4 x5 x6 x7 CT CA HX HR
  generalize hrs : e.typs.map (Ty.subst ns vs) = rs at *
  go_wp2_with fail
  refine CA1.out.mono ?_
  rintro e0 w2 ⟨RA, rc, rfl, hcap, hl2, hb2⟩
  have hlow : Lies w2 (fun b => w.heap.size + 2 ≤ b ∧ b < w2.heap.size) RA rs.length rs := LiesN.wide hl2 fun b hb => ⟨by have := hb.1; have := HS1.out; omega, hb.2⟩
  obtain ⟨Ws, hWs⟩ : ∃ Ws, Ws = ((w2.alloc (.cells #[.slice RA rs.length rc] 22)).alloc (.cells #[.func (.func 49) #[] #[.pointer (some ⟨w2.heap.size, 0, none⟩)]] 65)).alloc (.cells #[.func (.func 50) #[] #[.pointer (some ⟨w2.heap.size + 1, 0, none⟩), .pointer (some ⟨w2.heap.size + 1 + 1, 0, none⟩)]] 36) := ⟨_, rfl⟩
  have hb3 : Below w2.heap.size w2 Ws := by rw [hWs]; exact (((Below.refl _ _).alloc (Nat.le_refl _) _).alloc (by simp) _).alloc (by simp; omega) _
  have hk7 : Ws.heap[w2.heap.size]? = some (.cells #[.slice RA rs.length rc] 22 (0, 0)) := by rw [hWs]; exact heap_prev (heap_prev (heap_last w2 _) _) _
  have hk8 : Ws.heap[w2.heap.size + 1]? = some (.cells #[.func (.func 49) #[] #[.pointer (some ⟨w2.heap.size, 0, none⟩)]] 65 (0, 0)) := by rw [hWs]; exact heap_prev (heap_alloc_two w2 _ _) _
  have hk9 : Ws.heap[w2.heap.size + 1 + 1]? = some (.cells #[.func (.func 50) #[] #[.pointer (some ⟨w2.heap.size + 1, 0, none⟩), .pointer (some ⟨w2.heap.size + 1 + 1, 0, none⟩)]] 36 (0, 0)) := by
    rw [hWs]
    have := heap_last ((w2.alloc (.cells #[.slice RA rs.length rc] 22)).alloc (.cells #[.func (.func 49) #[] #[.pointer (some ⟨w2.heap.size, 0, none⟩)]] 65)) (.cells #[.func (.func 50) #[] #[.pointer (some ⟨w2.heap.size + 1, 0, none⟩), .pointer (some ⟨w2.heap.size + 1 + 1, 0, none⟩)]] 36)
    rwa [show ((w2.alloc (.cells #[.slice RA rs.length rc] 22)).alloc (.cells #[.func (.func 49) #[] #[.pointer (some ⟨w2.heap.size, 0, none⟩)]] 65)).heap.size = w2.heap.size + 1 + 1 by simp] at this
  have c7 : Ws.cell? ⟨w2.heap.size, 0, none⟩ = some (.slice RA rs.length rc) := by rw [cell_of_row _ _ 0 _ _ (0, 0) hk7]; rfl
  have c8 : Ws.cell? ⟨w2.heap.size + 1, 0, none⟩ = some (.func (.func 49) #[] #[.pointer (some ⟨w2.heap.size, 0, none⟩)]) := by rw [cell_of_row _ _ 0 _ _ (0, 0) hk8]; rfl
  have c9 : Ws.cell? ⟨w2.heap.size + 1 + 1, 0, none⟩ = some (.func (.func 50) #[] #[.pointer (some ⟨w2.heap.size + 1, 0, none⟩), .pointer (some ⟨w2.heap.size + 1 + 1, 0, none⟩)]) := by rw [cell_of_row _ _ 0 _ _ (0, 0) hk9]; rfl
  have hsz : w2.heap.size + 1 + 1 < Ws.heap.size := (Array.getElem?_eq_some_iff.1 hk9).1
  have HST := Lib.hid (show SubSt Ws (w.heap.size + 2) w2.heap.size (w2.heap.size + 1) (w2.heap.size + 1 + 1) rs 0 Ws from ⟨Below.refl _ _, ⟨RA, rc, c7, frozen_of_row hk7 0, hcap, Nat.zero_le _, by
    rw [List.drop_zero]; exact LiesN.later hlow hb3 (fun _ h => h.2)⟩, c8, c9⟩)
  have HX2 := Lib.hid ((HX1.out.later hb2).later hb3)
  have HR2 := Lib.hid ((HR1.out.later hb2).later hb3)
  have HB2 := Lib.hid ((HB1.out.trans (hb2.mono HB1.out.size)).trans (hb3.mono (Nat.le_trans HB1.out.size hb2.size)))
  have HD2 := Lib.hid (show e.dat.In Ws False (Safe w2.heap.size (w2.heap.size + 1) Ws) _ from (Dat.In.later (HX1.out.later hb2).da hb3 (fun _ h => h)).wide fun b hb => ⟨Nat.lt_of_lt_of_le hb hb3.size, .inl hb⟩)
  have C1 := Lib.hid (show Calls Tryd.prog 50 #[.agg #[.int .i64 e.kind, .string e.name, .string e.ty.name, .slice A m a, .int .i64 e.ty.off, .slice B l b, .slice C' r c, .int .i64 e.off], .pointer (some ⟨w2.heap.size + 1, 0, none⟩), .pointer (some ⟨w2.heap.size + 1 + 1, 0, none⟩)] Ws _ from
    subst2_any ns vs Ws (w.heap.size + 2) w2.heap.size (w2.heap.size + 1) (w2.heap.size + 1 + 1) rs (by have := HS1.out; have := hb2.size; omega) (Nat.lt_succ_self _) (Nat.lt_succ_self _) hsz e (by have := HWT.out; omega) 0 (fun j t hj => by rw [← hrs, Nat.zero_add, List.getElem?_map, hj]; rfl) _ Ws (Nat.le_refl _) HST.out HD2.out)
  have HSW := Lib.hid (show w.heap.size + 2 ≤ w2.heap.size ∧ w2.heap.size + 3 ≤ Ws.heap.size by have := HS1.out; have := hb2.size; omega)
  obtain ⟨x0, x1, x2, x3, x4, x5, x6, x7⟩ := HX2.out.one.c8
  clear hb2 hb3 hl2 hcap hlow hk7 hk8 hk9 c7 c8 c9 hsz CA1 HX1 HR1 hrs HST HD2
  subst hWs
  go_wp2_with fail
  refine C1.out.mono ?_
  rintro e1 w3 ⟨qs, rfl, hv, hm, _⟩
  have HB3 := Lib.hid (HB2.out.trans (hm.bel.mono (Nat.le_add_right _ _)))
  have HR4 := Lib.hid (show BoxF w3 (w.heap.size + 1) _ from ⟨fun j u hu => (hm.bel.cell (p := ⟨w.heap.size + 1, j, none⟩) (Nat.lt_succ_self _)).trans (HR2.out.box j u hu), fun j hj => (hm.bel.frozen (p := ⟨w.heap.size + 1, j, none⟩) (Nat.lt_succ_self _)).trans (HR2.out.free j hj)⟩)
  have HV := Lib.hid (show (e.subst ns vs).dat.In w3 False (fun b => Fresh w w3 b ∧ b ≠ w.heap.size + 1) qs from hv.wide fun b hb => by
    have h1 := hb.1
    have h3 := hm.size
    have h4 := HSW.out
    rcases hb.2 with h2 | h2
    · exact ⟨⟨by omega, by omega⟩, by omega⟩
    · exact ⟨⟨by omega, h2.2⟩, by omega⟩)
  obtain ⟨A3, m3, c3, B3, l3, d3, C3, r3, f3, rfl, _⟩ := ex_open hv
  clear hv hm x0 x1 x2 x3 x4 x5 x6 x7 C1 HX2 HR2
  generalize e.subst ns vs = y at *
  have HT1 := Lib.hid (HR4.out.there 0 8 (by simp))
  have HO1 := Lib.hid (show (#[.int .i64 y.kind, .string y.name, .string y.ty.name, .slice A3 m3 c3, .int .i64 y.ty.off, .slice B3 l3 d3, .slice C3 r3 f3, .int .i64 y.off] : Array Value).all (·.oneCell') = true by simp [Value.oneCell'])
  obtain ⟨W2, hW2⟩ : ∃ W2, W2 = w3.setCells (w.heap.size + 1) 0 [.int .i64 y.kind, .string y.name, .string y.ty.name, .slice A3 m3 c3, .int .i64 y.ty.off, .slice B3 l3 d3, .slice C3 r3 f3, .int .i64 y.off] := ⟨_, rfl⟩
  have HW2 := Lib.hid hW2
  clear hW2
  go_wp2_with (refine store8_any 6 19 (b := w.heap.size + 1) (o := 0) (vs := #[.int .i64 y.kind, .string y.name, .string y.ty.name, .slice A3 m3 c3, .int .i64 y.ty.off, .slice B3 l3 d3, .slice C3 r3 f3, .int .i64 y.off]) rfl rfl HT1.out HO1.out sizeE8 ?_; show wpList _ _ _ _ _ (w3.setCells (w.heap.size + 1) 0 [.int .i64 y.kind, .string y.name, .string y.ty.name, .slice A3 m3 c3, .int .i64 y.ty.off, .slice B3 l3 d3, .slice C3 r3 f3, .int .i64 y.off]); rw [← HW2.out])
  have hres : BoxF W2 (w.heap.size + 1) [.int .i64 y.kind, .string y.name, .string y.ty.name, .slice A3 m3 c3, .int .i64 y.ty.off, .slice B3 l3 d3, .slice C3 r3 f3, .int .i64 y.off] := by rw [HW2.out]; exact HR4.out.setAll rfl
  obtain ⟨y0, y1, y2, y3, y4, y5, y6, y7⟩ := hres.box.c8
  refine bodyPost_ret (v := .agg #[.int .i64 y.kind, .string y.name, .string y.ty.name, .slice A3 m3 c3, .int .i64 y.ty.off, .slice B3 l3 d3, .slice C3 r3 f3, .int .i64 y.off]) (by simp [results, Tryd.results22, go_sem, y0, y1, y2, y3, y4, y5, y6, y7]) rfl ?_
  rw [HW2.out]
  exact xpost_set HB3.out (Nat.le_succ _) HV.out
end Go.Proofs.YtaaemebghkobkaaDoor
