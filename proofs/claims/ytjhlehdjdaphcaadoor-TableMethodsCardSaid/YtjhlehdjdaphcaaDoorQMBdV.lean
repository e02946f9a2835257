/- The walks of bind.Bound and of the reference's Find. The condition: few parts.
The walks of slices.Grow of nothing and slices.Concat at formals, and of bind.Join. The condition: few formals.
The walk of layer 10's awake. The condition: the table of powers.
The walk of layer 10's awake. The condition: the table of powers. -/
import Derived.Test.YtjhlehdjdaphcaaDoorQMBdK
import Derived.Lib.AppendZerosOnto
namespace Go.Proofs.YtjhlehdjdaphcaaDoor
open Go.RowKit

end Go.Proofs.YtjhlehdjdaphcaaDoor
namespace Go.Proofs.YtjhlehdjdaphcaaDoor
open Go.RowKit

def GrowFo (w : World) (e : Ending) (w' : World) : Prop := ∃ v, e = .returned v ∧ Below w.heap.size w w' ∧ w'.ownsRow w.heap.size 65 5 v 0 []
set_option maxRecDepth 100000 in
set_option maxHeartbeats 8000000 in
theorem growFo_any (n : Nat) (w : World) (hn : n ≤ 1000000) : Calls Tryd.prog 82 #[.slice none 0 0, .int .i64 n] w (GrowFo w) := by
  by_cases h0 : n = 0
  · subst h0
    go_enter Tryd.func82, Tryd.ntmps82
    go_wp2_with fail
    go_ret
    exact ⟨_, rfl, Below.refl _ _, World.ownsRow_nil _ _ _ _⟩
  · obtain ⟨i, z, hi, hz, hsz, hb, hzs⟩ := slFoB.info
    have hr : ∀ ty, (Builtin.append_ #[46, 3] ty #[.slice none 0 0, .int .i64 n]).run Tryd.prog w = _ := fun ty =>
      Lib.run_append_nil_zeros (P := Tryd.prog) w 46 3 ty 65 i z .i64 .i64 Tryd.underlying46 Tryd.underlying3 hi hz n (by omega) (by omega) (by omega) (by rw [hb]; omega)
    have hG := grownCap_ge w n 0 65
    have hG2 := grownCap_le_maxLen w n 0 65 (by unfold maxLen; omega)
    generalize grownCap w n 0 65 = G at *
    have hm : (G : Int) ≤ 9223372036854775807 := by unfold maxLen at hG2; omega
    have hsize : (Builtin.zeroCells z.cells n ++ Builtin.zeroCells z.cells (G - n)).size = G * 5 := by rw [Array.size_append, size_zeroCells, size_zeroCells, hzs, ← Nat.add_mul]; congr 1; omega
    generalize Builtin.zeroCells z.cells n ++ Builtin.zeroCells z.cells (G - n) = cur at *
    have HR := Lib.hid hr
    have HG := Lib.hid hG
    have HG2 := Lib.hid hG2
    have HS := Lib.hid hsize
    have y0 : (0 : Int) < n := by omega
    have y1 : (n : Int) ≤ 1000000 := by omega
    have y2 : (n : Int) ≤ G := by omega
    clear hr hG hG2 hsize hi hz hsz hb hzs
    go_enter Tryd.func82, Tryd.ntmps82
    go_wp2_with (at_builtin; refine Lib.wpList_append_run _ rfl _ _ _ _ rfl _ _ rfl rfl _ _ (HR.out _) ?_)
    go_ret
    exact ⟨_, rfl, ((Below.refl _ w).drew).alloc (Nat.le_refl _) _, rfl, .inr ⟨w.heap.size, G, cur, rfl, Nat.le_refl _, (show (w.heap.push (Obj.cells cur 65))[w.heap.size]? = _ from Array.getElem?_push_size), Nat.zero_le _, HG2.out, HS.out, by simp⟩⟩


/-- Rows of formals that are to be put one after the other: slices in a row. -/
structure CatF (n : Nat) (w : World) (p : Addr) (k : Nat) (tss : List (List Fo)) : Prop where
  len : tss.length = k
  le : k ≤ 1990
  at_ : ∀ j ts, tss[j]? = some ts → ∃ A c, w.cell? (p.add j) = some (.slice A ts.length c) ∧ Row w False (· < n) 5 A ts.length (ts.map Fo.dat)
theorem CatF.later {n k : Nat} {w w' : World} {p : Addr} {tss : List (List Fo)} (h : CatF n w p k tss) (hb : Below w.heap.size w w') (hn : n ≤ w.heap.size) : CatF n w' p k tss :=
  ⟨h.len, h.le, fun j ts hj => by
    obtain ⟨A, c, h1, h2⟩ := h.at_ j ts hj
    exact ⟨A, c, by rw [hb.cell (cell_lt h1)]; exact h1, Row.later h2 hb fun b hb => by have hb : b < n := hb; omega⟩⟩
/-- A row of formals in a block made since w; what they lead to lies below n. -/
structure FRow (n : Nat) (w W : World) (v : Value) (ts : List Fo) : Prop where
  bel : Below w.heap.size w W
  own : ∃ cs, W.ownsRow w.heap.size 65 5 v ts.length cs ∧ Dat.Ins W False (· < n) (ts.map Fo.dat) cs
theorem FRow.app {n : Nat} {w W W1 : World} {v v' : Value} {ts rs : List Fo} {us cs : List Value} (hn : n ≤ w.heap.size) (hb : Below w.heap.size w W) (h1 : W.ownsRow w.heap.size 65 5 v ts.length cs) (h2 : Dat.Ins W False (· < n) (ts.map Fo.dat) cs)
    (hu : Dat.Ins W False (· < n) (rs.map Fo.dat) us) (hA : Appd W W1 w.heap.size 65 5 ts.length rs.length v v' cs us) : FRow n w W1 v' (ts ++ rs) := by
  have hob : ∀ g, v.ownBlock = some g → w.heap.size ≤ g := own_base h1
  have hk := kept_of (V := W) (V' := W1) (S := (· < n)) (fun b hb2 => hA.grow.block b (by have := hb.size; omega) (fun e => by have := hob b e.symm; omega))
  refine ⟨hb.grown hA.grow hb.size (fun k hk => hob k hk), cs ++ us, by rw [List.length_append]; exact hA.own, ?_⟩
  rw [List.map_append]
  exact Dat.Ins.app' (Dat.Ins.keep id hk (fun _ h => h) _ _ h2) (Dat.Ins.keep id hk (fun _ h => h) _ _ hu)
set_option maxRecDepth 100000 in
set_option maxHeartbeats 8000000 in
theorem concatFo_any (tss : List (List Fo)) (p : Addr) (k c n : Nat) (w : World) (hn : n ≤ w.heap.size) (hq : tss.flatten.length ≤ 100000) (h : CatF n w p k tss) :
    Calls Tryd.prog 68 #[.slice (some p) k c] w (fun e w' => ∃ v, e = .returned v ∧ FRow n w w' v tss.flatten) := by
  have HNW := Lib.hid hn
  have hk1 := h.le
  have hkl := h.len
  have H1 := Lib.hid h
  have HQ := Lib.hid hq
  have hm : (k : Int) ≤ 1990 := by omega
  clear h hq hn
  go_enter Tryd.func68, Tryd.ntmps68
  go_wp2_with fail
  go_loopw [3, 11] (fun s i wr => ∃ j : Nat, j ≤ k ∧ i = .int .i64 j ∧ s = .int .i64 ((tss.take j).flatten.length : Nat) ∧ wr = w) (fun _ i _ => k - (intOf i).toNat)
  case atStart => exact ⟨0, by omega, rfl, rfl, rfl⟩
  case round =>
    obtain ⟨j, hj, rfl, rfl, rfl⟩ := hrel
    have y1 : (0 : Int) ≤ j := by omega
    by_cases hlt : j < k
    · have y0 : (j : Int) < k := by omega
      have hx : tss[j]? = some (tss[j]'(by omega)) := List.getElem?_eq_getElem _
      generalize tss[j]'(by omega) = ts at hx
      obtain ⟨A, d, f0, hF⟩ := H1.out.at_ j ts hx
      have HST := Lib.hid (take_flatten_step hx)
      have hle := take_flatten_le tss (j + 1)
      rw [HST.out, List.length_append] at hle
      have hq2 := HQ.out
      have y2 : ((tss.take j).flatten.length : Int) + ts.length ≤ 100000 := by omega
      have y3 : (0 : Int) ≤ (tss.take j).flatten.length := by omega
      have y4 : (0 : Int) ≤ ts.length := by omega
      have HLS := Lib.hid (show ((tss.take (j + 1)).flatten.length : Int) = (tss.take j).flatten.length + ts.length by rw [HST.out, List.length_append]; omega)
      clear hx hF hle hq2 HST
      generalize (tss.take j).flatten.length = m1 at *
      generalize ts.length = m2 at *
      go_wp2_with fail
      go_roundw
      case rel => exact ⟨j + 1, by omega, by go_num, by rw [HLS.out], trivial⟩
      case measure => simp [intOf]; omega
    · have y0 : (k : Int) ≤ j := by omega
      obtain rfl : j = k := by omega
      rw [List.take_of_length_le (by omega)]
      have hq2 := HQ.out
      obtain ⟨m1, hm1⟩ : ∃ m, tss.flatten.length = m := ⟨_, rfl⟩
      rw [hm1] at hq2 ⊢
      have C := Lib.hid (growFo_any m1 wr (by omega))
      have y5 : (m1 : Int) ≤ 100000 := by omega
      have y8 : (0 : Int) ≤ m1 := by omega
      clear hq2 hm1
      go_wp2_with fail
      refine C.out.mono ?_
      rintro e w1 ⟨v0, rfl, hb1, ho1⟩
      have HB1 := Lib.hid hb1
      have HO1 := Lib.hid ho1
      clear hb1 ho1 C
      go_wp2_with fail
      go_loopw [6, 27] (fun v i wr2 => ∃ k2 : Nat, k2 ≤ j ∧ i = .int .i64 k2 ∧ FRow n wr wr2 v (tss.take k2).flatten) (fun _ i _ => j - (intOf i).toNat)
      case atStart => exact ⟨0, by omega, rfl, HB1.out, [], HO1.out, by rw [List.take_zero]; show Dat.Ins _ _ _ [] _; rw [Dat.Ins]⟩
      case round =>
        obtain ⟨k2, hk2, rfl, hrow⟩ := hrel
        have HR := Lib.hid hrow
        have hbel := hrow.bel
        have y6 : (0 : Int) ≤ k2 := by omega
        by_cases hlt2 : k2 < j
        · have y7 : (k2 : Int) < j := by omega
          have hx : tss[k2]? = some (tss[k2]'(by omega)) := List.getElem?_eq_getElem _
          generalize tss[k2]'(by omega) = ts at hx
          obtain ⟨A, d, f0, hF⟩ := (H1.out.later hbel HNW.out).at_ k2 ts hx
          obtain ⟨us, hu1, hu2, hu3⟩ := row_flat hF fo_sizes
          have HU1 := Lib.hid hu1
          have HU2 := Lib.hid hu2
          have HU3 := Lib.hid hu3
          have HSO := Lib.hid (row_some hF)
          have HONES := Lib.hid (ins_cells fo_ones hu1)
          clear hu1 hu2 hu3
          have HST := Lib.hid (take_flatten_step hx)
          have HLN := Lib.hid (show (tss.take k2).flatten.length + ts.length ≤ 100000 by
            have hle := take_flatten_le tss (k2 + 1)
            rw [HST.out, List.length_append] at hle
            have := HQ.out
            omega)
          obtain ⟨cs, ho1, hi1⟩ := hrow.own
          have HON := Lib.hid ho1
          have HII := Lib.hid hi1
          have HBE := Lib.hid hbel
          have hbs := hbel.size
          clear hbs hx hF ho1 hi1 hrow hbel
          generalize (tss.take k2).flatten = fs at *
          go_wp2_with (at_builtin; refine wpList_append_row slFoB rfl _ _ rfl rfl rfl HON.out HBE.out.size HU2.out HU3.out HONES.out HSO.out (by have := HLN.out; omega) (by omega) ?_; intro v4 w4 hA4; have HR4 := Lib.hid (FRow.app HNW.out HBE.out HON.out HII.out HU1.out hA4); clear hA4)
          go_roundw
          case rel => exact ⟨k2 + 1, by omega, by go_num, by rw [HST.out]; exact HR4.out⟩
          case measure => simp [intOf]; omega
        · have y7 : (j : Int) ≤ k2 := by omega
          rw [List.take_of_length_le (by omega)] at hrow
          have HR2 := Lib.hid hrow
          clear hrow hbel HR
          go_wp2_with fail
          go_ret
          exact ⟨_, rfl, HR2.out⟩

theorem catF2 {n : Nat} {V : World} (T : TypeId) {A B : Option Addr} {c d : Nat} {t1 t2 : List Fo} (hn : n ≤ V.heap.size) (h1 : Row V False (· < n) 5 A t1.length (t1.map Fo.dat)) (h2 : Row V False (· < n) 5 B t2.length (t2.map Fo.dat)) :
    CatF n (V.alloc (.cells #[.slice A t1.length c, .slice B t2.length d] T)) ⟨V.heap.size, 0, none⟩ 2 [t1, t2] := by
  have hb : Below V.heap.size V (V.alloc (.cells #[.slice A t1.length c, .slice B t2.length d] T)) := (Below.refl _ _).alloc (Nat.le_refl _) _
  have hbx := Boxd.new V #[.slice A t1.length c, .slice B t2.length d] T
  refine ⟨rfl, by omega, fun j ts hj => ?_⟩
  rw [add_zero_addr]
  match j, hj with
  | 0, hj => obtain rfl := Option.some.inj hj; exact ⟨A, c, hbx 0 _ rfl, Row.later h1 hb fun b hb => by have hb : b < n := hb; omega⟩
  | 1, hj => obtain rfl := Option.some.inj hj; exact ⟨B, d, hbx 1 _ rfl, Row.later h2 hb fun b hb => by have hb : b < n := hb; omega⟩
  | j + 2, hj => simp at hj
set_option maxRecDepth 100000 in
set_option maxHeartbeats 8000000 in
theorem bjoin_any (xs ys : List Fo) (A B : Option Addr) (m l c d : Nat) (w : World) (hx : ∀ f ∈ xs ++ ys, f.wt ≤ 1990) (hm : m ≤ 40000) (hl : l ≤ 40000) (h1 : RowH w 5 A m (xs.map Fo.dat)) (h2 : RowH w 5 B l (ys.map Fo.dat)) :
    Calls Tryd.prog 46 #[.slice A m c, .slice B l d] w (RPost w 5 (m + l) ((xs ++ ys).map Fo.dat)) := by
  have e1 := h1.len
  have e2 := h2.len
  rw [List.length_map] at e1 e2
  subst e1 e2
  obtain ⟨W0, hW0⟩ : ∃ W0, w.alloc (.cells #[.slice A xs.length c, .slice B ys.length d] 46) = W0 := ⟨_, rfl⟩
  have hb0 : Below w.heap.size w W0 := hW0 ▸ (Below.refl _ _).alloc (Nat.le_refl _) _
  have hcat : CatF w.heap.size W0 ⟨w.heap.size, 0, none⟩ 2 [xs, ys] := hW0 ▸ catF2 46 (Nat.le_refl _) h1 h2
  have C := Lib.hid (concatFo_any [xs, ys] ⟨w.heap.size, 0, none⟩ 2 2 w.heap.size W0 hb0.size (by simp; omega) hcat)
  have HW0 := Lib.hid hW0
  have HB0 := Lib.hid hb0
  have HX := Lib.hid hx
  have hmi : (xs.length : Int) ≤ 40000 := by omega
  have hli : (ys.length : Int) ≤ 40000 := by omega
  have HLL := Lib.hid (show xs.length + ys.length ≤ 80000 by omega)
  clear h1 h2 hb0 hcat hW0 hx
  go_enter Tryd.func46, Tryd.ntmps46
  go_wp2_with fail
  rw [HW0.out]
  refine C.out.mono ?_
  rintro e w1 ⟨v, rfl, hr⟩
  have hfl : [xs, ys].flatten = xs ++ ys := by simp
  rw [hfl] at hr
  obtain ⟨cs, ho, hi⟩ := hr.own
  have hb1 := hr.bel
  obtain ⟨n, hn⟩ : ∃ n, (xs ++ ys).length = n := ⟨_, rfl⟩
  have hn2 : n = xs.length + ys.length := by rw [← hn, List.length_append]
  rw [hn] at ho
  obtain ⟨A1, c1, rfl, hrow, _⟩ := row_of_own (S' := (· < w1.heap.size)) ho hi fo_sizes (by omega) (fun b hb => by have hb : b < w.heap.size := hb; have := HB0.out.size; have := hb1.size; show b < _; omega) (fun g hg => (ho.lt g hg).2) (by have := HLL.out; omega)
  have HB1 := Lib.hid (HB0.out.trans (hb1.mono HB0.out.size))
  have CB := Lib.hid (show Calls Tryd.prog 67 #[.slice A1 n c1, .func (.func 69) #[] #[]] w1 (RPost w1 5 n ((xs ++ ys).map Fo.dat)) from
    (bounded_clone (KC w1.heap.size) (kc_ok _) id (xs ++ ys) 0 (fun j f hj => clone_do w1.heap.size f.ty (by have := HX.out f (List.mem_of_getElem? hj); have := Fo.wt_ty (f := f); omega) (0 + j)) A1 n c1 w1 (by have := HLL.out; omega) (Nat.le_refl _) hrow).mono (by
      rintro e w2 ⟨v2, rfl, hg, hm2, hs2⟩
      rw [hn] at hg
      obtain ⟨A2, c2, rfl, _, hrow2⟩ := hg.row (by have := HLL.out; omega)
      refine ⟨A2, c2, rfl, ?_, hm2.bel⟩
      have h3 := hrow2.wide (S' := Fresh w1 w2) fun b hb => by
        rcases hb with hb | hb
        · rcases hb with hb | hb
          · exact hb.elim
          · exact ⟨hb.2.1, hb.2.2.1⟩
        · exact ⟨hb.1, hb.2.1⟩
      rw [show (xs ++ ys).map (Fo.mapT id) = xs ++ ys from by rw [List.map_congr_left (g := id) (fun f _ => Fo.mapT_id f), List.map_id]] at h3
      exact h3))
  have HN2 := Lib.hid hn2
  clear hr ho hi hb1 hrow C hfl hn hn2
  go_wp2_with fail
  refine CB.out.mono ?_
  rintro e w2 ⟨A2, c2, rfl, hrow2, hb2⟩
  have HR2 := Lib.hid hrow2
  have HB2 := Lib.hid hb2
  clear hrow2 hb2 CB
  go_wp2_with fail
  go_ret
  have hs1 := HB1.out.size
  rw [← HN2.out]
  exact ⟨A2, c2, rfl, HR2.out.wide fun b hb => ⟨by have := hb.1; omega, hb.2⟩, HB1.out.trans (HB2.out.mono HB1.out.size)⟩
end Go.Proofs.YtjhlehdjdaphcaaDoor
namespace Go.Proofs.YtjhlehdjdaphcaaDoor
open Go.RowKit

/-- A row of one. -/
theorem row1 {w : World} {S : Nat → Prop} {b : Nat} {f : Fo} {us : List Value} (hc : CellsAt w ⟨b, 0, none⟩ us) (hS : S b) (h : f.dat.In w False S us) : Row w False S 5 (some ⟨b, 0, none⟩) 1 ([f].map Fo.dat) := by
  refine ⟨rfl, by omega, Dat.Elems.of fun k d hk => ?_⟩
  match k, hk with
  | 0, hk =>
    obtain rfl := Option.some.inj hk
    exact ⟨⟨b, 0, none⟩, us, rfl, hS, False.elim, h, by rw [Nat.zero_add, Nat.zero_mul]; exact hc⟩
  | k + 1, hk => simp at hk
end Go.Proofs.YtjhlehdjdaphcaaDoor
namespace Go.Proofs.YtjhlehdjdaphcaaDoor
open Go.RowKit

end Go.Proofs.YtjhlehdjdaphcaaDoor
