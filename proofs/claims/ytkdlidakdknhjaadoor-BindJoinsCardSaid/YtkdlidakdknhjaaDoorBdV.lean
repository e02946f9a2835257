/- The walks of bind.Bound and of the reference's Find. The condition: few parts.
The walks of slices.Grow of nothing and slices.Concat at formals, and of bind.Join. The condition: few formals.
The walk of layer 10's awake. The condition: the table of powers.
The walk of layer 10's awake. The condition: the table of powers. -/
import Derived.Test.YtkdlidakdknhjaaDoorBdR
import Derived.Test.YtkdlidakdknhjaaDoorDrC
import Derived.Test.YtkdlidakdknhjaaDoorBdE
import Derived.Lib.AppendZerosOnto
import Derived.Test.YtkdlidakdknhjaaDoorDcG
namespace Go.Proofs.YtkdlidakdknhjaaDoor
open Go.RowKit

/-- The index of the formal whose variable a type is. -/
def findF (t : Ty) (l : List Fo) : Option Nat := if t.args.length = 0 then l.findIdx? fun f => bytesEq f.name t.name else none
/-- Its bound. -/
def boundF (t : Ty) (l : List Fo) : Option Ty := (findF t l).bind fun i => (l[i]?).map Fo.ty
theorem find_at {t : Ty} {l : List Fo} {k : Nat} {x : Fo} (h : ∀ j f, j < k → l[j]? = some f → bytesEq f.name t.name = false) (hx : l[k]? = some x) (he : bytesEq x.name t.name = true) (ha : t.args.length = 0) : findF t l = some k := by
  obtain ⟨hk, e⟩ := List.getElem?_eq_some_iff.1 hx
  rw [findF, if_pos ha, List.findIdx?_eq_some_iff_getElem]
  refine ⟨hk, by rw [e]; exact he, fun j hj => by rw [h j _ hj (List.getElem?_eq_getElem (by omega))]; simp⟩
theorem find_none {t : Ty} {l : List Fo} (h : ∀ j f, j < l.length → l[j]? = some f → bytesEq f.name t.name = false) : findF t l = none := by
  rw [findF]
  by_cases ha : t.args.length = 0
  · rw [if_pos ha, List.findIdx?_eq_none_iff]
    intro f hf
    obtain ⟨j, hj, e⟩ := List.mem_iff_getElem.1 hf
    exact h j f hj (by rw [List.getElem?_eq_getElem hj, e])
  · rw [if_neg ha]
def BouPost (w : World) (r : Option Ty) (e : Ending) (w' : World) : Prop := ∃ us, e = .returned (.tuple #[.agg us.toArray, .bool r.isSome]) ∧ (r.getD (.mk ⟨#[]⟩ [] 0)).dat.In w' False (Fresh w w') us ∧ Below w.heap.size w w'
theorem results_bound {w : World} {b : Nat} {us : List Value} {v : Value} (tmps : Array Value) (ht : tmps[4]?.getD undef = .pointer (some ⟨b, 0, none⟩)) (hv : tmps[5]?.getD undef = v) (hc : Boxd w b us) (hl : us.length = 3) : (results Tryd.f27 tmps).run Tryd.prog w = .ok (.tuple #[.agg us.toArray, v]) w := by
  have h := run_loadVar_at w ⟨b, 0, none⟩ 26 us _ hc.at0 Tryd.underlying26 rfl (by rw [hl]; exact flatTy3.size)
  have h2 : (asAddr (.pointer (some ⟨b, 0, none⟩))).run Tryd.prog w = .ok ⟨b, 0, none⟩ w := rfl
  simp [results, Tryd.results27, ht, hv, h, h2, Sem.run_bind, Result.andThen]

set_option maxRecDepth 100000 in
set_option maxHeartbeats 8000000 in
theorem bbound_any (xs : List Fo) (t : Ty) (us : List Value) (E : Option Addr) (q ce : Nat) (w : World) (hw : ∀ f ∈ xs, f.wt ≤ 1990) (hq : q ≤ 100000) (h : RowH w 5 E q (xs.map Fo.dat)) (ht : t.dat.H w us) :
    Calls Tryd.prog 27 #[.slice E q ce, .agg us.toArray] w (BouPost w (boundF t xs)) := by
  obtain ⟨A, m, c, rfl, htn, hta⟩ := ty_open ht
  have hxl := h.len
  rw [List.length_map] at hxl
  have hml := hta.len
  have hme := hta.le
  have hM := Cl.new w #[.string t.name, .slice A m c, .int .i64 t.off] #[.string ⟨#[]⟩, .slice none 0 0, .int .i64 0] 26
  obtain ⟨W0, hW0⟩ : ∃ W0, (w.alloc (.cells #[.string t.name, .slice A m c, .int .i64 t.off] 26)).alloc (.cells #[.string ⟨#[]⟩, .slice none 0 0, .int .i64 0] 26) = W0 := ⟨_, rfl⟩
  rw [hW0] at hM
  have HW0 := Lib.hid hW0
  have HM := Lib.hid (show Cl w W0 [.string t.name, .slice A m c, .int .i64 t.off] 3 from hM)
  have H1 := Lib.hid h
  have HXL := Lib.hid hxl
  have HWT := Lib.hid hw
  have hqi : (q : Int) ≤ 100000 := by omega
  have hq0 : (0 : Int) ≤ q := by omega
  have x1 := hM.box.box 1 _ rfl
  by_cases hm : m = 0
  · subst hm
    have HA0 := Lib.hid (show t.args.length = 0 from hml)
    clear hM hW0 h hxl hw ht htn hta hml hme
    go_enter Tryd.func27, Tryd.ntmps27
    go_upto_region 1 with fail
    rw [HW0.out]
    clear HW0
    go_wp2_with fail
    go_loopw [15] (fun i wr => ∃ k : Nat, k ≤ q ∧ i = .int .i64 k ∧ Below W0.heap.size W0 wr ∧ ∀ j f, j < k → xs[j]? = some f → bytesEq f.name t.name = false) (fun i _ => q - (intOf i).toNat)
    case atStart => exact ⟨0, by omega, rfl, Below.refl _ _, fun j _ hj => absurd hj (Nat.not_lt_zero _)⟩
    case round =>
      obtain ⟨k, hk, rfl, hbel, hno⟩ := hrel
      have HBL := Lib.hid hbel
      have HNO := Lib.hid hno
      have HMK := Lib.hid (HM.out.later hbel)
      have y1 : (0 : Int) ≤ k := by omega
      by_cases hlt : k < q
      · have y0 : (k : Int) < q := by omega
        obtain ⟨pu, x, ps, rfl, hx, _, _, hu, hcs⟩ := dat_at (RowH.later H1.out HMK.out.bel) hlt
        obtain ⟨B, m9, a, rfl, hn, hty, hta⟩ := fo_open hu
        obtain ⟨W1, hP⟩ := putZ #[.string ⟨#[]⟩, .string ⟨#[]⟩, .slice none 0 0, .int .i64 0, .int .i64 0] 48 wr (us := [.string x.name, .string x.ty.name, .slice B m9 a, .int .i64 x.ty.off, .int .i64 x.off]) rfl
        have HX := Lib.hid hx
        have HFC := Lib.hid hcs
        have HP := Lib.hid hP
        have HBM := Lib.hid (boxd_mid hP.box)
        have n0 := hP.box 0 _ rfl
        have t0 := (HMK.out.later hP.bel).box.box 0 _ rfl
        have C := Lib.hid (show Calls Tryd.prog 66 #[.agg #[.string x.ty.name, .slice B m9 a, .int .i64 x.ty.off]] W1 (DPost W1 x.ty.dat) from tyClone_any x.ty [.string x.ty.name, .slice B m9 a, .int .i64 x.ty.off] W1 (by have := HWT.out x (List.mem_of_getElem? hx); have := Fo.wt_ty (f := x); omega) (Dat.H.later (ty_shut hty hta) hP.bel))
        have HM1 := Lib.hid (HMK.out.later hP.bel)
        cases hz : bytesEq x.name t.name
        · obtain ⟨g1, g2⟩ := toBeq hz
          have HZ := Lib.hid hz
          clear hx hu hcs hn hty hta hP hbel hno hz
          go_wp2_with (first
            | (refine loadOp flatFo 17 18 rfl HFC.out rfl ?_)
            | (refine storeOp flatFo 7 18 (b := wr.heap.size) (o := 0) (us := [.string x.name, .string x.ty.name, .slice B m9 a, .int .i64 x.ty.off, .int .i64 x.off]) rfl rfl HP.out.there five_oneB rfl ?_; rw [HP.out.eq]))
          go_roundw
          case rel => exact ⟨k + 1, by omega, by go_num, HBL.out.trans (HP.out.bel.mono HBL.out.size), fun j f hj hf => by
            by_cases e : j = k
            · subst e; rw [HX.out] at hf; obtain rfl := Option.some.inj hf; exact HZ.out
            · exact HNO.out j f (by omega) hf⟩
          case measure => simp [intOf]; omega
        · obtain ⟨g1, g2⟩ := toBeq hz
          have HFD := Lib.hid (show boundF t xs = some x.ty by rw [boundF, find_at hno hx hz HA0.out]; simp [hx])
          clear hx hu hcs hn hty hta hP hbel hno hz
          go_wp2_with (first
            | (refine loadOp flatFo 17 18 rfl HFC.out rfl ?_)
            | (refine storeOp flatFo 7 18 (b := wr.heap.size) (o := 0) (us := [.string x.name, .string x.ty.name, .slice B m9 a, .int .i64 x.ty.off, .int .i64 x.off]) rfl rfl HP.out.there five_oneB rfl ?_; rw [HP.out.eq])
            | (refine loadOp flatTy3 24 25 rfl HBM.out rfl ?_))
          refine C.out.mono ?_
          rintro e w3 ⟨rs, rfl, hr, hb⟩
          have HR := Lib.hid hr
          have HRL := Lib.hid (show rs.length = 3 from (Dat.In.len _ _ hr).trans (Ty.dat_size _))
          have HM3 := Lib.hid (HM1.out.later hb)
          have HT := Lib.hid (show w3.there (w.heap.size + 1) 0 rs.length by rw [HRL.out]; exact HM3.out.res)
          have HOV := Lib.hid (ty_cells hr)
          clear hr hb C
          go_wp2_with (refine storeOp flatTy3 4 26 (b := w.heap.size + 1) (o := 0) (us := rs) rfl rfl HT.out HOV.out HRL.out ?_)
          refine bodyPost_ret (results_bound _ rfl rfl (show Boxd _ (w.heap.size + 1) rs from set_there HT.out) HRL.out) rfl ?_
          rw [HFD.out]
          have hbig := HM1.out.big
          exact ⟨rs, rfl, Dat.In.keep id (fun p hp => kept_of (S := Fresh W1 w3) (fun b hb => heap_setCells _ _ _ _ b (by have := hb.1; omega)) p hp) (fun b hb => ⟨by have := hb.1; omega, by rw [size_setCells_w]; exact hb.2⟩) _ _ HR.out, HM3.out.bel.trans (below_cells (Nat.le_succ _) _ _ _)⟩
      · have y0 : (q : Int) ≤ k := by omega
        obtain rfl : k = q := by omega
        have HFD := Lib.hid (show boundF t xs = none by rw [boundF, find_none (by rw [HXL.out]; exact hno)]; rfl)
        have HT := Lib.hid HMK.out.res
        clear hbel hno
        go_wp2_with (refine storeOp flatTy3 4 28 (b := w.heap.size + 1) (o := 0) (us := [.string ⟨#[]⟩, .slice none 0 0, .int .i64 0]) rfl rfl HT.out three_one rfl ?_)
        refine bodyPost_ret (results_bound _ rfl rfl (show Boxd _ (w.heap.size + 1) [.string ⟨#[]⟩, .slice none 0 0, .int .i64 0] from set_there HT.out) rfl) rfl ?_
        rw [HFD.out]
        exact ⟨[.string ⟨#[]⟩, .slice none 0 0, .int .i64 0], rfl, zero_tyB, HMK.out.bel.trans (below_cells (Nat.le_succ _) _ _ _)⟩
  · have z0 : (0 : Int) < m := by omega
    have HFD := Lib.hid (show boundF t xs = none by rw [boundF, findF, if_neg (by omega)]; rfl)
    have HT := Lib.hid hM.res
    have hmi : (m : Int) ≤ 9223372036854775807 := by omega
    clear hM hW0 h hxl hw ht htn hta hml hme
    go_enter Tryd.func27, Tryd.ntmps27
    go_upto_region 1 with fail
    rw [HW0.out]
    clear HW0
    go_wp2_with (refine storeOp flatTy3 4 12 (b := w.heap.size + 1) (o := 0) (us := [.string ⟨#[]⟩, .slice none 0 0, .int .i64 0]) rfl rfl HT.out three_one rfl ?_)
    refine bodyPost_ret (results_bound _ rfl rfl (show Boxd _ (w.heap.size + 1) [.string ⟨#[]⟩, .slice none 0 0, .int .i64 0] from set_there HT.out) rfl) rfl ?_
    rw [HFD.out]
    exact ⟨[.string ⟨#[]⟩, .slice none 0 0, .int .i64 0], rfl, zero_tyB, HM.out.bel.trans (below_cells (Nat.le_succ _) _ _ _)⟩
end Go.Proofs.YtkdlidakdknhjaaDoor
namespace Go.Proofs.YtkdlidakdknhjaaDoor
open Go.RowKit

def GrowFo (w : World) (e : Ending) (w' : World) : Prop := ∃ v, e = .returned v ∧ Below w.heap.size w w' ∧ w'.ownsRow w.heap.size 48 5 v 0 []
set_option maxRecDepth 100000 in
set_option maxHeartbeats 8000000 in
theorem growFo_any (n : Nat) (w : World) (hn : n ≤ 1000000) : Calls Tryd.prog 90 #[.slice none 0 0, .int .i64 n] w (GrowFo w) := by
  by_cases h0 : n = 0
  · subst h0
    go_enter Tryd.func90, Tryd.ntmps90
    go_wp2_with fail
    go_ret
    exact ⟨_, rfl, Below.refl _ _, World.ownsRow_nil _ _ _ _⟩
  · obtain ⟨i, z, hi, hz, hsz, hb, hzs⟩ := slFoB.info
    have hr : ∀ ty, (Builtin.append_ #[22, 3] ty #[.slice none 0 0, .int .i64 n]).run Tryd.prog w = _ := fun ty =>
      Lib.run_append_nil_zeros (P := Tryd.prog) w 22 3 ty 48 i z .i64 .i64 Tryd.underlying22 Tryd.underlying3 hi hz n (by omega) (by omega) (by omega) (by rw [hb]; omega)
    have hG := grownCap_ge w n 0 48
    have hG2 := grownCap_le_maxLen w n 0 48 (by unfold maxLen; omega)
    generalize grownCap w n 0 48 = G at *
    have hm : (G : Int) ≤ 9223372036854775807 := by unfold maxLen at hG2; omega
    have hsize : (Builtin.zeroCells z.cells n ++ Builtin.zeroCells z.cells (G - n)).size = G * 5 := by rw [Array.size_append, size_zeroCells, size_zeroCells, hzs, ← Nat.add_mul]; congr 1; omega
    generalize Builtin.zeroCells z.cells n ++ Builtin.zeroCells z.cells (G - n) = cur at *
    have HR := Lib.hid hr
    have HG := Lib.hid hG
    have HG2 := Lib.hid hG2
    have HS := Lib.hid hsize
    have y0 : (0 : Int) < n := by omega
    have y1 : (n : Int) ≤ 1000000 := by omega
    have y2 : (n : Int) ≤ G := by omega
    clear hr hG hG2 hsize hi hz hsz hb hzs
    go_enter Tryd.func90, Tryd.ntmps90
    go_wp2_with (at_builtin; refine Lib.wpList_append_run _ rfl _ _ _ _ rfl _ _ rfl rfl _ _ (HR.out _) ?_)
    go_ret
    exact ⟨_, rfl, ((Below.refl _ w).drew).alloc (Nat.le_refl _) _, rfl, .inr ⟨w.heap.size, G, cur, rfl, Nat.le_refl _, (show (w.heap.push (Obj.cells cur 48))[w.heap.size]? = _ from Array.getElem?_push_size), Nat.zero_le _, HG2.out, HS.out, by simp⟩⟩


/-- Rows of formals that are to be put one after the other: slices in a row. -/
structure CatF (n : Nat) (w : World) (p : Addr) (k : Nat) (tss : List (List Fo)) : Prop where
  len : tss.length = k
  le : k ≤ 1990
  at_ : ∀ j ts, tss[j]? = some ts → ∃ A c, w.cell? (p.add j) = some (.slice A ts.length c) ∧ Row w False (· < n) 5 A ts.length (ts.map Fo.dat)
theorem CatF.later {n k : Nat} {w w' : World} {p : Addr} {tss : List (List Fo)} (h : CatF n w p k tss) (hb : Below w.heap.size w w') (hn : n ≤ w.heap.size) : CatF n w' p k tss :=
  ⟨h.len, h.le, fun j ts hj => by
    obtain ⟨A, c, h1, h2⟩ := h.at_ j ts hj
    exact ⟨A, c, by rw [hb.cell (cell_lt h1)]; exact h1, Row.later h2 hb fun b hb => by have hb : b < n := hb; omega⟩⟩
/-- A row of formals in a block made since w; what they lead to lies below n. -/
structure FRow (n : Nat) (w W : World) (v : Value) (ts : List Fo) : Prop where
  bel : Below w.heap.size w W
  own : ∃ cs, W.ownsRow w.heap.size 48 5 v ts.length cs ∧ Dat.Ins W False (· < n) (ts.map Fo.dat) cs
theorem FRow.app {n : Nat} {w W W1 : World} {v v' : Value} {ts rs : List Fo} {us cs : List Value} (hn : n ≤ w.heap.size) (hb : Below w.heap.size w W) (h1 : W.ownsRow w.heap.size 48 5 v ts.length cs) (h2 : Dat.Ins W False (· < n) (ts.map Fo.dat) cs)
    (hu : Dat.Ins W False (· < n) (rs.map Fo.dat) us) (hA : Appd W W1 w.heap.size 48 5 ts.length rs.length v v' cs us) : FRow n w W1 v' (ts ++ rs) := by
  have hob : ∀ g, v.ownBlock = some g → w.heap.size ≤ g := own_base h1
  have hk := kept_of (V := W) (V' := W1) (S := (· < n)) (fun b hb2 => hA.grow.block b (by have := hb.size; omega) (fun e => by have := hob b e.symm; omega))
  refine ⟨hb.grown hA.grow hb.size (fun k hk => hob k hk), cs ++ us, by rw [List.length_append]; exact hA.own, ?_⟩
  rw [List.map_append]
  exact Dat.Ins.app' (Dat.Ins.keep id hk (fun _ h => h) _ _ h2) (Dat.Ins.keep id hk (fun _ h => h) _ _ hu)
set_option maxRecDepth 100000 in
set_option maxHeartbeats 8000000 in
theorem concatFo_any (tss : List (List Fo)) (p : Addr) (k c n : Nat) (w : World) (hn : n ≤ w.heap.size) (hq : tss.flatten.length ≤ 100000) (h : CatF n w p k tss) :
    Calls Tryd.prog 68 #[.slice (some p) k c] w (fun e w' => ∃ v, e = .returned v ∧ FRow n w w' v tss.flatten) := by
  have HNW := Lib.hid hn
  have hk1 := h.le
  have hkl := h.len
  have H1 := Lib.hid h
  have HQ := Lib.hid hq
  have hm : (k : Int) ≤ 1990 := by omega
  clear h hq hn
  go_enter Tryd.func68, Tryd.ntmps68
  go_wp2_with fail
  go_loopw [3, 11] (fun s i wr => ∃ j : Nat, j ≤ k ∧ i = .int .i64 j ∧ s = .int .i64 ((tss.take j).flatten.length : Nat) ∧ wr = w) (fun _ i _ => k - (intOf i).toNat)
  case atStart => exact ⟨0, by omega, rfl, rfl, rfl⟩
  case round =>
    obtain ⟨j, hj, rfl, rfl, rfl⟩ := hrel
    have y1 : (0 : Int) ≤ j := by omega
    by_cases hlt : j < k
    · have y0 : (j : Int) < k := by omega
      have hx : tss[j]? = some (tss[j]'(by omega)) := List.getElem?_eq_getElem _
      generalize tss[j]'(by omega) = ts at hx
      obtain ⟨A, d, f0, hF⟩ := H1.out.at_ j ts hx
      have HST := Lib.hid (take_flatten_step hx)
      have hle := take_flatten_le tss (j + 1)
      rw [HST.out, List.length_append] at hle
      have hq2 := HQ.out
      have y2 : ((tss.take j).flatten.length : Int) + ts.length ≤ 100000 := by omega
      have y3 : (0 : Int) ≤ (tss.take j).flatten.length := by omega
      have y4 : (0 : Int) ≤ ts.length := by omega
      have HLS := Lib.hid (show ((tss.take (j + 1)).flatten.length : Int) = (tss.take j).flatten.length + ts.length by rw [HST.out, List.length_append]; omega)
      clear hx hF hle hq2 HST
      generalize (tss.take j).flatten.length = m1 at *
      generalize ts.length = m2 at *
      go_wp2_with fail
      go_roundw
      case rel => exact ⟨j + 1, by omega, by go_num, by rw [HLS.out], trivial⟩
      case measure => simp [intOf]; omega
    · have y0 : (k : Int) ≤ j := by omega
      obtain rfl : j = k := by omega
      rw [List.take_of_length_le (by omega)]
      have hq2 := HQ.out
      obtain ⟨m1, hm1⟩ : ∃ m, tss.flatten.length = m := ⟨_, rfl⟩
      rw [hm1] at hq2 ⊢
      have C := Lib.hid (growFo_any m1 wr (by omega))
      have y5 : (m1 : Int) ≤ 100000 := by omega
      have y8 : (0 : Int) ≤ m1 := by omega
      clear hq2 hm1
      go_wp2_with fail
      refine C.out.mono ?_
      rintro e w1 ⟨v0, rfl, hb1, ho1⟩
      have HB1 := Lib.hid hb1
      have HO1 := Lib.hid ho1
      clear hb1 ho1 C
      go_wp2_with fail
      go_loopw [6, 27] (fun v i wr2 => ∃ k2 : Nat, k2 ≤ j ∧ i = .int .i64 k2 ∧ FRow n wr wr2 v (tss.take k2).flatten) (fun _ i _ => j - (intOf i).toNat)
      case atStart => exact ⟨0, by omega, rfl, HB1.out, [], HO1.out, by rw [List.take_zero]; show Dat.Ins _ _ _ [] _; rw [Dat.Ins]⟩
      case round =>
        obtain ⟨k2, hk2, rfl, hrow⟩ := hrel
        have HR := Lib.hid hrow
        have hbel := hrow.bel
        have y6 : (0 : Int) ≤ k2 := by omega
        by_cases hlt2 : k2 < j
        · have y7 : (k2 : Int) < j := by omega
          have hx : tss[k2]? = some (tss[k2]'(by omega)) := List.getElem?_eq_getElem _
          generalize tss[k2]'(by omega) = ts at hx
          obtain ⟨A, d, f0, hF⟩ := (H1.out.later hbel HNW.out).at_ k2 ts hx
          obtain ⟨us, hu1, hu2, hu3⟩ := row_flat hF fo_sizes
          have HU1 := Lib.hid hu1
          have HU2 := Lib.hid hu2
          have HU3 := Lib.hid hu3
          have HSO := Lib.hid (row_some hF)
          have HONES := Lib.hid (ins_cells fo_ones hu1)
          clear hu1 hu2 hu3
          have HST := Lib.hid (take_flatten_step hx)
          have HLN := Lib.hid (show (tss.take k2).flatten.length + ts.length ≤ 100000 by
            have hle := take_flatten_le tss (k2 + 1)
            rw [HST.out, List.length_append] at hle
            have := HQ.out
            omega)
          obtain ⟨cs, ho1, hi1⟩ := hrow.own
          have HON := Lib.hid ho1
          have HII := Lib.hid hi1
          have HBE := Lib.hid hbel
          have hbs := hbel.size
          clear hbs hx hF ho1 hi1 hrow hbel
          generalize (tss.take k2).flatten = fs at *
          go_wp2_with (at_builtin; refine wpList_append_row slFoB rfl _ _ rfl rfl rfl HON.out HBE.out.size HU2.out HU3.out HONES.out HSO.out (by have := HLN.out; omega) (by omega) ?_; intro v4 w4 hA4; have HR4 := Lib.hid (FRow.app HNW.out HBE.out HON.out HII.out HU1.out hA4); clear hA4)
          go_roundw
          case rel => exact ⟨k2 + 1, by omega, by go_num, by rw [HST.out]; exact HR4.out⟩
          case measure => simp [intOf]; omega
        · have y7 : (j : Int) ≤ k2 := by omega
          rw [List.take_of_length_le (by omega)] at hrow
          have HR2 := Lib.hid hrow
          clear hrow hbel HR
          go_wp2_with fail
          go_ret
          exact ⟨_, rfl, HR2.out⟩

theorem catF2 {n : Nat} {V : World} (T : TypeId) {A B : Option Addr} {c d : Nat} {t1 t2 : List Fo} (hn : n ≤ V.heap.size) (h1 : Row V False (· < n) 5 A t1.length (t1.map Fo.dat)) (h2 : Row V False (· < n) 5 B t2.length (t2.map Fo.dat)) :
    CatF n (V.alloc (.cells #[.slice A t1.length c, .slice B t2.length d] T)) ⟨V.heap.size, 0, none⟩ 2 [t1, t2] := by
  have hb : Below V.heap.size V (V.alloc (.cells #[.slice A t1.length c, .slice B t2.length d] T)) := (Below.refl _ _).alloc (Nat.le_refl _) _
  have hbx := Boxd.new V #[.slice A t1.length c, .slice B t2.length d] T
  refine ⟨rfl, by omega, fun j ts hj => ?_⟩
  rw [add_zero_addr]
  match j, hj with
  | 0, hj => obtain rfl := Option.some.inj hj; exact ⟨A, c, hbx 0 _ rfl, Row.later h1 hb fun b hb => by have hb : b < n := hb; omega⟩
  | 1, hj => obtain rfl := Option.some.inj hj; exact ⟨B, d, hbx 1 _ rfl, Row.later h2 hb fun b hb => by have hb : b < n := hb; omega⟩
  | j + 2, hj => simp at hj
set_option maxRecDepth 100000 in
set_option maxHeartbeats 8000000 in
theorem bjoin_any (xs ys : List Fo) (A B : Option Addr) (m l c d : Nat) (w : World) (hx : ∀ f ∈ xs ++ ys, f.wt ≤ 1990) (hm : m ≤ 40000) (hl : l ≤ 40000) (h1 : RowH w 5 A m (xs.map Fo.dat)) (h2 : RowH w 5 B l (ys.map Fo.dat)) :
    Calls Tryd.prog 30 #[.slice A m c, .slice B l d] w (RPost w 5 (m + l) ((xs ++ ys).map Fo.dat)) := by
  have e1 := h1.len
  have e2 := h2.len
  rw [List.length_map] at e1 e2
  subst e1 e2
  obtain ⟨W0, hW0⟩ : ∃ W0, w.alloc (.cells #[.slice A xs.length c, .slice B ys.length d] 22) = W0 := ⟨_, rfl⟩
  have hb0 : Below w.heap.size w W0 := hW0 ▸ (Below.refl _ _).alloc (Nat.le_refl _) _
  have hcat : CatF w.heap.size W0 ⟨w.heap.size, 0, none⟩ 2 [xs, ys] := hW0 ▸ catF2 22 (Nat.le_refl _) h1 h2
  have C := Lib.hid (concatFo_any [xs, ys] ⟨w.heap.size, 0, none⟩ 2 2 w.heap.size W0 hb0.size (by simp; omega) hcat)
  have HW0 := Lib.hid hW0
  have HB0 := Lib.hid hb0
  have HX := Lib.hid hx
  have hmi : (xs.length : Int) ≤ 40000 := by omega
  have hli : (ys.length : Int) ≤ 40000 := by omega
  have HLL := Lib.hid (show xs.length + ys.length ≤ 80000 by omega)
  clear h1 h2 hb0 hcat hW0 hx
  go_enter Tryd.func30, Tryd.ntmps30
  go_wp2_with fail
  rw [HW0.out]
  refine C.out.mono ?_
  rintro e w1 ⟨v, rfl, hr⟩
  have hfl : [xs, ys].flatten = xs ++ ys := by simp
  rw [hfl] at hr
  obtain ⟨cs, ho, hi⟩ := hr.own
  have hb1 := hr.bel
  obtain ⟨n, hn⟩ : ∃ n, (xs ++ ys).length = n := ⟨_, rfl⟩
  have hn2 : n = xs.length + ys.length := by rw [← hn, List.length_append]
  rw [hn] at ho
  obtain ⟨A1, c1, rfl, hrow, _⟩ := row_of_own (S' := (· < w1.heap.size)) ho hi fo_sizes (by omega) (fun b hb => by have hb : b < w.heap.size := hb; have := HB0.out.size; have := hb1.size; show b < _; omega) (fun g hg => (ho.lt g hg).2) (by have := HLL.out; omega)
  have HB1 := Lib.hid (HB0.out.trans (hb1.mono HB0.out.size))
  have CB := Lib.hid (show Calls Tryd.prog 67 #[.slice A1 n c1, .func (.func 66) #[] #[]] w1 (RPost w1 5 n ((xs ++ ys).map Fo.dat)) from
    (bounded_clone (KC w1.heap.size) (kc_ok _) id (xs ++ ys) 0 (fun j f hj => clone_do w1.heap.size f.ty (by have := HX.out f (List.mem_of_getElem? hj); have := Fo.wt_ty (f := f); omega) (0 + j)) A1 n c1 w1 (by have := HLL.out; omega) (Nat.le_refl _) hrow).mono (by
      rintro e w2 ⟨v2, rfl, hg, hm2, hs2⟩
      rw [hn] at hg
      obtain ⟨A2, c2, rfl, _, hrow2⟩ := hg.row (by have := HLL.out; omega)
      refine ⟨A2, c2, rfl, ?_, hm2.bel⟩
      have h3 := hrow2.wide (S' := Fresh w1 w2) fun b hb => by
        rcases hb with hb | hb
        · rcases hb with hb | hb
          · exact hb.elim
          · exact ⟨hb.2.1, hb.2.2.1⟩
        · exact ⟨hb.1, hb.2.1⟩
      rw [show (xs ++ ys).map (Fo.mapT id) = xs ++ ys from by rw [List.map_congr_left (g := id) (fun f _ => Fo.mapT_id f), List.map_id]] at h3
      exact h3))
  have HN2 := Lib.hid hn2
  clear hr ho hi hb1 hrow C hfl hn hn2
  go_wp2_with fail
  refine CB.out.mono ?_
  rintro e w2 ⟨A2, c2, rfl, hrow2, hb2⟩
  have HR2 := Lib.hid hrow2
  have HB2 := Lib.hid hb2
  clear hrow2 hb2 CB
  go_wp2_with fail
  go_ret
  have hs1 := HB1.out.size
  rw [← HN2.out]
  exact ⟨A2, c2, rfl, HR2.out.wide fun b hb => ⟨by have := hb.1; omega, hb.2⟩, HB1.out.trans (HB2.out.mono HB1.out.size)⟩
end Go.Proofs.YtkdlidakdknhjaaDoor
namespace Go.Proofs.YtkdlidakdknhjaaDoor
open Go.RowKit

/-- The signature that awake makes of a name and a longer one. -/
def mSg (v x : ByteArray) : Sg := ⟨⟨#[109]⟩, [⟨v, .mk ⟨#[73]⟩ [] 0, 0⟩], [⟨x, .mk v [] 0, 0⟩], .mk v [] 0, 0⟩
def cSgU : Sg := ⟨⟨#[109]⟩, [⟨⟨#[36, 48]⟩, .mk ⟨#[73]⟩ [] 0, 0⟩], [⟨⟨#[]⟩, .mk ⟨#[36, 48]⟩ [] 0, 0⟩], .mk ⟨#[36, 48]⟩ [] 0, 0⟩
def nSg : Sg := ⟨⟨#[109]⟩, [], [], .mk ⟨#[]⟩ [] 0, 0⟩
theorem loc0 : loc 0 = ⟨#[36, 48]⟩ := by
  rw [loc, Nm.localL, if_neg (by omega), show (Int.toNat ((0 : Nat) : Int)) = 0 from rfl, Lib.decDigits_one (by omega)]; rfl
theorem locs1 : locs 1 = [.mk ⟨#[36, 48]⟩ [] 0] := by rw [locs]; simp [loc0]
theorem canA : (mSg ⟨#[97]⟩ ⟨#[97, 120]⟩).canon = cSgU := by
  rw [Sg.canon, show (mSg ⟨#[97]⟩ ⟨#[97, 120]⟩).fs.length = 1 from rfl, locs1, Sg.bare]
  simp [mSg, cSgU, Sg.subst, Sg.names, Fo.subst, Ty.subst, Ty.pick, loc0]
theorem canB : (mSg ⟨#[98]⟩ ⟨#[98, 120]⟩).canon = cSgU := by
  rw [Sg.canon, show (mSg ⟨#[98]⟩ ⟨#[98, 120]⟩).fs.length = 1 from rfl, locs1, Sg.bare]
  simp [mSg, cSgU, Sg.subst, Sg.names, Fo.subst, Ty.subst, Ty.pick, loc0]
theorem canN : nSg.canon = nSg := by
  rw [Sg.canon, Sg.bare]
  simp [nSg, Sg.subst, Sg.names, Ty.subst, Ty.pick]
theorem alikeAB : Sg.alike (mSg ⟨#[97]⟩ ⟨#[97, 120]⟩) (mSg ⟨#[98]⟩ ⟨#[98, 120]⟩) = true := by rw [Sg.alike, canA, canB]; exact Sg.same _
theorem alikeAN : Sg.alike (mSg ⟨#[97]⟩ ⟨#[97, 120]⟩) nSg = false := by
  rw [Sg.alike, canA, canN, Sg.sameX]
  simp [cSgU, nSg, sameBy]
theorem mSg_wt (v x : ByteArray) (hv : v.size ≤ 40) (hx : x.size ≤ 40) : (mSg v x).wt ≤ 1000 := by
  have h1 : (⟨#[73]⟩ : ByteArray).size = 1 := rfl
  have h2 : (⟨#[109]⟩ : ByteArray).size = 1 := rfl
  simp only [mSg, Sg.wt, sumBy, Fo.wt, Ty.wt, Ty.wtL, h1, h2]
  omega
theorem nSg_wt : nSg.wt ≤ 1000 := by
  have h1 : (⟨#[]⟩ : ByteArray).size = 0 := rfl
  have h2 : (⟨#[109]⟩ : ByteArray).size = 1 := rfl
  simp only [nSg, Sg.wt, sumBy, Ty.wt, Ty.wtL, h1, h2]
  omega
theorem bound_a : boundF (.mk ⟨#[97]⟩ [] 0) (mSg ⟨#[97]⟩ ⟨#[97, 120]⟩).fs = some (.mk ⟨#[73]⟩ [] 0) := by
  rw [boundF, find_at (k := 0) (x := ⟨⟨#[97]⟩, .mk ⟨#[73]⟩ [] 0, 0⟩) (fun j _ h => absurd h (Nat.not_lt_zero _)) rfl (by simp [bytesEq, Ty.name]) rfl]
  rfl
theorem applied_a : (mSg ⟨#[97]⟩ ⟨#[97, 120]⟩).applied [.mk ⟨#[84]⟩ [] 0] = ⟨⟨#[109]⟩, [⟨⟨#[97]⟩, .mk ⟨#[73]⟩ [] 0, 0⟩], [⟨⟨#[97, 120]⟩, .mk ⟨#[84]⟩ [] 0, 0⟩], .mk ⟨#[84]⟩ [] 0, 0⟩ := by
  rw [Sg.applied, if_pos (show (mSg ⟨#[97]⟩ ⟨#[97, 120]⟩).fs.length = [Ty.mk ⟨#[84]⟩ [] 0].length from rfl)]
  simp [mSg, Sg.subst, Sg.names, Fo.subst, Ty.subst, Ty.pick]
/-- A row of one. -/
theorem row1 {w : World} {S : Nat → Prop} {b : Nat} {f : Fo} {us : List Value} (hc : CellsAt w ⟨b, 0, none⟩ us) (hS : S b) (h : f.dat.In w False S us) : Row w False S 5 (some ⟨b, 0, none⟩) 1 ([f].map Fo.dat) := by
  refine ⟨rfl, by omega, Dat.Elems.of fun k d hk => ?_⟩
  match k, hk with
  | 0, hk =>
    obtain rfl := Option.some.inj hk
    exact ⟨⟨b, 0, none⟩, us, rfl, hS, False.elim, h, by rw [Nat.zero_add, Nat.zero_mul]; exact hc⟩
  | k + 1, hk => simp at hk
theorem results_awm {w : World} {b : Nat} {us : List Value} (tmps : Array Value) (ht : tmps[2]?.getD undef = .pointer (some ⟨b, 0, none⟩)) (hc : Boxd w b us) (hl : us.length = 7) : (results Tryd.f53 tmps).run Tryd.prog w = .ok (.agg us.toArray) w := by
  have h := run_loadVar_at w ⟨b, 0, none⟩ 28 us _ hc.at0 Tryd.underlying28 rfl (by rw [hl]; exact flatSg.size)
  have h2 : (asAddr (.pointer (some ⟨b, 0, none⟩))).run Tryd.prog w = .ok ⟨b, 0, none⟩ w := rfl
  simp [results, Tryd.results53, ht, h, h2, Sem.run_bind, Result.andThen]
set_option maxRecDepth 100000 in
set_option maxHeartbeats 4000000 in
theorem awm_a (w : World) : Calls Tryd.prog 53 #[.string ⟨#[97]⟩] w (DPost w (mSg ⟨#[97]⟩ ⟨#[97, 120]⟩).dat) := by
  obtain ⟨W, hW⟩ : ∃ W, ((w.alloc (.cells #[.string ⟨#[]⟩, .slice none 0 0, .slice none 0 0, .string ⟨#[]⟩, .slice none 0 0, .int .i64 0, .int .i64 0] 28)).alloc (.cells #[.string ⟨#[97]⟩, .string ⟨#[73]⟩, .slice none 0 0, .int .i64 0, .int .i64 0] 48)).alloc (.cells #[.string ⟨#[97, 120]⟩, .string ⟨#[97]⟩, .slice none 0 0, .int .i64 0, .int .i64 0] 86) = W := ⟨_, rfl⟩
  have b0 : Below w.heap.size w (w.alloc (.cells #[.string ⟨#[]⟩, .slice none 0 0, .slice none 0 0, .string ⟨#[]⟩, .slice none 0 0, .int .i64 0, .int .i64 0] 28)) := (Below.refl _ _).alloc (Nat.le_refl _) _
  have ht0 := there_new w #[.string ⟨#[]⟩, .slice none 0 0, .slice none 0 0, .string ⟨#[]⟩, .slice none 0 0, .int .i64 0, .int .i64 0] 28
  have z0 : (w.alloc (.cells #[.string ⟨#[]⟩, .slice none 0 0, .slice none 0 0, .string ⟨#[]⟩, .slice none 0 0, .int .i64 0, .int .i64 0] 28)).heap.size = w.heap.size + 1 := by simp
  generalize hW0 : w.alloc (.cells #[.string ⟨#[]⟩, .slice none 0 0, .slice none 0 0, .string ⟨#[]⟩, .slice none 0 0, .int .i64 0, .int .i64 0] 28) = W0 at *
  obtain ⟨p1, p2, p3⟩ := Boxd.pair W0 #[.string ⟨#[97]⟩, .string ⟨#[73]⟩, .slice none 0 0, .int .i64 0, .int .i64 0] #[.string ⟨#[97, 120]⟩, .string ⟨#[97]⟩, .slice none 0 0, .int .i64 0, .int .i64 0] 86
  have q1 : Below W0.heap.size W0 W := by
    rw [← hW]; exact ((Below.refl _ _).alloc (Nat.le_refl _) _).alloc (by simp) _
  have q2 : Boxd W (w.heap.size + 1) [.string ⟨#[97]⟩, .string ⟨#[73]⟩, .slice none 0 0, .int .i64 0, .int .i64 0] := by
    rw [← hW, ← z0]
    exact (Boxd.new W0 #[.string ⟨#[97]⟩, .string ⟨#[73]⟩, .slice none 0 0, .int .i64 0, .int .i64 0] 48).later ((Below.refl _ _).alloc (Nat.le_refl _) _)
  have q3 : Boxd W (w.heap.size + 2) [.string ⟨#[97, 120]⟩, .string ⟨#[97]⟩, .slice none 0 0, .int .i64 0, .int .i64 0] := by
    rw [← hW]
    have h := Boxd.new (W0.alloc (.cells #[.string ⟨#[97]⟩, .string ⟨#[73]⟩, .slice none 0 0, .int .i64 0, .int .i64 0] 48)) #[.string ⟨#[97, 120]⟩, .string ⟨#[97]⟩, .slice none 0 0, .int .i64 0, .int .i64 0] 86
    rwa [show (W0.alloc (.cells #[.string ⟨#[97]⟩, .string ⟨#[73]⟩, .slice none 0 0, .int .i64 0, .int .i64 0] 48)).heap.size = w.heap.size + 2 by simp [z0]] at h
  have HB := Lib.hid (b0.trans (q1.mono b0.size))
  have HT := Lib.hid (there_later ht0 q1)
  have HF := Lib.hid q2
  have HP := Lib.hid q3
  have HZ := Lib.hid (show w.heap.size + 3 ≤ W.heap.size by rw [← hW]; simp [z0])
  have HW := Lib.hid (show ((w.alloc (.cells #[.string ⟨#[]⟩, .slice none 0 0, .slice none 0 0, .string ⟨#[]⟩, .slice none 0 0, .int .i64 0, .int .i64 0] 28)).alloc (.cells #[.string ⟨#[97]⟩, .string ⟨#[73]⟩, .slice none 0 0, .int .i64 0, .int .i64 0] 48)).alloc (.cells #[.string ⟨#[97, 120]⟩, .string ⟨#[97]⟩, .slice none 0 0, .int .i64 0, .int .i64 0] 86) = W by rw [hW0]; exact hW)
  clear hW b0 ht0 z0 p1 p2 p3 q1 q2 q3 hW0
  have hcat : (⟨#[97]⟩ ++ ⟨#[120]⟩ : ByteArray) = ⟨#[97, 120]⟩ := bytes_eq (by rw [Go.Joins.data_append]; rfl)
  go_enter Tryd.func53, Tryd.ntmps53
  go_wp2_with (refine storeOp flatSg 2 15 (b := w.heap.size) (o := 0) (us := [.string ⟨#[109]⟩, .slice (some ⟨w.heap.size + 1, 0, none⟩) 1 1, .slice (some ⟨w.heap.size + 2, 0, none⟩) 1 1, .string ⟨#[97]⟩, .slice none 0 0, .int .i64 0, .int .i64 0]) rfl rfl (HW.out ▸ HT.out) sg_one rfl ?_)
  rw [HW.out]
  refine bodyPost_ret (results_awm _ rfl (show Boxd _ w.heap.size [.string ⟨#[109]⟩, .slice (some ⟨w.heap.size + 1, 0, none⟩) 1 1, .slice (some ⟨w.heap.size + 2, 0, none⟩) 1 1, .string ⟨#[97]⟩, .slice none 0 0, .int .i64 0, .int .i64 0] from set_there HT.out) rfl) rfl ?_
  have hz := HZ.out
  have hk : ∀ b, b ≠ w.heap.size → (W.setCells w.heap.size 0 [.string ⟨#[109]⟩, .slice (some ⟨w.heap.size + 1, 0, none⟩) 1 1, .slice (some ⟨w.heap.size + 2, 0, none⟩) 1 1, .string ⟨#[97]⟩, .slice none 0 0, .int .i64 0, .int .i64 0]).heap[b]? = W.heap[b]? := fun b hb => heap_setCells _ _ _ _ b hb
  have hF : Boxd (W.setCells w.heap.size 0 [.string ⟨#[109]⟩, .slice (some ⟨w.heap.size + 1, 0, none⟩) 1 1, .slice (some ⟨w.heap.size + 2, 0, none⟩) 1 1, .string ⟨#[97]⟩, .slice none 0 0, .int .i64 0, .int .i64 0]) (w.heap.size + 1) [.string ⟨#[97]⟩, .string ⟨#[73]⟩, .slice none 0 0, .int .i64 0, .int .i64 0] := fun j u hu => ((kept_of (S := (· = w.heap.size + 1)) (fun b hb => hk b (by omega))) ⟨w.heap.size + 1, j, none⟩ rfl).1.trans (HF.out j u hu)
  have hP : Boxd (W.setCells w.heap.size 0 [.string ⟨#[109]⟩, .slice (some ⟨w.heap.size + 1, 0, none⟩) 1 1, .slice (some ⟨w.heap.size + 2, 0, none⟩) 1 1, .string ⟨#[97]⟩, .slice none 0 0, .int .i64 0, .int .i64 0]) (w.heap.size + 2) [.string ⟨#[97, 120]⟩, .string ⟨#[97]⟩, .slice none 0 0, .int .i64 0, .int .i64 0] := fun j u hu => ((kept_of (S := (· = w.heap.size + 2)) (fun b hb => hk b (by omega))) ⟨w.heap.size + 2, j, none⟩ rfl).1.trans (HP.out j u hu)
  refine ⟨[.string ⟨#[109]⟩, .slice (some ⟨w.heap.size + 1, 0, none⟩) 1 1, .slice (some ⟨w.heap.size + 2, 0, none⟩) 1 1, .string ⟨#[97]⟩, .slice none 0 0, .int .i64 0, .int .i64 0], rfl, sg_shut (s := mSg ⟨#[97]⟩ ⟨#[97, 120]⟩) (nf := 1) (np := 1) (m := 0) (by simp [mSg, ByteArray.size]) (row1 (hF.at0) ⟨by omega, by rw [size_setCells_w]; omega⟩ (fo_shut (f := ⟨⟨#[97]⟩, .mk ⟨#[73]⟩ [] 0, 0⟩) (by simp [ByteArray.size]) (by simp [Ty.name, ByteArray.size]) (LiesN.nil _ _ _ _))) (row1 (hP.at0) ⟨by omega, by rw [size_setCells_w]; omega⟩ (fo_shut (f := ⟨⟨#[97, 120]⟩, .mk ⟨#[97]⟩ [] 0, 0⟩) (by simp [ByteArray.size]) (by simp [Ty.name, ByteArray.size]) (LiesN.nil _ _ _ _))) (by simp [mSg, Ty.name, ByteArray.size]) (LiesN.nil _ _ _ _), HB.out.trans (below_cells (Nat.le_refl _) _ _ _)⟩
set_option maxRecDepth 100000 in
set_option maxHeartbeats 4000000 in
theorem awm_b (w : World) : Calls Tryd.prog 53 #[.string ⟨#[98]⟩] w (DPost w (mSg ⟨#[98]⟩ ⟨#[98, 120]⟩).dat) := by
  obtain ⟨W, hW⟩ : ∃ W, ((w.alloc (.cells #[.string ⟨#[]⟩, .slice none 0 0, .slice none 0 0, .string ⟨#[]⟩, .slice none 0 0, .int .i64 0, .int .i64 0] 28)).alloc (.cells #[.string ⟨#[98]⟩, .string ⟨#[73]⟩, .slice none 0 0, .int .i64 0, .int .i64 0] 48)).alloc (.cells #[.string ⟨#[98, 120]⟩, .string ⟨#[98]⟩, .slice none 0 0, .int .i64 0, .int .i64 0] 86) = W := ⟨_, rfl⟩
  have b0 : Below w.heap.size w (w.alloc (.cells #[.string ⟨#[]⟩, .slice none 0 0, .slice none 0 0, .string ⟨#[]⟩, .slice none 0 0, .int .i64 0, .int .i64 0] 28)) := (Below.refl _ _).alloc (Nat.le_refl _) _
  have ht0 := there_new w #[.string ⟨#[]⟩, .slice none 0 0, .slice none 0 0, .string ⟨#[]⟩, .slice none 0 0, .int .i64 0, .int .i64 0] 28
  have z0 : (w.alloc (.cells #[.string ⟨#[]⟩, .slice none 0 0, .slice none 0 0, .string ⟨#[]⟩, .slice none 0 0, .int .i64 0, .int .i64 0] 28)).heap.size = w.heap.size + 1 := by simp
  generalize hW0 : w.alloc (.cells #[.string ⟨#[]⟩, .slice none 0 0, .slice none 0 0, .string ⟨#[]⟩, .slice none 0 0, .int .i64 0, .int .i64 0] 28) = W0 at *
  obtain ⟨p1, p2, p3⟩ := Boxd.pair W0 #[.string ⟨#[98]⟩, .string ⟨#[73]⟩, .slice none 0 0, .int .i64 0, .int .i64 0] #[.string ⟨#[98, 120]⟩, .string ⟨#[98]⟩, .slice none 0 0, .int .i64 0, .int .i64 0] 86
  have q1 : Below W0.heap.size W0 W := by
    rw [← hW]; exact ((Below.refl _ _).alloc (Nat.le_refl _) _).alloc (by simp) _
  have q2 : Boxd W (w.heap.size + 1) [.string ⟨#[98]⟩, .string ⟨#[73]⟩, .slice none 0 0, .int .i64 0, .int .i64 0] := by
    rw [← hW, ← z0]
    exact (Boxd.new W0 #[.string ⟨#[98]⟩, .string ⟨#[73]⟩, .slice none 0 0, .int .i64 0, .int .i64 0] 48).later ((Below.refl _ _).alloc (Nat.le_refl _) _)
  have q3 : Boxd W (w.heap.size + 2) [.string ⟨#[98, 120]⟩, .string ⟨#[98]⟩, .slice none 0 0, .int .i64 0, .int .i64 0] := by
    rw [← hW]
    have h := Boxd.new (W0.alloc (.cells #[.string ⟨#[98]⟩, .string ⟨#[73]⟩, .slice none 0 0, .int .i64 0, .int .i64 0] 48)) #[.string ⟨#[98, 120]⟩, .string ⟨#[98]⟩, .slice none 0 0, .int .i64 0, .int .i64 0] 86
    rwa [show (W0.alloc (.cells #[.string ⟨#[98]⟩, .string ⟨#[73]⟩, .slice none 0 0, .int .i64 0, .int .i64 0] 48)).heap.size = w.heap.size + 2 by simp [z0]] at h
  have HB := Lib.hid (b0.trans (q1.mono b0.size))
  have HT := Lib.hid (there_later ht0 q1)
  have HF := Lib.hid q2
  have HP := Lib.hid q3
  have HZ := Lib.hid (show w.heap.size + 3 ≤ W.heap.size by rw [← hW]; simp [z0])
  have HW := Lib.hid (show ((w.alloc (.cells #[.string ⟨#[]⟩, .slice none 0 0, .slice none 0 0, .string ⟨#[]⟩, .slice none 0 0, .int .i64 0, .int .i64 0] 28)).alloc (.cells #[.string ⟨#[98]⟩, .string ⟨#[73]⟩, .slice none 0 0, .int .i64 0, .int .i64 0] 48)).alloc (.cells #[.string ⟨#[98, 120]⟩, .string ⟨#[98]⟩, .slice none 0 0, .int .i64 0, .int .i64 0] 86) = W by rw [hW0]; exact hW)
  clear hW b0 ht0 z0 p1 p2 p3 q1 q2 q3 hW0
  have hcat : (⟨#[98]⟩ ++ ⟨#[120]⟩ : ByteArray) = ⟨#[98, 120]⟩ := bytes_eq (by rw [Go.Joins.data_append]; rfl)
  go_enter Tryd.func53, Tryd.ntmps53
  go_wp2_with (refine storeOp flatSg 2 15 (b := w.heap.size) (o := 0) (us := [.string ⟨#[109]⟩, .slice (some ⟨w.heap.size + 1, 0, none⟩) 1 1, .slice (some ⟨w.heap.size + 2, 0, none⟩) 1 1, .string ⟨#[98]⟩, .slice none 0 0, .int .i64 0, .int .i64 0]) rfl rfl (HW.out ▸ HT.out) sg_one rfl ?_)
  rw [HW.out]
  refine bodyPost_ret (results_awm _ rfl (show Boxd _ w.heap.size [.string ⟨#[109]⟩, .slice (some ⟨w.heap.size + 1, 0, none⟩) 1 1, .slice (some ⟨w.heap.size + 2, 0, none⟩) 1 1, .string ⟨#[98]⟩, .slice none 0 0, .int .i64 0, .int .i64 0] from set_there HT.out) rfl) rfl ?_
  have hz := HZ.out
  have hk : ∀ b, b ≠ w.heap.size → (W.setCells w.heap.size 0 [.string ⟨#[109]⟩, .slice (some ⟨w.heap.size + 1, 0, none⟩) 1 1, .slice (some ⟨w.heap.size + 2, 0, none⟩) 1 1, .string ⟨#[98]⟩, .slice none 0 0, .int .i64 0, .int .i64 0]).heap[b]? = W.heap[b]? := fun b hb => heap_setCells _ _ _ _ b hb
  have hF : Boxd (W.setCells w.heap.size 0 [.string ⟨#[109]⟩, .slice (some ⟨w.heap.size + 1, 0, none⟩) 1 1, .slice (some ⟨w.heap.size + 2, 0, none⟩) 1 1, .string ⟨#[98]⟩, .slice none 0 0, .int .i64 0, .int .i64 0]) (w.heap.size + 1) [.string ⟨#[98]⟩, .string ⟨#[73]⟩, .slice none 0 0, .int .i64 0, .int .i64 0] := fun j u hu => ((kept_of (S := (· = w.heap.size + 1)) (fun b hb => hk b (by omega))) ⟨w.heap.size + 1, j, none⟩ rfl).1.trans (HF.out j u hu)
  have hP : Boxd (W.setCells w.heap.size 0 [.string ⟨#[109]⟩, .slice (some ⟨w.heap.size + 1, 0, none⟩) 1 1, .slice (some ⟨w.heap.size + 2, 0, none⟩) 1 1, .string ⟨#[98]⟩, .slice none 0 0, .int .i64 0, .int .i64 0]) (w.heap.size + 2) [.string ⟨#[98, 120]⟩, .string ⟨#[98]⟩, .slice none 0 0, .int .i64 0, .int .i64 0] := fun j u hu => ((kept_of (S := (· = w.heap.size + 2)) (fun b hb => hk b (by omega))) ⟨w.heap.size + 2, j, none⟩ rfl).1.trans (HP.out j u hu)
  refine ⟨[.string ⟨#[109]⟩, .slice (some ⟨w.heap.size + 1, 0, none⟩) 1 1, .slice (some ⟨w.heap.size + 2, 0, none⟩) 1 1, .string ⟨#[98]⟩, .slice none 0 0, .int .i64 0, .int .i64 0], rfl, sg_shut (s := mSg ⟨#[98]⟩ ⟨#[98, 120]⟩) (nf := 1) (np := 1) (m := 0) (by simp [mSg, ByteArray.size]) (row1 (hF.at0) ⟨by omega, by rw [size_setCells_w]; omega⟩ (fo_shut (f := ⟨⟨#[98]⟩, .mk ⟨#[73]⟩ [] 0, 0⟩) (by simp [ByteArray.size]) (by simp [Ty.name, ByteArray.size]) (LiesN.nil _ _ _ _))) (row1 (hP.at0) ⟨by omega, by rw [size_setCells_w]; omega⟩ (fo_shut (f := ⟨⟨#[98, 120]⟩, .mk ⟨#[98]⟩ [] 0, 0⟩) (by simp [ByteArray.size]) (by simp [Ty.name, ByteArray.size]) (LiesN.nil _ _ _ _))) (by simp [mSg, Ty.name, ByteArray.size]) (LiesN.nil _ _ _ _), HB.out.trans (below_cells (Nat.le_refl _) _ _ _)⟩
end Go.Proofs.YtkdlidakdknhjaaDoor
namespace Go.Proofs.YtkdlidakdknhjaaDoor
open Go.RowKit

set_option maxRecDepth 100000 in
set_option maxHeartbeats 16000000 in
theorem bawake_any (w : World) (hE : PowVar w) : Calls Tryd.prog 13 #[] w (EqvPost w true) := by
  have HP := Lib.hid hE
  have HB := Lib.hid (Below.refl w.heap.size w)
  clear hE
  go_enter Tryd.func13, Tryd.ntmps13
  go_wp2_with fail
  refine (awm_a _).mono ?_
  rintro e w1 ⟨us1, rfl, hd1, hb1⟩
  have HP := Lib.hid (HP.out.later hb1)
  have HB := Lib.hid (HB.out.trans (hb1.mono HB.out.size))
  have C1 := Lib.hid (bcanon_d (mSg ⟨#[97]⟩ ⟨#[97, 120]⟩) us1 w1 (mSg_wt _ _ (by simp [ByteArray.size]) (by simp [ByteArray.size])) HP.out (hd1.wide fun b hb => hb.2))
  clear hd1 hb1
  go_wp2_with fail
  refine C1.out.mono ?_
  rintro e w2 ⟨us2, rfl, hd2, hb2⟩
  rw [canA] at hd2
  clear C1
  obtain ⟨F2, nf2, cf2, Q2, np2, cp2, A2, m2, a2, rfl, _, hf2, _, _, _⟩ := sg_open hd2
  obtain rfl : 1 = nf2 := hf2.len
  have HP := Lib.hid (HP.out.later hb2)
  have HB := Lib.hid (HB.out.trans (hb2.mono HB.out.size))
  obtain ⟨W2, hP2⟩ := putZ #[.string ⟨#[]⟩, .slice none 0 0, .slice none 0 0, .string ⟨#[]⟩, .slice none 0 0, .int .i64 0, .int .i64 0] 28 w2 (us := [.string cSgU.name, .slice F2 1 cf2, .slice Q2 np2 cp2, .string cSgU.res.name, .slice A2 m2 a2, .int .i64 cSgU.res.off, .int .i64 cSgU.off]) rfl
  have hW2 := hP2.bel
  have HPP := Lib.hid hP2
  have HCB := Lib.hid hP2.box
  have HCR := Lib.hid (RowH.later (hf2.wide fun b hb => hb.2) hP2.bel)
  obtain ⟨cb, hcb⟩ : ∃ b, b = w2.heap.size := ⟨_, rfl⟩
  rw [← hcb] at HCB
  have HCBE := Lib.hid hcb
  have HP := Lib.hid (HP.out.later hW2)
  have HB := Lib.hid (HB.out.trans (hW2.mono HB.out.size))
  clear hf2 hd2 hb2 hP2 hW2 hcb
  go_upto_region 3 with (refine storeOp flatSg 2 9 (b := w2.heap.size) (o := 0) (us := [.string cSgU.name, .slice F2 1 cf2, .slice Q2 np2 cp2, .string cSgU.res.name, .slice A2 m2 a2, .int .i64 cSgU.res.off, .int .i64 cSgU.off]) rfl rfl HPP.out.there sg_one rfl ?_; rw [HPP.out.eq])
  rw [← HCBE.out]
  clear HPP HCBE
  go_wp2_with fail
  refine (awm_a _).mono ?_
  rintro e w3 ⟨us3, rfl, hd3, hb3⟩
  have HP := Lib.hid (HP.out.later hb3)
  have HCB := Lib.hid (HCB.out.later hb3)
  have HCR := Lib.hid (HCR.out.later hb3)
  have HB := Lib.hid (HB.out.trans (hb3.mono HB.out.size))
  obtain ⟨F3, nf3, cf3, Q3, np3, cp3, A3, m3, a3, rfl, _, hf3, _, _, _⟩ := sg_open hd3
  obtain rfl : 1 = nf3 := hf3.len
  have C3 := Lib.hid (show Calls Tryd.prog 27 #[.slice F3 1 cf3, .agg #[.string ⟨#[97]⟩, .slice none 0 0, .int .i64 0]] w3 (BouPost w3 (some (.mk ⟨#[73]⟩ [] 0))) from by
    have h := bbound_any (mSg ⟨#[97]⟩ ⟨#[97, 120]⟩).fs (.mk ⟨#[97]⟩ [] 0) [.string ⟨#[97]⟩, .slice none 0 0, .int .i64 0] F3 1 cf3 w3 (fun f hf => by have := Sg.wt_f hf; have := mSg_wt ⟨#[97]⟩ ⟨#[97, 120]⟩ (by simp [ByteArray.size]) (by simp [ByteArray.size]); omega) (by omega) (hf3.wide fun b hb => hb.2) (ty_shut (t := .mk ⟨#[97]⟩ [] 0) (by simp [Ty.name, ByteArray.size]) (LiesN.nil _ _ _ _))
    rw [bound_a] at h
    exact h)
  have hfld : ∀ V : World, (Instr.field 28 (.agg #[.string (mSg ⟨#[97]⟩ ⟨#[97, 120]⟩).name, .slice F3 1 cf3, .slice Q3 np3 cp3, .string (mSg ⟨#[97]⟩ ⟨#[97, 120]⟩).res.name, .slice A3 m3 a3, .int .i64 (mSg ⟨#[97]⟩ ⟨#[97, 120]⟩).res.off, .int .i64 (mSg ⟨#[97]⟩ ⟨#[97, 120]⟩).off]) 1).run Tryd.prog V = .ok (.slice F3 1 cf3) V := fun V => rfl
  clear hf3 hd3 hb3
  go_wp2_with fail
  refine C3.out.mono ?_
  rintro e w4 ⟨us4, rfl, hd4, hb4⟩
  obtain ⟨A4, m4, c4, rfl, _, _⟩ := ty_open hd4
  clear C3 hfld
  have HP := Lib.hid (HP.out.later hb4)
  have HCB := Lib.hid (HCB.out.later hb4)
  have HCR := Lib.hid (HCR.out.later hb4)
  have HB := Lib.hid (HB.out.trans (hb4.mono HB.out.size))
  obtain ⟨W4, hP4⟩ := putZ #[.string ⟨#[]⟩, .slice none 0 0, .int .i64 0] 26 w4 (us := [.string ⟨#[73]⟩, .slice A4 m4 c4, .int .i64 0]) rfl
  have hW4 := hP4.bel
  have HPP := Lib.hid hP4
  have HTB := Lib.hid hP4.box
  obtain ⟨tb, htb⟩ : ∃ b, b = w4.heap.size := ⟨_, rfl⟩
  rw [← htb] at HTB
  have HTBE := Lib.hid htb
  have HP := Lib.hid (HP.out.later hW4)
  have HCB := Lib.hid (HCB.out.later hW4)
  have HCR := Lib.hid (HCR.out.later hW4)
  have HB := Lib.hid (HB.out.trans (hW4.mono HB.out.size))
  clear hd4 hb4 hP4 hW4 htb
  go_upto_region 4 with (refine storeOp flatTy3 3 16 (b := w4.heap.size) (o := 0) (us := [.string ⟨#[73]⟩, .slice A4 m4 c4, .int .i64 0]) rfl rfl HPP.out.there three_one rfl ?_; rw [HPP.out.eq])
  rw [← HTBE.out]
  clear HPP HTBE
  go_wp2_with fail
  refine (awm_a _).mono ?_
  rintro e w5 ⟨us5, rfl, hd5, hb5⟩
  have HP := Lib.hid (HP.out.later hb5)
  have HCB := Lib.hid (HCB.out.later hb5)
  have HCR := Lib.hid (HCR.out.later hb5)
  have HTB := Lib.hid (HTB.out.later hb5)
  have HB := Lib.hid (HB.out.trans (hb5.mono HB.out.size))
  obtain ⟨W5, hW5⟩ : ∃ W5, w5.alloc (.cells #[.string ⟨#[84]⟩, .slice none 0 0, .int .i64 0] 26) = W5 := ⟨_, rfl⟩
  have hb6 : Below w5.heap.size w5 W5 := hW5 ▸ (Below.refl _ _).alloc (Nat.le_refl _) _
  have hT5 : Here W5 (some ⟨w5.heap.size, 0, none⟩) 1 [.mk ⟨#[84]⟩ [] 0] := by
    refine lies_row.2 ⟨rfl, by omega, Dat.Elems.of fun k d hk => ?_⟩
    match k, hk with
    | 0, hk =>
      obtain rfl := Option.some.inj hk
      exact ⟨⟨w5.heap.size, 0, none⟩, [.string ⟨#[84]⟩, .slice none 0 0, .int .i64 0], rfl, by show w5.heap.size < _; rw [← hW5]; simp, False.elim, ty_shut (t := .mk ⟨#[84]⟩ [] 0) (by simp [Ty.name, ByteArray.size]) (LiesN.nil _ _ _ _), by rw [Nat.zero_add, Nat.zero_mul, ← hW5]; exact (Boxd.new w5 #[.string ⟨#[84]⟩, .slice none 0 0, .int .i64 0] 26).at0⟩
    | k + 1, hk => simp [Ty.dats] at hk
  have C5 := Lib.hid (show Calls Tryd.prog 21 #[.agg us5.toArray, .slice (some ⟨w5.heap.size, 0, none⟩) 1 1] W5 (AppPost W5 (mSg ⟨#[97]⟩ ⟨#[97, 120]⟩) [.mk ⟨#[84]⟩ [] 0]) from bapply_any (mSg ⟨#[97]⟩ ⟨#[97, 120]⟩) us5 [.mk ⟨#[84]⟩ [] 0] (some ⟨w5.heap.size, 0, none⟩) 1 1 W5 (mSg_wt _ _ (by simp [ByteArray.size]) (by simp [ByteArray.size])) (fun v hv => by obtain rfl := List.mem_singleton.1 hv; exact ty_few (by simp [Ty.wt, Ty.wtL, ByteArray.size])) (by omega) (Dat.H.later (hd5.wide fun b hb => hb.2) hb6) hT5)
  have HW5 := Lib.hid hW5
  have HP := Lib.hid (HP.out.later hb6)
  have HCB := Lib.hid (HCB.out.later hb6)
  have HCR := Lib.hid (HCR.out.later hb6)
  have HTB := Lib.hid (HTB.out.later hb6)
  have HB := Lib.hid (HB.out.trans (hb6.mono HB.out.size))
  clear hd5 hb5 hb6 hT5 hW5
  go_wp2_with fail
  rw [HW5.out]
  clear HW5
  refine C5.out.mono ?_
  rintro e w6 ⟨us6, rfl, hd6, hb6⟩
  rw [applied_a] at hd6
  rw [show ((mSg ⟨#[97]⟩ ⟨#[97, 120]⟩).fs.length == [Ty.mk ⟨#[84]⟩ [] 0].length) = true from rfl]
  obtain ⟨F6, nf6, cf6, Q6, np6, cp6, A6, m6, a6, rfl, _⟩ := sg_open hd6
  clear C5
  have HP := Lib.hid (HP.out.later hb6)
  have HCB := Lib.hid (HCB.out.later hb6)
  have HCR := Lib.hid (HCR.out.later hb6)
  have HTB := Lib.hid (HTB.out.later hb6)
  have HB := Lib.hid (HB.out.trans (hb6.mono HB.out.size))
  obtain ⟨W6, hP6⟩ := putZ #[.string ⟨#[]⟩, .slice none 0 0, .slice none 0 0, .string ⟨#[]⟩, .slice none 0 0, .int .i64 0, .int .i64 0] 28 w6 (us := [.string ⟨#[109]⟩, .slice F6 nf6 cf6, .slice Q6 np6 cp6, .string ⟨#[84]⟩, .slice A6 m6 a6, .int .i64 0, .int .i64 0]) rfl
  have hW6 := hP6.bel
  have HPP := Lib.hid hP6
  have HAB := Lib.hid hP6.box
  obtain ⟨ab, hab⟩ : ∃ b, b = w6.heap.size := ⟨_, rfl⟩
  rw [← hab] at HAB
  have HABE := Lib.hid hab
  have HP := Lib.hid (HP.out.later hW6)
  have HCB := Lib.hid (HCB.out.later hW6)
  have HCR := Lib.hid (HCR.out.later hW6)
  have HTB := Lib.hid (HTB.out.later hW6)
  have HB := Lib.hid (HB.out.trans (hW6.mono HB.out.size))
  clear hd6 hb6 hP6 hW6 hab
  go_upto_region 5 with (refine storeOp flatSg 5 24 (b := w6.heap.size) (o := 0) (us := [.string ⟨#[109]⟩, .slice F6 nf6 cf6, .slice Q6 np6 cp6, .string ⟨#[84]⟩, .slice A6 m6 a6, .int .i64 0, .int .i64 0]) rfl rfl HPP.out.there sg_one rfl ?_; rw [HPP.out.eq])
  rw [← HABE.out]
  clear HPP HABE
  simp only [List.append_eq, List.cons_append, List.nil_append]
  go_wp2_with fail
  refine (awm_a _).mono ?_
  rintro e w7 ⟨us7, rfl, hd7, hb7⟩
  have HP := Lib.hid (HP.out.later hb7)
  have HCB := Lib.hid (HCB.out.later hb7)
  have HCR := Lib.hid (HCR.out.later hb7)
  have HTB := Lib.hid (HTB.out.later hb7)
  have HAB := Lib.hid (HAB.out.later hb7)
  have HB := Lib.hid (HB.out.trans (hb7.mono HB.out.size))
  have HD7 := Lib.hid hd7
  clear hd7 hb7
  go_wp2_with fail
  refine (awm_b _).mono ?_
  rintro e w8 ⟨us8, rfl, hd8, hb8⟩
  have C8 := Lib.hid (show Calls Tryd.prog 18 #[.agg us7.toArray, .agg us8.toArray] w8 (EqvPost w8 true) from by
    have h := balike_any (mSg ⟨#[97]⟩ ⟨#[97, 120]⟩) (mSg ⟨#[98]⟩ ⟨#[98, 120]⟩) us7 us8 w8 (mSg_wt _ _ (by simp [ByteArray.size]) (by simp [ByteArray.size])) (mSg_wt _ _ (by simp [ByteArray.size]) (by simp [ByteArray.size])) (HP.out.later hb8) (Dat.H.later (HD7.out.wide fun b hb => hb.2) hb8) (hd8.wide fun b hb => hb.2)
    rw [alikeAB] at h
    exact h)
  have HP := Lib.hid (HP.out.later hb8)
  have HCB := Lib.hid (HCB.out.later hb8)
  have HCR := Lib.hid (HCR.out.later hb8)
  have HTB := Lib.hid (HTB.out.later hb8)
  have HAB := Lib.hid (HAB.out.later hb8)
  have HB := Lib.hid (HB.out.trans (hb8.mono HB.out.size))
  clear hd8 hb8 HD7
  go_wp2_with fail
  refine C8.out.mono ?_
  rintro e w9 ⟨rfl, hb9⟩
  clear C8
  have HP := Lib.hid (HP.out.later hb9)
  have HCB := Lib.hid (HCB.out.later hb9)
  have HCR := Lib.hid (HCR.out.later hb9)
  have HTB := Lib.hid (HTB.out.later hb9)
  have HAB := Lib.hid (HAB.out.later hb9)
  have HB := Lib.hid (HB.out.trans (hb9.mono HB.out.size))
  clear hb9
  go_wp2_with fail
  refine (awm_a _).mono ?_
  rintro e w10 ⟨us10, rfl, hd10, hb10⟩
  have C10 := Lib.hid (show Calls Tryd.prog 18 #[.agg us10.toArray, .agg #[.string ⟨#[109]⟩, .slice none 0 0, .slice none 0 0, .string ⟨#[]⟩, .slice none 0 0, .int .i64 0, .int .i64 0]] w10 (EqvPost w10 false) from by
    have h := balike_any (mSg ⟨#[97]⟩ ⟨#[97, 120]⟩) nSg us10 [.string ⟨#[109]⟩, .slice none 0 0, .slice none 0 0, .string ⟨#[]⟩, .slice none 0 0, .int .i64 0, .int .i64 0] w10 (mSg_wt _ _ (by simp [ByteArray.size]) (by simp [ByteArray.size])) nSg_wt (HP.out.later hb10) (hd10.wide fun b hb => hb.2) (sg_shut (s := nSg) (nf := 0) (np := 0) (m := 0) (by simp [nSg, ByteArray.size]) (Row.nil _ _ _ _ _) (Row.nil _ _ _ _ _) (by simp [nSg, Ty.name, ByteArray.size]) (LiesN.nil _ _ _ _))
    rw [alikeAN] at h
    exact h)
  have HP := Lib.hid (HP.out.later hb10)
  have HCB := Lib.hid (HCB.out.later hb10)
  have HCR := Lib.hid (HCR.out.later hb10)
  have HTB := Lib.hid (HTB.out.later hb10)
  have HAB := Lib.hid (HAB.out.later hb10)
  have HB := Lib.hid (HB.out.trans (hb10.mono HB.out.size))
  clear hd10 hb10
  go_wp2_with fail
  refine C10.out.mono ?_
  rintro e w11 ⟨rfl, hb11⟩
  clear C10
  have HP := Lib.hid (HP.out.later hb11)
  have HCB := Lib.hid (HCB.out.later hb11)
  have HCR := Lib.hid (HCR.out.later hb11)
  have HTB := Lib.hid (HTB.out.later hb11)
  have HAB := Lib.hid (HAB.out.later hb11)
  have HB := Lib.hid (HB.out.trans (hb11.mono HB.out.size))
  clear hb11
  obtain ⟨pf, xf, usf, hF2, hxf, _, _, huf, hcf⟩ := dat_at (k := 0) HCR.out (by omega)
  obtain rfl : (⟨⟨#[36, 48]⟩, .mk ⟨#[73]⟩ [] 0, 0⟩ : Fo) = xf := Option.some.inj hxf
  subst hF2
  obtain ⟨_, _, _, rfl, _⟩ := fo_open huf
  rw [Nat.zero_mul] at hcf
  have n0 : w11.cell? pf = some (.string ⟨#[36, 48]⟩) := by
    have h := (cells5_at hcf).1
    rwa [show pf.add 0 = pf by unfold Addr.add; simp] at h
  have k1 : w11.cell? ⟨cb, 1, none⟩ = some (.slice (some pf) 1 cf2) := HCB.out 1 _ rfl
  have k3 : w11.cell? ⟨cb, 3, none⟩ = some (.string ⟨#[36, 48]⟩) := HCB.out 3 _ rfl
  have t0 : w11.cell? ⟨tb, 0, none⟩ = some (.string ⟨#[73]⟩) := HTB.out 0 _ rfl
  have a3' : w11.cell? ⟨ab, 3, none⟩ = some (.string ⟨#[84]⟩) := HAB.out 3 _ rfl
  have C12 := Lib.hid (nms_at (k := 1) rfl (bnames_any cSgU.fs (some pf) 1 cf2 w11 (by omega) HCR.out))
  clear hxf huf hcf
  go_wp2_with fail
  refine C12.out.mono ?_
  rintro e w12 ⟨NA, nc, rfl, _, _, hb12⟩
  clear C12 n0 k1 k3 t0 a3'
  have HP := Lib.hid (HP.out.later hb12)
  have HCB := Lib.hid (HCB.out.later hb12)
  have HCR := Lib.hid (HCR.out.later hb12)
  have HTB := Lib.hid (HTB.out.later hb12)
  have HAB := Lib.hid (HAB.out.later hb12)
  have HB := Lib.hid (HB.out.trans (hb12.mono HB.out.size))
  have C13 := Lib.hid (bjoin_any cSgU.fs cSgU.fs (some pf) (some pf) 1 1 cf2 cf2 w12 (fun f hf => by
    have h1 : (⟨#[73]⟩ : ByteArray).size = 1 := rfl
    have h2 : (⟨#[36, 48]⟩ : ByteArray).size = 2 := rfl
    simp only [cSgU, List.cons_append, List.nil_append, List.mem_cons, List.not_mem_nil, or_false, or_self] at hf
    subst hf
    simp only [Fo.wt, Ty.wt, Ty.wtL, h1, h2]
    omega) (by omega) (by omega) HCR.out HCR.out)
  have k1 : w12.cell? ⟨cb, 1, none⟩ = some (.slice (some pf) 1 cf2) := HCB.out 1 _ rfl
  clear hb12
  go_wp2_with fail
  refine C13.out.mono ?_
  rintro e w13 ⟨JA, jc, rfl, _, hb13⟩
  clear C13 k1

  have HB := Lib.hid (HB.out.trans (hb13.mono HB.out.size))
  clear hb13
  go_wp2_with fail
  go_ret
  exact ⟨rfl, HB.out⟩
end Go.Proofs.YtkdlidakdknhjaaDoor
