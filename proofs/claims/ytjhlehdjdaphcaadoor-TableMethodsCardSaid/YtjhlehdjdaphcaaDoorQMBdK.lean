/- The walk of bind.Canon. The condition: few parts. -/
import Derived.Test.YtjhlehdjdaphcaaDoorQMBdJ
import Derived.Deep.DeepCutAuto
namespace Go.Proofs.YtjhlehdjdaphcaaDoor
open Go.RowKit

theorem madeTy_at (n j i : Nat) (hi : i < n) (hj : j < 3) : (madeCells #[.string ⟨#[]⟩, .slice none 0 0, .int .i64 0] (n * 3))[i * 3 + j]? = (#[.string ⟨#[]⟩, .slice none 0 0, .int .i64 0] : Array Value)[j]? := by
  have h1 : i * 3 + j < (madeCells #[.string ⟨#[]⟩, .slice none 0 0, .int .i64 0] (n * 3)).size := by
    rw [size_madeCells]; have := Nat.mul_le_mul_right 3 (show i + 1 ≤ n from hi); omega
  rw [Array.getElem?_eq_getElem h1]
  simp only [madeCells, Array.getElem_map, Array.getElem_range]
  rw [show (i * 3 + j) % (#[.string ⟨#[]⟩, .slice none 0 0, .int .i64 0] : Array Value).size = j by show (i * 3 + j) % 3 = j; omega]
  match j, hj with
  | 0, _ => rfl
  | 1, _ => rfl
  | 2, _ => rfl
theorem locRow_new (w : World) (n : Nat) : LocRow (w.alloc (.cells (madeCells #[.string ⟨#[]⟩, .slice none 0 0, .int .i64 0] (n * 3)) 25)) (some ⟨w.heap.size, 0, none⟩) (w.heap.size + 1) n 0 := ⟨fun i hi => by
  have hc : ∀ j, j < 3 → (w.alloc (.cells (madeCells #[.string ⟨#[]⟩, .slice none 0 0, .int .i64 0] (n * 3)) 25)).cell? ⟨w.heap.size, i * 3 + j, none⟩ = (#[.string ⟨#[]⟩, .slice none 0 0, .int .i64 0] : Array Value)[j]? := fun j hj => by
    rw [World.cell?_alloc_at _ _ _ _ rfl]
    exact madeTy_at n j i hi hj
  exact ⟨_, rfl, Nat.lt_succ_self _, by rw [if_neg (by omega)]; exact hc 0 (by omega), hc 1 (by omega), hc 2 (by omega), frozen_of_row (heap_alloc_new _ _) _⟩⟩
theorem LocRow.set {V : World} {g top n k : Nat} (h : LocRow V (some ⟨g, 0, none⟩) top n k) (hk : k < n) : LocRow (V.setCell ⟨g, k * 3, none⟩ (.string (loc k))) (some ⟨g, 0, none⟩) top n (k + 1) := ⟨fun i hi => by
  obtain ⟨g', e, hg, c0, c1, c2, f⟩ := h.at_ i hi
  obtain rfl : g = g' := by injection e with e; injection e
  refine ⟨g, rfl, hg, ?_, ?_, ?_, (World.frozen?_setCell _ _ _ _).trans f⟩
  · by_cases e : i = k
    · subst e
      rw [World.cell?_setCell_same _ _ _ c0, if_pos (by omega)]
    · rw [World.cell?_setCell_other _ _ _ _ (by intro h; injection h with _ h; omega), c0]
      by_cases h2 : i < k
      · rw [if_pos h2, if_pos (by omega)]
      · rw [if_neg h2, if_neg (by omega)]
  · rw [World.cell?_setCell_other _ _ _ _ (by intro h; injection h with _ h; omega)]; exact c1
  · rw [World.cell?_setCell_other _ _ _ _ (by intro h; injection h with _ h; omega)]; exact c2⟩
theorem LocRow.wide {V : World} {A : Option Addr} {top top' n k : Nat} (h : LocRow V A top n k) (ht : top ≤ top') : LocRow V A top' n k := ⟨fun i hi => by
  obtain ⟨g, e, hg, r⟩ := h.at_ i hi
  exact ⟨g, e, by omega, r⟩⟩
/-- What lies ahead of the calls of Names and Subst: what is returned is not yet written, the local names lie. -/
structure CanAt (w W : World) (tl n : Nat) (AL : Option Addr) : Prop where
  bel : Below w.heap.size w W
  tl2 : w.heap.size + 2 ≤ tl
  tlz : tl ≤ W.heap.size
  res : W.there (w.heap.size + 1) 0 7
  loc : LocRow W AL tl n n
theorem CanAt.later {w W W' : World} {tl n : Nat} {AL : Option Addr} (h : CanAt w W tl n AL) (hb : Below W.heap.size W W') : CanAt w W' tl n AL :=
  ⟨h.bel.trans (hb.mono h.bel.size), h.tl2, Nat.le_trans h.tlz hb.size, there_later h.res hb, h.loc.later hb h.tlz⟩
theorem can_box {w W X Z : World} {t : Sg} {cb lo top tl n : Nat} {AL FA : Option Addr} {fc : Nat} {PA : Option Addr} {pc : Nat} {At : Option Addr} {mt at1 : Nat} {us : List Value} (hW : CanAt w W tl n AL) (hb : Below W.heap.size W Z) (hcb : W.heap.size ≤ cb) (hlo : W.heap.size ≤ lo)
    (hs : SgW lo top X t (.slice FA t.fs.length fc) (.slice PA t.ps.length pc) [.string t.res.name, .slice At mt at1, .int .i64 t.res.off]) (hus : us = sg7 t FA fc PA pc At mt at1) (hsep : cb < lo ∨ top ≤ cb ∧ (∀ b, (Value.slice FA t.fs.length fc).ownBlock = some b → b < cb) ∧ ∀ b, (Value.slice PA t.ps.length pc).ownBlock = some b → b < cb)
    (ht : X.there cb 0 7) (hZ : Z = X.setCells cb 0 us) : CanBox w Z t cb lo top n AL FA fc PA pc At mt at1 := by
  subst hus
  have l2 := hW.tl2
  have lz := hW.tlz
  have hF : (Value.slice FA t.fs.length fc).ownBlock ≠ some cb := fun e => by
    have := (hs.f.own cb e).1
    rcases hsep with h | ⟨_, h, _⟩
    · omega
    · have := h cb e; omega
  have hP : (Value.slice PA t.ps.length pc).ownBlock ≠ some cb := fun e => by
    have := (hs.p.own cb e).1
    rcases hsep with h | ⟨_, _, h⟩
    · omega
    · have := h cb e; omega
  have hS : ∀ b, SgS lo top (.slice FA t.fs.length fc) (.slice PA t.ps.length pc) b → b ≠ cb := fun b hb e => by
    have h1 := hb.1
    have h2 := hb.2.1
    rcases hsep with h | ⟨h, _⟩ <;> omega
  have hk : ∀ b, b ≠ cb → Z.heap[b]? = X.heap[b]? := fun b hb => by rw [hZ]; exact heap_setCells _ _ _ _ b hb
  have hz : X.heap.size ≤ Z.heap.size := by rw [hZ, size_setCells_w]; exact Nat.le_refl _
  refine ⟨hW.bel.trans (hb.mono hW.bel.size), by omega, by omega, hF, hP, by rw [hZ]; exact set_there ht, ?_, there_later hW.res hb, (hW.loc.later hb lz).wide (by omega)⟩
  exact ⟨hs.f.kept (fun b h => hk b (h.elim (hS b) fun e e2 => hF (e2 ▸ e))) hz, hs.p.kept (fun b h => hk b (h.elim (hS b) fun e e2 => hP (e2 ▸ e))) hz, hs.ne, Dat.In.keep id (fun p hp => kept_of (S := SgS lo top _ _) (fun b h => hk b (hS b h)) p hp) (fun _ h => h) _ _ hs.r, hs.lt, Nat.le_trans hs.le hz⟩
theorem nms_at {f : Nat} {args : Array Value} {w : World} {l : List ByteArray} {k : Nat} (hk : l.length = k) (h : Calls Tryd.prog f args w (NmsPost w l)) : Calls Tryd.prog f args w (fun e w' => ∃ A c, e = .returned (.slice A k c) ∧ k ≤ c ∧ Sl w' A k l ∧ Below w.heap.size w w') := by
  subst hk; exact h
theorem sg_one {s t : ByteArray} {A B C : Option Addr} {i j k l m n : Nat} {x y : Int} : ∀ u ∈ ([.string s, .slice A i j, .slice B k l, .string t, .slice C m n, .int .i64 x, .int .i64 y] : List Value), u.oneCell' = true := by
  intro u hu
  simp only [List.mem_cons, List.not_mem_nil, or_false] at hu
  rcases hu with rfl | rfl | rfl | rfl | rfl | rfl | rfl <;> rfl
theorem results_canon {w : World} {b : Nat} {us : List Value} (tmps : Array Value) (ht : tmps[2]?.getD undef = .pointer (some ⟨b, 0, none⟩)) (hc : Boxd w b us) (hl : us.length = 7) : (results Tryd.f37 tmps).run Tryd.prog w = .ok (.agg us.toArray) w := by
  have h := run_loadVar_at w ⟨b, 0, none⟩ 50 us _ hc.at0 Tryd.underlying50 rfl (by rw [hl]; exact flatSg.size)
  have h2 : (asAddr (.pointer (some ⟨b, 0, none⟩))).run Tryd.prog w = .ok ⟨b, 0, none⟩ w := rfl
  simp [results, Tryd.results37, ht, h, h2, Sem.run_bind, Result.andThen]
set_option maxRecDepth 100000 in
set_option maxHeartbeats 16000000 in
theorem bcanon_any (s : Sg) (us : List Value) (w : World) (hw : s.wt ≤ 1000) (hE : PowVar w) (h : s.dat.H w us) : Calls Tryd.prog 37 #[.agg us.toArray] w (SubW w s.canon) := by
  obtain ⟨F, nf, cf, Q, np, cp, Ar, mr, ar, rfl, hnm, hf, hp, _⟩ := sg_open h
  have hfl := hf.len
  have hpl := hp.len
  rw [List.length_map] at hfl hpl
  have hlf := Sg.len_f s
  have hlp := Sg.len_p s
  have hM := Cl.new w #[.string s.name, .slice F nf cf, .slice Q np cp, .string s.res.name, .slice Ar mr ar, .int .i64 s.res.off, .int .i64 s.off] #[.string ⟨#[]⟩, .slice none 0 0, .slice none 0 0, .string ⟨#[]⟩, .slice none 0 0, .int .i64 0, .int .i64 0] 50
  obtain ⟨W0, hW0⟩ : ∃ W0, (w.alloc (.cells #[.string s.name, .slice F nf cf, .slice Q np cp, .string s.res.name, .slice Ar mr ar, .int .i64 s.res.off, .int .i64 s.off] 50)).alloc (.cells #[.string ⟨#[]⟩, .slice none 0 0, .slice none 0 0, .string ⟨#[]⟩, .slice none 0 0, .int .i64 0, .int .i64 0] 50) = W0 := ⟨_, rfl⟩
  rw [hW0] at hM
  have hz0 : W0.heap.size = w.heap.size + 2 := by rw [← hW0]; simp
  obtain ⟨W1, hW1⟩ : ∃ W1, W0.alloc (.cells (madeCells #[.string ⟨#[]⟩, .slice none 0 0, .int .i64 0] (nf * 3)) 25) = W1 := ⟨_, rfl⟩
  have hb01 : Below W0.heap.size W0 W1 := hW1 ▸ (Below.refl _ _).alloc (Nat.le_refl _) _
  have hM1 := hM.later hb01
  have hloc : LocRow W1 (some ⟨w.heap.size + 2, 0, none⟩) (w.heap.size + 3) nf 0 := by
    have := locRow_new W0 nf
    rw [hW1, hz0] at this
    exact this
  have hmk : (Instr.makeSlice 23 (.int .i64 (nf : Int)) (.int .i64 (nf : Int))).run Tryd.prog W0 = .ok (.slice (some ⟨w.heap.size + 2, 0, none⟩) nf nf) W1 := by
    have h1 := run_make_ty nf (by omega) W0
    rw [hz0, hW1] at h1
    exact h1
  have HMK := Lib.hid hmk
  have HB1 := Lib.hid (show Below w.heap.size w W1 from hM1.bel)
  have HX1 := Lib.hid (show Boxd W1 w.heap.size [.string s.name, .slice F nf cf, .slice Q np cp, .string s.res.name, .slice Ar mr ar, .int .i64 s.res.off, .int .i64 s.off] from hM1.box.box)
  have HR1 := Lib.hid (show W1.there (w.heap.size + 1) 0 7 from hM1.res)
  have HL1 := Lib.hid hloc
  have HZ1 := Lib.hid (show w.heap.size + 3 ≤ W1.heap.size by have := hb01.size; rw [← hW1]; simp; omega)
  have HW0 := Lib.hid hW0
  have HE := Lib.hid hE
  have HIN := Lib.hid h
  have HFR := Lib.hid hf
  have HFL := Lib.hid hfl
  have HPL := Lib.hid hpl
  have HWT := Lib.hid hw
  have hni : (nf : Int) ≤ 1000 := by omega
  have hni0 : (0 : Int) ≤ nf := by omega
  have hnpi : (np : Int) ≤ 1000 := by omega
  have x1 := hM.box.box 1 _ rfl
  clear hM hW0 hz0 hW1 hb01 hM1 hloc hmk hE h hf hp hfl hpl hlf hlp hw hnm
  go_enter Tryd.func37, Tryd.ntmps37
  go_upto_region 1 with fail
  rw [HW0.out]
  have hmk := HMK.out
  go_upto_region 2 with fail
  clear hmk HMK HW0 x1
  go_wp2_with fail
  go_loopw [15] (fun i wr => ∃ k : Nat, k ≤ nf ∧ i = .int .i64 k ∧ Below w.heap.size w wr ∧ Boxd wr w.heap.size [.string s.name, .slice F nf cf, .slice Q np cp, .string s.res.name, .slice Ar mr ar, .int .i64 s.res.off, .int .i64 s.off] ∧ wr.there (w.heap.size + 1) 0 7 ∧ LocRow wr (some ⟨w.heap.size + 2, 0, none⟩) (w.heap.size + 3) nf k ∧ w.heap.size + 3 ≤ wr.heap.size) (fun i _ => nf - (intOf i).toNat)
  case atStart => exact ⟨0, by omega, rfl, HB1.out, HX1.out, HR1.out, HL1.out, HZ1.out⟩
  case round =>
    obtain ⟨k, hk, rfl, hbel, hbx, hrs, hloc, hzz⟩ := hrel
    have y1 : (0 : Int) ≤ k := by omega
    have HBL := Lib.hid hbel
    have HBX := Lib.hid hbx
    have HRS := Lib.hid hrs
    have HLO := Lib.hid hloc
    have HZZ := Lib.hid hzz
    by_cases hlt : k < nf
    · have y0 : (k : Int) < nf := by omega
      have C := Lib.hid (show Calls Tryd.prog 63 #[.int .i64 (k : Int)] wr _ from local_any (k : Int) (by omega) (by omega) wr (HE.out.later hbel))
      clear hbel hbx hrs hloc hzz
      go_wp2_with fail
      refine C.out.mono ?_
      rintro e w3 ⟨rfl, hb⟩
      have hlo3 := HLO.out.later hb HZZ.out
      obtain ⟨g, e, hg, c0, c1, c2, cf0⟩ := hlo3.at_ k hlt
      obtain rfl : w.heap.size + 2 = g := by injection e with e; injection e
      have hset := hlo3.set hlt
      have HSET := Lib.hid hset
      have HB3 := Lib.hid hb
      clear hb hlo3 e hg c1 c2 hset C
      rw [show (⟨(Nm.localL (k : Int)).toArray⟩ : ByteArray) = loc k from rfl]
      go_wp2_with fail
      go_roundw
      case rel =>
        have hz := HZZ.out
        have hz3 := HB3.out.size
        have hb4 : Below (w.heap.size + 2) wr (w3.setCell ⟨w.heap.size + 2, k * 3, none⟩ (.string (loc k))) := (HB3.out.mono (show w.heap.size + 2 ≤ wr.heap.size by omega)).setCell (p := ⟨w.heap.size + 2, k * 3, none⟩) (Nat.le_refl _) _
        exact ⟨k + 1, by omega, by go_num, HBL.out.trans (hb4.mono (by omega)), HBX.out.laterB hb4 (by omega), fun j hj => by
          obtain ⟨h1, h2⟩ := HRS.out j hj
          exact ⟨by rw [hb4.cell (p := ⟨w.heap.size + 1, 0 + j, none⟩) (by show w.heap.size + 1 < _; omega)]; exact h1, (hb4.frozen (p := ⟨w.heap.size + 1, 0 + j, none⟩) (by show w.heap.size + 1 < _; omega)).trans h2⟩, HSET.out, by have := hb4.size; omega⟩
      case measure => simp [intOf]; omega
    · have y0 : (nf : Int) ≤ k := by omega
      obtain rfl : k = nf := by omega
      clear hbel hbx hrs hloc hzz
      go_upto_region 7 with fail
      obtain ⟨t, ht⟩ : ∃ t, t = s.subst s.names (locs k) := ⟨_, rfl⟩
      have ht1 : t.fs.length = k := by rw [ht]; simp [Sg.subst]; exact HFL.out
      have ht2 : t.ps.length = np := by rw [ht]; simp [Sg.subst]; exact HPL.out
      have HT := Lib.hid ht
      have HT1 := Lib.hid ht1
      have HT2 := Lib.hid ht2
      have HXD := Lib.hid (show CanAt w wr.drew (w.heap.size + 3) k (some ⟨w.heap.size + 2, 0, none⟩) from ⟨HBL.out.drew, by omega, HZZ.out, HRS.out, HLO.out.later (Below.refl _ _).drew HZZ.out⟩)
      have HBD := Lib.hid (show Boxd wr.drew w.heap.size [.string s.name, .slice F k cf, .slice Q np cp, .string s.res.name, .slice Ar mr ar, .int .i64 s.res.off, .int .i64 s.off] from HBX.out)
      have SS : wr.drew.cell? ⟨w.heap.size, 1, none⟩ = some (.slice F k cf) ∧ CellsAt wr.drew ⟨w.heap.size, 0, none⟩ [.string s.name, .slice F k cf, .slice Q np cp, .string s.res.name, .slice Ar mr ar, .int .i64 s.res.off, .int .i64 s.off] := ⟨HBX.out 1 _ rfl, boxd_at0B HBX.out⟩
      clear ht ht1 ht2
      go_cut [5] (fun s5 wx => ∃ cb lo top FA fc PA pc At mt at1, s5 = .pointer (some ⟨cb, 0, none⟩) ∧ CanBox w wx t cb lo top k (some ⟨w.heap.size + 2, 0, none⟩) FA fc PA pc At mt at1)
      case first =>
        have CN := Lib.hid (fun (X : World) (hX : Below wr.drew.heap.size wr.drew X) => nms_at (k := k) (by rw [List.length_map]; exact HFL.out) (bnames_any s.fs F k cf X (by omega) (RowH.later HFR.out (HXD.out.bel.trans (hX.mono HXD.out.bel.size)))))
        have CS := Lib.hid (fun (X : World) (NA : Option Addr) (nc : Nat) (hX : Below wr.drew.heap.size wr.drew X) (hc : k ≤ nc) (hN : Sl X NA k (s.fs.map Fo.name)) => (bsubst_any s [.string s.name, .slice F k cf, .slice Q np cp, .string s.res.name, .slice Ar mr ar, .int .i64 s.res.off, .int .i64 s.off] s.names (locs k) NA (some ⟨w.heap.size + 2, 0, none⟩) k k nc k X HWT.out (locs_small (by omega)) (by omega) ⟨hc, names_small (by have := HWT.out; omega)⟩ (Dat.H.later HIN.out (HXD.out.bel.trans (hX.mono HXD.out.bel.size))) hN (((HXD.out.later hX).loc).here (by omega) (HXD.out.later hX).tlz)).mono fun e w' h => (show SubW X t e w' by rw [HT.out]; exact h.w))
        have HSST := Lib.hid (fun (X : World) (hX : Below wr.drew.heap.size wr.drew X) => (show X.cell? ⟨w.heap.size, 1, none⟩ = some (.slice F k cf) ∧ CellsAt X ⟨w.heap.size, 0, none⟩ [.string s.name, .slice F k cf, .slice Q np cp, .string s.res.name, .slice Ar mr ar, .int .i64 s.res.off, .int .i64 s.off] from ⟨(HBD.out.later hX) 1 _ rfl, boxd_at0B (HBD.out.later hX)⟩))
        refine wp_region_held_drew (S := fun V => V.cell? ⟨w.heap.size, 1, none⟩ = some (.slice F k cf) ∧ CellsAt V ⟨w.heap.size, 0, none⟩ [.string s.name, .slice F k cf, .slice Q np cp, .string s.res.name, .slice Ar mr ar, .int .i64 s.res.off, .int .i64 s.off]) (by kernel_rfl) SS (fun hS => ?_)
        clear SS
        generalize wr.drew = Wd at *
        have HBWd := Lib.hid (Below.refl Wd.heap.size Wd)
        refine wpAnyH_take (i := 0) (v := .agg ([.string s.name, .slice F k cf, .slice Q np cp, .string s.res.name, .slice Ar mr ar, .int .i64 s.res.off, .int .i64 s.off] : List Value).toArray) rfl (by kernel_rfl) (by kernel_rfl) (by kernel_rfl) (fun _ _ _ h => h) (Or.inl ⟨by rfl, fun V hV => loadYieldB flatSg rfl hV.2 rfl⟩) (by assumption) ?_
        try simp only [Act.put, List.getElem_toArray, List.getElem_cons_zero, List.setIfInBounds_toArray, List.set_cons_zero, List.set_cons_succ]
        refine wpAnyH_take (i := 1) (v := ?_) rfl (by kernel_rfl) (by kernel_rfl) (by kernel_rfl) (fun _ _ _ h => h) (Or.inl ⟨by rfl, ?_⟩) (by assumption) ?_
        rotate_left
        · (intro V hV; go_simp; try with_reducible rfl)
        try simp only [Act.put, List.getElem_toArray, List.getElem_cons_zero, List.getElem_cons_succ, List.setIfInBounds_toArray, List.set_cons_zero, List.set_cons_succ]
        refine wpAnyH_take (i := 2) (v := ?_) rfl (by kernel_rfl) (by kernel_rfl) (by kernel_rfl) (fun _ _ _ h => h) (Or.inl ⟨by rfl, ?_⟩) (by assumption) ?_
        rotate_left
        · (intro V hV; obtain ⟨k0, _⟩ := hV; go_simp; try with_reducible rfl)
        try simp only [Act.put, List.getElem_toArray, List.getElem_cons_zero, List.getElem_cons_succ, List.setIfInBounds_toArray, List.set_cons_zero, List.set_cons_succ]
        refine wpAnyH_take (i := 4) (v := ?_) rfl (by kernel_rfl) (by kernel_rfl) (by kernel_rfl) (fun _ _ _ h => h) (Or.inl ⟨by rfl, ?_⟩) (by assumption) ?_
        rotate_left
        · (intro V hV; go_simp; try with_reducible rfl)
        try simp only [Act.put, List.getElem_toArray, List.getElem_cons_zero, List.getElem_cons_succ, List.setIfInBounds_toArray, List.set_cons_zero, List.set_cons_succ]
        refine wpAnyH_ready (rs := [3, 6]) (by kernel_rfl) (by simp) ?_
        refine AllReadyH.cons rfl (fun K hK => ?_) (AllReadyH.cons rfl (fun K hK => ?_) (AllReadyH.nil))
        · skip
          go_simp
          refine (CN.out Wd HBWd.out).mono ?_
          rintro e XN ⟨NA, nc, rfl, hnc, hsl, hbn⟩
          have HNC := Lib.hid hnc
          have HSLXN := Lib.hid hsl
          have HBq := Lib.hid hbn
          clear hnc hsl hbn
          have HBXN := Lib.hid (HBWd.out.trans (HBq.out.mono HBWd.out.size))
          have HZXN := Lib.hid HBq.out.size
          have SS := HSST.out XN HBXN.out
          refine hK.out _ _ SS (fun hS => ?_)
          clear hK K SS
          try simp only [Act.put, List.getElem_toArray, List.getElem_cons_zero, List.getElem_cons_succ, List.setIfInBounds_toArray, List.set_cons_zero, List.set_cons_succ]
          refine wpAnyH_ready (rs := [5, 6]) (by kernel_rfl) (by simp) ?_
          refine AllReadyH.cons rfl (fun K hK => ?_) (AllReadyH.cons rfl (fun K hK => ?_) (AllReadyH.nil))
          · skip
            go_simp
            refine (CS.out XN NA nc HBXN.out HNC.out HSLXN.out).mono ?_
            rintro e XNS ⟨FA, fc, PA, pc, At, mt, at1, rfl, hsg, hbn⟩
            have HSGXNS := Lib.hid hsg
            have HBq := Lib.hid hbn
            clear hsg hbn
            have HBXNS := Lib.hid (HBXN.out.trans (HBq.out.mono HBXN.out.size))
            have HSLXNS := Lib.hid (HSLXN.out.later HBq.out)
            have HZXNS := Lib.hid HBq.out.size
            have SS := HSST.out XNS HBXNS.out
            refine hK.out _ _ SS (fun hS => ?_)
            clear hK K SS
            try simp only [Act.put, List.getElem_toArray, List.getElem_cons_zero, List.getElem_cons_succ, List.setIfInBounds_toArray, List.set_cons_zero, List.set_cons_succ]
            refine wpAnyH_ready (rs := [6]) (by kernel_rfl) (by simp) ?_
            refine AllReadyH.cons rfl (fun K hK => ?_) (AllReadyH.nil)
            · skip
              go_simp
              obtain ⟨XNSA, hXNSA⟩ : ∃ X, World.alloc XNS (.cells #[.string ⟨#[]⟩, .slice none 0 0, .slice none 0 0, .string ⟨#[]⟩, .slice none 0 0, .int .i64 0, .int .i64 0] 50) = X := ⟨_, rfl⟩
              have HBq := Lib.hid (show Below XNS.heap.size XNS XNSA from hXNSA ▸ (Below.refl _ _).alloc (Nat.le_refl _) _)
              have HCTXNSA := Lib.hid (show XNSA.there XNS.heap.size 0 7 from hXNSA ▸ there_new XNS #[.string ⟨#[]⟩, .slice none 0 0, .slice none 0 0, .string ⟨#[]⟩, .slice none 0 0, .int .i64 0, .int .i64 0] 50)
              have HCZ := Lib.hid (show XNSA.heap.size = XNS.heap.size + 1 by rw [← hXNSA]; simp)
              rw [hXNSA]
              clear hXNSA
              have HBXNSA := Lib.hid (HBXNS.out.trans (HBq.out.mono HBXNS.out.size))
              have HSLXNSA := Lib.hid (HSLXNS.out.later HBq.out)
              have HSGXNSA := Lib.hid (HSGXNS.out.later HBq.out)
              have HZXNSA := Lib.hid HBq.out.size
              have SS := HSST.out XNSA HBXNSA.out
              refine hK.out _ _ SS (fun hS => ?_)
              clear hK K SS
              try simp only [Act.put, List.getElem_toArray, List.getElem_cons_zero, List.getElem_cons_succ, List.setIfInBounds_toArray, List.set_cons_zero, List.set_cons_succ]
              refine wpAnyH_ready (rs := [7]) (by kernel_rfl) (by simp) ?_
              refine AllReadyH.cons rfl (fun K hK => ?_) (AllReadyH.nil)
              refine ready_storeB flatSg rfl (.tmp 5) (.tmp 30) rfl (b := XNS.heap.size) (off := 0) (us := (sg7 t FA fc PA pc At mt at1)) rfl rfl HCTXNSA.out sg_one rfl ?_
              have HZB := Lib.hid (below_cells (B := Wd.heap.size) (g := XNS.heap.size) HBXNS.out.size (sg7 t FA fc PA pc At mt at1) 0 XNSA)
              have SS := HSST.out _ (HBXNSA.out.trans HZB.out)
              refine hK.out _ _ SS (fun hS => ?_)
              clear hK K SS
              try simp only [Act.put]
              refine wpAnyH_done (by kernel_rfl) ?_ _
              clear hS
              have HCAN := Lib.hid (can_box (Z := XNSA.setCells XNS.heap.size 0 (sg7 t FA fc PA pc At mt at1)) (cb := XNS.heap.size) (lo := XN.heap.size) (top := XNS.heap.size) HXD.out (HBXNSA.out.trans HZB.out) HBXNS.out.size HBXN.out.size HSGXNSA.out rfl (.inr ⟨Nat.le_refl _, fun b hb => (HSGXNS.out.f.own b hb).2, fun b hb => (HSGXNS.out.p.own b hb).2⟩) HCTXNSA.out rfl)
              go_wp2_with fail
              go_meet
              exact ⟨_, _, _, _, _, _, _, _, _, _, rfl, HCAN.out⟩
          · skip
            go_simp
            obtain ⟨XNA, hXNA⟩ : ∃ X, World.alloc XN (.cells #[.string ⟨#[]⟩, .slice none 0 0, .slice none 0 0, .string ⟨#[]⟩, .slice none 0 0, .int .i64 0, .int .i64 0] 50) = X := ⟨_, rfl⟩
            have HBq := Lib.hid (show Below XN.heap.size XN XNA from hXNA ▸ (Below.refl _ _).alloc (Nat.le_refl _) _)
            have HCTXNA := Lib.hid (show XNA.there XN.heap.size 0 7 from hXNA ▸ there_new XN #[.string ⟨#[]⟩, .slice none 0 0, .slice none 0 0, .string ⟨#[]⟩, .slice none 0 0, .int .i64 0, .int .i64 0] 50)
            have HCZ := Lib.hid (show XNA.heap.size = XN.heap.size + 1 by rw [← hXNA]; simp)
            rw [hXNA]
            clear hXNA
            have HBXNA := Lib.hid (HBXN.out.trans (HBq.out.mono HBXN.out.size))
            have HSLXNA := Lib.hid (HSLXN.out.later HBq.out)
            have HZXNA := Lib.hid HBq.out.size
            have SS := HSST.out XNA HBXNA.out
            refine hK.out _ _ SS (fun hS => ?_)
            clear hK K SS
            try simp only [Act.put, List.getElem_toArray, List.getElem_cons_zero, List.getElem_cons_succ, List.setIfInBounds_toArray, List.set_cons_zero, List.set_cons_succ]
            refine wpAnyH_ready (rs := [5]) (by kernel_rfl) (by simp) ?_
            refine AllReadyH.cons rfl (fun K hK => ?_) (AllReadyH.nil)
            · skip
              go_simp
              refine (CS.out XNA NA nc HBXNA.out HNC.out HSLXNA.out).mono ?_
              rintro e XNAS ⟨FA, fc, PA, pc, At, mt, at1, rfl, hsg, hbn⟩
              have HSGXNAS := Lib.hid hsg
              have HBq := Lib.hid hbn
              clear hsg hbn
              have HBXNAS := Lib.hid (HBXNA.out.trans (HBq.out.mono HBXNA.out.size))
              have HSLXNAS := Lib.hid (HSLXNA.out.later HBq.out)
              have HCTXNAS := Lib.hid (there_later HCTXNA.out HBq.out)
              have HZXNAS := Lib.hid HBq.out.size
              have SS := HSST.out XNAS HBXNAS.out
              refine hK.out _ _ SS (fun hS => ?_)
              clear hK K SS
              try simp only [Act.put, List.getElem_toArray, List.getElem_cons_zero, List.getElem_cons_succ, List.setIfInBounds_toArray, List.set_cons_zero, List.set_cons_succ]
              refine wpAnyH_ready (rs := [7]) (by kernel_rfl) (by simp) ?_
              refine AllReadyH.cons rfl (fun K hK => ?_) (AllReadyH.nil)
              refine ready_storeB flatSg rfl (.tmp 5) (.tmp 30) rfl (b := XN.heap.size) (off := 0) (us := (sg7 t FA fc PA pc At mt at1)) rfl rfl HCTXNAS.out sg_one rfl ?_
              have HZB := Lib.hid (below_cells (B := Wd.heap.size) (g := XN.heap.size) HBXN.out.size (sg7 t FA fc PA pc At mt at1) 0 XNAS)
              have SS := HSST.out _ (HBXNAS.out.trans HZB.out)
              refine hK.out _ _ SS (fun hS => ?_)
              clear hK K SS
              try simp only [Act.put]
              refine wpAnyH_done (by kernel_rfl) ?_ _
              clear hS
              have HCAN := Lib.hid (can_box (Z := XNAS.setCells XN.heap.size 0 (sg7 t FA fc PA pc At mt at1)) (cb := XN.heap.size) (lo := XNA.heap.size) (top := XNAS.heap.size) HXD.out (HBXNAS.out.trans HZB.out) HBXN.out.size HBXNA.out.size HSGXNAS.out rfl (.inl (by have := HCZ.out; omega)) HCTXNAS.out rfl)
              go_wp2_with fail
              go_meet
              exact ⟨_, _, _, _, _, _, _, _, _, _, rfl, HCAN.out⟩
        · skip
          go_simp
          obtain ⟨XA, hXA⟩ : ∃ X, World.alloc Wd (.cells #[.string ⟨#[]⟩, .slice none 0 0, .slice none 0 0, .string ⟨#[]⟩, .slice none 0 0, .int .i64 0, .int .i64 0] 50) = X := ⟨_, rfl⟩
          have HBq := Lib.hid (show Below Wd.heap.size Wd XA from hXA ▸ (Below.refl _ _).alloc (Nat.le_refl _) _)
          have HCTXA := Lib.hid (show XA.there Wd.heap.size 0 7 from hXA ▸ there_new Wd #[.string ⟨#[]⟩, .slice none 0 0, .slice none 0 0, .string ⟨#[]⟩, .slice none 0 0, .int .i64 0, .int .i64 0] 50)
          have HCZ := Lib.hid (show XA.heap.size = Wd.heap.size + 1 by rw [← hXA]; simp)
          rw [hXA]
          clear hXA
          have HBXA := Lib.hid (HBWd.out.trans (HBq.out.mono HBWd.out.size))
          have HZXA := Lib.hid HBq.out.size
          have SS := HSST.out XA HBXA.out
          refine hK.out _ _ SS (fun hS => ?_)
          clear hK K SS
          try simp only [Act.put, List.getElem_toArray, List.getElem_cons_zero, List.getElem_cons_succ, List.setIfInBounds_toArray, List.set_cons_zero, List.set_cons_succ]
          refine wpAnyH_ready (rs := [3]) (by kernel_rfl) (by simp) ?_
          refine AllReadyH.cons rfl (fun K hK => ?_) (AllReadyH.nil)
          · skip
            go_simp
            refine (CN.out XA HBXA.out).mono ?_
            rintro e XAN ⟨NA, nc, rfl, hnc, hsl, hbn⟩
            have HNC := Lib.hid hnc
            have HSLXAN := Lib.hid hsl
            have HBq := Lib.hid hbn
            clear hnc hsl hbn
            have HBXAN := Lib.hid (HBXA.out.trans (HBq.out.mono HBXA.out.size))
            have HCTXAN := Lib.hid (there_later HCTXA.out HBq.out)
            have HZXAN := Lib.hid HBq.out.size
            have SS := HSST.out XAN HBXAN.out
            refine hK.out _ _ SS (fun hS => ?_)
            clear hK K SS
            try simp only [Act.put, List.getElem_toArray, List.getElem_cons_zero, List.getElem_cons_succ, List.setIfInBounds_toArray, List.set_cons_zero, List.set_cons_succ]
            refine wpAnyH_ready (rs := [5]) (by kernel_rfl) (by simp) ?_
            refine AllReadyH.cons rfl (fun K hK => ?_) (AllReadyH.nil)
            · skip
              go_simp
              refine (CS.out XAN NA nc HBXAN.out HNC.out HSLXAN.out).mono ?_
              rintro e XANS ⟨FA, fc, PA, pc, At, mt, at1, rfl, hsg, hbn⟩
              have HSGXANS := Lib.hid hsg
              have HBq := Lib.hid hbn
              clear hsg hbn
              have HBXANS := Lib.hid (HBXAN.out.trans (HBq.out.mono HBXAN.out.size))
              have HSLXANS := Lib.hid (HSLXAN.out.later HBq.out)
              have HCTXANS := Lib.hid (there_later HCTXAN.out HBq.out)
              have HZXANS := Lib.hid HBq.out.size
              have SS := HSST.out XANS HBXANS.out
              refine hK.out _ _ SS (fun hS => ?_)
              clear hK K SS
              try simp only [Act.put, List.getElem_toArray, List.getElem_cons_zero, List.getElem_cons_succ, List.setIfInBounds_toArray, List.set_cons_zero, List.set_cons_succ]
              refine wpAnyH_ready (rs := [7]) (by kernel_rfl) (by simp) ?_
              refine AllReadyH.cons rfl (fun K hK => ?_) (AllReadyH.nil)
              refine ready_storeB flatSg rfl (.tmp 5) (.tmp 30) rfl (b := Wd.heap.size) (off := 0) (us := (sg7 t FA fc PA pc At mt at1)) rfl rfl HCTXANS.out sg_one rfl ?_
              have HZB := Lib.hid (below_cells (B := Wd.heap.size) (g := Wd.heap.size) HBWd.out.size (sg7 t FA fc PA pc At mt at1) 0 XANS)
              have SS := HSST.out _ (HBXANS.out.trans HZB.out)
              refine hK.out _ _ SS (fun hS => ?_)
              clear hK K SS
              try simp only [Act.put]
              refine wpAnyH_done (by kernel_rfl) ?_ _
              clear hS
              have HCAN := Lib.hid (can_box (Z := XANS.setCells Wd.heap.size 0 (sg7 t FA fc PA pc At mt at1)) (cb := Wd.heap.size) (lo := XAN.heap.size) (top := XANS.heap.size) HXD.out (HBXANS.out.trans HZB.out) HBWd.out.size HBXAN.out.size HSGXANS.out rfl (.inl (by have := HZXAN.out; have := HCZ.out; omega)) HCTXANS.out rfl)
              go_wp2_with fail
              go_meet
              exact ⟨_, _, _, _, _, _, _, _, _, _, rfl, HCAN.out⟩
      case rest =>
        obtain ⟨cb, lo, top, FA, fc, PA, pc, At, mt, at1, rfl, hcan⟩ := hcut
        have HC := Lib.hid hcan
        have hk1 := HT1.out
        have hk2 := HT2.out
        have hzc := hcan.cbz
        have HCZ := Lib.hid hzc
        clear hcan SS hzc
        go_wp2_with fail
        go_loopw [33] (fun i Y => ∃ j : Nat, j ≤ k ∧ i = .int .i64 j ∧ wc.grownBy Y (Value.slice FA t.fs.length fc).ownBlock ∧ RenV loc (SgS lo top (.slice FA t.fs.length fc) (.slice PA t.ps.length pc)) lo Y t.fs.length j (.slice FA t.fs.length fc) t.fs) (fun i _ => k - (intOf i).toNat)
        case atStart => exact ⟨0, by omega, rfl, gb_reflB _ _, RenV.start HC.out.sg.f⟩
        case round =>
          obtain ⟨j, hj, rfl, hgb, hren⟩ := hrel
          have v1 : (0 : Int) ≤ j := by omega
          have HGB := Lib.hid hgb
          have HRE := Lib.hid hren
          by_cases hlj : j < k
          · have v0 : (j : Int) < k := by omega
            have v3 : (j : Int) < t.fs.length := by omega
            obtain ⟨g, c', hfv, hlg, hrr⟩ : ∃ g c', Value.slice FA t.fs.length fc = .slice (some ⟨g, 0, none⟩) t.fs.length c' ∧ lo ≤ g ∧ RenRow loc (SgS lo top (.slice FA t.fs.length fc) (.slice PA t.ps.length pc)) wr t.fs.length j g t.fs := by
              rcases hren with ⟨h1, _⟩ | ⟨g, c', h1, h2, h3, h4, h5⟩
              · omega
              · exact ⟨g, c', h1, h3, h5⟩
            simp only [Value.slice.injEq, true_and] at hfv
            obtain ⟨rfl, rfl⟩ := hfv
            obtain ⟨x, hx⟩ : ∃ x, t.fs[j]? = some x := ⟨_, List.getElem?_eq_getElem (by omega)⟩
            have hkg := fun b (h1 : b < wc.heap.size) (h2 : b ≠ g) => hgb.block b h1 (fun e => h2 (Option.some.inj e))
            have hcbg : cb ≠ g := fun e => HC.out.cbF (by rw [e]; rfl)
            have hbx : Boxd wr cb (sg7 t (some ⟨g, 0, none⟩) fc PA pc At mt at1) := fun i u hu => ((kept_of (S := (· = cb)) (fun b hb => by subst hb; exact hkg b HCZ.out hcbg)) ⟨cb, i, none⟩ rfl).1.trans (HC.out.box i u hu)
            have hll := HC.out.loc.kept (V' := wr) (fun b hb => hkg b (by have := HC.out.sg.lt; have := HC.out.sg.le; omega) (by omega))
            obtain ⟨gl, e, hgl, c0, c1, c2, _⟩ := hll.at_ j hlj
            obtain rfl : w.heap.size + 2 = gl := by injection e with e; injection e
            rw [if_pos hlj] at c0
            have hcs : CellsAt wr ⟨w.heap.size + 2, j * 3, none⟩ [.string (loc j), .slice none 0 0, .int .i64 0] := fun i u hu => by
              rw [Addr.add_mid]
              match i, hu with
              | 0, hu => obtain rfl := Option.some.inj hu; exact c0
              | 1, hu => obtain rfl := Option.some.inj hu; exact c1
              | 2, hu => obtain rfl := Option.some.inj hu; exact c2
              | i + 3, hu => simp at hu
            obtain ⟨W9, hP⟩ := putZ #[.string ⟨#[]⟩, .slice none 0 0, .int .i64 0] 25 wr (us := [.string (loc j), .slice none 0 0, .int .i64 0]) rfl
            have hzw : wc.heap.size ≤ wr.heap.size := hgb.size
            have hgz : g < wr.heap.size := by obtain ⟨_, _, _, _, _, h⟩ := hrr; exact h.lt
            have hrr9 : RenRow loc (SgS lo top (.slice (some ⟨g, 0, none⟩) t.fs.length fc) (.slice PA t.ps.length pc)) W9 t.fs.length j g t.fs := by
              obtain ⟨d1, d2, a1, a2, a3, a4⟩ := hrr
              have hS := kept_of (V := wr) (V' := W9) (S := SgS lo top (.slice (some ⟨g, 0, none⟩) t.fs.length fc) (.slice PA t.ps.length pc)) (fun b hb => hP.bel.block b (by have := hb.2.1; have := HC.out.sg.le; omega))
              exact ⟨d1, d2, a1, Dat.Ins.keep id hS (fun _ h => h) _ _ a2, Dat.Ins.keep id hS (fun _ h => h) _ _ a3, a4.kept (hP.bel.block g hgz) hP.bel.size⟩
            obtain ⟨d0, d1, hnext⟩ := hrr9.step hx rfl (fun b hb e => hb.2.2.1 (by rw [e]; rfl)) (loc_le j (by omega))
            have f1 := (hbx.later hP.bel) 1 _ rfl
            have HPP := Lib.hid hP
            have HCS := Lib.hid hcs
            have HNX := Lib.hid hnext
            have x0 := hP.box 0 _ rfl
            have HG2 := Lib.hid (show wc.grownBy (W9.setCell ⟨g, j * 5, none⟩ (.string (loc j))) (some g) from gb_transB hgb (gb_transB (gb_ofB _ hP.bel) (gb_setB _ _ _ _)))
            clear hgb hren hrr hx hkg hcbg hbx hll e hgl c0 c1 c2 hcs hP hzw hgz hrr9 hnext
            go_wp2_with (first
              | (refine loadOp flatTy3 36 37 rfl HCS.out rfl ?_)
              | (refine storeOp flatTy3 7 37 (b := wr.heap.size) (o := 0) (us := [.string (loc j), .slice none 0 0, .int .i64 0]) rfl rfl HPP.out.there three_one rfl ?_; rw [HPP.out.eq]))
            go_roundw
            case rel => exact ⟨j + 1, by omega, by go_num, HG2.out, .inr ⟨g, fc, rfl, by
              rcases HRE.out with ⟨h1, _⟩ | ⟨g2, c2, h1, h2, _⟩
              · omega
              · simp only [Value.slice.injEq] at h1; omega, hlg, rfl, HNX.out⟩⟩
            case measure => simp [intOf]; omega
          · have v0 : (k : Int) ≤ j := by omega
            obtain rfl : j = k := by omega
            have HC2 := Lib.hid (HC.out.grow (t' := ⟨t.name, ren loc t.fs, t.ps, t.res, t.off⟩) hgb (.inl rfl) (ren_len _ _) rfl rfl rfl rfl (HC.out.sg.fs hgb (by rw [hk1] at hren ⊢; exact hren)))
            clear hgb hren
            have f2 := HC2.out.box 2 _ rfl
            have hzc := HC2.out.cbz
            have HCZ2 := Lib.hid hzc
            clear hzc
            go_wp2_with fail
            generalize wr = Y at *
            go_loopw [49] (fun i Z => ∃ m : Nat, m ≤ np ∧ i = .int .i64 m ∧ Y.grownBy Z (Value.slice PA t.ps.length pc).ownBlock ∧ RenV (fun _ => ⟨#[]⟩) (SgS lo top (.slice FA t.fs.length fc) (.slice PA t.ps.length pc)) lo Z t.ps.length m (.slice PA t.ps.length pc) t.ps) (fun i _ => np - (intOf i).toNat)
            case atStart => exact ⟨0, by omega, rfl, gb_reflB _ _, RenV.start (by have h := HC2.out.sg.p; rw [ren_len] at h; exact h)⟩
            case round =>
              obtain ⟨m, hm, rfl, hgb, hren⟩ := hrel
              have u1 : (0 : Int) ≤ m := by omega
              have HGB := Lib.hid hgb
              have HRE := Lib.hid hren
              by_cases hlm : m < np
              · have u0 : (m : Int) < np := by omega
                have u3 : (m : Int) < t.ps.length := by omega
                obtain ⟨g, c', hfv, hlg, hrr⟩ : ∃ g c', Value.slice PA t.ps.length pc = .slice (some ⟨g, 0, none⟩) t.ps.length c' ∧ lo ≤ g ∧ RenRow (fun _ => ⟨#[]⟩) (SgS lo top (.slice FA t.fs.length fc) (.slice PA t.ps.length pc)) wr t.ps.length m g t.ps := by
                  rcases hren with ⟨h1, _⟩ | ⟨g, c', h1, h2, h3, h4, h5⟩
                  · omega
                  · exact ⟨g, c', h1, h3, h5⟩
                simp only [Value.slice.injEq, true_and] at hfv
                obtain ⟨rfl, rfl⟩ := hfv
                obtain ⟨x, hx⟩ : ∃ x, t.ps[m]? = some x := ⟨_, List.getElem?_eq_getElem (by omega)⟩
                have hkg := fun b (h1 : b < Y.heap.size) (h2 : b ≠ g) => hgb.block b h1 (fun e => h2 (Option.some.inj e))
                have hcbg : cb ≠ g := fun e => HC2.out.cbP (by rw [e]; rfl)
                have hbx : Boxd wr cb _ := fun i u hu => ((kept_of (S := (· = cb)) (fun b hb => by subst hb; exact hkg b HCZ2.out hcbg)) ⟨cb, i, none⟩ rfl).1.trans (HC2.out.box i u hu)
                have g2 := hbx 2 _ rfl
                obtain ⟨d0, d1, hnext⟩ := hrr.step hx rfl (fun b hb e => hb.2.2.2 (by rw [e]; rfl)) (by simp [ByteArray.size])
                have HNX := Lib.hid hnext
                have HG2 := Lib.hid (show Y.grownBy (wr.setCell ⟨g, m * 5, none⟩ (.string ⟨#[]⟩)) (some g) from gb_transB hgb (gb_setB _ _ _ _))
                clear hgb hren hrr hx hkg hcbg hbx hnext
                go_wp2_with fail
                go_roundw
                case rel => exact ⟨m + 1, by omega, by go_num, HG2.out, .inr ⟨g, pc, rfl, by
                  rcases HRE.out with ⟨h1, _⟩ | ⟨g2, c2, h1, h2, _⟩
                  · omega
                  · simp only [Value.slice.injEq] at h1; omega, hlg, rfl, HNX.out⟩⟩
                case measure => simp [intOf]; omega
              · have u0 : (np : Int) ≤ m := by omega
                obtain rfl : m = np := by omega
                have HC3 := Lib.hid (HC2.out.grow (t' := ⟨t.name, ren loc t.fs, ren (fun _ => ⟨#[]⟩) t.ps, t.res, t.off⟩) hgb (.inr rfl) rfl (ren_len _ _) rfl rfl rfl (by rw [ren_len]; exact SgW.ps (by have h := HC2.out.sg; rw [ren_len] at h; exact h) hgb (by show RenV _ _ _ _ t.ps.length t.ps.length _ _; have h := hren; rw [← hk2] at h; exact h)))
                have HB3 := Lib.hid (boxd_at0B HC3.out.box)
                have HT3 := Lib.hid HC3.out.res
                have HCE := Lib.hid (show s.canon = ⟨t.name, ren loc t.fs, ren (fun _ => ⟨#[]⟩) t.ps, t.res, t.off⟩ by rw [Sg.canon, bare_eq, HFL.out, ← HT.out])
                clear hgb hren
                go_wp2_with (first
                  | (refine loadOp flatSg 5 58 rfl HB3.out rfl ?_)
                  | (refine storeOp flatSg 2 58 (b := w.heap.size + 1) (o := 0) (us := sg7 ⟨t.name, ren loc t.fs, ren (fun _ => ⟨#[]⟩) t.ps, t.res, t.off⟩ FA fc PA pc At mt at1) rfl rfl HT3.out sg_one rfl ?_))
                refine bodyPost_ret (results_canon _ rfl (show Boxd _ (w.heap.size + 1) (sg7 ⟨t.name, ren loc t.fs, ren (fun _ => ⟨#[]⟩) t.ps, t.res, t.off⟩ FA fc PA pc At mt at1) from set_there HT3.out) rfl) rfl ?_
                rw [HCE.out]
                exact HC3.out.end
end Go.Proofs.YtjhlehdjdaphcaaDoor
