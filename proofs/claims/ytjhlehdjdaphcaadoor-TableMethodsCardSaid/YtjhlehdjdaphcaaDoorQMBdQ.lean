/- The walk of the reference's Canon. The condition: few parts. -/
import Derived.Test.YtjhlehdjdaphcaaDoorQMTbF
namespace Go.Proofs.YtjhlehdjdaphcaaDoor
open Go.RowKit

/-- The cells of the first n local types. -/
def locCells (n : Nat) : List Value := (List.range n).flatMap fun i => [.string (loc i), .slice none 0 0, .int .i64 0]
theorem locCells_succ (n : Nat) : locCells (n + 1) = locCells n ++ [.string (loc n), .slice none 0 0, .int .i64 0] := by simp [locCells, List.range_succ]
theorem locCells_len (n : Nat) : (locCells n).length = n * 3 := by
  induction n with
  | zero => rfl
  | succ n ih => rw [locCells_succ, List.length_append, ih]; simp; omega
theorem locCells_at : ∀ (n i : Nat), i < n → (locCells n)[i * 3]? = some (.string (loc i)) ∧ (locCells n)[i * 3 + 1]? = some (.slice none 0 0) ∧ (locCells n)[i * 3 + 2]? = some (.int .i64 0)
  | n + 1, i, h => by
    have hl := locCells_len n
    rw [locCells_succ]
    by_cases hi : i < n
    · obtain ⟨a, b, c⟩ := locCells_at n i hi
      rw [List.getElem?_append_left (by omega), List.getElem?_append_left (by omega), List.getElem?_append_left (by omega)]
      exact ⟨a, b, c⟩
    · obtain rfl : i = n := by omega
      rw [List.getElem?_append_right (by omega), List.getElem?_append_right (by omega), List.getElem?_append_right (by omega), hl]
      rw [show i * 3 - i * 3 = 0 by omega, show i * 3 + 1 - i * 3 = 1 by omega, show i * 3 + 2 - i * 3 = 2 by omega]
      exact ⟨rfl, rfl, rfl⟩
theorem locRow_own {V : World} {B n c : Nat} {A : Option Addr} {e : TypeId} (h : V.ownsRow B e 3 (.slice A n c) n (locCells n)) : LocRow V A V.heap.size n n := ⟨fun i hi => by
  obtain ⟨g, cap, e⟩ := own_consB h (by omega)
  simp only [Value.slice.injEq, true_and] at e
  obtain ⟨rfl, rfl⟩ := e
  obtain ⟨h1, _, _⟩ := held_of_own h
  obtain ⟨a0, a1, a2⟩ := locCells_at n i hi
  have b0 := h1.at_ _ _ a0
  have b1 := h1.at_ _ _ a1
  have b2 := h1.at_ _ _ a2
  have f0 := (h1.there (i * 3) (by omega)).2
  rw [Nat.zero_add] at b0 b1 b2 f0
  exact ⟨g, rfl, h1.lt, by rw [if_pos hi]; exact b0, b1, b2, f0⟩⟩
theorem results_rcanon {w : World} {b : Nat} {us : List Value} (tmps : Array Value) (ht : tmps[2]?.getD undef = .pointer (some ⟨b, 0, none⟩)) (hc : Boxd w b us) (hl : us.length = 7) : (results Tryd.f50 tmps).run Tryd.prog w = .ok (.agg us.toArray) w := by
  have h := run_loadVar_at w ⟨b, 0, none⟩ 50 us _ hc.at0 Tryd.underlying50 rfl (by rw [hl]; exact flatSg.size)
  have h2 : (asAddr (.pointer (some ⟨b, 0, none⟩))).run Tryd.prog w = .ok ⟨b, 0, none⟩ w := rfl
  simp [results, Tryd.results50, ht, h, h2, Sem.run_bind, Result.andThen]
set_option maxRecDepth 100000 in
set_option maxHeartbeats 16000000 in
theorem rcanon_any (s : Sg) (us : List Value) (w : World) (hw : s.wt ≤ 1000) (h : s.dat.H w us) : Calls Tryd.prog 50 #[.agg us.toArray] w (SubW w s.canon) := by
  obtain ⟨F, nf, cf, Q, np, cp, Ar, mr, ar, rfl, hnm, hf, hp, _⟩ := sg_open h
  have hfl := hf.len
  have hpl := hp.len
  rw [List.length_map] at hfl hpl
  have hlf := Sg.len_f s
  have hlp := Sg.len_p s
  have hM := Cl.new w #[.string s.name, .slice F nf cf, .slice Q np cp, .string s.res.name, .slice Ar mr ar, .int .i64 s.res.off, .int .i64 s.off] #[.string ⟨#[]⟩, .slice none 0 0, .slice none 0 0, .string ⟨#[]⟩, .slice none 0 0, .int .i64 0, .int .i64 0] 50
  obtain ⟨W0, hW0⟩ : ∃ W0, (w.alloc (.cells #[.string s.name, .slice F nf cf, .slice Q np cp, .string s.res.name, .slice Ar mr ar, .int .i64 s.res.off, .int .i64 s.off] 50)).alloc (.cells #[.string ⟨#[]⟩, .slice none 0 0, .slice none 0 0, .string ⟨#[]⟩, .slice none 0 0, .int .i64 0, .int .i64 0] 50) = W0 := ⟨_, rfl⟩
  rw [hW0] at hM
  have HM := Lib.hid (show Cl w W0 [.string s.name, .slice F nf cf, .slice Q np cp, .string s.res.name, .slice Ar mr ar, .int .i64 s.res.off, .int .i64 s.off] 7 from hM)
  have HW0 := Lib.hid hW0
  have HIN := Lib.hid h
  have HFR := Lib.hid hf
  have HFL := Lib.hid hfl
  have HPL := Lib.hid hpl
  have HWT := Lib.hid hw
  have hni : (nf : Int) ≤ 1000 := by omega
  have hni0 : (0 : Int) ≤ nf := by omega
  have hnpi : (np : Int) ≤ 1000 := by omega
  clear hM hW0 h hf hp hfl hpl hlf hlp hw hnm
  go_enter Tryd.func50, Tryd.ntmps50
  go_upto_region 1 with fail
  rw [HW0.out]
  clear HW0
  go_wp2_with fail
  go_loopw [3, 4] (fun v i wr => ∃ k : Nat, k ≤ nf ∧ i = .int .i64 k ∧ wr.ownsRow W0.heap.size 25 3 v k (locCells k) ∧ Below W0.heap.size W0 wr) (fun _ i _ => nf - (intOf i).toNat)
  case atStart => exact ⟨0, by omega, rfl, World.ownsRow_nil _ _ _ _, Below.refl _ _⟩
  case round =>
    obtain ⟨k, hk, rfl, hown, hbel⟩ := hrel
    have y1 : (0 : Int) ≤ k := by omega
    have HBL := Lib.hid hbel
    have HOW := Lib.hid hown
    have HMK := Lib.hid (HM.out.later hbel)
    have x1 := HMK.out.box.box 1 _ rfl
    by_cases hlt : k < nf
    · have y0 : (k : Int) < nf := by omega
      have C := Lib.hid (show Calls Tryd.prog 70 #[.int .i64 (k : Int)] wr _ from ref_local_any (k : Int) (by omega) (by omega) wr)
      clear hown hbel
      go_wp2_with fail
      refine C.out.mono ?_
      rintro e w3 ⟨rfl, hb⟩
      rw [show (⟨(Nm.localL (k : Int)).toArray⟩ : ByteArray) = loc k from rfl]
      have hb5 : Below w3.heap.size w3 (w3.alloc (.cells #[.string (loc k), .slice none 0 0, .int .i64 0] 25)) := (Below.refl _ _).alloc (Nat.le_refl _) _
      have HB3 := Lib.hid hb
      have HB5 := Lib.hid hb5
      have HOW5 := Lib.hid (own_below (own_below HOW.out hb) hb5)
      have HC5 := Lib.hid (show CellsAt (w3.alloc (.cells #[.string (loc k), .slice none 0 0, .int .i64 0] 25)) ⟨w3.heap.size, 0, none⟩ [.string (loc k), .slice none 0 0, .int .i64 0] from (Boxd.new w3 #[.string (loc k), .slice none 0 0, .int .i64 0] 25).at0)
      clear hb hb5 C x1
      go_wp2_with (at_builtin; refine wpList_append_row slTy rfl _ _ rfl rfl rfl HOW5.out (by have := HB5.out.size; have := HB3.out.size; have := HBL.out.size; omega) (m := 1) rfl (fun a ha j u hu => by obtain rfl := Option.some.inj ha; exact HC5.out j u hu) three_one (fun _ => ⟨_, rfl⟩) (by omega) (by omega) ?_; intro v6 w6 hA; have HO6 := Lib.hid hA.own; have HB6 := Lib.hid ((HBL.out.trans ((HB3.out.trans (HB5.out.mono HB3.out.size)).mono HBL.out.size)).grown hA.grow (by have := HB5.out.size; have := HB3.out.size; have := HBL.out.size; omega) (own_base HOW5.out)); clear hA)
      go_roundw
      case rel => exact ⟨k + 1, by omega, by go_num, by rw [locCells_succ]; exact HO6.out, HB6.out⟩
      case measure => simp [intOf]; omega
    · have y0 : (nf : Int) ≤ k := by omega
      obtain rfl : k = nf := by omega
      obtain ⟨AL, cl, rfl⟩ := own_sl hown
      have HLR := Lib.hid (locRow_own hown)
      clear hown hbel
      go_upto_region 6 with fail
      obtain ⟨t, ht⟩ : ∃ t, t = s.subst s.names (locs k) := ⟨_, rfl⟩
      have ht1 : t.fs.length = k := by rw [ht]; simp [Sg.subst]; exact HFL.out
      have ht2 : t.ps.length = np := by rw [ht]; simp [Sg.subst]; exact HPL.out
      have HT := Lib.hid ht
      have HT1 := Lib.hid ht1
      have HT2 := Lib.hid ht2
      have HXD := Lib.hid (show CanAt w wr.drew wr.heap.size k AL from ⟨HMK.out.bel.drew, HMK.out.big, Nat.le_refl _, HMK.out.res, HLR.out.later (Below.refl _ _).drew (Nat.le_refl _)⟩)
      have HBD := Lib.hid (show Boxd wr.drew w.heap.size [.string s.name, .slice F k cf, .slice Q np cp, .string s.res.name, .slice Ar mr ar, .int .i64 s.res.off, .int .i64 s.off] from HMK.out.box.box)
      have SS : wr.drew.cell? ⟨w.heap.size, 1, none⟩ = some (.slice F k cf) ∧ CellsAt wr.drew ⟨w.heap.size, 0, none⟩ [.string s.name, .slice F k cf, .slice Q np cp, .string s.res.name, .slice Ar mr ar, .int .i64 s.res.off, .int .i64 s.off] := ⟨HMK.out.box.box 1 _ rfl, boxd_at0B HMK.out.box.box⟩
      clear ht ht1 ht2 x1
      go_cut [5] (fun s5 wx => ∃ cb lo top FA fc PA pc At mt at1, s5 = .pointer (some ⟨cb, 0, none⟩) ∧ CanBox w wx t cb lo top k AL FA fc PA pc At mt at1)
      case first =>
        have CN := Lib.hid (fun (X : World) (hX : Below wr.drew.heap.size wr.drew X) => nms_at (k := k) (by rw [List.length_map]; exact HFL.out) (rnames_any s.fs F k cf X (by omega) (RowH.later HFR.out (HXD.out.bel.trans (hX.mono HXD.out.bel.size)))))
        have CS := Lib.hid (fun (X : World) (NA : Option Addr) (nc : Nat) (hX : Below wr.drew.heap.size wr.drew X) (_hc : k ≤ nc) (hN : Sl X NA k (s.fs.map Fo.name)) => (rsubst_any s [.string s.name, .slice F k cf, .slice Q np cp, .string s.res.name, .slice Ar mr ar, .int .i64 s.res.off, .int .i64 s.off] s.names (locs k) NA AL k k nc cl X HWT.out (locs_small (by omega)) (by omega) (Dat.H.later HIN.out (HXD.out.bel.trans (hX.mono HXD.out.bel.size))) hN (((HXD.out.later hX).loc).here (by omega) (HXD.out.later hX).tlz)).mono fun e w' h => (show SubW X t e w' by rw [HT.out]; exact h))
        have HSST := Lib.hid (fun (X : World) (hX : Below wr.drew.heap.size wr.drew X) => (show X.cell? ⟨w.heap.size, 1, none⟩ = some (.slice F k cf) ∧ CellsAt X ⟨w.heap.size, 0, none⟩ [.string s.name, .slice F k cf, .slice Q np cp, .string s.res.name, .slice Ar mr ar, .int .i64 s.res.off, .int .i64 s.off] from ⟨(HBD.out.later hX) 1 _ rfl, boxd_at0B (HBD.out.later hX)⟩))
        refine wp_region_held_drew (S := fun V => V.cell? ⟨w.heap.size, 1, none⟩ = some (.slice F k cf) ∧ CellsAt V ⟨w.heap.size, 0, none⟩ [.string s.name, .slice F k cf, .slice Q np cp, .string s.res.name, .slice Ar mr ar, .int .i64 s.res.off, .int .i64 s.off]) (by kernel_rfl) SS (fun hS => ?_)
        clear SS
        generalize wr.drew = Wd at *
        have HBWd := Lib.hid (Below.refl Wd.heap.size Wd)
        refine wpAnyH_take (i := 0) (v := .agg ([.string s.name, .slice F k cf, .slice Q np cp, .string s.res.name, .slice Ar mr ar, .int .i64 s.res.off, .int .i64 s.off] : List Value).toArray) rfl (by kernel_rfl) (by kernel_rfl) (by kernel_rfl) (fun _ _ _ h => h) (Or.inl ⟨by rfl, fun V hV => loadYieldB flatSg rfl hV.2 rfl⟩) (by assumption) ?_
        try simp only [Act.put, List.getElem_toArray, List.getElem_cons_zero, List.setIfInBounds_toArray, List.set_cons_zero, List.set_cons_succ]
        refine wpAnyH_take (i := 1) (v := ?_) rfl (by kernel_rfl) (by kernel_rfl) (by kernel_rfl) (fun _ _ _ h => h) (Or.inl ⟨by rfl, ?_⟩) (by assumption) ?_
        rotate_left
        · (intro V hV; go_simp; try with_reducible rfl)
        try simp only [Act.put, List.getElem_toArray, List.getElem_cons_zero, List.getElem_cons_succ, List.setIfInBounds_toArray, List.set_cons_zero, List.set_cons_succ]
        refine wpAnyH_take (i := 2) (v := ?_) rfl (by kernel_rfl) (by kernel_rfl) (by kernel_rfl) (fun _ _ _ h => h) (Or.inl ⟨by rfl, ?_⟩) (by assumption) ?_
        rotate_left
        · (intro V hV; obtain ⟨k0, _⟩ := hV; go_simp; try with_reducible rfl)
        try simp only [Act.put, List.getElem_toArray, List.getElem_cons_zero, List.getElem_cons_succ, List.setIfInBounds_toArray, List.set_cons_zero, List.set_cons_succ]
        refine wpAnyH_take (i := 4) (v := ?_) rfl (by kernel_rfl) (by kernel_rfl) (by kernel_rfl) (fun _ _ _ h => h) (Or.inl ⟨by rfl, ?_⟩) (by assumption) ?_
        rotate_left
        · (intro V hV; go_simp; try with_reducible rfl)
        try simp only [Act.put, List.getElem_toArray, List.getElem_cons_zero, List.getElem_cons_succ, List.setIfInBounds_toArray, List.set_cons_zero, List.set_cons_succ]
        refine wpAnyH_ready (rs := [3, 6]) (by kernel_rfl) (by simp) ?_
        refine AllReadyH.cons rfl (fun K hK => ?_) (AllReadyH.cons rfl (fun K hK => ?_) (AllReadyH.nil))
        · skip
          go_simp
          refine (CN.out Wd HBWd.out).mono ?_
          rintro e XN ⟨NA, nc, rfl, hnc, hsl, hbn⟩
          have HNC := Lib.hid hnc
          have HSLXN := Lib.hid hsl
          have HBq := Lib.hid hbn
          clear hnc hsl hbn
          have HBXN := Lib.hid (HBWd.out.trans (HBq.out.mono HBWd.out.size))
          have HZXN := Lib.hid HBq.out.size
          have SS := HSST.out XN HBXN.out
          refine hK.out _ _ SS (fun hS => ?_)
          clear hK K SS
          try simp only [Act.put, List.getElem_toArray, List.getElem_cons_zero, List.getElem_cons_succ, List.setIfInBounds_toArray, List.set_cons_zero, List.set_cons_succ]
          refine wpAnyH_ready (rs := [5, 6]) (by kernel_rfl) (by simp) ?_
          refine AllReadyH.cons rfl (fun K hK => ?_) (AllReadyH.cons rfl (fun K hK => ?_) (AllReadyH.nil))
          · skip
            go_simp
            refine (CS.out XN NA nc HBXN.out HNC.out HSLXN.out).mono ?_
            rintro e XNS ⟨FA, fc, PA, pc, At, mt, at1, rfl, hsg, hbn⟩
            have HSGXNS := Lib.hid hsg
            have HBq := Lib.hid hbn
            clear hsg hbn
            have HBXNS := Lib.hid (HBXN.out.trans (HBq.out.mono HBXN.out.size))
            have HSLXNS := Lib.hid (HSLXN.out.later HBq.out)
            have HZXNS := Lib.hid HBq.out.size
            have SS := HSST.out XNS HBXNS.out
            refine hK.out _ _ SS (fun hS => ?_)
            clear hK K SS
            try simp only [Act.put, List.getElem_toArray, List.getElem_cons_zero, List.getElem_cons_succ, List.setIfInBounds_toArray, List.set_cons_zero, List.set_cons_succ]
            refine wpAnyH_ready (rs := [6]) (by kernel_rfl) (by simp) ?_
            refine AllReadyH.cons rfl (fun K hK => ?_) (AllReadyH.nil)
            · skip
              go_simp
              obtain ⟨XNSA, hXNSA⟩ : ∃ X, World.alloc XNS (.cells #[.string ⟨#[]⟩, .slice none 0 0, .slice none 0 0, .string ⟨#[]⟩, .slice none 0 0, .int .i64 0, .int .i64 0] 50) = X := ⟨_, rfl⟩
              have HBq := Lib.hid (show Below XNS.heap.size XNS XNSA from hXNSA ▸ (Below.refl _ _).alloc (Nat.le_refl _) _)
              have HCTXNSA := Lib.hid (show XNSA.there XNS.heap.size 0 7 from hXNSA ▸ there_new XNS #[.string ⟨#[]⟩, .slice none 0 0, .slice none 0 0, .string ⟨#[]⟩, .slice none 0 0, .int .i64 0, .int .i64 0] 50)
              have HCZ := Lib.hid (show XNSA.heap.size = XNS.heap.size + 1 by rw [← hXNSA]; simp)
              rw [hXNSA]
              clear hXNSA
              have HBXNSA := Lib.hid (HBXNS.out.trans (HBq.out.mono HBXNS.out.size))
              have HSLXNSA := Lib.hid (HSLXNS.out.later HBq.out)
              have HSGXNSA := Lib.hid (HSGXNS.out.later HBq.out)
              have HZXNSA := Lib.hid HBq.out.size
              have SS := HSST.out XNSA HBXNSA.out
              refine hK.out _ _ SS (fun hS => ?_)
              clear hK K SS
              try simp only [Act.put, List.getElem_toArray, List.getElem_cons_zero, List.getElem_cons_succ, List.setIfInBounds_toArray, List.set_cons_zero, List.set_cons_succ]
              refine wpAnyH_ready (rs := [7]) (by kernel_rfl) (by simp) ?_
              refine AllReadyH.cons rfl (fun K hK => ?_) (AllReadyH.nil)
              refine ready_storeB flatSg rfl (.tmp 5) (.tmp 26) rfl (b := XNS.heap.size) (off := 0) (us := (sg7 t FA fc PA pc At mt at1)) rfl rfl HCTXNSA.out sg_one rfl ?_
              have HZB := Lib.hid (below_cells (B := Wd.heap.size) (g := XNS.heap.size) HBXNS.out.size (sg7 t FA fc PA pc At mt at1) 0 XNSA)
              have SS := HSST.out _ (HBXNSA.out.trans HZB.out)
              refine hK.out _ _ SS (fun hS => ?_)
              clear hK K SS
              try simp only [Act.put]
              refine wpAnyH_done (by kernel_rfl) ?_ _
              clear hS
              have HCAN := Lib.hid (can_box (Z := XNSA.setCells XNS.heap.size 0 (sg7 t FA fc PA pc At mt at1)) (cb := XNS.heap.size) (lo := XN.heap.size) (top := XNS.heap.size) HXD.out (HBXNSA.out.trans HZB.out) HBXNS.out.size HBXN.out.size HSGXNSA.out rfl (.inr ⟨Nat.le_refl _, fun b hb => (HSGXNS.out.f.own b hb).2, fun b hb => (HSGXNS.out.p.own b hb).2⟩) HCTXNSA.out rfl)
              go_wp2_with fail
              go_meet
              exact ⟨_, _, _, _, _, _, _, _, _, _, rfl, HCAN.out⟩
          · skip
            go_simp
            obtain ⟨XNA, hXNA⟩ : ∃ X, World.alloc XN (.cells #[.string ⟨#[]⟩, .slice none 0 0, .slice none 0 0, .string ⟨#[]⟩, .slice none 0 0, .int .i64 0, .int .i64 0] 50) = X := ⟨_, rfl⟩
            have HBq := Lib.hid (show Below XN.heap.size XN XNA from hXNA ▸ (Below.refl _ _).alloc (Nat.le_refl _) _)
            have HCTXNA := Lib.hid (show XNA.there XN.heap.size 0 7 from hXNA ▸ there_new XN #[.string ⟨#[]⟩, .slice none 0 0, .slice none 0 0, .string ⟨#[]⟩, .slice none 0 0, .int .i64 0, .int .i64 0] 50)
            have HCZ := Lib.hid (show XNA.heap.size = XN.heap.size + 1 by rw [← hXNA]; simp)
            rw [hXNA]
            clear hXNA
            have HBXNA := Lib.hid (HBXN.out.trans (HBq.out.mono HBXN.out.size))
            have HSLXNA := Lib.hid (HSLXN.out.later HBq.out)
            have HZXNA := Lib.hid HBq.out.size
            have SS := HSST.out XNA HBXNA.out
            refine hK.out _ _ SS (fun hS => ?_)
            clear hK K SS
            try simp only [Act.put, List.getElem_toArray, List.getElem_cons_zero, List.getElem_cons_succ, List.setIfInBounds_toArray, List.set_cons_zero, List.set_cons_succ]
            refine wpAnyH_ready (rs := [5]) (by kernel_rfl) (by simp) ?_
            refine AllReadyH.cons rfl (fun K hK => ?_) (AllReadyH.nil)
            · skip
              go_simp
              refine (CS.out XNA NA nc HBXNA.out HNC.out HSLXNA.out).mono ?_
              rintro e XNAS ⟨FA, fc, PA, pc, At, mt, at1, rfl, hsg, hbn⟩
              have HSGXNAS := Lib.hid hsg
              have HBq := Lib.hid hbn
              clear hsg hbn
              have HBXNAS := Lib.hid (HBXNA.out.trans (HBq.out.mono HBXNA.out.size))
              have HSLXNAS := Lib.hid (HSLXNA.out.later HBq.out)
              have HCTXNAS := Lib.hid (there_later HCTXNA.out HBq.out)
              have HZXNAS := Lib.hid HBq.out.size
              have SS := HSST.out XNAS HBXNAS.out
              refine hK.out _ _ SS (fun hS => ?_)
              clear hK K SS
              try simp only [Act.put, List.getElem_toArray, List.getElem_cons_zero, List.getElem_cons_succ, List.setIfInBounds_toArray, List.set_cons_zero, List.set_cons_succ]
              refine wpAnyH_ready (rs := [7]) (by kernel_rfl) (by simp) ?_
              refine AllReadyH.cons rfl (fun K hK => ?_) (AllReadyH.nil)
              refine ready_storeB flatSg rfl (.tmp 5) (.tmp 26) rfl (b := XN.heap.size) (off := 0) (us := (sg7 t FA fc PA pc At mt at1)) rfl rfl HCTXNAS.out sg_one rfl ?_
              have HZB := Lib.hid (below_cells (B := Wd.heap.size) (g := XN.heap.size) HBXN.out.size (sg7 t FA fc PA pc At mt at1) 0 XNAS)
              have SS := HSST.out _ (HBXNAS.out.trans HZB.out)
              refine hK.out _ _ SS (fun hS => ?_)
              clear hK K SS
              try simp only [Act.put]
              refine wpAnyH_done (by kernel_rfl) ?_ _
              clear hS
              have HCAN := Lib.hid (can_box (Z := XNAS.setCells XN.heap.size 0 (sg7 t FA fc PA pc At mt at1)) (cb := XN.heap.size) (lo := XNA.heap.size) (top := XNAS.heap.size) HXD.out (HBXNAS.out.trans HZB.out) HBXN.out.size HBXNA.out.size HSGXNAS.out rfl (.inl (by have := HCZ.out; omega)) HCTXNAS.out rfl)
              go_wp2_with fail
              go_meet
              exact ⟨_, _, _, _, _, _, _, _, _, _, rfl, HCAN.out⟩
        · skip
          go_simp
          obtain ⟨XA, hXA⟩ : ∃ X, World.alloc Wd (.cells #[.string ⟨#[]⟩, .slice none 0 0, .slice none 0 0, .string ⟨#[]⟩, .slice none 0 0, .int .i64 0, .int .i64 0] 50) = X := ⟨_, rfl⟩
          have HBq := Lib.hid (show Below Wd.heap.size Wd XA from hXA ▸ (Below.refl _ _).alloc (Nat.le_refl _) _)
          have HCTXA := Lib.hid (show XA.there Wd.heap.size 0 7 from hXA ▸ there_new Wd #[.string ⟨#[]⟩, .slice none 0 0, .slice none 0 0, .string ⟨#[]⟩, .slice none 0 0, .int .i64 0, .int .i64 0] 50)
          have HCZ := Lib.hid (show XA.heap.size = Wd.heap.size + 1 by rw [← hXA]; simp)
          rw [hXA]
          clear hXA
          have HBXA := Lib.hid (HBWd.out.trans (HBq.out.mono HBWd.out.size))
          have HZXA := Lib.hid HBq.out.size
          have SS := HSST.out XA HBXA.out
          refine hK.out _ _ SS (fun hS => ?_)
          clear hK K SS
          try simp only [Act.put, List.getElem_toArray, List.getElem_cons_zero, List.getElem_cons_succ, List.setIfInBounds_toArray, List.set_cons_zero, List.set_cons_succ]
          refine wpAnyH_ready (rs := [3]) (by kernel_rfl) (by simp) ?_
          refine AllReadyH.cons rfl (fun K hK => ?_) (AllReadyH.nil)
          · skip
            go_simp
            refine (CN.out XA HBXA.out).mono ?_
            rintro e XAN ⟨NA, nc, rfl, hnc, hsl, hbn⟩
            have HNC := Lib.hid hnc
            have HSLXAN := Lib.hid hsl
            have HBq := Lib.hid hbn
            clear hnc hsl hbn
            have HBXAN := Lib.hid (HBXA.out.trans (HBq.out.mono HBXA.out.size))
            have HCTXAN := Lib.hid (there_later HCTXA.out HBq.out)
            have HZXAN := Lib.hid HBq.out.size
            have SS := HSST.out XAN HBXAN.out
            refine hK.out _ _ SS (fun hS => ?_)
            clear hK K SS
            try simp only [Act.put, List.getElem_toArray, List.getElem_cons_zero, List.getElem_cons_succ, List.setIfInBounds_toArray, List.set_cons_zero, List.set_cons_succ]
            refine wpAnyH_ready (rs := [5]) (by kernel_rfl) (by simp) ?_
            refine AllReadyH.cons rfl (fun K hK => ?_) (AllReadyH.nil)
            · skip
              go_simp
              refine (CS.out XAN NA nc HBXAN.out HNC.out HSLXAN.out).mono ?_
              rintro e XANS ⟨FA, fc, PA, pc, At, mt, at1, rfl, hsg, hbn⟩
              have HSGXANS := Lib.hid hsg
              have HBq := Lib.hid hbn
              clear hsg hbn
              have HBXANS := Lib.hid (HBXAN.out.trans (HBq.out.mono HBXAN.out.size))
              have HSLXANS := Lib.hid (HSLXAN.out.later HBq.out)
              have HCTXANS := Lib.hid (there_later HCTXAN.out HBq.out)
              have HZXANS := Lib.hid HBq.out.size
              have SS := HSST.out XANS HBXANS.out
              refine hK.out _ _ SS (fun hS => ?_)
              clear hK K SS
              try simp only [Act.put, List.getElem_toArray, List.getElem_cons_zero, List.getElem_cons_succ, List.setIfInBounds_toArray, List.set_cons_zero, List.set_cons_succ]
              refine wpAnyH_ready (rs := [7]) (by kernel_rfl) (by simp) ?_
              refine AllReadyH.cons rfl (fun K hK => ?_) (AllReadyH.nil)
              refine ready_storeB flatSg rfl (.tmp 5) (.tmp 26) rfl (b := Wd.heap.size) (off := 0) (us := (sg7 t FA fc PA pc At mt at1)) rfl rfl HCTXANS.out sg_one rfl ?_
              have HZB := Lib.hid (below_cells (B := Wd.heap.size) (g := Wd.heap.size) HBWd.out.size (sg7 t FA fc PA pc At mt at1) 0 XANS)
              have SS := HSST.out _ (HBXANS.out.trans HZB.out)
              refine hK.out _ _ SS (fun hS => ?_)
              clear hK K SS
              try simp only [Act.put]
              refine wpAnyH_done (by kernel_rfl) ?_ _
              clear hS
              have HCAN := Lib.hid (can_box (Z := XANS.setCells Wd.heap.size 0 (sg7 t FA fc PA pc At mt at1)) (cb := Wd.heap.size) (lo := XAN.heap.size) (top := XANS.heap.size) HXD.out (HBXANS.out.trans HZB.out) HBWd.out.size HBXAN.out.size HSGXANS.out rfl (.inl (by have := HZXAN.out; have := HCZ.out; omega)) HCTXANS.out rfl)
              go_wp2_with fail
              go_meet
              exact ⟨_, _, _, _, _, _, _, _, _, _, rfl, HCAN.out⟩
      case rest =>
        obtain ⟨cb, lo, top, FA, fc, PA, pc, At, mt, at1, rfl, hcan⟩ := hcut
        have HC := Lib.hid hcan
        have hk1 := HT1.out
        have hk2 := HT2.out
        have hzc := hcan.cbz
        have HCZ := Lib.hid hzc
        clear hcan SS hzc
        go_wp2_with fail
        go_loopw [6] (fun i Y => ∃ j : Nat, j ≤ k ∧ i = .int .i64 j ∧ wc.grownBy Y (Value.slice FA t.fs.length fc).ownBlock ∧ RenV loc (SgS lo top (.slice FA t.fs.length fc) (.slice PA t.ps.length pc)) lo Y t.fs.length j (.slice FA t.fs.length fc) t.fs) (fun i _ => k - (intOf i).toNat)
        case atStart => exact ⟨0, by omega, rfl, gb_reflB _ _, RenV.start HC.out.sg.f⟩
        case round =>
          obtain ⟨j, hj, rfl, hgb, hren⟩ := hrel
          have v1 : (0 : Int) ≤ j := by omega
          have HGB := Lib.hid hgb
          have HRE := Lib.hid hren
          have f1 : wr.cell? ⟨cb, 1, none⟩ = some (.slice FA t.fs.length fc) := (kept_of (V := wc) (V' := wr) (S := (· = cb)) (fun b hb => by subst hb; exact hgb.block _ HCZ.out (fun e => HC.out.cbF e.symm)) ⟨cb, 1, none⟩ rfl).1.trans (HC.out.box 1 _ rfl)
          have v4 : (0 : Int) ≤ t.fs.length := by omega
          by_cases hlj : j < k
          · have v0 : (j : Int) < k := by omega
            have v3 : (j : Int) < t.fs.length := by omega
            obtain ⟨g, c', hfv, hlg, hrr⟩ : ∃ g c', Value.slice FA t.fs.length fc = .slice (some ⟨g, 0, none⟩) t.fs.length c' ∧ lo ≤ g ∧ RenRow loc (SgS lo top (.slice FA t.fs.length fc) (.slice PA t.ps.length pc)) wr t.fs.length j g t.fs := by
              rcases hren with ⟨h1, _⟩ | ⟨g, c', h1, h2, h3, h4, h5⟩
              · omega
              · exact ⟨g, c', h1, h3, h5⟩
            simp only [Value.slice.injEq, true_and] at hfv
            obtain ⟨rfl, rfl⟩ := hfv
            obtain ⟨x, hx⟩ : ∃ x, t.fs[j]? = some x := ⟨_, List.getElem?_eq_getElem (by omega)⟩
            have hkg := fun b (h1 : b < wc.heap.size) (h2 : b ≠ g) => hgb.block b h1 (fun e => h2 (Option.some.inj e))
            have hcbg : cb ≠ g := fun e => HC.out.cbF (by rw [e]; rfl)
            have hll := HC.out.loc.kept (V' := wr) (fun b hb => hkg b (by have := HC.out.sg.lt; have := HC.out.sg.le; omega) (by omega))
            obtain ⟨gl, rfl, hgl, c0, _, _, _⟩ := hll.at_ j hlj
            rw [if_pos hlj] at c0
            obtain ⟨d0, d1, hnext⟩ := hrr.step hx rfl (fun b hb e => hb.2.2.1 (by rw [e]; rfl)) (loc_le j (by omega))
            have hglg : gl ≠ g := by omega
            have HNX := Lib.hid hnext
            have HG2 := Lib.hid (show wc.grownBy (wr.setCell ⟨g, j * 5, none⟩ (.string (loc j))) (some g) from gb_transB hgb (gb_setB _ _ _ _))
            have HGD := Lib.hid (show wr.drew.cell? ⟨g, j * 5, none⟩ = some (.string x.name) ∧ wr.drew.frozen? ⟨g, j * 5, none⟩ = false from ⟨d0, d1⟩)
            have SS : wr.drew.cell? ⟨cb, 1, none⟩ = some (.slice (some ⟨g, 0, none⟩) t.fs.length fc) ∧ wr.drew.cell? ⟨gl, j * 3, none⟩ = some (.string (loc j)) := ⟨f1, c0⟩
            clear hgb hren hrr hx hkg hll hgl hnext d0 d1 c0
            go_upto_region 10 with fail
            clear f1
            go_wp2_with fail
            refine wp_region_held_drew (S := fun V => V.cell? ⟨cb, 1, none⟩ = some (.slice (some ⟨g, 0, none⟩) t.fs.length fc) ∧ V.cell? ⟨gl, j * 3, none⟩ = some (.string (loc j))) (by kernel_rfl) SS (fun hS => ?_)
            clear SS
            refine wpAnyH_take (i := 0) (v := ?_) rfl (by kernel_rfl) (by kernel_rfl) (by kernel_rfl) (fun _ _ _ h => h) (Or.inl ⟨by rfl, ?_⟩) (by assumption) ?_
            rotate_left
            · (intro V hV; obtain ⟨k0, k1⟩ := hV; go_simp; try with_reducible rfl)
            try simp only [Act.put, List.getElem_toArray, List.getElem_cons_zero, List.setIfInBounds_toArray, List.set_cons_zero, List.set_cons_succ]
            refine wpAnyH_take (i := 1) (v := ?_) rfl (by kernel_rfl) (by kernel_rfl) (by kernel_rfl) (fun _ _ _ h => h) (Or.inl ⟨by rfl, ?_⟩) (by assumption) ?_
            rotate_left
            · (intro V hV; obtain ⟨k0, k1⟩ := hV; go_simp; try with_reducible rfl)
            try simp only [Act.put, List.getElem_toArray, List.getElem_cons_zero, List.getElem_cons_succ, List.setIfInBounds_toArray, List.set_cons_zero, List.set_cons_succ]
            refine wpAnyH_take (i := 2) (v := ?_) rfl (by kernel_rfl) (by kernel_rfl) (by kernel_rfl) (fun _ _ _ h => h) (Or.inl ⟨by rfl, ?_⟩) (by assumption) ?_
            rotate_left
            · (intro V hV; obtain ⟨k0, k1⟩ := hV; go_simp; try with_reducible rfl)
            try simp only [Act.put, List.getElem_toArray, List.getElem_cons_zero, List.getElem_cons_succ, List.setIfInBounds_toArray, List.set_cons_zero, List.set_cons_succ]
            refine wpAnyH_take (i := 3) (v := ?_) rfl (by kernel_rfl) (by kernel_rfl) (by kernel_rfl) (fun _ _ _ h => h) (Or.inl ⟨by rfl, ?_⟩) (by assumption) ?_
            rotate_left
            · (intro V hV; obtain ⟨k0, k1⟩ := hV; go_simp; try with_reducible rfl)
            try simp only [Act.put, List.getElem_toArray, List.getElem_cons_zero, List.getElem_cons_succ, List.setIfInBounds_toArray, List.set_cons_zero, List.set_cons_succ]
            refine wpAnyH_take (i := 4) (v := ?_) rfl (by kernel_rfl) (by kernel_rfl) (by kernel_rfl) (fun _ _ _ h => h) (Or.inl ⟨by rfl, ?_⟩) (by assumption) ?_
            rotate_left
            · (intro V hV; obtain ⟨k0, k1⟩ := hV; go_simp; try with_reducible rfl)
            try simp only [Act.put, List.getElem_toArray, List.getElem_cons_zero, List.getElem_cons_succ, List.setIfInBounds_toArray, List.set_cons_zero, List.set_cons_succ]
            refine wpAnyH_take (i := 5) (v := ?_) rfl (by kernel_rfl) (by kernel_rfl) (by kernel_rfl) (fun _ _ _ h => h) (Or.inl ⟨by rfl, ?_⟩) (by assumption) ?_
            rotate_left
            · (intro V hV; obtain ⟨k0, k1⟩ := hV; go_simp; try with_reducible rfl)
            try simp only [Act.put, List.getElem_toArray, List.getElem_cons_zero, List.getElem_cons_succ, List.setIfInBounds_toArray, List.set_cons_zero, List.set_cons_succ]
            refine wpAnyH_take (i := 6) (v := ?_) rfl (by kernel_rfl) (by kernel_rfl) (by kernel_rfl) (fun _ _ _ h => h) (Or.inl ⟨by rfl, ?_⟩) (by assumption) ?_
            rotate_left
            · (intro V hV; obtain ⟨k0, k1⟩ := hV; go_simp; try with_reducible rfl)
            try simp only [Act.put, List.getElem_toArray, List.getElem_cons_zero, List.getElem_cons_succ, List.setIfInBounds_toArray, List.set_cons_zero, List.set_cons_succ]
            refine wpAnyH_take (i := 7) (v := ?_) rfl (by kernel_rfl) (by kernel_rfl) (by kernel_rfl) (fun _ _ _ h => h) (Or.inl ⟨by rfl, ?_⟩) (by assumption) ?_
            rotate_left
            · (intro V hV; obtain ⟨k0, k1⟩ := hV; go_simp; try with_reducible rfl)
            try simp only [Act.put, List.getElem_toArray, List.getElem_cons_zero, List.getElem_cons_succ, List.setIfInBounds_toArray, List.set_cons_zero, List.set_cons_succ]
            refine wpAnyH_take (i := 8) (v := ?_) rfl (by kernel_rfl) (by kernel_rfl) (by kernel_rfl) (fun _ _ _ h => h) (Or.inl ⟨by rfl, ?_⟩) (by assumption) ?_
            rotate_left
            · (intro V hV; obtain ⟨k0, k1⟩ := hV; go_simp; try with_reducible rfl)
            try simp only [Act.put, List.getElem_toArray, List.getElem_cons_zero, List.getElem_cons_succ, List.setIfInBounds_toArray, List.set_cons_zero, List.set_cons_succ]
            refine wpAnyH_take (i := 9) (v := ?_) rfl (by kernel_rfl) (by kernel_rfl) (by kernel_rfl) (fun _ _ _ h => h) (Or.inl ⟨by rfl, ?_⟩) (by assumption) ?_
            rotate_left
            · (intro V hV; obtain ⟨k0, k1⟩ := hV; go_simp; try with_reducible rfl)
            try simp only [Act.put, List.getElem_toArray, List.getElem_cons_zero, List.getElem_cons_succ, List.setIfInBounds_toArray, List.set_cons_zero, List.set_cons_succ]
            obtain ⟨g0, g1⟩ := HGD.out
            refine wpAnyH_ready (rs := [10]) (by kernel_rfl) (by simp) ?_
            refine AllReadyH.cons rfl (fun K hK => ?_) (AllReadyH.nil)
            go_simp
            have SS : (wr.drew.setCell ⟨g, j * 5, none⟩ (.string (loc j))).cell? ⟨cb, 1, none⟩ = some (.slice (some ⟨g, 0, none⟩) t.fs.length fc) ∧ (wr.drew.setCell ⟨g, j * 5, none⟩ (.string (loc j))).cell? ⟨gl, j * 3, none⟩ = some (.string (loc j)) := ⟨(World.cell?_setCell_other _ _ _ _ (by intro h; injection h with h; exact hcbg h.symm)).trans hS.1, (World.cell?_setCell_other _ _ _ _ (by intro h; injection h with h; exact hglg h.symm)).trans hS.2⟩
            refine hK.out _ _ SS (fun hS => ?_)
            clear hK K SS g0 g1
            try simp only [Act.put]
            refine wpAnyH_done (by kernel_rfl) ?_ _
            clear hS
            go_wp2_with fail
            go_roundw
            case rel => exact ⟨j + 1, by omega, by go_num, gb_transB HG2.out (gb_ofB _ (Below.refl _ _).drew), RenV.kept (V := wr.setCell ⟨g, j * 5, none⟩ (.string (loc j))) (.inr ⟨g, fc, rfl, by
              rcases HRE.out with ⟨h1, _⟩ | ⟨g2, c2, h1, h2, _⟩
              · omega
              · simp only [Value.slice.injEq] at h1; omega, hlg, rfl, HNX.out⟩) (fun _ _ => rfl) (Nat.le_refl _)⟩
            case measure => simp [intOf]; omega
          · have v0 : (k : Int) ≤ j := by omega
            obtain rfl : j = k := by omega
            have HC2 := Lib.hid (HC.out.grow (t' := ⟨t.name, ren loc t.fs, t.ps, t.res, t.off⟩) hgb (.inl rfl) (ren_len _ _) rfl rfl rfl rfl (HC.out.sg.fs hgb (by rw [hk1] at hren ⊢; exact hren)))
            clear hgb hren
            have f2 := HC2.out.box 2 _ rfl
            have hzc := HC2.out.cbz
            have HCZ2 := Lib.hid hzc
            clear hzc
            go_wp2_with fail
            generalize wr = Y at *
            go_loopw [7] (fun i Z => ∃ m : Nat, m ≤ np ∧ i = .int .i64 m ∧ Y.grownBy Z (Value.slice PA t.ps.length pc).ownBlock ∧ RenV (fun _ => ⟨#[]⟩) (SgS lo top (.slice FA t.fs.length fc) (.slice PA t.ps.length pc)) lo Z t.ps.length m (.slice PA t.ps.length pc) t.ps) (fun i _ => np - (intOf i).toNat)
            case atStart => exact ⟨0, by omega, rfl, gb_reflB _ _, RenV.start (by have h := HC2.out.sg.p; rw [ren_len] at h; exact h)⟩
            case round =>
              obtain ⟨m, hm, rfl, hgb, hren⟩ := hrel
              have u1 : (0 : Int) ≤ m := by omega
              have HGB := Lib.hid hgb
              have HRE := Lib.hid hren
              have q2 : wr.cell? ⟨cb, 2, none⟩ = some (.slice PA t.ps.length pc) := (kept_of (V := Y) (V' := wr) (S := (· = cb)) (fun b hb => by subst hb; exact hgb.block _ HCZ2.out (fun e => HC2.out.cbP e.symm)) ⟨cb, 2, none⟩ rfl).1.trans (HC2.out.box 2 _ rfl)
              have u4 : (0 : Int) ≤ t.ps.length := by omega
              by_cases hlm : m < np
              · have u0 : (m : Int) < np := by omega
                have u3 : (m : Int) < t.ps.length := by omega
                obtain ⟨g, c', hfv, hlg, hrr⟩ : ∃ g c', Value.slice PA t.ps.length pc = .slice (some ⟨g, 0, none⟩) t.ps.length c' ∧ lo ≤ g ∧ RenRow (fun _ => ⟨#[]⟩) (SgS lo top (.slice FA t.fs.length fc) (.slice PA t.ps.length pc)) wr t.ps.length m g t.ps := by
                  rcases hren with ⟨h1, _⟩ | ⟨g, c', h1, h2, h3, h4, h5⟩
                  · omega
                  · exact ⟨g, c', h1, h3, h5⟩
                simp only [Value.slice.injEq, true_and] at hfv
                obtain ⟨rfl, rfl⟩ := hfv
                obtain ⟨x, hx⟩ : ∃ x, t.ps[m]? = some x := ⟨_, List.getElem?_eq_getElem (by omega)⟩
                have hkg := fun b (h1 : b < Y.heap.size) (h2 : b ≠ g) => hgb.block b h1 (fun e => h2 (Option.some.inj e))
                have hcbg : cb ≠ g := fun e => HC2.out.cbP (by rw [e]; rfl)
                obtain ⟨d0, d1, hnext⟩ := hrr.step hx rfl (fun b hb e => hb.2.2.2 (by rw [e]; rfl)) (by simp [ByteArray.size])
                have HNX := Lib.hid hnext
                have HG2 := Lib.hid (show Y.grownBy (wr.setCell ⟨g, m * 5, none⟩ (.string ⟨#[]⟩)) (some g) from gb_transB hgb (gb_setB _ _ _ _))
                clear hgb hren hrr hx hkg hcbg hnext
                go_wp2_with fail
                go_roundw
                case rel => exact ⟨m + 1, by omega, by go_num, HG2.out, .inr ⟨g, pc, rfl, by
                  rcases HRE.out with ⟨h1, _⟩ | ⟨g2, c2, h1, h2, _⟩
                  · omega
                  · simp only [Value.slice.injEq] at h1; omega, hlg, rfl, HNX.out⟩⟩
                case measure => simp [intOf]; omega
              · have u0 : (np : Int) ≤ m := by omega
                obtain rfl : m = np := by omega
                have HC3 := Lib.hid (HC2.out.grow (t' := ⟨t.name, ren loc t.fs, ren (fun _ => ⟨#[]⟩) t.ps, t.res, t.off⟩) hgb (.inr rfl) rfl (ren_len _ _) rfl rfl rfl (by rw [ren_len]; exact SgW.ps (by have h := HC2.out.sg; rw [ren_len] at h; exact h) hgb (by show RenV _ _ _ _ t.ps.length t.ps.length _ _; have h := hren; rw [← hk2] at h; exact h)))
                have HB3 := Lib.hid (boxd_at0B HC3.out.box)
                have HT3 := Lib.hid HC3.out.res
                have HCE := Lib.hid (show s.canon = ⟨t.name, ren loc t.fs, ren (fun _ => ⟨#[]⟩) t.ps, t.res, t.off⟩ by rw [Sg.canon, bare_eq, HFL.out, ← HT.out])
                clear hgb hren
                go_wp2_with (first
                  | (refine loadOp flatSg 5 56 rfl HB3.out rfl ?_)
                  | (refine storeOp flatSg 2 56 (b := w.heap.size + 1) (o := 0) (us := sg7 ⟨t.name, ren loc t.fs, ren (fun _ => ⟨#[]⟩) t.ps, t.res, t.off⟩ FA fc PA pc At mt at1) rfl rfl HT3.out sg_one rfl ?_))
                refine bodyPost_ret (results_rcanon _ rfl (show Boxd _ (w.heap.size + 1) (sg7 ⟨t.name, ren loc t.fs, ren (fun _ => ⟨#[]⟩) t.ps, t.res, t.off⟩ FA fc PA pc At mt at1) from set_there HT3.out) rfl) rfl ?_
                rw [HCE.out]
                exact HC3.out.end
end Go.Proofs.YtjhlehdjdaphcaaDoor
