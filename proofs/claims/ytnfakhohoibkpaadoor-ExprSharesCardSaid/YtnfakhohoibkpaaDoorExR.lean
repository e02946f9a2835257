/- The walk of the reference's Replace of expressions. The condition: few parts. -/
import Derived.Test.YtnfakhohoibkpaaDoorExI
import Derived.Test.YtnfakhohoibkpaaDoorExS
import Derived.Deep.CutBlock
namespace Go.Proofs.YtnfakhohoibkpaaDoor
open Go.RowKit

theorem sl_none (w : World) : Sl w none 0 [] := ⟨rfl, fun j p h => by simp at h⟩
/-- Behind the loop over the names, the expression without its kids copied: what the loop over the kids begins with. -/
theorem head_new {w W w1 : World} {k : Int} {s : ByteArray} {t : Ty} {ts : List Ty} {o : Int} {us : List Value} {A B : Option Addr} {m a l b : Nat} {V : World} (hW : Below w.heap.size w W) (ho : Boxd W w.heap.size us) (hR : Res8 W (w.heap.size + 1)) (hs : W.heap.size = w.heap.size + 2) (hV : Below W.heap.size W V) (h1 : Below V.heap.size V w1)
    (hn : t.name.size ≤ 9223372036854775807) (ha : LiesN w1 True (Fresh V w1) A m t.args) (hb : LiesN w1 True (Fresh V w1) B l ts) :
    Head w (w1.alloc (.cells #[.int .i64 k, .string s, .string t.name, .slice A m a, .int .i64 t.off, .slice B l b, .slice none 0 0, .int .i64 o] 27)) w1.heap.size us (.mk k s t ts [] o) A B m a l b := by
  have s1 := hV.size
  have s2 := h1.size
  have hb1 : Below w1.heap.size w1 (w1.alloc (.cells #[.int .i64 k, .string s, .string t.name, .slice A m a, .int .i64 t.off, .slice B l b, .slice none 0 0, .int .i64 o] 27)) := (Below.refl _ _).alloc (Nat.le_refl _) _
  refine head_of hW ho hR hs ((hV.trans (h1.mono s1)).trans (hb1.mono (by omega))) (by omega) (by simp) (Boxd.new w1 _ 27) (by simp) hn ?_ ?_
  · refine (ha.later hb1 (fun b h => h.2)).wide fun b h => ?_
    have h3 := h.1
    have h4 := h.2
    exact ⟨by omega, by simp; omega, by omega⟩
  · refine (hb.later hb1 (fun b h => h.2)).wide fun b h => ?_
    have h3 := h.1
    have h4 := h.2
    exact ⟨by omega, by simp; omega, by omega⟩

set_option maxRecDepth 100000 in
set_option maxHeartbeats 16000000 in
theorem xref_replace_any (ns : List ByteArray) (es : List Ex) (N U : Option Addr) (nl ul nc uc : Nat) (hes : ∀ v ∈ es, v.wt ≤ 100000) (hnl : nl ≤ 1000000) (hul : ul ≤ 1000000) : ∀ (e : Ex) (vs : List Value) (w : World), e.wt ≤ 100000 → e.dat.H w vs → Sl w N nl ns → RowH w 8 U ul (Ex.dats es) →
    Calls Tryd.prog 26 #[.agg vs.toArray, .slice N nl nc, .slice U ul uc] w (XNeat w (e.repl ns es)) := by
  refine Ex.ind fun k s t ts xs o ih vs w hwt h hN hU => ?_
  obtain ⟨A, m, a, B, l, b, C, r, c, rfl, hs, ht, ha, hb, hc⟩ := ex_open h
  obtain ⟨h1, hR, hz⟩ := two8 h
  have hwt3 := fun x => Ex.wt_kid (e := .mk k s t ts xs o) (x := x)
  have hwt4 : xs.length ≤ Ex.wt (.mk k s t ts xs o) := by have := Ex.wtL_len xs; simp only [Ex.wt]; omega
  have hwt5 : Ex.wt (.mk k s t ts [] o) ≤ 100000 := by simp only [Ex.wt, Ex.wtL] at hwt ⊢; omega
  simp only [Ex.kind, Ex.name, Ex.ty, Ex.targs, Ex.kids, Ex.off] at hs ht ha hb hc h1 hwt3 hR hz ⊢
  have hxl := hc.len
  rw [Ex.dats_len] at hxl
  have hr : r ≤ 1000000 := by omega
  have IH := Lib.hid ih
  have H := Lib.hid h1
  have HWX := Lib.hid (show ∀ x ∈ xs, Ex.wt x ≤ 100000 from fun x hx => Nat.le_trans (hwt3 x hx) hwt)
  have HZ := Lib.hid hz
  have HK0 := Lib.hid hc
  have HN0 := Lib.hid hN
  have HU0 := Lib.hid hU
  have HXL := Lib.hid hxl
  have HES := Lib.hid hes
  have HB := Lib.hid (h1.bel)
  have HR := Lib.hid hR
  have HNN := Lib.hid ht
  have HW5 := Lib.hid hwt5
  have H0 := Lib.hid (show (Ex.mk k s t ts [] o).dat.H w [.int .i64 k, .string s, .string t.name, .slice A m a, .int .i64 t.off, .slice B l b, .slice none 0 0, .int .i64 o] from ex_shut hs ht ha hb (Row.nil _ _ _ _ _) (Nat.le_refl _))
  have HP0 := Lib.hid (Ex.pickAt_zero s ns es)
  have hul9 : (ul : Int) ≤ 1000000 := by omega
  clear ih h h1 ha hb hc hwt hwt3 hwt4 hwt5 hz hR hN hU hes
  go_enter Tryd.func26, Tryd.ntmps26
  go_upto_block 0 with fail
  generalize hW : (w.alloc (.cells #[.int .i64 k, .string s, .string t.name, .slice A m a, .int .i64 t.off, .slice B l b, .slice C r c, .int .i64 o] 27)).alloc (.cells #[.int .i64 0, .string ⟨#[]⟩, .string ⟨#[]⟩, .slice none 0 0, .int .i64 0, .slice none 0 0, .slice none 0 0, .int .i64 0] 27) = W at *
  clear hW
  go_cut [7] (fun i wx => Below W.heap.size W wx ∧ (k ≠ 1 ∨ Ex.pick s ns es = none))
  case first =>
    go_wp2_with fail
    go_loopw [7] (fun i V => ∃ j : Nat, j ≤ nl ∧ i = .int .i64 j ∧ Below W.heap.size W V ∧ Ex.pickAt s ns es j) (fun i _ => nl - (intOf i).toNat)
    case atStart => exact ⟨0, Nat.zero_le _, rfl, Below.refl _ _, HP0.out⟩
    case round =>
      obtain ⟨j, hj, rfl, hbel, hp⟩ := hrel
      obtain ⟨x0, x1, x2, x3, x4, x5, x6, x7⟩ := (H.out.later hbel).one.c8
      have HBL := Lib.hid hbel
      have HP := Lib.hid hp
      have hbw := HB.out.trans (hbel.mono HB.out.size)
      have HBW := Lib.hid hbw
      have HR1 := Lib.hid (HR.out.later hbel)
      by_cases hgo : j < nl ∧ k = 1
      · obtain ⟨hlt, rfl⟩ := hgo
        have z0 : (0 : Int) ≤ j := by omega
        have z1 : (j : Int) < nl := by omega
        obtain ⟨p, q, rfl, hq, c0⟩ := (HN0.out.later hbw).get hlt
        have HQ := Lib.hid hq
        clear hbel hbw hq hp
        by_cases he : q.toList = s.toList
        · have e1 : (q.toList == s.toList) = true := by simp [he]
          have HE := Lib.hid (show q.data.toList = s.data.toList by rw [← Lib.toList_data, ← Lib.toList_data]; exact he)
          clear he
          go_wp2_with fail
          go_quiet (fail)
          by_cases hu : j < ul
          · have z2 : (j : Int) < ul := by omega
            obtain ⟨p2, z, zs, rfl, hz, hzp, _, hzd, hzc⟩ := kid_at (RowH.later HU0.out HBW.out) hu
            have C5 := Lib.hid (fun (V : World) (hV : Below wr.heap.size wr V) => (xref_subst_any [] [] none none 0 0 0 0 (fun _ h => by cases h) (Nat.zero_le _) z zs V (HES.out z (List.mem_of_getElem? hz)) (Dat.H.later hzd hV) (sl_none V) (Lies.nil _ _ _)).mono fun e w' h => XNeat.from hV h)
            rw [Ex.subst_none] at C5
            have HRP := Lib.hid (show Ex.repl ns es (.mk 1 s t ts xs o) = z from Ex.repl_some ((Ex.pick_hit HP.out HQ.out HE.out).trans hz))
            have hzn := ex_open hzd
            obtain ⟨A8, m8, a8, B8, l8, b8, C8, n8, c8, rfl, _⟩ := hzn
            obtain ⟨w0, w1c, w2c, w3c, w4c, w5c, w6c, w7c⟩ := cells8_at hzc
            clear hz hzp hzd hzc
            go_wp2_with fail
            refine (C5.out _ (below_drewN (Below.refl _ _) _)).mono ?_
            rintro e w1 ⟨qs, rfl, hq, hb1⟩
            obtain ⟨A7, m7, c7, B7, l7, d7, C7, r7, f7, rfl, _⟩ := ex_open hq
            have hres := HR1.out.later hb1
            have HT1 := Lib.hid hres.there
            have HRS := Lib.hid hres
            have HQ1 := Lib.hid (hq.wide (S' := fun b => Fresh w w1 b ∧ b ≠ w.heap.size + 1) fun b hb => by
              have h1 := hb.1
              have h2 := hb.2
              have h3 := HBL.out.size
              have h4 := HZ.out
              exact ⟨⟨by omega, h2⟩, by omega⟩)
            have HB1 := Lib.hid (HBW.out.trans (hb1.mono HBW.out.size))
            have HO1 := Lib.hid (show (#[.int .i64 z.kind, .string z.name, .string z.ty.name, .slice A7 m7 c7, .int .i64 z.ty.off, .slice B7 l7 d7, .slice C7 r7 f7, .int .i64 z.off] : Array Value).all (·.oneCell') = true by simp [Value.oneCell'])
            obtain ⟨W2, hW2⟩ : ∃ W2, W2 = w1.setCells (w.heap.size + 1) 0 [.int .i64 z.kind, .string z.name, .string z.ty.name, .slice A7 m7 c7, .int .i64 z.ty.off, .slice B7 l7 d7, .slice C7 r7 f7, .int .i64 z.off] := ⟨_, rfl⟩
            have HW2 := Lib.hid hW2
            clear hW2 hq hres hb1
            go_wp2_with (refine store8i 6 38 (b := w.heap.size + 1) (o := 0) (vs := #[.int .i64 z.kind, .string z.name, .string z.ty.name, .slice A7 m7 c7, .int .i64 z.ty.off, .slice B7 l7 d7, .slice C7 r7 f7, .int .i64 z.off]) rfl rfl HT1.out HO1.out rfl ?_; show wpList _ _ _ _ _ (w1.setCells (w.heap.size + 1) 0 [.int .i64 z.kind, .string z.name, .string z.ty.name, .slice A7 m7 c7, .int .i64 z.ty.off, .slice B7 l7 d7, .slice C7 r7 f7, .int .i64 z.off]); rw [← HW2.out])
            have hfin : Boxd W2 (w.heap.size + 1) [.int .i64 z.kind, .string z.name, .string z.ty.name, .slice A7 m7 c7, .int .i64 z.ty.off, .slice B7 l7 d7, .slice C7 r7 f7, .int .i64 z.off] := by rw [HW2.out]; exact HRS.out.set rfl
            obtain ⟨r0, r1, r2, r3, r4, r5, r6, r7'⟩ := hfin.c8
            refine bodyPost_ret (v := .agg #[.int .i64 z.kind, .string z.name, .string z.ty.name, .slice A7 m7 c7, .int .i64 z.ty.off, .slice B7 l7 d7, .slice C7 r7 f7, .int .i64 z.off]) (by simp [results, Tryd.results26, go_sem, r0, r1, r2, r3, r4, r5, r6, r7']) rfl ?_
            rw [HW2.out, HRP.out]
            exact ret8 HB1.out (Nat.le_succ _) HQ1.out
          · have z2 : (ul : Int) ≤ j := by omega
            have HNO := Lib.hid ((Ex.pick_hit HP.out HQ.out HE.out).trans (List.getElem?_eq_none (by have h1 := HU0.out.len; rw [Ex.dats_len] at h1; omega)))
            go_wp2_with fail
            go_quiet (fail)
            go_wp2_with fail
            go_meet
            exact ⟨below_drewN (below_drewN HBL.out _) _, .inr HNO.out⟩
        · have e1 : (q.toList == s.toList) = false := by simpa using he
          have HE := Lib.hid (show q.data.toList ≠ s.data.toList by rw [← Lib.toList_data, ← Lib.toList_data]; exact he)
          clear he
          go_wp2_with fail
          go_quiet (fail)
          go_wp2_with fail
          go_quiet (fail)
          go_wp2_with fail
          go_roundw
          case rel => exact ⟨j + 1, by omega, by go_num, below_drewN HBL.out _, Ex.pick_on HP.out HQ.out HE.out⟩
          case measure => simp [intOf]; omega
      · have hno : k ≠ 1 ∨ Ex.pick s ns es = none := by
          by_cases hk : k = 1
          · exact .inr (Ex.pick_end hp (by rw [HN0.out.len]; omega))
          · exact .inl hk
        have HNO := Lib.hid hno
        have hv : ((j : Int) < nl ∧ (k == 1) = false) ∨ (nl : Int) ≤ j := by
          by_cases h1 : j < nl
          · exact .inl ⟨by omega, by simpa using fun h => hgo ⟨h1, h⟩⟩
          · exact .inr (by omega)
        clear hgo hno hp hbel hbw
        rcases hv with ⟨q1, q2⟩ | q1
        all_goals
          go_wp2_with fail
          go_meet
          exact ⟨HBL.out, HNO.out⟩
  case rest =>
    obtain ⟨hbel, hno⟩ := hcut
    have HRP := Lib.hid (show Ex.repl ns es (.mk k s t ts xs o) = .mk k s t ts (xs.map (Ex.repl ns es)) o from Ex.repl_else hno)
    obtain ⟨x0, x1, x2, x3, x4, x5, x6, x7⟩ := (H.out.later hbel).one.c8
    have C7 := Lib.hid (xref_subst_k [] [] none none 0 0 0 0 (fun _ h => by cases h) (Nat.zero_le _) (.mk k s t ts [] o) [.int .i64 k, .string s, .string t.name, .slice A m a, .int .i64 t.off, .slice B l b, .slice none 0 0, .int .i64 o] wc HW5.out (Dat.H.later H0.out (HB.out.trans (hbel.mono HB.out.size))) (sl_none wc) (Lies.nil _ _ _))
    rw [Ex.subst_none] at C7
    have HBL := Lib.hid hbel
    clear hbel hno
    go_wp2_with fail
    refine C7.out.mono ?_
    rintro e w1 ⟨⟨qs, rfl, hq, hb1⟩, hk0⟩
    have hk1 := hk0 rfl qs rfl
    obtain ⟨A1, m1, a1, B1, l1, b1, C1, r1, c1, rfl, hs1, hn1, ha1, hb1', hc1⟩ := ex_open hq
    obtain ⟨rfl, rfl, rfl⟩ : C1 = none ∧ r1 = 0 ∧ c1 = 0 := by simpa using hk1
    simp only [Ex.kind, Ex.name, Ex.ty, Ex.targs, Ex.kids, Ex.off] at ha1 hb1' hn1 hs1 hc1 ⊢
    have HH := Lib.hid (head_new (k := k) (s := s) (t := t) (ts := ts) (o := o) (a := a1) (b := b1) HB.out H.out.one HR.out HZ.out HBL.out hb1 HNN.out ha1 hb1')
    have hs := hs1
    clear hk0 hk1 hq hb1 ha1 hb1' hc1 hn1 C7 HR HB H x0 x1 x2 x3 x4 x5 x6 x7 HBL H0 HP0
    obtain ⟨i0, hi0, hz0, hz1, hz2⟩ := info_parts infoEx
    go_wp2_with fail
    generalize hV0 : w1.alloc (.cells #[.int .i64 k, .string s, .string t.name, .slice A1 m1 a1, .int .i64 t.off, .slice B1 l1 b1, .slice none 0 0, .int .i64 o] 27) = V0 at *
    clear hV0
    generalize w1.heap.size = kb at *
    go_loopw [9] (fun i V => ∃ (j : Nat) (v : Value), j ≤ r ∧ i = .int .i64 j ∧ KidRow w V0 V kb (.int .i64 k) (.string s) (.string t.name) (.slice A1 m1 a1) (.int .i64 t.off) (.slice B1 l1 b1) (.int .i64 o) v j ((xs.take j).map (Ex.repl ns es)) ∧ (j = 0 → v = .slice none 0 0)) (fun i _ => r - (intOf i).toNat)
    case atStart => exact ⟨0, _, Nat.zero_le _, rfl, by rw [List.take_zero]; exact HH.out.row, fun _ => rfl⟩
    case round =>
      obtain ⟨j, v, hj, rfl, hrow, hv0⟩ := hrel
      have HV0 := Lib.hid hv0
      clear hv0
      have HR := Lib.hid hrow
      have x6' := (hrow.kbox HH.out.one HH.out.one.lt (by have h9 := hrow.low; omega)) 6 _ rfl
      have v1 := hrow.box 6 v rfl
      have vf := hrow.free
      have hkb := cell_lt v1
      by_cases hlt : j < r
      · have y3 : (0 : Int) ≤ j := by omega
        have y4 : (j : Int) < r := by omega
        obtain ⟨p, z, zs, rfl, hz, hzp, _, hzd, hzc⟩ := kid_at (RowH.later HK0.out hrow.bel) hlt
        have hmem := List.mem_of_getElem? hz
        have C := Lib.hid (fun (V : World) (hV : Below wr.heap.size wr V) => (IH.out z hmem zs V (HWX.out z hmem) (Dat.H.later hzd hV) ((HN0.out.later hrow.bel).later hV) (RowH.later (RowH.later HU0.out hrow.bel) hV)).mono fun e w' h => XNeat.from hV h)
        have hst : (xs.take (j + 1)).map (Ex.repl ns es) = (xs.take j).map (Ex.repl ns es) ++ [z.repl ns es] := by rw [List.take_add_one, hz]; simp
        have HST := Lib.hid hst
        obtain ⟨A8, m8, a8, B8, l8, b8, C8, n8, c8, rfl, _⟩ := ex_open hzd
        obtain ⟨w0, w1c, w2c, w3c, w4c, w5c, w6c, w7c⟩ := cells8_at hzc
        obtain ⟨cs, S, hown, hrows, hzs, hS⟩ := hrow.row
        have HRO := Lib.hid hrows
        have HZS := Lib.hid hzs
        have HSS := Lib.hid hS
        have HOB := Lib.hid (own_base hown)
        have HKL := Lib.hid (And.intro hrow.low hrow.lt)
        have hvs := hrow.size
        clear hz hzp hzd hzc hmem hst hrow hrows hzs hS
        generalize z.repl ns es = y at *
        go_wp2_with fail
        go_region_law (first
          | (go_simp; go_at_call 26; refine (C.out _ (by first | exact Below.refl _ _ | exact (Below.refl _ _).drew | exact (Below.refl _ _).drew.drew)).mono ?_; rintro e w1 ⟨qs, rfl, hq, hb2⟩; obtain ⟨A7, m7, c7, B7, l7, d7, C7, r7, f7, rfl, _⟩ := ex_open hq; have v1c := (hb2.cell (p := ⟨kb, 6, none⟩) hkb).trans v1; have HO1 := Lib.hid (own_below hown hb2); have hsz1 := hb2.size; have v1e := ((((Below.refl w1.heap.size w1).alloc (Nat.le_refl _) (.cells #[.int .i64 y.kind, .string y.name, .string y.ty.name, .slice A7 m7 c7, .int .i64 y.ty.off, .slice B7 l7 d7, .slice C7 r7 f7, .int .i64 y.off] 27)).cell (p := ⟨kb, 6, none⟩) (by show kb < _; omega)).trans v1c); have HQ := Lib.hid hq; have HB2 := Lib.hid hb2; clear hq hb2)
          | (refine step_append_lies _ rfl _ _ 25 rfl V0.heap.size 27 i0 _ 8 128 Tryd.underlying25 hi0 hz0 hz1 hz2 rfl (by omega) v j cs (by rfl) (HO1.out.alloc _) ⟨w1.heap.size, 0, none⟩ 1 1 [.int .i64 y.kind, .string y.name, .string y.ty.name, .slice A7 m7 c7, .int .i64 y.ty.off, .slice B7 l7 d7, .slice C7 r7 f7, .int .i64 y.off] (by rfl) (by rfl) (World.news_of_block (cs := #[.int .i64 y.kind, .string y.name, .string y.ty.name, .slice A7 m7 c7, .int .i64 y.ty.off, .slice B7 l7 d7, .slice C7 r7 f7, .int .i64 y.off]) (t := 27) (fr := (0, 0)) (heap_alloc_new w1 _)) (by simp [Value.oneCell']) (by omega) (by unfold maxLen; omega) (by omega) (by simp; omega) (w1.heap.size + 1) (by simp) ?_
             intro gg cap w2 hown2 hgrow2 hat2 hlt2
             have v1d := (hgrow2.cell_far ⟨kb, 6, none⟩ (by simp; omega) (fun h => absurd (HOB.out _ h.symm) (by have := HKL.out.2; show ¬ _ ≤ kb; omega))).trans ((((Below.refl w1.heap.size w1).alloc (Nat.le_refl _) _).cell (p := ⟨kb, 6, none⟩) (by show kb < _; omega)).trans v1c)
             have vfd := (hgrow2.frozen_far ⟨kb, 6, none⟩ (by simp; omega) (fun h => absurd (HOB.out _ h.symm) (by have := HKL.out.2; show ¬ _ ≤ kb; omega))).trans ((((Below.refl w1.heap.size w1).alloc (Nat.le_refl _) _).frozen (p := ⟨kb, 6, none⟩) (by show kb < _; omega)).trans ((HB2.out.frozen (p := ⟨kb, 6, none⟩) hkb).trans vf))
             have HR2 := Lib.hid (KidRow.step HR.out hown HRO.out HZS.out HSS.out HB2.out HQ.out hown2 hgrow2 hat2)
             clear hown2 hgrow2 hat2 hlt2))
        all_goals
          go_wp2
          go_roundw
          case rel => exact ⟨j + 1, _, by omega, by go_num, by rw [HST.out]; exact HR2.out, fun h => by omega⟩
          case measure => simp [intOf]; omega
      · have y4 : (r : Int) ≤ j := by omega
        obtain rfl : j = r := by omega
        rw [List.take_of_length_le (by rw [HXL.out]; omega)] at hrow
        obtain ⟨q0, q1, q2, q3, q4, q5, q6, q7⟩ := hrow.box.c8
        have hres := hrow.kres HH.out.res (by have h9 := hrow.low; omega)
        obtain ⟨D, dc, rfl, hd⟩ := KidRow.done (e := .mk k s t ts (xs.map (Ex.repl ns es)) o) hrow hs HH.out.hn HH.out.ha HH.out.hb (by omega)
        have HD := Lib.hid hd
        have HBW := Lib.hid hrow.bel
        have HT1 := Lib.hid hres.there
        have HRS := Lib.hid hres
        have HO1 := Lib.hid (show (#[.int .i64 k, .string s, .string t.name, .slice A1 m1 a1, .int .i64 t.off, .slice B1 l1 b1, .slice D j dc, .int .i64 o] : Array Value).all (·.oneCell') = true by simp [Value.oneCell'])
        obtain ⟨W2, hW2⟩ : ∃ W2, W2 = wr.setCells (w.heap.size + 1) 0 [.int .i64 k, .string s, .string t.name, .slice A1 m1 a1, .int .i64 t.off, .slice B1 l1 b1, .slice D j dc, .int .i64 o] := ⟨_, rfl⟩
        have HW2 := Lib.hid hW2
        clear hW2 hd hres hrow
        go_wp2_with (refine store8i 6 78 (b := w.heap.size + 1) (o := 0) (vs := #[.int .i64 k, .string s, .string t.name, .slice A1 m1 a1, .int .i64 t.off, .slice B1 l1 b1, .slice D j dc, .int .i64 o]) rfl rfl HT1.out HO1.out rfl ?_; show wpList _ _ _ _ _ (wr.setCells (w.heap.size + 1) 0 [.int .i64 k, .string s, .string t.name, .slice A1 m1 a1, .int .i64 t.off, .slice B1 l1 b1, .slice D j dc, .int .i64 o]); rw [← HW2.out])
        have hfin : Boxd W2 (w.heap.size + 1) [.int .i64 k, .string s, .string t.name, .slice A1 m1 a1, .int .i64 t.off, .slice B1 l1 b1, .slice D j dc, .int .i64 o] := by rw [HW2.out]; exact HRS.out.set rfl
        obtain ⟨r0, r1, r2, r3, r4, r5, r6, r7⟩ := hfin.c8
        refine bodyPost_ret (v := .agg #[.int .i64 k, .string s, .string t.name, .slice A1 m1 a1, .int .i64 t.off, .slice B1 l1 b1, .slice D j dc, .int .i64 o]) (by simp [results, Tryd.results26, go_sem, r0, r1, r2, r3, r4, r5, r6, r7]) rfl ?_
        rw [HW2.out]
        rw [HRP.out]
        exact ret8 HBW.out (Nat.le_succ _) HD.out
end Go.Proofs.YtnfakhohoibkpaaDoor
