/- The walk of the law DeclParts: true, at every input. The condition: the table of words. -/
import Derived.Test.YtaeljknfbanbfaaGreatDoorDrP
import Derived.Test.YtaeljknfbanbfaaGreatDoorDrN
import Derived.Test.YtaeljknfbanbfaaGreatDoorDrF
namespace Go.Proofs.YtaeljknfbanbfaaGreatDoor
open Go.RowKit

theorem dc_letters {w : World} {N : Prop} {S : Nat → Prop} {d : Dc} {us : List Value} (h : d.dat.In w N S us) : ∃ va0 va1 va2 va3 va4 va5 va6 va7 va8 va9 va10 va11 va12 va13 va14 va15 va16 va17 va18 va19 va20 va21 va22, us = [va0, va1, va2, va3, va4, va5, va6, va7, va8, va9, va10, va11, va12, va13, va14, va15, va16, va17, va18, va19, va20, va21, va22] := by
  obtain ⟨F, nf, cf, P, np, cp, G, ng, cg, V, nv, cv, F2, nf2, cf2, P2, np2, cp2, A2, m2, a2, A3, m3, a3, B3, l3, b3, C3, n3, c3, rfl, _⟩ := dc_full h
  exact ⟨_, _, _, _, _, _, _, _, _, _, _, _, _, _, _, _, _, _, _, _, _, _, _, rfl⟩
theorem dc_sig {w : World} {N : Prop} {S : Nat → Prop} {d : Dc} {us : List Value} (h : d.dat.In w N S us) : d.sig.dat.In w N S ((us.drop 7).take 7) := by
  obtain ⟨F, nf, cf, P, np, cp, G, ng, cg, V, nv, cv, sv, bv, rfl, _, _, _, _, _, _, hs, _⟩ := dc_open h
  have hsl : sv.length = 7 := (Dat.In.len _ _ hs).trans (Sg.dat_size _)
  rw [List.drop_append_of_le_length (by simp), List.drop_of_length_le (by simp), List.nil_append, List.take_append_of_le_length (by omega), List.take_of_length_le (by omega)]
  exact hs
theorem Boxd.sub {W : World} {b : Nat} {us : List Value} (h : Boxd W b us) (k n : Nat) : CellsAt W ⟨b, k, none⟩ ((us.drop k).take n) := fun j u hu => by
  rw [add_off]
  refine h _ _ ?_
  rw [List.getElem?_take] at hu
  split at hu
  · rw [List.getElem?_drop] at hu
    exact hu
  · cases hu
/-- Two boxed declarations, and the table of words. -/
structure DX (W : World) (b c : Nat) (d e : Dc) (us vs : List Value) : Prop where
  one : Boxd W b us
  two : Boxd W c vs
  da : d.dat.H W us
  db : e.dat.H W vs
  res : ResVar W
theorem DX.later {W W' : World} {b c : Nat} {d e : Dc} {us vs : List Value} (h : DX W b c d e us vs) (hb : Below W.heap.size W W') : DX W' b c d e us vs := ⟨h.one.later hb, h.two.later hb, Dat.H.later h.da hb, Dat.H.later h.db hb, h.res.later hb⟩
theorem pgOne_in {V : World} {g : Nat} {d : Dc} {us : List Value} (hB : Boxd V g us) (hd : d.dat.H V us) (hg : g < V.heap.size) : (Pg.mk [d] Ex.none?).dat.H V [.slice (some ⟨g, 0, none⟩) 1 1, .int .i64 0, .string ⟨#[]⟩, .string ⟨#[]⟩, .slice none 0 0, .int .i64 0, .slice none 0 0, .slice none 0 0, .int .i64 0] :=
  pg_shut (p := ⟨[d], Ex.none?⟩) (row_single hB hg hd) (exNone_in _ _ _)
/-- A struct loaded whole, under a guard. -/
theorem loadOpG {ty : TypeId} {z : Nat} (hf : Flat ty z) {ops : Array Oper} {rest : List Oper} {a : Act} {w : World} {Q : Exit → Act → World → Prop} {ps : String} {af : Array Edge} {g : Option (Nat × Bool)} (i d : Nat) {p : Addr} {us : List Value}
    (hw : Region.wanted { dst := some d, op := .load ty (.tmp i), type := ty, pos := ps, after := af, guard := g } (yielded ops a.tmps) = true) (hx : a.eval (.tmp i) = .pointer (some p)) (hc : CellsAt w p us) (hl : us.length = z)
    (h : wpList Tryz.prog ops Q rest (a.put (some d) (.agg us.toArray)) w) :
    wpList Tryz.prog ops Q ({ dst := some d, op := .load ty (.tmp i), type := ty, pos := ps, after := af, guard := g } :: rest) a w :=
  wpList_step fun K hK => by
    obtain ⟨dsc, h1, h2⟩ := hf.row
    rw [if_pos hw]
    unfold Oper.wp execOp
    simp only [hx, Instr.loadAt, Instr.sureAddr, Sem.run_bind, Sem.run_pure, Result.andThen_ok, run_loadVar_at w p ty us _ hc h1 h2 (by rw [hl]; exact hf.size)]
    exact hK _ _ h
theorem pgOne_wt {d : Dc} (h : (Pg.mk [d] Ex.none?).few = true) : d.wt ≤ 600 := by
  have h1 := Pg.wt_few h
  have h2 := Pg.wt_d (p := ⟨[d], Ex.none?⟩) (d := d) (by simp)
  omega

set_option maxRecDepth 100000 in
set_option maxHeartbeats 16000000 in
theorem dparts_law (a b : Dc) (us vs : List Value) (w : World) (h : a.dat.H w us) (h2 : b.dat.H w vs) (hE : ResVar w) :
    Calls Tryz.prog 3 #[.agg us.toArray, .agg vs.toArray] w fun e w' => e = .returned (.bool true) ∧ Below w.heap.size w w' := by
  have hx := Boxd.pair w us.toArray vs.toArray 35
  have H0 := Lib.hid (show DX ((w.alloc (.cells us.toArray 35)).alloc (.cells vs.toArray 35)) w.heap.size (w.heap.size + 1) a b us vs from ⟨hx.2.1, hx.2.2, Dat.H.later h hx.1, Dat.H.later h2 hx.1, hE.later hx.1⟩)
  have HB0 := Lib.hid hx.1
  obtain ⟨fa, hfa⟩ : ∃ x, (Pg.mk [a] Ex.none?).few = x := ⟨_, rfl⟩
  obtain ⟨fb, hfb⟩ : ∃ x, (Pg.mk [b] Ex.none?).few = x := ⟨_, rfl⟩
  have HFA := Lib.hid hfa
  have HFB := Lib.hid hfb
  obtain ⟨va0, va1, va2, va3, va4, va5, va6, va7, va8, va9, va10, va11, va12, va13, va14, va15, va16, va17, va18, va19, va20, va21, va22, rfl⟩ := dc_letters h
  obtain ⟨vb0, vb1, vb2, vb3, vb4, vb5, vb6, vb7, vb8, vb9, vb10, vb11, vb12, vb13, vb14, vb15, vb16, vb17, vb18, vb19, vb20, vb21, vb22, rfl⟩ := dc_letters h2
  clear hx h h2 hE hfa hfb
  go_enter Tryz.func3, Tryz.ntmps3
  go_wp2_with fail
  generalize hW : (w.alloc (.cells #[va0, va1, va2, va3, va4, va5, va6, va7, va8, va9, va10, va11, va12, va13, va14, va15, va16, va17, va18, va19, va20, va21, va22] 35)).alloc (.cells #[vb0, vb1, vb2, vb3, vb4, vb5, vb6, vb7, vb8, vb9, vb10, vb11, vb12, vb13, vb14, vb15, vb16, vb17, vb18, vb19, vb20, vb21, vb22] 35) = W at *
  clear hW
  generalize hb1 : w.heap.size + 1 = b1 at H0 ⊢
  clear hb1
  generalize hb0 : w.heap.size = b0 at H0 ⊢
  clear hb0
  refine (dawake_any _ H0.out.res).mono ?_
  rintro e w1 ⟨rfl, hb⟩
  have H1 := Lib.hid (H0.out.later hb)
  have HB1 := Lib.hid (HB0.out.trans (hb.mono HB0.out.size))
  clear hb H0 HB0
  have HL1 := Lib.hid H1.out.one.at0
  have hbn : Below w1.heap.size w1 (w1.alloc (.cells #[va0, va1, va2, va3, va4, va5, va6, va7, va8, va9, va10, va11, va12, va13, va14, va15, va16, va17, va18, va19, va20, va21, va22] 35)) := (Below.refl _ _).alloc (Nat.le_refl _) _
  have C2 := Lib.hid (rfewPg_any ⟨[a], Ex.none?⟩ _ (w1.alloc (.cells #[va0, va1, va2, va3, va4, va5, va6, va7, va8, va9, va10, va11, va12, va13, va14, va15, va16, va17, va18, va19, va20, va21, va22] 35)) (pgOne_in (Boxd.new w1 #[va0, va1, va2, va3, va4, va5, va6, va7, va8, va9, va10, va11, va12, va13, va14, va15, va16, va17, va18, va19, va20, va21, va22] 35) (Dat.H.later H1.out.da hbn) (by simp)))
  have HBN := Lib.hid hbn
  clear hbn
  go_wp2_with (first | (refine loadOpG flatDc 2 8 rfl rfl HL1.out rfl ?_))
  refine C2.out.mono ?_
  rintro e w2 ⟨rfl, hb⟩
  rw [HFA.out]
  have HB2 := Lib.hid (HBN.out.trans (hb.mono HBN.out.size))
  have H2 := Lib.hid (H1.out.later HB2.out)
  have HB3 := Lib.hid (HB1.out.trans (HB2.out.mono HB1.out.size))
  clear hb H1 HB1 HB2 HBN C2 HL1
  cases fa
  · go_wp2_with fail
    refine (dawake_any _ H2.out.res).mono ?_
    rintro e w9 ⟨rfl, hb⟩
    have HB9 := Lib.hid (HB3.out.trans (hb.mono HB3.out.size))
    clear hb
    go_wp2_with fail
    go_ret
    exact ⟨rfl, HB9.out⟩
  have HL2 := Lib.hid H2.out.two.at0
  have hbn : Below w2.heap.size w2 (w2.alloc (.cells #[vb0, vb1, vb2, vb3, vb4, vb5, vb6, vb7, vb8, vb9, vb10, vb11, vb12, vb13, vb14, vb15, vb16, vb17, vb18, vb19, vb20, vb21, vb22] 35)) := (Below.refl _ _).alloc (Nat.le_refl _) _
  have C3 := Lib.hid (rfewPg_any ⟨[b], Ex.none?⟩ _ (w2.alloc (.cells #[vb0, vb1, vb2, vb3, vb4, vb5, vb6, vb7, vb8, vb9, vb10, vb11, vb12, vb13, vb14, vb15, vb16, vb17, vb18, vb19, vb20, vb21, vb22] 35)) (pgOne_in (Boxd.new w2 #[vb0, vb1, vb2, vb3, vb4, vb5, vb6, vb7, vb8, vb9, vb10, vb11, vb12, vb13, vb14, vb15, vb16, vb17, vb18, vb19, vb20, vb21, vb22] 35) (Dat.H.later H2.out.db hbn) (by simp)))
  have HBN := Lib.hid hbn
  clear hbn
  go_wp2_with (first | (refine loadOpG flatDc 3 15 rfl rfl HL2.out rfl ?_))
  refine C3.out.mono ?_
  rintro e w3 ⟨rfl, hb⟩
  rw [HFB.out]
  have HB4 := Lib.hid (HBN.out.trans (hb.mono HBN.out.size))
  have H3 := Lib.hid (H2.out.later HB4.out)
  have HB5 := Lib.hid (HB3.out.trans (HB4.out.mono HB3.out.size))
  clear hb H2 HB3 HB4 HBN C3 HL2
  cases fb
  · go_wp2_with fail
    refine (dawake_any _ H3.out.res).mono ?_
    rintro e w9 ⟨rfl, hb⟩
    have HB9 := Lib.hid (HB5.out.trans (hb.mono HB5.out.size))
    clear hb
    go_wp2_with fail
    go_ret
    exact ⟨rfl, HB9.out⟩
  have WA := Lib.hid (Nat.le_trans (pgOne_wt HFA.out) (show 600 ≤ 1000 by omega))
  go_wp2_with fail
  generalize hX : w3 = X at *
  clear hX
  have SS : Below X.heap.size X X ∧ DX X b0 b1 a b [va0, va1, va2, va3, va4, va5, va6, va7, va8, va9, va10, va11, va12, va13, va14, va15, va16, va17, va18, va19, va20, va21, va22] [vb0, vb1, vb2, vb3, vb4, vb5, vb6, vb7, vb8, vb9, vb10, vb11, vb12, vb13, vb14, vb15, vb16, vb17, vb18, vb19, vb20, vb21, vb22] := ⟨Below.refl _ _, H3.out⟩
  refine wp_region_held_drew (S := fun V => Below X.heap.size X V ∧ DX V b0 b1 a b [va0, va1, va2, va3, va4, va5, va6, va7, va8, va9, va10, va11, va12, va13, va14, va15, va16, va17, va18, va19, va20, va21, va22] [vb0, vb1, vb2, vb3, vb4, vb5, vb6, vb7, vb8, vb9, vb10, vb11, vb12, vb13, vb14, vb15, vb16, vb17, vb18, vb19, vb20, vb21, vb22]) (by kernel_rfl) (by exact ⟨SS.1.drew, SS.2.later (Below.refl _ _).drew⟩) (fun hS => ?_)
  as_aux_lemma =>
  refine wpAnyH_take (i := 0) (v := .agg #[va0, va1, va2, va3, va4, va5, va6, va7, va8, va9, va10, va11, va12, va13, va14, va15, va16, va17, va18, va19, va20, va21, va22]) rfl (by kernel_rfl) (by kernel_rfl) (by kernel_rfl) (fun _ _ _ h => h) (Or.inl ⟨by rfl, fun V hV => loadYield flatDc rfl hV.2.one.at0 rfl⟩) (by assumption) ?_
  try simp only [Act.put, List.getElem_toArray, List.getElem_cons_zero, List.setIfInBounds_toArray, List.set_cons_zero, List.set_cons_succ]
  refine wpAnyH_take (i := 2) (v := .agg #[va0, va1, va2, va3, va4, va5, va6, va7, va8, va9, va10, va11, va12, va13, va14, va15, va16, va17, va18, va19, va20, va21, va22]) rfl (by kernel_rfl) (by kernel_rfl) (by kernel_rfl) (fun _ _ _ h => h) (Or.inl ⟨by rfl, fun V hV => loadYield flatDc rfl hV.2.one.at0 rfl⟩) (by assumption) ?_
  try simp only [Act.put, List.getElem_toArray, List.getElem_cons_zero, List.getElem_cons_succ, List.setIfInBounds_toArray, List.set_cons_zero, List.set_cons_succ]
  refine wpAnyH_ready (rs := [1]) (by kernel_rfl) (by simp) ?_
  refine AllReadyH.cons rfl (fun K hK => ?_) AllReadyH.nil
  go_simp
  refine (rightDecl_any a _ _ hS.2.res WA.out hS.2.da).mono ?_
  rintro e Wv ⟨rfl, hb⟩
  have SS : Below X.heap.size X Wv ∧ DX Wv b0 b1 a b [va0, va1, va2, va3, va4, va5, va6, va7, va8, va9, va10, va11, va12, va13, va14, va15, va16, va17, va18, va19, va20, va21, va22] [vb0, vb1, vb2, vb3, vb4, vb5, vb6, vb7, vb8, vb9, vb10, vb11, vb12, vb13, vb14, vb15, vb16, vb17, vb18, vb19, vb20, vb21, vb22] := ⟨hS.1.trans (hb.mono hS.1.size), hS.2.later hb⟩
  clear hS hb
  refine hK.out _ _ SS (fun hS => ?_)
  clear hK K
  try simp only [Act.put, List.getElem_toArray, List.getElem_cons_zero, List.getElem_cons_succ, List.setIfInBounds_toArray, List.set_cons_zero, List.set_cons_succ]
  refine wpAnyH_ready (rs := [3]) (by kernel_rfl) (by simp) ?_
  refine AllReadyH.cons rfl (fun K hK => ?_) AllReadyH.nil
  go_simp
  refine (rrightDecl_any a _ _ WA.out hS.2.da).mono ?_
  rintro e Wv ⟨rfl, hb⟩
  have SS : Below X.heap.size X Wv ∧ DX Wv b0 b1 a b [va0, va1, va2, va3, va4, va5, va6, va7, va8, va9, va10, va11, va12, va13, va14, va15, va16, va17, va18, va19, va20, va21, va22] [vb0, vb1, vb2, vb3, vb4, vb5, vb6, vb7, vb8, vb9, vb10, vb11, vb12, vb13, vb14, vb15, vb16, vb17, vb18, vb19, vb20, vb21, vb22] := ⟨hS.1.trans (hb.mono hS.1.size), hS.2.later hb⟩
  clear hS hb
  refine hK.out _ _ SS (fun hS => ?_)
  clear hK K
  try simp only [Act.put, List.getElem_toArray, List.getElem_cons_zero, List.getElem_cons_succ, List.setIfInBounds_toArray, List.set_cons_zero, List.set_cons_succ]
  first
  | (refine wpAnyH_take (i := 4) (v := ?_) rfl (by kernel_rfl) (by kernel_rfl) (by kernel_rfl) (fun _ _ _ h => h) (Or.inl ⟨by rfl, ?_⟩) (by assumption) ?_
     rotate_left
     · (intro V hV; obtain ⟨_, _⟩ := hV; go_simp; try with_reducible rfl)
     try simp only [Act.put, List.getElem_toArray, List.getElem_cons_zero, List.getElem_cons_succ, List.setIfInBounds_toArray, List.set_cons_zero, List.set_cons_succ])
  | (refine wpAnyH_take (i := 4) (v := undef) rfl (by kernel_rfl) (by kernel_rfl) (by kernel_rfl) (fun _ _ _ h => h) (Or.inr ⟨by rfl, rfl⟩) (by assumption) ?_
     try simp only [Act.put, List.getElem_toArray, List.getElem_cons_zero, List.getElem_cons_succ, List.setIfInBounds_toArray, List.set_cons_zero, List.set_cons_succ])
  | fail "take 4"
  first
  | (refine wpAnyH_take (i := 5) (v := ?_) rfl (by kernel_rfl) (by kernel_rfl) (by kernel_rfl) (fun _ _ _ h => h) (Or.inl ⟨by rfl, ?_⟩) (by assumption) ?_
     rotate_left
     · (intro V hV; obtain ⟨_, _⟩ := hV; go_simp; try with_reducible rfl)
     try simp only [Act.put, List.getElem_toArray, List.getElem_cons_zero, List.getElem_cons_succ, List.setIfInBounds_toArray, List.set_cons_zero, List.set_cons_succ])
  | (refine wpAnyH_take (i := 5) (v := undef) rfl (by kernel_rfl) (by kernel_rfl) (by kernel_rfl) (fun _ _ _ h => h) (Or.inr ⟨by rfl, rfl⟩) (by assumption) ?_
     try simp only [Act.put, List.getElem_toArray, List.getElem_cons_zero, List.getElem_cons_succ, List.setIfInBounds_toArray, List.set_cons_zero, List.set_cons_succ])
  | fail "take 5"
  as_aux_lemma =>
  refine wpAnyH_take (i := 6) (v := .agg #[va0, va1, va2, va3, va4, va5, va6, va7, va8, va9, va10, va11, va12, va13, va14, va15, va16, va17, va18, va19, va20, va21, va22]) rfl (by kernel_rfl) (by kernel_rfl) (by kernel_rfl) (fun _ _ _ h => h) (Or.inl ⟨by rfl, fun V hV => loadYield flatDc rfl hV.2.one.at0 rfl⟩) (by assumption) ?_
  try simp only [Act.put, List.getElem_toArray, List.getElem_cons_zero, List.getElem_cons_succ, List.setIfInBounds_toArray, List.set_cons_zero, List.set_cons_succ]
  refine wpAnyH_take (i := 7) (v := .agg #[vb0, vb1, vb2, vb3, vb4, vb5, vb6, vb7, vb8, vb9, vb10, vb11, vb12, vb13, vb14, vb15, vb16, vb17, vb18, vb19, vb20, vb21, vb22]) rfl (by kernel_rfl) (by kernel_rfl) (by kernel_rfl) (fun _ _ _ h => h) (Or.inl ⟨by rfl, fun V hV => loadYield flatDc rfl hV.2.two.at0 rfl⟩) (by assumption) ?_
  try simp only [Act.put, List.getElem_toArray, List.getElem_cons_zero, List.getElem_cons_succ, List.setIfInBounds_toArray, List.set_cons_zero, List.set_cons_succ]
  refine wpAnyH_take (i := 9) (v := .agg #[va0, va1, va2, va3, va4, va5, va6, va7, va8, va9, va10, va11, va12, va13, va14, va15, va16, va17, va18, va19, va20, va21, va22]) rfl (by kernel_rfl) (by kernel_rfl) (by kernel_rfl) (fun _ _ _ h => h) (Or.inl ⟨by rfl, fun V hV => loadYield flatDc rfl hV.2.one.at0 rfl⟩) (by assumption) ?_
  try simp only [Act.put, List.getElem_toArray, List.getElem_cons_zero, List.getElem_cons_succ, List.setIfInBounds_toArray, List.set_cons_zero, List.set_cons_succ]
  refine wpAnyH_take (i := 10) (v := .agg #[vb0, vb1, vb2, vb3, vb4, vb5, vb6, vb7, vb8, vb9, vb10, vb11, vb12, vb13, vb14, vb15, vb16, vb17, vb18, vb19, vb20, vb21, vb22]) rfl (by kernel_rfl) (by kernel_rfl) (by kernel_rfl) (fun _ _ _ h => h) (Or.inl ⟨by rfl, fun V hV => loadYield flatDc rfl hV.2.two.at0 rfl⟩) (by assumption) ?_
  try simp only [Act.put, List.getElem_toArray, List.getElem_cons_zero, List.getElem_cons_succ, List.setIfInBounds_toArray, List.set_cons_zero, List.set_cons_succ]
  refine wpAnyH_ready (rs := [8]) (by kernel_rfl) (by simp) ?_
  refine AllReadyH.cons rfl (fun K hK => ?_) AllReadyH.nil
  go_simp
  refine (sameDecl_any a b _ _ _ hS.2.da hS.2.db).mono ?_
  rintro e Wv ⟨rfl, hb⟩
  have SS : Below X.heap.size X Wv ∧ DX Wv b0 b1 a b [va0, va1, va2, va3, va4, va5, va6, va7, va8, va9, va10, va11, va12, va13, va14, va15, va16, va17, va18, va19, va20, va21, va22] [vb0, vb1, vb2, vb3, vb4, vb5, vb6, vb7, vb8, vb9, vb10, vb11, vb12, vb13, vb14, vb15, vb16, vb17, vb18, vb19, vb20, vb21, vb22] := ⟨hS.1.trans (hb.mono hS.1.size), hS.2.later hb⟩
  clear hS hb
  refine hK.out _ _ SS (fun hS => ?_)
  clear hK K
  try simp only [Act.put, List.getElem_toArray, List.getElem_cons_zero, List.getElem_cons_succ, List.setIfInBounds_toArray, List.set_cons_zero, List.set_cons_succ]
  as_aux_lemma =>
  refine wpAnyH_ready (rs := [11]) (by kernel_rfl) (by simp) ?_
  refine AllReadyH.cons rfl (fun K hK => ?_) AllReadyH.nil
  go_simp
  refine (rdecl_any a b _ _ false _ hS.2.da hS.2.db).mono ?_
  rintro e Wv ⟨rfl, hb⟩
  have SS : Below X.heap.size X Wv ∧ DX Wv b0 b1 a b [va0, va1, va2, va3, va4, va5, va6, va7, va8, va9, va10, va11, va12, va13, va14, va15, va16, va17, va18, va19, va20, va21, va22] [vb0, vb1, vb2, vb3, vb4, vb5, vb6, vb7, vb8, vb9, vb10, vb11, vb12, vb13, vb14, vb15, vb16, vb17, vb18, vb19, vb20, vb21, vb22] := ⟨hS.1.trans (hb.mono hS.1.size), hS.2.later hb⟩
  clear hS hb
  refine hK.out _ _ SS (fun hS => ?_)
  clear hK K
  try simp only [Act.put, List.getElem_toArray, List.getElem_cons_zero, List.getElem_cons_succ, List.setIfInBounds_toArray, List.set_cons_zero, List.set_cons_succ]
  first
  | (refine wpAnyH_take (i := 12) (v := ?_) rfl (by kernel_rfl) (by kernel_rfl) (by kernel_rfl) (fun _ _ _ h => h) (Or.inl ⟨by rfl, ?_⟩) (by assumption) ?_
     rotate_left
     · (intro V hV; obtain ⟨_, _⟩ := hV; go_simp; try with_reducible rfl)
     try simp only [Act.put, List.getElem_toArray, List.getElem_cons_zero, List.getElem_cons_succ, List.setIfInBounds_toArray, List.set_cons_zero, List.set_cons_succ])
  | (refine wpAnyH_take (i := 12) (v := undef) rfl (by kernel_rfl) (by kernel_rfl) (by kernel_rfl) (fun _ _ _ h => h) (Or.inr ⟨by rfl, rfl⟩) (by assumption) ?_
     try simp only [Act.put, List.getElem_toArray, List.getElem_cons_zero, List.getElem_cons_succ, List.setIfInBounds_toArray, List.set_cons_zero, List.set_cons_succ])
  | fail "take 12"
  first
  | (refine wpAnyH_take (i := 13) (v := ?_) rfl (by kernel_rfl) (by kernel_rfl) (by kernel_rfl) (fun _ _ _ h => h) (Or.inl ⟨by rfl, ?_⟩) (by assumption) ?_
     rotate_left
     · (intro V hV; obtain ⟨_, _⟩ := hV; go_simp; try with_reducible rfl)
     try simp only [Act.put, List.getElem_toArray, List.getElem_cons_zero, List.getElem_cons_succ, List.setIfInBounds_toArray, List.set_cons_zero, List.set_cons_succ])
  | (refine wpAnyH_take (i := 13) (v := undef) rfl (by kernel_rfl) (by kernel_rfl) (by kernel_rfl) (fun _ _ _ h => h) (Or.inr ⟨by rfl, rfl⟩) (by assumption) ?_
     try simp only [Act.put, List.getElem_toArray, List.getElem_cons_zero, List.getElem_cons_succ, List.setIfInBounds_toArray, List.set_cons_zero, List.set_cons_succ])
  | fail "take 13"
  first
  | (refine wpAnyH_take (i := 14) (v := ?_) rfl (by kernel_rfl) (by kernel_rfl) (by kernel_rfl) (fun _ _ _ h => h) (Or.inl ⟨by rfl, ?_⟩) (by assumption) ?_
     rotate_left
     · (intro V hV; obtain ⟨_, _⟩ := hV; go_simp; try with_reducible rfl)
     try simp only [Act.put, List.getElem_toArray, List.getElem_cons_zero, List.getElem_cons_succ, List.setIfInBounds_toArray, List.set_cons_zero, List.set_cons_succ])
  | (refine wpAnyH_take (i := 14) (v := undef) rfl (by kernel_rfl) (by kernel_rfl) (by kernel_rfl) (fun _ _ _ h => h) (Or.inr ⟨by rfl, rfl⟩) (by assumption) ?_
     try simp only [Act.put, List.getElem_toArray, List.getElem_cons_zero, List.getElem_cons_succ, List.setIfInBounds_toArray, List.set_cons_zero, List.set_cons_succ])
  | fail "take 14"
  as_aux_lemma =>
  first
  | (refine wpAnyH_take (i := 15) (v := ?_) rfl (by kernel_rfl) (by kernel_rfl) (by kernel_rfl) (fun _ _ _ h => h) (Or.inl ⟨by rfl, ?_⟩) (by assumption) ?_
     rotate_left
     · (intro V hV; obtain ⟨_, _⟩ := hV; go_simp; try with_reducible rfl)
     try simp only [Act.put, List.getElem_toArray, List.getElem_cons_zero, List.getElem_cons_succ, List.setIfInBounds_toArray, List.set_cons_zero, List.set_cons_succ])
  | (refine wpAnyH_take (i := 15) (v := undef) rfl (by kernel_rfl) (by kernel_rfl) (by kernel_rfl) (fun _ _ _ h => h) (Or.inr ⟨by rfl, rfl⟩) (by assumption) ?_
     try simp only [Act.put, List.getElem_toArray, List.getElem_cons_zero, List.getElem_cons_succ, List.setIfInBounds_toArray, List.set_cons_zero, List.set_cons_succ])
  | fail "take 15"
  refine wpAnyH_take (i := 16) (v := .agg #[va7, va8, va9, va10, va11, va12, va13]) rfl (by kernel_rfl) (by kernel_rfl) (by kernel_rfl) (fun _ _ _ h => h) (Or.inl ⟨by rfl, fun V hV => loadYield flatSg rfl (hV.2.one.sub 7 7) rfl⟩) (by assumption) ?_
  try simp only [Act.put, List.getElem_toArray, List.getElem_cons_zero, List.getElem_cons_succ, List.setIfInBounds_toArray, List.set_cons_zero, List.set_cons_succ]
  first
  | (refine wpAnyH_take (i := 17) (v := ?_) rfl (by kernel_rfl) (by kernel_rfl) (by kernel_rfl) (fun _ _ _ h => h) (Or.inl ⟨by rfl, ?_⟩) (by assumption) ?_
     rotate_left
     · (intro V hV; obtain ⟨_, _⟩ := hV; go_simp; try with_reducible rfl)
     try simp only [Act.put, List.getElem_toArray, List.getElem_cons_zero, List.getElem_cons_succ, List.setIfInBounds_toArray, List.set_cons_zero, List.set_cons_succ])
  | (refine wpAnyH_take (i := 17) (v := undef) rfl (by kernel_rfl) (by kernel_rfl) (by kernel_rfl) (fun _ _ _ h => h) (Or.inr ⟨by rfl, rfl⟩) (by assumption) ?_
     try simp only [Act.put, List.getElem_toArray, List.getElem_cons_zero, List.getElem_cons_succ, List.setIfInBounds_toArray, List.set_cons_zero, List.set_cons_succ])
  | fail "take 17"
  refine wpAnyH_take (i := 18) (v := .agg #[vb7, vb8, vb9, vb10, vb11, vb12, vb13]) rfl (by kernel_rfl) (by kernel_rfl) (by kernel_rfl) (fun _ _ _ h => h) (Or.inl ⟨by rfl, fun V hV => loadYield flatSg rfl (hV.2.two.sub 7 7) rfl⟩) (by assumption) ?_
  try simp only [Act.put, List.getElem_toArray, List.getElem_cons_zero, List.getElem_cons_succ, List.setIfInBounds_toArray, List.set_cons_zero, List.set_cons_succ]
  first
  | (refine wpAnyH_take (i := 20) (v := ?_) rfl (by kernel_rfl) (by kernel_rfl) (by kernel_rfl) (fun _ _ _ h => h) (Or.inl ⟨by rfl, ?_⟩) (by assumption) ?_
     rotate_left
     · (intro V hV; obtain ⟨_, _⟩ := hV; go_simp; try with_reducible rfl)
     try simp only [Act.put, List.getElem_toArray, List.getElem_cons_zero, List.getElem_cons_succ, List.setIfInBounds_toArray, List.set_cons_zero, List.set_cons_succ])
  | (refine wpAnyH_take (i := 20) (v := undef) rfl (by kernel_rfl) (by kernel_rfl) (by kernel_rfl) (fun _ _ _ h => h) (Or.inr ⟨by rfl, rfl⟩) (by assumption) ?_
     try simp only [Act.put, List.getElem_toArray, List.getElem_cons_zero, List.getElem_cons_succ, List.setIfInBounds_toArray, List.set_cons_zero, List.set_cons_succ])
  | fail "take 20"
  refine wpAnyH_take (i := 21) (v := .agg #[va7, va8, va9, va10, va11, va12, va13]) rfl (by kernel_rfl) (by kernel_rfl) (by kernel_rfl) (fun _ _ _ h => h) (Or.inl ⟨by rfl, fun V hV => loadYield flatSg rfl (hV.2.one.sub 7 7) rfl⟩) (by assumption) ?_
  try simp only [Act.put, List.getElem_toArray, List.getElem_cons_zero, List.getElem_cons_succ, List.setIfInBounds_toArray, List.set_cons_zero, List.set_cons_succ]
  first
  | (refine wpAnyH_take (i := 22) (v := ?_) rfl (by kernel_rfl) (by kernel_rfl) (by kernel_rfl) (fun _ _ _ h => h) (Or.inl ⟨by rfl, ?_⟩) (by assumption) ?_
     rotate_left
     · (intro V hV; obtain ⟨_, _⟩ := hV; go_simp; try with_reducible rfl)
     try simp only [Act.put, List.getElem_toArray, List.getElem_cons_zero, List.getElem_cons_succ, List.setIfInBounds_toArray, List.set_cons_zero, List.set_cons_succ])
  | (refine wpAnyH_take (i := 22) (v := undef) rfl (by kernel_rfl) (by kernel_rfl) (by kernel_rfl) (fun _ _ _ h => h) (Or.inr ⟨by rfl, rfl⟩) (by assumption) ?_
     try simp only [Act.put, List.getElem_toArray, List.getElem_cons_zero, List.getElem_cons_succ, List.setIfInBounds_toArray, List.set_cons_zero, List.set_cons_succ])
  | fail "take 22"
  refine wpAnyH_take (i := 23) (v := .agg #[vb7, vb8, vb9, vb10, vb11, vb12, vb13]) rfl (by kernel_rfl) (by kernel_rfl) (by kernel_rfl) (fun _ _ _ h => h) (Or.inl ⟨by rfl, fun V hV => loadYield flatSg rfl (hV.2.two.sub 7 7) rfl⟩) (by assumption) ?_
  try simp only [Act.put, List.getElem_toArray, List.getElem_cons_zero, List.getElem_cons_succ, List.setIfInBounds_toArray, List.set_cons_zero, List.set_cons_succ]
  refine wpAnyH_ready (rs := [19]) (by kernel_rfl) (by simp) ?_
  refine AllReadyH.cons rfl (fun K hK => ?_) AllReadyH.nil
  go_simp
  refine (sameSig_any a.sig b.sig _ _ _ (dc_sig hS.2.da) (dc_sig hS.2.db)).mono ?_
  rintro e Wv ⟨rfl, hb⟩
  have SS : Below X.heap.size X Wv ∧ DX Wv b0 b1 a b [va0, va1, va2, va3, va4, va5, va6, va7, va8, va9, va10, va11, va12, va13, va14, va15, va16, va17, va18, va19, va20, va21, va22] [vb0, vb1, vb2, vb3, vb4, vb5, vb6, vb7, vb8, vb9, vb10, vb11, vb12, vb13, vb14, vb15, vb16, vb17, vb18, vb19, vb20, vb21, vb22] := ⟨hS.1.trans (hb.mono hS.1.size), hS.2.later hb⟩
  clear hS hb
  refine hK.out _ _ SS (fun hS => ?_)
  clear hK K
  try simp only [Act.put, List.getElem_toArray, List.getElem_cons_zero, List.getElem_cons_succ, List.setIfInBounds_toArray, List.set_cons_zero, List.set_cons_succ]
  as_aux_lemma =>
  refine wpAnyH_ready (rs := [24]) (by kernel_rfl) (by simp) ?_
  refine AllReadyH.cons rfl (fun K hK => ?_) AllReadyH.nil
  go_simp
  refine (rsig_any a.sig b.sig _ _ false _ (dc_sig hS.2.da) (dc_sig hS.2.db)).mono ?_
  rintro e Wv ⟨rfl, hb⟩
  have SS : Below X.heap.size X Wv ∧ DX Wv b0 b1 a b [va0, va1, va2, va3, va4, va5, va6, va7, va8, va9, va10, va11, va12, va13, va14, va15, va16, va17, va18, va19, va20, va21, va22] [vb0, vb1, vb2, vb3, vb4, vb5, vb6, vb7, vb8, vb9, vb10, vb11, vb12, vb13, vb14, vb15, vb16, vb17, vb18, vb19, vb20, vb21, vb22] := ⟨hS.1.trans (hb.mono hS.1.size), hS.2.later hb⟩
  clear hS hb
  refine hK.out _ _ SS (fun hS => ?_)
  clear hK K
  try simp only [Act.put, List.getElem_toArray, List.getElem_cons_zero, List.getElem_cons_succ, List.setIfInBounds_toArray, List.set_cons_zero, List.set_cons_succ]
  first
  | (refine wpAnyH_take (i := 25) (v := ?_) rfl (by kernel_rfl) (by kernel_rfl) (by kernel_rfl) (fun _ _ _ h => h) (Or.inl ⟨by rfl, ?_⟩) (by assumption) ?_
     rotate_left
     · (intro V hV; obtain ⟨_, _⟩ := hV; go_simp; try with_reducible rfl)
     try simp only [Act.put, List.getElem_toArray, List.getElem_cons_zero, List.getElem_cons_succ, List.setIfInBounds_toArray, List.set_cons_zero, List.set_cons_succ])
  | (refine wpAnyH_take (i := 25) (v := undef) rfl (by kernel_rfl) (by kernel_rfl) (by kernel_rfl) (fun _ _ _ h => h) (Or.inr ⟨by rfl, rfl⟩) (by assumption) ?_
     try simp only [Act.put, List.getElem_toArray, List.getElem_cons_zero, List.getElem_cons_succ, List.setIfInBounds_toArray, List.set_cons_zero, List.set_cons_succ])
  | fail "take 25"
  first
  | (refine wpAnyH_take (i := 26) (v := ?_) rfl (by kernel_rfl) (by kernel_rfl) (by kernel_rfl) (fun _ _ _ h => h) (Or.inl ⟨by rfl, ?_⟩) (by assumption) ?_
     rotate_left
     · (intro V hV; obtain ⟨_, _⟩ := hV; go_simp; try with_reducible rfl)
     try simp only [Act.put, List.getElem_toArray, List.getElem_cons_zero, List.getElem_cons_succ, List.setIfInBounds_toArray, List.set_cons_zero, List.set_cons_succ])
  | (refine wpAnyH_take (i := 26) (v := undef) rfl (by kernel_rfl) (by kernel_rfl) (by kernel_rfl) (fun _ _ _ h => h) (Or.inr ⟨by rfl, rfl⟩) (by assumption) ?_
     try simp only [Act.put, List.getElem_toArray, List.getElem_cons_zero, List.getElem_cons_succ, List.setIfInBounds_toArray, List.set_cons_zero, List.set_cons_succ])
  | fail "take 26"
  first
  | (refine wpAnyH_take (i := 27) (v := ?_) rfl (by kernel_rfl) (by kernel_rfl) (by kernel_rfl) (fun _ _ _ h => h) (Or.inl ⟨by rfl, ?_⟩) (by assumption) ?_
     rotate_left
     · (intro V hV; obtain ⟨_, _⟩ := hV; go_simp; try with_reducible rfl)
     try simp only [Act.put, List.getElem_toArray, List.getElem_cons_zero, List.getElem_cons_succ, List.setIfInBounds_toArray, List.set_cons_zero, List.set_cons_succ])
  | (refine wpAnyH_take (i := 27) (v := undef) rfl (by kernel_rfl) (by kernel_rfl) (by kernel_rfl) (fun _ _ _ h => h) (Or.inr ⟨by rfl, rfl⟩) (by assumption) ?_
     try simp only [Act.put, List.getElem_toArray, List.getElem_cons_zero, List.getElem_cons_succ, List.setIfInBounds_toArray, List.set_cons_zero, List.set_cons_succ])
  | fail "take 27"
  refine wpAnyH_done (by kernel_rfl) ?_ _
  go_wp2_with fail
  go_ret
  exact ⟨ret_bool (by simp), HB5.out.trans (SS.1.mono HB5.out.size)⟩
end Go.Proofs.YtaeljknfbanbfaaGreatDoor
