/- The walks of the methods first, rest and Expr of read.Cursor: they read what the plain words say. The condition: the cursor stands in tokens of a text. -/
import Derived.Test.YtbeejmlmplgaeaaDoorRdX
import Derived.Deep.RegionHeld3
namespace Go.Proofs.YtbeejmlmplgaeaaDoor.Rd
open Go.RowKit

theorem ready_store {ty : TypeId} {z : Nat} (hf : Flat ty z) {ops : Array Oper} {o : Oper} {a : Act} {K : Act → World → Prop} {Q : Exit → Act → World → Prop} {E : Prop} (hgd : o.guard = none) (x y : Operand) (ho : o.op = .store ty x y) {w : World} {b off : Nat} {us : List Value}
    (hx : a.eval x = .pointer (some ⟨b, off, none⟩)) (hy : a.eval y = .agg us.toArray) (ht : w.there b off us.length) (h1 : ∀ u ∈ us, u.oneCell' = true) (hl : us.length = z) (h : K (a.put o.dst undef) (w.setCells b off us)) : if Region.wanted o (yielded ops a.tmps) = true then Oper.wp Tryd.prog o a w K Q else E := by
  have hw : Region.wanted o (yielded ops a.tmps) = true := by simp [Region.wanted, hgd]
  rw [if_pos hw]
  exact wp_store_mid ty x y ho b off us.toArray hx hy (by simpa using ht) (by rw [List.size_toArray, hl]; exact hf.size) (all_oneCell_toArray h1) (by simpa using h)
theorem exVar_in {w : World} {N : Prop} {S : Nat → Prop} {s : ByteArray} {o : Int} (h : s.size ≤ 9223372036854775807) : (exVar s o).dat.In w N S [.int .i64 1, .string s, .string ⟨#[]⟩, .slice none 0 0, .int .i64 0, .slice none 0 0, .slice none 0 0, .int .i64 o] :=
  ex_shut (e := exVar s o) h (by show (0 : Nat) ≤ _; omega) (lies_row.2 (Row.nil _ _ _ _ _)) (lies_row.2 (Row.nil _ _ _ _ _)) (Row.nil _ _ _ _ _) (Nat.le_refl _)
theorem exLit_in {w : World} {S : Nat → Prop} {t : Ty} {xs : List Ex} {B C : Option Addr} {m c n d : Nat} (h : t.dat.In w False S [.string t.name, .slice B m c, .int .i64 t.off]) (hx : Row w False S 8 C n (Ex.dats xs)) (hn : n ≤ d) :
    (exLit t xs).dat.In w False S [.int .i64 3, .string ⟨#[]⟩, .string t.name, .slice B m c, .int .i64 t.off, .slice none 0 0, .slice C n d, .int .i64 t.off] := by
  obtain ⟨B2, m2, c2, e, h1, h2⟩ := ty_open h
  simp only [List.cons.injEq, Value.slice.injEq, and_true, true_and] at e
  obtain ⟨rfl, rfl, rfl⟩ := e
  exact ex_shut (e := exLit t xs) (by show (0 : Nat) ≤ _; omega) h1 h2 (lies_row.2 (Row.nil _ _ _ _ _)) hx hn
theorem in_sets {w : World} {g lo : Nat} {d : Dat} {us : List Value} (h : d.In w False (Fr lo w) us) (hg : g < lo) (o : Nat) (vs : List Value) : d.In (w.setCells g o vs) False (Fr lo (w.setCells g o vs)) us := in_gb (gb_sets1 w g o vs) hg h
theorem ex8_one {v0 v1 v2 v3 v4 v5 v6 v7 : Value} (h0 : v0.oneCell' = true) (h1 : v1.oneCell' = true) (h2 : v2.oneCell' = true) (h3 : v3.oneCell' = true) (h4 : v4.oneCell' = true) (h5 : v5.oneCell' = true) (h6 : v6.oneCell' = true) (h7 : v7.oneCell' = true) : ∀ u ∈ [v0, v1, v2, v3, v4, v5, v6, v7], u.oneCell' = true := by
  intro u hu
  simp only [List.mem_cons, List.not_mem_nil, or_false] at hu
  rcases hu with rfl | rfl | rfl | rfl | rfl | rfl | rfl | rfl <;> assumption
theorem results_first {w : World} {b : Nat} {us : List Value} (tmps : Array Value) (ht : tmps[2]?.getD undef = .pointer (some ⟨b, 0, none⟩)) (hc : Boxd w b us) (hl : us.length = 8) : (results Tryd.f47 tmps).run Tryd.prog w = .ok (.agg us.toArray) w := by
  have h := run_cell flatEx hc hl
  have h2 := run_addr ⟨b, 0, none⟩ w
  simp [results, Tryd.results47, ht, h, h2, Sem.run_bind, Result.andThen]
def Z8 : Array Value := #[.int .i64 0, .string ⟨#[]⟩, .string ⟨#[]⟩, .slice none 0 0, .int .i64 0, .slice none 0 0, .slice none 0 0, .int .i64 0]

theorem type_any' (n c : Nat) (l : List Tk) (b : Bool) (w : World) (h : Cur w c l b) (hf : b = false → 2 * l.length + 1 ≤ n) : Calls Tryd.prog 28 #[.pointer (some ⟨c, 0, none⟩)] w (TyRet c l b w (tyF n l)) := by
  cases b
  · exact type_any n c l false w h (hf rfl)
  · exact (type_any _ c l true w h (Nat.le_refl _)).mono fun e w' h => h
theorem targs_any' (n c : Nat) (l : List Tk) (b : Bool) (w : World) (h : Cur w c l b) (hf : b = false → 2 * l.length ≤ n + 1) : Calls Tryd.prog 46 #[.pointer (some ⟨c, 0, none⟩)] w (TysRet c l b w (targsF n l)) := by
  cases b
  · exact targs_all n c l false w h (hf rfl)
  · exact (targs_all (2 * l.length) c l true w h (by omega)).mono fun e w' h => h
theorem firstF_eq (n : Nat) (l : List Tk) : firstF n l = Got.bind (tyF n l) fun t q => if t.args.isEmpty && !isT [123] q then .ok (exVar t.name t.off) q else Got.bind (must [123] q) fun _ q => Got.bind (argsF n [125] q) fun xs q => .ok (exLit t xs) q := rfl
theorem nextB_false {s : List UInt8} {l : List Tk} : nextB false s l = isT s l := by unfold nextB; rfl
theorem args_len {t : Ty} {m : Nat} (h : t.args.length = m) : t.args.isEmpty = (m == 0) := by
  subst h
  cases t.args <;> rfl

set_option maxRecDepth 100000 in
set_option maxHeartbeats 8000000 in
theorem first_any (n : Nat) (ih : ∀ m, m ≤ n → ExAt m) (c : Nat) (l : List Tk) (b : Bool) (w : World) (h : Cur w c l b) (hf : b = false → 2 * l.length + 1 ≤ n) :
    Calls Tryd.prog 47 #[.pointer (some ⟨c, 0, none⟩)] w (ExRet c l b w (firstF n l)) := by
  have hlt := h.lt
  obtain ⟨W0, hW0⟩ : ∃ W, w.alloc (.cells #[.int .i64 0, .string ⟨#[]⟩, .string ⟨#[]⟩, .slice none 0 0, .int .i64 0, .slice none 0 0, .slice none 0 0, .int .i64 0] 27) = W := ⟨_, rfl⟩
  have hb0 : Below w.heap.size w W0 := hW0 ▸ (Below.refl _ _).alloc (Nat.le_refl _) _
  have HS0 := Lib.hid (show W0.heap.size = w.heap.size + 1 by rw [← hW0]; simp)
  have HW0 := Lib.hid hW0
  have HB0 := Lib.hid hb0
  have HT0 := Lib.hid (show W0.there w.heap.size 0 8 from hW0 ▸ there_new w #[.int .i64 0, .string ⟨#[]⟩, .string ⟨#[]⟩, .slice none 0 0, .int .i64 0, .slice none 0 0, .slice none 0 0, .int .i64 0] 27)
  have HF := Lib.hid hf
  have IH := Lib.hid ih
  have C1 := Lib.hid (type_any' n c l b W0 (h.later hb0) hf)
  clear h hW0 hb0 hf ih
  go_enter Tryd.func47, Tryd.ntmps47
  go_wp2_with fail
  rw [HW0.out]
  refine C1.out.mono ?_
  rintro e w1 ⟨t, us, rfl, hd, ha, hg⟩
  obtain ⟨B, m, c1, rfl, hsz, hli⟩ := ty_open hd
  obtain ⟨q, d, hcur, hql, hdd, heq⟩ := aft_next2 (tyF_less n l) ha (fun t q => if t.args.isEmpty && !isT [123] q then .ok (exVar t.name t.off) q else Got.bind (must [123] q) fun _ q => Got.bind (argsF n [125] q) fun xs q => .ok (exLit t xs) q)
  have HEQ := Lib.hid heq
  have HDD := Lib.hid hdd
  have HSZ := Lib.hid hsz
  have HIE := Lib.hid (args_len hli.len)
  obtain ⟨W1, hW1⟩ : ∃ W, w1.alloc (.cells #[.string t.name, .slice B m c1, .int .i64 t.off] 24) = W := ⟨_, rfl⟩
  have hb1 : Below w1.heap.size w1 W1 := hW1 ▸ (Below.refl _ _).alloc (Nat.le_refl _) _
  have HC1 := Lib.hid (hcur.later hb1)
  have HG1 := Lib.hid (gb_trans hg (gb_of (some c) hb1))
  have hB1 : Boxd W1 w1.heap.size [.string t.name, .slice B m c1, .int .i64 t.off] := hW1 ▸ Boxd.new w1 #[.string t.name, .slice B m c1, .int .i64 t.off] 24
  have hsg : W0.heap.size ≤ w1.heap.size := hg.size
  have HD1 := Lib.hid (in_gb (gb_of (some c) hb1) (by have := HS0.out; omega) hd)
  have HT1 := Lib.hid (there_gb HT0.out (by have := HS0.out; omega) (by omega) HG1.out)
  have HLO := Lib.hid (show c < W0.heap.size by have := HS0.out; omega)
  obtain ⟨g, hgg⟩ : ∃ g, w1.heap.size = g := ⟨_, rfl⟩
  rw [hgg] at hB1 hsg
  have HGG := Lib.hid hsg
  have HWG := Lib.hid hgg
  have hgl : g < W1.heap.size := by rw [← hW1, ← hgg]; simp
  have hgc : g ≠ c := by have := HS0.out; omega
  have HB1 := Lib.hid hB1
  have HW1 := Lib.hid hW1
  have x1 := hB1 1 _ rfl
  rw [← hW1, ← hgg] at x1
  clear hd ha hg heq hcur C1 hsz hli hdd hW1 hb1 hB1
  by_cases hm : m = 0
  · have e0 : (((m : Nat) : Int) == 0) = true := by rw [hm]; rfl
    have HM := Lib.hid hm
    clear hm
    go_wp2_with fail
    rw [HW1.out]
    have C2 := Lib.hid (show Calls Tryd.prog 22 #[.pointer (some ⟨c, 0, none⟩), .string ⟨#[123]⟩] W1 (fun e w' => e = .returned (.bool (nextB d [123] q)) ∧ Below W1.heap.size W1 w') from next_any c q d ⟨#[123]⟩ W1 HC1.out)
    refine C2.out.mono ?_
    rintro e w2 ⟨rfl, hb2⟩
    have HC2 := Lib.hid (HC1.out.later hb2)
    have HGL2 := Lib.hid (show g < w2.heap.size from Nat.lt_of_lt_of_le hgl hb2.size)
    have HG2 := Lib.hid (gb_trans HG1.out (gb_of (some c) hb2))
    have HB2 := Lib.hid (HB1.out.later hb2)
    have HT2 := Lib.hid (there_gb HT1.out (by have := HG1.out.size; have := HS0.out; omega) (by omega : w.heap.size ≠ c) (gb_of (some c) hb2))
    have HD2 := Lib.hid (in_gb (gb_of (some c) hb2) HLO.out HD1.out)
    clear hb2 C2 x1
    cases hx : nextB d [123] q
    · have HX := Lib.hid hx
      have y0 := HB2.out 0 _ rfl
      have y2 := HB2.out 2 _ rfl
      clear hx
      go_wp2_with (refine storeOp flatEx 2 19 (b := w.heap.size) (o := 0) (us := [.int .i64 1, .string t.name, .string ⟨#[]⟩, .slice none 0 0, .int .i64 0, .slice none 0 0, .slice none 0 0, .int .i64 t.off]) rfl rfl HT2.out (ex8_one rfl rfl rfl rfl rfl rfl rfl rfl) rfl ?_)
      refine bodyPost_ret (results_first _ rfl (set_there (us := [.int .i64 1, .string t.name, .string ⟨#[]⟩, .slice none 0 0, .int .i64 0, .slice none 0 0, .slice none 0 0, .int .i64 t.off]) HT2.out) rfl) rfl ?_
      refine ⟨exVar t.name t.off, _, rfl, exVar_in HSZ.out, ?_, gb_sets (some c) (gb_trans (gb_of (some c) HB0.out) HG2.out) (Nat.le_refl _) _ _⟩
      have hcu := HC2.out.up (below_sets hlt [.int .i64 1, .string t.name, .string ⟨#[]⟩, .slice none 0 0, .int .i64 0, .slice none 0 0, .slice none 0 0, .int .i64 t.off] 0 w2)
      rw [firstF_eq, HEQ.out]
      cases d
      · rw [if_neg (by decide), HIE.out, HM.out, ← nextB_false, HX.out]
        exact ⟨rfl, hcu⟩
      · exact hcu
    · have HX := Lib.hid hx
      have HE3 := Lib.hid (show stop b l (firstF n l) = stop d q (Got.bind (must [123] q) fun _ q => Got.bind (argsF n [125] q) fun xs q => .ok (exLit t xs) q) by
        obtain ⟨rfl, hi⟩ := nextB_cons HX.out
        rw [firstF_eq, HEQ.out, if_neg (by decide), hi, Bool.not_true, Bool.and_false, if_neg (by decide)]
        rfl)
      clear hx
      have C3 := Lib.hid (show Calls Tryd.prog 63 #[.pointer (some ⟨c, 0, none⟩), .string ⟨#[123]⟩] w2 (MustPost c q d [123] w2) from must_any c q d ⟨#[123]⟩ w2 HC2.out)
      go_wp2_with fail
      skip
      refine C3.out.mono ?_
      rintro e w3 ⟨rfl, ha, hg⟩
      obtain ⟨q2, d2, hcur2, hql2, hdd2, heq2⟩ := aft_next2 (must_less [123] q) ha (fun _ q => Got.bind (argsF n [125] q) fun xs q => .ok (exLit t xs) q)
      have HEQ2 := Lib.hid (HE3.out.trans heq2)
      have HG3 := Lib.hid (gb_trans HG2.out hg)
      have HD3 := Lib.hid (in_gb hg HLO.out HD2.out)
      have HBX := Lib.hid (boxd_gb hg hgc HB2.out)
      have HT3 := Lib.hid (there_gb HT2.out (by have := HG2.out.size; have := HS0.out; omega) (by omega) hg)
      have hfl : d2 = false → 2 * q2.length + 2 ≤ n := fun h => by
        obtain ⟨h1, h2⟩ := hdd2 h
        obtain ⟨h3, h4⟩ := HDD.out h1
        have := HF.out h3
        omega
      have CA := Lib.hid (fun (V : World) (hV : Cur V c q2 d2) => (show Calls Tryd.prog 64 #[.pointer (some ⟨c, 0, none⟩), .string ⟨#[125]⟩] V (ExsRet c q2 d2 V (argsF n [125] q2)) from args_any n IH.out ⟨#[125]⟩ c q2 d2 V hV hfl))
      have HGL := Lib.hid (show g < w3.heap.size from Nat.lt_of_lt_of_le HGL2.out hg.size)
      have HCD := Lib.hid (hcur2.later (Below.refl w3.heap.size w3).drew)
      have HDX := Lib.hid (HD3.out.later (S := Fr W0.heap.size w3) (Below.refl w3.heap.size w3).drew fun k hk => hk.2)
      have HTD := Lib.hid (show w3.drew.there w.heap.size 0 8 from HT3.out)
      have HGD := Lib.hid (gb_trans HG3.out (gb_of (some c) (Below.refl w3.heap.size w3).drew))
      have SS : w3.rangeAt g 0 [.string t.name, .slice B m c1, .int .i64 t.off] := fun j u hu => by rw [Nat.zero_add]; exact HBX.out j u hu
      clear ha hg heq2 hcur2 hfl C3 hdd2
      go_wp2_with fail
      refine wp_region_held_drew (S := fun V => V.rangeAt g 0 [.string t.name, .slice B m c1, .int .i64 t.off]) (by kernel_rfl) SS (fun hS => ?_)
      have HZ3 := Lib.hid (show w3.drew.heap.size = w3.heap.size from rfl)
      generalize World.drew w3 = Wd at *
      refine wpAnyH_take (i := 0) (v := .agg ([.string t.name, .slice B m c1, .int .i64 t.off] : List Value).toArray) rfl (by kernel_rfl) (by kernel_rfl) (by kernel_rfl) (fun _ _ _ h => h) (yieldsIf_load_mid rfl 24 (.tmp 3) rfl g 0 rfl [.string t.name, .slice B m c1, .int .i64 t.off] _ (fun V hV => hV) Tryd.underlying24 rfl flatTy.size) (by assumption) ?_
      try simp only [Act.put, List.getElem_toArray, List.getElem_cons_zero, List.setIfInBounds_toArray, List.set_cons_zero, List.set_cons_succ]
      first
      | (refine wpAnyH_take (i := 1) (v := ?_) rfl (by kernel_rfl) (by kernel_rfl) (by kernel_rfl) (fun _ _ _ h => h) (Or.inl ⟨by rfl, ?_⟩) (by assumption) ?_
         rotate_left
         · (intro V hV; go_simp; try with_reducible rfl)
         try simp only [Act.put, List.getElem_toArray, List.getElem_cons_zero, List.getElem_cons_succ, List.setIfInBounds_toArray, List.set_cons_zero, List.set_cons_succ])
      | fail "take 1"
      first
      | (refine wpAnyH_take (i := 3) (v := ?_) rfl (by kernel_rfl) (by kernel_rfl) (by kernel_rfl) (fun _ _ _ h => h) (Or.inl ⟨by rfl, ?_⟩) (by assumption) ?_
         rotate_left
         · (intro V hV; go_simp; try with_reducible rfl)
         try simp only [Act.put, List.getElem_toArray, List.getElem_cons_zero, List.getElem_cons_succ, List.setIfInBounds_toArray, List.set_cons_zero, List.set_cons_succ])
      | fail "take 3"
      first
      | (refine wpAnyH_take (i := 4) (v := ?_) rfl (by kernel_rfl) (by kernel_rfl) (by kernel_rfl) (fun _ _ _ h => h) (Or.inl ⟨by rfl, ?_⟩) (by assumption) ?_
         rotate_left
         · (intro V hV; have x2 := hV 2 _ rfl; go_simp; try with_reducible rfl)
         try simp only [Act.put, List.getElem_toArray, List.getElem_cons_zero, List.getElem_cons_succ, List.setIfInBounds_toArray, List.set_cons_zero, List.set_cons_succ])
      | fail "take 4"
      refine wpAnyH_ready (rs := [2]) (by kernel_rfl) (by simp) ?_
      refine AllReadyH.cons rfl (fun K hK => ?_) AllReadyH.nil
      go_simp
      refine (CA.out _ HCD.out).mono ?_
      rintro e wA ⟨xs, A, cap, rfl, hrow, hcp, -, ha, hg⟩
      have SS : wA.rangeAt g 0 [.string t.name, .slice B m c1, .int .i64 t.off] := fun j u hu => gb_cell hg (hS j u hu) hgc
      have HR := Lib.hid hrow
      have HA := Lib.hid ha
      have HCP := Lib.hid hcp
      have HGA := Lib.hid (gb_trans HGD.out hg)
      have HDA := Lib.hid (in_gb hg HLO.out (HDX.out.wide fun k hk => ⟨hk.1, by rw [HZ3.out]; exact hk.2⟩))
      have HTA := Lib.hid (there_gb HTD.out (by have := HGD.out.size; have := HS0.out; omega) (by omega) hg)
      have HSD := Lib.hid (show W0.heap.size ≤ Wd.heap.size from HGD.out.size)
      refine hK.out _ _ SS (fun hS => ?_)
      clear hK K
      try simp only [Act.put, List.getElem_toArray, List.getElem_cons_zero, List.getElem_cons_succ, List.setIfInBounds_toArray, List.set_cons_zero, List.set_cons_succ]
      clear hrow ha hg hcp
      first
      | (refine wpAnyH_take (i := 5) (v := ?_) rfl (by kernel_rfl) (by kernel_rfl) (by kernel_rfl) (fun _ _ _ h => h) (Or.inl ⟨by rfl, ?_⟩) (by assumption) ?_
         rotate_left
         · (intro V hV; go_simp; try with_reducible rfl)
         try simp only [Act.put, List.getElem_toArray, List.getElem_cons_zero, List.getElem_cons_succ, List.setIfInBounds_toArray, List.set_cons_zero, List.set_cons_succ])
      | fail "take 5"
      refine wpAnyH_ready (rs := [6]) (by kernel_rfl) (by simp) ?_
      refine AllReadyH.cons rfl (fun K hK => ?_) AllReadyH.nil
      refine ready_store flatEx rfl (.tmp 2) (.tmp 27) rfl (b := w.heap.size) (off := 0) (us := [.int .i64 3, .string ⟨#[]⟩, .string t.name, .slice B m c1, .int .i64 t.off, .slice none 0 0, .slice A xs.length cap, .int .i64 t.off]) rfl rfl HTA.out (ex8_one rfl rfl rfl rfl rfl rfl rfl rfl) rfl ?_
      have SS : (wA.setCells w.heap.size 0 [.int .i64 3, .string ⟨#[]⟩, .string t.name, .slice B m c1, .int .i64 t.off, .slice none 0 0, .slice A xs.length cap, .int .i64 t.off]).rangeAt g 0 [.string t.name, .slice B m c1, .int .i64 t.off] := World.rangeAt_setCells_apart hS _ _ _ (.inl (by have := HGG.out; have := HS0.out; omega))
      refine hK.out _ _ SS (fun hS => ?_)
      clear hK K
      try simp only [Act.put, List.getElem_toArray, List.getElem_cons_zero, List.getElem_cons_succ]
      refine wpAnyH_done (by kernel_rfl) ?_ _
      clear CA SS
      go_wp2_with fail
      refine bodyPost_ret (results_first _ rfl (set_there (us := [.int .i64 3, .string ⟨#[]⟩, .string t.name, .slice B m c1, .int .i64 t.off, .slice none 0 0, .slice A xs.length cap, .int .i64 t.off]) HTA.out) rfl) rfl ?_
      refine ⟨exLit t xs, _, rfl, ?_, ?_, gb_sets (some c) (gb_trans (gb_of (some c) HB0.out) HGA.out) (Nat.le_refl _) _ _⟩
      · have hr2 := row_gb (gb_sets1 wA w.heap.size 0 [.int .i64 3, .string ⟨#[]⟩, .string t.name, .slice B m c1, .int .i64 t.off, .slice none 0 0, .slice A xs.length cap, .int .i64 t.off]) (by have := HSD.out; have := HS0.out; omega) HR.out
        have hd2 := in_sets HDA.out (by have := HS0.out; omega : w.heap.size < W0.heap.size) 0 [.int .i64 3, .string ⟨#[]⟩, .string t.name, .slice B m c1, .int .i64 t.off, .slice none 0 0, .slice A xs.length cap, .int .i64 t.off]
        refine exLit_in (hd2.wide fun k hk => ⟨by have := hk.1; have := HS0.out; omega, hk.2⟩) (hr2.wide fun k hk => ⟨by have := hk.1; have := HSD.out; have := HS0.out; omega, hk.2⟩) HCP.out
      · rw [HEQ2.out, stop_if, stop_bind]
        exact aft_ret (HA.out.up (below_sets hlt _ _ _)) (fun xs => exLit t xs) rfl
  · have e0 : (((m : Nat) : Int) == 0) = false := by simpa using hm
    have HM := Lib.hid hm
    have HE3 := Lib.hid (show stop b l (firstF n l) = stop d q (Got.bind (must [123] q) fun _ q => Got.bind (argsF n [125] q) fun xs q => .ok (exLit t xs) q) by
      rw [firstF_eq, HEQ.out, HIE.out, show (m == 0) = false by simpa using HM.out, Bool.false_and, if_neg (show ¬ (false = true) by decide)]
      exact stop_if _ _ _)
    clear hm
    have C3 := Lib.hid (show Calls Tryd.prog 63 #[.pointer (some ⟨c, 0, none⟩), .string ⟨#[123]⟩] W1 (MustPost c q d [123] W1) from must_any c q d ⟨#[123]⟩ W1 HC1.out)
    go_wp2_with fail
    rw [HW1.out]
    refine C3.out.mono ?_
    rintro e w3 ⟨rfl, ha, hg⟩
    obtain ⟨q2, d2, hcur2, hql2, hdd2, heq2⟩ := aft_next2 (must_less [123] q) ha (fun _ q => Got.bind (argsF n [125] q) fun xs q => .ok (exLit t xs) q)
    have HEQ2 := Lib.hid (HE3.out.trans heq2)
    have HG3 := Lib.hid (gb_trans HG1.out hg)
    have HD3 := Lib.hid (in_gb hg HLO.out HD1.out)
    have HBX := Lib.hid (boxd_gb hg hgc HB1.out)
    have HT3 := Lib.hid (there_gb HT1.out (by have := HG1.out.size; have := HS0.out; omega) (by omega) hg)
    have hfl : d2 = false → 2 * q2.length + 2 ≤ n := fun h => by
      obtain ⟨h1, h2⟩ := hdd2 h
      obtain ⟨h3, h4⟩ := HDD.out h1
      have := HF.out h3
      omega
    have CA := Lib.hid (fun (V : World) (hV : Cur V c q2 d2) => (show Calls Tryd.prog 64 #[.pointer (some ⟨c, 0, none⟩), .string ⟨#[125]⟩] V (ExsRet c q2 d2 V (argsF n [125] q2)) from args_any n IH.out ⟨#[125]⟩ c q2 d2 V hV hfl))
    have HGL := Lib.hid (show g < w3.heap.size from Nat.lt_of_lt_of_le hgl hg.size)
    have HCD := Lib.hid (hcur2.later (Below.refl w3.heap.size w3).drew)
    have HDX := Lib.hid (HD3.out.later (S := Fr W0.heap.size w3) (Below.refl w3.heap.size w3).drew fun k hk => hk.2)
    have HTD := Lib.hid (show w3.drew.there w.heap.size 0 8 from HT3.out)
    have HGD := Lib.hid (gb_trans HG3.out (gb_of (some c) (Below.refl w3.heap.size w3).drew))
    have SS : w3.rangeAt g 0 [.string t.name, .slice B m c1, .int .i64 t.off] := fun j u hu => by rw [Nat.zero_add]; exact HBX.out j u hu
    clear ha hg heq2 hcur2 hfl C3 hdd2
    go_wp2_with fail
    refine wp_region_held_drew (S := fun V => V.rangeAt g 0 [.string t.name, .slice B m c1, .int .i64 t.off]) (by kernel_rfl) SS (fun hS => ?_)
    have HZ3 := Lib.hid (show w3.drew.heap.size = w3.heap.size from rfl)
    generalize World.drew w3 = Wd at *
    refine wpAnyH_take (i := 0) (v := .agg ([.string t.name, .slice B m c1, .int .i64 t.off] : List Value).toArray) rfl (by kernel_rfl) (by kernel_rfl) (by kernel_rfl) (fun _ _ _ h => h) (yieldsIf_load_mid rfl 24 (.tmp 3) rfl g 0 rfl [.string t.name, .slice B m c1, .int .i64 t.off] _ (fun V hV => hV) Tryd.underlying24 rfl flatTy.size) (by assumption) ?_
    try simp only [Act.put, List.getElem_toArray, List.getElem_cons_zero, List.setIfInBounds_toArray, List.set_cons_zero, List.set_cons_succ]
    first
    | (refine wpAnyH_take (i := 1) (v := ?_) rfl (by kernel_rfl) (by kernel_rfl) (by kernel_rfl) (fun _ _ _ h => h) (Or.inl ⟨by rfl, ?_⟩) (by assumption) ?_
       rotate_left
       · (intro V hV; go_simp; try with_reducible rfl)
       try simp only [Act.put, List.getElem_toArray, List.getElem_cons_zero, List.getElem_cons_succ, List.setIfInBounds_toArray, List.set_cons_zero, List.set_cons_succ])
    | fail "take 1"
    first
    | (refine wpAnyH_take (i := 3) (v := ?_) rfl (by kernel_rfl) (by kernel_rfl) (by kernel_rfl) (fun _ _ _ h => h) (Or.inl ⟨by rfl, ?_⟩) (by assumption) ?_
       rotate_left
       · (intro V hV; go_simp; try with_reducible rfl)
       try simp only [Act.put, List.getElem_toArray, List.getElem_cons_zero, List.getElem_cons_succ, List.setIfInBounds_toArray, List.set_cons_zero, List.set_cons_succ])
    | fail "take 3"
    first
    | (refine wpAnyH_take (i := 4) (v := ?_) rfl (by kernel_rfl) (by kernel_rfl) (by kernel_rfl) (fun _ _ _ h => h) (Or.inl ⟨by rfl, ?_⟩) (by assumption) ?_
       rotate_left
       · (intro V hV; have x2 := hV 2 _ rfl; go_simp; try with_reducible rfl)
       try simp only [Act.put, List.getElem_toArray, List.getElem_cons_zero, List.getElem_cons_succ, List.setIfInBounds_toArray, List.set_cons_zero, List.set_cons_succ])
    | fail "take 4"
    refine wpAnyH_ready (rs := [2]) (by kernel_rfl) (by simp) ?_
    refine AllReadyH.cons rfl (fun K hK => ?_) AllReadyH.nil
    go_simp
    refine (CA.out _ HCD.out).mono ?_
    rintro e wA ⟨xs, A, cap, rfl, hrow, hcp, -, ha, hg⟩
    have SS : wA.rangeAt g 0 [.string t.name, .slice B m c1, .int .i64 t.off] := fun j u hu => gb_cell hg (hS j u hu) hgc
    have HR := Lib.hid hrow
    have HA := Lib.hid ha
    have HCP := Lib.hid hcp
    have HGA := Lib.hid (gb_trans HGD.out hg)
    have HDA := Lib.hid (in_gb hg HLO.out (HDX.out.wide fun k hk => ⟨hk.1, by rw [HZ3.out]; exact hk.2⟩))
    have HTA := Lib.hid (there_gb HTD.out (by have := HGD.out.size; have := HS0.out; omega) (by omega) hg)
    have HSD := Lib.hid (show W0.heap.size ≤ Wd.heap.size from HGD.out.size)
    refine hK.out _ _ SS (fun hS => ?_)
    clear hK K
    try simp only [Act.put, List.getElem_toArray, List.getElem_cons_zero, List.getElem_cons_succ, List.setIfInBounds_toArray, List.set_cons_zero, List.set_cons_succ]
    clear hrow ha hg hcp
    first
    | (refine wpAnyH_take (i := 5) (v := ?_) rfl (by kernel_rfl) (by kernel_rfl) (by kernel_rfl) (fun _ _ _ h => h) (Or.inl ⟨by rfl, ?_⟩) (by assumption) ?_
       rotate_left
       · (intro V hV; go_simp; try with_reducible rfl)
       try simp only [Act.put, List.getElem_toArray, List.getElem_cons_zero, List.getElem_cons_succ, List.setIfInBounds_toArray, List.set_cons_zero, List.set_cons_succ])
    | fail "take 5"
    refine wpAnyH_ready (rs := [6]) (by kernel_rfl) (by simp) ?_
    refine AllReadyH.cons rfl (fun K hK => ?_) AllReadyH.nil
    refine ready_store flatEx rfl (.tmp 2) (.tmp 27) rfl (b := w.heap.size) (off := 0) (us := [.int .i64 3, .string ⟨#[]⟩, .string t.name, .slice B m c1, .int .i64 t.off, .slice none 0 0, .slice A xs.length cap, .int .i64 t.off]) rfl rfl HTA.out (ex8_one rfl rfl rfl rfl rfl rfl rfl rfl) rfl ?_
    have SS : (wA.setCells w.heap.size 0 [.int .i64 3, .string ⟨#[]⟩, .string t.name, .slice B m c1, .int .i64 t.off, .slice none 0 0, .slice A xs.length cap, .int .i64 t.off]).rangeAt g 0 [.string t.name, .slice B m c1, .int .i64 t.off] := World.rangeAt_setCells_apart hS _ _ _ (.inl (by have := HGG.out; have := HS0.out; omega))
    refine hK.out _ _ SS (fun hS => ?_)
    clear hK K
    try simp only [Act.put, List.getElem_toArray, List.getElem_cons_zero, List.getElem_cons_succ]
    refine wpAnyH_done (by kernel_rfl) ?_ _
    clear CA SS
    go_wp2_with fail
    refine bodyPost_ret (results_first _ rfl (set_there (us := [.int .i64 3, .string ⟨#[]⟩, .string t.name, .slice B m c1, .int .i64 t.off, .slice none 0 0, .slice A xs.length cap, .int .i64 t.off]) HTA.out) rfl) rfl ?_
    refine ⟨exLit t xs, _, rfl, ?_, ?_, gb_sets (some c) (gb_trans (gb_of (some c) HB0.out) HGA.out) (Nat.le_refl _) _ _⟩
    · have hr2 := row_gb (gb_sets1 wA w.heap.size 0 [.int .i64 3, .string ⟨#[]⟩, .string t.name, .slice B m c1, .int .i64 t.off, .slice none 0 0, .slice A xs.length cap, .int .i64 t.off]) (by have := HSD.out; have := HS0.out; omega) HR.out
      have hd2 := in_sets HDA.out (by have := HS0.out; omega : w.heap.size < W0.heap.size) 0 [.int .i64 3, .string ⟨#[]⟩, .string t.name, .slice B m c1, .int .i64 t.off, .slice none 0 0, .slice A xs.length cap, .int .i64 t.off]
      refine exLit_in (hd2.wide fun k hk => ⟨by have := hk.1; have := HS0.out; omega, hk.2⟩) (hr2.wide fun k hk => ⟨by have := hk.1; have := HSD.out; have := HS0.out; omega, hk.2⟩) HCP.out
    · rw [HEQ2.out, stop_if, stop_bind]
      exact aft_ret (HA.out.up (below_sets hlt _ _ _)) (fun xs => exLit t xs) rfl
end Go.Proofs.YtbeejmlmplgaeaaDoor.Rd
