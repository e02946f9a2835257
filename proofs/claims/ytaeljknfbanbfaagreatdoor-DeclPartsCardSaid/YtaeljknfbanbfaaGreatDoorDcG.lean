/- The walk of slices.Grow of nothing, at types. The condition: few types.
The walk of slices.Concat at types. The condition: few types. -/
import Derived.Test.YtaeljknfbanbfaaGreatDoorDcI
import Derived.Lib.AppendZerosOnto
namespace Go.Proofs.YtaeljknfbanbfaaGreatDoor
open Go.RowKit

/-- What growing nothing gives: room, which lies in a block of its own. -/
def GrowPost (w : World) (e : Ending) (w' : World) : Prop := ∃ v, e = .returned v ∧ Below w.heap.size w w' ∧ w'.ownsRow w.heap.size 28 3 v 0 []
set_option maxRecDepth 100000 in
set_option maxHeartbeats 8000000 in
theorem growTy_any (n : Nat) (w : World) (hn : n ≤ 1000000) : Calls Tryz.prog 185 #[.slice none 0 0, .int .i64 n] w (GrowPost w) := by
  by_cases h0 : n = 0
  · subst h0
    go_enter Tryz.func185, Tryz.ntmps185
    go_wp2_with fail
    go_ret
    exact ⟨_, rfl, Below.refl _ _, World.ownsRow_nil _ _ _ _⟩
  · obtain ⟨i, z, hi, hz, hsz, hb, hzs⟩ := slTy.info
    have hr : ∀ ty, (Builtin.append_ #[26, 3] ty #[.slice none 0 0, .int .i64 n]).run Tryz.prog w = _ := fun ty =>
      Lib.run_append_nil_zeros (P := Tryz.prog) w 26 3 ty 28 i z .i64 .i64 Tryz.underlying26 Tryz.underlying3 hi hz n (by omega) (by omega) (by omega) (by rw [hb]; omega)
    have hG := grownCap_ge w n 0 28
    have hG2 := grownCap_le_maxLen w n 0 28 (by unfold maxLen; omega)
    generalize grownCap w n 0 28 = G at *
    have hm : (G : Int) ≤ 9223372036854775807 := by unfold maxLen at hG2; omega
    have hsize : (Builtin.zeroCells z.cells n ++ Builtin.zeroCells z.cells (G - n)).size = G * 3 := by rw [Array.size_append, size_zeroCells, size_zeroCells, hzs, ← Nat.add_mul]; congr 1; omega
    generalize Builtin.zeroCells z.cells n ++ Builtin.zeroCells z.cells (G - n) = cur at *
    have HR := Lib.hid hr
    have HG := Lib.hid hG
    have HG2 := Lib.hid hG2
    have HS := Lib.hid hsize
    have y0 : (0 : Int) < n := by omega
    have y1 : (n : Int) ≤ 1000000 := by omega
    have y2 : (n : Int) ≤ G := by omega
    clear hr hG hG2 hsize hi hz hsz hb hzs
    go_enter Tryz.func185, Tryz.ntmps185
    go_wp2_with (at_builtin; refine Lib.wpList_append_run _ rfl _ _ _ _ rfl _ _ rfl rfl _ _ (HR.out _) ?_)
    go_ret
    exact ⟨_, rfl, ((Below.refl _ w).drew).alloc (Nat.le_refl _) _, rfl, .inr ⟨w.heap.size, G, cur, rfl, Nat.le_refl _, (show (w.heap.push (Obj.cells cur 28))[w.heap.size]? = _ from Array.getElem?_push_size), Nat.zero_le _, HG2.out, HS.out, by simp⟩⟩

end Go.Proofs.YtaeljknfbanbfaaGreatDoor
namespace Go.Proofs.YtaeljknfbanbfaaGreatDoor
open Go.RowKit

/-- Rows that are to be put one after the other: slices in a row. -/
structure Cat (S : Nat → Prop) (w : World) (p : Addr) (k : Nat) (tss : List (List Ty)) : Prop where
  len : tss.length = k
  le : k ≤ 1000
  at_ : ∀ j ts, tss[j]? = some ts → ∃ A c us, w.cell? (p.add j) = some (.slice A ts.length c) ∧ Flat3 S w A ts.length ts us
theorem Cat.later {S : Nat → Prop} {k : Nat} {w w' : World} {p : Addr} {tss : List (List Ty)} (h : Cat S w p k tss) (hb : Below w.heap.size w w') : Cat S w' p k tss :=
  ⟨h.len, h.le, fun j ts hj => by
    obtain ⟨A, c, us, h1, h2⟩ := h.at_ j ts hj
    exact ⟨A, c, us, by rw [hb.cell (cell_lt h1)]; exact h1, h2.later hb⟩⟩
theorem take_flatten_le {α : Type} (tss : List (List α)) (k : Nat) : (tss.take k).flatten.length ≤ tss.flatten.length := by
  conv => rhs; rw [← List.take_append_drop k tss, List.flatten_append, List.length_append]
  omega
theorem take_flatten_step {α : Type} {tss : List (List α)} {k : Nat} {x : List α} (h : tss[k]? = some x) : (tss.take (k + 1)).flatten = (tss.take k).flatten ++ x := by
  rw [Ex.take_at h, List.flatten_append]; simp
set_option maxRecDepth 100000 in
set_option maxHeartbeats 8000000 in
theorem concat_any (tss : List (List Ty)) (p : Addr) (k c lo s : Nat) (w : World) (hq : tss.flatten.length ≤ 1000000) (h : Cat (LB lo s w) w p k tss) :
    Calls Tryz.prog 161 #[.slice (some p) k c] w (fun e w' => ∃ v, e = .returned v ∧ TRow lo s w w' v tss.flatten) := by
  have hk1 := h.le
  have hkl := h.len
  have H1 := Lib.hid h
  have HQ := Lib.hid hq
  have hm : (k : Int) ≤ 1000 := by omega
  clear h hq
  go_enter Tryz.func161, Tryz.ntmps161
  go_wp2_with fail
  go_loopw [3, 11] (fun s i wr => ∃ j : Nat, j ≤ k ∧ i = .int .i64 j ∧ s = .int .i64 ((tss.take j).flatten.length : Nat) ∧ wr = w) (fun _ i _ => k - (intOf i).toNat)
  case atStart => exact ⟨0, by omega, rfl, rfl, rfl⟩
  case round =>
    obtain ⟨j, hj, rfl, rfl, rfl⟩ := hrel
    have y1 : (0 : Int) ≤ j := by omega
    by_cases hlt : j < k
    · have y0 : (j : Int) < k := by omega
      have hx : tss[j]? = some (tss[j]'(by omega)) := List.getElem?_eq_getElem _
      generalize tss[j]'(by omega) = ts at hx
      obtain ⟨A, d, us, f0, hF⟩ := H1.out.at_ j ts hx
      have HST := Lib.hid (take_flatten_step hx)
      have hle := take_flatten_le tss (j + 1)
      rw [HST.out, List.length_append] at hle
      have hq2 := HQ.out
      have y2 : ((tss.take j).flatten.length : Int) + ts.length ≤ 1000000 := by omega
      have y3 : (0 : Int) ≤ (tss.take j).flatten.length := by omega
      have y4 : (0 : Int) ≤ ts.length := by omega
      have HLS := Lib.hid (show ((tss.take (j + 1)).flatten.length : Int) = (tss.take j).flatten.length + ts.length by rw [HST.out, List.length_append]; omega)
      clear hx hF hle hq2 HST
      generalize (tss.take j).flatten.length = m1 at *
      generalize ts.length = m2 at *
      go_wp2_with fail
      go_roundw
      case rel => exact ⟨j + 1, by omega, by go_num, by rw [HLS.out], trivial⟩
      case measure => simp [intOf]; omega
    · have y0 : (k : Int) ≤ j := by omega
      obtain rfl : j = k := by omega
      rw [List.take_of_length_le (by omega)]
      have hq2 := HQ.out
      obtain ⟨m1, hm1⟩ : ∃ m, tss.flatten.length = m := ⟨_, rfl⟩
      rw [hm1] at hq2 ⊢
      have C := Lib.hid (growTy_any m1 wr hq2)
      have y5 : (m1 : Int) ≤ 1000000 := by omega
      have y8 : (0 : Int) ≤ m1 := by omega
      clear hq2 hm1
      go_wp2_with fail
      refine C.out.mono ?_
      rintro e w1 ⟨v0, rfl, hb1, ho1⟩
      have HB1 := Lib.hid hb1
      have HO1 := Lib.hid ho1
      clear hb1 ho1 C
      go_wp2_with fail
      go_loopw [6, 27] (fun v i wr2 => ∃ k2 : Nat, k2 ≤ j ∧ i = .int .i64 k2 ∧ TRow lo s wr wr2 v (tss.take k2).flatten) (fun _ i _ => j - (intOf i).toNat)
      case atStart => exact ⟨0, by omega, rfl, HB1.out, [], HO1.out, by rw [List.take_zero]; show Dat.Ins _ _ _ (Ty.dats []) _; rw [Ty.dats, Dat.Ins]⟩
      case round =>
        obtain ⟨k2, hk2, rfl, hrow⟩ := hrel
        have HR := Lib.hid hrow
        have hbel := hrow.bel
        have y6 : (0 : Int) ≤ k2 := by omega
        by_cases hlt2 : k2 < j
        · have y7 : (k2 : Int) < j := by omega
          have hx : tss[k2]? = some (tss[k2]'(by omega)) := List.getElem?_eq_getElem _
          generalize tss[k2]'(by omega) = ts at hx
          obtain ⟨A, d, us, f0, hF⟩ := (H1.out.later hbel).at_ k2 ts hx
          have HF := Lib.hid hF
          have HST := Lib.hid (take_flatten_step hx)
          have HLN := Lib.hid (show (tss.take k2).flatten.length + ts.length ≤ 1000000 by
            have hle := take_flatten_le tss (k2 + 1)
            rw [HST.out, List.length_append] at hle
            have := HQ.out
            omega)
          obtain ⟨cs, ho1, hi1⟩ := hrow.own
          have HON := Lib.hid ho1
          have HII := Lib.hid hi1
          have HBE := Lib.hid hbel
          have hbs := hbel.size
          have hab := own_above ho1
          have HAP := Lib.hid (fun b hb => And.intro (LB.up (lo := lo) hbs (Nat.le_refl s) b hb) (hab b hb.1))
          clear hab hbs hx hF ho1 hi1 hrow hbel
          generalize (tss.take k2).flatten = fs at *
          go_wp2_with (at_builtin; refine wpList_append_row slTy rfl _ _ rfl rfl rfl HON.out HBE.out.size HF.out.len HF.out.cells HF.out.ones HF.out.some_ HLN.out (by omega) ?_; intro v4 w4 hA4; have HR4 := Lib.hid (TRow.app HBE.out HON.out HII.out HF.out.ins HAP.out hA4); clear hA4)
          go_roundw
          case rel => exact ⟨k2 + 1, by omega, by go_num, by rw [HST.out]; exact HR4.out⟩
          case measure => simp [intOf]; omega
        · have y7 : (j : Int) ≤ k2 := by omega
          rw [List.take_of_length_le (by omega)] at hrow
          have HR2 := Lib.hid hrow
          clear hrow hbel HR
          go_wp2_with fail
          go_ret
          exact ⟨_, rfl, HR2.out⟩

/-- Slices laid in a row of their own. -/
theorem Cat.mk' {S : Nat → Prop} {V : World} (T : TypeId) (L : List (Option Addr × Nat × List Ty × List Value)) (hn : L.length ≤ 1000) (h : ∀ x ∈ L, Flat3 S V x.1 x.2.2.1.length x.2.2.1 x.2.2.2) :
    Cat S (V.alloc (.cells (L.map fun x => Value.slice x.1 x.2.2.1.length x.2.1).toArray T)) ⟨V.heap.size, 0, none⟩ L.length (L.map fun x => x.2.2.1) :=
  ⟨by simp, hn, fun j ts hj => by
    rw [List.getElem?_map] at hj
    obtain ⟨x, hx, rfl⟩ := Option.map_eq_some_iff.1 hj
    refine ⟨x.1, x.2.1, x.2.2.2, ?_, (h x (List.mem_of_getElem? hx)).later ((Below.refl _ _).alloc (Nat.le_refl _) _)⟩
    rw [add_zero_addr]
    exact Boxd.new V _ T j _ (by simp [hx])⟩
theorem Cat.up {lo t k : Nat} {W W' : World} {p : Addr} {tss : List (List Ty)} (h : Cat (LB lo t W) W' p k tss) (hs : W.heap.size ≤ W'.heap.size) : Cat (LB lo t W') W' p k tss :=
  ⟨h.len, h.le, fun j ts hj => by
    obtain ⟨A, c, us, h1, h2⟩ := h.at_ j ts hj
    exact ⟨A, c, us, h1, h2.wide (LB.up hs (Nat.le_refl _)) fun _ h => h.1⟩⟩
theorem cat2 {S : Nat → Prop} {V : World} (T : TypeId) {A B : Option Addr} {c d : Nat} {t1 t2 : List Ty} {u1 u2 : List Value} (h1 : Flat3 S V A t1.length t1 u1) (h2 : Flat3 S V B t2.length t2 u2) :
    Cat S (V.alloc (.cells #[.slice A t1.length c, .slice B t2.length d] T)) ⟨V.heap.size, 0, none⟩ 2 [t1, t2] :=
  Cat.mk' T [(A, c, t1, u1), (B, d, t2, u2)] (by simp) (by intro x hx; simp only [List.mem_cons, List.not_mem_nil, or_false] at hx; rcases hx with rfl | rfl; exact h1; exact h2)
theorem cat3 {S : Nat → Prop} {V : World} (T : TypeId) {A B C : Option Addr} {c d e : Nat} {t1 t2 t3 : List Ty} {u1 u2 u3 : List Value} (h1 : Flat3 S V A t1.length t1 u1) (h2 : Flat3 S V B t2.length t2 u2) (h3 : Flat3 S V C t3.length t3 u3) :
    Cat S (V.alloc (.cells #[.slice A t1.length c, .slice B t2.length d, .slice C t3.length e] T)) ⟨V.heap.size, 0, none⟩ 3 [t1, t2, t3] :=
  Cat.mk' T [(A, c, t1, u1), (B, d, t2, u2), (C, e, t3, u3)] (by simp) (by intro x hx; simp only [List.mem_cons, List.not_mem_nil, or_false] at hx; rcases hx with rfl | rfl | rfl; exact h1; exact h2; exact h3)
/-- One type laid anew. -/
theorem flat_new {lo : Nat} {V : World} {t : Ty} {us : List Value} (T : TypeId) (h : t.dat.In V False (· < lo) us) (hl : lo ≤ V.heap.size) : Flat3 (· < lo) (V.alloc (.cells us.toArray T)) (some ⟨V.heap.size, 0, none⟩) 1 [t] us :=
  ⟨by
    rw [Ty.dats, Ty.dats, Dat.Ins]
    exact ⟨us, [], by simp, h.later ((Below.refl _ _).alloc (Nat.le_refl _) _) (fun k hk => Nat.lt_of_lt_of_le hk hl), by rw [Dat.Ins]⟩,
   (Dat.In.len _ _ h).trans (Ty.dat_size t), fun a e j u hu => by cases e; rw [add_zero_addr]; exact Boxd.new V us.toArray T j u (by simpa using hu), fun _ => ⟨_, rfl⟩, rfl, fun b hb => by rw [World.size_alloc]; omega⟩
/-- The same row, seen from an earlier world. -/
theorem TRow.from {lo s t : Nat} {w X W : World} {v : Value} {ts : List Ty} (h : TRow lo s X W v ts) (ht : t ≤ s) (hb : Below w.heap.size w X) : TRow lo t w W v ts := by
  obtain ⟨cs, ⟨h1, h2⟩, h3⟩ := h.own
  refine ⟨hb.trans (h.bel.mono hb.size), cs, ⟨h1, ?_⟩, h3.wide' fun b hb => ⟨LB.up (Nat.le_refl _) ht b hb.1, hb.2⟩⟩
  rcases h2 with h2 | ⟨g, cap, cur, e1, e2, e3⟩
  · exact .inl h2
  · exact .inr ⟨g, cap, cur, e1, Nat.le_trans hb.size e2, e3⟩
theorem Appd.bel {w w' : World} {base : Nat} {e : TypeId} {size n m : Nat} {v v' : Value} {xs us : List Value} (h : Appd w w' base e size n m v v' xs us) (hb : base ≤ w.heap.size) (hv : ∀ k, v.ownBlock = some k → base ≤ k) : Below base w w' := (Below.refl _ w).grown h.grow hb hv

theorem flatMap_mem_le {α β : Type} (f : α → List β) : ∀ {xs : List α} {x : α}, x ∈ xs → (f x).length ≤ (xs.flatMap f).length
  | y :: r, x, h => by
    rw [List.flatMap_cons, List.length_append]
    rcases List.mem_cons.1 h with rfl | h
    · omega
    · have := flatMap_mem_le f h
      omega
theorem app_mid {α : Type} {a b c : List α} {j : Nat} {v : α} (h : b[j]? = some v) : (a ++ (b ++ c))[a.length + j]? = some v := by
  rw [List.getElem?_append_right (by omega), Nat.add_sub_cancel_left, List.getElem?_append_left (List.getElem?_eq_some_iff.1 h).1]; exact h
def Sg.tys (s : Sg) : List Ty := s.fs.flatMap Fo.tys ++ s.ps.flatMap Fo.tys ++ [s.res]
/-- The types in the parts of an expression, as decl gathers them. -/
def exTys (e : Ex) : List Ty := e.list.flatMap fun x => x.targs ++ if x.kind = 3 ∨ x.kind = 5 then [x.ty] else []
def Dc.tys (d : Dc) : List Ty := d.fs.flatMap Fo.tys ++ d.ms.flatMap Fo.tys ++ d.gs.flatMap Sg.tys ++ if d.kind = 3 then d.sig.tys ++ exTys d.body else []
def Pg.tys (p : Pg) : List Ty := p.ds.flatMap Dc.tys ++ exTys p.main
/-- The contract of decl.inExpr. -/
def InExprOk : Prop := ∀ (e : Ex) (us : List Value) (lo : Nat) (w : World), lo ≤ w.heap.size → e.wt ≤ 1000 → (exTys e).length ≤ 1000000 → e.dat.In w False (· < lo) us → Calls Tryz.prog 122 #[.agg us.toArray] w (TsPost lo w (exTys e))
/-- The contract of decl.inSig. -/
def InSigOk : Prop := ∀ (s : Sg) (us : List Value) (lo : Nat) (w : World), lo ≤ w.heap.size → s.tys.length ≤ 1000000 → s.dat.In w False (· < lo) us → Calls Tryz.prog 167 #[.agg us.toArray] w (TsPost lo w s.tys)
end Go.Proofs.YtaeljknfbanbfaaGreatDoor
