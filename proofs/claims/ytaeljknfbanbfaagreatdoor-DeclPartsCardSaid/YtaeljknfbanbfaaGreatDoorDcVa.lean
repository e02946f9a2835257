/- A loop over expr.All with a row that grows: what All gives, said of a round that may write all cells that are older than the loop but its own; the row's state; appending within a fence. The condition: few parts.
The walk of decl.inExpr. The condition: few parts.
decl.Types, decl.Plain and decl.Depth without premises on functions beneath. The condition: few parts. -/
import Derived.Test.YtaeljknfbanbfaaGreatDoorDcG
import Derived.Test.YtaeljknfbanbfaaGreatDoorEkI
import Derived.Deep.RegionHeld3
import Derived.RangeFuncNested
import Derived.Test.YtaeljknfbanbfaaGreatDoorEkD
import Derived.Test.YtaeljknfbanbfaaGreatDoorDcW
import Derived.Test.YtaeljknfbanbfaaGreatDoorDcHp
import Derived.Test.YtaeljknfbanbfaaGreatDoorDcVd
namespace Go.Proofs.YtaeljknfbanbfaaGreatDoor
open Go.RowKit

/-- What All gives, where a round may write what is older than the loop. -/
def AllSeq0 (w : World) (x : Ex) (e : Ending) (w' : World) : Prop := ∃ g lb, e = .returned (.func (.func g) #[] lb) ∧ Below w.heap.size w w' ∧
  (∀ args W, (callFunc g args).run Tryz.prog W = .ok (.enter g args) W) ∧
  ∀ (q : Option Nat) n w2, 1 ≤ n → Below w'.heap.size w' w2 → HasQ q w2 → SeqIf n g lb Elt.enc (Elt.At q w2.heap.size) (KeepO q 0 w2.heap.size) (fun ys => ys.map Prod.fst = x.list) (fun ys => ys.map Prod.fst <+: x.list) x.list.length w2
set_option maxRecDepth 100000 in
set_option maxHeartbeats 4000000 in
theorem xall0_any (e : Ex) (us : List Value) (w : World) (hwt : e.wt ≤ 100000) (h : e.dat.H w us) : Calls Tryz.prog 126 #[.agg us.toArray] w (AllSeq0 w e) := by
  have HX := Lib.hid (OneX.new h 33)
  have C := Lib.hid (xclone_any e us _ hwt HX.out.da)
  have HWT := Lib.hid hwt
  obtain ⟨A, m, a, B, l, b, C', r, c, rfl, _⟩ := ex_open h
  obtain ⟨x0, x1, x2, x3, x4, x5, x6, x7⟩ := HX.out.one.c8
  clear h hwt
  go_enter Tryz.func126, Tryz.ntmps126
  go_wp2_with fail
  refine C.out.mono ?_
  rintro e1 w1 ⟨vs, rfl, hv, hb1⟩
  have hba : Below w1.heap.size w1 (w1.alloc (.cells vs.toArray 33)) := (Below.refl _ _).alloc (Nat.le_refl _) _
  have HB1 := Lib.hid ((HX.out.bel.trans (hb1.mono HX.out.bel.size)).trans (hba.mono (by have := HX.out.bel.size; have := hb1.size; omega)))
  have HV := Lib.hid (Dat.In.later (hv.wide (S' := (· < w1.heap.size)) fun b hb => hb.2) hba (fun _ h => h))
  have HBX := Lib.hid (Boxd.new w1 vs.toArray 33)
  have HSZ := Lib.hid (show w1.heap.size < (w1.alloc (.cells vs.toArray 33)).heap.size by simp)
  obtain ⟨_, _, _, _, _, _, _, _, _, rfl, _⟩ := ex_open hv
  clear hb1 hba x0 x1 x2 x3 x4 x5 x6 x7 C HX hv
  go_wp2_with fail
  go_ret
  generalize hW' : w1.alloc (.cells _ 33) = w' at *
  refine ⟨_, _, rfl, HB1.out, enters_of Tryz.func169 (by kernel_rfl) rfl, fun q n w2 _ hb2 hq l J Jx W hWb hJ _ hJb hY h0 => ?_⟩
  have hbw : Below w'.heap.size w' W := hb2.trans (hWb.mono hb2.size)
  exact all1_el q l 0 w2.heap.size n w1.heap.size e _ HWT.out J Jx W ((KeepO.new (n := 0) (m := 0) hWb).2 hq).1 hWb.size (Dat.In.wide (Dat.In.later HV.out (hbw.mono (Nat.le_of_lt HSZ.out)) (fun _ h => h)) fun b hb => Nat.lt_of_lt_of_le hb (Nat.le_trans (Nat.le_of_lt HSZ.out) hbw.size)) hJ hJb hY (HBX.out.later hbw) h0

/-- The row that the variable in the block k holds, in blocks from s on; what its types lead to. -/
structure TX (w : World) (k s : Nat) (l : List Ty) (W : World) : Prop where
  row : ∃ A c cs, W.cell? ⟨k, 0, none⟩ = some (.slice A l.length c) ∧ W.frozen? ⟨k, 0, none⟩ = false ∧ W.ownsRow s 28 3 (.slice A l.length c) l.length cs ∧ Dat.Ins W False (fun b => LB 0 s W b ∧ (Value.slice A l.length c).ownBlock ≠ some b) (Ty.dats l) cs
  bel : Below w.heap.size w W
  big : s ≤ W.heap.size
theorem TX.own {w : World} {k s B' : Nat} (hB : w.heap.size ≤ B') : OwnFrom B' (TX w k s) := fun l X Y row hs hg hr => by
  obtain ⟨A, c, cs, h1, h2, h3, h4⟩ := hs.row
  have hb : Below w.heap.size w Y := ownFrom_below (β := Unit) (Nat.le_refl _) hB () X Y row hs.bel hg hr
  refine ⟨⟨A, c, cs, cell_kept h1 hg (fun r e => (hr r e).2), (frozen_kept h1 hg (fun r e => (hr r e).2)).trans h2, h3.kept hg ?_, (Dat.Ins.last (fun p v _ hv => cell_kept hv hg (fun r e => (hr r e).2)) _ _ h4).wide' fun b hb2 => ⟨LB.up hg.size (Nat.le_refl _) b hb2.1, hb2.2⟩⟩, hb, Nat.le_trans hs.big hg.size⟩
  rcases h3.2 with ⟨e, _⟩ | ⟨g, cap, cur, e, _, hgb, _⟩
  · exact .inl (by rw [e]; rfl)
  · refine .inr fun e' => ?_
    obtain ⟨o, ho, hc⟩ := (hr g (by rw [← e', e]; rfl)).2
    rw [hgb] at ho; cases ho; cases hc
theorem TX.later {w W W' : World} {k s : Nat} {l : List Ty} (h : TX w k s l W) (hb : Below W.heap.size W W') : TX w k s l W' := by
  obtain ⟨A, c, cs, h1, h2, h3, h4⟩ := h.row
  exact ⟨⟨A, c, cs, (hb.cell (cell_lt h1)).trans h1, (hb.frozen (p := ⟨k, 0, none⟩) (cell_lt h1)).trans h2, own_below h3 hb, (h4.later hb fun _ hk => hk.1.1).wide' fun b hb2 => ⟨LB.up hb.size (Nat.le_refl _) b hb2.1, hb2.2⟩⟩, h.bel.trans (hb.mono h.bel.size), Nat.le_trans h.big hb.size⟩
theorem TX.has {w W : World} {k s : Nat} {l : List Ty} (h : TX w k s l W) : HasQ (some k) W := fun k' e => by
  obtain ⟨A, c, cs, h1, h2, h3, h4⟩ := h.row
  cases e
  exact ⟨_, h1, fun b hb => (h3.lt b hb).2⟩
/-- At the end: the row, seen from the call's beginning. -/
theorem TX.trow {w W : World} {k s lo : Nat} {l : List Ty} (h : TX w k s l W) (hs : w.heap.size ≤ s) : ∃ A c, W.cell? ⟨k, 0, none⟩ = some (.slice A l.length c) ∧ TRow lo w.heap.size w W (.slice A l.length c) l := by
  obtain ⟨A, c, cs, h1, h2, ⟨h3, h5⟩, h4⟩ := h.row
  refine ⟨A, c, h1, h.bel, cs, ⟨h3, ?_⟩, h4.wide' fun b hb => ⟨⟨hb.1.1, .inr (by have := hb.1.2; omega)⟩, hb.2⟩⟩
  rcases h5 with h5 | ⟨g, cap, cur, e1, e2, e3⟩
  · exact .inl h5
  · exact .inr ⟨g, cap, cur, e1, Nat.le_trans hs e2, e3⟩
/-- A part in a box of its own, aside of the row. -/
def EltAs (q : Option Nat) (m lo : Nat) (mk : Addr → Elt → Act) (x : Elt) (a' : Act) (W : World) : Prop := ∃ B, lo ≤ B ∧ a' = mk ⟨B, 0, none⟩ x ∧ Boxd W B x.2 ∧ HasQ q W ∧ ¬ OwnQ q W B ∧ x.1.dat.In W False (Aside q m W) x.2
theorem eltAs_own {B m lo : Nat} (q : Option Nat) (mk : Addr → Elt → Act) (x : Elt) (a' : Act) : OwnFrom B (fun (_ : Unit) W => EltAs q m lo mk x a' W) := fun _ X Y row hs hg hr => by
  obtain ⟨b, h0, h1, h2, h3, h4, h5⟩ := hs
  have hk : KeepO q 0 m X Y := KeepO.grown hg fun r e => (hr r e).2
  refine ⟨b, h0, h1, fun j u hu => cell_kept (h2 j u hu) hg (fun r e => (hr r e).2), (hk.2 h3).1, fun ho => ?_, hk.into h3 h5⟩
  obtain ⟨k, e, v, hv, hb⟩ := ho
  obtain ⟨u, hu, _⟩ := h3 k e
  rw [cell_kept hu hg (fun r e => (hr r e).2)] at hv
  cases hv
  exact h4 ⟨k, e, _, hu, hb⟩
theorem Appd.form {W W1 : World} {s n m : Nat} {v v1 : Value} {cs us : List Value} (hA : Appd W W1 s 28 3 n m v v1 cs us) : ∃ A1 c1, v1 = .slice A1 (n + m) c1 := by
  rcases hA.own.2 with ⟨e1, e2⟩ | ⟨g, cap, cur, e, _⟩
  · exact ⟨none, 0, by rw [e1, e2]⟩
  · exact ⟨_, cap, e⟩
/-- A round appends to the row and lays it in the variable again. -/
theorem TX.step {w W W1 : World} {k s c : Nat} {l rs : List Ty} {A : Option Addr} {cs us : List Value} {v1 : Value} (hwk : w.heap.size ≤ k) (hks : k < s) (hcell : W.cell? ⟨k, 0, none⟩ = some (.slice A l.length c)) (hfree : W.frozen? ⟨k, 0, none⟩ = false) (hown : W.ownsRow s 28 3 (.slice A l.length c) l.length cs)
    (hins : Dat.Ins W False (fun b => LB 0 s W b ∧ (Value.slice A l.length c).ownBlock ≠ some b) (Ty.dats l) cs) (hbel : Below w.heap.size w W) (hbig : s ≤ W.heap.size)
    (hu : Dat.Ins W False (fun b => LB 0 s W b ∧ (Value.slice A l.length c).ownBlock ≠ some b) (Ty.dats rs) us) (hA : Appd W W1 s 28 3 l.length rs.length (.slice A l.length c) v1 cs us) :
    TX w k s (l ++ rs) (W1.setCell ⟨k, 0, none⟩ v1) ∧ KeepO (some k) 0 s W (W1.setCell ⟨k, 0, none⟩ v1) ∧ KeepsOthers W (W1.setCell ⟨k, 0, none⟩ v1) := by
  have hob : ∀ g, (Value.slice A l.length c).ownBlock = some g → s ≤ g := own_base hown
  have hob1 : ∀ g, v1.ownBlock = some g → s ≤ g := own_base hA.own
  have hk : k < W.heap.size := cell_lt hcell
  have hk1 : some k ≠ (Value.slice A l.length c).ownBlock := fun e => by have := hob _ e.symm; omega
  have hs := hA.grow.size
  have hc1 : W1.cell? ⟨k, 0, none⟩ = some (.slice A l.length c) := (hA.grow.cell_far ⟨k, 0, none⟩ hk hk1).trans hcell
  have hf1 : W1.frozen? ⟨k, 0, none⟩ = false := (hA.grow.frozen_far ⟨k, 0, none⟩ hk hk1).trans hfree
  have hv1 : ∃ A1 c1, v1 = .slice A1 (l ++ rs).length c1 := by
    rcases hA.own.2 with ⟨e1, e2⟩ | ⟨g, cap, cur, e, _⟩
    · exact ⟨none, 0, by rw [e1, List.length_append, e2]⟩
    · exact ⟨_, cap, by rw [e, List.length_append]⟩
  obtain ⟨A1, c1, rfl⟩ := hv1
  have hsz : (W1.setCell ⟨k, 0, none⟩ (.slice A1 (l ++ rs).length c1)).heap.size = W1.heap.size := by simp [World.setCell]
  have hat : ∀ b, b < W.heap.size → (Value.slice A1 (l ++ rs).length c1).ownBlock = some b → (Value.slice A l.length c).ownBlock = some b := fun b hb e => by
    rcases hA.at_ with h3 | h3
    · rw [← h3]; exact e
    · rw [h3] at e
      have h4 : W.heap.size = b := by injection e
      omega
  have hkeep : ∀ p : Addr, s ≤ p.block → p.block < W.heap.size → (Value.slice A l.length c).ownBlock ≠ some p.block → (W1.setCell ⟨k, 0, none⟩ (.slice A1 (l ++ rs).length c1)).cell? p = W.cell? p ∧ (W1.setCell ⟨k, 0, none⟩ (.slice A1 (l ++ rs).length c1)).frozen? p = W.frozen? p := fun p h1 h2 h3 =>
    ⟨(World.cell?_setCell_other _ _ _ _ (fun e => by rw [← e] at h1; simp only at h1; omega)).trans (hA.grow.cell_far p h2 (fun e => h3 e.symm)), (World.frozen?_setCell _ _ _ _).trans (hA.grow.frozen_far p h2 (fun e => h3 e.symm))⟩
  have hn : ∀ b, LB 0 s W b ∧ (Value.slice A l.length c).ownBlock ≠ some b → LB 0 s (W1.setCell ⟨k, 0, none⟩ (.slice A1 (l ++ rs).length c1)) b ∧ (Value.slice A1 (l ++ rs).length c1).ownBlock ≠ some b := fun b h => ⟨⟨by rw [hsz]; have := h.1.1; omega, h.1.2⟩, fun e => h.2 (hat b h.1.1 e)⟩
  have hkk : ∀ p : Addr, LB 0 s W p.block ∧ (Value.slice A l.length c).ownBlock ≠ some p.block → (W1.setCell ⟨k, 0, none⟩ (.slice A1 (l ++ rs).length c1)).cell? p = W.cell? p ∧ (W1.setCell ⟨k, 0, none⟩ (.slice A1 (l ++ rs).length c1)).frozen? p = W.frozen? p := fun p h => hkeep p (by have := h.1.2; omega) h.1.1 h.2
  have hown1 : (W1.setCell ⟨k, 0, none⟩ (.slice A1 (l ++ rs).length c1)).ownsRow s 28 3 (.slice A1 (l ++ rs).length c1) (l ++ rs).length (cs ++ us) := by
    have := ownsRow_setCell_below hA.own (a := ⟨k, 0, none⟩) hks (.slice A1 (l ++ rs).length c1)
    rwa [← List.length_append] at this
  have hcell2 : (W1.setCell ⟨k, 0, none⟩ (.slice A1 (l ++ rs).length c1)).cell? ⟨k, 0, none⟩ = some (.slice A1 (l ++ rs).length c1) := World.cell?_setCell_same _ _ _ hc1
  refine ⟨⟨⟨A1, c1, cs ++ us, hcell2, (World.frozen?_setCell _ _ _ _).trans hf1, hown1, ?_⟩, (hbel.grown hA.grow hbel.size fun g hg => by have := hob g hg; omega).setCell (p := ⟨k, 0, none⟩) hwk _, by rw [hsz]; omega⟩, ⟨by rw [hsz]; exact hs, fun hq => ⟨fun k' e => by cases e; exact ⟨_, hcell2, fun b hb => (hown1.lt b hb).2⟩, fun p v hp ho hv => ?_, fun b hb hl => ?_⟩⟩, ?_⟩
  · rw [dats_app']
    exact Dat.Ins.app' (Dat.Ins.keep id (fun p hp => hkk p hp) hn _ _ hins) (Dat.Ins.keep id (fun p hp => hkk p hp) hn _ _ hu)
  · have h2 := hkeep p (hp.resolve_left (Nat.not_lt_zero _)) (cell_lt hv) fun e => ho ⟨k, rfl, _, hcell, e⟩
    exact ⟨h2.1.trans hv, h2.2⟩
  · obtain ⟨k', e, v, hv, h3⟩ := hb
    cases e
    rw [hcell2] at hv
    cases hv
    exact ⟨k, rfl, _, hcell, hat b hl h3⟩
  · refine KeepsOthers.trans ⟨hs, fun b o hb ho => ?_⟩ (KeepsOthers.setCell _ _ _)
    refine (hA.grow.block b (Array.getElem?_eq_some_iff.1 hb).1 fun e => ?_).trans hb
    rcases hown.2 with ⟨e1, _⟩ | ⟨g1, cap1, cur, e1, _, hg1, _⟩
    · rw [e1] at e; simp [Value.ownBlock] at e
    · obtain rfl : b = g1 := by rw [e1] at e; simpa [Value.ownBlock] using e
      rw [hg1] at hb; cases hb; cases ho
/-- As run_append_row, for longer rows. -/
theorem run_append_long {t e : TypeId} {size bytes : Nat} (hs : SlOf t e size bytes) (ty : TypeId) {w : World} {base n m c : Nat} {v : Value} {xs : List Value} {A : Option Addr} {us : List Value} (hown : w.ownsRow base e size v n xs) (hbase : base ≤ w.heap.size)
    (hl : us.length = m * size) (hc : ∀ a, A = some a → ∀ j u, us[j]? = some u → w.cell? (a.add j) = some u) (h1 : ∀ u ∈ us, u.oneCell' = true) (hA : 0 < m → ∃ a, A = some a) (h63 : n + m ≤ 1000000000) (hby : bytes ≤ 1000) :
    ∃ v' w', (Builtin.append_ #[t, t] ty #[v, .slice A m c]).run Tryz.prog w = .ok v' w' ∧ Appd w w' base e size n m v v' xs us := by
  obtain ⟨i, z, hi, hz, hsz, hb, hzs⟩ := hs.info
  by_cases hm : m = 0
  · subst hm
    have : us = [] := List.eq_nil_of_length_eq_zero (by rw [hl]; simp)
    subst this
    exact ⟨v, w, run_append_zero _ w base t ty e i size hs.und hi v n xs hown A c, by rw [List.append_nil]; exact hown, ⟨rfl, rfl, rfl, Nat.le_refl _, fun _ _ _ => rfl⟩, .inl rfl⟩
  · obtain ⟨a, rfl⟩ := hA (by omega)
    have hmul : (n + m) * bytes ≤ 1000000000 * 1000 := Nat.mul_le_mul h63 hby
    obtain ⟨g, cap, w', h2, h3, h4, h5, h6⟩ := run_append_lies (P := Tryz.prog) w t ty base e i z size bytes hs.und hi hz hsz hb hzs hs.pos v n xs hown a m c us hl (hc a rfl) h1 (by omega) (by unfold maxLen; omega) (by omega) hbase w.heap.size rfl
    refine ⟨_, w', h2, h3, h4, ?_⟩
    rcases h5 with h5 | h5
    · exact .inl (by rw [h5]; rfl)
    · exact .inr (by rw [h5]; rfl)
/-- A row is appended, within a fence. -/
theorem wpListIn_append_row {F : Fence} {N : Nat} {t e : TypeId} {size bytes : Nat} (hs : SlOf t e size bytes) {ops : Array Oper} {rest : List Oper} {o : Oper} {a : Act} {Q : Exit → Act → World → Prop} (hgd : o.guard = none) (s x : Operand) (ho : o.op = .call { callee := .builtin .append, args := #[s, x], argTypes := #[t, t] })
    {w : World} {base n m c : Nat} {v : Value} {xs : List Value} {A : Option Addr} {us : List Value} (hv : a.eval s = v) (hx : a.eval x = .slice A m c) (hown : w.ownsRow base e size v n xs) (hbase : base ≤ w.heap.size)
    (hl : us.length = m * size) (hc : ∀ a, A = some a → ∀ j u, us[j]? = some u → w.cell? (a.add j) = some u) (h1 : ∀ u ∈ us, u.oneCell' = true) (hA : 0 < m → ∃ a, A = some a) (h63 : n + m ≤ 1000000000) (hby : bytes ≤ 1000)
    (h : ∀ v' w', Appd w w' base e size n m v v' xs us → wpListIn F N Tryz.prog ops Q rest (a.put o.dst v') w') : wpListIn F N Tryz.prog ops Q (o :: rest) a w := by
  obtain ⟨v', w', hr, h2⟩ := run_append_long hs o.type hown hbase hl hc h1 hA h63 hby (c := c)
  refine wpListIn_plain hgd fun K hK' => ?_
  unfold Oper.wpIn
  refine ⟨by simp [Oper.about, ho, resolve, Target.leads, Sem.run_pure], ?_⟩
  rw [Oper.semAt_plain F _ _ (by rw [ho]; intro c hc'; cases hc')]
  simp [execOp, ho, resolve, invoke, builtin, hv, hx, hr, Result.andThen]
  exact hK' _ _ (h v' w' h2)
theorem setThree {cs : List Value} {n : Nat} (h : cs.length = n) {z0 z1 z2 u0 u1 u2 : Value} : (((cs ++ [z0, z1, z2]).set n u0).set (n + 1) u1).set (n + 1 + 1) u2 = cs ++ [u0, u1, u2] := by
  subst h
  rw [List.set_append_right _ _ (Nat.le_refl _), List.set_append_right _ _ (by omega), List.set_append_right _ _ (by omega), Nat.sub_self, show cs.length + 1 - cs.length = 1 by omega, show cs.length + 1 + 1 - cs.length = 2 by omega]
  rfl
theorem heap_cellsX {W : World} {g k : Nat} (hk : k ≠ g) (o : Nat) (vs : List Value) : (W.setCells g o vs).heap[k]? = W.heap[k]? := by
  induction vs generalizing o W with
  | nil => rfl
  | cons v r ih => rw [World.setCells, ih]; exact Below.heap_setCell _ _ _ _ (by simp only; exact fun e => hk e)
theorem own_someX {W : World} {B n : Nat} {v : Value} {cs : List Value} (h : W.ownsRow B 28 3 v n cs) (hn : 0 < n) : ∃ g cap, v = .slice (some ⟨g, 0, none⟩) n cap := by
  rcases h.2 with ⟨_, h0⟩ | ⟨g, cap, _, rfl, _⟩
  · omega
  · exact ⟨g, cap, rfl⟩
theorem zero_ty {w : World} {N : Prop} {S : Nat → Prop} : (Ty.mk ⟨#[]⟩ [] 0).dat.In w N S [.string ⟨#[]⟩, .slice none 0 0, .int .i64 0] :=
  ty_shut (t := .mk ⟨#[]⟩ [] 0) (by simp [Ty.name, ByteArray.size]) (lies_row.2 (Row.nil w N S 3 none))
/-- The last element of a row of one's own may be written. -/
theorem own_there {W : World} {B n g c : Nat} {cs : List Value} (h : W.ownsRow B 28 3 (.slice (some ⟨g, 0, none⟩) (n + 1) c) (n + 1) cs) : W.there g (n * 3) 3 := fun j hj => by
  have hl := h.1
  have hlt : n * 3 + j < cs.length := by omega
  have hc := h.cells (g := g) rfl (n * 3 + j) _ (List.getElem?_eq_getElem hlt)
  rw [add_zero_addr] at hc
  refine ⟨by rw [hc]; rfl, ?_⟩
  rcases h.2 with ⟨e, _⟩ | ⟨g', cap, cur, e, _, hg, _⟩
  · cases e
  · cases e
    simp [World.frozen?, hg]
/-- The zero that was appended is written over. -/
theorem Appd.store {W W1 : World} {s n g c1 : Nat} {v : Value} {cs : List Value} {z0 z1 z2 : Value} (u0 u1 u2 : Value) (hA : Appd W W1 s 28 3 n 1 v (.slice (some ⟨g, 0, none⟩) (n + 1) c1) cs [z0, z1, z2]) :
    Appd W (W1.setCells g (n * 3) [u0, u1, u2]) s 28 3 n 1 v (.slice (some ⟨g, 0, none⟩) (n + 1) c1) cs [u0, u1, u2] := by
  have hl : cs.length = n * 3 := by have := hA.own.1; simp only [List.length_append, List.length_cons, List.length_nil] at this; omega
  have h1 := ((hA.own.stored (n * 3) u0).1.stored (n * 3 + 1) u1).1.stored (n * 3 + 1 + 1) u2
  refine ⟨?_, ⟨hA.grow.os, hA.grow.tape, hA.grow.output, by rw [size_setCells_w]; exact hA.grow.size, fun k hk hne => ?_⟩, hA.at_⟩
  · have := h1.1
    rw [setThree hl] at this
    exact this
  · refine (heap_cellsX (fun e => ?_) _ _).trans (hA.grow.block k hk hne)
    subst e
    rcases hA.at_ with h3 | h3
    · exact hne h3
    · have h4 : k = W.heap.size := by simpa [Value.ownBlock] using h3
      omega
theorem ready_storeX {ty : TypeId} {z : Nat} (hf : Flat ty z) {ops : Array Oper} {o : Oper} {a : Act} {K : Act → World → Prop} {Q : Exit → Act → World → Prop} {E : Prop} (hgd : o.guard = none) (x y : Operand) (ho : o.op = .store ty x y) {w : World} {b off : Nat} {us : List Value}
    (hx : a.eval x = .pointer (some ⟨b, off, none⟩)) (hy : a.eval y = .agg us.toArray) (ht : w.there b off us.length) (h1 : ∀ u ∈ us, u.oneCell' = true) (hl : us.length = z) (h : K (a.put o.dst undef) (w.setCells b off us)) : if Region.wanted o (yielded ops a.tmps) = true then Oper.wp Tryz.prog o a w K Q else E := by
  have hw : Region.wanted o (yielded ops a.tmps) = true := by simp [Region.wanted, hgd]
  rw [if_pos hw]
  exact wp_store_mid ty x y ho b off us.toArray hx hy (by simpa using ht) (by rw [List.size_toArray, hl]; exact hf.size) (all_oneCell_toArray h1) (by simpa using h)
theorem ready_append_long {t e : TypeId} {size bytes : Nat} (hs : SlOf t e size bytes) {ops : Array Oper} {o : Oper} {a : Act} {K : Act → World → Prop} {Q : Exit → Act → World → Prop} {E : Prop} (hgd : o.guard = none) (s x : Operand) (ho : o.op = .call { callee := .builtin .append, args := #[s, x], argTypes := #[t, t] })
    {w : World} {base n m c : Nat} {v : Value} {xs : List Value} {A : Option Addr} {us : List Value} (hv : a.eval s = v) (hx : a.eval x = .slice A m c) (hown : w.ownsRow base e size v n xs) (hbase : base ≤ w.heap.size)
    (hl : us.length = m * size) (hc : ∀ a, A = some a → ∀ j u, us[j]? = some u → w.cell? (a.add j) = some u) (h1 : ∀ u ∈ us, u.oneCell' = true) (hA : 0 < m → ∃ a, A = some a) (h63 : n + m ≤ 1000000000) (hby : bytes ≤ 1000)
    (h : ∀ v' w', Appd w w' base e size n m v v' xs us → K (a.put o.dst v') w') : if Region.wanted o (yielded ops a.tmps) = true then Oper.wp Tryz.prog o a w K Q else E := by
  have hw : Region.wanted o (yielded ops a.tmps) = true := by simp [Region.wanted, hgd]
  rw [if_pos hw]
  obtain ⟨v', w', hr, h2⟩ := run_append_long hs o.type hown hbase hl hc h1 hA h63 hby (c := c)
  unfold Oper.wp execOp
  simp only [ho, resolve, invoke, builtin, Sem.run_bind, Sem.run_pure, Result.andThen_ok, List.map_toArray, List.map_cons, List.map_nil, hv, hx, hr]
  exact h v' w' h2
theorem setCell_comm (w : World) (p q : Addr) (u v : Value) (h : p.block ≠ q.block) : (w.setCell p u).setCell q v = (w.setCell q v).setCell p u := by
  simp only [World.setCell]
  congr 1
  apply Array.ext
  · simp
  · intro i h1 h2
    simp only [Array.getElem_modify]
    by_cases e1 : p.block = i
    · by_cases e2 : q.block = i
      · omega
      · simp [e1, e2]
    · by_cases e2 : q.block = i <;> simp [e1, e2]
theorem setCells_comm (p : Addr) (v : Value) (g : Nat) (h : p.block ≠ g) : ∀ (vs : List Value) (o : Nat) (w : World), (w.setCell p v).setCells g o vs = (w.setCells g o vs).setCell p v
  | [], _, _ => rfl
  | x :: r, o, w => by
    rw [World.setCells, World.setCells, setCell_comm w p ⟨g, o, none⟩ v x h]
    exact setCells_comm p v g h r (o + 1) _
theorem there_setCellX {w : World} {b o n : Nat} (h : w.there b o n) (p : Addr) (v : Value) : (w.setCell p v).there b o n := by
  intro j hj
  obtain ⟨h1, h2⟩ := h j hj
  refine ⟨?_, (World.frozen?_setCell _ _ _ _).trans h2⟩
  by_cases e : p = ⟨b, o + j, none⟩
  · rw [← e] at h1 ⊢
    rw [World.cell?_setCell_same' _ _ _ h1]
    rfl
  · rw [World.cell?_setCell_other _ _ _ _ e]
    exact h1
/-- No operation defers a call. -/
def noDeferX (ops : Array Oper) : Bool := ops.toList.all fun o => match o.op with | .defer _ => false | _ => true
theorem noDefer_atX {ops : Array Oper} (h : noDeferX ops = true) {i : Nat} {o : Oper} (hi : ops[i]? = some o) : ∀ c, o.op ≠ .defer c := fun c hc => by
  have hm : o ∈ ops.toList := by
    obtain ⟨hl, e⟩ := Array.getElem?_eq_some_iff.1 hi
    rw [← e]; exact Array.mem_toList_iff.2 (Array.getElem_mem hl)
  have := List.all_eq_true.1 h o hm
  rw [hc] at this
  cases this
theorem op_roundX {P : Program} {l n : Nat} {o : Oper} {a : Act} {w : World} {K : Act → World → Prop} {Q : Exit → Act → World → Prop} (hd : ∀ c, o.op ≠ .defer c) (h : o.wp P a w K Q) : o.wpIn (Fence.wide.inRound l) n P a w K Q := by
  refine ⟨fun _ _ => trivial, ?_⟩
  rw [Oper.semAt_eq _ _ _ hd]
  unfold Oper.wp at h
  generalize (execOp a.eval o).run P w = r at *
  have hdd : ∀ k : Nat, ((Fence.wide.inRound l).depth.isSome = true → 1 ≤ k) := fun k h => by cases h
  cases r with
  | ok x w' =>
    cases x <;> simp only [Oper.upon, Oper.uponIn] at h ⊢ <;>
      first
        | exact h
        | exact ⟨hdd _, CallsIn.inRound l (callsIn_wide.2 h)⟩
        | exact ⟨hdd _, fun c cs _ => let ⟨v, w', r, s⟩ := h c cs; ⟨v, w', r, stepsIn_wide.2 s⟩⟩
  | halt x w' => cases x <;> simp only [Oper.upon, Oper.uponIn] at h ⊢ <;> exact h
theorem any_roundX {P : Program} {l n : Nat} {md : Region.Mode} {ops : Array Oper} {Q : Exit → Act → World → Prop} (hd : noDeferX ops = true) (hQ : ¬ LetsOut Q) : ∀ (fuel : Nat) (listed : Array Bool) (a : Act) (w : World), wpAny P md ops Q fuel listed a w → wpAnyIn (Fence.wide.inRound l) n P md ops Q fuel listed a w
  | 0, _, _, _, h => h
  | fuel + 1, listed, a, w, h => ⟨h.1, fun i hi => by
    have h2 := wpOp_mono (fun a' w' h' => any_roundX (l := l) (n := n) hd hQ fuel _ a' w' h') (h.2 i hi)
    unfold wpOp at h2
    unfold wpOpIn
    cases ho : ops[i]? with
    | none => rw [ho] at h2; exact h2
    | some o =>
      rw [ho] at h2
      simp only at h2 ⊢
      by_cases hw : Region.wanted o (yielded ops a.tmps) = true
      · rw [if_pos hw] at h2 ⊢
        exact op_roundX (noDefer_atX hd ho) (h2.resolve_right fun h => hQ h.2)
      · rw [if_neg hw] at h2 ⊢
        exact ⟨fun _ _ => trivial, h2⟩⟩
/-- The beginning: as in the plain walk. -/
theorem region_roundX {P : Program} {l n id : Nat} {ops : Array Oper} {Q : Exit → Act → World → Prop} {S : World → Prop} {a : Act} {w : World} (hm : P.follows .mixedOrders = true) (hd : noDeferX ops = true) (hQ : ¬ LetsOut Q) (hS : S w.drew)
    (h : S w.drew → wpAnyH P .any ops Q S ops.size (Array.replicate ops.size false) a w.drew) : (Code.region id ops true).wpIn (Fence.wide.inRound l) n P Q a w :=
  wpIn_region_any hm (any_roundX hd hQ _ _ _ _ (wpAny_of_held _ _ _ _ (h hS)))
end Go.Proofs.YtaeljknfbanbfaaGreatDoor
namespace Go.Proofs.YtaeljknfbanbfaaGreatDoor
open Go.RowKit
attribute [local go_sem] Oper.semAt_some

def tysX (q : List Elt) : List Ty := q.flatMap fun x => x.1.targs ++ if x.1.kind = 3 ∨ x.1.kind = 5 then [x.1.ty] else []
theorem tysX_all {q : List Elt} {e : Ex} (h : q.map Prod.fst = e.list) : tysX q = exTys e := by
  rw [exTys, ← h, List.flatMap_map]; rfl
theorem tysX_snoc (q : List Elt) (x : Elt) : tysX (q ++ [x]) = tysX q ++ x.1.targs ++ if x.1.kind = 3 ∨ x.1.kind = 5 then [x.1.ty] else [] := by simp [tysX, List.flatMap_append]
open Ex in
theorem list_wtX : ∀ e : Ex, e.list.length ≤ e.wt := by
  refine Ex.ind fun k s t ts xs o ih => ?_
  have hL : ∀ ys : List Ex, (∀ y ∈ ys, y ∈ xs) → (Ex.listL ys).length ≤ Ex.wtL ys := by
    intro ys
    induction ys with
    | nil => intro _; simp [Ex.listL]
    | cons y r ih2 =>
      intro hy
      have h1 := ih y (hy y (by simp))
      have h2 := ih2 fun z hz => hy z (by simp [hz])
      simp only [Ex.listL, Ex.wtL, List.length_append]; omega
  have h1 := hL xs fun _ h => h
  have h3 : 1 ≤ Ty.wt t := by cases t; simp only [Ty.wt]; omega
  simp only [Ex.list, Ex.wt, List.length_cons]; omega
theorem targs_len (u : Ex) : u.targs.length ≤ u.wt := by
  obtain ⟨k, s, t, ts, xs, o⟩ := u
  have := Ty.wtL_len ts
  simp only [Ex.wt]
  show ts.length ≤ _
  omega

set_option maxRecDepth 100000 in
set_option maxHeartbeats 8000000 in
theorem inExpr_any : InExprOk := by
  intro e us lo w hlo hwt hlen h
  have h1 : e.dat.H w us := h.wide fun b hb => Nat.lt_of_lt_of_le hb hlo
  have hx : OneX w ((w.alloc (.cells us.toArray 33)).alloc (.cells #[.slice none 0 0] 26)) e us := (OneX.new h1 33).later ((Below.refl _ _).alloc (Nat.le_refl _) _)
  have hv : ((w.alloc (.cells us.toArray 33)).alloc (.cells #[.slice none 0 0] 26)).heap[w.heap.size + 1]? = some (.cells #[.slice none 0 0] 26) := heap_alloc_two _ _ _
  obtain ⟨A, m, a, B, l, b, C, r, c, rfl, _⟩ := ex_open h
  have HX := Lib.hid hx
  have HV := Lib.hid hv
  have HWT := Lib.hid hwt
  have HLL := Lib.hid (show e.list.length ≤ 1000 from Nat.le_trans (list_wtX e) hwt)
  clear hx hv h h1 hlo hlen
  refine (callsIn_wide (n := 9)).1 (callsIn_of_wp_marks Tryz.func122 rfl trivial ?_ rfl)
  simp only [Tryz.ntmps122, List.size_toArray, List.length_cons, List.length_nil, Nat.reduceAdd, Nat.reduceSub, Array.replicate_succ, Array.replicate_zero, List.push_toArray, List.append_toArray, List.nil_append, List.cons_append]
  refine wpIn_wide.2 ?_
  obtain ⟨x0, x1, x2, x3, x4, x5, x6, x7⟩ := HX.out.one.c8
  go_wp2_with fail
  generalize hW : (w.alloc (.cells #[.int .i64 e.kind, .string e.name, .string e.ty.name, .slice A m a, .int .i64 e.ty.off, .slice B l b, .slice C r c, .int .i64 e.off] 33)).alloc (.cells #[.slice none 0 0] 26) = W at *
  clear hW
  refine (xall0_any e _ W (by omega) HX.out.da).mono ?_
  rintro e5 w5 ⟨g, lb, rfl, hb, hent, hseq⟩
  clear x0 x1 x2 x3 x4 x5 x6 x7
  have B5 := Lib.hid (HX.out.bel.trans (hb.mono HX.out.bel.size))
  have R5 := Lib.hid ((hb.block _ (Array.getElem?_eq_some_iff.1 HV.out).1).trans HV.out)
  have HEN := Lib.hid hent
  have HSQ := Lib.hid hseq
  have HLT := Lib.hid (show w.heap.size + 1 < w5.heap.size from (Array.getElem?_eq_some_iff.1 R5.out).1)
  have HT0 := Lib.hid (show TX w (w.heap.size + 1) w5.heap.size [] w5 from ⟨⟨none, 0, [], by rw [cell_of_row _ _ 0 _ _ (0, 0) R5.out]; rfl, frozen_of_row R5.out 0, World.ownsRow_nil _ _ _ _, by rw [Ty.dats, Dat.Ins]⟩, B5.out, Nat.le_refl _⟩)
  clear hb hent hseq HX HV
  go_wp2_with fail
  refine (wpIn_wide (n := 9)).1 ?_
  refine range_if (by omega) (gf := g) (lb := lb) rfl HEN.out (HSQ.out (some (w.heap.size + 1)) 8 w5 (by omega) (Below.refl _ _) HT0.out.has) (fun h k => h.trans k) (fun W l o o' _ h hc _ => KeepO.put W l o o' h hc) (Below.refl _ _) (fun _ => rfl)
    (fun pre W => TX w (w.heap.size + 1) w5.heap.size (tysX pre) W ∧ (tysX pre).length ≤ 100001 * pre.length) (fun _ _ _ => False)
    (fun s A B row hs hg hr => ⟨TX.own B5.out.size _ A B row hs.1 hg hr, hs.2⟩) (fun s A B hs hb => ⟨hs.1.later hb, hs.2⟩) (fun c s A B row hs hg hr => hs)
    ⟨HT0.out, by simp [tysX]⟩
    (fun x a' W => EltAs (some (w.heap.size + 1)) w5.heap.size w5.heap.size (fun p x => { tmps := #[.agg #[.int .i64 e.kind, .string e.name, .string e.ty.name, .slice A m a, .int .i64 e.ty.off, .slice B l b, .slice C r c, .int .i64 e.off], .pointer (some ⟨w.heap.size, 0, none⟩), .slice none 0 0, .pointer (some ⟨w.heap.size + 1, 0, none⟩), .pointer (some p), .agg #[.int .i64 e.kind, .string e.name, .string e.ty.name, .slice A m a, .int .i64 e.ty.off, .slice B l b, .slice C r c, .int .i64 e.off],
      .func (.func g) #[] lb, .agg x.2.toArray, undef, undef, undef, undef, undef, undef, undef, undef, undef, undef, undef, undef, undef, undef, undef, undef, undef, undef, undef, undef], defers := [] }) x a' W ∧ x.1.wt ≤ 100000) (fun x a' => fun _ X Y row hs hg hr => ⟨eltAs_own _ _ x a' () X Y row hs.1 hg hr, hs.2⟩) ?assign ?body ?done ?stop
  case assign =>
    rintro l pre ⟨u, us⟩ W K hC ⟨htx, hln⟩ hK
    have hb1 : Below W.heap.size W (W.alloc (.cells us.toArray 33)) := (Below.refl _ _).alloc (Nat.le_refl _) _
    have has := aside_new hb1 htx.has htx.big (Nat.le_refl _) (by simp)
    have HK := Lib.hid (fun a' (ha : a' = _) => hK a' (W.alloc (.cells us.toArray 33)) ((keepsOthers_below hb1).from _) (KeepO.new hb1) ⟨htx.later hb1, hln⟩ ⟨⟨W.heap.size, htx.big, ha, Boxd.new W us.toArray 33, (htx.later hb1).has, has.2.2, (KeepO.new (n := 0) hb1).into htx.has hC.2⟩, hC.1⟩)
    obtain ⟨_, _, _, _, _, _, _, _, _, rfl, _⟩ := ex_open (e := u) (us := us) hC.2
    clear hK hb1 htx hln hC has
    simp only [Elt.enc]
    gi_wp2
    exact HK.out _ rfl
  case body =>
    rintro l pre ⟨u, us⟩ a' Wr _ _ ⟨htx, hln⟩ ⟨⟨bx, hlo2, rfl, hbx, hhq, hno, hud⟩, hwu⟩ hlen
    obtain ⟨A2, m2, a2, B2, l2, b2, C2, r2, c2, rfl, _, htn, hta, htg, _⟩ := ex_open (e := u) (us := us) hud
    obtain ⟨LA, lc, cs, hl1, hl2, hl3, hl4⟩ := htx.row
    obtain ⟨tus, hF⟩ := (lies_row.1 htg).flat (fun b hb => hb.2.1)
    obtain rfl := hF.num
    have hFi : Dat.Ins Wr False (fun b => LB 0 w5.heap.size Wr b ∧ (Value.slice LA (tysX pre).length lc).ownBlock ≠ some b) (Ty.dats u.targs) tus := hF.ins.wide' fun b hb => ⟨⟨hb.2.1, .inr hb.1⟩, fun e => hb.2.2 ⟨_, rfl, _, hl1, e⟩⟩
    have htl := targs_len u
    have hle : pre.length ≤ 1000 := by have := HLL.out; omega
    have hn9 : (tysX pre).length + u.targs.length ≤ 999999999 := by
      have : 100001 * pre.length ≤ 100001 * 1000 := Nat.mul_le_mul_left _ hle
      simp only at hwu
      omega
    obtain ⟨y0, y1, y2, y3, y4, y5, y6, y7⟩ := hbx.c8
    have has0 : Aside (some (w.heap.size + 1)) w5.heap.size Wr bx := ⟨hlo2, hbx.lt, hno⟩
    have HF := Lib.hid hF
    have HFI := Lib.hid hFi
    have HTX := Lib.hid htx
    have HLN := Lib.hid hln
    have HBX := Lib.hid hbx
    have HAS := Lib.hid has0
    have HTY := Lib.hid (ty_shut (c := a2) htn hta)
    have HN9 := Lib.hid hn9
    have HTL := Lib.hid htl
    have HWU := Lib.hid (show u.wt ≤ 100000 from hwu)
    have HL1 := Lib.hid hl1
    have HL2 := Lib.hid hl2
    have HL3 := Lib.hid hl3
    have HL4 := Lib.hid hl4
    have hne : w.heap.size + 1 ≠ bx := by have := HLT.out; omega
    clear htx hln hbx hhq hno hud hwu hlen htn hta htg hl3 hl4 hF hFi htl hle hn9 has0 hlo2
    have hk1 : some (w.heap.size + 1) ≠ (Value.slice LA (tysX pre).length lc).ownBlock := fun e => by have h1 := own_base HL3.out _ e.symm; have := HLT.out; omega
    have hb1 : some bx ≠ (Value.slice LA (tysX pre).length lc).ownBlock := fun e => HAS.out.2.2 ⟨_, rfl, _, HL1.out, e.symm⟩
    have HK1 := Lib.hid hk1
    have HB1 := Lib.hid hb1
    have HKD := Lib.hid (show ((u.kind == 3) = true ∧ (u.kind = 3 ∨ u.kind = 5)) ∨ ((u.kind == 3) = false ∧ (u.kind == 5) = true ∧ (u.kind = 3 ∨ u.kind = 5)) ∨ ((u.kind == 3) = false ∧ (u.kind == 5) = false ∧ ¬ (u.kind = 3 ∨ u.kind = 5)) by
      by_cases h3 : u.kind = 3
      · exact .inl ⟨by simp [h3], .inl h3⟩
      · by_cases h5 : u.kind = 5
        · exact .inr (.inl ⟨by simpa using h3, by simp [h5], .inr h5⟩)
        · exact .inr (.inr ⟨by simpa using h3, by simpa using h5, by simp [h3, h5]⟩))
    clear hk1 hb1
    gi_wp2_with (gi_at_builtin; refine wpListIn_append_row slTy rfl _ _ rfl rfl rfl HL3.out HTX.out.big HF.out.len HF.out.cells HF.out.ones HF.out.some_ (by have := HN9.out; omega) (by omega) ?_; intro v4 w4 hA4; obtain ⟨A4, c4, rfl⟩ := hA4.form; have z0 : w4.cell? ⟨w.heap.size + 1, 0, none⟩ = some (.slice LA (tysX pre).length lc) := (hA4.grow.cell_far ⟨w.heap.size + 1, 0, none⟩ (cell_lt HL1.out) HK1.out).trans HL1.out; have z1 : w4.frozen? ⟨w.heap.size + 1, 0, none⟩ = false := (hA4.grow.frozen_far ⟨w.heap.size + 1, 0, none⟩ (cell_lt HL1.out) HK1.out).trans HL2.out; have z2 : w4.cell? ⟨bx, 0, none⟩ = some (.int .i64 u.kind) := (hA4.grow.cell_far ⟨bx, 0, none⟩ HAS.out.2.1 HB1.out).trans y0; have HST := Lib.hid (TX.step (Nat.le_succ _) HLT.out HL1.out HL2.out HL3.out HL4.out HTX.out.bel HTX.out.big HFI.out hA4); clear hA4 y0 y1 y2 y3 y4 y5 y6 y7 hl1 hl2; rcases HKD.out with ⟨e3, ht⟩ | ⟨e3, e5, ht⟩ | ⟨e3, e5, ht⟩)
    rotate_left 2
    · have HS := HST.out
      exact ⟨HS.2.2.from _, HS.2.1, by rw [tysX_snoc, if_neg ht, List.append_nil]; exact HS.1, by rw [tysX_snoc, if_neg ht, List.append_nil, List.length_append, List.length_append, List.length_cons, List.length_nil]; have := HLN.out; have := HTL.out; have := HWU.out; simp only; omega⟩
    all_goals
      have hst := HST.out
      obtain ⟨htx2, hko2, hks2⟩ := hst
      have hq2 := hko2.2 HTX.out.has
      have hdr : Below (w4.setCell ⟨w.heap.size + 1, 0, none⟩ (.slice A4 ((tysX pre).length + u.targs.length) c4)).heap.size (w4.setCell ⟨w.heap.size + 1, 0, none⟩ (.slice A4 ((tysX pre).length + u.targs.length) c4)) (w4.setCell ⟨w.heap.size + 1, 0, none⟩ (.slice A4 ((tysX pre).length + u.targs.length) c4)).drew := (Below.refl _ _).drew
      have HTD := Lib.hid (htx2.later hdr)
      have HBXd := Lib.hid ((hko2.boxd HTX.out.has HAS.out HBX.out).later hdr)
      have HASd := Lib.hid ((KeepO.new (n := 0) hdr).aside htx2.has (hko2.aside HTX.out.has HAS.out))
      have HTYd := Lib.hid ((KeepO.new (n := 0) hdr).into htx2.has (hko2.into HTX.out.has HTY.out))
      have HKOd := Lib.hid (hko2.trans (KeepO.new hdr))
      have HKSd := Lib.hid (hks2.trans (keepsOthers_below hdr))
      clear htx2 hko2 hks2 hq2 hdr HST
      obtain ⟨LA2, lc2, cs2, g1, g2, g3, g4⟩ := HTD.out.row
      obtain ⟨n1, hn1⟩ : ∃ n, (tysX pre ++ u.targs).length = n := ⟨_, rfl⟩
      have HN1 := Lib.hid hn1
      have HLS := Lib.hid (show n1 = (tysX pre).length + u.targs.length by rw [← hn1, List.length_append])
      rw [hn1] at g1 g3 g4
      have G1 := Lib.hid g1
      have G2 := Lib.hid g2
      have G3 := Lib.hid g3
      have G4 := Lib.hid g4
      have HNX := Lib.hid (show n1 + 1 ≤ 1000000000 by have := HLS.out; have := HN9.out; omega)
      have zz0 : (0 : Int) ≤ n1 := by omega
      have zz1 : (n1 : Int) < (n1 : Int) + 1 := by omega
      have zz2 : (n1 : Int) ≤ 1000000000 := by have := HNX.out; omega
      obtain ⟨y0, y1, y2, y3, y4, y5, y6, y7⟩ := HBXd.out.c8
      have HAO := Lib.hid (show some bx ≠ (Value.slice LA2 n1 lc2).ownBlock from fun e => HASd.out.2.2 ⟨_, rfl, _, G1.out, e.symm⟩)
      clear g1 g2 g3 g4 hn1 z0 z1 z2
      refine region_roundX (S := fun V => V.cell? ⟨bx, 2, none⟩ = some (.string u.ty.name) ∧ V.cell? ⟨bx, 3, none⟩ = some (.slice A2 m2 a2) ∧ V.cell? ⟨bx, 4, none⟩ = some (.int .i64 u.ty.off)) (by kernel_rfl) (by kernel_rfl) (by rintro ⟨_, _, h⟩; exact h) ⟨y2, y3, y4⟩ (fun hS => ?_)
      clear y0 y1 y2 y3 y4 y5 y6 y7
      generalize World.drew (w4.setCell ⟨w.heap.size + 1, 0, none⟩ (.slice A4 ((tysX pre).length + u.targs.length) c4)) = Wd at *
      refine wpAnyH_take (i := 1) (v := ?_) rfl (by kernel_rfl) (by kernel_rfl) (by kernel_rfl) (fun _ _ _ h => h) (Or.inl ⟨by rfl, ?_⟩) (by assumption) ?_
      rotate_left
      · (intro V hV; obtain ⟨k0, k1, k2⟩ := hV; go_simp; try with_reducible rfl)
      try simp only [Act.put, List.getElem_toArray, List.getElem_cons_zero, List.getElem_cons_succ, List.setIfInBounds_toArray, List.set_cons_zero, List.set_cons_succ]
      refine wpAnyH_take (i := 2) (v := ?_) rfl (by kernel_rfl) (by kernel_rfl) (by kernel_rfl) (fun _ _ _ h => h) (Or.inl ⟨by rfl, ?_⟩) (by assumption) ?_
      rotate_left
      · (intro V hV; obtain ⟨k0, k1, k2⟩ := hV; go_simp; try with_reducible rfl)
      try simp only [Act.put, List.getElem_toArray, List.getElem_cons_zero, List.getElem_cons_succ, List.setIfInBounds_toArray, List.set_cons_zero, List.set_cons_succ]
      have g1d := G1.out
      refine wpAnyH_ready (rs := [0, 4]) (by kernel_rfl) (by simp) ?_
      refine AllReadyH.cons rfl (fun K hK => ?_) (AllReadyH.cons rfl (fun K hK => ?_) (AllReadyH.nil))
      · skip
        go_simp
        have SS := hS
        refine hK.out _ _ SS (fun hS => ?_)
        clear hK K
        try simp only [Act.put, List.getElem_toArray, List.getElem_cons_zero, List.getElem_cons_succ, List.setIfInBounds_toArray, List.set_cons_zero, List.set_cons_succ]
        refine wpAnyH_take (i := 3) (v := ?_) rfl (by kernel_rfl) (by kernel_rfl) (by kernel_rfl) (fun _ _ _ h => h) (Or.inl ⟨by rfl, ?_⟩) (by assumption) ?_
        rotate_left
        · (intro V hV; obtain ⟨k0, k1, k2⟩ := hV; go_simp; try with_reducible rfl)
        try simp only [Act.put, List.getElem_toArray, List.getElem_cons_zero, List.getElem_cons_succ, List.setIfInBounds_toArray, List.set_cons_zero, List.set_cons_succ]
        refine wpAnyH_ready (rs := [4]) (by kernel_rfl) (by simp) ?_
        refine AllReadyH.cons rfl (fun K hK => ?_) (AllReadyH.nil)
        go_simp
        have hb : Below Wd.heap.size Wd (World.alloc Wd (.cells #[.string ⟨#[]⟩, .slice none 0 0, .int .i64 0] 28)) := (Below.refl _ _).alloc (Nat.le_refl _) _
        have SS : (World.alloc Wd (.cells #[.string ⟨#[]⟩, .slice none 0 0, .int .i64 0] 28)).cell? ⟨bx, 2, none⟩ = some (.string u.ty.name) ∧ (World.alloc Wd (.cells #[.string ⟨#[]⟩, .slice none 0 0, .int .i64 0] 28)).cell? ⟨bx, 3, none⟩ = some (.slice A2 m2 a2) ∧ (World.alloc Wd (.cells #[.string ⟨#[]⟩, .slice none 0 0, .int .i64 0] 28)).cell? ⟨bx, 4, none⟩ = some (.int .i64 u.ty.off) := ⟨(hb.cell (cell_lt hS.1)).trans hS.1, (hb.cell (cell_lt hS.2.1)).trans hS.2.1, (hb.cell (cell_lt hS.2.2)).trans hS.2.2⟩
        have HFZ := Lib.hid (flat_new (V := Wd) (lo := 0) (t := .mk ⟨#[]⟩ [] 0) 28 zero_ty (Nat.zero_le _))
        have HBA := Lib.hid hb
        have g1a : (World.alloc Wd (.cells #[.string ⟨#[]⟩, .slice none 0 0, .int .i64 0] 28)).cell? ⟨w.heap.size + 1, 0, none⟩ = some (.slice LA2 n1 lc2) := (hb.cell (cell_lt G1.out)).trans G1.out
        have g2a : (World.alloc Wd (.cells #[.string ⟨#[]⟩, .slice none 0 0, .int .i64 0] 28)).frozen? ⟨w.heap.size + 1, 0, none⟩ = false := (hb.frozen (p := ⟨w.heap.size + 1, 0, none⟩) (cell_lt G1.out)).trans G2.out
        have G3a := Lib.hid (own_below G3.out hb)
        have G4a := Lib.hid ((G4.out.later hb fun _ hk => hk.1.1).wide' fun b hb2 => (⟨LB.up hb.size (Nat.le_refl _) b hb2.1, hb2.2⟩ : LB 0 w5.heap.size (World.alloc Wd (.cells #[.string ⟨#[]⟩, .slice none 0 0, .int .i64 0] 28)) b ∧ (Value.slice LA2 n1 lc2).ownBlock ≠ some b))
        have HTYa := Lib.hid ((KeepO.new (n := 0) hb).into HTD.out.has HTYd.out)
        have HBLa := Lib.hid (HTD.out.bel.trans (hb.mono HTD.out.bel.size))
        have HBGa := Lib.hid (Nat.le_trans HTD.out.big hb.size)
        have HASa := Lib.hid ((KeepO.new (n := 0) hb).boxd HTD.out.has HASd.out HBXd.out)
        generalize World.alloc Wd (.cells #[.string ⟨#[]⟩, .slice none 0 0, .int .i64 0] 28) = WA at *
        refine hK.out _ _ SS (fun hS => ?_)
        clear hK K
        try simp only [Act.put, List.getElem_toArray, List.getElem_cons_zero, List.getElem_cons_succ, List.setIfInBounds_toArray, List.set_cons_zero, List.set_cons_succ]
        clear hb
        have HAK := Lib.hid (show some (w.heap.size + 1) ≠ (Value.slice LA2 n1 lc2).ownBlock from fun e => by have h1 := own_base G3a.out _ e.symm; have := HLT.out; omega)
        have G2a := Lib.hid g2a
        have G1a := Lib.hid g1a
        refine wpAnyH_ready (rs := [5]) (by kernel_rfl) (by simp) ?_
        refine AllReadyH.cons rfl (fun K hK => ?_) (AllReadyH.nil)
        refine ready_append_long slTy rfl _ _ rfl rfl rfl G3a.out HBGa.out HFZ.out.len HFZ.out.cells HFZ.out.ones HFZ.out.some_ HNX.out (by omega) ?_
        intro v6 w6 hA6
        have hA6 : Appd WA w6 w5.heap.size 28 3 n1 1 (.slice LA2 n1 lc2) v6 cs2 [.string ⟨#[]⟩, .slice none 0 0, .int .i64 0] := hA6
        obtain ⟨g6, c6, rfl⟩ : ∃ g6 c6, v6 = .slice (some ⟨g6, 0, none⟩) (n1 + 1) c6 := own_someX hA6.own (by omega)
        have SS : w6.cell? ⟨bx, 2, none⟩ = some (.string u.ty.name) ∧ w6.cell? ⟨bx, 3, none⟩ = some (.slice A2 m2 a2) ∧ w6.cell? ⟨bx, 4, none⟩ = some (.int .i64 u.ty.off) := ⟨(hA6.grow.cell_far ⟨bx, 2, none⟩ (cell_lt hS.1) HAO.out).trans hS.1, (hA6.grow.cell_far ⟨bx, 3, none⟩ (cell_lt hS.2.1) HAO.out).trans hS.2.1, (hA6.grow.cell_far ⟨bx, 4, none⟩ (cell_lt hS.2.2) HAO.out).trans hS.2.2⟩
        have z2 : w6.cell? ⟨w.heap.size + 1, 0, none⟩ = some (.slice LA2 n1 lc2) := (hA6.grow.cell_far ⟨w.heap.size + 1, 0, none⟩ (cell_lt G1a.out) HAK.out).trans G1a.out
        have z3 : w6.frozen? ⟨w.heap.size + 1, 0, none⟩ = false := (hA6.grow.frozen_far ⟨w.heap.size + 1, 0, none⟩ (cell_lt G1a.out) HAK.out).trans G2a.out
        have HTH := Lib.hid (own_there hA6.own)
        have hg6 : w5.heap.size ≤ g6 := own_base hA6.own g6 rfl
        have hgk : w.heap.size + 1 ≠ g6 := by have := HLT.out; omega
        have hbg : bx ≠ g6 := fun e => by
          rcases hA6.at_ with h3 | h3
          · exact HAO.out (by rw [e]; exact h3)
          · have h4 : g6 = WA.heap.size := Option.some.inj h3
            have h5 : bx < WA.heap.size := cell_lt hS.1
            omega
        have hA7 := Appd.store (.string u.ty.name) (.slice A2 m2 a2) (.int .i64 u.ty.off) hA6
        have HU7 : Dat.Ins WA False (fun b => LB 0 w5.heap.size WA b ∧ (Value.slice LA2 n1 lc2).ownBlock ≠ some b) (Ty.dats [u.ty]) [.string u.ty.name, .slice A2 m2 a2, .int .i64 u.ty.off] := by
          rw [Ty.dats, Ty.dats, Dat.Ins]
          exact ⟨_, [], by simp, HTYa.out.wide fun b hb => ⟨⟨hb.2.1, .inr hb.1⟩, fun e => hb.2.2 ⟨_, rfl, _, G1a.out, e⟩⟩, by rw [Dat.Ins]⟩
        have HFIN := Lib.hid (TX.step (l := tysX pre ++ u.targs) (rs := [u.ty]) (cs := cs2) (c := lc2) (A := LA2) (Nat.le_succ _) HLT.out (by rw [HN1.out]; exact G1a.out) G2a.out (by rw [HN1.out]; exact G3a.out) (by rw [HN1.out]; exact G4a.out) HBLa.out HBGa.out (by rw [HN1.out]; exact HU7) (by rw [HN1.out]; exact hA7))
        refine hK.out _ _ SS (fun hS => ?_)
        clear hK K hA6 hA7 HU7 SS
        try simp only [Act.put, List.getElem_toArray, List.getElem_cons_zero, List.getElem_cons_succ, List.setIfInBounds_toArray, List.set_cons_zero, List.set_cons_succ]
        refine wpAnyH_take (i := 6) (v := ?_) rfl (by kernel_rfl) (by kernel_rfl) (by kernel_rfl) (fun _ _ _ h => h) (Or.inl ⟨by rfl, ?_⟩) (by assumption) ?_
        rotate_left
        · (intro V hV; obtain ⟨k0, k1, k2⟩ := hV; go_simp; try with_reducible rfl)
        try simp only [Act.put, List.getElem_toArray, List.getElem_cons_zero, List.getElem_cons_succ, List.setIfInBounds_toArray, List.set_cons_zero, List.set_cons_succ]
        have SS7 : (w6.setCells g6 (n1 * 3) [.string u.ty.name, .slice A2 m2 a2, .int .i64 u.ty.off]).cell? ⟨bx, 2, none⟩ = some (.string u.ty.name) ∧ (w6.setCells g6 (n1 * 3) [.string u.ty.name, .slice A2 m2 a2, .int .i64 u.ty.off]).cell? ⟨bx, 3, none⟩ = some (.slice A2 m2 a2) ∧ (w6.setCells g6 (n1 * 3) [.string u.ty.name, .slice A2 m2 a2, .int .i64 u.ty.off]).cell? ⟨bx, 4, none⟩ = some (.int .i64 u.ty.off) := ⟨(World.cell?_setCells_out _ _ _ _ _ (fun e => absurd e hbg)).trans hS.1, (World.cell?_setCells_out _ _ _ _ _ (fun e => absurd e hbg)).trans hS.2.1, (World.cell?_setCells_out _ _ _ _ _ (fun e => absurd e hbg)).trans hS.2.2⟩
        have SS8 : (w6.setCell ⟨w.heap.size + 1, 0, none⟩ (.slice (some ⟨g6, 0, none⟩) (n1 + 1) c6)).cell? ⟨bx, 2, none⟩ = some (.string u.ty.name) ∧ (w6.setCell ⟨w.heap.size + 1, 0, none⟩ (.slice (some ⟨g6, 0, none⟩) (n1 + 1) c6)).cell? ⟨bx, 3, none⟩ = some (.slice A2 m2 a2) ∧ (w6.setCell ⟨w.heap.size + 1, 0, none⟩ (.slice (some ⟨g6, 0, none⟩) (n1 + 1) c6)).cell? ⟨bx, 4, none⟩ = some (.int .i64 u.ty.off) := ⟨(World.cell?_setCell_other _ _ _ _ (fun e => by injection e with e1; omega)).trans hS.1, (World.cell?_setCell_other _ _ _ _ (fun e => by injection e with e1; omega)).trans hS.2.1, (World.cell?_setCell_other _ _ _ _ (fun e => by injection e with e1; omega)).trans hS.2.2⟩
        have SS9 : (World.setCell (w6.setCells g6 (n1 * 3) [.string u.ty.name, .slice A2 m2 a2, .int .i64 u.ty.off]) ⟨w.heap.size + 1, 0, none⟩ (.slice (some ⟨g6, 0, none⟩) (n1 + 1) c6)).cell? ⟨bx, 2, none⟩ = some (.string u.ty.name) ∧ (World.setCell (w6.setCells g6 (n1 * 3) [.string u.ty.name, .slice A2 m2 a2, .int .i64 u.ty.off]) ⟨w.heap.size + 1, 0, none⟩ (.slice (some ⟨g6, 0, none⟩) (n1 + 1) c6)).cell? ⟨bx, 3, none⟩ = some (.slice A2 m2 a2) ∧ (World.setCell (w6.setCells g6 (n1 * 3) [.string u.ty.name, .slice A2 m2 a2, .int .i64 u.ty.off]) ⟨w.heap.size + 1, 0, none⟩ (.slice (some ⟨g6, 0, none⟩) (n1 + 1) c6)).cell? ⟨bx, 4, none⟩ = some (.int .i64 u.ty.off) := ⟨(World.cell?_setCell_other _ _ _ _ (fun e => by injection e with e1; omega)).trans SS7.1, (World.cell?_setCell_other _ _ _ _ (fun e => by injection e with e1; omega)).trans SS7.2.1, (World.cell?_setCell_other _ _ _ _ (fun e => by injection e with e1; omega)).trans SS7.2.2⟩
        have HONE := Lib.hid (show ∀ v ∈ ([.string u.ty.name, .slice A2 m2 a2, .int .i64 u.ty.off] : List Value), v.oneCell' = true by
          intro v hv
          simp only [List.mem_cons, List.not_mem_nil, or_false] at hv
          rcases hv with rfl | rfl | rfl <;> rfl)
        have hcm := setCells_comm ⟨w.heap.size + 1, 0, none⟩ (.slice (some ⟨g6, 0, none⟩) (n1 + 1) c6) g6 hgk [.string u.ty.name, .slice A2 m2 a2, .int .i64 u.ty.off] (n1 * 3) w6
        have HCM := Lib.hid hcm
        have z4 : (w6.setCells g6 (n1 * 3) [.string u.ty.name, .slice A2 m2 a2, .int .i64 u.ty.off]).cell? ⟨w.heap.size + 1, 0, none⟩ = some (.slice LA2 n1 lc2) := (World.cell?_setCells_out _ _ _ _ _ (fun e => absurd e hgk)).trans z2
        have z5 : (w6.setCells g6 (n1 * 3) [.string u.ty.name, .slice A2 m2 a2, .int .i64 u.ty.off]).frozen? ⟨w.heap.size + 1, 0, none⟩ = false := (World.frozen?_setCells _ _ _ _ _).trans z3
        have HT8 := Lib.hid (there_setCellX HTH.out ⟨w.heap.size + 1, 0, none⟩ (.slice (some ⟨g6, 0, none⟩) (n1 + 1) c6))
        clear hcm
        refine wpAnyH_ready (rs := [7, 8]) (by kernel_rfl) (by simp) ?_
        refine AllReadyH.cons rfl (fun K hK => ?_) (AllReadyH.cons rfl (fun K hK => ?_) (AllReadyH.nil))
        · skip
          refine ready_storeX flatTy3 rfl (.tmp 26) (.tmp 22) rfl (b := g6) (off := n1 * 3) (us := [.string u.ty.name, .slice A2 m2 a2, .int .i64 u.ty.off]) rfl rfl HTH.out HONE.out rfl ?_
          refine hK.out _ _ SS7 (fun hS => ?_)
          clear hK K z2 z3
          try simp only [Act.put]
          generalize hW7 : w6.setCells g6 (n1 * 3) [.string u.ty.name, .slice A2 m2 a2, .int .i64 u.ty.off] = W7 at *
          clear hW7
          refine wpAnyH_ready (rs := [8]) (by kernel_rfl) (by simp) ?_
          refine AllReadyH.cons rfl (fun K hK => ?_) (AllReadyH.nil)
          go_simp
          refine hK.out _ _ SS9 (fun hS => ?_)
          clear hK K
          try simp only [Act.put]
          refine wpAnyH_done (by kernel_rfl) ?_ _
          try gi_wp2
          have HS := HFIN.out
          exact ⟨(HKSd.out.trans ((keepsOthers_below HBA.out).trans HS.2.2)).from _, HKOd.out.trans ((KeepO.new HBA.out).trans HS.2.1), by rw [tysX_snoc, if_pos ht]; exact HS.1, by rw [tysX_snoc, if_pos ht, List.length_append, List.length_append, List.length_append, List.length_cons, List.length_nil, List.length_cons, List.length_nil]; have := HLN.out; have := HTL.out; have := HWU.out; simp only; omega⟩
        · skip
          go_simp
          refine hK.out _ _ SS8 (fun hS => ?_)
          clear hK K z2 z3 z4 z5
          try simp only [Act.put]
          refine wpAnyH_ready (rs := [7]) (by kernel_rfl) (by simp) ?_
          refine AllReadyH.cons rfl (fun K hK => ?_) (AllReadyH.nil)
          refine ready_storeX flatTy3 rfl (.tmp 26) (.tmp 22) rfl (b := g6) (off := n1 * 3) (us := [.string u.ty.name, .slice A2 m2 a2, .int .i64 u.ty.off]) rfl rfl HT8.out HONE.out rfl ?_
          rw [HCM.out]
          refine hK.out _ _ SS9 (fun hS => ?_)
          clear hK K
          try simp only [Act.put]
          refine wpAnyH_done (by kernel_rfl) ?_ _
          try gi_wp2
          have HS := HFIN.out
          exact ⟨(HKSd.out.trans ((keepsOthers_below HBA.out).trans HS.2.2)).from _, HKOd.out.trans ((KeepO.new HBA.out).trans HS.2.1), by rw [tysX_snoc, if_pos ht]; exact HS.1, by rw [tysX_snoc, if_pos ht, List.length_append, List.length_append, List.length_append, List.length_cons, List.length_nil, List.length_cons, List.length_nil]; have := HLN.out; have := HTL.out; have := HWU.out; simp only; omega⟩
      · skip
        go_simp
        have hb : Below Wd.heap.size Wd (World.alloc Wd (.cells #[.string ⟨#[]⟩, .slice none 0 0, .int .i64 0] 28)) := (Below.refl _ _).alloc (Nat.le_refl _) _
        have SS : (World.alloc Wd (.cells #[.string ⟨#[]⟩, .slice none 0 0, .int .i64 0] 28)).cell? ⟨bx, 2, none⟩ = some (.string u.ty.name) ∧ (World.alloc Wd (.cells #[.string ⟨#[]⟩, .slice none 0 0, .int .i64 0] 28)).cell? ⟨bx, 3, none⟩ = some (.slice A2 m2 a2) ∧ (World.alloc Wd (.cells #[.string ⟨#[]⟩, .slice none 0 0, .int .i64 0] 28)).cell? ⟨bx, 4, none⟩ = some (.int .i64 u.ty.off) := ⟨(hb.cell (cell_lt hS.1)).trans hS.1, (hb.cell (cell_lt hS.2.1)).trans hS.2.1, (hb.cell (cell_lt hS.2.2)).trans hS.2.2⟩
        have HFZ := Lib.hid (flat_new (V := Wd) (lo := 0) (t := .mk ⟨#[]⟩ [] 0) 28 zero_ty (Nat.zero_le _))
        have HBA := Lib.hid hb
        have g1a : (World.alloc Wd (.cells #[.string ⟨#[]⟩, .slice none 0 0, .int .i64 0] 28)).cell? ⟨w.heap.size + 1, 0, none⟩ = some (.slice LA2 n1 lc2) := (hb.cell (cell_lt G1.out)).trans G1.out
        have g2a : (World.alloc Wd (.cells #[.string ⟨#[]⟩, .slice none 0 0, .int .i64 0] 28)).frozen? ⟨w.heap.size + 1, 0, none⟩ = false := (hb.frozen (p := ⟨w.heap.size + 1, 0, none⟩) (cell_lt G1.out)).trans G2.out
        have G3a := Lib.hid (own_below G3.out hb)
        have G4a := Lib.hid ((G4.out.later hb fun _ hk => hk.1.1).wide' fun b hb2 => (⟨LB.up hb.size (Nat.le_refl _) b hb2.1, hb2.2⟩ : LB 0 w5.heap.size (World.alloc Wd (.cells #[.string ⟨#[]⟩, .slice none 0 0, .int .i64 0] 28)) b ∧ (Value.slice LA2 n1 lc2).ownBlock ≠ some b))
        have HTYa := Lib.hid ((KeepO.new (n := 0) hb).into HTD.out.has HTYd.out)
        have HBLa := Lib.hid (HTD.out.bel.trans (hb.mono HTD.out.bel.size))
        have HBGa := Lib.hid (Nat.le_trans HTD.out.big hb.size)
        have HASa := Lib.hid ((KeepO.new (n := 0) hb).boxd HTD.out.has HASd.out HBXd.out)
        generalize World.alloc Wd (.cells #[.string ⟨#[]⟩, .slice none 0 0, .int .i64 0] 28) = WA at *
        refine hK.out _ _ SS (fun hS => ?_)
        clear hK K
        try simp only [Act.put, List.getElem_toArray, List.getElem_cons_zero, List.getElem_cons_succ, List.setIfInBounds_toArray, List.set_cons_zero, List.set_cons_succ]
        clear hb
        refine wpAnyH_ready (rs := [0]) (by kernel_rfl) (by simp) ?_
        refine AllReadyH.cons rfl (fun K hK => ?_) (AllReadyH.nil)
        go_simp
        have SS := hS
        refine hK.out _ _ SS (fun hS => ?_)
        clear hK K
        try simp only [Act.put, List.getElem_toArray, List.getElem_cons_zero, List.getElem_cons_succ, List.setIfInBounds_toArray, List.set_cons_zero, List.set_cons_succ]
        refine wpAnyH_take (i := 3) (v := ?_) rfl (by kernel_rfl) (by kernel_rfl) (by kernel_rfl) (fun _ _ _ h => h) (Or.inl ⟨by rfl, ?_⟩) (by assumption) ?_
        rotate_left
        · (intro V hV; obtain ⟨k0, k1, k2⟩ := hV; go_simp; try with_reducible rfl)
        try simp only [Act.put, List.getElem_toArray, List.getElem_cons_zero, List.getElem_cons_succ, List.setIfInBounds_toArray, List.set_cons_zero, List.set_cons_succ]
        have HAK := Lib.hid (show some (w.heap.size + 1) ≠ (Value.slice LA2 n1 lc2).ownBlock from fun e => by have h1 := own_base G3a.out _ e.symm; have := HLT.out; omega)
        have G2a := Lib.hid g2a
        have G1a := Lib.hid g1a
        refine wpAnyH_ready (rs := [5]) (by kernel_rfl) (by simp) ?_
        refine AllReadyH.cons rfl (fun K hK => ?_) (AllReadyH.nil)
        refine ready_append_long slTy rfl _ _ rfl rfl rfl G3a.out HBGa.out HFZ.out.len HFZ.out.cells HFZ.out.ones HFZ.out.some_ HNX.out (by omega) ?_
        intro v6 w6 hA6
        have hA6 : Appd WA w6 w5.heap.size 28 3 n1 1 (.slice LA2 n1 lc2) v6 cs2 [.string ⟨#[]⟩, .slice none 0 0, .int .i64 0] := hA6
        obtain ⟨g6, c6, rfl⟩ : ∃ g6 c6, v6 = .slice (some ⟨g6, 0, none⟩) (n1 + 1) c6 := own_someX hA6.own (by omega)
        have SS : w6.cell? ⟨bx, 2, none⟩ = some (.string u.ty.name) ∧ w6.cell? ⟨bx, 3, none⟩ = some (.slice A2 m2 a2) ∧ w6.cell? ⟨bx, 4, none⟩ = some (.int .i64 u.ty.off) := ⟨(hA6.grow.cell_far ⟨bx, 2, none⟩ (cell_lt hS.1) HAO.out).trans hS.1, (hA6.grow.cell_far ⟨bx, 3, none⟩ (cell_lt hS.2.1) HAO.out).trans hS.2.1, (hA6.grow.cell_far ⟨bx, 4, none⟩ (cell_lt hS.2.2) HAO.out).trans hS.2.2⟩
        have z2 : w6.cell? ⟨w.heap.size + 1, 0, none⟩ = some (.slice LA2 n1 lc2) := (hA6.grow.cell_far ⟨w.heap.size + 1, 0, none⟩ (cell_lt G1a.out) HAK.out).trans G1a.out
        have z3 : w6.frozen? ⟨w.heap.size + 1, 0, none⟩ = false := (hA6.grow.frozen_far ⟨w.heap.size + 1, 0, none⟩ (cell_lt G1a.out) HAK.out).trans G2a.out
        have HTH := Lib.hid (own_there hA6.own)
        have hg6 : w5.heap.size ≤ g6 := own_base hA6.own g6 rfl
        have hgk : w.heap.size + 1 ≠ g6 := by have := HLT.out; omega
        have hbg : bx ≠ g6 := fun e => by
          rcases hA6.at_ with h3 | h3
          · exact HAO.out (by rw [e]; exact h3)
          · have h4 : g6 = WA.heap.size := Option.some.inj h3
            have h5 : bx < WA.heap.size := cell_lt hS.1
            omega
        have hA7 := Appd.store (.string u.ty.name) (.slice A2 m2 a2) (.int .i64 u.ty.off) hA6
        have HU7 : Dat.Ins WA False (fun b => LB 0 w5.heap.size WA b ∧ (Value.slice LA2 n1 lc2).ownBlock ≠ some b) (Ty.dats [u.ty]) [.string u.ty.name, .slice A2 m2 a2, .int .i64 u.ty.off] := by
          rw [Ty.dats, Ty.dats, Dat.Ins]
          exact ⟨_, [], by simp, HTYa.out.wide fun b hb => ⟨⟨hb.2.1, .inr hb.1⟩, fun e => hb.2.2 ⟨_, rfl, _, G1a.out, e⟩⟩, by rw [Dat.Ins]⟩
        have HFIN := Lib.hid (TX.step (l := tysX pre ++ u.targs) (rs := [u.ty]) (cs := cs2) (c := lc2) (A := LA2) (Nat.le_succ _) HLT.out (by rw [HN1.out]; exact G1a.out) G2a.out (by rw [HN1.out]; exact G3a.out) (by rw [HN1.out]; exact G4a.out) HBLa.out HBGa.out (by rw [HN1.out]; exact HU7) (by rw [HN1.out]; exact hA7))
        refine hK.out _ _ SS (fun hS => ?_)
        clear hK K hA6 hA7 HU7 SS
        try simp only [Act.put, List.getElem_toArray, List.getElem_cons_zero, List.getElem_cons_succ, List.setIfInBounds_toArray, List.set_cons_zero, List.set_cons_succ]
        refine wpAnyH_take (i := 6) (v := ?_) rfl (by kernel_rfl) (by kernel_rfl) (by kernel_rfl) (fun _ _ _ h => h) (Or.inl ⟨by rfl, ?_⟩) (by assumption) ?_
        rotate_left
        · (intro V hV; obtain ⟨k0, k1, k2⟩ := hV; go_simp; try with_reducible rfl)
        try simp only [Act.put, List.getElem_toArray, List.getElem_cons_zero, List.getElem_cons_succ, List.setIfInBounds_toArray, List.set_cons_zero, List.set_cons_succ]
        have SS7 : (w6.setCells g6 (n1 * 3) [.string u.ty.name, .slice A2 m2 a2, .int .i64 u.ty.off]).cell? ⟨bx, 2, none⟩ = some (.string u.ty.name) ∧ (w6.setCells g6 (n1 * 3) [.string u.ty.name, .slice A2 m2 a2, .int .i64 u.ty.off]).cell? ⟨bx, 3, none⟩ = some (.slice A2 m2 a2) ∧ (w6.setCells g6 (n1 * 3) [.string u.ty.name, .slice A2 m2 a2, .int .i64 u.ty.off]).cell? ⟨bx, 4, none⟩ = some (.int .i64 u.ty.off) := ⟨(World.cell?_setCells_out _ _ _ _ _ (fun e => absurd e hbg)).trans hS.1, (World.cell?_setCells_out _ _ _ _ _ (fun e => absurd e hbg)).trans hS.2.1, (World.cell?_setCells_out _ _ _ _ _ (fun e => absurd e hbg)).trans hS.2.2⟩
        have SS8 : (w6.setCell ⟨w.heap.size + 1, 0, none⟩ (.slice (some ⟨g6, 0, none⟩) (n1 + 1) c6)).cell? ⟨bx, 2, none⟩ = some (.string u.ty.name) ∧ (w6.setCell ⟨w.heap.size + 1, 0, none⟩ (.slice (some ⟨g6, 0, none⟩) (n1 + 1) c6)).cell? ⟨bx, 3, none⟩ = some (.slice A2 m2 a2) ∧ (w6.setCell ⟨w.heap.size + 1, 0, none⟩ (.slice (some ⟨g6, 0, none⟩) (n1 + 1) c6)).cell? ⟨bx, 4, none⟩ = some (.int .i64 u.ty.off) := ⟨(World.cell?_setCell_other _ _ _ _ (fun e => by injection e with e1; omega)).trans hS.1, (World.cell?_setCell_other _ _ _ _ (fun e => by injection e with e1; omega)).trans hS.2.1, (World.cell?_setCell_other _ _ _ _ (fun e => by injection e with e1; omega)).trans hS.2.2⟩
        have SS9 : (World.setCell (w6.setCells g6 (n1 * 3) [.string u.ty.name, .slice A2 m2 a2, .int .i64 u.ty.off]) ⟨w.heap.size + 1, 0, none⟩ (.slice (some ⟨g6, 0, none⟩) (n1 + 1) c6)).cell? ⟨bx, 2, none⟩ = some (.string u.ty.name) ∧ (World.setCell (w6.setCells g6 (n1 * 3) [.string u.ty.name, .slice A2 m2 a2, .int .i64 u.ty.off]) ⟨w.heap.size + 1, 0, none⟩ (.slice (some ⟨g6, 0, none⟩) (n1 + 1) c6)).cell? ⟨bx, 3, none⟩ = some (.slice A2 m2 a2) ∧ (World.setCell (w6.setCells g6 (n1 * 3) [.string u.ty.name, .slice A2 m2 a2, .int .i64 u.ty.off]) ⟨w.heap.size + 1, 0, none⟩ (.slice (some ⟨g6, 0, none⟩) (n1 + 1) c6)).cell? ⟨bx, 4, none⟩ = some (.int .i64 u.ty.off) := ⟨(World.cell?_setCell_other _ _ _ _ (fun e => by injection e with e1; omega)).trans SS7.1, (World.cell?_setCell_other _ _ _ _ (fun e => by injection e with e1; omega)).trans SS7.2.1, (World.cell?_setCell_other _ _ _ _ (fun e => by injection e with e1; omega)).trans SS7.2.2⟩
        have HONE := Lib.hid (show ∀ v ∈ ([.string u.ty.name, .slice A2 m2 a2, .int .i64 u.ty.off] : List Value), v.oneCell' = true by
          intro v hv
          simp only [List.mem_cons, List.not_mem_nil, or_false] at hv
          rcases hv with rfl | rfl | rfl <;> rfl)
        have hcm := setCells_comm ⟨w.heap.size + 1, 0, none⟩ (.slice (some ⟨g6, 0, none⟩) (n1 + 1) c6) g6 hgk [.string u.ty.name, .slice A2 m2 a2, .int .i64 u.ty.off] (n1 * 3) w6
        have HCM := Lib.hid hcm
        have z4 : (w6.setCells g6 (n1 * 3) [.string u.ty.name, .slice A2 m2 a2, .int .i64 u.ty.off]).cell? ⟨w.heap.size + 1, 0, none⟩ = some (.slice LA2 n1 lc2) := (World.cell?_setCells_out _ _ _ _ _ (fun e => absurd e hgk)).trans z2
        have z5 : (w6.setCells g6 (n1 * 3) [.string u.ty.name, .slice A2 m2 a2, .int .i64 u.ty.off]).frozen? ⟨w.heap.size + 1, 0, none⟩ = false := (World.frozen?_setCells _ _ _ _ _).trans z3
        have HT8 := Lib.hid (there_setCellX HTH.out ⟨w.heap.size + 1, 0, none⟩ (.slice (some ⟨g6, 0, none⟩) (n1 + 1) c6))
        clear hcm
        refine wpAnyH_ready (rs := [7, 8]) (by kernel_rfl) (by simp) ?_
        refine AllReadyH.cons rfl (fun K hK => ?_) (AllReadyH.cons rfl (fun K hK => ?_) (AllReadyH.nil))
        · skip
          refine ready_storeX flatTy3 rfl (.tmp 26) (.tmp 22) rfl (b := g6) (off := n1 * 3) (us := [.string u.ty.name, .slice A2 m2 a2, .int .i64 u.ty.off]) rfl rfl HTH.out HONE.out rfl ?_
          refine hK.out _ _ SS7 (fun hS => ?_)
          clear hK K z2 z3
          try simp only [Act.put]
          generalize hW7 : w6.setCells g6 (n1 * 3) [.string u.ty.name, .slice A2 m2 a2, .int .i64 u.ty.off] = W7 at *
          clear hW7
          refine wpAnyH_ready (rs := [8]) (by kernel_rfl) (by simp) ?_
          refine AllReadyH.cons rfl (fun K hK => ?_) (AllReadyH.nil)
          go_simp
          refine hK.out _ _ SS9 (fun hS => ?_)
          clear hK K
          try simp only [Act.put]
          refine wpAnyH_done (by kernel_rfl) ?_ _
          try gi_wp2
          have HS := HFIN.out
          exact ⟨(HKSd.out.trans ((keepsOthers_below HBA.out).trans HS.2.2)).from _, HKOd.out.trans ((KeepO.new HBA.out).trans HS.2.1), by rw [tysX_snoc, if_pos ht]; exact HS.1, by rw [tysX_snoc, if_pos ht, List.length_append, List.length_append, List.length_append, List.length_cons, List.length_nil, List.length_cons, List.length_nil]; have := HLN.out; have := HTL.out; have := HWU.out; simp only; omega⟩
        · skip
          go_simp
          refine hK.out _ _ SS8 (fun hS => ?_)
          clear hK K z2 z3 z4 z5
          try simp only [Act.put]
          refine wpAnyH_ready (rs := [7]) (by kernel_rfl) (by simp) ?_
          refine AllReadyH.cons rfl (fun K hK => ?_) (AllReadyH.nil)
          refine ready_storeX flatTy3 rfl (.tmp 26) (.tmp 22) rfl (b := g6) (off := n1 * 3) (us := [.string u.ty.name, .slice A2 m2 a2, .int .i64 u.ty.off]) rfl rfl HT8.out HONE.out rfl ?_
          rw [HCM.out]
          refine hK.out _ _ SS9 (fun hS => ?_)
          clear hK K
          try simp only [Act.put]
          refine wpAnyH_done (by kernel_rfl) ?_ _
          try gi_wp2
          have HS := HFIN.out
          exact ⟨(HKSd.out.trans ((keepsOthers_below HBA.out).trans HS.2.2)).from _, HKOd.out.trans ((KeepO.new HBA.out).trans HS.2.1), by rw [tysX_snoc, if_pos ht]; exact HS.1, by rw [tysX_snoc, if_pos ht, List.length_append, List.length_append, List.length_append, List.length_cons, List.length_nil, List.length_cons, List.length_nil]; have := HLN.out; have := HTL.out; have := HWU.out; simp only; omega⟩
  case done =>
    rintro D ys W hD hys ⟨htx, _⟩ hK
    rw [tysX_all hys] at htx
    have hD0 : w.heap.size ≤ D := Nat.le_trans B5.out.size hD
    obtain ⟨LA, lc, _, hl1, _⟩ := htx.row
    have hr : ∀ r, some D = some r → w.heap.size ≤ r ∧ ∃ o : Obj, W.heap[r]? = some o ∧ o.isCells = false := fun r e => by cases e; exact ⟨hD0, _, hK, rfl⟩
    have htx2 := TX.own (Nat.le_refl _) _ W (W.putObj D (.deferred none)) (some D) htx (grownBy_putObj' W D (.deferred none)) hr
    obtain ⟨LB', lc', hl2, htr⟩ := htx2.trow (lo := lo) B5.out.size
    rw [cell_kept hl1 (grownBy_putObj' W D (.deferred none)) (fun r e => (hr r e).2)] at hl2
    cases hl2
    have HTR := Lib.hid htr
    have HK := Lib.hid hK
    have HD := Lib.hid (show w.heap.size ≤ D from Nat.le_trans B5.out.size hD)
    clear htx htx2 hr hD0 htr hys hK hD
    go_wp2_with fail
    refine ⟨by simp, .inl ⟨_, _, rfl, run_takeDeferred HK.out, ?_⟩⟩
    refine ⟨.slice LA (exTys e).length lc, by simp [results, Tryz.results122, go_sem], _, rfl, HTR.out⟩
  case stop => exact fun _ _ _ _ _ _ h => h.elim
end Go.Proofs.YtaeljknfbanbfaaGreatDoor
namespace Go.Proofs.YtaeljknfbanbfaaGreatDoor
open Go.RowKit

theorem inSigOk : InSigOk := fun s us lo w hlo hq h => inSig_any s us lo w hlo hq h
theorem typesPg_any (p : Pg) (us : List Value) (w : World) (hw : p.wt ≤ 1000) (ht : ∀ t ∈ p.types, t.wt ≤ 1000) (h : p.dat.H w us) : Calls Tryz.prog 18 #[.agg us.toArray] w (RPost w 3 p.types.length (p.types.map Ty.dat)) :=
  types_any inSigOk inExpr_any p us w hw ht h
theorem plainPg_any (p : Pg) (us : List Value) (w : World) (hw : p.wt ≤ 1000) (h : p.dat.H w us) : Calls Tryz.prog 23 #[.agg us.toArray] w (EqvPost w p.bareP) :=
  plain_any inSigOk inExpr_any p us w hw h
theorem depthPg_any (p : Pg) (us : List Value) (w : World) (hw : p.wt ≤ 1000) (ht : ∀ t ∈ p.types, t.wt ≤ 1000) (h : p.dat.H w us) : Calls Tryz.prog 21 #[.agg us.toArray] w (NatPost w p.depth) :=
  pdepth_any inSigOk inExpr_any p us w hw ht h
end Go.Proofs.YtaeljknfbanbfaaGreatDoor
