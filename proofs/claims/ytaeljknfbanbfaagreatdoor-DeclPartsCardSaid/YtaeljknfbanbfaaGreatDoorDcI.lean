/- Appending a row of data, which may be empty, to a row of one's own. No condition.
The walks of decl.inFormal, decl.inParam and decl.inEach at them: rows of types that a call builds. The condition: few parts. -/
import Derived.Test.YtaeljknfbanbfaaGreatDoorDcM
import Derived.Deep.AppendLies
import Derived.Test.YtaeljknfbanbfaaGreatDoorDcW
import Derived.Test.YtaeljknfbanbfaaGreatDoorDcF
namespace Go.Proofs.YtaeljknfbanbfaaGreatDoor
open Go.RowKit

/-- The cells of a row, one after the other. -/
theorem elems_flat {w : World} {N : Prop} {S : Nat → Prop} {z : Nat} {A : Option Addr} : ∀ (ds : List Dat) (i : Nat), Dat.Elems w N S z A i ds → (∀ d ∈ ds, d.size = z) → ∃ us, Dat.Ins w N S ds us ∧ us.length = ds.length * z ∧ ∀ a, A = some a → ∀ j u, us[j]? = some u → w.cell? (a.add (i * z + j)) = some u
  | [], i, _, _ => ⟨[], by rw [Dat.Ins], by simp, fun _ _ j u h => by simp at h⟩
  | d :: r, i, h, hz => by
    rw [Dat.Elems] at h
    obtain ⟨⟨a, u1, e, _, _, h3, h4⟩, hr⟩ := h
    obtain ⟨us, h5, h6, h7⟩ := elems_flat r (i + 1) hr fun x hx => hz x (List.mem_cons_of_mem _ hx)
    have hl : u1.length = z := (Dat.In.len d u1 h3).trans (hz d List.mem_cons_self)
    refine ⟨u1 ++ us, by rw [Dat.Ins]; exact ⟨u1, us, rfl, h3, h5⟩, by rw [List.length_append, hl, h6, List.length_cons, Nat.add_mul, Nat.one_mul]; omega, fun a' e' j u hu => ?_⟩
    obtain rfl : a = a' := Option.some.inj (e.symm.trans e')
    by_cases hj : j < z
    · rw [List.getElem?_append_left (by omega)] at hu
      have := h4 j u hu
      rwa [add_add] at this
    · rw [List.getElem?_append_right (by omega), hl] at hu
      have := h7 a e' (j - z) u hu
      rwa [show (i + 1) * z + (j - z) = i * z + j by rw [Nat.add_mul, Nat.one_mul]; omega] at this
theorem row_flat {w : World} {N : Prop} {S : Nat → Prop} {z n : Nat} {A : Option Addr} {ds : List Dat} (h : Row w N S z A n ds) (hz : ∀ d ∈ ds, d.size = z) : ∃ us, Dat.Ins w N S ds us ∧ us.length = n * z ∧ ∀ a, A = some a → ∀ j u, us[j]? = some u → w.cell? (a.add j) = some u := by
  obtain ⟨us, h1, h2, h3⟩ := elems_flat ds 0 h.elems hz
  exact ⟨us, h1, by rw [h2, h.len], fun a e j u hu => by have := h3 a e j u hu; rwa [Nat.zero_mul, Nat.zero_add] at this⟩
theorem ins_cells {w : World} {N : Prop} {S : Nat → Prop} : ∀ {ds : List Dat} {us : List Value}, (∀ d ∈ ds, ∀ u, d.In w N S u → ∀ x ∈ u, x.oneCell' = true) → Dat.Ins w N S ds us → ∀ x ∈ us, x.oneCell' = true
  | [], us, _, h => by
    rw [Dat.Ins] at h
    subst h
    intro x hx
    cases hx
  | d :: r, us, hd, h => by
    rw [Dat.Ins] at h
    obtain ⟨u1, u2, rfl, h1, h2⟩ := h
    intro x hx
    rcases List.mem_append.1 hx with hx | hx
    · exact hd d List.mem_cons_self u1 h1 x hx
    · exact ins_cells (fun d hd' => hd d (List.mem_cons_of_mem _ hd')) h2 x hx
theorem run_append_zero (P : Program) (w : World) (base : Nat) (t ty e : TypeId) (i : TypeInfo) (size : Nat) (ht : P.underlying t = some (.slice e)) (hi : P.info? e = some i) (v : Value) (n : Nat) (xs : List Value) (hown : w.ownsRow base e size v n xs) (A : Option Addr) (b : Nat) :
    (Builtin.append_ #[t, t] ty #[v, .slice A 0 b]).run P w = .ok v w := by
  have hl0 : ∀ p : Addr, (loadCells p 0).run P w = .ok #[] w := fun p => run_loadCells_list (P := P) w p [] (fun j v h => by simp at h)
  rcases hown.2 with ⟨rfl, rfl⟩ | ⟨g, cap, cur, rfl, _, _, hnc, _⟩
  · cases A <;> simp [Builtin.append_, run_underlying ht, sizeOf, typeInfo, hi, Builtin.lenOf, Builtin.firstCells, hl0, Result.andThen]
  · cases A <;> simp [Builtin.append_, run_underlying ht, sizeOf, typeInfo, hi, Builtin.lenOf, Builtin.firstCells, hnc, storeCells, hl0, Result.andThen]

/-- What a slice type is. -/
structure SlOf (t e : TypeId) (size bytes : Nat) : Prop where
  und : Tryz.prog.underlying t = some (.slice e)
  info : ∃ i z, Tryz.prog.info? e = some i ∧ i.zero = some z ∧ i.size = size ∧ i.bytes = bytes ∧ z.cells.size = size
  pos : 0 < size
/-- Appending, done. -/
structure Appd (w w' : World) (base : Nat) (e : TypeId) (size n m : Nat) (v v' : Value) (xs us : List Value) : Prop where
  own : w'.ownsRow base e size v' (n + m) (xs ++ us)
  grow : w.grownBy w' v.ownBlock
  at_ : v'.ownBlock = v.ownBlock ∨ v'.ownBlock = some w.heap.size
theorem run_append_row {t e : TypeId} {size bytes : Nat} (hs : SlOf t e size bytes) (ty : TypeId) {w : World} {base n m c : Nat} {v : Value} {xs : List Value} {A : Option Addr} {us : List Value} (hown : w.ownsRow base e size v n xs) (hbase : base ≤ w.heap.size)
    (hl : us.length = m * size) (hc : ∀ a, A = some a → ∀ j u, us[j]? = some u → w.cell? (a.add j) = some u) (h1 : ∀ u ∈ us, u.oneCell' = true) (hA : 0 < m → ∃ a, A = some a) (h63 : n + m ≤ 1000000) (hby : bytes ≤ 1000) :
    ∃ v' w', (Builtin.append_ #[t, t] ty #[v, .slice A m c]).run Tryz.prog w = .ok v' w' ∧ Appd w w' base e size n m v v' xs us := by
  obtain ⟨i, z, hi, hz, hsz, hb, hzs⟩ := hs.info
  by_cases hm : m = 0
  · subst hm
    have : us = [] := List.eq_nil_of_length_eq_zero (by rw [hl]; simp)
    subst this
    exact ⟨v, w, run_append_zero _ w base t ty e i size hs.und hi v n xs hown A c, by rw [List.append_nil]; exact hown, ⟨rfl, rfl, rfl, Nat.le_refl _, fun _ _ _ => rfl⟩, .inl rfl⟩
  · obtain ⟨a, rfl⟩ := hA (by omega)
    have hmul : (n + m) * bytes ≤ 1000000 * 1000 := Nat.mul_le_mul h63 hby
    obtain ⟨g, cap, w', h2, h3, h4, h5, h6⟩ := run_append_lies (P := Tryz.prog) w t ty base e i z size bytes hs.und hi hz hsz hb hzs hs.pos v n xs hown a m c us hl (hc a rfl) h1 (by omega) (by unfold maxLen; omega) (by omega) hbase w.heap.size rfl
    refine ⟨_, w', h2, h3, h4, ?_⟩
    rcases h5 with h5 | h5
    · exact .inl (by rw [h5]; rfl)
    · exact .inr (by rw [h5]; rfl)
theorem wp_append_row {t e : TypeId} {size bytes : Nat} (hs : SlOf t e size bytes) {o : Oper} {a : Act} {K : Act → World → Prop} {Q : Exit → Act → World → Prop} (s x : Operand) (ho : o.op = .call { callee := .builtin .append, args := #[s, x], argTypes := #[t, t] })
    {w : World} {base n m c : Nat} {v : Value} {xs : List Value} {A : Option Addr} {us : List Value} (hv : a.eval s = v) (hx : a.eval x = .slice A m c) (hown : w.ownsRow base e size v n xs) (hbase : base ≤ w.heap.size)
    (hl : us.length = m * size) (hc : ∀ a, A = some a → ∀ j u, us[j]? = some u → w.cell? (a.add j) = some u) (h1 : ∀ u ∈ us, u.oneCell' = true) (hA : 0 < m → ∃ a, A = some a) (h63 : n + m ≤ 1000000) (hby : bytes ≤ 1000)
    (h : ∀ v' w', Appd w w' base e size n m v v' xs us → K (a.put o.dst v') w') : o.wp Tryz.prog a w K Q := by
  obtain ⟨v', w', hr, h2⟩ := run_append_row hs o.type hown hbase hl hc h1 hA h63 hby (c := c)
  unfold Oper.wp execOp
  simp only [ho, resolve, invoke, builtin, Sem.run_bind, Sem.run_pure, Result.andThen_ok, List.map_toArray, List.map_cons, List.map_nil, hv, hx, hr]
  exact h v' w' h2
theorem wpList_append_row {t e : TypeId} {size bytes : Nat} (hs : SlOf t e size bytes) {ops : Array Oper} {rest : List Oper} {o : Oper} {a : Act} {Q : Exit → Act → World → Prop} (hgd : o.guard = none) (s x : Operand) (ho : o.op = .call { callee := .builtin .append, args := #[s, x], argTypes := #[t, t] })
    {w : World} {base n m c : Nat} {v : Value} {xs : List Value} {A : Option Addr} {us : List Value} (hv : a.eval s = v) (hx : a.eval x = .slice A m c) (hown : w.ownsRow base e size v n xs) (hbase : base ≤ w.heap.size)
    (hl : us.length = m * size) (hc : ∀ a, A = some a → ∀ j u, us[j]? = some u → w.cell? (a.add j) = some u) (h1 : ∀ u ∈ us, u.oneCell' = true) (hA : 0 < m → ∃ a, A = some a) (h63 : n + m ≤ 1000000) (hby : bytes ≤ 1000)
    (h : ∀ v' w', Appd w w' base e size n m v v' xs us → wpList Tryz.prog ops Q rest (a.put o.dst v') w') : wpList Tryz.prog ops Q (o :: rest) a w :=
  wpList_plain hgd fun _ hK => wp_append_row hs s x ho hv hx hown hbase hl hc h1 hA h63 hby fun v' w' h2 => hK _ _ (h v' w' h2)
theorem ready_append_row {t e : TypeId} {size bytes : Nat} (hs : SlOf t e size bytes) {ops : Array Oper} {o : Oper} {a : Act} {K : Act → World → Prop} {Q : Exit → Act → World → Prop} {E : Prop} (hgd : o.guard = none) (s x : Operand) (ho : o.op = .call { callee := .builtin .append, args := #[s, x], argTypes := #[t, t] })
    {w : World} {base n m c : Nat} {v : Value} {xs : List Value} {A : Option Addr} {us : List Value} (hv : a.eval s = v) (hx : a.eval x = .slice A m c) (hown : w.ownsRow base e size v n xs) (hbase : base ≤ w.heap.size)
    (hl : us.length = m * size) (hc : ∀ a, A = some a → ∀ j u, us[j]? = some u → w.cell? (a.add j) = some u) (h1 : ∀ u ∈ us, u.oneCell' = true) (hA : 0 < m → ∃ a, A = some a) (h63 : n + m ≤ 1000000) (hby : bytes ≤ 1000)
    (h : ∀ v' w', Appd w w' base e size n m v v' xs us → K (a.put o.dst v') w') : if Region.wanted o (yielded ops a.tmps) = true then Oper.wp Tryz.prog o a w K Q else E := by
  have hw : Region.wanted o (yielded ops a.tmps) = true := by simp [Region.wanted, hgd]
  rw [if_pos hw]
  exact wp_append_row hs s x ho hv hx hown hbase hl hc h1 hA h63 hby h
theorem slStr : SlOf 25 9 1 16 := by
  obtain ⟨i, hi, hz, hs, hb⟩ := info_parts (show (Tryz.prog.info? 9).map (fun i => (i.zero, i.size, i.bytes)) = some (some (.string ⟨#[]⟩), 1, 16) by kernel_rfl)
  exact ⟨Tryz.underlying25, ⟨i, _, hi, hz, hs, hb, rfl⟩, by omega⟩
theorem slTy : SlOf 26 28 3 48 := by
  obtain ⟨i, hi, hz, hs, hb⟩ := info_parts (show (Tryz.prog.info? 28).map (fun i => (i.zero, i.size, i.bytes)) = some (some (.agg #[.string ⟨#[]⟩, .slice none 0 0, .int .i64 0]), 3, 48) by kernel_rfl)
  exact ⟨Tryz.underlying26, ⟨i, _, hi, hz, hs, hb, rfl⟩, by omega⟩
theorem row_some {w : World} {N : Prop} {S : Nat → Prop} {z n : Nat} {A : Option Addr} {ds : List Dat} (h : Row w N S z A n ds) : 0 < n → ∃ a, A = some a := fun hn => by
  obtain ⟨d, hd⟩ : ∃ d, ds[0]? = some d := ⟨_, List.getElem?_eq_getElem (by rw [h.len]; exact hn)⟩
  obtain ⟨a, _, e, _⟩ := h.at hd
  exact ⟨a, e⟩
end Go.Proofs.YtaeljknfbanbfaaGreatDoor
namespace Go.Proofs.YtaeljknfbanbfaaGreatDoor
open Go.RowKit

def Fo.tys (f : Fo) : List Ty := [f.ty]
/-- The blocks of a world that lie below lo or from s on. -/
def LB (lo s : Nat) (W : World) (b : Nat) : Prop := b < W.heap.size ∧ (b < lo ∨ s ≤ b)
/-- A row of types in blocks made since w; what the types lead to lies below lo, or in blocks from s on, and not in the row's own. -/
structure TRow (lo s : Nat) (w W : World) (v : Value) (ts : List Ty) : Prop where
  bel : Below w.heap.size w W
  own : ∃ cs, W.ownsRow w.heap.size 28 3 v ts.length cs ∧ Dat.Ins W False (fun b => LB lo s W b ∧ v.ownBlock ≠ some b) (Ty.dats ts) cs
/-- What a call gives that builds a row of types. -/
def TsPost (lo : Nat) (w : World) (ts : List Ty) (e : Ending) (w' : World) : Prop := ∃ v, e = .returned v ∧ TRow lo w.heap.size w w' v ts
theorem ty_ones {w : World} {N : Prop} {S : Nat → Prop} {ts : List Ty} : ∀ d ∈ Ty.dats ts, ∀ u, d.In w N S u → ∀ x ∈ u, x.oneCell' = true := fun d hd u hu => by
  rw [Ty.dats_map, List.mem_map] at hd
  obtain ⟨t, _, rfl⟩ := hd
  exact ty_cells hu
theorem ty_sizes {ts : List Ty} : ∀ d ∈ Ty.dats ts, d.size = 3 := fun d hd => by
  rw [Ty.dats_map, List.mem_map] at hd
  obtain ⟨t, _, rfl⟩ := hd
  exact Ty.dat_size t
theorem TRow.nil (lo s : Nat) (w W : World) (h : Below w.heap.size w W) : TRow lo s w W (.slice none 0 0) [] := ⟨h, [], World.ownsRow_nil _ _ _ _, by rw [Ty.dats, Dat.Ins]⟩
theorem LB.up {lo s t : Nat} {W W' : World} (hs : W.heap.size ≤ W'.heap.size) (ht : t ≤ s) : ∀ b, LB lo s W b → LB lo t W' b := fun _ h => ⟨Nat.lt_of_lt_of_le h.1 hs, h.2.imp id fun h => Nat.le_trans ht h⟩
theorem Dat.Ins.wide' {w : World} {N : Prop} {S S' : Nat → Prop} {ds : List Dat} {us : List Value} (h : Dat.Ins w N S ds us) (hS : ∀ b, S b → S' b) : Dat.Ins w N S' ds us := Dat.Ins.keep id (fun _ _ => ⟨rfl, rfl⟩) hS ds us h
theorem Dat.Ins.later {w w' : World} {N : Prop} {S : Nat → Prop} {b : Nat} {ds : List Dat} {us : List Value} (h : Dat.Ins w N S ds us) (hb : Below b w w') (hh : ∀ k, S k → k < b) : Dat.Ins w' N S ds us :=
  Dat.Ins.keep id (fun _ hp => ⟨hb.cell (hh _ hp), hb.frozen (hh _ hp)⟩) (fun _ h => h) _ _ h
theorem TRow.later {lo s : Nat} {w W W' : World} {v : Value} {ts : List Ty} (h : TRow lo s w W v ts) (hb : Below W.heap.size W W') : TRow lo s w W' v ts := by
  obtain ⟨cs, h1, h2⟩ := h.own
  exact ⟨h.bel.trans (hb.mono h.bel.size), cs, own_below h1 hb, (h2.later hb fun _ hk => hk.1.1).wide' fun b hb2 => ⟨LB.up hb.size (Nat.le_refl _) b hb2.1, hb2.2⟩⟩
theorem Dat.Ins.app' {w : World} {N : Prop} {S : Nat → Prop} : ∀ {ds es : List Dat} {us vs : List Value}, Dat.Ins w N S ds us → Dat.Ins w N S es vs → Dat.Ins w N S (ds ++ es) (us ++ vs)
  | [], es, us, vs, h, h2 => by
    rw [Dat.Ins] at h
    subst h
    exact h2
  | d :: r, es, us, vs, h, h2 => by
    rw [Dat.Ins] at h
    obtain ⟨u1, u2, rfl, h3, h4⟩ := h
    rw [List.cons_append, Dat.Ins]
    exact ⟨u1, u2 ++ vs, by rw [List.append_assoc], h3, Dat.Ins.app' h4 h2⟩
theorem dats_app' (xs ys : List Ty) : Ty.dats (xs ++ ys) = Ty.dats xs ++ Ty.dats ys := by simp [Ty.dats_map]
/-- A row of types, flat: what a slice of types must give to be appended. -/
structure Flat3 (S : Nat → Prop) (W : World) (A : Option Addr) (n : Nat) (ts : List Ty) (us : List Value) : Prop where
  ins : Dat.Ins W False S (Ty.dats ts) us
  len : us.length = n * 3
  cells : ∀ a, A = some a → ∀ j u, us[j]? = some u → W.cell? (a.add j) = some u
  some_ : 0 < n → ∃ a, A = some a
  num : n = ts.length
  lt : ∀ b, S b → b < W.heap.size
theorem Flat3.ones {S : Nat → Prop} {W : World} {A : Option Addr} {n : Nat} {ts : List Ty} {us : List Value} (h : Flat3 S W A n ts us) : ∀ x ∈ us, x.oneCell' = true := ins_cells ty_ones h.ins
/-- One's own row is a slice. -/
theorem TRow.flat {lo s t : Nat} {w W : World} {v : Value} {ts : List Ty} (h : TRow lo s w W v ts) (ht : t ≤ s) : ∃ A c us, v = .slice A ts.length c ∧ Flat3 (LB lo t W) W A ts.length ts us := by
  obtain ⟨cs, h1, h2⟩ := h.own
  have hl := h1.1
  have h2' := h2.wide' fun b hb => LB.up (Nat.le_refl W.heap.size) ht b hb.1
  rcases h1.2 with ⟨h3, h4⟩ | ⟨g, cap, cur, h3, hb, hg, hnc, hc, hs, ht⟩
  · exact ⟨none, 0, cs, by rw [h3, h4], h2', hl, fun _ e => by (cases e), fun h => by omega, rfl, fun b hb => hb.1⟩
  · refine ⟨some ⟨g, 0, none⟩, cap, cs, h3, h2', hl, fun a e j u hu => ?_, fun _ => ⟨_, rfl⟩, rfl, fun b hb => hb.1⟩
    cases e
    exact h1.cells (g := g) (by rw [h3]; rfl) _ _ hu
/-- A row that lies is flat. -/
theorem Row.flat {S : Nat → Prop} {W : World} {A : Option Addr} {n : Nat} {ts : List Ty} (h : Row W False S 3 A n (Ty.dats ts)) (hS : ∀ b, S b → b < W.heap.size) : ∃ us, Flat3 S W A n ts us := by
  obtain ⟨us, h1, h2, h3⟩ := row_flat h ty_sizes
  exact ⟨us, h1, h2, h3, row_some h, by rw [← h.len, Ty.dats_map, List.length_map], hS⟩
theorem Flat3.later {S : Nat → Prop} {W W' : World} {A : Option Addr} {n : Nat} {ts : List Ty} {us : List Value} (h : Flat3 S W A n ts us) (hb : Below W.heap.size W W') : Flat3 S W' A n ts us :=
  ⟨h.ins.later hb h.lt, h.len, fun a e j u hu => by have := h.cells a e j u hu; rw [hb.cell (cell_lt this)]; exact this, h.some_, h.num, fun b hS => Nat.lt_of_lt_of_le (h.lt b hS) hb.size⟩
theorem Flat3.wide {S S' : Nat → Prop} {W : World} {A : Option Addr} {n : Nat} {ts : List Ty} {us : List Value} (h : Flat3 S W A n ts us) (hS : ∀ b, S b → S' b) (hl : ∀ b, S' b → b < W.heap.size) : Flat3 S' W A n ts us := ⟨h.ins.wide' hS, h.len, h.cells, h.some_, h.num, hl⟩
theorem Flat3.up {lo t : Nat} {W W' : World} {A : Option Addr} {n : Nat} {ts : List Ty} {us : List Value} (h : Flat3 (LB lo t W) W A n ts us) (hb : Below W.heap.size W W') : Flat3 (LB lo t W') W' A n ts us := (h.later hb).wide (LB.up hb.size (Nat.le_refl _)) fun _ h => h.1
/-- A row is appended. -/
theorem TRow.app {lo s : Nat} {w W W1 : World} {v v' : Value} {ts rs : List Ty} {us cs : List Value} {S : Nat → Prop} (hb : Below w.heap.size w W) (h1 : W.ownsRow w.heap.size 28 3 v ts.length cs) (h2 : Dat.Ins W False (fun b => LB lo s W b ∧ v.ownBlock ≠ some b) (Ty.dats ts) cs)
    (hu : Dat.Ins W False S (Ty.dats rs) us) (hS : ∀ b, S b → LB lo s W b ∧ v.ownBlock ≠ some b) (hA : Appd W W1 w.heap.size 28 3 ts.length rs.length v v' cs us) : TRow lo s w W1 v' (ts ++ rs) := by
  have hob : ∀ g, v.ownBlock = some g → w.heap.size ≤ g := own_base h1
  have hs := hA.grow.size
  have hk : ∀ p : Addr, LB lo s W p.block ∧ v.ownBlock ≠ some p.block → W1.cell? p = W.cell? p ∧ W1.frozen? p = W.frozen? p := fun p hp => ⟨hA.grow.cell_far p hp.1.1 (fun h => hp.2 h.symm), hA.grow.frozen_far p hp.1.1 (fun h => hp.2 h.symm)⟩
  have hn : ∀ b, LB lo s W b ∧ v.ownBlock ≠ some b → LB lo s W1 b ∧ v'.ownBlock ≠ some b := fun b h => ⟨LB.up hs (Nat.le_refl _) b h.1, fun e => by
    rcases hA.at_ with h3 | h3
    · exact h.2 (h3 ▸ e)
    · rw [h3] at e
      have h4 : W.heap.size = b := by injection e
      have := h.1.1
      omega⟩
  refine ⟨hb.grown hA.grow hb.size (fun k hk => hob k hk), cs ++ us, by rw [List.length_append]; exact hA.own, ?_⟩
  rw [dats_app']
  exact Dat.Ins.app' (Dat.Ins.keep id (fun p hp => hk p hp) hn _ _ h2) (Dat.Ins.keep id (fun p hp => hk p (hS _ hp)) (fun b hb => hn b (hS b hb)) _ _ hu)
theorem own_above {W : World} {base n : Nat} {v : Value} {cs : List Value} (h : W.ownsRow base 28 3 v n cs) : ∀ b, b < base → v.ownBlock ≠ some b := fun b hb e => by
  have h1 := own_base h b e
  omega
/-- What an own row's block is not among: what lies below it, and what is newer. -/
theorem own_apart {W : World} {base n lo t : Nat} {v : Value} {cs : List Value} (h : W.ownsRow base 28 3 v n cs) (hl : lo ≤ base) (ht : W.heap.size ≤ t) : ∀ b, b < lo ∨ t ≤ b → v.ownBlock ≠ some b := fun b hb e => by
  have h1 := own_base h b e
  have h2 := (h.lt b e).2
  omega

set_option maxRecDepth 100000 in
set_option maxHeartbeats 8000000 in
theorem inFormal_any (f : Fo) (us : List Value) (lo : Nat) (w : World) (hlo : lo ≤ w.heap.size) (h : f.dat.In w False (· < lo) us) : Calls Tryz.prog 163 #[.agg us.toArray] w (TsPost lo w (Fo.tys f)) := by
  have hb : Below w.heap.size w (w.alloc (.cells us.toArray 51)) := (Below.refl _ _).alloc (Nat.le_refl _) _
  have hx := Boxd.new w us.toArray 51
  have h0 : f.dat.In (w.alloc (.cells us.toArray 51)) False (· < lo) us := Dat.In.later h hb fun k hk => Nat.lt_of_lt_of_le hk hlo
  obtain ⟨Au, mu, au, rfl, _, ht, ha⟩ := fo_open h0
  have HD := Lib.hid (show f.ty.dat.In _ False (· < lo) [.string f.ty.name, .slice Au mu au, .int .i64 f.ty.off] from ty_shut ht ha)
  have x1 := hx 1 _ rfl
  have x2 := hx 2 _ rfl
  have x3 := hx 3 _ rfl
  have HB := Lib.hid hb
  have HW := Lib.hid (show (w.alloc (.cells #[.string f.name, .string f.ty.name, .slice Au mu au, .int .i64 f.ty.off, .int .i64 f.off] 51)).heap.size = w.heap.size + 1 from World.size_alloc _ _)
  clear h h0 hb hx ht ha
  go_enter Tryz.func163, Tryz.ntmps163
  go_wp2_with fail
  go_ret
  refine ⟨.slice (some ⟨w.heap.size + 1, 0, none⟩) 1 1, rfl, ?_⟩
  generalize w.alloc (.cells #[.string f.name, .string f.ty.name, .slice Au mu au, .int .i64 f.ty.off, .int .i64 f.off] 51) = W at *
  have hb2 : Below W.heap.size W (W.alloc (.cells #[.string f.ty.name, .slice Au mu au, .int .i64 f.ty.off] 28)) := (Below.refl _ _).alloc (Nat.le_refl _) _
  rw [← HW.out]
  refine ⟨HB.out.trans (hb2.mono HB.out.size), [.string f.ty.name, .slice Au mu au, .int .i64 f.ty.off], World.ownsRow_lit (base := w.heap.size) (e := 28) (size := 3) W #[.string f.ty.name, .slice Au mu au, .int .i64 f.ty.off] 1 HB.out.size (by unfold maxLen; omega) rfl, ?_⟩
  show Dat.Ins _ False _ (Ty.dats [f.ty]) _
  rw [Ty.dats, Ty.dats, Dat.Ins]
  have hs := HB.out.size
  have hs2 := hb2.size
  exact ⟨_, [], by simp, (Dat.In.later HD.out hb2 (fun k hk => Nat.lt_of_lt_of_le (Nat.lt_of_lt_of_le hk hlo) HB.out.size)).wide fun b hb => ⟨⟨by omega, .inl hb⟩, fun e => by
    have h4 : W.heap.size = b := by injection e
    omega⟩, by rw [Dat.Ins]⟩
set_option maxRecDepth 100000 in
set_option maxHeartbeats 8000000 in
theorem inParam_any (f : Fo) (us : List Value) (lo : Nat) (w : World) (hlo : lo ≤ w.heap.size) (h : f.dat.In w False (· < lo) us) : Calls Tryz.prog 165 #[.agg us.toArray] w (TsPost lo w (Fo.tys f)) := by
  have hb : Below w.heap.size w (w.alloc (.cells us.toArray 53)) := (Below.refl _ _).alloc (Nat.le_refl _) _
  have hx := Boxd.new w us.toArray 53
  have h0 : f.dat.In (w.alloc (.cells us.toArray 53)) False (· < lo) us := Dat.In.later h hb fun k hk => Nat.lt_of_lt_of_le hk hlo
  obtain ⟨Au, mu, au, rfl, _, ht, ha⟩ := fo_open h0
  have HD := Lib.hid (show f.ty.dat.In _ False (· < lo) [.string f.ty.name, .slice Au mu au, .int .i64 f.ty.off] from ty_shut ht ha)
  have x1 := hx 1 _ rfl
  have x2 := hx 2 _ rfl
  have x3 := hx 3 _ rfl
  have HB := Lib.hid hb
  have HW := Lib.hid (show (w.alloc (.cells #[.string f.name, .string f.ty.name, .slice Au mu au, .int .i64 f.ty.off, .int .i64 f.off] 53)).heap.size = w.heap.size + 1 from World.size_alloc _ _)
  clear h h0 hb hx ht ha
  go_enter Tryz.func165, Tryz.ntmps165
  go_wp2_with fail
  go_ret
  refine ⟨.slice (some ⟨w.heap.size + 1, 0, none⟩) 1 1, rfl, ?_⟩
  generalize w.alloc (.cells #[.string f.name, .string f.ty.name, .slice Au mu au, .int .i64 f.ty.off, .int .i64 f.off] 53) = W at *
  have hb2 : Below W.heap.size W (W.alloc (.cells #[.string f.ty.name, .slice Au mu au, .int .i64 f.ty.off] 28)) := (Below.refl _ _).alloc (Nat.le_refl _) _
  rw [← HW.out]
  refine ⟨HB.out.trans (hb2.mono HB.out.size), [.string f.ty.name, .slice Au mu au, .int .i64 f.ty.off], World.ownsRow_lit (base := w.heap.size) (e := 28) (size := 3) W #[.string f.ty.name, .slice Au mu au, .int .i64 f.ty.off] 1 HB.out.size (by unfold maxLen; omega) rfl, ?_⟩
  show Dat.Ins _ False _ (Ty.dats [f.ty]) _
  rw [Ty.dats, Ty.dats, Dat.Ins]
  have hs := HB.out.size
  have hs2 := hb2.size
  exact ⟨_, [], by simp, (Dat.In.later HD.out hb2 (fun k hk => Nat.lt_of_lt_of_le (Nat.lt_of_lt_of_le hk hlo) HB.out.size)).wide fun b hb => ⟨⟨by omega, .inl hb⟩, fun e => by
    have h4 : W.heap.size = b := by injection e
    omega⟩, by rw [Dat.Ins]⟩
set_option maxRecDepth 100000 in
set_option maxHeartbeats 8000000 in
theorem inEachFormal_any (xs : List Fo) (A : Option Addr) (q c lo : Nat) (w : World) (hlo : lo ≤ w.heap.size) (hq : (xs.flatMap Fo.tys).length ≤ 1000000) (h : Row w False (· < lo) 5 A q (xs.map Fo.dat)) :
    Calls Tryz.prog 162 #[.slice A q c, .func (.func 163) #[] #[]] w (TsPost lo w (xs.flatMap Fo.tys)) := by
  have hxl := h.len
  rw [List.length_map] at hxl
  have hm : (q : Int) ≤ 9223372036854775807 := by have := h.le; omega
  have H1 := Lib.hid h
  have HXL := Lib.hid hxl
  have HQ := Lib.hid hq
  have HLO := Lib.hid hlo
  clear h hxl hq hlo
  go_enter Tryz.func162, Tryz.ntmps162
  go_wp2_with fail
  go_loopw [5, 10] (fun v i wr => ∃ k : Nat, k ≤ q ∧ i = .int .i64 k ∧ TRow lo w.heap.size w wr v ((xs.take k).flatMap Fo.tys)) (fun _ i _ => q - (intOf i).toNat)
  case atStart => exact ⟨0, by omega, rfl, by rw [List.take_zero]; exact TRow.nil lo _ w w (Below.refl _ _)⟩
  case round =>
    obtain ⟨k, hk, rfl, hrow⟩ := hrel
    have HR := Lib.hid hrow
    have hbel := hrow.bel
    have y1 : (0 : Int) ≤ k := by omega
    by_cases hlt : k < q
    · have y0 : (k : Int) < q := by omega
      obtain ⟨pu, u, ps, rfl, hx, _, _, hu, hcs⟩ := dat_at (H1.out.later hbel fun k hk => Nat.lt_of_lt_of_le hk HLO.out) hlt
      have HLU := Lib.hid (show ps.length = 5 from (Dat.In.len _ _ hu).trans (Fo.dat_size u))
      have HOU := Lib.hid (fo_cells hu)
      obtain ⟨W1, hP1⟩ := putZ #[.string ⟨#[]⟩, .string ⟨#[]⟩, .slice none 0 0, .int .i64 0, .int .i64 0] 51 wr HLU.out
      have HP1 := Lib.hid hP1
      have HFC := Lib.hid hcs
      have HX := Lib.hid hP1.box.at0
      have HLR := Lib.hid (show lo ≤ wr.heap.size from Nat.le_trans HLO.out hbel.size)
      have HLW := Lib.hid (show lo ≤ W1.heap.size from Nat.le_trans HLR.out hP1.bel.size)
      have C := Lib.hid (show Calls Tryz.prog 163 #[.agg ps.toArray] W1 (TsPost lo W1 (Fo.tys u)) from inFormal_any u ps lo W1 HLW.out (hu.later hP1.bel fun k hk => Nat.lt_of_lt_of_le hk HLR.out))
      have HB1 := Lib.hid hP1.bel
      have HST := Lib.hid (show (xs.take (k + 1)).flatMap Fo.tys = (xs.take k).flatMap Fo.tys ++ Fo.tys u by rw [Ex.take_at hx, List.flatMap_append]; simp)
      have HLN := Lib.hid (show ((xs.take k).flatMap Fo.tys).length + (Fo.tys u).length ≤ 1000000 by
        have h1 := HQ.out
        have h2 : ((xs.take (k + 1)).flatMap Fo.tys).length ≤ (xs.flatMap Fo.tys).length := by
          conv => rhs; rw [← List.take_append_drop (k + 1) xs, List.flatMap_append, List.length_append]
          omega
        rw [HST.out, List.length_append] at h2
        omega)
      clear hx hu hcs hbel hrow hP1
      generalize Fo.tys u = rs at *
      generalize (xs.take k).flatMap Fo.tys = ts at *
      go_wp2_with (first
        | (refine loadOp flatFo 12 13 rfl HFC.out HLU.out ?_)
        | (refine storeOp flatFo 7 13 (b := wr.heap.size) (o := 0) rfl rfl HP1.out.there HOU.out HLU.out ?_; rw [HP1.out.eq])
        | (refine loadOp flatFo 7 16 rfl HX.out HLU.out ?_))
      refine C.out.mono ?_
      rintro e w3 ⟨v3, rfl, hr3⟩
      have HR0 := HR.out.later HB1.out
      have HR1 := HR0.later hr3.bel
      obtain ⟨B, d, us2, rfl, hF⟩ := hr3.flat (Nat.le_refl _)
      obtain ⟨cs0, ho0, _⟩ := HR0.own
      have hap := own_apart ho0 HLO.out (Nat.le_refl _)
      have hsz : w.heap.size ≤ W1.heap.size := HR0.bel.size
      have HAP := Lib.hid (fun b (hb : LB lo W1.heap.size w3 b) => And.intro (LB.up (Nat.le_refl w3.heap.size) hsz b hb) (hap b hb.2))
      obtain ⟨cs, ho1, hi1⟩ := HR1.own
      have HF := Lib.hid hF
      have HON := Lib.hid ho1
      have HII := Lib.hid hi1
      have HBE := Lib.hid HR1.bel
      clear ho0 hap hsz HR0 ho1 hi1 HR1 hr3 hF C HP1 HFC HX HB1
      go_wp2_with (at_builtin; refine wpList_append_row slTy rfl _ _ rfl rfl rfl HON.out HBE.out.size HF.out.len HF.out.cells HF.out.ones HF.out.some_ HLN.out (by omega) ?_; intro v4 w4 hA4; have HR4 := Lib.hid (TRow.app HBE.out HON.out HII.out HF.out.ins HAP.out hA4); clear hA4)
      go_roundw
      case rel => exact ⟨k + 1, by omega, by go_num, by rw [HST.out]; exact HR4.out⟩
      case measure => simp [intOf]; omega
    · have y0 : (q : Int) ≤ k := by omega
      rw [List.take_of_length_le (by rw [HXL.out]; omega)] at hrow
      have HR2 := Lib.hid hrow
      clear hrow hbel
      go_wp2_with fail
      go_ret
      exact ⟨_, rfl, HR2.out⟩
set_option maxRecDepth 100000 in
set_option maxHeartbeats 8000000 in
theorem inEachParam_any (xs : List Fo) (A : Option Addr) (q c lo : Nat) (w : World) (hlo : lo ≤ w.heap.size) (hq : (xs.flatMap Fo.tys).length ≤ 1000000) (h : Row w False (· < lo) 5 A q (xs.map Fo.dat)) :
    Calls Tryz.prog 164 #[.slice A q c, .func (.func 165) #[] #[]] w (TsPost lo w (xs.flatMap Fo.tys)) := by
  have hxl := h.len
  rw [List.length_map] at hxl
  have hm : (q : Int) ≤ 9223372036854775807 := by have := h.le; omega
  have H1 := Lib.hid h
  have HXL := Lib.hid hxl
  have HQ := Lib.hid hq
  have HLO := Lib.hid hlo
  clear h hxl hq hlo
  go_enter Tryz.func164, Tryz.ntmps164
  go_wp2_with fail
  go_loopw [5, 10] (fun v i wr => ∃ k : Nat, k ≤ q ∧ i = .int .i64 k ∧ TRow lo w.heap.size w wr v ((xs.take k).flatMap Fo.tys)) (fun _ i _ => q - (intOf i).toNat)
  case atStart => exact ⟨0, by omega, rfl, by rw [List.take_zero]; exact TRow.nil lo _ w w (Below.refl _ _)⟩
  case round =>
    obtain ⟨k, hk, rfl, hrow⟩ := hrel
    have HR := Lib.hid hrow
    have hbel := hrow.bel
    have y1 : (0 : Int) ≤ k := by omega
    by_cases hlt : k < q
    · have y0 : (k : Int) < q := by omega
      obtain ⟨pu, u, ps, rfl, hx, _, _, hu, hcs⟩ := dat_at (H1.out.later hbel fun k hk => Nat.lt_of_lt_of_le hk HLO.out) hlt
      have HLU := Lib.hid (show ps.length = 5 from (Dat.In.len _ _ hu).trans (Fo.dat_size u))
      have HOU := Lib.hid (fo_cells hu)
      obtain ⟨W1, hP1⟩ := putZ #[.string ⟨#[]⟩, .string ⟨#[]⟩, .slice none 0 0, .int .i64 0, .int .i64 0] 53 wr HLU.out
      have HP1 := Lib.hid hP1
      have HFC := Lib.hid hcs
      have HX := Lib.hid hP1.box.at0
      have HLR := Lib.hid (show lo ≤ wr.heap.size from Nat.le_trans HLO.out hbel.size)
      have HLW := Lib.hid (show lo ≤ W1.heap.size from Nat.le_trans HLR.out hP1.bel.size)
      have C := Lib.hid (show Calls Tryz.prog 165 #[.agg ps.toArray] W1 (TsPost lo W1 (Fo.tys u)) from inParam_any u ps lo W1 HLW.out (hu.later hP1.bel fun k hk => Nat.lt_of_lt_of_le hk HLR.out))
      have HB1 := Lib.hid hP1.bel
      have HST := Lib.hid (show (xs.take (k + 1)).flatMap Fo.tys = (xs.take k).flatMap Fo.tys ++ Fo.tys u by rw [Ex.take_at hx, List.flatMap_append]; simp)
      have HLN := Lib.hid (show ((xs.take k).flatMap Fo.tys).length + (Fo.tys u).length ≤ 1000000 by
        have h1 := HQ.out
        have h2 : ((xs.take (k + 1)).flatMap Fo.tys).length ≤ (xs.flatMap Fo.tys).length := by
          conv => rhs; rw [← List.take_append_drop (k + 1) xs, List.flatMap_append, List.length_append]
          omega
        rw [HST.out, List.length_append] at h2
        omega)
      clear hx hu hcs hbel hrow hP1
      generalize Fo.tys u = rs at *
      generalize (xs.take k).flatMap Fo.tys = ts at *
      go_wp2_with (first
        | (refine loadOp flatPa 12 13 rfl HFC.out HLU.out ?_)
        | (refine storeOp flatPa 7 13 (b := wr.heap.size) (o := 0) rfl rfl HP1.out.there HOU.out HLU.out ?_; rw [HP1.out.eq])
        | (refine loadOp flatPa 7 16 rfl HX.out HLU.out ?_))
      refine C.out.mono ?_
      rintro e w3 ⟨v3, rfl, hr3⟩
      have HR0 := HR.out.later HB1.out
      have HR1 := HR0.later hr3.bel
      obtain ⟨B, d, us2, rfl, hF⟩ := hr3.flat (Nat.le_refl _)
      obtain ⟨cs0, ho0, _⟩ := HR0.own
      have hap := own_apart ho0 HLO.out (Nat.le_refl _)
      have hsz : w.heap.size ≤ W1.heap.size := HR0.bel.size
      have HAP := Lib.hid (fun b (hb : LB lo W1.heap.size w3 b) => And.intro (LB.up (Nat.le_refl w3.heap.size) hsz b hb) (hap b hb.2))
      obtain ⟨cs, ho1, hi1⟩ := HR1.own
      have HF := Lib.hid hF
      have HON := Lib.hid ho1
      have HII := Lib.hid hi1
      have HBE := Lib.hid HR1.bel
      clear ho0 hap hsz HR0 ho1 hi1 HR1 hr3 hF C HP1 HFC HX HB1
      go_wp2_with (at_builtin; refine wpList_append_row slTy rfl _ _ rfl rfl rfl HON.out HBE.out.size HF.out.len HF.out.cells HF.out.ones HF.out.some_ HLN.out (by omega) ?_; intro v4 w4 hA4; have HR4 := Lib.hid (TRow.app HBE.out HON.out HII.out HF.out.ins HAP.out hA4); clear hA4)
      go_roundw
      case rel => exact ⟨k + 1, by omega, by go_num, by rw [HST.out]; exact HR4.out⟩
      case measure => simp [intOf]; omega
    · have y0 : (q : Int) ≤ k := by omega
      rw [List.take_of_length_le (by rw [HXL.out]; omega)] at hrow
      have HR2 := Lib.hid hrow
      clear hrow hbel
      go_wp2_with fail
      go_ret
      exact ⟨_, rfl, HR2.out⟩
end Go.Proofs.YtaeljknfbanbfaaGreatDoor
