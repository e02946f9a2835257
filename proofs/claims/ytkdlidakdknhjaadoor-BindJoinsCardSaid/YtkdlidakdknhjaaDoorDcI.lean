/- Appending a row of data, which may be empty, to a row of one's own. No condition.
The walks of decl.inFormal, decl.inParam and decl.inEach at them: rows of types that a call builds. The condition: few parts. -/
import Derived.Test.YtkdlidakdknhjaaDoorDcM
import Derived.Deep.AppendLies
import Derived.Test.YtkdlidakdknhjaaDoorDcW
import Derived.Test.YtkdlidakdknhjaaDoorDcF
namespace Go.Proofs.YtkdlidakdknhjaaDoor
open Go.RowKit

def Fo.tys (f : Fo) : List Ty := [f.ty]
/-- The blocks of a world that lie below lo or from s on. -/
def LB (lo s : Nat) (W : World) (b : Nat) : Prop := b < W.heap.size ∧ (b < lo ∨ s ≤ b)
/-- A row of types in blocks made since w; what the types lead to lies below lo, or in blocks from s on, and not in the row's own. -/
structure TRow (lo s : Nat) (w W : World) (v : Value) (ts : List Ty) : Prop where
  bel : Below w.heap.size w W
  own : ∃ cs, W.ownsRow w.heap.size 26 3 v ts.length cs ∧ Dat.Ins W False (fun b => LB lo s W b ∧ v.ownBlock ≠ some b) (Ty.dats ts) cs
/-- What a call gives that builds a row of types. -/
def TsPost (lo : Nat) (w : World) (ts : List Ty) (e : Ending) (w' : World) : Prop := ∃ v, e = .returned v ∧ TRow lo w.heap.size w w' v ts
theorem ty_ones {w : World} {N : Prop} {S : Nat → Prop} {ts : List Ty} : ∀ d ∈ Ty.dats ts, ∀ u, d.In w N S u → ∀ x ∈ u, x.oneCell' = true := fun d hd u hu => by
  rw [Ty.dats_map, List.mem_map] at hd
  obtain ⟨t, _, rfl⟩ := hd
  exact ty_cells hu
theorem ty_sizes {ts : List Ty} : ∀ d ∈ Ty.dats ts, d.size = 3 := fun d hd => by
  rw [Ty.dats_map, List.mem_map] at hd
  obtain ⟨t, _, rfl⟩ := hd
  exact Ty.dat_size t
theorem TRow.nil (lo s : Nat) (w W : World) (h : Below w.heap.size w W) : TRow lo s w W (.slice none 0 0) [] := ⟨h, [], World.ownsRow_nil _ _ _ _, by rw [Ty.dats, Dat.Ins]⟩
theorem LB.up {lo s t : Nat} {W W' : World} (hs : W.heap.size ≤ W'.heap.size) (ht : t ≤ s) : ∀ b, LB lo s W b → LB lo t W' b := fun _ h => ⟨Nat.lt_of_lt_of_le h.1 hs, h.2.imp id fun h => Nat.le_trans ht h⟩
theorem Dat.Ins.wide' {w : World} {N : Prop} {S S' : Nat → Prop} {ds : List Dat} {us : List Value} (h : Dat.Ins w N S ds us) (hS : ∀ b, S b → S' b) : Dat.Ins w N S' ds us := Dat.Ins.keep id (fun _ _ => ⟨rfl, rfl⟩) hS ds us h
theorem Dat.Ins.later {w w' : World} {N : Prop} {S : Nat → Prop} {b : Nat} {ds : List Dat} {us : List Value} (h : Dat.Ins w N S ds us) (hb : Below b w w') (hh : ∀ k, S k → k < b) : Dat.Ins w' N S ds us :=
  Dat.Ins.keep id (fun _ hp => ⟨hb.cell (hh _ hp), hb.frozen (hh _ hp)⟩) (fun _ h => h) _ _ h
theorem TRow.later {lo s : Nat} {w W W' : World} {v : Value} {ts : List Ty} (h : TRow lo s w W v ts) (hb : Below W.heap.size W W') : TRow lo s w W' v ts := by
  obtain ⟨cs, h1, h2⟩ := h.own
  exact ⟨h.bel.trans (hb.mono h.bel.size), cs, own_below h1 hb, (h2.later hb fun _ hk => hk.1.1).wide' fun b hb2 => ⟨LB.up hb.size (Nat.le_refl _) b hb2.1, hb2.2⟩⟩
theorem Dat.Ins.app' {w : World} {N : Prop} {S : Nat → Prop} : ∀ {ds es : List Dat} {us vs : List Value}, Dat.Ins w N S ds us → Dat.Ins w N S es vs → Dat.Ins w N S (ds ++ es) (us ++ vs)
  | [], es, us, vs, h, h2 => by
    rw [Dat.Ins] at h
    subst h
    exact h2
  | d :: r, es, us, vs, h, h2 => by
    rw [Dat.Ins] at h
    obtain ⟨u1, u2, rfl, h3, h4⟩ := h
    rw [List.cons_append, Dat.Ins]
    exact ⟨u1, u2 ++ vs, by rw [List.append_assoc], h3, Dat.Ins.app' h4 h2⟩
theorem dats_app' (xs ys : List Ty) : Ty.dats (xs ++ ys) = Ty.dats xs ++ Ty.dats ys := by simp [Ty.dats_map]
/-- A row of types, flat: what a slice of types must give to be appended. -/
structure Flat3 (S : Nat → Prop) (W : World) (A : Option Addr) (n : Nat) (ts : List Ty) (us : List Value) : Prop where
  ins : Dat.Ins W False S (Ty.dats ts) us
  len : us.length = n * 3
  cells : ∀ a, A = some a → ∀ j u, us[j]? = some u → W.cell? (a.add j) = some u
  some_ : 0 < n → ∃ a, A = some a
  num : n = ts.length
  lt : ∀ b, S b → b < W.heap.size
theorem Flat3.ones {S : Nat → Prop} {W : World} {A : Option Addr} {n : Nat} {ts : List Ty} {us : List Value} (h : Flat3 S W A n ts us) : ∀ x ∈ us, x.oneCell' = true := ins_cells ty_ones h.ins
/-- One's own row is a slice. -/
theorem TRow.flat {lo s t : Nat} {w W : World} {v : Value} {ts : List Ty} (h : TRow lo s w W v ts) (ht : t ≤ s) : ∃ A c us, v = .slice A ts.length c ∧ Flat3 (LB lo t W) W A ts.length ts us := by
  obtain ⟨cs, h1, h2⟩ := h.own
  have hl := h1.1
  have h2' := h2.wide' fun b hb => LB.up (Nat.le_refl W.heap.size) ht b hb.1
  rcases h1.2 with ⟨h3, h4⟩ | ⟨g, cap, cur, h3, hb, hg, hnc, hc, hs, ht⟩
  · exact ⟨none, 0, cs, by rw [h3, h4], h2', hl, fun _ e => by (cases e), fun h => by omega, rfl, fun b hb => hb.1⟩
  · refine ⟨some ⟨g, 0, none⟩, cap, cs, h3, h2', hl, fun a e j u hu => ?_, fun _ => ⟨_, rfl⟩, rfl, fun b hb => hb.1⟩
    cases e
    exact h1.cells (g := g) (by rw [h3]; rfl) _ _ hu
/-- A row that lies is flat. -/
theorem Row.flat {S : Nat → Prop} {W : World} {A : Option Addr} {n : Nat} {ts : List Ty} (h : Row W False S 3 A n (Ty.dats ts)) (hS : ∀ b, S b → b < W.heap.size) : ∃ us, Flat3 S W A n ts us := by
  obtain ⟨us, h1, h2, h3⟩ := row_flat h ty_sizes
  exact ⟨us, h1, h2, h3, row_some h, by rw [← h.len, Ty.dats_map, List.length_map], hS⟩
theorem Flat3.later {S : Nat → Prop} {W W' : World} {A : Option Addr} {n : Nat} {ts : List Ty} {us : List Value} (h : Flat3 S W A n ts us) (hb : Below W.heap.size W W') : Flat3 S W' A n ts us :=
  ⟨h.ins.later hb h.lt, h.len, fun a e j u hu => by have := h.cells a e j u hu; rw [hb.cell (cell_lt this)]; exact this, h.some_, h.num, fun b hS => Nat.lt_of_lt_of_le (h.lt b hS) hb.size⟩
theorem Flat3.wide {S S' : Nat → Prop} {W : World} {A : Option Addr} {n : Nat} {ts : List Ty} {us : List Value} (h : Flat3 S W A n ts us) (hS : ∀ b, S b → S' b) (hl : ∀ b, S' b → b < W.heap.size) : Flat3 S' W A n ts us := ⟨h.ins.wide' hS, h.len, h.cells, h.some_, h.num, hl⟩
theorem Flat3.up {lo t : Nat} {W W' : World} {A : Option Addr} {n : Nat} {ts : List Ty} {us : List Value} (h : Flat3 (LB lo t W) W A n ts us) (hb : Below W.heap.size W W') : Flat3 (LB lo t W') W' A n ts us := (h.later hb).wide (LB.up hb.size (Nat.le_refl _)) fun _ h => h.1
/-- A row is appended. -/
theorem TRow.app {lo s : Nat} {w W W1 : World} {v v' : Value} {ts rs : List Ty} {us cs : List Value} {S : Nat → Prop} (hb : Below w.heap.size w W) (h1 : W.ownsRow w.heap.size 26 3 v ts.length cs) (h2 : Dat.Ins W False (fun b => LB lo s W b ∧ v.ownBlock ≠ some b) (Ty.dats ts) cs)
    (hu : Dat.Ins W False S (Ty.dats rs) us) (hS : ∀ b, S b → LB lo s W b ∧ v.ownBlock ≠ some b) (hA : Appd W W1 w.heap.size 26 3 ts.length rs.length v v' cs us) : TRow lo s w W1 v' (ts ++ rs) := by
  have hob : ∀ g, v.ownBlock = some g → w.heap.size ≤ g := own_base h1
  have hs := hA.grow.size
  have hk : ∀ p : Addr, LB lo s W p.block ∧ v.ownBlock ≠ some p.block → W1.cell? p = W.cell? p ∧ W1.frozen? p = W.frozen? p := fun p hp => ⟨hA.grow.cell_far p hp.1.1 (fun h => hp.2 h.symm), hA.grow.frozen_far p hp.1.1 (fun h => hp.2 h.symm)⟩
  have hn : ∀ b, LB lo s W b ∧ v.ownBlock ≠ some b → LB lo s W1 b ∧ v'.ownBlock ≠ some b := fun b h => ⟨LB.up hs (Nat.le_refl _) b h.1, fun e => by
    rcases hA.at_ with h3 | h3
    · exact h.2 (h3 ▸ e)
    · rw [h3] at e
      have h4 : W.heap.size = b := by injection e
      have := h.1.1
      omega⟩
  refine ⟨hb.grown hA.grow hb.size (fun k hk => hob k hk), cs ++ us, by rw [List.length_append]; exact hA.own, ?_⟩
  rw [dats_app']
  exact Dat.Ins.app' (Dat.Ins.keep id (fun p hp => hk p hp) hn _ _ h2) (Dat.Ins.keep id (fun p hp => hk p (hS _ hp)) (fun b hb => hn b (hS b hb)) _ _ hu)
theorem own_above {W : World} {base n : Nat} {v : Value} {cs : List Value} (h : W.ownsRow base 26 3 v n cs) : ∀ b, b < base → v.ownBlock ≠ some b := fun b hb e => by
  have h1 := own_base h b e
  omega
/-- What an own row's block is not among: what lies below it, and what is newer. -/
theorem own_apart {W : World} {base n lo t : Nat} {v : Value} {cs : List Value} (h : W.ownsRow base 26 3 v n cs) (hl : lo ≤ base) (ht : W.heap.size ≤ t) : ∀ b, b < lo ∨ t ≤ b → v.ownBlock ≠ some b := fun b hb e => by
  have h1 := own_base h b e
  have h2 := (h.lt b e).2
  omega

end Go.Proofs.YtkdlidakdknhjaaDoor
