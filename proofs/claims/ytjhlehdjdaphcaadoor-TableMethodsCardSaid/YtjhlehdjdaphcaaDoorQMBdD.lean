/- A row of formals or parameters that is copied, and whose types are then replaced by what a call gives, one after the other. No condition. -/
import Derived.Test.YtjhlehdjdaphcaaDoorQMBdM
import Derived.Deep.RegionHeld
import Derived.Lib.AppendZerosOnto
namespace Go.Proofs.YtjhlehdjdaphcaaDoor
open Go.RowKit

def Fo.mapT (σ : Ty → Ty) (f : Fo) : Fo := ⟨f.name, σ f.ty, f.off⟩
def Sg.mapT (σ : Ty → Ty) (s : Sg) : Sg := ⟨s.name, s.fs.map (Fo.mapT σ), s.ps.map (Fo.mapT σ), σ s.res, s.off⟩
theorem Fo.mapT_id (f : Fo) : f.mapT id = f := rfl

theorem infoFoB : (Tryd.prog.info? 65).map (fun i => (i.zero, i.size, i.bytes)) = some (some (.agg #[.string ⟨#[]⟩, .string ⟨#[]⟩, .slice none 0 0, .int .i64 0, .int .i64 0]), 5, 72) := by kernel_rfl
theorem slFoB : SlOf 46 65 5 72 := by
  obtain ⟨i, hi, hz, hs, hb⟩ := info_parts infoFoB
  exact ⟨Tryd.underlying46, ⟨i, _, hi, hz, hs, hb, rfl⟩, by omega⟩
theorem infoPaB : (Tryd.prog.info? 67).map (fun i => (i.zero, i.size, i.bytes)) = some (some (.agg #[.string ⟨#[]⟩, .string ⟨#[]⟩, .slice none 0 0, .int .i64 0, .int .i64 0]), 5, 72) := by kernel_rfl
theorem slPaB : SlOf 36 67 5 72 := by
  obtain ⟨i, hi, hz, hs, hb⟩ := info_parts infoPaB
  exact ⟨Tryd.underlying36, ⟨i, _, hi, hz, hs, hb, rfl⟩, by omega⟩
theorem fo_sizes {xs : List Fo} : ∀ d ∈ xs.map Fo.dat, d.size = 5 := fun d hd => by
  obtain ⟨f, _, rfl⟩ := List.mem_map.1 hd
  exact Fo.dat_size f
theorem fo_ones {w : World} {N : Prop} {S : Nat → Prop} {xs : List Fo} : ∀ d ∈ xs.map Fo.dat, ∀ u, d.In w N S u → ∀ x ∈ u, x.oneCell' = true := fun d hd u hu => by
  obtain ⟨f, _, rfl⟩ := List.mem_map.1 hd
  exact fo_cells hu
theorem drop_piece {us u : List Value} {o z : Nat} (hu : u.length = z) (h : ∀ i v, u[i]? = some v → us[o + i]? = some v) : us.drop o = u ++ us.drop (o + z) := by
  refine List.ext_getElem? fun i => ?_
  rw [List.getElem?_drop]
  by_cases hi : i < z
  · rw [List.getElem?_append_left (by omega)]
    rw [h i _ (List.getElem?_eq_getElem (by omega)), List.getElem?_eq_getElem (by omega)]
  · rw [List.getElem?_append_right (by omega), List.getElem?_drop, hu]
    congr 1
    omega
theorem held_of_own {W : World} {B n z g c : Nat} {e : TypeId} {cs : List Value} (h : W.ownsRow B e z (.slice (some ⟨g, 0, none⟩) n c) n cs) : Held W g (n * z) cs ∧ n ≤ c ∧ B ≤ g := by
  have hl := h.1
  have hc : ∀ j v, cs[j]? = some v → W.cell? ⟨g, 0 + j, none⟩ = some v := fun j v hv => by
    have := h.cells (g := g) rfl j v hv
    rwa [add_zero_addr, ← Nat.zero_add j] at this
  rcases h.2 with ⟨e, _⟩ | ⟨g', cap, cur, e, hb, hg, hn, _⟩
  · cases e
  · cases e
    refine ⟨⟨fun j hj => ?_, (Array.getElem?_eq_some_iff.1 hg).1, hc⟩, hn, hb⟩
    rw [hc j _ (List.getElem?_eq_getElem (by omega))]
    exact ⟨rfl, by simp [World.frozen?, hg]⟩
/-- What is new is no block of the state's. -/
theorem Bd.fresh {K : Bd} (hK : K.Ok) {i b : Nat} {w V : World} (hs : K.St i w) (hb : Below w.heap.size w V) (hg : w.heap.size ≤ b) : ¬ K.Fp V b := fun hf => by
  have h1 := (hK.keep i w V hs hb.size fun b hl _ => hb.block b hl).2 b
  have := (hK.low i w b hs (h1.1 hf)).2
  omega

/-- k of the types are replaced. -/
structure BdRel (K : Bd) (σ : Ty → Ty) (xs : List Fo) (us : List Value) (q i0 : Nat) (w : World) (a0 g k : Nat) (wr : World) : Prop where
  mv : K.Mv w wr
  st : K.St (i0 + k) wr
  fp : ¬ K.Fp wr g
  gw : w.heap.size ≤ a0 ∧ a0 ≤ g
  row : ∃ cs1, cs1.length = k * 5 ∧ Dat.Ins wr False (fun b => K.Got a0 wr b ∧ b ≠ g) (((xs.take k).map (Fo.mapT σ)).map Fo.dat) cs1 ∧ Held wr g (q * 5) (cs1 ++ us.drop (k * 5))
/-- What is given: a row, flat. -/
structure BdIn (K : Bd) (xs : List Fo) (us : List Value) (q : Nat) (w : World) : Prop where
  ins : Dat.Ins w False (· < K.n) (xs.map Fo.dat) us
  len : us.length = q * 5
  num : xs.length = q
theorem bd_start {K : Bd} (hK : K.Ok) {σ : Ty → Ty} {xs : List Fo} {us : List Value} {q i0 a0 : Nat} {w V w4 : World} {e : TypeId} {v4 : Value} (hq : 0 < q) (h0 : K.St i0 V) (hm : K.Mv w V) (ha : w.heap.size ≤ a0) (hV : a0 ≤ V.heap.size) (hA : Appd V w4 V.heap.size e 5 0 q (.slice none 0 0) v4 [] us) :
    ∃ c4, v4 = .slice (some ⟨V.heap.size, 0, none⟩) q c4 ∧ q ≤ c4 ∧ Below V.heap.size V w4 ∧ BdRel K σ xs us q i0 w a0 V.heap.size 0 w4 := by
  have hown := hA.own
  rw [Nat.zero_add, List.nil_append] at hown
  have hb : Below V.heap.size V w4 := (Below.refl _ _).grown hA.grow (Nat.le_refl _) (fun k hk => by simp [Value.ownBlock] at hk)
  obtain ⟨g, c4, rfl⟩ : ∃ g c, v4 = .slice (some ⟨g, 0, none⟩) q c := by
    rcases hown.2 with ⟨_, h⟩ | ⟨g, c, _, h, _⟩
    · omega
    · exact ⟨g, c, h⟩
  have hg : g = V.heap.size := by
    rcases hA.at_ with h | h
    · cases h
    · exact Option.some.inj h
  subst hg
  obtain ⟨h1, h2, _⟩ := held_of_own hown
  obtain ⟨h3, h4⟩ := Bd.below hK h0 hb
  exact ⟨c4, rfl, h2, hb, hm.trans h3, h4, Bd.fresh hK h0 hb (Nat.le_refl _), ⟨ha, hV⟩, [], by simp, by rw [List.take_zero]; show Dat.Ins _ _ _ [] _; rw [Dat.Ins], by simpa using h1⟩
/-- The next one. -/
theorem bd_open {K : Bd} (hK : K.Ok) {σ : Ty → Ty} {xs : List Fo} {us : List Value} {q i0 iw a0 g k : Nat} {w wr : World} {x : Fo} (h0 : K.St iw w) (hI : BdIn K xs us q w) (h : BdRel K σ xs us q i0 w a0 g k wr) (hx : xs[k]? = some x) :
    ∃ A m a, CellsAt wr ⟨g, k * 5, none⟩ [.string x.name, .string x.ty.name, .slice A m a, .int .i64 x.ty.off, .int .i64 x.off] ∧ x.name.size ≤ 9223372036854775807 ∧ x.ty.dat.In wr False (· < K.n) [.string x.ty.name, .slice A m a, .int .i64 x.ty.off]
      ∧ us.drop (k * 5) = [.string x.name, .string x.ty.name, .slice A m a, .int .i64 x.ty.off, .int .i64 x.off] ++ us.drop (k * 5 + 5) := by
  obtain ⟨u, hu, hat⟩ := hI.ins.at fo_sizes (j := k) (d := x.dat) (by rw [List.getElem?_map, hx]; rfl)
  have hul : u.length = 5 := (Dat.In.len _ _ hu).trans (Fo.dat_size x)
  have hd := drop_piece hul hat
  obtain ⟨A, m, a, rfl, hn, ht, ha⟩ := fo_open hu
  obtain ⟨cs1, hc1, hc2, hc3⟩ := h.row
  refine ⟨A, m, a, fun j v hv => ?_, hn, Bd.given_in hK h0 h.mv (ty_shut ht ha), hd⟩
  have h5 := hc3.at_ (k * 5 + j) v (by
    rw [List.getElem?_append_right (by omega), hd, hc1, Nat.add_sub_cancel_left, List.getElem?_append_left (List.getElem?_eq_some_iff.1 hv).1]
    exact hv)
  rw [Nat.zero_add] at h5
  rw [Addr.add_mid]
  exact h5
/-- It is replaced. -/
theorem bd_close {K : Bd} (hK : K.Ok) {σ : Ty → Ty} {xs : List Fo} {us vs : List Value} {q i0 iw a0 g k : Nat} {w wr W1 w3 : World} {x : Fo} {A : Option Addr} {m a : Nat} (h0 : K.St iw w) (hI : BdIn K xs us q w) (h : BdRel K σ xs us q i0 w a0 g k wr) (hx : xs[k]? = some x)
    (hn : x.name.size ≤ 9223372036854775807) (hd : us.drop (k * 5) = [.string x.name, .string x.ty.name, .slice A m a, .int .i64 x.ty.off, .int .i64 x.off] ++ us.drop (k * 5 + 5)) (hb : Below wr.heap.size wr W1)
    (hv : (σ x.ty).dat.In w3 False (K.Got W1.heap.size w3) vs) (hm : K.Mv W1 w3) (hs : K.St (i0 + k + 1) w3) : w3.there g (k * 5 + 1) vs.length ∧ vs.length = 3 ∧ BdRel K σ xs us q i0 w a0 g (k + 1) (w3.setCells g (k * 5 + 1) vs) := by
  obtain ⟨b1, b2⟩ := Bd.below hK h.st hb
  have hm3 : K.Mv wr w3 := b1.trans hm
  have hvl : vs.length = 3 := (Dat.In.len _ _ hv).trans (Ty.dat_size _)
  obtain ⟨cs1, hc1, hc2, hc3⟩ := h.row
  have hgl := hc3.lt
  have hH3 : Held w3 g (q * 5) (cs1 ++ us.drop (k * 5)) := hc3.kept (hm3.kp g hgl h.fp) hm3.size
  have hf3 : ¬ K.Fp w3 g := hm3.fp g hgl h.fp
  have hk := (List.getElem?_eq_some_iff.1 hx).1
  have hq5 : k * 5 + 5 ≤ q * 5 := by rw [← hI.num]; have := Nat.mul_le_mul_right 5 (show k + 1 ≤ xs.length from hk); omega
  have ht : w3.there g (k * 5 + 1) vs.length := fun j hj => by
    have := hH3.there (k * 5 + 1 + j) (by omega)
    rwa [Nat.zero_add] at this
  obtain ⟨e1, e2, e3⟩ := Bd.cells hK (g := g) hs (h.mv.trans hm3) (Nat.le_trans h.gw.1 h.gw.2) (hK.lo _ _ h0).1 (hK.lo _ _ h0).2 hf3 (k * 5 + 1) vs
  refine ⟨ht, hvl, e1, by rw [← Nat.add_assoc]; exact e2, fun hf => hf3 ((e3 g).1 hf), h.gw, cs1 ++ (.string x.name :: (vs ++ [.int .i64 x.off])), ?_, ?_, ?_⟩
  · simp only [List.length_append, List.length_cons, List.length_nil]; omega
  · have hset : ∀ S : Nat → Prop, (∀ b, S b → b ≠ g) → Kept w3 (w3.setCells g (k * 5 + 1) vs) S := fun S hS => kept_of fun b hb => heap_setCells g vs _ _ b (hS b hb)
    have hup : ∀ b, K.Got a0 w3 b ∧ b ≠ g → K.Got a0 (w3.setCells g (k * 5 + 1) vs) b ∧ b ≠ g := fun b hb => ⟨hb.1.imp id fun h => ⟨h.1, h.2.1, by rw [size_setCells_w]; exact h.2.2.1, fun hf => h.2.2.2 ((e3 b).1 hf)⟩, hb.2⟩
    have i1 : Dat.Ins w3 False (fun b => K.Got a0 w3 b ∧ b ≠ g) (((xs.take k).map (Fo.mapT σ)).map Fo.dat) cs1 :=
      Dat.Ins.keep id (fun p hp => Bd.Got.kept hK h.st hm3 p hp.1) (fun b hb => ⟨Bd.Got.mv hK hm3 hb.1, hb.2⟩) _ _ hc2
    have hgs : ∀ b, K.Got W1.heap.size w3 b → K.Got a0 w3 b ∧ b ≠ g := fun b hb => ⟨Bd.Got.up hb (by have := h.gw; have := b1.size; omega), fun e => by
      rcases hb with hb | hb
      · have := (hK.res _ _ b h0 hb).1
        have := h.gw
        omega
      · have := hb.2.1
        have := b1.size
        omega⟩
    rw [Ex.take_at hx, List.map_append, List.map_append]
    refine Dat.Ins.snoc (d := (Fo.mapT σ x).dat) ?_ (Dat.Ins.keep id (hset _ fun b hb => hb.2) hup _ _ i1)
    exact foMk (f := Fo.mapT σ x) hn (Dat.In.keep id (hset _ fun b hb => hb.2) hup _ _ (hv.wide hgs))
  · have h6 : cs1 ++ us.drop (k * 5) = (cs1 ++ [.string x.name]) ++ ([.string x.ty.name, .slice A m a, .int .i64 x.ty.off] ++ (.int .i64 x.off :: us.drop (k * 5 + 5))) := by rw [hd]; simp
    rw [h6] at hH3
    have h7 := hH3.set (vs := vs) hvl (by simp only [List.length_append, List.length_cons, List.length_nil]; omega)
    rw [show (cs1 ++ [Value.string x.name]).length = k * 5 + 1 by simp only [List.length_append, List.length_cons, List.length_nil]; omega] at h7
    rw [show (k + 1) * 5 = k * 5 + 5 by omega]
    simpa using h7
/-- All are replaced. -/
theorem bd_end {K : Bd} {σ : Ty → Ty} {xs : List Fo} {us : List Value} {q i0 a0 g c : Nat} {w wr : World} (hI : BdIn K xs us q w) (hc : q ≤ c) (h : BdRel K σ xs us q i0 w a0 g q wr) : RowGot K a0 wr q 5 (.slice (some ⟨g, 0, none⟩) q c) ((xs.map (Fo.mapT σ)).map Fo.dat) := by
  obtain ⟨cs1, hc1, hc2, hc3⟩ := h.row
  have hn := hI.num
  rw [List.take_of_length_le (by omega)] at hc2
  rw [List.drop_eq_nil_of_le (by rw [hI.len]; omega), List.append_nil] at hc3
  exact .inr ⟨g, c, cs1, rfl, hc, hc3, hc2, by simp [hn], fo_sizes, h.gw.2, h.fp⟩
/-- What replacing the types of a row gives. -/
def BdPost (K : Bd) (σ : Ty → Ty) (xs : List Fo) (i0 : Nat) (w : World) (e : Ending) (w' : World) : Prop :=
  ∃ v, e = .returned v ∧ RowGot K w.heap.size w' xs.length 5 v ((xs.map (Fo.mapT σ)).map Fo.dat) ∧ K.Mv w w' ∧ K.St (i0 + xs.length) w'
/-- Another block is written. -/
theorem BdRel.set {K : Bd} (hK : K.Ok) {σ : Ty → Ty} {xs : List Fo} {us : List Value} {q i0 iw a0 g k b0 : Nat} {w wr : World} (h0 : K.St iw w) (h : BdRel K σ xs us q i0 w a0 g k wr) (hb : w.heap.size ≤ b0) (hb2 : b0 < a0) (hf : ¬ K.Fp wr b0) (o : Nat) (vs : List Value) :
    BdRel K σ xs us q i0 w a0 g k (wr.setCells b0 o vs) := by
  obtain ⟨e1, e2, e3⟩ := Bd.cells hK (g := b0) h.st h.mv hb (hK.lo _ _ h0).1 (hK.lo _ _ h0).2 hf o vs
  obtain ⟨cs1, hc1, hc2, hc3⟩ := h.row
  have hg := h.gw
  refine ⟨e1, e2, fun h2 => h.fp ((e3 g).1 h2), h.gw, cs1, hc1, Dat.Ins.keep id (fun p hp => kept_of (S := fun b => K.Got a0 wr b ∧ b ≠ g) (fun b hb3 => heap_setCells b0 vs _ _ b (fun e => ?_)) p hp) (fun b hb3 => ⟨hb3.1.imp id fun h => ⟨h.1, h.2.1, by rw [size_setCells_w]; exact h.2.2.1, fun hf => h.2.2.2 ((e3 b).1 hf)⟩, hb3.2⟩) _ _ hc2, hc3.kept (heap_setCells b0 vs _ _ g (by omega)) (by rw [size_setCells_w]; exact Nat.le_refl _)⟩
  rcases hb3.1 with h2 | h2
  · have := (hK.res _ _ b h0 h2).1
    omega
  · have := h2.2.1
    omega
theorem RowGot.set {K : Bd} (hK : K.Ok) {i iw q z a b0 : Nat} {w V : World} {v : Value} {ds : List Dat} (h0 : K.St iw w) (hs : K.St i V) (hm : K.Mv w V) (h : RowGot K a V q z v ds) (hb : w.heap.size ≤ b0) (hb2 : b0 < a) (hf : ¬ K.Fp V b0) (o : Nat) (vs : List Value) : RowGot K a (V.setCells b0 o vs) q z v ds := by
  obtain ⟨e1, e2, e3⟩ := Bd.cells hK (g := b0) hs hm hb (hK.lo _ _ h0).1 (hK.lo _ _ h0).2 hf o vs
  rcases h with h | ⟨g, c, cs, h1, hc, h2, h3, h4, h5, h6, h7⟩
  · exact .inl h
  · refine .inr ⟨g, c, cs, h1, hc, h2.kept (heap_setCells b0 vs _ _ g (by omega)) (by rw [size_setCells_w]; exact Nat.le_refl _), Dat.Ins.keep id (fun p hp => kept_of (S := fun b => K.Got a V b ∧ b ≠ g) (fun b hb3 => heap_setCells b0 vs _ _ b (fun e => ?_)) p hp) (fun b hb3 => ⟨hb3.1.imp id fun h => ⟨h.1, h.2.1, by rw [size_setCells_w]; exact h.2.2.1, fun hf => h.2.2.2 ((e3 b).1 hf)⟩, hb3.2⟩) _ _ h3, h4, h5, h6, fun h8 => h7 ((e3 g).1 h8)⟩
    rcases hb3.1 with h2 | h2
    · have := (hK.res _ _ b h0 h2).1
      omega
    · have := h2.2.1
      omega
theorem got_set {K : Bd} (hK : K.Ok) {i iw a b0 : Nat} {w V : World} {d : Dat} {us : List Value} (h0 : K.St iw w) (hs : K.St i V) (hm : K.Mv w V) (h : d.In V False (K.Got a V) us) (hb : w.heap.size ≤ b0) (hb2 : b0 < a) (hf : ¬ K.Fp V b0) (o : Nat) (vs : List Value) :
    d.In (V.setCells b0 o vs) False (K.Got a (V.setCells b0 o vs)) us := by
  obtain ⟨e1, e2, e3⟩ := Bd.cells hK (g := b0) hs hm hb (hK.lo _ _ h0).1 (hK.lo _ _ h0).2 hf o vs
  refine Dat.In.keep id (fun p hp => kept_of (S := K.Got a V) (fun b hb3 => heap_setCells b0 vs _ _ b (fun e => ?_)) p hp) (fun b hb3 => hb3.imp id fun h => ⟨h.1, h.2.1, by rw [size_setCells_w]; exact h.2.2.1, fun hf => h.2.2.2 ((e3 b).1 hf)⟩) _ _ h
  rcases hb3 with h2 | h2
  · have := (hK.res _ _ b h0 h2).1
    omega
  · have := h2.2.1
    omega
theorem RowGot.lt {K : Bd} {a q z g : Nat} {V : World} {v : Value} {ds : List Dat} (h : RowGot K a V q z v ds) (hg : v.ownBlock = some g) : g < V.heap.size := by
  rcases h with ⟨_, rfl, _⟩ | ⟨g', c, cs, rfl, hc, h2, _⟩
  · cases hg
  · have : g' = g := Option.some.inj hg
    rw [← this]; exact h2.lt
/-- Two boxed structs of z cells: a parameter that is written, and a result. -/
structure BxK (K : Bd) (w W : World) (z i : Nat) (us : List Value) : Prop where
  mv : K.Mv w W
  st : K.St i W
  big : w.heap.size + 2 ≤ W.heap.size
  f0 : ¬ K.Fp W w.heap.size
  f1 : ¬ K.Fp W (w.heap.size + 1)
  box : Held W w.heap.size z us
  res : W.there (w.heap.size + 1) 0 z
theorem BxK.new {K : Bd} (hK : K.Ok) {i : Nat} {w : World} (h0 : K.St i w) (us zs : Array Value) (T : TypeId) (hz : us.size = zs.size) : BxK K w ((w.alloc (.cells us T)).alloc (.cells zs T)) zs.size i us.toList := by
  have hM := Cl.new w us zs T
  obtain ⟨h1, h2⟩ := Bd.below hK h0 hM.bel
  refine ⟨h1, h2, hM.big, Bd.fresh hK h0 hM.bel (Nat.le_refl _), Bd.fresh hK h0 hM.bel (Nat.le_succ _), ⟨fun j hj => ?_, by have := hM.big; omega, fun j v hv => by rw [Nat.zero_add]; exact hM.box.box j v hv⟩, hM.res⟩
  rw [Nat.zero_add, hM.box.box j _ (List.getElem?_eq_getElem (by simpa [hz] using hj))]
  exact ⟨rfl, hM.box.free j (by simpa [hz] using hj)⟩
theorem BxK.later {K : Bd} {w W W' : World} {z i j : Nat} {us : List Value} (h : BxK K w W z i us) (hm : K.Mv W W') (hs : K.St j W') : BxK K w W' z j us := by
  have hb := h.big
  refine ⟨h.mv.trans hm, hs, Nat.le_trans h.big hm.size, hm.fp _ (by omega) h.f0, hm.fp _ (by omega) h.f1, h.box.kept (hm.kp _ (by omega) h.f0) hm.size, fun j hj => ?_⟩
  have e := kept_of (V := W) (V' := W') (S := (· = w.heap.size + 1)) (fun b hb2 => by subst hb2; exact hm.kp _ (by omega) h.f1) ⟨w.heap.size + 1, 0 + j, none⟩ rfl
  rw [e.1, e.2]
  exact h.res j hj
theorem BxK.set {K : Bd} (hK : K.Ok) {w W : World} {z i iw : Nat} {p us vs r : List Value} (h0 : K.St iw w) (h : BxK K w W z i (p ++ (us ++ r))) (hl : vs.length = us.length) (hz : p.length + us.length ≤ z) : BxK K w (W.setCells w.heap.size p.length vs) z i (p ++ (vs ++ r)) := by
  obtain ⟨e1, e2, e3⟩ := Bd.cells hK (g := w.heap.size) h.st h.mv (Nat.le_refl _) (hK.lo _ _ h0).1 (hK.lo _ _ h0).2 h.f0 p.length vs
  exact ⟨e1, e2, by rw [size_setCells_w]; exact h.big, fun hf => h.f0 ((e3 _).1 hf), fun hf => h.f1 ((e3 _).1 hf), h.box.set hl hz, World.there_setCells h.res _ _ _⟩
theorem BxK.boxd {K : Bd} {w W : World} {z i : Nat} {us : List Value} (h : BxK K w W z i us) : Boxd W w.heap.size us := fun j u hu => by
  have := h.box.at_ j u hu
  rwa [Nat.zero_add] at this
theorem BxK.there {K : Bd} {w W : World} {z i o n : Nat} {us : List Value} (h : BxK K w W z i us) (ho : o + n ≤ z) : W.there w.heap.size o n := fun j hj => by
  have := h.box.there (o + j) (by omega)
  rwa [Nat.zero_add] at this
end Go.Proofs.YtjhlehdjdaphcaaDoor
