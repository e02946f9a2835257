/- Types in memory whose names are changed in place: their shape, and the walk of the law's function change. -/
import Derived.Test.YtioamnaknjhbpaaDoorTyS
namespace Go.Proofs.YtioamnaknjhbpaaDoor
open Go.RowKit

mutual
/-- The shape of a type at the i-th place of a block that may be written; its names, whatever they are, have at most K bytes. -/
def ShpC (w : World) (S : Nat → Prop) (K : Nat) (A : Option Addr) (i : Nat) : Ty → Prop
  | .mk _ xs _ => ∃ g B c s, A = some ⟨g, 0, none⟩ ∧ S g ∧ (∀ k, w.frozen? ⟨g, k, none⟩ = false) ∧ w.cell? ⟨g, i * 3, none⟩ = some (.string s) ∧ s.size ≤ K
      ∧ w.cell? ⟨g, i * 3 + 1, none⟩ = some (.slice B xs.length c) ∧ ShpL w S K B 0 xs
def ShpL (w : World) (S : Nat → Prop) (K : Nat) (A : Option Addr) (i : Nat) : List Ty → Prop
  | [] => True
  | t :: r => ShpC w S K A i t ∧ ShpL w S K A (i + 1) r
end
theorem ShpL.at {w : World} {S : Nat → Prop} {K : Nat} {A : Option Addr} : ∀ {xs : List Ty} {i k : Nat} {t : Ty}, ShpL w S K A i xs → xs[k]? = some t → ShpC w S K A (i + k) t
  | x :: r, i, 0, t, h, ht => by
    obtain rfl : x = t := by simpa using ht
    rw [ShpL] at h
    exact h.1
  | x :: r, i, k + 1, t, h, ht => by
    rw [ShpL] at h
    have := ShpL.at h.2 (k := k) (by simpa using ht)
    rwa [show i + (k + 1) = i + 1 + k by omega]

theorem add_at (g k : Nat) : (⟨g, 0, none⟩ : Addr).add k = ⟨g, k, none⟩ := by unfold Addr.add; split <;> simp_all

theorem shp_of_args {w : World} {S S' : Nat → Prop} {K : Nat} (hS : ∀ b, S b → S' b) : ∀ (xs : List Ty) (A : Option Addr) (i : Nat), ArgsIn w True S A i xs → (∀ s ∈ Ty.listL xs, s.size ≤ K) → ShpL w S' K A i xs := by
  refine Ty.indL (fun A i _ _ => by rw [ShpL]; trivial) fun s ys o r ih1 ih2 A i h hk => ?_
  rw [ArgsIn, TyCells] at h
  rw [ShpL, ShpC]
  obtain ⟨⟨a, B, c, e, hl, hn, c0, c1, c2, b1, b2, ha⟩, hr⟩ := h
  obtain ⟨h1, h2, h3⟩ := hn trivial
  obtain ⟨g, off, sp⟩ := a
  simp only at h1 h2
  subst h1 h2
  rw [add_at] at c0 c1
  simp only [Ty.listL, Ty.list, List.cons_append, List.mem_cons, List.mem_append] at hk
  exact ⟨⟨g, B, c, s, e, hS _ hl, h3, c0, hk s (.inl rfl), c1, ih1 B 0 ha (fun u hu => hk u (.inr (.inl hu)))⟩, ih2 A (i + 1) hr (fun u hu => hk u (.inr (.inr hu)))⟩

/-- What changing names in these blocks leaves. -/
structure Chg (S : Nat → Prop) (k : Nat) (w w' : World) : Prop where
  os : w'.os = w.os
  tape : w'.tape = w.tape
  output : w'.output = w.output
  size : w'.heap.size = w.heap.size
  block : ∀ b, ¬ S b → w'.heap[b]? = w.heap[b]?
  frozen : ∀ p, w'.frozen? p = w.frozen? p
  names : ∀ g i s, S g → w.cell? ⟨g, i * 3, none⟩ = some (.string s) → ∃ s', w'.cell? ⟨g, i * 3, none⟩ = some (.string s') ∧ s'.size ≤ s.size + k
  rest : ∀ g i, S g → w'.cell? ⟨g, i * 3 + 1, none⟩ = w.cell? ⟨g, i * 3 + 1, none⟩
theorem Chg.trans {S : Nat → Prop} {k l : Nat} {a b c : World} (h : Chg S k a b) (h2 : Chg S l b c) : Chg S (k + l) a c where
  os := h2.os.trans h.os
  tape := h2.tape.trans h.tape
  output := h2.output.trans h.output
  size := h2.size.trans h.size
  block x hx := (h2.block x hx).trans (h.block x hx)
  frozen p := (h2.frozen p).trans (h.frozen p)
  names g i s hg hs := by
    obtain ⟨s1, h3, h4⟩ := h.names g i s hg hs
    obtain ⟨s2, h5, h6⟩ := h2.names g i s1 hg h3
    exact ⟨s2, h5, by omega⟩
  rest g i hg := (h2.rest g i hg).trans (h.rest g i hg)
theorem Chg.one {S : Nat → Prop} {w : World} {g i : Nat} {s s' : ByteArray} (hg : S g) (hs : w.cell? ⟨g, i * 3, none⟩ = some (.string s)) (hz : s'.size ≤ s.size + 1) : Chg S 1 w (w.setCell ⟨g, i * 3, none⟩ (.string s')) where
  os := by simp [World.setCell]
  tape := by simp [World.setCell]
  output := by simp [World.setCell]
  size := by simp [World.setCell]
  block b hb := Below.heap_setCell _ _ _ _ (by rintro rfl; exact hb hg)
  frozen p := World.frozen?_setCell _ _ _ _
  names g2 i2 s2 _ hs2 := by
    by_cases he : (⟨g, i * 3, none⟩ : Addr) = ⟨g2, i2 * 3, none⟩
    · rw [← he] at hs2 ⊢
      rw [hs] at hs2
      obtain rfl : s = s2 := by simpa using hs2
      exact ⟨s', World.cell?_setCell_same _ _ _ hs, hz⟩
    · exact ⟨s2, (World.cell?_setCell_other _ _ _ _ he).trans hs2, by omega⟩
  rest g2 i2 _ := World.cell?_setCell_other _ _ _ _ (by intro h; injection h with _ h2 _; omega)
theorem Chg.shape {S : Nat → Prop} {k K : Nat} {w w' : World} (h : Chg S k w w') : ∀ (xs : List Ty) (A : Option Addr) (i : Nat), ShpL w S K A i xs → ShpL w' S (K + k) A i xs := by
  refine Ty.indL (fun A i _ => by rw [ShpL]; trivial) fun s ys o r ih1 ih2 A i hs => ?_
  rw [ShpL, ShpC] at hs ⊢
  obtain ⟨⟨g, B, c, s0, e, hg, hf, c0, hz, c1, ha⟩, hr⟩ := hs
  obtain ⟨s1, h1, h2⟩ := h.names g i s0 hg c0
  exact ⟨⟨g, B, c, s1, e, hg, fun k => (h.frozen _).trans (hf k), h1, by omega, (h.rest g i hg).trans c1, ih1 B 0 ha⟩, ih2 A (i + 1) hr⟩
theorem Chg.shapeC {S : Nat → Prop} {k K : Nat} {w w' : World} (h : Chg S k w w') (t : Ty) (A : Option Addr) (i : Nat) (hs : ShpC w S K A i t) : ShpC w' S (K + k) A i t := by
  have := h.shape [t] A i (by rw [ShpL, ShpL]; exact ⟨hs, trivial⟩)
  rw [ShpL] at this
  exact this.1
theorem Chg.same {S T : Nat → Prop} {k : Nat} {w w' : World} (h : Chg S k w w') (hT : ∀ b, T b → ¬ S b) : Same w w' T := fun p hp => ⟨World.cell?_of_block (h.block _ (hT _ hp)), h.frozen p⟩
theorem Chg.below {S : Nat → Prop} {k n : Nat} {w w' : World} (h : Chg S k w w') (hS : ∀ b, S b → n ≤ b) : Below n w w' :=
  ⟨h.os, h.tape, h.output, by rw [h.size]; exact Nat.le_refl _, fun b hb => h.block b (fun hs => by have := hS b hs; omega)⟩

theorem size_x (s : ByteArray) : (s ++ ⟨#[120]⟩ : ByteArray).size ≤ s.size + 1 := by
  rw [Lib.size_eq, Go.Joins.data_append, List.length_append, ← Lib.size_eq]
  simp

def ChgPost (S : Nat → Prop) (k : Nat) (w : World) (e : Ending) (w' : World) : Prop := e = .returned (.tuple #[]) ∧ Chg S k w w'

set_option maxHeartbeats 2000000 in
theorem change_any (S : Nat → Prop) : ∀ (t : Ty) (K g i : Nat) (w : World), ShpC w S K (some ⟨g, 0, none⟩) i t → K + t.list.length ≤ 1000000 →
    Calls Tryd.prog 30 #[.pointer (some ⟨g, i * 3, none⟩)] w (ChgPost S t.list.length w) := by
  refine Ty.ind fun s0 xs o ih K g i w h hK => ?_
  rw [ShpC] at h
  obtain ⟨g', B, c, s, e, hg, hf, c0, hz, c1, hsh⟩ := h
  obtain rfl : g = g' := by injection e with e; injection e
  have hl : Ty.list (.mk s0 xs o) = s0 :: Ty.listL xs := by rw [Ty.list]
  rw [hl, List.length_cons] at hK ⊢
  have HC := Lib.hid (Chg.one (s' := s ++ ⟨#[120]⟩) hg c0 (size_x s))
  have h0 := World.cell?_setCell_other w ⟨g, i * 3, none⟩ ⟨g, i * 3 + 1, none⟩ (.string (s ++ ⟨#[120]⟩)) (by intro h; injection h with _ h2 _; omega)
  have HS := Lib.hid (h0.trans c1)
  have HSH := Lib.hid hsh
  have IH := Lib.hid ih
  have hxl := Ty.wtL_len xs
  have hxl2 := listL_len xs
  have hf0 := hf (i * 3)
  have zs : (s.size : Int) ≤ 1000000 := by omega
  have zx : (xs.length : Int) ≤ 1000000 := by omega
  have HG := Lib.hid hg
  have HK := Lib.hid hK
  clear ih hsh h0 hf hg hl e hxl hK
  go_enter Tryd.func30, Tryd.ntmps30
  go_wp2_with fail
  generalize hW : w.setCell ⟨g, i * 3, none⟩ (.string (s ++ ⟨#[120]⟩)) = W at *
  clear hW
  go_loopw [2] (fun v wr => ∃ k : Nat, k ≤ xs.length ∧ v = .int .i64 k ∧ Chg S ((Ty.listL (xs.take k)).length) W wr) (fun v _ => xs.length - (intOf v).toNat)
  case atStart =>
    refine ⟨0, by omega, rfl, ?_⟩
    rw [List.take_zero]
    simp only [Ty.listL, List.length_nil]
    exact ⟨rfl, rfl, rfl, rfl, fun _ _ => rfl, fun _ => rfl, fun g i s _ hs => ⟨s, hs, by omega⟩, fun _ _ _ => rfl⟩
  case round =>
    obtain ⟨k, hk, rfl, hch⟩ := hrel
    have c1 := (hch.rest g i HG.out).trans HS.out
    have HCH := Lib.hid hch
    by_cases hlt : k < xs.length
    · have y0 : (k : Int) < xs.length := by omega
      have y1 : (0 : Int) ≤ k := by omega
      have hshw := ((HC.out.trans hch).shape xs B 0 HSH.out).at (List.getElem?_eq_getElem hlt)
      rw [Nat.zero_add] at hshw
      have hst := listL_step (List.getElem?_eq_getElem hlt)
      have hle := listL_take xs (k + 1)
      rw [hst, List.length_append] at hle
      obtain ⟨gb, rfl⟩ : ∃ gb, B = some ⟨gb, 0, none⟩ := by
        cases hx : xs[k] with
        | mk a b d =>
          rw [hx, ShpC] at hshw
          obtain ⟨g2, _, _, _, e2, _⟩ := hshw
          exact ⟨g2, e2⟩
      have C := Lib.hid (IH.out xs[k] (List.getElem_mem hlt) _ gb k wr hshw (by have := HK.out; omega))
      have HST := Lib.hid hst
      clear hch hshw hst hle
      generalize xs[k] = x at *
      go_wp2_with fail
      refine C.out.mono ?_
      rintro e w1 ⟨rfl, hc2⟩
      have HC2 := Lib.hid hc2
      clear hc2
      go_wp2_with fail
      go_roundw
      case rel => exact ⟨k + 1, by omega, by go_num, by rw [HST.out, List.length_append]; exact HCH.out.trans HC2.out⟩
      case measure => simp [intOf]; omega
    · have y0 : (xs.length : Int) ≤ k := by omega
      have ht := List.take_of_length_le (show xs.length ≤ k by omega)
      rw [ht] at hch
      have HCH2 := Lib.hid hch
      clear hch ht HCH
      go_wp2_with fail
      refine bodyPost_ret (v := .tuple #[]) (by simp [results, Tryd.results30, go_sem]) rfl ?_
      refine ⟨rfl, ?_⟩
      have := HC.out.trans HCH2.out
      rwa [Nat.add_comm] at this
end Go.Proofs.YtioamnaknjhbpaaDoor
