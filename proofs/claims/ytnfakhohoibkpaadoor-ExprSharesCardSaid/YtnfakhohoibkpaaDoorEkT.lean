/- Expressions in memory whose names are changed in place: their shape, and the walk of the law's function change. No condition. -/
import Derived.Test.YtnfakhohoibkpaaDoorExI
namespace Go.Proofs.YtnfakhohoibkpaaDoor
open Go.RowKit

/-- A slice of n types in a block that may be written: each begins with a string. -/
def StrRow (w : World) (S : Nat → Prop) (A : Option Addr) (n : Nat) : Prop := ∀ j, j < n → ∃ g s, A = some ⟨g, 0, none⟩ ∧ S g ∧ w.frozen? ⟨g, j * 3, none⟩ = false ∧ w.cell? ⟨g, j * 3, none⟩ = some (.string s)
mutual
/-- The shape of an expression at the i-th place of a block that may be written; its names, whatever they are, have at most K bytes. -/
def ShpX (w : World) (S : Nat → Prop) (K : Nat) (A : Option Addr) (i : Nat) : Ex → Prop
  | .mk _ _ t ts xs _ => ∃ g s P pc B bc C cc, A = some ⟨g, 0, none⟩ ∧ S g ∧ w.frozen? ⟨g, i * 8 + 1, none⟩ = false ∧ w.cell? ⟨g, i * 8 + 1, none⟩ = some (.string s) ∧ s.size ≤ K
      ∧ w.cell? ⟨g, i * 8 + 3, none⟩ = some (.slice P t.args.length pc) ∧ StrRow w S P t.args.length ∧ w.cell? ⟨g, i * 8 + 5, none⟩ = some (.slice B ts.length bc) ∧ StrRow w S B ts.length ∧ w.cell? ⟨g, i * 8 + 6, none⟩ = some (.slice C xs.length cc) ∧ ShpXs w S K C 0 xs
def ShpXs (w : World) (S : Nat → Prop) (K : Nat) (A : Option Addr) (i : Nat) : List Ex → Prop
  | [] => True
  | x :: r => ShpX w S K A i x ∧ ShpXs w S K A (i + 1) r
end
theorem ShpXs.at {w : World} {S : Nat → Prop} {K : Nat} {A : Option Addr} : ∀ {xs : List Ex} {i k : Nat} {x : Ex}, ShpXs w S K A i xs → xs[k]? = some x → ShpX w S K A (i + k) x
  | y :: r, i, 0, x, h, hx => by
    obtain rfl : y = x := by simpa using hx
    rw [ShpXs] at h
    exact h.1
  | y :: r, i, k + 1, x, h, hx => by
    rw [ShpXs] at h
    have := ShpXs.at h.2 (k := k) (by simpa using hx)
    rwa [show i + (k + 1) = i + 1 + k by omega]
theorem ShpXs.of {w : World} {S : Nat → Prop} {K : Nat} {A : Option Addr} : ∀ {xs : List Ex} {i : Nat}, (∀ k x, xs[k]? = some x → ShpX w S K A (i + k) x) → ShpXs w S K A i xs
  | [], _, _ => by rw [ShpXs]; trivial
  | y :: r, i, h => by
    rw [ShpXs]
    exact ⟨h 0 y rfl, ShpXs.of fun k x hx => by
      have := h (k + 1) x (by simpa using hx)
      rwa [show i + (k + 1) = i + 1 + k by omega] at this⟩
theorem strRow_of {w : World} {S S' : Nat → Prop} {A : Option Addr} {n : Nat} {ts : List Ty} (h : LiesN w True S A n ts) (hS : ∀ b, S b → S' b) : StrRow w S' A ts.length := fun j hj => by
  obtain ⟨a, us, rfl, h1, h2, h3, h4⟩ := (lies_row.1 h).at (Ty.dats_at (List.getElem?_eq_getElem hj))
  obtain ⟨g, off, sp⟩ := a
  obtain ⟨e1, e2, e3⟩ := h2 trivial
  simp only at e1 e2
  subst e1 e2
  obtain ⟨B, m, c, rfl, _⟩ := ty_open h3
  have h5 := h4 0 _ rfl
  rw [add_add, add_zero_addr] at h5
  exact ⟨g, _, rfl, hS _ h1, e3 _, h5⟩
theorem Ex.listL_mem : ∀ {xs : List Ex} {x y : Ex}, x ∈ xs → y ∈ x.list → y ∈ Ex.listL xs
  | a :: q, x, y, h, hy => by
    rw [Ex.listL]
    rcases List.mem_cons.1 h with rfl | h
    · exact List.mem_append_left _ hy
    · exact List.mem_append_right _ (Ex.listL_mem h hy)
/-- What lies in blocks that may be written has this shape. -/
theorem shpX_of {w : World} {S S' : Nat → Prop} {K : Nat} (hS : ∀ b, S b → S' b) : ∀ (e : Ex) (g i : Nat) (us : List Value), e.dat.In w True S us → (∀ j u, us[j]? = some u → w.cell? ⟨g, i * 8 + j, none⟩ = some u) → S' g → (∀ k, w.frozen? ⟨g, k, none⟩ = false) → (∀ x ∈ e.list, x.name.size ≤ K) → ShpX w S' K (some ⟨g, 0, none⟩) i e := by
  refine Ex.ind fun k s t ts xs o ih g i us h hc hg hf hK => ?_
  obtain ⟨A, m, a, B, l, b, C, n, c, rfl, hs, ht, ha, hb, hx⟩ := ex_open h
  have hK1 : s.size ≤ K := hK (.mk k s t ts xs o) (by rw [Ex.list]; simp)
  simp only [Ex.kind, Ex.name, Ex.ty, Ex.targs, Ex.kids, Ex.off] at hs ht ha hb hx hc ⊢
  have hxl := hx.len
  rw [Ex.dats_len] at hxl
  have h3 := hc 3 _ rfl
  have h5 := hc 5 _ rfl
  have h6 := hc 6 _ rfl
  rw [← ha.len] at h3
  rw [← hb.len] at h5
  rw [← hxl] at h6
  rw [Ex.list] at hK
  rw [ShpX]
  refine ⟨g, s, A, a, B, b, C, c, rfl, hg, hf _, hc 1 _ rfl, hK1, h3, strRow_of ha hS, h5, strRow_of hb hS, h6, ShpXs.of fun k x hk => ?_⟩
  obtain ⟨p, y, ys, rfl, hy, hp, hN, hd, hcs⟩ := kid_at hx (show k < n by have := (List.getElem?_eq_some_iff.1 hk).1; omega)
  obtain rfl : y = x := Option.some.inj (hy.symm.trans hk)
  obtain ⟨g2, off, sp⟩ := p
  obtain ⟨e1, e2, e3⟩ := hN trivial
  simp only at e1 e2
  subst e1 e2
  rw [Nat.zero_add]
  refine ih y (List.mem_of_getElem? hk) g2 k ys hd (fun j u hu => ?_) (hS _ hp) e3 (fun x hx => hK x (List.mem_cons_of_mem _ (Ex.listL_mem (List.mem_of_getElem? hk) hx)))
  have := hcs j u hu
  rwa [add_add, add_zero_addr] at this

/-- What changing names in these blocks leaves: strings are strings, all else is as it was. -/
structure ChgX (S : Nat → Prop) (k : Nat) (w w' : World) : Prop where
  os : w'.os = w.os
  tape : w'.tape = w.tape
  output : w'.output = w.output
  size : w'.heap.size = w.heap.size
  block : ∀ b, ¬ S b → w'.heap[b]? = w.heap[b]?
  frozen : ∀ p, w'.frozen? p = w.frozen? p
  str : ∀ p s, w.cell? p = some (.string s) → ∃ s', w'.cell? p = some (.string s') ∧ s'.size ≤ max s.size 7 + k
  oth : ∀ p A n c, w.cell? p = some (.slice A n c) → w'.cell? p = some (.slice A n c)
theorem ChgX.refl (S : Nat → Prop) (w : World) : ChgX S 0 w w := ⟨rfl, rfl, rfl, rfl, fun _ _ => rfl, fun _ => rfl, fun _ s h => ⟨s, h, by omega⟩, fun _ _ _ _ h => h⟩
theorem ChgX.trans {S : Nat → Prop} {k l : Nat} {a b c : World} (h : ChgX S k a b) (h2 : ChgX S l b c) : ChgX S (k + l) a c where
  os := h2.os.trans h.os
  tape := h2.tape.trans h.tape
  output := h2.output.trans h.output
  size := h2.size.trans h.size
  block x hx := (h2.block x hx).trans (h.block x hx)
  frozen p := (h2.frozen p).trans (h.frozen p)
  str p s hs := by
    obtain ⟨s1, h3, h4⟩ := h.str p s hs
    obtain ⟨s2, h5, h6⟩ := h2.str p s1 h3
    exact ⟨s2, h5, by omega⟩
  oth p A n c hv := h2.oth p A n c (h.oth p A n c hv)
theorem ChgX.one {S : Nat → Prop} {w : World} {p : Addr} {s s' : ByteArray} {k : Nat} (hg : S p.block) (hs : w.cell? p = some (.string s)) (hz : s'.size ≤ max s.size 7 + k) : ChgX S k w (w.setCell p (.string s')) where
  os := by simp [World.setCell]
  tape := by simp [World.setCell]
  output := by simp [World.setCell]
  size := by simp [World.setCell]
  block b hb := Below.heap_setCell _ _ _ _ (by rintro rfl; exact hb hg)
  frozen p := World.frozen?_setCell _ _ _ _
  str p2 s2 hs2 := by
    by_cases he : p = p2
    · subst he
      rw [hs] at hs2
      obtain rfl : s = s2 := by simpa using hs2
      exact ⟨s', World.cell?_setCell_same _ _ _ hs, hz⟩
    · exact ⟨s2, (World.cell?_setCell_other _ _ _ _ he).trans hs2, by omega⟩
  oth p2 A n c hv := by
    by_cases he : p = p2
    · subst he
      rw [hs] at hv
      cases hv
    · exact (World.cell?_setCell_other _ _ _ _ he).trans hv
theorem StrRow.chg {S : Nat → Prop} {k n : Nat} {w w' : World} {A : Option Addr} (h : StrRow w S A n) (hc : ChgX S k w w') : StrRow w' S A n := fun j hj => by
  obtain ⟨g, s, e, hg, hf, h1⟩ := h j hj
  obtain ⟨s1, h2, _⟩ := hc.str _ s h1
  exact ⟨g, s1, e, hg, (hc.frozen _).trans hf, h2⟩
theorem ChgX.shape {S : Nat → Prop} {k K : Nat} (hK : 7 ≤ K) {w w' : World} (h : ChgX S k w w') : ∀ (e : Ex) (A : Option Addr) (i : Nat), ShpX w S K A i e → ShpX w' S (K + k) A i e := by
  refine Ex.ind fun k2 s2 t ts xs o ih A i hs => ?_
  rw [ShpX] at hs ⊢
  obtain ⟨g, s, P, pc, B, bc, C, cc, e, hg, hf, c0, hz, c1, r1, c2, r2, c3, hx⟩ := hs
  obtain ⟨s1, h1, h2⟩ := h.str _ s c0
  exact ⟨g, s1, P, pc, B, bc, C, cc, e, hg, (h.frozen _).trans hf, h1, by omega, h.oth _ _ _ _ c1, r1.chg h, h.oth _ _ _ _ c2, r2.chg h, h.oth _ _ _ _ c3, ShpXs.of fun k x hk => ih x (List.mem_of_getElem? hk) C _ (hx.at hk)⟩
theorem ShpX.keep {S : Nat → Prop} {K : Nat} {w w' : World} (h : Kept w w' S) (e : Ex) (A : Option Addr) (i : Nat) (hs : ShpX w S K A i e) : ShpX w' S K A i e := by
  revert A i hs
  revert e
  have hr : ∀ {A : Option Addr} {n : Nat}, StrRow w S A n → StrRow w' S A n := fun h2 j hj => by
    obtain ⟨g, s, e, hg, hf, h1⟩ := h2 j hj
    exact ⟨g, s, e, hg, (h ⟨g, j * 3, none⟩ hg).2.trans hf, (h ⟨g, j * 3, none⟩ hg).1.trans h1⟩
  refine Ex.ind fun k2 s2 t ts xs o ih A i hs => ?_
  rw [ShpX] at hs ⊢
  obtain ⟨g, s, P, pc, B, bc, C, cc, e, hg, hf, c0, hz, c1, r1, c2, r2, c3, hx⟩ := hs
  exact ⟨g, s, P, pc, B, bc, C, cc, e, hg, (h ⟨g, _, none⟩ hg).2.trans hf, (h ⟨g, _, none⟩ hg).1.trans c0, hz, (h ⟨g, _, none⟩ hg).1.trans c1, hr r1, (h ⟨g, _, none⟩ hg).1.trans c2, hr r2, (h ⟨g, _, none⟩ hg).1.trans c3, ShpXs.of fun k x hk => ih x (List.mem_of_getElem? hk) C _ (hx.at hk)⟩
theorem ChgX.kept {S T : Nat → Prop} {k : Nat} {w w' : World} (h : ChgX S k w w') (hT : ∀ b, T b → ¬ S b) : Kept w w' T := fun p hp => ⟨World.cell?_of_block (h.block _ (hT _ hp)), h.frozen p⟩
theorem ChgX.below {S : Nat → Prop} {k n : Nat} {w w' : World} (h : ChgX S k w w') (hS : ∀ b, S b → n ≤ b) : Below n w w' :=
  ⟨h.os, h.tape, h.output, by rw [h.size]; exact Nat.le_refl _, fun b hb => h.block b (fun hs => by have := hS b hs; omega)⟩

theorem size_xx (s : ByteArray) : (s ++ ⟨#[120]⟩ : ByteArray).size ≤ max s.size 7 + 1 := by
  rw [Lib.size_eq, Go.Joins.data_append, List.length_append, ← Lib.size_eq]
  simp
  omega
def ChgXPost (S : Nat → Prop) (k : Nat) (w : World) (e : Ending) (w' : World) : Prop := e = .returned (.tuple #[]) ∧ ChgX S k w w'

set_option maxRecDepth 100000 in
set_option maxHeartbeats 8000000 in
theorem changeX_any (S : Nat → Prop) : ∀ (e : Ex) (K g i : Nat) (w : World), e.wt ≤ 100000 → ShpX w S K (some ⟨g, 0, none⟩) i e → 7 ≤ K → K + e.list.length ≤ 1000000 →
    Calls Tryd.prog 29 #[.pointer (some ⟨g, i * 8, none⟩)] w (ChgXPost S e.list.length w) := by
  refine Ex.ind fun k0 s0 t ts xs o ih K g i w hwt h h7 hK => ?_
  rw [ShpX] at h
  obtain ⟨g', s, P, pc, B, bc, C, cc, e, hg, hf, c0, hz, c1, r1, c2, r2, c3, hsh⟩ := h
  obtain rfl : g = g' := by injection e with e; injection e
  have hl : Ex.list (.mk k0 s0 t ts xs o) = .mk k0 s0 t ts xs o :: Ex.listL xs := by rw [Ex.list]
  rw [hl, List.length_cons] at hK ⊢
  have HC := Lib.hid (ChgX.one (k := 1) (s' := s ++ ⟨#[120]⟩) hg c0 (size_xx s))
  have HS1 := Lib.hid (HC.out.oth _ _ _ _ c1)
  have HS2 := Lib.hid (HC.out.oth _ _ _ _ c2)
  have HS3 := Lib.hid (HC.out.oth _ _ _ _ c3)
  have HR1 := Lib.hid (r1.chg HC.out)
  have HR2 := Lib.hid (r2.chg HC.out)
  have HSH := Lib.hid (fun k x (hk : xs[k]? = some x) => HC.out.shape h7 x C _ (hsh.at hk))
  have IH := Lib.hid ih
  have HWX := Lib.hid (show ∀ x ∈ xs, Ex.wt x ≤ 100000 from fun x hx => Nat.le_trans (Ex.wt_kid (e := .mk k0 s0 t ts xs o) hx) hwt)
  have zs : (s.size : Int) ≤ 1000000 := by omega
  have hzl : xs.length ≤ 100000 ∧ ts.length ≤ 100000 ∧ t.args.length ≤ 100000 := by
    have h1 := Ex.wtL_len xs
    have h2 := Ty.wtL_len ts
    have h3 : t.args.length ≤ Ty.wt t := by cases t with | mk u ys q => have := Ty.wtL_len ys; simp only [Ty.args, Ty.wt]; omega
    simp only [Ex.wt] at hwt
    omega
  have z1 : (xs.length : Int) ≤ 100000 := by omega
  have z2 : (ts.length : Int) ≤ 100000 := by omega
  have z3 : (t.args.length : Int) ≤ 100000 := by omega
  have HG := Lib.hid hg
  have HK := Lib.hid hK
  have H7 := Lib.hid h7
  clear ih hsh hg hl e hK hwt hzl r1 r2 c1 c2 c3 h7
  go_enter Tryd.func29, Tryd.ntmps29
  go_wp2_with fail
  generalize hW : w.setCell ⟨g, i * 8 + 1, none⟩ (.string (s ++ ⟨#[120]⟩)) = W at *
  clear hW c0 hf
  go_loopw [2] (fun v wr => ∃ k : Nat, k ≤ ts.length ∧ v = .int .i64 k ∧ ChgX S 0 W wr) (fun v _ => ts.length - (intOf v).toNat)
  case atStart => exact ⟨0, Nat.zero_le _, rfl, ChgX.refl S W⟩
  case round =>
    obtain ⟨k, hk, rfl, hch⟩ := hrel
    have HCH := Lib.hid hch
    have y3 := hch.oth _ _ _ _ HS2.out
    by_cases hlt : k < ts.length
    · have y0 : (k : Int) < ts.length := by omega
      have y1 : (0 : Int) ≤ k := by omega
      obtain ⟨gb, s1, rfl, hgb, hfb, hcb⟩ := (HR2.out.chg hch) k hlt
      have HO := Lib.hid (ChgX.one (k := 0) (s' := ⟨#[99, 104, 97, 110, 103, 101, 100]⟩) hgb hcb (by show 7 ≤ _; omega))
      clear hch hgb
      go_wp2_with fail
      go_roundw
      case rel => exact ⟨k + 1, by omega, by go_num, HCH.out.trans HO.out⟩
      case measure => simp [intOf]; omega
    · have y0 : (ts.length : Int) ≤ k := by omega
      clear hch
      go_wp2_with fail
      clear y3 hk hlt y0
      obtain ⟨W1, hW1⟩ : ∃ W1, W1 = wr := ⟨_, rfl⟩
      subst hW1
      go_loopw [3] (fun v wr => ∃ k : Nat, k ≤ t.args.length ∧ v = .int .i64 k ∧ ChgX S 0 W wr) (fun v _ => t.args.length - (intOf v).toNat)
      case atStart => exact ⟨0, Nat.zero_le _, rfl, HCH.out⟩
      case round =>
        obtain ⟨k, hk, rfl, hch⟩ := hrel
        have HCH := Lib.hid hch
        have y3 := hch.oth _ _ _ _ HS1.out
        by_cases hlt : k < t.args.length
        · have y0 : (k : Int) < t.args.length := by omega
          have y1 : (0 : Int) ≤ k := by omega
          obtain ⟨gb, s1, rfl, hgb, hfb, hcb⟩ := (HR1.out.chg hch) k hlt
          have HO := Lib.hid (ChgX.one (k := 0) (s' := ⟨#[99, 104, 97, 110, 103, 101, 100]⟩) hgb hcb (by show 7 ≤ _; omega))
          clear hch hgb
          go_wp2_with fail
          go_roundw
          case rel => exact ⟨k + 1, by omega, by go_num, HCH.out.trans HO.out⟩
          case measure => simp [intOf]; omega
        · have y0 : (t.args.length : Int) ≤ k := by omega
          clear hch
          go_wp2_with fail
          obtain ⟨W2, hW2⟩ : ∃ W2, W2 = wr := ⟨_, rfl⟩
          subst hW2
          clear y0 y3 hk hlt
          go_loopw [4] (fun v wr => ∃ k : Nat, k ≤ xs.length ∧ v = .int .i64 k ∧ ChgX S ((Ex.listL (xs.take k)).length) W wr) (fun v _ => xs.length - (intOf v).toNat)
          case atStart =>
            refine ⟨0, Nat.zero_le _, rfl, ?_⟩
            rw [List.take_zero, Ex.listL]
            exact HCH.out
          case round =>
            obtain ⟨k, hk, rfl, hch⟩ := hrel
            have HCH := Lib.hid hch
            have y3 := hch.oth _ _ _ _ HS3.out
            by_cases hlt : k < xs.length
            · have y0 : (k : Int) < xs.length := by omega
              have y1 : (0 : Int) ≤ k := by omega
              obtain ⟨x, hx⟩ : ∃ x, xs[k]? = some x := ⟨_, List.getElem?_eq_getElem hlt⟩
              have hst := Ex.listL_step hx
              have hle := Ex.listL_take xs (k + 1)
              rw [hst, List.length_append] at hle
              have hshw := hch.shape (by have := H7.out; omega) x C _ (HSH.out k x hx)
              rw [Nat.zero_add] at hshw
              obtain ⟨gb, rfl⟩ : ∃ gb, C = some ⟨gb, 0, none⟩ := by
                cases x with
                | mk a1 a2 a3 a4 a5 a6 =>
                  rw [ShpX] at hshw
                  obtain ⟨g2, _, _, _, _, _, _, _, e2, _⟩ := hshw
                  exact ⟨g2, e2⟩
              have C1 := Lib.hid (IH.out x (List.mem_of_getElem? hx) _ gb k wr (HWX.out x (List.mem_of_getElem? hx)) hshw (by have := H7.out; omega) (by have := HK.out; omega))
              have HST := Lib.hid hst
              clear hch hshw hst hle hx
              go_wp2_with fail
              refine C1.out.mono ?_
              rintro e w1 ⟨rfl, hc2⟩
              have HC2 := Lib.hid hc2
              clear hc2
              go_wp2_with fail
              go_roundw
              case rel => exact ⟨k + 1, by omega, by go_num, by rw [HST.out, List.length_append]; exact HCH.out.trans HC2.out⟩
              case measure => simp [intOf]; omega
            · have y0 : (xs.length : Int) ≤ k := by omega
              have ht := List.take_of_length_le (show xs.length ≤ k by omega)
              rw [ht] at hch
              have HCH2 := Lib.hid hch
              clear hch ht HCH
              go_wp2_with fail
              refine bodyPost_ret (v := .tuple #[]) (by simp [results, Tryd.results29, go_sem]) rfl ?_
              refine ⟨rfl, ?_⟩
              have := HC.out.trans HCH2.out
              rwa [Nat.add_comm] at this
end Go.Proofs.YtnfakhohoibkpaaDoor
