/- Slices of tokens: what one is in memory; the walks of plain, and of the reference's Same, Alike and Join. -/
import Derived.Test.YtfbahblhcmgbiaaDoorLxA
import Derived.OwnWalk
import Derived.Laws.AppendOwn
import Derived.Laws.OwnMore
import Derived.Laws.NewBlocks
import Derived.Outline
import Derived.Deep.AppendLies
import Derived.Laws.Rows
namespace Go.Proofs.YtfbahblhcmgbiaaDoor
open Go.RowKit

/-- A token in memory. -/
structure Tk where
  k : Int
  s : ByteArray
  o : Int

/-- A slice of tokens, of whatever package, that reads as this list. -/
structure TS (w : World) (A : Option Addr) (n : Nat) (ts : List Tk) : Prop where
  len : ts.length = n
  at_ : ∀ j t, ts[j]? = some t → ∃ a, A = some a ∧ a.block < w.heap.size ∧ w.cell? (a.add (j * 3)) = some (.int .i64 t.k) ∧ w.cell? ⟨(a.add (j * 3)).block, (a.add (j * 3)).off + 1, none⟩ = some (.string t.s) ∧ w.cell? ⟨(a.add (j * 3)).block, (a.add (j * 3)).off + 2, none⟩ = some (.int .i64 t.o)
theorem block_of_add (a : Addr) (n : Nat) : (a.add n).block = a.block := by unfold Addr.add; split <;> rfl
theorem TS.later {w w' : World} {A : Option Addr} {n : Nat} {ts : List Tk} (h : TS w A n ts) (hb : Below w.heap.size w w') : TS w' A n ts :=
  ⟨h.len, fun j t hj => by
    obtain ⟨a, e, h1, h2, h3, h4⟩ := h.at_ j t hj
    exact ⟨a, e, Nat.lt_of_lt_of_le h1 hb.size, (hb.cell (by rw [block_of_add]; exact h1)).trans h2, (hb.cell (by show (a.add (j * 3)).block < _; rw [block_of_add]; exact h1)).trans h3, (hb.cell (by show (a.add (j * 3)).block < _; rw [block_of_add]; exact h1)).trans h4⟩⟩
theorem TS.get {w : World} {A : Option Addr} {n : Nat} {ts : List Tk} (h : TS w A n ts) {k : Nat} (hk : k < n) :
    ∃ a t, A = some a ∧ ts[k]? = some t ∧ w.cell? (a.add (k * 3)) = some (.int .i64 t.k) ∧ w.cell? ⟨(a.add (k * 3)).block, (a.add (k * 3)).off + 1, none⟩ = some (.string t.s) ∧ w.cell? ⟨(a.add (k * 3)).block, (a.add (k * 3)).off + 2, none⟩ = some (.int .i64 t.o) := by
  have hl : k < ts.length := by rw [h.len]; exact hk
  obtain ⟨a, e, _, h2⟩ := h.at_ k _ (List.getElem?_eq_getElem hl)
  exact ⟨a, _, e, List.getElem?_eq_getElem hl, h2⟩

def cells3 (t : Tk) : List Value := [.int .i64 t.k, .string t.s, .int .i64 t.o]
theorem cells3_at : ∀ (ts : List Tk) (j : Nat) (t : Tk), ts[j]? = some t → (ts.flatMap cells3)[j * 3]? = some (.int .i64 t.k) ∧ (ts.flatMap cells3)[j * 3 + 1]? = some (.string t.s) ∧ (ts.flatMap cells3)[j * 3 + 2]? = some (.int .i64 t.o)
  | [], j, t, h => by simp at h
  | x :: ts, 0, t, h => by
    obtain rfl : x = t := by simpa using h
    simp [cells3]
  | x :: ts, j + 1, t, h => by
    have := cells3_at ts j t (by simpa using h)
    rw [List.flatMap_cons]
    have e : (cells3 x).length = 3 := rfl
    rw [show (j + 1) * 3 = 3 + j * 3 by omega, show 3 + j * 3 + 1 = 3 + (j * 3 + 1) by omega, show 3 + j * 3 + 2 = 3 + (j * 3 + 2) by omega]
    rw [List.getElem?_append_right (by omega), List.getElem?_append_right (by omega), List.getElem?_append_right (by omega), e]
    simpa using this
theorem cells3_snoc (ts : List Tk) (k : Nat) (t : Tk) (h : ts[k]? = some t) : (ts.take k).flatMap cells3 ++ cells3 t = (ts.take (k + 1)).flatMap cells3 := by
  rw [List.take_add_one, h]
  simp

/-- What the call has built reads as these tokens. -/
theorem ts_of_own {w : World} {base n : Nat} {e : TypeId} {v : Value} {ts : List Tk} (hl : ts.length = n) (h : w.ownsRow base e 3 v n (ts.flatMap cells3)) : ∃ A c, v = .slice A n c ∧ TS w A n ts := by
  rcases h.2 with ⟨rfl, h0⟩ | ⟨g, cap, cur, hv, hb, hg, hn, hc, hs, ht⟩
  · subst h0
    exact ⟨none, 0, rfl, hl, fun j t hj => by
      have : j < ts.length := (List.getElem?_eq_some_iff.1 hj).1
      omega⟩
  · refine ⟨some ⟨g, 0, none⟩, cap, hv, hl, fun j t hj => ⟨_, rfl, ?_, ?_⟩⟩
    · rcases Nat.lt_or_ge g w.heap.size with h1 | h1
      · exact h1
      · rw [Array.getElem?_eq_none h1] at hg; cases hg
    · have hcell : ∀ i u, (ts.flatMap cells3)[i]? = some u → w.cell? ⟨g, i, none⟩ = some u := fun i u hu => by
        rw [cell_of_row w g i cur e (0, 0) hg]
        rw [← ht, List.getElem?_take] at hu
        split at hu
        · simpa using hu
        · cases hu
      obtain ⟨h1, h2, h3⟩ := cells3_at ts j t hj
      have ha : (⟨g, 0, none⟩ : Addr).add (j * 3) = ⟨g, j * 3, none⟩ := by unfold Addr.add; split <;> simp_all
      rw [ha]
      exact ⟨hcell _ _ h1, hcell _ _ h2, hcell _ _ h3⟩

theorem own_base {w : World} {base n size : Nat} {e : TypeId} {v : Value} {xs : List Value} (h : w.ownsRow base e size v n xs) : ∀ k, v.ownBlock = some k → base ≤ k := by
  rcases h.2 with ⟨rfl, _⟩ | ⟨g, cap, cur, rfl, hb, _⟩
  · intro k hk; simp [Value.ownBlock] at hk
  · intro k hk
    simp only [Value.ownBlock, Option.some.injEq] at hk
    omega

theorem infoTok : (Tryd.prog.info? 44).map (fun i => (i.zero, i.size, i.bytes)) = some (some (.agg #[.int .i64 0, .string ⟨#[]⟩, .int .i64 0]), 3, 32) := by kernel_rfl

set_option maxHeartbeats 1000000 in
theorem plain_any (A : Option Addr) (n cap : Nat) (ts : List Tk) (w : World) (hn : n ≤ 70000) (h : TS w A n ts) :
    Calls Tryd.prog 13 #[.slice A n cap] w fun e w' => ∃ A' c', e = .returned (.slice A' n c') ∧ TS w' A' n ts ∧ Below w.heap.size w w' := by
  have H := Lib.hid h
  clear h
  go_enter Tryd.func13, Tryd.ntmps13
  go_wp2_with fail
  obtain ⟨i0, hi0, hz0, hz1, hz2⟩ := info_parts infoTok
  go_loopw [3, 4] (fun v i wr => ∃ k : Nat, k ≤ n ∧ i = .int .i64 k ∧ Below w.heap.size w wr ∧ wr.ownsRow w.heap.size 44 3 v k ((ts.take k).flatMap cells3)) (fun _ i _ => n - (intOf i).toNat)
  case atStart => exact ⟨0, by omega, rfl, Below.refl _ _, World.ownsRow_nil _ _ _ _⟩
  case round =>
    obtain ⟨k, hk, rfl, hbel, hown⟩ := hrel
    by_cases hlt : k < n
    · obtain ⟨a, t, rfl, ht, c0, c1, c2⟩ := (H.out.later hbel).get hlt
      have z1 : (k : Int) < n := by omega
      have HS := Lib.hid (cells3_snoc ts k t ht)
      have HB := Lib.hid hbel
      have hsz := hbel.size
      clear ht hbel
      go_wp2_with (at_builtin; refine wpList_append_own _ rfl _ _ 28 rfl w.heap.size 44 i0 _ 3 32 Tryd.underlying28 hi0 hz0 hz1 hz2 rfl (by omega) u3 k _ rfl (hown.alloc _) ⟨wr.heap.size, 0, none⟩ 1 1 (cells3 t) rfl rfl (World.news_of_block (cs := #[.int .i64 t.k, .string t.s, .int .i64 t.o]) (t := 44) (fr := (0, 0)) (heap_alloc_new _ _)) (by simp [cells3, Value.oneCell']) (by unfold maxLen; omega) (by omega) (by simp; omega) ?_; intro v' w1 hown1 hgrow1 hnil1)
      go_roundw
      case rel =>
        refine ⟨k + 1, by omega, by go_num, Below.grown (HB.out.alloc hsz _) hgrow1 (by simp; omega) (own_base hown), ?_⟩
        rw [← HS.out]
        exact hown1
      case measure => simp [intOf]; omega
    · have hkn : k = n := by omega
      have z1 : (n : Int) ≤ k := by omega
      have ht : ts.take k = ts := List.take_of_length_le (by rw [H.out.len]; omega)
      rw [ht, hkn] at hown
      obtain ⟨A', c', rfl, hts⟩ := ts_of_own H.out.len hown
      have HB := Lib.hid hbel
      have HT := Lib.hid hts
      clear hbel hts hown ht hkn
      go_wp2_with fail
      go_ret
      exact ⟨A', c', rfl, HT.out, HB.out⟩
end Go.Proofs.YtfbahblhcmgbiaaDoor
