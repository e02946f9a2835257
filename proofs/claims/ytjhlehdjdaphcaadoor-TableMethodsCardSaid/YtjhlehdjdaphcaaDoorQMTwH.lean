/- The walks of types.Subst, All and Clone. -/
import Derived.Test.YtjhlehdjdaphcaaDoorQMTwA
import Derived.Test.YtjhlehdjdaphcaaDoorQMTyH
import Derived.Test.YtjhlehdjdaphcaaDoorQMTyL
import Derived.Test.YtjhlehdjdaphcaaDoorShelf
import Derived.Maps.OwnSet
import Derived.Maps.OwnOps
import Derived.Deep.MidRow
import Derived.Laws.MakeOwn
import Derived.Deep.RegionHeld3
import Derived.BigQuiet
import Derived.Deep.QuietTactic
import Derived.Lib.LaidTab
import Derived.Lib.SmallJoins
import Derived.WalkLawsBesides
import Derived.WalkSpells
namespace Go.Proofs.YtjhlehdjdaphcaaDoor
open Go.RowKit

/-! ### what stands for a name -/
theorem pick_nil (s : ByteArray) : ∀ ns : List ByteArray, Ty.pick s ns [] = none
  | [] => rfl
  | n :: ns => by
    rw [Ty.pick]
    split
    · rfl
    · exact pick_nil s ns
theorem pick_snoc (s : ByteArray) : ∀ (k : Nat) (ns : List ByteArray) (us : List Ty) (n : ByteArray) (u : Ty), ns[k]? = some n → us[k]? = some u →
    Ty.pick s (ns.take (k + 1)) us = match Ty.pick s (ns.take k) us with | some t => some t | none => if n.data.toList = s.data.toList then some u else none
  | _, [], _, n, u, hn, _ => by simp at hn
  | _, _ :: _, [], n, u, _, hu => by simp at hu
  | 0, a :: ns, b :: us, n, u, hn, hu => by
    obtain rfl : a = n := by simpa using hn
    obtain rfl : b = u := by simpa using hu
    simp [Ty.pick]
  | k + 1, a :: ns, b :: us, n, u, hn, hu => by
    have ih := pick_snoc s k ns us n u (by simpa using hn) (by simpa using hu)
    simp only [List.take_succ_cons, Ty.pick, List.tail_cons] at ih ⊢
    by_cases ha : a.data.toList = s.data.toList
    · simp [ha]
    · rw [if_neg ha, if_neg ha]
      exact ih
theorem pick_take (s : ByteArray) : ∀ (q : Nat) (ns : List ByteArray) (us : List Ty), q = min ns.length us.length → Ty.pick s (ns.take q) us = Ty.pick s ns us
  | _, [], us, h => by simp
  | q, a :: ns, [], h => by rw [pick_nil, pick_nil]
  | 0, a :: ns, b :: us, h => by simp at h
  | q + 1, a :: ns, b :: us, h => by
    have ih := pick_take s q ns us (by simp at h; omega)
    simp only [List.take_succ_cons, Ty.pick, List.tail_cons]
    rw [ih]

/-! ### a map in memory -/
/-- A value of the map reads as itself. -/
def mR (v : Value) : Option (DataW Value × List MemPlace) := some (.held v, [])
theorem strKeyed : Go.Maps.Keyed Tryd.prog 9 := Go.Maps.string_keyed Tryd.underlying9
theorem zeroTy (w : World) : (zeroValue 25).run Tryd.prog w = .ok (.agg #[.string ⟨#[]⟩, .slice none 0 0, .int .i64 0]) w := by kernel_rfl
theorem keyS {s : ByteArray} (h : s.size ≤ 9223372036854775807) : keyOf Tryd.prog 9 (.string s) = some (.string s.data.toList) := Go.WideMaps.keyOf_string_mk Tryd.underlying9 (by unfold maxLen; omega)
theorem isKeyS (l : List UInt8) : WideAt.IsKeyLit (.string l) := trivial

/-- The map in block g of w gives f; the types that it gives lie in w0. -/
structure GivenAt (w0 w : World) (g n : Nat) (f : ByteArray → Option Ty) : Prop where
  map : ∃ D, w.ownsMap Tryd.prog 9 mR g n D ∧ ∀ s : ByteArray, s.size ≤ 9223372036854775807 →
    match f s with
    | none => Go.Maps.has D (.string s.data.toList) = false
    | some t => Go.Maps.has D (.string s.data.toList) = true ∧ ∃ A c, t.name.size ≤ 9223372036854775807 ∧ Here w0 A t.args.length t.args ∧ ∀ z, D.atKey (.string s.data.toList) z = .held (.agg #[.string t.name, .slice A t.args.length c, .int .i64 t.off])

theorem ownsMap_below {w w' : World} {g n B : Nat} {D : DataW Value} (h : w.ownsMap Tryd.prog 9 mR g n D) (hb : Below B w w') (hg : g < B) : w'.ownsMap Tryd.prog 9 mR g n D := by
  obtain ⟨es, clock, h1, F, hs, hD⟩ := h
  exact ⟨es, clock, (hb.block g hg).trans h1, F, hs, hD⟩
theorem GivenAt.lt {w0 w : World} {g n : Nat} {f : ByteArray → Option Ty} (h : GivenAt w0 w g n f) : g < w.heap.size := by
  obtain ⟨D, h1, _⟩ := h.map
  exact h1.lt
theorem GivenAt.later {w0 w w' : World} {g n : Nat} {f : ByteArray → Option Ty} (h : GivenAt w0 w g n f) (hb : Below w.heap.size w w') : GivenAt w0 w' g n f := by
  have hl := h.lt
  obtain ⟨D, h1, h2⟩ := h.map
  exact ⟨D, ownsMap_below h1 hb hl, h2⟩
theorem GivenAt.base {w0 w0' w : World} {g n : Nat} {f : ByteArray → Option Ty} (h : GivenAt w0 w g n f) (hb : Below w0.heap.size w0 w0') : GivenAt w0' w g n f := by
  obtain ⟨D, h1, h2⟩ := h.map
  refine ⟨D, h1, fun s hs => ?_⟩
  have h3 := h2 s hs
  revert h3
  cases f s with
  | none => exact id
  | some t => exact fun ⟨h4, A, c, h5, h6, h7⟩ => ⟨h4, A, c, h5, Here.later h6 hb, h7⟩
theorem GivenAt.mono {w0 w : World} {g n n' : Nat} {f : ByteArray → Option Ty} (h : GivenAt w0 w g n f) (hn : n ≤ n') : GivenAt w0 w g n' f := by
  obtain ⟨D, h1, h2⟩ := h.map
  exact ⟨D, h1.mono hn, h2⟩
/-- A name that is not in the map. -/
theorem GivenAt.miss {w0 w : World} {g n : Nat} {f : ByteArray → Option Ty} (h : GivenAt w0 w g n f) {s : ByteArray} (hs : s.size ≤ 9223372036854775807) (hf : f s = none) :
    (Instr.lookup 121 (.map (some g)) (.string s) true).run Tryd.prog w = .ok (.tuple #[.agg #[.string ⟨#[]⟩, .slice none 0 0, .int .i64 0], .bool false]) w := by
  obtain ⟨D, h1, h2⟩ := h.map
  have h3 := h2 s hs
  rw [hf] at h3
  obtain ⟨v, ps, hrun, hv⟩ := h1.look_ok strKeyed Tryd.underlying121 (zeroTy w) (zd := .held (.agg #[.string ⟨#[]⟩, .slice none 0 0, .int .i64 0])) (zp := []) rfl (keyS hs)
  rw [h3] at hrun
  rw [Go.Maps.atKey_of_not_has h3] at hv
  obtain rfl : v = .agg #[.string ⟨#[]⟩, .slice none 0 0, .int .i64 0] := by simpa [mR] using congrArg (Option.map Prod.fst) hv
  exact hrun
/-- A name that is in the map. -/
theorem GivenAt.hit {w0 w : World} {g n : Nat} {f : ByteArray → Option Ty} (h : GivenAt w0 w g n f) {s : ByteArray} (hs : s.size ≤ 9223372036854775807) {t : Ty} (hf : f s = some t) :
    ∃ A c, t.name.size ≤ 9223372036854775807 ∧ Here w0 A t.args.length t.args ∧ ∀ w', Below w.heap.size w w' → (Instr.lookup 121 (.map (some g)) (.string s) true).run Tryd.prog w' = .ok (.tuple #[.agg #[.string t.name, .slice A t.args.length c, .int .i64 t.off], .bool true]) w' := by
  have hl := h.lt
  obtain ⟨D, h1, h2⟩ := h.map
  have h3 := h2 s hs
  rw [hf] at h3
  obtain ⟨h4, A, c, h5, h6, h7⟩ := h3
  refine ⟨A, c, h5, h6, fun w' hb => ?_⟩
  obtain ⟨v, ps, hrun, hv⟩ := (ownsMap_below h1 hb hl).look_ok strKeyed Tryd.underlying121 (zeroTy w') (zd := .held (.agg #[.string ⟨#[]⟩, .slice none 0 0, .int .i64 0])) (zp := []) rfl (keyS hs)
  rw [h4] at hrun
  rw [h7] at hv
  obtain rfl : v = .agg #[.string t.name, .slice A t.args.length c, .int .i64 t.off] := by simpa [mR] using congrArg (Option.map Prod.fst) hv
  exact hrun
/-- One more name: it was not there. -/
theorem GivenAt.step {w0 w1 : World} {g n k : Nat} {ns : List ByteArray} {us : List Ty} {D : DataW Value} {s : ByteArray} {u : Ty} {A : Option Addr} {c : Nat} (hk : ns[k]? = some s) (hu : us[k]? = some u)
    (h2 : ∀ s : ByteArray, s.size ≤ 9223372036854775807 → match Ty.pick s (ns.take k) us with
      | none => Go.Maps.has D (.string s.data.toList) = false
      | some t => Go.Maps.has D (.string s.data.toList) = true ∧ ∃ A c, t.name.size ≤ 9223372036854775807 ∧ Here w0 A t.args.length t.args ∧ ∀ z, D.atKey (.string s.data.toList) z = .held (.agg #[.string t.name, .slice A t.args.length c, .int .i64 t.off]))
    (hM : Go.Maps.IsMap D) (hno : Ty.pick s (ns.take k) us = none) (hus : u.name.size ≤ 9223372036854775807) (hh : Here w0 A u.args.length u.args)
    (h1 : w1.ownsMap Tryd.prog 9 mR g n (D.put (.string s.data.toList) (.held (.agg #[.string u.name, .slice A u.args.length c, .int .i64 u.off])))) : GivenAt w0 w1 g n (fun s => Ty.pick s (ns.take (k + 1)) us) := by
  refine ⟨_, h1, fun x hx => ?_⟩
  show match Ty.pick x (ns.take (k + 1)) us with | none => _ | some t => _
  have h3 := h2 x hx
  rw [pick_snoc x k ns us s u hk hu]
  by_cases he : s.data.toList = x.data.toList
  · obtain rfl := bytes_eq he
    rw [hno, if_pos rfl]
    exact ⟨Go.Maps.has_put_same hM (isKeyS _) _, A, c, hus, hh, fun z => Go.Maps.atKey_put_same hM (isKeyS _) _ z⟩
  · have hne : (Lit.string x.data.toList) ≠ .string s.data.toList := fun e => he (by injection e with e; exact e.symm)
    revert h3
    cases Ty.pick x (ns.take k) us with
    | none =>
      intro h3
      simp only [if_neg he]
      rw [Go.Maps.has_put_other hne]
      exact h3
    | some t =>
      intro h3
      obtain ⟨h4, A', c', h5, h6, h7⟩ := h3
      exact ⟨by rw [Go.Maps.has_put_other hne]; exact h4, A', c', h5, h6, fun z => by rw [Go.Maps.atKey_put_other hne]; exact h7 z⟩
/-- One more name that was there already. -/
theorem GivenAt.skip {w0 w : World} {g n k : Nat} {ns : List ByteArray} {us : List Ty} {s : ByteArray} {u t : Ty} (h : GivenAt w0 w g n (fun s => Ty.pick s (ns.take k) us)) (hk : ns[k]? = some s) (hu : us[k]? = some u) (hf : Ty.pick s (ns.take k) us = some t) :
    GivenAt w0 w g n (fun s => Ty.pick s (ns.take (k + 1)) us) := by
  have e : (fun s => Ty.pick s (ns.take (k + 1)) us) = fun s => Ty.pick s (ns.take k) us := by
    funext x
    rw [pick_snoc x k ns us s u hk hu]
    cases hp : Ty.pick x (ns.take k) us with
    | some t => rfl
    | none =>
      by_cases he : s.data.toList = x.data.toList
      · obtain rfl := bytes_eq he
        rw [hp] at hf
        cases hf
      · simp only [if_neg he]
  rw [e]
  exact h

/-- What byName gives. -/
def NamePost (w : World) (ns : List ByteArray) (us : List Ty) (e : Ending) (w' : World) : Prop :=
  ∃ g n, e = .returned (.map (some g)) ∧ GivenAt w' w' g n (fun s => Ty.pick s ns us) ∧ Below w.heap.size w w'

set_option maxRecDepth 100000 in
set_option maxHeartbeats 4000000 in
theorem byName_any (ns : List ByteArray) (us : List Ty) (N U : Option Addr) (nl ul nc uc : Nat) (w : World) (hul : ul ≤ 1000) (hF : Fits ns nl nc) (hN : Sl w N nl ns) (hU : Here w U ul us) :
    Calls Tryd.prog 79 #[.slice N nl nc, .slice U ul uc] w (NamePost w ns us) := by
  obtain ⟨q, hq⟩ : ∃ q, q = min nl ul := ⟨_, rfl⟩
  have hqn : q ≤ nl := by omega
  have hqu : q ≤ ul := by omega
  have z0 : min (nl : Int) (ul : Int) = (q : Int) := by omega
  have z1 : (0 : Int) ≤ q := by omega
  have z2 : (q : Int) ≤ nc := by have := hF.1; omega
  have hsl : ∀ W : World, (Instr.slice 48 (.slice N nl nc) none (some (.int .i64 (q : Int))) none).run Tryd.prog W = .ok (.slice N q nc) W := fun W => by
    rw [run_slice_h W 48 N nl nc Tryd.underlying48 .i64 q z1 z2]
    simp [sliced, go_sem]
  have hmm := @run_makeMap Tryd.prog
  have h0 : GivenAt w (w.alloc (.map #[] 0)) w.heap.size 0 (fun s => Ty.pick s (ns.take 0) us) := by
    refine ⟨.map [], World.ownsMap_made _ _ _ _, fun s hs => ?_⟩
    simp only [List.take_zero, Ty.pick]
    rfl
  have hb0 : Below w.heap.size w (w.alloc (.map #[] 0)) := (Below.refl _ _).alloc (Nat.le_refl _) _
  have H0 := Lib.hid h0
  have HB0 := Lib.hid hb0
  have HN := Lib.hid hN
  have HU := Lib.hid hU
  have HF := Lib.hid hF
  have HT := Lib.hid (fun s => pick_take s q ns us (by rw [hN.len, hU.len]; exact hq))
  have hx := hN.len
  have hy := hU.len
  clear h0 hb0 hN hU hF hq
  go_enter Tryd.func79, Tryd.ntmps79
  go_wp2_with fail
  go_loopw [19] (fun i wr => ∃ k : Nat, k ≤ q ∧ i = .int .i64 k ∧ GivenAt w wr w.heap.size k (fun s => Ty.pick s (ns.take k) us) ∧ Below w.heap.size w wr) (fun i _ => q - (intOf i).toNat)
  case atStart => exact ⟨0, by omega, rfl, H0.out, HB0.out⟩
  case round =>
    obtain ⟨k, hk, rfl, hg, hbel⟩ := hrel
    have HBL := Lib.hid hbel
    have y1 : (0 : Int) ≤ k := by omega
    by_cases hlt : k < q
    · have y0 : (k : Int) < q := by omega
      have y2 : (k : Int) < ul := by omega
      obtain ⟨a, s, rfl, hs, c0⟩ := (HN.out.later hbel).get (show k < nl by omega)
      obtain ⟨b, u, ys, p, B, m, d, rfl, hu, _, d0, d1, d2, hus, hl⟩ := Lies.get HU.out (show k < ul by omega)
      obtain rfl := hl.len
      have b0 := (hbel.cell (cell_lt d0)).trans d0
      have b1 := (hbel.cell (cell_lt d1)).trans d1
      have b2 := (hbel.cell (cell_lt d2)).trans d2
      clear d0 d1 d2
      have HH := Lib.hid hl
      have HUS := Lib.hid hus
      have hsz := HF.out.2 s (List.mem_of_getElem? hs)
      have HS := Lib.hid hs
      have HUU := Lib.hid hu
      have HSZ := Lib.hid hsz
      cases hp : Ty.pick s (ns.take k) us with
      | none =>
        have hrun := hg.miss hsz hp
        have HP := Lib.hid hp
        obtain ⟨D, hm1, hm2⟩ := hg.map
        have HM := Lib.hid (hm1.alloc (.cells #[.string ⟨#[]⟩, .slice none 0 0, .int .i64 0] 25))
        have HM2 := Lib.hid hm2
        have HIM := Lib.hid hm1.isMap
        have HBA := Lib.hid (hbel.alloc hbel.size (.cells #[.string ⟨#[]⟩, .slice none 0 0, .int .i64 0] 25))
        have b0' := elem_later b0 (.cells #[.string ⟨#[]⟩, .slice none 0 0, .int .i64 0] 25)
        have b1' := elem_later b1 (.cells #[.string ⟨#[]⟩, .slice none 0 0, .int .i64 0] 25)
        have b2' := elem_later b2 (.cells #[.string ⟨#[]⟩, .slice none 0 0, .int .i64 0] 25)
        clear hs hu hus hl hp hg hm1 hm2 hbel b0 b1 b2 hsz
        go_wp2_with (at_mapUpdate; refine wpList_mapUpdate_own _ rfl _ _ _ 121 rfl 9 25 strKeyed Tryd.underlying121 mR w.heap.size k D rfl HM.out (by unfold maxLen; omega) _ _ _ rfl rfl (keyS HSZ.out) _ [] rfl ?_; intro w1 hown1 hgrow1; have HO := Lib.hid hown1; have HG := Lib.hid hgrow1; clear hown1 hgrow1)
        go_roundw
        case rel =>
          refine ⟨k + 1, by omega, by go_num, ?_, HBA.out.grown HG.out HBA.out.size (fun j hj => by cases hj; exact Nat.le_refl _)⟩
          exact GivenAt.step HS.out HUU.out HM2.out HIM.out HP.out HUS.out HH.out HO.out
        case measure => simp [intOf]; omega
      | some t =>
        obtain ⟨A, c, _, _, hrun0⟩ := hg.hit hsz hp
        have hrun := hrun0 wr (Below.refl _ _)
        have HGG := Lib.hid ((hg.skip hs hu hp).mono (Nat.le_succ k))
        have hba : Below wr.heap.size wr (wr.alloc (.cells #[.string t.name, .slice A t.args.length c, .int .i64 t.off] 25)) := (Below.refl _ _).alloc (Nat.le_refl _) _
        have HGL := Lib.hid (HGG.out.later hba)
        have HBA := Lib.hid (hbel.trans (hba.mono hbel.size))
        clear hs hu hus hl hp hg hbel b0 b1 b2 hsz hrun0 hba
        go_wp2_with fail
        go_roundw
        case rel => exact ⟨k + 1, by omega, by go_num, HGL.out, HBA.out⟩
        case measure => simp [intOf]; omega
    · have y0 : (q : Int) ≤ k := by omega
      obtain rfl : k = q := by omega
      have e : (fun s => Ty.pick s (ns.take k) us) = fun s => Ty.pick s ns us := funext HT.out
      rw [e] at hg
      have HG := Lib.hid (hg.base hbel)
      clear hg hbel e
      go_wp2_with fail
      go_ret
      exact ⟨_, _, rfl, HG.out, HBL.out⟩
end Go.Proofs.YtjhlehdjdaphcaaDoor
namespace Go.Proofs.YtjhlehdjdaphcaaDoor
open Go.RowKit

/-- The map that a call is given: nil, or one that gives f. -/
def Gives (w : World) (mv : Value) (f : ByteArray → Option Ty) : Prop := (mv = .map none ∧ ∀ s, f s = none) ∨ ∃ g n, mv = .map (some g) ∧ GivenAt w w g n f
theorem Gives.later {w w' : World} {mv : Value} {f : ByteArray → Option Ty} (h : Gives w mv f) (hb : Below w.heap.size w w') : Gives w' mv f :=
  h.imp id fun ⟨g, n, e, h⟩ => ⟨g, n, e, (h.later hb).base hb⟩
theorem Gives.miss {w : World} {mv : Value} {f : ByteArray → Option Ty} (h : Gives w mv f) {s : ByteArray} (hs : s.size ≤ 9223372036854775807) (hf : f s = none) :
    (Instr.lookup 121 mv (.string s) true).run Tryd.prog w = .ok (.tuple #[.agg #[.string ⟨#[]⟩, .slice none 0 0, .int .i64 0], .bool false]) w := by
  rcases h with ⟨rfl, _⟩ | ⟨g, n, rfl, h⟩
  · exact Go.Maps.look_nil true strKeyed Tryd.underlying121 (zeroTy w) (keyS hs)
  · exact h.miss hs hf
theorem Gives.hit {w : World} {mv : Value} {f : ByteArray → Option Ty} (h : Gives w mv f) {s : ByteArray} (hs : s.size ≤ 9223372036854775807) {t : Ty} (hf : f s = some t) :
    ∃ A c, t.name.size ≤ 9223372036854775807 ∧ Here w A t.args.length t.args ∧ (Instr.lookup 121 mv (.string s) true).run Tryd.prog w = .ok (.tuple #[.agg #[.string t.name, .slice A t.args.length c, .int .i64 t.off], .bool true]) w := by
  rcases h with ⟨rfl, h⟩ | ⟨g, n, rfl, h⟩
  · rw [h] at hf; cases hf
  · obtain ⟨A, c, h1, h2, h3⟩ := h.hit hs hf
    exact ⟨A, c, h1, h2, h3 w (Below.refl _ _)⟩

/-- A row of m types, the first of which are written. -/
structure Filled (w : World) (g m : Nat) (ts : List Ty) : Prop where
  there : w.there g 0 (m * 3)
  lt : g < w.heap.size
  rows : ∃ cs S, RowsOf w False S cs ts ∧ w.rangeAt g 0 cs ∧ ∀ b, S b → g < b ∧ b < w.heap.size
theorem Filled.later {w w' : World} {g m : Nat} {ts : List Ty} (h : Filled w g m ts) (hb : Below w.heap.size w w') : Filled w' g m ts := by
  obtain ⟨cs, S, h1, h2, h3⟩ := h.rows
  refine ⟨fun j hj => ?_, Nat.lt_of_lt_of_le h.lt hb.size, cs, S, h1.keep (fun p hp => ⟨hb.cell (h3 _ hp).2, hb.frozen (h3 _ hp).2⟩) (fun _ h => h), fun j v hv => (hb.cell (p := ⟨g, 0 + j, none⟩) h.lt).trans (h2 j v hv), fun b hS => ⟨(h3 b hS).1, Nat.lt_of_lt_of_le (h3 b hS).2 hb.size⟩⟩
  rw [hb.cell (p := ⟨g, 0 + j, none⟩) h.lt, hb.frozen (p := ⟨g, 0 + j, none⟩) h.lt]
  exact h.there j hj
theorem size_setCells_w (b : Nat) : ∀ (vs : List Value) (o : Nat) (w : World), (w.setCells b o vs).heap.size = w.heap.size
  | [], _, _ => rfl
  | v :: r, o, w => by rw [World.setCells, size_setCells_w b r (o + 1)]; simp [World.setCell]
theorem below_cells {B g : Nat} (hg : B ≤ g) : ∀ (vs : List Value) (o : Nat) (w : World), Below B w (w.setCells g o vs)
  | [], _, _ => Below.refl _ _
  | v :: r, o, w => ((Below.refl B w).setCell (p := ⟨g, o, none⟩) hg v).trans (below_cells hg r (o + 1) _)
/-- One more type is written. -/
theorem Filled.step {w : World} {g m : Nat} {ts : List Ty} {t : Ty} {A : Option Addr} {n c : Nat} {S' : Nat → Prop} (h : Filled w g m ts) (hlt : ts.length < m) (hns : t.name.size ≤ 9223372036854775807) (hl : Lies w S' A n t.args) (hS' : ∀ b, S' b → g < b ∧ b < w.heap.size) :
    Filled (w.setCells g (ts.length * 3) [.string t.name, .slice A n c, .int .i64 t.off]) g m (ts ++ [t]) := by
  obtain ⟨cs, S, h1, h2, h3⟩ := h.rows
  have hcl := h1.len
  have far : ∀ p : Addr, g < p.block → (w.setCells g (ts.length * 3) [.string t.name, .slice A n c, .int .i64 t.off]).cell? p = w.cell? p ∧ (w.setCells g (ts.length * 3) [.string t.name, .slice A n c, .int .i64 t.off]).frozen? p = w.frozen? p := fun p hp =>
    ⟨World.cell?_setCells_out _ _ _ _ _ (fun e => by omega), World.frozen?_setCells _ _ _ _ _⟩
  refine ⟨World.there_setCells h.there _ _ _, by rw [size_setCells_w]; exact h.lt, cs ++ [.string t.name, .slice A n c, .int .i64 t.off], fun b => S b ∨ S' b, ?_, ?_, fun b hb => by rw [size_setCells_w]; exact hb.elim (h3 b) (hS' b)⟩
  · exact RowsOf.snoc hns (hl.keep (fun p hp => far p (hS' _ hp).1) (fun _ h => .inr h)) (h1.keep (fun p hp => far p (h3 _ hp).1) (fun _ h => .inl h))
  · intro j v hv
    by_cases hj : j < cs.length
    · rw [List.getElem?_append_left hj] at hv
      exact World.rangeAt_setCells_apart h2 _ _ _ (.inr (.inl (by omega))) j v hv
    · rw [List.getElem?_append_right (by omega)] at hv
      have ht : w.there g (ts.length * 3) 3 := fun i hi => by
        have := h.there (ts.length * 3 + i) (by omega)
        rwa [Nat.zero_add] at this
      have := World.rangeAt_setCells_same w g (ts.length * 3) [.string t.name, .slice A n c, .int .i64 t.off] ht (j - cs.length) v hv
      rwa [show ts.length * 3 + (j - cs.length) = 0 + j by omega] at this
/-- All are written: a slice of types. -/
theorem Filled.lies {w : World} {g m base : Nat} {ts : List Ty} (h : Filled w g m ts) (hm : ts.length = m) (hm2 : m ≤ 9223372036854775807) (hb : base ≤ g) : Lies w (fun b => base ≤ b ∧ b < w.heap.size) (some ⟨g, 0, none⟩) m ts := by
  obtain ⟨cs, S, h1, h2, h3⟩ := h.rows
  refine ⟨hm, hm2, ArgsIn.of fun k t hk => ?_⟩
  obtain ⟨B, d, c0, c1, c2, hsz, hl⟩ := h1.at hk
  have hcell : ∀ i u, cs[i]? = some u → w.cell? ⟨g, i, none⟩ = some u := fun i u hu => by
    have := h2 i u hu
    rwa [Nat.zero_add] at this
  have ha : (⟨g, 0, none⟩ : Addr).add (k * 3) = ⟨g, k * 3, none⟩ := by unfold Addr.add; split <;> simp_all
  cases t with
  | mk s ys o =>
    rw [Nat.zero_add, TyCells]
    refine ⟨⟨g, 0, none⟩, B, d, rfl, ⟨hb, h.lt⟩, False.elim, ?_, ?_, ?_, hsz, hl.le, (LiesN.wide hl (fun b hS => ⟨Nat.le_trans hb (Nat.le_of_lt (h3 b hS).1), (h3 b hS).2⟩)).args⟩
    · rw [ha]; exact hcell _ _ c0
    · rw [ha]; exact hcell _ _ c1
    · rw [ha]; exact hcell _ _ c2

/-- The row that make gives. -/
theorem run_make_ty (m : Nat) (hm : m ≤ 1000000) (W : World) : (Instr.makeSlice 23 (.int .i64 (m : Int)) (.int .i64 (m : Int))).run Tryd.prog W =
    .ok (.slice (some ⟨W.heap.size, 0, none⟩) m m) (W.alloc (.cells (madeCells #[.string ⟨#[]⟩, .slice none 0 0, .int .i64 0] (m * 3)) 25)) := by
  obtain ⟨i0, hi0, hz0, hz1, hz2⟩ := info_parts infoTy
  have hr := run_make (P := Tryd.prog) W 23 25 i0 _ Tryd.underlying23 hi0 hz0 .i64 .i64 m m (by omega) (Int.le_refl _) (by rw [hz2]; omega) (by omega)
  simp only [Int.toNat_natCast, hz1] at hr
  exact hr
theorem filled_make (W : World) (m : Nat) : Filled (W.alloc (.cells (madeCells #[.string ⟨#[]⟩, .slice none 0 0, .int .i64 0] (m * 3)) 25)) W.heap.size m [] := by
  refine ⟨fun j hj => ⟨?_, ?_⟩, by simp, [], fun _ => False, rfl, fun j v hv => by simp at hv, fun _ h => h.elim⟩
  · rw [cell_of_row _ _ (0 + j) _ _ (0, 0) (MapKept.heap_alloc W _).1]
    rw [Array.getElem?_eq_getElem (by rw [size_madeCells]; omega)]; rfl
  · exact frozen_of_row (MapKept.heap_alloc W _).1 _
end Go.Proofs.YtjhlehdjdaphcaaDoor
namespace Go.Proofs.YtjhlehdjdaphcaaDoor
open Go.RowKit

/-- A slice of types that the call has made, no longer than its array. -/
def AllPostC (w : World) (ts : List Ty) (e : Ending) (w' : World) : Prop :=
  ∃ A c, e = .returned (.slice A ts.length c) ∧ ts.length ≤ c ∧ Lies w' (Fresh w w') A ts.length ts ∧ Below w.heap.size w w'
theorem AllPostC.post {w : World} {ts : List Ty} {e : Ending} {w' : World} (h : AllPostC w ts e w') : AllPost w ts e w' := let ⟨A, c, h1, _, h2, h3⟩ := h; ⟨A, c, h1, h2, h3⟩
theorem AllPostC.since {wr V : World} {ts : List Ty} {e : Ending} {w' : World} (hV : Below wr.heap.size wr V) (h : AllPostC V ts e w') : AllPostC wr ts e w' := by
  obtain ⟨A, c, he, hc, hl, hb⟩ := h
  exact ⟨A, c, he, hc, LiesN.wide hl fun b hb => ⟨Nat.le_trans hV.size hb.1, hb.2⟩, hV.trans (hb.mono hV.size)⟩
/-- What replaced gives of t. -/
def RepAt (ns : List ByteArray) (us : List Ty) (t : Ty) : Prop := ∀ (A : Option Addr) (m c : Nat) (mv : Value) (w : World), t.name.size ≤ 9223372036854775807 → t.list.length ≤ 1000000 → Here w A m t.args → Gives w mv (fun s => Ty.pick s ns us) →
  Calls Tryd.prog 83 #[.agg #[.string t.name, .slice A m c, .int .i64 t.off], mv] w (TyPost w (t.subst ns us))

set_option maxRecDepth 100000 in
set_option maxHeartbeats 4000000 in
theorem allRep_cap (ns : List ByteArray) (us xs : List Ty) (ih : ∀ t ∈ xs, RepAt ns us t) (A : Option Addr) (m c : Nat) (mv : Value) (w : World) (hm : m ≤ 1000000) (hx : ∀ x ∈ xs, x.list.length ≤ 1000000) (h : Here w A m xs) (hg : Gives w mv (fun s => Ty.pick s ns us)) :
    Calls Tryd.prog 78 #[.slice A m c, mv] w (AllPostC w (xs.map (Ty.subst ns us))) := by
  have hl := h.len
  have HL := Lib.hid h
  have HG := Lib.hid hg
  have HX := Lib.hid hx
  have IH := Lib.hid ih
  by_cases hm0 : m = 0
  · subst hm0
    obtain rfl := List.eq_nil_of_length_eq_zero hl
    have e0 : (((0 : Nat) : Int) == 0) = true := rfl
    clear ih hx h hg
    go_enter Tryd.func78, Tryd.ntmps78
    go_wp2_with fail
    go_ret
    exact ⟨none, 0, rfl, Nat.le_refl _, Lies.nil _ _ _, Below.refl _ _⟩
  · have e0 : ((m : Int) == 0) = false := by simp; omega
    have hmk := run_make_ty m hm
    have hf := filled_make w m
    have hb : Below w.heap.size w (w.alloc (.cells (madeCells #[.string ⟨#[]⟩, .slice none 0 0, .int .i64 0] (m * 3)) 25)) := (Below.refl _ _).alloc (Nat.le_refl _) _
    have HF := Lib.hid hf
    have HB := Lib.hid hb
    have hmi : (m : Int) ≤ 1000000 := by omega
    have hgz : ∃ g, g = w.heap.size := ⟨_, rfl⟩
    obtain ⟨g, hgz⟩ := hgz
    have HGZ := Lib.hid hgz
    clear ih hx h hg hf hb
    go_enter Tryd.func78, Tryd.ntmps78
    go_wp2_with fail
    rw [← hgz] at HF ⊢
    clear hgz
    go_loopw [16] (fun i wr => ∃ k : Nat, k ≤ m ∧ i = .int .i64 k ∧ Filled wr g m ((xs.take k).map (Ty.subst ns us)) ∧ Below w.heap.size w wr) (fun i _ => m - (intOf i).toNat)
    case atStart => exact ⟨0, by omega, rfl, by simpa using HF.out, HB.out⟩
    case round =>
      obtain ⟨k, hk, rfl, hf, hbel⟩ := hrel
      have HBL := Lib.hid hbel
      have y1 : (0 : Int) ≤ k := by omega
      by_cases hlt : k < m
      · have y0 : (k : Int) < m := by omega
        obtain ⟨a, u, ys, p, B, n, d, rfl, hx, _, a0, a1, a2, hu, hl2⟩ := Lies.get (Here.later HL.out hbel) hlt
        have hka : Below wr.heap.size wr (wr.alloc (.cells #[.string u, .slice B n d, .int .i64 p] 25)) := (Below.refl _ _).alloc (Nat.le_refl _) _
        have C := Lib.hid (IH.out _ (List.mem_of_getElem? hx) B n d mv (wr.alloc (.cells #[.string u, .slice B n d, .int .i64 p] 25)) hu (HX.out _ (List.mem_of_getElem? hx)) (Here.later hl2 hka) ((HG.out.later hbel).later hka))
        simp only [Ty.name, Ty.off] at C
        obtain ⟨x0, x1, x2⟩ := Box.new wr u B n d p 25
        have HST := Lib.hid (show (xs.take (k + 1)).map (Ty.subst ns us) = (xs.take k).map (Ty.subst ns us) ++ [Ty.subst ns us (.mk u ys p)] by rw [List.take_add_one, hx]; simp)
        have HFF := Lib.hid hf
        have HK := Lib.hid hka
        have hlk : ((xs.take k).map (Ty.subst ns us)).length = k := by rw [List.length_map, List.length_take]; omega
        have HLK := Lib.hid hlk
        clear hx hl2 hka hf hbel hlk
        generalize Ty.subst ns us (.mk u ys p) = q at *
        go_wp2_with fail
        refine C.out.mono ?_
        rintro e w3 ⟨A3, m3, c3, rfl, hns, hl3, hb3⟩
        have hb4 := HK.out.trans (hb3.mono HK.out.size)
        have hf4 := HFF.out.later hb4
        have HT3 := Lib.hid (show w3.there g (k * 3) 3 from fun j hj => by
          have := hf4.there (k * 3 + j) (by omega)
          rwa [Nat.zero_add] at this)
        have hstep := hf4.step (n := m3) (c := c3) (by rw [HLK.out]; exact hlt) hns hl3 (fun b hb => ⟨by have h1 : (wr.alloc (.cells #[.string u, .slice B n d, .int .i64 p] 25)).heap.size ≤ b := hb.1; have := HFF.out.lt; simp at h1; omega, hb.2⟩)
        rw [HLK.out] at hstep
        have HSP := Lib.hid hstep
        have HB4 := Lib.hid ((HBL.out.trans (hb4.mono HBL.out.size)).trans (below_cells (B := w.heap.size) (g := g) (Nat.le_of_eq HGZ.out.symm) [.string q.name, .slice A3 m3 c3, .int .i64 q.off] (k * 3) w3))
        clear hns hl3 hb3 hb4 hf4 hstep x0 x1 x2 a0 a1 a2 C
        obtain ⟨e0, c0⟩ := Option.isSome_iff_exists.1 (HT3.out 0 (by omega)).1
        obtain ⟨e1, c1⟩ := Option.isSome_iff_exists.1 (HT3.out 1 (by omega)).1
        obtain ⟨e2, c2⟩ := Option.isSome_iff_exists.1 (HT3.out 2 (by omega)).1
        have f0 := (HT3.out 0 (by omega)).2
        have f1 := (HT3.out 1 (by omega)).2
        have f2 := (HT3.out 2 (by omega)).2
        rw [Nat.add_zero] at c0 f0
        have d1 : (w3.setCell ⟨g, k * 3, none⟩ (.string q.name)).cell? ⟨g, k * 3 + 1, none⟩ = some e1 := (World.cell?_setCell_other _ _ _ _ (by intro e; injection e with _ e; omega)).trans c1
        have d2 : ((w3.setCell ⟨g, k * 3, none⟩ (.string q.name)).setCell ⟨g, k * 3 + 1, none⟩ (.slice A3 m3 c3)).cell? ⟨g, k * 3 + 2, none⟩ = some e2 :=
          (World.cell?_setCell_other _ _ _ _ (by intro e; injection e with _ e; omega)).trans ((World.cell?_setCell_other _ _ _ _ (by intro e; injection e with _ e; omega)).trans c2)
        have h1 : (w3.setCell ⟨g, k * 3, none⟩ (.string q.name)).frozen? ⟨g, k * 3 + 1, none⟩ = false := (World.frozen?_setCell _ _ _ _).trans f1
        have h2 : ((w3.setCell ⟨g, k * 3, none⟩ (.string q.name)).setCell ⟨g, k * 3 + 1, none⟩ (.slice A3 m3 c3)).frozen? ⟨g, k * 3 + 2, none⟩ = false := (World.frozen?_setCell _ _ _ _).trans ((World.frozen?_setCell _ _ _ _).trans f2)
        clear c1 c2 f1 f2
        go_wp2_with fail
        go_roundw
        case rel => exact ⟨k + 1, by omega, by go_num, by rw [HST.out]; exact HSP.out, HB4.out⟩
        case measure => simp [intOf]; omega
      · have y0 : (m : Int) ≤ k := by omega
        have hjk : xs.take k = xs := List.take_of_length_le (by omega)
        rw [hjk] at hf
        have HFF := Lib.hid hf
        clear hf hbel
        go_wp2_with fail
        go_ret
        have hlm : (xs.map (Ty.subst ns us)).length = m := by rw [List.length_map]; exact hl
        refine ⟨some ⟨g, 0, none⟩, m, by rw [hlm]; rfl, Nat.le_of_eq hlm, ?_, HBL.out⟩
        rw [hlm]
        exact HFF.out.lies hlm (by omega) (Nat.le_of_eq HGZ.out.symm)
theorem allRep_any (ns : List ByteArray) (us xs : List Ty) (ih : ∀ t ∈ xs, RepAt ns us t) (A : Option Addr) (m c : Nat) (mv : Value) (w : World) (hm : m ≤ 1000000) (hx : ∀ x ∈ xs, x.list.length ≤ 1000000) (h : Here w A m xs) (hg : Gives w mv (fun s => Ty.pick s ns us)) :
    Calls Tryd.prog 78 #[.slice A m c, mv] w (AllPost w (xs.map (Ty.subst ns us))) := (allRep_cap ns us xs ih A m c mv w hm hx h hg).mono fun _ _ h => h.post

/-- The cells of a result that is not yet written. -/
structure ResAt (w : World) (k : Nat) : Prop where
  c0 : w.cell? ⟨k, 0, none⟩ = some (.string ⟨#[]⟩)
  c1 : w.cell? ⟨k, 1, none⟩ = some (.slice none 0 0)
  c2 : w.cell? ⟨k, 2, none⟩ = some (.int .i64 0)
  f0 : w.frozen? ⟨k, 0, none⟩ = false
  f1 : w.frozen? ⟨k, 1, none⟩ = false
  f2 : w.frozen? ⟨k, 2, none⟩ = false
theorem ResAt.later {w w' : World} {k : Nat} (h : ResAt w k) (hb : Below w.heap.size w w') : ResAt w' k := by
  have hk := cell_lt h.c0
  exact ⟨(hb.cell hk).trans h.c0, (hb.cell (p := ⟨k, 1, none⟩) hk).trans h.c1, (hb.cell (p := ⟨k, 2, none⟩) hk).trans h.c2, (hb.frozen hk).trans h.f0, (hb.frozen (p := ⟨k, 1, none⟩) hk).trans h.f1, (hb.frozen (p := ⟨k, 2, none⟩) hk).trans h.f2⟩
theorem resAt_of {w : World} {k : Nat} {T : TypeId} (h : w.heap[k]? = some (.cells #[.string ⟨#[]⟩, .slice none 0 0, .int .i64 0] T (0, 0))) : ResAt w k :=
  ⟨by rw [cell_of_row _ _ 0 _ _ (0, 0) h]; rfl, by rw [cell_of_row _ _ 1 _ _ (0, 0) h]; rfl, by rw [cell_of_row _ _ 2 _ _ (0, 0) h]; rfl, frozen_of_row h 0, frozen_of_row h 1, frozen_of_row h 2⟩
/-- The result is written. -/
theorem below_res {w W : World} {k : Nat} {u v x : Value} (hb : Below w.heap.size w W) (hk : w.heap.size ≤ k) : Below w.heap.size w (((W.setCell ⟨k, 0, none⟩ u).setCell ⟨k, 1, none⟩ v).setCell ⟨k, 2, none⟩ x) :=
  ((hb.setCell (p := ⟨k, 0, none⟩) hk _).setCell (p := ⟨k, 1, none⟩) hk _).setCell (p := ⟨k, 2, none⟩) hk _
theorem lies_res {W : World} {S S' : Nat → Prop} {A : Option Addr} {n k : Nat} {xs : List Ty} {u v x : Value} (h : Lies W S A n xs) (hk : ¬ S k) (hS : ∀ b, S b → S' b) : Lies (((W.setCell ⟨k, 0, none⟩ u).setCell ⟨k, 1, none⟩ v).setCell ⟨k, 2, none⟩ x) S' A n xs :=
  LiesN.wide (((LiesN.setCell h ⟨k, 0, none⟩ _ hk).setCell ⟨k, 1, none⟩ _ hk).setCell ⟨k, 2, none⟩ _ hk) hS
theorem size_res (W : World) (k : Nat) (u v x : Value) : (((W.setCell ⟨k, 0, none⟩ u).setCell ⟨k, 1, none⟩ v).setCell ⟨k, 2, none⟩ x).heap.size = W.heap.size := by simp [World.setCell]

theorem keep_res {w W : World} {s : ByteArray} {u v x y z : Value} (h : Below w.heap.size w W ∧ W.cell? ⟨w.heap.size, 0, none⟩ = some (.string s) ∧ W.cell? ⟨w.heap.size, 1, none⟩ = some u ∧ W.cell? ⟨w.heap.size, 2, none⟩ = some v) :
    Below w.heap.size w (((W.setCell ⟨w.heap.size + 1, 0, none⟩ x).setCell ⟨w.heap.size + 1, 1, none⟩ y).setCell ⟨w.heap.size + 1, 2, none⟩ z)
      ∧ (((W.setCell ⟨w.heap.size + 1, 0, none⟩ x).setCell ⟨w.heap.size + 1, 1, none⟩ y).setCell ⟨w.heap.size + 1, 2, none⟩ z).cell? ⟨w.heap.size, 0, none⟩ = some (.string s)
      ∧ (((W.setCell ⟨w.heap.size + 1, 0, none⟩ x).setCell ⟨w.heap.size + 1, 1, none⟩ y).setCell ⟨w.heap.size + 1, 2, none⟩ z).cell? ⟨w.heap.size, 1, none⟩ = some u
      ∧ (((W.setCell ⟨w.heap.size + 1, 0, none⟩ x).setCell ⟨w.heap.size + 1, 1, none⟩ y).setCell ⟨w.heap.size + 1, 2, none⟩ z).cell? ⟨w.heap.size, 2, none⟩ = some v := by
  have far : ∀ i j : Nat, (⟨w.heap.size, i, none⟩ : Addr) ≠ ⟨w.heap.size + 1, j, none⟩ := fun i j e => by injection e with e; omega
  refine ⟨below_res h.1 (Nat.le_succ _), ?_, ?_, ?_⟩
  · rw [World.cell?_setCell_other _ _ _ _ (far 0 2).symm, World.cell?_setCell_other _ _ _ _ (far 0 1).symm, World.cell?_setCell_other _ _ _ _ (far 0 0).symm]; exact h.2.1
  · rw [World.cell?_setCell_other _ _ _ _ (far 1 2).symm, World.cell?_setCell_other _ _ _ _ (far 1 1).symm, World.cell?_setCell_other _ _ _ _ (far 1 0).symm]; exact h.2.2.1
  · rw [World.cell?_setCell_other _ _ _ _ (far 2 2).symm, World.cell?_setCell_other _ _ _ _ (far 2 1).symm, World.cell?_setCell_other _ _ _ _ (far 2 0).symm]; exact h.2.2.2

/-- The two first blocks of a function that takes a type and gives one. -/
def TwoW (w : World) (s : ByteArray) (A : Option Addr) (m c : Nat) (o : Int) : World :=
  (w.alloc (.cells #[.string s, .slice A m c, .int .i64 o] 25)).alloc (.cells #[.string ⟨#[]⟩, .slice none 0 0, .int .i64 0] 25)
theorem twoW (w : World) (s : ByteArray) (A : Option Addr) (m c : Nat) (o : Int) : Below w.heap.size w (TwoW w s A m c o) ∧ Box (TwoW w s A m c o) w.heap.size s A m c o ∧ ResAt (TwoW w s A m c o) (w.heap.size + 1) ∧ (TwoW w s A m c o).heap.size = w.heap.size + 2 :=
  ⟨(box_pair w s ⟨#[]⟩ A none m 0 c 0 o 0 25).1, (box_pair w s ⟨#[]⟩ A none m 0 c 0 o 0 25).2.1, resAt_of (heap_alloc_two _ _ _), by simp [TwoW]⟩

/-- A clone of what stands for a name. -/
def CloneAt (t : Ty) : Prop := ∀ (A : Option Addr) (m c : Nat) (w : World), t.name.size ≤ 9223372036854775807 → Here w A m t.args →
  Calls Tryd.prog 69 #[.agg #[.string t.name, .slice A m c, .int .i64 t.off]] w (TyPost w t)

set_option maxRecDepth 100000 in
set_option maxHeartbeats 8000000 in
theorem rep_any (ns : List ByteArray) (us : List Ty) (hcl : ∀ s u, Ty.pick s ns us = some u → CloneAt u) : ∀ t : Ty, RepAt ns us t := by
  refine Ty.ind fun s xs o ih A m c mv w hs hll h hg => ?_
  simp only [Ty.name, Ty.args, Ty.off] at hs h ⊢
  have hm : (m : Int) ≤ 9223372036854775807 := by have := h.le; omega
  have hxl := h.len
  have hll2 : (Ty.listL xs).length ≤ 1000000 := by rw [Ty.list] at hll; simp only [List.length_cons] at hll; omega
  have hm6 : m ≤ 1000000 := by have := listL_len xs; omega
  obtain ⟨hb, hX, hR, hz⟩ := twoW w s A m c o
  have IH := Lib.hid ih
  have HLL := Lib.hid hll2
  have H2 := Lib.hid (Here.later h hb)
  have HG2 := Lib.hid (hg.later hb)
  have HB := Lib.hid hb
  have HX2 := Lib.hid hX
  have HR2 := Lib.hid hR
  have HZ := Lib.hid hz
  have HCL := Lib.hid hcl
  by_cases hc : ∃ u, Ty.pick s ns us = some u ∧ m = 0
  · obtain ⟨u, hu, rfl⟩ := hc
    obtain ⟨A', c', hus, hul, hrun⟩ := HG2.out.hit hs hu
    have hb3 : Below (TwoW w s A 0 c o).heap.size (TwoW w s A 0 c o) ((TwoW w s A 0 c o).alloc (.cells #[.string u.name, .slice A' u.args.length c', .int .i64 u.off] 25)) := (Below.refl _ _).alloc (Nat.le_refl _) _
    have C := Lib.hid (HCL.out s u hu A' u.args.length c' _ hus (Here.later hul hb3))
    have HX3 := Lib.hid (HX2.out.later hb3)
    have HR3 := Lib.hid (HR2.out.later hb3)
    have HB3 := Lib.hid (HB.out.trans (hb3.mono HB.out.size))
    have HZ3 := Lib.hid (show ((TwoW w s A 0 c o).alloc (.cells #[.string u.name, .slice A' u.args.length c', .int .i64 u.off] 25)).heap.size = w.heap.size + 3 by rw [World.size_alloc, HZ.out])
    have hsub : Ty.subst ns us (.mk s [] o) = .mk u.name u.args o := by
      cases u with
      | mk r ys p => exact subst_nil_some hu
    obtain rfl : xs = [] := List.eq_nil_of_length_eq_zero hxl
    have hbx3 := Box.new (TwoW w s A 0 c o) u.name A' u.args.length c' u.off 25
    rw [HZ.out] at hbx3
    have HY3 := Lib.hid hbx3
    have HSUB := Lib.hid hsub
    clear ih hll hll2 hb hX hR hz hcl h hg hb3 hxl hul hbx3 hsub
    obtain ⟨x0, x1, x2⟩ := HX2.out
    obtain ⟨y0, y1, y2⟩ := HX3.out
    obtain ⟨z0, z1, z2⟩ := HY3.out
    unfold TwoW at *
    go_enter Tryd.func83, Tryd.ntmps83
    go_wp2_with fail
    refine C.out.mono ?_
    rintro e w4 ⟨A4, m4, c4, rfl, hns4, hl4, hb4⟩
    have hx4 := ResAt.later HR3.out hb4
    have hy4 := Box.later HX3.out hb4
    have hb5 := HB3.out.trans (hb4.mono HB3.out.size)
    have hz5 : w.heap.size + 3 ≤ w4.heap.size := by have := hb4.size; have := HZ3.out; unfold TwoW at this; omega
    have hn5 : ∀ v : Value, Below w4.heap.size w4 (w4.alloc (.cells #[.string u.name, .slice A4 m4 c4, v] 25)) := fun v => (Below.refl _ _).alloc (Nat.le_refl _) _
    have hx5 := ResAt.later hx4 (hn5 (.int .i64 o))
    have hy5 := Box.later hy4 (hn5 (.int .i64 u.off))
    have HL4 := Lib.hid hl4
    have HB5 := Lib.hid hb5
    have HZ5 := Lib.hid hz5
    have HN5 := Lib.hid hn5
    clear hl4 hb4 hx4 hy4 hb5 hz5 hn5 x0 x1 x2 y0 y1 y2 z0 z1 z2
    obtain ⟨q0, q1, q2⟩ := hy5
    obtain ⟨y0, y1, y2, f0, f1, f2⟩ := hx5
    go_wp2_with fail
    refine bodyPost_ret (v := .agg #[.string u.name, .slice A4 m4 c4, .int .i64 o]) (by simp [results, Tryd.results83, go_sem, y0, y1, y2]) rfl ?_
    rw [HSUB.out]
    have hWz := HZ3.out
    unfold TwoW at hWz
    have hz5 := HZ5.out
    refine ⟨A4, m4, c4, rfl, hns4, lies_res (LiesN.alloc HL4.out (fun _ h => h.2) _) (by unfold Fresh; omega) ?_, below_res (HB5.out.trans ((HN5.out (.int .i64 o)).mono (by omega))) (Nat.le_succ _)⟩
    intro b hb
    have h1 := hb.1
    have h2 := hb.2
    exact ⟨by omega, by rw [size_res, World.size_alloc]; omega⟩
  · have hsub : Ty.subst ns us (.mk s xs o) = .mk s (xs.map (Ty.subst ns us)) o := by
      rw [← Ty.substL_map]
      by_cases hx : xs = []
      · subst hx
        have hm0 : m = 0 := by simpa using hxl.symm
        refine subst_nil_none ?_
        cases hp : Ty.pick s ns us with
        | none => rfl
        | some u => exact absurd ⟨u, hp, hm0⟩ hc
      · exact Ty.substL_eq ns us s xs o hx
    have HSUB := Lib.hid hsub
    obtain ⟨vs, vA, vn, vc, vo, b, hrun, hbm⟩ : ∃ (vs : ByteArray) (vA : Option Addr) (vn vc : Nat) (vo : Int) (b : Bool), (Instr.lookup 121 mv (.string s) true).run Tryd.prog (TwoW w s A m c o) = .ok (.tuple #[.agg #[.string vs, .slice vA vn vc, .int .i64 vo], .bool b]) (TwoW w s A m c o) ∧ (b = false ∨ m ≠ 0) := by
      cases hp : Ty.pick s ns us with
      | none => exact ⟨_, _, _, _, _, _, HG2.out.miss hs hp, .inl rfl⟩
      | some u =>
        obtain ⟨A', c', _, _, hr⟩ := HG2.out.hit hs hp
        exact ⟨_, _, _, _, _, _, hr, .inr fun h0 => hc ⟨u, hp, h0⟩⟩
    have hb3 : Below (TwoW w s A m c o).heap.size (TwoW w s A m c o) ((TwoW w s A m c o).alloc (.cells #[.string vs, .slice vA vn vc, .int .i64 vo] 25)) := (Below.refl _ _).alloc (Nat.le_refl _) _
    have HX3 := Lib.hid (HX2.out.later hb3)
    have HR3 := Lib.hid (HR2.out.later hb3)
    have HB3 := Lib.hid (HB.out.trans (hb3.mono HB.out.size))
    have C := Lib.hid (fun (V : World) (hV : Below w.heap.size w V) => allRep_any ns us xs IH.out A m c mv V hm6 (fun x hx => by have := listL_mem hx; have := HLL.out; omega) (Here.later h hV) (hg.later hV))
    have HZ3 := Lib.hid (show ((TwoW w s A m c o).alloc (.cells #[.string vs, .slice vA vn vc, .int .i64 vo] 25)).heap.size = w.heap.size + 3 by rw [World.size_alloc, HZ.out])
    clear ih hll hll2 hb hX hR hz hcl hc hsub h hg hb3 hxl
    obtain ⟨x0, x1, x2⟩ := HX2.out
    obtain ⟨z0, z1, z2⟩ := HX3.out
    unfold TwoW at *
    have hbm2 : b = false ∨ (b = true ∧ ((m : Int) == 0) = false) := by
      cases b
      · exact .inl rfl
      · exact .inr ⟨rfl, by rcases hbm with h | h; cases h; simp; omega⟩
    clear hbm
    rcases hbm2 with rfl | ⟨rfl, e0⟩
    all_goals
      go_enter Tryd.func83, Tryd.ntmps83
      go_wp2_with fail
      generalize hW : ((w.alloc (.cells #[.string s, .slice A m c, .int .i64 o] 25)).alloc (.cells #[.string ⟨#[]⟩, .slice none 0 0, .int .i64 0] 25)).alloc (.cells #[.string vs, .slice vA vn vc, .int .i64 vo] 25) = W at *
      clear hW
      have SS : Below w.heap.size w W ∧ W.cell? ⟨w.heap.size, 0, none⟩ = some (.string s) ∧ W.cell? ⟨w.heap.size, 1, none⟩ = some (.slice A m c) ∧ W.cell? ⟨w.heap.size, 2, none⟩ = some (.int .i64 o) := ⟨HB3.out, z0, z1, z2⟩
      go_region_held3 (fun V => Below w.heap.size w V ∧ V.cell? ⟨w.heap.size, 0, none⟩ = some (.string s) ∧ V.cell? ⟨w.heap.size, 1, none⟩ = some (.slice A m c) ∧ V.cell? ⟨w.heap.size, 2, none⟩ = some (.int .i64 o))
        (first | exact SS | exact ⟨SS.1.drew, SS.2⟩ | exact keep_res SS)
        (first
          | (go_at_call 78; go_loud (refine (C.out _ ?_).mono ?_; (first | exact SS.1 | exact SS.1.drew); rintro e w4 ⟨A4, c4, rfl, hl4, hb4⟩; have HB4 := Lib.hid (show Below w.heap.size w w4 by first | exact SS.1.trans (hb4.mono SS.1.size) | exact SS.1.drew.trans (hb4.mono SS.1.drew.size)); have hx4 : ResAt w4 (w.heap.size + 1) := (by first | exact ResAt.later HR3.out hb4 | exact ResAt.later (ResAt.later HR3.out (Below.refl _ _).drew) hb4); have HX4 : Box w4 w.heap.size s A m c o := (by first | exact Box.later HX3.out hb4 | exact Box.later (Box.later HX3.out (Below.refl _ _).drew) hb4); have SS : Below w.heap.size w w4 ∧ w4.cell? ⟨w.heap.size, 0, none⟩ = some (.string s) ∧ w4.cell? ⟨w.heap.size, 1, none⟩ = some (.slice A m c) ∧ w4.cell? ⟨w.heap.size, 2, none⟩ = some (.int .i64 o) := ⟨HB4.out, HX4.1, HX4.2.1, HX4.2.2⟩; obtain ⟨y0, y1, y2, f0, f1, f2⟩ := hx4; have HL4 := Lib.hid (show Lies w4 (fun b => W.heap.size ≤ b ∧ b < w4.heap.size) A4 (xs.map (Ty.subst ns us)).length (xs.map (Ty.subst ns us)) from hl4); clear hl4 hb4)))
      go_wp2
      refine bodyPost_ret (v := .agg #[.string s, .slice A4 (xs.map (Ty.subst ns us)).length c4, .int .i64 o]) (by simp [results, Tryd.results83, go_sem, y0, y1, y2]) rfl ?_
      rw [HSUB.out]
      have hWz := HZ3.out
      refine ⟨A4, _, c4, rfl, hs, lies_res HL4.out (by omega) ?_, below_res HB4.out (Nat.le_succ _)⟩
      intro b hb
      exact ⟨by have := hb.1; omega, by rw [size_res]; exact hb.2⟩
end Go.Proofs.YtjhlehdjdaphcaaDoor
namespace Go.Proofs.YtjhlehdjdaphcaaDoor
open Go.RowKit

theorem pick_none_nil (s : ByteArray) : Ty.pick s [] [] = none := by rw [Ty.pick]
theorem gives_nil (w : World) : Gives w (.map none) (fun s => Ty.pick s [] []) := .inl ⟨rfl, fun s => pick_none_nil s⟩

/-- The first two blocks of a function that takes a type and gives one, and its written result. -/
theorem ret_res {w W : World} {t : Ty} {A : Option Addr} {m c k : Nat} (hB : Below w.heap.size w W) (hk : w.heap.size ≤ k) (hn : t.name.size ≤ 9223372036854775807) (h : Lies W (fun b => Fresh w W b ∧ b ≠ k) A m t.args) :
    TyPost w t (.returned (.agg #[.string t.name, .slice A m c, .int .i64 t.off])) (((W.setCell ⟨k, 0, none⟩ (.string t.name)).setCell ⟨k, 1, none⟩ (.slice A m c)).setCell ⟨k, 2, none⟩ (.int .i64 t.off)) :=
  ⟨A, m, c, rfl, hn, lies_res h (by rintro ⟨_, h⟩; exact h rfl) (fun b hb => ⟨hb.1.1, by rw [size_res]; exact hb.1.2⟩), below_res hB hk⟩

set_option maxRecDepth 100000 in
set_option maxHeartbeats 4000000 in
theorem clone_any (t : Ty) (hll : t.list.length ≤ 1000000) : CloneAt t := by
  intro A m c w hs h
  obtain ⟨hb, hX, hR, hz⟩ := twoW w t.name A m c t.off
  have C := Lib.hid (rep_any [] [] (fun s u hu => by rw [pick_none_nil] at hu; cases hu) t A m c (.map none) _ hs hll (Here.later h hb) (gives_nil _))
  rw [subst_none] at C
  have HB := Lib.hid hb
  have HR := Lib.hid hR
  have HZ := Lib.hid hz
  clear hb hR hz h
  obtain ⟨x0, x1, x2⟩ := hX
  unfold TwoW at *
  go_enter Tryd.func69, Tryd.ntmps69
  go_wp2_with fail
  refine C.out.mono ?_
  rintro e w4 ⟨A4, m4, c4, rfl, hns4, hl4, hb4⟩
  have HL4 := Lib.hid hl4
  have HB4 := Lib.hid (HB.out.trans (hb4.mono HB.out.size))
  obtain ⟨y0, y1, y2, f0, f1, f2⟩ := ResAt.later HR.out hb4
  clear hl4 hb4
  go_wp2_with fail
  refine bodyPost_ret (v := .agg #[.string t.name, .slice A4 m4 c4, .int .i64 t.off]) (by simp [results, Tryd.results69, go_sem, y0, y1, y2]) rfl ?_
  have hz := HZ.out
  exact ret_res HB4.out (Nat.le_succ _) hns4 (LiesN.wide HL4.out fun b hb => ⟨⟨by have := hb.1; omega, hb.2⟩, by have := hb.1; omega⟩)

theorem pick_mem {s : ByteArray} {u : Ty} : ∀ {ns : List ByteArray} {us : List Ty}, Ty.pick s ns us = some u → u ∈ us
  | [], us, h => by rw [Ty.pick] at h; cases h
  | n :: ns, us, h => by
    rw [Ty.pick] at h
    split at h
    · exact List.mem_of_mem_head? h
    · exact List.mem_of_mem_tail (pick_mem h)
theorem clones {us : List Ty} (hu : ∀ u ∈ us, u.Small) (ns : List ByteArray) (s : ByteArray) (u : Ty) (h : Ty.pick s ns us = some u) : CloneAt u :=
  clone_any u (by have := (hu u (pick_mem h)).list; omega)

set_option maxRecDepth 100000 in
set_option maxHeartbeats 4000000 in
theorem all_cap (xs : List Ty) (ns : List ByteArray) (us : List Ty) (A N U : Option Addr) (m c nl ul nc uc : Nat) (w : World) (hus : ∀ u ∈ us, u.Small) (hxs : ∀ x ∈ xs, x.Small) (hm : m ≤ 2000) (hul : ul ≤ 1000) (hF : Fits ns nl nc) (h : Here w A m xs) (hN : Sl w N nl ns) (hU : Here w U ul us) :
    Calls Tryd.prog 61 #[.slice A m c, .slice N nl nc, .slice U ul uc] w (AllPostC w (xs.map (Ty.subst ns us))) := by
  have C1 := Lib.hid (byName_any ns us N U nl ul nc uc w hul hF hN hU)
  have C2 := Lib.hid (fun (mv : Value) (V : World) (hV : Below w.heap.size w V) (hg : Gives V mv (fun s => Ty.pick s ns us)) => allRep_cap ns us xs (fun x hx A' m' c' mv' w' hs hl hh hg' => rep_any ns us (clones hus ns) x A' m' c' mv' w' hs hl hh hg') A m c mv V (by omega) (fun x hx => by have := (hxs x hx).list; omega) (Here.later h hV) hg)
  clear h hN hU
  go_enter Tryd.func61, Tryd.ntmps61
  go_wp2_with fail
  refine C1.out.mono ?_
  rintro e w3 ⟨g, n, rfl, hg3, hb3⟩
  have HG3 := Lib.hid hg3
  have HB3 := Lib.hid hb3
  clear hg3 hb3
  go_wp2_with fail
  refine (C2.out _ _ HB3.out (.inr ⟨_, _, rfl, HG3.out⟩)).mono ?_
  rintro e w4 h4
  obtain ⟨A4, c4, rfl, hc4, hl4, hb4⟩ := h4.since HB3.out
  have HC4 := Lib.hid hc4
  have HL4 := Lib.hid hl4
  have HB4 := Lib.hid hb4
  clear hl4 hb4 h4 hc4
  go_wp2_with fail
  go_ret
  exact ⟨A4, c4, by simp, HC4.out, HL4.out, HB4.out⟩
end Go.Proofs.YtjhlehdjdaphcaaDoor
