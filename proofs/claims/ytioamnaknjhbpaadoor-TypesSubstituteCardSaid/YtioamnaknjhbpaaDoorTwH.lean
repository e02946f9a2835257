/- What a map from names to types holds, and the walk of types.byName, which makes one. The conditions: short slices, whose names' lengths are ints. -/
import Derived.Test.YtioamnaknjhbpaaDoorTwA
import Derived.Maps.OwnSet
import Derived.Maps.OwnOps
namespace Go.Proofs.YtioamnaknjhbpaaDoor
open Go.RowKit

/-! ### what stands for a name -/
theorem pick_nil (s : ByteArray) : ∀ ns : List ByteArray, Ty.pick s ns [] = none
  | [] => rfl
  | n :: ns => by
    rw [Ty.pick]
    split
    · rfl
    · exact pick_nil s ns
theorem pick_snoc (s : ByteArray) : ∀ (k : Nat) (ns : List ByteArray) (us : List Ty) (n : ByteArray) (u : Ty), ns[k]? = some n → us[k]? = some u →
    Ty.pick s (ns.take (k + 1)) us = match Ty.pick s (ns.take k) us with | some t => some t | none => if n.data.toList = s.data.toList then some u else none
  | _, [], _, n, u, hn, _ => by simp at hn
  | _, _ :: _, [], n, u, _, hu => by simp at hu
  | 0, a :: ns, b :: us, n, u, hn, hu => by
    obtain rfl : a = n := by simpa using hn
    obtain rfl : b = u := by simpa using hu
    simp [Ty.pick]
  | k + 1, a :: ns, b :: us, n, u, hn, hu => by
    have ih := pick_snoc s k ns us n u (by simpa using hn) (by simpa using hu)
    simp only [List.take_succ_cons, Ty.pick, List.tail_cons] at ih ⊢
    by_cases ha : a.data.toList = s.data.toList
    · simp [ha]
    · rw [if_neg ha, if_neg ha]
      exact ih
theorem pick_take (s : ByteArray) : ∀ (q : Nat) (ns : List ByteArray) (us : List Ty), q = min ns.length us.length → Ty.pick s (ns.take q) us = Ty.pick s ns us
  | _, [], us, h => by simp
  | q, a :: ns, [], h => by rw [pick_nil, pick_nil]
  | 0, a :: ns, b :: us, h => by simp at h
  | q + 1, a :: ns, b :: us, h => by
    have ih := pick_take s q ns us (by simp at h; omega)
    simp only [List.take_succ_cons, Ty.pick, List.tail_cons]
    rw [ih]

/-! ### a map in memory -/
/-- A value of the map reads as itself. -/
def mR (v : Value) : Option (DataW Value × List MemPlace) := some (.held v, [])
theorem strKeyed : Go.Maps.Keyed Tryd.prog 9 := Go.Maps.string_keyed Tryd.underlying9
theorem zeroTy (w : World) : (zeroValue 24).run Tryd.prog w = .ok (.agg #[.string ⟨#[]⟩, .slice none 0 0, .int .i64 0]) w := by kernel_rfl
theorem keyS {s : ByteArray} (h : s.size ≤ 9223372036854775807) : keyOf Tryd.prog 9 (.string s) = some (.string s.data.toList) := Go.WideMaps.keyOf_string_mk Tryd.underlying9 (by unfold maxLen; omega)
theorem isKeyS (l : List UInt8) : WideAt.IsKeyLit (.string l) := trivial

/-- The map in block g of w gives f; the types that it gives lie in w0. -/
structure GivenAt (w0 w : World) (g n : Nat) (f : ByteArray → Option Ty) : Prop where
  map : ∃ D, w.ownsMap Tryd.prog 9 mR g n D ∧ ∀ s : ByteArray, s.size ≤ 9223372036854775807 →
    match f s with
    | none => Go.Maps.has D (.string s.data.toList) = false
    | some t => Go.Maps.has D (.string s.data.toList) = true ∧ ∃ A c, t.name.size ≤ 9223372036854775807 ∧ Here w0 A t.args.length t.args ∧ ∀ z, D.atKey (.string s.data.toList) z = .held (.agg #[.string t.name, .slice A t.args.length c, .int .i64 t.off])

theorem ownsMap_below {w w' : World} {g n B : Nat} {D : DataW Value} (h : w.ownsMap Tryd.prog 9 mR g n D) (hb : Below B w w') (hg : g < B) : w'.ownsMap Tryd.prog 9 mR g n D := by
  obtain ⟨es, clock, h1, F, hs, hD⟩ := h
  exact ⟨es, clock, (hb.block g hg).trans h1, F, hs, hD⟩
theorem GivenAt.lt {w0 w : World} {g n : Nat} {f : ByteArray → Option Ty} (h : GivenAt w0 w g n f) : g < w.heap.size := by
  obtain ⟨D, h1, _⟩ := h.map
  exact h1.lt
theorem GivenAt.later {w0 w w' : World} {g n : Nat} {f : ByteArray → Option Ty} (h : GivenAt w0 w g n f) (hb : Below w.heap.size w w') : GivenAt w0 w' g n f := by
  have hl := h.lt
  obtain ⟨D, h1, h2⟩ := h.map
  exact ⟨D, ownsMap_below h1 hb hl, h2⟩
theorem GivenAt.base {w0 w0' w : World} {g n : Nat} {f : ByteArray → Option Ty} (h : GivenAt w0 w g n f) (hb : Below w0.heap.size w0 w0') : GivenAt w0' w g n f := by
  obtain ⟨D, h1, h2⟩ := h.map
  refine ⟨D, h1, fun s hs => ?_⟩
  have h3 := h2 s hs
  revert h3
  cases f s with
  | none => exact id
  | some t => exact fun ⟨h4, A, c, h5, h6, h7⟩ => ⟨h4, A, c, h5, Here.later h6 hb, h7⟩
theorem GivenAt.mono {w0 w : World} {g n n' : Nat} {f : ByteArray → Option Ty} (h : GivenAt w0 w g n f) (hn : n ≤ n') : GivenAt w0 w g n' f := by
  obtain ⟨D, h1, h2⟩ := h.map
  exact ⟨D, h1.mono hn, h2⟩
/-- A name that is not in the map. -/
theorem GivenAt.miss {w0 w : World} {g n : Nat} {f : ByteArray → Option Ty} (h : GivenAt w0 w g n f) {s : ByteArray} (hs : s.size ≤ 9223372036854775807) (hf : f s = none) :
    (Instr.lookup 61 (.map (some g)) (.string s) true).run Tryd.prog w = .ok (.tuple #[.agg #[.string ⟨#[]⟩, .slice none 0 0, .int .i64 0], .bool false]) w := by
  obtain ⟨D, h1, h2⟩ := h.map
  have h3 := h2 s hs
  rw [hf] at h3
  obtain ⟨v, ps, hrun, hv⟩ := h1.look_ok strKeyed Tryd.underlying61 (zeroTy w) (zd := .held (.agg #[.string ⟨#[]⟩, .slice none 0 0, .int .i64 0])) (zp := []) rfl (keyS hs)
  rw [h3] at hrun
  rw [Go.Maps.atKey_of_not_has h3] at hv
  obtain rfl : v = .agg #[.string ⟨#[]⟩, .slice none 0 0, .int .i64 0] := by simpa [mR] using congrArg (Option.map Prod.fst) hv
  exact hrun
/-- A name that is in the map. -/
theorem GivenAt.hit {w0 w : World} {g n : Nat} {f : ByteArray → Option Ty} (h : GivenAt w0 w g n f) {s : ByteArray} (hs : s.size ≤ 9223372036854775807) {t : Ty} (hf : f s = some t) :
    ∃ A c, t.name.size ≤ 9223372036854775807 ∧ Here w0 A t.args.length t.args ∧ ∀ w', Below w.heap.size w w' → (Instr.lookup 61 (.map (some g)) (.string s) true).run Tryd.prog w' = .ok (.tuple #[.agg #[.string t.name, .slice A t.args.length c, .int .i64 t.off], .bool true]) w' := by
  have hl := h.lt
  obtain ⟨D, h1, h2⟩ := h.map
  have h3 := h2 s hs
  rw [hf] at h3
  obtain ⟨h4, A, c, h5, h6, h7⟩ := h3
  refine ⟨A, c, h5, h6, fun w' hb => ?_⟩
  obtain ⟨v, ps, hrun, hv⟩ := (ownsMap_below h1 hb hl).look_ok strKeyed Tryd.underlying61 (zeroTy w') (zd := .held (.agg #[.string ⟨#[]⟩, .slice none 0 0, .int .i64 0])) (zp := []) rfl (keyS hs)
  rw [h4] at hrun
  rw [h7] at hv
  obtain rfl : v = .agg #[.string t.name, .slice A t.args.length c, .int .i64 t.off] := by simpa [mR] using congrArg (Option.map Prod.fst) hv
  exact hrun
/-- One more name: it was not there. -/
theorem GivenAt.step {w0 w1 : World} {g n k : Nat} {ns : List ByteArray} {us : List Ty} {D : DataW Value} {s : ByteArray} {u : Ty} {A : Option Addr} {c : Nat} (hk : ns[k]? = some s) (hu : us[k]? = some u)
    (h2 : ∀ s : ByteArray, s.size ≤ 9223372036854775807 → match Ty.pick s (ns.take k) us with
      | none => Go.Maps.has D (.string s.data.toList) = false
      | some t => Go.Maps.has D (.string s.data.toList) = true ∧ ∃ A c, t.name.size ≤ 9223372036854775807 ∧ Here w0 A t.args.length t.args ∧ ∀ z, D.atKey (.string s.data.toList) z = .held (.agg #[.string t.name, .slice A t.args.length c, .int .i64 t.off]))
    (hM : Go.Maps.IsMap D) (hno : Ty.pick s (ns.take k) us = none) (hus : u.name.size ≤ 9223372036854775807) (hh : Here w0 A u.args.length u.args)
    (h1 : w1.ownsMap Tryd.prog 9 mR g n (D.put (.string s.data.toList) (.held (.agg #[.string u.name, .slice A u.args.length c, .int .i64 u.off])))) : GivenAt w0 w1 g n (fun s => Ty.pick s (ns.take (k + 1)) us) := by
  refine ⟨_, h1, fun x hx => ?_⟩
  show match Ty.pick x (ns.take (k + 1)) us with | none => _ | some t => _
  have h3 := h2 x hx
  rw [pick_snoc x k ns us s u hk hu]
  by_cases he : s.data.toList = x.data.toList
  · obtain rfl := bytes_eq he
    rw [hno, if_pos rfl]
    exact ⟨Go.Maps.has_put_same hM (isKeyS _) _, A, c, hus, hh, fun z => Go.Maps.atKey_put_same hM (isKeyS _) _ z⟩
  · have hne : (Lit.string x.data.toList) ≠ .string s.data.toList := fun e => he (by injection e with e; exact e.symm)
    revert h3
    cases Ty.pick x (ns.take k) us with
    | none =>
      intro h3
      simp only [if_neg he]
      rw [Go.Maps.has_put_other hne]
      exact h3
    | some t =>
      intro h3
      obtain ⟨h4, A', c', h5, h6, h7⟩ := h3
      exact ⟨by rw [Go.Maps.has_put_other hne]; exact h4, A', c', h5, h6, fun z => by rw [Go.Maps.atKey_put_other hne]; exact h7 z⟩
/-- One more name that was there already. -/
theorem GivenAt.skip {w0 w : World} {g n k : Nat} {ns : List ByteArray} {us : List Ty} {s : ByteArray} {u t : Ty} (h : GivenAt w0 w g n (fun s => Ty.pick s (ns.take k) us)) (hk : ns[k]? = some s) (hu : us[k]? = some u) (hf : Ty.pick s (ns.take k) us = some t) :
    GivenAt w0 w g n (fun s => Ty.pick s (ns.take (k + 1)) us) := by
  have e : (fun s => Ty.pick s (ns.take (k + 1)) us) = fun s => Ty.pick s (ns.take k) us := by
    funext x
    rw [pick_snoc x k ns us s u hk hu]
    cases hp : Ty.pick x (ns.take k) us with
    | some t => rfl
    | none =>
      by_cases he : s.data.toList = x.data.toList
      · obtain rfl := bytes_eq he
        rw [hp] at hf
        cases hf
      · simp only [if_neg he]
  rw [e]
  exact h

/-- What byName gives. -/
def NamePost (w : World) (ns : List ByteArray) (us : List Ty) (e : Ending) (w' : World) : Prop :=
  ∃ g n, e = .returned (.map (some g)) ∧ GivenAt w' w' g n (fun s => Ty.pick s ns us) ∧ Below w.heap.size w w'

set_option maxRecDepth 100000 in
set_option maxHeartbeats 4000000 in
theorem byName_any (ns : List ByteArray) (us : List Ty) (N U : Option Addr) (nl ul nc uc : Nat) (w : World) (hul : ul ≤ 1000) (hF : Fits ns nl nc) (hN : Sl w N nl ns) (hU : Here w U ul us) :
    Calls Tryd.prog 42 #[.slice N nl nc, .slice U ul uc] w (NamePost w ns us) := by
  obtain ⟨q, hq⟩ : ∃ q, q = min nl ul := ⟨_, rfl⟩
  have hqn : q ≤ nl := by omega
  have hqu : q ≤ ul := by omega
  have z0 : min (nl : Int) (ul : Int) = (q : Int) := by omega
  have z1 : (0 : Int) ≤ q := by omega
  have z2 : (q : Int) ≤ nc := by have := hF.1; omega
  have hsl : ∀ W : World, (Instr.slice 31 (.slice N nl nc) none (some (.int .i64 (q : Int))) none).run Tryd.prog W = .ok (.slice N q nc) W := fun W => by
    rw [run_slice_h W 31 N nl nc Tryd.underlying31 .i64 q z1 z2]
    simp [sliced, go_sem]
  have hmm := @run_makeMap Tryd.prog
  have h0 : GivenAt w (w.alloc (.map #[] 0)) w.heap.size 0 (fun s => Ty.pick s (ns.take 0) us) := by
    refine ⟨.map [], World.ownsMap_made _ _ _ _, fun s hs => ?_⟩
    simp only [List.take_zero, Ty.pick]
    rfl
  have hb0 : Below w.heap.size w (w.alloc (.map #[] 0)) := (Below.refl _ _).alloc (Nat.le_refl _) _
  have H0 := Lib.hid h0
  have HB0 := Lib.hid hb0
  have HN := Lib.hid hN
  have HU := Lib.hid hU
  have HF := Lib.hid hF
  have HT := Lib.hid (fun s => pick_take s q ns us (by rw [hN.len, hU.len]; exact hq))
  have hx := hN.len
  have hy := hU.len
  clear h0 hb0 hN hU hF hq
  go_enter Tryd.func42, Tryd.ntmps42
  go_wp2_with fail
  go_loopw [19] (fun i wr => ∃ k : Nat, k ≤ q ∧ i = .int .i64 k ∧ GivenAt w wr w.heap.size k (fun s => Ty.pick s (ns.take k) us) ∧ Below w.heap.size w wr) (fun i _ => q - (intOf i).toNat)
  case atStart => exact ⟨0, by omega, rfl, H0.out, HB0.out⟩
  case round =>
    obtain ⟨k, hk, rfl, hg, hbel⟩ := hrel
    have HBL := Lib.hid hbel
    have y1 : (0 : Int) ≤ k := by omega
    by_cases hlt : k < q
    · have y0 : (k : Int) < q := by omega
      have y2 : (k : Int) < ul := by omega
      obtain ⟨a, s, rfl, hs, c0⟩ := (HN.out.later hbel).get (show k < nl by omega)
      obtain ⟨b, u, ys, p, B, m, d, rfl, hu, _, d0, d1, d2, hus, hl⟩ := Lies.get HU.out (show k < ul by omega)
      obtain rfl := hl.len
      have b0 := (hbel.cell (cell_lt d0)).trans d0
      have b1 := (hbel.cell (cell_lt d1)).trans d1
      have b2 := (hbel.cell (cell_lt d2)).trans d2
      clear d0 d1 d2
      have HH := Lib.hid hl
      have HUS := Lib.hid hus
      have hsz := HF.out.2 s (List.mem_of_getElem? hs)
      have HS := Lib.hid hs
      have HUU := Lib.hid hu
      have HSZ := Lib.hid hsz
      cases hp : Ty.pick s (ns.take k) us with
      | none =>
        have hrun := hg.miss hsz hp
        have HP := Lib.hid hp
        obtain ⟨D, hm1, hm2⟩ := hg.map
        have HM := Lib.hid (hm1.alloc (.cells #[.string ⟨#[]⟩, .slice none 0 0, .int .i64 0] 24))
        have HM2 := Lib.hid hm2
        have HIM := Lib.hid hm1.isMap
        have HBA := Lib.hid (hbel.alloc hbel.size (.cells #[.string ⟨#[]⟩, .slice none 0 0, .int .i64 0] 24))
        have b0' := elem_later b0 (.cells #[.string ⟨#[]⟩, .slice none 0 0, .int .i64 0] 24)
        have b1' := elem_later b1 (.cells #[.string ⟨#[]⟩, .slice none 0 0, .int .i64 0] 24)
        have b2' := elem_later b2 (.cells #[.string ⟨#[]⟩, .slice none 0 0, .int .i64 0] 24)
        clear hs hu hus hl hp hg hm1 hm2 hbel b0 b1 b2 hsz
        go_wp2_with (at_mapUpdate; refine wpList_mapUpdate_own _ rfl _ _ _ 61 rfl 9 24 strKeyed Tryd.underlying61 mR w.heap.size k D rfl HM.out (by unfold maxLen; omega) _ _ _ rfl rfl (keyS HSZ.out) _ [] rfl ?_; intro w1 hown1 hgrow1; have HO := Lib.hid hown1; have HG := Lib.hid hgrow1; clear hown1 hgrow1)
        go_roundw
        case rel =>
          refine ⟨k + 1, by omega, by go_num, ?_, HBA.out.grown HG.out HBA.out.size (fun j hj => by cases hj; exact Nat.le_refl _)⟩
          exact GivenAt.step HS.out HUU.out HM2.out HIM.out HP.out HUS.out HH.out HO.out
        case measure => simp [intOf]; omega
      | some t =>
        obtain ⟨A, c, _, _, hrun0⟩ := hg.hit hsz hp
        have hrun := hrun0 wr (Below.refl _ _)
        have HGG := Lib.hid ((hg.skip hs hu hp).mono (Nat.le_succ k))
        have hba : Below wr.heap.size wr (wr.alloc (.cells #[.string t.name, .slice A t.args.length c, .int .i64 t.off] 24)) := (Below.refl _ _).alloc (Nat.le_refl _) _
        have HGL := Lib.hid (HGG.out.later hba)
        have HBA := Lib.hid (hbel.trans (hba.mono hbel.size))
        clear hs hu hus hl hp hg hbel b0 b1 b2 hsz hrun0 hba
        go_wp2_with fail
        go_roundw
        case rel => exact ⟨k + 1, by omega, by go_num, HGL.out, HBA.out⟩
        case measure => simp [intOf]; omega
    · have y0 : (q : Int) ≤ k := by omega
      obtain rfl : k = q := by omega
      have e : (fun s => Ty.pick s (ns.take k) us) = fun s => Ty.pick s ns us := funext HT.out
      rw [e] at hg
      have HG := Lib.hid (hg.base hbel)
      clear hg hbel e
      go_wp2_with fail
      go_ret
      exact ⟨_, _, rfl, HG.out, HBL.out⟩
end Go.Proofs.YtioamnaknjhbpaaDoor
