/- The walk of expr.byName: a map from names to expressions. The condition: few of them. -/
import Derived.Test.YtnfakhohoibkpaaDoorEkV
import Derived.Test.YtnfakhohoibkpaaDoorEkA
namespace Go.Proofs.YtnfakhohoibkpaaDoor
open Go.RowKit

/-! ### what stands for a name -/
theorem xpick_nil (s : ByteArray) : ∀ ns : List ByteArray, Ex.pick s ns [] = none
  | [] => rfl
  | n :: ns => by
    rw [Ex.pick]
    split
    · rfl
    · exact xpick_nil s ns
theorem xpick_snoc (s : ByteArray) : ∀ (k : Nat) (ns : List ByteArray) (us : List Ex) (n : ByteArray) (u : Ex), ns[k]? = some n → us[k]? = some u →
    Ex.pick s (ns.take (k + 1)) us = match Ex.pick s (ns.take k) us with | some t => some t | none => if n.data.toList = s.data.toList then some u else none
  | _, [], _, n, u, hn, _ => by simp at hn
  | _, _ :: _, [], n, u, _, hu => by simp at hu
  | 0, a :: ns, b :: us, n, u, hn, hu => by
    obtain rfl : a = n := by simpa using hn
    obtain rfl : b = u := by simpa using hu
    simp [Ex.pick]
  | k + 1, a :: ns, b :: us, n, u, hn, hu => by
    have ih := xpick_snoc s k ns us n u (by simpa using hn) (by simpa using hu)
    simp only [List.take_succ_cons, Ex.pick, List.tail_cons] at ih ⊢
    by_cases ha : a.data.toList = s.data.toList
    · simp [ha]
    · rw [if_neg ha, if_neg ha]
      exact ih
theorem xpick_take (s : ByteArray) : ∀ (q : Nat) (ns : List ByteArray) (us : List Ex), q = min ns.length us.length → Ex.pick s (ns.take q) us = Ex.pick s ns us
  | _, [], us, h => by simp
  | q, a :: ns, [], h => by rw [xpick_nil, xpick_nil]
  | 0, a :: ns, b :: us, h => by simp at h
  | q + 1, a :: ns, b :: us, h => by
    have ih := xpick_take s q ns us (by simp at h; omega)
    simp only [List.take_succ_cons, Ex.pick, List.tail_cons]
    rw [ih]
/-! ### a map in memory -/
theorem zeroEx (w : World) : (zeroValue 27).run Tryd.prog w = .ok (.agg #[.int .i64 0, .string ⟨#[]⟩, .string ⟨#[]⟩, .slice none 0 0, .int .i64 0, .slice none 0 0, .slice none 0 0, .int .i64 0]) w := by kernel_rfl
def zeroE : Value := .agg #[.int .i64 0, .string ⟨#[]⟩, .string ⟨#[]⟩, .slice none 0 0, .int .i64 0, .slice none 0 0, .slice none 0 0, .int .i64 0]
/-- The map D gives f; what it gives lies in w0. -/
def XGives (w0 : World) (D : DataW Value) (f : ByteArray → Option Ex) : Prop := ∀ s : ByteArray, s.size ≤ 9223372036854775807 →
    match f s with
    | none => Go.Maps.has D (.string s.data.toList) = false
    | some e => Go.Maps.has D (.string s.data.toList) = true ∧ ∃ us, e.dat.H w0 us ∧ ∀ z, D.atKey (.string s.data.toList) z = .held (.agg us.toArray)
theorem XGives.base {w0 w0' : World} {D : DataW Value} {f : ByteArray → Option Ex} (h : XGives w0 D f) (hb : Below w0.heap.size w0 w0') : XGives w0' D f := fun s hs => by
  have h3 := h s hs
  revert h3
  cases f s with
  | none => exact id
  | some t => exact fun ⟨h4, us, h5, h6⟩ => ⟨h4, us, Dat.H.later h5 hb, h6⟩
/-- The map in block g of w gives f; the expressions that it gives lie in w0. -/
def XGivenAt (w0 w : World) (g n : Nat) (f : ByteArray → Option Ex) : Prop := ∃ D, w.ownsMap Tryd.prog 9 mR g n D ∧ XGives w0 D f
theorem XGivenAt.lt {w0 w : World} {g n : Nat} {f : ByteArray → Option Ex} (h : XGivenAt w0 w g n f) : g < w.heap.size := by
  obtain ⟨D, h1, _⟩ := h
  exact h1.lt
theorem XGivenAt.later {w0 w w' : World} {g n : Nat} {f : ByteArray → Option Ex} (h : XGivenAt w0 w g n f) (hb : Below w.heap.size w w') : XGivenAt w0 w' g n f := by
  have hl := h.lt
  obtain ⟨D, h1, h2⟩ := h
  exact ⟨D, ownsMap_below h1 hb hl, h2⟩
theorem XGivenAt.base {w0 w0' w : World} {g n : Nat} {f : ByteArray → Option Ex} (h : XGivenAt w0 w g n f) (hb : Below w0.heap.size w0 w0') : XGivenAt w0' w g n f := by
  obtain ⟨D, h1, h2⟩ := h
  exact ⟨D, h1, h2.base hb⟩
theorem XGivenAt.mono {w0 w : World} {g n n' : Nat} {f : ByteArray → Option Ex} (h : XGivenAt w0 w g n f) (hn : n ≤ n') : XGivenAt w0 w g n' f := by
  obtain ⟨D, h1, h2⟩ := h
  exact ⟨D, h1.mono hn, h2⟩
/-- A name that is not in the map. -/
theorem XGivenAt.miss {w0 w : World} {g n : Nat} {f : ByteArray → Option Ex} (h : XGivenAt w0 w g n f) {s : ByteArray} (hs : s.size ≤ 9223372036854775807) (hf : f s = none) : ∀ w', Below w.heap.size w w' →
    (Instr.lookup 68 (.map (some g)) (.string s) true).run Tryd.prog w' = .ok (.tuple #[.agg #[.int .i64 0, .string ⟨#[]⟩, .string ⟨#[]⟩, .slice none 0 0, .int .i64 0, .slice none 0 0, .slice none 0 0, .int .i64 0], .bool false]) w' := by
  have hl := h.lt
  obtain ⟨D, h1, h2⟩ := h
  have h3 := h2 s hs
  rw [hf] at h3
  intro w' hb
  obtain ⟨v, ps, hrun, hv⟩ := (ownsMap_below h1 hb hl).look_ok strKeyed Tryd.underlying68 (zeroEx w') (zd := .held zeroE) (zp := []) rfl (keyS hs)
  rw [h3] at hrun
  rw [Go.Maps.atKey_of_not_has h3] at hv
  obtain rfl : v = zeroE := by simpa [mR] using congrArg (Option.map Prod.fst) hv
  exact hrun
/-- A name that is in the map. -/
theorem XGivenAt.hit {w0 w : World} {g n : Nat} {f : ByteArray → Option Ex} (h : XGivenAt w0 w g n f) {s : ByteArray} (hs : s.size ≤ 9223372036854775807) {e : Ex} (hf : f s = some e) :
    ∃ us, e.dat.H w0 us ∧ ∀ w', Below w.heap.size w w' → (Instr.lookup 68 (.map (some g)) (.string s) true).run Tryd.prog w' = .ok (.tuple #[.agg us.toArray, .bool true]) w' := by
  have hl := h.lt
  obtain ⟨D, h1, h2⟩ := h
  have h3 := h2 s hs
  rw [hf] at h3
  obtain ⟨h4, us, h5, h7⟩ := h3
  refine ⟨us, h5, fun w' hb => ?_⟩
  obtain ⟨v, ps, hrun, hv⟩ := (ownsMap_below h1 hb hl).look_ok strKeyed Tryd.underlying68 (zeroEx w') (zd := .held zeroE) (zp := []) rfl (keyS hs)
  rw [h4] at hrun
  rw [h7] at hv
  obtain rfl : v = .agg us.toArray := by simpa [mR] using congrArg (Option.map Prod.fst) hv
  exact hrun
/-- One more name: it was not there. -/
theorem XGivenAt.step {w0 w1 : World} {g n k : Nat} {ns : List ByteArray} {es : List Ex} {D : DataW Value} {s : ByteArray} {u : Ex} {us : List Value} (hk : ns[k]? = some s) (hu : es[k]? = some u)
    (h2 : XGives w0 D (fun s => Ex.pick s (ns.take k) es)) (hM : Go.Maps.IsMap D) (hno : Ex.pick s (ns.take k) es = none) (hh : u.dat.H w0 us)
    (h1 : w1.ownsMap Tryd.prog 9 mR g n (D.put (.string s.data.toList) (.held (.agg us.toArray)))) : XGivenAt w0 w1 g n (fun s => Ex.pick s (ns.take (k + 1)) es) := by
  refine ⟨_, h1, fun x hx => ?_⟩
  show match Ex.pick x (ns.take (k + 1)) es with | none => _ | some t => _
  have h3 := h2 x hx
  simp only at h3
  rw [xpick_snoc x k ns es s u hk hu]
  by_cases he : s.data.toList = x.data.toList
  · obtain rfl := bytes_eq he
    rw [hno, if_pos rfl]
    exact ⟨Go.Maps.has_put_same hM (isKeyS _) _, us, hh, fun z => Go.Maps.atKey_put_same hM (isKeyS _) _ z⟩
  · have hne : (Lit.string x.data.toList) ≠ .string s.data.toList := fun e => he (by injection e with e; exact e.symm)
    revert h3
    cases Ex.pick x (ns.take k) es with
    | none =>
      intro h3
      simp only [if_neg he]
      rw [Go.Maps.has_put_other hne]
      exact h3
    | some t =>
      intro h3
      obtain ⟨h4, us', h5, h7⟩ := h3
      exact ⟨by rw [Go.Maps.has_put_other hne]; exact h4, us', h5, fun z => by rw [Go.Maps.atKey_put_other hne]; exact h7 z⟩
/-- One more name that was there already. -/
theorem XGivenAt.skip {w0 w : World} {g n k : Nat} {ns : List ByteArray} {es : List Ex} {s : ByteArray} {u t : Ex} (h : XGivenAt w0 w g n (fun s => Ex.pick s (ns.take k) es)) (hk : ns[k]? = some s) (hu : es[k]? = some u) (hf : Ex.pick s (ns.take k) es = some t) :
    XGivenAt w0 w g n (fun s => Ex.pick s (ns.take (k + 1)) es) := by
  have e : (fun s => Ex.pick s (ns.take (k + 1)) es) = fun s => Ex.pick s (ns.take k) es := by
    funext x
    rw [xpick_snoc x k ns es s u hk hu]
    cases hp : Ex.pick x (ns.take k) es with
    | some t => rfl
    | none =>
      by_cases he : s.data.toList = x.data.toList
      · obtain rfl := bytes_eq he
        rw [hp] at hf
        cases hf
      · simp only [if_neg he]
  rw [e]
  exact h

/-- What byName gives. -/
def XNamePost (w : World) (ns : List ByteArray) (es : List Ex) (e : Ending) (w' : World) : Prop :=
  ∃ g n, e = .returned (.map (some g)) ∧ XGivenAt w' w' g n (fun s => Ex.pick s ns es) ∧ Below w.heap.size w w'

set_option maxRecDepth 100000 in
set_option maxHeartbeats 8000000 in
theorem xbyName_any (ns : List ByteArray) (es : List Ex) (N U : Option Addr) (nl ul nc uc : Nat) (w : World) (hul : ul ≤ 1000) (hF : Fits ns nl nc) (hN : Sl w N nl ns) (hU : RowH w 8 U ul (Ex.dats es)) :
    Calls Tryd.prog 55 #[.slice N nl nc, .slice U ul uc] w (XNamePost w ns es) := by
  obtain ⟨q, hq⟩ : ∃ q, q = min nl ul := ⟨_, rfl⟩
  have hqn : q ≤ nl := by omega
  have hqu : q ≤ ul := by omega
  have z0 : min (nl : Int) (ul : Int) = (q : Int) := by omega
  have z1 : (0 : Int) ≤ q := by omega
  have z2 : (q : Int) ≤ nc := by have := hF.1; omega
  have hsl : ∀ W : World, (Instr.slice 33 (.slice N nl nc) none (some (.int .i64 (q : Int))) none).run Tryd.prog W = .ok (.slice N q nc) W := fun W => by
    rw [run_slice_h W 33 N nl nc Tryd.underlying33 .i64 q z1 z2]
    simp [sliced, go_sem]
  have hmm := @run_makeMap Tryd.prog
  have hy := hU.len
  rw [Ex.dats_len] at hy
  have hx := hN.len
  have h0 : XGivenAt w (w.alloc (.map #[] 0)) w.heap.size 0 (fun s => Ex.pick s (ns.take 0) es) := by
    refine ⟨.map [], World.ownsMap_made _ _ _ _, fun s hs => ?_⟩
    simp only [List.take_zero, Ex.pick]
    rfl
  have hb0 : Below w.heap.size w (w.alloc (.map #[] 0)) := (Below.refl _ _).alloc (Nat.le_refl _) _
  have H0 := Lib.hid h0
  have HB0 := Lib.hid hb0
  have HN := Lib.hid hN
  have HU := Lib.hid hU
  have HF := Lib.hid hF
  have HT := Lib.hid (fun s => xpick_take s q ns es (by rw [hx, hy]; exact hq))
  clear h0 hb0 hN hU hF hq
  go_enter Tryd.func55, Tryd.ntmps55
  go_wp2_with fail
  go_loopw [19] (fun i wr => ∃ k : Nat, k ≤ q ∧ i = .int .i64 k ∧ XGivenAt w wr w.heap.size k (fun s => Ex.pick s (ns.take k) es) ∧ Below w.heap.size w wr) (fun i _ => q - (intOf i).toNat)
  case atStart => exact ⟨0, by omega, rfl, H0.out, HB0.out⟩
  case round =>
    obtain ⟨k, hk, rfl, hg, hbel⟩ := hrel
    have HBL := Lib.hid hbel
    have y1 : (0 : Int) ≤ k := by omega
    by_cases hlt : k < q
    · have y0 : (k : Int) < q := by omega
      have y2 : (k : Int) < ul := by omega
      obtain ⟨a, s, rfl, hs, c0⟩ := (HN.out.later hbel).get (show k < nl by omega)
      obtain ⟨b, u, ps, rfl, hu, hbl, _, hud, hcs⟩ := kid_at HU.out (show k < ul by omega)
      have hcs2 := hcs.later hbel
      have HUD := Lib.hid hud
      obtain ⟨_, _, _, _, _, _, _, _, _, rfl, _⟩ := ex_open hud
      have hsz := HF.out.2 s (List.mem_of_getElem? hs)
      have HS := Lib.hid hs
      have HUU := Lib.hid hu
      have HSZ := Lib.hid hsz
      cases hp : Ex.pick s (ns.take k) es with
      | none =>
        have hrun := hg.miss hsz hp wr (Below.refl _ _)
        have HP := Lib.hid hp
        obtain ⟨D, hm1, hm2⟩ := hg
        have HM := Lib.hid (hm1.alloc (.cells #[.int .i64 0, .string ⟨#[]⟩, .string ⟨#[]⟩, .slice none 0 0, .int .i64 0, .slice none 0 0, .slice none 0 0, .int .i64 0] 27))
        have HM2 := Lib.hid hm2
        have HIM := Lib.hid hm1.isMap
        have HBA := Lib.hid (hbel.alloc hbel.size (.cells #[.int .i64 0, .string ⟨#[]⟩, .string ⟨#[]⟩, .slice none 0 0, .int .i64 0, .slice none 0 0, .slice none 0 0, .int .i64 0] 27))
        have hcs3 := hcs2.alloc (.cells #[.int .i64 0, .string ⟨#[]⟩, .string ⟨#[]⟩, .slice none 0 0, .int .i64 0, .slice none 0 0, .slice none 0 0, .int .i64 0] 27)
        obtain ⟨b0, b1, b2, b3, b4, b5, b6, b7⟩ := cells8_at hcs3
        clear hs hu hud hcs hcs2 hcs3 hp hm1 hm2 hbel hsz
        go_wp2_with (at_mapUpdate; refine wpList_mapUpdate_own _ rfl _ _ _ 68 rfl 9 27 strKeyed Tryd.underlying68 mR w.heap.size k D rfl HM.out (by unfold maxLen; omega) _ _ _ rfl rfl (keyS HSZ.out) _ [] rfl ?_; intro w1 hown1 hgrow1; have HO := Lib.hid hown1; have HG := Lib.hid hgrow1; clear hown1 hgrow1)
        go_roundw
        case rel =>
          refine ⟨k + 1, by omega, by go_num, ?_, HBA.out.grown HG.out HBA.out.size (fun j hj => by cases hj; exact Nat.le_refl _)⟩
          exact XGivenAt.step HS.out HUU.out HM2.out HIM.out HP.out HUD.out HO.out
        case measure => simp [intOf]; omega
      | some t =>
        obtain ⟨vs, hvd, hrun0⟩ := hg.hit hsz hp
        have hrun := hrun0 wr (Below.refl _ _)
        have HGG := Lib.hid ((hg.skip hs hu hp).mono (Nat.le_succ k))
        have hba : Below wr.heap.size wr (wr.alloc (.cells vs.toArray 27)) := (Below.refl _ _).alloc (Nat.le_refl _) _
        have HGL := Lib.hid (HGG.out.later hba)
        have HBA := Lib.hid (hbel.trans (hba.mono hbel.size))
        obtain ⟨_, _, _, _, _, _, _, _, _, rfl, _⟩ := ex_open hvd
        clear hs hu hud hcs hcs2 hp hg hbel hsz hrun0 hba hvd
        go_wp2_with fail
        go_roundw
        case rel => exact ⟨k + 1, by omega, by go_num, HGL.out, HBA.out⟩
        case measure => simp [intOf]; omega
    · have y0 : (q : Int) ≤ k := by omega
      obtain rfl : k = q := by omega
      have e : (fun s => Ex.pick s (ns.take k) es) = fun s => Ex.pick s ns es := funext HT.out
      rw [e] at hg
      have HG := Lib.hid (hg.base hbel)
      clear hg hbel e
      go_wp2_with fail
      go_ret
      exact ⟨_, _, rfl, HG.out, HBL.out⟩
end Go.Proofs.YtnfakhohoibkpaaDoor
