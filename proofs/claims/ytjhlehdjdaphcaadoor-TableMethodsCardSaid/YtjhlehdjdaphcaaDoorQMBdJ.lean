/- The walks of bind.Names and of the reference's Names. The condition: few formals.
The walks of name.Local and of the reference's Decimal and Local. No condition but the table of powers.
A signature in rows of its own, whose formals and parameters are then named anew; local names in a row. No condition. -/
import Derived.Test.YtjhlehdjdaphcaaDoorQMBdG
import Derived.Test.YtjhlehdjdaphcaaDoorShelf
import Derived.WalkKit
import Derived.WalkSmall
import Derived.Lib.LaidTab
import Derived.Lib.ItoaNum
import Derived.Lib.ItoaLen
import Derived.Lib.AppendIntMem
import Derived.Lib.SmallJoins
import Derived.Deep.RegionWith
namespace Go.Proofs.YtjhlehdjdaphcaaDoor
open Go.RowKit

/-- A slice of strings that a call has made. -/
def NmsPost (w : World) (l : List ByteArray) (e : Ending) (w' : World) : Prop := ∃ A c, e = .returned (.slice A l.length c) ∧ l.length ≤ c ∧ Sl w' A l.length l ∧ Below w.heap.size w w'
theorem own_capB {w : World} {base n size c : Nat} {A : Option Addr} {e : TypeId} {xs : List Value} (h : w.ownsRow base e size (.slice A n c) n xs) : n ≤ c := by
  rcases h.2 with ⟨e, rfl⟩ | ⟨g, cap, _, e, _, _, hn, _⟩
  · omega
  · simp only [Value.slice.injEq] at e
    omega
theorem nms_end {w wr : World} {v : Value} {l : List ByteArray} {k : Nat} (hk : l.length = k) (h : wr.ownsRow w.heap.size 9 1 v k (l.map boxS)) (hb : Below w.heap.size w wr) : NmsPost w l (.returned v) wr := by
  obtain ⟨A, c, rfl, hs⟩ := sl_of_own hk h
  subst hk
  exact ⟨A, c, rfl, own_capB h, hs, hb⟩
theorem names_small {s : Sg} (h : s.wt ≤ 1990) : ∀ n ∈ s.names, n.size ≤ 9223372036854775807 := fun n hn => by
  obtain ⟨f, hf, rfl⟩ := List.mem_map.1 hn
  have := Sg.wt_f hf
  have := Fo.wt_name (f := f) (by omega)
  omega
theorem one_string_one {s : ByteArray} : ∀ u ∈ ([.string s] : List Value), u.oneCell' = true := by
  intro u hu
  simp only [List.mem_singleton] at hu
  subst hu; rfl
set_option maxRecDepth 100000 in
set_option maxHeartbeats 8000000 in
theorem bnames_any (xs : List Fo) (A : Option Addr) (q c : Nat) (w : World) (hq : q ≤ 100000) (h : RowH w 5 A q (xs.map Fo.dat)) : Calls Tryd.prog 36 #[.slice A q c] w (NmsPost w (xs.map Fo.name)) := by
  have hxl := h.len
  rw [List.length_map] at hxl
  have H1 := Lib.hid h
  have HXL := Lib.hid hxl
  have hqi : (q : Int) ≤ 100000 := by omega
  have hq0 : (0 : Int) ≤ q := by omega
  clear h hxl
  go_enter Tryd.func36, Tryd.ntmps36
  go_wp2_with fail
  go_loopw [3, 8] (fun v i wr => ∃ k : Nat, k ≤ q ∧ i = .int .i64 k ∧ wr.ownsRow w.heap.size 9 1 v k (((xs.take k).map Fo.name).map boxS) ∧ Below w.heap.size w wr) (fun _ i _ => q - (intOf i).toNat)
  case atStart => exact ⟨0, by omega, rfl, World.ownsRow_nil _ _ _ _, Below.refl _ _⟩
  case round =>
    obtain ⟨k, hk, rfl, hown, hbel⟩ := hrel
    have HBL := Lib.hid hbel
    have HOW := Lib.hid hown
    have y1 : (0 : Int) ≤ k := by omega
    by_cases hlt : k < q
    · have y0 : (k : Int) < q := by omega
      obtain ⟨p, x, ps, rfl, hx, _, _, hu, hcs⟩ := dat_at (RowH.later H1.out hbel) hlt
      obtain ⟨B, m, a, rfl, hn, _, _⟩ := fo_open hu
      have HST := Lib.hid (show ((xs.take (k + 1)).map Fo.name).map boxS = ((xs.take k).map Fo.name).map boxS ++ [.string x.name] by rw [Ex.take_at hx, List.map_append, List.map_append]; rfl)
      have HFC := Lib.hid hcs
      obtain ⟨W1, hP1⟩ := putZ #[.string ⟨#[]⟩, .string ⟨#[]⟩, .slice none 0 0, .int .i64 0, .int .i64 0] 65 wr (us := [.string x.name, .string x.ty.name, .slice B m a, .int .i64 x.ty.off, .int .i64 x.off]) rfl
      have HP1 := Lib.hid hP1
      have x0 := hP1.box 0 _ rfl
      have hba : Below W1.heap.size W1 (W1.alloc (.cells #[.string x.name] 9)) := (Below.refl _ _).alloc (Nat.le_refl _) _
      have HB2 := Lib.hid (show Below wr.heap.size wr (W1.alloc (.cells #[.string x.name] 9)) from hP1.bel.trans (hba.mono hP1.bel.size))
      have HO2 := Lib.hid (own_below hown HB2.out)
      have HC2 := Lib.hid (show CellsAt (W1.alloc (.cells #[.string x.name] 9)) ⟨W1.heap.size, 0, none⟩ [.string x.name] from (Boxd.new W1 #[.string x.name] 9).at0)
      clear hP1 hba
      clear hx hu hcs hn hown hbel
      go_wp2_with (first
        | (refine loadOp flatFo 10 11 rfl HFC.out rfl ?_)
        | (refine storeOp flatFo 5 11 (b := wr.heap.size) (o := 0) (us := [.string x.name, .string x.ty.name, .slice B m a, .int .i64 x.ty.off, .int .i64 x.off]) rfl rfl HP1.out.there five_oneB rfl ?_; rw [HP1.out.eq])
        | (at_builtin; refine wpList_append_row slStr rfl _ _ rfl rfl rfl HO2.out (by have := HBL.out.size; have := HB2.out.size; omega) (m := 1) rfl (fun a ha j u hu => by obtain rfl := Option.some.inj ha; exact HC2.out j u hu) one_string_one (fun _ => ⟨_, rfl⟩) (by omega) (by omega) ?_; intro v4 w4 hA; have HOA := Lib.hid hA.own; have HBA := Lib.hid ((HBL.out.trans (HB2.out.mono HBL.out.size)).grown hA.grow (by have := HBL.out.size; have := HB2.out.size; omega) (own_base HO2.out)); clear hA))
      go_roundw
      case rel => exact ⟨k + 1, by omega, by go_num, by rw [HST.out]; exact HOA.out, HBA.out⟩
      case measure => simp [intOf]; omega
    · have y0 : (q : Int) ≤ k := by omega
      obtain rfl : k = q := by omega
      clear hown hbel
      go_wp2_with fail
      go_ret
      have ho := HOW.out
      rw [List.take_of_length_le (by rw [HXL.out]; omega)] at ho
      exact nms_end (by rw [List.length_map]; exact HXL.out) ho HBL.out
set_option maxRecDepth 100000 in
set_option maxHeartbeats 8000000 in
theorem rnames_any (xs : List Fo) (A : Option Addr) (q c : Nat) (w : World) (hq : q ≤ 100000) (h : RowH w 5 A q (xs.map Fo.dat)) : Calls Tryd.prog 48 #[.slice A q c] w (NmsPost w (xs.map Fo.name)) := by
  have hxl := h.len
  rw [List.length_map] at hxl
  have H1 := Lib.hid h
  have HXL := Lib.hid hxl
  have hqi : (q : Int) ≤ 100000 := by omega
  have hq0 : (0 : Int) ≤ q := by omega
  clear h hxl
  go_enter Tryd.func48, Tryd.ntmps48
  go_wp2_with fail
  go_loopw [3, 4] (fun v i wr => ∃ k : Nat, k ≤ q ∧ i = .int .i64 k ∧ wr.ownsRow w.heap.size 9 1 v k (((xs.take k).map Fo.name).map boxS) ∧ Below w.heap.size w wr) (fun _ i _ => q - (intOf i).toNat)
  case atStart => exact ⟨0, by omega, rfl, World.ownsRow_nil _ _ _ _, Below.refl _ _⟩
  case round =>
    obtain ⟨k, hk, rfl, hown, hbel⟩ := hrel
    have HBL := Lib.hid hbel
    have HOW := Lib.hid hown
    have y1 : (0 : Int) ≤ k := by omega
    by_cases hlt : k < q
    · have y0 : (k : Int) < q := by omega
      obtain ⟨p, x, ps, rfl, hx, _, _, hu, hcs⟩ := dat_at (RowH.later H1.out hbel) hlt
      obtain ⟨B, m, a, rfl, hn, _, _⟩ := fo_open hu
      have HST := Lib.hid (show ((xs.take (k + 1)).map Fo.name).map boxS = ((xs.take k).map Fo.name).map boxS ++ [.string x.name] by rw [Ex.take_at hx, List.map_append, List.map_append]; rfl)
      have HFC := Lib.hid hcs
      have x0 : wr.cell? (p.add (k * 5)) = some (.string x.name) := (cells5_at hcs).1
      have hba : Below wr.heap.size wr (wr.alloc (.cells #[.string x.name] 9)) := (Below.refl _ _).alloc (Nat.le_refl _) _
      have HB2 := Lib.hid (show Below wr.heap.size wr (wr.alloc (.cells #[.string x.name] 9)) from hba)
      have HO2 := Lib.hid (own_below hown HB2.out)
      have HC2 := Lib.hid (show CellsAt (wr.alloc (.cells #[.string x.name] 9)) ⟨wr.heap.size, 0, none⟩ [.string x.name] from (Boxd.new wr #[.string x.name] 9).at0)
      clear hba
      clear hx hu hcs hn hown hbel
      go_wp2_with (first
        | (at_builtin; refine wpList_append_row slStr rfl _ _ rfl rfl rfl HO2.out (by have := HBL.out.size; have := HB2.out.size; omega) (m := 1) rfl (fun a ha j u hu => by obtain rfl := Option.some.inj ha; exact HC2.out j u hu) one_string_one (fun _ => ⟨_, rfl⟩) (by omega) (by omega) ?_; intro v4 w4 hA; have HOA := Lib.hid hA.own; have HBA := Lib.hid ((HBL.out.trans (HB2.out.mono HBL.out.size)).grown hA.grow (by have := HBL.out.size; have := HB2.out.size; omega) (own_base HO2.out)); clear hA))
      go_roundw
      case rel => exact ⟨k + 1, by omega, by go_num, by rw [HST.out]; exact HOA.out, HBA.out⟩
      case measure => simp [intOf]; omega
    · have y0 : (q : Int) ≤ k := by omega
      obtain rfl : k = q := by omega
      clear hown hbel
      go_wp2_with fail
      go_ret
      have ho := HOW.out
      rw [List.take_of_length_le (by rw [HXL.out]; omega)] at ho
      exact nms_end (by rw [List.length_map]; exact HXL.out) ho HBL.out
end Go.Proofs.YtjhlehdjdaphcaaDoor

namespace Go.Proofs.YtjhlehdjdaphcaaDoor
open Go.RowKit Go.Lib

theorem gPow : Tryd.prog.globalNamed "internal/strconv.uint64pow10" = some 0 := by kernel_rfl
/-- The table of powers of ten. -/
def PowVar (w : World) : Prop := Lib.TabIs Tryd.prog w "internal/strconv.uint64pow10" .u64 Lib.pow10Tab
theorem pow_lt {w : World} {n : String} {g : Nat} {cs : Array Value} (hg : Tryd.prog.globalNamed n = some g) (h : w.var? Tryd.prog n = some cs) : g < w.heap.size := by
  unfold World.var? at h
  rw [hg] at h
  simp only [Option.bind_some] at h
  rcases Nat.lt_or_ge g w.heap.size with h1 | h1
  · exact h1
  · rw [Array.getElem?_eq_none h1] at h
    cases h
theorem PowVar.later {w w' : World} (h : PowVar w) (hb : Below w.heap.size w w') : PowVar w' := var?_below hb gPow (pow_lt gPow h) h
set_option maxHeartbeats 400000 in
theorem local_any (i : Int) (h0 : -9223372036854775808 ≤ i) (h1 : i ≤ 9223372036854775807) (w : World) (hE : PowVar w) :
    Calls Tryd.prog 63 #[.int .i64 i] w fun e w' => e = .returned (.string ⟨(Nm.localL i).toArray⟩) ∧ Below w.heap.size w w' := by
  by_cases hn : i < 0
  · have e : Nm.localL i = [] := by simp [Nm.localL, hn]
    have E := Lib.hid e
    clear e
    go_enter Tryd.func63, Tryd.ntmps63
    go_wp2_with fail
    go_ret
    exact ⟨ret_str (by rw [E.out]), Below.refl _ _⟩
  · have e : Nm.localL i = 36 :: Lib.itoa i := by simp [Nm.localL, hn, Lib.itoa]
    have E := Lib.hid e
    have hl := Lib.itoa_length_le i h0 h1
    clear e
    go_enter Tryd.func63, Tryd.ntmps63
    go_wp2_with fail
    refine (Tryd.strconv_Itoa i h0 h1 _ hE).mono ?_
    rintro e w' ⟨rfl, k, os, rfl⟩
    generalize Lib.itoa i = l at *
    go_wp2_with fail
    go_ret
    refine ⟨ret_str ?_, Lib.below_grow _ _ (Nat.le_refl _) _ _⟩
    rw [E.out, Go.Joins.data_append]
    simp

/-- 'string([]byte{c})', wherever the one byte lies. -/
theorem conv_one (w : World) (g : Nat) (c : Int) (h0 : 0 ≤ c) (h1 : c ≤ 255) (h : w.cell? ⟨g, 0, none⟩ = some (.int .u8 c)) :
    (convert 131 9 (.slice (some ⟨g, 0, none⟩) 1 1)).run Tryd.prog w = .ok (.string ⟨#[UInt8.ofNat c.toNat]⟩) w := by
  have := run_convert_bytes_back (P := Tryd.prog) w 131 9 5 ⟨g, 0, none⟩ 1 [UInt8.ofNat c.toNat] Tryd.underlying131 Tryd.underlying5 Tryd.underlying9 (fun j hj => by
    have hj0 : j = 0 := by simpa using hj
    subst hj0
    have e : ((UInt8.ofNat c.toNat).toNat : Int) = c := by
      rw [UInt8.toNat_ofNat']
      omega
    simp only [List.getElem_cons_zero, e]
    exact h)
  exact this

theorem conv_new (w : World) (c : Int) (h0 : 0 ≤ c) (h1 : c ≤ 255) :
    (convert 131 9 (.slice (some ⟨w.heap.size, 0, none⟩) 1 1)).run Tryd.prog (w.alloc (.cells #[.int .u8 c] 5)) = .ok (.string ⟨#[UInt8.ofNat c.toNat]⟩) (w.alloc (.cells #[.int .u8 c] 5)) :=
  conv_one _ _ c h0 h1 (by go_simp)

set_option maxHeartbeats 400000 in
theorem decimal_small (n : Int) (h0 : 0 ≤ n) (h1 : n < 10) (w : World) :
    Calls Tryd.prog 84 #[.int .i64 n] w fun e w' => e = .returned (.string ⟨(Lib.decDigits n.toNat).toArray⟩) ∧ Below w.heap.size w w' := by
  have hc := conv_new w (48 + n) (by omega) (by omega)
  have e : Lib.decDigits n.toNat = [UInt8.ofNat (48 + n).toNat] := by
    rw [Lib.decDigits_one (by omega)]
    rw [show (48 + n).toNat = 48 + n.toNat by omega]
  have E := Lib.hid e
  clear e
  go_enter Tryd.func84, Tryd.ntmps84
  go_wp2_with fail
  go_ret
  exact ⟨ret_str (by rw [E.out]), (Below.refl _ _).alloc (Nat.le_refl _) _⟩

set_option maxHeartbeats 400000 in
theorem decimal_big (n : Int) (h0 : 10 ≤ n) (h1 : n ≤ 9223372036854775807) (w : World)
    (ih : ∀ (m : Int) (w : World), 0 ≤ m → m < n → Calls Tryd.prog 84 #[.int .i64 m] w fun e w' => e = .returned (.string ⟨(Lib.decDigits m.toNat).toArray⟩) ∧ Below w.heap.size w w') :
    Calls Tryd.prog 84 #[.int .i64 n] w fun e w' => e = .returned (.string ⟨(Lib.decDigits n.toNat).toArray⟩) ∧ Below w.heap.size w w' := by
  obtain ⟨q, hq⟩ : ∃ q, q = n / 10 := ⟨_, rfl⟩
  obtain ⟨r, hr⟩ : ∃ r, r = n % 10 := ⟨_, rfl⟩
  have H := Lib.hid (fun w => ih q w (by omega) (by omega))
  have b1 : 0 ≤ q := by omega
  have b3 : 0 ≤ r := by omega
  have b4 : r ≤ 9 := by omega
  have e1 : IntKind.i64.wrap (n.tdiv 10) = q := by rw [Int.tdiv_eq_ediv_of_nonneg (by omega), ← hq]; exact IntWalk.i64_in _ (by omega)
  have e2 : n.tmod 10 = r := by rw [Int.tmod_eq_emod_of_nonneg (by omega), ← hr]
  have e3 : IntKind.i64.wrap (48 + r) = 48 + r := IntWalk.i64_in _ (by omega)
  have e4 : IntKind.u8.wrap (48 + r) = 48 + r := by unfold IntKind.wrap; simp [IntKind.bits, IntKind.signed]; omega
  have cv := fun (W : World) (g : Nat) (h : W.cell? ⟨g, 0, none⟩ = some (.int .u8 (48 + r))) => conv_one W g (48 + r) (by omega) (by omega) h
  have e : Lib.decDigits n.toNat = Lib.decDigits q.toNat ++ [UInt8.ofNat (48 + r).toNat] := by
    rw [Lib.decDigits, dif_neg (by omega)]
    rw [show n.toNat / 10 = q.toNat by omega, show (48 + r).toNat = 48 + n.toNat % 10 by omega]
  have E := Lib.hid e
  have hl : (Lib.decDigits q.toNat).length ≤ 21 := by
    have := Lib.itoa_length_le q (by omega) (by omega)
    rwa [Lib.itoa, if_neg (by omega)] at this
  clear e hq hr ih
  generalize Lib.decDigits q.toNat = l at *
  go_enter Tryd.func84, Tryd.ntmps84
  go_wp2_with fail
  go_region_with (go_at_call 84; refine (H.out _).mono ?_; rintro e w1 ⟨rfl, hb1⟩; have hc1 := bcell hb1)
  all_goals
    go_wp2
    go_ret
    refine ⟨ret_str (by rw [E.out, Go.Joins.data_append]), ?_⟩
    clear H E cv e1 e2 e3 e4 hc1
    first
    | exact ((Below.refl _ w).drew.trans (hb1.mono (Nat.le_refl _))).alloc (by simpa using hb1.size) _
    | exact ((Below.refl _ w).alloc (Nat.le_refl _) _).drew.trans (hb1.mono (by simp))

theorem decimal_any : ∀ (k : Nat) (n : Int) (w : World), n.toNat < k → 0 ≤ n → n ≤ 9223372036854775807 →
    Calls Tryd.prog 84 #[.int .i64 n] w fun e w' => e = .returned (.string ⟨(Lib.decDigits n.toNat).toArray⟩) ∧ Below w.heap.size w w'
  | 0, n, w, hk, _, _ => absurd hk (Nat.not_lt_zero _)
  | k + 1, n, w, hk, h0, h1 => by
    rcases Int.lt_or_le n 10 with hs | hs
    · exact decimal_small n h0 hs w
    · exact decimal_big n hs h1 w fun m w' hm hmn => decimal_any k m w' (by omega) hm (by omega)

set_option maxHeartbeats 400000 in
theorem ref_local_any (i : Int) (h0 : -9223372036854775808 ≤ i) (h1 : i ≤ 9223372036854775807) (w : World) :
    Calls Tryd.prog 70 #[.int .i64 i] w fun e w' => e = .returned (.string ⟨(Nm.localL i).toArray⟩) ∧ Below w.heap.size w w' := by
  by_cases hn : i < 0
  · have e : Nm.localL i = [] := by simp [Nm.localL, hn]
    have E := Lib.hid e
    clear e
    go_enter Tryd.func70, Tryd.ntmps70
    go_wp2_with fail
    go_ret
    exact ⟨ret_str (by rw [E.out]), Below.refl _ _⟩
  · have e : Nm.localL i = 36 :: Lib.decDigits i.toNat := by simp [Nm.localL, hn]
    have E := Lib.hid e
    have hl : (Lib.decDigits i.toNat).length ≤ 21 := by
      have := Lib.itoa_length_le i h0 h1
      rwa [Lib.itoa, if_neg hn] at this
    clear e
    go_enter Tryd.func70, Tryd.ntmps70
    go_wp2_with fail
    refine (decimal_any (i.toNat + 1) i _ (by omega) (by omega) h1).mono ?_
    rintro e w' ⟨rfl, hb⟩
    generalize Lib.decDigits i.toNat = l at *
    go_wp2_with fail
    go_ret
    refine ⟨ret_str ?_, hb⟩
    rw [E.out, Go.Joins.data_append]
    simp
end Go.Proofs.YtjhlehdjdaphcaaDoor

namespace Go.Proofs.YtjhlehdjdaphcaaDoor
open Go.RowKit

/-- A row in a block of its own from lo on; what it leads to lies in S. -/
def RowX (S : Nat → Prop) (lo : Nat) (V : World) (q z : Nat) (v : Value) (ds : List Dat) : Prop :=
  (q = 0 ∧ v = .slice none 0 0 ∧ ds = []) ∨ ∃ g c cs, v = .slice (some ⟨g, 0, none⟩) q c ∧ q ≤ c ∧ Held V g (q * z) cs ∧ Dat.Ins V False S ds cs ∧ ds.length = q ∧ (∀ d ∈ ds, d.size = z) ∧ lo ≤ g
/-- The blocks that the data of a signature lead to: from lo to top, and none of its own rows. -/
def SgS (lo top : Nat) (vF vP : Value) (b : Nat) : Prop := lo ≤ b ∧ b < top ∧ vF.ownBlock ≠ some b ∧ vP.ownBlock ≠ some b
/-- A signature in rows of its own. -/
structure SgW (lo top : Nat) (V : World) (t : Sg) (vF vP : Value) (rs : List Value) : Prop where
  f : RowX (SgS lo top vF vP) lo V t.fs.length 5 vF (t.fs.map Fo.dat)
  p : RowX (SgS lo top vF vP) lo V t.ps.length 5 vP (t.ps.map Fo.dat)
  ne : ∀ b, vF.ownBlock = some b → vP.ownBlock ≠ some b
  r : t.res.dat.In V False (SgS lo top vF vP) rs
  lt : lo ≤ top
  le : top ≤ V.heap.size
abbrev sg7 (t : Sg) (FA : Option Addr) (fc : Nat) (PA : Option Addr) (pc : Nat) (At : Option Addr) (mt at1 : Nat) : List Value := [.string t.name, .slice FA t.fs.length fc, .slice PA t.ps.length pc, .string t.res.name, .slice At mt at1, .int .i64 t.res.off, .int .i64 t.off]
def SubW (w : World) (t : Sg) (e : Ending) (w' : World) : Prop :=
  ∃ FA fc PA pc At mt at1, e = .returned (.agg (sg7 t FA fc PA pc At mt at1).toArray) ∧ SgW w.heap.size w'.heap.size w' t (.slice FA t.fs.length fc) (.slice PA t.ps.length pc) [.string t.res.name, .slice At mt at1, .int .i64 t.res.off] ∧ Below w.heap.size w w'
theorem RowX.kept {S : Nat → Prop} {lo q z : Nat} {V V' : World} {v : Value} {ds : List Dat} (h : RowX S lo V q z v ds) (hk : ∀ b, S b ∨ v.ownBlock = some b → V'.heap[b]? = V.heap[b]?) (hs : V.heap.size ≤ V'.heap.size) : RowX S lo V' q z v ds := by
  rcases h with h | ⟨g, c, cs, rfl, hc, h2, h3, h4, h5, h6⟩
  · exact .inl h
  · exact .inr ⟨g, c, cs, rfl, hc, h2.kept (hk g (.inr rfl)) hs, Dat.Ins.keep id (fun p hp => kept_of (S := S) (fun b hb => hk b (.inl hb)) p hp) (fun _ h => h) _ _ h3, h4, h5, h6⟩
theorem RowX.wide {S S' : Nat → Prop} {lo lo' q z : Nat} {V : World} {v : Value} {ds : List Dat} (h : RowX S lo V q z v ds) (hS : ∀ b, S b → S' b) (hl : lo' ≤ lo) : RowX S' lo' V q z v ds := by
  rcases h with h | ⟨g, c, cs, h1, hc, h2, h3, h4, h5, h6⟩
  · exact .inl h
  · exact .inr ⟨g, c, cs, h1, hc, h2, h3.wide hS, h4, h5, by omega⟩
theorem RowX.own {S : Nat → Prop} {lo q z : Nat} {V : World} {v : Value} {ds : List Dat} (h : RowX S lo V q z v ds) : ∀ b, v.ownBlock = some b → lo ≤ b ∧ b < V.heap.size := fun b hb => by
  rcases h with ⟨_, rfl, _⟩ | ⟨g, c, cs, rfl, hc, h2, h3, h4, h5, h6⟩
  · cases hb
  · have : g = b := Option.some.inj hb
    subst this
    exact ⟨h6, h2.lt⟩
theorem RowX.row {S : Nat → Prop} {lo q z : Nat} {V : World} {v : Value} {ds : List Dat} (h : RowX S lo V q z v ds) (hq : q ≤ 9223372036854775807) (hS : ∀ b, S b → lo ≤ b ∧ b < V.heap.size) : ∃ A c, v = .slice A q c ∧ q ≤ c ∧ Row V False (fun b => lo ≤ b ∧ b < V.heap.size) z A q ds := by
  rcases h with ⟨rfl, rfl, rfl⟩ | ⟨g, c, cs, rfl, hc, h2, h3, h4, h5, h6⟩
  · exact ⟨none, 0, rfl, Nat.le_refl _, Row.nil _ _ _ _ _⟩
  · refine ⟨some ⟨g, 0, none⟩, c, rfl, hc, h4, hq, Dat.Elems.of fun k d hk => ?_⟩
    obtain ⟨u, hu, hat⟩ := h3.at h5 hk
    refine ⟨⟨g, 0, none⟩, u, rfl, ⟨h6, h2.lt⟩, False.elim, hu.wide hS, fun j x hx => ?_⟩
    rw [Nat.zero_add, add_add, add_zero_addr]
    have := h2.at_ _ _ (hat j x hx)
    rwa [Nat.zero_add] at this
theorem SgW.kept {lo top : Nat} {V V' : World} {t : Sg} {vF vP : Value} {rs : List Value} (h : SgW lo top V t vF vP rs) (hk : ∀ b, lo ≤ b → b < V.heap.size → V'.heap[b]? = V.heap[b]?) (hs : V.heap.size ≤ V'.heap.size) : SgW lo top V' t vF vP rs := by
  have hle := h.le
  have hS : ∀ b, SgS lo top vF vP b → V'.heap[b]? = V.heap[b]? := fun b hb => hk b hb.1 (by have := hb.2.1; omega)
  exact ⟨h.f.kept (fun b hb => hb.elim (hS b) fun e => hk b (h.f.own b e).1 (h.f.own b e).2) hs, h.p.kept (fun b hb => hb.elim (hS b) fun e => hk b (h.p.own b e).1 (h.p.own b e).2) hs, h.ne, Dat.In.keep id (fun p hp => kept_of (S := SgS lo top vF vP) hS p hp) (fun _ h => h) _ _ h.r, h.lt, Nat.le_trans h.le hs⟩
theorem SgW.later {lo top : Nat} {V V' : World} {t : Sg} {vF vP : Value} {rs : List Value} (h : SgW lo top V t vF vP rs) (hb : Below V.heap.size V V') : SgW lo top V' t vF vP rs := h.kept (fun b _ hl => hb.block b hl) hb.size
theorem SgW.wide {lo lo' top top' : Nat} {V : World} {t : Sg} {vF vP : Value} {rs : List Value} (h : SgW lo top V t vF vP rs) (hl : lo' ≤ lo) (ht : top ≤ top') (hz : top' ≤ V.heap.size) : SgW lo' top' V t vF vP rs := by
  have hS : ∀ b, SgS lo top vF vP b → SgS lo' top' vF vP b := fun b hb => ⟨by have := hb.1; omega, by have := hb.2.1; omega, hb.2.2⟩
  exact ⟨h.f.wide hS hl, h.p.wide hS hl, h.ne, h.r.wide hS, by have := h.lt; omega, hz⟩
theorem SubPost.w {w : World} {t : Sg} {e : Ending} {w' : World} (h : SubPost w t e w') : SubW w t e w' := by
  obtain ⟨FA, fc, PA, pc, At, mt, at1, mid, rfl, h1, h2, h3, h4, h5, h6, h7⟩ := h
  have hF : ∀ b, (Value.slice FA t.fs.length fc).ownBlock = some b → mid ≤ b := fun b hb => by
    rcases h1 with ⟨_, e, _⟩ | ⟨g, c, cs, e, _, _, _, _, _, h⟩
    · rw [e] at hb; cases hb
    · rw [e] at hb; have : g = b := Option.some.inj hb; omega
  have hP : ∀ b, (Value.slice PA t.ps.length pc).ownBlock = some b → mid ≤ b := fun b hb => by
    rcases h2 with ⟨_, e, _⟩ | ⟨g, c, cs, e, _, _, _, _, _, h⟩
    · rw [e] at hb; cases hb
    · rw [e] at hb; have : g = b := Option.some.inj hb; omega
  have hS : ∀ b, w.heap.size ≤ b ∧ b < mid → SgS w.heap.size w'.heap.size (.slice FA t.fs.length fc) (.slice PA t.ps.length pc) b := fun b hb => ⟨hb.1, by omega, fun e => by have := hF b e; omega, fun e => by have := hP b e; omega⟩
  refine ⟨FA, fc, PA, pc, At, mt, at1, rfl, ⟨?_, ?_, fun b e1 e2 => by have := h3 b b e1 e2; omega, h4.wide hS, by omega, Nat.le_refl _⟩, h7⟩
  · rcases h1 with h | ⟨g, c, cs, e, a1, a2, a3, a4, a5, a6⟩
    · exact .inl h
    · exact .inr ⟨g, c, cs, e, a1, a2, a3.wide hS, a4, a5, by omega⟩
  · rcases h2 with h | ⟨g, c, cs, e, a1, a2, a3, a4, a5, a6⟩
    · exact .inl h
    · exact .inr ⟨g, c, cs, e, a1, a2, a3.wide hS, a4, a5, by omega⟩
theorem SubW.post {w : World} {t : Sg} {e : Ending} {w' : World} (hn : t.name.size ≤ 9223372036854775807) (hl : t.fs.length ≤ 100000 ∧ t.ps.length ≤ 100000) (h : SubW w t e w') : DPost w t.dat e w' := by
  obtain ⟨FA, fc, PA, pc, At, mt, at1, rfl, h1, h7⟩ := h
  have hS : ∀ b, SgS w.heap.size w'.heap.size (.slice FA t.fs.length fc) (.slice PA t.ps.length pc) b → w.heap.size ≤ b ∧ b < w'.heap.size := fun b hb => ⟨hb.1, hb.2.1⟩
  obtain ⟨A, c, e1, _, r1⟩ := h1.f.row (by omega) hS
  obtain ⟨B, d, e2, _, r2⟩ := h1.p.row (by omega) hS
  simp only [Value.slice.injEq, true_and] at e1 e2
  obtain ⟨rfl, rfl⟩ := e1
  obtain ⟨rfl, rfl⟩ := e2
  exact ⟨sg7 t FA fc PA pc At mt at1, rfl, sgMk hn (arr_in r1) (arr_in r2) (h1.r.wide hS), h7⟩

/-! ### names -/
def ren (nm : Nat → ByteArray) (l : List Fo) : List Fo := l.mapIdx fun i f => ⟨nm i, f.ty, f.off⟩
theorem ren_len (nm : Nat → ByteArray) (l : List Fo) : (ren nm l).length = l.length := by simp [ren]
theorem ren_step {nm : Nat → ByteArray} {l : List Fo} {k : Nat} {x : Fo} (h : l[k]? = some x) : ren nm (l.take (k + 1)) = ren nm (l.take k) ++ [⟨nm k, x.ty, x.off⟩] := by
  have hk := (List.getElem?_eq_some_iff.1 h).1
  rw [Ex.take_at h, ren, ren, List.mapIdx_append]
  simp [List.length_take, Nat.min_eq_left (Nat.le_of_lt hk)]
theorem bare_eq (s : Sg) : s.bare = ⟨s.name, ren loc s.fs, ren (fun _ => ⟨#[]⟩) s.ps, s.res, s.off⟩ := by
  have : ∀ l : List Fo, ren (fun _ => ⟨#[]⟩) l = l.map fun p => ⟨⟨#[]⟩, p.ty, p.off⟩ := fun l => by
    refine List.ext_getElem? fun i => ?_
    simp [ren]
  rw [Sg.bare, this]; rfl
/-- The first k of a row are named anew. -/
def RenRow (nm : Nat → ByteArray) (S : Nat → Prop) (V : World) (q k g : Nat) (l : List Fo) : Prop :=
  ∃ c1 c2, c1.length = k * 5 ∧ Dat.Ins V False S ((ren nm (l.take k)).map Fo.dat) c1 ∧ Dat.Ins V False S ((l.drop k).map Fo.dat) c2 ∧ Held V g (q * 5) (c1 ++ c2)
/-- Nothing, or such a row. -/
def RenV (nm : Nat → ByteArray) (S : Nat → Prop) (lo : Nat) (V : World) (q k : Nat) (v : Value) (l : List Fo) : Prop :=
  (q = 0 ∧ v = .slice none 0 0 ∧ l = []) ∨ ∃ g c, v = .slice (some ⟨g, 0, none⟩) q c ∧ q ≤ c ∧ lo ≤ g ∧ l.length = q ∧ RenRow nm S V q k g l
theorem RenV.start {nm : Nat → ByteArray} {S : Nat → Prop} {lo q : Nat} {V : World} {v : Value} {l : List Fo} (h : RowX S lo V q 5 v (l.map Fo.dat)) : RenV nm S lo V q 0 v l := by
  rcases h with ⟨h1, h2, h3⟩ | ⟨g, c, cs, h1, hc, h2, h3, h4, h5, h6⟩
  · exact .inl ⟨h1, h2, by simpa using h3⟩
  · exact .inr ⟨g, c, h1, hc, h6, by simpa using h4, [], cs, rfl, by rw [List.take_zero]; show Dat.Ins _ _ _ [] _; rw [Dat.Ins], by rw [List.drop_zero]; exact h3, h2⟩
theorem RenV.end {nm : Nat → ByteArray} {S : Nat → Prop} {lo q : Nat} {V : World} {v : Value} {l : List Fo} (h : RenV nm S lo V q q v l) : RowX S lo V q 5 v ((ren nm l).map Fo.dat) := by
  rcases h with ⟨h1, h2, h3⟩ | ⟨g, c, h1, hc, h6, hl, c1, c2, e1, i1, i2, hh⟩
  · subst h3
    exact .inl ⟨h1, h2, rfl⟩
  · rw [List.take_of_length_le (by omega)] at i1
    rw [List.drop_eq_nil_of_le (by omega)] at i2
    have i2 : Dat.Ins V False S [] c2 := i2
    rw [Dat.Ins] at i2
    subst i2
    rw [List.append_nil] at hh
    exact .inr ⟨g, c, c1, h1, hc, hh, i1, by rw [List.length_map, ren_len, hl], fo_sizes, h6⟩
/-- The next one: where its name lies, and the row with it named anew. -/
theorem RenRow.step {nm : Nat → ByteArray} {S : Nat → Prop} {q k g : Nat} {V : World} {l : List Fo} {x : Fo} (h : RenRow nm S V q k g l) (hx : l[k]? = some x) (hl : l.length = q) (hS : ∀ b, S b → b ≠ g) (hn : (nm k).size ≤ 9223372036854775807) :
    V.cell? ⟨g, k * 5, none⟩ = some (.string x.name) ∧ V.frozen? ⟨g, k * 5, none⟩ = false ∧ RenRow nm S (V.setCell ⟨g, k * 5, none⟩ (.string (nm k))) q (k + 1) g l := by
  obtain ⟨c1, c2, e1, i1, i2, hh⟩ := h
  have hk := (List.getElem?_eq_some_iff.1 hx).1
  rw [Ex.drop_at hx, List.map_cons, Dat.Ins] at i2
  obtain ⟨u1, u2, rfl, hu, i2⟩ := i2
  obtain ⟨A, m, a, rfl, _, h2, h3⟩ := fo_open hu
  have hc := hh.at_ (k * 5) (.string x.name) (by rw [List.getElem?_append_right (by omega), e1, Nat.sub_self]; rfl)
  have hf := (hh.there (k * 5) (by have := Nat.mul_le_mul_right 5 (show k + 1 ≤ q by omega); omega)).2
  rw [Nat.zero_add] at hc hf
  have hset : Kept V (V.setCell ⟨g, k * 5, none⟩ (.string (nm k))) S := kept_of fun b hb => Below.heap_setCell _ _ _ _ (hS b hb)
  refine ⟨hc, hf, c1 ++ [.string (nm k), .string x.ty.name, .slice A m a, .int .i64 x.ty.off, .int .i64 x.off], u2, by simp only [List.length_append, List.length_cons, List.length_nil]; omega, ?_, Dat.Ins.keep id hset (fun _ h => h) _ _ i2, ?_⟩
  · rw [ren_step hx, List.map_append]
    exact Dat.Ins.snoc (Dat.In.keep id hset (fun _ h => h) _ _ (fo_shut (f := ⟨nm k, x.ty, x.off⟩) hn h2 h3)) (Dat.Ins.keep id hset (fun _ h => h) _ _ i1)
  · have h6 : c1 ++ ([.string x.name, .string x.ty.name, .slice A m a, .int .i64 x.ty.off, .int .i64 x.off] ++ u2) = c1 ++ ([.string x.name] ++ (.string x.ty.name :: .slice A m a :: .int .i64 x.ty.off :: .int .i64 x.off :: u2)) := by simp
    rw [h6] at hh
    have h7 := hh.set (vs := [.string (nm k)]) rfl (by simp only [List.length_cons, List.length_nil]; have := Nat.mul_le_mul_right 5 (show k + 1 ≤ q by omega); omega)
    rw [e1] at h7
    have h8 : Held (V.setCell ⟨g, k * 5, none⟩ (.string (nm k))) g (q * 5) _ := h7
    simpa using h8
theorem RenV.kept {nm : Nat → ByteArray} {S : Nat → Prop} {lo q k : Nat} {V V' : World} {v : Value} {l : List Fo} (h : RenV nm S lo V q k v l) (hk : ∀ b, S b ∨ v.ownBlock = some b → V'.heap[b]? = V.heap[b]?) (hs : V.heap.size ≤ V'.heap.size) : RenV nm S lo V' q k v l := by
  rcases h with h | ⟨g, c, rfl, hc, h6, hl, c1, c2, e1, i1, i2, hh⟩
  · exact .inl h
  · have hS := kept_of (V := V) (V' := V') (S := S) (fun b hb => hk b (.inl hb))
    exact .inr ⟨g, c, rfl, hc, h6, hl, c1, c2, e1, Dat.Ins.keep id hS (fun _ h => h) _ _ i1, Dat.Ins.keep id hS (fun _ h => h) _ _ i2, hh.kept (hk g (.inr rfl)) hs⟩
/-- The formals are named anew. -/
theorem SgW.fs {lo top : Nat} {V V' : World} {t : Sg} {vF vP : Value} {rs : List Value} {nm : Nat → ByteArray} (h : SgW lo top V t vF vP rs) (hg : V.grownBy V' vF.ownBlock) (hR : RenV nm (SgS lo top vF vP) lo V' t.fs.length t.fs.length vF t.fs) : SgW lo top V' ⟨t.name, ren nm t.fs, t.ps, t.res, t.off⟩ vF vP rs := by
  have hle := h.le
  have hS : ∀ b, SgS lo top vF vP b → V'.heap[b]? = V.heap[b]? := fun b hb => hg.block b (by have := hb.2.1; omega) (fun e => hb.2.2.1 e.symm)
  refine ⟨?_, h.p.kept (fun b hb => hb.elim (hS b) fun e => hg.block b (h.p.own b e).2 (fun e2 => h.ne b e2.symm e)) hg.size, h.ne, Dat.In.keep id (fun p hp => kept_of (S := SgS lo top vF vP) hS p hp) (fun _ h => h) _ _ h.r, h.lt, Nat.le_trans h.le hg.size⟩
  rw [ren_len]
  exact hR.end
/-- The parameters are named anew. -/
theorem SgW.ps {lo top : Nat} {V V' : World} {t : Sg} {vF vP : Value} {rs : List Value} {nm : Nat → ByteArray} (h : SgW lo top V t vF vP rs) (hg : V.grownBy V' vP.ownBlock) (hR : RenV nm (SgS lo top vF vP) lo V' t.ps.length t.ps.length vP t.ps) : SgW lo top V' ⟨t.name, t.fs, ren nm t.ps, t.res, t.off⟩ vF vP rs := by
  have hle := h.le
  have hS : ∀ b, SgS lo top vF vP b → V'.heap[b]? = V.heap[b]? := fun b hb => hg.block b (by have := hb.2.1; omega) (fun e => hb.2.2.2 e.symm)
  refine ⟨h.f.kept (fun b hb => hb.elim (hS b) fun e => hg.block b (h.f.own b e).2 (fun e2 => h.ne b e e2.symm)) hg.size, ?_, h.ne, Dat.In.keep id (fun p hp => kept_of (S := SgS lo top vF vP) hS p hp) (fun _ h => h) _ _ h.r, h.lt, Nat.le_trans h.le hg.size⟩
  rw [ren_len]
  exact hR.end

/-! ### worlds in which at most one block of the old ones is written -/
theorem gb_reflB (w : World) (r : Option Nat) : w.grownBy w r := ⟨rfl, rfl, rfl, Nat.le_refl _, fun _ _ _ => rfl⟩
theorem gb_transB {a b c : World} {r : Option Nat} (h : a.grownBy b r) (k : b.grownBy c r) : a.grownBy c r :=
  ⟨k.os.trans h.os, k.tape.trans h.tape, k.output.trans h.output, Nat.le_trans h.size k.size, fun i hi hr => (k.block i (Nat.lt_of_lt_of_le hi h.size) hr).trans (h.block i hi hr)⟩
theorem gb_ofB {a b : World} (r : Option Nat) (h : Below a.heap.size a b) : a.grownBy b r := ⟨h.os, h.tape, h.output, h.size, fun i hi _ => h.block i hi⟩
theorem gb_setB (w : World) (c j : Nat) (u : Value) : w.grownBy (w.setCell ⟨c, j, none⟩ u) (some c) :=
  ⟨rfl, rfl, rfl, by simp [World.setCell], fun i _ hr => Below.heap_setCell _ _ _ _ (fun e => hr (by rw [e]))⟩

/-! ### local names in a row -/
/-- The first k of n local names lie in the row. -/
structure LocRow (V : World) (A : Option Addr) (top n k : Nat) : Prop where
  at_ : ∀ i, i < n → ∃ g, A = some ⟨g, 0, none⟩ ∧ g < top ∧ V.cell? ⟨g, i * 3, none⟩ = some (.string (if i < k then loc i else ⟨#[]⟩)) ∧ V.cell? ⟨g, i * 3 + 1, none⟩ = some (.slice none 0 0) ∧ V.cell? ⟨g, i * 3 + 2, none⟩ = some (.int .i64 0) ∧ V.frozen? ⟨g, i * 3, none⟩ = false
theorem LocRow.kept {V V' : World} {A : Option Addr} {top n k : Nat} (h : LocRow V A top n k) (hk : ∀ b, b < top → V'.heap[b]? = V.heap[b]?) : LocRow V' A top n k := ⟨fun i hi => by
  obtain ⟨g, e, hg, c0, c1, c2, f⟩ := h.at_ i hi
  have hS := kept_of (V := V) (V' := V') (S := (· = g)) (fun b hb => by subst hb; exact hk b hg)
  exact ⟨g, e, hg, (hS ⟨g, _, none⟩ rfl).1.trans c0, (hS ⟨g, _, none⟩ rfl).1.trans c1, (hS ⟨g, _, none⟩ rfl).1.trans c2, (hS ⟨g, _, none⟩ rfl).2.trans f⟩⟩
theorem LocRow.later {V V' : World} {A : Option Addr} {top n k : Nat} (h : LocRow V A top n k) (hb : Below V.heap.size V V') (ht : top ≤ V.heap.size) : LocRow V' A top n k := h.kept fun b hl => hb.block b (by omega)
theorem loc_le (i : Nat) (h : i ≤ 1000000) : (loc i).size ≤ 9223372036854775807 := by have := loc_size i (by omega); omega
/-- As types. -/
theorem LocRow.here {V : World} {A : Option Addr} {top n : Nat} (h : LocRow V A top n n) (hn : n ≤ 1000000) (ht : top ≤ V.heap.size) : Here V A n (locs n) := by
  refine lies_row.2 ⟨by rw [Ty.dats_len, locs_len], by omega, Dat.Elems.of fun k d hk => ?_⟩
  rw [Ty.dats_map, List.getElem?_map] at hk
  have hkn : k < n := by
    by_cases hh : k < n
    · exact hh
    · rw [List.getElem?_eq_none (by rw [locs_len]; omega)] at hk
      cases hk
  rw [locs_at hkn] at hk
  obtain rfl : (Ty.mk (loc k) [] 0).dat = d := by simpa using hk
  obtain ⟨g, rfl, hg, c0, c1, c2, _⟩ := h.at_ k hkn
  rw [if_pos hkn] at c0
  refine ⟨⟨g, 0, none⟩, [.string (loc k), .slice none 0 0, .int .i64 0], rfl, by show g < _; omega, False.elim, ty_shut (t := .mk (loc k) [] 0) (loc_le k (by omega)) (lies_row.2 (Row.nil V False _ 3 none)), fun j u hu => ?_⟩
  rw [add_add, add_zero_addr, Nat.zero_add]
  match j, hu with
  | 0, hu => obtain rfl := Option.some.inj hu; exact c0
  | 1, hu => obtain rfl := Option.some.inj hu; exact c1
  | 2, hu => obtain rfl := Option.some.inj hu; exact c2
  | j + 3, hu => simp at hu
theorem locs_small {n : Nat} (hn : n ≤ 1000000) : ∀ u ∈ locs n, u.Small := fun u hu => ty_few (by have := locs_wt hn u hu; omega)
/-- What lies behind the call of Subst: the copy, boxed. -/
structure CanBox (w Z : World) (t : Sg) (cb lo top n : Nat) (AL FA : Option Addr) (fc : Nat) (PA : Option Addr) (pc : Nat) (At : Option Addr) (mt at1 : Nat) : Prop where
  bel : Below w.heap.size w Z
  lo2 : w.heap.size + 2 ≤ lo
  cb2 : w.heap.size + 2 ≤ cb
  cbF : (Value.slice FA t.fs.length fc).ownBlock ≠ some cb
  cbP : (Value.slice PA t.ps.length pc).ownBlock ≠ some cb
  box : Boxd Z cb (sg7 t FA fc PA pc At mt at1)
  sg : SgW lo top Z t (.slice FA t.fs.length fc) (.slice PA t.ps.length pc) [.string t.res.name, .slice At mt at1, .int .i64 t.res.off]
  res : Z.there (w.heap.size + 1) 0 7
  loc : LocRow Z AL lo n n
theorem CanBox.cbz {w Z : World} {t : Sg} {cb lo top n : Nat} {AL FA : Option Addr} {fc : Nat} {PA : Option Addr} {pc : Nat} {At : Option Addr} {mt at1 : Nat} (h : CanBox w Z t cb lo top n AL FA fc PA pc At mt at1) : cb < Z.heap.size := Boxd.lt h.box
/-- One of its rows is written. -/
theorem CanBox.grow {w Z Y : World} {t t' : Sg} {cb lo top n : Nat} {AL FA : Option Addr} {fc : Nat} {PA : Option Addr} {pc : Nat} {At : Option Addr} {mt at1 : Nat} {r : Option Nat} (h : CanBox w Z t cb lo top n AL FA fc PA pc At mt at1) (hg : Z.grownBy Y r)
    (hr : r = (Value.slice FA t.fs.length fc).ownBlock ∨ r = (Value.slice PA t.ps.length pc).ownBlock) (e1 : t'.fs.length = t.fs.length) (e2 : t'.ps.length = t.ps.length) (e3 : t'.name = t.name) (e4 : t'.res = t.res) (e5 : t'.off = t.off)
    (hs : SgW lo top Y t' (.slice FA t.fs.length fc) (.slice PA t.ps.length pc) [.string t.res.name, .slice At mt at1, .int .i64 t.res.off]) : CanBox w Y t' cb lo top n AL FA fc PA pc At mt at1 := by
  have hcb : r ≠ some cb := by rcases hr with rfl | rfl; exact h.cbF; exact h.cbP
  have hlo : ∀ b, r = some b → lo ≤ b := fun b hb => by
    rcases hr with rfl | rfl
    · exact (h.sg.f.own b hb).1
    · exact (h.sg.p.own b hb).1
  have l2 := h.lo2
  have lz := h.bel.size
  have hz : lo ≤ Z.heap.size := Nat.le_trans h.sg.lt h.sg.le
  have hk : ∀ b, b < lo → Y.heap[b]? = Z.heap[b]? := fun b hb => hg.block b (by omega) (fun e => by have := hlo b e.symm; omega)
  have kc := kept_of (V := Z) (V' := Y) (S := (· = cb)) (fun b hb => by subst hb; exact hg.block _ h.cbz (fun e => hcb e.symm))
  have kr := kept_of (V := Z) (V' := Y) (S := (· < lo)) hk
  refine ⟨⟨hg.os.trans h.bel.os, hg.tape.trans h.bel.tape, hg.output.trans h.bel.output, Nat.le_trans h.bel.size hg.size, fun b hb => (hk b (by omega)).trans (h.bel.block b hb)⟩, l2, h.cb2, by rw [e1]; exact h.cbF, by rw [e2]; exact h.cbP, fun j u hu => ?_, by rw [e1, e2, e4]; exact hs, fun j hj => ?_, h.loc.kept hk⟩
  · rw [show sg7 t' FA fc PA pc At mt at1 = sg7 t FA fc PA pc At mt at1 by simp only [sg7, e1, e2, e3, e4, e5]] at hu
    exact (kc ⟨cb, j, none⟩ rfl).1.trans (h.box j u hu)
  · obtain ⟨k1, k2⟩ := kr ⟨w.heap.size + 1, 0 + j, none⟩ (by show w.heap.size + 1 < lo; omega)
    rw [k1, k2]
    exact h.res j hj
/-- The end: the result is written. -/
theorem CanBox.end {w Z : World} {t : Sg} {cb lo top n : Nat} {AL FA : Option Addr} {fc : Nat} {PA : Option Addr} {pc : Nat} {At : Option Addr} {mt at1 : Nat} (h : CanBox w Z t cb lo top n AL FA fc PA pc At mt at1) :
    SubW w t (.returned (.agg (sg7 t FA fc PA pc At mt at1).toArray)) (Z.setCells (w.heap.size + 1) 0 (sg7 t FA fc PA pc At mt at1)) := by
  have l2 := h.lo2
  have ht := h.sg.le
  have hs : SgW lo top (Z.setCells (w.heap.size + 1) 0 (sg7 t FA fc PA pc At mt at1)) t _ _ _ := h.sg.kept (V' := Z.setCells (w.heap.size + 1) 0 (sg7 t FA fc PA pc At mt at1)) (fun b hb _ => heap_setCells _ _ _ _ b (by omega)) (by rw [size_setCells_w]; exact Nat.le_refl _)
  exact ⟨FA, fc, PA, pc, At, mt, at1, rfl, hs.wide (by omega) (by rw [size_setCells_w]; exact ht) (Nat.le_refl _), h.bel.trans (below_cells (Nat.le_succ _) _ _ _)⟩
end Go.Proofs.YtjhlehdjdaphcaaDoor
