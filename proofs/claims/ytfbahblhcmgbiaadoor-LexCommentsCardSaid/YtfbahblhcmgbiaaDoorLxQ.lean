/- The walk of the law LexComments over the contracts of package lex: true, at every input. -/
import Derived.Test.YtfbahblhcmgbiaaDoorLxO
import Derived.Laws.IdiomStrings
namespace Go.Proofs.YtfbahblhcmgbiaaDoor
open Go.RowKit

theorem infoU8 : (Tryd.prog.info? 5).map (fun i => (i.zero, i.size, i.bytes)) = some (some (.int .u8 0), 1, 1) := by kernel_rfl
def u8s (l : List UInt8) : List Value := l.map fun c => .int .u8 c.toNat
/-- The bytes of a comment: those of c but line feeds. -/
def keep (l : List UInt8) : List UInt8 := l.filter Lx.inLine
theorem keep_all (l : List UInt8) : (keep l).all Lx.inLine = true := by
  rw [List.all_eq_true]
  intro x hx
  exact (List.mem_filter.1 hx).2
theorem keep_le (l : List UInt8) : (keep l).length ≤ l.length := List.length_filter_le _ _
theorem keep_on {s : ByteArray} {k : Nat} (hk : k < s.size) (h : Lx.inLine s[k] = true) : keep (s.data.toList.take (k + 1)) = keep (s.data.toList.take k) ++ [s[k]] := by
  rw [take_snoc s k hk, keep, List.filter_append]
  simp [keep, h]
theorem keep_off {s : ByteArray} {k : Nat} (hk : k < s.size) (h : Lx.inLine s[k] = false) : keep (s.data.toList.take (k + 1)) = keep (s.data.toList.take k) := by
  rw [take_snoc s k hk, keep, List.filter_append]
  simp [keep, h]
theorem conv_nil (w : World) : (convert 45 9 (.slice none 0 0)).run Tryd.prog w = .ok (.string ⟨#[]⟩) w := by kernel_rfl
theorem conv_own {w : World} {base n : Nat} {v : Value} {l : List UInt8} (hl : l.length = n) (h : w.ownsRow base 5 1 v n (u8s l)) : (convert 45 9 v).run Tryd.prog w = .ok (.string ⟨l.toArray⟩) w := by
  rcases h.2 with ⟨rfl, h0⟩ | ⟨g, cap, cur, rfl, hb, hg, hn, hc, hs, ht⟩
  · obtain rfl : l = [] := List.eq_nil_of_length_eq_zero (by omega)
    exact conv_nil w
  · have hcell : ∀ (j : Nat) (hj : j < l.length), w.cell? ((⟨g, 0, none⟩ : Addr).add j) = some (.int .u8 (l[j].toNat : Int)) := fun j hj => by
      have ha : (⟨g, 0, none⟩ : Addr).add j = ⟨g, j, none⟩ := by unfold Addr.add; split <;> simp_all
      rw [ha, cell_of_row w g j cur 5 (0, 0) hg]
      have hu : (u8s l)[j]? = some (.int .u8 (l[j].toNat : Int)) := by simp [u8s, hj]
      rw [← ht, List.getElem?_take] at hu
      split at hu
      · simpa using hu
      · cases hu
    have := run_convert_bytes_back (P := Tryd.prog) w 45 9 5 ⟨g, 0, none⟩ cap l Tryd.underlying45 Tryd.underlying5 Tryd.underlying9 hcell
    rw [hl] at this
    exact this

def Kept (W wr : World) (v : Value) (l : List UInt8) : Prop := Below W.heap.size W wr ∧ wr.ownsRow W.heap.size 5 1 v l.length (u8s l)

set_option maxRecDepth 100000 in
set_option maxHeartbeats 4000000 in
theorem comments_any (L : LexOk) (s c : ByteArray) (_hs : s.size ≤ 9223372036854775807) (_hc : c.size ≤ 9223372036854775807) (w : World) (hE : ErrVar w) :
    Calls Tryd.prog 7 #[.string s, .string c] w fun e w' => e = .returned (.bool true) ∧ Below w.heap.size w w' := by
  by_cases hl : 1000 < s.size ∨ 1000 < c.size
  · have hl1 : 1000 < s.size ∨ (s.size ≤ 1000 ∧ 1000 < c.size) := by omega
    clear hl
    rcases hl1 with z1 | ⟨z0, z1⟩
    all_goals
      go_enter Tryd.func7, Tryd.ntmps7
      go_wp2_with fail
      refine (awake_any L _ hE).mono ?_
      rintro e w1 ⟨rfl, hb1⟩
      have hE1 := hE.later hb1
      go_wp2_with fail
      refine (awake_any L _ hE1).mono ?_
      rintro e w2 ⟨rfl, hb2⟩
      have hB2 := hb1.trans (hb2.mono hb1.size)
      go_wp2_with fail
      go_ret
      exact ⟨rfl, hB2⟩
  · have z1 : s.size ≤ 1000 := by omega
    have z2 : c.size ≤ 1000 := by omega
    clear hl
    obtain ⟨i0, hi0, hz0, hz1, hz2⟩ := info_parts infoU8
    have C2 := Lib.hid (fun w => ref_tokens_any s (by omega) w)
    obtain ⟨r, hr⟩ : ∃ r, left s 0 = r := ⟨_, rfl⟩
    have HR := Lib.hid hr
    -- the value of the reference's call: its two cells
    obtain ⟨rv, bd, hval⟩ : ∃ rv bd, ∀ w, Calls Tryd.prog 10 #[.string s] w fun e w' => (∃ A c, e = .returned (.agg #[.slice A rv c, .int .i64 bd]) ∧ (bd < 0 → ∃ ts, left s 0 = .ok ts ∧ rv = ts.length + 1 ∧ TS w' A rv (full ts s.size)) ∧ (0 ≤ bd ∨ bd < 0)) ∧ Below w.heap.size w w' := by
      cases r with
      | bad i => exact ⟨0, i, fun w => (C2.out w).mono fun e w' ⟨hb, he⟩ => by
          rw [HR.out] at he
          exact ⟨⟨none, 0, he, fun h => absurd h (by omega), by omega⟩, hb⟩⟩
      | ok ts => exact ⟨ts.length + 1, -1, fun w => (C2.out w).mono fun e w' ⟨hb, he⟩ => by
          rw [HR.out] at he
          obtain ⟨A, c, he, ht⟩ := he
          exact ⟨⟨A, c, he, fun _ => ⟨ts, HR.out, rfl, ht⟩, by omega⟩, hb⟩⟩
    have HV := Lib.hid hval
    clear hval hr
    go_enter Tryd.func7, Tryd.ntmps7
    go_wp2_with fail
    refine (awake_any L _ hE).mono ?_
    rintro e w1 ⟨rfl, hb1⟩
    go_wp2_with fail
    refine (HV.out _).mono ?_
    rintro e w2 ⟨⟨A2, c2, rfl, hok, hbd⟩, hb2⟩
    obtain ⟨W, hW⟩ : ∃ W, W = w2.alloc (.cells #[.slice A2 rv c2, .int .i64 bd] 30) := ⟨_, rfl⟩
    have hbW : Below w2.heap.size w2 W := by rw [hW]; exact (Below.refl _ _).alloc (Nat.le_refl _) _
    have x0 : W.cell? ⟨w2.heap.size, 0, none⟩ = some (.slice A2 rv c2) := by rw [hW, World.cell?_alloc_at _ _ _ _ rfl]; rfl
    have x1 : W.cell? ⟨w2.heap.size, 1, none⟩ = some (.int .i64 bd) := by rw [hW, World.cell?_alloc_at _ _ _ _ rfl]; rfl
    have HX := Lib.hid (And.intro x0 x1)
    have HW := Lib.hid hW
    have HOK := Lib.hid hok
    have HBD := Lib.hid hbd
    have HBW := Lib.hid hbW
    have HB := Lib.hid ((hb1.trans (hb2.mono hb1.size)).trans (hbW.mono (hb1.trans (hb2.mono hb1.size)).size))
    clear hb1 hb2 hbW x0 x1 hW hok hbd
    go_wp2_with fail
    rw [← HW.out]
    go_loopw [6, 7] (fun v i wr => ∃ k : Nat, k ≤ c.size ∧ i = .int .i64 k ∧ Kept W wr v (keep (c.data.toList.take k))) (fun _ i _ => c.size - (intOf i).toNat)
    case atStart => exact ⟨0, by omega, rfl, Below.refl _ _, World.ownsRow_nil _ _ _ _⟩
    case round =>
      obtain ⟨k, hk, rfl, hbel, hown⟩ := hrel
      have hkl : (keep (c.data.toList.take k)).length ≤ k := Nat.le_trans (keep_le _) (List.length_take_le _ _)
      by_cases hlt : k < c.size
      · have y1 : (k : Int) < c.size := by omega
        have HBB := Lib.hid hbel
        have hsz := hbel.size
        cases h10 : ((c[k].toNat : Int) == 10)
        · have HS := Lib.hid (keep_on hlt (by rw [inLine_int, h10]; rfl))
          have h11 : ((c[k].toNat : Int) != 10) = true := by rw [bne, h10]; rfl
          clear hbel
          generalize keep (c.data.toList.take k) = l at *
          go_wp2_with (at_builtin; refine wpList_append_own _ rfl _ _ 45 rfl W.heap.size 5 i0 _ 1 1 Tryd.underlying45 hi0 hz0 hz1 hz2 rfl (by omega) _ l.length _ rfl (hown.alloc _) ⟨_, 0, none⟩ 1 1 [.int .u8 c[k].toNat] rfl rfl (World.news_of_block (cs := #[.int .u8 c[k].toNat]) (t := 5) (fr := (0, 0)) (heap_alloc_new _ _)) (by simp [Value.oneCell']) (by unfold maxLen; omega) (by omega) (by simp; omega) ?_; intro v' w3 hown1 hgrow1 hnil1)
          go_roundw
          case rel =>
            refine ⟨k + 1, by omega, by go_num, Below.grown (HBB.out.alloc hsz _) hgrow1 (by simp; omega) (own_base hown), ?_⟩
            rw [HS.out]
            simpa [u8s] using hown1
          case measure => simp [intOf]; omega
        · have HS := Lib.hid (keep_off hlt (by rw [inLine_int, h10]; rfl))
          have h11 : ((c[k].toNat : Int) != 10) = false := by rw [bne, h10]; rfl
          have HO := Lib.hid hown
          clear hbel hown
          go_wp2_with fail
          go_roundw
          case rel => exact ⟨k + 1, by omega, by go_num, HBB.out, by rw [HS.out]; exact HO.out⟩
          case measure => simp [intOf]; omega
      · have y1 : (c.size : Int) ≤ k := by omega
        have g1 := (hbel.cell (cell_lt HX.out.2)).trans HX.out.2
        have g0 := (hbel.cell (cell_lt HX.out.1)).trans HX.out.1
        have hall := keep_all (c.data.toList.take k)
        have hcv := conv_own rfl hown
        have HBB := Lib.hid hbel
        have HBL := Lib.hid (HB.out.trans (hbel.mono HB.out.size))
        generalize keep (c.data.toList.take k) = l at *
        rcases HBD.out with hb | hb
        · clear hcv hall hown hbel
          go_wp2_with fail
          go_ret
          exact ⟨rfl, HBL.out⟩
        · obtain ⟨ts, hts, hrv, hT2⟩ := HOK.out hb
          subst hrv
          obtain ⟨T, hT⟩ : ∃ T : ByteArray, T = ⟨#[47, 47]⟩ ++ ⟨l.toArray⟩ ++ ⟨#[10, 9, 32]⟩ ++ s := ⟨_, rfl⟩
          have hTl : T.data.toList = 47 :: 47 :: (l ++ 10 :: 9 :: 32 :: s.data.toList) := by
            rw [hT, Go.Joins.data_append, Go.Joins.data_append, Go.Joins.data_append]; simp
          have hTs : T.size ≤ 65536 := by
            have h5 : s.data.toList.length = s.size := (Lib.size_eq s).symm
            rw [Lib.size_eq, hTl]; simp only [List.length_cons, List.length_append]; omega
          have hnear := Lx.lex_comment l s.data.toList 0 hall
          rw [← hTl, ← left_of s, hts] at hnear
          have hus : ∃ us, left T 0 = .ok us ∧ Lx.alike us ts := by
            rw [left_of]
            cases hlx : Lx.lex T.data.toList 0 with
            | bad i => rw [hlx] at hnear; exact hnear.elim
            | ok us => rw [hlx] at hnear; exact ⟨us, rfl, hnear⟩
          obtain ⟨us, hul, hal⟩ := hus
          have hlen := alike_len hal
          have hn : ts.length ≤ 10000 := tok_count (s := s) (by omega) hts
          have CM := Lib.hid (fun w => L.tokens T w hTs)
          have HM := Lib.hid hul
          have HU := Lib.hid hlen
          have K2 := Lib.hid (alike_full T.size s.size hal)
          have HR2 := Lib.hid ((hT2.later HBW.out).later hbel)
          have HT := Lib.hid hT
          have HG := Lib.hid g0
          have hls : s.size ≤ 1000 := z1
          clear hTl hTs hnear hul hal hlen hts hT hT2 hall hown hbel g0
          go_wp2_with fail
          rw [← HT.out]
          refine (CM.out _).mono ?_
          rintro e X ⟨hb5, he⟩
          rw [HM.out] at he
          obtain ⟨A5, c5, rfl, ht5⟩ := he
          rw [HU.out] at ht5 ⊢
          have HM5 := Lib.hid ht5
          have HR5 := Lib.hid (HR2.out.later hb5)
          have x0 := (hb5.cell (cell_lt HG.out)).trans HG.out
          have HB5 := Lib.hid (HBL.out.trans (hb5.mono HBL.out.size))
          clear hb5 ht5
          have hlt2 := cell_lt x0
          have D3 := Lib.hid (fun (V : World) (hV : Below X.heap.size X V) => (plain_any A5 (ts.length + 1) c5 (full us T.size) V (by omega) (HM5.out.later hV)).mono fun e w' (h : ∃ A' c', _ ∧ _ ∧ _) => (h.elim fun A' h => h.elim fun c' h => ⟨A', c', h.1, h.2.1, hV.trans (h.2.2.mono hV.size)⟩ : ∃ A' c', e = .returned (.slice A' (ts.length + 1) c') ∧ TS w' A' (ts.length + 1) (full us T.size) ∧ Below X.heap.size X w'))
          have D4 := Lib.hid (fun (A' : Option Addr) (c' : Nat) (V : World) (hV : Below X.heap.size X V) (hT : TS V A' (ts.length + 1) (full us T.size)) => (alike_any A' A2 (ts.length + 1) (ts.length + 1) c' c2 (full us T.size) (full ts s.size) V (by omega) (by omega) hT (HR5.out.later hV)).mono fun e w' (h : _ ∧ _) => (⟨by rw [h.1, K2.out], hV.trans (h.2.mono hV.size)⟩ : e = .returned (.bool true) ∧ Below X.heap.size X w'))
          have SS : Below X.heap.size X X ∧ X.cell? ⟨w2.heap.size, 0, none⟩ = some (.slice A2 (ts.length + 1) c2) := ⟨Below.refl _ _, x0⟩
          go_wp2_with fail
          go_region_held3 (fun W => Below X.heap.size X W ∧ W.cell? ⟨w2.heap.size, 0, none⟩ = some (.slice A2 (ts.length + 1) c2))
            (first | exact SS | exact ⟨SS.1.drew, SS.2⟩)
            (first
              | (go_at_call 13; refine (D3.out _ ?_).mono ?_; (first | exact SS.1 | exact SS.1.drew); rintro e w6 ⟨A', c', rfl, hT, hb6⟩; have HP := Lib.hid hT; clear hT; have SS : Below X.heap.size X w6 ∧ w6.cell? ⟨w2.heap.size, 0, none⟩ = some (.slice A2 (ts.length + 1) c2) := ⟨hb6, (hb6.cell hlt2).trans x0⟩)
              | (go_at_call 17; refine (D4.out A' c' _ ?_ HP.out).mono ?_; (first | exact SS.1 | exact SS.1.drew); rintro e w6 ⟨rfl, hb6⟩; have SS : Below X.heap.size X w6 ∧ w6.cell? ⟨w2.heap.size, 0, none⟩ = some (.slice A2 (ts.length + 1) c2) := ⟨hb6, (hb6.cell hlt2).trans x0⟩))
          go_wp2
          go_ret
          exact ⟨rfl, HB5.out.trans (Below.mono SS.1 HB5.out.size)⟩
end Go.Proofs.YtfbahblhcmgbiaaDoor
