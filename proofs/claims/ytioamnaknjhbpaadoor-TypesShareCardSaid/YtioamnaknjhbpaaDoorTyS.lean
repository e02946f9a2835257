/- The walk of the law TypesSubstitute over the contracts of package types: true, at every input. -/
import Derived.Test.YtioamnaknjhbpaaDoorTyQ
namespace Go.Proofs.YtioamnaknjhbpaaDoor
open Go.RowKit

/-- Names and types that came in. -/
structure Puts (W : World) (N : Option Addr) (nl : Nat) (ns : List ByteArray) (U : Option Addr) (ul : Nat) (us : List Ty) : Prop where
  names : Sl W N nl ns
  types : Here W U ul us
theorem Puts.later {W W' : World} {N : Option Addr} {nl : Nat} {ns : List ByteArray} {U : Option Addr} {ul : Nat} {us : List Ty} (h : Puts W N nl ns U ul us) (hb : Below W.heap.size W W') : Puts W' N nl ns U ul us := ⟨h.names.later hb, Here.later h.types hb⟩
theorem fewL_small {us : List Ty} (h : Ty.fewL us = true) : (∀ u ∈ us, u.Small) ∧ us.length ≤ 200 := by
  unfold Ty.fewL at h
  have h2 := Ty.wtL_of_cnt (of_decide_eq_true h)
  exact ⟨fun u hu => Ty.small_of_wt (Nat.le_trans (Ty.wtL_mem hu) h2), Nat.le_trans (Ty.wtL_len us) h2⟩
/-- A slice of types that lies. -/
structure Row (W : World) (A : Option Addr) (n : Nat) (ts : List Ty) : Prop where
  here : Here W A n ts
theorem Row.later {W W' : World} {A : Option Addr} {n : Nat} {ts : List Ty} (h : Row W A n ts) (hb : Below W.heap.size W W') : Row W' A n ts := ⟨Here.later h.here hb⟩

set_option maxRecDepth 100000 in
set_option maxHeartbeats 8000000 in
theorem typesSubstitute_any (L : TypesOk) (t : Ty) (At : Option Addr) (mt ct : Nat) (N U : Option Addr) (nl ul nc uc : Nat) (ns : List ByteArray) (us : List Ty) (w : World) (nt : t.name.size ≤ 9223372036854775807) (ht : Here w At mt t.args) (hN : Sl w N nl ns) (hU : Here w U ul us) (hnc : Fits ns nl nc) (hE : ResVar w) :
    Calls Tryd.prog 4 #[.agg #[.string t.name, .slice At mt ct, .int .i64 t.off], .slice N nl nc, .slice U ul uc] w fun e w' => e = .returned (.bool true) ∧ Below w.heap.size w w' := by
  have hx := one_box w t At mt ct 24 hE ht
  have B0 := Lib.hid hx.1
  have Ot0 := Lib.hid hx.2
  obtain ⟨ft, hft⟩ : ∃ x, t.few = x := ⟨_, rfl⟩
  have Ft := Lib.hid hft
  clear hx hE ht hft
  have P0 := Lib.hid (Puts.mk (hN.later B0.out.below) (Here.later hU B0.out.below))
  obtain ⟨fu, hfu⟩ : ∃ x, Ty.fewL us = x := ⟨_, rfl⟩
  have FU := Lib.hid hfu
  have HNC := Lib.hid hnc
  clear hN hU hfu hnc
  go_enter Tryd.func4, Tryd.ntmps4
  go_wp2_with fail
  generalize hW : w.alloc (.cells #[.string t.name, .slice At mt ct, .int .i64 t.off] 24) = W at *
  clear hW
  obtain ⟨t0, t1, t2⟩ := Ot0.out.box
  refine (awake_any L _ B0.out.env).mono ?_
  rintro e w1 ⟨rfl, hb⟩
  clear t0 t1 t2
  have B1 := Lib.hid (B0.out.later hb)
  have Ot1 := Lib.hid (Ot0.out.later hb)
  have P1 := Lib.hid (P0.out.later hb)
  clear hb B0 Ot0 P0
  obtain ⟨t0, t1, t2⟩ := Ot1.out.box
  go_wp2_with fail
  refine (few_any t At mt ct _ nt Ot1.out.here).mono ?_
  rintro e w2 ⟨rfl, hb⟩
  rw [Ft.out]
  clear t0 t1 t2
  have B2 := Lib.hid (B1.out.later hb)
  have Ot2 := Lib.hid (Ot1.out.later hb)
  have P2 := Lib.hid (P1.out.later hb)
  clear hb B1 Ot1 P1
  cases ft
  · skip
    obtain ⟨t0, t1, t2⟩ := Ot2.out.box
    go_wp2_with fail
    refine (awake_any L _ B2.out.env).mono ?_
    rintro e w3 ⟨rfl, hb⟩
    clear t0 t1 t2
    have B3 := Lib.hid (B2.out.later hb)
    have Ot3 := Lib.hid (Ot2.out.later hb)
    have P3 := Lib.hid (P2.out.later hb)
    clear hb B2 Ot2 P2
    obtain ⟨t0, t1, t2⟩ := Ot3.out.box
    go_wp2_with fail
    go_ret
    exact ⟨rfl, B3.out.below⟩
  have St := Lib.hid (few_small Ft.out)
  by_cases hnl : 20 < nl
  · skip
    have z : (20 : Int) < nl := by omega
    obtain ⟨t0, t1, t2⟩ := Ot2.out.box
    go_wp2_with fail
    refine (awake_any L _ B2.out.env).mono ?_
    rintro e w3 ⟨rfl, hb⟩
    clear t0 t1 t2
    have B3 := Lib.hid (B2.out.later hb)
    have Ot3 := Lib.hid (Ot2.out.later hb)
    have P3 := Lib.hid (P2.out.later hb)
    clear hb B2 Ot2 P2
    obtain ⟨t0, t1, t2⟩ := Ot3.out.box
    go_wp2_with fail
    go_ret
    exact ⟨rfl, B3.out.below⟩
  have z : (nl : Int) ≤ 20 := by omega
  obtain ⟨t0, t1, t2⟩ := Ot2.out.box
  go_wp2_with fail
  refine (few_all_any us U ul uc _ P2.out.types).mono ?_
  rintro e w3 ⟨rfl, hb⟩
  rw [FU.out]
  clear t0 t1 t2
  have B3 := Lib.hid (B2.out.later hb)
  have Ot3 := Lib.hid (Ot2.out.later hb)
  have P3 := Lib.hid (P2.out.later hb)
  clear hb B2 Ot2 P2
  cases fu
  · skip
    obtain ⟨t0, t1, t2⟩ := Ot3.out.box
    go_wp2_with fail
    refine (awake_any L _ B3.out.env).mono ?_
    rintro e w4 ⟨rfl, hb⟩
    clear t0 t1 t2
    have B4 := Lib.hid (B3.out.later hb)
    have Ot4 := Lib.hid (Ot3.out.later hb)
    have P4 := Lib.hid (P3.out.later hb)
    clear hb B3 Ot3 P3
    obtain ⟨t0, t1, t2⟩ := Ot4.out.box
    go_wp2_with fail
    go_ret
    exact ⟨rfl, B4.out.below⟩
  have SU := Lib.hid (fewL_small FU.out).1
  have hus := (fewL_small FU.out).2
  have hul : ul ≤ 200 := by have := P3.out.types.len; omega
  have HUL := Lib.hid (show us.length = ul from P3.out.types.len)
  have SUL := Lib.hid (fun u hu => Nat.le_trans (SU.out u hu).list (by omega : 1000 ≤ 1000000))
  clear hus hnl
  obtain ⟨t0, t1, t2⟩ := Ot3.out.box
  go_wp2_with fail
  refine (L.subst ns us N U nl ul nc uc t At mt ct _ SU.out St.out (by omega) (by omega) HNC.out Ot3.out.here P3.out.names P3.out.types).mono ?_
  rintro e V1 ⟨A2, m2, c2, rfl, hns, hl2, hb0⟩
  have hb : Below _ _ _ := hb0.trans (((Below.refl _ _).alloc (Nat.le_refl _) (.cells #[.string (Ty.subst ns us t).name, .slice A2 m2 c2, .int .i64 (Ty.subst ns us t).off] 24)).mono hb0.size)
  have hs := One.new c2 24 hl2.here
  have HNS := Lib.hid hns
  clear hb0 hl2 hns
  clear t0 t1 t2
  have B4 := Lib.hid (B3.out.later hb)
  have Ot4 := Lib.hid (Ot3.out.later hb)
  have P4 := Lib.hid (P3.out.later hb)
  clear hb B3 Ot3 P3
  have Os4 := Lib.hid hs
  clear hs
  have HLN := Lib.hid (show (us.map (Ty.subst ns us)).length = ul by rw [List.length_map, HUL.out])
  obtain ⟨t0, t1, t2⟩ := Ot4.out.box
  obtain ⟨s0, s1, s2⟩ := Os4.out.box
  go_wp2_with fail
  refine (L.all us ns us U N U ul uc nl ul nc uc _ SU.out SU.out (by omega) (by omega) (by omega) HNC.out P4.out.types P4.out.names P4.out.types).mono ?_
  rintro e V2 ⟨A3, c3, rfl, hl3, hb⟩
  rw [HLN.out]
  clear t0 t1 t2 s0 s1 s2
  have B5 := Lib.hid (B4.out.later hb)
  have Ot5 := Lib.hid (Ot4.out.later hb)
  have Os5 := Lib.hid (Os4.out.later hb)
  have P5 := Lib.hid (P4.out.later hb)
  clear hb B4 Ot4 Os4 P4
  have R5 := Lib.hid (Row.mk hl3.here)
  clear hl3
  obtain ⟨t0, t1, t2⟩ := Ot5.out.box
  obtain ⟨s0, s1, s2⟩ := Os5.out.box
  go_wp2_with fail
  refine (ref_all_any us ns us U N U ul uc nl ul nc uc _ SUL.out SUL.out (by omega) (by omega) P5.out.types P5.out.names P5.out.types).mono ?_
  rintro e V3 ⟨A4, c4, rfl, hl4, hb⟩
  rw [HLN.out]
  clear t0 t1 t2 s0 s1 s2
  have B6 := Lib.hid (B5.out.later hb)
  have Ot6 := Lib.hid (Ot5.out.later hb)
  have Os6 := Lib.hid (Os5.out.later hb)
  have P6 := Lib.hid (P5.out.later hb)
  have R6 := Lib.hid (R5.out.later hb)
  clear hb B5 Ot5 Os5 P5 R5
  have Q6 := Lib.hid (Row.mk hl4.here)
  clear hl4
  rw [HLN.out] at R6 Q6
  have hnn : ((ul : Int) != (ul : Int)) = false := by simp
  have hnn2 : (!((ul : Int) == (ul : Int))) = false := by simp
  clear HLN
  generalize hMP : us.map (Ty.subst ns us) = MP at *
  clear hMP
  go_wp2_with fail
  go_loopw [10] (fun i wr => ∃ k : Nat, k ≤ ul ∧ i = .int .i64 k ∧ Below V3.heap.size V3 wr) (fun i _ => ul - (intOf i).toNat)
  case atStart => exact ⟨0, by omega, rfl, Below.refl _ _⟩
  case round =>
    obtain ⟨k, hk, rfl, hbel⟩ := hrel
    have HBL := Lib.hid hbel
    by_cases hlt : k < ul
    · have y0 : (k : Int) < ul := by omega
      have y1 : (0 : Int) ≤ k := by omega
      obtain ⟨a, s2, as2, o2, A5, m5, c5, rfl, hx, _, a0, a1, a2, hs2, hl5⟩ := Lies.get (R6.out.later hbel).here hlt
      obtain ⟨b, r2, bs2, p2, B6, l6, d6, rfl, hy, _, b0, b1, b2, hr2, hl6⟩ := Lies.get (Q6.out.later hbel).here hlt
      obtain ⟨rfl, rfl, rfl⟩ : s2 = r2 ∧ as2 = bs2 ∧ o2 = p2 := by rw [hx] at hy; injection hy with h; injection h with h1 h2 h3; exact ⟨h1, h2, h3⟩
      have C := Lib.hid (fun (V : World) (hV : Below wr.heap.size wr V) => (ref_equal_any (.mk s2 as2 o2) (.mk s2 as2 o2) A5 B6 m5 l6 c5 d6 V hs2 hs2 (Here.later hl5 hV) (Here.later hl6 hV)).mono fun e w' h => EqvPost.from hV h)
      rw [Ty.eqv_refl] at C
      simp only [Ty.name, Ty.off] at C
      have k0 := cell_lt a0
      have k1 := cell_lt b0
      rw [block_of_add] at k0 k1
      have SS : Below wr.heap.size wr wr ∧ wr.cell? (a.add (k * 3)) = some (.string s2) ∧ wr.cell? ⟨(a.add (k * 3)).block, (a.add (k * 3)).off + 1, none⟩ = some (.slice A5 m5 c5) ∧ wr.cell? ⟨(a.add (k * 3)).block, (a.add (k * 3)).off + 2, none⟩ = some (.int .i64 o2) ∧ wr.cell? (b.add (k * 3)) = some (.string s2)
        ∧ wr.cell? ⟨(b.add (k * 3)).block, (b.add (k * 3)).off + 1, none⟩ = some (.slice B6 l6 d6) ∧ wr.cell? ⟨(b.add (k * 3)).block, (b.add (k * 3)).off + 2, none⟩ = some (.int .i64 o2) := ⟨Below.refl _ _, a0, a1, a2, b0, b1, b2⟩
      clear hx hy hl5 hl6 hbel
      go_wp2_with fail
      go_region_held3 (fun V => Below wr.heap.size wr V ∧ V.cell? (a.add (k * 3)) = some (.string s2) ∧ V.cell? ⟨(a.add (k * 3)).block, (a.add (k * 3)).off + 1, none⟩ = some (.slice A5 m5 c5) ∧ V.cell? ⟨(a.add (k * 3)).block, (a.add (k * 3)).off + 2, none⟩ = some (.int .i64 o2) ∧ V.cell? (b.add (k * 3)) = some (.string s2)
        ∧ V.cell? ⟨(b.add (k * 3)).block, (b.add (k * 3)).off + 1, none⟩ = some (.slice B6 l6 d6) ∧ V.cell? ⟨(b.add (k * 3)).block, (b.add (k * 3)).off + 2, none⟩ = some (.int .i64 o2))
        (first | exact SS | exact ⟨SS.1.drew, SS.2⟩)
        (first
          | (go_at_call 26; refine (C.out _ ?_).mono ?_; (first | exact SS.1 | exact SS.1.drew); rintro e w1 ⟨rfl, hb1⟩; have SS : Below wr.heap.size wr w1 ∧ w1.cell? (a.add (k * 3)) = some (.string s2) ∧ w1.cell? ⟨(a.add (k * 3)).block, (a.add (k * 3)).off + 1, none⟩ = some (.slice A5 m5 c5) ∧ w1.cell? ⟨(a.add (k * 3)).block, (a.add (k * 3)).off + 2, none⟩ = some (.int .i64 o2) ∧ w1.cell? (b.add (k * 3)) = some (.string s2)
        ∧ w1.cell? ⟨(b.add (k * 3)).block, (b.add (k * 3)).off + 1, none⟩ = some (.slice B6 l6 d6) ∧ w1.cell? ⟨(b.add (k * 3)).block, (b.add (k * 3)).off + 2, none⟩ = some (.int .i64 o2) := ⟨hb1, (hb1.cell (by rw [block_of_add]; exact k0)).trans a0, (hb1.cell (p := ⟨(a.add (k * 3)).block, _, none⟩) (by rw [block_of_add]; exact k0)).trans a1, (hb1.cell (p := ⟨(a.add (k * 3)).block, _, none⟩) (by rw [block_of_add]; exact k0)).trans a2, (hb1.cell (by rw [block_of_add]; exact k1)).trans b0, (hb1.cell (p := ⟨(b.add (k * 3)).block, _, none⟩) (by rw [block_of_add]; exact k1)).trans b1, (hb1.cell (p := ⟨(b.add (k * 3)).block, _, none⟩) (by rw [block_of_add]; exact k1)).trans b2⟩; clear hb1))
      have HB1 := Lib.hid (HBL.out.trans (SS.1.mono HBL.out.size))
      clear SS
      go_wp2
      go_roundw
      case rel => exact ⟨k + 1, by omega, by go_num, HB1.out⟩
      case measure => simp [intOf]; omega
    · have y0 : (ul : Int) ≤ k := by omega
      have BX := Lib.hid (B6.out.later hbel)
      have OT := Lib.hid (Ot6.out.later hbel)
      have OS := Lib.hid (Os6.out.later hbel)
      have PX := Lib.hid (P6.out.later hbel)
      obtain ⟨t0, t1, t2⟩ := OT.out.box
      obtain ⟨s0, s1, s2⟩ := OS.out.box
      have l0 := cell_lt t0
      have l1 := cell_lt s0
      have CR := Lib.hid (fun (V : World) (hV : Below wr.heap.size wr V) => (ref_subst_any ns us N U nl ul nc uc t At mt ct V SUL.out nt (Nat.le_trans St.out.list (by omega)) (by omega) (Here.later OT.out.here hV) (PX.out.names.later hV) (Here.later PX.out.types hV)).mono fun e w' h => TyPost.from hV h)
      have CS := Lib.hid (fun (V : World) (hV : Below wr.heap.size wr V) => (L.subst [] [] none none 0 0 0 0 t At mt ct V (by intro u hu; cases hu) St.out (by omega) (by omega) fits_nil (Here.later OT.out.here hV) ⟨rfl, fun j p hj => by simp at hj⟩ (Lies.nil _ _ _)).mono fun e w' h => TyPost.from hV h)
      rw [subst_none] at CS
      have C1 := Lib.hid (fun (A3 : Option Addr) (m3 c3 : Nat) (V : World) (hV : Below wr.heap.size wr V) (h2 : Here V A3 m3 (Ty.subst ns us t).args) => (ref_equal_any (Ty.subst ns us t) (Ty.subst ns us t) A2 A3 m2 m3 c2 c3 V HNS.out HNS.out (Here.later OS.out.here hV) h2).mono fun e w' h => EqvPost.from hV h)
      have C2 := Lib.hid (fun (A4 : Option Addr) (m4 c4 : Nat) (V : World) (hV : Below wr.heap.size wr V) (h2 : Here V A4 m4 t.args) => (ref_equal_any t t A4 At m4 mt c4 ct V nt nt h2 (Here.later OT.out.here hV)).mono fun e w' h => EqvPost.from hV h)
      rw [Ty.eqv_refl] at C1 C2
      clear hbel
      generalize Ty.subst ns us t = q at *
      have SS : Below wr.heap.size wr wr ∧ wr.cell? ⟨w.heap.size, 0, none⟩ = some (.string t.name) ∧ wr.cell? ⟨w.heap.size, 1, none⟩ = some (.slice At mt ct) ∧ wr.cell? ⟨w.heap.size, 2, none⟩ = some (.int .i64 t.off) ∧ wr.cell? ⟨V1.heap.size, 0, none⟩ = some (.string q.name) ∧ wr.cell? ⟨V1.heap.size, 1, none⟩ = some (.slice A2 m2 c2) ∧ wr.cell? ⟨V1.heap.size, 2, none⟩ = some (.int .i64 q.off) := ⟨Below.refl _ _, t0, t1, t2, s0, s1, s2⟩
      go_wp2_with fail
      go_region_held3 (fun V => Below wr.heap.size wr V ∧ V.cell? ⟨w.heap.size, 0, none⟩ = some (.string t.name) ∧ V.cell? ⟨w.heap.size, 1, none⟩ = some (.slice At mt ct) ∧ V.cell? ⟨w.heap.size, 2, none⟩ = some (.int .i64 t.off) ∧ V.cell? ⟨V1.heap.size, 0, none⟩ = some (.string q.name) ∧ V.cell? ⟨V1.heap.size, 1, none⟩ = some (.slice A2 m2 c2) ∧ V.cell? ⟨V1.heap.size, 2, none⟩ = some (.int .i64 q.off))
        (first | exact SS | exact ⟨SS.1.drew, SS.2⟩)
        (first
          | (go_at_call 27; refine (CR.out _ ?_).mono ?_; (first | exact SS.1 | exact SS.1.drew); rintro e v1 ⟨A5, m5, c5, rfl, _, hl5, hb⟩; have HL5 := Lib.hid hl5.here; have SS : Below wr.heap.size wr v1 ∧ v1.cell? ⟨w.heap.size, 0, none⟩ = some (.string t.name) ∧ v1.cell? ⟨w.heap.size, 1, none⟩ = some (.slice At mt ct) ∧ v1.cell? ⟨w.heap.size, 2, none⟩ = some (.int .i64 t.off) ∧ v1.cell? ⟨V1.heap.size, 0, none⟩ = some (.string q.name) ∧ v1.cell? ⟨V1.heap.size, 1, none⟩ = some (.slice A2 m2 c2) ∧ v1.cell? ⟨V1.heap.size, 2, none⟩ = some (.int .i64 q.off) := ⟨hb, (hb.cell l0).trans t0, (hb.cell (p := ⟨w.heap.size, 1, none⟩) l0).trans t1, (hb.cell (p := ⟨w.heap.size, 2, none⟩) l0).trans t2, (hb.cell l1).trans s0, (hb.cell (p := ⟨V1.heap.size, 1, none⟩) l1).trans s1, (hb.cell (p := ⟨V1.heap.size, 2, none⟩) l1).trans s2⟩; clear hl5 hb)
          | (go_at_call 23; refine (CS.out _ ?_).mono ?_; (first | exact SS.1 | exact SS.1.drew); rintro e v3 ⟨A6, m6, c6, rfl, _, hl6, hb⟩; have HL6 := Lib.hid hl6.here; have SS : Below wr.heap.size wr v3 ∧ v3.cell? ⟨w.heap.size, 0, none⟩ = some (.string t.name) ∧ v3.cell? ⟨w.heap.size, 1, none⟩ = some (.slice At mt ct) ∧ v3.cell? ⟨w.heap.size, 2, none⟩ = some (.int .i64 t.off) ∧ v3.cell? ⟨V1.heap.size, 0, none⟩ = some (.string q.name) ∧ v3.cell? ⟨V1.heap.size, 1, none⟩ = some (.slice A2 m2 c2) ∧ v3.cell? ⟨V1.heap.size, 2, none⟩ = some (.int .i64 q.off) := ⟨hb, (hb.cell l0).trans t0, (hb.cell (p := ⟨w.heap.size, 1, none⟩) l0).trans t1, (hb.cell (p := ⟨w.heap.size, 2, none⟩) l0).trans t2, (hb.cell l1).trans s0, (hb.cell (p := ⟨V1.heap.size, 1, none⟩) l1).trans s1, (hb.cell (p := ⟨V1.heap.size, 2, none⟩) l1).trans s2⟩; clear hl6 hb)
          | (go_at_call 26; refine (C2.out A6 m6 c6 _ ?_ ?_).mono ?_; (first | exact SS.1 | exact SS.1.drew); (first | exact HL6.out | exact HL6.out.drew); rintro e v4 ⟨rfl, hb⟩; have SS : Below wr.heap.size wr v4 ∧ v4.cell? ⟨w.heap.size, 0, none⟩ = some (.string t.name) ∧ v4.cell? ⟨w.heap.size, 1, none⟩ = some (.slice At mt ct) ∧ v4.cell? ⟨w.heap.size, 2, none⟩ = some (.int .i64 t.off) ∧ v4.cell? ⟨V1.heap.size, 0, none⟩ = some (.string q.name) ∧ v4.cell? ⟨V1.heap.size, 1, none⟩ = some (.slice A2 m2 c2) ∧ v4.cell? ⟨V1.heap.size, 2, none⟩ = some (.int .i64 q.off) := ⟨hb, (hb.cell l0).trans t0, (hb.cell (p := ⟨w.heap.size, 1, none⟩) l0).trans t1, (hb.cell (p := ⟨w.heap.size, 2, none⟩) l0).trans t2, (hb.cell l1).trans s0, (hb.cell (p := ⟨V1.heap.size, 1, none⟩) l1).trans s1, (hb.cell (p := ⟨V1.heap.size, 2, none⟩) l1).trans s2⟩; clear hb)
          | (go_at_call 26; refine (C1.out A5 m5 c5 _ ?_ ?_).mono ?_; (first | exact SS.1 | exact SS.1.drew); (first | exact HL5.out | exact HL5.out.drew); rintro e v2 ⟨rfl, hb⟩; have SS : Below wr.heap.size wr v2 ∧ v2.cell? ⟨w.heap.size, 0, none⟩ = some (.string t.name) ∧ v2.cell? ⟨w.heap.size, 1, none⟩ = some (.slice At mt ct) ∧ v2.cell? ⟨w.heap.size, 2, none⟩ = some (.int .i64 t.off) ∧ v2.cell? ⟨V1.heap.size, 0, none⟩ = some (.string q.name) ∧ v2.cell? ⟨V1.heap.size, 1, none⟩ = some (.slice A2 m2 c2) ∧ v2.cell? ⟨V1.heap.size, 2, none⟩ = some (.int .i64 q.off) := ⟨hb, (hb.cell l0).trans t0, (hb.cell (p := ⟨w.heap.size, 1, none⟩) l0).trans t1, (hb.cell (p := ⟨w.heap.size, 2, none⟩) l0).trans t2, (hb.cell l1).trans s0, (hb.cell (p := ⟨V1.heap.size, 1, none⟩) l1).trans s1, (hb.cell (p := ⟨V1.heap.size, 2, none⟩) l1).trans s2⟩; clear hb))
      go_wp2
      go_ret
      exact ⟨rfl, BX.out.below.trans (Below.mono SS.1 BX.out.below.size)⟩
end Go.Proofs.YtioamnaknjhbpaaDoor
