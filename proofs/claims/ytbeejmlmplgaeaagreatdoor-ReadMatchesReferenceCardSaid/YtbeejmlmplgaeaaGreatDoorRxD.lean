/- The walk of WholeExpr of layer 7's reference. The conditions: the text is short; what its Expr gives (RExAt). -/
import Derived.Test.YtbeejmlmplgaeaaGreatDoorRfD
namespace Go.Proofs.YtbeejmlmplgaeaaGreatDoor.Rd
open Go.RowKit

/-- What the reference's Expr gives. -/
def RExPost (A : Option Addr) (n cap : Nat) (L l : List Tk) (m : Nat) (w : World) (e : Ending) (w' : World) : Prop := ∃ (t : Ex) (us : List Value) (p' : Nat) (b' : Bool), e = .returned (.tuple #[.agg #[.slice A n cap, .int .i64 p', .bool b'], .agg us.toArray]) ∧ t.dat.In w' False (Fr w.heap.size w') us ∧ RAft w' A n L p' b' t (exF m l) ∧ Below w.heap.size w w'
def RExAt (m : Nat) : Prop := ∀ (A : Option Addr) (n cap p : Nat) (L l : List Tk) (w : World), Pl w A n L p l → 2 * l.length + 2 ≤ m → Calls Tryz.prog 67 #[.agg #[.slice A n cap, .int .i64 p, .bool false]] w (RExPost A n cap L l m w)
/-- What the reference reads from a whole text. -/
def RXWholePost (s : ByteArray) (w : World) (e : Ending) (w' : World) : Prop := ∃ us, e = .returned (.tuple #[.agg us.toArray, .int .i64 (exO s).code, .int .i64 (exO s).at]) ∧ ((exO s).val exNone).dat.In w' False (Fr w.heap.size w') us ∧ Below w.heap.size w w'
theorem results_rwx {w : World} {b : Nat} {us : List Value} {v u : Value} (tmps : Array Value) (ht : tmps[2]?.getD undef = .pointer (some ⟨b, 0, none⟩)) (hv : tmps[3]?.getD undef = v) (hu : tmps[4]?.getD undef = u) (hc : Boxd w b us) (hl : us.length = 8) : (results Tryz.f19 tmps).run Tryz.prog w = .ok (.tuple #[.agg us.toArray, v, u]) w := by
  have h := run_cell flatEx hc hl
  have h2 := run_addr ⟨b, 0, none⟩ w
  simp [results, Tryz.results19, ht, hv, hu, h, h2, Sem.run_bind, Result.andThen]
theorem rxwhole_bad {s : ByteArray} {w w' : World} {c a : Int} (h : exO s = .err c a) (hb : Below w.heap.size w w') : RXWholePost s w (.returned (.tuple #[.agg ([.int .i64 0, .string ⟨#[]⟩, .string ⟨#[]⟩, .slice none 0 0, .int .i64 0, .slice none 0 0, .slice none 0 0, .int .i64 0] : List Value).toArray, .int .i64 c, .int .i64 a])) w' := by
  unfold RXWholePost
  rw [h]
  exact ⟨_, rfl, exNone_in' _ _ _, hb⟩
set_option maxRecDepth 100000 in
set_option maxHeartbeats 4000000 in
theorem rxwhole_any (hx : ∀ m, RExAt m) (s : ByteArray) (w : World) (hs : s.size ≤ 40000) : Calls Tryz.prog 19 #[.string s] w (RXWholePost s w) := by
  obtain ⟨W, hW⟩ : ∃ W, w.alloc (.cells #[.int .i64 0, .string ⟨#[]⟩, .string ⟨#[]⟩, .slice none 0 0, .int .i64 0, .slice none 0 0, .slice none 0 0, .int .i64 0] 28) = W := ⟨_, rfl⟩
  have hb : Below w.heap.size w W := hW ▸ (Below.refl _ _).alloc (Nat.le_refl _) _
  have HT := Lib.hid (show W.there w.heap.size 0 8 from hW ▸ there_new w #[.int .i64 0, .string ⟨#[]⟩, .string ⟨#[]⟩, .slice none 0 0, .int .i64 0, .slice none 0 0, .slice none 0 0, .int .i64 0] 28)
  have hz : W.heap.size = w.heap.size + 1 := by rw [← hW]; simp
  have HW := Lib.hid hW
  have HB := Lib.hid hb
  have C := Lib.hid (begin_any s W hs)
  have HS := Lib.hid hs
  clear hW hb hs
  go_enter Tryz.func19, Tryz.ntmps19
  go_wp2_with fail
  rw [HW.out]
  refine C.out.mono ?_
  rintro e V ⟨hb, hp⟩
  have hsV := hb.size
  have HT1 := Lib.hid (there_below HT.out (by omega) hb)
  have HB1 := Lib.hid (HB.out.trans (hb.mono (by omega)))
  clear hb C HT HB
  cases hl : left s 0 with
  | bad i =>
    rw [hl] at hp
    obtain rfl := hp
    obtain ⟨V1, hV1⟩ : ∃ X, V.alloc (.cells #[.slice none 0 0, .int .i64 0, .bool false] 106) = X := ⟨_, rfl⟩
    have hb1 : Below V.heap.size V V1 := hV1 ▸ (Below.refl _ _).alloc (Nat.le_refl _) _
    have HT2 := Lib.hid (there_below HT1.out (by omega) hb1)
    have HB2 := Lib.hid (HB1.out.trans (hb1.mono (by omega)))
    have HV1 := Lib.hid hV1
    have HLL := Lib.hid (show exO s = .err 1 i by unfold exO wholeO; rw [hl])
    clear hV1 hb1 hl
    go_upto_region 3 with fail
    rw [HV1.out]
    go_wp2_with (refine storeOp flatEx 2 17 (b := w.heap.size) (o := 0) (us := [.int .i64 0, .string ⟨#[]⟩, .string ⟨#[]⟩, .slice none 0 0, .int .i64 0, .slice none 0 0, .slice none 0 0, .int .i64 0]) rfl rfl HT2.out (ex8_one rfl rfl rfl rfl rfl rfl rfl rfl) rfl ?_)
    refine bodyPost_ret (results_rwx _ rfl rfl rfl (show Boxd _ _ [.int .i64 0, .string ⟨#[]⟩, .string ⟨#[]⟩, .slice none 0 0, .int .i64 0, .slice none 0 0, .slice none 0 0, .int .i64 0] from set_there (us := [.int .i64 0, .string ⟨#[]⟩, .string ⟨#[]⟩, .slice none 0 0, .int .i64 0, .slice none 0 0, .slice none 0 0, .int .i64 0]) HT2.out) rfl) rfl ?_
    exact rxwhole_bad HLL.out (HB2.out.trans (below_sets (Nat.le_refl _) [.int .i64 0, .string ⟨#[]⟩, .string ⟨#[]⟩, .slice none 0 0, .int .i64 0, .slice none 0 0, .slice none 0 0, .int .i64 0] _ _))
  | ok ts =>
    rw [hl] at hp
    obtain ⟨A, cap, rfl, hts⟩ := hp
    obtain ⟨V1, hV1⟩ : ∃ X, V.alloc (.cells #[.slice A (ts.length + 1) cap, .int .i64 0, .bool false] 106) = X := ⟨_, rfl⟩
    have hb1 : Below V.heap.size V V1 := hV1 ▸ (Below.refl _ _).alloc (Nat.le_refl _) _
    have HT2 := Lib.hid (there_below HT1.out (by omega) hb1)
    have HB2 := Lib.hid (HB1.out.trans (hb1.mono (by omega)))
    have hbx : Boxd V1 V.heap.size [.slice A (ts.length + 1) cap, .int .i64 0, .bool false] := hV1 ▸ Boxd.new V #[.slice A (ts.length + 1) cap, .int .i64 0, .bool false] 106
    have hpt : V1.there V.heap.size 0 3 := hV1 ▸ there_new V #[.slice A (ts.length + 1) cap, .int .i64 0, .bool false] 106
    obtain ⟨f1, f2, f3⟩ := full_ok hl HS.out
    have hpl0 : Pl V A (ts.length + 1) (full ts s.size) 0 (full ts s.size) := ⟨hts, rfl, f1, by have := hts.len; omega, f3⟩
    have hpl := hpl0.later hb1
    have HPL0 := Lib.hid hpl0
    have HBV := Lib.hid hb1
    have HV1 := Lib.hid hV1
    have HLL := Lib.hid (show exO s = endO (exF (2 * (full ts s.size).length + 2) (full ts s.size)) by unfold exO wholeO; rw [hl])
    have HPT := Lib.hid hpt
    have HBX := Lib.hid hbx
    have C5 := Lib.hid (hx (2 * (full ts s.size).length + 2) A (ts.length + 1) cap 0 (full ts s.size) (full ts s.size) V1 hpl (by omega))
    have hV : V.heap.size < V1.heap.size := by rw [← hV1]; simp
    have hlt : w.heap.size < V.heap.size := by omega
    clear hV1 hb1 hl hts f1 f2 f3 hpl hpl0 hpt hbx
    go_upto_region 4 with fail
    rw [HV1.out]
    obtain ⟨x0, x1, x2, -⟩ := three HBX.out HPT.out
    go_wp2_with fail
    refine C5.out.mono ?_
    rintro e V2 ⟨t, us, p1, b1, rfl, hin, hra, hb⟩
    obtain ⟨a1, a2, a3, a4, a5, a6, a7, a8, a9, rfl, -⟩ := ex_open hin
    have hs2 := hb.size
    have HIN := Lib.hid hin
    have HRA := Lib.hid hra
    obtain ⟨V3, hV3⟩ : ∃ X, V2.alloc (.cells #[.int .i64 0, .string ⟨#[]⟩, .string ⟨#[]⟩, .slice none 0 0, .int .i64 0, .slice none 0 0, .slice none 0 0, .int .i64 0] 28) = X := ⟨_, rfl⟩
    have hb3 : Below V2.heap.size V2 V3 := hV3 ▸ (Below.refl _ _).alloc (Nat.le_refl _) _
    have hz3 : V3.heap.size = V2.heap.size + 1 := by rw [← hV3]; simp
    have htt : V3.there V2.heap.size 0 8 := hV3 ▸ there_new V2 #[.int .i64 0, .string ⟨#[]⟩, .string ⟨#[]⟩, .slice none 0 0, .int .i64 0, .slice none 0 0, .slice none 0 0, .int .i64 0] 28
    have htx : Boxd V3 V2.heap.size [.int .i64 0, .string ⟨#[]⟩, .string ⟨#[]⟩, .slice none 0 0, .int .i64 0, .slice none 0 0, .slice none 0 0, .int .i64 0] := hV3 ▸ Boxd.new V2 #[.int .i64 0, .string ⟨#[]⟩, .string ⟨#[]⟩, .slice none 0 0, .int .i64 0, .slice none 0 0, .slice none 0 0, .int .i64 0] 28
    have hbx3 := (HBX.out.later hb).later hb3
    have hpt3 := there_below (there_below HPT.out (by omega) hb) (by omega) hb3
    have ht3 := there_below (there_below HT2.out (by omega) hb) (by omega) hb3
    obtain ⟨V4, hV4⟩ : ∃ X, (V3.setCells V.heap.size 0 [.slice A (ts.length + 1) cap, .int .i64 p1, .bool b1]).setCells V2.heap.size 0 [.int .i64 t.kind, .string t.name, .string t.ty.name, .slice a1 a2 a3, .int .i64 t.ty.off, .slice a4 a5 a6, .slice a7 a8 a9, .int .i64 t.off] = X := ⟨_, rfl⟩
    have g1 := gb_sets1 V3 V.heap.size 0 [.slice A (ts.length + 1) cap, .int .i64 p1, .bool b1]
    have g2 := gb_sets1 (V3.setCells V.heap.size 0 [.slice A (ts.length + 1) cap, .int .i64 p1, .bool b1]) V2.heap.size 0 [.int .i64 t.kind, .string t.name, .string t.ty.name, .slice a1 a2 a3, .int .i64 t.ty.off, .slice a4 a5 a6, .slice a7 a8 a9, .int .i64 t.off]
    have g24 : V2.grownBy V4 (some V.heap.size) := hV4 ▸ gb_sets _ (gb_trans (gb_of _ hb3) g1) (Nat.le_refl _) 0 _
    have hb24 : Below V.heap.size V2 V4 := gb_below g24 (by omega)
    have hs4 := hb24.size
    have HIN4 := Lib.hid (in_gb g24 hV hin)
    have HB4 := Lib.hid (HB2.out.trans ((hb.mono (by omega)).trans (hb24.mono (by omega))))
    have hra4 := RAft.move HPL0.out hra ((HBV.out.trans (hb.mono (by omega))).trans hb24)
    have h4t : V4.there w.heap.size 0 8 := hV4 ▸ World.there_setCells (World.there_setCells ht3 _ _ _) _ _ _
    have h4p : V4.there V.heap.size 0 3 := hV4 ▸ World.there_setCells (World.there_setCells hpt3 _ _ _) _ _ _
    have h4q : V4.there V2.heap.size 0 8 := hV4 ▸ World.there_setCells (World.there_setCells htt _ _ _) _ _ _
    have h4x : Boxd V4 V.heap.size [.slice A (ts.length + 1) cap, .int .i64 p1, .bool b1] := hV4 ▸ boxd_gb g2 (by omega) (set_there (us := [.slice A (ts.length + 1) cap, .int .i64 p1, .bool b1]) hpt3)
    have h4y : Boxd V4 V2.heap.size [.int .i64 t.kind, .string t.name, .string t.ty.name, .slice a1 a2 a3, .int .i64 t.ty.off, .slice a4 a5 a6, .slice a7 a8 a9, .int .i64 t.off] := hV4 ▸ set_there (us := [.int .i64 t.kind, .string t.name, .string t.ty.name, .slice a1 a2 a3, .int .i64 t.ty.off, .slice a4 a5 a6, .slice a7 a8 a9, .int .i64 t.off]) (World.there_setCells htt _ _ _)
    obtain ⟨q, hpl4, hend⟩ := raft_end hra4
    have HT4 := Lib.hid h4t
    have HQ4 := Lib.hid h4q
    have HY4 := Lib.hid h4y
    have HX4 := Lib.hid (And.intro h4x h4p)
    have C7 := Lib.hid (rfinish_any A (ts.length + 1) cap p1 (full ts s.size) q b1 V4 hpl4)
    have hl2 : V2.heap.size < V4.heap.size := cell_lt (h4y 0 _ rfl)
    obtain ⟨y0, y1, y2, f0, f1, f2⟩ := three hbx3 hpt3
    rw [← hV3] at y0 y1 y2 f0 f1 f2
    have HTT := Lib.hid (show (V2.alloc (.cells #[.int .i64 0, .string ⟨#[]⟩, .string ⟨#[]⟩, .slice none 0 0, .int .i64 0, .slice none 0 0, .slice none 0 0, .int .i64 0] 28)).there V2.heap.size 0 8 from hV3 ▸ htt)
    have HV4 := Lib.hid (show ((((V2.alloc (.cells #[.int .i64 0, .string ⟨#[]⟩, .string ⟨#[]⟩, .slice none 0 0, .int .i64 0, .slice none 0 0, .slice none 0 0, .int .i64 0] 28)).setCell ⟨V.heap.size, 0, none⟩ (.slice A (ts.length + 1) cap)).setCell ⟨V.heap.size, 1, none⟩ (.int .i64 p1)).setCell ⟨V.heap.size, 2, none⟩ (.bool b1)).setCells V2.heap.size 0 [.int .i64 t.kind, .string t.name, .string t.ty.name, .slice a1 a2 a3, .int .i64 t.ty.off, .slice a4 a5 a6, .slice a7 a8 a9, .int .i64 t.off] = V4 by
      rw [← hV4, ← hV3]
      rfl)
    have HEND := Lib.hid hend
    clear hin hra hb hb3 hV3 htt htx hbx3 hpt3 C5 x0 x1 x2 ht3 hV4 g1 g2 g24 hb24 hra4 h4t h4p h4q h4x h4y hpl4 hend
    go_upto_region 5 with (refine storeOp flatEx 8 24 (b := V2.heap.size) (o := 0) (us := [.int .i64 t.kind, .string t.name, .string t.ty.name, .slice a1 a2 a3, .int .i64 t.ty.off, .slice a4 a5 a6, .slice a7 a8 a9, .int .i64 t.off]) rfl rfl (World.there_setCells HTT.out V.heap.size 0 [.slice A (ts.length + 1) cap, .int .i64 p1, .bool b1]) (ex8_one rfl rfl rfl rfl rfl rfl rfl rfl) rfl ?_)
    rw [HV4.out]
    clear y0 y1 y2 f0 f1 f2
    obtain ⟨x0, x1, x2, -⟩ := three HX4.out.1 HX4.out.2
    go_wp2_with fail
    refine C7.out.mono ?_
    rintro e V5 ⟨rfl, hb⟩
    have HT5 := Lib.hid (there_below HT4.out (by omega) hb)
    have HB5 := Lib.hid (HB4.out.trans (hb.mono (by omega)))
    have HIN5 := Lib.hid (in_gb (gb_of (some 0) hb) (by omega) HIN4.out)
    have HY5 := Lib.hid (HY4.out.later hb)
    have HQ5 := Lib.hid (there_below HQ4.out (by omega) hb)
    clear hb C7 x0 x1 x2
    rcases HEND.out with ⟨h1, h2, h3⟩ | ⟨h1, h3⟩
    · rw [h1, h2]
      have H3 := Lib.hid (HLL.out.trans h3)
      clear h1 h2 h3 HEND
      go_wp2_with (first
        | (refine loadOp flatEx 8 35 rfl (boxd_at0 HY5.out) rfl ?_)
        | (refine storeOp flatEx 2 35 (b := w.heap.size) (o := 0) (us := [.int .i64 t.kind, .string t.name, .string t.ty.name, .slice a1 a2 a3, .int .i64 t.ty.off, .slice a4 a5 a6, .slice a7 a8 a9, .int .i64 t.off]) rfl rfl HT5.out (ex8_one rfl rfl rfl rfl rfl rfl rfl rfl) rfl ?_))
      refine bodyPost_ret (results_rwx _ rfl rfl rfl (show Boxd _ _ [.int .i64 t.kind, .string t.name, .string t.ty.name, .slice a1 a2 a3, .int .i64 t.ty.off, .slice a4 a5 a6, .slice a7 a8 a9, .int .i64 t.off] from set_there (us := [.int .i64 t.kind, .string t.name, .string t.ty.name, .slice a1 a2 a3, .int .i64 t.ty.off, .slice a4 a5 a6, .slice a7 a8 a9, .int .i64 t.off]) HT5.out) rfl) rfl ?_
      have hfin : RXWholePost s w (.returned (.tuple #[.agg ([.int .i64 t.kind, .string t.name, .string t.ty.name, .slice a1 a2 a3, .int .i64 t.ty.off, .slice a4 a5 a6, .slice a7 a8 a9, .int .i64 t.off] : List Value).toArray, .int .i64 0, .int .i64 0])) (V5.setCells w.heap.size 0 [.int .i64 t.kind, .string t.name, .string t.ty.name, .slice a1 a2 a3, .int .i64 t.ty.off, .slice a4 a5 a6, .slice a7 a8 a9, .int .i64 t.off]) := by
        unfold RXWholePost
        rw [H3.out]
        exact ⟨_, rfl, Dat.In.wide (in_gb (gb_sets1 _ _ _ _) (by omega) HIN5.out) (fun b hb => ⟨by have := hb.1; omega, hb.2⟩), HB5.out.trans (below_sets (Nat.le_refl _) _ _ _)⟩
      exact hfin
    · rw [h1]
      have H3 := Lib.hid (HLL.out.trans h3)
      obtain ⟨o, ho⟩ : ∃ o, finO b1 q = o := ⟨_, rfl⟩
      rw [ho] at H3 ⊢
      clear h1 h3 HEND ho
      go_wp2_with (refine storeOp flatEx 2 32 (b := w.heap.size) (o := 0) (us := [.int .i64 0, .string ⟨#[]⟩, .string ⟨#[]⟩, .slice none 0 0, .int .i64 0, .slice none 0 0, .slice none 0 0, .int .i64 0]) rfl rfl HT5.out (ex8_one rfl rfl rfl rfl rfl rfl rfl rfl) rfl ?_)
      refine bodyPost_ret (results_rwx _ rfl rfl rfl (show Boxd _ _ [.int .i64 0, .string ⟨#[]⟩, .string ⟨#[]⟩, .slice none 0 0, .int .i64 0, .slice none 0 0, .slice none 0 0, .int .i64 0] from set_there (us := [.int .i64 0, .string ⟨#[]⟩, .string ⟨#[]⟩, .slice none 0 0, .int .i64 0, .slice none 0 0, .slice none 0 0, .int .i64 0]) HT5.out) rfl) rfl ?_
      exact rxwhole_bad H3.out (HB5.out.trans (below_sets (Nat.le_refl _) [.int .i64 0, .string ⟨#[]⟩, .string ⟨#[]⟩, .slice none 0 0, .int .i64 0, .slice none 0 0, .slice none 0 0, .int .i64 0] _ _))
end Go.Proofs.YtbeejmlmplgaeaaGreatDoor.Rd
