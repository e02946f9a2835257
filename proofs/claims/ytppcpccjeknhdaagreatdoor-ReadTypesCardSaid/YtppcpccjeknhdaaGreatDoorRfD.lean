/- The walk of WholeType of layer 7's reference. The condition: the text is short. -/
import Derived.Test.YtppcpccjeknhdaaGreatDoorRfC
namespace Go.Proofs.YtppcpccjeknhdaaGreatDoor.Rd
open Go.RowKit

/-- What the reference reads from a whole text. -/
def RWholePost (s : ByteArray) (w : World) (e : Ending) (w' : World) : Prop := ∃ us, e = .returned (.tuple #[.agg us.toArray, .int .i64 (tyO s).code, .int .i64 (tyO s).at]) ∧ ((tyO s).val tyNone).dat.In w' False (Fr w.heap.size w') us ∧ Below w.heap.size w w'
theorem results_rwt {w : World} {b : Nat} {us : List Value} {v u : Value} (tmps : Array Value) (ht : tmps[2]?.getD undef = .pointer (some ⟨b, 0, none⟩)) (hv : tmps[3]?.getD undef = v) (hu : tmps[4]?.getD undef = u) (hc : Boxd w b us) (hl : us.length = 3) : (results Tryz.f23 tmps).run Tryz.prog w = .ok (.tuple #[.agg us.toArray, v, u]) w := by
  have h := run_cell flatTy hc hl
  have h2 := run_addr ⟨b, 0, none⟩ w
  simp [results, Tryz.results23, ht, hv, hu, h, h2, Sem.run_bind, Result.andThen]
theorem rwhole_bad {s : ByteArray} {w w' : World} {c a : Int} (h : tyO s = .err c a) (hb : Below w.heap.size w w') : RWholePost s w (.returned (.tuple #[.agg ([.string ⟨#[]⟩, .slice none 0 0, .int .i64 0] : List Value).toArray, .int .i64 c, .int .i64 a])) w' := by
  unfold RWholePost
  rw [h]
  exact ⟨_, rfl, tyNone_in _ _ _, hb⟩
/-- Where reading ends: what Finish tells is the outcome. -/
theorem raft_end {α : Type} {w : World} {A : Option Addr} {n : Nat} {L : List Tk} {p : Nat} {b : Bool} {v : α} {g : Got α} (h : RAft w A n L p b v g) : ∃ q, Pl w A n L p q ∧ ((finC b q = 0 ∧ finO b q = 0 ∧ endO g = .good v) ∨ (finC b q = 2 ∧ endO g = .err 2 (finO b q))) := by
  cases g with
  | ok u q =>
    obtain ⟨rfl, rfl, hp⟩ := h
    refine ⟨q, hp, ?_⟩
    by_cases hk : kind q = 3
    · exact .inl ⟨by simp [finC, hk], by simp [finO, hk], by simp [endO, hk]⟩
    · exact .inr ⟨by simp [finC, hk], by simp [finO, endO, hk]⟩
  | bad q =>
    obtain ⟨rfl, hp⟩ := h
    exact ⟨q, hp, .inr ⟨by simp [finC], by simp [finO, endO]⟩⟩
set_option maxRecDepth 100000 in
set_option maxHeartbeats 4000000 in
theorem rwhole_any (s : ByteArray) (w : World) (hs : s.size ≤ 40000) : Calls Tryz.prog 23 #[.string s] w (RWholePost s w) := by
  obtain ⟨W, hW⟩ : ∃ W, w.alloc (.cells #[.string ⟨#[]⟩, .slice none 0 0, .int .i64 0] 25) = W := ⟨_, rfl⟩
  have hb : Below w.heap.size w W := hW ▸ (Below.refl _ _).alloc (Nat.le_refl _) _
  have HT := Lib.hid (show W.there w.heap.size 0 3 from hW ▸ there_new w #[.string ⟨#[]⟩, .slice none 0 0, .int .i64 0] 25)
  have hz : W.heap.size = w.heap.size + 1 := by rw [← hW]; simp
  have HW := Lib.hid hW
  have HB := Lib.hid hb
  have C := Lib.hid (begin_any s W hs)
  have HS := Lib.hid hs
  clear hW hb hs
  go_enter Tryz.func23, Tryz.ntmps23
  go_wp2_with fail
  rw [HW.out]
  refine C.out.mono ?_
  rintro e V ⟨hb, hp⟩
  have hsV := hb.size
  have HT1 := Lib.hid (there_below HT.out (by omega) hb)
  have HB1 := Lib.hid (HB.out.trans (hb.mono (by omega)))
  clear hb C HT HB
  cases hl : left s 0 with
  | bad i =>
    rw [hl] at hp
    obtain rfl := hp
    obtain ⟨V1, hV1⟩ : ∃ X, V.alloc (.cells #[.slice none 0 0, .int .i64 0, .bool false] 101) = X := ⟨_, rfl⟩
    have hb1 : Below V.heap.size V V1 := hV1 ▸ (Below.refl _ _).alloc (Nat.le_refl _) _
    have HT2 := Lib.hid (there_below HT1.out (by omega) hb1)
    have HB2 := Lib.hid (HB1.out.trans (hb1.mono (by omega)))
    have HV1 := Lib.hid hV1
    have HLL := Lib.hid (show tyO s = .err 1 i by unfold tyO wholeO; rw [hl])
    clear hV1 hb1 hl
    go_upto_region 3 with fail
    rw [HV1.out]
    obtain ⟨v0, v1, v2, hzz⟩ := three_any HT2.out
    obtain ⟨z0, z1, z2, j0, j1, j2⟩ := three hzz HT2.out
    clear hzz
    go_wp2_with fail
    refine bodyPost_ret (results_rwt _ rfl rfl rfl (show Boxd _ _ [.string ⟨#[]⟩, .slice none 0 0, .int .i64 0] from set_there (us := [.string ⟨#[]⟩, .slice none 0 0, .int .i64 0]) HT2.out) rfl) rfl ?_
    exact rwhole_bad HLL.out (HB2.out.trans (below_sets (Nat.le_refl _) [.string ⟨#[]⟩, .slice none 0 0, .int .i64 0] _ _))
  | ok ts =>
    rw [hl] at hp
    obtain ⟨A, cap, rfl, hts⟩ := hp
    obtain ⟨V1, hV1⟩ : ∃ X, V.alloc (.cells #[.slice A (ts.length + 1) cap, .int .i64 0, .bool false] 101) = X := ⟨_, rfl⟩
    have hb1 : Below V.heap.size V V1 := hV1 ▸ (Below.refl _ _).alloc (Nat.le_refl _) _
    have HT2 := Lib.hid (there_below HT1.out (by omega) hb1)
    have HB2 := Lib.hid (HB1.out.trans (hb1.mono (by omega)))
    have hbx : Boxd V1 V.heap.size [.slice A (ts.length + 1) cap, .int .i64 0, .bool false] := hV1 ▸ Boxd.new V #[.slice A (ts.length + 1) cap, .int .i64 0, .bool false] 101
    have hpt : V1.there V.heap.size 0 3 := hV1 ▸ there_new V #[.slice A (ts.length + 1) cap, .int .i64 0, .bool false] 101
    obtain ⟨f1, f2, f3⟩ := full_ok hl HS.out
    have hpl0 : Pl V A (ts.length + 1) (full ts s.size) 0 (full ts s.size) := ⟨hts, rfl, f1, by have := hts.len; omega, f3⟩
    have hpl := hpl0.later hb1
    have HPL0 := Lib.hid hpl0
    have HBV := Lib.hid hb1
    have HV1 := Lib.hid hV1
    have HLL := Lib.hid (show tyO s = endO (tyF (2 * (full ts s.size).length + 2) (full ts s.size)) by unfold tyO wholeO; rw [hl])
    have HPT := Lib.hid hpt
    have HBX := Lib.hid hbx
    have C5 := Lib.hid (rtype_any (2 * (full ts s.size).length + 2) A (ts.length + 1) cap 0 (full ts s.size) (full ts s.size) V1 hpl (by omega))
    have hV : V.heap.size < V1.heap.size := by rw [← hV1]; simp
    have hlt : w.heap.size < V.heap.size := by omega
    clear hV1 hb1 hl hts f1 f2 f3 hpl hpl0 hpt hbx
    go_upto_region 4 with fail
    rw [HV1.out]
    obtain ⟨x0, x1, x2, -⟩ := three HBX.out HPT.out
    go_wp2_with fail
    refine C5.out.mono ?_
    rintro e V2 ⟨t, us, p1, b1, rfl, hin, hra, hb⟩
    obtain ⟨B, m, k, rfl, -, -⟩ := ty_open hin
    have hs2 := hb.size
    have HIN := Lib.hid hin
    have HRA := Lib.hid hra
    obtain ⟨V3, hV3⟩ : ∃ X, V2.alloc (.cells #[.string ⟨#[]⟩, .slice none 0 0, .int .i64 0] 25) = X := ⟨_, rfl⟩
    have hb3 : Below V2.heap.size V2 V3 := hV3 ▸ (Below.refl _ _).alloc (Nat.le_refl _) _
    have hz3 : V3.heap.size = V2.heap.size + 1 := by rw [← hV3]; simp
    have htt : V3.there V2.heap.size 0 3 := hV3 ▸ there_new V2 #[.string ⟨#[]⟩, .slice none 0 0, .int .i64 0] 25
    have htx : Boxd V3 V2.heap.size [.string ⟨#[]⟩, .slice none 0 0, .int .i64 0] := hV3 ▸ Boxd.new V2 #[.string ⟨#[]⟩, .slice none 0 0, .int .i64 0] 25
    have hbx3 := (HBX.out.later hb).later hb3
    have hpt3 := there_below (there_below HPT.out (by omega) hb) (by omega) hb3
    have ht3 := there_below (there_below HT2.out (by omega) hb) (by omega) hb3
    obtain ⟨V4, hV4⟩ : ∃ X, (V3.setCells V.heap.size 0 [.slice A (ts.length + 1) cap, .int .i64 p1, .bool b1]).setCells V2.heap.size 0 [.string t.name, .slice B m k, .int .i64 t.off] = X := ⟨_, rfl⟩
    have g1 := gb_sets1 V3 V.heap.size 0 [.slice A (ts.length + 1) cap, .int .i64 p1, .bool b1]
    have g2 := gb_sets1 (V3.setCells V.heap.size 0 [.slice A (ts.length + 1) cap, .int .i64 p1, .bool b1]) V2.heap.size 0 [.string t.name, .slice B m k, .int .i64 t.off]
    have g24 : V2.grownBy V4 (some V.heap.size) := hV4 ▸ gb_sets _ (gb_trans (gb_of _ hb3) g1) (Nat.le_refl _) 0 _
    have hb24 : Below V.heap.size V2 V4 := gb_below g24 (by omega)
    have hs4 := hb24.size
    have HIN4 := Lib.hid (in_gb g24 hV hin)
    have HB4 := Lib.hid (HB2.out.trans ((hb.mono (by omega)).trans (hb24.mono (by omega))))
    have hra4 := RAft.move HPL0.out hra ((HBV.out.trans (hb.mono (by omega))).trans hb24)
    have h4t : V4.there w.heap.size 0 3 := hV4 ▸ World.there_setCells (World.there_setCells ht3 _ _ _) _ _ _
    have h4p : V4.there V.heap.size 0 3 := hV4 ▸ World.there_setCells (World.there_setCells hpt3 _ _ _) _ _ _
    have h4q : V4.there V2.heap.size 0 3 := hV4 ▸ World.there_setCells (World.there_setCells htt _ _ _) _ _ _
    have h4x : Boxd V4 V.heap.size [.slice A (ts.length + 1) cap, .int .i64 p1, .bool b1] := hV4 ▸ boxd_gb g2 (by omega) (set_there (us := [.slice A (ts.length + 1) cap, .int .i64 p1, .bool b1]) hpt3)
    have h4y : Boxd V4 V2.heap.size [.string t.name, .slice B m k, .int .i64 t.off] := hV4 ▸ set_there (us := [.string t.name, .slice B m k, .int .i64 t.off]) (World.there_setCells htt _ _ _)
    obtain ⟨q, hpl4, hend⟩ := raft_end hra4
    have HT4 := Lib.hid h4t
    have HQ4 := Lib.hid h4q
    have HY4 := Lib.hid h4y
    have HX4 := Lib.hid (And.intro h4x h4p)
    have C7 := Lib.hid (rfinish_any A (ts.length + 1) cap p1 (full ts s.size) q b1 V4 hpl4)
    have hl2 : V2.heap.size < V4.heap.size := cell_lt (h4y 0 _ rfl)
    obtain ⟨y0, y1, y2, f0, f1, f2⟩ := three hbx3 hpt3
    obtain ⟨z0, z1, z2, j0, j1, j2⟩ := three htx htt
    rw [← hV3] at y0 y1 y2 f0 f1 f2 z0 z1 z2 j0 j1 j2
    have HV4 := Lib.hid (show ((((((V2.alloc (.cells #[.string ⟨#[]⟩, .slice none 0 0, .int .i64 0] 25)).setCell ⟨V.heap.size, 0, none⟩ (.slice A (ts.length + 1) cap)).setCell ⟨V.heap.size, 1, none⟩ (.int .i64 p1)).setCell ⟨V.heap.size, 2, none⟩ (.bool b1)).setCell ⟨V2.heap.size, 0, none⟩ (.string t.name)).setCell ⟨V2.heap.size, 1, none⟩ (.slice B m k)).setCell ⟨V2.heap.size, 2, none⟩ (.int .i64 t.off) = V4 by
      rw [← hV4, ← hV3]
      rfl)
    have HEND := Lib.hid hend
    clear hin hra hb hb3 hV3 htt htx hbx3 hpt3 C5 x0 x1 x2 ht3 hV4 g1 g2 g24 hb24 hra4 h4t h4p h4q h4x h4y hpl4 hend
    go_upto_region 5 with fail
    rw [HV4.out]
    clear y0 y1 y2 f0 f1 f2 z0 z1 z2 j0 j1 j2
    obtain ⟨x0, x1, x2, -⟩ := three HX4.out.1 HX4.out.2
    go_wp2_with fail
    refine C7.out.mono ?_
    rintro e V5 ⟨rfl, hb⟩
    have HT5 := Lib.hid (there_below HT4.out (by omega) hb)
    have HB5 := Lib.hid (HB4.out.trans (hb.mono (by omega)))
    have HIN5 := Lib.hid (in_gb (gb_of (some 0) hb) (by omega) HIN4.out)
    have HY5 := Lib.hid (HY4.out.later hb)
    have HQ5 := Lib.hid (there_below HQ4.out (by omega) hb)
    clear hb C7 x0 x1 x2
    rcases HEND.out with ⟨h1, h2, h3⟩ | ⟨h1, h3⟩
    · rw [h1, h2]
      have H3 := Lib.hid (HLL.out.trans h3)
      clear h1 h2 h3 HEND
      obtain ⟨v0, v1, v2, hzz⟩ := three_any HT5.out
      obtain ⟨z0, z1, z2, j0, j1, j2⟩ := three hzz HT5.out
      obtain ⟨x0, x1, x2, -⟩ := three HY5.out HQ5.out
      clear hzz
      go_wp2_with fail
      refine bodyPost_ret (results_rwt _ rfl rfl rfl (show Boxd _ _ [.string t.name, .slice B m k, .int .i64 t.off] from set_there (us := [.string t.name, .slice B m k, .int .i64 t.off]) HT5.out) rfl) rfl ?_
      have hfin : RWholePost s w (.returned (.tuple #[.agg ([.string t.name, .slice B m k, .int .i64 t.off] : List Value).toArray, .int .i64 0, .int .i64 0])) (V5.setCells w.heap.size 0 [.string t.name, .slice B m k, .int .i64 t.off]) := by
        unfold RWholePost
        rw [H3.out]
        exact ⟨_, rfl, Dat.In.wide (in_gb (gb_sets1 _ _ _ _) (by omega) HIN5.out) (fun b hb => ⟨by have := hb.1; omega, hb.2⟩), HB5.out.trans (below_sets (Nat.le_refl _) _ _ _)⟩
      exact hfin
    · rw [h1]
      have H3 := Lib.hid (HLL.out.trans h3)
      obtain ⟨o, ho⟩ : ∃ o, finO b1 q = o := ⟨_, rfl⟩
      rw [ho] at H3 ⊢
      clear h1 h3 HEND ho
      obtain ⟨v0, v1, v2, hzz⟩ := three_any HT5.out
      obtain ⟨z0, z1, z2, j0, j1, j2⟩ := three hzz HT5.out
      clear hzz
      go_wp2_with fail
      refine bodyPost_ret (results_rwt _ rfl rfl rfl (show Boxd _ _ [.string ⟨#[]⟩, .slice none 0 0, .int .i64 0] from set_there (us := [.string ⟨#[]⟩, .slice none 0 0, .int .i64 0]) HT5.out) rfl) rfl ?_
      exact rwhole_bad H3.out (HB5.out.trans (below_sets (Nat.le_refl _) [.string ⟨#[]⟩, .slice none 0 0, .int .i64 0] _ _))
end Go.Proofs.YtppcpccjeknhdaaGreatDoor.Rd
