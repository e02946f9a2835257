/- The walks of bind.mapped, at the function values that package bind hands it. The conditions: what those functions give. -/
import Derived.Test.YtjhlehdjdaphcaaDoorQMBdB
import Derived.Test.YtjhlehdjdaphcaaDoorQMBdE
namespace Go.Proofs.YtjhlehdjdaphcaaDoor
open Go.RowKit

/-- What replacing the types of a signature gives: rows of its own. -/
def MapPost (K : Bd) (σ : Ty → Ty) (s : Sg) (i0 : Nat) (w : World) (e : Ending) (w' : World) : Prop :=
  ∃ vF vP rs a, e = .returned (.agg (.string s.name :: vF :: vP :: (rs ++ [.int .i64 s.off]) : List Value).toArray) ∧ RowGot K (w.heap.size + 2) w' s.fs.length 5 vF ((s.fs.map (Fo.mapT σ)).map Fo.dat) ∧ RowGot K a w' s.ps.length 5 vP ((s.ps.map (Fo.mapT σ)).map Fo.dat)
    ∧ w.heap.size + 2 ≤ a ∧ (∀ g, vF.ownBlock = some g → g < a) ∧ (σ s.res).dat.In w' False (K.Got (w.heap.size + 2) w') rs ∧ K.Mv w w' ∧ K.St (i0 + s.fs.length + s.ps.length + 1) w'
theorem RowGot.set2 {K : Bd} (hK : K.Ok) (hnw : ¬ K.nw) {i iw q z a b0 : Nat} {w V : World} {v : Value} {ds : List Dat} (h0 : K.St iw w) (hs : K.St i V) (hm : K.Mv w V) (h : RowGot K a V q z v ds) (hb : w.heap.size ≤ b0) (hne : ∀ g, v.ownBlock = some g → g < b0) (hf : ¬ K.Fp V b0) (o : Nat) (vs : List Value) : RowGot K a (V.setCells b0 o vs) q z v ds := by
  obtain ⟨e1, e2, e3⟩ := Bd.cells hK (g := b0) hs hm hb (hK.lo _ _ h0).1 (hK.lo _ _ h0).2 hf o vs
  rcases h with h | ⟨g, c, cs, rfl, hc, h2, h3, h4, h5, h6, h7⟩
  · exact .inl h
  · have hg : g < b0 := hne g rfl
    refine .inr ⟨g, c, cs, rfl, hc, h2.kept (heap_setCells b0 vs _ _ g (by omega)) (by rw [size_setCells_w]; exact Nat.le_refl _), Dat.Ins.keep id (fun p hp => kept_of (S := fun b => K.Got a V b ∧ b ≠ g) (fun b hb3 => heap_setCells b0 vs _ _ b (fun e => ?_)) p hp) (fun b hb3 => ⟨hb3.1.imp id fun h => (hnw h.1).elim, hb3.2⟩) _ _ h3, h4, h5, h6, fun h8 => h7 ((e3 g).1 h8)⟩
    rcases hb3.1 with h2 | h2
    · have := (hK.res _ _ b h0 h2).1
      omega
    · exact hnw h2.1
theorem append_copy {t e : TypeId} {z b : Nat} (hs : SlOf t e z b) (ty : TypeId) (A : Option Addr) (q c : Nat) (us : List Value) (V : World) (hb : b ≤ 1000) (hq : q ≤ 100000) (hl : us.length = q * z) (hc : ∀ a, A = some a → ∀ j u, us[j]? = some u → V.cell? (a.add j) = some u) (h1 : ∀ u ∈ us, u.oneCell' = true) (hA : 0 < q → ∃ a, A = some a) :
    ∃ v w4, (Builtin.append_ #[t, t] ty #[.slice none 0 0, .slice A q c]).run Tryd.prog V = .ok v w4 ∧ ((q = 0 ∧ v = .slice none 0 0 ∧ w4 = V) ∨ (0 < q ∧ Appd V w4 V.heap.size e z 0 q (.slice none 0 0) v [] us)) := by
  by_cases h0 : q = 0
  · subst h0
    exact ⟨_, _, append_nothing hs ty A c V, .inl ⟨rfl, rfl, rfl⟩⟩
  · obtain ⟨v, w4, h2, h3⟩ := run_append_row hs ty (World.ownsRow_nil _ V.heap.size _ _) (Nat.le_refl _) hl hc h1 hA (by omega) hb (c := c)
    exact ⟨v, w4, h2, .inr ⟨by omega, h3⟩⟩
/-- A row that is not begun, or of which k types are replaced. -/
def PRow (K : Bd) (σ : Ty → Ty) (xs : List Fo) (us : List Value) (q i0 : Nat) (w : World) (a0 : Nat) (A : Option Addr) (c k : Nat) (wr : World) : Prop :=
  (q = 0 ∧ A = none ∧ c = 0) ∨ ∃ g, A = some ⟨g, 0, none⟩ ∧ q ≤ c ∧ BdRel K σ xs us q i0 w a0 g k wr
theorem sg_openB {w : World} {N : Prop} {S : Nat → Prop} {s : Sg} {us : List Value} (h : s.dat.In w N S us) : ∃ F nf cf Q np cp A m a, us = (.string s.name :: .slice F nf cf :: .slice Q np cp :: ([.string s.res.name, .slice A m a, .int .i64 s.res.off] ++ [.int .i64 s.off]))
    ∧ s.name.size ≤ 9223372036854775807 ∧ Row w N S 5 F nf (s.fs.map Fo.dat) ∧ Row w N S 5 Q np (s.ps.map Fo.dat) ∧ s.res.dat.In w N S [.string s.res.name, .slice A m a, .int .i64 s.res.off] := by
  obtain ⟨F, nf, cf, Q, np, cp, A, m, a, rfl, h1, h2, h3, h4, h5⟩ := sg_open h
  exact ⟨F, nf, cf, Q, np, cp, A, m, a, rfl, h1, h2, h3, ty_shut h4 h5⟩
theorem cells_mid {w : World} {b : Nat} {p us r : List Value} (h : Boxd w b (p ++ (us ++ r))) : CellsAt w ⟨b, p.length, none⟩ us := fun j u hu => by
  rw [Addr.add_mid]
  refine h (p.length + j) u ?_
  rw [List.getElem?_append_right (by omega), Nat.add_sub_cancel_left, List.getElem?_append_left (List.getElem?_eq_some_iff.1 hu).1]
  exact hu
/-- The end: the result is written. -/
theorem map_end {K : Bd} (hK : K.Ok) {σ : Ty → Ty} {s : Sg} {i0 a : Nat} {w W : World} {vF vP : Value} {rs : List Value} (h0 : K.St i0 w) (h : BxK K w W 7 (i0 + s.fs.length + s.ps.length + 1) (.string s.name :: vF :: vP :: (rs ++ [.int .i64 s.off]))) 
    (hF : RowGot K (w.heap.size + 2) W s.fs.length 5 vF ((s.fs.map (Fo.mapT σ)).map Fo.dat)) (hP : RowGot K a W s.ps.length 5 vP ((s.ps.map (Fo.mapT σ)).map Fo.dat)) (ha : w.heap.size + 2 ≤ a) (hFa : ∀ g, vF.ownBlock = some g → g < a)
    (hr : (σ s.res).dat.In W False (K.Got (w.heap.size + 2) W) rs) : MapPost K σ s i0 w (.returned (.agg (.string s.name :: vF :: vP :: (rs ++ [.int .i64 s.off])).toArray)) (W.setCells (w.heap.size + 1) 0 (.string s.name :: vF :: vP :: (rs ++ [.int .i64 s.off]))) := by
  obtain ⟨e1, e2, e3⟩ := Bd.cells hK (g := w.heap.size + 1) h.st h.mv (Nat.le_succ _) (hK.lo _ _ h0).1 (hK.lo _ _ h0).2 h.f1 0 (.string s.name :: vF :: vP :: (rs ++ [.int .i64 s.off]))
  exact ⟨vF, vP, rs, a, rfl, hF.set hK h0 h.st h.mv (Nat.le_succ _) (by omega) h.f1 _ _, hP.set hK h0 h.st h.mv (Nat.le_succ _) (by omega) h.f1 _ _, ha, hFa, got_set hK h0 h.st h.mv hr (Nat.le_succ _) (by omega) h.f1 _ _, e1, e2⟩
theorem row_ones {vF vP : Value} {s t : ByteArray} {i : Int} {A : Option Addr} {m c : Nat} {j : Int} (h1 : vF.oneCell' = true) (h2 : vP.oneCell' = true) : ∀ u ∈ (.string s :: vF :: vP :: ([.string t, .slice A m c, .int .i64 i] ++ [.int .i64 j]) : List Value), u.oneCell' = true := by
  intro u hu
  simp only [List.mem_cons, List.mem_append, List.not_mem_nil, or_false] at hu
  rcases hu with rfl | rfl | rfl | (rfl | rfl | rfl) | rfl
  · rfl
  · exact h1
  · exact h2
  all_goals rfl
theorem RowGot.one {K : Bd} {a q z : Nat} {V : World} {v : Value} {ds : List Dat} (h : RowGot K a V q z v ds) : ∃ A c, v = .slice A q c := by
  rcases h with ⟨rfl, rfl, _⟩ | ⟨g, c, cs, rfl, _⟩
  · exact ⟨_, _, rfl⟩
  · exact ⟨_, _, rfl⟩
theorem results_mapped {w : World} {b : Nat} {us : List Value} (tmps : Array Value) (ht : tmps[4]?.getD undef = .pointer (some ⟨b, 0, none⟩)) (hc : Boxd w b us) (hl : us.length = 7) : (results Tryd.f59 tmps).run Tryd.prog w = .ok (.agg us.toArray) w := by
  have h := run_loadVar_at w ⟨b, 0, none⟩ 50 us _ hc.at0 Tryd.underlying50 rfl (by rw [hl]; exact flatSg.size)
  have h2 : (asAddr (.pointer (some ⟨b, 0, none⟩))).run Tryd.prog w = .ok ⟨b, 0, none⟩ w := rfl
  simp [results, Tryd.results59, ht, h, h2, Sem.run_bind, Result.andThen]
set_option maxRecDepth 100000 in
set_option maxHeartbeats 16000000 in
theorem mapped_collect (p : Addr) (K : Bd) (hK : K.Ok) (hnw : ¬ K.nw) (σ : Ty → Ty) (s : Sg) (i0 : Nat) (hT : ∀ (j : Nat) (t : Ty), s.types[j]? = some t → DoCall 60 #[.pointer (some p)] K t (σ t) (i0 + j)) (us : List Value) (w : World) (hq : s.fs.length ≤ 100000 ∧ s.ps.length ≤ 100000) (h0 : K.St i0 w)
    (h : s.dat.In w False (· < K.n) us) : Calls Tryd.prog 59 #[.agg us.toArray, .func (.func 60) #[] #[.pointer (some p)]] w (MapPost K σ s i0 w) := by
  obtain ⟨F, nf, cf, Q, np, cp, Ar, mr, ar, rfl, hn, hf, hp, hr⟩ := sg_openB h
  have hfl := hf.len
  have hpl := hp.len
  rw [List.length_map] at hfl hpl
  rw [hfl, hpl] at hq
  have M0 : BxK K w _ 7 i0 _ := BxK.new hK h0 ((.string s.name :: .slice F nf cf :: .slice Q np cp :: ([.string s.res.name, .slice Ar mr ar, .int .i64 s.res.off] ++ [.int .i64 s.off])) : List Value).toArray #[.string ⟨#[]⟩, .slice none 0 0, .slice none 0 0, .string ⟨#[]⟩, .slice none 0 0, .int .i64 0, .int .i64 0] 50 rfl
  obtain ⟨W0, hW0⟩ : ∃ W0, (w.alloc (.cells ((.string s.name :: .slice F nf cf :: .slice Q np cp :: ([.string s.res.name, .slice Ar mr ar, .int .i64 s.res.off] ++ [.int .i64 s.off])) : List Value).toArray 50)).alloc (.cells #[.string ⟨#[]⟩, .slice none 0 0, .slice none 0 0, .string ⟨#[]⟩, .slice none 0 0, .int .i64 0, .int .i64 0] 50) = W0 := ⟨_, rfl⟩
  rw [hW0] at M0
  have hz0 : W0.heap.size = w.heap.size + 2 := by rw [← hW0]; simp
  have HTF := Lib.hid (show ∀ (j : Nat) (f : Fo), s.fs[j]? = some f → DoCall 60 #[.pointer (some p)] K f.ty (σ f.ty) (i0 + j) from fun j f hj => hT j f.ty (by
    have := (List.getElem?_eq_some_iff.1 hj).1
    rw [Sg.types, List.append_assoc, List.getElem?_append_left (by simpa using this), List.getElem?_map, hj]; rfl))
  have HTP := Lib.hid (show ∀ (j : Nat) (f : Fo), s.ps[j]? = some f → DoCall 60 #[.pointer (some p)] K f.ty (σ f.ty) (i0 + nf + j) from fun j f hj => by
    have := (List.getElem?_eq_some_iff.1 hj).1
    have h1 := hT (nf + j) f.ty (by
      rw [Sg.types, List.append_assoc, List.getElem?_append_right (by simp [hfl]), List.length_map, hfl, Nat.add_sub_cancel_left, List.getElem?_append_left (by simpa using this), List.getElem?_map, hj]; rfl)
    rwa [← Nat.add_assoc] at h1)
  have HTR := Lib.hid (show DoCall 60 #[.pointer (some p)] K s.res (σ s.res) (i0 + nf + np) from by
    have h1 := hT (nf + np) s.res (by
      rw [Sg.types, List.getElem?_append_right (by simp [hfl, hpl])]; simp [hfl, hpl])
    rwa [← Nat.add_assoc] at h1)
  have HK := Lib.hid hK
  have HNW := Lib.hid hnw
  have H0 := Lib.hid h0
  have HF0 := Lib.hid hf
  have HP0 := Lib.hid hp
  have HR0 := Lib.hid hr
  have HM0 := Lib.hid M0
  have HW0 := Lib.hid hW0
  have HQ := Lib.hid hq
  have HFL := Lib.hid hfl
  have HPL := Lib.hid hpl
  have HZ0 := Lib.hid hz0
  have hqp : (np : Int) ≤ 100000 := by omega
  obtain ⟨ups, hpi, hpu, hpc⟩ := row_flat hp fo_sizes
  have HPI := Lib.hid (show BdIn K s.ps ups np w from ⟨hpi, hpu, hpl⟩)
  have HPO := Lib.hid (ins_cells fo_ones hpi)
  have HPC := Lib.hid (show ∀ (V : World), K.Mv w V → ∀ a, Q = some a → ∀ j u, ups[j]? = some u → V.cell? (a.add j) = some u from fun V hV a ha j u hu => by
    have h1 := hpc a ha j u hu
    by_cases hz : np = 0
    · subst hz
      simp at hpu
      subst hpu
      simp at hu
    · obtain ⟨d, hd⟩ : ∃ d, (s.ps.map Fo.dat)[0]? = some d := ⟨_, List.getElem?_eq_getElem (by rw [List.length_map]; omega)⟩
      obtain ⟨a2, _, e, h2, _⟩ := hp.at hd
      rw [ha] at e
      obtain rfl := Option.some.inj e
      exact ((Bd.given hK h0 hV (a.add j) (by rw [block_of_add]; exact h2)).1).trans h1)
  have HPS := Lib.hid (row_some hp)
  clear hT hK hnw h0 hf hp hr M0 hW0 hq h hfl hpl hpi hpu hpc hz0 hn
  go_enter Tryd.func59, Tryd.ntmps59
  go_upto_region 1 with fail
  rw [show (w.alloc (.cells #[.string s.name, .slice F nf cf, .slice Q np cp, .string s.res.name, .slice Ar mr ar, .int .i64 s.res.off, .int .i64 s.off] 50)).alloc (.cells #[.string ⟨#[]⟩, .slice none 0 0, .slice none 0 0, .string ⟨#[]⟩, .slice none 0 0, .int .i64 0, .int .i64 0] 50) = W0 from HW0.out]
  clear HW0
  have x1 := HM0.out.boxd 1 _ rfl
  go_wp2_with fail
  refine (bounded_collect p K HK.out σ s.fs i0 HTF.out F nf cf W0 HQ.out.1 HM0.out.st (Bd.given_row HK.out H0.out HM0.out.mv HF0.out)).mono ?_
  rintro e w1 ⟨vF, rfl, hrf, hm1, hs1⟩
  rw [HFL.out] at hrf hs1
  obtain ⟨FA, fc, rfl⟩ := hrf.one
  have M1m := Lib.hid (HM0.out.later hm1 hs1)
  rw [HZ0.out] at hrf
  clear x1
  obtain ⟨W1, hW⟩ : ∃ W1, w1.setCells w.heap.size 1 [.slice FA nf fc] = W1 := ⟨_, rfl⟩
  have HW := Lib.hid hW
  have M1 := Lib.hid (show BxK K w W1 7 (i0 + nf) (.string s.name :: .slice FA nf fc :: .slice Q np cp :: ([.string s.res.name, .slice Ar mr ar, .int .i64 s.res.off] ++ [.int .i64 s.off])) from hW ▸ BxK.set HK.out (p := [.string s.name]) (us := [.slice F nf cf]) (vs := [.slice FA nf fc]) H0.out M1m.out rfl (by simp))
  have RF1 := Lib.hid (show RowGot K (w.heap.size + 2) W1 nf 5 (.slice FA nf fc) _ from hW ▸ hrf.set HK.out H0.out M1m.out.st M1m.out.mv (Nat.le_refl _) (by omega) M1m.out.f0 1 [.slice FA nf fc])
  have y1 := M1m.out.boxd 1 _ rfl
  have z1 := ((M1m.out.there (o := 1) (n := 1) (by omega)) 0 (by omega)).2
  rw [Nat.add_zero] at z1
  clear hW hrf hm1 hs1
  obtain ⟨v4, w4, hr4, hap⟩ := append_copy slPaB 36 Q np cp ups W1 (by omega) HQ.out.2 HPI.out.len (HPC.out W1 M1.out.mv) HPO.out HPS.out
  have hA4 : ∃ A4 c4, v4 = .slice A4 np c4 := by
    rcases hap with ⟨e1, e2, _⟩ | ⟨_, hA⟩
    · subst e1
      exact ⟨_, _, e2⟩
    · have h2 := own_sl hA.own
      rwa [Nat.zero_add] at h2
  obtain ⟨A4, c4, rfl⟩ := hA4
  have hb4 : Below W1.heap.size W1 w4 ∧ PRow K σ s.ps ups np (i0 + nf) w W1.heap.size A4 c4 0 w4 := by
    rcases hap with ⟨e1, e2, rfl⟩ | ⟨h2, hA⟩
    · simp only [Value.slice.injEq] at e2
      exact ⟨Below.refl _ _, .inl ⟨e1, e2.1, e2.2.2⟩⟩
    · obtain ⟨c5, e, h3, h4, h5⟩ := bd_start (σ := σ) (xs := s.ps) HK.out h2 M1.out.st M1.out.mv (a0 := W1.heap.size) M1.out.mv.size (Nat.le_refl _) hA
      simp only [Value.slice.injEq, true_and] at e
      obtain ⟨rfl, rfl⟩ := e
      exact ⟨h4, .inr ⟨_, rfl, h3, h5⟩⟩
  obtain ⟨hb4, hp4⟩ := hb4
  obtain ⟨hm4, hs4⟩ := Bd.below HK.out M1.out.st hb4
  have M2m := Lib.hid (M1.out.later hm4 hs4)
  have RF2m := Lib.hid (RF1.out.mv HK.out M1.out.st hm4)
  have HAP := Lib.hid hr4
  have HA0 := Lib.hid (show w.heap.size + 2 ≤ W1.heap.size from M1.out.big)
  have HFA := Lib.hid (show ∀ g, (Value.slice FA nf fc).ownBlock = some g → g < W1.heap.size from fun g hg => RF1.out.lt hg)
  obtain ⟨W2, hW⟩ : ∃ W2, w4.setCells w.heap.size 2 [.slice A4 np c4] = W2 := ⟨_, rfl⟩
  have HW2 := Lib.hid hW
  have M2 := Lib.hid (show BxK K w W2 7 (i0 + nf) (.string s.name :: .slice FA nf fc :: .slice A4 np c4 :: ([.string s.res.name, .slice Ar mr ar, .int .i64 s.res.off] ++ [.int .i64 s.off])) from hW ▸ BxK.set HK.out (p := [.string s.name, .slice FA nf fc]) (us := [.slice Q np cp]) (vs := [.slice A4 np c4]) H0.out M2m.out rfl (by simp))
  have RF2 := Lib.hid (show RowGot K (w.heap.size + 2) W2 nf 5 (.slice FA nf fc) _ from hW ▸ RF2m.out.set HK.out H0.out M2m.out.st M2m.out.mv (Nat.le_refl _) (by omega) M2m.out.f0 2 [.slice A4 np c4])
  have HPR := Lib.hid (show PRow K σ s.ps ups np (i0 + nf) w W1.heap.size A4 c4 0 W2 from hW ▸ (by
    rcases hp4 with hp4 | ⟨g, e, h3, h5⟩
    · exact .inl hp4
    · exact .inr ⟨g, e, h3, h5.set HK.out H0.out (Nat.le_refl _) (by have := HA0.out; omega) M2m.out.f0 2 [.slice A4 np c4]⟩))
  have y2 := M2m.out.boxd 2 _ rfl
  have z2 := ((M2m.out.there (o := 2) (n := 1) (by omega)) 0 (by omega)).2
  rw [Nat.add_zero] at z2
  have q2 := M1.out.boxd 2 _ rfl
  clear hW hap hb4 hp4 hm4 hs4 hr4 M1m
  go_upto_region 2 with fail
  rw [show w1.setCell ⟨w.heap.size, 1, none⟩ (.slice FA nf fc) = W1 from HW.out]
  clear HW y1 z1
  go_upto_region 3 with (at_builtin; refine Lib.wpList_append_run _ rfl _ _ _ _ rfl _ _ rfl rfl _ _ HAP.out ?_)
  rw [show w4.setCell ⟨w.heap.size, 2, none⟩ (.slice A4 np c4) = W2 from HW2.out]
  clear HW2 y2 z2 q2 M2m RF2m M1 RF1
  have x2 := M2.out.boxd 2 _ rfl
  obtain ⟨a0, ha0⟩ : ∃ a0, a0 = W1.heap.size := ⟨_, rfl⟩
  rw [← ha0] at HPR HA0 HFA
  clear ha0
  go_wp2_with fail
  clear x2
  go_loopw [19] (fun i wr => ∃ k : Nat, k ≤ np ∧ i = .int .i64 k ∧ PRow K σ s.ps ups np (i0 + nf) w a0 A4 c4 k wr ∧ BxK K w wr 7 (i0 + nf + k) (.string s.name :: .slice FA nf fc :: .slice A4 np c4 :: ([.string s.res.name, .slice Ar mr ar, .int .i64 s.res.off] ++ [.int .i64 s.off])) ∧ RowGot K (w.heap.size + 2) wr nf 5 (.slice FA nf fc) ((s.fs.map (Fo.mapT σ)).map Fo.dat)) (fun i _ => np - (intOf i).toNat)
  case atStart => exact ⟨0, by omega, rfl, HPR.out, M2.out, RF2.out⟩
  case round =>
    obtain ⟨k, hk, rfl, hpr, hbx, hrf⟩ := hrel
    have y1 : (0 : Int) ≤ k := by omega
    by_cases hlt : k < np
    · have y0 : (k : Int) < np := by omega
      obtain ⟨g, rfl, hc4, hrel⟩ : ∃ g, A4 = some ⟨g, 0, none⟩ ∧ np ≤ c4 ∧ BdRel K σ s.ps ups np (i0 + nf) w a0 g k wr := by
        rcases hpr with ⟨h1, _⟩ | h1
        · omega
        · exact h1
      obtain ⟨x, hx⟩ : ∃ x, s.ps[k]? = some x := ⟨_, List.getElem?_eq_getElem (by have := HPL.out; omega)⟩
      obtain ⟨B, m, a, hcs, hn, hin, hd⟩ := bd_open HK.out H0.out HPI.out hrel hx
      obtain ⟨W3, hP1⟩ := putZ #[.string ⟨#[]⟩, .string ⟨#[]⟩, .slice none 0 0, .int .i64 0, .int .i64 0] 67 wr (us := [.string x.name, .string x.ty.name, .slice B m a, .int .i64 x.ty.off, .int .i64 x.off]) rfl
      have hbd : Below wr.heap.size wr W3.drew := hP1.bel.drew
      obtain ⟨b1, b2⟩ := Bd.below HK.out hrel.st hbd
      have C := Lib.hid (show Calls Tryd.prog 60 #[.agg #[.string x.ty.name, .slice B m a, .int .i64 x.ty.off], .pointer (some p)] W3.drew _ from HTP.out k x hx [.string x.ty.name, .slice B m a, .int .i64 x.ty.off] W3.drew b2 (Bd.given_in HK.out hrel.st b1 hin))
      have HBX := Lib.hid (hbx.later b1 b2)
      have HRF := Lib.hid (hrf.mv HK.out hrel.st b1)
      have HBD := Lib.hid hbd
      have HFW := Lib.hid (show ¬ K.Fp W3.drew wr.heap.size ∧ wr.heap.size < W3.drew.heap.size from ⟨Bd.fresh HK.out hrel.st hbd (Nat.le_refl _), Boxd.lt hP1.box⟩)
      have HR := Lib.hid hrel
      have HX := Lib.hid hx
      have HN := Lib.hid hn
      have HD := Lib.hid hd
      have HFC := Lib.hid hcs
      have HP1 := Lib.hid hP1
      have HBM := Lib.hid (boxd_mid hP1.box)
      have HLG := Lib.hid (show w.heap.size < g ∧ g < wr.heap.size from ⟨by have := hrel.gw; have := HA0.out; omega, by obtain ⟨_, _, _, h⟩ := hrel.row; exact h.lt⟩)
      have hwl : w.heap.size < wr.heap.size := by have := hbx.big; omega
      have SS : W3.drew.cell? ⟨w.heap.size, 2, none⟩ = some (.slice (some ⟨g, 0, none⟩) np c4) ∧ CellsAt W3.drew ⟨wr.heap.size, 1, none⟩ [.string x.ty.name, .slice B m a, .int .i64 x.ty.off] := ⟨HBX.out.boxd 2 _ rfl, HBM.out⟩
      clear hx hn hd hcs hin b1 b2 hP1 hrel hpr hbx hrf hbd
      go_upto_region 6 with (first
        | (refine loadOp flatPa 22 23 rfl HFC.out rfl ?_)
        | (refine storeOp flatPa 6 23 (b := wr.heap.size) (o := 0) (us := [.string x.name, .string x.ty.name, .slice B m a, .int .i64 x.ty.off, .int .i64 x.off]) rfl rfl HP1.out.there five_oneB rfl ?_; rw [HP1.out.eq]))
      go_wp2_with fail
      refine wp_region_held_drew (S := fun V => V.cell? ⟨w.heap.size, 2, none⟩ = some (.slice (some ⟨g, 0, none⟩) np c4) ∧ CellsAt V ⟨wr.heap.size, 1, none⟩ [.string x.ty.name, .slice B m a, .int .i64 x.ty.off]) (by kernel_rfl) SS (fun hS => ?_)
      clear SS
      refine wpAnyH_take (i := 0) (v := ?_) rfl (by kernel_rfl) (by kernel_rfl) (by kernel_rfl) (fun _ _ _ h => h) (Or.inl ⟨by rfl, ?_⟩) (by assumption) ?_
      rotate_left
      · (intro V hV; obtain ⟨k0, _⟩ := hV; go_simp; try with_reducible rfl)
      try simp only [Act.put, List.getElem_toArray, List.getElem_cons_zero, List.setIfInBounds_toArray, List.set_cons_zero, List.set_cons_succ]
      refine wpAnyH_take (i := 1) (v := ?_) rfl (by kernel_rfl) (by kernel_rfl) (by kernel_rfl) (fun _ _ _ h => h) (Or.inl ⟨by rfl, ?_⟩) (by assumption) ?_
      rotate_left
      · (intro V hV; obtain ⟨k0, _⟩ := hV; go_simp; try with_reducible rfl)
      try simp only [Act.put, List.getElem_toArray, List.getElem_cons_zero, List.getElem_cons_succ, List.setIfInBounds_toArray, List.set_cons_zero, List.set_cons_succ]
      refine wpAnyH_take (i := 2) (v := ?_) rfl (by kernel_rfl) (by kernel_rfl) (by kernel_rfl) (fun _ _ _ h => h) (Or.inl ⟨by rfl, ?_⟩) (by assumption) ?_
      rotate_left
      · (intro V hV; obtain ⟨k0, _⟩ := hV; go_simp; try with_reducible rfl)
      try simp only [Act.put, List.getElem_toArray, List.getElem_cons_zero, List.getElem_cons_succ, List.setIfInBounds_toArray, List.set_cons_zero, List.set_cons_succ]
      refine wpAnyH_take (i := 3) (v := ?_) rfl (by kernel_rfl) (by kernel_rfl) (by kernel_rfl) (fun _ _ _ h => h) (Or.inl ⟨by rfl, ?_⟩) (by assumption) ?_
      rotate_left
      · (intro V hV; obtain ⟨k0, _⟩ := hV; go_simp; try with_reducible rfl)
      try simp only [Act.put, List.getElem_toArray, List.getElem_cons_zero, List.getElem_cons_succ, List.setIfInBounds_toArray, List.set_cons_zero, List.set_cons_succ]
      refine wpAnyH_take (i := 4) (v := ?_) rfl (by kernel_rfl) (by kernel_rfl) (by kernel_rfl) (fun _ _ _ h => h) (Or.inl ⟨by rfl, ?_⟩) (by assumption) ?_
      rotate_left
      · (intro V hV; obtain ⟨k0, _⟩ := hV; go_simp; try with_reducible rfl)
      try simp only [Act.put, List.getElem_toArray, List.getElem_cons_zero, List.getElem_cons_succ, List.setIfInBounds_toArray, List.set_cons_zero, List.set_cons_succ]
      refine wpAnyH_take (i := 5) (v := .agg ([.string x.ty.name, .slice B m a, .int .i64 x.ty.off] : List Value).toArray) rfl (by kernel_rfl) (by kernel_rfl) (by kernel_rfl) (fun _ _ _ h => h) (Or.inl ⟨by rfl, fun V hV => loadYieldB flatTy3 rfl hV.2 rfl⟩) (by assumption) ?_
      try simp only [Act.put, List.getElem_toArray, List.getElem_cons_zero, List.getElem_cons_succ, List.setIfInBounds_toArray, List.set_cons_zero, List.set_cons_succ]
      refine wpAnyH_ready (rs := [6]) (by kernel_rfl) (by simp) ?_
      refine AllReadyH.cons rfl (fun K2 hK => ?_) (AllReadyH.nil)
      go_simp
      refine C.out.mono ?_
      rintro e w3 ⟨vs, rfl, hv, hm, hs⟩
      have HB3 := Lib.hid (HBX.out.later hm hs)
      have HRF3 := Lib.hid (HRF.out.mv HK.out HBX.out.st hm)
      have hkw := kept_of (V := W3.drew) (V' := w3) (S := (· = wr.heap.size)) (fun b hb => by subst hb; exact hm.kp _ HFW.out.2 HFW.out.1)
      have HBM3 := Lib.hid (show CellsAt w3 ⟨wr.heap.size, 1, none⟩ [.string x.ty.name, .slice B m a, .int .i64 x.ty.off] from fun j u hu => (hkw (Addr.add ⟨wr.heap.size, 1, none⟩ j) (by rw [block_of_add])).1.trans (hS.2 j u hu))
      have SS : w3.cell? ⟨w.heap.size, 2, none⟩ = some (.slice (some ⟨g, 0, none⟩) np c4) ∧ CellsAt w3 ⟨wr.heap.size, 1, none⟩ [.string x.ty.name, .slice B m a, .int .i64 x.ty.off] := ⟨HB3.out.boxd 2 _ rfl, HBM3.out⟩
      obtain ⟨ht, hvl, hrel⟩ := bd_close HK.out H0.out HPI.out HR.out HX.out HN.out HD.out HBD.out hv hm hs
      have HTH := Lib.hid ht
      have HVL := Lib.hid hvl
      have HREL2 := Lib.hid hrel
      have HOV := Lib.hid (ty_cells hv)
      have hg := HLG.out
      have hfg : ¬ K.Fp w3 g := hm.fp g (by have := HBD.out.size; omega) ((Bd.below HK.out HR.out.st HBD.out).1.fp g hg.2 HR.out.fp)
      have e3 := (Bd.cells HK.out (g := g) HB3.out.st HB3.out.mv (by omega) (HK.out.lo _ _ H0.out).1 (HK.out.lo _ _ H0.out).2 hfg (k * 5 + 1) vs).2.2
      have HRF4 := Lib.hid (HRF3.out.set2 HK.out HNW.out H0.out HB3.out.st HB3.out.mv (Nat.le_of_lt hg.1) (fun g' hg' => Nat.lt_of_lt_of_le (HFA.out g' hg') HR.out.gw.2) hfg (k * 5 + 1) vs)
      have HB4 := Lib.hid (show BxK K w (w3.setCells g (k * 5 + 1) vs) 7 (i0 + nf + k + 1) (.string s.name :: .slice FA nf fc :: .slice (some ⟨g, 0, none⟩) np c4 :: ([.string s.res.name, .slice Ar mr ar, .int .i64 s.res.off] ++ [.int .i64 s.off])) from
        ⟨hrel.mv, hrel.st, by rw [size_setCells_w]; exact HB3.out.big, fun h => HB3.out.f0 ((e3 _).1 h), fun h => HB3.out.f1 ((e3 _).1 h), HB3.out.box.kept (heap_setCells g vs _ _ _ (by omega)) (by rw [size_setCells_w]; exact Nat.le_refl _), World.there_setCells HB3.out.res _ _ _⟩)
      refine hK.out _ _ SS (fun hS => ?_)
      clear hK K2 SS hv hm hs ht hvl hrel hkw hg hfg e3
      try simp only [Act.put, List.getElem_toArray, List.getElem_cons_zero, List.getElem_cons_succ, List.setIfInBounds_toArray, List.set_cons_zero, List.set_cons_succ]
      refine wpAnyH_take (i := 7) (v := ?_) rfl (by kernel_rfl) (by kernel_rfl) (by kernel_rfl) (fun _ _ _ h => h) (Or.inl ⟨by rfl, ?_⟩) (by assumption) ?_
      rotate_left
      · (intro V hV; obtain ⟨k0, _⟩ := hV; go_simp; try with_reducible rfl)
      try simp only [Act.put, List.getElem_toArray, List.getElem_cons_zero, List.getElem_cons_succ, List.setIfInBounds_toArray, List.set_cons_zero, List.set_cons_succ]
      refine wpAnyH_take (i := 8) (v := ?_) rfl (by kernel_rfl) (by kernel_rfl) (by kernel_rfl) (fun _ _ _ h => h) (Or.inl ⟨by rfl, ?_⟩) (by assumption) ?_
      rotate_left
      · (intro V hV; obtain ⟨k0, _⟩ := hV; go_simp; try with_reducible rfl)
      try simp only [Act.put, List.getElem_toArray, List.getElem_cons_zero, List.getElem_cons_succ, List.setIfInBounds_toArray, List.set_cons_zero, List.set_cons_succ]
      refine wpAnyH_ready (rs := [9]) (by kernel_rfl) (by simp) ?_
      refine AllReadyH.cons rfl (fun K2 hK => ?_) (AllReadyH.nil)
      refine ready_storeB flatTy3 rfl (.tmp 32) (.tmp 30) rfl (b := g) (off := k * 5 + 1) (us := vs) rfl rfl HTH.out HOV.out HVL.out ?_
      have SS : (w3.setCells g (k * 5 + 1) vs).cell? ⟨w.heap.size, 2, none⟩ = some (.slice (some ⟨g, 0, none⟩) np c4) ∧ CellsAt (w3.setCells g (k * 5 + 1) vs) ⟨wr.heap.size, 1, none⟩ [.string x.ty.name, .slice B m a, .int .i64 x.ty.off] := ⟨HB4.out.boxd 2 _ rfl, fun j u hu => (World.cell?_setCells_out _ _ _ _ _ (fun e => by rw [block_of_add] at e; have := HLG.out; simp only at e; omega)).trans (HBM3.out j u hu)⟩
      refine hK.out _ _ SS (fun hS => ?_)
      clear hK K2 SS
      try simp only [Act.put]
      refine wpAnyH_done (by kernel_rfl) ?_ _
      clear hS
      go_wp2_with fail
      go_roundw
      case rel => exact ⟨k + 1, by omega, by go_num, .inr ⟨g, rfl, hc4, HREL2.out⟩, HB4.out, HRF4.out⟩
      case measure => simp [intOf]; omega
    · have y0 : (np : Int) ≤ k := by omega
      obtain rfl : k = np := by omega
      have HBX := Lib.hid hbx
      have HRF := Lib.hid hrf
      have HPP := Lib.hid hpr
      have x3 := hbx.boxd 3 _ rfl
      have C := Lib.hid (show Calls Tryd.prog 60 #[.agg #[.string s.res.name, .slice Ar mr ar, .int .i64 s.res.off], .pointer (some p)] wr _ from HTR.out [.string s.res.name, .slice Ar mr ar, .int .i64 s.res.off] wr hbx.st (Bd.given_in HK.out H0.out hbx.mv HR0.out))
      have HBM := Lib.hid (cells_mid (p := [.string s.name, .slice FA nf fc, .slice A4 k c4]) (us := [.string s.res.name, .slice Ar mr ar, .int .i64 s.res.off]) (r := [.int .i64 s.off]) hbx.boxd)
      clear hbx hrf hpr x3
      go_wp2_with (refine loadOp flatTy3 35 36 rfl HBM.out rfl ?_)
      refine C.out.mono ?_
      rintro e w5 ⟨vs, rfl, hv, hm, hs⟩
      obtain ⟨At, mt, at1, rfl, _⟩ := ty_open hv
      have M5 := Lib.hid (HBX.out.later hm hs)
      have RF5 := Lib.hid (HRF.out.mv HK.out HBX.out.st hm)
      have RP5 := Lib.hid (show RowGot K a0 w5 k 5 (.slice A4 k c4) ((s.ps.map (Fo.mapT σ)).map Fo.dat) from by
        rcases HPP.out with ⟨h1, rfl, rfl⟩ | ⟨g, rfl, hc4, hrel⟩
        · subst h1
          have : s.ps = [] := List.eq_nil_of_length_eq_zero HPL.out
          exact .inl ⟨rfl, rfl, by rw [this]; rfl⟩
        · exact (bd_end HPI.out hc4 hrel).mv HK.out HBX.out.st hm)
      have HV5 := Lib.hid (hv.wide fun b hb => Bd.Got.up hb (show w.heap.size + 2 ≤ wr.heap.size from HBX.out.big))
      obtain ⟨W6, hW⟩ : ∃ W6, w5.setCells w.heap.size 3 [.string (σ s.res).name, .slice At mt at1, .int .i64 (σ s.res).off] = W6 := ⟨_, rfl⟩
      have HW6 := Lib.hid hW
      have M6 := Lib.hid (show BxK K w W6 7 (i0 + nf + k + 1) (.string s.name :: .slice FA nf fc :: .slice A4 k c4 :: ([.string (σ s.res).name, .slice At mt at1, .int .i64 (σ s.res).off] ++ [.int .i64 s.off])) from hW ▸ BxK.set HK.out (p := [.string s.name, .slice FA nf fc, .slice A4 k c4]) (us := [.string s.res.name, .slice Ar mr ar, .int .i64 s.res.off]) (vs := [.string (σ s.res).name, .slice At mt at1, .int .i64 (σ s.res).off]) H0.out M5.out rfl (by simp))
      have RF6 := Lib.hid (show RowGot K (w.heap.size + 2) W6 nf 5 (.slice FA nf fc) _ from hW ▸ RF5.out.set HK.out H0.out M5.out.st M5.out.mv (Nat.le_refl _) (by omega) M5.out.f0 3 _)
      have RP6 := Lib.hid (show RowGot K a0 W6 k 5 (.slice A4 k c4) _ from hW ▸ RP5.out.set HK.out H0.out M5.out.st M5.out.mv (Nat.le_refl _) (by have := HA0.out; omega) M5.out.f0 3 _)
      have RV6 := Lib.hid (show (σ s.res).dat.In W6 False (K.Got (w.heap.size + 2) W6) _ from hW ▸ got_set HK.out H0.out M5.out.st M5.out.mv HV5.out (Nat.le_refl _) (by omega) M5.out.f0 3 _)
      have HT6 := Lib.hid (M5.out.there (o := 3) (n := 3) (by omega))
      have HOV := Lib.hid (ty_cells hv)
      have HBX6 := Lib.hid (show CellsAt W6 ⟨w.heap.size, 0, none⟩ [.string s.name, .slice FA nf fc, .slice A4 k c4, .string (σ s.res).name, .slice At mt at1, .int .i64 (σ s.res).off, .int .i64 s.off] from boxd_at0B M6.out.boxd)
      have HT7 := Lib.hid M6.out.res
      have HON := Lib.hid (show ∀ u ∈ ([.string s.name, .slice FA nf fc, .slice A4 k c4, .string (σ s.res).name, .slice At mt at1, .int .i64 (σ s.res).off, .int .i64 s.off] : List Value), u.oneCell' = true from row_ones rfl rfl)
      have HFL2 := HFL.out
      have HPL2 := HPL.out
      have HEND := Lib.hid (map_end (σ := σ) (s := s) (i0 := i0) (vF := .slice FA nf fc) (vP := .slice A4 k c4) (rs := [.string (σ s.res).name, .slice At mt at1, .int .i64 (σ s.res).off]) HK.out H0.out (by rw [HFL2, HPL2]; exact M6.out) (by rw [HFL2]; exact RF6.out) (by rw [HPL2]; exact RP6.out) HA0.out HFA.out RV6.out)
      clear hv hm hs hW C HFL2 HPL2
      go_wp2_with (first
        | (refine storeOp flatTy3 38 37 (b := w.heap.size) (o := 3) (us := [.string (σ s.res).name, .slice At mt at1, .int .i64 (σ s.res).off]) rfl rfl HT6.out HOV.out rfl ?_; rw [HW6.out])
        | (refine loadOp flatSg 2 39 rfl HBX6.out rfl ?_)
        | (refine storeOp flatSg 4 39 (b := w.heap.size + 1) (o := 0) (us := [.string s.name, .slice FA nf fc, .slice A4 k c4, .string (σ s.res).name, .slice At mt at1, .int .i64 (σ s.res).off, .int .i64 s.off]) rfl rfl HT7.out HON.out rfl ?_))
      exact bodyPost_ret (results_mapped _ rfl (show Boxd _ (w.heap.size + 1) [.string s.name, .slice FA nf fc, .slice A4 k c4, .string (σ s.res).name, .slice At mt at1, .int .i64 (σ s.res).off, .int .i64 s.off] from set_there (us := [.string s.name, .slice FA nf fc, .slice A4 k c4, .string (σ s.res).name, .slice At mt at1, .int .i64 (σ s.res).off, .int .i64 s.off]) HT7.out) rfl) rfl HEND.out
set_option maxRecDepth 100000 in
set_option maxHeartbeats 16000000 in
theorem mapped_handout (p : Addr) (K : Bd) (hK : K.Ok) (hnw : ¬ K.nw) (σ : Ty → Ty) (s : Sg) (i0 : Nat) (hT : ∀ (j : Nat) (t : Ty), s.types[j]? = some t → DoCall 62 #[.pointer (some p)] K t (σ t) (i0 + j)) (us : List Value) (w : World) (hq : s.fs.length ≤ 100000 ∧ s.ps.length ≤ 100000) (h0 : K.St i0 w)
    (h : s.dat.In w False (· < K.n) us) : Calls Tryd.prog 59 #[.agg us.toArray, .func (.func 62) #[] #[.pointer (some p)]] w (MapPost K σ s i0 w) := by
  obtain ⟨F, nf, cf, Q, np, cp, Ar, mr, ar, rfl, hn, hf, hp, hr⟩ := sg_openB h
  have hfl := hf.len
  have hpl := hp.len
  rw [List.length_map] at hfl hpl
  rw [hfl, hpl] at hq
  have M0 : BxK K w _ 7 i0 _ := BxK.new hK h0 ((.string s.name :: .slice F nf cf :: .slice Q np cp :: ([.string s.res.name, .slice Ar mr ar, .int .i64 s.res.off] ++ [.int .i64 s.off])) : List Value).toArray #[.string ⟨#[]⟩, .slice none 0 0, .slice none 0 0, .string ⟨#[]⟩, .slice none 0 0, .int .i64 0, .int .i64 0] 50 rfl
  obtain ⟨W0, hW0⟩ : ∃ W0, (w.alloc (.cells ((.string s.name :: .slice F nf cf :: .slice Q np cp :: ([.string s.res.name, .slice Ar mr ar, .int .i64 s.res.off] ++ [.int .i64 s.off])) : List Value).toArray 50)).alloc (.cells #[.string ⟨#[]⟩, .slice none 0 0, .slice none 0 0, .string ⟨#[]⟩, .slice none 0 0, .int .i64 0, .int .i64 0] 50) = W0 := ⟨_, rfl⟩
  rw [hW0] at M0
  have hz0 : W0.heap.size = w.heap.size + 2 := by rw [← hW0]; simp
  have HTF := Lib.hid (show ∀ (j : Nat) (f : Fo), s.fs[j]? = some f → DoCall 62 #[.pointer (some p)] K f.ty (σ f.ty) (i0 + j) from fun j f hj => hT j f.ty (by
    have := (List.getElem?_eq_some_iff.1 hj).1
    rw [Sg.types, List.append_assoc, List.getElem?_append_left (by simpa using this), List.getElem?_map, hj]; rfl))
  have HTP := Lib.hid (show ∀ (j : Nat) (f : Fo), s.ps[j]? = some f → DoCall 62 #[.pointer (some p)] K f.ty (σ f.ty) (i0 + nf + j) from fun j f hj => by
    have := (List.getElem?_eq_some_iff.1 hj).1
    have h1 := hT (nf + j) f.ty (by
      rw [Sg.types, List.append_assoc, List.getElem?_append_right (by simp [hfl]), List.length_map, hfl, Nat.add_sub_cancel_left, List.getElem?_append_left (by simpa using this), List.getElem?_map, hj]; rfl)
    rwa [← Nat.add_assoc] at h1)
  have HTR := Lib.hid (show DoCall 62 #[.pointer (some p)] K s.res (σ s.res) (i0 + nf + np) from by
    have h1 := hT (nf + np) s.res (by
      rw [Sg.types, List.getElem?_append_right (by simp [hfl, hpl])]; simp [hfl, hpl])
    rwa [← Nat.add_assoc] at h1)
  have HK := Lib.hid hK
  have HNW := Lib.hid hnw
  have H0 := Lib.hid h0
  have HF0 := Lib.hid hf
  have HP0 := Lib.hid hp
  have HR0 := Lib.hid hr
  have HM0 := Lib.hid M0
  have HW0 := Lib.hid hW0
  have HQ := Lib.hid hq
  have HFL := Lib.hid hfl
  have HPL := Lib.hid hpl
  have HZ0 := Lib.hid hz0
  have hqp : (np : Int) ≤ 100000 := by omega
  obtain ⟨ups, hpi, hpu, hpc⟩ := row_flat hp fo_sizes
  have HPI := Lib.hid (show BdIn K s.ps ups np w from ⟨hpi, hpu, hpl⟩)
  have HPO := Lib.hid (ins_cells fo_ones hpi)
  have HPC := Lib.hid (show ∀ (V : World), K.Mv w V → ∀ a, Q = some a → ∀ j u, ups[j]? = some u → V.cell? (a.add j) = some u from fun V hV a ha j u hu => by
    have h1 := hpc a ha j u hu
    by_cases hz : np = 0
    · subst hz
      simp at hpu
      subst hpu
      simp at hu
    · obtain ⟨d, hd⟩ : ∃ d, (s.ps.map Fo.dat)[0]? = some d := ⟨_, List.getElem?_eq_getElem (by rw [List.length_map]; omega)⟩
      obtain ⟨a2, _, e, h2, _⟩ := hp.at hd
      rw [ha] at e
      obtain rfl := Option.some.inj e
      exact ((Bd.given hK h0 hV (a.add j) (by rw [block_of_add]; exact h2)).1).trans h1)
  have HPS := Lib.hid (row_some hp)
  clear hT hK hnw h0 hf hp hr M0 hW0 hq h hfl hpl hpi hpu hpc hz0 hn
  go_enter Tryd.func59, Tryd.ntmps59
  go_upto_region 1 with fail
  rw [show (w.alloc (.cells #[.string s.name, .slice F nf cf, .slice Q np cp, .string s.res.name, .slice Ar mr ar, .int .i64 s.res.off, .int .i64 s.off] 50)).alloc (.cells #[.string ⟨#[]⟩, .slice none 0 0, .slice none 0 0, .string ⟨#[]⟩, .slice none 0 0, .int .i64 0, .int .i64 0] 50) = W0 from HW0.out]
  clear HW0
  have x1 := HM0.out.boxd 1 _ rfl
  go_wp2_with fail
  refine (bounded_handout p K HK.out σ s.fs i0 HTF.out F nf cf W0 HQ.out.1 HM0.out.st (Bd.given_row HK.out H0.out HM0.out.mv HF0.out)).mono ?_
  rintro e w1 ⟨vF, rfl, hrf, hm1, hs1⟩
  rw [HFL.out] at hrf hs1
  obtain ⟨FA, fc, rfl⟩ := hrf.one
  have M1m := Lib.hid (HM0.out.later hm1 hs1)
  rw [HZ0.out] at hrf
  clear x1
  obtain ⟨W1, hW⟩ : ∃ W1, w1.setCells w.heap.size 1 [.slice FA nf fc] = W1 := ⟨_, rfl⟩
  have HW := Lib.hid hW
  have M1 := Lib.hid (show BxK K w W1 7 (i0 + nf) (.string s.name :: .slice FA nf fc :: .slice Q np cp :: ([.string s.res.name, .slice Ar mr ar, .int .i64 s.res.off] ++ [.int .i64 s.off])) from hW ▸ BxK.set HK.out (p := [.string s.name]) (us := [.slice F nf cf]) (vs := [.slice FA nf fc]) H0.out M1m.out rfl (by simp))
  have RF1 := Lib.hid (show RowGot K (w.heap.size + 2) W1 nf 5 (.slice FA nf fc) _ from hW ▸ hrf.set HK.out H0.out M1m.out.st M1m.out.mv (Nat.le_refl _) (by omega) M1m.out.f0 1 [.slice FA nf fc])
  have y1 := M1m.out.boxd 1 _ rfl
  have z1 := ((M1m.out.there (o := 1) (n := 1) (by omega)) 0 (by omega)).2
  rw [Nat.add_zero] at z1
  clear hW hrf hm1 hs1
  obtain ⟨v4, w4, hr4, hap⟩ := append_copy slPaB 36 Q np cp ups W1 (by omega) HQ.out.2 HPI.out.len (HPC.out W1 M1.out.mv) HPO.out HPS.out
  have hA4 : ∃ A4 c4, v4 = .slice A4 np c4 := by
    rcases hap with ⟨e1, e2, _⟩ | ⟨_, hA⟩
    · subst e1
      exact ⟨_, _, e2⟩
    · have h2 := own_sl hA.own
      rwa [Nat.zero_add] at h2
  obtain ⟨A4, c4, rfl⟩ := hA4
  have hb4 : Below W1.heap.size W1 w4 ∧ PRow K σ s.ps ups np (i0 + nf) w W1.heap.size A4 c4 0 w4 := by
    rcases hap with ⟨e1, e2, rfl⟩ | ⟨h2, hA⟩
    · simp only [Value.slice.injEq] at e2
      exact ⟨Below.refl _ _, .inl ⟨e1, e2.1, e2.2.2⟩⟩
    · obtain ⟨c5, e, h3, h4, h5⟩ := bd_start (σ := σ) (xs := s.ps) HK.out h2 M1.out.st M1.out.mv (a0 := W1.heap.size) M1.out.mv.size (Nat.le_refl _) hA
      simp only [Value.slice.injEq, true_and] at e
      obtain ⟨rfl, rfl⟩ := e
      exact ⟨h4, .inr ⟨_, rfl, h3, h5⟩⟩
  obtain ⟨hb4, hp4⟩ := hb4
  obtain ⟨hm4, hs4⟩ := Bd.below HK.out M1.out.st hb4
  have M2m := Lib.hid (M1.out.later hm4 hs4)
  have RF2m := Lib.hid (RF1.out.mv HK.out M1.out.st hm4)
  have HAP := Lib.hid hr4
  have HA0 := Lib.hid (show w.heap.size + 2 ≤ W1.heap.size from M1.out.big)
  have HFA := Lib.hid (show ∀ g, (Value.slice FA nf fc).ownBlock = some g → g < W1.heap.size from fun g hg => RF1.out.lt hg)
  obtain ⟨W2, hW⟩ : ∃ W2, w4.setCells w.heap.size 2 [.slice A4 np c4] = W2 := ⟨_, rfl⟩
  have HW2 := Lib.hid hW
  have M2 := Lib.hid (show BxK K w W2 7 (i0 + nf) (.string s.name :: .slice FA nf fc :: .slice A4 np c4 :: ([.string s.res.name, .slice Ar mr ar, .int .i64 s.res.off] ++ [.int .i64 s.off])) from hW ▸ BxK.set HK.out (p := [.string s.name, .slice FA nf fc]) (us := [.slice Q np cp]) (vs := [.slice A4 np c4]) H0.out M2m.out rfl (by simp))
  have RF2 := Lib.hid (show RowGot K (w.heap.size + 2) W2 nf 5 (.slice FA nf fc) _ from hW ▸ RF2m.out.set HK.out H0.out M2m.out.st M2m.out.mv (Nat.le_refl _) (by omega) M2m.out.f0 2 [.slice A4 np c4])
  have HPR := Lib.hid (show PRow K σ s.ps ups np (i0 + nf) w W1.heap.size A4 c4 0 W2 from hW ▸ (by
    rcases hp4 with hp4 | ⟨g, e, h3, h5⟩
    · exact .inl hp4
    · exact .inr ⟨g, e, h3, h5.set HK.out H0.out (Nat.le_refl _) (by have := HA0.out; omega) M2m.out.f0 2 [.slice A4 np c4]⟩))
  have y2 := M2m.out.boxd 2 _ rfl
  have z2 := ((M2m.out.there (o := 2) (n := 1) (by omega)) 0 (by omega)).2
  rw [Nat.add_zero] at z2
  have q2 := M1.out.boxd 2 _ rfl
  clear hW hap hb4 hp4 hm4 hs4 hr4 M1m
  go_upto_region 2 with fail
  rw [show w1.setCell ⟨w.heap.size, 1, none⟩ (.slice FA nf fc) = W1 from HW.out]
  clear HW y1 z1
  go_upto_region 3 with (at_builtin; refine Lib.wpList_append_run _ rfl _ _ _ _ rfl _ _ rfl rfl _ _ HAP.out ?_)
  rw [show w4.setCell ⟨w.heap.size, 2, none⟩ (.slice A4 np c4) = W2 from HW2.out]
  clear HW2 y2 z2 q2 M2m RF2m M1 RF1
  have x2 := M2.out.boxd 2 _ rfl
  obtain ⟨a0, ha0⟩ : ∃ a0, a0 = W1.heap.size := ⟨_, rfl⟩
  rw [← ha0] at HPR HA0 HFA
  clear ha0
  go_wp2_with fail
  clear x2
  go_loopw [19] (fun i wr => ∃ k : Nat, k ≤ np ∧ i = .int .i64 k ∧ PRow K σ s.ps ups np (i0 + nf) w a0 A4 c4 k wr ∧ BxK K w wr 7 (i0 + nf + k) (.string s.name :: .slice FA nf fc :: .slice A4 np c4 :: ([.string s.res.name, .slice Ar mr ar, .int .i64 s.res.off] ++ [.int .i64 s.off])) ∧ RowGot K (w.heap.size + 2) wr nf 5 (.slice FA nf fc) ((s.fs.map (Fo.mapT σ)).map Fo.dat)) (fun i _ => np - (intOf i).toNat)
  case atStart => exact ⟨0, by omega, rfl, HPR.out, M2.out, RF2.out⟩
  case round =>
    obtain ⟨k, hk, rfl, hpr, hbx, hrf⟩ := hrel
    have y1 : (0 : Int) ≤ k := by omega
    by_cases hlt : k < np
    · have y0 : (k : Int) < np := by omega
      obtain ⟨g, rfl, hc4, hrel⟩ : ∃ g, A4 = some ⟨g, 0, none⟩ ∧ np ≤ c4 ∧ BdRel K σ s.ps ups np (i0 + nf) w a0 g k wr := by
        rcases hpr with ⟨h1, _⟩ | h1
        · omega
        · exact h1
      obtain ⟨x, hx⟩ : ∃ x, s.ps[k]? = some x := ⟨_, List.getElem?_eq_getElem (by have := HPL.out; omega)⟩
      obtain ⟨B, m, a, hcs, hn, hin, hd⟩ := bd_open HK.out H0.out HPI.out hrel hx
      obtain ⟨W3, hP1⟩ := putZ #[.string ⟨#[]⟩, .string ⟨#[]⟩, .slice none 0 0, .int .i64 0, .int .i64 0] 67 wr (us := [.string x.name, .string x.ty.name, .slice B m a, .int .i64 x.ty.off, .int .i64 x.off]) rfl
      have hbd : Below wr.heap.size wr W3.drew := hP1.bel.drew
      obtain ⟨b1, b2⟩ := Bd.below HK.out hrel.st hbd
      have C := Lib.hid (show Calls Tryd.prog 62 #[.agg #[.string x.ty.name, .slice B m a, .int .i64 x.ty.off], .pointer (some p)] W3.drew _ from HTP.out k x hx [.string x.ty.name, .slice B m a, .int .i64 x.ty.off] W3.drew b2 (Bd.given_in HK.out hrel.st b1 hin))
      have HBX := Lib.hid (hbx.later b1 b2)
      have HRF := Lib.hid (hrf.mv HK.out hrel.st b1)
      have HBD := Lib.hid hbd
      have HFW := Lib.hid (show ¬ K.Fp W3.drew wr.heap.size ∧ wr.heap.size < W3.drew.heap.size from ⟨Bd.fresh HK.out hrel.st hbd (Nat.le_refl _), Boxd.lt hP1.box⟩)
      have HR := Lib.hid hrel
      have HX := Lib.hid hx
      have HN := Lib.hid hn
      have HD := Lib.hid hd
      have HFC := Lib.hid hcs
      have HP1 := Lib.hid hP1
      have HBM := Lib.hid (boxd_mid hP1.box)
      have HLG := Lib.hid (show w.heap.size < g ∧ g < wr.heap.size from ⟨by have := hrel.gw; have := HA0.out; omega, by obtain ⟨_, _, _, h⟩ := hrel.row; exact h.lt⟩)
      have hwl : w.heap.size < wr.heap.size := by have := hbx.big; omega
      have SS : W3.drew.cell? ⟨w.heap.size, 2, none⟩ = some (.slice (some ⟨g, 0, none⟩) np c4) ∧ CellsAt W3.drew ⟨wr.heap.size, 1, none⟩ [.string x.ty.name, .slice B m a, .int .i64 x.ty.off] := ⟨HBX.out.boxd 2 _ rfl, HBM.out⟩
      clear hx hn hd hcs hin b1 b2 hP1 hrel hpr hbx hrf hbd
      go_upto_region 6 with (first
        | (refine loadOp flatPa 22 23 rfl HFC.out rfl ?_)
        | (refine storeOp flatPa 6 23 (b := wr.heap.size) (o := 0) (us := [.string x.name, .string x.ty.name, .slice B m a, .int .i64 x.ty.off, .int .i64 x.off]) rfl rfl HP1.out.there five_oneB rfl ?_; rw [HP1.out.eq]))
      go_wp2_with fail
      refine wp_region_held_drew (S := fun V => V.cell? ⟨w.heap.size, 2, none⟩ = some (.slice (some ⟨g, 0, none⟩) np c4) ∧ CellsAt V ⟨wr.heap.size, 1, none⟩ [.string x.ty.name, .slice B m a, .int .i64 x.ty.off]) (by kernel_rfl) SS (fun hS => ?_)
      clear SS
      refine wpAnyH_take (i := 0) (v := ?_) rfl (by kernel_rfl) (by kernel_rfl) (by kernel_rfl) (fun _ _ _ h => h) (Or.inl ⟨by rfl, ?_⟩) (by assumption) ?_
      rotate_left
      · (intro V hV; obtain ⟨k0, _⟩ := hV; go_simp; try with_reducible rfl)
      try simp only [Act.put, List.getElem_toArray, List.getElem_cons_zero, List.setIfInBounds_toArray, List.set_cons_zero, List.set_cons_succ]
      refine wpAnyH_take (i := 1) (v := ?_) rfl (by kernel_rfl) (by kernel_rfl) (by kernel_rfl) (fun _ _ _ h => h) (Or.inl ⟨by rfl, ?_⟩) (by assumption) ?_
      rotate_left
      · (intro V hV; obtain ⟨k0, _⟩ := hV; go_simp; try with_reducible rfl)
      try simp only [Act.put, List.getElem_toArray, List.getElem_cons_zero, List.getElem_cons_succ, List.setIfInBounds_toArray, List.set_cons_zero, List.set_cons_succ]
      refine wpAnyH_take (i := 2) (v := ?_) rfl (by kernel_rfl) (by kernel_rfl) (by kernel_rfl) (fun _ _ _ h => h) (Or.inl ⟨by rfl, ?_⟩) (by assumption) ?_
      rotate_left
      · (intro V hV; obtain ⟨k0, _⟩ := hV; go_simp; try with_reducible rfl)
      try simp only [Act.put, List.getElem_toArray, List.getElem_cons_zero, List.getElem_cons_succ, List.setIfInBounds_toArray, List.set_cons_zero, List.set_cons_succ]
      refine wpAnyH_take (i := 3) (v := ?_) rfl (by kernel_rfl) (by kernel_rfl) (by kernel_rfl) (fun _ _ _ h => h) (Or.inl ⟨by rfl, ?_⟩) (by assumption) ?_
      rotate_left
      · (intro V hV; obtain ⟨k0, _⟩ := hV; go_simp; try with_reducible rfl)
      try simp only [Act.put, List.getElem_toArray, List.getElem_cons_zero, List.getElem_cons_succ, List.setIfInBounds_toArray, List.set_cons_zero, List.set_cons_succ]
      refine wpAnyH_take (i := 4) (v := ?_) rfl (by kernel_rfl) (by kernel_rfl) (by kernel_rfl) (fun _ _ _ h => h) (Or.inl ⟨by rfl, ?_⟩) (by assumption) ?_
      rotate_left
      · (intro V hV; obtain ⟨k0, _⟩ := hV; go_simp; try with_reducible rfl)
      try simp only [Act.put, List.getElem_toArray, List.getElem_cons_zero, List.getElem_cons_succ, List.setIfInBounds_toArray, List.set_cons_zero, List.set_cons_succ]
      refine wpAnyH_take (i := 5) (v := .agg ([.string x.ty.name, .slice B m a, .int .i64 x.ty.off] : List Value).toArray) rfl (by kernel_rfl) (by kernel_rfl) (by kernel_rfl) (fun _ _ _ h => h) (Or.inl ⟨by rfl, fun V hV => loadYieldB flatTy3 rfl hV.2 rfl⟩) (by assumption) ?_
      try simp only [Act.put, List.getElem_toArray, List.getElem_cons_zero, List.getElem_cons_succ, List.setIfInBounds_toArray, List.set_cons_zero, List.set_cons_succ]
      refine wpAnyH_ready (rs := [6]) (by kernel_rfl) (by simp) ?_
      refine AllReadyH.cons rfl (fun K2 hK => ?_) (AllReadyH.nil)
      go_simp
      refine C.out.mono ?_
      rintro e w3 ⟨vs, rfl, hv, hm, hs⟩
      have HB3 := Lib.hid (HBX.out.later hm hs)
      have HRF3 := Lib.hid (HRF.out.mv HK.out HBX.out.st hm)
      have hkw := kept_of (V := W3.drew) (V' := w3) (S := (· = wr.heap.size)) (fun b hb => by subst hb; exact hm.kp _ HFW.out.2 HFW.out.1)
      have HBM3 := Lib.hid (show CellsAt w3 ⟨wr.heap.size, 1, none⟩ [.string x.ty.name, .slice B m a, .int .i64 x.ty.off] from fun j u hu => (hkw (Addr.add ⟨wr.heap.size, 1, none⟩ j) (by rw [block_of_add])).1.trans (hS.2 j u hu))
      have SS : w3.cell? ⟨w.heap.size, 2, none⟩ = some (.slice (some ⟨g, 0, none⟩) np c4) ∧ CellsAt w3 ⟨wr.heap.size, 1, none⟩ [.string x.ty.name, .slice B m a, .int .i64 x.ty.off] := ⟨HB3.out.boxd 2 _ rfl, HBM3.out⟩
      obtain ⟨ht, hvl, hrel⟩ := bd_close HK.out H0.out HPI.out HR.out HX.out HN.out HD.out HBD.out hv hm hs
      have HTH := Lib.hid ht
      have HVL := Lib.hid hvl
      have HREL2 := Lib.hid hrel
      have HOV := Lib.hid (ty_cells hv)
      have hg := HLG.out
      have hfg : ¬ K.Fp w3 g := hm.fp g (by have := HBD.out.size; omega) ((Bd.below HK.out HR.out.st HBD.out).1.fp g hg.2 HR.out.fp)
      have e3 := (Bd.cells HK.out (g := g) HB3.out.st HB3.out.mv (by omega) (HK.out.lo _ _ H0.out).1 (HK.out.lo _ _ H0.out).2 hfg (k * 5 + 1) vs).2.2
      have HRF4 := Lib.hid (HRF3.out.set2 HK.out HNW.out H0.out HB3.out.st HB3.out.mv (Nat.le_of_lt hg.1) (fun g' hg' => Nat.lt_of_lt_of_le (HFA.out g' hg') HR.out.gw.2) hfg (k * 5 + 1) vs)
      have HB4 := Lib.hid (show BxK K w (w3.setCells g (k * 5 + 1) vs) 7 (i0 + nf + k + 1) (.string s.name :: .slice FA nf fc :: .slice (some ⟨g, 0, none⟩) np c4 :: ([.string s.res.name, .slice Ar mr ar, .int .i64 s.res.off] ++ [.int .i64 s.off])) from
        ⟨hrel.mv, hrel.st, by rw [size_setCells_w]; exact HB3.out.big, fun h => HB3.out.f0 ((e3 _).1 h), fun h => HB3.out.f1 ((e3 _).1 h), HB3.out.box.kept (heap_setCells g vs _ _ _ (by omega)) (by rw [size_setCells_w]; exact Nat.le_refl _), World.there_setCells HB3.out.res _ _ _⟩)
      refine hK.out _ _ SS (fun hS => ?_)
      clear hK K2 SS hv hm hs ht hvl hrel hkw hg hfg e3
      try simp only [Act.put, List.getElem_toArray, List.getElem_cons_zero, List.getElem_cons_succ, List.setIfInBounds_toArray, List.set_cons_zero, List.set_cons_succ]
      refine wpAnyH_take (i := 7) (v := ?_) rfl (by kernel_rfl) (by kernel_rfl) (by kernel_rfl) (fun _ _ _ h => h) (Or.inl ⟨by rfl, ?_⟩) (by assumption) ?_
      rotate_left
      · (intro V hV; obtain ⟨k0, _⟩ := hV; go_simp; try with_reducible rfl)
      try simp only [Act.put, List.getElem_toArray, List.getElem_cons_zero, List.getElem_cons_succ, List.setIfInBounds_toArray, List.set_cons_zero, List.set_cons_succ]
      refine wpAnyH_take (i := 8) (v := ?_) rfl (by kernel_rfl) (by kernel_rfl) (by kernel_rfl) (fun _ _ _ h => h) (Or.inl ⟨by rfl, ?_⟩) (by assumption) ?_
      rotate_left
      · (intro V hV; obtain ⟨k0, _⟩ := hV; go_simp; try with_reducible rfl)
      try simp only [Act.put, List.getElem_toArray, List.getElem_cons_zero, List.getElem_cons_succ, List.setIfInBounds_toArray, List.set_cons_zero, List.set_cons_succ]
      refine wpAnyH_ready (rs := [9]) (by kernel_rfl) (by simp) ?_
      refine AllReadyH.cons rfl (fun K2 hK => ?_) (AllReadyH.nil)
      refine ready_storeB flatTy3 rfl (.tmp 32) (.tmp 30) rfl (b := g) (off := k * 5 + 1) (us := vs) rfl rfl HTH.out HOV.out HVL.out ?_
      have SS : (w3.setCells g (k * 5 + 1) vs).cell? ⟨w.heap.size, 2, none⟩ = some (.slice (some ⟨g, 0, none⟩) np c4) ∧ CellsAt (w3.setCells g (k * 5 + 1) vs) ⟨wr.heap.size, 1, none⟩ [.string x.ty.name, .slice B m a, .int .i64 x.ty.off] := ⟨HB4.out.boxd 2 _ rfl, fun j u hu => (World.cell?_setCells_out _ _ _ _ _ (fun e => by rw [block_of_add] at e; have := HLG.out; simp only at e; omega)).trans (HBM3.out j u hu)⟩
      refine hK.out _ _ SS (fun hS => ?_)
      clear hK K2 SS
      try simp only [Act.put]
      refine wpAnyH_done (by kernel_rfl) ?_ _
      clear hS
      go_wp2_with fail
      go_roundw
      case rel => exact ⟨k + 1, by omega, by go_num, .inr ⟨g, rfl, hc4, HREL2.out⟩, HB4.out, HRF4.out⟩
      case measure => simp [intOf]; omega
    · have y0 : (np : Int) ≤ k := by omega
      obtain rfl : k = np := by omega
      have HBX := Lib.hid hbx
      have HRF := Lib.hid hrf
      have HPP := Lib.hid hpr
      have x3 := hbx.boxd 3 _ rfl
      have C := Lib.hid (show Calls Tryd.prog 62 #[.agg #[.string s.res.name, .slice Ar mr ar, .int .i64 s.res.off], .pointer (some p)] wr _ from HTR.out [.string s.res.name, .slice Ar mr ar, .int .i64 s.res.off] wr hbx.st (Bd.given_in HK.out H0.out hbx.mv HR0.out))
      have HBM := Lib.hid (cells_mid (p := [.string s.name, .slice FA nf fc, .slice A4 k c4]) (us := [.string s.res.name, .slice Ar mr ar, .int .i64 s.res.off]) (r := [.int .i64 s.off]) hbx.boxd)
      clear hbx hrf hpr x3
      go_wp2_with (refine loadOp flatTy3 35 36 rfl HBM.out rfl ?_)
      refine C.out.mono ?_
      rintro e w5 ⟨vs, rfl, hv, hm, hs⟩
      obtain ⟨At, mt, at1, rfl, _⟩ := ty_open hv
      have M5 := Lib.hid (HBX.out.later hm hs)
      have RF5 := Lib.hid (HRF.out.mv HK.out HBX.out.st hm)
      have RP5 := Lib.hid (show RowGot K a0 w5 k 5 (.slice A4 k c4) ((s.ps.map (Fo.mapT σ)).map Fo.dat) from by
        rcases HPP.out with ⟨h1, rfl, rfl⟩ | ⟨g, rfl, hc4, hrel⟩
        · subst h1
          have : s.ps = [] := List.eq_nil_of_length_eq_zero HPL.out
          exact .inl ⟨rfl, rfl, by rw [this]; rfl⟩
        · exact (bd_end HPI.out hc4 hrel).mv HK.out HBX.out.st hm)
      have HV5 := Lib.hid (hv.wide fun b hb => Bd.Got.up hb (show w.heap.size + 2 ≤ wr.heap.size from HBX.out.big))
      obtain ⟨W6, hW⟩ : ∃ W6, w5.setCells w.heap.size 3 [.string (σ s.res).name, .slice At mt at1, .int .i64 (σ s.res).off] = W6 := ⟨_, rfl⟩
      have HW6 := Lib.hid hW
      have M6 := Lib.hid (show BxK K w W6 7 (i0 + nf + k + 1) (.string s.name :: .slice FA nf fc :: .slice A4 k c4 :: ([.string (σ s.res).name, .slice At mt at1, .int .i64 (σ s.res).off] ++ [.int .i64 s.off])) from hW ▸ BxK.set HK.out (p := [.string s.name, .slice FA nf fc, .slice A4 k c4]) (us := [.string s.res.name, .slice Ar mr ar, .int .i64 s.res.off]) (vs := [.string (σ s.res).name, .slice At mt at1, .int .i64 (σ s.res).off]) H0.out M5.out rfl (by simp))
      have RF6 := Lib.hid (show RowGot K (w.heap.size + 2) W6 nf 5 (.slice FA nf fc) _ from hW ▸ RF5.out.set HK.out H0.out M5.out.st M5.out.mv (Nat.le_refl _) (by omega) M5.out.f0 3 _)
      have RP6 := Lib.hid (show RowGot K a0 W6 k 5 (.slice A4 k c4) _ from hW ▸ RP5.out.set HK.out H0.out M5.out.st M5.out.mv (Nat.le_refl _) (by have := HA0.out; omega) M5.out.f0 3 _)
      have RV6 := Lib.hid (show (σ s.res).dat.In W6 False (K.Got (w.heap.size + 2) W6) _ from hW ▸ got_set HK.out H0.out M5.out.st M5.out.mv HV5.out (Nat.le_refl _) (by omega) M5.out.f0 3 _)
      have HT6 := Lib.hid (M5.out.there (o := 3) (n := 3) (by omega))
      have HOV := Lib.hid (ty_cells hv)
      have HBX6 := Lib.hid (show CellsAt W6 ⟨w.heap.size, 0, none⟩ [.string s.name, .slice FA nf fc, .slice A4 k c4, .string (σ s.res).name, .slice At mt at1, .int .i64 (σ s.res).off, .int .i64 s.off] from boxd_at0B M6.out.boxd)
      have HT7 := Lib.hid M6.out.res
      have HON := Lib.hid (show ∀ u ∈ ([.string s.name, .slice FA nf fc, .slice A4 k c4, .string (σ s.res).name, .slice At mt at1, .int .i64 (σ s.res).off, .int .i64 s.off] : List Value), u.oneCell' = true from row_ones rfl rfl)
      have HFL2 := HFL.out
      have HPL2 := HPL.out
      have HEND := Lib.hid (map_end (σ := σ) (s := s) (i0 := i0) (vF := .slice FA nf fc) (vP := .slice A4 k c4) (rs := [.string (σ s.res).name, .slice At mt at1, .int .i64 (σ s.res).off]) HK.out H0.out (by rw [HFL2, HPL2]; exact M6.out) (by rw [HFL2]; exact RF6.out) (by rw [HPL2]; exact RP6.out) HA0.out HFA.out RV6.out)
      clear hv hm hs hW C HFL2 HPL2
      go_wp2_with (first
        | (refine storeOp flatTy3 38 37 (b := w.heap.size) (o := 3) (us := [.string (σ s.res).name, .slice At mt at1, .int .i64 (σ s.res).off]) rfl rfl HT6.out HOV.out rfl ?_; rw [HW6.out])
        | (refine loadOp flatSg 2 39 rfl HBX6.out rfl ?_)
        | (refine storeOp flatSg 4 39 (b := w.heap.size + 1) (o := 0) (us := [.string s.name, .slice FA nf fc, .slice A4 k c4, .string (σ s.res).name, .slice At mt at1, .int .i64 (σ s.res).off, .int .i64 s.off]) rfl rfl HT7.out HON.out rfl ?_))
      exact bodyPost_ret (results_mapped _ rfl (show Boxd _ (w.heap.size + 1) [.string s.name, .slice FA nf fc, .slice A4 k c4, .string (σ s.res).name, .slice At mt at1, .int .i64 (σ s.res).off, .int .i64 s.off] from set_there (us := [.string s.name, .slice FA nf fc, .slice A4 k c4, .string (σ s.res).name, .slice At mt at1, .int .i64 (σ s.res).off, .int .i64 s.off]) HT7.out) rfl) rfl HEND.out
end Go.Proofs.YtjhlehdjdaphcaaDoor
