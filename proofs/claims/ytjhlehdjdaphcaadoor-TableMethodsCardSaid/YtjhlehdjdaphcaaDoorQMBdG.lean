/- The walk of bind.Subst. The conditions: few parts. -/
import Derived.Test.YtjhlehdjdaphcaaDoorQMBdC
import Derived.Test.YtjhlehdjdaphcaaDoorQMBdF
namespace Go.Proofs.YtjhlehdjdaphcaaDoor
open Go.RowKit

/-- A row in a block of its own; what it leads to lies in the blocks from lo to mid, the row behind them. -/
def RowN (lo mid : Nat) (V : World) (q z : Nat) (v : Value) (ds : List Dat) : Prop :=
  (q = 0 ∧ v = .slice none 0 0 ∧ ds = []) ∨ ∃ g c cs, v = .slice (some ⟨g, 0, none⟩) q c ∧ q ≤ c ∧ Held V g (q * z) cs ∧ Dat.Ins V False (fun b => lo ≤ b ∧ b < mid) ds cs ∧ ds.length = q ∧ (∀ d ∈ ds, d.size = z) ∧ mid ≤ g
theorem rowN_of {Ws V : World} {bx lo a q z : Nat} {rs : List Ty} {v : Value} {ds : List Dat} (h : RowGot (K2 Ws bx lo rs) a V q z v ds) (ha : bx ≤ a) : RowN lo bx V q z v ds := by
  rcases h with h | ⟨g, c, cs, h1, hc, h2, h3, h4, h5, h6, h7⟩
  · exact .inl h
  · exact .inr ⟨g, c, cs, h1, hc, h2, h3.wide fun b hb => hb.1.elim id fun h => h.1.elim, h4, h5, by omega⟩
/-- Another world, in which what lies from lo on is as it was. -/
theorem RowN.kept {lo mid q z : Nat} {V V' : World} {v : Value} {ds : List Dat} (h : RowN lo mid V q z v ds) (hk : ∀ b, lo ≤ b → b < V.heap.size → V'.heap[b]? = V.heap[b]?) (hs : V.heap.size ≤ V'.heap.size) (hm : mid ≤ V.heap.size) (hl : lo ≤ mid) : RowN lo mid V' q z v ds := by
  rcases h with h | ⟨g, c, cs, h1, hc, h2, h3, h4, h5, h6⟩
  · exact .inl h
  · exact .inr ⟨g, c, cs, h1, hc, h2.kept (hk g (by omega) h2.lt) hs, Dat.Ins.keep id (fun p hp => kept_of (S := fun b => lo ≤ b ∧ b < mid) (fun b hb => hk b hb.1 (by omega)) p hp) (fun _ h => h) _ _ h3, h4, h5, h6⟩
theorem RowN.wide {lo lo' mid q z : Nat} {V : World} {v : Value} {ds : List Dat} (h : RowN lo mid V q z v ds) (hl : lo' ≤ lo) : RowN lo' mid V q z v ds := by
  rcases h with h | ⟨g, c, cs, h1, hc, h2, h3, h4, h5, h6⟩
  · exact .inl h
  · exact .inr ⟨g, c, cs, h1, hc, h2, h3.wide fun b hb => ⟨by omega, hb.2⟩, h4, h5, h6⟩
theorem RowN.row {lo mid q z : Nat} {V : World} {v : Value} {ds : List Dat} (h : RowN lo mid V q z v ds) (hq : q ≤ 9223372036854775807) (hl : lo ≤ mid) (hm : mid ≤ V.heap.size) : ∃ A c, v = .slice A q c ∧ q ≤ c ∧ Row V False (fun b => lo ≤ b ∧ b < V.heap.size) z A q ds := by
  rcases h with ⟨rfl, rfl, rfl⟩ | ⟨g, c, cs, rfl, hc, h2, h3, h4, h5, h6⟩
  · exact ⟨none, 0, rfl, Nat.le_refl _, Row.nil _ _ _ _ _⟩
  · refine ⟨some ⟨g, 0, none⟩, c, rfl, hc, h4, hq, Dat.Elems.of fun k d hk => ?_⟩
    obtain ⟨u, hu, hat⟩ := h3.at h5 hk
    refine ⟨⟨g, 0, none⟩, u, rfl, ⟨by show lo ≤ g; omega, h2.lt⟩, False.elim, hu.wide fun b hb => ⟨hb.1, by have := hb.2; omega⟩, fun j x hx => ?_⟩
    rw [Nat.zero_add, add_add, add_zero_addr]
    have := h2.at_ _ _ (hat j x hx)
    rwa [Nat.zero_add] at this
/-- A signature that a call has made, with rows of its own. -/
def SubPost (w : World) (t : Sg) (e : Ending) (w' : World) : Prop :=
  ∃ FA fc PA pc At mt at1 mid, e = .returned (.agg #[.string t.name, .slice FA t.fs.length fc, .slice PA t.ps.length pc, .string t.res.name, .slice At mt at1, .int .i64 t.res.off, .int .i64 t.off]) ∧ RowN w.heap.size mid w' t.fs.length 5 (.slice FA t.fs.length fc) (t.fs.map Fo.dat) ∧ RowN w.heap.size mid w' t.ps.length 5 (.slice PA t.ps.length pc) (t.ps.map Fo.dat)
    ∧ (∀ g g', (Value.slice FA t.fs.length fc).ownBlock = some g → (Value.slice PA t.ps.length pc).ownBlock = some g' → g < g') ∧ t.res.dat.In w' False (fun b => w.heap.size ≤ b ∧ b < mid) [.string t.res.name, .slice At mt at1, .int .i64 t.res.off] ∧ w.heap.size ≤ mid ∧ mid ≤ w'.heap.size ∧ Below w.heap.size w w'
theorem SubPost.post {w : World} {t : Sg} {e : Ending} {w' : World} (hn : t.name.size ≤ 9223372036854775807) (hl : t.fs.length ≤ 100000 ∧ t.ps.length ≤ 100000) (h : SubPost w t e w') : DPost w t.dat e w' := by
  obtain ⟨FA, fc, PA, pc, At, mt, at1, mid, rfl, h1, h2, _, h4, h5, h6, h7⟩ := h
  obtain ⟨A, c, e1, _, r1⟩ := h1.row (by omega) h5 h6
  obtain ⟨B, d, e2, _, r2⟩ := h2.row (by omega) h5 h6
  simp only [Value.slice.injEq, true_and] at e1 e2
  obtain ⟨rfl, rfl⟩ := e1
  obtain ⟨rfl, rfl⟩ := e2
  exact ⟨[.string t.name, .slice FA t.fs.length fc, .slice PA t.ps.length pc, .string t.res.name, .slice At mt at1, .int .i64 t.res.off, .int .i64 t.off], rfl, sgMk hn (arr_in r1) (arr_in r2) (h4.wide fun b hb => ⟨hb.1, by have := hb.2; omega⟩), h7⟩
/-- What lies while Subst begins. -/
structure SubBox (w W : World) (us : List Value) : Prop where
  bel : Below w.heap.size w W
  big : w.heap.size + 3 ≤ W.heap.size
  box : Boxd W w.heap.size us
  res : W.there (w.heap.size + 1) 0 7
theorem SubBox.move {w W W' : World} {us : List Value} (h : SubBox w W us) (hb : Below w.heap.size W W') (hk : ∀ b, b = w.heap.size ∨ b = w.heap.size + 1 → W'.heap[b]? = W.heap[b]?) : SubBox w W' us := by
  refine ⟨h.bel.trans hb, Nat.le_trans h.big hb.size, fun j u hu => ?_, fun j hj => ?_⟩
  · rw [(kept_of (V := W) (V' := W') (S := fun b => b = w.heap.size ∨ b = w.heap.size + 1) hk ⟨w.heap.size, j, none⟩ (.inl rfl)).1]
    exact h.box j u hu
  · obtain ⟨e1, e2⟩ := kept_of (V := W) (V' := W') (S := fun b => b = w.heap.size ∨ b = w.heap.size + 1) hk ⟨w.heap.size + 1, 0 + j, none⟩ (.inr rfl)
    rw [e1, e2]
    exact h.res j hj
theorem SubBox.later {w W W' : World} {us : List Value} (h : SubBox w W us) (hb : Below W.heap.size W W') : SubBox w W' us :=
  h.move (hb.mono (by have := h.big; omega)) fun b hb2 => hb.block b (by have := h.big; omega)
theorem results_bsubst {w : World} {b : Nat} {us : List Value} (tmps : Array Value) (ht : tmps[6]?.getD undef = .pointer (some ⟨b, 0, none⟩)) (hc : Boxd w b us) (hl : us.length = 7) : (results Tryd.f35 tmps).run Tryd.prog w = .ok (.agg us.toArray) w := by
  have h := run_loadVar_at w ⟨b, 0, none⟩ 50 us _ hc.at0 Tryd.underlying50 rfl (by rw [hl]; exact flatSg.size)
  have h2 : (asAddr (.pointer (some ⟨b, 0, none⟩))).run Tryd.prog w = .ok ⟨b, 0, none⟩ w := rfl
  simp [results, Tryd.results35, ht, h, h2, Sem.run_bind, Result.andThen]
set_option maxRecDepth 100000 in
set_option maxHeartbeats 16000000 in
theorem bsubst_big (s : Sg) (us : List Value) (ns : List ByteArray) (vs : List Ty) (N U : Option Addr) (nl ul nc uc : Nat) (w : World) (hw : s.wt ≤ 1990) (hvs : ∀ v ∈ vs, v.Small) (hul : ul ≤ 1000) (hF : Fits ns nl nc) (h : s.dat.H w us) (hN : Sl w N nl ns) (hU : Here w U ul vs) :
    Calls Tryd.prog 35 #[.agg us.toArray, .slice N nl nc, .slice U ul uc] w (SubPost w (s.subst ns vs)) := by
  obtain ⟨F, nf, cf, Q, np, cp, Ar, mr, ar, rfl, _, hf, hp, _⟩ := sg_open h
  have hfl := hf.len
  have hpl := hp.len
  rw [List.length_map] at hfl hpl
  have hlf := Sg.len_f s
  have hlp := Sg.len_p s
  have htl := Sg.types_len s
  have htc : s.types.length = nf + np + 1 := by simp [Sg.types, hfl, hpl]; omega
  obtain ⟨W1, hW1⟩ : ∃ W1, ((w.alloc (.cells #[.string s.name, .slice F nf cf, .slice Q np cp, .string s.res.name, .slice Ar mr ar, .int .i64 s.res.off, .int .i64 s.off] 50)).alloc (.cells #[.string ⟨#[]⟩, .slice none 0 0, .slice none 0 0, .string ⟨#[]⟩, .slice none 0 0, .int .i64 0, .int .i64 0] 50)).alloc (.cells #[.slice none 0 0] 23) = W1 := ⟨_, rfl⟩
  have hM := Cl.new w #[.string s.name, .slice F nf cf, .slice Q np cp, .string s.res.name, .slice Ar mr ar, .int .i64 s.res.off, .int .i64 s.off] #[.string ⟨#[]⟩, .slice none 0 0, .slice none 0 0, .string ⟨#[]⟩, .slice none 0 0, .int .i64 0, .int .i64 0] 50
  have hb3 : Below ((w.alloc (.cells #[.string s.name, .slice F nf cf, .slice Q np cp, .string s.res.name, .slice Ar mr ar, .int .i64 s.res.off, .int .i64 s.off] 50)).alloc (.cells #[.string ⟨#[]⟩, .slice none 0 0, .slice none 0 0, .string ⟨#[]⟩, .slice none 0 0, .int .i64 0, .int .i64 0] 50)).heap.size ((w.alloc (.cells #[.string s.name, .slice F nf cf, .slice Q np cp, .string s.res.name, .slice Ar mr ar, .int .i64 s.res.off, .int .i64 s.off] 50)).alloc (.cells #[.string ⟨#[]⟩, .slice none 0 0, .slice none 0 0, .string ⟨#[]⟩, .slice none 0 0, .int .i64 0, .int .i64 0] 50)) W1 := hW1 ▸ (Below.refl _ _).alloc (Nat.le_refl _) _
  have hs1 : W1.heap.size = w.heap.size + 3 := by rw [← hW1]; simp
  have hM1 := hM.later hb3
  have hbx0 : W1.cell? ⟨w.heap.size + 2, 0, none⟩ = some (.slice none 0 0) := by
    rw [← hW1, World.cell?_alloc_at _ _ _ _ (by simp)]; rfl
  have hbf0 : W1.frozen? ⟨w.heap.size + 2, 0, none⟩ = false := by
    rw [← hW1]
    have h2 := heap_alloc_new ((w.alloc (.cells #[.string s.name, .slice F nf cf, .slice Q np cp, .string s.res.name, .slice Ar mr ar, .int .i64 s.res.off, .int .i64 s.off] 50)).alloc (.cells #[.string ⟨#[]⟩, .slice none 0 0, .slice none 0 0, .string ⟨#[]⟩, .slice none 0 0, .int .i64 0, .int .i64 0] 50)) (.cells #[.slice none 0 0] 23)
    rw [show ((w.alloc (.cells #[.string s.name, .slice F nf cf, .slice Q np cp, .string s.res.name, .slice Ar mr ar, .int .i64 s.res.off, .int .i64 s.off] 50)).alloc (.cells #[.string ⟨#[]⟩, .slice none 0 0, .slice none 0 0, .string ⟨#[]⟩, .slice none 0 0, .int .i64 0, .int .i64 0] 50)).heap.size = w.heap.size + 2 by simp] at h2
    exact frozen_of_row h2 0
  have hst1 : (K1 (w.heap.size + 2) w.heap.size w.heap.size s.types).St 0 W1 := ⟨Nat.le_refl _, by omega, by omega, _, [], hbx0, hbf0, World.ownsRow_nil _ _ _ _, by rw [List.take_zero]; show Dat.Ins _ _ _ (Ty.dats []) _; rw [Ty.dats, Dat.Ins]⟩
  have HB1 := Lib.hid (show SubBox w W1 [.string s.name, .slice F nf cf, .slice Q np cp, .string s.res.name, .slice Ar mr ar, .int .i64 s.res.off, .int .i64 s.off] from ⟨hM1.bel, by omega, hM1.box.box, hM1.res⟩)
  have HS1 := Lib.hid hst1
  have HIN1 := Lib.hid (show s.dat.In W1 False (· < w.heap.size) [.string s.name, .slice F nf cf, .slice Q np cp, .string s.res.name, .slice Ar mr ar, .int .i64 s.res.off, .int .i64 s.off] from Dat.In.later h hM1.bel fun _ h => h)
  have HIN0 := Lib.hid h
  have HN := Lib.hid hN
  have HU := Lib.hid hU
  have HVS := Lib.hid hvs
  have HF := Lib.hid hF
  have HW1 := Lib.hid hW1
  have HSM := Lib.hid (show ∀ t ∈ s.types, Ty.Small t from fun t ht => ty_few (by
    simp only [Sg.types, List.mem_append, List.mem_map, List.mem_singleton] at ht
    rcases ht with (⟨f, hf, rfl⟩ | ⟨f, hf, rfl⟩) | rfl
    · have := Sg.wt_f hf; have := Fo.wt_ty (f := f); omega
    · have := Sg.wt_p hf; have := Fo.wt_ty (f := f); omega
    · have := Sg.wt_res (s := s); omega))
  have HTL := Lib.hid (show s.types.length ≤ 2000 by omega)
  have HTC := Lib.hid htc
  have HFL := Lib.hid hfl
  have HPL := Lib.hid hpl
  have HLL := Lib.hid (show s.fs.length ≤ 100000 ∧ s.ps.length ≤ 100000 by omega)
  have HBX0 := Lib.hid (boxd_at0B hM1.box.box)
  have HUL := Lib.hid hul
  clear hM hb3 hM1 hbx0 hbf0 hst1 h hN hU hvs hF hW1 hf hp hfl hpl hlf hlp htl htc hs1 hw hul
  go_enter Tryd.func35, Tryd.ntmps35
  go_upto_region 2 with fail
  rw [show ((w.alloc (.cells #[.string s.name, .slice F nf cf, .slice Q np cp, .string s.res.name, .slice Ar mr ar, .int .i64 s.res.off, .int .i64 s.off] 50)).alloc (.cells #[.string ⟨#[]⟩, .slice none 0 0, .slice none 0 0, .string ⟨#[]⟩, .slice none 0 0, .int .i64 0, .int .i64 0] 50)).alloc (.cells #[.slice none 0 0] 23) = W1 from HW1.out]
  clear HW1
  go_wp2_with (refine loadOp flatSg 3 9 rfl HBX0.out rfl ?_)
  refine (mapped_collect ⟨w.heap.size + 2, 0, none⟩ (K1 (w.heap.size + 2) w.heap.size w.heap.size s.types) (k1_ok _ _ _ _) id id s 0 (fun j t hj => by rw [Nat.zero_add]; exact collect_any (w.heap.size + 2) w.heap.size w.heap.size s.types (by have := HTL.out; omega) j t hj) [.string s.name, .slice F nf cf, .slice Q np cp, .string s.res.name, .slice Ar mr ar, .int .i64 s.res.off, .int .i64 s.off] W1 HLL.out HS1.out HIN1.out).mono ?_
  rintro e w2 ⟨vF, vP, rs, a, rfl, hrF, hrP, _, _, hrr, hm, hs⟩
  obtain ⟨FX, fx, rfl⟩ := hrF.one
  obtain ⟨PX, px, rfl⟩ := hrP.one
  obtain ⟨AX, mx, ax, rfl, _⟩ := ty_open hrr
  have hz1 := HB1.out.big
  have hfp1 : ∀ b, b = w.heap.size ∨ b = w.heap.size + 1 → ¬ (K1 (w.heap.size + 2) w.heap.size w.heap.size s.types).Fp W1 b := fun b hb hf => by
    have := (k1_low HS1.out hf).1
    omega
  have HB2 := Lib.hid (HB1.out.move hm.bel fun b hb => hm.kp b (by omega) (hfp1 b hb))
  rw [show 0 + s.fs.length + s.ps.length + 1 = s.types.length by rw [HTC.out, HFL.out, HPL.out]; omega] at hs
  obtain ⟨_, _, q3, v, cs, c0, c1, c2, c3⟩ := hs
  rw [List.take_length] at c3
  obtain ⟨FO, fo, rfl, hfo, _⟩ := row_of_own (S' := (· < w2.heap.size)) c2 c3 (fun d hd => by rw [Ty.dats_map] at hd; obtain ⟨t, _, rfl⟩ := List.mem_map.1 hd; exact Ty.dat_size t) (by omega) (fun b hb => by show b < _; have := HB2.out.big; omega) (fun g hg => (c2.lt g hg).2) (by have := HTL.out; omega)
  have HLO := Lib.hid (show Here w2 FO s.types.length s.types from lies_row.2 hfo)
  have C2 := Lib.hid (all_cap s.types ns vs FO N U s.types.length fo nl ul nc uc w2 HVS.out HSM.out HTL.out HUL.out HF.out HLO.out (HN.out.later HB2.out.bel) (Here.later HU.out HB2.out.bel))
  have HB2B := Lib.hid (boxd_at0B HB2.out.box)
  clear hrF hrP hrr hm q3 c1 c2 c3 hfo hfp1 hz1
  go_upto_region 3 with fail
  go_wp2_with fail
  refine C2.out.mono ?_
  rintro e w4 ⟨A4, c4, rfl, hc4, hl4, hb4⟩
  rw [List.length_map] at hc4 hl4 ⊢
  obtain ⟨W5, hW5⟩ : ∃ W5, w4.alloc (.cells #[.slice A4 s.types.length c4] 23) = W5 := ⟨_, rfl⟩
  have hb5 : Below w4.heap.size w4 W5 := hW5 ▸ (Below.refl _ _).alloc (Nat.le_refl _) _
  have hz5 : W5.heap.size = w4.heap.size + 1 := by rw [← hW5]; simp
  have HB5 := Lib.hid ((HB2.out.later hb4).later hb5)
  have hd0 : W5.cell? ⟨w4.heap.size, 0, none⟩ = some (.slice A4 s.types.length c4) := by rw [← hW5, World.cell?_alloc_at _ _ _ _ rfl]; rfl
  have hd1 : W5.frozen? ⟨w4.heap.size, 0, none⟩ = false := by rw [← hW5]; exact frozen_of_row (heap_alloc_new _ _) 0
  have HS5 := Lib.hid (show (K2 W5 w4.heap.size w2.heap.size (s.types.map (Ty.subst ns vs))).St 0 W5 from ⟨hb4.size, by omega, Nat.zero_le _, fun _ _ => rfl, A4, c4, by rw [List.length_map]; exact hd0, hd1, by rw [List.length_map]; exact hc4, by
    rw [List.length_map, List.drop_zero]
    exact LiesN.later hl4 hb5 fun b hb => hb.2⟩)
  have HIN5 := Lib.hid (show s.dat.In W5 False (· < w4.heap.size) [.string s.name, .slice F nf cf, .slice Q np cp, .string s.res.name, .slice Ar mr ar, .int .i64 s.res.off, .int .i64 s.off] from (Dat.In.later HIN0.out HB5.out.bel fun _ h => h).wide fun b hb => by have h1 : b < w.heap.size := hb; have := HB2.out.big; have := hb4.size; show b < _; omega)
  have HB5B := Lib.hid (boxd_at0B HB5.out.box)
  have HZ := Lib.hid (show w.heap.size + 3 ≤ w2.heap.size ∧ w2.heap.size ≤ w4.heap.size ∧ W5.heap.size = w4.heap.size + 1 from ⟨HB2.out.big, hb4.size, hz5⟩)
  have HW5 := Lib.hid hW5
  clear hc4 hl4 hb4 hW5 hb5 hz5 hd0 hd1 C2 c0
  go_upto_region 4 with fail
  rw [HW5.out]
  clear HW5
  go_wp2_with (refine loadOp flatSg 3 16 rfl HB5B.out rfl ?_)
  refine (mapped_handout ⟨w4.heap.size, 0, none⟩ (K2 W5 w4.heap.size w2.heap.size (s.types.map (Ty.subst ns vs))) (k2_ok _ _ _ _) id (Ty.subst ns vs) s 0 (fun j t hj => handout_any W5 w4.heap.size w2.heap.size (s.types.map (Ty.subst ns vs)) (0 + j) t _ (by rw [Nat.zero_add, List.getElem?_map, hj]; rfl)) [.string s.name, .slice F nf cf, .slice Q np cp, .string s.res.name, .slice Ar mr ar, .int .i64 s.res.off, .int .i64 s.off] W5 HLL.out HS5.out HIN5.out).mono ?_
  rintro e w6 ⟨vF, vP, rs, a, rfl, hrF, hrP, ha, hFa, hrr, hm, hs⟩
  have hz := HZ.out
  have rF := rowN_of hrF (by omega)
  have rP := rowN_of hrP (by omega)
  obtain ⟨FA, fc, rfl⟩ := hrF.one
  obtain ⟨PA, pc, rfl⟩ := hrP.one
  obtain ⟨At, mt, at1, rfl, _⟩ := ty_open hrr
  have HB6 := Lib.hid (HB5.out.move (hm.bel.mono (by show w.heap.size ≤ w2.heap.size; omega)) fun b hb => hm.kp b (by omega) (fun (e : b = w4.heap.size) => by omega))
  have h6z : w4.heap.size ≤ w6.heap.size := by have := hm.size; omega
  have hrr2 : (s.res.subst ns vs).dat.In w6 False (fun b => w2.heap.size ≤ b ∧ b < w4.heap.size) _ := hrr.wide fun b hb => hb.elim id fun h => h.1.elim
  have HORD := Lib.hid (show ∀ g g', (Value.slice FA s.fs.length fc).ownBlock = some g → (Value.slice PA s.ps.length pc).ownBlock = some g' → g < g' from fun g g' h1 h2 => Nat.lt_of_lt_of_le (hFa g h1) (by
    rcases hrP with ⟨_, e, _⟩ | ⟨g2, c2, cs, e, _, _, _, _, _, h6, _⟩
    · rw [e] at h2; cases h2
    · rw [e] at h2
      have : g2 = g' := Option.some.inj h2
      rw [← this]; exact h6))
  obtain ⟨WE, hWE⟩ : ∃ WE, w6.setCells (w.heap.size + 1) 0 [.string s.name, .slice FA nf fc, .slice PA np pc, .string (s.res.subst ns vs).name, .slice At mt at1, .int .i64 (s.res.subst ns vs).off, .int .i64 s.off] = WE := ⟨_, rfl⟩
  have hset : ∀ b, b ≠ w.heap.size + 1 → WE.heap[b]? = w6.heap[b]? := fun b hb => hWE ▸ heap_setCells _ _ _ _ b hb
  have hzE : WE.heap.size = w6.heap.size := by rw [← hWE, size_setCells_w]
  have HEND := Lib.hid (show SubPost w (s.subst ns vs) (.returned (.agg #[.string s.name, .slice FA nf fc, .slice PA np pc, .string (s.res.subst ns vs).name, .slice At mt at1, .int .i64 (s.res.subst ns vs).off, .int .i64 s.off])) WE from by
    have hF2 : RowN w.heap.size w4.heap.size WE s.fs.length 5 (.slice FA s.fs.length fc) ((s.subst ns vs).fs.map Fo.dat) := (rF.kept (V' := WE) (fun b h1 _ => hset b (by omega)) (by omega) h6z (by omega)).wide (by omega)
    have hP2 : RowN w.heap.size w4.heap.size WE s.ps.length 5 (.slice PA s.ps.length pc) ((s.subst ns vs).ps.map Fo.dat) := (rP.kept (V' := WE) (fun b h1 _ => hset b (by omega)) (by omega) h6z (by omega)).wide (by omega)
    have e1 : (s.subst ns vs).fs.length = s.fs.length := by simp [Sg.subst]
    have e2 : (s.subst ns vs).ps.length = s.ps.length := by simp [Sg.subst]
    refine ⟨FA, fc, PA, pc, At, mt, at1, w4.heap.size, ?_, ?_, ?_, ?_, ?_, by omega, by omega, ?_⟩
    · rw [e1, e2, HFL.out, HPL.out]; rfl
    · rw [e1]; exact hF2
    · rw [e2]; exact hP2
    · rw [e1, e2]; exact HORD.out
    · exact (Dat.In.keep id (fun p hp => kept_of (S := fun b => w2.heap.size ≤ b ∧ b < w4.heap.size) (fun b hb => hset b (by omega)) p hp) (fun _ h => h) _ _ hrr2).wide fun b hb => ⟨by omega, hb.2⟩
    · exact HB6.out.bel.trans (hWE ▸ below_cells (Nat.le_succ _) _ _ _))
  have HT6 := Lib.hid HB6.out.res
  have HWE := Lib.hid hWE
  have HON := Lib.hid (show ∀ u ∈ ([.string s.name, .slice FA nf fc, .slice PA np pc, .string (s.res.subst ns vs).name, .slice At mt at1, .int .i64 (s.res.subst ns vs).off, .int .i64 s.off] : List Value), u.oneCell' = true from row_ones rfl rfl)
  clear hrF hrP ha hFa hrr hm hs hz rF rP h6z hrr2 hset hzE hWE
  rw [HFL.out, HPL.out]
  go_wp2_with (refine storeOp flatSg 6 18 (b := w.heap.size + 1) (o := 0) (us := [.string s.name, .slice FA nf fc, .slice PA np pc, .string (s.res.subst ns vs).name, .slice At mt at1, .int .i64 (s.res.subst ns vs).off, .int .i64 s.off]) rfl rfl HT6.out HON.out rfl ?_; rw [HWE.out])
  exact bodyPost_ret (results_bsubst _ rfl (show Boxd WE (w.heap.size + 1) [.string s.name, .slice FA nf fc, .slice PA np pc, .string (s.res.subst ns vs).name, .slice At mt at1, .int .i64 (s.res.subst ns vs).off, .int .i64 s.off] from HWE.out ▸ set_there (us := [.string s.name, .slice FA nf fc, .slice PA np pc, .string (s.res.subst ns vs).name, .slice At mt at1, .int .i64 (s.res.subst ns vs).off, .int .i64 s.off]) HT6.out) rfl) rfl HEND.out
theorem bsubst_any (s : Sg) (us : List Value) (ns : List ByteArray) (vs : List Ty) (N U : Option Addr) (nl ul nc uc : Nat) (w : World) (hw : s.wt ≤ 1000) (hvs : ∀ v ∈ vs, v.Small) (hul : ul ≤ 1000) (hF : Fits ns nl nc) (h : s.dat.H w us) (hN : Sl w N nl ns) (hU : Here w U ul vs) :
    Calls Tryd.prog 35 #[.agg us.toArray, .slice N nl nc, .slice U ul uc] w (SubPost w (s.subst ns vs)) := bsubst_big s us ns vs N U nl ul nc uc w (by omega) hvs hul hF h hN hU
end Go.Proofs.YtjhlehdjdaphcaaDoor
