/- The walk of expr.Replace. The condition: few parts. -/
import Derived.Test.YtnfakhohoibkpaaDoorEkR
import Derived.Test.YtnfakhohoibkpaaDoorTwE
namespace Go.Proofs.YtnfakhohoibkpaaDoor
open Go.RowKit
attribute [local go_sem] run_store_fn

theorem store8_any {P : Program} {ops : Array Oper} {rest : List Oper} {a : Act} {w : World} {Q : Exit → Act → World → Prop} {ps : String} {af : Array Edge} {b o : Nat} {vs : Array Value} (i j : Nat) (hx : a.eval (.tmp i) = .pointer (some ⟨b, o, none⟩)) (hy : a.eval (.tmp j) = .agg vs)
    (ht : w.there b o vs.size) (h1 : vs.all (·.oneCell') = true) (hi : (P.info? 27).map (·.size) = some vs.size) (h : wpList P ops Q rest (a.put none undef) (w.setCells b o vs.toList)) :
    wpList P ops Q ({ dst := none, op := .store 27 (.tmp i) (.tmp j), type := 0, pos := ps, after := af, guard := none } :: rest) a w :=
  wpList_store_mid rfl 27 (.tmp i) (.tmp j) rfl b o vs hx hy ht hi h1 h

/-- The end of a function that takes an expression and gives one in a cell: what it gives lies where such calls lay it. -/
theorem kgot_set {lo n m s0 i : Nat} {St : Nat → World → Prop} {w V : World} {x : Ex} {us : List Value} {k : Nat} (hSt : ∀ i V V', Below s0 V V' → St i V → St i V') (hlo : lo ≤ w.heap.size) (hs : s0 ≤ w.heap.size) (hk : w.heap.size ≤ k)
    (hm : Mv lo n m w V) (hst : St i V) (h : x.dat.In V False (fun b => NewOr lo n w V b ∧ b ≠ k) us) : KGot lo n m St x i w (.returned (.agg us.toArray)) (V.setCells k 0 us) :=
  ⟨us, rfl, Dat.In.keep id (fun p hp => ⟨World.cell?_setCells_out _ _ _ _ _ (fun e => absurd e hp.2), World.frozen?_setCells _ _ _ _ _⟩) (fun b hb => hb.1.wide (Nat.le_refl _) (by rw [size_setCells_w]; exact Nat.le_refl _)) _ _ h,
    hm.setCells hlo hk 0 us, hSt _ _ _ (below_cells (by omega) us 0 V) hst⟩

/-- What Replace has laid ahead of its closure's calls. -/
structure RepW (Ws : World) (p8 p9 : Nat) (ns : List ByteArray) (es : List Ex) : Prop where
  map : ∃ g nn, Ws.cell? ⟨p8, 0, none⟩ = some (.map (some g)) ∧ XGivenAt Ws Ws g nn (fun s => Ex.pick s ns es)
  fn : Ws.cell? ⟨p9, 0, none⟩ = some (.func (.func 56) #[] #[.pointer (some ⟨p8, 0, none⟩), .pointer (some ⟨p9, 0, none⟩)])
theorem RepW.later {Ws W : World} {p8 p9 : Nat} {ns : List ByteArray} {es : List Ex} (h : RepW Ws p8 p9 ns es) (hb : Below Ws.heap.size Ws W) : RepW W p8 p9 ns es := by
  obtain ⟨g, nn, h1, h2⟩ := h.map
  exact ⟨⟨g, nn, (hb.cell (cell_lt h1)).trans h1, (h2.later hb).base hb⟩, (hb.cell (cell_lt h.fn)).trans h.fn⟩
abbrev RepSt (Ws : World) : Nat → World → Prop := fun _ V => Below Ws.heap.size Ws V
theorem repSt_ok (Ws : World) : ∀ i V V', Below Ws.heap.size V V' → RepSt Ws i V → RepSt Ws i V' := fun _ _ _ h k => k.trans h
theorem xpick_mem {s : ByteArray} {u : Ex} : ∀ {ns : List ByteArray} {es : List Ex}, Ex.pick s ns es = some u → u ∈ es
  | [], es, h => by rw [Ex.pick] at h; cases h
  | n :: ns, es, h => by
    rw [Ex.pick] at h
    split at h
    · exact List.mem_of_mem_head? h
    · exact List.mem_of_mem_tail (xpick_mem h)
theorem repl_hit {ns : List ByteArray} {es : List Ex} {s : ByteArray} {v : Ex} (h : Ex.pick s ns es = some v) (t : Ty) (ts : List Ty) (xs : List Ex) (o : Int) : Ex.repl ns es (.mk 1 s t ts xs o) = v := by
  rw [Ex.repl, if_pos rfl, h]
theorem repl_else {ns : List ByteArray} {es : List Ex} {k : Int} {s : ByteArray} (h : Ex.pick s ns es = none ∨ k ≠ 1) (t : Ty) (ts : List Ty) (xs : List Ex) (o : Int) : Ex.repl ns es (.mk k s t ts xs o) = .mk k s t ts (xs.map (Ex.repl ns es)) o := by
  rw [Ex.repl, ← Ex.replL_map]
  by_cases hk : k = 1
  · rw [if_pos hk]
    rcases h with h | h
    · rw [h]
    · exact absurd hk h
  · rw [if_neg hk]

set_option maxRecDepth 100000 in
set_option maxHeartbeats 8000000 in
theorem replace1_any (Ws : World) (p8 p9 lo : Nat) (hlo : lo ≤ Ws.heap.size) (ns : List ByteArray) (es : List Ex) (hW : RepW Ws p8 p9 ns es) (hes : ∀ v ∈ es, v.wt ≤ 100000) : ∀ e : Ex, e.wt ≤ 100000 → ∀ i i' : Nat,
    KCall 56 #[.pointer (some ⟨p8, 0, none⟩), .pointer (some ⟨p9, 0, none⟩)] lo 0 0 Ws.heap.size (RepSt Ws) e (e.repl ns es) i i' := by
  refine Ex.ind fun k s t ts xs o ih hwt i i' us w hs hst h => ?_
  have hH : (Ex.dat (.mk k s t ts xs o)).H w us := h.wide safe0
  have hh := box_zero hH
  have hwt1 := Ex.wt_ty (e := .mk k s t ts xs o)
  have hwt2 := fun u => Ex.wt_targ (e := .mk k s t ts xs o) (t := u)
  have hwt3 := fun y => Ex.wt_kid (e := .mk k s t ts xs o) (x := y)
  have hwt4 : xs.length ≤ Ex.wt (.mk k s t ts xs o) := by have := Ex.wtL_len xs; simp only [Ex.wt]; omega
  have hwt5 : ts.length ≤ Ex.wt (.mk k s t ts xs o) := by have := Ty.wtL_len ts; simp only [Ex.wt]; omega
  have HX := Lib.hid hh.1
  have HR := Lib.hid hh.2
  have HLO := Lib.hid (Nat.le_trans hlo hs)
  have HS := Lib.hid hs
  have HST := Lib.hid hst
  have C := Lib.hid (fun (V : World) (hV : (Ex.dat (.mk k s t ts xs o)).H V us) (h1 : Below w.heap.size w V) => show Calls Tryd.prog 51 #[.agg us.toArray, .func (.func 54) #[] #[], .func (.func 56) #[] #[.pointer (some ⟨p8, 0, none⟩), .pointer (some ⟨p9, 0, none⟩)]] V _ from
    mapped_R p8 p9 lo 0 0 Ws.heap.size (RepSt Ws) (repSt_ok Ws) hlo (Nat.le_refl _) (Nat.zero_le _) k s t t ts ts xs (xs.map (Ex.repl ns es)) o i (fun j => i + 1 + ts.length + j) rfl (List.length_map _)
      (tcall_clone t (Nat.le_trans hwt1 hwt) _ _ hlo _ (repSt_ok Ws) (fun _ _ _ h => h) i)
      (fun j a b h1 h2 => by rw [h1] at h2; injection h2 with h2; subst h2; exact tcall_clone a (Nat.le_trans (hwt2 a (List.mem_of_getElem? h1)) hwt) _ _ hlo _ (repSt_ok Ws) (fun _ _ _ h => h) _) rfl
      (fun j a b h1 h2 => by rw [List.getElem?_map, h1] at h2; injection h2 with h2; subst h2; exact ih a (List.mem_of_getElem? h1) (Nat.le_trans (hwt3 a (List.mem_of_getElem? h1)) hwt) _ _)
      us V (Nat.le_trans hs h1.size) (hst.trans (h1.mono hs)) (by omega) (by omega) (hV.wide fun b hb => ⟨hb, .inr (Nat.zero_le _)⟩))
  have hsz : s.size ≤ 9223372036854775807 := by obtain ⟨_, _, _, _, _, _, _, _, _, _, h1, _⟩ := ex_open h; exact h1
  have hb0 : Below Ws.heap.size Ws ((w.alloc (.cells us.toArray 27)).alloc (.cells #[.int .i64 0, .string ⟨#[]⟩, .string ⟨#[]⟩, .slice none 0 0, .int .i64 0, .slice none 0 0, .slice none 0 0, .int .i64 0] 27)) := hst.trans (hh.1.bel.mono hs)
  have HWW := Lib.hid (hW.later hb0)
  obtain ⟨g, nn, hc8, hgv⟩ := HWW.out.map
  have hc9 := HWW.out.fn
  have HGV := Lib.hid hgv
  obtain ⟨A, m, a, B, l, b, C', r, c, rfl, _⟩ := ex_open h
  obtain ⟨x0, x1, x2, x3, x4, x5, x6, x7⟩ := HX.out.one.c8
  simp only [Ex.kind, Ex.name, Ex.ty, Ex.off] at x0 x1 x2 x3 x4 x5 x6 x7 HX HR C hc8 hc9 HGV hb0 ⊢
  show Calls Tryd.prog 56 #[.agg #[.int .i64 k, .string s, .string t.name, .slice A m a, .int .i64 t.off, .slice B l b, .slice C' r c, .int .i64 o], .pointer (some ⟨p8, 0, none⟩), .pointer (some ⟨p9, 0, none⟩)] w _
  have HCL := Lib.hid (fun (v : Ex) (hv : v ∈ es) (vs : List Value) (V : World) (h2 : v.dat.H V vs) => xclone_any v vs V (hes v hv) h2)
  clear ih h hh hH hwt hwt1 hwt2 hwt3 hwt4 hwt5 hgv hb0 hW hlo hs hst hes
  by_cases hhit : ∃ v, Ex.pick s ns es = some v ∧ k = 1
  · obtain ⟨v, hp, rfl⟩ := hhit
    obtain ⟨vs, hvd, hrun0⟩ := HGV.out.hit hsz hp
    have hrun := hrun0 _ (Below.refl _ _)
    have hvd2 := Dat.H.later hvd ((Below.refl _ _).alloc (Nat.le_refl _) (.cells vs.toArray 27))
    have HVD := Lib.hid hvd2
    have HX2 := Lib.hid (HX.out.later ((Below.refl _ _).alloc (Nat.le_refl _) (.cells vs.toArray 27)))
    have HR2 := Lib.hid (HR.out.later ((Below.refl _ _).alloc (Nat.le_refl _) (.cells vs.toArray 27)))
    have HBV := Lib.hid (Boxd.new ((w.alloc (.cells #[.int .i64 1, .string s, .string t.name, .slice A m a, .int .i64 t.off, .slice B l b, .slice C' r c, .int .i64 o] 27)).alloc (.cells #[.int .i64 0, .string ⟨#[]⟩, .string ⟨#[]⟩, .slice none 0 0, .int .i64 0, .slice none 0 0, .slice none 0 0, .int .i64 0] 27)) vs.toArray 27)
    have CC := Lib.hid (HCL.out v (xpick_mem hp) vs _ hvd2)
    have HRP := Lib.hid (repl_hit hp t ts xs o)
    have x00 := HX2.out.one.c8.1
    obtain ⟨A2, m2, a2, B2, l2, b2, C2, r2, c2, rfl, _⟩ := ex_open hvd
    have hsz3 : ((w.alloc (.cells #[.int .i64 1, .string s, .string t.name, .slice A m a, .int .i64 t.off, .slice B l b, .slice C' r c, .int .i64 o] 27)).alloc (.cells #[.int .i64 0, .string ⟨#[]⟩, .string ⟨#[]⟩, .slice none 0 0, .int .i64 0, .slice none 0 0, .slice none 0 0, .int .i64 0] 27)).heap.size = w.heap.size + 2 := by simp
    rw [hsz3] at HBV
    obtain ⟨z0, z1, z2, z3, z4, z5, z6, z7⟩ := HBV.out.c8
    clear hvd hvd2 hp hrun0 HCL C HX HR hsz hsz3 HBV
    go_enter Tryd.func56, Tryd.ntmps56
    go_wp2_with fail
    refine CC.out.mono ?_
    rintro e w1 ⟨vs, rfl, hv, hb1⟩
    have HM1 := Lib.hid (show Mv lo 0 0 w w1 from Mv.of (HX2.out.bel.trans (hb1.mono HX2.out.bel.size)) HLO.out)
    have HR1 := Lib.hid (HR2.out.later hb1)
    have HS1 := Lib.hid (show RepSt Ws i' w1 from (HST.out.trans (HX2.out.bel.mono HS.out)).trans (hb1.mono (Nat.le_trans HS.out HX2.out.bel.size)))
    have HV := Lib.hid (show v.dat.In w1 False (fun b => NewOr lo 0 w w1 b ∧ b ≠ w.heap.size + 1) vs from hv.wide fun b hb => by
      have h1 := hb.1
      rw [World.size_alloc, World.size_alloc, World.size_alloc] at h1
      exact ⟨⟨by have := HLO.out; omega, .inr ⟨by omega, hb.2⟩⟩, by omega⟩)
    obtain ⟨A3, m3, c3, B3, l3, d3, C3, r3, f3, rfl, _⟩ := ex_open hv
    clear hv hb1 x0 x1 x2 x3 x4 x5 x6 x7 x00 z0 z1 z2 z3 z4 z5 z6 z7 CC hc8 hc9 HVD HX2 HR2 hrun
    have HT1 := Lib.hid (HR1.out.there 0 8 (by simp))
    have HO1 := Lib.hid (show (#[.int .i64 v.kind, .string v.name, .string v.ty.name, .slice A3 m3 c3, .int .i64 v.ty.off, .slice B3 l3 d3, .slice C3 r3 f3, .int .i64 v.off] : Array Value).all (·.oneCell') = true by simp [Value.oneCell'])
    obtain ⟨W2, hW2⟩ : ∃ W2, W2 = w1.setCells (w.heap.size + 1) 0 [.int .i64 v.kind, .string v.name, .string v.ty.name, .slice A3 m3 c3, .int .i64 v.ty.off, .slice B3 l3 d3, .slice C3 r3 f3, .int .i64 v.off] := ⟨_, rfl⟩
    have HW2 := Lib.hid hW2
    clear hW2
    go_wp2_with (refine store8_any 4 21 (b := w.heap.size + 1) (o := 0) (vs := #[.int .i64 v.kind, .string v.name, .string v.ty.name, .slice A3 m3 c3, .int .i64 v.ty.off, .slice B3 l3 d3, .slice C3 r3 f3, .int .i64 v.off]) rfl rfl HT1.out HO1.out sizeE8 ?_; show wpList _ _ _ _ _ (w1.setCells (w.heap.size + 1) 0 [.int .i64 v.kind, .string v.name, .string v.ty.name, .slice A3 m3 c3, .int .i64 v.ty.off, .slice B3 l3 d3, .slice C3 r3 f3, .int .i64 v.off]); rw [← HW2.out])
    have hres : BoxF W2 (w.heap.size + 1) [.int .i64 v.kind, .string v.name, .string v.ty.name, .slice A3 m3 c3, .int .i64 v.ty.off, .slice B3 l3 d3, .slice C3 r3 f3, .int .i64 v.off] := by rw [HW2.out]; exact HR1.out.setAll rfl
    obtain ⟨y0, y1, y2, y3, y4, y5, y6, y7⟩ := hres.box.c8
    refine bodyPost_ret (v := .agg #[.int .i64 v.kind, .string v.name, .string v.ty.name, .slice A3 m3 c3, .int .i64 v.ty.off, .slice B3 l3 d3, .slice C3 r3 f3, .int .i64 v.off]) (by simp [results, Tryd.results56, go_sem, y0, y1, y2, y3, y4, y5, y6, y7]) rfl ?_
    rw [HW2.out, HRP.out]
    exact kgot_set (repSt_ok Ws) HLO.out HS.out (Nat.le_succ _) HM1.out HS1.out HV.out
  · have HRP := Lib.hid (repl_else (ns := ns) (es := es) (k := k) (s := s) (by
      cases hp : Ex.pick s ns es with
      | none => exact .inl rfl
      | some v => exact .inr fun h => hhit ⟨v, hp, h⟩) t ts xs o)
    obtain ⟨vs, bb, hrun, hbm, i0, s1, s2, A3, m3, c3, i4, B5, m5, c5, D6, m6, c6, i7, rfl⟩ : ∃ (vs : List Value) (bb : Bool), (Instr.lookup 68 (.map (some g)) (.string s) true).run Tryd.prog ((w.alloc (.cells #[.int .i64 k, .string s, .string t.name, .slice A m a, .int .i64 t.off, .slice B l b, .slice C' r c, .int .i64 o] 27)).alloc (.cells #[.int .i64 0, .string ⟨#[]⟩, .string ⟨#[]⟩, .slice none 0 0, .int .i64 0, .slice none 0 0, .slice none 0 0, .int .i64 0] 27)) = .ok (.tuple #[.agg vs.toArray, .bool bb]) ((w.alloc (.cells #[.int .i64 k, .string s, .string t.name, .slice A m a, .int .i64 t.off, .slice B l b, .slice C' r c, .int .i64 o] 27)).alloc (.cells #[.int .i64 0, .string ⟨#[]⟩, .string ⟨#[]⟩, .slice none 0 0, .int .i64 0, .slice none 0 0, .slice none 0 0, .int .i64 0] 27))
        ∧ (bb = false ∨ k ≠ 1) ∧ ∃ (i0 : Int) (s1 s2 : ByteArray) (A3 : Option Addr) (m3 c3 : Nat) (i4 : Int) (B5 : Option Addr) (m5 c5 : Nat) (D6 : Option Addr) (m6 c6 : Nat) (i7 : Int), vs = [.int .i64 i0, .string s1, .string s2, .slice A3 m3 c3, .int .i64 i4, .slice B5 m5 c5, .slice D6 m6 c6, .int .i64 i7] := by
      cases hp : Ex.pick s ns es with
      | none => exact ⟨_, _, HGV.out.miss hsz hp _ (Below.refl _ _), .inl rfl, _, _, _, _, _, _, _, _, _, _, _, _, _, _, rfl⟩
      | some v =>
        obtain ⟨vs, hvd, hr⟩ := HGV.out.hit hsz hp
        obtain ⟨_, _, _, _, _, _, _, _, _, rfl, _⟩ := ex_open hvd
        exact ⟨_, _, hr _ (Below.refl _ _), .inr fun h0 => hhit ⟨v, hp, h0⟩, _, _, _, _, _, _, _, _, _, _, _, _, _, _, rfl⟩
    have hbm2 : bb = false ∨ (bb = true ∧ (k == 1) = false) := by
      cases bb
      · exact .inl rfl
      · exact .inr ⟨rfl, by rcases hbm with h | h; cases h; simpa using h⟩
    have hb3 := (Below.refl _ _).alloc (Nat.le_refl ((w.alloc (.cells #[.int .i64 k, .string s, .string t.name, .slice A m a, .int .i64 t.off, .slice B l b, .slice C' r c, .int .i64 o] 27)).alloc (.cells #[.int .i64 0, .string ⟨#[]⟩, .string ⟨#[]⟩, .slice none 0 0, .int .i64 0, .slice none 0 0, .slice none 0 0, .int .i64 0] 27)).heap.size) (.cells #[.int .i64 i0, .string s1, .string s2, .slice A3 m3 c3, .int .i64 i4, .slice B5 m5 c5, .slice D6 m6 c6, .int .i64 i7] 27)
    have HX2 := Lib.hid (HX.out.later hb3)
    have HR2 := Lib.hid (HR.out.later hb3)
    have h9 := (hb3.cell (cell_lt hc9)).trans hc9
    have HC9 := Lib.hid h9
    obtain ⟨q0, q1, q2, q3, q4, q5, q6, q7⟩ := HX2.out.one.c8
    clear hbm hb3 hhit HCL HX HR hsz
    rcases hbm2 with rfl | ⟨rfl, e1⟩
    all_goals
      go_enter Tryd.func56, Tryd.ntmps56
      go_wp2_with fail
      refine (C.out _ HX2.out.da HX2.out.bel).mono ?_
      rintro e w1 ⟨vs, rfl, hv, hm1, hs1⟩
      have HM1 := Lib.hid (show Mv lo 0 0 w w1 from (Mv.of HX2.out.bel HLO.out).trans hm1)
      have HR1 := Lib.hid (HR2.out.kept hm1.kp (Nat.zero_le _))
      have HS1 := Lib.hid (show RepSt Ws i' w1 from hs1)
      have HV := Lib.hid (show (Ex.dat (.mk k s t ts (xs.map (Ex.repl ns es)) o)).In w1 False (fun b => NewOr lo 0 w w1 b ∧ b ≠ w.heap.size + 1) vs from hv.wide fun b hb => by
        have h1 := hb.1
        rcases hb.2 with h2 | h2
        · omega
        · have h3 := h2.1
          rw [World.size_alloc, World.size_alloc, World.size_alloc] at h3
          exact ⟨⟨h1, .inr ⟨by omega, h2.2⟩⟩, by omega⟩)
      obtain ⟨A7, m7, c7, B7, l7, d7, C7, r7, f7, rfl, _⟩ := ex_open hv
      simp only [Ex.kind, Ex.name, Ex.ty, Ex.off] at HV ⊢
      clear hv hm1 hs1 x0 x1 x2 x3 x4 x5 x6 x7 q0 q1 q2 q3 q4 q5 q6 q7 hc8 hc9 h9 HX2 HR2 hrun C
      have HT1 := Lib.hid (HR1.out.there 0 8 (by simp))
      have HO1 := Lib.hid (show (#[.int .i64 k, .string s, .string t.name, .slice A7 m7 c7, .int .i64 t.off, .slice B7 l7 d7, .slice C7 r7 f7, .int .i64 o] : Array Value).all (·.oneCell') = true by simp [Value.oneCell'])
      obtain ⟨W2, hW2⟩ : ∃ W2, W2 = w1.setCells (w.heap.size + 1) 0 [.int .i64 k, .string s, .string t.name, .slice A7 m7 c7, .int .i64 t.off, .slice B7 l7 d7, .slice C7 r7 f7, .int .i64 o] := ⟨_, rfl⟩
      have HW2 := Lib.hid hW2
      clear hW2
      go_wp2_with (refine store8_any 4 24 (b := w.heap.size + 1) (o := 0) (vs := #[.int .i64 k, .string s, .string t.name, .slice A7 m7 c7, .int .i64 t.off, .slice B7 l7 d7, .slice C7 r7 f7, .int .i64 o]) rfl rfl HT1.out HO1.out sizeE8 ?_; show wpList _ _ _ _ _ (w1.setCells (w.heap.size + 1) 0 [.int .i64 k, .string s, .string t.name, .slice A7 m7 c7, .int .i64 t.off, .slice B7 l7 d7, .slice C7 r7 f7, .int .i64 o]); rw [← HW2.out])
      have hres : BoxF W2 (w.heap.size + 1) [.int .i64 k, .string s, .string t.name, .slice A7 m7 c7, .int .i64 t.off, .slice B7 l7 d7, .slice C7 r7 f7, .int .i64 o] := by rw [HW2.out]; exact HR1.out.setAll rfl
      obtain ⟨y0, y1, y2, y3, y4, y5, y6, y7⟩ := hres.box.c8
      refine bodyPost_ret (v := .agg #[.int .i64 k, .string s, .string t.name, .slice A7 m7 c7, .int .i64 t.off, .slice B7 l7 d7, .slice C7 r7 f7, .int .i64 o]) (by simp [results, Tryd.results56, go_sem, y0, y1, y2, y3, y4, y5, y6, y7]) rfl ?_
      rw [HW2.out, HRP.out]
      exact kgot_set (repSt_ok Ws) HLO.out HS.out (Nat.le_succ _) HM1.out HS1.out HV.out

set_option maxRecDepth 100000 in
set_option maxHeartbeats 8000000 in
theorem xreplace_any (e : Ex) (us : List Value) (ns : List ByteArray) (es : List Ex) (N U : Option Addr) (nl ul nc uc : Nat) (w : World) (hwt : e.wt ≤ 100000) (hes : ∀ v ∈ es, v.wt ≤ 100000) (hul : ul ≤ 1000) (hF : Fits ns nl nc) (h : e.dat.H w us) (hN : Sl w N nl ns) (hU : RowH w 8 U ul (Ex.dats es)) :
    Calls Tryd.prog 25 #[.agg us.toArray, .slice N nl nc, .slice U ul uc] w (XPost w (e.repl ns es)) := by
  have hh := box_zero h
  have HX := Lib.hid hh.1
  have HR := Lib.hid hh.2
  have CB := Lib.hid (xbyName_any ns es N U nl ul nc uc _ hul hF (hN.later hh.1.bel) (RowH.later hU hh.1.bel))
  have HWT := Lib.hid hwt
  have HES := Lib.hid hes
  obtain ⟨A, m, a, B, l, b, C', r, c, rfl, _⟩ := ex_open h
  obtain ⟨x0, x1, x2, x3, x4, x5, x6, x7⟩ := HX.out.one.c8
  clear hh h hN hU hwt hes
  go_enter Tryd.func25, Tryd.ntmps25
  go_wp2_with fail
  refine CB.out.mono ?_
  rintro e0 w1 ⟨g, nn, rfl, hg, hb1⟩
  have hb2 : Below w1.heap.size w1 ((w1.alloc (.cells #[.map (some g)] 68)).alloc (.cells #[.func (.func 56) #[] #[.pointer (some ⟨w1.heap.size, 0, none⟩), .pointer (some ⟨w1.heap.size + 1, 0, none⟩)]] 36)) := ((Below.refl _ _).alloc (Nat.le_refl _) _).alloc (by simp) _
  have hcm : ((w1.alloc (.cells #[.map (some g)] 68)).alloc (.cells #[.func (.func 56) #[] #[.pointer (some ⟨w1.heap.size, 0, none⟩), .pointer (some ⟨w1.heap.size + 1, 0, none⟩)]] 36)).cell? ⟨w1.heap.size, 0, none⟩ = some (.map (some g)) := by
    rw [cell_of_row _ _ 0 _ _ (0, 0) (heap_prev (heap_last w1 _) _)]; rfl
  have hcf : ((w1.alloc (.cells #[.map (some g)] 68)).alloc (.cells #[.func (.func 56) #[] #[.pointer (some ⟨w1.heap.size, 0, none⟩), .pointer (some ⟨w1.heap.size + 1, 0, none⟩)]] 36)).cell? ⟨w1.heap.size + 1, 0, none⟩ = some (.func (.func 56) #[] #[.pointer (some ⟨w1.heap.size, 0, none⟩), .pointer (some ⟨w1.heap.size + 1, 0, none⟩)]) := by
    rw [cell_of_row _ _ 0 _ _ (0, 0) (heap_alloc_two w1 _ _)]; rfl
  obtain ⟨Ws, hWs⟩ : ∃ Ws, Ws = (w1.alloc (.cells #[.map (some g)] 68)).alloc (.cells #[.func (.func 56) #[] #[.pointer (some ⟨w1.heap.size, 0, none⟩), .pointer (some ⟨w1.heap.size + 1, 0, none⟩)]] 36) := ⟨_, rfl⟩
  rw [← hWs] at hb2 hcm hcf
  have HRW := Lib.hid (show RepW Ws w1.heap.size (w1.heap.size + 1) ns es from ⟨⟨g, nn, hcm, (hg.later hb2).base hb2⟩, hcf⟩)
  have HB2 := Lib.hid ((HX.out.bel.trans (hb1.mono HX.out.bel.size)).trans (hb2.mono (Nat.le_trans HX.out.bel.size hb1.size)))
  have HX2 := Lib.hid ((HX.out.later hb1).later hb2)
  have HR2 := Lib.hid ((HR.out.later hb1).later hb2)
  have hsz : w.heap.size + 2 ≤ w1.heap.size := by have := hb1.size; rw [World.size_alloc, World.size_alloc] at this; omega
  have C1 := Lib.hid (show Calls Tryd.prog 56 #[.agg #[.int .i64 e.kind, .string e.name, .string e.ty.name, .slice A m a, .int .i64 e.ty.off, .slice B l b, .slice C' r c, .int .i64 e.off], .pointer (some ⟨w1.heap.size, 0, none⟩), .pointer (some ⟨w1.heap.size + 1, 0, none⟩)] Ws _ from
    replace1_any Ws w1.heap.size (w1.heap.size + 1) (w.heap.size + 2) (by have := hb2.size; omega) ns es HRW.out HES.out e HWT.out 0 0 _ Ws (Nat.le_refl _) (Below.refl _ _) (HX2.out.da.wide fun b hb => ⟨hb, .inr (Nat.zero_le _)⟩))
  have HSZ := Lib.hid hsz
  have HSW := Lib.hid hb2.size
  obtain ⟨x0, x1, x2, x3, x4, x5, x6, x7⟩ := HX2.out.one.c8
  clear hb1 hb2 hg hsz CB HX HR hcm
  subst hWs
  go_wp2_with fail
  refine C1.out.mono ?_
  rintro e1 w3 ⟨vs, rfl, hv, hm, _⟩
  have HB3 := Lib.hid (HB2.out.trans (hm.bel.mono (Nat.le_add_right _ _)))
  have HR3 := Lib.hid (HR2.out.kept hm.kp (Nat.zero_le _))
  have HV := Lib.hid (show (e.repl ns es).dat.In w3 False (fun b => Fresh w w3 b ∧ b ≠ w.heap.size + 1) vs from hv.wide fun b hb => by
    have h1 := hb.1
    rcases hb.2 with h2 | h2
    · omega
    · have := HSW.out
      exact ⟨⟨by omega, h2.2⟩, by omega⟩)
  obtain ⟨A3, m3, c3, B3, l3, d3, C3, r3, f3, rfl, _⟩ := ex_open hv
  clear hv hm x0 x1 x2 x3 x4 x5 x6 x7 C1 HX2 HR2 hcf
  generalize e.repl ns es = y at *
  have HT1 := Lib.hid (HR3.out.there 0 8 (by simp))
  have HO1 := Lib.hid (show (#[.int .i64 y.kind, .string y.name, .string y.ty.name, .slice A3 m3 c3, .int .i64 y.ty.off, .slice B3 l3 d3, .slice C3 r3 f3, .int .i64 y.off] : Array Value).all (·.oneCell') = true by simp [Value.oneCell'])
  obtain ⟨W2, hW2⟩ : ∃ W2, W2 = w3.setCells (w.heap.size + 1) 0 [.int .i64 y.kind, .string y.name, .string y.ty.name, .slice A3 m3 c3, .int .i64 y.ty.off, .slice B3 l3 d3, .slice C3 r3 f3, .int .i64 y.off] := ⟨_, rfl⟩
  have HW2 := Lib.hid hW2
  clear hW2
  go_wp2_with (refine store8_any 6 15 (b := w.heap.size + 1) (o := 0) (vs := #[.int .i64 y.kind, .string y.name, .string y.ty.name, .slice A3 m3 c3, .int .i64 y.ty.off, .slice B3 l3 d3, .slice C3 r3 f3, .int .i64 y.off]) rfl rfl HT1.out HO1.out sizeE8 ?_; show wpList _ _ _ _ _ (w3.setCells (w.heap.size + 1) 0 [.int .i64 y.kind, .string y.name, .string y.ty.name, .slice A3 m3 c3, .int .i64 y.ty.off, .slice B3 l3 d3, .slice C3 r3 f3, .int .i64 y.off]); rw [← HW2.out])
  have hres : BoxF W2 (w.heap.size + 1) [.int .i64 y.kind, .string y.name, .string y.ty.name, .slice A3 m3 c3, .int .i64 y.ty.off, .slice B3 l3 d3, .slice C3 r3 f3, .int .i64 y.off] := by rw [HW2.out]; exact HR3.out.setAll rfl
  obtain ⟨y0, y1, y2, y3, y4, y5, y6, y7⟩ := hres.box.c8
  refine bodyPost_ret (v := .agg #[.int .i64 y.kind, .string y.name, .string y.ty.name, .slice A3 m3 c3, .int .i64 y.ty.off, .slice B3 l3 d3, .slice C3 r3 f3, .int .i64 y.off]) (by simp [results, Tryd.results25, go_sem, y0, y1, y2, y3, y4, y5, y6, y7]) rfl ?_
  rw [HW2.out]
  exact xpost_set HB3.out (Nat.le_succ _) HV.out
end Go.Proofs.YtnfakhohoibkpaaDoor
