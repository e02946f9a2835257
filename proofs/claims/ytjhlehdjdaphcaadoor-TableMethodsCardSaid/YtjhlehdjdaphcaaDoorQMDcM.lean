/- Structs loaded and stored whole, of any type; a boxed struct whose fields are replaced by what calls make; a list that is made by a call for each item. No condition.
The walks of decl's clones of formals, parameters and signatures. The condition: few parts.
The walks of decl's clones of signatures. The condition: few parts. -/
import Derived.Test.YtjhlehdjdaphcaaDoorQMDcF
import Derived.Test.YtjhlehdjdaphcaaDoorQMEkV
namespace Go.Proofs.YtjhlehdjdaphcaaDoor
open Go.RowKit

/-- What a type of z cells must be: its size, that it is a struct. -/
structure Flat (ty : TypeId) (z : Nat) : Prop where
  size : (Tryd.prog.info? ty).map (·.size) = some z
  row : ∃ d, Tryd.prog.underlying ty = some d ∧ d.isRow = true
theorem loadOp {ty : TypeId} {z : Nat} (hf : Flat ty z) {ops : Array Oper} {rest : List Oper} {a : Act} {w : World} {Q : Exit → Act → World → Prop} {ps : String} {af : Array Edge} (i d : Nat) {p : Addr} {us : List Value} (hx : a.eval (.tmp i) = .pointer (some p)) (hc : CellsAt w p us) (hl : us.length = z)
    (h : wpList Tryd.prog ops Q rest (a.put (some d) (.agg us.toArray)) w) :
    wpList Tryd.prog ops Q ({ dst := some d, op := .load ty (.tmp i), type := ty, pos := ps, after := af, guard := none } :: rest) a w :=
  wpList_plain rfl fun _ hK => by
    obtain ⟨dsc, h1, h2⟩ := hf.row
    unfold Oper.wp execOp
    simp only [hx, Instr.loadAt, Instr.sureAddr, Sem.run_bind, Sem.run_pure, Result.andThen_ok, run_loadVar_at w p ty us _ hc h1 h2 (by rw [hl]; exact hf.size)]
    exact hK _ _ h
theorem storeOp {ty : TypeId} {z : Nat} (hf : Flat ty z) {ops : Array Oper} {rest : List Oper} {a : Act} {w : World} {Q : Exit → Act → World → Prop} {ps : String} {af : Array Edge} (i j : Nat) {b o : Nat} {us : List Value} (hx : a.eval (.tmp i) = .pointer (some ⟨b, o, none⟩)) (hy : a.eval (.tmp j) = .agg us.toArray)
    (ht : w.there b o us.length) (h1 : ∀ u ∈ us, u.oneCell' = true) (hl : us.length = z) (h : wpList Tryd.prog ops Q rest (a.put none undef) (w.setCells b o us)) :
    wpList Tryd.prog ops Q ({ dst := none, op := .store ty (.tmp i) (.tmp j), type := 0, pos := ps, after := af, guard := none } :: rest) a w :=
  wpList_store_mid rfl ty (.tmp i) (.tmp j) rfl b o us.toArray hx hy (by simpa using ht) (by rw [List.size_toArray, hl]; exact hf.size) (all_oneCell_toArray h1) (by simpa using h)
theorem flatTy3 : Flat 25 3 := ⟨by kernel_rfl, _, Tryd.underlying25, rfl⟩
theorem flatFo : Flat 65 5 := ⟨by kernel_rfl, _, Tryd.underlying65, rfl⟩
theorem flatPa : Flat 67 5 := ⟨by kernel_rfl, _, Tryd.underlying67, rfl⟩
theorem flatSg : Flat 50 7 := ⟨by kernel_rfl, _, Tryd.underlying50, rfl⟩
theorem flatEx : Flat 28 8 := ⟨by kernel_rfl, _, Tryd.underlying28, rfl⟩
theorem flatDc : Flat 52 23 := ⟨by kernel_rfl, _, Tryd.underlying52, rfl⟩
theorem flatPg : Flat 30 9 := ⟨by kernel_rfl, _, Tryd.underlying30, rfl⟩

/-- A new block, written whole. -/
structure PutZ (zs : Array Value) (T : TypeId) (w W : World) (us : List Value) : Prop where
  eq : (w.alloc (.cells zs T)).setCells w.heap.size 0 us = W
  bel : Below w.heap.size w W
  box : Boxd W w.heap.size us
  there : (w.alloc (.cells zs T)).there w.heap.size 0 us.length
theorem putZ (zs : Array Value) (T : TypeId) (w : World) {us : List Value} (hl : us.length = zs.size) : ∃ W, PutZ zs T w W us := by
  have ht : (w.alloc (.cells zs T)).there w.heap.size 0 us.length := by rw [hl]; exact there_new w zs T
  exact ⟨_, rfl, ((Below.refl _ _).alloc (Nat.le_refl _) _).trans (below_cells (Nat.le_refl _) us 0 _), set_there ht, ht⟩

/-- A datum that the call has made. -/
def DPost (w : World) (d : Dat) (e : Ending) (w' : World) : Prop := ∃ us, e = .returned (.agg us.toArray) ∧ d.In w' False (Fresh w w') us ∧ Below w.heap.size w w'
/-- A list of data that the call has made. -/
def RPost (w : World) (z n : Nat) (ds : List Dat) (e : Ending) (w' : World) : Prop := ∃ A c, e = .returned (.slice A n c) ∧ Row w' False (Fresh w w') z A n ds ∧ Below w.heap.size w w'
/-- The blocks made since the first two of a call. -/
def Fr (w W : World) (b : Nat) : Prop := w.heap.size + 2 ≤ b ∧ b < W.heap.size
/-- A call with its parameter and its result boxed. -/
structure Cl (w W : World) (us : List Value) (n : Nat) : Prop where
  bel : Below w.heap.size w W
  box : BoxF W w.heap.size us
  res : W.there (w.heap.size + 1) 0 n
  big : w.heap.size + 2 ≤ W.heap.size
theorem there_later {w w' : World} {b o n : Nat} (h : w.there b o n) (hb : Below w.heap.size w w') : w'.there b o n := fun j hj => by
  obtain ⟨h1, h2⟩ := h j hj
  obtain ⟨v, hv⟩ := Option.isSome_iff_exists.1 h1
  have hl := cell_lt hv
  exact ⟨by rw [hb.cell hl]; exact h1, (hb.frozen hl).trans h2⟩
theorem Cl.new (w : World) (us : Array Value) (zs : Array Value) (T : TypeId) : Cl w ((w.alloc (.cells us T)).alloc (.cells zs T)) us.toList zs.size := by
  have hb1 : Below w.heap.size w (w.alloc (.cells us T)) := (Below.refl _ _).alloc (Nat.le_refl _) _
  have hb2 : Below (w.alloc (.cells us T)).heap.size (w.alloc (.cells us T)) ((w.alloc (.cells us T)).alloc (.cells zs T)) := (Below.refl _ _).alloc (Nat.le_refl _) _
  refine ⟨hb1.trans (hb2.mono hb1.size), (BoxF.new w us T).later hb2, ?_, by simp⟩
  have h := there_new (w.alloc (.cells us T)) zs T
  rwa [World.size_alloc] at h
theorem Cl.later {w W W' : World} {us : List Value} {n : Nat} (h : Cl w W us n) (hb : Below W.heap.size W W') : Cl w W' us n :=
  ⟨h.bel.trans (hb.mono h.bel.size), h.box.later hb, there_later h.res hb, Nat.le_trans h.big hb.size⟩
/-- Some cells of the parameter are written. -/
theorem Cl.set {w W : World} {p vs r us : List Value} {n : Nat} (h : Cl w W us n) (hl : (p ++ vs ++ r).length = us.length) (hp : ∀ j, j < p.length → us[j]? = p[j]?) (hr : ∀ j, j < r.length → us[p.length + vs.length + j]? = r[j]?) :
    Cl w (W.setCells w.heap.size p.length vs) (p ++ vs ++ r) n :=
  ⟨h.bel.trans (below_cells (Nat.le_refl _) vs _ W), BoxF.set (fun _ _ => hl) h.box hp hr, World.there_setCells h.res _ _ _, by rw [size_setCells_w]; exact h.big⟩
theorem fr_later {w W W' : World} {d : Dat} {u : List Value} (h : d.In W False (Fr w W) u) (hb : Below W.heap.size W W') : d.In W' False (Fr w W') u :=
  (h.later hb fun _ h => h.2).wide fun _ h => ⟨h.1, Nat.lt_of_lt_of_le h.2 hb.size⟩
theorem fr_set {w W : World} {d : Dat} {u : List Value} (h : d.In W False (Fr w W) u) (o : Nat) (vs : List Value) : d.In (W.setCells w.heap.size o vs) False (Fr w (W.setCells w.heap.size o vs)) u :=
  Dat.In.keep id (fun p hp => ⟨World.cell?_setCells_out _ _ _ _ _ (fun e => by have := hp.1; omega), World.frozen?_setCells _ _ _ _ _⟩) (fun _ h => ⟨h.1, by rw [size_setCells_w]; exact h.2⟩) _ _ h
theorem fr_new {w W W' : World} {d : Dat} {u : List Value} (h : d.In W' False (Fresh W W') u) (hs : w.heap.size + 2 ≤ W.heap.size) : d.In W' False (Fr w W') u := h.wide fun _ hb => ⟨Nat.le_trans hs hb.1, hb.2⟩
/-- A row, as a datum. -/
theorem arr_in {w : World} {S : Nat → Prop} {z : Nat} {A : Option Addr} {n c : Nat} {ds : List Dat} (h : Row w False S z A n ds) : (Dat.arr false z ds).In w False S [.slice A n c] := by
  obtain rfl := h.len
  rw [Dat.In]
  exact ⟨A, c, rfl, h.le, (fun h => by cases h), h.elems⟩
/-- The end: the result is written whole. -/
theorem cl_end {w W : World} {us vs : List Value} {d : Dat} {n : Nat} (h : Cl w W us n) (hd : d.In W False (Fr w W) vs) : DPost w d (.returned (.agg vs.toArray)) (W.setCells (w.heap.size + 1) 0 vs) :=
  ⟨vs, rfl, Dat.In.keep id (fun p hp => ⟨World.cell?_setCells_out _ _ _ _ _ (fun e => by have := hp.1; omega), World.frozen?_setCells _ _ _ _ _⟩) (fun _ h => ⟨by have := h.1; omega, by rw [size_setCells_w]; exact h.2⟩) _ _ hd, h.bel.trans (below_cells (Nat.le_succ _) _ _ _)⟩
/-- A list that is filled, in blocks made since the call's beginning. -/
theorem fill_round {w wr w3 : World} {g q z : Nat} {ds : List Dat} {d : Dat} {vs : List Value} (h : Fill w.heap.size 0 w.heap.size wr g q z ds) (hg : w.heap.size ≤ g) (hb : Below wr.heap.size wr w3) (hlt : ds.length < q)
    (hd : d.In w3 False (fun b => wr.heap.size ≤ b ∧ b < w3.heap.size) vs) (hz : d.size = z) : Fill w.heap.size 0 w.heap.size (w3.setCells g (ds.length * z) vs) g q z (ds ++ [d]) := by
  have h4 := h.move (m := w.heap.size) (.inr hg) (Nat.le_refl _) (Keep.of_below hb)
  have hgl := h.lt
  exact h4.step hlt hd (fun b hb => ⟨⟨by omega, .inr ⟨by omega, hb.2⟩⟩, by omega⟩) hz
theorem fill_there {w wr w3 : World} {g q z k : Nat} {ds : List Dat} (h : Fill w.heap.size 0 w.heap.size wr g q z ds) (hg : w.heap.size ≤ g) (hb : Below wr.heap.size wr w3) (hk : k < q) : w3.there g (k * z) z := fun j hj => by
  have h4 := h.move (m := w.heap.size) (.inr hg) (Nat.le_refl _) (Keep.of_below hb)
  have := h4.there (k * z + j) (by have := Nat.mul_le_mul_right z (show k + 1 ≤ q from hk); rw [Nat.add_mul, Nat.one_mul] at this; omega)
  rwa [Nat.zero_add] at this
end Go.Proofs.YtjhlehdjdaphcaaDoor
namespace Go.Proofs.YtjhlehdjdaphcaaDoor
open Go.RowKit

theorem fo_cells {w : World} {N : Prop} {S : Nat → Prop} {f : Fo} {us : List Value} (h : f.dat.In w N S us) : ∀ u ∈ us, u.oneCell' = true := by
  obtain ⟨A, m, a, rfl, _⟩ := fo_open h
  intro u hu
  simp only [List.mem_cons, List.not_mem_nil, or_false] at hu
  rcases hu with rfl | rfl | rfl | rfl | rfl <;> rfl
theorem tyClone_any (t : Ty) (us : List Value) (w : World) (hw : t.wt ≤ 1990) (h : t.dat.H w us) : Calls Tryd.prog 69 #[.agg us.toArray] w (DPost w t.dat) := by
  obtain ⟨A, m, c, rfl, hn, hl⟩ := ty_open h
  refine (clone_any t (by have := Ty.list_wt t; omega) A m c w hn hl).mono ?_
  rintro e w1 ⟨A1, m1, c1, rfl, hn1, hl1, hb⟩
  exact ⟨_, rfl, ty_shut hn1 hl1, hb⟩
theorem foMk {w : World} {N : Prop} {S : Nat → Prop} {f : Fo} {v : List Value} (h1 : f.name.size ≤ 9223372036854775807) (h2 : f.ty.dat.In w N S v) : f.dat.In w N S (.string f.name :: (v ++ [.int .i64 f.off])) := by
  rw [Fo.dat]
  simp only [Dat.In, Dat.Ins]
  exact ⟨[_], _, rfl, ⟨rfl, h1⟩, v, _, rfl, h2, [_], [], rfl, rfl, rfl⟩
theorem sgMk {w : World} {N : Prop} {S : Nat → Prop} {s : Sg} {u1 u2 u3 : List Value} (h1 : s.name.size ≤ 9223372036854775807) (h2 : (Dat.arr false 5 (s.fs.map Fo.dat)).In w N S u1) (h3 : (Dat.arr false 5 (s.ps.map Fo.dat)).In w N S u2) (h4 : s.res.dat.In w N S u3) :
    s.dat.In w N S (.string s.name :: (u1 ++ (u2 ++ (u3 ++ [.int .i64 s.off])))) := by
  rw [Sg.dat, Dat.In, Dat.Ins]
  refine ⟨[_], _, rfl, by rw [Dat.In]; exact ⟨rfl, h1⟩, ?_⟩
  rw [Dat.Ins]
  refine ⟨u1, _, rfl, h2, ?_⟩
  rw [Dat.Ins]
  refine ⟨u2, _, rfl, h3, ?_⟩
  rw [Dat.Ins]
  refine ⟨u3, _, rfl, h4, ?_⟩
  rw [Dat.Ins]
  exact ⟨[_], [], rfl, by rw [Dat.In], by rw [Dat.Ins]⟩

theorem results_cloneFormal {w : World} {b : Nat} {us : List Value} (tmps : Array Value) (ht : tmps[2]?.getD undef = .pointer (some ⟨b, 0, none⟩)) (hc : Boxd w b us) (hl : us.length = 5) : (results Tryd.f72 tmps).run Tryd.prog w = .ok (.agg us.toArray) w := by
  have h := run_loadVar_at w ⟨b, 0, none⟩ 65 us _ hc.at0 Tryd.underlying65 rfl (by rw [hl]; exact flatFo.size)
  have h2 : (asAddr (.pointer (some ⟨b, 0, none⟩))).run Tryd.prog w = .ok ⟨b, 0, none⟩ w := rfl
  simp [results, Tryd.results72, ht, h, h2, Sem.run_bind, Result.andThen]
set_option maxRecDepth 100000 in
set_option maxHeartbeats 16000000 in
theorem cloneFormal_any (f : Fo) (us : List Value) (w : World) (hw : f.wt ≤ 1990) (h : f.dat.H w us) : Calls Tryd.prog 72 #[.agg us.toArray] w (DPost w f.dat) := by
  have hM := Cl.new w us.toArray #[.string ⟨#[]⟩, .string ⟨#[]⟩, .slice none 0 0, .int .i64 0, .int .i64 0] 65
  obtain ⟨W0, hW0⟩ : ∃ W0, (w.alloc (.cells us.toArray 65)).alloc (.cells #[.string ⟨#[]⟩, .string ⟨#[]⟩, .slice none 0 0, .int .i64 0, .int .i64 0] 65) = W0 := ⟨_, rfl⟩
  rw [hW0] at hM
  obtain ⟨Au, mu, au, hus, hn, ht, ha⟩ := fo_open h
  have M0 := Lib.hid (show Cl w W0 [.string f.name, .string f.ty.name, .slice Au mu au, .int .i64 f.ty.off, .int .i64 f.off] 5 by rw [← hus]; exact hM)
  have HW0 := Lib.hid hW0
  have HWT := Lib.hid hw
  have HN := Lib.hid (hn)
  have HT0 := Lib.hid ((show f.ty.dat.H w [.string f.ty.name, .slice Au mu au, .int .i64 f.ty.off] from ty_shut ht ha))
  clear hM h hus hW0 hw hn ht ha
  go_enter Tryd.func72, Tryd.ntmps72
  go_upto_region 1 with fail
  rw [HW0.out]
  clear HW0
  have x1 := M0.out.box.box 1 _ rfl
  have x2 := M0.out.box.box 2 _ rfl
  have x3 := M0.out.box.box 3 _ rfl
  go_wp2_with fail
  refine ((show Calls Tryd.prog 69 #[.agg #[.string f.ty.name, .slice Au mu au, .int .i64 f.ty.off]] W0 (DPost W0 f.ty.dat) from tyClone_any f.ty _ W0 (by have := Fo.wt_ty (f := f); have := HWT.out; omega) (Dat.H.later HT0.out M0.out.bel))).mono ?_
  rintro e w1 ⟨tu, rfl, hr, hb⟩
  have Dt0m := Lib.hid (fr_new hr M0.out.big)
  obtain ⟨tA, tm, tc, rfl, _⟩ := ty_open hr
  have M0m := Lib.hid (M0.out.later hb)
  clear hr hb M0 x1 x2 x3
  obtain ⟨W1, hW⟩ : ∃ W1, w1.setCells w.heap.size 1 [.string f.ty.name, .slice tA tm tc, .int .i64 f.ty.off] = W1 := ⟨_, rfl⟩
  have HW := Lib.hid hW
  have M1 := Lib.hid (show Cl w W1 [.string f.name, .string f.ty.name, .slice tA tm tc, .int .i64 f.ty.off, .int .i64 f.off] 5 from hW ▸ M0m.out.set (p := [.string f.name]) (vs := [.string f.ty.name, .slice tA tm tc, .int .i64 f.ty.off]) (r := [.int .i64 f.off]) rfl (by intro j hj; simp only [List.length_cons, List.length_nil] at hj; exact (match j, hj with | 0, _ => rfl | j + 1, hj => absurd hj (by omega))) (by intro j hj; simp only [List.length_cons, List.length_nil] at hj; exact (match j, hj with | 0, _ => rfl | j + 1, hj => absurd hj (by omega))))
  have Dt1 := Lib.hid (show Dat.In W1 False (Fr w W1) _ _ from hW ▸ fr_set Dt0m.out 1 [.string f.ty.name, .slice tA tm tc, .int .i64 f.ty.off])
  clear hW Dt0m
  have HT := Lib.hid (M0m.out.box.there 1 3 (by simp))
  have HO := Lib.hid (ty_cells Dt1.out)
  have HB := Lib.hid M1.out.box.box.at0
  have HFD := Lib.hid (show f.dat.In W1 False (Fr w W1) [.string f.name, .string f.ty.name, .slice tA tm tc, .int .i64 f.ty.off, .int .i64 f.off] from foMk HN.out Dt1.out)
  have HOF := Lib.hid (fo_cells HFD.out)
  obtain ⟨WE, hWE⟩ : ∃ WE, W1.setCells (w.heap.size + 1) 0 [.string f.name, .string f.ty.name, .slice tA tm tc, .int .i64 f.ty.off, .int .i64 f.off] = WE := ⟨_, rfl⟩
  have HWE := Lib.hid hWE
  have HEND := Lib.hid (show DPost w f.dat (.returned (.agg ([.string f.name, .string f.ty.name, .slice tA tm tc, .int .i64 f.ty.off, .int .i64 f.off] : List Value).toArray)) WE from hWE ▸ cl_end M1.out HFD.out)
  have HBX := Lib.hid (show Boxd WE (w.heap.size + 1) [.string f.name, .string f.ty.name, .slice tA tm tc, .int .i64 f.ty.off, .int .i64 f.off] from hWE ▸ set_there (M1.out.res))
  have HTE := Lib.hid M1.out.res
  clear hWE
  go_wp2_with (first
    | (refine storeOp flatTy3 6 5 (b := w.heap.size) (o := 1) (us := [.string f.ty.name, .slice tA tm tc, .int .i64 f.ty.off]) rfl rfl HT.out HO.out rfl ?_; rw [HW.out])
    | (refine loadOp flatFo 1 7 rfl HB.out rfl ?_)
    | (refine storeOp flatFo 2 7 (b := w.heap.size + 1) (o := 0) (us := [.string f.name, .string f.ty.name, .slice tA tm tc, .int .i64 f.ty.off, .int .i64 f.off]) rfl rfl HTE.out HOF.out rfl ?_; rw [HWE.out]))
  exact bodyPost_ret (results_cloneFormal _ rfl HBX.out rfl) rfl HEND.out
theorem infoFormal : (Tryd.prog.info? 65).map (fun i => (i.zero, i.size, i.bytes)) = some (some (.agg #[.string ⟨#[]⟩, .string ⟨#[]⟩, .slice none 0 0, .int .i64 0, .int .i64 0]), 5, 72) := by kernel_rfl
theorem run_makeFormal (m : Nat) (hm : m ≤ 1000000) (W : World) : (Instr.makeSlice 46 (.int .i64 (m : Int)) (.int .i64 (m : Int))).run Tryd.prog W = .ok (.slice (some ⟨W.heap.size, 0, none⟩) m m) (W.alloc (.cells (madeCells #[.string ⟨#[]⟩, .string ⟨#[]⟩, .slice none 0 0, .int .i64 0, .int .i64 0] (m * 5)) 65)) := by
  obtain ⟨i0, hi0, hz0, hz1, hz2⟩ := info_parts infoFormal
  have hr := run_make (P := Tryd.prog) W 46 65 i0 _ Tryd.underlying46 hi0 hz0 .i64 .i64 m m (by omega) (Int.le_refl _) (by rw [hz2]; omega) (by omega)
  simp only [Int.toNat_natCast, hz1] at hr
  exact hr
set_option maxRecDepth 100000 in
set_option maxHeartbeats 8000000 in
theorem eachFormal_any (xs : List Fo) (A : Option Addr) (q c : Nat) (w : World) (hw : ∀ f ∈ xs, f.wt ≤ 1990) (hq : q ≤ 1000000) (h : RowH w 5 A q (xs.map Fo.dat)) :
    Calls Tryd.prog 71 #[.slice A q c, .func (.func 72) #[] #[]] w (RPost w 5 xs.length (xs.map Fo.dat)) := by
  have hxl := h.len
  rw [List.length_map] at hxl
  by_cases hm0 : q = 0
  · subst hm0
    obtain rfl := List.eq_nil_of_length_eq_zero hxl
    have e0 : (((0 : Nat) : Int) == 0) = true := rfl
    clear h
    go_enter Tryd.func71, Tryd.ntmps71
    go_wp2_with fail
    go_ret
    exact ⟨none, 0, rfl, Row.nil _ _ _ _ _, Below.refl _ _⟩
  · have e0 : ((q : Int) == 0) = false := by simp; omega
    have hmk := run_makeFormal q hq
    have HF := Lib.hid (fill_make (lo := w.heap.size) (n := 0) (a := w.heap.size) (z := 5) w q #[.string ⟨#[]⟩, .string ⟨#[]⟩, .slice none 0 0, .int .i64 0, .int .i64 0] 65)
    have HB := Lib.hid (show Below w.heap.size w (w.alloc (.cells (madeCells #[.string ⟨#[]⟩, .string ⟨#[]⟩, .slice none 0 0, .int .i64 0, .int .i64 0] (q * 5)) 65)) from (Below.refl _ _).alloc (Nat.le_refl _) _)
    have hmi : (q : Int) ≤ 1000000 := by omega
    have H1 := Lib.hid h
    have HXL := Lib.hid hxl
    obtain ⟨g, hgz⟩ : ∃ g, g = w.heap.size := ⟨_, rfl⟩
    have HGZ := Lib.hid hgz
    clear h hxl
    go_enter Tryd.func71, Tryd.ntmps71
    go_wp2_with fail
    rw [← hgz] at HF ⊢
    clear hgz
    go_loopw [16] (fun i wr => ∃ k : Nat, k ≤ q ∧ i = .int .i64 k ∧ Fill w.heap.size 0 w.heap.size wr g q 5 ((xs.take k).map Fo.dat) ∧ Below w.heap.size w wr) (fun i _ => q - (intOf i).toNat)
    case atStart => exact ⟨0, by omega, rfl, by have h := HF.out; rw [HGZ.out] at h; rw [HGZ.out]; simpa using h, HB.out⟩
    case round =>
      obtain ⟨k, hk, rfl, hf, hbel⟩ := hrel
      have HBL := Lib.hid hbel
      have HFF := Lib.hid hf
      have y1 : (0 : Int) ≤ k := by omega
      by_cases hlt : k < q
      · have y0 : (k : Int) < q := by omega
        obtain ⟨pu, u, ps, rfl, hx, _, _, hu, hcs⟩ := dat_at (RowH.later H1.out hbel) hlt
        have HLU := Lib.hid (show ps.length = 5 from (Dat.In.len _ _ hu).trans (Fo.dat_size u))
        have HOU := Lib.hid (fo_cells hu)
        obtain ⟨W1, hP1⟩ := putZ #[.string ⟨#[]⟩, .string ⟨#[]⟩, .slice none 0 0, .int .i64 0, .int .i64 0] 65 wr HLU.out
        have HP1 := Lib.hid hP1
        have HFC := Lib.hid hcs
        have HX := Lib.hid hP1.box.at0
        have C := Lib.hid (show Calls Tryd.prog 72 #[.agg ps.toArray] W1 (DPost W1 u.dat) from cloneFormal_any u ps W1 (hw u (List.mem_of_getElem? hx)) (Dat.H.later hu hP1.bel))
        have HB1 := Lib.hid hP1.bel
        have HST := Lib.hid (show (xs.take (k + 1)).map Fo.dat = (xs.take k).map Fo.dat ++ [u.dat] by rw [Ex.take_at hx, List.map_append]; rfl)
        have HKL := Lib.hid (show ((xs.take k).map Fo.dat).length = k by rw [List.length_map, List.length_take, HXL.out]; omega)
        clear hx hu hcs hbel hf hP1
        go_wp2_with (first
          | (refine loadOp flatFo 19 20 rfl HFC.out HLU.out ?_)
          | (refine storeOp flatFo 7 20 (b := wr.heap.size) (o := 0) rfl rfl HP1.out.there HOU.out HLU.out ?_; rw [HP1.out.eq])
          | (refine loadOp flatFo 7 24 rfl HX.out HLU.out ?_))
        refine C.out.mono ?_
        rintro e w3 ⟨vs, rfl, hv, hb3⟩
        have hbw := HB1.out.trans (hb3.mono HB1.out.size)
        have hgw : w.heap.size ≤ g := Nat.le_of_eq HGZ.out.symm
        have hs1 := HB1.out.size
        have hlv : vs.length = 5 := (Dat.In.len _ _ hv).trans (Fo.dat_size u)
        have HLV := Lib.hid hlv
        have HOV := Lib.hid (fo_cells hv)
        have HT := Lib.hid (show w3.there g (k * 5) vs.length by rw [hlv]; exact fill_there HFF.out hgw hbw hlt)
        have hsp := fill_round HFF.out hgw hbw (by rw [HKL.out]; exact hlt) (hv.wide fun b hb => ⟨Nat.le_trans hs1 hb.1, hb.2⟩) (Fo.dat_size u)
        rw [HKL.out] at hsp
        have HSP := Lib.hid hsp
        have HBW := Lib.hid (show Below w.heap.size w (w3.setCells g (k * 5) vs) from (HBL.out.trans (hbw.mono HBL.out.size)).trans (below_cells hgw vs _ w3))
        clear hv hb3 hbw hgw hs1 hlv hsp C HP1 HFC HX HB1
        go_wp2_with (refine storeOp flatFo 26 25 (b := g) (o := k * 5) rfl rfl HT.out HOV.out HLV.out ?_)
        go_roundw
        case rel => exact ⟨k + 1, by omega, by go_num, by rw [HST.out]; exact HSP.out, HBW.out⟩
        case measure => simp [intOf]; omega
      · have y0 : (q : Int) ≤ k := by omega
        rw [List.take_of_length_le (by rw [HXL.out]; omega)] at hf
        have HF2 := Lib.hid hf
        clear hf hbel
        go_wp2_with fail
        go_ret
        have hl : (xs.map Fo.dat).length = q := by rw [List.length_map]; exact HXL.out
        refine ⟨some ⟨g, 0, none⟩, q, by rw [HXL.out]; rfl, ?_, HBL.out⟩
        rw [HXL.out]
        exact (HF2.out.row hl (by omega) (Nat.le_of_eq HGZ.out.symm) (Nat.le_of_eq HGZ.out.symm)).wide fun b hb => ⟨hb.1, hb.2.elim (fun h => absurd h (Nat.not_lt_zero _)) fun h => h.2⟩
theorem results_cloneParam {w : World} {b : Nat} {us : List Value} (tmps : Array Value) (ht : tmps[2]?.getD undef = .pointer (some ⟨b, 0, none⟩)) (hc : Boxd w b us) (hl : us.length = 5) : (results Tryd.f74 tmps).run Tryd.prog w = .ok (.agg us.toArray) w := by
  have h := run_loadVar_at w ⟨b, 0, none⟩ 67 us _ hc.at0 Tryd.underlying67 rfl (by rw [hl]; exact flatPa.size)
  have h2 : (asAddr (.pointer (some ⟨b, 0, none⟩))).run Tryd.prog w = .ok ⟨b, 0, none⟩ w := rfl
  simp [results, Tryd.results74, ht, h, h2, Sem.run_bind, Result.andThen]
set_option maxRecDepth 100000 in
set_option maxHeartbeats 16000000 in
theorem cloneParam_any (f : Fo) (us : List Value) (w : World) (hw : f.wt ≤ 1990) (h : f.dat.H w us) : Calls Tryd.prog 74 #[.agg us.toArray] w (DPost w f.dat) := by
  have hM := Cl.new w us.toArray #[.string ⟨#[]⟩, .string ⟨#[]⟩, .slice none 0 0, .int .i64 0, .int .i64 0] 67
  obtain ⟨W0, hW0⟩ : ∃ W0, (w.alloc (.cells us.toArray 67)).alloc (.cells #[.string ⟨#[]⟩, .string ⟨#[]⟩, .slice none 0 0, .int .i64 0, .int .i64 0] 67) = W0 := ⟨_, rfl⟩
  rw [hW0] at hM
  obtain ⟨Au, mu, au, hus, hn, ht, ha⟩ := fo_open h
  have M0 := Lib.hid (show Cl w W0 [.string f.name, .string f.ty.name, .slice Au mu au, .int .i64 f.ty.off, .int .i64 f.off] 5 by rw [← hus]; exact hM)
  have HW0 := Lib.hid hW0
  have HWT := Lib.hid hw
  have HN := Lib.hid (hn)
  have HT0 := Lib.hid ((show f.ty.dat.H w [.string f.ty.name, .slice Au mu au, .int .i64 f.ty.off] from ty_shut ht ha))
  clear hM h hus hW0 hw hn ht ha
  go_enter Tryd.func74, Tryd.ntmps74
  go_upto_region 1 with fail
  rw [HW0.out]
  clear HW0
  have x1 := M0.out.box.box 1 _ rfl
  have x2 := M0.out.box.box 2 _ rfl
  have x3 := M0.out.box.box 3 _ rfl
  go_wp2_with fail
  refine ((show Calls Tryd.prog 69 #[.agg #[.string f.ty.name, .slice Au mu au, .int .i64 f.ty.off]] W0 (DPost W0 f.ty.dat) from tyClone_any f.ty _ W0 (by have := Fo.wt_ty (f := f); have := HWT.out; omega) (Dat.H.later HT0.out M0.out.bel))).mono ?_
  rintro e w1 ⟨tu, rfl, hr, hb⟩
  have Dt0m := Lib.hid (fr_new hr M0.out.big)
  obtain ⟨tA, tm, tc, rfl, _⟩ := ty_open hr
  have M0m := Lib.hid (M0.out.later hb)
  clear hr hb M0 x1 x2 x3
  obtain ⟨W1, hW⟩ : ∃ W1, w1.setCells w.heap.size 1 [.string f.ty.name, .slice tA tm tc, .int .i64 f.ty.off] = W1 := ⟨_, rfl⟩
  have HW := Lib.hid hW
  have M1 := Lib.hid (show Cl w W1 [.string f.name, .string f.ty.name, .slice tA tm tc, .int .i64 f.ty.off, .int .i64 f.off] 5 from hW ▸ M0m.out.set (p := [.string f.name]) (vs := [.string f.ty.name, .slice tA tm tc, .int .i64 f.ty.off]) (r := [.int .i64 f.off]) rfl (by intro j hj; simp only [List.length_cons, List.length_nil] at hj; exact (match j, hj with | 0, _ => rfl | j + 1, hj => absurd hj (by omega))) (by intro j hj; simp only [List.length_cons, List.length_nil] at hj; exact (match j, hj with | 0, _ => rfl | j + 1, hj => absurd hj (by omega))))
  have Dt1 := Lib.hid (show Dat.In W1 False (Fr w W1) _ _ from hW ▸ fr_set Dt0m.out 1 [.string f.ty.name, .slice tA tm tc, .int .i64 f.ty.off])
  clear hW Dt0m
  have HT := Lib.hid (M0m.out.box.there 1 3 (by simp))
  have HO := Lib.hid (ty_cells Dt1.out)
  have HB := Lib.hid M1.out.box.box.at0
  have HFD := Lib.hid (show f.dat.In W1 False (Fr w W1) [.string f.name, .string f.ty.name, .slice tA tm tc, .int .i64 f.ty.off, .int .i64 f.off] from foMk HN.out Dt1.out)
  have HOF := Lib.hid (fo_cells HFD.out)
  obtain ⟨WE, hWE⟩ : ∃ WE, W1.setCells (w.heap.size + 1) 0 [.string f.name, .string f.ty.name, .slice tA tm tc, .int .i64 f.ty.off, .int .i64 f.off] = WE := ⟨_, rfl⟩
  have HWE := Lib.hid hWE
  have HEND := Lib.hid (show DPost w f.dat (.returned (.agg ([.string f.name, .string f.ty.name, .slice tA tm tc, .int .i64 f.ty.off, .int .i64 f.off] : List Value).toArray)) WE from hWE ▸ cl_end M1.out HFD.out)
  have HBX := Lib.hid (show Boxd WE (w.heap.size + 1) [.string f.name, .string f.ty.name, .slice tA tm tc, .int .i64 f.ty.off, .int .i64 f.off] from hWE ▸ set_there (M1.out.res))
  have HTE := Lib.hid M1.out.res
  clear hWE
  go_wp2_with (first
    | (refine storeOp flatTy3 6 5 (b := w.heap.size) (o := 1) (us := [.string f.ty.name, .slice tA tm tc, .int .i64 f.ty.off]) rfl rfl HT.out HO.out rfl ?_; rw [HW.out])
    | (refine loadOp flatPa 1 7 rfl HB.out rfl ?_)
    | (refine storeOp flatPa 2 7 (b := w.heap.size + 1) (o := 0) (us := [.string f.name, .string f.ty.name, .slice tA tm tc, .int .i64 f.ty.off, .int .i64 f.off]) rfl rfl HTE.out HOF.out rfl ?_; rw [HWE.out]))
  exact bodyPost_ret (results_cloneParam _ rfl HBX.out rfl) rfl HEND.out
theorem infoParam : (Tryd.prog.info? 67).map (fun i => (i.zero, i.size, i.bytes)) = some (some (.agg #[.string ⟨#[]⟩, .string ⟨#[]⟩, .slice none 0 0, .int .i64 0, .int .i64 0]), 5, 72) := by kernel_rfl
theorem run_makeParam (m : Nat) (hm : m ≤ 1000000) (W : World) : (Instr.makeSlice 36 (.int .i64 (m : Int)) (.int .i64 (m : Int))).run Tryd.prog W = .ok (.slice (some ⟨W.heap.size, 0, none⟩) m m) (W.alloc (.cells (madeCells #[.string ⟨#[]⟩, .string ⟨#[]⟩, .slice none 0 0, .int .i64 0, .int .i64 0] (m * 5)) 67)) := by
  obtain ⟨i0, hi0, hz0, hz1, hz2⟩ := info_parts infoParam
  have hr := run_make (P := Tryd.prog) W 36 67 i0 _ Tryd.underlying36 hi0 hz0 .i64 .i64 m m (by omega) (Int.le_refl _) (by rw [hz2]; omega) (by omega)
  simp only [Int.toNat_natCast, hz1] at hr
  exact hr
set_option maxRecDepth 100000 in
set_option maxHeartbeats 8000000 in
theorem eachParam_any (xs : List Fo) (A : Option Addr) (q c : Nat) (w : World) (hw : ∀ f ∈ xs, f.wt ≤ 1990) (hq : q ≤ 1000000) (h : RowH w 5 A q (xs.map Fo.dat)) :
    Calls Tryd.prog 73 #[.slice A q c, .func (.func 74) #[] #[]] w (RPost w 5 xs.length (xs.map Fo.dat)) := by
  have hxl := h.len
  rw [List.length_map] at hxl
  by_cases hm0 : q = 0
  · subst hm0
    obtain rfl := List.eq_nil_of_length_eq_zero hxl
    have e0 : (((0 : Nat) : Int) == 0) = true := rfl
    clear h
    go_enter Tryd.func73, Tryd.ntmps73
    go_wp2_with fail
    go_ret
    exact ⟨none, 0, rfl, Row.nil _ _ _ _ _, Below.refl _ _⟩
  · have e0 : ((q : Int) == 0) = false := by simp; omega
    have hmk := run_makeParam q hq
    have HF := Lib.hid (fill_make (lo := w.heap.size) (n := 0) (a := w.heap.size) (z := 5) w q #[.string ⟨#[]⟩, .string ⟨#[]⟩, .slice none 0 0, .int .i64 0, .int .i64 0] 67)
    have HB := Lib.hid (show Below w.heap.size w (w.alloc (.cells (madeCells #[.string ⟨#[]⟩, .string ⟨#[]⟩, .slice none 0 0, .int .i64 0, .int .i64 0] (q * 5)) 67)) from (Below.refl _ _).alloc (Nat.le_refl _) _)
    have hmi : (q : Int) ≤ 1000000 := by omega
    have H1 := Lib.hid h
    have HXL := Lib.hid hxl
    obtain ⟨g, hgz⟩ : ∃ g, g = w.heap.size := ⟨_, rfl⟩
    have HGZ := Lib.hid hgz
    clear h hxl
    go_enter Tryd.func73, Tryd.ntmps73
    go_wp2_with fail
    rw [← hgz] at HF ⊢
    clear hgz
    go_loopw [16] (fun i wr => ∃ k : Nat, k ≤ q ∧ i = .int .i64 k ∧ Fill w.heap.size 0 w.heap.size wr g q 5 ((xs.take k).map Fo.dat) ∧ Below w.heap.size w wr) (fun i _ => q - (intOf i).toNat)
    case atStart => exact ⟨0, by omega, rfl, by have h := HF.out; rw [HGZ.out] at h; rw [HGZ.out]; simpa using h, HB.out⟩
    case round =>
      obtain ⟨k, hk, rfl, hf, hbel⟩ := hrel
      have HBL := Lib.hid hbel
      have HFF := Lib.hid hf
      have y1 : (0 : Int) ≤ k := by omega
      by_cases hlt : k < q
      · have y0 : (k : Int) < q := by omega
        obtain ⟨pu, u, ps, rfl, hx, _, _, hu, hcs⟩ := dat_at (RowH.later H1.out hbel) hlt
        have HLU := Lib.hid (show ps.length = 5 from (Dat.In.len _ _ hu).trans (Fo.dat_size u))
        have HOU := Lib.hid (fo_cells hu)
        obtain ⟨W1, hP1⟩ := putZ #[.string ⟨#[]⟩, .string ⟨#[]⟩, .slice none 0 0, .int .i64 0, .int .i64 0] 67 wr HLU.out
        have HP1 := Lib.hid hP1
        have HFC := Lib.hid hcs
        have HX := Lib.hid hP1.box.at0
        have C := Lib.hid (show Calls Tryd.prog 74 #[.agg ps.toArray] W1 (DPost W1 u.dat) from cloneParam_any u ps W1 (hw u (List.mem_of_getElem? hx)) (Dat.H.later hu hP1.bel))
        have HB1 := Lib.hid hP1.bel
        have HST := Lib.hid (show (xs.take (k + 1)).map Fo.dat = (xs.take k).map Fo.dat ++ [u.dat] by rw [Ex.take_at hx, List.map_append]; rfl)
        have HKL := Lib.hid (show ((xs.take k).map Fo.dat).length = k by rw [List.length_map, List.length_take, HXL.out]; omega)
        clear hx hu hcs hbel hf hP1
        go_wp2_with (first
          | (refine loadOp flatPa 19 20 rfl HFC.out HLU.out ?_)
          | (refine storeOp flatPa 7 20 (b := wr.heap.size) (o := 0) rfl rfl HP1.out.there HOU.out HLU.out ?_; rw [HP1.out.eq])
          | (refine loadOp flatPa 7 24 rfl HX.out HLU.out ?_))
        refine C.out.mono ?_
        rintro e w3 ⟨vs, rfl, hv, hb3⟩
        have hbw := HB1.out.trans (hb3.mono HB1.out.size)
        have hgw : w.heap.size ≤ g := Nat.le_of_eq HGZ.out.symm
        have hs1 := HB1.out.size
        have hlv : vs.length = 5 := (Dat.In.len _ _ hv).trans (Fo.dat_size u)
        have HLV := Lib.hid hlv
        have HOV := Lib.hid (fo_cells hv)
        have HT := Lib.hid (show w3.there g (k * 5) vs.length by rw [hlv]; exact fill_there HFF.out hgw hbw hlt)
        have hsp := fill_round HFF.out hgw hbw (by rw [HKL.out]; exact hlt) (hv.wide fun b hb => ⟨Nat.le_trans hs1 hb.1, hb.2⟩) (Fo.dat_size u)
        rw [HKL.out] at hsp
        have HSP := Lib.hid hsp
        have HBW := Lib.hid (show Below w.heap.size w (w3.setCells g (k * 5) vs) from (HBL.out.trans (hbw.mono HBL.out.size)).trans (below_cells hgw vs _ w3))
        clear hv hb3 hbw hgw hs1 hlv hsp C HP1 HFC HX HB1
        go_wp2_with (refine storeOp flatPa 26 25 (b := g) (o := k * 5) rfl rfl HT.out HOV.out HLV.out ?_)
        go_roundw
        case rel => exact ⟨k + 1, by omega, by go_num, by rw [HST.out]; exact HSP.out, HBW.out⟩
        case measure => simp [intOf]; omega
      · have y0 : (q : Int) ≤ k := by omega
        rw [List.take_of_length_le (by rw [HXL.out]; omega)] at hf
        have HF2 := Lib.hid hf
        clear hf hbel
        go_wp2_with fail
        go_ret
        have hl : (xs.map Fo.dat).length = q := by rw [List.length_map]; exact HXL.out
        refine ⟨some ⟨g, 0, none⟩, q, by rw [HXL.out]; rfl, ?_, HBL.out⟩
        rw [HXL.out]
        exact (HF2.out.row hl (by omega) (Nat.le_of_eq HGZ.out.symm) (Nat.le_of_eq HGZ.out.symm)).wide fun b hb => ⟨hb.1, hb.2.elim (fun h => absurd h (Nat.not_lt_zero _)) fun h => h.2⟩
end Go.Proofs.YtjhlehdjdaphcaaDoor
namespace Go.Proofs.YtjhlehdjdaphcaaDoor
open Go.RowKit

theorem results_cloneSig {w : World} {b : Nat} {us : List Value} (tmps : Array Value) (ht : tmps[2]?.getD undef = .pointer (some ⟨b, 0, none⟩)) (hc : Boxd w b us) (hl : us.length = 7) : (results Tryd.f76 tmps).run Tryd.prog w = .ok (.agg us.toArray) w := by
  have h := run_loadVar_at w ⟨b, 0, none⟩ 50 us _ hc.at0 Tryd.underlying50 rfl (by rw [hl]; exact flatSg.size)
  have h2 : (asAddr (.pointer (some ⟨b, 0, none⟩))).run Tryd.prog w = .ok ⟨b, 0, none⟩ w := rfl
  simp [results, Tryd.results76, ht, h, h2, Sem.run_bind, Result.andThen]
set_option maxRecDepth 100000 in
set_option maxHeartbeats 16000000 in
theorem cloneSig_any (f : Sg) (us : List Value) (w : World) (hw : f.wt ≤ 1990) (h : f.dat.H w us) : Calls Tryd.prog 76 #[.agg us.toArray] w (DPost w f.dat) := by
  have hM := Cl.new w us.toArray #[.string ⟨#[]⟩, .slice none 0 0, .slice none 0 0, .string ⟨#[]⟩, .slice none 0 0, .int .i64 0, .int .i64 0] 50
  obtain ⟨W0, hW0⟩ : ∃ W0, (w.alloc (.cells us.toArray 50)).alloc (.cells #[.string ⟨#[]⟩, .slice none 0 0, .slice none 0 0, .string ⟨#[]⟩, .slice none 0 0, .int .i64 0, .int .i64 0] 50) = W0 := ⟨_, rfl⟩
  rw [hW0] at hM
  obtain ⟨Fu, nfu, cfu, Pu, npu, cpu, Au, mu, au, hus, hn, hf, hp, ht, ha⟩ := sg_open h
  have M0 := Lib.hid (show Cl w W0 [.string f.name, .slice Fu nfu cfu, .slice Pu npu cpu, .string f.res.name, .slice Au mu au, .int .i64 f.res.off, .int .i64 f.off] 7 by rw [← hus]; exact hM)
  have HW0 := Lib.hid hW0
  have HWT := Lib.hid hw
  have HN := Lib.hid (hn)
  have HF := Lib.hid (hf)
  have HP := Lib.hid (hp)
  have HT0 := Lib.hid ((show f.res.dat.H w [.string f.res.name, .slice Au mu au, .int .i64 f.res.off] from ty_shut ht ha))
  have HLF := Lib.hid ((show nfu ≤ 1990 by have := Sg.len_f f; have := hf.len; rw [List.length_map] at this; omega))
  have HLP := Lib.hid ((show npu ≤ 1990 by have := Sg.len_p f; have := hp.len; rw [List.length_map] at this; omega))
  clear hM h hus hW0 hw hn hf hp ht ha
  go_enter Tryd.func76, Tryd.ntmps76
  go_upto_region 1 with fail
  rw [HW0.out]
  clear HW0
  have x1 := M0.out.box.box 1 _ rfl
  go_wp2_with fail
  refine ((eachFormal_any f.fs Fu nfu cfu W0 (fun g hg => Nat.le_trans (Sg.wt_f (s := f) hg) HWT.out) (by have := HLF.out; omega) (RowH.later HF.out M0.out.bel))).mono ?_
  rintro e w1 ⟨pA, pc, rfl, hr, hb⟩
  have Dp0m := Lib.hid (fr_new (arr_in (c := pc) hr) M0.out.big)
  have M0m := Lib.hid (M0.out.later hb)
  clear hr hb M0 x1
  obtain ⟨W1, hW⟩ : ∃ W1, w1.setCells w.heap.size 1 [.slice pA f.fs.length pc] = W1 := ⟨_, rfl⟩
  have HW := Lib.hid hW
  have M1 := Lib.hid (show Cl w W1 [.string f.name, .slice pA f.fs.length pc, .slice Pu npu cpu, .string f.res.name, .slice Au mu au, .int .i64 f.res.off, .int .i64 f.off] 7 from hW ▸ M0m.out.set (p := [.string f.name]) (vs := [.slice pA f.fs.length pc]) (r := [.slice Pu npu cpu, .string f.res.name, .slice Au mu au, .int .i64 f.res.off, .int .i64 f.off]) rfl (by intro j hj; simp only [List.length_cons, List.length_nil] at hj; exact (match j, hj with | 0, _ => rfl | j + 1, hj => absurd hj (by omega))) (by intro j hj; simp only [List.length_cons, List.length_nil] at hj; exact (match j, hj with | 0, _ => rfl | 1, _ => rfl | 2, _ => rfl | 3, _ => rfl | 4, _ => rfl | j + 5, hj => absurd hj (by omega))))
  have Dp1 := Lib.hid (show Dat.In W1 False (Fr w W1) _ _ from hW ▸ fr_set Dp0m.out 1 [.slice pA f.fs.length pc])
  clear hW Dp0m
  have y1 := M0m.out.box.box 1 _ rfl
  have e1 := M0m.out.box.free 1 (by simp)
  go_upto_region 2 with fail
  rw [show w1.setCell ⟨w.heap.size, 1, none⟩ (.slice pA f.fs.length pc) = W1 from HW.out]
  clear HW y1 e1 M0m
  have x2 := M1.out.box.box 2 _ rfl
  go_wp2_with fail
  refine ((eachParam_any f.ps Pu npu cpu W1 (fun g hg => Nat.le_trans (Sg.wt_p (s := f) hg) HWT.out) (by have := HLP.out; omega) (RowH.later HP.out M1.out.bel))).mono ?_
  rintro e w2 ⟨qA, qc, rfl, hr, hb⟩
  have Dq1m := Lib.hid (fr_new (arr_in (c := qc) hr) M1.out.big)
  have M1m := Lib.hid (M1.out.later hb)
  have Dp1m := Lib.hid (fr_later Dp1.out hb)
  clear hr hb M1 x2 Dp1
  obtain ⟨W2, hW⟩ : ∃ W2, w2.setCells w.heap.size 2 [.slice qA f.ps.length qc] = W2 := ⟨_, rfl⟩
  have HW := Lib.hid hW
  have M2 := Lib.hid (show Cl w W2 [.string f.name, .slice pA f.fs.length pc, .slice qA f.ps.length qc, .string f.res.name, .slice Au mu au, .int .i64 f.res.off, .int .i64 f.off] 7 from hW ▸ M1m.out.set (p := [.string f.name, .slice pA f.fs.length pc]) (vs := [.slice qA f.ps.length qc]) (r := [.string f.res.name, .slice Au mu au, .int .i64 f.res.off, .int .i64 f.off]) rfl (by intro j hj; simp only [List.length_cons, List.length_nil] at hj; exact (match j, hj with | 0, _ => rfl | 1, _ => rfl | j + 2, hj => absurd hj (by omega))) (by intro j hj; simp only [List.length_cons, List.length_nil] at hj; exact (match j, hj with | 0, _ => rfl | 1, _ => rfl | 2, _ => rfl | 3, _ => rfl | j + 4, hj => absurd hj (by omega))))
  have Dp2 := Lib.hid (show Dat.In W2 False (Fr w W2) _ _ from hW ▸ fr_set Dp1m.out 2 [.slice qA f.ps.length qc])
  have Dq2 := Lib.hid (show Dat.In W2 False (Fr w W2) _ _ from hW ▸ fr_set Dq1m.out 2 [.slice qA f.ps.length qc])
  clear hW Dp1m Dq1m
  have y2 := M1m.out.box.box 2 _ rfl
  have e2 := M1m.out.box.free 2 (by simp)
  go_upto_region 3 with fail
  rw [show w2.setCell ⟨w.heap.size, 2, none⟩ (.slice qA f.ps.length qc) = W2 from HW.out]
  clear HW y2 e2 M1m
  have x3 := M2.out.box.box 3 _ rfl
  have x4 := M2.out.box.box 4 _ rfl
  have x5 := M2.out.box.box 5 _ rfl
  go_wp2_with fail
  refine ((show Calls Tryd.prog 69 #[.agg #[.string f.res.name, .slice Au mu au, .int .i64 f.res.off]] W2 (DPost W2 f.res.dat) from tyClone_any f.res _ W2 (by have := Sg.wt_res (s := f); have := HWT.out; omega) (Dat.H.later HT0.out M2.out.bel))).mono ?_
  rintro e w3 ⟨tu, rfl, hr, hb⟩
  have Dt2m := Lib.hid (fr_new hr M2.out.big)
  obtain ⟨tA, tm, tc, rfl, _⟩ := ty_open hr
  have M2m := Lib.hid (M2.out.later hb)
  have Dp2m := Lib.hid (fr_later Dp2.out hb)
  have Dq2m := Lib.hid (fr_later Dq2.out hb)
  clear hr hb M2 x3 x4 x5 Dp2 Dq2
  obtain ⟨W3, hW⟩ : ∃ W3, w3.setCells w.heap.size 3 [.string f.res.name, .slice tA tm tc, .int .i64 f.res.off] = W3 := ⟨_, rfl⟩
  have HW := Lib.hid hW
  have M3 := Lib.hid (show Cl w W3 [.string f.name, .slice pA f.fs.length pc, .slice qA f.ps.length qc, .string f.res.name, .slice tA tm tc, .int .i64 f.res.off, .int .i64 f.off] 7 from hW ▸ M2m.out.set (p := [.string f.name, .slice pA f.fs.length pc, .slice qA f.ps.length qc]) (vs := [.string f.res.name, .slice tA tm tc, .int .i64 f.res.off]) (r := [.int .i64 f.off]) rfl (by intro j hj; simp only [List.length_cons, List.length_nil] at hj; exact (match j, hj with | 0, _ => rfl | 1, _ => rfl | 2, _ => rfl | j + 3, hj => absurd hj (by omega))) (by intro j hj; simp only [List.length_cons, List.length_nil] at hj; exact (match j, hj with | 0, _ => rfl | j + 1, hj => absurd hj (by omega))))
  have Dp3 := Lib.hid (show Dat.In W3 False (Fr w W3) _ _ from hW ▸ fr_set Dp2m.out 3 [.string f.res.name, .slice tA tm tc, .int .i64 f.res.off])
  have Dq3 := Lib.hid (show Dat.In W3 False (Fr w W3) _ _ from hW ▸ fr_set Dq2m.out 3 [.string f.res.name, .slice tA tm tc, .int .i64 f.res.off])
  have Dt3 := Lib.hid (show Dat.In W3 False (Fr w W3) _ _ from hW ▸ fr_set Dt2m.out 3 [.string f.res.name, .slice tA tm tc, .int .i64 f.res.off])
  clear hW Dp2m Dq2m Dt2m
  have HT := Lib.hid (M2m.out.box.there 3 3 (by simp))
  have HO := Lib.hid (ty_cells Dt3.out)
  have HB := Lib.hid M3.out.box.box.at0
  have HFD := Lib.hid (show f.dat.In W3 False (Fr w W3) [.string f.name, .slice pA f.fs.length pc, .slice qA f.ps.length qc, .string f.res.name, .slice tA tm tc, .int .i64 f.res.off, .int .i64 f.off] from sgMk HN.out Dp3.out Dq3.out Dt3.out)
  have HOF := Lib.hid (sg_cells HFD.out)
  obtain ⟨WE, hWE⟩ : ∃ WE, W3.setCells (w.heap.size + 1) 0 [.string f.name, .slice pA f.fs.length pc, .slice qA f.ps.length qc, .string f.res.name, .slice tA tm tc, .int .i64 f.res.off, .int .i64 f.off] = WE := ⟨_, rfl⟩
  have HWE := Lib.hid hWE
  have HEND := Lib.hid (show DPost w f.dat (.returned (.agg ([.string f.name, .slice pA f.fs.length pc, .slice qA f.ps.length qc, .string f.res.name, .slice tA tm tc, .int .i64 f.res.off, .int .i64 f.off] : List Value).toArray)) WE from hWE ▸ cl_end M3.out HFD.out)
  have HBX := Lib.hid (show Boxd WE (w.heap.size + 1) [.string f.name, .slice pA f.fs.length pc, .slice qA f.ps.length qc, .string f.res.name, .slice tA tm tc, .int .i64 f.res.off, .int .i64 f.off] from hWE ▸ set_there (M3.out.res))
  have HTE := Lib.hid M3.out.res
  clear hWE
  go_wp2_with (first
    | (refine storeOp flatTy3 14 13 (b := w.heap.size) (o := 3) (us := [.string f.res.name, .slice tA tm tc, .int .i64 f.res.off]) rfl rfl HT.out HO.out rfl ?_; rw [HW.out])
    | (refine loadOp flatSg 1 15 rfl HB.out rfl ?_)
    | (refine storeOp flatSg 2 15 (b := w.heap.size + 1) (o := 0) (us := [.string f.name, .slice pA f.fs.length pc, .slice qA f.ps.length qc, .string f.res.name, .slice tA tm tc, .int .i64 f.res.off, .int .i64 f.off]) rfl rfl HTE.out HOF.out rfl ?_; rw [HWE.out]))
  exact bodyPost_ret (results_cloneSig _ rfl HBX.out rfl) rfl HEND.out
theorem infoSig : (Tryd.prog.info? 50).map (fun i => (i.zero, i.size, i.bytes)) = some (some (.agg #[.string ⟨#[]⟩, .slice none 0 0, .slice none 0 0, .string ⟨#[]⟩, .slice none 0 0, .int .i64 0, .int .i64 0]), 7, 120) := by kernel_rfl
theorem run_makeSig (m : Nat) (hm : m ≤ 1000000) (W : World) : (Instr.makeSlice 39 (.int .i64 (m : Int)) (.int .i64 (m : Int))).run Tryd.prog W = .ok (.slice (some ⟨W.heap.size, 0, none⟩) m m) (W.alloc (.cells (madeCells #[.string ⟨#[]⟩, .slice none 0 0, .slice none 0 0, .string ⟨#[]⟩, .slice none 0 0, .int .i64 0, .int .i64 0] (m * 7)) 50)) := by
  obtain ⟨i0, hi0, hz0, hz1, hz2⟩ := info_parts infoSig
  have hr := run_make (P := Tryd.prog) W 39 50 i0 _ Tryd.underlying39 hi0 hz0 .i64 .i64 m m (by omega) (Int.le_refl _) (by rw [hz2]; omega) (by omega)
  simp only [Int.toNat_natCast, hz1] at hr
  exact hr
set_option maxRecDepth 100000 in
set_option maxHeartbeats 8000000 in
theorem eachSig_any (xs : List Sg) (A : Option Addr) (q c : Nat) (w : World) (hw : ∀ f ∈ xs, f.wt ≤ 1990) (hq : q ≤ 1000000) (h : RowH w 7 A q (xs.map Sg.dat)) :
    Calls Tryd.prog 75 #[.slice A q c, .func (.func 76) #[] #[]] w (RPost w 7 xs.length (xs.map Sg.dat)) := by
  have hxl := h.len
  rw [List.length_map] at hxl
  by_cases hm0 : q = 0
  · subst hm0
    obtain rfl := List.eq_nil_of_length_eq_zero hxl
    have e0 : (((0 : Nat) : Int) == 0) = true := rfl
    clear h
    go_enter Tryd.func75, Tryd.ntmps75
    go_wp2_with fail
    go_ret
    exact ⟨none, 0, rfl, Row.nil _ _ _ _ _, Below.refl _ _⟩
  · have e0 : ((q : Int) == 0) = false := by simp; omega
    have hmk := run_makeSig q hq
    have HF := Lib.hid (fill_make (lo := w.heap.size) (n := 0) (a := w.heap.size) (z := 7) w q #[.string ⟨#[]⟩, .slice none 0 0, .slice none 0 0, .string ⟨#[]⟩, .slice none 0 0, .int .i64 0, .int .i64 0] 50)
    have HB := Lib.hid (show Below w.heap.size w (w.alloc (.cells (madeCells #[.string ⟨#[]⟩, .slice none 0 0, .slice none 0 0, .string ⟨#[]⟩, .slice none 0 0, .int .i64 0, .int .i64 0] (q * 7)) 50)) from (Below.refl _ _).alloc (Nat.le_refl _) _)
    have hmi : (q : Int) ≤ 1000000 := by omega
    have H1 := Lib.hid h
    have HXL := Lib.hid hxl
    obtain ⟨g, hgz⟩ : ∃ g, g = w.heap.size := ⟨_, rfl⟩
    have HGZ := Lib.hid hgz
    clear h hxl
    go_enter Tryd.func75, Tryd.ntmps75
    go_wp2_with fail
    rw [← hgz] at HF ⊢
    clear hgz
    go_loopw [16] (fun i wr => ∃ k : Nat, k ≤ q ∧ i = .int .i64 k ∧ Fill w.heap.size 0 w.heap.size wr g q 7 ((xs.take k).map Sg.dat) ∧ Below w.heap.size w wr) (fun i _ => q - (intOf i).toNat)
    case atStart => exact ⟨0, by omega, rfl, by have h := HF.out; rw [HGZ.out] at h; rw [HGZ.out]; simpa using h, HB.out⟩
    case round =>
      obtain ⟨k, hk, rfl, hf, hbel⟩ := hrel
      have HBL := Lib.hid hbel
      have HFF := Lib.hid hf
      have y1 : (0 : Int) ≤ k := by omega
      by_cases hlt : k < q
      · have y0 : (k : Int) < q := by omega
        obtain ⟨pu, u, ps, rfl, hx, _, _, hu, hcs⟩ := dat_at (RowH.later H1.out hbel) hlt
        have HLU := Lib.hid (show ps.length = 7 from (Dat.In.len _ _ hu).trans (Sg.dat_size u))
        have HOU := Lib.hid (sg_cells hu)
        obtain ⟨W1, hP1⟩ := putZ #[.string ⟨#[]⟩, .slice none 0 0, .slice none 0 0, .string ⟨#[]⟩, .slice none 0 0, .int .i64 0, .int .i64 0] 50 wr HLU.out
        have HP1 := Lib.hid hP1
        have HFC := Lib.hid hcs
        have HX := Lib.hid hP1.box.at0
        have C := Lib.hid (show Calls Tryd.prog 76 #[.agg ps.toArray] W1 (DPost W1 u.dat) from cloneSig_any u ps W1 (hw u (List.mem_of_getElem? hx)) (Dat.H.later hu hP1.bel))
        have HB1 := Lib.hid hP1.bel
        have HST := Lib.hid (show (xs.take (k + 1)).map Sg.dat = (xs.take k).map Sg.dat ++ [u.dat] by rw [Ex.take_at hx, List.map_append]; rfl)
        have HKL := Lib.hid (show ((xs.take k).map Sg.dat).length = k by rw [List.length_map, List.length_take, HXL.out]; omega)
        clear hx hu hcs hbel hf hP1
        go_wp2_with (first
          | (refine loadOp flatSg 19 20 rfl HFC.out HLU.out ?_)
          | (refine storeOp flatSg 7 20 (b := wr.heap.size) (o := 0) rfl rfl HP1.out.there HOU.out HLU.out ?_; rw [HP1.out.eq])
          | (refine loadOp flatSg 7 24 rfl HX.out HLU.out ?_))
        refine C.out.mono ?_
        rintro e w3 ⟨vs, rfl, hv, hb3⟩
        have hbw := HB1.out.trans (hb3.mono HB1.out.size)
        have hgw : w.heap.size ≤ g := Nat.le_of_eq HGZ.out.symm
        have hs1 := HB1.out.size
        have hlv : vs.length = 7 := (Dat.In.len _ _ hv).trans (Sg.dat_size u)
        have HLV := Lib.hid hlv
        have HOV := Lib.hid (sg_cells hv)
        have HT := Lib.hid (show w3.there g (k * 7) vs.length by rw [hlv]; exact fill_there HFF.out hgw hbw hlt)
        have hsp := fill_round HFF.out hgw hbw (by rw [HKL.out]; exact hlt) (hv.wide fun b hb => ⟨Nat.le_trans hs1 hb.1, hb.2⟩) (Sg.dat_size u)
        rw [HKL.out] at hsp
        have HSP := Lib.hid hsp
        have HBW := Lib.hid (show Below w.heap.size w (w3.setCells g (k * 7) vs) from (HBL.out.trans (hbw.mono HBL.out.size)).trans (below_cells hgw vs _ w3))
        clear hv hb3 hbw hgw hs1 hlv hsp C HP1 HFC HX HB1
        go_wp2_with (refine storeOp flatSg 26 25 (b := g) (o := k * 7) rfl rfl HT.out HOV.out HLV.out ?_)
        go_roundw
        case rel => exact ⟨k + 1, by omega, by go_num, by rw [HST.out]; exact HSP.out, HBW.out⟩
        case measure => simp [intOf]; omega
      · have y0 : (q : Int) ≤ k := by omega
        rw [List.take_of_length_le (by rw [HXL.out]; omega)] at hf
        have HF2 := Lib.hid hf
        clear hf hbel
        go_wp2_with fail
        go_ret
        have hl : (xs.map Sg.dat).length = q := by rw [List.length_map]; exact HXL.out
        refine ⟨some ⟨g, 0, none⟩, q, by rw [HXL.out]; rfl, ?_, HBL.out⟩
        rw [HXL.out]
        exact (HF2.out.row hl (by omega) (Nat.le_of_eq HGZ.out.symm) (Nat.le_of_eq HGZ.out.symm)).wide fun b hb => ⟨hb.1, hb.2.elim (fun h => absurd h (Nat.not_lt_zero _)) fun h => h.2⟩
end Go.Proofs.YtjhlehdjdaphcaaDoor
