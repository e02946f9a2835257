/- The walk of the reference's Fields. The conditions: few parts; an instance of a struct.
The walks of the reference's Find, Few, FewEnv and Alike. The condition of the last: few parts.
The walks of the reference's Specs and Methods. The conditions: few parts.
The walks of Methods and Method of package table, and of Specs where there is no interface. The conditions: few parts; the table of powers. -/
import Derived.Test.YtjhlehdjdaphcaaDoorQMBdQ
import Derived.Test.YtjhlehdjdaphcaaDoorQMBdR
namespace Go.Proofs.YtjhlehdjdaphcaaDoor
open Go.RowKit

/-- A declaration has been loaded into a box of its own, behind a boxed program and a boxed type. -/
structure RX (w W : World) (ob : Nat) (p : Pg) (x : Ty) (d : Dc) (us xs vs : List Value) : Prop where
  pt : PT w W w.heap.size (w.heap.size + 1) p x us xs
  dbox : Boxd W ob vs
  ddat : d.dat.H W vs
theorem RX.gs {w W : World} {ob : Nat} {p : Pg} {x : Ty} {d : Dc} {us xs vs : List Value} {F : Option Addr} {nf cf : Nat} (h : RX w W ob p x d us xs vs) (h4 : vs[4]? = some (.slice F nf cf)) : RowH W 7 F nf (d.gs.map Sg.dat) := by
  obtain ⟨_, _, _, _, _, _, _, _, _, _, _, G1, n1, c1, _, _, _, _, _, u4, _, _, _, hr, _⟩ := dc_c h.ddat
  have e := h4.symm.trans u4
  simp only [Option.some.injEq, Value.slice.injEq] at e
  obtain ⟨rfl, rfl, rfl⟩ := e
  exact hr
/-- What a law's list of fields is. -/
def RowPost (w : World) (z : Nat) (ds : List Dat) (e : Ending) (w' : World) : Prop := ∃ A c, e = .returned (.slice A ds.length c) ∧ RowH w' z A ds.length ds ∧ Below w.heap.size w w'
theorem Built.end_ {V : World} {e : TypeId} {z lo k : Nat} {v : Value} {ds : List Dat} (h : Built V False e z lo v k ds) (hz : 0 < z) (hk : k ≤ 9223372036854775807) : ∃ A c, v = .slice A ds.length c ∧ RowH V z A ds.length ds := by
  obtain ⟨A, c, rfl, hr, _⟩ := h.row hz hk
  obtain rfl := hr.len
  exact ⟨A, c, rfl, hr.wide fun b hb => hb.2⟩
end Go.Proofs.YtjhlehdjdaphcaaDoor

namespace Go.Proofs.YtjhlehdjdaphcaaDoor
open Go.RowKit

theorem exN_dat {w : World} {S : Nat → Prop} : Ex.none?.dat.In w False S [.int .i64 0, .string ⟨#[]⟩, .string ⟨#[]⟩, .slice none 0 0, .int .i64 0, .slice none 0 0, .slice none 0 0, .int .i64 0] :=
  ex_shut (e := Ex.none?) (m := 0) (l := 0) (n := 0) (by simp [Ex.none?, Ex.name, ByteArray.size]) (by simp [Ex.none?, Ex.ty, Ty.name, ByteArray.size]) (LiesN.nil _ _ _ _) (LiesN.nil _ _ _ _) (Row.nil _ _ _ _ _) (Nat.le_refl _)
/-- A program of one declaration. -/
theorem onePg {w : World} {d : Dc} {us : List Value} (T : TypeId) (h : d.dat.H w us) : (⟨[d], Ex.none?⟩ : Pg).dat.H (w.alloc (.cells us.toArray T)) (.slice (some ⟨w.heap.size, 0, none⟩) 1 1 :: [.int .i64 0, .string ⟨#[]⟩, .string ⟨#[]⟩, .slice none 0 0, .int .i64 0, .slice none 0 0, .slice none 0 0, .int .i64 0]) := by
  have hb : Below w.heap.size w (w.alloc (.cells us.toArray T)) := (Below.refl _ _).alloc (Nat.le_refl _) _
  refine pg_shut (p := ⟨[d], Ex.none?⟩) ⟨rfl, by omega, Dat.Elems.of fun k x hk => ?_⟩ exN_dat
  match k, hk with
  | 0, hk =>
    obtain rfl := Option.some.inj hk
    exact ⟨⟨w.heap.size, 0, none⟩, us, rfl, by show w.heap.size < _; simp, False.elim, Dat.H.later h hb, by rw [Nat.zero_add, Nat.zero_mul]; exact (Boxd.new w us.toArray T).at0⟩
  | k + 1, hk => simp at hk
theorem rcanon_d (s : Sg) (us : List Value) (w : World) (hw : s.wt ≤ 1000) (h : s.dat.H w us) : Calls Tryd.prog 50 #[.agg us.toArray] w (DPost w s.canon.dat) := by
  have hn : s.name.size ≤ 9223372036854775807 := by obtain ⟨_, _, _, _, _, _, _, _, _, _, hn, _⟩ := sg_open h; exact hn
  have h1 := Sg.len_f s
  have h2 := Sg.len_p s
  exact (rcanon_any s us w hw h).mono fun e w' hp => hp.post hn ⟨by simp [Sg.canon, Sg.bare, Sg.subst]; omega, by simp [Sg.canon, Sg.bare, Sg.subst]; omega⟩
end Go.Proofs.YtjhlehdjdaphcaaDoor

namespace Go.Proofs.YtjhlehdjdaphcaaDoor
open Go.RowKit

theorem slSgT : SlOf 39 50 7 120 := by
  obtain ⟨i, hi, hz, hs, hb⟩ := info_parts (show (Tryd.prog.info? 50).map (fun i => (i.zero, i.size, i.bytes)) = some (some (.agg #[.string ⟨#[]⟩, .slice none 0 0, .slice none 0 0, .string ⟨#[]⟩, .slice none 0 0, .int .i64 0, .int .i64 0]), 7, 120) by kernel_rfl)
  exact ⟨Tryd.underlying39, ⟨i, _, hi, hz, hs, hb, rfl⟩, by omega⟩
theorem sg_szT {s : Sg} {n : Nat} (h : s.wt ≤ n) (hn : n ≤ 1990) : s.name.size ≤ 100000 ∧ s.fs.length ≤ 100000 ∧ s.ps.length ≤ 100000 := by
  have h1 := Sg.len_f s
  have h2 := Sg.len_p s
  have h3 := h
  unfold Sg.wt at h3
  exact ⟨by omega, by omega, by omega⟩
theorem rsubst_d (s : Sg) (us : List Value) (ns : List ByteArray) (vs : List Ty) (N U : Option Addr) (nl ul nc uc : Nat) (w : World) (hw : s.wt ≤ 1000) (hvs : ∀ v ∈ vs, v.Small) (hnl : nl ≤ 1000000) (h : s.dat.H w us) (hN : Sl w N nl ns) (hU : Here w U ul vs) :
    Calls Tryd.prog 49 #[.agg us.toArray, .slice N nl nc, .slice U ul uc] w (DPost w (s.subst ns vs).dat) := by
  obtain ⟨h1, h2, h3⟩ := sg_szT hw (by omega)
  exact (rsubst_any s us ns vs N U nl ul nc uc w hw hvs hnl h hN hU).mono fun e w' hp => hp.post (by show s.name.size ≤ _; omega) ⟨by simp only [Sg.subst, List.length_map]; exact h2, by simp only [Sg.subst, List.length_map]; exact h3⟩
theorem bsubst_d (s : Sg) (us : List Value) (ns : List ByteArray) (vs : List Ty) (N U : Option Addr) (nl ul nc uc : Nat) (w : World) (hw : s.wt ≤ 1990) (hvs : ∀ v ∈ vs, v.Small) (hul : ul ≤ 1000) (hF : Fits ns nl nc) (h : s.dat.H w us) (hN : Sl w N nl ns) (hU : Here w U ul vs) :
    Calls Tryd.prog 35 #[.agg us.toArray, .slice N nl nc, .slice U ul uc] w (DPost w (s.subst ns vs).dat) := by
  obtain ⟨h1, h2, h3⟩ := sg_szT hw (by omega)
  exact (bsubst_big s us ns vs N U nl ul nc uc w hw hvs hul hF h hN hU).mono fun e w' hp => hp.post (by show s.name.size ≤ _; omega) ⟨by simp only [Sg.subst, List.length_map]; exact h2, by simp only [Sg.subst, List.length_map]; exact h3⟩
end Go.Proofs.YtjhlehdjdaphcaaDoor

namespace Go.Proofs.YtjhlehdjdaphcaaDoor
open Go.RowKit

theorem sl_of_rowS {w : World} {S : Nat → Prop} {A : Option Addr} {n : Nat} {vs : List ByteArray} (h : Row w False S 1 A n (vs.map Dat.str)) (hS : ∀ b, S b → b < w.heap.size) : Sl w A n vs ∧ ∀ s ∈ vs, s.size ≤ 9223372036854775807 := by
  have hl := h.len
  rw [List.length_map] at hl
  refine ⟨⟨hl, fun j s hj => ?_⟩, fun s hs => ?_⟩
  · obtain ⟨a, us, e, h1, _, h3, h4⟩ := h.at (k := j) (d := .str s) (by rw [List.getElem?_map, hj]; rfl)
    rw [Dat.In] at h3
    obtain ⟨rfl, _⟩ := h3
    have := h4 0 _ rfl
    rw [Nat.mul_one] at this
    exact ⟨a, e, hS _ h1, this⟩
  · obtain ⟨j, hj, rfl⟩ := List.getElem_of_mem hs
    obtain ⟨a, us, _, _, _, h3, _⟩ := h.at (k := j) (d := .str vs[j]) (by rw [List.getElem?_map, List.getElem?_eq_getElem hj]; rfl)
    rw [Dat.In] at h3
    exact h3.2
/-- The capacities of the variables' rows of a table's declarations. -/
def CapR (lo : Nat) (w : World) (r : Value) : Prop := ∀ tb D nd cd, r = .pointer (some ⟨tb, 0, none⟩) → w.cell? ⟨tb, 0, none⟩ = some (.slice (some D) nd cd) → ∀ i, i < nd → D.block < lo ∧ ∀ V nv cv, w.cell? ⟨(D.add (i * 23)).block, (D.add (i * 23)).off + 6, none⟩ = some (.slice V nv cv) → nv ≤ cv
theorem CapR.later {lo : Nat} {w w' : World} {r : Value} {p : Pg} (h : CapR lo w r) (ht : TabR lo w r p) (hb : Below w.heap.size w w') : CapR lo w' r := by
  intro tb D nd cd hr hc
  rcases ht with ⟨e, _⟩ | ⟨tb2, e, hT⟩
  · rw [e] at hr; cases hr
  · rw [e] at hr
    obtain rfl : tb2 = tb := by injection hr with h1; injection h1 with h1; injection h1
    obtain ⟨us, g1, g2, n, h1, h2, _⟩ := hT.ex
    have hl : us.length = 9 := (Dat.In.len _ _ h1).trans (Pg.dat_size _)
    have htb : tb2 < w.heap.size := cell_lt (h2 9 _ (tab_c hl).1)
    rw [hb.cell htb] at hc
    have h4 := h tb2 D nd cd e hc
    refine fun i hi => ⟨(h4 i hi).1, fun V nv cv hv => (h4 i hi).2 V nv cv ?_⟩
    rw [← hv]
    exact (hb.cell (by show (D.add (i * 23)).block < _; rw [block_of_add]; exact Nat.lt_of_lt_of_le (h4 i hi).1 hT.le)).symm
set_option maxRecDepth 100000 in
set_option maxHeartbeats 8000000 in
theorem tspecs_no (lo : Nat) (r : Value) (p : Pg) (x : Ty) (xs : List Value) (w : World) (hlo : lo ≤ w.heap.size) (hx : x.dat.H w xs) (ht : TabR lo w r p) (hq : instT p.ds x 2 = false) :
    Calls Tryd.prog 13 #[r, .agg xs.toArray] w fun e w' => e = .returned (.tuple #[.slice none 0 0, .bool false]) ∧ Below w.heap.size w w' := by
  obtain ⟨A, m, c, rfl, hxn, hxa⟩ := ty_open hx
  have hxl := hxa.len
  obtain ⟨W0, hW0⟩ : ∃ W0, w.alloc (.cells #[.string x.name, .slice A m c, .int .i64 x.off] 25) = W0 := ⟨_, rfl⟩
  have hb0 : Below w.heap.size w W0 := hW0 ▸ (Below.refl _ _).alloc (Nat.le_refl _) _
  have hbx : Boxd W0 w.heap.size [.string x.name, .slice A m c, .int .i64 x.off] := hW0 ▸ Boxd.new w #[.string x.name, .slice A m c, .int .i64 x.off] 25
  have hxd : x.dat.In W0 False (· < w.heap.size) [.string x.name, .slice A m c, .int .i64 x.off] := Dat.In.later hx hb0 fun _ h => h
  have HW0 := Lib.hid hW0
  have HB0 := Lib.hid hb0
  have HBX := Lib.hid hbx
  have HXD := Lib.hid hxd
  have HX3 := Lib.hid hbx.at0
  have C := Lib.hid (instance_any lo r p x _ 2 W0 (Nat.le_trans hlo hb0.size) (hxd.wide fun b hb => Nat.lt_of_lt_of_le hb hb0.size) (ht.later hb0))
  have HLO := Lib.hid hlo
  have HXL := Lib.hid hxl
  have HQ := Lib.hid hq
  clear hW0 hb0 hbx hxd hx hxn hxa ht hlo hxl hq
  go_enter Tryd.func13, Tryd.ntmps13
  go_upto_region 1 with fail
  rw [HW0.out]
  clear HW0
  go_wp2_with (refine loadOp flatTy3 3 14 rfl HX3.out rfl ?_)
  refine C.out.mono ?_
  rintro e w1 ⟨us, rfl, hd, hb1⟩
  rw [HQ.out]
  have HLU := Lib.hid (dc_len hd)
  have HOU := Lib.hid (dc_cells hd)
  obtain ⟨W2, hP⟩ := putZ z23 52 w1 (us := us) (dc_len hd)
  have HPP := Lib.hid hP
  have hb01 := HB0.out.trans (hb1.mono HB0.out.size)
  have HBE := Lib.hid (hb01.trans (hP.bel.mono hb01.size))
  clear hd hb1 hP hb01 C
  go_upto_region 2 with (refine storeOp flatDc 6 16 (b := w1.heap.size) (o := 0) (us := us) rfl rfl HPP.out.there HOU.out HLU.out ?_; rw [HPP.out.eq])
  go_wp2_with fail
  refine bodyPost_ret (results_tmp2 rfl _ _ _) rfl ?_
  exact ⟨rfl, HBE.out⟩
theorem dc_sigT {w : World} {N : Prop} {S : Nat → Prop} {d : Dc} {us : List Value} (h : d.dat.In w N S us) : d.sig.dat.In w N S ((us.drop 7).take 7) := by
  obtain ⟨F, nf, cf, P, np, cp, G, ng, cg, V, nv, cv, sv, bv, rfl, _, _, _, _, _, _, h7, _⟩ := dc_open h
  have hl : sv.length = 7 := (Dat.In.len _ _ h7).trans (Sg.dat_size _)
  have e : ((([.int .i64 d.kind, .string d.name, .slice F nf cf, .slice P np cp, .slice G ng cg, .string d.recv, .slice V nv cv] : List Value) ++ (sv ++ (bv ++ ([.int .i64 d.off] : List Value)))).drop 7).take 7 = sv := by
    simp [hl]
  rw [e]
  exact h7
theorem boxd_sub7 {V : World} {b : Nat} {us : List Value} (h : Boxd V b us) : CellsAt V ⟨b, 7, none⟩ ((us.drop 7).take 7) := fun j u hu => by
  rw [List.getElem?_take] at hu
  split at hu
  · rw [List.getElem?_drop] at hu
    have := h (7 + j) u hu
    unfold Addr.add
    split
    · subst_vars; exact this
    · exact this
  · cases hu
theorem boxd_app {V V' : World} {b : Nat} {us : List Value} {r : Option Nat} (h : Boxd V b us) (hg : V.grownBy V' r) (hr : r ≠ some b) : Boxd V' b us := fun j u hu => by
  have hb : b < V.heap.size := cell_lt (h j u hu)
  exact ((kept_of (S := (· = b)) (fun c hc => by have hc : c = b := hc; subst hc; exact hg.block _ hb (fun e => hr e.symm)) ⟨b, j, none⟩ rfl).1).trans (h j u hu)
theorem methodsL_len (ds : List Dc) (x : Ty) (l : List Nat) : (l.flatMap (mSig ds x)).length ≤ l.length := by
  induction l with
  | nil => exact Nat.le_refl _
  | cons a r ih =>
    rw [List.flatMap_cons, List.length_append, List.length_cons]
    have : (mSig ds x a).length ≤ 1 := by
      unfold mSig
      split
      · split <;> simp
      · simp
    omega
theorem mSig_at {ds : List Dc} {x : Ty} {i : Nat} {d : Dc} (h : ds[i]? = some d) : mSig ds x i = if d.vs.length = x.args.length then [d.sig.canon.subst d.vs x.args] else [] := by
  unfold mSig
  rw [h]
set_option maxRecDepth 100000 in
set_option maxHeartbeats 8000000 in
theorem tmethods_any (lo : Nat) (r : Value) (p : Pg) (x : Ty) (xs : List Value) (w : World) (hw : ∀ d ∈ p.ds, d.wt ≤ 900) (hpl : p.ds.length ≤ 1990) (hxw : x.wt ≤ 1000) (hlo : lo ≤ w.heap.size) (hx : x.dat.H w xs) (ht : TabR lo w r p) (hc : CapR lo w r) (hE : PowVar w) :
    Calls Tryd.prog 25 #[r, .agg xs.toArray] w (RowPost w 7 ((methodsT p.ds x).map Sg.dat)) := by
  obtain ⟨A, m, c, rfl, hxn, hxa⟩ := ty_open hx
  have hxl := hxa.len
  obtain ⟨W0, hW0⟩ : ∃ W0, w.alloc (.cells #[.string x.name, .slice A m c, .int .i64 x.off] 25) = W0 := ⟨_, rfl⟩
  have hb0 : Below w.heap.size w W0 := hW0 ▸ (Below.refl _ _).alloc (Nat.le_refl _) _
  have hbx : Boxd W0 w.heap.size [.string x.name, .slice A m c, .int .i64 x.off] := hW0 ▸ Boxd.new w #[.string x.name, .slice A m c, .int .i64 x.off] 25
  have hxd : x.dat.In W0 False (· < w.heap.size) [.string x.name, .slice A m c, .int .i64 x.off] := Dat.In.later hx hb0 fun _ h => h
  have HW0 := Lib.hid hW0
  have HB0 := Lib.hid hb0
  have HBX := Lib.hid hbx
  have HXD := Lib.hid hxd
  have HX3 := Lib.hid hbx.at0
  have C := Lib.hid (instance_any lo r p x _ 1 W0 (Nat.le_trans hlo hb0.size) (hxd.wide fun b hb => Nat.lt_of_lt_of_le hb hb0.size) (ht.later hb0))
  have HLO := Lib.hid hlo
  have HXL := Lib.hid hxl
  have HXW := Lib.hid hxw
  have HXN := Lib.hid hxn
  have HT0 := Lib.hid (ht.later hb0)
  have HC0 := Lib.hid (hc.later ht hb0)
  have hE := Lib.hid (hE.later hb0)
  have HDW := Lib.hid hw
  have HPL := Lib.hid hpl
  have HZ0 := Lib.hid (show W0.heap.size = w.heap.size + 1 by rw [← hW0]; simp)
  clear hW0 hb0 hbx hxd hx hxn hxa ht hlo hxl hc hxw hw hpl
  go_enter Tryd.func25, Tryd.ntmps25
  go_upto_region 1 with fail
  rw [HW0.out]
  clear HW0
  go_wp2_with (refine loadOp flatTy3 3 13 rfl HX3.out rfl ?_)
  refine C.out.mono ?_
  rintro e w1 ⟨us, rfl, hd, hb1⟩
  clear C HX3
  have HLU := Lib.hid (dc_len hd)
  have HOU := Lib.hid (dc_cells hd)
  obtain ⟨W2, hP⟩ := putZ z23 52 w1 (us := us) (dc_len hd)
  have HPP := Lib.hid hP
  have hb01 := hb1.trans (hP.bel.mono hb1.size)
  have HBE2 := Lib.hid (HB0.out.trans (hb01.mono HB0.out.size))
  have HBX2 := Lib.hid (HBX.out.later hb01)
  have hT2 := HT0.out.later hb01
  have HC2 := Lib.hid (HC0.out.later HT0.out hb01)
  have hE := Lib.hid (hE.out.later hb01)
  have HXA := Lib.hid (show Here W2 A m x.args from by
    obtain ⟨A1, m1, c1, e, _, ha⟩ := ty_open (Dat.In.later HXD.out hb01 fun k hk => Nat.lt_of_lt_of_le hk HB0.out.size)
    simp only [List.cons.injEq, Value.slice.injEq, true_and, and_true] at e
    obtain ⟨rfl, rfl, rfl⟩ := e
    exact ha.wide fun b hb => Nat.lt_of_lt_of_le hb (Nat.le_trans HB0.out.size hb01.size))
  clear hd hb1 hP hb01
  cases hq : instT p.ds x 1
  · have HLL := Lib.hid (show methodsT p.ds x = [] by rw [methodsT, hq]; rfl)
    clear hq hT2
    go_upto_region 2 with (refine storeOp flatDc 5 15 (b := w1.heap.size) (o := 0) (us := us) rfl rfl HPP.out.there HOU.out HLU.out ?_; rw [HPP.out.eq])
    go_wp2_with fail
    go_ret
    rw [HLL.out]
    exact ⟨none, 0, rfl, Row.nil _ _ _ _ _, HBE2.out⟩
  have HLL := Lib.hid (show methodsT p.ds x = methodsL p.ds x by rw [methodsT, hq]; rfl)
  rcases hT2 with ⟨rfl, e⟩ | ⟨tb, rfl, hT2⟩
  · rw [e] at hq
    exact absurd hq (by rw [instT, tyD, atK_none (idx_nil _)]; exact Bool.false_ne_true)
  obtain ⟨tus, g1, g2, nn, h1, h2, _, h4⟩ := hT2.ex
  obtain ⟨D, nd, cd, bv, rfl, hr, hbv⟩ := pg_open h1
  have hbl : bv.length = 8 := (Dat.In.len _ _ hbv).trans (Ex.dat_size _)
  have HC10 := Lib.hid (tab_c (us := .slice D nd cd :: bv) (x := .map (some g1)) (y := .map (some g2)) (by simp [hbl])).2
  have HTBX := Lib.hid h2
  have hdl := hr.len
  rw [List.length_map] at hdl
  have HDL := Lib.hid hdl
  have HR2 := Lib.hid (show Row W2 False (· < lo) 23 D nd (p.ds.map Dc.dat) from hr)
  have HLO2 := Lib.hid hT2.le
  obtain ⟨LA, Lc, hlr, hlk⟩ := h4.2 x.name HXN.out
  obtain ⟨l, hl⟩ : ∃ l, mlist p.ds x.name.data.toList p.ds.length = l := ⟨_, rfl⟩
  have HMB := Lib.hid (show ∀ i ∈ l, i < nd from fun i hi => by rw [← hl] at hi; have := mlist_lt hi; omega)
  have HML := Lib.hid (show l.length ≤ 1990 by rw [← hl]; exact Nat.le_trans (mlist_len _ _ _) HPL.out)
  have HMM := Lib.hid (show methodsL p.ds x = l.flatMap (mSig p.ds x) by rw [methodsL, hl])
  simp only [hl] at hlr hlk
  have HLK := Lib.hid hlk
  have HLR := Lib.hid hlr
  have hli : (l.length : Int) ≤ 1990 := by have := HML.out; omega
  clear hq hT2 h1 h2 h4 hr hbv hdl hlr hlk hl
  go_upto_region 5 with (refine storeOp flatDc 5 15 (b := w1.heap.size) (o := 0) (us := us) rfl rfl HPP.out.there HOU.out HLU.out ?_; rw [HPP.out.eq])
  clear HPP
  go_wp2_with fail
  refine wp_region_held_drew (S := fun V => (Below W2.heap.size W2 V ∧ V.cell? ⟨tb, 10, none⟩ = some (.map (some g2))) ∧ V.cell? ⟨w.heap.size, 0, none⟩ = some (.string x.name)) (by kernel_rfl) ⟨⟨(Below.refl W2.heap.size W2).drew, (HTBX.out.later (Below.refl _ _).drew) 10 _ HC10.out⟩, (HBX2.out.later (Below.refl _ _).drew) 0 _ rfl⟩ (fun hS => ?_)
  have HY1 := Lib.hid (show Below W2.heap.size W2 W2.drew from (Below.refl W2.heap.size W2).drew)
  generalize W2.drew = Y1 at *
  refine wpAnyH_take (i := 0) (v := ?_) rfl (by kernel_rfl) (by kernel_rfl) (by kernel_rfl) (fun _ _ _ h => h) (Or.inl ⟨by rfl, ?_⟩) (by assumption) ?_
  rotate_left
  · (intro V hV; go_simp; try with_reducible rfl)
  try simp only [Act.put, List.getElem_toArray, List.getElem_cons_zero, List.setIfInBounds_toArray, List.set_cons_zero, List.set_cons_succ]
  refine wpAnyH_take (i := 1) (v := ?_) rfl (by kernel_rfl) (by kernel_rfl) (by kernel_rfl) (fun _ _ _ h => h) (Or.inl ⟨by rfl, ?_⟩) (by assumption) ?_
  rotate_left
  · (intro V hV; go_simp; try with_reducible rfl)
  try simp only [Act.put, List.getElem_toArray, List.getElem_cons_zero, List.getElem_cons_succ, List.setIfInBounds_toArray, List.set_cons_zero, List.set_cons_succ]
  refine wpAnyH_take (i := 2) (v := ?_) rfl (by kernel_rfl) (by kernel_rfl) (by kernel_rfl) (fun _ _ _ h => h) (Or.inl ⟨by rfl, ?_⟩) (by assumption) ?_
  rotate_left
  · (intro V hV; go_simp; try with_reducible rfl)
  try simp only [Act.put, List.getElem_toArray, List.getElem_cons_zero, List.getElem_cons_succ, List.setIfInBounds_toArray, List.set_cons_zero, List.set_cons_succ]
  refine wpAnyH_take (i := 3) (v := ?_) rfl (by kernel_rfl) (by kernel_rfl) (by kernel_rfl) (fun _ _ _ h => h) (Or.inl ⟨by rfl, ?_⟩) (by assumption) ?_
  rotate_left
  · (intro V hV; have k0 := hV.1.2; go_simp; try with_reducible rfl)
  try simp only [Act.put, List.getElem_toArray, List.getElem_cons_zero, List.getElem_cons_succ, List.setIfInBounds_toArray, List.set_cons_zero, List.set_cons_succ]
  refine wpAnyH_take (i := 4) (v := ?_) rfl (by kernel_rfl) (by kernel_rfl) (by kernel_rfl) (fun _ _ _ h => h) (Or.inl ⟨by rfl, ?_⟩) (by assumption) ?_
  rotate_left
  · (intro V hV; go_simp; try with_reducible rfl)
  try simp only [Act.put, List.getElem_toArray, List.getElem_cons_zero, List.getElem_cons_succ, List.setIfInBounds_toArray, List.set_cons_zero, List.set_cons_succ]
  refine wpAnyH_take (i := 5) (v := ?_) rfl (by kernel_rfl) (by kernel_rfl) (by kernel_rfl) (fun _ _ _ h => h) (Or.inl ⟨by rfl, ?_⟩) (by assumption) ?_
  rotate_left
  · (intro V hV; have k0 := hV.2; go_simp; try with_reducible rfl)
  try simp only [Act.put, List.getElem_toArray, List.getElem_cons_zero, List.getElem_cons_succ, List.setIfInBounds_toArray, List.set_cons_zero, List.set_cons_succ]
  refine wpAnyH_take (i := 6) (v := ?_) rfl (by kernel_rfl) (by kernel_rfl) (by kernel_rfl) (fun _ _ _ h => h) (Or.inl ⟨by rfl, ?_⟩) (by assumption) ?_
  rotate_left
  · (intro V hV; have hl := HLK.out V hV.1.1; go_simp; try with_reducible rfl)
  try simp only [Act.put, List.getElem_toArray, List.getElem_cons_zero, List.getElem_cons_succ, List.setIfInBounds_toArray, List.set_cons_zero, List.set_cons_succ]
  refine wpAnyH_take (i := 7) (v := ?_) rfl (by kernel_rfl) (by kernel_rfl) (by kernel_rfl) (fun _ _ _ h => h) (Or.inl ⟨by rfl, ?_⟩) (by assumption) ?_
  rotate_left
  · (intro V hV; go_simp; try with_reducible rfl)
  try simp only [Act.put, List.getElem_toArray, List.getElem_cons_zero, List.getElem_cons_succ, List.setIfInBounds_toArray, List.set_cons_zero, List.set_cons_succ]
  refine wpAnyH_take (i := 8) (v := ?_) rfl (by kernel_rfl) (by kernel_rfl) (by kernel_rfl) (fun _ _ _ h => h) (Or.inl ⟨by rfl, ?_⟩) (by assumption) ?_
  rotate_left
  · (intro V hV; go_simp; try with_reducible rfl)
  try simp only [Act.put, List.getElem_toArray, List.getElem_cons_zero, List.getElem_cons_succ, List.setIfInBounds_toArray, List.set_cons_zero, List.set_cons_succ]
  refine wpAnyH_done (by kernel_rfl) ?_ _
  clear hS
  go_wp2_with fail
  have HBXY := Lib.hid (HBX2.out.later HY1.out)
  go_loopw [7, 27] (fun o i wr => ∃ (k : Nat) (v : Value), k ≤ l.length ∧ i = .int .i64 k ∧ o = v ∧ Built wr False 50 7 Y1.heap.size v ((l.take k).flatMap (mSig p.ds x)).length (((l.take k).flatMap (mSig p.ds x)).map Sg.dat) ∧ Below Y1.heap.size Y1 wr) (fun _ i _ => l.length - (intOf i).toNat)
  case atStart => exact ⟨0, .slice none 0 0, by omega, rfl, rfl, by rw [List.take_zero]; exact Built.nil _ _ _ _ _, Below.refl _ _⟩
  case round =>
    obtain ⟨k, v, hk, rfl, rfl, hbt, hbel⟩ := hrel
    have HBY := Lib.hid hbel
    have hb2 := HY1.out.trans (hbel.mono HY1.out.size)
    have y1 : (0 : Int) ≤ k := by omega
    by_cases hlt : k < l.length
    · have y0 : (k : Int) < l.length := by omega
      obtain ⟨i, hi⟩ : ∃ i, l[k]? = some i := ⟨_, List.getElem?_eq_getElem hlt⟩
      have hin : i < nd := HMB.out i (List.mem_of_getElem? hi)
      obtain ⟨pl, us1, rfl, _, _, hu1, hcl⟩ := (RowH.later HLR.out hb2).at (k := k) (d := .cell (.int .i64 (i : Int))) (by rw [List.getElem?_map, hi]; rfl)
      rw [Dat.In] at hu1
      subst hu1
      have n0 : wr.cell? (pl.add k) = some (.int .i64 (i : Int)) := by have := hcl 0 _ rfl; rwa [Nat.mul_one] at this
      have z0 : (0 : Int) ≤ i := by omega
      have z1 : (i : Int) < nd := by omega
      obtain ⟨pu, d, ps, rfl, hd, hpb, _, hu, hcs⟩ := dat_at (Row.later HR2.out hb2 fun k hk => Nat.lt_of_lt_of_le hk HLO2.out) hin
      have x0 : wr.cell? ⟨tb, 0, none⟩ = some (.slice (some pu) nd cd) := (HTBX.out.later hb2) 0 _ rfl
      obtain ⟨W1, hP⟩ := putZ z23 52 wr (us := ps) (dc_len hu)
      obtain ⟨_, _, _, _, _, _, _, _, _, _, _, _, _, _, Vq, nv, cv, _, _, _, u6, _, _, _, hv⟩ := dc_c hu
      have hvl := hv.len
      rw [List.length_map] at hvl
      have HP := Lib.hid hP
      have HFC := Lib.hid hcs
      have HPL2 := Lib.hid (dc_len hu)
      have HPO := Lib.hid (dc_cells hu)
      have H6 := Lib.hid u6
      have HVL := Lib.hid hvl
      have hlow : ∀ b, b < lo → b < wr.heap.size := fun b hb => Nat.lt_of_lt_of_le hb (Nat.le_trans HLO2.out hb2.size)
      have HVS := Lib.hid (sl_of_rowS hv hlow)
      have HCAP := Lib.hid (show nv ≤ cv from ((HC2.out tb pu nd cd rfl (HTBX.out 0 _ rfl) i hin).2 Vq nv cv (by rw [← at_off hcs u6 (by omega)]; exact (hb2.cell (by show (pu.add (i * 23)).block < _; rw [block_of_add]; exact Nat.lt_of_lt_of_le hpb HLO2.out)).symm)))
      have HDX := Lib.hid hd
      have HSW := Lib.hid (show d.sig.wt ≤ 900 by have h8 := HDW.out d (List.mem_of_getElem? hd); unfold Dc.wt at h8; omega)
      obtain ⟨sv, hsv⟩ : ∃ sv, (ps.drop 7).take 7 = sv := ⟨_, rfl⟩
      have hsd : d.sig.dat.H wr sv := by rw [← hsv]; exact (dc_sigT hu).wide hlow
      have HSD := Lib.hid (fun (V : World) (hV : Below wr.heap.size wr V) => Dat.H.later hsd hV)
      have HSVL := Lib.hid (show sv.length = 7 from (Dat.In.len _ _ hsd).trans (Sg.dat_size _))
      have HSUB := Lib.hid (fun (V : World) (hV : Boxd V wr.heap.size ps) => (show CellsAt V ⟨wr.heap.size, 7, none⟩ sv from hsv ▸ boxd_sub7 hV))
      have HBXR := Lib.hid (HBX2.out.later hb2)
      have HARG := Lib.hid (Here.later HXA.out hb2)
      have HE9 := Lib.hid (hE.out.later HY1.out)
      obtain ⟨LK, hLK⟩ : ∃ q, ((l.take k).flatMap (mSig p.ds x)).length = q := ⟨_, rfl⟩
      rw [hLK] at hbt
      obtain ⟨cs, S, h1, h2, h3, h4⟩ := hbt
      obtain ⟨A0, c0, rfl⟩ := own_sl h1
      have HLK9 := Lib.hid hLK
      have HOWN := Lib.hid h1
      have HINS := Lib.hid h2
      have HSZ := Lib.hid h3
      have HSS := Lib.hid h4
      have HLEN := Lib.hid (show LK ≤ 1990 from hLK ▸ Nat.le_trans (methodsL_len _ _ _) (by rw [List.length_take]; have := HML.out; omega))
      have HSTEP := Lib.hid (show (l.take (k + 1)).flatMap (mSig p.ds x) = (l.take k).flatMap (mSig p.ds x) ++ mSig p.ds x i by rw [Ex.take_at hi, List.flatMap_append]; simp)
      have HMS := Lib.hid (mSig_at (x := x) hd)
      clear hLK hi hin hcl hd hpb hu hcs hP u6 hv hvl hlow hsv hsd h1 h2 h3 h4 hb2 hbel
      go_upto_region 9 with (first
        | (refine loadOp flatDc 37 38 rfl HFC.out HPL2.out ?_)
        | (refine storeOp flatDc 10 38 (b := wr.heap.size) (o := 0) (us := ps) rfl rfl HP.out.there HPO.out HPL2.out ?_; rw [HP.out.eq]))
      have x6 := HP.out.box 6 _ H6.out
      have x1 := (HBXR.out.later HP.out.bel) 1 _ rfl
      cases e3 : ((nv : Int) == (m : Int))
      · have HFST := Lib.hid (show (l.take (k + 1)).flatMap (mSig p.ds x) = (l.take k).flatMap (mSig p.ds x) by
          rw [HSTEP.out, HMS.out, if_neg (fun e => by have h8 := HVL.out; have h9 := HXL.out; rw [show nv = m by omega] at e3; simp at e3), List.append_nil])
        have HBU := Lib.hid (Built.later ⟨cs, S, HOWN.out, HINS.out, HSZ.out, HSS.out⟩ HP.out.bel)
        go_wp2_with fail
        go_roundw
        case rel => exact ⟨k + 1, .slice A0 LK c0, by omega, by go_num, rfl, by rw [HFST.out, HLK9.out]; exact HBU.out, HBY.out.trans (HP.out.bel.mono HBY.out.size)⟩
        case measure => simp [intOf]; omega
      · have HFST := Lib.hid (show (l.take (k + 1)).flatMap (mSig p.ds x) = (l.take k).flatMap (mSig p.ds x) ++ [d.sig.canon.subst d.vs x.args] by
          rw [HSTEP.out, HMS.out, if_pos (by have h8 := HVL.out; have h9 := HXL.out; have := eq_of_beq e3; omega)])
        have hE := HE9
        go_upto_region 10 with fail
        clear x6 x1
        have HW1D := Lib.hid (show Below wr.heap.size wr W1.drew from HP.out.bel.trans ((Below.refl W1.heap.size W1).drew.mono HP.out.bel.size))
        have HX1D := Lib.hid (HP.out.box.later (Below.refl W1.heap.size W1).drew)
        go_wp2_with fail
        refine wp_region_held_drew (S := fun V => (Boxd V wr.heap.size ps ∧ Boxd V w.heap.size [.string x.name, .slice A m c, .int .i64 x.off]) ∧ Below Y1.heap.size Y1 V) (by kernel_rfl) ⟨⟨HX1D.out, HBXR.out.later HW1D.out⟩, HBY.out.trans (HW1D.out.mono HBY.out.size)⟩ (fun hS => ?_)
        generalize W1.drew = WD at *
        refine wpAnyH_take (i := 0) (v := ?_) rfl (by kernel_rfl) (by kernel_rfl) (by kernel_rfl) (fun _ _ _ h => h) (Or.inl ⟨by rfl, ?_⟩) (by assumption) ?_
        rotate_left
        · (intro V hV; go_simp; try with_reducible rfl)
        try simp only [Act.put, List.getElem_toArray, List.getElem_cons_zero, List.setIfInBounds_toArray, List.set_cons_zero, List.set_cons_succ]
        refine wpAnyH_take (i := 1) (v := ?_) rfl (by kernel_rfl) (by kernel_rfl) (by kernel_rfl) (fun _ _ _ h => h) (Or.inl ⟨by rfl, ?_⟩) (by assumption) ?_
        rotate_left
        · (intro V hV; go_simp; try with_reducible rfl)
        try simp only [Act.put, List.getElem_toArray, List.getElem_cons_zero, List.getElem_cons_succ, List.setIfInBounds_toArray, List.set_cons_zero, List.set_cons_succ]
        refine wpAnyH_take (i := 2) (v := .agg sv.toArray) rfl (by kernel_rfl) (by kernel_rfl) (by kernel_rfl) (fun _ _ _ h => h) (Or.inl ⟨by rfl, fun V hV => loadYieldB flatSg rfl (HSUB.out V hV.1.1) HSVL.out⟩) (by assumption) ?_
        try simp only [Act.put, List.getElem_toArray, List.getElem_cons_zero, List.getElem_cons_succ, List.setIfInBounds_toArray, List.set_cons_zero, List.set_cons_succ]
        refine wpAnyH_take (i := 4) (v := ?_) rfl (by kernel_rfl) (by kernel_rfl) (by kernel_rfl) (fun _ _ _ h => h) (Or.inl ⟨by rfl, ?_⟩) (by assumption) ?_
        rotate_left
        · (intro V hV; go_simp; try with_reducible rfl)
        try simp only [Act.put, List.getElem_toArray, List.getElem_cons_zero, List.getElem_cons_succ, List.setIfInBounds_toArray, List.set_cons_zero, List.set_cons_succ]
        refine wpAnyH_take (i := 5) (v := ?_) rfl (by kernel_rfl) (by kernel_rfl) (by kernel_rfl) (fun _ _ _ h => h) (Or.inl ⟨by rfl, ?_⟩) (by assumption) ?_
        rotate_left
        · (intro V hV; have k0 := hV.1.1 6 _ H6.out; go_simp; try with_reducible rfl)
        try simp only [Act.put, List.getElem_toArray, List.getElem_cons_zero, List.getElem_cons_succ, List.setIfInBounds_toArray, List.set_cons_zero, List.set_cons_succ]
        refine wpAnyH_take (i := 6) (v := ?_) rfl (by kernel_rfl) (by kernel_rfl) (by kernel_rfl) (fun _ _ _ h => h) (Or.inl ⟨by rfl, ?_⟩) (by assumption) ?_
        rotate_left
        · (intro V hV; go_simp; try with_reducible rfl)
        try simp only [Act.put, List.getElem_toArray, List.getElem_cons_zero, List.getElem_cons_succ, List.setIfInBounds_toArray, List.set_cons_zero, List.set_cons_succ]
        refine wpAnyH_take (i := 7) (v := ?_) rfl (by kernel_rfl) (by kernel_rfl) (by kernel_rfl) (fun _ _ _ h => h) (Or.inl ⟨by rfl, ?_⟩) (by assumption) ?_
        rotate_left
        · (intro V hV; have k0 := hV.1.2 1 _ rfl; go_simp; try with_reducible rfl)
        try simp only [Act.put, List.getElem_toArray, List.getElem_cons_zero, List.getElem_cons_succ, List.setIfInBounds_toArray, List.set_cons_zero, List.set_cons_succ]
        refine wpAnyH_ready (rs := [3]) (by kernel_rfl) (by simp) ?_
        refine AllReadyH.cons rfl (fun K hK => ?_) (AllReadyH.nil)
        go_simp
        refine (bcanon_d d.sig sv _ (by have := HSW.out; omega) (hE.out.later hS.2) (HSD.out _ HW1D.out)).mono ?_
        rintro e V1 ⟨us1, rfl, hr1, hb1⟩
        have HR1 := Lib.hid (show d.sig.canon.dat.H V1 us1 from hr1.wide fun b hb => hb.2)
        have HB1 := Lib.hid (HW1D.out.trans (hb1.mono HW1D.out.size))
        clear hr1
        have SS := And.intro (And.intro (hS.1.1.later hb1) (hS.1.2.later hb1)) (hS.2.trans (hb1.mono hS.2.size))
        clear hS hb1
        refine hK.out _ _ SS (fun hS => ?_)
        clear hK K SS
        try simp only [Act.put, List.getElem_toArray, List.getElem_cons_zero, List.getElem_cons_succ, List.setIfInBounds_toArray, List.set_cons_zero, List.set_cons_succ]
        refine wpAnyH_ready (rs := [8]) (by kernel_rfl) (by simp) ?_
        refine AllReadyH.cons rfl (fun K hK => ?_) (AllReadyH.nil)
        go_simp
        refine (bsubst_d d.sig.canon us1 d.vs x.args Vq A nv m cv c _ (by have := Sg.wt_canon (s := d.sig) (by have := HSW.out; omega); have := HSW.out; omega) (ty_argsT HXW.out).1 (by have := HXL.out; have := (ty_argsT HXW.out).2; omega) ⟨HCAP.out, HVS.out.2⟩ HR1.out (HVS.out.1.later HB1.out) (Here.later HARG.out HB1.out)).mono ?_
        rintro e V9 ⟨us9, rfl, hr9, hb9⟩
        have HR9 := Lib.hid (show (d.sig.canon.subst d.vs x.args).dat.In V9 False (fun b => wr.heap.size ≤ b ∧ b < V9.heap.size) us9 from hr9.wide fun b hb => ⟨Nat.le_trans HB1.out.size hb.1, hb.2⟩)
        have HB9 := Lib.hid (HB1.out.trans (hb9.mono HB1.out.size))
        clear hr9
        have SS := And.intro (And.intro (hS.1.1.later hb9) (hS.1.2.later hb9)) (hS.2.trans (hb9.mono hS.2.size))
        clear hS hb9
        refine hK.out _ _ SS (fun hS => ?_)
        clear hK K SS
        try simp only [Act.put, List.getElem_toArray, List.getElem_cons_zero, List.getElem_cons_succ, List.setIfInBounds_toArray, List.set_cons_zero, List.set_cons_succ]
        obtain ⟨t9, F9, n9, c9, Q9, m9, d9, r9, A9, e9, f9, i9, j9, rfl⟩ : ∃ t9 F9 n9 c9 Q9 m9 d9 r9 A9 e9 f9 i9 j9, us9 = [.string t9, .slice F9 n9 c9, .slice Q9 m9 d9, .string r9, .slice A9 e9 f9, .int .i64 i9, .int .i64 j9] := by
          obtain ⟨F, nf, cf, Q, np, cp, A, m, a, e, _⟩ := sg_open HR9.out
          exact ⟨_, _, _, _, _, _, _, _, _, _, _, _, _, e⟩
        refine wpAnyH_ready (rs := [9]) (by kernel_rfl) (by simp) ?_
        refine AllReadyH.cons rfl (fun K hK => ?_) (AllReadyH.nil)
        go_simp
        obtain ⟨W5, hW5⟩ : ∃ X, World.alloc V9 (.cells #[.string t9, .slice F9 n9 c9, .slice Q9 m9 d9, .string r9, .slice A9 e9 f9, .int .i64 i9, .int .i64 j9] 50) = X := ⟨_, rfl⟩
        have hb5 : Below V9.heap.size V9 W5 := hW5 ▸ (Below.refl _ _).alloc (Nat.le_refl _) _
        have HC5 := Lib.hid (show CellsAt W5 ⟨V9.heap.size, 0, none⟩ [.string t9, .slice F9 n9 c9, .slice Q9 m9 d9, .string r9, .slice A9 e9 f9, .int .i64 i9, .int .i64 j9] from hW5 ▸ (Boxd.new V9 #[.string t9, .slice F9 n9 c9, .slice Q9 m9 d9, .string r9, .slice A9 e9 f9, .int .i64 i9, .int .i64 j9] 50).at0)
        have HOW5 := Lib.hid (own_below (own_below HOWN.out HB9.out) hb5)
        have HZ5 := Lib.hid (Nat.le_trans HBY.out.size (Nat.le_trans HB9.out.size hb5.size))
        have HSTP := Lib.hid (fun v6 w6 (hA : Appd W5 w6 Y1.heap.size 50 7 LK 1 (.slice A0 LK c0) v6 cs [.string t9, .slice F9 n9 c9, .slice Q9 m9 d9, .string r9, .slice A9 e9 f9, .int .i64 i9, .int .i64 j9]) => built_put (T := 50) (us := [.string t9, .slice F9 n9 c9, .slice Q9 m9 d9, .string r9, .slice A9 e9 f9, .int .i64 i9, .int .i64 j9]) HOWN.out HINS.out HSZ.out HSS.out HBY.out.size HB9.out HR9.out (Sg.dat_size _) (show Appd (V9.alloc (.cells ([.string t9, .slice F9 n9 c9, .slice Q9 m9 d9, .string r9, .slice A9 e9 f9, .int .i64 i9, .int .i64 j9] : List Value).toArray 50)) w6 Y1.heap.size 50 7 LK 1 (.slice A0 LK c0) v6 cs [.string t9, .slice F9 n9 c9, .slice Q9 m9 d9, .string r9, .slice A9 e9 f9, .int .i64 i9, .int .i64 j9] by rw [show V9.alloc (.cells ([.string t9, .slice F9 n9 c9, .slice Q9 m9 d9, .string r9, .slice A9 e9 f9, .int .i64 i9, .int .i64 j9] : List Value).toArray 50) = W5 from hW5]; exact hA))
        rw [hW5]
        clear hW5
        have SS := And.intro (And.intro (hS.1.1.later hb5) (hS.1.2.later hb5)) (hS.2.trans (hb5.mono hS.2.size))
        clear hS hb5
        refine hK.out _ _ SS (fun hS => ?_)
        clear hK K SS
        try simp only [Act.put, List.getElem_toArray, List.getElem_cons_zero, List.getElem_cons_succ, List.setIfInBounds_toArray, List.set_cons_zero, List.set_cons_succ]
        refine wpAnyH_ready (rs := [10]) (by kernel_rfl) (by simp) ?_
        refine AllReadyH.cons rfl (fun K hK => ?_) (AllReadyH.nil)
        refine ready_append_row slSgT rfl _ _ rfl rfl rfl HOW5.out HZ5.out (m := 1) (us := [.string t9, .slice F9 n9 c9, .slice Q9 m9 d9, .string r9, .slice A9 e9 f9, .int .i64 i9, .int .i64 j9]) rfl (fun a ha j u hu => by obtain rfl := Option.some.inj ha; exact HC5.out j u hu) sg_one (fun _ => ⟨_, rfl⟩) (by have := HLEN.out; omega) (by omega) ?_
        intro v6 w6 hA
        have hgr := hA.grow
        obtain ⟨gg, cap, rfl, hbu, hbe⟩ := HSTP.out _ _ hA
        have HBU := Lib.hid hbu
        have HBE := Lib.hid (HBY.out.trans hbe)
        clear hbu hbe hA
        have hn5 : (Value.slice A0 LK c0).ownBlock ≠ some wr.heap.size := fun e => by have := (HOWN.out.lt _ e).2; omega
        have SS := And.intro (And.intro (boxd_app hS.1.1 hgr hn5) (HBXY.out.later HBE.out)) HBE.out
        clear hn5 hgr hS
        refine hK.out _ _ SS (fun hS => ?_)
        clear hK K SS
        try simp only [Act.put, List.getElem_toArray, List.getElem_cons_zero, List.getElem_cons_succ, List.setIfInBounds_toArray, List.set_cons_zero, List.set_cons_succ]
        refine wpAnyH_take (i := 11) (v := ?_) rfl (by kernel_rfl) (by kernel_rfl) (by kernel_rfl) (fun _ _ _ h => h) (Or.inl ⟨by rfl, ?_⟩) (by assumption) ?_
        rotate_left
        · (intro V hV; go_simp; try with_reducible rfl)
        try simp only [Act.put, List.getElem_toArray, List.getElem_cons_zero, List.getElem_cons_succ, List.setIfInBounds_toArray, List.set_cons_zero, List.set_cons_succ]
        refine wpAnyH_done (by kernel_rfl) ?_ _
        clear hS
        go_wp2_with fail
        go_roundw
        case rel => exact ⟨k + 1, .slice (some ⟨gg, 0, none⟩) (LK + 1) cap, by omega, by go_num, rfl, by rw [HFST.out, List.length_append, List.map_append, HLK9.out]; exact HBU.out, HBE.out⟩
        case measure => simp [intOf]; omega
    · obtain rfl : k = l.length := by omega
      have y0 : (l.length : Int) ≤ (l.length : Int) := by omega
      rw [List.take_of_length_le (Nat.le_refl _)] at hbt
      obtain ⟨A9, c9, rfl, hr9⟩ := hbt.end_ (by omega) (by have := methodsL_len p.ds x l; have := HML.out; omega)
      have HR9 := Lib.hid hr9
      have HE := Lib.hid (HBE2.out.trans (hb2.mono HBE2.out.size))
      have HLL2 := Lib.hid (show methodsT p.ds x = l.flatMap (mSig p.ds x) from HLL.out.trans HMM.out)
      clear hbt hr9 hbel hlt hb2
      go_wp2_with fail
      go_ret
      rw [HLL2.out]
      exact ⟨A9, c9, rfl, HR9.out, HE.out⟩
end Go.Proofs.YtjhlehdjdaphcaaDoor
