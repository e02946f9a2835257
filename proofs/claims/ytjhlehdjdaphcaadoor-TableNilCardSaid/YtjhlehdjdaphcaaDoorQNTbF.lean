/- The walks of the reference: Find, FindMethod, Kind, Formals, Instance, Method. No condition.
The walks of the reference: Instance, Method. No condition.
The walk of the reference's Subst of signatures. The condition: few parts.
The walks of Fields, of package table and of the reference. The conditions: few parts. -/
import Derived.Test.YtjhlehdjdaphcaaDoorQNTbB
namespace Go.Proofs.YtjhlehdjdaphcaaDoor
open Go.RowKit

theorem at_off {w : World} {p : Addr} {us : List Value} {j : Nat} {v : Value} (h : CellsAt w p us) (hj : us[j]? = some v) (h0 : 0 < j) : w.cell? ⟨p.block, p.off + j, none⟩ = some v := by
  have h1 := h j v hj
  unfold Addr.add at h1
  rwa [if_neg (by omega)] at h1
/-- A boxed program. -/
structure PBox (W : World) (b : Nat) (p : Pg) (us : List Value) : Prop where
  box : Boxd W b us
  dat : p.dat.H W us
end Go.Proofs.YtjhlehdjdaphcaaDoor

namespace Go.Proofs.YtjhlehdjdaphcaaDoor
open Go.RowKit

/-- A boxed program and a boxed type. -/
structure PT (w W : World) (a b : Nat) (p : Pg) (x : Ty) (us xs : List Value) : Prop where
  prog : PBox W a p us
  box : Boxd W b xs
  dat : x.dat.H W xs
  bel : Below w.heap.size w W
end Go.Proofs.YtjhlehdjdaphcaaDoor

namespace Go.Proofs.YtjhlehdjdaphcaaDoor
open Go.RowKit

theorem own_consB {W : World} {B n z : Nat} {e : TypeId} {v : Value} {cs : List Value} (h : W.ownsRow B e z v n cs) (hn : 0 < n) : ∃ g cap, v = .slice (some ⟨g, 0, none⟩) n cap := by
  rcases h.2 with ⟨_, h0⟩ | ⟨g, cap, _, rfl, _⟩
  · omega
  · exact ⟨g, cap, rfl⟩
end Go.Proofs.YtjhlehdjdaphcaaDoor

namespace Go.Proofs.YtjhlehdjdaphcaaDoor
open Go.RowKit

theorem ty_argsT {x : Ty} (h : x.wt ≤ 1000) : (∀ v ∈ x.args, v.Small) ∧ x.args.length ≤ 1000 := by
  obtain ⟨s, xs, o⟩ := x
  simp only [Ty.wt] at h
  refine ⟨fun v hv => ty_few ?_, ?_⟩
  · have := Ty.wtL_mem (show v ∈ xs from hv); omega
  · have := Ty.wtL_len xs; show xs.length ≤ _; omega
/-- One more of a row that is built: what has been made since is laid and put behind it. -/
theorem built_put {lo : Nat} {wr w1 w2 : World} {e T : TypeId} {z k : Nat} {ds : List Dat} {v v6 : Value} {cs us : List Value} {S : Nat → Prop} {d : Dat} (hown : wr.ownsRow lo e z v k cs) (hrows : Dat.Ins wr False S ds cs) (hzs : ∀ x ∈ ds, x.size = z)
    (hS : ∀ b, S b → lo ≤ b ∧ b < wr.heap.size ∧ v.ownBlock ≠ some b) (hlo : lo ≤ wr.heap.size) (hb : Below wr.heap.size wr w1) (hd : d.In w1 False (fun b => wr.heap.size ≤ b ∧ b < w1.heap.size) us) (hz : d.size = z)
    (hA : Appd (w1.alloc (.cells us.toArray T)) w2 lo e z k 1 v v6 cs us) : ∃ g c, v6 = .slice (some ⟨g, 0, none⟩) (k + 1) c ∧ Built w2 False e z lo v6 (k + 1) (ds ++ [d]) ∧ Below lo wr w2 := by
  obtain ⟨g, c, rfl⟩ := own_consB hA.own (by omega)
  have hs : (w1.alloc (.cells us.toArray T)).heap.size = w1.heap.size + 1 := by simp
  refine ⟨g, c, rfl, Built.step hown hrows hzs hS hb hd (fun b hb2 => ⟨by omega, hb2.2, fun e => ?_⟩) hz hA.own hA.grow ?_, ?_⟩
  · have := (hown.lt b e).2
    have h1 := hb2.1
    omega
  · rcases hA.at_ with h | h
    · exact .inl h.symm
    · rw [hs] at h
      exact .inr (Option.some.inj h)
  · exact ((hb.mono hlo).alloc (Nat.le_trans hlo hb.size) _).grown hA.grow (by rw [hs]; have := hb.size; omega) fun j hj => (hown.lt j hj).1
/-- A boxed type, a boxed declaration whose data lie below lo. -/
structure FX (lo : Nat) (w W : World) (xb b : Nat) (x : Ty) (d : Dc) (xs us : List Value) : Prop where
  xbox : Boxd W xb xs
  xdat : x.dat.In W False (· < w.heap.size) xs
  dbox : Boxd W b us
  ddat : d.dat.In W False (· < lo) us
  bel : Below w.heap.size w W
  le : lo ≤ w.heap.size
theorem FX.later {lo : Nat} {w W W' : World} {xb b : Nat} {x : Ty} {d : Dc} {xs us : List Value} (h : FX lo w W xb b x d xs us) (hb : Below W.heap.size W W') : FX lo w W' xb b x d xs us :=
  ⟨h.xbox.later hb, Dat.In.later h.xdat hb (fun _ hk => Nat.lt_of_lt_of_le hk h.bel.size), h.dbox.later hb, Dat.In.later h.ddat hb (fun _ hk => Nat.lt_of_lt_of_le hk (Nat.le_trans h.le h.bel.size)), h.bel.trans (hb.mono h.bel.size), h.le⟩
/-- The formals' row, the arguments. -/
theorem FX.fs {lo : Nat} {w W : World} {xb b : Nat} {x : Ty} {d : Dc} {xs us : List Value} {F : Option Addr} {nf cf : Nat} (h : FX lo w W xb b x d xs us) (h2 : us[2]? = some (.slice F nf cf)) : RowH W 5 F nf (d.fs.map Fo.dat) := by
  obtain ⟨_, _, _, _, _, F1, n1, c1, _, _, _, _, _, _, _, _, _, u2, _, _, _, hr, _⟩ := dc_c h.ddat
  have e := h2.symm.trans u2
  simp only [Option.some.injEq, Value.slice.injEq] at e
  obtain ⟨rfl, rfl, rfl⟩ := e
  exact hr.wide fun b hb => Nat.lt_of_lt_of_le hb (Nat.le_trans h.le h.bel.size)
theorem FX.ms {lo : Nat} {w W : World} {xb b : Nat} {x : Ty} {d : Dc} {xs us : List Value} {F : Option Addr} {nf cf : Nat} (h : FX lo w W xb b x d xs us) (h3 : us[3]? = some (.slice F nf cf)) : RowH W 5 F nf (d.ms.map Fo.dat) := by
  obtain ⟨_, _, _, _, _, _, _, _, F1, n1, c1, _, _, _, _, _, _, _, u3, _, _, _, hr, _⟩ := dc_c h.ddat
  have e := h3.symm.trans u3
  simp only [Option.some.injEq, Value.slice.injEq] at e
  obtain ⟨rfl, rfl, rfl⟩ := e
  exact hr.wide fun b hb => Nat.lt_of_lt_of_le hb (Nat.le_trans h.le h.bel.size)
theorem FX.args {lo : Nat} {w W : World} {xb b : Nat} {x : Ty} {d : Dc} {us : List Value} {s : ByteArray} {A : Option Addr} {m c : Nat} {i : Int} (h : FX lo w W xb b x d [.string s, .slice A m c, .int .i64 i] us) : Here W A m x.args := by
  obtain ⟨A1, m1, c1, e, _, ha⟩ := ty_open h.xdat
  simp only [List.cons.injEq, Value.slice.injEq, Value.string.injEq, Value.int.injEq, true_and, and_true] at e
  obtain ⟨_, ⟨rfl, rfl, rfl⟩, _⟩ := e
  exact ha.wide fun b hb => Nat.lt_of_lt_of_le hb h.bel.size
theorem none_wtT : Dc.none?.wt ≤ 10 := by simp [Dc.wt, Dc.none?, Sg.none?, Ex.none?, Sg.wt, sumBy, Ty.wt, Ty.wtL, Ex.wt, Ex.wtL, ByteArray.size]
theorem tyD_wt {ds : List Dc} {n : Nat} (hw : ∀ d ∈ ds, d.wt ≤ n) (hn : 10 ≤ n) (s : ByteArray) : (tyD ds s).wt ≤ n := by
  rcases none_mem (ds := ds) (k := tyK s) with h | h
  · rw [tyD, h]
    exact Nat.le_trans none_wtT hn
  · exact hw _ h
/-- The fields, in a row of their own. -/
def FldPost (w : World) (ds : List Dc) (x : Ty) (e : Ending) (w' : World) : Prop := ∃ v, e = .returned (.tuple #[v, .bool (instT ds x 1)]) ∧ (instT ds x 1 = false → v = .slice none 0 0)
  ∧ (instT ds x 1 = true → ∃ mid, RowN w.heap.size mid w' (fieldsT ds x).length 5 v ((fieldsT ds x).map Fo.dat) ∧ w.heap.size ≤ mid ∧ mid ≤ w'.heap.size) ∧ Below w.heap.size w w'
set_option maxRecDepth 100000 in
theorem field_sg2 {a b c d e f g : Value} {A : Option Addr} {n k : Nat} (h : c = .slice A n k) (w : World) : (Instr.field 50 (.agg #[a, b, c, d, e, f, g]) 2).run Tryd.prog w = .ok (.slice A n k) w := by
  subst h; rfl
def fldSg (l : List Fo) : Sg := ⟨⟨#[]⟩, [], l, .mk ⟨#[]⟩ [] 0, 0⟩
theorem fldSg_in {w : World} {S : Nat → Prop} {l : List Fo} {P : Option Addr} {n c : Nat} (h : Row w False S 5 P n (l.map Fo.dat)) : (fldSg l).dat.In w False S [.string ⟨#[]⟩, .slice none 0 0, .slice P n c, .string ⟨#[]⟩, .slice none 0 0, .int .i64 0, .int .i64 0] :=
  sg_shut (s := fldSg l) (F := none) (nf := 0) (m := 0) (by simp [fldSg, ByteArray.size]) (Row.nil _ _ _ _ _) h (by simp [fldSg, Ty.name, ByteArray.size]) (LiesN.nil _ _ _ _)
theorem fldSg_wt (l : List Fo) : (fldSg l).wt = sumBy Fo.wt l + 1 := by simp [fldSg, Sg.wt, sumBy, Ty.wt, Ty.wtL, ByteArray.size]
set_option maxRecDepth 100000 in
set_option maxHeartbeats 8000000 in
theorem tfields_any (lo : Nat) (r : Value) (p : Pg) (x : Ty) (xs : List Value) (w : World) (hw : ∀ d ∈ p.ds, d.wt ≤ 900) (hxw : x.wt ≤ 1000) (hlo : lo ≤ w.heap.size) (hx : x.dat.H w xs) (ht : TabR lo w r p) :
    Calls Tryd.prog 12 #[r, .agg xs.toArray] w (FldPost w p.ds x) := by
  obtain ⟨A, m, c, rfl, hxn, hxa⟩ := ty_open hx
  have hxl := hxa.len
  obtain ⟨W0, hW0⟩ : ∃ W0, w.alloc (.cells #[.string x.name, .slice A m c, .int .i64 x.off] 25) = W0 := ⟨_, rfl⟩
  have hb0 : Below w.heap.size w W0 := hW0 ▸ (Below.refl _ _).alloc (Nat.le_refl _) _
  have hbx : Boxd W0 w.heap.size [.string x.name, .slice A m c, .int .i64 x.off] := hW0 ▸ Boxd.new w #[.string x.name, .slice A m c, .int .i64 x.off] 25
  have hxd : x.dat.In W0 False (· < w.heap.size) [.string x.name, .slice A m c, .int .i64 x.off] := Dat.In.later hx hb0 fun _ h => h
  have HW0 := Lib.hid hW0
  have HB0 := Lib.hid hb0
  have HBX := Lib.hid hbx
  have HXD := Lib.hid hxd
  have HX3 := Lib.hid hbx.at0
  have C := Lib.hid (instance_any lo r p x _ 1 W0 (Nat.le_trans hlo hb0.size) (hxd.wide fun b hb => Nat.lt_of_lt_of_le hb hb0.size) (ht.later hb0))
  have HLO := Lib.hid hlo
  have HXW := Lib.hid hxw
  have HXL := Lib.hid hxl
  have HDW0 := Lib.hid (tyD_wt hw (by omega) x.name)
  clear hW0 hb0 hbx hxd hx hxn hxa ht hlo hxw hxl hw
  go_enter Tryd.func12, Tryd.ntmps12
  go_upto_region 1 with fail
  rw [HW0.out]
  clear HW0
  go_wp2_with (refine loadOp flatTy3 3 10 rfl HX3.out rfl ?_)
  refine C.out.mono ?_
  rintro e w1 ⟨us, rfl, hd, hb1⟩
  clear C HX3
  obtain ⟨d, hdd⟩ : ∃ d, tyD p.ds x.name = d := ⟨_, rfl⟩
  rw [hdd] at hd
  have HDD := Lib.hid hdd
  have HDW := Lib.hid (show d.wt ≤ 900 by rw [← hdd]; exact HDW0.out)
  obtain ⟨_, _, _, _, _, F, nf, cf, Pq, np, cp, _, _, _, _, _, _, u2, u3, _, _, hrf, hrp, _⟩ := dc_c hd
  have hfl := hrf.len
  rw [List.length_map] at hfl
  have H2 := Lib.hid u2
  have H3 := Lib.hid u3
  have HFL := Lib.hid hfl
  have HLU := Lib.hid (dc_len hd)
  have HOU := Lib.hid (dc_cells hd)
  obtain ⟨W2, hP⟩ := putZ z23 52 w1 (us := us) (dc_len hd)
  have HPP := Lib.hid hP
  have hb01 := HB0.out.trans (hb1.mono HB0.out.size)
  have HFX := Lib.hid (show FX lo w W2 w.heap.size w1.heap.size x d [.string x.name, .slice A m c, .int .i64 x.off] us from
    ⟨(HBX.out.later hb1).later hP.bel, Dat.In.later (Dat.In.later HXD.out hb1 fun k hk => Nat.lt_of_lt_of_le hk HB0.out.size) hP.bel fun k hk => Nat.lt_of_lt_of_le hk hb01.size, hP.box, Dat.In.later hd hP.bel fun k hk => Nat.lt_of_lt_of_le hk (Nat.le_trans HLO.out hb01.size), hb01.trans (hP.bel.mono hb01.size), HLO.out⟩)
  clear hd hb1 hP hb01 u2 u3 hrf hrp hfl hdd HDW0
  cases hq : instT p.ds x 1
  · have HQ := Lib.hid hq
    clear hq
    go_upto_region 2 with (refine storeOp flatDc 6 12 (b := w1.heap.size) (o := 0) (us := us) rfl rfl HPP.out.there HOU.out HLU.out ?_; rw [HPP.out.eq])
    go_wp2_with fail
    refine bodyPost_ret (results_tmp2 rfl _ _ _) rfl ?_
    exact ⟨.slice none 0 0, by rw [HQ.out]; rfl, fun _ => rfl, fun h => (by rw [HQ.out] at h; cases h), HFX.out.bel⟩
  · have HQ := Lib.hid hq
    clear hq
    go_upto_region 4 with (refine storeOp flatDc 6 12 (b := w1.heap.size) (o := 0) (us := us) rfl rfl HPP.out.there HOU.out HLU.out ?_; rw [HPP.out.eq])
    clear HPP
    go_wp2_with fail
    refine wp_region_held_drew (S := fun V => FX lo w V w.heap.size w1.heap.size x d [.string x.name, .slice A m c, .int .i64 x.off] us) (by kernel_rfl) (HFX.out.later (Below.refl _ _).drew) (fun hS => ?_)
    refine wpAnyH_take (i := 0) (v := ?_) rfl (by kernel_rfl) (by kernel_rfl) (by kernel_rfl) (fun _ _ _ h => h) (Or.inl ⟨by rfl, ?_⟩) (by assumption) ?_
    rotate_left
    · (intro V hV; go_simp; try with_reducible rfl)
    try simp only [Act.put, List.getElem_toArray, List.getElem_cons_zero, List.setIfInBounds_toArray, List.set_cons_zero, List.set_cons_succ]
    refine wpAnyH_take (i := 1) (v := ?_) rfl (by kernel_rfl) (by kernel_rfl) (by kernel_rfl) (fun _ _ _ h => h) (Or.inl ⟨by rfl, ?_⟩) (by assumption) ?_
    rotate_left
    · (intro V hV; have k0 := hV.dbox 3 _ H3.out; go_simp; try with_reducible rfl)
    try simp only [Act.put, List.getElem_toArray, List.getElem_cons_zero, List.getElem_cons_succ, List.setIfInBounds_toArray, List.set_cons_zero, List.set_cons_succ]
    refine wpAnyH_take (i := 2) (v := ?_) rfl (by kernel_rfl) (by kernel_rfl) (by kernel_rfl) (fun _ _ _ h => h) (Or.inl ⟨by rfl, ?_⟩) (by assumption) ?_
    rotate_left
    · (intro V hV; go_simp; try with_reducible rfl)
    try simp only [Act.put, List.getElem_toArray, List.getElem_cons_zero, List.getElem_cons_succ, List.setIfInBounds_toArray, List.set_cons_zero, List.set_cons_succ]
    refine wpAnyH_take (i := 3) (v := ?_) rfl (by kernel_rfl) (by kernel_rfl) (by kernel_rfl) (fun _ _ _ h => h) (Or.inl ⟨by rfl, ?_⟩) (by assumption) ?_
    rotate_left
    · (intro V hV; go_simp; try with_reducible rfl)
    try simp only [Act.put, List.getElem_toArray, List.getElem_cons_zero, List.getElem_cons_succ, List.setIfInBounds_toArray, List.set_cons_zero, List.set_cons_succ]
    refine wpAnyH_take (i := 4) (v := ?_) rfl (by kernel_rfl) (by kernel_rfl) (by kernel_rfl) (fun _ _ _ h => h) (Or.inl ⟨by rfl, ?_⟩) (by assumption) ?_
    rotate_left
    · (intro V hV; have k0 := hV.dbox 2 _ H2.out; go_simp; try with_reducible rfl)
    try simp only [Act.put, List.getElem_toArray, List.getElem_cons_zero, List.getElem_cons_succ, List.setIfInBounds_toArray, List.set_cons_zero, List.set_cons_succ]
    refine wpAnyH_take (i := 6) (v := ?_) rfl (by kernel_rfl) (by kernel_rfl) (by kernel_rfl) (fun _ _ _ h => h) (Or.inl ⟨by rfl, ?_⟩) (by assumption) ?_
    rotate_left
    · (intro V hV; go_simp; try with_reducible rfl)
    try simp only [Act.put, List.getElem_toArray, List.getElem_cons_zero, List.getElem_cons_succ, List.setIfInBounds_toArray, List.set_cons_zero, List.set_cons_succ]
    refine wpAnyH_take (i := 7) (v := ?_) rfl (by kernel_rfl) (by kernel_rfl) (by kernel_rfl) (fun _ _ _ h => h) (Or.inl ⟨by rfl, ?_⟩) (by assumption) ?_
    rotate_left
    · (intro V hV; have k0 := hV.xbox 1 _ rfl; go_simp; try with_reducible rfl)
    try simp only [Act.put, List.getElem_toArray, List.getElem_cons_zero, List.getElem_cons_succ, List.setIfInBounds_toArray, List.set_cons_zero, List.set_cons_succ]
    refine wpAnyH_ready (rs := [5]) (by kernel_rfl) (by simp) ?_
    refine AllReadyH.cons rfl (fun K hK => ?_) (AllReadyH.nil)
    go_simp
    refine (nms_at (k := nf) (by rw [List.length_map]; exact HFL.out) (bnames_any d.fs F nf cf _ (by have := HFL.out; have := Dc.len_f d; have := HDW.out; omega) (hS.fs H2.out))).mono ?_
    rintro e V1 ⟨NA, nc, rfl, hnc, hsl, hb1⟩
    have SS := hS.later hb1
    have HSL := Lib.hid hsl
    have HNC := Lib.hid hnc
    clear hsl hnc hS hb1
    refine hK.out _ _ SS (fun hS => ?_)
    clear hK K SS
    try simp only [Act.put, List.getElem_toArray, List.getElem_cons_zero, List.getElem_cons_succ, List.setIfInBounds_toArray, List.set_cons_zero, List.set_cons_succ]
    refine wpAnyH_ready (rs := [8]) (by kernel_rfl) (by simp) ?_
    refine AllReadyH.cons rfl (fun K hK => ?_) (AllReadyH.nil)
    go_simp
    refine (bsubst_any (fldSg d.ms) [.string ⟨#[]⟩, .slice none 0 0, .slice Pq np cp, .string ⟨#[]⟩, .slice none 0 0, .int .i64 0, .int .i64 0] (d.fs.map Fo.name) x.args NA A nf m nc c _ (by rw [fldSg_wt]; have h8 := HDW.out; unfold Dc.wt at h8; omega) (ty_argsT HXW.out).1 (by have := HXL.out; have := (ty_argsT HXW.out).2; omega)
      ⟨HNC.out, fun s hs => by obtain ⟨f, hf, rfl⟩ := List.mem_map.1 hs; exact Nat.le_trans (Fo.wt_name (Nat.le_trans (Dc.wt_f hf) (by have := HDW.out; omega))) (by omega)⟩ (fldSg_in (hS.ms H3.out)) HSL.out hS.args).mono ?_
    rintro e V2 ⟨FA, fc, PA, pc, At, mt, at1, mid, rfl, _, hrn, _, _, hm1, hm2, hb2⟩
    have hlo2 : w.heap.size ≤ V1.heap.size := hS.bel.size
    have SS := hS.later hb2
    have HRN := Lib.hid (hrn.wide hlo2)
    have HM := Lib.hid (And.intro (Nat.le_trans hlo2 hm1) hm2)
    clear hrn hm1 hm2 hS hb2 hlo2
    refine hK.out _ _ SS (fun hS => ?_)
    clear hK K SS
    try simp only [Act.put, List.getElem_toArray, List.getElem_cons_zero, List.getElem_cons_succ, List.setIfInBounds_toArray, List.set_cons_zero, List.set_cons_succ]
    have hfd : ∀ V : World, (Instr.field 50 (.agg #[.string ((fldSg d.ms).subst (d.fs.map Fo.name) x.args).name, .slice FA ((fldSg d.ms).subst (d.fs.map Fo.name) x.args).fs.length fc, .slice PA ((fldSg d.ms).subst (d.fs.map Fo.name) x.args).ps.length pc, .string ((fldSg d.ms).subst (d.fs.map Fo.name) x.args).res.name, .slice At mt at1, .int .i64 ((fldSg d.ms).subst (d.fs.map Fo.name) x.args).res.off, .int .i64 ((fldSg d.ms).subst (d.fs.map Fo.name) x.args).off]) 2).run Tryd.prog V = .ok (.slice PA ((fldSg d.ms).subst (d.fs.map Fo.name) x.args).ps.length pc) V := fun V => field_sg2 rfl V
    refine wpAnyH_take (i := 9) (v := .slice PA ((fldSg d.ms).subst (d.fs.map Fo.name) x.args).ps.length pc) rfl (by kernel_rfl) (by kernel_rfl) (by kernel_rfl) (fun _ _ _ h => h) (Or.inl ⟨by rfl, fun V hV => by have hq := hfd V; go_simp; try with_reducible rfl⟩) (by assumption) ?_
    try simp only [Act.put, List.getElem_toArray, List.getElem_cons_zero, List.getElem_cons_succ, List.setIfInBounds_toArray, List.set_cons_zero, List.set_cons_succ]
    refine wpAnyH_take (i := 10) (v := ?_) rfl (by kernel_rfl) (by kernel_rfl) (by kernel_rfl) (fun _ _ _ h => h) (Or.inl ⟨by rfl, ?_⟩) (by assumption) ?_
    rotate_left
    · (intro V hV; go_simp; try with_reducible rfl)
    try simp only [Act.put, List.getElem_toArray, List.getElem_cons_zero, List.getElem_cons_succ, List.setIfInBounds_toArray, List.set_cons_zero, List.set_cons_succ]
    refine wpAnyH_take (i := 11) (v := ?_) rfl (by kernel_rfl) (by kernel_rfl) (by kernel_rfl) (fun _ _ _ h => h) (Or.inl ⟨by rfl, ?_⟩) (by assumption) ?_
    rotate_left
    · (intro V hV; go_simp; try with_reducible rfl)
    try simp only [Act.put, List.getElem_toArray, List.getElem_cons_zero, List.getElem_cons_succ, List.setIfInBounds_toArray, List.set_cons_zero, List.set_cons_succ]
    refine wpAnyH_done (by kernel_rfl) ?_ _
    go_wp2_with fail
    refine bodyPost_ret (results_tmp2 rfl _ _ _) rfl ?_
    refine ⟨.slice PA ((fldSg d.ms).subst (d.fs.map Fo.name) x.args).ps.length pc, by rw [HQ.out]; rfl, fun h => (by rw [HQ.out] at h; cases h), fun _ => ⟨mid, by unfold fieldsT; rw [HDD.out]; exact HRN.out, HM.out⟩, hS.bel⟩
end Go.Proofs.YtjhlehdjdaphcaaDoor
