/- The walks of decl's plainness, but of the program's. The condition: few parts.
The walks of decl.plainDecl and of decl.all at it. The condition: few parts. -/
import Derived.Test.YtaeljknfbanbfaaGreatDoorDcM
import Derived.Test.YtaeljknfbanbfaaGreatDoorDcW
import Derived.Test.YtaeljknfbanbfaaGreatDoorEkI
import Derived.Test.YtaeljknfbanbfaaGreatDoorEkD
namespace Go.Proofs.YtaeljknfbanbfaaGreatDoor
open Go.RowKit
attribute [local go_sem] Oper.semAt_some

def Sg.bare (s : Sg) : Bool := s.fs.length == 0
def Ty.bare (t : Ty) : Bool := t.args.length == 0
def Ex.bare1 (x : Ex) : Bool := x.targs.length == 0
def Ex.bare (e : Ex) : Bool := e.list.all Ex.bare1
def Dc.bare (d : Dc) : Bool := (d.fs.length == 0) && (d.vs.length == 0) && d.gs.all Sg.bare && d.sig.bare && d.body.bare
theorem nat_int_eq (n m : Nat) : ((n : Int) == (m : Int)) = (n == m) := by rw [Bool.eq_iff_iff]; simp; omega
theorem nat_int_z (n : Nat) : ((n : Int) == 0) = (n == 0) := by rw [Bool.eq_iff_iff]; simp
set_option maxRecDepth 100000 in
set_option maxHeartbeats 8000000 in
theorem plainSig_any (s : Sg) (us : List Value) (w : World) (h1 : s.dat.H w us) : Calls Tryz.prog 125 #[.agg us.toArray] w (EqvPost w s.bare) := by
  have h := OneD.new h1 30
  obtain ⟨Fu, nfu, cfu, Pu, npu, cpu, Au, mu, au, rfl, _, hf1, _⟩ := sg_open h1
  have H0 := Lib.hid h
  have HZ0 := Lib.hid (Below.refl ((w.alloc (.cells #[.string s.name, .slice Fu nfu cfu, .slice Pu npu cpu, .string s.res.name, .slice Au mu au, .int .i64 s.res.off, .int .i64 s.off] 30))).heap.size ((w.alloc (.cells #[.string s.name, .slice Fu nfu cfu, .slice Pu npu cpu, .string s.res.name, .slice Au mu au, .int .i64 s.res.off, .int .i64 s.off] 30))))
  have HLF := Lib.hid (show s.fs.length = nfu by have := hf1.len; rwa [List.length_map] at this)
  clear h h1 hf1
  obtain ⟨q0, hq0⟩ : ∃ q : Bool, s.bare = q := ⟨_, rfl⟩
  have e0 : ((nfu : Int) == 0) = q0 := by rw [← hq0, Sg.bare, HLF.out, nat_int_z]
  have HD := Lib.hid (show s.bare = (q0 ) by subst_vars; rfl)
  clear hq0
  have x1 := H0.out.one 1 _ rfl
  go_enter Tryz.func125, Tryz.ntmps125
  cases q0
  · go_wp2_with fail
    go_ret
    exact ⟨ret_bool (by rw [HD.out]), H0.out.bel⟩
  · skip
    go_wp2_with fail
    go_ret
    exact ⟨ret_bool (by rw [HD.out]), H0.out.bel⟩
set_option maxRecDepth 100000 in
set_option maxHeartbeats 8000000 in
theorem allPlainSig_any (xs : List Sg) (A : Option Addr) (m c : Nat) (w : World) (h1 : RowH w 7 A m (xs.map Sg.dat)) :
    Calls Tryz.prog 47 #[.slice A m c, .func (.func 125) #[] #[]] w (EqvPost w (xs.all Sg.bare)) := by
  have hm : (m : Int) ≤ 9223372036854775807 := by have := h1.le; omega
  have hxl := h1.len
  rw [List.length_map] at hxl
  have H1 := Lib.hid h1
  clear h1
  go_enter Tryz.func47, Tryz.ntmps47
  go_wp2_with fail
  go_loopw [9] (fun i wr => ∃ k : Nat, k ≤ m ∧ i = .int .i64 k ∧ xs.all Sg.bare = (xs.drop k).all Sg.bare ∧ Below w.heap.size w wr) (fun i _ => m - (intOf i).toNat)
  case atStart => exact ⟨0, by omega, rfl, rfl, Below.refl _ _⟩
  case round =>
    obtain ⟨k, hk, rfl, hc, hbel⟩ := hrel
    have HBL := Lib.hid hbel
    have HQ := Lib.hid hc
    clear hc
    have z0 : (0 : Int) ≤ k := by omega
    by_cases hlt1 : k < m
    · have z1 : (k : Int) < m := by omega
      obtain ⟨pu, u, ps, rfl, hx, _, _, hu, hcs⟩ := dat_at (RowH.later H1.out hbel) hlt1
      have hbx : Below wr.heap.size wr (wr.alloc (.cells ps.toArray 30)) := (Below.refl _ _).alloc (Nat.le_refl _) _
      have hX := Boxd.new wr ps.toArray 30
      have C := Lib.hid (plainSig_any u ps _ (Dat.H.later hu hbx))
      have HB2 := Lib.hid (HBL.out.trans (hbx.mono HBL.out.size))
      have HS := Lib.hid (HQ.out.trans (allBy_on hx))
      obtain ⟨Fu, nfu, cfu, Pu, npu, cpu, Au, mu, au, rfl, _⟩ := sg_open hu
      obtain ⟨f0, f1, f2, f3, f4, f5, f6⟩ := cells7_at hcs
      obtain ⟨x0, x1, x2, x3, x4, x5, x6⟩ := hX.c7
      clear hx hu hcs hbel HQ hbx hX
      generalize Sg.bare u = q at *
      go_wp2_with fail
      refine C.out.mono ?_
      rintro e w1 ⟨rfl, hb1⟩
      have HB1 := Lib.hid (HB2.out.trans (hb1.mono HB2.out.size))
      clear hb1 C f0 f1 f2 f3 f4 f5 f6 x0 x1 x2 x3 x4 x5 x6
      cases q
      · go_wp2_with fail
        go_ret
        exact ⟨ret_bool (by rw [HS.out]; rfl), HB1.out⟩
      · go_wp2_with fail
        go_roundw
        case rel => exact ⟨k + 1, by omega, by go_num, HS.out, HB1.out⟩
        case measure => simp [intOf]; omega
    · have z1 : (m : Int) ≤ k := by omega
      have hq := HQ.out
      rw [List.drop_eq_nil_of_le (by omega), List.all_nil] at hq
      have HQ2 := Lib.hid hq
      clear hq hbel
      go_wp2_with fail
      go_ret
      exact ⟨ret_bool (by rw [HQ2.out]), HBL.out⟩
set_option maxRecDepth 100000 in
set_option maxHeartbeats 8000000 in
theorem plainType_any (t : Ty) (us : List Value) (w : World) (h1 : t.dat.H w us) : Calls Tryz.prog 79 #[.agg us.toArray] w (EqvPost w t.bare) := by
  obtain ⟨A, m, c, rfl, _, hl⟩ := ty_open h1
  have hx := Boxd.new w #[.string t.name, .slice A m c, .int .i64 t.off] 28
  have x1 := hx 1 _ rfl
  obtain ⟨q, hq⟩ : ∃ q : Bool, t.bare = q := ⟨_, rfl⟩
  have e0 : ((m : Int) == 0) = q := by rw [← hq, Ty.bare, hl.len, nat_int_z]
  have HQ := Lib.hid hq
  have HB := Lib.hid (show Below w.heap.size w (w.alloc (.cells #[.string t.name, .slice A m c, .int .i64 t.off] 28)) from (Below.refl _ _).alloc (Nat.le_refl _) _)
  clear h1 hl hx hq
  cases q
  all_goals
    go_enter Tryz.func79, Tryz.ntmps79
    go_wp2_with fail
    go_ret
    exact ⟨ret_bool (by rw [HQ.out]), HB.out⟩

/-! ### the parts of an expression, as All yields them -/
def EltBx (mk : Addr → Elt → Act) (x : Elt) (a' : Act) (W : World) : Prop := ∃ B, a' = mk ⟨B, 0, none⟩ x ∧ Boxd W B x.2 ∧ x.1.dat.H W x.2
theorem eltBx_own {B : Nat} (mk : Addr → Elt → Act) (x : Elt) (a' : Act) : OwnFrom B (fun (_ : Unit) W => EltBx mk x a' W) := fun _ X Y row hs hg hr => by
  obtain ⟨b, h1, h2, h3⟩ := hs
  refine ⟨b, h1, fun j u hu => cell_kept (h2 j u hu) hg (fun r e => (hr r e).2), ?_⟩
  exact (Dat.In.last (fun p v _ hv => cell_kept hv hg (fun r e => (hr r e).2)) _ _ h3).wide fun b hb => Nat.lt_of_lt_of_le hb hg.size
def AllB (pre : List Elt) : Prop := ∀ x ∈ pre, Ex.bare1 x.1 = true
theorem all_bare {pre : List Elt} {e : Ex} (h : pre.map Prod.fst = e.list) (ha : AllB pre) : e.bare = true := by
  rw [Ex.bare, ← h, List.all_map, List.all_eq_true]
  exact fun x hx => ha x hx
theorem not_bare {pre : List Elt} {e : Ex} (h : pre.map Prod.fst <+: e.list) (ha : ¬ AllB pre) : e.bare = false := by
  rw [Ex.bare, Bool.eq_false_iff]
  intro hall
  refine ha fun x hx => ?_
  exact List.all_eq_true.1 hall x.1 (h.subset (List.mem_map_of_mem hx))
theorem pe_res {w : World} {r : Addr} {b : Bool} (tmps : Array Value) (ht : tmps[2]?.getD undef = .pointer (some r)) (hc : w.cell? r = some (.bool b)) :
    (results Tryz.f77 tmps).run Tryz.prog w = .ok (.bool b) w := by
  simp [results, Tryz.results77, ht, go_sem, hc]
theorem pe_leave {w W : World} {k D : Nat} {v0 : Value} {b : Bool} (tmps : Array Value) (ht : tmps[2]?.getD undef = .pointer (some ⟨k, 0, none⟩)) (hb : Below w.heap.size w W) (hk : w.heap.size ≤ k) (hD : w.heap.size ≤ D)
    (hK : W.heap[D]? = some (.deferred (some []))) (h0 : W.cell? ⟨k, 0, none⟩ = some v0) :
    bodyPostM Fence.wide 9 Tryz.prog Tryz.f77 (EqvPost w b) .ret { tmps, defers := [{ target := .collected D, args := #[] }] } (W.setCell ⟨k, 0, none⟩ (.bool b)) := by
  have hK2 : (W.setCell ⟨k, 0, none⟩ (.bool b)).heap[D]? = some (.deferred (some [])) := (KeepsOthers.setCell _ _ _).same D _ hK rfl
  have hc : (W.setCell ⟨k, 0, none⟩ (.bool b)).cell? ⟨k, 0, none⟩ = some (.bool b) := World.cell?_setCell_same _ _ _ h0
  have hc2 := cell_kept hc (grownBy_putObj' _ D (.deferred none)) (fun r e => by cases e; exact ⟨_, hK2, rfl⟩)
  refine ⟨by simp, .inl ⟨_, _, rfl, run_takeDeferred hK2, ?_⟩⟩
  exact ⟨_, pe_res tmps ht hc2, rfl, (hb.setCell (p := ⟨k, 0, none⟩) hk _).trans (belowK_b (w := w) (Nat.le_refl _) _ D _ _ hD hK2 rfl rfl)⟩
theorem pe_leave2 {w W : World} {k D : Nat} {b : Bool} (tmps : Array Value) (ht : tmps[2]?.getD undef = .pointer (some ⟨k, 0, none⟩)) (hb : Below w.heap.size w W) (hD : w.heap.size ≤ D)
    (hK : W.heap[D]? = some (.deferred (some []))) (h0 : W.cell? ⟨k, 0, none⟩ = some (.bool b)) :
    bodyPostM Fence.wide 9 Tryz.prog Tryz.f77 (EqvPost w b) .ret { tmps, defers := [{ target := .collected D, args := #[] }] } W := by
  have hc2 := cell_kept h0 (grownBy_putObj' _ D (.deferred none)) (fun r e => by cases e; exact ⟨_, hK, rfl⟩)
  refine ⟨by simp, .inl ⟨_, _, rfl, run_takeDeferred hK, ?_⟩⟩
  exact ⟨_, pe_res tmps ht hc2, rfl, hb.trans (belowK_b (w := w) (Nat.le_refl _) _ D _ _ hD hK rfl rfl)⟩

set_option maxRecDepth 100000 in
set_option maxHeartbeats 8000000 in
theorem plainExpr_any (e : Ex) (us : List Value) (w : World) (hwt : e.wt ≤ 100000) (h : e.dat.H w us) : Calls Tryz.prog 77 #[.agg us.toArray] w (EqvPost w e.bare) := by
  have hx := box_bool h
  obtain ⟨A, m, a, B, l, b, C, r, c, rfl, _⟩ := ex_open h
  have HX := Lib.hid hx.1
  have HR := Lib.hid hx.2
  clear hx h
  refine (callsIn_wide (n := 9)).1 (callsIn_of_wp_marks Tryz.func77 rfl trivial ?_ rfl)
  simp only [Tryz.ntmps77, List.size_toArray, List.length_cons, List.length_nil, Nat.reduceAdd, Nat.reduceSub, Array.replicate_succ, Array.replicate_zero, List.push_toArray, List.append_toArray, List.nil_append, List.cons_append]
  refine wpIn_wide.2 ?_
  obtain ⟨x0, x1, x2, x3, x4, x5, x6, x7⟩ := HX.out.one.c8
  go_wp2_with fail
  generalize hW : (w.alloc (.cells #[.int .i64 e.kind, .string e.name, .string e.ty.name, .slice A m a, .int .i64 e.ty.off, .slice B l b, .slice C r c, .int .i64 e.off] 33)).alloc (.cells #[.bool false] 4) = W at *
  clear hW
  refine (xall_any e _ W hwt HX.out.da).mono ?_
  rintro e5 w5 ⟨g, lb, rfl, hb, hent, hseq⟩
  clear x0 x1 x2 x3 x4 x5 x6 x7
  have B5 := Lib.hid (HX.out.bel.trans (hb.mono HX.out.bel.size))
  have R5 := Lib.hid ((hb.block _ (Array.getElem?_eq_some_iff.1 HR.out).1).trans HR.out)
  have HEN := Lib.hid hent
  have HSQ := Lib.hid hseq
  clear hb hent hseq HX HR
  go_wp2_with fail
  refine (wpIn_wide (n := 9)).1 ?_
  refine range_if (by omega) (gf := g) (lb := lb) rfl HEN.out (HSQ.out none 8 w5 (by omega) (Below.refl _ _) (fun k hk => by cases hk)) (fun h k => h.trans k) (fun W l o o' _ h hc _ => KeepO.put W l o o' h hc) (Below.refl _ _) (fun _ => rfl)
    (fun pre W => AllB pre ∧ Below w5.heap.size w5 W)
    (fun c pre W => c = .ret ∧ (¬ AllB pre) ∧ W.cell? ⟨w.heap.size + 1, 0, none⟩ = some (.bool false) ∧ Below w.heap.size w W)
    (OwnFrom.and (fun s A B row hs hg hr => hs) (ownFrom_below (Nat.le_refl _) (Nat.le_refl _)))
    (fun s A B hs hb => ⟨hs.1, hs.2.trans (hb.mono hs.2.size)⟩)
    (fun c s A B row hs hg hr => ⟨hs.1, hs.2.1, cell_kept hs.2.2.1 hg (fun r e => (hr r e).2), ownFrom_below (β := Unit) (Nat.le_refl _) B5.out.size () A B row hs.2.2.2 hg hr⟩)
    ⟨(fun x hx => by cases hx), Below.refl _ _⟩
    (EltBx fun p x => { tmps := #[.agg #[.int .i64 e.kind, .string e.name, .string e.ty.name, .slice A m a, .int .i64 e.ty.off, .slice B l b, .slice C r c, .int .i64 e.off], .pointer (some ⟨w.heap.size, 0, none⟩), .pointer (some ⟨w.heap.size + 1, 0, none⟩), .pointer (some p), .agg #[.int .i64 e.kind, .string e.name, .string e.ty.name, .slice A m a, .int .i64 e.ty.off, .slice B l b, .slice C r c, .int .i64 e.off],
      .func (.func g) #[] lb, .agg x.2.toArray, undef, undef, undef, undef], defers := [] }) (eltBx_own _) ?assign ?body ?done ?stop
  case assign =>
    rintro l pre ⟨u, us⟩ W K hC ⟨hpre, hbw⟩ hK
    have hb1 : Below W.heap.size W (W.alloc (.cells us.toArray 33)) := (Below.refl _ _).alloc (Nat.le_refl _) _
    have HK := Lib.hid (fun a' (ha : a' = _) => hK a' (W.alloc (.cells us.toArray 33)) ((keepsOthers_below hb1).from _) (KeepO.new hb1) ⟨hpre, hbw.trans (hb1.mono hbw.size)⟩ ⟨W.heap.size, ha, Boxd.new W us.toArray 33, Dat.In.wide (Dat.In.later (hC.2.wide (S' := (· < W.heap.size)) fun b hb => hb.2.1) hb1 (fun _ h => h)) fun b hb => Nat.lt_of_lt_of_le hb hb1.size⟩)
    obtain ⟨_, _, _, _, _, _, _, _, _, rfl, _⟩ := ex_open (e := u) (us := us) hC.2
    clear hK hb1 hpre hbw hC
    simp only [Elt.enc]
    gi_wp2
    exact HK.out _ rfl
  case body =>
    rintro l pre ⟨u, us⟩ a' Wr _ _ ⟨hpre, hbw⟩ ⟨bx, rfl, hbx, hud⟩ hlen
    have hr := (hbw.block _ (Array.getElem?_eq_some_iff.1 R5.out).1).trans R5.out
    have r0 : Wr.cell? ⟨w.heap.size + 1, 0, none⟩ = some (.bool false) := by rw [cell_of_row _ _ 0 _ _ (0, 0) hr]; rfl
    have r1 : Wr.frozen? ⟨w.heap.size + 1, 0, none⟩ = false := frozen_of_row hr 0
    obtain ⟨A1, m1, a1, B1, l1, b1, C1, n1, c1, rfl, _, _, _, hbt, _⟩ := ex_open (e := u) (us := us) hud
    obtain ⟨y0, y1, y2, y3, y4, y5, y6, y7⟩ := hbx.c8
    have HP := Lib.hid hpre
    have HBW := Lib.hid hbw
    have HLT := Lib.hid hbt.len
    clear hpre hbw hlen hr hbx hud hbt
    by_cases hk : l1 = 0
    · subst hk
      have q1 : ¬ ((0 : Int) < ((0 : Nat) : Int)) := by omega
      have HKK := Lib.hid (show Ex.bare1 u = true by rw [Ex.bare1, HLT.out]; rfl)
      gi_wp2
      exact ⟨(KeepsOthers.refl _).from _, KeepO.refl _ _ _ _, (fun x hx => by
        rcases List.mem_append.1 hx with hx | hx
        · exact HP.out x hx
        · obtain rfl := List.mem_singleton.1 hx
          exact HKK.out), HBW.out⟩
    · have q1 : (0 : Int) < (l1 : Int) := by omega
      have HKK := Lib.hid (show Ex.bare1 u = false by rw [Ex.bare1, HLT.out]; simpa using hk)
      clear hk
      gi_wp2
      exact ⟨(KeepsOthers.setCell _ _ _).from _, rfl, fun h => (by have h2 := h _ (List.mem_append_right _ (List.mem_singleton.2 rfl)); rw [HKK.out] at h2; cases h2), World.cell?_setCell_same _ _ _ r0,
        (B5.out.trans (HBW.out.mono B5.out.size)).setCell (p := ⟨w.heap.size + 1, 0, none⟩) (Nat.le_succ _) _⟩
  case done =>
    rintro D ys W hD hys ⟨hpre, hbw⟩ hK
    have hr := (hbw.block _ (Array.getElem?_eq_some_iff.1 R5.out).1).trans R5.out
    have r0 : W.cell? ⟨w.heap.size + 1, 0, none⟩ = some (.bool false) := by rw [cell_of_row _ _ 0 _ _ (0, 0) hr]; rfl
    have r1 : W.frozen? ⟨w.heap.size + 1, 0, none⟩ = false := frozen_of_row hr 0
    have ht : e.bare = true := all_bare hys hpre
    have HTR := Lib.hid ht
    have HLV := Lib.hid (fun tmps ht => pe_leave (w := w) (W := W) (k := w.heap.size + 1) (b := true) tmps ht (B5.out.trans (hbw.mono B5.out.size)) (Nat.le_succ _) (Nat.le_trans B5.out.size hD) hK r0)
    clear hK hbw hD hpre hr ht hys
    go_wp2_with fail
    rw [HTR.out]
    exact HLV.out _ rfl
  case stop =>
    rintro D c pre W hD hpre ⟨rfl, hx, hc, hbw⟩ hK
    have ht : e.bare = false := not_bare hpre hx
    have HTR := Lib.hid ht
    have HLV := Lib.hid (fun tmps ht => pe_leave2 (w := w) (W := W) (k := w.heap.size + 1) (b := false) tmps ht hbw (Nat.le_trans B5.out.size hD) hK hc)
    clear hK hbw hD hpre hx hc ht
    refine wpIn_wide.2 ?_
    go_wp2_with fail
    rw [HTR.out]
    exact HLV.out _ rfl
end Go.Proofs.YtaeljknfbanbfaaGreatDoor
namespace Go.Proofs.YtaeljknfbanbfaaGreatDoor
open Go.RowKit

set_option maxRecDepth 100000 in
set_option maxHeartbeats 8000000 in
theorem plainDecl_any (d : Dc) (us : List Value) (w : World) (hw : d.wt ≤ 1000) (h1 : d.dat.H w us) : Calls Tryz.prog 76 #[.agg us.toArray] w (EqvPost w d.bare) := by
  have h := OneD.new h1 35
  obtain ⟨Fu, nfu, cfu, Pu, npu, cpu, Gu, ngu, cgu, Vu, nvu, cvu, F2u, nf2u, cf2u, P2u, np2u, cp2u, A2u, m2u, a2u, A3u, m3u, a3u, B3u, l3u, b3u, C3u, n3u, c3u, rfl, _, hf1, _, hg1, _, hv1, hs1, hb1⟩ := dc_full h1
  have H0 := Lib.hid h
  have HZ0 := Lib.hid (Below.refl ((w.alloc (.cells #[.int .i64 d.kind, .string d.name, .slice Fu nfu cfu, .slice Pu npu cpu, .slice Gu ngu cgu, .string d.recv, .slice Vu nvu cvu, .string d.sig.name, .slice F2u nf2u cf2u, .slice P2u np2u cp2u, .string d.sig.res.name, .slice A2u m2u a2u, .int .i64 d.sig.res.off, .int .i64 d.sig.off, .int .i64 d.body.kind, .string d.body.name, .string d.body.ty.name, .slice A3u m3u a3u, .int .i64 d.body.ty.off, .slice B3u l3u b3u, .slice C3u n3u c3u, .int .i64 d.body.off, .int .i64 d.off] 35))).heap.size ((w.alloc (.cells #[.int .i64 d.kind, .string d.name, .slice Fu nfu cfu, .slice Pu npu cpu, .slice Gu ngu cgu, .string d.recv, .slice Vu nvu cvu, .string d.sig.name, .slice F2u nf2u cf2u, .slice P2u np2u cp2u, .string d.sig.res.name, .slice A2u m2u a2u, .int .i64 d.sig.res.off, .int .i64 d.sig.off, .int .i64 d.body.kind, .string d.body.name, .string d.body.ty.name, .slice A3u m3u a3u, .int .i64 d.body.ty.off, .slice B3u l3u b3u, .slice C3u n3u c3u, .int .i64 d.body.off, .int .i64 d.off] 35))))
  have HLF := Lib.hid (show d.fs.length = nfu by have := hf1.len; rwa [List.length_map] at this)
  have HLV := Lib.hid (show d.vs.length = nvu by have := hv1.len; rwa [List.length_map] at this)
  have HG := Lib.hid (RowH.later hg1 h.bel)
  have HS := Lib.hid (Dat.H.later hs1 h.bel)
  have HBD := Lib.hid (Dat.H.later hb1 h.bel)
  have HWD := Lib.hid hw
  clear h h1 hf1 hg1 hv1 hs1 hb1 hw
  obtain ⟨q0, hq0⟩ : ∃ q : Bool, (d.fs.length == 0) = q := ⟨_, rfl⟩
  obtain ⟨q1, hq1⟩ : ∃ q : Bool, (d.vs.length == 0) = q := ⟨_, rfl⟩
  obtain ⟨q2, hq2⟩ : ∃ q : Bool, d.gs.all Sg.bare = q := ⟨_, rfl⟩
  obtain ⟨q3, hq3⟩ : ∃ q : Bool, d.sig.bare = q := ⟨_, rfl⟩
  obtain ⟨q4, hq4⟩ : ∃ q : Bool, d.body.bare = q := ⟨_, rfl⟩
  have e0 : ((nfu : Int) == 0) = q0 := by rw [← hq0, HLF.out, nat_int_z]
  have e1 : ((nvu : Int) == 0) = q1 := by rw [← hq1, HLV.out, nat_int_z]
  have HD := Lib.hid (show d.bare = (q0 && (q1 && (q2 && (q3 && (q4 ))))) by subst_vars; simp [Dc.bare, Bool.and_assoc])
  have HQ2 := Lib.hid hq2
  have HQ3 := Lib.hid hq3
  have HQ4 := Lib.hid hq4
  clear hq0 hq1 hq2 hq3 hq4
  have x2 := H0.out.one 2 _ rfl
  have x4 := H0.out.one 4 _ rfl
  have x6 := H0.out.one 6 _ rfl
  go_enter Tryz.func76, Tryz.ntmps76
  cases q0
  · go_wp2_with fail
    go_ret
    exact ⟨ret_bool (by rw [HD.out]; rfl), H0.out.bel⟩
  · skip
    cases q1
    · go_wp2_with fail
      go_ret
      exact ⟨ret_bool (by rw [HD.out]; rfl), H0.out.bel⟩
    · skip
      go_wp2_with fail
      refine (allPlainSig_any d.gs Gu ngu cgu _ (RowH.later HG.out HZ0.out)).mono ?_
      rintro e w1 ⟨rfl, hb⟩
      rw [HQ2.out]
      have H1 := Lib.hid (H0.out.later hb)
      have HZ1 := Lib.hid (HZ0.out.trans (hb.mono HZ0.out.size))
      clear hb H0 HZ0 x2 x4 x6
      have x7 := H1.out.one 7 _ rfl
      have x8 := H1.out.one 8 _ rfl
      have x9 := H1.out.one 9 _ rfl
      have x10 := H1.out.one 10 _ rfl
      have x11 := H1.out.one 11 _ rfl
      have x12 := H1.out.one 12 _ rfl
      have x13 := H1.out.one 13 _ rfl
      cases q2
      · go_wp2_with fail
        go_ret
        exact ⟨ret_bool (by rw [HD.out]; rfl), H1.out.bel⟩
      · skip
        go_wp2_with fail
        refine (plainSig_any d.sig _ _ (Dat.H.later HS.out HZ1.out)).mono ?_
        rintro e w2 ⟨rfl, hb⟩
        rw [HQ3.out]
        have H2 := Lib.hid (H1.out.later hb)
        have HZ2 := Lib.hid (HZ1.out.trans (hb.mono HZ1.out.size))
        clear hb H1 HZ1 x7 x8 x9 x10 x11 x12 x13
        have x14 := H2.out.one 14 _ rfl
        have x15 := H2.out.one 15 _ rfl
        have x16 := H2.out.one 16 _ rfl
        have x17 := H2.out.one 17 _ rfl
        have x18 := H2.out.one 18 _ rfl
        have x19 := H2.out.one 19 _ rfl
        have x20 := H2.out.one 20 _ rfl
        have x21 := H2.out.one 21 _ rfl
        cases q3
        · go_wp2_with fail
          go_ret
          exact ⟨ret_bool (by rw [HD.out]; rfl), H2.out.bel⟩
        · skip
          go_wp2_with fail
          refine (plainExpr_any d.body _ _ (by have := Dc.wt_b (d := d); have := HWD.out; omega) (Dat.H.later HBD.out HZ2.out)).mono ?_
          rintro e w3 ⟨rfl, hb⟩
          rw [HQ4.out]
          have H3 := Lib.hid (H2.out.later hb)
          have HZ3 := Lib.hid (HZ2.out.trans (hb.mono HZ2.out.size))
          clear hb H2 HZ2 x14 x15 x16 x17 x18 x19 x20 x21
          go_wp2_with fail
          go_ret
          exact ⟨ret_bool (by rw [HD.out]; rfl), H3.out.bel⟩
set_option maxRecDepth 100000 in
set_option maxHeartbeats 8000000 in
theorem allPlainDecl_any (xs : List Dc) (A : Option Addr) (m c : Nat) (w : World) (hw : ∀ f ∈ xs, f.wt ≤ 1000) (h1 : RowH w 23 A m (xs.map Dc.dat)) :
    Calls Tryz.prog 75 #[.slice A m c, .func (.func 76) #[] #[]] w (EqvPost w (xs.all Dc.bare)) := by
  have hm : (m : Int) ≤ 9223372036854775807 := by have := h1.le; omega
  have hxl := h1.len
  rw [List.length_map] at hxl
  have H1 := Lib.hid h1
  clear h1
  go_enter Tryz.func75, Tryz.ntmps75
  go_wp2_with fail
  go_loopw [9] (fun i wr => ∃ k : Nat, k ≤ m ∧ i = .int .i64 k ∧ xs.all Dc.bare = (xs.drop k).all Dc.bare ∧ Below w.heap.size w wr) (fun i _ => m - (intOf i).toNat)
  case atStart => exact ⟨0, by omega, rfl, rfl, Below.refl _ _⟩
  case round =>
    obtain ⟨k, hk, rfl, hc, hbel⟩ := hrel
    have HBL := Lib.hid hbel
    have HQ := Lib.hid hc
    clear hc
    have z0 : (0 : Int) ≤ k := by omega
    by_cases hlt1 : k < m
    · have z1 : (k : Int) < m := by omega
      obtain ⟨pu, u, ps, rfl, hx, _, _, hu, hcs⟩ := dat_at (RowH.later H1.out hbel) hlt1
      have HLU := Lib.hid (dc_len hu)
      have HOU := Lib.hid (dc_cells hu)
      obtain ⟨W1, hP1⟩ := put23 wr HLU.out
      have hbx := hP1.bel
      have HP1 := Lib.hid hP1
      have HF := Lib.hid hcs
      have HX := Lib.hid hP1.box.at0
      have C := Lib.hid (plainDecl_any u _ W1 (hw u (List.mem_of_getElem? hx)) (Dat.H.later hu hbx))
      have HB2 := Lib.hid (HBL.out.trans (hbx.mono HBL.out.size))
      have HS := Lib.hid (HQ.out.trans (allBy_on hx))
      clear hx hu hcs hbel HQ hbx hP1
      generalize Dc.bare u = q at *
      go_wp2_with (first
        | (refine loadDc 11 12 rfl HF.out HLU.out ?_)
        | (refine storeDc 6 12 (b := wr.heap.size) (o := 0) rfl rfl HP1.out.there HOU.out HLU.out ?_; rw [HP1.out.eq])
        | (refine loadDc 6 14 rfl HX.out HLU.out ?_))
      refine C.out.mono ?_
      rintro e w1 ⟨rfl, hb1⟩
      have HB1 := Lib.hid (HB2.out.trans (hb1.mono HB2.out.size))
      clear hb1 C
      cases q
      · go_wp2_with fail
        go_ret
        exact ⟨ret_bool (by rw [HS.out]; rfl), HB1.out⟩
      · go_wp2_with fail
        go_roundw
        case rel => exact ⟨k + 1, by omega, by go_num, HS.out, HB1.out⟩
        case measure => simp [intOf]; omega
    · have z1 : (m : Int) ≤ k := by omega
      have hq := HQ.out
      rw [List.drop_eq_nil_of_le (by omega), List.all_nil] at hq
      have HQ2 := Lib.hid hq
      clear hq hbel
      go_wp2_with fail
      go_ret
      exact ⟨ret_bool (by rw [HQ2.out]), HBL.out⟩
end Go.Proofs.YtaeljknfbanbfaaGreatDoor
