/- The walk of expr.Clone. The condition: few parts. -/
import Derived.Test.YtaaemebghkobkaaDoorEkZ
import Derived.Test.YtaaemebghkobkaaDoorExP
namespace Go.Proofs.YtaaemebghkobkaaDoor
open Go.RowKit

theorem store8c_at {P : Program} {ops : Array Oper} {rest : List Oper} {a : Act} {w : World} {Q : Exit → Act → World → Prop} {ps : String} {af : Array Edge} {b o : Nat} {vs : Array Value} (hx : a.eval (.tmp 2) = .pointer (some ⟨b, o, none⟩)) (hy : a.eval (.tmp 4) = .agg vs)
    (ht : w.there b o vs.size) (h1 : vs.all (·.oneCell') = true) (hi : (P.info? 27).map (·.size) = some vs.size) (h : wpList P ops Q rest (a.put none undef) (w.setCells b o vs.toList)) :
    wpList P ops Q ({ dst := none, op := .store 27 (.tmp 2) (.tmp 4), type := 0, pos := ps, after := af, guard := none } :: rest) a w :=
  wpList_store_mid rfl 27 (.tmp 2) (.tmp 4) rfl b o vs hx hy ht hi h1 h

def XCloneAt (e : Ex) : Prop := ∀ (us : List Value) (w : World), e.wt ≤ 100000 → e.dat.H w us → Calls Tryd.prog 24 #[.agg us.toArray] w (XPost w e)
theorem safe0 {V : World} : ∀ b, Safe 0 0 V b → b < V.heap.size := fun _ h => h.1
theorem tcall_clone (t : Ty) (hwt : Ty.wt t ≤ 100000) (lo s0 : Nat) (hlo : lo ≤ s0) (St : Nat → World → Prop) (hSt : ∀ i V V', Below s0 V V' → St i V → St i V') (hc : ∀ i i' V, St i V → St i' V) (i : Nat) : TCall 54 #[] lo 0 0 s0 St t t i := by
  intro A k c V hs hst hn h
  refine (show Calls Tryd.prog 54 #[.agg #[.string t.name, .slice A k c, .int .i64 t.off]] V _ from clone_any t (by have := Ty.list_wt t; omega) A k c V hn (LiesN.wide h safe0)).mono ?_
  rintro e V' ⟨A', k', c', rfl, h1, h2, hb⟩
  exact ⟨A', k', c', rfl, h1, LiesN.wide h2 fun b hb => ⟨by have := hb.1; omega, .inr hb⟩, Mv.of hb (by omega), hc _ _ _ (hSt _ _ _ (hb.mono hs) hst)⟩
theorem kcall_clone {x : Ex} (ih : XCloneAt x) (hwt : x.wt ≤ 100000) (lo s0 : Nat) (hlo : lo ≤ s0) (St : Nat → World → Prop) (hSt : ∀ i V V', Below s0 V V' → St i V → St i V') (hc : ∀ i i' V, St i V → St i' V) (i i' : Nat) : KCall 24 #[] lo 0 0 s0 St x x i i' := by
  intro us V hs hst h
  refine (show Calls Tryd.prog 24 #[.agg us.toArray] V _ from ih us V hwt (h.wide safe0)).mono ?_
  rintro e V' ⟨us', rfl, h2, hb⟩
  exact ⟨us', rfl, h2.wide fun b hb => ⟨by have := hb.1; omega, .inr hb⟩, Mv.of hb (by omega), hc _ _ _ (hSt _ _ _ (hb.mono hs) hst)⟩

/-- The first two blocks of a function that takes an expression and gives one. -/
theorem box_zero {w : World} {e : Ex} {us : List Value} (h : e.dat.H w us) :
    OneX w ((w.alloc (.cells us.toArray 27)).alloc (.cells #[.int .i64 0, .string ⟨#[]⟩, .string ⟨#[]⟩, .slice none 0 0, .int .i64 0, .slice none 0 0, .slice none 0 0, .int .i64 0] 27)) e us
      ∧ BoxF ((w.alloc (.cells us.toArray 27)).alloc (.cells #[.int .i64 0, .string ⟨#[]⟩, .string ⟨#[]⟩, .slice none 0 0, .int .i64 0, .slice none 0 0, .slice none 0 0, .int .i64 0] 27)) (w.heap.size + 1) [.int .i64 0, .string ⟨#[]⟩, .string ⟨#[]⟩, .slice none 0 0, .int .i64 0, .slice none 0 0, .slice none 0 0, .int .i64 0] := by
  refine ⟨(OneX.new h 27).later ((Below.refl _ _).alloc (Nat.le_refl _) _), ?_⟩
  have h2 := BoxF.new (w.alloc (.cells us.toArray 27)) #[.int .i64 0, .string ⟨#[]⟩, .string ⟨#[]⟩, .slice none 0 0, .int .i64 0, .slice none 0 0, .slice none 0 0, .int .i64 0] 27
  rw [World.size_alloc] at h2
  exact h2
/-- The result of such a function is written. -/
theorem xpost_set {w W : World} {x : Ex} {us : List Value} {k : Nat} (hB : Below w.heap.size w W) (hk : w.heap.size ≤ k) (h : x.dat.In W False (fun b => Fresh w W b ∧ b ≠ k) us) : XPost w x (.returned (.agg us.toArray)) (W.setCells k 0 us) :=
  ⟨us, rfl, Dat.In.keep id (fun p hp => ⟨World.cell?_setCells_out _ _ _ _ _ (fun e => absurd e hp.2), World.frozen?_setCells _ _ _ _ _⟩) (fun b hb => ⟨hb.1.1, by rw [size_setCells_w]; exact hb.1.2⟩) _ _ h, hB.trans (below_cells hk us 0 W)⟩

set_option maxRecDepth 100000 in
set_option maxHeartbeats 4000000 in
theorem xclone_any : ∀ e : Ex, XCloneAt e := by
  refine Ex.ind fun k s t ts xs o ih us w hwt h => ?_
  have hh := box_zero h
  have hwt1 := Ex.wt_ty (e := .mk k s t ts xs o)
  have hwt2 := fun u => Ex.wt_targ (e := .mk k s t ts xs o) (t := u)
  have hwt3 := fun y => Ex.wt_kid (e := .mk k s t ts xs o) (x := y)
  have hwt4 : xs.length ≤ Ex.wt (.mk k s t ts xs o) := by have := Ex.wtL_len xs; simp only [Ex.wt]; omega
  have hwt5 : ts.length ≤ Ex.wt (.mk k s t ts xs o) := by have := Ty.wtL_len ts; simp only [Ex.wt]; omega
  have HX := Lib.hid hh.1
  have HR := Lib.hid hh.2
  have C := Lib.hid (fun (V : World) (hV : (Ex.dat (.mk k s t ts xs o)).H V us) => show Calls Tryd.prog 51 #[.agg us.toArray, .func (.func 54) #[] #[], .func (.func 24) #[] #[]] V _ from
    mapped_C V.heap.size 0 0 V.heap.size (fun _ _ => True) (fun _ _ _ _ _ => trivial) (Nat.le_refl _) (Nat.le_refl _) (Nat.zero_le _) k s t t ts ts xs xs o 0 (fun j => 0 + 1 + ts.length + j) rfl rfl
      (tcall_clone t (Nat.le_trans hwt1 hwt) _ _ (Nat.le_refl _) _ (fun _ _ _ _ _ => trivial) (fun _ _ _ _ => trivial) 0)
      (fun j a b h1 h2 => by rw [h1] at h2; injection h2 with h2; subst h2; exact tcall_clone a (Nat.le_trans (hwt2 a (List.mem_of_getElem? h1)) hwt) _ _ (Nat.le_refl _) _ (fun _ _ _ _ _ => trivial) (fun _ _ _ _ => trivial) _) rfl
      (fun j a b h1 h2 => by rw [h1] at h2; injection h2 with h2; subst h2; exact kcall_clone (ih a (List.mem_of_getElem? h1)) (Nat.le_trans (hwt3 a (List.mem_of_getElem? h1)) hwt) _ _ (Nat.le_refl _) _ (fun _ _ _ _ _ => trivial) (fun _ _ _ _ => trivial) _ _)
      us V (Nat.le_refl _) trivial (by omega) (by omega) (hV.wide fun b hb => ⟨hb, .inr (Nat.zero_le _)⟩))
  obtain ⟨A, m, a, B, l, b, C', r, c, rfl, _⟩ := ex_open h
  obtain ⟨x0, x1, x2, x3, x4, x5, x6, x7⟩ := HX.out.one.c8
  simp only [Ex.kind, Ex.name, Ex.ty, Ex.off] at x0 x1 x2 x3 x4 x5 x6 x7 HX HR C ⊢
  clear ih h hh hwt hwt1 hwt2 hwt3 hwt4 hwt5
  go_enter Tryd.func24, Tryd.ntmps24
  go_wp2_with fail
  refine (C.out _ HX.out.da).mono ?_
  rintro e w1 ⟨vs, rfl, hv, hm, _⟩
  have HB1 := Lib.hid (HX.out.bel.trans (hm.bel.mono HX.out.bel.size))
  have HR1 := Lib.hid (HR.out.later hm.bel)
  have HV := Lib.hid (show (Ex.dat (.mk k s t ts xs o)).In w1 False (fun b => Fresh w w1 b ∧ b ≠ w.heap.size + 1) vs from hv.wide fun b hb => by
    have h1 := hb.1
    rcases hb.2 with h2 | h2
    · omega
    · rw [World.size_alloc, World.size_alloc] at h1
      exact ⟨⟨by omega, h2.2⟩, by omega⟩)
  obtain ⟨A3, m3, c3, B3, l3, d3, C3, r3, f3, rfl, _⟩ := ex_open hv
  simp only [Ex.kind, Ex.name, Ex.ty, Ex.off] at HV ⊢
  clear hv hm x0 x1 x2 x3 x4 x5 x6 x7 C HX HR
  have HT1 := Lib.hid (HR1.out.there 0 8 (by simp))
  have HO1 := Lib.hid (show (#[.int .i64 k, .string s, .string t.name, .slice A3 m3 c3, .int .i64 t.off, .slice B3 l3 d3, .slice C3 r3 f3, .int .i64 o] : Array Value).all (·.oneCell') = true by simp [Value.oneCell'])
  obtain ⟨W2, hW2⟩ : ∃ W2, W2 = w1.setCells (w.heap.size + 1) 0 [.int .i64 k, .string s, .string t.name, .slice A3 m3 c3, .int .i64 t.off, .slice B3 l3 d3, .slice C3 r3 f3, .int .i64 o] := ⟨_, rfl⟩
  have HW2 := Lib.hid hW2
  clear hW2
  go_wp2_with (refine store8c_at (b := w.heap.size + 1) (o := 0) (vs := #[.int .i64 k, .string s, .string t.name, .slice A3 m3 c3, .int .i64 t.off, .slice B3 l3 d3, .slice C3 r3 f3, .int .i64 o]) rfl rfl HT1.out HO1.out sizeE8 ?_; show wpList _ _ _ _ _ (w1.setCells (w.heap.size + 1) 0 [.int .i64 k, .string s, .string t.name, .slice A3 m3 c3, .int .i64 t.off, .slice B3 l3 d3, .slice C3 r3 f3, .int .i64 o]); rw [← HW2.out])
  have hres : BoxF W2 (w.heap.size + 1) [.int .i64 k, .string s, .string t.name, .slice A3 m3 c3, .int .i64 t.off, .slice B3 l3 d3, .slice C3 r3 f3, .int .i64 o] := by rw [HW2.out]; exact HR1.out.setAll rfl
  obtain ⟨y0, y1, y2, y3, y4, y5, y6, y7⟩ := hres.box.c8
  refine bodyPost_ret (v := .agg #[.int .i64 k, .string s, .string t.name, .slice A3 m3 c3, .int .i64 t.off, .slice B3 l3 d3, .slice C3 r3 f3, .int .i64 o]) (by simp [results, Tryd.results24, go_sem, y0, y1, y2, y3, y4, y5, y6, y7]) rfl ?_
  rw [HW2.out]
  exact xpost_set HB1.out (Nat.le_succ _) HV.out
end Go.Proofs.YtaaemebghkobkaaDoor
