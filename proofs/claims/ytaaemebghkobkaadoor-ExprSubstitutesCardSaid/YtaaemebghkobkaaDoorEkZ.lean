/- The walk of mapped, at the function values that package expr hands it; Clone. The conditions: what those functions give. -/
import Derived.Test.YtaaemebghkobkaaDoorEkY
namespace Go.Proofs.YtaaemebghkobkaaDoor
open Go.RowKit

theorem store3_at {P : Program} {ops : Array Oper} {rest : List Oper} {a : Act} {w : World} {Q : Exit → Act → World → Prop} {ps : String} {af : Array Edge} {b o : Nat} {vs : Array Value} (hx : a.eval (.tmp 11) = .pointer (some ⟨b, o, none⟩)) (hy : a.eval (.tmp 10) = .agg vs)
    (ht : w.there b o vs.size) (h1 : vs.all (·.oneCell') = true) (hi : (P.info? 24).map (·.size) = some vs.size) (h : wpList P ops Q rest (a.put none undef) (w.setCells b o vs.toList)) :
    wpList P ops Q ({ dst := none, op := .store 24 (.tmp 11) (.tmp 10), type := 0, pos := ps, after := af, guard := none } :: rest) a w :=
  wpList_store_mid rfl 24 (.tmp 11) (.tmp 10) rfl b o vs hx hy ht hi h1 h
theorem store8m_at {P : Program} {ops : Array Oper} {rest : List Oper} {a : Act} {w : World} {Q : Exit → Act → World → Prop} {ps : String} {af : Array Edge} {b o : Nat} {vs : Array Value} (hx : a.eval (.tmp 6) = .pointer (some ⟨b, o, none⟩)) (hy : a.eval (.tmp 22) = .agg vs)
    (ht : w.there b o vs.size) (h1 : vs.all (·.oneCell') = true) (hi : (P.info? 27).map (·.size) = some vs.size) (h : wpList P ops Q rest (a.put none undef) (w.setCells b o vs.toList)) :
    wpList P ops Q ({ dst := none, op := .store 27 (.tmp 6) (.tmp 22), type := 0, pos := ps, after := af, guard := none } :: rest) a w :=
  wpList_store_mid rfl 27 (.tmp 6) (.tmp 22) rfl b o vs hx hy ht hi h1 h
theorem sizeT3 : (Tryd.prog.info? 24).map (·.size) = some 3 := by kernel_rfl

theorem BoxF.set234 {W : World} {k : Nat} {u0 u1 u2 u3 u4 u5 u6 u7 : Value} (h : BoxF W k [u0, u1, u2, u3, u4, u5, u6, u7]) (v2 v3 v4 : Value) : BoxF (W.setCells k 2 [v2, v3, v4]) k [u0, u1, v2, v3, v4, u5, u6, u7] :=
  BoxF.set (p := [u0, u1]) (vs := [v2, v3, v4]) (r := [u5, u6, u7]) (us := [u0, u1, u2, u3, u4, u5, u6, u7]) (fun _ _ => rfl) h (fun j hj => by match j, hj with | 0, _ => rfl | 1, _ => rfl) (fun j hj => by match j, hj with | 0, _ => rfl | 1, _ => rfl | 2, _ => rfl)
theorem BoxF.set5 {W : World} {k : Nat} {u0 u1 u2 u3 u4 u5 u6 u7 : Value} (h : BoxF W k [u0, u1, u2, u3, u4, u5, u6, u7]) (v5 : Value) : BoxF (W.setCells k 5 [v5]) k [u0, u1, u2, u3, u4, v5, u6, u7] :=
  BoxF.set (p := [u0, u1, u2, u3, u4]) (vs := [v5]) (r := [u6, u7]) (us := [u0, u1, u2, u3, u4, u5, u6, u7]) (fun _ _ => rfl) h (fun j hj => by match j, hj with | 0, _ => rfl | 1, _ => rfl | 2, _ => rfl | 3, _ => rfl | 4, _ => rfl) (fun j hj => by match j, hj with | 0, _ => rfl | 1, _ => rfl)
theorem BoxF.set6 {W : World} {k : Nat} {u0 u1 u2 u3 u4 u5 u6 u7 : Value} (h : BoxF W k [u0, u1, u2, u3, u4, u5, u6, u7]) (v6 : Value) : BoxF (W.setCells k 6 [v6]) k [u0, u1, u2, u3, u4, u5, v6, u7] :=
  BoxF.set (p := [u0, u1, u2, u3, u4, u5]) (vs := [v6]) (r := [u7]) (us := [u0, u1, u2, u3, u4, u5, u6, u7]) (fun _ _ => rfl) h (fun j hj => by match j, hj with | 0, _ => rfl | 1, _ => rfl | 2, _ => rfl | 3, _ => rfl | 4, _ => rfl | 5, _ => rfl) (fun j hj => by match j, hj with | 0, _ => rfl)
theorem BoxF.setAll {W : World} {k : Nat} {us vs : List Value} (h : BoxF W k us) (hl : vs.length = us.length) : BoxF (W.setCells k 0 vs) k vs := by
  have := BoxF.set (p := []) (vs := vs) (r := []) (fun _ _ => by simp [hl]) h (fun j hj => by simp at hj) (fun j hj => by simp at hj)
  simpa using this
theorem BoxF.there {W : World} {k : Nat} {us : List Value} (h : BoxF W k us) (o q : Nat) (ho : o + q ≤ us.length) : W.there k o q := fun j hj => ⟨by
  rw [h.box (o + j) _ (List.getElem?_eq_getElem (by omega))]; rfl, h.free _ (by omega)⟩

theorem Lies.new_mv {lo n m a k : Nat} {W V : World} {A : Option Addr} {ts : List Ty} (h : Lies W (NewAt lo n a W) A k ts) (ha : m ≤ a) (hk : Mv lo n m W V) : Lies V (NewAt lo n a V) A k ts :=
  h.moved hk.kp (fun _ h => h.safe ha) fun _ h => h.wide (Nat.le_refl _) hk.size
theorem Row.new_mv {lo n m a k z : Nat} {W V : World} {A : Option Addr} {ds : List Dat} (h : Row W False (NewAt lo n a W) z A k ds) (ha : m ≤ a) (hk : Mv lo n m W V) : Row V False (NewAt lo n a V) z A k ds :=
  h.moved hk.kp (fun _ h => h.safe ha) fun _ h => h.wide (Nat.le_refl _) hk.size
theorem new_ne {lo n a g : Nat} {W : World} {b : Nat} (h : NewAt lo n a W b) (hg : n ≤ g) (hga : g < a) : b ≠ g := by
  intro e; subst e; rcases h.2 with h | h <;> omega
theorem Row.new_set {lo n a g k z : Nat} {W : World} {A : Option Addr} {ds : List Dat} (h : Row W False (NewAt lo n a W) z A k ds) (hg : n ≤ g) (hga : g < a) (o : Nat) (vs : List Value) : Row (W.setCells g o vs) False (NewAt lo n a (W.setCells g o vs)) z A k ds :=
  h.keep id (fun p hp => ⟨World.cell?_setCells_out _ _ _ _ _ (fun e => absurd e (new_ne hp hg hga)), World.frozen?_setCells _ _ _ _ _⟩) fun _ h => h.wide (Nat.le_refl _) (by rw [size_setCells_w]; exact Nat.le_refl _)
theorem Lies.new_set {lo n a g k : Nat} {W : World} {A : Option Addr} {ts : List Ty} (h : Lies W (NewAt lo n a W) A k ts) (hg : n ≤ g) (hga : g < a) (o : Nat) (vs : List Value) : Lies (W.setCells g o vs) (NewAt lo n a (W.setCells g o vs)) A k ts :=
  lies_row.2 (Row.new_set (lies_row.1 h) hg hga o vs)

/-- What a walk of mapped carries: the box, the result that is not yet written, the state. -/
structure Mp (lo n m s0 : Nat) (St : Nat → World → Prop) (w W : World) (us : List Value) (i : Nat) : Prop where
  mv : Mv lo n m w W
  box : BoxF W w.heap.size us
  res : BoxF W (w.heap.size + 1) [.int .i64 0, .string ⟨#[]⟩, .string ⟨#[]⟩, .slice none 0 0, .int .i64 0, .slice none 0 0, .slice none 0 0, .int .i64 0]
  st : St i W
  big : w.heap.size + 2 ≤ W.heap.size
theorem Mp.new {lo n m s0 : Nat} {St : Nat → World → Prop} {w : World} {us : List Value} {i : Nat} (hSt : ∀ i V V', Below s0 V V' → St i V → St i V') (hlo : lo ≤ w.heap.size) (hs : s0 ≤ w.heap.size) (h0 : St i w) :
    Mp lo n m s0 St w ((w.alloc (.cells us.toArray 27)).alloc (.cells #[.int .i64 0, .string ⟨#[]⟩, .string ⟨#[]⟩, .slice none 0 0, .int .i64 0, .slice none 0 0, .slice none 0 0, .int .i64 0] 27)) us i := by
  have hb : Below w.heap.size w ((w.alloc (.cells us.toArray 27)).alloc (.cells #[.int .i64 0, .string ⟨#[]⟩, .string ⟨#[]⟩, .slice none 0 0, .int .i64 0, .slice none 0 0, .slice none 0 0, .int .i64 0] 27)) := ((Below.refl _ _).alloc (Nat.le_refl _) _).alloc (by simp) _
  have h2 := BoxF.new (w.alloc (.cells us.toArray 27)) #[.int .i64 0, .string ⟨#[]⟩, .string ⟨#[]⟩, .slice none 0 0, .int .i64 0, .slice none 0 0, .slice none 0 0, .int .i64 0] 27
  rw [World.size_alloc] at h2
  exact ⟨Mv.of hb hlo, (BoxF.new w us.toArray 27).later ((Below.refl _ _).alloc (Nat.le_refl _) _), h2, hSt _ _ _ (hb.mono hs) h0, by simp⟩
theorem Mp.call {lo n m s0 i i' : Nat} {St : Nat → World → Prop} {w W V : World} {us : List Value} (h : Mp lo n m s0 St w W us i) (hms : m ≤ w.heap.size) (hm : Mv lo n m W V) (hst : St i' V) : Mp lo n m s0 St w V us i' :=
  ⟨h.mv.trans hm, h.box.kept hm.kp hms, h.res.kept hm.kp (by omega), hst, Nat.le_trans h.big hm.size⟩
theorem Mp.set {lo n m s0 i o : Nat} {St : Nat → World → Prop} {w W : World} {us us' vs : List Value} (h : Mp lo n m s0 St w W us i) (hSt : ∀ i V V', Below s0 V V' → St i V → St i V') (hlo : lo ≤ w.heap.size) (hs : s0 ≤ w.heap.size)
    (hb : BoxF (W.setCells w.heap.size o vs) w.heap.size us') : Mp lo n m s0 St w (W.setCells w.heap.size o vs) us' i :=
  ⟨h.mv.setCells hlo (Nat.le_refl _) o vs, hb, h.res.other (by omega) o vs, hSt _ _ _ (below_cells hs vs o W) h.st, by rw [size_setCells_w]; exact h.big⟩

set_option maxRecDepth 100000 in
set_option maxHeartbeats 16000000 in
theorem mapped_C (lo n m s0 : Nat) (St : Nat → World → Prop) (hSt : ∀ i V V', Below s0 V V' → St i V → St i V') (hlo : lo ≤ s0) (hnm : n ≤ m) (hms : m ≤ s0) (k : Int) (s : ByteArray) (t r' : Ty) (ts rs : List Ty) (xs ys : List Ex) (o : Int) (i0 : Nat) (st : Nat → Nat)
    (hrl : rs.length = ts.length) (hyl : ys.length = xs.length) (h1 : TCall 54 #[] lo n m s0 St t r' i0) (h2 : ∀ j t r, ts[j]? = some t → rs[j]? = some r → TCall 54 #[] lo n m s0 St t r (i0 + 1 + j))
    (hst0 : st 0 = i0 + 1 + rs.length) (h3 : ∀ j x y, xs[j]? = some x → ys[j]? = some y → KCall 24 #[] lo n m s0 St x y (st j) (st (j + 1))) (us : List Value) (w : World) (hs : s0 ≤ w.heap.size) (h0 : St i0 w)
    (htq : ts.length ≤ 1000000) (hxq : xs.length ≤ 1000000) (h : (Ex.dat (.mk k s t ts xs o)).In w False (Safe n m w) us) :
    Calls Tryd.prog 51 #[.agg us.toArray, .func (.func 54) #[] #[], .func (.func 24) #[] #[]] w (KGot lo n m St (.mk k s r' rs ys o) (st ys.length) w) := by
  obtain ⟨A, q, a, B, l, b, C, r, c, rfl, hsz, htz, ha, hb, hc⟩ := ex_open h
  simp only [Ex.kind, Ex.name, Ex.ty, Ex.targs, Ex.kids, Ex.off] at hsz htz ha hb hc ⊢
  have htl := hb.len
  have hxl := hc.len
  rw [Ex.dats_len] at hxl
  have hlo2 : lo ≤ w.heap.size := Nat.le_trans hlo hs
  have hms2 : m ≤ w.heap.size := Nat.le_trans hms hs
  have M0 := Lib.hid (Mp.new (lo := lo) (n := n) (m := m) (s0 := s0) (us := [.int .i64 k, .string s, .string t.name, .slice A q a, .int .i64 t.off, .slice B l b, .slice C r c, .int .i64 o]) hSt hlo2 hs h0)
  have HSt := Lib.hid hSt
  have HLO := Lib.hid hlo2
  have HMS := Lib.hid hms2
  have HNM := Lib.hid hnm
  have HS := Lib.hid hs
  have HSZ := Lib.hid hsz
  have HB := Lib.hid hb
  have HC := Lib.hid hc
  have HRL := Lib.hid (show rs.length = l by omega)
  have HYL := Lib.hid (show ys.length = r by omega)
  have C1 := Lib.hid (show Calls Tryd.prog 54 #[.agg #[.string t.name, .slice A q a, .int .i64 t.off]] _ _ from h1 A q a _ (by have := M0.out.big; omega) M0.out.st htz (Lies.mv ha M0.out.mv))
  have C2 := Lib.hid (fun (V : World) (hV : Mv lo n m w V) (hz : St (i0 + 1) V) => eachT_C lo n m s0 St hSt hlo hnm hms ts rs (i0 + 1) hrl h2 B l b V (by omega) (by have := hV.size; omega) hz (Lies.mv hb hV))
  have C3 := Lib.hid (fun (V : World) (hV : Mv lo n m w V) (hz : St (i0 + 1 + rs.length) V) => eachE_C lo n m s0 St hSt hlo hnm hms xs ys st hyl h3 C r c V (by omega) (by have := hV.size; omega) (by rw [hst0]; exact hz) (hc.mv hV))
  obtain ⟨x0, x1, x2, x3, x4, x5, x6, x7⟩ := M0.out.box.box.c8
  clear h1 h2 h3 hSt hlo hnm hms hs h0 h hsz htz ha hb hc hlo2 hms2 hrl hyl hst0 htq hxq htl hxl
  go_enter Tryd.func51, Tryd.ntmps51
  go_wp2_with fail
  refine C1.out.mono ?_
  rintro e w1 ⟨A1, k1, c1, rfl, hn1, hl1, hm1, hs1⟩
  have M1 := Lib.hid (M0.out.call HMS.out hm1 hs1)
  have N1 := Lib.hid hn1
  have L1 := Lib.hid (show Lies w1 (NewAt lo n (w.heap.size + 2) w1) A1 k1 r'.args from hl1.wide fun _ h => h.wide M0.out.big (Nat.le_refl _))
  clear hm1 hs1 hn1 hl1 C1 M0 x0 x1 x2 x3 x4 x5 x6 x7
  obtain ⟨x0, x1, x2, x3, x4, x5, x6, x7⟩ := M1.out.box.box.c8
  have HT1 := Lib.hid (M1.out.box.there 2 3 (by simp))
  have HO1 := Lib.hid (show (#[.string r'.name, .slice A1 k1 c1, .int .i64 r'.off] : Array Value).all (·.oneCell') = true by simp [Value.oneCell'])
  have M2 := Lib.hid (M1.out.set (us' := [.int .i64 k, .string s, .string r'.name, .slice A1 k1 c1, .int .i64 r'.off, .slice B l b, .slice C r c, .int .i64 o]) HSt.out HLO.out HS.out (M1.out.box.set234 (.string r'.name) (.slice A1 k1 c1) (.int .i64 r'.off)))
  have L2 := Lib.hid (Lies.new_set L1.out (g := w.heap.size) (by have := HNM.out; have := HMS.out; omega) (by omega) 2 [.string r'.name, .slice A1 k1 c1, .int .i64 r'.off])
  have D2 := Lib.hid (C2.out _ M2.out.mv M2.out.st)
  obtain ⟨z0, z1, z2, z3, z4, z5, z6, z7⟩ := M2.out.box.box.c8
  clear L1 M1 C2 x0 x1 x5 x6 x7
  obtain ⟨W2, hW2⟩ : ∃ W2, W2 = w1.setCells w.heap.size 2 [.string r'.name, .slice A1 k1 c1, .int .i64 r'.off] := ⟨_, rfl⟩
  rw [← hW2] at M2 L2 D2 z0 z1 z2 z3 z4 z5 z6 z7
  have HW2 := Lib.hid hW2
  clear hW2
  go_wp2_with (refine store3_at (b := w.heap.size) (o := 2) (vs := #[.string r'.name, .slice A1 k1 c1, .int .i64 r'.off]) rfl rfl HT1.out HO1.out sizeT3 ?_; show wpList _ _ _ _ _ (w1.setCells w.heap.size 2 [.string r'.name, .slice A1 k1 c1, .int .i64 r'.off]); rw [← HW2.out])
  refine D2.out.mono ?_
  rintro e w3 ⟨B3, b3, rfl, hl3, hm3, hs3⟩
  have M3 := Lib.hid (M2.out.call HMS.out hm3 hs3)
  have L3 := Lib.hid (Lies.new_mv L2.out (by have := HMS.out; omega) hm3)
  have T3 := Lib.hid (show Lies w3 (NewAt lo n (w.heap.size + 2) w3) B3 rs.length rs from hl3.wide fun _ h => h.wide M2.out.big (Nat.le_refl _))
  clear hm3 hs3 hl3 D2 M2 L2 z0 z1 z2 z3 z4 z5 z6 z7 x2 x3 x4 HW2 HT1 HO1
  obtain ⟨x0, x1, x2, x3, x4, x5, x6, x7⟩ := M3.out.box.box.c8
  have f5 := M3.out.box.free 5 (by simp)
  have M4 := Lib.hid (show Mp lo n m s0 St w (w3.setCell ⟨w.heap.size, 5, none⟩ (.slice B3 rs.length b3)) _ _ from M3.out.set (vs := [.slice B3 rs.length b3]) HSt.out HLO.out HS.out (M3.out.box.set5 (.slice B3 rs.length b3)))
  have L4 := Lib.hid (show Lies (w3.setCell ⟨w.heap.size, 5, none⟩ (.slice B3 rs.length b3)) (NewAt lo n (w.heap.size + 2) (w3.setCell ⟨w.heap.size, 5, none⟩ (.slice B3 rs.length b3))) _ _ _ from Lies.new_set L3.out (g := w.heap.size) (by have := HNM.out; have := HMS.out; omega) (by omega) 5 [.slice B3 rs.length b3])
  have T4 := Lib.hid (show Lies (w3.setCell ⟨w.heap.size, 5, none⟩ (.slice B3 rs.length b3)) (NewAt lo n (w.heap.size + 2) (w3.setCell ⟨w.heap.size, 5, none⟩ (.slice B3 rs.length b3))) _ _ _ from Lies.new_set T3.out (g := w.heap.size) (by have := HNM.out; have := HMS.out; omega) (by omega) 5 [.slice B3 rs.length b3])
  have D3 := Lib.hid (C3.out _ M4.out.mv M4.out.st)
  obtain ⟨z0, z1, z2, z3, z4, z5, z6, z7⟩ := M4.out.box.box.c8
  clear L3 T3 M3 C3
  go_wp2_with fail
  refine D3.out.mono ?_
  rintro e w5 ⟨C5, c5, rfl, hc5, hr5, hm5, hs5⟩
  have M5 := Lib.hid (M4.out.call HMS.out hm5 hs5)
  have L5 := Lib.hid (Lies.new_mv L4.out (by have := HMS.out; omega) hm5)
  have T5 := Lib.hid (Lies.new_mv T4.out (by have := HMS.out; omega) hm5)
  have K5 := Lib.hid (show Row w5 False (NewAt lo n (w.heap.size + 2) w5) 8 C5 ys.length (Ex.dats ys) from hr5.wide fun _ h => h.wide M4.out.big (Nat.le_refl _))
  have HC5 := Lib.hid hc5
  clear hm5 hs5 hr5 hc5 D3 M4 L4 T4 z0 z1 z2 z3 z4 z5 z6 z7 x0 x1 x2 x3 x4 x5 x6 x7 f5
  obtain ⟨x0, x1, x2, x3, x4, x5, x6, x7⟩ := M5.out.box.box.c8
  have f6 := M5.out.box.free 6 (by simp)
  have M6 := Lib.hid (show Mp lo n m s0 St w (w5.setCell ⟨w.heap.size, 6, none⟩ (.slice C5 ys.length c5)) _ _ from M5.out.set (vs := [.slice C5 ys.length c5]) HSt.out HLO.out HS.out (M5.out.box.set6 (.slice C5 ys.length c5)))
  have L6 := Lib.hid (show Lies (w5.setCell ⟨w.heap.size, 6, none⟩ (.slice C5 ys.length c5)) (NewAt lo n (w.heap.size + 2) (w5.setCell ⟨w.heap.size, 6, none⟩ (.slice C5 ys.length c5))) _ _ _ from Lies.new_set L5.out (g := w.heap.size) (by have := HNM.out; have := HMS.out; omega) (by omega) 6 [.slice C5 ys.length c5])
  have T6 := Lib.hid (show Lies (w5.setCell ⟨w.heap.size, 6, none⟩ (.slice C5 ys.length c5)) (NewAt lo n (w.heap.size + 2) (w5.setCell ⟨w.heap.size, 6, none⟩ (.slice C5 ys.length c5))) _ _ _ from Lies.new_set T5.out (g := w.heap.size) (by have := HNM.out; have := HMS.out; omega) (by omega) 6 [.slice C5 ys.length c5])
  have K6 := Lib.hid (show Row (w5.setCell ⟨w.heap.size, 6, none⟩ (.slice C5 ys.length c5)) False (NewAt lo n (w.heap.size + 2) (w5.setCell ⟨w.heap.size, 6, none⟩ (.slice C5 ys.length c5))) _ _ _ _ from K5.out.new_set (g := w.heap.size) (by have := HNM.out; have := HMS.out; omega) (by omega) 6 [.slice C5 ys.length c5])
  obtain ⟨z0, z1, z2, z3, z4, z5, z6, z7⟩ := M6.out.box.box.c8
  have HT6 := Lib.hid (M6.out.res.there 0 8 (by simp))
  have HO6 := Lib.hid (show (#[.int .i64 k, .string s, .string r'.name, .slice A1 k1 c1, .int .i64 r'.off, .slice B3 rs.length b3, .slice C5 ys.length c5, .int .i64 o] : Array Value).all (·.oneCell') = true by simp [Value.oneCell'])
  clear L5 T5 K5 M5
  obtain ⟨W6, hW6⟩ : ∃ W6, W6 = (w5.setCell ⟨w.heap.size, 6, none⟩ (.slice C5 ys.length c5)).setCells (w.heap.size + 1) 0 [.int .i64 k, .string s, .string r'.name, .slice A1 k1 c1, .int .i64 r'.off, .slice B3 rs.length b3, .slice C5 ys.length c5, .int .i64 o] := ⟨_, rfl⟩
  have HW6 := Lib.hid hW6
  clear hW6
  go_wp2_with (refine store8m_at (b := w.heap.size + 1) (o := 0) (vs := #[.int .i64 k, .string s, .string r'.name, .slice A1 k1 c1, .int .i64 r'.off, .slice B3 rs.length b3, .slice C5 ys.length c5, .int .i64 o]) rfl rfl HT6.out HO6.out sizeE8 ?_; show wpList _ _ _ _ _ ((w5.setCell ⟨w.heap.size, 6, none⟩ (.slice C5 ys.length c5)).setCells (w.heap.size + 1) 0 [.int .i64 k, .string s, .string r'.name, .slice A1 k1 c1, .int .i64 r'.off, .slice B3 rs.length b3, .slice C5 ys.length c5, .int .i64 o]); rw [← HW6.out])
  have hres : BoxF W6 (w.heap.size + 1) [.int .i64 k, .string s, .string r'.name, .slice A1 k1 c1, .int .i64 r'.off, .slice B3 rs.length b3, .slice C5 ys.length c5, .int .i64 o] := by rw [HW6.out]; exact M6.out.res.setAll rfl
  obtain ⟨y0, y1, y2, y3, y4, y5, y6, y7⟩ := hres.box.c8
  refine bodyPost_ret (v := .agg #[.int .i64 k, .string s, .string r'.name, .slice A1 k1 c1, .int .i64 r'.off, .slice B3 rs.length b3, .slice C5 ys.length c5, .int .i64 o]) (by simp [results, Tryd.results51, go_sem, y0, y1, y2, y3, y4, y5, y6, y7]) rfl ?_
  have hup : ∀ b, NewAt lo n (w.heap.size + 2) W6 b → NewOr lo n w W6 b := fun b h => h.wide (by omega) (Nat.le_refl _)
  have hg1 : n ≤ w.heap.size + 1 := by have := HNM.out; have := HMS.out; omega
  refine ⟨_, rfl, ?_, ?_, ?_⟩
  · rw [HW6.out] at hup ⊢
    exact ex_shut (e := .mk k s r' rs ys o) HSZ.out N1.out ((Lies.new_set L6.out hg1 (by omega) _ _).wide hup) ((Lies.new_set T6.out hg1 (by omega) _ _).wide hup) ((K6.out.new_set hg1 (by omega) _ _).wide hup) HC5.out
  · rw [HW6.out]; exact M6.out.mv.setCells HLO.out (by omega) _ _
  · rw [HW6.out]; exact HSt.out _ _ _ (below_cells (by have := HS.out; omega) _ _ _) M6.out.st

set_option maxRecDepth 100000 in
set_option maxHeartbeats 16000000 in
theorem mapped_S (p7 : Nat) (p8 p9 : Nat) (lo n m s0 : Nat) (St : Nat → World → Prop) (hSt : ∀ i V V', Below s0 V V' → St i V → St i V') (hlo : lo ≤ s0) (hnm : n ≤ m) (hms : m ≤ s0) (k : Int) (s : ByteArray) (t r' : Ty) (ts rs : List Ty) (xs ys : List Ex) (o : Int) (i0 : Nat) (st : Nat → Nat)
    (hrl : rs.length = ts.length) (hyl : ys.length = xs.length) (h1 : TCall 49 #[.pointer (some ⟨p7, 0, none⟩)] lo n m s0 St t r' i0) (h2 : ∀ j t r, ts[j]? = some t → rs[j]? = some r → TCall 49 #[.pointer (some ⟨p7, 0, none⟩)] lo n m s0 St t r (i0 + 1 + j))
    (hst0 : st 0 = i0 + 1 + rs.length) (h3 : ∀ j x y, xs[j]? = some x → ys[j]? = some y → KCall 50 #[.pointer (some ⟨p8, 0, none⟩), .pointer (some ⟨p9, 0, none⟩)] lo n m s0 St x y (st j) (st (j + 1))) (us : List Value) (w : World) (hs : s0 ≤ w.heap.size) (h0 : St i0 w)
    (htq : ts.length ≤ 1000000) (hxq : xs.length ≤ 1000000) (h : (Ex.dat (.mk k s t ts xs o)).In w False (Safe n m w) us) :
    Calls Tryd.prog 51 #[.agg us.toArray, .func (.func 49) #[] #[.pointer (some ⟨p7, 0, none⟩)], .func (.func 50) #[] #[.pointer (some ⟨p8, 0, none⟩), .pointer (some ⟨p9, 0, none⟩)]] w (KGot lo n m St (.mk k s r' rs ys o) (st ys.length) w) := by
  obtain ⟨A, q, a, B, l, b, C, r, c, rfl, hsz, htz, ha, hb, hc⟩ := ex_open h
  simp only [Ex.kind, Ex.name, Ex.ty, Ex.targs, Ex.kids, Ex.off] at hsz htz ha hb hc ⊢
  have htl := hb.len
  have hxl := hc.len
  rw [Ex.dats_len] at hxl
  have hlo2 : lo ≤ w.heap.size := Nat.le_trans hlo hs
  have hms2 : m ≤ w.heap.size := Nat.le_trans hms hs
  have M0 := Lib.hid (Mp.new (lo := lo) (n := n) (m := m) (s0 := s0) (us := [.int .i64 k, .string s, .string t.name, .slice A q a, .int .i64 t.off, .slice B l b, .slice C r c, .int .i64 o]) hSt hlo2 hs h0)
  have HSt := Lib.hid hSt
  have HLO := Lib.hid hlo2
  have HMS := Lib.hid hms2
  have HNM := Lib.hid hnm
  have HS := Lib.hid hs
  have HSZ := Lib.hid hsz
  have HB := Lib.hid hb
  have HC := Lib.hid hc
  have HRL := Lib.hid (show rs.length = l by omega)
  have HYL := Lib.hid (show ys.length = r by omega)
  have C1 := Lib.hid (show Calls Tryd.prog 49 #[.agg #[.string t.name, .slice A q a, .int .i64 t.off], .pointer (some ⟨p7, 0, none⟩)] _ _ from h1 A q a _ (by have := M0.out.big; omega) M0.out.st htz (Lies.mv ha M0.out.mv))
  have C2 := Lib.hid (fun (V : World) (hV : Mv lo n m w V) (hz : St (i0 + 1) V) => eachT_S p7 lo n m s0 St hSt hlo hnm hms ts rs (i0 + 1) hrl h2 B l b V (by omega) (by have := hV.size; omega) hz (Lies.mv hb hV))
  have C3 := Lib.hid (fun (V : World) (hV : Mv lo n m w V) (hz : St (i0 + 1 + rs.length) V) => eachE_S p8 p9 lo n m s0 St hSt hlo hnm hms xs ys st hyl h3 C r c V (by omega) (by have := hV.size; omega) (by rw [hst0]; exact hz) (hc.mv hV))
  obtain ⟨x0, x1, x2, x3, x4, x5, x6, x7⟩ := M0.out.box.box.c8
  clear h1 h2 h3 hSt hlo hnm hms hs h0 h hsz htz ha hb hc hlo2 hms2 hrl hyl hst0 htq hxq htl hxl
  go_enter Tryd.func51, Tryd.ntmps51
  go_wp2_with fail
  refine C1.out.mono ?_
  rintro e w1 ⟨A1, k1, c1, rfl, hn1, hl1, hm1, hs1⟩
  have M1 := Lib.hid (M0.out.call HMS.out hm1 hs1)
  have N1 := Lib.hid hn1
  have L1 := Lib.hid (show Lies w1 (NewAt lo n (w.heap.size + 2) w1) A1 k1 r'.args from hl1.wide fun _ h => h.wide M0.out.big (Nat.le_refl _))
  clear hm1 hs1 hn1 hl1 C1 M0 x0 x1 x2 x3 x4 x5 x6 x7
  obtain ⟨x0, x1, x2, x3, x4, x5, x6, x7⟩ := M1.out.box.box.c8
  have HT1 := Lib.hid (M1.out.box.there 2 3 (by simp))
  have HO1 := Lib.hid (show (#[.string r'.name, .slice A1 k1 c1, .int .i64 r'.off] : Array Value).all (·.oneCell') = true by simp [Value.oneCell'])
  have M2 := Lib.hid (M1.out.set (us' := [.int .i64 k, .string s, .string r'.name, .slice A1 k1 c1, .int .i64 r'.off, .slice B l b, .slice C r c, .int .i64 o]) HSt.out HLO.out HS.out (M1.out.box.set234 (.string r'.name) (.slice A1 k1 c1) (.int .i64 r'.off)))
  have L2 := Lib.hid (Lies.new_set L1.out (g := w.heap.size) (by have := HNM.out; have := HMS.out; omega) (by omega) 2 [.string r'.name, .slice A1 k1 c1, .int .i64 r'.off])
  have D2 := Lib.hid (C2.out _ M2.out.mv M2.out.st)
  obtain ⟨z0, z1, z2, z3, z4, z5, z6, z7⟩ := M2.out.box.box.c8
  clear L1 M1 C2 x0 x1 x5 x6 x7
  obtain ⟨W2, hW2⟩ : ∃ W2, W2 = w1.setCells w.heap.size 2 [.string r'.name, .slice A1 k1 c1, .int .i64 r'.off] := ⟨_, rfl⟩
  rw [← hW2] at M2 L2 D2 z0 z1 z2 z3 z4 z5 z6 z7
  have HW2 := Lib.hid hW2
  clear hW2
  go_wp2_with (refine store3_at (b := w.heap.size) (o := 2) (vs := #[.string r'.name, .slice A1 k1 c1, .int .i64 r'.off]) rfl rfl HT1.out HO1.out sizeT3 ?_; show wpList _ _ _ _ _ (w1.setCells w.heap.size 2 [.string r'.name, .slice A1 k1 c1, .int .i64 r'.off]); rw [← HW2.out])
  refine D2.out.mono ?_
  rintro e w3 ⟨B3, b3, rfl, hl3, hm3, hs3⟩
  have M3 := Lib.hid (M2.out.call HMS.out hm3 hs3)
  have L3 := Lib.hid (Lies.new_mv L2.out (by have := HMS.out; omega) hm3)
  have T3 := Lib.hid (show Lies w3 (NewAt lo n (w.heap.size + 2) w3) B3 rs.length rs from hl3.wide fun _ h => h.wide M2.out.big (Nat.le_refl _))
  clear hm3 hs3 hl3 D2 M2 L2 z0 z1 z2 z3 z4 z5 z6 z7 x2 x3 x4 HW2 HT1 HO1
  obtain ⟨x0, x1, x2, x3, x4, x5, x6, x7⟩ := M3.out.box.box.c8
  have f5 := M3.out.box.free 5 (by simp)
  have M4 := Lib.hid (show Mp lo n m s0 St w (w3.setCell ⟨w.heap.size, 5, none⟩ (.slice B3 rs.length b3)) _ _ from M3.out.set (vs := [.slice B3 rs.length b3]) HSt.out HLO.out HS.out (M3.out.box.set5 (.slice B3 rs.length b3)))
  have L4 := Lib.hid (show Lies (w3.setCell ⟨w.heap.size, 5, none⟩ (.slice B3 rs.length b3)) (NewAt lo n (w.heap.size + 2) (w3.setCell ⟨w.heap.size, 5, none⟩ (.slice B3 rs.length b3))) _ _ _ from Lies.new_set L3.out (g := w.heap.size) (by have := HNM.out; have := HMS.out; omega) (by omega) 5 [.slice B3 rs.length b3])
  have T4 := Lib.hid (show Lies (w3.setCell ⟨w.heap.size, 5, none⟩ (.slice B3 rs.length b3)) (NewAt lo n (w.heap.size + 2) (w3.setCell ⟨w.heap.size, 5, none⟩ (.slice B3 rs.length b3))) _ _ _ from Lies.new_set T3.out (g := w.heap.size) (by have := HNM.out; have := HMS.out; omega) (by omega) 5 [.slice B3 rs.length b3])
  have D3 := Lib.hid (C3.out _ M4.out.mv M4.out.st)
  obtain ⟨z0, z1, z2, z3, z4, z5, z6, z7⟩ := M4.out.box.box.c8
  clear L3 T3 M3 C3
  go_wp2_with fail
  refine D3.out.mono ?_
  rintro e w5 ⟨C5, c5, rfl, hc5, hr5, hm5, hs5⟩
  have M5 := Lib.hid (M4.out.call HMS.out hm5 hs5)
  have L5 := Lib.hid (Lies.new_mv L4.out (by have := HMS.out; omega) hm5)
  have T5 := Lib.hid (Lies.new_mv T4.out (by have := HMS.out; omega) hm5)
  have K5 := Lib.hid (show Row w5 False (NewAt lo n (w.heap.size + 2) w5) 8 C5 ys.length (Ex.dats ys) from hr5.wide fun _ h => h.wide M4.out.big (Nat.le_refl _))
  have HC5 := Lib.hid hc5
  clear hm5 hs5 hr5 hc5 D3 M4 L4 T4 z0 z1 z2 z3 z4 z5 z6 z7 x0 x1 x2 x3 x4 x5 x6 x7 f5
  obtain ⟨x0, x1, x2, x3, x4, x5, x6, x7⟩ := M5.out.box.box.c8
  have f6 := M5.out.box.free 6 (by simp)
  have M6 := Lib.hid (show Mp lo n m s0 St w (w5.setCell ⟨w.heap.size, 6, none⟩ (.slice C5 ys.length c5)) _ _ from M5.out.set (vs := [.slice C5 ys.length c5]) HSt.out HLO.out HS.out (M5.out.box.set6 (.slice C5 ys.length c5)))
  have L6 := Lib.hid (show Lies (w5.setCell ⟨w.heap.size, 6, none⟩ (.slice C5 ys.length c5)) (NewAt lo n (w.heap.size + 2) (w5.setCell ⟨w.heap.size, 6, none⟩ (.slice C5 ys.length c5))) _ _ _ from Lies.new_set L5.out (g := w.heap.size) (by have := HNM.out; have := HMS.out; omega) (by omega) 6 [.slice C5 ys.length c5])
  have T6 := Lib.hid (show Lies (w5.setCell ⟨w.heap.size, 6, none⟩ (.slice C5 ys.length c5)) (NewAt lo n (w.heap.size + 2) (w5.setCell ⟨w.heap.size, 6, none⟩ (.slice C5 ys.length c5))) _ _ _ from Lies.new_set T5.out (g := w.heap.size) (by have := HNM.out; have := HMS.out; omega) (by omega) 6 [.slice C5 ys.length c5])
  have K6 := Lib.hid (show Row (w5.setCell ⟨w.heap.size, 6, none⟩ (.slice C5 ys.length c5)) False (NewAt lo n (w.heap.size + 2) (w5.setCell ⟨w.heap.size, 6, none⟩ (.slice C5 ys.length c5))) _ _ _ _ from K5.out.new_set (g := w.heap.size) (by have := HNM.out; have := HMS.out; omega) (by omega) 6 [.slice C5 ys.length c5])
  obtain ⟨z0, z1, z2, z3, z4, z5, z6, z7⟩ := M6.out.box.box.c8
  have HT6 := Lib.hid (M6.out.res.there 0 8 (by simp))
  have HO6 := Lib.hid (show (#[.int .i64 k, .string s, .string r'.name, .slice A1 k1 c1, .int .i64 r'.off, .slice B3 rs.length b3, .slice C5 ys.length c5, .int .i64 o] : Array Value).all (·.oneCell') = true by simp [Value.oneCell'])
  clear L5 T5 K5 M5
  obtain ⟨W6, hW6⟩ : ∃ W6, W6 = (w5.setCell ⟨w.heap.size, 6, none⟩ (.slice C5 ys.length c5)).setCells (w.heap.size + 1) 0 [.int .i64 k, .string s, .string r'.name, .slice A1 k1 c1, .int .i64 r'.off, .slice B3 rs.length b3, .slice C5 ys.length c5, .int .i64 o] := ⟨_, rfl⟩
  have HW6 := Lib.hid hW6
  clear hW6
  go_wp2_with (refine store8m_at (b := w.heap.size + 1) (o := 0) (vs := #[.int .i64 k, .string s, .string r'.name, .slice A1 k1 c1, .int .i64 r'.off, .slice B3 rs.length b3, .slice C5 ys.length c5, .int .i64 o]) rfl rfl HT6.out HO6.out sizeE8 ?_; show wpList _ _ _ _ _ ((w5.setCell ⟨w.heap.size, 6, none⟩ (.slice C5 ys.length c5)).setCells (w.heap.size + 1) 0 [.int .i64 k, .string s, .string r'.name, .slice A1 k1 c1, .int .i64 r'.off, .slice B3 rs.length b3, .slice C5 ys.length c5, .int .i64 o]); rw [← HW6.out])
  have hres : BoxF W6 (w.heap.size + 1) [.int .i64 k, .string s, .string r'.name, .slice A1 k1 c1, .int .i64 r'.off, .slice B3 rs.length b3, .slice C5 ys.length c5, .int .i64 o] := by rw [HW6.out]; exact M6.out.res.setAll rfl
  obtain ⟨y0, y1, y2, y3, y4, y5, y6, y7⟩ := hres.box.c8
  refine bodyPost_ret (v := .agg #[.int .i64 k, .string s, .string r'.name, .slice A1 k1 c1, .int .i64 r'.off, .slice B3 rs.length b3, .slice C5 ys.length c5, .int .i64 o]) (by simp [results, Tryd.results51, go_sem, y0, y1, y2, y3, y4, y5, y6, y7]) rfl ?_
  have hup : ∀ b, NewAt lo n (w.heap.size + 2) W6 b → NewOr lo n w W6 b := fun b h => h.wide (by omega) (Nat.le_refl _)
  have hg1 : n ≤ w.heap.size + 1 := by have := HNM.out; have := HMS.out; omega
  refine ⟨_, rfl, ?_, ?_, ?_⟩
  · rw [HW6.out] at hup ⊢
    exact ex_shut (e := .mk k s r' rs ys o) HSZ.out N1.out ((Lies.new_set L6.out hg1 (by omega) _ _).wide hup) ((Lies.new_set T6.out hg1 (by omega) _ _).wide hup) ((K6.out.new_set hg1 (by omega) _ _).wide hup) HC5.out
  · rw [HW6.out]; exact M6.out.mv.setCells HLO.out (by omega) _ _
  · rw [HW6.out]; exact HSt.out _ _ _ (below_cells (by have := HS.out; omega) _ _ _) M6.out.st

set_option maxRecDepth 100000 in
set_option maxHeartbeats 16000000 in
theorem mapped_R (p8 p9 : Nat) (lo n m s0 : Nat) (St : Nat → World → Prop) (hSt : ∀ i V V', Below s0 V V' → St i V → St i V') (hlo : lo ≤ s0) (hnm : n ≤ m) (hms : m ≤ s0) (k : Int) (s : ByteArray) (t r' : Ty) (ts rs : List Ty) (xs ys : List Ex) (o : Int) (i0 : Nat) (st : Nat → Nat)
    (hrl : rs.length = ts.length) (hyl : ys.length = xs.length) (h1 : TCall 54 #[] lo n m s0 St t r' i0) (h2 : ∀ j t r, ts[j]? = some t → rs[j]? = some r → TCall 54 #[] lo n m s0 St t r (i0 + 1 + j))
    (hst0 : st 0 = i0 + 1 + rs.length) (h3 : ∀ j x y, xs[j]? = some x → ys[j]? = some y → KCall 56 #[.pointer (some ⟨p8, 0, none⟩), .pointer (some ⟨p9, 0, none⟩)] lo n m s0 St x y (st j) (st (j + 1))) (us : List Value) (w : World) (hs : s0 ≤ w.heap.size) (h0 : St i0 w)
    (htq : ts.length ≤ 1000000) (hxq : xs.length ≤ 1000000) (h : (Ex.dat (.mk k s t ts xs o)).In w False (Safe n m w) us) :
    Calls Tryd.prog 51 #[.agg us.toArray, .func (.func 54) #[] #[], .func (.func 56) #[] #[.pointer (some ⟨p8, 0, none⟩), .pointer (some ⟨p9, 0, none⟩)]] w (KGot lo n m St (.mk k s r' rs ys o) (st ys.length) w) := by
  obtain ⟨A, q, a, B, l, b, C, r, c, rfl, hsz, htz, ha, hb, hc⟩ := ex_open h
  simp only [Ex.kind, Ex.name, Ex.ty, Ex.targs, Ex.kids, Ex.off] at hsz htz ha hb hc ⊢
  have htl := hb.len
  have hxl := hc.len
  rw [Ex.dats_len] at hxl
  have hlo2 : lo ≤ w.heap.size := Nat.le_trans hlo hs
  have hms2 : m ≤ w.heap.size := Nat.le_trans hms hs
  have M0 := Lib.hid (Mp.new (lo := lo) (n := n) (m := m) (s0 := s0) (us := [.int .i64 k, .string s, .string t.name, .slice A q a, .int .i64 t.off, .slice B l b, .slice C r c, .int .i64 o]) hSt hlo2 hs h0)
  have HSt := Lib.hid hSt
  have HLO := Lib.hid hlo2
  have HMS := Lib.hid hms2
  have HNM := Lib.hid hnm
  have HS := Lib.hid hs
  have HSZ := Lib.hid hsz
  have HB := Lib.hid hb
  have HC := Lib.hid hc
  have HRL := Lib.hid (show rs.length = l by omega)
  have HYL := Lib.hid (show ys.length = r by omega)
  have C1 := Lib.hid (show Calls Tryd.prog 54 #[.agg #[.string t.name, .slice A q a, .int .i64 t.off]] _ _ from h1 A q a _ (by have := M0.out.big; omega) M0.out.st htz (Lies.mv ha M0.out.mv))
  have C2 := Lib.hid (fun (V : World) (hV : Mv lo n m w V) (hz : St (i0 + 1) V) => eachT_C lo n m s0 St hSt hlo hnm hms ts rs (i0 + 1) hrl h2 B l b V (by omega) (by have := hV.size; omega) hz (Lies.mv hb hV))
  have C3 := Lib.hid (fun (V : World) (hV : Mv lo n m w V) (hz : St (i0 + 1 + rs.length) V) => eachE_R p8 p9 lo n m s0 St hSt hlo hnm hms xs ys st hyl h3 C r c V (by omega) (by have := hV.size; omega) (by rw [hst0]; exact hz) (hc.mv hV))
  obtain ⟨x0, x1, x2, x3, x4, x5, x6, x7⟩ := M0.out.box.box.c8
  clear h1 h2 h3 hSt hlo hnm hms hs h0 h hsz htz ha hb hc hlo2 hms2 hrl hyl hst0 htq hxq htl hxl
  go_enter Tryd.func51, Tryd.ntmps51
  go_wp2_with fail
  refine C1.out.mono ?_
  rintro e w1 ⟨A1, k1, c1, rfl, hn1, hl1, hm1, hs1⟩
  have M1 := Lib.hid (M0.out.call HMS.out hm1 hs1)
  have N1 := Lib.hid hn1
  have L1 := Lib.hid (show Lies w1 (NewAt lo n (w.heap.size + 2) w1) A1 k1 r'.args from hl1.wide fun _ h => h.wide M0.out.big (Nat.le_refl _))
  clear hm1 hs1 hn1 hl1 C1 M0 x0 x1 x2 x3 x4 x5 x6 x7
  obtain ⟨x0, x1, x2, x3, x4, x5, x6, x7⟩ := M1.out.box.box.c8
  have HT1 := Lib.hid (M1.out.box.there 2 3 (by simp))
  have HO1 := Lib.hid (show (#[.string r'.name, .slice A1 k1 c1, .int .i64 r'.off] : Array Value).all (·.oneCell') = true by simp [Value.oneCell'])
  have M2 := Lib.hid (M1.out.set (us' := [.int .i64 k, .string s, .string r'.name, .slice A1 k1 c1, .int .i64 r'.off, .slice B l b, .slice C r c, .int .i64 o]) HSt.out HLO.out HS.out (M1.out.box.set234 (.string r'.name) (.slice A1 k1 c1) (.int .i64 r'.off)))
  have L2 := Lib.hid (Lies.new_set L1.out (g := w.heap.size) (by have := HNM.out; have := HMS.out; omega) (by omega) 2 [.string r'.name, .slice A1 k1 c1, .int .i64 r'.off])
  have D2 := Lib.hid (C2.out _ M2.out.mv M2.out.st)
  obtain ⟨z0, z1, z2, z3, z4, z5, z6, z7⟩ := M2.out.box.box.c8
  clear L1 M1 C2 x0 x1 x5 x6 x7
  obtain ⟨W2, hW2⟩ : ∃ W2, W2 = w1.setCells w.heap.size 2 [.string r'.name, .slice A1 k1 c1, .int .i64 r'.off] := ⟨_, rfl⟩
  rw [← hW2] at M2 L2 D2 z0 z1 z2 z3 z4 z5 z6 z7
  have HW2 := Lib.hid hW2
  clear hW2
  go_wp2_with (refine store3_at (b := w.heap.size) (o := 2) (vs := #[.string r'.name, .slice A1 k1 c1, .int .i64 r'.off]) rfl rfl HT1.out HO1.out sizeT3 ?_; show wpList _ _ _ _ _ (w1.setCells w.heap.size 2 [.string r'.name, .slice A1 k1 c1, .int .i64 r'.off]); rw [← HW2.out])
  refine D2.out.mono ?_
  rintro e w3 ⟨B3, b3, rfl, hl3, hm3, hs3⟩
  have M3 := Lib.hid (M2.out.call HMS.out hm3 hs3)
  have L3 := Lib.hid (Lies.new_mv L2.out (by have := HMS.out; omega) hm3)
  have T3 := Lib.hid (show Lies w3 (NewAt lo n (w.heap.size + 2) w3) B3 rs.length rs from hl3.wide fun _ h => h.wide M2.out.big (Nat.le_refl _))
  clear hm3 hs3 hl3 D2 M2 L2 z0 z1 z2 z3 z4 z5 z6 z7 x2 x3 x4 HW2 HT1 HO1
  obtain ⟨x0, x1, x2, x3, x4, x5, x6, x7⟩ := M3.out.box.box.c8
  have f5 := M3.out.box.free 5 (by simp)
  have M4 := Lib.hid (show Mp lo n m s0 St w (w3.setCell ⟨w.heap.size, 5, none⟩ (.slice B3 rs.length b3)) _ _ from M3.out.set (vs := [.slice B3 rs.length b3]) HSt.out HLO.out HS.out (M3.out.box.set5 (.slice B3 rs.length b3)))
  have L4 := Lib.hid (show Lies (w3.setCell ⟨w.heap.size, 5, none⟩ (.slice B3 rs.length b3)) (NewAt lo n (w.heap.size + 2) (w3.setCell ⟨w.heap.size, 5, none⟩ (.slice B3 rs.length b3))) _ _ _ from Lies.new_set L3.out (g := w.heap.size) (by have := HNM.out; have := HMS.out; omega) (by omega) 5 [.slice B3 rs.length b3])
  have T4 := Lib.hid (show Lies (w3.setCell ⟨w.heap.size, 5, none⟩ (.slice B3 rs.length b3)) (NewAt lo n (w.heap.size + 2) (w3.setCell ⟨w.heap.size, 5, none⟩ (.slice B3 rs.length b3))) _ _ _ from Lies.new_set T3.out (g := w.heap.size) (by have := HNM.out; have := HMS.out; omega) (by omega) 5 [.slice B3 rs.length b3])
  have D3 := Lib.hid (C3.out _ M4.out.mv M4.out.st)
  obtain ⟨z0, z1, z2, z3, z4, z5, z6, z7⟩ := M4.out.box.box.c8
  clear L3 T3 M3 C3
  go_wp2_with fail
  refine D3.out.mono ?_
  rintro e w5 ⟨C5, c5, rfl, hc5, hr5, hm5, hs5⟩
  have M5 := Lib.hid (M4.out.call HMS.out hm5 hs5)
  have L5 := Lib.hid (Lies.new_mv L4.out (by have := HMS.out; omega) hm5)
  have T5 := Lib.hid (Lies.new_mv T4.out (by have := HMS.out; omega) hm5)
  have K5 := Lib.hid (show Row w5 False (NewAt lo n (w.heap.size + 2) w5) 8 C5 ys.length (Ex.dats ys) from hr5.wide fun _ h => h.wide M4.out.big (Nat.le_refl _))
  have HC5 := Lib.hid hc5
  clear hm5 hs5 hr5 hc5 D3 M4 L4 T4 z0 z1 z2 z3 z4 z5 z6 z7 x0 x1 x2 x3 x4 x5 x6 x7 f5
  obtain ⟨x0, x1, x2, x3, x4, x5, x6, x7⟩ := M5.out.box.box.c8
  have f6 := M5.out.box.free 6 (by simp)
  have M6 := Lib.hid (show Mp lo n m s0 St w (w5.setCell ⟨w.heap.size, 6, none⟩ (.slice C5 ys.length c5)) _ _ from M5.out.set (vs := [.slice C5 ys.length c5]) HSt.out HLO.out HS.out (M5.out.box.set6 (.slice C5 ys.length c5)))
  have L6 := Lib.hid (show Lies (w5.setCell ⟨w.heap.size, 6, none⟩ (.slice C5 ys.length c5)) (NewAt lo n (w.heap.size + 2) (w5.setCell ⟨w.heap.size, 6, none⟩ (.slice C5 ys.length c5))) _ _ _ from Lies.new_set L5.out (g := w.heap.size) (by have := HNM.out; have := HMS.out; omega) (by omega) 6 [.slice C5 ys.length c5])
  have T6 := Lib.hid (show Lies (w5.setCell ⟨w.heap.size, 6, none⟩ (.slice C5 ys.length c5)) (NewAt lo n (w.heap.size + 2) (w5.setCell ⟨w.heap.size, 6, none⟩ (.slice C5 ys.length c5))) _ _ _ from Lies.new_set T5.out (g := w.heap.size) (by have := HNM.out; have := HMS.out; omega) (by omega) 6 [.slice C5 ys.length c5])
  have K6 := Lib.hid (show Row (w5.setCell ⟨w.heap.size, 6, none⟩ (.slice C5 ys.length c5)) False (NewAt lo n (w.heap.size + 2) (w5.setCell ⟨w.heap.size, 6, none⟩ (.slice C5 ys.length c5))) _ _ _ _ from K5.out.new_set (g := w.heap.size) (by have := HNM.out; have := HMS.out; omega) (by omega) 6 [.slice C5 ys.length c5])
  obtain ⟨z0, z1, z2, z3, z4, z5, z6, z7⟩ := M6.out.box.box.c8
  have HT6 := Lib.hid (M6.out.res.there 0 8 (by simp))
  have HO6 := Lib.hid (show (#[.int .i64 k, .string s, .string r'.name, .slice A1 k1 c1, .int .i64 r'.off, .slice B3 rs.length b3, .slice C5 ys.length c5, .int .i64 o] : Array Value).all (·.oneCell') = true by simp [Value.oneCell'])
  clear L5 T5 K5 M5
  obtain ⟨W6, hW6⟩ : ∃ W6, W6 = (w5.setCell ⟨w.heap.size, 6, none⟩ (.slice C5 ys.length c5)).setCells (w.heap.size + 1) 0 [.int .i64 k, .string s, .string r'.name, .slice A1 k1 c1, .int .i64 r'.off, .slice B3 rs.length b3, .slice C5 ys.length c5, .int .i64 o] := ⟨_, rfl⟩
  have HW6 := Lib.hid hW6
  clear hW6
  go_wp2_with (refine store8m_at (b := w.heap.size + 1) (o := 0) (vs := #[.int .i64 k, .string s, .string r'.name, .slice A1 k1 c1, .int .i64 r'.off, .slice B3 rs.length b3, .slice C5 ys.length c5, .int .i64 o]) rfl rfl HT6.out HO6.out sizeE8 ?_; show wpList _ _ _ _ _ ((w5.setCell ⟨w.heap.size, 6, none⟩ (.slice C5 ys.length c5)).setCells (w.heap.size + 1) 0 [.int .i64 k, .string s, .string r'.name, .slice A1 k1 c1, .int .i64 r'.off, .slice B3 rs.length b3, .slice C5 ys.length c5, .int .i64 o]); rw [← HW6.out])
  have hres : BoxF W6 (w.heap.size + 1) [.int .i64 k, .string s, .string r'.name, .slice A1 k1 c1, .int .i64 r'.off, .slice B3 rs.length b3, .slice C5 ys.length c5, .int .i64 o] := by rw [HW6.out]; exact M6.out.res.setAll rfl
  obtain ⟨y0, y1, y2, y3, y4, y5, y6, y7⟩ := hres.box.c8
  refine bodyPost_ret (v := .agg #[.int .i64 k, .string s, .string r'.name, .slice A1 k1 c1, .int .i64 r'.off, .slice B3 rs.length b3, .slice C5 ys.length c5, .int .i64 o]) (by simp [results, Tryd.results51, go_sem, y0, y1, y2, y3, y4, y5, y6, y7]) rfl ?_
  have hup : ∀ b, NewAt lo n (w.heap.size + 2) W6 b → NewOr lo n w W6 b := fun b h => h.wide (by omega) (Nat.le_refl _)
  have hg1 : n ≤ w.heap.size + 1 := by have := HNM.out; have := HMS.out; omega
  refine ⟨_, rfl, ?_, ?_, ?_⟩
  · rw [HW6.out] at hup ⊢
    exact ex_shut (e := .mk k s r' rs ys o) HSZ.out N1.out ((Lies.new_set L6.out hg1 (by omega) _ _).wide hup) ((Lies.new_set T6.out hg1 (by omega) _ _).wide hup) ((K6.out.new_set hg1 (by omega) _ _).wide hup) HC5.out
  · rw [HW6.out]; exact M6.out.mv.setCells HLO.out (by omega) _ _
  · rw [HW6.out]; exact HSt.out _ _ _ (below_cells (by have := HS.out; omega) _ _ _) M6.out.st
end Go.Proofs.YtaaemebghkobkaaDoor
