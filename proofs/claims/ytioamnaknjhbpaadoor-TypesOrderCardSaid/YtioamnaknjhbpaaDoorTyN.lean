/- The walk of the law TypesMatchReference over the contracts of package types: true, at every input. -/
import Derived.Test.YtioamnaknjhbpaaDoorTyM
import Derived.Deep.RegionHeld3
namespace Go.Proofs.YtioamnaknjhbpaaDoor
open Go.RowKit

theorem CmpPost.from {X V w' : World} {c : Int} {e : Ending} (hV : Below X.heap.size X V) (h : CmpPost V c e w') : CmpPost X c e w' := ⟨h.1, hV.trans (h.2.mono hV.size)⟩
theorem EqvPost.from {X V w' : World} {c : Bool} {e : Ending} (hV : Below X.heap.size X V) (h : EqvPost V c e w') : EqvPost X c e w' := ⟨h.1, hV.trans (h.2.mono hV.size)⟩
theorem TxtPost.from {X V w' : World} {c : List UInt8} {e : Ending} (hV : Below X.heap.size X V) (h : TxtPost V c e w') : TxtPost X c e w' := ⟨h.1, hV.trans (h.2.mono hV.size)⟩
theorem NatPost.from {X V w' : World} {c : Nat} {e : Ending} (hV : Below X.heap.size X V) (h : NatPost V c e w') : NatPost X c e w' := ⟨h.1, hV.trans (h.2.mono hV.size)⟩
/-- A list of strings that the call has made, by its length. -/
def LenPost (w : World) (n : Nat) (e : Ending) (w' : World) : Prop := ∃ g cap, e = .returned (.slice (some ⟨g, 0, none⟩) n cap) ∧ Below w.heap.size w w'
theorem ListPost.from {X V w' : World} {l : List ByteArray} {e : Ending} (hV : Below X.heap.size X V) (h : ListPost V l e w') : LenPost X l.length e w' := by
  obtain ⟨g, cap, he, _, hb⟩ := h
  exact ⟨g, cap, he, hV.trans (hb.mono hV.size)⟩
theorem few_cnt {t : Ty} (h : t.few = true) : t.cnt 0 ≤ 200 := by
  unfold Ty.few at h
  exact of_decide_eq_true h
theorem few_small {t : Ty} (h : t.few = true) : t.Small := Ty.small_of_wt (Ty.wt_of_cnt (few_cnt h))
theorem two_below (w : World) (x y : Obj) : Below w.heap.size w ((w.alloc x).alloc y) := ((Below.refl _ _).alloc (Nat.le_refl _) _).alloc (by simp) _
theorem two_boxes (w : World) (s r : ByteArray) (A B : Option Addr) (m l c d : Nat) (o p : Int) (T : TypeId) :
    Box ((w.alloc (.cells #[.string s, .slice A m c, .int .i64 o] T)).alloc (.cells #[.string r, .slice B l d, .int .i64 p] T)) w.heap.size s A m c o ∧ Box ((w.alloc (.cells #[.string s, .slice A m c, .int .i64 o] T)).alloc (.cells #[.string r, .slice B l d, .int .i64 p] T)) (w.heap.size + 1) r B l d p := by
  refine ⟨(Box.new w s A m c o T).later ((Below.refl _ _).alloc (Nat.le_refl _) _), ?_⟩
  have h := Box.new (w.alloc (.cells #[.string s, .slice A m c, .int .i64 o] T)) r B l d p T
  rwa [show (w.alloc (.cells #[.string s, .slice A m c, .int .i64 o] T)).heap.size = w.heap.size + 1 by simp] at h

set_option maxRecDepth 100000 in
set_option maxHeartbeats 8000000 in
theorem types_match_any (L : TypesOk) (a b : Ty) (A B : Option Addr) (m l c d : Nat) (w : World) (ha : a.name.size ≤ 9223372036854775807) (hb : b.name.size ≤ 9223372036854775807) (h1 : Here w A m a.args) (h2 : Here w B l b.args) (hE : ResVar w) :
    Calls Tryd.prog 3 #[.agg #[.string a.name, .slice A m c, .int .i64 a.off], .agg #[.string b.name, .slice B l d, .int .i64 b.off]] w fun e w' => e = .returned (.bool true) ∧ Below w.heap.size w w' := by
  have hw := two_below w (.cells #[.string a.name, .slice A m c, .int .i64 a.off] 24) (.cells #[.string b.name, .slice B l d, .int .i64 b.off] 24)
  have hx := two_boxes w a.name b.name A B m l c d a.off b.off 24
  have HX := Lib.hid hx.1
  have HY := Lib.hid hx.2
  have H1 := Lib.hid (Here.later h1 hw)
  have H2 := Lib.hid (Here.later h2 hw)
  have HE := Lib.hid (hE.later hw)
  have HB := Lib.hid hw
  obtain ⟨fa, hfa⟩ : ∃ x, a.few = x := ⟨_, rfl⟩
  obtain ⟨fb, hfb⟩ : ∃ x, b.few = x := ⟨_, rfl⟩
  have HFA := Lib.hid hfa
  have HFB := Lib.hid hfb
  clear hw hx h1 h2 hE hfa hfb
  go_enter Tryd.func3, Tryd.ntmps3
  go_wp2_with fail
  generalize hW : (w.alloc (.cells #[.string a.name, .slice A m c, .int .i64 a.off] 24)).alloc (.cells #[.string b.name, .slice B l d, .int .i64 b.off] 24) = W at *
  clear hW
  refine (awake_any L _ HE.out).mono ?_
  rintro e w1 ⟨rfl, hb1⟩
  have HB1 := Lib.hid (HB.out.trans (hb1.mono HB.out.size))
  have HE1 := Lib.hid (HE.out.later hb1)
  have H11 := Lib.hid (Here.later H1.out hb1)
  have H21 := Lib.hid (Here.later H2.out hb1)
  obtain ⟨x0, x1, x2⟩ := HX.out.later hb1
  obtain ⟨y0, y1, y2⟩ := HY.out.later hb1
  have HX1 := Lib.hid (HX.out.later hb1)
  have HY1 := Lib.hid (HY.out.later hb1)
  clear hb1 HB HE H1 H2 HX HY
  go_wp2_with fail
  refine (few_any a A m c _ ha H11.out).mono ?_
  rintro e w2 ⟨rfl, hb2⟩
  rw [HFA.out]
  have HB2 := Lib.hid (HB1.out.trans (hb2.mono HB1.out.size))
  have HE2 := Lib.hid (HE1.out.later hb2)
  have H12 := Lib.hid (Here.later H11.out hb2)
  have H22 := Lib.hid (Here.later H21.out hb2)
  have HX2 := Lib.hid (HX1.out.later hb2)
  have HY2 := Lib.hid (HY1.out.later hb2)
  clear hb2 HB1 HE1 H11 H21 HX1 HY1 x0 x1 x2 y0 y1 y2
  cases fa
  · go_wp2_with fail
    refine (awake_any L _ HE2.out).mono ?_
    rintro e w3 ⟨rfl, hb3⟩
    have HB3 := Lib.hid (HB2.out.trans (hb3.mono HB2.out.size))
    clear hb3
    go_wp2_with fail
    go_ret
    exact ⟨rfl, HB3.out⟩
  · obtain ⟨x0, x1, x2⟩ := HX2.out
    obtain ⟨y0, y1, y2⟩ := HY2.out
    go_wp2_with fail
    refine (few_any b B l d _ hb H22.out).mono ?_
    rintro e w3 ⟨rfl, hb3⟩
    rw [HFB.out]
    have HB3 := Lib.hid (HB2.out.trans (hb3.mono HB2.out.size))
    have HE3 := Lib.hid (HE2.out.later hb3)
    have H13 := Lib.hid (Here.later H12.out hb3)
    have H23 := Lib.hid (Here.later H22.out hb3)
    have HX3 := Lib.hid (HX2.out.later hb3)
    have HY3 := Lib.hid (HY2.out.later hb3)
    clear hb3 HB2 HE2 H12 H22 HX2 HY2 x0 x1 x2 y0 y1 y2
    cases fb
    · go_wp2_with fail
      refine (awake_any L _ HE3.out).mono ?_
      rintro e w4 ⟨rfl, hb4⟩
      have HB4 := Lib.hid (HB3.out.trans (hb4.mono HB3.out.size))
      clear hb4
      go_wp2_with fail
      go_ret
      exact ⟨rfl, HB4.out⟩
    have sa := few_small HFA.out
    have sb := few_small HFB.out
    have SA := Lib.hid sa
    have SB := Lib.hid sb
    have HTI := Lib.hid (fun (h1 : a.right = true) (h2 : b.right = true) => Ty.text_iff h1 h2)
    have na : ∀ s ∈ a.list, s.size ≤ 9223372036854775807 := fun s hs => Nat.le_trans (sa.names s hs) (by omega)
    have nb : ∀ s ∈ b.list, s.size ≤ 9223372036854775807 := fun s hs => Nat.le_trans (sb.names s hs) (by omega)
    have NA := Lib.hid na
    have NB := Lib.hid nb
    clear sa sb na nb
    obtain ⟨x0, x1, x2⟩ := HX3.out
    obtain ⟨y0, y1, y2⟩ := HY3.out
    go_wp2_with fail
    refine (L.cmp a b A B m l c d _ SA.out SB.out H13.out H23.out).mono ?_
    rintro e X ⟨rfl, hbX⟩
    have HB4 := Lib.hid (HB3.out.trans (hbX.mono HB3.out.size))
    have H1 := Lib.hid (Here.later H13.out hbX)
    have H2 := Lib.hid (Here.later H23.out hbX)
    have HE4 := Lib.hid (HE3.out.later hbX)
    have HX := Lib.hid (HX3.out.later hbX)
    have HY := Lib.hid (HY3.out.later hbX)
    clear hbX HB3 HE3 H13 H23 HX3 HY3 x0 x1 x2 y0 y1 y2
    obtain ⟨x0, x1, x2⟩ := HX.out
    obtain ⟨y0, y1, y2⟩ := HY.out
    have l0 := cell_lt x0
    have l1 := cell_lt y0
    have CCr := Lib.hid (fun (V : World) (hV : Below X.heap.size X V) => (ref_cmp_any a b A B m l c d V ha hb (Here.later H1.out hV) (Here.later H2.out hV)).mono fun e w' h => CmpPost.from hV h)
    have CEs := Lib.hid (fun (V : World) (hV : Below X.heap.size X V) => (L.same a b A B m l c d V SA.out SB.out (Here.later H1.out hV) (Here.later H2.out hV)).mono fun e w' h => EqvPost.from hV h)
    have CTp := Lib.hid (fun (V : World) (hV : Below X.heap.size X V) => (L.text a A m c V SA.out (Here.later H1.out hV)).mono fun e w' h => TxtPost.from hV h)
    have CTr := Lib.hid (fun (V : World) (hV : Below X.heap.size X V) => (ref_text_any a A m c V SA.out.text (Here.later H1.out hV)).mono fun e w' h => TxtPost.from hV h)
    have CNp := Lib.hid (fun (V : World) (hV : Below X.heap.size X V) => (L.depth a A m c V SA.out (Here.later H1.out hV)).mono fun e w' h => NatPost.from hV h)
    have CNr := Lib.hid (fun (V : World) (hV : Below X.heap.size X V) => (ref_depth_any a A m c V (Nat.le_trans SA.out.depth (by omega)) (Here.later H1.out hV)).mono fun e w' h => NatPost.from hV h)
    have CNs := Lib.hid (fun (V : World) (hV : Below X.heap.size X V) => (L.size a A m c V SA.out (Here.later H1.out hV)).mono fun e w' h => NatPost.from hV h)
    have CLr := Lib.hid (fun (V : World) (hV : Below X.heap.size X V) => (ref_list_any a A m c V (Nat.le_trans SA.out.list (by omega)) (Here.later H1.out hV)).mono fun e w' h => ListPost.from hV h)
    have CEp := Lib.hid (fun (V : World) (hV : Below X.heap.size X V) => (L.right a A m c V (HE4.out.later hV) SA.out (Here.later H1.out hV)).mono fun e w' h => EqvPost.from hV h)
    have CEr := Lib.hid (fun (V : World) (hV : Below X.heap.size X V) => (ref_right_any a A m c V (Nat.le_trans SA.out.list (by omega)) NA.out (Here.later H1.out hV)).mono fun e w' h => EqvPost.from hV h)
    have CEq := Lib.hid (fun (V : World) (hV : Below X.heap.size X V) => (ref_right_any b B l d V (Nat.le_trans SB.out.list (by omega)) NB.out (Here.later H2.out hV)).mono fun e w' h => EqvPost.from hV h)
    have CTq := Lib.hid (fun (V : World) (hV : Below X.heap.size X V) => (L.text b B l d V SB.out (Here.later H2.out hV)).mono fun e w' h => TxtPost.from hV h)
    generalize hk : a.cmp b = k at *
    generalize htx : a.text = TX at *
    generalize hty : b.text = TY at *
    generalize a.depth = DP at *
    generalize a.list.length = LN at *
    generalize hra : a.right = RA at *
    generalize hrb : b.right = RB at *
    have SS : Below X.heap.size X X ∧ X.cell? ⟨w.heap.size, 0, none⟩ = some (.string a.name) ∧ X.cell? ⟨w.heap.size, 1, none⟩ = some (.slice A m c) ∧ X.cell? ⟨w.heap.size, 2, none⟩ = some (.int .i64 a.off) ∧ X.cell? ⟨w.heap.size + 1, 0, none⟩ = some (.string b.name) ∧ X.cell? ⟨w.heap.size + 1, 1, none⟩ = some (.slice B l d) ∧ X.cell? ⟨w.heap.size + 1, 2, none⟩ = some (.int .i64 b.off) := ⟨Below.refl _ _, x0, x1, x2, y0, y1, y2⟩
    go_wp2_with fail
    go_region_held3 (fun W => Below X.heap.size X W ∧ W.cell? ⟨w.heap.size, 0, none⟩ = some (.string a.name) ∧ W.cell? ⟨w.heap.size, 1, none⟩ = some (.slice A m c) ∧ W.cell? ⟨w.heap.size, 2, none⟩ = some (.int .i64 a.off) ∧ W.cell? ⟨w.heap.size + 1, 0, none⟩ = some (.string b.name) ∧ W.cell? ⟨w.heap.size + 1, 1, none⟩ = some (.slice B l d) ∧ W.cell? ⟨w.heap.size + 1, 2, none⟩ = some (.int .i64 b.off))
      (first | exact SS | exact ⟨SS.1.drew, SS.2⟩)
      (first
        | (go_at_call 12; refine (CCr.out _ ?_).mono ?_; (first | exact SS.1 | exact SS.1.drew); rintro e v1 ⟨rfl, hb⟩; have SS : Below X.heap.size X v1 ∧ v1.cell? ⟨w.heap.size, 0, none⟩ = some (.string a.name) ∧ v1.cell? ⟨w.heap.size, 1, none⟩ = some (.slice A m c) ∧ v1.cell? ⟨w.heap.size, 2, none⟩ = some (.int .i64 a.off) ∧ v1.cell? ⟨w.heap.size + 1, 0, none⟩ = some (.string b.name) ∧ v1.cell? ⟨w.heap.size + 1, 1, none⟩ = some (.slice B l d) ∧ v1.cell? ⟨w.heap.size + 1, 2, none⟩ = some (.int .i64 b.off) := ⟨hb, (hb.cell l0).trans x0, (hb.cell (p := ⟨w.heap.size, 1, none⟩) l0).trans x1, (hb.cell (p := ⟨w.heap.size, 2, none⟩) l0).trans x2, (hb.cell l1).trans y0, (hb.cell (p := ⟨w.heap.size + 1, 1, none⟩) l1).trans y1, (hb.cell (p := ⟨w.heap.size + 1, 2, none⟩) l1).trans y2⟩; clear hb)
        | (go_at_call 13; refine (CEs.out _ ?_).mono ?_; (first | exact SS.1 | exact SS.1.drew); rintro e v1 ⟨rfl, hb⟩; have SS : Below X.heap.size X v1 ∧ v1.cell? ⟨w.heap.size, 0, none⟩ = some (.string a.name) ∧ v1.cell? ⟨w.heap.size, 1, none⟩ = some (.slice A m c) ∧ v1.cell? ⟨w.heap.size, 2, none⟩ = some (.int .i64 a.off) ∧ v1.cell? ⟨w.heap.size + 1, 0, none⟩ = some (.string b.name) ∧ v1.cell? ⟨w.heap.size + 1, 1, none⟩ = some (.slice B l d) ∧ v1.cell? ⟨w.heap.size + 1, 2, none⟩ = some (.int .i64 b.off) := ⟨hb, (hb.cell l0).trans x0, (hb.cell (p := ⟨w.heap.size, 1, none⟩) l0).trans x1, (hb.cell (p := ⟨w.heap.size, 2, none⟩) l0).trans x2, (hb.cell l1).trans y0, (hb.cell (p := ⟨w.heap.size + 1, 1, none⟩) l1).trans y1, (hb.cell (p := ⟨w.heap.size + 1, 2, none⟩) l1).trans y2⟩; clear hb)
        | (go_at_call 14; refine (CTp.out _ ?_).mono ?_; (first | exact SS.1 | exact SS.1.drew); rintro e v1 ⟨rfl, hb⟩; have SS : Below X.heap.size X v1 ∧ v1.cell? ⟨w.heap.size, 0, none⟩ = some (.string a.name) ∧ v1.cell? ⟨w.heap.size, 1, none⟩ = some (.slice A m c) ∧ v1.cell? ⟨w.heap.size, 2, none⟩ = some (.int .i64 a.off) ∧ v1.cell? ⟨w.heap.size + 1, 0, none⟩ = some (.string b.name) ∧ v1.cell? ⟨w.heap.size + 1, 1, none⟩ = some (.slice B l d) ∧ v1.cell? ⟨w.heap.size + 1, 2, none⟩ = some (.int .i64 b.off) := ⟨hb, (hb.cell l0).trans x0, (hb.cell (p := ⟨w.heap.size, 1, none⟩) l0).trans x1, (hb.cell (p := ⟨w.heap.size, 2, none⟩) l0).trans x2, (hb.cell l1).trans y0, (hb.cell (p := ⟨w.heap.size + 1, 1, none⟩) l1).trans y1, (hb.cell (p := ⟨w.heap.size + 1, 2, none⟩) l1).trans y2⟩; clear hb)
        | (go_at_call 15; refine (CTr.out _ ?_).mono ?_; (first | exact SS.1 | exact SS.1.drew); rintro e v1 ⟨rfl, hb⟩; have SS : Below X.heap.size X v1 ∧ v1.cell? ⟨w.heap.size, 0, none⟩ = some (.string a.name) ∧ v1.cell? ⟨w.heap.size, 1, none⟩ = some (.slice A m c) ∧ v1.cell? ⟨w.heap.size, 2, none⟩ = some (.int .i64 a.off) ∧ v1.cell? ⟨w.heap.size + 1, 0, none⟩ = some (.string b.name) ∧ v1.cell? ⟨w.heap.size + 1, 1, none⟩ = some (.slice B l d) ∧ v1.cell? ⟨w.heap.size + 1, 2, none⟩ = some (.int .i64 b.off) := ⟨hb, (hb.cell l0).trans x0, (hb.cell (p := ⟨w.heap.size, 1, none⟩) l0).trans x1, (hb.cell (p := ⟨w.heap.size, 2, none⟩) l0).trans x2, (hb.cell l1).trans y0, (hb.cell (p := ⟨w.heap.size + 1, 1, none⟩) l1).trans y1, (hb.cell (p := ⟨w.heap.size + 1, 2, none⟩) l1).trans y2⟩; clear hb)
        | (go_at_call 16; refine (CNp.out _ ?_).mono ?_; (first | exact SS.1 | exact SS.1.drew); rintro e v1 ⟨rfl, hb⟩; have SS : Below X.heap.size X v1 ∧ v1.cell? ⟨w.heap.size, 0, none⟩ = some (.string a.name) ∧ v1.cell? ⟨w.heap.size, 1, none⟩ = some (.slice A m c) ∧ v1.cell? ⟨w.heap.size, 2, none⟩ = some (.int .i64 a.off) ∧ v1.cell? ⟨w.heap.size + 1, 0, none⟩ = some (.string b.name) ∧ v1.cell? ⟨w.heap.size + 1, 1, none⟩ = some (.slice B l d) ∧ v1.cell? ⟨w.heap.size + 1, 2, none⟩ = some (.int .i64 b.off) := ⟨hb, (hb.cell l0).trans x0, (hb.cell (p := ⟨w.heap.size, 1, none⟩) l0).trans x1, (hb.cell (p := ⟨w.heap.size, 2, none⟩) l0).trans x2, (hb.cell l1).trans y0, (hb.cell (p := ⟨w.heap.size + 1, 1, none⟩) l1).trans y1, (hb.cell (p := ⟨w.heap.size + 1, 2, none⟩) l1).trans y2⟩; clear hb)
        | (go_at_call 17; refine (CNr.out _ ?_).mono ?_; (first | exact SS.1 | exact SS.1.drew); rintro e v1 ⟨rfl, hb⟩; have SS : Below X.heap.size X v1 ∧ v1.cell? ⟨w.heap.size, 0, none⟩ = some (.string a.name) ∧ v1.cell? ⟨w.heap.size, 1, none⟩ = some (.slice A m c) ∧ v1.cell? ⟨w.heap.size, 2, none⟩ = some (.int .i64 a.off) ∧ v1.cell? ⟨w.heap.size + 1, 0, none⟩ = some (.string b.name) ∧ v1.cell? ⟨w.heap.size + 1, 1, none⟩ = some (.slice B l d) ∧ v1.cell? ⟨w.heap.size + 1, 2, none⟩ = some (.int .i64 b.off) := ⟨hb, (hb.cell l0).trans x0, (hb.cell (p := ⟨w.heap.size, 1, none⟩) l0).trans x1, (hb.cell (p := ⟨w.heap.size, 2, none⟩) l0).trans x2, (hb.cell l1).trans y0, (hb.cell (p := ⟨w.heap.size + 1, 1, none⟩) l1).trans y1, (hb.cell (p := ⟨w.heap.size + 1, 2, none⟩) l1).trans y2⟩; clear hb)
        | (go_at_call 18; refine (CNs.out _ ?_).mono ?_; (first | exact SS.1 | exact SS.1.drew); rintro e v1 ⟨rfl, hb⟩; have SS : Below X.heap.size X v1 ∧ v1.cell? ⟨w.heap.size, 0, none⟩ = some (.string a.name) ∧ v1.cell? ⟨w.heap.size, 1, none⟩ = some (.slice A m c) ∧ v1.cell? ⟨w.heap.size, 2, none⟩ = some (.int .i64 a.off) ∧ v1.cell? ⟨w.heap.size + 1, 0, none⟩ = some (.string b.name) ∧ v1.cell? ⟨w.heap.size + 1, 1, none⟩ = some (.slice B l d) ∧ v1.cell? ⟨w.heap.size + 1, 2, none⟩ = some (.int .i64 b.off) := ⟨hb, (hb.cell l0).trans x0, (hb.cell (p := ⟨w.heap.size, 1, none⟩) l0).trans x1, (hb.cell (p := ⟨w.heap.size, 2, none⟩) l0).trans x2, (hb.cell l1).trans y0, (hb.cell (p := ⟨w.heap.size + 1, 1, none⟩) l1).trans y1, (hb.cell (p := ⟨w.heap.size + 1, 2, none⟩) l1).trans y2⟩; clear hb)
        | (go_at_call 19; refine (CLr.out _ ?_).mono ?_; (first | exact SS.1 | exact SS.1.drew); rintro e v1 ⟨gb, gc, rfl, hb⟩; have SS : Below X.heap.size X v1 ∧ v1.cell? ⟨w.heap.size, 0, none⟩ = some (.string a.name) ∧ v1.cell? ⟨w.heap.size, 1, none⟩ = some (.slice A m c) ∧ v1.cell? ⟨w.heap.size, 2, none⟩ = some (.int .i64 a.off) ∧ v1.cell? ⟨w.heap.size + 1, 0, none⟩ = some (.string b.name) ∧ v1.cell? ⟨w.heap.size + 1, 1, none⟩ = some (.slice B l d) ∧ v1.cell? ⟨w.heap.size + 1, 2, none⟩ = some (.int .i64 b.off) := ⟨hb, (hb.cell l0).trans x0, (hb.cell (p := ⟨w.heap.size, 1, none⟩) l0).trans x1, (hb.cell (p := ⟨w.heap.size, 2, none⟩) l0).trans x2, (hb.cell l1).trans y0, (hb.cell (p := ⟨w.heap.size + 1, 1, none⟩) l1).trans y1, (hb.cell (p := ⟨w.heap.size + 1, 2, none⟩) l1).trans y2⟩; clear hb)
        | (go_at_call 20; refine (CEp.out _ ?_).mono ?_; (first | exact SS.1 | exact SS.1.drew); rintro e v1 ⟨rfl, hb⟩; have SS : Below X.heap.size X v1 ∧ v1.cell? ⟨w.heap.size, 0, none⟩ = some (.string a.name) ∧ v1.cell? ⟨w.heap.size, 1, none⟩ = some (.slice A m c) ∧ v1.cell? ⟨w.heap.size, 2, none⟩ = some (.int .i64 a.off) ∧ v1.cell? ⟨w.heap.size + 1, 0, none⟩ = some (.string b.name) ∧ v1.cell? ⟨w.heap.size + 1, 1, none⟩ = some (.slice B l d) ∧ v1.cell? ⟨w.heap.size + 1, 2, none⟩ = some (.int .i64 b.off) := ⟨hb, (hb.cell l0).trans x0, (hb.cell (p := ⟨w.heap.size, 1, none⟩) l0).trans x1, (hb.cell (p := ⟨w.heap.size, 2, none⟩) l0).trans x2, (hb.cell l1).trans y0, (hb.cell (p := ⟨w.heap.size + 1, 1, none⟩) l1).trans y1, (hb.cell (p := ⟨w.heap.size + 1, 2, none⟩) l1).trans y2⟩; clear hb)
        | (go_at_call 21; refine (CEr.out _ ?_).mono ?_; (first | exact SS.1 | exact SS.1.drew); rintro e v1 ⟨rfl, hb⟩; have SS : Below X.heap.size X v1 ∧ v1.cell? ⟨w.heap.size, 0, none⟩ = some (.string a.name) ∧ v1.cell? ⟨w.heap.size, 1, none⟩ = some (.slice A m c) ∧ v1.cell? ⟨w.heap.size, 2, none⟩ = some (.int .i64 a.off) ∧ v1.cell? ⟨w.heap.size + 1, 0, none⟩ = some (.string b.name) ∧ v1.cell? ⟨w.heap.size + 1, 1, none⟩ = some (.slice B l d) ∧ v1.cell? ⟨w.heap.size + 1, 2, none⟩ = some (.int .i64 b.off) := ⟨hb, (hb.cell l0).trans x0, (hb.cell (p := ⟨w.heap.size, 1, none⟩) l0).trans x1, (hb.cell (p := ⟨w.heap.size, 2, none⟩) l0).trans x2, (hb.cell l1).trans y0, (hb.cell (p := ⟨w.heap.size + 1, 1, none⟩) l1).trans y1, (hb.cell (p := ⟨w.heap.size + 1, 2, none⟩) l1).trans y2⟩; clear hb))
    go_wp2
    cases RA
    · refine wp_region_held_drew (S := fun W => Below X.heap.size X W ∧ W.cell? ⟨w.heap.size, 0, none⟩ = some (.string a.name) ∧ W.cell? ⟨w.heap.size, 1, none⟩ = some (.slice A m c) ∧ W.cell? ⟨w.heap.size, 2, none⟩ = some (.int .i64 a.off) ∧ W.cell? ⟨w.heap.size + 1, 0, none⟩ = some (.string b.name) ∧ W.cell? ⟨w.heap.size + 1, 1, none⟩ = some (.slice B l d) ∧ W.cell? ⟨w.heap.size + 1, 2, none⟩ = some (.int .i64 b.off)) (by kernel_rfl) ⟨SS.1.drew, SS.2⟩ (fun hS => ?_)
      first
      | (refine wpAnyH_take (i := 0) (v := ?_) rfl (by kernel_rfl) (by kernel_rfl) (by kernel_rfl) (fun _ _ _ h => h) (Or.inl ⟨by rfl, ?_⟩) (by assumption) ?_
         rotate_left
         · (intro V hV; obtain ⟨_, x0, x1, x2, y0, y1, y2⟩ := hV; go_simp; try with_reducible rfl)
         try simp only [Act.put, List.getElem_toArray, List.getElem_cons_zero, List.setIfInBounds_toArray, List.set_cons_zero, List.set_cons_succ])
      | (refine wpAnyH_take (i := 0) (v := undef) rfl (by kernel_rfl) (by kernel_rfl) (by kernel_rfl) (fun _ _ _ h => h) (Or.inr ⟨by rfl, rfl⟩) (by assumption) ?_
         try simp only [Act.put, List.getElem_toArray, List.getElem_cons_zero, List.setIfInBounds_toArray, List.set_cons_zero, List.set_cons_succ])
      | fail "take 0"
      refine wpAnyH_ready (rs := [1]) (by kernel_rfl) (by simp) ?_
      refine AllReadyH.cons rfl (fun K hK => ?_) AllReadyH.nil
      go_simp
      refine (CEr.out _ hS.1).mono ?_
      rintro e v1 ⟨rfl, hb⟩
      have SS : Below X.heap.size X v1 ∧ v1.cell? ⟨w.heap.size, 0, none⟩ = some (.string a.name) ∧ v1.cell? ⟨w.heap.size, 1, none⟩ = some (.slice A m c) ∧ v1.cell? ⟨w.heap.size, 2, none⟩ = some (.int .i64 a.off) ∧ v1.cell? ⟨w.heap.size + 1, 0, none⟩ = some (.string b.name) ∧ v1.cell? ⟨w.heap.size + 1, 1, none⟩ = some (.slice B l d) ∧ v1.cell? ⟨w.heap.size + 1, 2, none⟩ = some (.int .i64 b.off) := ⟨hb, (hb.cell l0).trans x0, (hb.cell (p := ⟨w.heap.size, 1, none⟩) l0).trans x1, (hb.cell (p := ⟨w.heap.size, 2, none⟩) l0).trans x2, (hb.cell l1).trans y0, (hb.cell (p := ⟨w.heap.size + 1, 1, none⟩) l1).trans y1, (hb.cell (p := ⟨w.heap.size + 1, 2, none⟩) l1).trans y2⟩
      clear hS hb
      refine hK.out _ _ SS (fun hS => ?_)
      clear hK K
      try simp only [Act.put, List.getElem_toArray, List.getElem_cons_zero, List.getElem_cons_succ, List.setIfInBounds_toArray, List.set_cons_zero, List.set_cons_succ]
      first
      | (refine wpAnyH_take (i := 2) (v := ?_) rfl (by kernel_rfl) (by kernel_rfl) (by kernel_rfl) (fun _ _ _ h => h) (Or.inl ⟨by rfl, ?_⟩) (by assumption) ?_
         rotate_left
         · (intro V hV; obtain ⟨_, x0, x1, x2, y0, y1, y2⟩ := hV; go_simp; try with_reducible rfl)
         try simp only [Act.put, List.getElem_toArray, List.getElem_cons_zero, List.getElem_cons_succ, List.setIfInBounds_toArray, List.set_cons_zero, List.set_cons_succ])
      | (refine wpAnyH_take (i := 2) (v := undef) rfl (by kernel_rfl) (by kernel_rfl) (by kernel_rfl) (fun _ _ _ h => h) (Or.inr ⟨by rfl, rfl⟩) (by assumption) ?_
         try simp only [Act.put, List.getElem_toArray, List.getElem_cons_zero, List.getElem_cons_succ, List.setIfInBounds_toArray, List.set_cons_zero, List.set_cons_succ])
      | fail "take 2"
      first
      | (refine wpAnyH_take (i := 3) (v := ?_) rfl (by kernel_rfl) (by kernel_rfl) (by kernel_rfl) (fun _ _ _ h => h) (Or.inl ⟨by rfl, ?_⟩) (by assumption) ?_
         rotate_left
         · (intro V hV; obtain ⟨_, x0, x1, x2, y0, y1, y2⟩ := hV; go_simp; try with_reducible rfl)
         try simp only [Act.put, List.getElem_toArray, List.getElem_cons_zero, List.getElem_cons_succ, List.setIfInBounds_toArray, List.set_cons_zero, List.set_cons_succ])
      | (refine wpAnyH_take (i := 3) (v := undef) rfl (by kernel_rfl) (by kernel_rfl) (by kernel_rfl) (fun _ _ _ h => h) (Or.inr ⟨by rfl, rfl⟩) (by assumption) ?_
         try simp only [Act.put, List.getElem_toArray, List.getElem_cons_zero, List.getElem_cons_succ, List.setIfInBounds_toArray, List.set_cons_zero, List.set_cons_succ])
      | fail "take 3"
      first
      | (refine wpAnyH_take (i := 4) (v := ?_) rfl (by kernel_rfl) (by kernel_rfl) (by kernel_rfl) (fun _ _ _ h => h) (Or.inl ⟨by rfl, ?_⟩) (by assumption) ?_
         rotate_left
         · (intro V hV; obtain ⟨_, x0, x1, x2, y0, y1, y2⟩ := hV; go_simp; try with_reducible rfl)
         try simp only [Act.put, List.getElem_toArray, List.getElem_cons_zero, List.getElem_cons_succ, List.setIfInBounds_toArray, List.set_cons_zero, List.set_cons_succ])
      | (refine wpAnyH_take (i := 4) (v := undef) rfl (by kernel_rfl) (by kernel_rfl) (by kernel_rfl) (fun _ _ _ h => h) (Or.inr ⟨by rfl, rfl⟩) (by assumption) ?_
         try simp only [Act.put, List.getElem_toArray, List.getElem_cons_zero, List.getElem_cons_succ, List.setIfInBounds_toArray, List.set_cons_zero, List.set_cons_succ])
      | fail "take 4"
      first
      | (refine wpAnyH_take (i := 5) (v := ?_) rfl (by kernel_rfl) (by kernel_rfl) (by kernel_rfl) (fun _ _ _ h => h) (Or.inl ⟨by rfl, ?_⟩) (by assumption) ?_
         rotate_left
         · (intro V hV; obtain ⟨_, x0, x1, x2, y0, y1, y2⟩ := hV; go_simp; try with_reducible rfl)
         try simp only [Act.put, List.getElem_toArray, List.getElem_cons_zero, List.getElem_cons_succ, List.setIfInBounds_toArray, List.set_cons_zero, List.set_cons_succ])
      | (refine wpAnyH_take (i := 5) (v := undef) rfl (by kernel_rfl) (by kernel_rfl) (by kernel_rfl) (fun _ _ _ h => h) (Or.inr ⟨by rfl, rfl⟩) (by assumption) ?_
         try simp only [Act.put, List.getElem_toArray, List.getElem_cons_zero, List.getElem_cons_succ, List.setIfInBounds_toArray, List.set_cons_zero, List.set_cons_succ])
      | fail "take 5"
      first
      | (refine wpAnyH_take (i := 6) (v := ?_) rfl (by kernel_rfl) (by kernel_rfl) (by kernel_rfl) (fun _ _ _ h => h) (Or.inl ⟨by rfl, ?_⟩) (by assumption) ?_
         rotate_left
         · (intro V hV; obtain ⟨_, x0, x1, x2, y0, y1, y2⟩ := hV; go_simp; try with_reducible rfl)
         try simp only [Act.put, List.getElem_toArray, List.getElem_cons_zero, List.getElem_cons_succ, List.setIfInBounds_toArray, List.set_cons_zero, List.set_cons_succ])
      | (refine wpAnyH_take (i := 6) (v := undef) rfl (by kernel_rfl) (by kernel_rfl) (by kernel_rfl) (fun _ _ _ h => h) (Or.inr ⟨by rfl, rfl⟩) (by assumption) ?_
         try simp only [Act.put, List.getElem_toArray, List.getElem_cons_zero, List.getElem_cons_succ, List.setIfInBounds_toArray, List.set_cons_zero, List.set_cons_succ])
      | fail "take 6"
      first
      | (refine wpAnyH_take (i := 7) (v := ?_) rfl (by kernel_rfl) (by kernel_rfl) (by kernel_rfl) (fun _ _ _ h => h) (Or.inl ⟨by rfl, ?_⟩) (by assumption) ?_
         rotate_left
         · (intro V hV; obtain ⟨_, x0, x1, x2, y0, y1, y2⟩ := hV; go_simp; try with_reducible rfl)
         try simp only [Act.put, List.getElem_toArray, List.getElem_cons_zero, List.getElem_cons_succ, List.setIfInBounds_toArray, List.set_cons_zero, List.set_cons_succ])
      | (refine wpAnyH_take (i := 7) (v := undef) rfl (by kernel_rfl) (by kernel_rfl) (by kernel_rfl) (fun _ _ _ h => h) (Or.inr ⟨by rfl, rfl⟩) (by assumption) ?_
         try simp only [Act.put, List.getElem_toArray, List.getElem_cons_zero, List.getElem_cons_succ, List.setIfInBounds_toArray, List.set_cons_zero, List.set_cons_succ])
      | fail "take 7"
      first
      | (refine wpAnyH_take (i := 8) (v := ?_) rfl (by kernel_rfl) (by kernel_rfl) (by kernel_rfl) (fun _ _ _ h => h) (Or.inl ⟨by rfl, ?_⟩) (by assumption) ?_
         rotate_left
         · (intro V hV; obtain ⟨_, x0, x1, x2, y0, y1, y2⟩ := hV; go_simp; try with_reducible rfl)
         try simp only [Act.put, List.getElem_toArray, List.getElem_cons_zero, List.getElem_cons_succ, List.setIfInBounds_toArray, List.set_cons_zero, List.set_cons_succ])
      | (refine wpAnyH_take (i := 8) (v := undef) rfl (by kernel_rfl) (by kernel_rfl) (by kernel_rfl) (fun _ _ _ h => h) (Or.inr ⟨by rfl, rfl⟩) (by assumption) ?_
         try simp only [Act.put, List.getElem_toArray, List.getElem_cons_zero, List.getElem_cons_succ, List.setIfInBounds_toArray, List.set_cons_zero, List.set_cons_succ])
      | fail "take 8"
      first
      | (refine wpAnyH_take (i := 9) (v := ?_) rfl (by kernel_rfl) (by kernel_rfl) (by kernel_rfl) (fun _ _ _ h => h) (Or.inl ⟨by rfl, ?_⟩) (by assumption) ?_
         rotate_left
         · (intro V hV; obtain ⟨_, x0, x1, x2, y0, y1, y2⟩ := hV; go_simp; try with_reducible rfl)
         try simp only [Act.put, List.getElem_toArray, List.getElem_cons_zero, List.getElem_cons_succ, List.setIfInBounds_toArray, List.set_cons_zero, List.set_cons_succ])
      | (refine wpAnyH_take (i := 9) (v := undef) rfl (by kernel_rfl) (by kernel_rfl) (by kernel_rfl) (fun _ _ _ h => h) (Or.inr ⟨by rfl, rfl⟩) (by assumption) ?_
         try simp only [Act.put, List.getElem_toArray, List.getElem_cons_zero, List.getElem_cons_succ, List.setIfInBounds_toArray, List.set_cons_zero, List.set_cons_succ])
      | fail "take 9"
      first
      | (refine wpAnyH_take (i := 10) (v := ?_) rfl (by kernel_rfl) (by kernel_rfl) (by kernel_rfl) (fun _ _ _ h => h) (Or.inl ⟨by rfl, ?_⟩) (by assumption) ?_
         rotate_left
         · (intro V hV; obtain ⟨_, x0, x1, x2, y0, y1, y2⟩ := hV; go_simp; try with_reducible rfl)
         try simp only [Act.put, List.getElem_toArray, List.getElem_cons_zero, List.getElem_cons_succ, List.setIfInBounds_toArray, List.set_cons_zero, List.set_cons_succ])
      | (refine wpAnyH_take (i := 10) (v := undef) rfl (by kernel_rfl) (by kernel_rfl) (by kernel_rfl) (fun _ _ _ h => h) (Or.inr ⟨by rfl, rfl⟩) (by assumption) ?_
         try simp only [Act.put, List.getElem_toArray, List.getElem_cons_zero, List.getElem_cons_succ, List.setIfInBounds_toArray, List.set_cons_zero, List.set_cons_succ])
      | fail "take 10"
      first
      | (refine wpAnyH_take (i := 11) (v := ?_) rfl (by kernel_rfl) (by kernel_rfl) (by kernel_rfl) (fun _ _ _ h => h) (Or.inl ⟨by rfl, ?_⟩) (by assumption) ?_
         rotate_left
         · (intro V hV; obtain ⟨_, x0, x1, x2, y0, y1, y2⟩ := hV; go_simp; try with_reducible rfl)
         try simp only [Act.put, List.getElem_toArray, List.getElem_cons_zero, List.getElem_cons_succ, List.setIfInBounds_toArray, List.set_cons_zero, List.set_cons_succ])
      | (refine wpAnyH_take (i := 11) (v := undef) rfl (by kernel_rfl) (by kernel_rfl) (by kernel_rfl) (fun _ _ _ h => h) (Or.inr ⟨by rfl, rfl⟩) (by assumption) ?_
         try simp only [Act.put, List.getElem_toArray, List.getElem_cons_zero, List.getElem_cons_succ, List.setIfInBounds_toArray, List.set_cons_zero, List.set_cons_succ])
      | fail "take 11"
      first
      | (refine wpAnyH_take (i := 12) (v := ?_) rfl (by kernel_rfl) (by kernel_rfl) (by kernel_rfl) (fun _ _ _ h => h) (Or.inl ⟨by rfl, ?_⟩) (by assumption) ?_
         rotate_left
         · (intro V hV; obtain ⟨_, x0, x1, x2, y0, y1, y2⟩ := hV; go_simp; try with_reducible rfl)
         try simp only [Act.put, List.getElem_toArray, List.getElem_cons_zero, List.getElem_cons_succ, List.setIfInBounds_toArray, List.set_cons_zero, List.set_cons_succ])
      | (refine wpAnyH_take (i := 12) (v := undef) rfl (by kernel_rfl) (by kernel_rfl) (by kernel_rfl) (fun _ _ _ h => h) (Or.inr ⟨by rfl, rfl⟩) (by assumption) ?_
         try simp only [Act.put, List.getElem_toArray, List.getElem_cons_zero, List.getElem_cons_succ, List.setIfInBounds_toArray, List.set_cons_zero, List.set_cons_succ])
      | fail "take 12"
      first
      | (refine wpAnyH_take (i := 13) (v := ?_) rfl (by kernel_rfl) (by kernel_rfl) (by kernel_rfl) (fun _ _ _ h => h) (Or.inl ⟨by rfl, ?_⟩) (by assumption) ?_
         rotate_left
         · (intro V hV; obtain ⟨_, x0, x1, x2, y0, y1, y2⟩ := hV; go_simp; try with_reducible rfl)
         try simp only [Act.put, List.getElem_toArray, List.getElem_cons_zero, List.getElem_cons_succ, List.setIfInBounds_toArray, List.set_cons_zero, List.set_cons_succ])
      | (refine wpAnyH_take (i := 13) (v := undef) rfl (by kernel_rfl) (by kernel_rfl) (by kernel_rfl) (fun _ _ _ h => h) (Or.inr ⟨by rfl, rfl⟩) (by assumption) ?_
         try simp only [Act.put, List.getElem_toArray, List.getElem_cons_zero, List.getElem_cons_succ, List.setIfInBounds_toArray, List.set_cons_zero, List.set_cons_succ])
      | fail "take 13"
      first
      | (refine wpAnyH_take (i := 14) (v := ?_) rfl (by kernel_rfl) (by kernel_rfl) (by kernel_rfl) (fun _ _ _ h => h) (Or.inl ⟨by rfl, ?_⟩) (by assumption) ?_
         rotate_left
         · (intro V hV; obtain ⟨_, x0, x1, x2, y0, y1, y2⟩ := hV; go_simp; try with_reducible rfl)
         try simp only [Act.put, List.getElem_toArray, List.getElem_cons_zero, List.getElem_cons_succ, List.setIfInBounds_toArray, List.set_cons_zero, List.set_cons_succ])
      | (refine wpAnyH_take (i := 14) (v := undef) rfl (by kernel_rfl) (by kernel_rfl) (by kernel_rfl) (fun _ _ _ h => h) (Or.inr ⟨by rfl, rfl⟩) (by assumption) ?_
         try simp only [Act.put, List.getElem_toArray, List.getElem_cons_zero, List.getElem_cons_succ, List.setIfInBounds_toArray, List.set_cons_zero, List.set_cons_succ])
      | fail "take 14"
      first
      | (refine wpAnyH_take (i := 15) (v := ?_) rfl (by kernel_rfl) (by kernel_rfl) (by kernel_rfl) (fun _ _ _ h => h) (Or.inl ⟨by rfl, ?_⟩) (by assumption) ?_
         rotate_left
         · (intro V hV; obtain ⟨_, x0, x1, x2, y0, y1, y2⟩ := hV; go_simp; try with_reducible rfl)
         try simp only [Act.put, List.getElem_toArray, List.getElem_cons_zero, List.getElem_cons_succ, List.setIfInBounds_toArray, List.set_cons_zero, List.set_cons_succ])
      | (refine wpAnyH_take (i := 15) (v := undef) rfl (by kernel_rfl) (by kernel_rfl) (by kernel_rfl) (fun _ _ _ h => h) (Or.inr ⟨by rfl, rfl⟩) (by assumption) ?_
         try simp only [Act.put, List.getElem_toArray, List.getElem_cons_zero, List.getElem_cons_succ, List.setIfInBounds_toArray, List.set_cons_zero, List.set_cons_succ])
      | fail "take 15"
      first
      | (refine wpAnyH_take (i := 16) (v := ?_) rfl (by kernel_rfl) (by kernel_rfl) (by kernel_rfl) (fun _ _ _ h => h) (Or.inl ⟨by rfl, ?_⟩) (by assumption) ?_
         rotate_left
         · (intro V hV; obtain ⟨_, x0, x1, x2, y0, y1, y2⟩ := hV; go_simp; try with_reducible rfl)
         try simp only [Act.put, List.getElem_toArray, List.getElem_cons_zero, List.getElem_cons_succ, List.setIfInBounds_toArray, List.set_cons_zero, List.set_cons_succ])
      | (refine wpAnyH_take (i := 16) (v := undef) rfl (by kernel_rfl) (by kernel_rfl) (by kernel_rfl) (fun _ _ _ h => h) (Or.inr ⟨by rfl, rfl⟩) (by assumption) ?_
         try simp only [Act.put, List.getElem_toArray, List.getElem_cons_zero, List.getElem_cons_succ, List.setIfInBounds_toArray, List.set_cons_zero, List.set_cons_succ])
      | fail "take 16"
      first
      | (refine wpAnyH_take (i := 17) (v := ?_) rfl (by kernel_rfl) (by kernel_rfl) (by kernel_rfl) (fun _ _ _ h => h) (Or.inl ⟨by rfl, ?_⟩) (by assumption) ?_
         rotate_left
         · (intro V hV; obtain ⟨_, x0, x1, x2, y0, y1, y2⟩ := hV; go_simp; try with_reducible rfl)
         try simp only [Act.put, List.getElem_toArray, List.getElem_cons_zero, List.getElem_cons_succ, List.setIfInBounds_toArray, List.set_cons_zero, List.set_cons_succ])
      | (refine wpAnyH_take (i := 17) (v := undef) rfl (by kernel_rfl) (by kernel_rfl) (by kernel_rfl) (fun _ _ _ h => h) (Or.inr ⟨by rfl, rfl⟩) (by assumption) ?_
         try simp only [Act.put, List.getElem_toArray, List.getElem_cons_zero, List.getElem_cons_succ, List.setIfInBounds_toArray, List.set_cons_zero, List.set_cons_succ])
      | fail "take 17"
      first
      | (refine wpAnyH_take (i := 18) (v := ?_) rfl (by kernel_rfl) (by kernel_rfl) (by kernel_rfl) (fun _ _ _ h => h) (Or.inl ⟨by rfl, ?_⟩) (by assumption) ?_
         rotate_left
         · (intro V hV; obtain ⟨_, x0, x1, x2, y0, y1, y2⟩ := hV; go_simp; try with_reducible rfl)
         try simp only [Act.put, List.getElem_toArray, List.getElem_cons_zero, List.getElem_cons_succ, List.setIfInBounds_toArray, List.set_cons_zero, List.set_cons_succ])
      | (refine wpAnyH_take (i := 18) (v := undef) rfl (by kernel_rfl) (by kernel_rfl) (by kernel_rfl) (fun _ _ _ h => h) (Or.inr ⟨by rfl, rfl⟩) (by assumption) ?_
         try simp only [Act.put, List.getElem_toArray, List.getElem_cons_zero, List.getElem_cons_succ, List.setIfInBounds_toArray, List.set_cons_zero, List.set_cons_succ])
      | fail "take 18"
      refine wpAnyH_done (by kernel_rfl) ?_ _
      go_wp2
      go_ret
      exact ⟨ret_bool (rfl), HB4.out.trans (Below.mono SS.1 HB4.out.size)⟩
    · cases RB
      · refine wp_region_held_drew (S := fun W => Below X.heap.size X W ∧ W.cell? ⟨w.heap.size, 0, none⟩ = some (.string a.name) ∧ W.cell? ⟨w.heap.size, 1, none⟩ = some (.slice A m c) ∧ W.cell? ⟨w.heap.size, 2, none⟩ = some (.int .i64 a.off) ∧ W.cell? ⟨w.heap.size + 1, 0, none⟩ = some (.string b.name) ∧ W.cell? ⟨w.heap.size + 1, 1, none⟩ = some (.slice B l d) ∧ W.cell? ⟨w.heap.size + 1, 2, none⟩ = some (.int .i64 b.off)) (by kernel_rfl) ⟨SS.1.drew, SS.2⟩ (fun hS => ?_)
        first
        | (refine wpAnyH_take (i := 0) (v := ?_) rfl (by kernel_rfl) (by kernel_rfl) (by kernel_rfl) (fun _ _ _ h => h) (Or.inl ⟨by rfl, ?_⟩) (by assumption) ?_
           rotate_left
           · (intro V hV; obtain ⟨_, x0, x1, x2, y0, y1, y2⟩ := hV; go_simp; try with_reducible rfl)
           try simp only [Act.put, List.getElem_toArray, List.getElem_cons_zero, List.setIfInBounds_toArray, List.set_cons_zero, List.set_cons_succ])
        | (refine wpAnyH_take (i := 0) (v := undef) rfl (by kernel_rfl) (by kernel_rfl) (by kernel_rfl) (fun _ _ _ h => h) (Or.inr ⟨by rfl, rfl⟩) (by assumption) ?_
           try simp only [Act.put, List.getElem_toArray, List.getElem_cons_zero, List.setIfInBounds_toArray, List.set_cons_zero, List.set_cons_succ])
        | fail "take 0"
        refine wpAnyH_ready (rs := [1]) (by kernel_rfl) (by simp) ?_
        refine AllReadyH.cons rfl (fun K hK => ?_) AllReadyH.nil
        go_simp
        refine (CEr.out _ hS.1).mono ?_
        rintro e v1 ⟨rfl, hb⟩
        have SS : Below X.heap.size X v1 ∧ v1.cell? ⟨w.heap.size, 0, none⟩ = some (.string a.name) ∧ v1.cell? ⟨w.heap.size, 1, none⟩ = some (.slice A m c) ∧ v1.cell? ⟨w.heap.size, 2, none⟩ = some (.int .i64 a.off) ∧ v1.cell? ⟨w.heap.size + 1, 0, none⟩ = some (.string b.name) ∧ v1.cell? ⟨w.heap.size + 1, 1, none⟩ = some (.slice B l d) ∧ v1.cell? ⟨w.heap.size + 1, 2, none⟩ = some (.int .i64 b.off) := ⟨hb, (hb.cell l0).trans x0, (hb.cell (p := ⟨w.heap.size, 1, none⟩) l0).trans x1, (hb.cell (p := ⟨w.heap.size, 2, none⟩) l0).trans x2, (hb.cell l1).trans y0, (hb.cell (p := ⟨w.heap.size + 1, 1, none⟩) l1).trans y1, (hb.cell (p := ⟨w.heap.size + 1, 2, none⟩) l1).trans y2⟩
        clear hS hb
        refine hK.out _ _ SS (fun hS => ?_)
        clear hK K
        try simp only [Act.put, List.getElem_toArray, List.getElem_cons_zero, List.getElem_cons_succ, List.setIfInBounds_toArray, List.set_cons_zero, List.set_cons_succ]
        first
        | (refine wpAnyH_take (i := 2) (v := ?_) rfl (by kernel_rfl) (by kernel_rfl) (by kernel_rfl) (fun _ _ _ h => h) (Or.inl ⟨by rfl, ?_⟩) (by assumption) ?_
           rotate_left
           · (intro V hV; obtain ⟨_, x0, x1, x2, y0, y1, y2⟩ := hV; go_simp; try with_reducible rfl)
           try simp only [Act.put, List.getElem_toArray, List.getElem_cons_zero, List.getElem_cons_succ, List.setIfInBounds_toArray, List.set_cons_zero, List.set_cons_succ])
        | (refine wpAnyH_take (i := 2) (v := undef) rfl (by kernel_rfl) (by kernel_rfl) (by kernel_rfl) (fun _ _ _ h => h) (Or.inr ⟨by rfl, rfl⟩) (by assumption) ?_
           try simp only [Act.put, List.getElem_toArray, List.getElem_cons_zero, List.getElem_cons_succ, List.setIfInBounds_toArray, List.set_cons_zero, List.set_cons_succ])
        | fail "take 2"
        first
        | (refine wpAnyH_take (i := 3) (v := ?_) rfl (by kernel_rfl) (by kernel_rfl) (by kernel_rfl) (fun _ _ _ h => h) (Or.inl ⟨by rfl, ?_⟩) (by assumption) ?_
           rotate_left
           · (intro V hV; obtain ⟨_, x0, x1, x2, y0, y1, y2⟩ := hV; go_simp; try with_reducible rfl)
           try simp only [Act.put, List.getElem_toArray, List.getElem_cons_zero, List.getElem_cons_succ, List.setIfInBounds_toArray, List.set_cons_zero, List.set_cons_succ])
        | (refine wpAnyH_take (i := 3) (v := undef) rfl (by kernel_rfl) (by kernel_rfl) (by kernel_rfl) (fun _ _ _ h => h) (Or.inr ⟨by rfl, rfl⟩) (by assumption) ?_
           try simp only [Act.put, List.getElem_toArray, List.getElem_cons_zero, List.getElem_cons_succ, List.setIfInBounds_toArray, List.set_cons_zero, List.set_cons_succ])
        | fail "take 3"
        first
        | (refine wpAnyH_take (i := 4) (v := ?_) rfl (by kernel_rfl) (by kernel_rfl) (by kernel_rfl) (fun _ _ _ h => h) (Or.inl ⟨by rfl, ?_⟩) (by assumption) ?_
           rotate_left
           · (intro V hV; obtain ⟨_, x0, x1, x2, y0, y1, y2⟩ := hV; go_simp; try with_reducible rfl)
           try simp only [Act.put, List.getElem_toArray, List.getElem_cons_zero, List.getElem_cons_succ, List.setIfInBounds_toArray, List.set_cons_zero, List.set_cons_succ])
        | (refine wpAnyH_take (i := 4) (v := undef) rfl (by kernel_rfl) (by kernel_rfl) (by kernel_rfl) (fun _ _ _ h => h) (Or.inr ⟨by rfl, rfl⟩) (by assumption) ?_
           try simp only [Act.put, List.getElem_toArray, List.getElem_cons_zero, List.getElem_cons_succ, List.setIfInBounds_toArray, List.set_cons_zero, List.set_cons_succ])
        | fail "take 4"
        refine wpAnyH_ready (rs := [5]) (by kernel_rfl) (by simp) ?_
        refine AllReadyH.cons rfl (fun K hK => ?_) AllReadyH.nil
        go_simp
        refine (CEq.out _ hS.1).mono ?_
        rintro e v1 ⟨rfl, hb⟩
        have SS : Below X.heap.size X v1 ∧ v1.cell? ⟨w.heap.size, 0, none⟩ = some (.string a.name) ∧ v1.cell? ⟨w.heap.size, 1, none⟩ = some (.slice A m c) ∧ v1.cell? ⟨w.heap.size, 2, none⟩ = some (.int .i64 a.off) ∧ v1.cell? ⟨w.heap.size + 1, 0, none⟩ = some (.string b.name) ∧ v1.cell? ⟨w.heap.size + 1, 1, none⟩ = some (.slice B l d) ∧ v1.cell? ⟨w.heap.size + 1, 2, none⟩ = some (.int .i64 b.off) := ⟨hb, (hb.cell l0).trans x0, (hb.cell (p := ⟨w.heap.size, 1, none⟩) l0).trans x1, (hb.cell (p := ⟨w.heap.size, 2, none⟩) l0).trans x2, (hb.cell l1).trans y0, (hb.cell (p := ⟨w.heap.size + 1, 1, none⟩) l1).trans y1, (hb.cell (p := ⟨w.heap.size + 1, 2, none⟩) l1).trans y2⟩
        clear hS hb
        refine hK.out _ _ SS (fun hS => ?_)
        clear hK K
        try simp only [Act.put, List.getElem_toArray, List.getElem_cons_zero, List.getElem_cons_succ, List.setIfInBounds_toArray, List.set_cons_zero, List.set_cons_succ]
        first
        | (refine wpAnyH_take (i := 6) (v := ?_) rfl (by kernel_rfl) (by kernel_rfl) (by kernel_rfl) (fun _ _ _ h => h) (Or.inl ⟨by rfl, ?_⟩) (by assumption) ?_
           rotate_left
           · (intro V hV; obtain ⟨_, x0, x1, x2, y0, y1, y2⟩ := hV; go_simp; try with_reducible rfl)
           try simp only [Act.put, List.getElem_toArray, List.getElem_cons_zero, List.getElem_cons_succ, List.setIfInBounds_toArray, List.set_cons_zero, List.set_cons_succ])
        | (refine wpAnyH_take (i := 6) (v := undef) rfl (by kernel_rfl) (by kernel_rfl) (by kernel_rfl) (fun _ _ _ h => h) (Or.inr ⟨by rfl, rfl⟩) (by assumption) ?_
           try simp only [Act.put, List.getElem_toArray, List.getElem_cons_zero, List.getElem_cons_succ, List.setIfInBounds_toArray, List.set_cons_zero, List.set_cons_succ])
        | fail "take 6"
        first
        | (refine wpAnyH_take (i := 7) (v := ?_) rfl (by kernel_rfl) (by kernel_rfl) (by kernel_rfl) (fun _ _ _ h => h) (Or.inl ⟨by rfl, ?_⟩) (by assumption) ?_
           rotate_left
           · (intro V hV; obtain ⟨_, x0, x1, x2, y0, y1, y2⟩ := hV; go_simp; try with_reducible rfl)
           try simp only [Act.put, List.getElem_toArray, List.getElem_cons_zero, List.getElem_cons_succ, List.setIfInBounds_toArray, List.set_cons_zero, List.set_cons_succ])
        | (refine wpAnyH_take (i := 7) (v := undef) rfl (by kernel_rfl) (by kernel_rfl) (by kernel_rfl) (fun _ _ _ h => h) (Or.inr ⟨by rfl, rfl⟩) (by assumption) ?_
           try simp only [Act.put, List.getElem_toArray, List.getElem_cons_zero, List.getElem_cons_succ, List.setIfInBounds_toArray, List.set_cons_zero, List.set_cons_succ])
        | fail "take 7"
        first
        | (refine wpAnyH_take (i := 8) (v := ?_) rfl (by kernel_rfl) (by kernel_rfl) (by kernel_rfl) (fun _ _ _ h => h) (Or.inl ⟨by rfl, ?_⟩) (by assumption) ?_
           rotate_left
           · (intro V hV; obtain ⟨_, x0, x1, x2, y0, y1, y2⟩ := hV; go_simp; try with_reducible rfl)
           try simp only [Act.put, List.getElem_toArray, List.getElem_cons_zero, List.getElem_cons_succ, List.setIfInBounds_toArray, List.set_cons_zero, List.set_cons_succ])
        | (refine wpAnyH_take (i := 8) (v := undef) rfl (by kernel_rfl) (by kernel_rfl) (by kernel_rfl) (fun _ _ _ h => h) (Or.inr ⟨by rfl, rfl⟩) (by assumption) ?_
           try simp only [Act.put, List.getElem_toArray, List.getElem_cons_zero, List.getElem_cons_succ, List.setIfInBounds_toArray, List.set_cons_zero, List.set_cons_succ])
        | fail "take 8"
        first
        | (refine wpAnyH_take (i := 9) (v := ?_) rfl (by kernel_rfl) (by kernel_rfl) (by kernel_rfl) (fun _ _ _ h => h) (Or.inl ⟨by rfl, ?_⟩) (by assumption) ?_
           rotate_left
           · (intro V hV; obtain ⟨_, x0, x1, x2, y0, y1, y2⟩ := hV; go_simp; try with_reducible rfl)
           try simp only [Act.put, List.getElem_toArray, List.getElem_cons_zero, List.getElem_cons_succ, List.setIfInBounds_toArray, List.set_cons_zero, List.set_cons_succ])
        | (refine wpAnyH_take (i := 9) (v := undef) rfl (by kernel_rfl) (by kernel_rfl) (by kernel_rfl) (fun _ _ _ h => h) (Or.inr ⟨by rfl, rfl⟩) (by assumption) ?_
           try simp only [Act.put, List.getElem_toArray, List.getElem_cons_zero, List.getElem_cons_succ, List.setIfInBounds_toArray, List.set_cons_zero, List.set_cons_succ])
        | fail "take 9"
        first
        | (refine wpAnyH_take (i := 10) (v := ?_) rfl (by kernel_rfl) (by kernel_rfl) (by kernel_rfl) (fun _ _ _ h => h) (Or.inl ⟨by rfl, ?_⟩) (by assumption) ?_
           rotate_left
           · (intro V hV; obtain ⟨_, x0, x1, x2, y0, y1, y2⟩ := hV; go_simp; try with_reducible rfl)
           try simp only [Act.put, List.getElem_toArray, List.getElem_cons_zero, List.getElem_cons_succ, List.setIfInBounds_toArray, List.set_cons_zero, List.set_cons_succ])
        | (refine wpAnyH_take (i := 10) (v := undef) rfl (by kernel_rfl) (by kernel_rfl) (by kernel_rfl) (fun _ _ _ h => h) (Or.inr ⟨by rfl, rfl⟩) (by assumption) ?_
           try simp only [Act.put, List.getElem_toArray, List.getElem_cons_zero, List.getElem_cons_succ, List.setIfInBounds_toArray, List.set_cons_zero, List.set_cons_succ])
        | fail "take 10"
        first
        | (refine wpAnyH_take (i := 11) (v := ?_) rfl (by kernel_rfl) (by kernel_rfl) (by kernel_rfl) (fun _ _ _ h => h) (Or.inl ⟨by rfl, ?_⟩) (by assumption) ?_
           rotate_left
           · (intro V hV; obtain ⟨_, x0, x1, x2, y0, y1, y2⟩ := hV; go_simp; try with_reducible rfl)
           try simp only [Act.put, List.getElem_toArray, List.getElem_cons_zero, List.getElem_cons_succ, List.setIfInBounds_toArray, List.set_cons_zero, List.set_cons_succ])
        | (refine wpAnyH_take (i := 11) (v := undef) rfl (by kernel_rfl) (by kernel_rfl) (by kernel_rfl) (fun _ _ _ h => h) (Or.inr ⟨by rfl, rfl⟩) (by assumption) ?_
           try simp only [Act.put, List.getElem_toArray, List.getElem_cons_zero, List.getElem_cons_succ, List.setIfInBounds_toArray, List.set_cons_zero, List.set_cons_succ])
        | fail "take 11"
        first
        | (refine wpAnyH_take (i := 12) (v := ?_) rfl (by kernel_rfl) (by kernel_rfl) (by kernel_rfl) (fun _ _ _ h => h) (Or.inl ⟨by rfl, ?_⟩) (by assumption) ?_
           rotate_left
           · (intro V hV; obtain ⟨_, x0, x1, x2, y0, y1, y2⟩ := hV; go_simp; try with_reducible rfl)
           try simp only [Act.put, List.getElem_toArray, List.getElem_cons_zero, List.getElem_cons_succ, List.setIfInBounds_toArray, List.set_cons_zero, List.set_cons_succ])
        | (refine wpAnyH_take (i := 12) (v := undef) rfl (by kernel_rfl) (by kernel_rfl) (by kernel_rfl) (fun _ _ _ h => h) (Or.inr ⟨by rfl, rfl⟩) (by assumption) ?_
           try simp only [Act.put, List.getElem_toArray, List.getElem_cons_zero, List.getElem_cons_succ, List.setIfInBounds_toArray, List.set_cons_zero, List.set_cons_succ])
        | fail "take 12"
        first
        | (refine wpAnyH_take (i := 13) (v := ?_) rfl (by kernel_rfl) (by kernel_rfl) (by kernel_rfl) (fun _ _ _ h => h) (Or.inl ⟨by rfl, ?_⟩) (by assumption) ?_
           rotate_left
           · (intro V hV; obtain ⟨_, x0, x1, x2, y0, y1, y2⟩ := hV; go_simp; try with_reducible rfl)
           try simp only [Act.put, List.getElem_toArray, List.getElem_cons_zero, List.getElem_cons_succ, List.setIfInBounds_toArray, List.set_cons_zero, List.set_cons_succ])
        | (refine wpAnyH_take (i := 13) (v := undef) rfl (by kernel_rfl) (by kernel_rfl) (by kernel_rfl) (fun _ _ _ h => h) (Or.inr ⟨by rfl, rfl⟩) (by assumption) ?_
           try simp only [Act.put, List.getElem_toArray, List.getElem_cons_zero, List.getElem_cons_succ, List.setIfInBounds_toArray, List.set_cons_zero, List.set_cons_succ])
        | fail "take 13"
        first
        | (refine wpAnyH_take (i := 14) (v := ?_) rfl (by kernel_rfl) (by kernel_rfl) (by kernel_rfl) (fun _ _ _ h => h) (Or.inl ⟨by rfl, ?_⟩) (by assumption) ?_
           rotate_left
           · (intro V hV; obtain ⟨_, x0, x1, x2, y0, y1, y2⟩ := hV; go_simp; try with_reducible rfl)
           try simp only [Act.put, List.getElem_toArray, List.getElem_cons_zero, List.getElem_cons_succ, List.setIfInBounds_toArray, List.set_cons_zero, List.set_cons_succ])
        | (refine wpAnyH_take (i := 14) (v := undef) rfl (by kernel_rfl) (by kernel_rfl) (by kernel_rfl) (fun _ _ _ h => h) (Or.inr ⟨by rfl, rfl⟩) (by assumption) ?_
           try simp only [Act.put, List.getElem_toArray, List.getElem_cons_zero, List.getElem_cons_succ, List.setIfInBounds_toArray, List.set_cons_zero, List.set_cons_succ])
        | fail "take 14"
        first
        | (refine wpAnyH_take (i := 15) (v := ?_) rfl (by kernel_rfl) (by kernel_rfl) (by kernel_rfl) (fun _ _ _ h => h) (Or.inl ⟨by rfl, ?_⟩) (by assumption) ?_
           rotate_left
           · (intro V hV; obtain ⟨_, x0, x1, x2, y0, y1, y2⟩ := hV; go_simp; try with_reducible rfl)
           try simp only [Act.put, List.getElem_toArray, List.getElem_cons_zero, List.getElem_cons_succ, List.setIfInBounds_toArray, List.set_cons_zero, List.set_cons_succ])
        | (refine wpAnyH_take (i := 15) (v := undef) rfl (by kernel_rfl) (by kernel_rfl) (by kernel_rfl) (fun _ _ _ h => h) (Or.inr ⟨by rfl, rfl⟩) (by assumption) ?_
           try simp only [Act.put, List.getElem_toArray, List.getElem_cons_zero, List.getElem_cons_succ, List.setIfInBounds_toArray, List.set_cons_zero, List.set_cons_succ])
        | fail "take 15"
        first
        | (refine wpAnyH_take (i := 16) (v := ?_) rfl (by kernel_rfl) (by kernel_rfl) (by kernel_rfl) (fun _ _ _ h => h) (Or.inl ⟨by rfl, ?_⟩) (by assumption) ?_
           rotate_left
           · (intro V hV; obtain ⟨_, x0, x1, x2, y0, y1, y2⟩ := hV; go_simp; try with_reducible rfl)
           try simp only [Act.put, List.getElem_toArray, List.getElem_cons_zero, List.getElem_cons_succ, List.setIfInBounds_toArray, List.set_cons_zero, List.set_cons_succ])
        | (refine wpAnyH_take (i := 16) (v := undef) rfl (by kernel_rfl) (by kernel_rfl) (by kernel_rfl) (fun _ _ _ h => h) (Or.inr ⟨by rfl, rfl⟩) (by assumption) ?_
           try simp only [Act.put, List.getElem_toArray, List.getElem_cons_zero, List.getElem_cons_succ, List.setIfInBounds_toArray, List.set_cons_zero, List.set_cons_succ])
        | fail "take 16"
        first
        | (refine wpAnyH_take (i := 17) (v := ?_) rfl (by kernel_rfl) (by kernel_rfl) (by kernel_rfl) (fun _ _ _ h => h) (Or.inl ⟨by rfl, ?_⟩) (by assumption) ?_
           rotate_left
           · (intro V hV; obtain ⟨_, x0, x1, x2, y0, y1, y2⟩ := hV; go_simp; try with_reducible rfl)
           try simp only [Act.put, List.getElem_toArray, List.getElem_cons_zero, List.getElem_cons_succ, List.setIfInBounds_toArray, List.set_cons_zero, List.set_cons_succ])
        | (refine wpAnyH_take (i := 17) (v := undef) rfl (by kernel_rfl) (by kernel_rfl) (by kernel_rfl) (fun _ _ _ h => h) (Or.inr ⟨by rfl, rfl⟩) (by assumption) ?_
           try simp only [Act.put, List.getElem_toArray, List.getElem_cons_zero, List.getElem_cons_succ, List.setIfInBounds_toArray, List.set_cons_zero, List.set_cons_succ])
        | fail "take 17"
        first
        | (refine wpAnyH_take (i := 18) (v := ?_) rfl (by kernel_rfl) (by kernel_rfl) (by kernel_rfl) (fun _ _ _ h => h) (Or.inl ⟨by rfl, ?_⟩) (by assumption) ?_
           rotate_left
           · (intro V hV; obtain ⟨_, x0, x1, x2, y0, y1, y2⟩ := hV; go_simp; try with_reducible rfl)
           try simp only [Act.put, List.getElem_toArray, List.getElem_cons_zero, List.getElem_cons_succ, List.setIfInBounds_toArray, List.set_cons_zero, List.set_cons_succ])
        | (refine wpAnyH_take (i := 18) (v := undef) rfl (by kernel_rfl) (by kernel_rfl) (by kernel_rfl) (fun _ _ _ h => h) (Or.inr ⟨by rfl, rfl⟩) (by assumption) ?_
           try simp only [Act.put, List.getElem_toArray, List.getElem_cons_zero, List.getElem_cons_succ, List.setIfInBounds_toArray, List.set_cons_zero, List.set_cons_succ])
        | fail "take 18"
        refine wpAnyH_done (by kernel_rfl) ?_ _
        go_wp2
        go_ret
        exact ⟨ret_bool (rfl), HB4.out.trans (Below.mono SS.1 HB4.out.size)⟩
      · have hfin : (TX == TY) = (k == 0) := HTI.out rfl rfl
        have HFIN := Lib.hid hfin
        clear hfin
        refine wp_region_held_drew (S := fun W => Below X.heap.size X W ∧ W.cell? ⟨w.heap.size, 0, none⟩ = some (.string a.name) ∧ W.cell? ⟨w.heap.size, 1, none⟩ = some (.slice A m c) ∧ W.cell? ⟨w.heap.size, 2, none⟩ = some (.int .i64 a.off) ∧ W.cell? ⟨w.heap.size + 1, 0, none⟩ = some (.string b.name) ∧ W.cell? ⟨w.heap.size + 1, 1, none⟩ = some (.slice B l d) ∧ W.cell? ⟨w.heap.size + 1, 2, none⟩ = some (.int .i64 b.off)) (by kernel_rfl) ⟨SS.1.drew, SS.2⟩ (fun hS => ?_)
        first
        | (refine wpAnyH_take (i := 0) (v := ?_) rfl (by kernel_rfl) (by kernel_rfl) (by kernel_rfl) (fun _ _ _ h => h) (Or.inl ⟨by rfl, ?_⟩) (by assumption) ?_
           rotate_left
           · (intro V hV; obtain ⟨_, x0, x1, x2, y0, y1, y2⟩ := hV; go_simp; try with_reducible rfl)
           try simp only [Act.put, List.getElem_toArray, List.getElem_cons_zero, List.setIfInBounds_toArray, List.set_cons_zero, List.set_cons_succ])
        | (refine wpAnyH_take (i := 0) (v := undef) rfl (by kernel_rfl) (by kernel_rfl) (by kernel_rfl) (fun _ _ _ h => h) (Or.inr ⟨by rfl, rfl⟩) (by assumption) ?_
           try simp only [Act.put, List.getElem_toArray, List.getElem_cons_zero, List.setIfInBounds_toArray, List.set_cons_zero, List.set_cons_succ])
        | fail "take 0"
        refine wpAnyH_ready (rs := [1]) (by kernel_rfl) (by simp) ?_
        refine AllReadyH.cons rfl (fun K hK => ?_) AllReadyH.nil
        go_simp
        refine (CEr.out _ hS.1).mono ?_
        rintro e v1 ⟨rfl, hb⟩
        have SS : Below X.heap.size X v1 ∧ v1.cell? ⟨w.heap.size, 0, none⟩ = some (.string a.name) ∧ v1.cell? ⟨w.heap.size, 1, none⟩ = some (.slice A m c) ∧ v1.cell? ⟨w.heap.size, 2, none⟩ = some (.int .i64 a.off) ∧ v1.cell? ⟨w.heap.size + 1, 0, none⟩ = some (.string b.name) ∧ v1.cell? ⟨w.heap.size + 1, 1, none⟩ = some (.slice B l d) ∧ v1.cell? ⟨w.heap.size + 1, 2, none⟩ = some (.int .i64 b.off) := ⟨hb, (hb.cell l0).trans x0, (hb.cell (p := ⟨w.heap.size, 1, none⟩) l0).trans x1, (hb.cell (p := ⟨w.heap.size, 2, none⟩) l0).trans x2, (hb.cell l1).trans y0, (hb.cell (p := ⟨w.heap.size + 1, 1, none⟩) l1).trans y1, (hb.cell (p := ⟨w.heap.size + 1, 2, none⟩) l1).trans y2⟩
        clear hS hb
        refine hK.out _ _ SS (fun hS => ?_)
        clear hK K
        try simp only [Act.put, List.getElem_toArray, List.getElem_cons_zero, List.getElem_cons_succ, List.setIfInBounds_toArray, List.set_cons_zero, List.set_cons_succ]
        first
        | (refine wpAnyH_take (i := 2) (v := ?_) rfl (by kernel_rfl) (by kernel_rfl) (by kernel_rfl) (fun _ _ _ h => h) (Or.inl ⟨by rfl, ?_⟩) (by assumption) ?_
           rotate_left
           · (intro V hV; obtain ⟨_, x0, x1, x2, y0, y1, y2⟩ := hV; go_simp; try with_reducible rfl)
           try simp only [Act.put, List.getElem_toArray, List.getElem_cons_zero, List.getElem_cons_succ, List.setIfInBounds_toArray, List.set_cons_zero, List.set_cons_succ])
        | (refine wpAnyH_take (i := 2) (v := undef) rfl (by kernel_rfl) (by kernel_rfl) (by kernel_rfl) (fun _ _ _ h => h) (Or.inr ⟨by rfl, rfl⟩) (by assumption) ?_
           try simp only [Act.put, List.getElem_toArray, List.getElem_cons_zero, List.getElem_cons_succ, List.setIfInBounds_toArray, List.set_cons_zero, List.set_cons_succ])
        | fail "take 2"
        first
        | (refine wpAnyH_take (i := 3) (v := ?_) rfl (by kernel_rfl) (by kernel_rfl) (by kernel_rfl) (fun _ _ _ h => h) (Or.inl ⟨by rfl, ?_⟩) (by assumption) ?_
           rotate_left
           · (intro V hV; obtain ⟨_, x0, x1, x2, y0, y1, y2⟩ := hV; go_simp; try with_reducible rfl)
           try simp only [Act.put, List.getElem_toArray, List.getElem_cons_zero, List.getElem_cons_succ, List.setIfInBounds_toArray, List.set_cons_zero, List.set_cons_succ])
        | (refine wpAnyH_take (i := 3) (v := undef) rfl (by kernel_rfl) (by kernel_rfl) (by kernel_rfl) (fun _ _ _ h => h) (Or.inr ⟨by rfl, rfl⟩) (by assumption) ?_
           try simp only [Act.put, List.getElem_toArray, List.getElem_cons_zero, List.getElem_cons_succ, List.setIfInBounds_toArray, List.set_cons_zero, List.set_cons_succ])
        | fail "take 3"
        first
        | (refine wpAnyH_take (i := 4) (v := ?_) rfl (by kernel_rfl) (by kernel_rfl) (by kernel_rfl) (fun _ _ _ h => h) (Or.inl ⟨by rfl, ?_⟩) (by assumption) ?_
           rotate_left
           · (intro V hV; obtain ⟨_, x0, x1, x2, y0, y1, y2⟩ := hV; go_simp; try with_reducible rfl)
           try simp only [Act.put, List.getElem_toArray, List.getElem_cons_zero, List.getElem_cons_succ, List.setIfInBounds_toArray, List.set_cons_zero, List.set_cons_succ])
        | (refine wpAnyH_take (i := 4) (v := undef) rfl (by kernel_rfl) (by kernel_rfl) (by kernel_rfl) (fun _ _ _ h => h) (Or.inr ⟨by rfl, rfl⟩) (by assumption) ?_
           try simp only [Act.put, List.getElem_toArray, List.getElem_cons_zero, List.getElem_cons_succ, List.setIfInBounds_toArray, List.set_cons_zero, List.set_cons_succ])
        | fail "take 4"
        refine wpAnyH_ready (rs := [5]) (by kernel_rfl) (by simp) ?_
        refine AllReadyH.cons rfl (fun K hK => ?_) AllReadyH.nil
        go_simp
        refine (CEq.out _ hS.1).mono ?_
        rintro e v1 ⟨rfl, hb⟩
        have SS : Below X.heap.size X v1 ∧ v1.cell? ⟨w.heap.size, 0, none⟩ = some (.string a.name) ∧ v1.cell? ⟨w.heap.size, 1, none⟩ = some (.slice A m c) ∧ v1.cell? ⟨w.heap.size, 2, none⟩ = some (.int .i64 a.off) ∧ v1.cell? ⟨w.heap.size + 1, 0, none⟩ = some (.string b.name) ∧ v1.cell? ⟨w.heap.size + 1, 1, none⟩ = some (.slice B l d) ∧ v1.cell? ⟨w.heap.size + 1, 2, none⟩ = some (.int .i64 b.off) := ⟨hb, (hb.cell l0).trans x0, (hb.cell (p := ⟨w.heap.size, 1, none⟩) l0).trans x1, (hb.cell (p := ⟨w.heap.size, 2, none⟩) l0).trans x2, (hb.cell l1).trans y0, (hb.cell (p := ⟨w.heap.size + 1, 1, none⟩) l1).trans y1, (hb.cell (p := ⟨w.heap.size + 1, 2, none⟩) l1).trans y2⟩
        clear hS hb
        refine hK.out _ _ SS (fun hS => ?_)
        clear hK K
        try simp only [Act.put, List.getElem_toArray, List.getElem_cons_zero, List.getElem_cons_succ, List.setIfInBounds_toArray, List.set_cons_zero, List.set_cons_succ]
        first
        | (refine wpAnyH_take (i := 6) (v := ?_) rfl (by kernel_rfl) (by kernel_rfl) (by kernel_rfl) (fun _ _ _ h => h) (Or.inl ⟨by rfl, ?_⟩) (by assumption) ?_
           rotate_left
           · (intro V hV; obtain ⟨_, x0, x1, x2, y0, y1, y2⟩ := hV; go_simp; try with_reducible rfl)
           try simp only [Act.put, List.getElem_toArray, List.getElem_cons_zero, List.getElem_cons_succ, List.setIfInBounds_toArray, List.set_cons_zero, List.set_cons_succ])
        | (refine wpAnyH_take (i := 6) (v := undef) rfl (by kernel_rfl) (by kernel_rfl) (by kernel_rfl) (fun _ _ _ h => h) (Or.inr ⟨by rfl, rfl⟩) (by assumption) ?_
           try simp only [Act.put, List.getElem_toArray, List.getElem_cons_zero, List.getElem_cons_succ, List.setIfInBounds_toArray, List.set_cons_zero, List.set_cons_succ])
        | fail "take 6"
        first
        | (refine wpAnyH_take (i := 7) (v := ?_) rfl (by kernel_rfl) (by kernel_rfl) (by kernel_rfl) (fun _ _ _ h => h) (Or.inl ⟨by rfl, ?_⟩) (by assumption) ?_
           rotate_left
           · (intro V hV; obtain ⟨_, x0, x1, x2, y0, y1, y2⟩ := hV; go_simp; try with_reducible rfl)
           try simp only [Act.put, List.getElem_toArray, List.getElem_cons_zero, List.getElem_cons_succ, List.setIfInBounds_toArray, List.set_cons_zero, List.set_cons_succ])
        | (refine wpAnyH_take (i := 7) (v := undef) rfl (by kernel_rfl) (by kernel_rfl) (by kernel_rfl) (fun _ _ _ h => h) (Or.inr ⟨by rfl, rfl⟩) (by assumption) ?_
           try simp only [Act.put, List.getElem_toArray, List.getElem_cons_zero, List.getElem_cons_succ, List.setIfInBounds_toArray, List.set_cons_zero, List.set_cons_succ])
        | fail "take 7"
        first
        | (refine wpAnyH_take (i := 8) (v := ?_) rfl (by kernel_rfl) (by kernel_rfl) (by kernel_rfl) (fun _ _ _ h => h) (Or.inl ⟨by rfl, ?_⟩) (by assumption) ?_
           rotate_left
           · (intro V hV; obtain ⟨_, x0, x1, x2, y0, y1, y2⟩ := hV; go_simp; try with_reducible rfl)
           try simp only [Act.put, List.getElem_toArray, List.getElem_cons_zero, List.getElem_cons_succ, List.setIfInBounds_toArray, List.set_cons_zero, List.set_cons_succ])
        | (refine wpAnyH_take (i := 8) (v := undef) rfl (by kernel_rfl) (by kernel_rfl) (by kernel_rfl) (fun _ _ _ h => h) (Or.inr ⟨by rfl, rfl⟩) (by assumption) ?_
           try simp only [Act.put, List.getElem_toArray, List.getElem_cons_zero, List.getElem_cons_succ, List.setIfInBounds_toArray, List.set_cons_zero, List.set_cons_succ])
        | fail "take 8"
        first
        | (refine wpAnyH_take (i := 9) (v := ?_) rfl (by kernel_rfl) (by kernel_rfl) (by kernel_rfl) (fun _ _ _ h => h) (Or.inl ⟨by rfl, ?_⟩) (by assumption) ?_
           rotate_left
           · (intro V hV; obtain ⟨_, x0, x1, x2, y0, y1, y2⟩ := hV; go_simp; try with_reducible rfl)
           try simp only [Act.put, List.getElem_toArray, List.getElem_cons_zero, List.getElem_cons_succ, List.setIfInBounds_toArray, List.set_cons_zero, List.set_cons_succ])
        | (refine wpAnyH_take (i := 9) (v := undef) rfl (by kernel_rfl) (by kernel_rfl) (by kernel_rfl) (fun _ _ _ h => h) (Or.inr ⟨by rfl, rfl⟩) (by assumption) ?_
           try simp only [Act.put, List.getElem_toArray, List.getElem_cons_zero, List.getElem_cons_succ, List.setIfInBounds_toArray, List.set_cons_zero, List.set_cons_succ])
        | fail "take 9"
        first
        | (refine wpAnyH_take (i := 11) (v := ?_) rfl (by kernel_rfl) (by kernel_rfl) (by kernel_rfl) (fun _ _ _ h => h) (Or.inl ⟨by rfl, ?_⟩) (by assumption) ?_
           rotate_left
           · (intro V hV; obtain ⟨_, x0, x1, x2, y0, y1, y2⟩ := hV; go_simp; try with_reducible rfl)
           try simp only [Act.put, List.getElem_toArray, List.getElem_cons_zero, List.getElem_cons_succ, List.setIfInBounds_toArray, List.set_cons_zero, List.set_cons_succ])
        | (refine wpAnyH_take (i := 11) (v := undef) rfl (by kernel_rfl) (by kernel_rfl) (by kernel_rfl) (fun _ _ _ h => h) (Or.inr ⟨by rfl, rfl⟩) (by assumption) ?_
           try simp only [Act.put, List.getElem_toArray, List.getElem_cons_zero, List.getElem_cons_succ, List.setIfInBounds_toArray, List.set_cons_zero, List.set_cons_succ])
        | fail "take 11"
        first
        | (refine wpAnyH_take (i := 14) (v := ?_) rfl (by kernel_rfl) (by kernel_rfl) (by kernel_rfl) (fun _ _ _ h => h) (Or.inl ⟨by rfl, ?_⟩) (by assumption) ?_
           rotate_left
           · (intro V hV; obtain ⟨_, x0, x1, x2, y0, y1, y2⟩ := hV; go_simp; try with_reducible rfl)
           try simp only [Act.put, List.getElem_toArray, List.getElem_cons_zero, List.getElem_cons_succ, List.setIfInBounds_toArray, List.set_cons_zero, List.set_cons_succ])
        | (refine wpAnyH_take (i := 14) (v := undef) rfl (by kernel_rfl) (by kernel_rfl) (by kernel_rfl) (fun _ _ _ h => h) (Or.inr ⟨by rfl, rfl⟩) (by assumption) ?_
           try simp only [Act.put, List.getElem_toArray, List.getElem_cons_zero, List.getElem_cons_succ, List.setIfInBounds_toArray, List.set_cons_zero, List.set_cons_succ])
        | fail "take 14"
        first
        | (refine wpAnyH_take (i := 15) (v := ?_) rfl (by kernel_rfl) (by kernel_rfl) (by kernel_rfl) (fun _ _ _ h => h) (Or.inl ⟨by rfl, ?_⟩) (by assumption) ?_
           rotate_left
           · (intro V hV; obtain ⟨_, x0, x1, x2, y0, y1, y2⟩ := hV; go_simp; try with_reducible rfl)
           try simp only [Act.put, List.getElem_toArray, List.getElem_cons_zero, List.getElem_cons_succ, List.setIfInBounds_toArray, List.set_cons_zero, List.set_cons_succ])
        | (refine wpAnyH_take (i := 15) (v := undef) rfl (by kernel_rfl) (by kernel_rfl) (by kernel_rfl) (fun _ _ _ h => h) (Or.inr ⟨by rfl, rfl⟩) (by assumption) ?_
           try simp only [Act.put, List.getElem_toArray, List.getElem_cons_zero, List.getElem_cons_succ, List.setIfInBounds_toArray, List.set_cons_zero, List.set_cons_succ])
        | fail "take 15"
        refine wpAnyH_ready (rs := [10]) (by kernel_rfl) (by simp) ?_
        refine AllReadyH.cons rfl (fun K hK => ?_) AllReadyH.nil
        go_simp
        refine (CTp.out _ hS.1).mono ?_
        rintro e v1 ⟨rfl, hb⟩
        have SS : Below X.heap.size X v1 ∧ v1.cell? ⟨w.heap.size, 0, none⟩ = some (.string a.name) ∧ v1.cell? ⟨w.heap.size, 1, none⟩ = some (.slice A m c) ∧ v1.cell? ⟨w.heap.size, 2, none⟩ = some (.int .i64 a.off) ∧ v1.cell? ⟨w.heap.size + 1, 0, none⟩ = some (.string b.name) ∧ v1.cell? ⟨w.heap.size + 1, 1, none⟩ = some (.slice B l d) ∧ v1.cell? ⟨w.heap.size + 1, 2, none⟩ = some (.int .i64 b.off) := ⟨hb, (hb.cell l0).trans x0, (hb.cell (p := ⟨w.heap.size, 1, none⟩) l0).trans x1, (hb.cell (p := ⟨w.heap.size, 2, none⟩) l0).trans x2, (hb.cell l1).trans y0, (hb.cell (p := ⟨w.heap.size + 1, 1, none⟩) l1).trans y1, (hb.cell (p := ⟨w.heap.size + 1, 2, none⟩) l1).trans y2⟩
        clear hS hb
        refine hK.out _ _ SS (fun hS => ?_)
        clear hK K
        try simp only [Act.put, List.getElem_toArray, List.getElem_cons_zero, List.getElem_cons_succ, List.setIfInBounds_toArray, List.set_cons_zero, List.set_cons_succ]
        refine wpAnyH_ready (rs := [12]) (by kernel_rfl) (by simp) ?_
        refine AllReadyH.cons rfl (fun K hK => ?_) AllReadyH.nil
        go_simp
        refine (CTq.out _ hS.1).mono ?_
        rintro e v1 ⟨rfl, hb⟩
        have SS : Below X.heap.size X v1 ∧ v1.cell? ⟨w.heap.size, 0, none⟩ = some (.string a.name) ∧ v1.cell? ⟨w.heap.size, 1, none⟩ = some (.slice A m c) ∧ v1.cell? ⟨w.heap.size, 2, none⟩ = some (.int .i64 a.off) ∧ v1.cell? ⟨w.heap.size + 1, 0, none⟩ = some (.string b.name) ∧ v1.cell? ⟨w.heap.size + 1, 1, none⟩ = some (.slice B l d) ∧ v1.cell? ⟨w.heap.size + 1, 2, none⟩ = some (.int .i64 b.off) := ⟨hb, (hb.cell l0).trans x0, (hb.cell (p := ⟨w.heap.size, 1, none⟩) l0).trans x1, (hb.cell (p := ⟨w.heap.size, 2, none⟩) l0).trans x2, (hb.cell l1).trans y0, (hb.cell (p := ⟨w.heap.size + 1, 1, none⟩) l1).trans y1, (hb.cell (p := ⟨w.heap.size + 1, 2, none⟩) l1).trans y2⟩
        clear hS hb
        refine hK.out _ _ SS (fun hS => ?_)
        clear hK K
        try simp only [Act.put, List.getElem_toArray, List.getElem_cons_zero, List.getElem_cons_succ, List.setIfInBounds_toArray, List.set_cons_zero, List.set_cons_succ]
        first
        | (refine wpAnyH_take (i := 13) (v := ?_) rfl (by kernel_rfl) (by kernel_rfl) (by kernel_rfl) (fun _ _ _ h => h) (Or.inl ⟨by rfl, ?_⟩) (by assumption) ?_
           rotate_left
           · (intro V hV; obtain ⟨_, x0, x1, x2, y0, y1, y2⟩ := hV; go_simp; try with_reducible rfl)
           try simp only [Act.put, List.getElem_toArray, List.getElem_cons_zero, List.getElem_cons_succ, List.setIfInBounds_toArray, List.set_cons_zero, List.set_cons_succ])
        | (refine wpAnyH_take (i := 13) (v := undef) rfl (by kernel_rfl) (by kernel_rfl) (by kernel_rfl) (fun _ _ _ h => h) (Or.inr ⟨by rfl, rfl⟩) (by assumption) ?_
           try simp only [Act.put, List.getElem_toArray, List.getElem_cons_zero, List.getElem_cons_succ, List.setIfInBounds_toArray, List.set_cons_zero, List.set_cons_succ])
        | fail "take 13"
        first
        | (refine wpAnyH_take (i := 16) (v := ?_) rfl (by kernel_rfl) (by kernel_rfl) (by kernel_rfl) (fun _ _ _ h => h) (Or.inl ⟨by rfl, ?_⟩) (by assumption) ?_
           rotate_left
           · (intro V hV; obtain ⟨_, x0, x1, x2, y0, y1, y2⟩ := hV; go_simp; try with_reducible rfl)
           try simp only [Act.put, List.getElem_toArray, List.getElem_cons_zero, List.getElem_cons_succ, List.setIfInBounds_toArray, List.set_cons_zero, List.set_cons_succ])
        | (refine wpAnyH_take (i := 16) (v := undef) rfl (by kernel_rfl) (by kernel_rfl) (by kernel_rfl) (fun _ _ _ h => h) (Or.inr ⟨by rfl, rfl⟩) (by assumption) ?_
           try simp only [Act.put, List.getElem_toArray, List.getElem_cons_zero, List.getElem_cons_succ, List.setIfInBounds_toArray, List.set_cons_zero, List.set_cons_succ])
        | fail "take 16"
        first
        | (refine wpAnyH_take (i := 17) (v := ?_) rfl (by kernel_rfl) (by kernel_rfl) (by kernel_rfl) (fun _ _ _ h => h) (Or.inl ⟨by rfl, ?_⟩) (by assumption) ?_
           rotate_left
           · (intro V hV; obtain ⟨_, x0, x1, x2, y0, y1, y2⟩ := hV; go_simp; try with_reducible rfl)
           try simp only [Act.put, List.getElem_toArray, List.getElem_cons_zero, List.getElem_cons_succ, List.setIfInBounds_toArray, List.set_cons_zero, List.set_cons_succ])
        | (refine wpAnyH_take (i := 17) (v := undef) rfl (by kernel_rfl) (by kernel_rfl) (by kernel_rfl) (fun _ _ _ h => h) (Or.inr ⟨by rfl, rfl⟩) (by assumption) ?_
           try simp only [Act.put, List.getElem_toArray, List.getElem_cons_zero, List.getElem_cons_succ, List.setIfInBounds_toArray, List.set_cons_zero, List.set_cons_succ])
        | fail "take 17"
        first
        | (refine wpAnyH_take (i := 18) (v := ?_) rfl (by kernel_rfl) (by kernel_rfl) (by kernel_rfl) (fun _ _ _ h => h) (Or.inl ⟨by rfl, ?_⟩) (by assumption) ?_
           rotate_left
           · (intro V hV; obtain ⟨_, x0, x1, x2, y0, y1, y2⟩ := hV; go_simp; try with_reducible rfl)
           try simp only [Act.put, List.getElem_toArray, List.getElem_cons_zero, List.getElem_cons_succ, List.setIfInBounds_toArray, List.set_cons_zero, List.set_cons_succ])
        | (refine wpAnyH_take (i := 18) (v := undef) rfl (by kernel_rfl) (by kernel_rfl) (by kernel_rfl) (fun _ _ _ h => h) (Or.inr ⟨by rfl, rfl⟩) (by assumption) ?_
           try simp only [Act.put, List.getElem_toArray, List.getElem_cons_zero, List.getElem_cons_succ, List.setIfInBounds_toArray, List.set_cons_zero, List.set_cons_succ])
        | fail "take 18"
        refine wpAnyH_done (by kernel_rfl) ?_ _
        go_wp2
        go_ret
        exact ⟨ret_bool (by rw [← HFIN.out]; simp), HB4.out.trans (Below.mono SS.1 HB4.out.size)⟩
end Go.Proofs.YtioamnaknjhbpaaDoor
