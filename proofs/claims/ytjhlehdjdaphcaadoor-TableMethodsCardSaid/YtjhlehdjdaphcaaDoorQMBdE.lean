/- The walks of bind.bounded, at the function values that package bind hands it. The conditions: what those functions give. -/
import Derived.Test.YtjhlehdjdaphcaaDoorQMBdD
import Derived.Deep.RegionHeld
import Derived.Lib.AppendZerosOnto
namespace Go.Proofs.YtjhlehdjdaphcaaDoor
open Go.RowKit

theorem five_oneB {s t : ByteArray} {A : Option Addr} {n c : Nat} {i j : Int} : ∀ u ∈ ([.string s, .string t, .slice A n c, .int .i64 i, .int .i64 j] : List Value), u.oneCell' = true := by
  intro u hu
  simp only [List.mem_cons, List.not_mem_nil, or_false] at hu
  rcases hu with rfl | rfl | rfl | rfl | rfl <;> rfl
theorem boxd_mid {w : World} {b : Nat} {v0 v1 v2 v3 v4 : Value} (h : Boxd w b [v0, v1, v2, v3, v4]) : CellsAt w ⟨b, 1, none⟩ [v1, v2, v3] := fun j u hu => by
  rw [Addr.add_mid]
  match j, hu with
  | 0, hu => exact h 1 u hu
  | 1, hu => exact h 2 u hu
  | 2, hu => exact h 3 u hu
  | j + 3, hu => simp at hu
theorem append_nothing {t e : TypeId} {z b : Nat} (hs : SlOf t e z b) (ty : TypeId) (A : Option Addr) (c : Nat) (w : World) : (Builtin.append_ #[t, t] ty #[.slice none 0 0, .slice A 0 c]).run Tryd.prog w = .ok (.slice none 0 0) w := by
  obtain ⟨i, zz, hi, _⟩ := hs.info
  exact run_append_zero _ w w.heap.size t ty e i z hs.und hi (.slice none 0 0) 0 [] (World.ownsRow_nil _ _ _ _) A c
set_option maxRecDepth 100000 in
set_option maxHeartbeats 8000000 in
theorem bounded_collect (p : Addr) (K : Bd) (hK : K.Ok) (σ : Ty → Ty) (xs : List Fo) (i0 : Nat) (hT : ∀ (j : Nat) (f : Fo), xs[j]? = some f → DoCall 60 #[.pointer (some p)] K f.ty (σ f.ty) (i0 + j)) (A : Option Addr) (q c : Nat) (w : World) (hq : q ≤ 100000) (h0 : K.St i0 w)
    (h : Row w False (· < K.n) 5 A q (xs.map Fo.dat)) : Calls Tryd.prog 67 #[.slice A q c, .func (.func 60) #[] #[.pointer (some p)]] w (BdPost K σ xs i0 w) := by
  have hxl := h.len
  rw [List.length_map] at hxl
  have HK := Lib.hid hK
  have H0 := Lib.hid h0
  by_cases hm0 : q = 0
  · subst hm0
    obtain rfl := List.eq_nil_of_length_eq_zero hxl
    have HR := Lib.hid (fun ty => append_nothing slFoB ty A c w)
    clear h hT hK h0
    go_enter Tryd.func67, Tryd.ntmps67
    go_wp2_with (at_builtin; refine Lib.wpList_append_run _ rfl _ _ _ _ rfl _ _ rfl rfl _ _ (HR.out _) ?_)
    go_loopw [11] (fun i wr => i = .int .i64 0 ∧ wr = w) (fun _ _ => 0)
    case atStart => exact ⟨rfl, rfl⟩
    case round =>
      obtain ⟨rfl, rfl⟩ := hrel
      go_wp2_with fail
      go_ret
      exact ⟨_, rfl, .inl ⟨rfl, rfl, rfl⟩, Mf.refl _ _ _, H0.out⟩
  · obtain ⟨us, hi, hl, hc⟩ := row_flat h fo_sizes
    have HI := Lib.hid (show BdIn K xs us q w from ⟨hi, hl, hxl⟩)
    have HC := Lib.hid hc
    have HL := Lib.hid hl
    have HONE := Lib.hid (ins_cells fo_ones hi)
    have HSOM := Lib.hid (row_some h)
    have HT := Lib.hid hT
    have hqi : (q : Int) ≤ 100000 := by omega
    obtain ⟨g, hgz⟩ : ∃ g, g = w.heap.size := ⟨_, rfl⟩
    have HGZ := Lib.hid hgz
    clear h hT hK h0 hi hl hc
    go_enter Tryd.func67, Tryd.ntmps67
    go_wp2_with (at_builtin; refine wpList_append_row slFoB rfl _ _ rfl rfl rfl (World.ownsRow_nil _ w.heap.size _ _) (Nat.le_refl _) HL.out HC.out HONE.out HSOM.out (by omega) (by omega) ?_; intro v4 w4 hA; obtain ⟨c4, hv4, hc4, _, hrel⟩ := bd_start (σ := σ) (xs := xs) HK.out (by omega) H0.out (Mf.refl _ _ _) (Nat.le_refl _) (Nat.le_refl _) hA; subst hv4; have HREL := Lib.hid hrel; have HC4 := Lib.hid hc4; clear hA hrel hc4)
    rw [show BdRel K σ xs us q i0 w w.heap.size w.heap.size 0 w4 = BdRel K σ xs us q i0 w w.heap.size g 0 w4 by rw [hgz]] at HREL
    rw [← hgz]
    clear hgz
    go_loopw [11] (fun i wr => ∃ k : Nat, k ≤ q ∧ i = .int .i64 k ∧ BdRel K σ xs us q i0 w w.heap.size g k wr) (fun i _ => q - (intOf i).toNat)
    case atStart => exact ⟨0, by omega, rfl, HREL.out⟩
    case round =>
      obtain ⟨k, hk, rfl, hrel⟩ := hrel
      have HR := Lib.hid hrel
      have y1 : (0 : Int) ≤ k := by omega
      by_cases hlt : k < q
      · have y0 : (k : Int) < q := by omega
        obtain ⟨x, hx⟩ : ∃ x, xs[k]? = some x := ⟨_, List.getElem?_eq_getElem (by omega)⟩
        obtain ⟨B, m, a, hcs, hn, hin, hd⟩ := bd_open HK.out H0.out HI.out hrel hx
        obtain ⟨W1, hP1⟩ := putZ #[.string ⟨#[]⟩, .string ⟨#[]⟩, .slice none 0 0, .int .i64 0, .int .i64 0] 65 wr (us := [.string x.name, .string x.ty.name, .slice B m a, .int .i64 x.ty.off, .int .i64 x.off]) rfl
        obtain ⟨b1, b2⟩ := Bd.below HK.out hrel.st hP1.bel
        have C := Lib.hid (show Calls Tryd.prog 60 #[.agg #[.string x.ty.name, .slice B m a, .int .i64 x.ty.off], .pointer (some p)] W1 _ from HT.out k x hx [.string x.ty.name, .slice B m a, .int .i64 x.ty.off] W1 b2 (Bd.given_in HK.out hrel.st b1 hin))
        have HX := Lib.hid hx
        have HN := Lib.hid hn
        have HD := Lib.hid hd
        have HFC := Lib.hid hcs
        have HP1 := Lib.hid hP1
        have HBM := Lib.hid (boxd_mid hP1.box)
        clear hx hn hd hcs hin b1 b2 hP1 hrel
        go_wp2_with (first
          | (refine loadOp flatFo 14 15 rfl HFC.out rfl ?_)
          | (refine storeOp flatFo 6 15 (b := wr.heap.size) (o := 0) (us := [.string x.name, .string x.ty.name, .slice B m a, .int .i64 x.ty.off, .int .i64 x.off]) rfl rfl HP1.out.there five_oneB rfl ?_; rw [HP1.out.eq])
          | (refine loadOp flatTy3 19 20 rfl HBM.out rfl ?_))
        refine C.out.mono ?_
        rintro e w3 ⟨vs, rfl, hv, hm, hs⟩
        obtain ⟨ht, hvl, hrel⟩ := bd_close HK.out H0.out HI.out HR.out HX.out HN.out HD.out HP1.out.bel hv hm hs
        have HTH := Lib.hid ht
        have HVL := Lib.hid hvl
        have HREL2 := Lib.hid hrel
        have HOV := Lib.hid (ty_cells hv)
        clear hv hm hs ht hvl hrel C HFC HP1 HBM
        go_wp2_with (refine storeOp flatTy3 23 21 (b := g) (o := k * 5 + 1) rfl rfl HTH.out HOV.out HVL.out ?_)
        go_roundw
        case rel => exact ⟨k + 1, by omega, by go_num, HREL2.out⟩
        case measure => simp [intOf]; omega
      · have y0 : (q : Int) ≤ k := by omega
        obtain rfl : k = q := by omega
        clear hrel
        go_wp2_with fail
        go_ret
        have he := bd_end HI.out HC4.out HR.out
        have hn := HI.out.num
        rw [← hn] at he
        refine ⟨_, rfl, by rw [← hn]; exact he, HR.out.mv, by rw [hn]; exact HR.out.st⟩
set_option maxRecDepth 100000 in
set_option maxHeartbeats 8000000 in
theorem bounded_handout (p : Addr) (K : Bd) (hK : K.Ok) (σ : Ty → Ty) (xs : List Fo) (i0 : Nat) (hT : ∀ (j : Nat) (f : Fo), xs[j]? = some f → DoCall 62 #[.pointer (some p)] K f.ty (σ f.ty) (i0 + j)) (A : Option Addr) (q c : Nat) (w : World) (hq : q ≤ 100000) (h0 : K.St i0 w)
    (h : Row w False (· < K.n) 5 A q (xs.map Fo.dat)) : Calls Tryd.prog 67 #[.slice A q c, .func (.func 62) #[] #[.pointer (some p)]] w (BdPost K σ xs i0 w) := by
  have hxl := h.len
  rw [List.length_map] at hxl
  have HK := Lib.hid hK
  have H0 := Lib.hid h0
  by_cases hm0 : q = 0
  · subst hm0
    obtain rfl := List.eq_nil_of_length_eq_zero hxl
    have HR := Lib.hid (fun ty => append_nothing slFoB ty A c w)
    clear h hT hK h0
    go_enter Tryd.func67, Tryd.ntmps67
    go_wp2_with (at_builtin; refine Lib.wpList_append_run _ rfl _ _ _ _ rfl _ _ rfl rfl _ _ (HR.out _) ?_)
    go_loopw [11] (fun i wr => i = .int .i64 0 ∧ wr = w) (fun _ _ => 0)
    case atStart => exact ⟨rfl, rfl⟩
    case round =>
      obtain ⟨rfl, rfl⟩ := hrel
      go_wp2_with fail
      go_ret
      exact ⟨_, rfl, .inl ⟨rfl, rfl, rfl⟩, Mf.refl _ _ _, H0.out⟩
  · obtain ⟨us, hi, hl, hc⟩ := row_flat h fo_sizes
    have HI := Lib.hid (show BdIn K xs us q w from ⟨hi, hl, hxl⟩)
    have HC := Lib.hid hc
    have HL := Lib.hid hl
    have HONE := Lib.hid (ins_cells fo_ones hi)
    have HSOM := Lib.hid (row_some h)
    have HT := Lib.hid hT
    have hqi : (q : Int) ≤ 100000 := by omega
    obtain ⟨g, hgz⟩ : ∃ g, g = w.heap.size := ⟨_, rfl⟩
    have HGZ := Lib.hid hgz
    clear h hT hK h0 hi hl hc
    go_enter Tryd.func67, Tryd.ntmps67
    go_wp2_with (at_builtin; refine wpList_append_row slFoB rfl _ _ rfl rfl rfl (World.ownsRow_nil _ w.heap.size _ _) (Nat.le_refl _) HL.out HC.out HONE.out HSOM.out (by omega) (by omega) ?_; intro v4 w4 hA; obtain ⟨c4, hv4, hc4, _, hrel⟩ := bd_start (σ := σ) (xs := xs) HK.out (by omega) H0.out (Mf.refl _ _ _) (Nat.le_refl _) (Nat.le_refl _) hA; subst hv4; have HREL := Lib.hid hrel; have HC4 := Lib.hid hc4; clear hA hrel hc4)
    rw [show BdRel K σ xs us q i0 w w.heap.size w.heap.size 0 w4 = BdRel K σ xs us q i0 w w.heap.size g 0 w4 by rw [hgz]] at HREL
    rw [← hgz]
    clear hgz
    go_loopw [11] (fun i wr => ∃ k : Nat, k ≤ q ∧ i = .int .i64 k ∧ BdRel K σ xs us q i0 w w.heap.size g k wr) (fun i _ => q - (intOf i).toNat)
    case atStart => exact ⟨0, by omega, rfl, HREL.out⟩
    case round =>
      obtain ⟨k, hk, rfl, hrel⟩ := hrel
      have HR := Lib.hid hrel
      have y1 : (0 : Int) ≤ k := by omega
      by_cases hlt : k < q
      · have y0 : (k : Int) < q := by omega
        obtain ⟨x, hx⟩ : ∃ x, xs[k]? = some x := ⟨_, List.getElem?_eq_getElem (by omega)⟩
        obtain ⟨B, m, a, hcs, hn, hin, hd⟩ := bd_open HK.out H0.out HI.out hrel hx
        obtain ⟨W1, hP1⟩ := putZ #[.string ⟨#[]⟩, .string ⟨#[]⟩, .slice none 0 0, .int .i64 0, .int .i64 0] 65 wr (us := [.string x.name, .string x.ty.name, .slice B m a, .int .i64 x.ty.off, .int .i64 x.off]) rfl
        obtain ⟨b1, b2⟩ := Bd.below HK.out hrel.st hP1.bel
        have C := Lib.hid (show Calls Tryd.prog 62 #[.agg #[.string x.ty.name, .slice B m a, .int .i64 x.ty.off], .pointer (some p)] W1 _ from HT.out k x hx [.string x.ty.name, .slice B m a, .int .i64 x.ty.off] W1 b2 (Bd.given_in HK.out hrel.st b1 hin))
        have HX := Lib.hid hx
        have HN := Lib.hid hn
        have HD := Lib.hid hd
        have HFC := Lib.hid hcs
        have HP1 := Lib.hid hP1
        have HBM := Lib.hid (boxd_mid hP1.box)
        clear hx hn hd hcs hin b1 b2 hP1 hrel
        go_wp2_with (first
          | (refine loadOp flatFo 14 15 rfl HFC.out rfl ?_)
          | (refine storeOp flatFo 6 15 (b := wr.heap.size) (o := 0) (us := [.string x.name, .string x.ty.name, .slice B m a, .int .i64 x.ty.off, .int .i64 x.off]) rfl rfl HP1.out.there five_oneB rfl ?_; rw [HP1.out.eq])
          | (refine loadOp flatTy3 19 20 rfl HBM.out rfl ?_))
        refine C.out.mono ?_
        rintro e w3 ⟨vs, rfl, hv, hm, hs⟩
        obtain ⟨ht, hvl, hrel⟩ := bd_close HK.out H0.out HI.out HR.out HX.out HN.out HD.out HP1.out.bel hv hm hs
        have HTH := Lib.hid ht
        have HVL := Lib.hid hvl
        have HREL2 := Lib.hid hrel
        have HOV := Lib.hid (ty_cells hv)
        clear hv hm hs ht hvl hrel C HFC HP1 HBM
        go_wp2_with (refine storeOp flatTy3 23 21 (b := g) (o := k * 5 + 1) rfl rfl HTH.out HOV.out HVL.out ?_)
        go_roundw
        case rel => exact ⟨k + 1, by omega, by go_num, HREL2.out⟩
        case measure => simp [intOf]; omega
      · have y0 : (q : Int) ≤ k := by omega
        obtain rfl : k = q := by omega
        clear hrel
        go_wp2_with fail
        go_ret
        have he := bd_end HI.out HC4.out HR.out
        have hn := HI.out.num
        rw [← hn] at he
        refine ⟨_, rfl, by rw [← hn]; exact he, HR.out.mv, by rw [hn]; exact HR.out.st⟩
set_option maxRecDepth 100000 in
set_option maxHeartbeats 8000000 in
theorem bounded_clone (K : Bd) (hK : K.Ok) (σ : Ty → Ty) (xs : List Fo) (i0 : Nat) (hT : ∀ (j : Nat) (f : Fo), xs[j]? = some f → DoCall 69 #[] K f.ty (σ f.ty) (i0 + j)) (A : Option Addr) (q c : Nat) (w : World) (hq : q ≤ 100000) (h0 : K.St i0 w)
    (h : Row w False (· < K.n) 5 A q (xs.map Fo.dat)) : Calls Tryd.prog 67 #[.slice A q c, .func (.func 69) #[] #[]] w (BdPost K σ xs i0 w) := by
  have hxl := h.len
  rw [List.length_map] at hxl
  have HK := Lib.hid hK
  have H0 := Lib.hid h0
  by_cases hm0 : q = 0
  · subst hm0
    obtain rfl := List.eq_nil_of_length_eq_zero hxl
    have HR := Lib.hid (fun ty => append_nothing slFoB ty A c w)
    clear h hT hK h0
    go_enter Tryd.func67, Tryd.ntmps67
    go_wp2_with (at_builtin; refine Lib.wpList_append_run _ rfl _ _ _ _ rfl _ _ rfl rfl _ _ (HR.out _) ?_)
    go_loopw [11] (fun i wr => i = .int .i64 0 ∧ wr = w) (fun _ _ => 0)
    case atStart => exact ⟨rfl, rfl⟩
    case round =>
      obtain ⟨rfl, rfl⟩ := hrel
      go_wp2_with fail
      go_ret
      exact ⟨_, rfl, .inl ⟨rfl, rfl, rfl⟩, Mf.refl _ _ _, H0.out⟩
  · obtain ⟨us, hi, hl, hc⟩ := row_flat h fo_sizes
    have HI := Lib.hid (show BdIn K xs us q w from ⟨hi, hl, hxl⟩)
    have HC := Lib.hid hc
    have HL := Lib.hid hl
    have HONE := Lib.hid (ins_cells fo_ones hi)
    have HSOM := Lib.hid (row_some h)
    have HT := Lib.hid hT
    have hqi : (q : Int) ≤ 100000 := by omega
    obtain ⟨g, hgz⟩ : ∃ g, g = w.heap.size := ⟨_, rfl⟩
    have HGZ := Lib.hid hgz
    clear h hT hK h0 hi hl hc
    go_enter Tryd.func67, Tryd.ntmps67
    go_wp2_with (at_builtin; refine wpList_append_row slFoB rfl _ _ rfl rfl rfl (World.ownsRow_nil _ w.heap.size _ _) (Nat.le_refl _) HL.out HC.out HONE.out HSOM.out (by omega) (by omega) ?_; intro v4 w4 hA; obtain ⟨c4, hv4, hc4, _, hrel⟩ := bd_start (σ := σ) (xs := xs) HK.out (by omega) H0.out (Mf.refl _ _ _) (Nat.le_refl _) (Nat.le_refl _) hA; subst hv4; have HREL := Lib.hid hrel; have HC4 := Lib.hid hc4; clear hA hrel hc4)
    rw [show BdRel K σ xs us q i0 w w.heap.size w.heap.size 0 w4 = BdRel K σ xs us q i0 w w.heap.size g 0 w4 by rw [hgz]] at HREL
    rw [← hgz]
    clear hgz
    go_loopw [11] (fun i wr => ∃ k : Nat, k ≤ q ∧ i = .int .i64 k ∧ BdRel K σ xs us q i0 w w.heap.size g k wr) (fun i _ => q - (intOf i).toNat)
    case atStart => exact ⟨0, by omega, rfl, HREL.out⟩
    case round =>
      obtain ⟨k, hk, rfl, hrel⟩ := hrel
      have HR := Lib.hid hrel
      have y1 : (0 : Int) ≤ k := by omega
      by_cases hlt : k < q
      · have y0 : (k : Int) < q := by omega
        obtain ⟨x, hx⟩ : ∃ x, xs[k]? = some x := ⟨_, List.getElem?_eq_getElem (by omega)⟩
        obtain ⟨B, m, a, hcs, hn, hin, hd⟩ := bd_open HK.out H0.out HI.out hrel hx
        obtain ⟨W1, hP1⟩ := putZ #[.string ⟨#[]⟩, .string ⟨#[]⟩, .slice none 0 0, .int .i64 0, .int .i64 0] 65 wr (us := [.string x.name, .string x.ty.name, .slice B m a, .int .i64 x.ty.off, .int .i64 x.off]) rfl
        obtain ⟨b1, b2⟩ := Bd.below HK.out hrel.st hP1.bel
        have C := Lib.hid (show Calls Tryd.prog 69 #[.agg #[.string x.ty.name, .slice B m a, .int .i64 x.ty.off]] W1 _ from HT.out k x hx [.string x.ty.name, .slice B m a, .int .i64 x.ty.off] W1 b2 (Bd.given_in HK.out hrel.st b1 hin))
        have HX := Lib.hid hx
        have HN := Lib.hid hn
        have HD := Lib.hid hd
        have HFC := Lib.hid hcs
        have HP1 := Lib.hid hP1
        have HBM := Lib.hid (boxd_mid hP1.box)
        clear hx hn hd hcs hin b1 b2 hP1 hrel
        go_wp2_with (first
          | (refine loadOp flatFo 14 15 rfl HFC.out rfl ?_)
          | (refine storeOp flatFo 6 15 (b := wr.heap.size) (o := 0) (us := [.string x.name, .string x.ty.name, .slice B m a, .int .i64 x.ty.off, .int .i64 x.off]) rfl rfl HP1.out.there five_oneB rfl ?_; rw [HP1.out.eq])
          | (refine loadOp flatTy3 19 20 rfl HBM.out rfl ?_))
        refine C.out.mono ?_
        rintro e w3 ⟨vs, rfl, hv, hm, hs⟩
        obtain ⟨ht, hvl, hrel⟩ := bd_close HK.out H0.out HI.out HR.out HX.out HN.out HD.out HP1.out.bel hv hm hs
        have HTH := Lib.hid ht
        have HVL := Lib.hid hvl
        have HREL2 := Lib.hid hrel
        have HOV := Lib.hid (ty_cells hv)
        clear hv hm hs ht hvl hrel C HFC HP1 HBM
        go_wp2_with (refine storeOp flatTy3 23 21 (b := g) (o := k * 5 + 1) rfl rfl HTH.out HOV.out HVL.out ?_)
        go_roundw
        case rel => exact ⟨k + 1, by omega, by go_num, HREL2.out⟩
        case measure => simp [intOf]; omega
      · have y0 : (q : Int) ≤ k := by omega
        obtain rfl : k = q := by omega
        clear hrel
        go_wp2_with fail
        go_ret
        have he := bd_end HI.out HC4.out HR.out
        have hn := HI.out.num
        rw [← hn] at he
        refine ⟨_, rfl, by rw [← hn]; exact he, HR.out.mv, by rw [hn]; exact HR.out.st⟩
end Go.Proofs.YtjhlehdjdaphcaaDoor
