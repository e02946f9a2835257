/- Declarations and programs that came in, opened. No condition. -/
import Derived.Test.YtaeljknfbanbfaaGreatDoorExLaid
import Derived.Test.YtaeljknfbanbfaaGreatDoorDcW
namespace Go.Proofs.YtaeljknfbanbfaaGreatDoor
open Go.ChangeShapes Go.WideShapes Go.ChangeAt Go.RowKit

theorem cFo : Tryz.prog.cellsOf 51 = 5 := by kernel_rfl
theorem cPa : Tryz.prog.cellsOf 53 = 5 := by kernel_rfl
theorem cSg : Tryz.prog.cellsOf 30 = 7 := by kernel_rfl
theorem cDc : Tryz.prog.cellsOf 35 = 23 := by kernel_rfl
theorem cPg : Tryz.prog.cellsOf 40 = 9 := by kernel_rfl
theorem cFos : Tryz.prog.cellsOf 22 = 1 := by kernel_rfl
theorem cPas : Tryz.prog.cellsOf 23 = 1 := by kernel_rfl
theorem cSgs : Tryz.prog.cellsOf 24 = 1 := by kernel_rfl
theorem cDcs : Tryz.prog.cellsOf 38 = 1 := by kernel_rfl
theorem cStrs : Tryz.prog.cellsOf 25 = 1 := by kernel_rfl

/-- What is read of a type of the program is a datum of its kind. -/
def Opens {H : Type} (enc : TypeId × Value → H) (w : World) (base : Nat) (spare : Nat → Bool) (held : Bool) (T : TypeId) {P : Type} (dat : P → Dat) : Prop :=
  ∀ (fuel : Nat) (cs : List Value) (x : DataW H × List MemPlace), DataW.trod enc Tryz.prog w base spare held fuel T cs = some x → ∃ p : P, (dat p).In w False (· < w.heap.size) cs
section
variable {H : Type} {enc : TypeId × Value → H} {w : World} {base : Nat} {spare : Nat → Bool} {held : Bool}

set_option maxRecDepth 100000 in
theorem opens_ty : Opens enc w base spare held 28 Ty.dat := fun fuel cs x h => by
  obtain ⟨n, s, v, o, y, _, rfl, hs, hv⟩ := open_ty3 h
  obtain ⟨A, m, c, xs, rfl, hx⟩ := open_tys n hv
  exact ⟨.mk s xs o, ty_shut (t := .mk s xs o) hs hx⟩
set_option maxRecDepth 100000 in
theorem opens_ex : Opens enc w base spare held 33 Ex.dat := fun fuel cs x h => by
  obtain ⟨n, k, s, t, A, m, a, B, l, b, ts, v, o, y, _, rfl, h2, h3, h4, h5, h6⟩ := open_ex8 h
  obtain ⟨C, r, c, xs, rfl, h7, h8⟩ := open_exs n h6
  exact ⟨.mk k s t ts xs o, ex_shut (e := .mk k s t ts xs o) h2 h3 h4 h5 h7 h8⟩
set_option maxRecDepth 100000 in
theorem opens_str : Opens enc w base spare held 9 Dat.str := fun fuel cs x h => by
  obtain ⟨s, rfl, _, hs⟩ := DataW.trod_string Tryz.underlying9 h
  unfold maxLen at hs
  exact ⟨s, by rw [Dat.In]; exact ⟨rfl, hs⟩⟩
theorem open_row {sl e : TypeId} {z : Nat} {P : Type} {dat : P → Dat} (inh : P) (hu : Tryz.prog.underlying sl = some (.slice e)) (hc : Tryz.prog.cellsOf e = z) (hz : 0 < z) (hsz : ∀ p, (dat p).size = z) (ho : Opens enc w base spare held e dat)
    {fuel : Nat} {v : Value} {x : DataW H × List MemPlace} (h : DataW.trod enc Tryz.prog w base spare held fuel sl [v] = some x) : ∃ (A : Option Addr) (n cap : Nat) (xs : List P), v = .slice A n cap ∧ RowH w z A n (xs.map dat) ∧ n ≤ cap := by
  rcases DataW.trod_slice hu h with ⟨hv, _⟩ | ⟨a, len, cap, elems, rest, n, hn, hv, _, _, hl, hm, hlen, hel, _, _⟩
  · obtain rfl : v = .slice none 0 0 := by simpa using hv
    exact ⟨none, 0, 0, [], rfl, Row.nil _ _ _ _ _, Nat.le_refl _⟩
  · obtain rfl : v = .slice (some a) len cap := by simpa using hv
    have hs : ∀ i : Nat, ∃ p : P, i < len → ∃ us, a.block < w.heap.size ∧ (dat p).H w us ∧ CellsAt w (a.add (i * z)) us := fun i => by
      by_cases hlt : i < len
      · have h1 := hel i hlt
        rw [List.getElem?_eq_getElem (by omega), Option.bind_eq_some_iff] at h1
        obtain ⟨cs', hcc, ht'⟩ := h1
        rw [hc] at hcc
        obtain ⟨p, hp⟩ := ho _ _ _ ht'
        have hlp := (Dat.In.len _ _ hp).trans (hsz p)
        obtain ⟨_, _, hat⟩ := World.cells?_some hcc
        have h0 := hat 0 hz
        have hb := cell_lt (h0.trans (List.getElem?_eq_getElem (by omega)))
        rw [block_of_add, block_of_add] at hb
        refine ⟨p, fun _ => ⟨_, hb, hp, fun j u hu => ?_⟩⟩
        have hj : j < z := by have := (List.getElem?_eq_some_iff.1 hu).1; omega
        rw [hat j hj]
        exact hu
      · exact ⟨inh, fun h => absurd h hlt⟩
    obtain ⟨f, hf⟩ := Classical.axiomOfChoice hs
    unfold maxLen at hm
    refine ⟨some a, len, cap, (List.range len).map f, rfl, ⟨by simp, by omega, Dat.Elems.of fun j d hj => ?_⟩, hl⟩
    rw [List.getElem?_map, Option.map_eq_some_iff] at hj
    obtain ⟨e, he, rfl⟩ := hj
    have hjl : j < len := by
      have := (List.getElem?_eq_some_iff.1 he).1
      simpa using this
    have he2 : f j = e := by simpa [hjl] using he
    obtain ⟨us, h1, h2, h3⟩ := hf j hjl
    rw [he2] at h2
    refine ⟨a, us, rfl, h1, False.elim, h2, ?_⟩
    rw [Nat.zero_add]
    exact h3
set_option maxRecDepth 100000 in
theorem opens_fo : Opens enc w base spare held 51 Fo.dat := fun fuel cs x h => by
  obtain ⟨xs, n, hn, _, hl, hxl, hg⟩ := DataW.trod_struct Tryz.underlying51 h
  obtain ⟨c0, c1, c2, c3, c4, rfl⟩ := list5 (hl.trans cFo)
  have field : ∀ (j : Nat) (f : Field), _ = some f → ∃ y, DataW.trod enc Tryz.prog w base spare held n f.type (([c0, c1, c2, c3, c4].drop f.offset).take (Tryz.prog.cellsOf f.type)) = some y := fun j f hj => by
    have hjx : j < xs.length := by rw [hxl]; exact (Array.getElem?_eq_some_iff.1 hj).1
    exact ⟨_, (hg j f hj).trans (List.getElem?_eq_getElem hjx)⟩
  obtain ⟨y0, t0⟩ : ∃ y, DataW.trod enc Tryz.prog w base spare held n 9 (([c0, c1, c2, c3, c4].drop 0).take (Tryz.prog.cellsOf 9)) = some y := field 0 _ rfl
  obtain ⟨y1, t1⟩ : ∃ y, DataW.trod enc Tryz.prog w base spare held n 28 (([c0, c1, c2, c3, c4].drop 1).take (Tryz.prog.cellsOf 28)) = some y := field 1 _ rfl
  obtain ⟨y2, t2⟩ : ∃ y, DataW.trod enc Tryz.prog w base spare held n 3 (([c0, c1, c2, c3, c4].drop 4).take (Tryz.prog.cellsOf 3)) = some y := field 2 _ rfl
  simp only [cInt, cStr, cTy, List.drop_succ_cons, List.drop_zero, List.take_succ_cons, List.take_zero] at t0 t1 t2
  obtain ⟨s, e0, _, hs⟩ := DataW.trod_string Tryz.underlying9 t0
  obtain ⟨t, ht⟩ := opens_ty _ _ _ t1
  obtain ⟨o, e2, _, _⟩ := DataW.trod_int Tryz.underlying3 t2
  simp only [List.cons.injEq, and_true] at e0 e2
  subst e0 e2
  unfold maxLen at hs
  obtain ⟨C, k, e, e5, hts, hta⟩ := ty_open ht
  simp only [List.cons.injEq, and_true] at e5
  obtain ⟨rfl, rfl, rfl⟩ := e5
  exact ⟨⟨s, t, o⟩, fo_shut (f := ⟨s, t, o⟩) hs hts hta⟩
set_option maxRecDepth 100000 in
theorem opens_pa : Opens enc w base spare held 53 Fo.dat := fun fuel cs x h => by
  obtain ⟨xs, n, hn, _, hl, hxl, hg⟩ := DataW.trod_struct Tryz.underlying53 h
  obtain ⟨c0, c1, c2, c3, c4, rfl⟩ := list5 (hl.trans cPa)
  have field : ∀ (j : Nat) (f : Field), _ = some f → ∃ y, DataW.trod enc Tryz.prog w base spare held n f.type (([c0, c1, c2, c3, c4].drop f.offset).take (Tryz.prog.cellsOf f.type)) = some y := fun j f hj => by
    have hjx : j < xs.length := by rw [hxl]; exact (Array.getElem?_eq_some_iff.1 hj).1
    exact ⟨_, (hg j f hj).trans (List.getElem?_eq_getElem hjx)⟩
  obtain ⟨y0, t0⟩ : ∃ y, DataW.trod enc Tryz.prog w base spare held n 9 (([c0, c1, c2, c3, c4].drop 0).take (Tryz.prog.cellsOf 9)) = some y := field 0 _ rfl
  obtain ⟨y1, t1⟩ : ∃ y, DataW.trod enc Tryz.prog w base spare held n 28 (([c0, c1, c2, c3, c4].drop 1).take (Tryz.prog.cellsOf 28)) = some y := field 1 _ rfl
  obtain ⟨y2, t2⟩ : ∃ y, DataW.trod enc Tryz.prog w base spare held n 3 (([c0, c1, c2, c3, c4].drop 4).take (Tryz.prog.cellsOf 3)) = some y := field 2 _ rfl
  simp only [cInt, cStr, cTy, List.drop_succ_cons, List.drop_zero, List.take_succ_cons, List.take_zero] at t0 t1 t2
  obtain ⟨s, e0, _, hs⟩ := DataW.trod_string Tryz.underlying9 t0
  obtain ⟨t, ht⟩ := opens_ty _ _ _ t1
  obtain ⟨o, e2, _, _⟩ := DataW.trod_int Tryz.underlying3 t2
  simp only [List.cons.injEq, and_true] at e0 e2
  subst e0 e2
  unfold maxLen at hs
  obtain ⟨C, k, e, e5, hts, hta⟩ := ty_open ht
  simp only [List.cons.injEq, and_true] at e5
  obtain ⟨rfl, rfl, rfl⟩ := e5
  exact ⟨⟨s, t, o⟩, fo_shut (f := ⟨s, t, o⟩) hs hts hta⟩
set_option maxRecDepth 100000 in
theorem opens_sg : Opens enc w base spare held 30 Sg.dat := fun fuel cs x h => by
  obtain ⟨xs, n, hn, _, hl, hxl, hg⟩ := DataW.trod_struct Tryz.underlying30 h
  obtain ⟨c0, c1, c2, c3, c4, c5, c6, rfl⟩ := list7 (hl.trans cSg)
  have field : ∀ (j : Nat) (f : Field), _ = some f → ∃ y, DataW.trod enc Tryz.prog w base spare held n f.type (([c0, c1, c2, c3, c4, c5, c6].drop f.offset).take (Tryz.prog.cellsOf f.type)) = some y := fun j f hj => by
    have hjx : j < xs.length := by rw [hxl]; exact (Array.getElem?_eq_some_iff.1 hj).1
    exact ⟨_, (hg j f hj).trans (List.getElem?_eq_getElem hjx)⟩
  obtain ⟨y0, t0⟩ : ∃ y, DataW.trod enc Tryz.prog w base spare held n 9 (([c0, c1, c2, c3, c4, c5, c6].drop 0).take (Tryz.prog.cellsOf 9)) = some y := field 0 _ rfl
  obtain ⟨y1, t1⟩ : ∃ y, DataW.trod enc Tryz.prog w base spare held n 22 (([c0, c1, c2, c3, c4, c5, c6].drop 1).take (Tryz.prog.cellsOf 22)) = some y := field 1 _ rfl
  obtain ⟨y2, t2⟩ : ∃ y, DataW.trod enc Tryz.prog w base spare held n 23 (([c0, c1, c2, c3, c4, c5, c6].drop 2).take (Tryz.prog.cellsOf 23)) = some y := field 2 _ rfl
  obtain ⟨y3, t3⟩ : ∃ y, DataW.trod enc Tryz.prog w base spare held n 28 (([c0, c1, c2, c3, c4, c5, c6].drop 3).take (Tryz.prog.cellsOf 28)) = some y := field 3 _ rfl
  obtain ⟨y4, t4⟩ : ∃ y, DataW.trod enc Tryz.prog w base spare held n 3 (([c0, c1, c2, c3, c4, c5, c6].drop 6).take (Tryz.prog.cellsOf 3)) = some y := field 4 _ rfl
  simp only [cInt, cStr, cTy, cFos, cPas, List.drop_succ_cons, List.drop_zero, List.take_succ_cons, List.take_zero] at t0 t1 t2 t3 t4
  obtain ⟨s, e0, _, hs⟩ := DataW.trod_string Tryz.underlying9 t0
  obtain ⟨A, l, c, fs, rfl, hf, _⟩ := open_row ⟨⟨#[]⟩, .mk ⟨#[]⟩ [] 0, 0⟩ Tryz.underlying22 cFo (by omega) Fo.dat_size opens_fo t1
  obtain ⟨B, m, d, ps, rfl, hp, _⟩ := open_row ⟨⟨#[]⟩, .mk ⟨#[]⟩ [] 0, 0⟩ Tryz.underlying23 cPa (by omega) Fo.dat_size opens_pa t2
  obtain ⟨t, ht⟩ := opens_ty _ _ _ t3
  obtain ⟨o, e4, _, _⟩ := DataW.trod_int Tryz.underlying3 t4
  simp only [List.cons.injEq, and_true] at e0 e4
  subst e0 e4
  unfold maxLen at hs
  obtain ⟨C, k, e, e5, hts, hta⟩ := ty_open ht
  simp only [List.cons.injEq, and_true] at e5
  obtain ⟨rfl, rfl, rfl⟩ := e5
  exact ⟨⟨s, fs, ps, t, o⟩, sg_shut (s := ⟨s, fs, ps, t, o⟩) hs hf hp hts hta⟩
def list23_ {α : Type} (l : List α) : Prop := ∃ a0 a1 a2 a3 a4 a5 a6 a7 a8 a9 a10 a11 a12 a13 a14 a15 a16 a17 a18 a19 a20 a21 a22, l = [a0, a1, a2, a3, a4, a5, a6, a7, a8, a9, a10, a11, a12, a13, a14, a15, a16, a17, a18, a19, a20, a21, a22]
theorem list23 {l : List Value} (h : l.length = 23) : list23_ l := by
  match l, h with
  | [a0, a1, a2, a3, a4, a5, a6, a7, a8, a9, a10, a11, a12, a13, a14, a15, a16, a17, a18, a19, a20, a21, a22], _ => exact ⟨a0, a1, a2, a3, a4, a5, a6, a7, a8, a9, a10, a11, a12, a13, a14, a15, a16, a17, a18, a19, a20, a21, a22, rfl⟩
set_option maxRecDepth 100000 in
set_option maxHeartbeats 1000000 in
theorem opens_dc : Opens enc w base spare held 35 Dc.dat := fun fuel cs x h => by
  obtain ⟨xs, n, hn, _, hl, hxl, hg⟩ := DataW.trod_struct Tryz.underlying35 h
  obtain ⟨c0, c1, c2, c3, c4, c5, c6, c7, c8, c9, c10, c11, c12, c13, c14, c15, c16, c17, c18, c19, c20, c21, c22, rfl⟩ := list23 (hl.trans cDc)
  have field : ∀ (j : Nat) (f : Field), _ = some f → ∃ y, DataW.trod enc Tryz.prog w base spare held n f.type (([c0, c1, c2, c3, c4, c5, c6, c7, c8, c9, c10, c11, c12, c13, c14, c15, c16, c17, c18, c19, c20, c21, c22].drop f.offset).take (Tryz.prog.cellsOf f.type)) = some y := fun j f hj => by
    have hjx : j < xs.length := by rw [hxl]; exact (Array.getElem?_eq_some_iff.1 hj).1
    exact ⟨_, (hg j f hj).trans (List.getElem?_eq_getElem hjx)⟩
  obtain ⟨y0, t0⟩ : ∃ y, DataW.trod enc Tryz.prog w base spare held n 3 (([c0, c1, c2, c3, c4, c5, c6, c7, c8, c9, c10, c11, c12, c13, c14, c15, c16, c17, c18, c19, c20, c21, c22].drop 0).take (Tryz.prog.cellsOf 3)) = some y := field 0 _ rfl
  obtain ⟨y1, t1⟩ : ∃ y, DataW.trod enc Tryz.prog w base spare held n 9 (([c0, c1, c2, c3, c4, c5, c6, c7, c8, c9, c10, c11, c12, c13, c14, c15, c16, c17, c18, c19, c20, c21, c22].drop 1).take (Tryz.prog.cellsOf 9)) = some y := field 1 _ rfl
  obtain ⟨y2, t2⟩ : ∃ y, DataW.trod enc Tryz.prog w base spare held n 22 (([c0, c1, c2, c3, c4, c5, c6, c7, c8, c9, c10, c11, c12, c13, c14, c15, c16, c17, c18, c19, c20, c21, c22].drop 2).take (Tryz.prog.cellsOf 22)) = some y := field 2 _ rfl
  obtain ⟨y3, t3⟩ : ∃ y, DataW.trod enc Tryz.prog w base spare held n 23 (([c0, c1, c2, c3, c4, c5, c6, c7, c8, c9, c10, c11, c12, c13, c14, c15, c16, c17, c18, c19, c20, c21, c22].drop 3).take (Tryz.prog.cellsOf 23)) = some y := field 3 _ rfl
  obtain ⟨y4, t4⟩ : ∃ y, DataW.trod enc Tryz.prog w base spare held n 24 (([c0, c1, c2, c3, c4, c5, c6, c7, c8, c9, c10, c11, c12, c13, c14, c15, c16, c17, c18, c19, c20, c21, c22].drop 4).take (Tryz.prog.cellsOf 24)) = some y := field 4 _ rfl
  obtain ⟨y5, t5⟩ : ∃ y, DataW.trod enc Tryz.prog w base spare held n 9 (([c0, c1, c2, c3, c4, c5, c6, c7, c8, c9, c10, c11, c12, c13, c14, c15, c16, c17, c18, c19, c20, c21, c22].drop 5).take (Tryz.prog.cellsOf 9)) = some y := field 5 _ rfl
  obtain ⟨y6, t6⟩ : ∃ y, DataW.trod enc Tryz.prog w base spare held n 25 (([c0, c1, c2, c3, c4, c5, c6, c7, c8, c9, c10, c11, c12, c13, c14, c15, c16, c17, c18, c19, c20, c21, c22].drop 6).take (Tryz.prog.cellsOf 25)) = some y := field 6 _ rfl
  obtain ⟨y7, t7⟩ : ∃ y, DataW.trod enc Tryz.prog w base spare held n 30 (([c0, c1, c2, c3, c4, c5, c6, c7, c8, c9, c10, c11, c12, c13, c14, c15, c16, c17, c18, c19, c20, c21, c22].drop 7).take (Tryz.prog.cellsOf 30)) = some y := field 7 _ rfl
  obtain ⟨y8, t8⟩ : ∃ y, DataW.trod enc Tryz.prog w base spare held n 33 (([c0, c1, c2, c3, c4, c5, c6, c7, c8, c9, c10, c11, c12, c13, c14, c15, c16, c17, c18, c19, c20, c21, c22].drop 14).take (Tryz.prog.cellsOf 33)) = some y := field 8 _ rfl
  obtain ⟨y9, t9⟩ : ∃ y, DataW.trod enc Tryz.prog w base spare held n 3 (([c0, c1, c2, c3, c4, c5, c6, c7, c8, c9, c10, c11, c12, c13, c14, c15, c16, c17, c18, c19, c20, c21, c22].drop 22).take (Tryz.prog.cellsOf 3)) = some y := field 9 _ rfl
  simp only [cInt, cStr, cFos, cPas, cSgs, cStrs, cSg, cEx, List.drop_succ_cons, List.drop_zero, List.take_succ_cons, List.take_zero] at t0 t1 t2 t3 t4 t5 t6 t7 t8 t9
  obtain ⟨k, e0, _, _⟩ := DataW.trod_int Tryz.underlying3 t0
  obtain ⟨s, e1, _, hs⟩ := DataW.trod_string Tryz.underlying9 t1
  obtain ⟨A, l, c, fs, rfl, hf, _⟩ := open_row ⟨⟨#[]⟩, .mk ⟨#[]⟩ [] 0, 0⟩ Tryz.underlying22 cFo (by omega) Fo.dat_size opens_fo t2
  obtain ⟨B, m, d, ps, rfl, hp, _⟩ := open_row ⟨⟨#[]⟩, .mk ⟨#[]⟩ [] 0, 0⟩ Tryz.underlying23 cPa (by omega) Fo.dat_size opens_pa t3
  obtain ⟨G, ng, cg, gs, rfl, hgs, _⟩ := open_row Sg.none? Tryz.underlying24 cSg (by omega) Sg.dat_size opens_sg t4
  obtain ⟨r, e5, _, hr⟩ := DataW.trod_string Tryz.underlying9 t5
  obtain ⟨V, nv, cv, vs, rfl, hv, _⟩ := open_row ⟨#[]⟩ Tryz.underlying25 cStr (by omega) (fun _ => rfl) opens_str t6
  obtain ⟨sg, hsg⟩ := opens_sg _ _ _ t7
  obtain ⟨b, hb⟩ := opens_ex _ _ _ t8
  obtain ⟨o, e9, _, _⟩ := DataW.trod_int Tryz.underlying3 t9
  simp only [List.cons.injEq, and_true] at e0 e1 e5 e9
  subst e0 e1 e5 e9
  unfold maxLen at hs hr
  exact ⟨⟨k, s, fs, ps, gs, r, vs, sg, b, o⟩, dc_shut (d := ⟨k, s, fs, ps, gs, r, vs, sg, b, o⟩) hs hf hp hgs hr hv hsg hb⟩
theorem list9 {l : List Value} (h : l.length = 9) : ∃ a b c d e f g i j, l = [a, b, c, d, e, f, g, i, j] := by
  match l, h with
  | [a, b, c, d, e, f, g, i, j], _ => exact ⟨a, b, c, d, e, f, g, i, j, rfl⟩
set_option maxRecDepth 100000 in
theorem opens_pg : Opens enc w base spare held 40 Pg.dat := fun fuel cs x h => by
  obtain ⟨xs, n, hn, _, hl, hxl, hg⟩ := DataW.trod_struct Tryz.underlying40 h
  obtain ⟨c0, c1, c2, c3, c4, c5, c6, c7, c8, rfl⟩ := list9 (hl.trans cPg)
  have field : ∀ (j : Nat) (f : Field), _ = some f → ∃ y, DataW.trod enc Tryz.prog w base spare held n f.type (([c0, c1, c2, c3, c4, c5, c6, c7, c8].drop f.offset).take (Tryz.prog.cellsOf f.type)) = some y := fun j f hj => by
    have hjx : j < xs.length := by rw [hxl]; exact (Array.getElem?_eq_some_iff.1 hj).1
    exact ⟨_, (hg j f hj).trans (List.getElem?_eq_getElem hjx)⟩
  obtain ⟨y0, t0⟩ : ∃ y, DataW.trod enc Tryz.prog w base spare held n 38 (([c0, c1, c2, c3, c4, c5, c6, c7, c8].drop 0).take (Tryz.prog.cellsOf 38)) = some y := field 0 _ rfl
  obtain ⟨y1, t1⟩ : ∃ y, DataW.trod enc Tryz.prog w base spare held n 33 (([c0, c1, c2, c3, c4, c5, c6, c7, c8].drop 1).take (Tryz.prog.cellsOf 33)) = some y := field 1 _ rfl
  simp only [cDcs, cEx, List.drop_succ_cons, List.drop_zero, List.take_succ_cons, List.take_zero] at t0 t1
  obtain ⟨A, l, c, ds, rfl, hd, _⟩ := open_row Dc.none? Tryz.underlying38 cDc (by omega) Dc.dat_size opens_dc t0
  obtain ⟨b, hb⟩ := opens_ex _ _ _ t1
  exact ⟨⟨ds, b⟩, pg_shut (p := ⟨ds, b⟩) hd hb⟩
end
set_option maxRecDepth 100000 in
theorem open_byV {H : Type} {enc : TypeId × Value → H} {w : World} {base b0 : Nat} {r : Reach} {spare : Nat → Bool} {held : Bool} {v : Value} {d : DataW H} {p : List MemPlace} {T : TypeId} {fs : Array Field} {P : Type} {dat : P → Dat} (hu : Tryz.prog.underlying T = some (.struct fs)) (ho : Opens enc w base spare held T dat)
    (hv : Value.okWide Tryz.prog w r b0 T v) (h : DataW.Trod enc Tryz.prog w base spare held T v d p) : ∃ (e : P) (us : List Value), v = .agg us.toArray ∧ (dat e).H w us := by
  obtain ⟨cs, rfl, _⟩ := okWide_struct hu hv
  obtain ⟨f, hf⟩ := h
  obtain ⟨e, he⟩ := ho _ _ _ hf
  exact ⟨e, cs.toList, by simp, by simpa [Value.cells] using he⟩
set_option maxRecDepth 100000 in
/-- A program that came in by value. -/
theorem open_pgV {H : Type} {enc : TypeId × Value → H} {w : World} {base b0 : Nat} {r : Reach} {spare : Nat → Bool} {held : Bool} {v : Value} {d : DataW H} {p : List MemPlace}
    (hv : Value.okWide Tryz.prog w r b0 40 v) (h : DataW.Trod enc Tryz.prog w base spare held 40 v d p) : ∃ (e : Pg) (us : List Value), v = .agg us.toArray ∧ e.dat.H w us := open_byV Tryz.underlying40 opens_pg hv h
set_option maxRecDepth 100000 in
/-- A declaration that came in by value. -/
theorem open_dcV {H : Type} {enc : TypeId × Value → H} {w : World} {base b0 : Nat} {r : Reach} {spare : Nat → Bool} {held : Bool} {v : Value} {d : DataW H} {p : List MemPlace}
    (hv : Value.okWide Tryz.prog w r b0 35 v) (h : DataW.Trod enc Tryz.prog w base spare held 35 v d p) : ∃ (e : Dc) (us : List Value), v = .agg us.toArray ∧ e.dat.H w us := open_byV Tryz.underlying35 opens_dc hv h
end Go.Proofs.YtaeljknfbanbfaaGreatDoor
