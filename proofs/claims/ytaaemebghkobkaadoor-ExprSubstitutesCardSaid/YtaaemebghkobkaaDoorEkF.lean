/- The walk of expr.rightAlone. The condition: the types are small. -/
import Derived.Test.YtaaemebghkobkaaDoorEkE
namespace Go.Proofs.YtaaemebghkobkaaDoor
open Go.RowKit

/-- What lies from the beginning of the switch on. -/
structure Sw (w W : World) (B : Option Addr) (l b : Nat) (k : Int) (ts : List Ty) (v6 : Value) : Prop where
  bel : Below w.heap.size w W
  kind : W.cell? ⟨w.heap.size, 0, none⟩ = some (.int .i64 k)
  targs : W.cell? ⟨w.heap.size, 5, none⟩ = some (.slice B l b)
  kids : W.cell? ⟨w.heap.size, 6, none⟩ = some v6
  env : ResVar W
  lies : Here W B l ts
theorem Sw.later {w W W' : World} {B : Option Addr} {l b : Nat} {k : Int} {ts : List Ty} {v6 : Value} (h : Sw w W B l b k ts v6) (hb : Below W.heap.size W W') : Sw w W' B l b k ts v6 :=
  ⟨h.bel.trans (hb.mono h.bel.size), (hb.cell (cell_lt h.kind)).trans h.kind, (hb.cell (cell_lt h.targs)).trans h.targs, (hb.cell (cell_lt h.kids)).trans h.kids, h.env.later hb, Here.later h.lies hb⟩

set_option maxRecDepth 100000 in
set_option maxHeartbeats 16000000 in
theorem rightAlone_any (e : Ex) (us : List Value) (w : World) (hE : ResVar w) (hsm : e.ty.Small) (hst : ∀ t ∈ e.targs, t.Small) (h : e.dat.H w us) :
    Calls Tryd.prog 32 #[.agg us.toArray] w (EqvPost w (alone e)) := by
  obtain ⟨k, s, t, ts, xs, o⟩ := e
  obtain ⟨A, m, a, B, l, b, C, r, c, rfl, hs, ht, ha, hb, hc⟩ := ex_open h
  have h1 := OneX.new h 27
  simp only [Ex.kind, Ex.name, Ex.ty, Ex.targs, Ex.kids, Ex.off, alone] at hs ht ha hb hc h1 hsm hst ⊢
  have hl : (l : Int) ≤ 9223372036854775807 := by have := hb.le; omega
  have hr : (r : Int) ≤ 9223372036854775807 := by have := hc.le; omega
  have hl0 : (0 : Int) ≤ l := by omega
  have hr0 : (0 : Int) ≤ r := by omega
  have hxl := hc.len
  rw [Ex.dats_len] at hxl
  have htl := hb.len
  obtain ⟨x0, x1, x2, x3, x4, x5, x6, x7⟩ := h1.one.c8
  have C1 := Lib.hid (fun (V : World) (hV : Below (w.alloc (.cells #[.int .i64 k, .string s, .string t.name, .slice A m a, .int .i64 t.off, .slice B l b, .slice C r c, .int .i64 o] 27)).heap.size (w.alloc (.cells #[.int .i64 k, .string s, .string t.name, .slice A m a, .int .i64 t.off, .slice B l b, .slice C r c, .int .i64 o] 27)) V) => nm_is_any s V ((hE.later h1.bel).later hV))
  have C2 := Lib.hid (fun (V : World) (hV : Below (w.alloc (.cells #[.int .i64 k, .string s, .string t.name, .slice A m a, .int .i64 t.off, .slice B l b, .slice C r c, .int .i64 o] 27)).heap.size (w.alloc (.cells #[.int .i64 k, .string s, .string t.name, .slice A m a, .int .i64 t.off, .slice B l b, .slice C r c, .int .i64 o] 27)) V) => right_any t A m a V ((hE.later h1.bel).later hV) hsm (Here.later (Here.later ha h1.bel) hV))
  have C3 := Lib.hid (fun (V : World) (hV : Below (w.alloc (.cells #[.int .i64 k, .string s, .string t.name, .slice A m a, .int .i64 t.off, .slice B l b, .slice C r c, .int .i64 o] 27)).heap.size (w.alloc (.cells #[.int .i64 k, .string s, .string t.name, .slice A m a, .int .i64 t.off, .slice B l b, .slice C r c, .int .i64 o] 27)) V) =>
    show Calls Tryd.prog 35 #[.agg #[.string t.name, .slice A m a, .int .i64 t.off], .agg #[.string ⟨#[]⟩, .slice none 0 0, .int .i64 0]] V (EqvPost V t.none?) from same_any t Ty.zero A none m 0 a 0 V (Here.later (Here.later ha h1.bel) hV) (Lies.nil _ _ _))
  have CA := Lib.hid (fun (V : World) (hV : ResVar V) (hh : Here V B l ts) => allRight_any ts B l b V hV hst hh)
  have HSW := Lib.hid (show Sw w (w.alloc (.cells #[.int .i64 k, .string s, .string t.name, .slice A m a, .int .i64 t.off, .slice B l b, .slice C r c, .int .i64 o] 27)) B l b k ts (.slice C r c) from ⟨h1.bel, x0, x5, x6, hE.later h1.bel, Here.later hb h1.bel⟩)
  have HE := Lib.hid hE
  have HF : Hid ((k = 1 ∧ Ex.fit k s t ts xs.length = (Nm.isB s.data.toList && (t.none? && (l == 0 && r == 0)))) ∨ (k = 2 ∧ Ex.fit k s t ts xs.length = (Nm.isB s.data.toList && (t.none? && (ts.all Ty.right && decide (0 < r)))))
      ∨ (k = 3 ∧ Ex.fit k s t ts xs.length = (emptyB s && (t.right && l == 0))) ∨ (k = 4 ∧ Ex.fit k s t ts xs.length = (Nm.isB s.data.toList && (t.none? && (l == 0 && r == 1))))
      ∨ (k = 5 ∧ Ex.fit k s t ts xs.length = (emptyB s && (t.right && (l == 0 && r == 1)))) ∨ ((k ≠ 1 ∧ k ≠ 2 ∧ k ≠ 3 ∧ k ≠ 4 ∧ k ≠ 5) ∧ Ex.fit k s t ts xs.length = false)) := Lib.hid (by
    rw [← htl, ← hxl]
    by_cases h1 : k = 1
    · subst h1; exact .inl ⟨rfl, fit1 _ _ _ _⟩
    by_cases h2 : k = 2
    · subst h2; exact .inr (.inl ⟨rfl, fit2 _ _ _ _⟩)
    by_cases h3 : k = 3
    · subst h3; exact .inr (.inr (.inl ⟨rfl, fit3 _ _ _ _⟩))
    by_cases h4 : k = 4
    · subst h4; exact .inr (.inr (.inr (.inl ⟨rfl, fit4 _ _ _ _⟩)))
    by_cases h5 : k = 5
    · subst h5; exact .inr (.inr (.inr (.inr (.inl ⟨rfl, fit5 _ _ _ _⟩))))
    · exact .inr (.inr (.inr (.inr (.inr ⟨⟨h1, h2, h3, h4, h5⟩, fit0 ⟨h1, h2, h3, h4, h5⟩ _ _ _ _⟩)))))
  have hem : (s.toList == []) = emptyB s := rfl
  have HEM := Lib.hid hem
  clear h h1 hs ht ha hb hc hsm hst hem hxl htl hE x0 x5 x6 x7
  generalize Nm.isB s.data.toList = nb at *
  generalize t.right = tr at *
  generalize t.none? = tl at *
  generalize emptyB s = nl at *
  generalize Ex.fit k s t ts xs.length = res at *
  go_enter Tryd.func32, Tryd.ntmps32
  go_upto_region 1 with fail
  generalize hW : w.alloc (.cells #[.int .i64 k, .string s, .string t.name, .slice A m a, .int .i64 t.off, .slice B l b, .slice C r c, .int .i64 o] 27) = W at *
  clear hW
  have KP := Lib.hid (show ∀ w1 : World, Below W.heap.size W w1 → Below W.heap.size W w1 ∧ w1.cell? ⟨w.heap.size, 1, none⟩ = some (.string s) ∧ w1.cell? ⟨w.heap.size, 2, none⟩ = some (.string t.name) ∧ w1.cell? ⟨w.heap.size, 3, none⟩ = some (.slice A m a) ∧ w1.cell? ⟨w.heap.size, 4, none⟩ = some (.int .i64 t.off) from fun w1 h => ⟨h, (h.cell (cell_lt x1)).trans x1, (h.cell (cell_lt x2)).trans x2, (h.cell (cell_lt x3)).trans x3, (h.cell (cell_lt x4)).trans x4⟩)
  clear x1 x2 x3 x4
  go_cut [3, 4] (fun s3 s4 wx => s3 = .bool nb ∧ s4 = .bool tr ∧ Below W.heap.size W wx)
  case first =>
    have SS := KP.out W (Below.refl _ _)
    go_region_held3 (fun V => Below W.heap.size W V ∧ V.cell? ⟨w.heap.size, 1, none⟩ = some (.string s) ∧ V.cell? ⟨w.heap.size, 2, none⟩ = some (.string t.name) ∧ V.cell? ⟨w.heap.size, 3, none⟩ = some (.slice A m a) ∧ V.cell? ⟨w.heap.size, 4, none⟩ = some (.int .i64 t.off))
      (first | exact SS | exact ⟨SS.1.drew, SS.2⟩ | fail)
      (first
        | (go_at_call 60; refine (C1.out _ ?_).mono ?_; (first | exact SS.1 | exact SS.1.drew | fail); rintro e wA ⟨rfl, hbA⟩; have hA0 := Lib.hid (show Below W.heap.size W wA by first | exact Below.trans SS.1 (Below.mono hbA (Below.size SS.1)) | exact Below.trans (Below.drew SS.1) (Below.mono hbA (Below.size (Below.drew SS.1))) | fail); have SS := KP.out wA hA0.out; clear hbA)
        | (go_at_call 61; refine (C2.out _ ?_).mono ?_; (first | exact SS.1 | exact SS.1.drew | fail); rintro e wB ⟨rfl, hbB⟩; have hB0 := Lib.hid (show Below W.heap.size W wB by first | exact Below.trans SS.1 (Below.mono hbB (Below.size SS.1)) | exact Below.trans (Below.drew SS.1) (Below.mono hbB (Below.size (Below.drew SS.1))) | fail); have SS := KP.out wB hB0.out; clear hbB))
    all_goals
      go_wp2_with fail
      go_meet
      exact ⟨rfl, rfl, SS.1⟩
  case rest =>
    obtain ⟨rfl, rfl, hcb⟩ := hcut
    have HCB := Lib.hid hcb
    clear hcb
    go_upto_region 2 with fail
    go_cut [5, 6] (fun s5 s6 wx => s5 = .bool nl ∧ s6 = .bool tl ∧ Below W.heap.size W wx)
    case first =>
      have SS := KP.out _ HCB.out
      have hem := HEM.out
      go_region_held3 (fun V => Below W.heap.size W V ∧ V.cell? ⟨w.heap.size, 1, none⟩ = some (.string s) ∧ V.cell? ⟨w.heap.size, 2, none⟩ = some (.string t.name) ∧ V.cell? ⟨w.heap.size, 3, none⟩ = some (.slice A m a) ∧ V.cell? ⟨w.heap.size, 4, none⟩ = some (.int .i64 t.off))
        (first | exact SS | exact ⟨SS.1.drew, SS.2⟩ | fail)
        (first | (go_at_call 35; refine (C3.out _ ?_).mono ?_; (first | exact SS.1 | exact SS.1.drew | fail); rintro e wA ⟨rfl, hbA⟩; have hA0 := Lib.hid (show Below W.heap.size W wA by first | exact Below.trans SS.1 (Below.mono hbA (Below.size SS.1)) | exact Below.trans (Below.drew SS.1) (Below.mono hbA (Below.size (Below.drew SS.1))) | fail); have SS := KP.out wA hA0.out; clear hbA))
      all_goals
        go_wp2_with fail
        go_meet
        exact ⟨rfl, rfl, SS.1⟩
    case rest =>
      obtain ⟨rfl, rfl, hcb2⟩ := hcut
      have HSV := Lib.hid (HSW.out.later hcb2)
      clear hcb2 HCB HSW
      obtain ⟨x0, x5, x6⟩ : wc.cell? ⟨w.heap.size, 0, none⟩ = some (.int .i64 k) ∧ wc.cell? ⟨w.heap.size, 5, none⟩ = some (.slice B l b) ∧ wc.cell? ⟨w.heap.size, 6, none⟩ = some (.slice C r c) := ⟨HSV.out.kind, HSV.out.targs, HSV.out.kids⟩
      go_upto_region 3 with fail
      go_quiet (fail)
      have HSD := Lib.hid (HSV.out.later (below_drewN (Below.refl _ _) nq))
      have d0 := HSD.out.kind
      have d5 := HSD.out.targs
      clear HSV x0 x5 x6
      generalize World.drewN wc nq = wd at *
      obtain ⟨ql, hql⟩ : ∃ q, q = (l == 0) := ⟨_, rfl⟩
      obtain ⟨q0, hq0⟩ : ∃ q, q = (r == 0) := ⟨_, rfl⟩
      obtain ⟨q1, hq1⟩ : ∃ q, q = (r == 1) := ⟨_, rfl⟩
      have l0 : ((l : Int) == 0) = ql := by rw [hql, Bool.eq_iff_iff]; simp
      have l1 : ((r : Int) == 0) = q0 := by rw [hq0, Bool.eq_iff_iff]; simp
      have l2 : ((r : Int) == 1) = q1 := by rw [hq1, Bool.eq_iff_iff]; simp; omega
      have hf := HF.out
      rw [← hql, ← hq0, ← hq1] at hf
      clear hql hq0 hq1 HF
      rcases hf with ⟨rfl, hf⟩ | ⟨rfl, hf⟩ | ⟨rfl, hf⟩ | ⟨rfl, hf⟩ | ⟨rfl, hf⟩ | ⟨⟨h1, h2, h3, h4, h5⟩, hf⟩
      · have HFR := Lib.hid hf
        clear hf
        cases nb <;> cases tl <;> cases ql <;> cases q0
        all_goals
          go_wp2_with fail
          go_ret
          exact ⟨ret_bool (by rw [HFR.out]; rfl), HSD.out.bel⟩
      · have HFR := Lib.hid hf
        clear hf
        cases nb
        · go_wp2_with fail
          go_ret
          exact ⟨ret_bool (by rw [HFR.out]; rfl), HSD.out.bel⟩
        · cases tl
          · go_wp2_with fail
            go_ret
            exact ⟨ret_bool (by rw [HFR.out]; rfl), HSD.out.bel⟩
          · have CC := Lib.hid (CA.out _ HSD.out.env HSD.out.lies)
            generalize ts.all Ty.right = qa at *
            go_wp2_with fail
            refine CC.out.mono ?_
            rintro e w3 ⟨rfl, hb3⟩
            have HB3 := Lib.hid (HSD.out.bel.trans (hb3.mono HSD.out.bel.size))
            clear hb3 d0 d5
            obtain ⟨qd, hqd⟩ : ∃ q, q = decide (0 < r) := ⟨_, rfl⟩
            rw [← hqd] at HFR
            cases qd
            · have z : (r : Int) ≤ 0 := by have := of_decide_eq_false hqd.symm; omega
              have HFR2 := Lib.hid (HFR.out.trans (by simp : _ = false))
              clear hqd
              cases qa
              all_goals
                go_wp2_with fail
                go_ret
                exact ⟨ret_bool (by rw [HFR2.out]; all_goals (first | rfl | exact decide_eq_true (by omega) | exact decide_eq_false (by omega))), HB3.out⟩
            · have z : (0 : Int) < r := by have := of_decide_eq_true hqd.symm; omega
              have HFR2 := Lib.hid (HFR.out.trans (by simp : _ = qa))
              clear hqd
              cases qa
              all_goals
                go_wp2_with fail
                go_ret
                exact ⟨ret_bool (by rw [HFR2.out]; all_goals (first | rfl | exact decide_eq_true (by omega) | exact decide_eq_false (by omega))), HB3.out⟩
      · have HFR := Lib.hid hf
        clear hf
        cases nl <;> cases tr <;> cases ql
        all_goals
          go_wp2_with fail
          go_ret
          exact ⟨ret_bool (by rw [HFR.out]; rfl), HSD.out.bel⟩
      · have HFR := Lib.hid hf
        clear hf
        cases nb <;> cases tl <;> cases ql <;> cases q1
        all_goals
          go_wp2_with fail
          go_ret
          exact ⟨ret_bool (by rw [HFR.out]; rfl), HSD.out.bel⟩
      · have HFR := Lib.hid hf
        clear hf
        cases nl <;> cases tr <;> cases ql <;> cases q1
        all_goals
          go_wp2_with fail
          go_ret
          exact ⟨ret_bool (by rw [HFR.out]; rfl), HSD.out.bel⟩
      · have HFR := Lib.hid hf
        have e1 : (k == 1) = false := by simp [h1]
        have e2 : (k == 2) = false := by simp [h2]
        have e3 : (k == 3) = false := by simp [h3]
        have e4 : (k == 4) = false := by simp [h4]
        have e5 : (k == 5) = false := by simp [h5]
        clear hf h1 h2 h3 h4 h5
        go_wp2_with fail
        go_ret
        exact ⟨ret_bool (by rw [HFR.out]), HSD.out.bel⟩
end Go.Proofs.YtaaemebghkobkaaDoor
