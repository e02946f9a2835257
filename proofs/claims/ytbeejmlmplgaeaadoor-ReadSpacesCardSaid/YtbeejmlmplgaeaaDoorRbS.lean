/- The walk of the law ReadSpaces: true, at every input. The conditions: the table of words, the variable of package errors. -/
import Derived.Test.YtbeejmlmplgaeaaDoorRbL
import Derived.Test.YtbeejmlmplgaeaaDoorLxF
namespace Go.Proofs.YtbeejmlmplgaeaaDoor.Rd
open Go.RowKit

/-! ### a text whose tokens stand apart -/
def gapL (c : Bool) : List UInt8 := 9 :: (if c then [47, 47, 32, 120, 46, 10] else [])
def spaced (c : Bool) : List Tk → List UInt8
  | [] => []
  | t :: r => t.s.data.toList ++ gapL c ++ spaced c r
theorem spaced_append (c : Bool) : ∀ a b : List Tk, spaced c (a ++ b) = spaced c a ++ spaced c b
  | [], b => rfl
  | t :: a, b => by rw [List.cons_append, spaced, spaced, spaced_append c a b]; simp only [List.append_assoc]
theorem spaced_take (c : Bool) {L : List Tk} {k : Nat} {t : Tk} (h : L[k]? = some t) : spaced c (L.take (k + 1)) = spaced c (L.take k) ++ t.s.data.toList ++ gapL c := by
  rw [List.take_add_one, h, spaced_append]
  simp [spaced]
theorem spaced_len (c : Bool) : ∀ ts : List Lx.Tok, (spaced c (ts.map tk)).length ≤ Lx.wide ts + 6 * ts.length
  | [] => by simp [spaced, Lx.wide]
  | t :: r => by
    have h := spaced_len c r
    have hg : (gapL c).length ≤ 7 := by cases c <;> decide
    rw [List.map_cons, spaced, Lx.wide]
    have e : (tk t).s.data.toList = t.text := by simp [tk]
    simp only [List.length_append, List.length_cons, e]
    omega
theorem spaced_full (c : Bool) (ts : List Lx.Tok) (n : Nat) : spaced c (full ts n) = spaced c (ts.map tk) ++ gapL c := by
  rw [full, spaced_append]
  simp [spaced]
theorem spaced_pre (c : Bool) (L : List Tk) (k : Nat) : (spaced c (L.take k)).length ≤ (spaced c L).length := by
  conv => rhs; rw [← List.take_append_drop k L, spaced_append, List.length_append]
  omega
theorem lexes_gap (c : Bool) : Lexes false (gapL c) [] := by
  cases c
  · exact lexes_blank (by decide)
  · have h : Lexes false [47, 47, 32, 120, 46, 10] [] := by
      intro r i _
      refine ⟨[], ?_, rfl, fun t ht => by cases ht⟩
      have ht : (47 :: 32 :: 120 :: 46 :: 10 :: r).takeWhile Lx.inLine = [47, 32, 120, 46] := by
        have := Lx.takeWhile_all (p := Lx.inLine) (a := [47, 32, 120, 46]) (10 :: r) (by decide) (by intro c hc; simp at hc; subst hc; decide)
        simpa using this
      show Lx.lex (47 :: 47 :: 32 :: 120 :: 46 :: 10 :: r) i = _
      rw [Lx.lex_cons, if_neg (by decide), if_pos ⟨rfl, rfl⟩, ht, Lx.Res.app_nil]
      show Lx.lex (10 :: r) _ = _
      rw [Lx.lex_cons, if_pos (by decide)]
      rfl
    have := (lexes_blank (c := 9) (by decide)).cat h (by simp)
    simpa [gapL] using this
theorem cut_gap (c : Bool) (r : List UInt8) : Cut (gapL c ++ r) := ⟨9, _, rfl, by decide⟩
theorem spaced_lexes (c : Bool) : ∀ ts : List Lx.Tok, (∀ t ∈ ts, t.right) → Lexes false (spaced c (ts.map tk)) (ts.map Lx.Tok.text)
  | [], _ => lexes_nil
  | t :: r, h => by
    have h1 := spaced_lexes c r fun x hx => h x (by simp [hx])
    have h2 := (lexes_gap c).cat h1 (by simp)
    have e : (tk t).s.data.toList = t.text := by simp [tk]
    have h3 : Lexes false (t.text ++ (gapL c ++ spaced c (r.map tk))) ([t.text] ++ ([] ++ r.map Lx.Tok.text)) := by
      rcases h t (by simp) with ⟨-, x, q, ht, hx, hq⟩ | ⟨-, x, ht, hx⟩
      · rw [ht]
        exact (lexes_word hx hq).cat h2 fun _ => cut_gap c _
      · rw [ht]
        exact (lexes_sign hx).cat h2 (by simp)
    rw [List.map_cons, spaced, e, List.map_cons, List.append_assoc]
    simpa using h3
/-- The text that the law makes: it is short, and read as the expression. -/
theorem spaced_back {e : Ex} (c : Bool) (hr : e.right = true) (hw : e.wt ≤ 250) : ∃ ts, left ⟨e.text.toArray⟩ 0 = .ok ts ∧ ts.length ≤ 2000 ∧ (∀ t ∈ full ts e.text.length, t.s.size ≤ 100000) ∧ (spaced c (full ts e.text.length)).length ≤ 40000 ∧ ∃ u, exO ⟨(spaced c (full ts e.text.length)).toArray⟩ = .good u ∧ u.same e = true := by
  obtain ⟨ts, h, h1, h2⟩ := lexes_left (s := ⟨e.text.toArray⟩) (ex_lexes e hr)
  have hl : Lx.lex e.text 0 = .ok ts := by unfold left at h; rwa [List.drop_zero] at h
  obtain ⟨h3, h4⟩ := Lx.lex_right hl
  have h5 := extext_len e hr
  have hg : (gapL c).length ≤ 7 := by cases c <;> decide
  have h6 := spaced_len c ts
  have hm : ts.map Lx.Tok.text = exW e := by
    rw [← h1.1, List.map_map]
    exact List.map_congr_left fun t _ => by simp [tk]
  obtain ⟨us, h7, h8, -⟩ := lexes_left (s := ⟨(spaced c (full ts e.text.length)).toArray⟩) (by
    show Lexes false (spaced c (full ts e.text.length)) (exW e)
    rw [spaced_full, ← hm, ← List.append_nil (ts.map Lx.Tok.text)]
    exact (spaced_lexes c ts h3).cat (lexes_gap c) (by simp))
  refine ⟨ts, h, by omega, fun t ht => ?_, ?_, exO_of hr h7 h8⟩
  · have hwd : ∀ (l : List Lx.Tok) (x : Lx.Tok), x ∈ l → x.text.length ≤ Lx.wide l := by
      intro l
      induction l with
      | nil => intro x hx; cases hx
      | cons y r ih =>
        intro x hx
        rw [Lx.wide]
        rcases List.mem_cons.1 hx with rfl | hx
        · omega
        · have := ih x hx; omega
    rw [full, List.mem_append] at ht
    rcases ht with ht | ht
    · obtain ⟨x, hx, rfl⟩ := List.mem_map.1 ht
      have := hwd ts x hx
      rw [Lib.size_eq]
      have e2 : (tk x).s.data.toList = x.text := by simp [tk]
      rw [e2]
      omega
    · rw [List.mem_singleton.1 ht]
      show (0 : Nat) ≤ _
      omega
  · rw [spaced_full, List.length_append]
    omega
theorem fieldRes0 (A : Option Addr) (n c : Nat) (i : Int) (w : World) : (Instr.field 44 (.agg #[.slice A n c, .int .i64 i]) 0).run Tryd.prog w = .ok (.slice A n c) w := by kernel_rfl
set_option maxRecDepth 100000 in
set_option maxHeartbeats 8000000 in
theorem readSpaces_law (e : Ex) (us : List Value) (c : Bool) (w : World) (he : e.dat.H w us) (hR : ResVar w) (hE : ErrVar w) :
    Calls Tryd.prog 4 #[.agg us.toArray, .bool c] w (BoolPost true w) := by
  obtain ⟨a1, a2, a3, a4, a5, a6, a7, a8, a9, rfl, -⟩ := ex_open he
  obtain ⟨uu, huu⟩ : ∃ l : List Value, [.int .i64 e.kind, .string e.name, .string e.ty.name, .slice a1 a2 a3, .int .i64 e.ty.off, .slice a4 a5 a6, .slice a7 a8 a9, .int .i64 e.off] = l := ⟨_, rfl⟩
  have hb0 : Below w.heap.size w (w.alloc (.cells #[.int .i64 e.kind, .string e.name, .string e.ty.name, .slice a1 a2 a3, .int .i64 e.ty.off, .slice a4 a5 a6, .slice a7 a8 a9, .int .i64 e.off] 27)) := (Below.refl _ _).alloc (Nat.le_refl _) _
  have hx0 := Boxd.new w #[.int .i64 e.kind, .string e.name, .string e.ty.name, .slice a1 a2 a3, .int .i64 e.ty.off, .slice a4 a5 a6, .slice a7 a8 a9, .int .i64 e.off] 27
  obtain ⟨W, hW⟩ : ∃ W, w.alloc (.cells #[.int .i64 e.kind, .string e.name, .string e.ty.name, .slice a1 a2 a3, .int .i64 e.ty.off, .slice a4 a5 a6, .slice a7 a8 a9, .int .i64 e.off] 27) = W := ⟨_, rfl⟩
  rw [hW] at hb0 hx0
  have HW := Lib.hid hW
  have HX := Lib.hid hx0
  have HE0 := Lib.hid (he.later hb0)
  have HB := Lib.hid hb0
  have HR := Lib.hid (hR.later hb0)
  have HV := Lib.hid (hE.later hb0)
  have CA := Lib.hid (awake_any W HR.out HV.out)
  clear he hR hE hW hb0 hx0 huu uu
  go_enter Tryd.func4, Tryd.ntmps4
  go_upto_region 1 with fail
  rw [HW.out]
  go_cut [21] from 10 to 21 (fun s wx => s = .bool (!(e.few && e.right)) ∧ Below W.heap.size W wx)
  case first =>
    go_wp2_with fail
    refine CA.out.mono ?_
    rintro e1 w1 ⟨rfl, hb⟩
    have B1 := Lib.hid hb
    have X1 := Lib.hid (HX.out.later hb)
    have E1 := Lib.hid (HE0.out.later hb)
    clear hb CA
    have C2 := Lib.hid (xfew_any e _ w1 E1.out)
    go_wp2_with (refine loadOpI flatEx 2 13 rfl rfl (boxd_at0 X1.out) rfl ?_)
    refine C2.out.mono ?_
    rintro e1 w2 ⟨rfl, hb⟩
    have B2 := Lib.hid (B1.out.trans (hb.mono B1.out.size))
    have X2 := Lib.hid (X1.out.later hb)
    have E2 := Lib.hid (E1.out.later hb)
    clear hb C2
    cases h1 : e.few
    · go_wp2_with fail
      go_meet
      exact ⟨by rw [h1]; rfl, B2.out⟩
    have F1 := Lib.hid h1
    clear h1
    have C3 := Lib.hid (xref_right_any e _ w2 (by have := xfew_wt3 F1.out; omega) E2.out)
    go_wp2_with (refine loadOpI flatEx 2 18 rfl rfl (boxd_at0 X2.out) rfl ?_)
    refine C3.out.mono ?_
    rintro e1 w3 ⟨rfl, hb⟩
    have B3 := Lib.hid (B2.out.trans (hb.mono B2.out.size))
    clear hb C3
    go_wp2_with fail
    go_meet
    exact ⟨by rw [F1.out]; cases e.right <;> rfl, B3.out⟩
  case rest =>
    obtain ⟨rfl, hb⟩ := hcut
    have B1 := Lib.hid (HB.out.trans (hb.mono HB.out.size))
    have X1 := Lib.hid (HX.out.later hb)
    have E1 := Lib.hid (HE0.out.later hb)
    have R1 := Lib.hid (HR.out.later hb)
    have V1 := Lib.hid (HV.out.later hb)
    clear hb CA HX HE0 HR HV
    cases hall : (e.few && e.right)
    · have CA := Lib.hid (awake_any wc R1.out V1.out)
      clear hall
      go_wp2_with fail
      refine CA.out.mono ?_
      rintro e1 w1 ⟨rfl, hb⟩
      have HB2 := Lib.hid (B1.out.trans (hb.mono B1.out.size))
      clear hb CA
      go_wp2_with fail
      go_ret
      exact ⟨rfl, HB2.out⟩
    simp only [Bool.and_eq_true] at hall
    obtain ⟨f1, r1⟩ := hall
    have WE := xfew_wt3 f1
    have LE := (extext_len e r1).1
    have RR := Lib.hid r1
    obtain ⟨ts, hts, hl2, hsm, hln, v, hv, sv⟩ := spaced_back c r1 WE
    have HTS := Lib.hid hts
    have HSM := Lib.hid hsm
    have HLN := Lib.hid hln
    have HVV := Lib.hid hv
    have SV := Lib.hid sv
    clear f1 r1 hts hsm hln hv sv
    have C2 := Lib.hid (xref_text_any e _ wc RR.out (by omega) E1.out)
    go_wp2_with (refine loadOp flatEx 2 23 rfl (boxd_at0 X1.out) rfl ?_)
    refine C2.out.mono ?_
    rintro e1 w2 ⟨rfl, hb⟩
    have B2 := Lib.hid (B1.out.trans (hb.mono B1.out.size))
    have X2 := Lib.hid (X1.out.later hb)
    have E2 := Lib.hid (E1.out.later hb)
    have R2 := Lib.hid (R1.out.later hb)
    clear hb C2 X1 E1 R1 V1
    have C3 := Lib.hid (ref_tokens_any ⟨e.text.toArray⟩ (by rw [ba_size]; omega) w2)
    go_wp2_with fail
    refine C3.out.mono ?_
    rintro e1 w3 ⟨hb, hp⟩
    rw [HTS.out] at hp
    obtain ⟨A, cap, rfl, hp2⟩ := hp
    have hts : TS w3 A (ts.length + 1) (full ts e.text.length) := by rw [← ba_size e.text]; exact hp2
    have B3 := Lib.hid (B2.out.trans (hb.mono B2.out.size))
    have X3 := Lib.hid (X2.out.later hb)
    have E3 := Lib.hid (E2.out.later hb)
    have R3 := Lib.hid (R2.out.later hb)
    have T3 := Lib.hid hts
    clear hb hp2 hts C3 X2 E2 R2
    obtain ⟨L, hL⟩ : ∃ L, full ts e.text.length = L := ⟨_, rfl⟩
    rw [hL] at T3 HSM HLN HVV
    obtain ⟨n, hn⟩ : ∃ n, ts.length + 1 = n := ⟨_, rfl⟩
    rw [hn] at T3 ⊢
    have y0 : (n : Int) ≤ 1000000 := by omega
    clear hn hL hl2 HTS
    have g0 := fieldRes0 A n cap (-1)
    go_wp2_with fail
    clear g0
    go_loop [6, 7] (fun v i => ∃ k : Nat, k ≤ n ∧ i = .int .i64 k ∧ v = .string ⟨(spaced c (L.take k)).toArray⟩) (fun _ i => n - (intOf i).toNat)
    case atStart => exact ⟨0, by omega, rfl, rfl⟩
    case round =>
      obtain ⟨k, hk, rfl, rfl⟩ := hrel
      by_cases hlt : k < n
      · have z0 : (k : Int) < n := by omega
        obtain ⟨a, t, rfl, hgt, k0, k1, k2⟩ := T3.out.get hlt
        have hst := spaced_take c hgt
        have hpr : (spaced c (L.take k)).length ≤ 40000 := Nat.le_trans (spaced_pre c L k) HLN.out
        have hts : t.s.size ≤ 100000 := HSM.out t (List.mem_of_getElem? hgt)
        have HST := Lib.hid hst
        clear hst hgt
        generalize hP : spaced c (L.take k) = P at *
        have hps : (⟨P.toArray⟩ : ByteArray).size ≤ 40000 := by rw [ba_size]; exact hpr
        clear hP
        cases c
        · go_wp2_with fail
          go_round
          case rel =>
            refine ⟨k + 1, by omega, by go_num, ?_⟩
            have := ret_str (a := (⟨P.toArray⟩ : ByteArray) ++ t.s ++ ⟨#[9]⟩) (b := ⟨(spaced false (L.take (k + 1))).toArray⟩) (by rw [Go.Joins.data_append, Go.Joins.data_append, HST.out]; rfl)
            injection this
          case measure => simp [intOf]; omega
        · go_wp2_with fail
          go_round
          case rel =>
            refine ⟨k + 1, by omega, by go_num, ?_⟩
            have := ret_str (a := (⟨P.toArray⟩ : ByteArray) ++ t.s ++ ⟨#[9]⟩ ++ ⟨#[47, 47, 32, 120, 46, 10]⟩) (b := ⟨(spaced true (L.take (k + 1))).toArray⟩) (by rw [Go.Joins.data_append, Go.Joins.data_append, Go.Joins.data_append, HST.out]; simp [gapL])
            injection this
          case measure => simp [intOf]; omega
      · have z0 : (n : Int) ≤ k := by omega
        obtain rfl : k = n := by omega
        have htk : L.take k = L := List.take_of_length_le (by rw [T3.out.len]; exact Nat.le_refl _)
        rw [htk]
        clear htk
        have hps : (⟨(spaced c L).toArray⟩ : ByteArray).size ≤ 40000 := by rw [ba_size]; exact HLN.out
        have C6 := Lib.hid (readEx_any ⟨(spaced c L).toArray⟩ w3 hps R3.out)
        generalize hS : (⟨(spaced c L).toArray⟩ : ByteArray) = S at *
        clear hS
        go_wp2_with fail
        refine C6.out.mono ?_
        rintro e1 w6 ⟨vs, rfl, hin, hb⟩
        rw [HVV.out] at hin ⊢
        rw [show (Out.good v).errV = .nilIface from rfl]
        have hin2 : v.dat.In w6 False (Fr w3.heap.size w6) vs := hin
        have hvh := exin_h hin2
        obtain ⟨b1, b2, b3, b4, b5, b6, b7, b8, b9, rfl, -⟩ := ex_open hin2
        have B6 := Lib.hid (B3.out.trans (hb.mono B3.out.size))
        have X6 := X3.out.later hb
        have E6 := E3.out.later hb
        obtain ⟨W7, hW7⟩ : ∃ X, w6.alloc (.cells #[.int .i64 v.kind, .string v.name, .string v.ty.name, .slice b1 b2 b3, .int .i64 v.ty.off, .slice b4 b5 b6, .slice b7 b8 b9, .int .i64 v.off] 27) = X := ⟨_, rfl⟩
        have hb7 : Below w6.heap.size w6 W7 := hW7 ▸ (Below.refl _ _).alloc (Nat.le_refl _) _
        have BY7 := Lib.hid (show Boxd W7 w6.heap.size [.int .i64 v.kind, .string v.name, .string v.ty.name, .slice b1 b2 b3, .int .i64 v.ty.off, .slice b4 b5 b6, .slice b7 b8 b9, .int .i64 v.off] from hW7 ▸ Boxd.new w6 #[.int .i64 v.kind, .string v.name, .string v.ty.name, .slice b1 b2 b3, .int .i64 v.ty.off, .slice b4 b5 b6, .slice b7 b8 b9, .int .i64 v.off] 27)
        have B7 := Lib.hid (B6.out.trans (hb7.mono B6.out.size))
        have X7 := Lib.hid (X6.later hb7)
        have C9 := Lib.hid (show Calls Tryd.prog 15 #[.agg #[.int .i64 v.kind, .string v.name, .string v.ty.name, .slice b1 b2 b3, .int .i64 v.ty.off, .slice b4 b5 b6, .slice b7 b8 b9, .int .i64 v.off], .agg #[.int .i64 e.kind, .string e.name, .string e.ty.name, .slice a1 a2 a3, .int .i64 e.ty.off, .slice a4 a5 a6, .slice a7 a8 a9, .int .i64 e.off]] W7 (EqvPost W7 true) from by
          have := xref_same_any v e _ _ W7 (hvh.later hb7) (E6.later hb7)
          rwa [SV.out] at this)
        have HW7 := Lib.hid hW7
        clear hin hin2 hb hvh X6 E6 hW7 hb7 C6
        go_upto_region 12 with fail
        rw [HW7.out]
        go_wp2_with (first
          | (refine loadOpI flatEx 8 52 rfl rfl (boxd_at0 BY7.out) rfl ?_)
          | (refine loadOpI flatEx 2 53 rfl rfl (boxd_at0 X7.out) rfl ?_))
        refine C9.out.mono ?_
        rintro e1 w9 ⟨rfl, hb⟩
        have HB2 := Lib.hid (B7.out.trans (hb.mono B7.out.size))
        clear hb C9
        go_wp2_with fail
        go_ret
        exact ⟨rfl, HB2.out⟩
end Go.Proofs.YtbeejmlmplgaeaaDoor.Rd
