/- The walks of read.whole at types and expressions, and of read.Type and read.Expr: they give what the plain words say of the text. The condition: the text has at most 40000 bytes. -/
import Derived.Test.YtbeejmlmplgaeaaDoorRdS
import Derived.Test.YtbeejmlmplgaeaaDoorRdN
import Derived.Test.YtbeejmlmplgaeaaDoorLwC
namespace Go.Proofs.YtbeejmlmplgaeaaDoor.Rd
open Go.RowKit

/-! ### the tokens of a text -/
theorem sgn_isB {c : UInt8} (h : Lx.sgn c = true) : Nm.isB [c] = false := by
  rw [Lx.sgn, List.any_eq_true] at h
  obtain ⟨x, hx, e⟩ := h
  have e2 : x = c := by simpa using e
  subst e2
  revert x
  decide
theorem wide_len : ∀ ts : List Lx.Tok, ts.length ≤ Lx.wide ts ∧ ∀ t ∈ ts, t.text.length ≤ Lx.wide ts
  | [] => ⟨Nat.zero_le _, fun _ h => by cases h⟩
  | t :: r => by
    obtain ⟨h1, h2⟩ := wide_len r
    refine ⟨by simp only [List.length_cons, Lx.wide]; omega, fun x hx => ?_⟩
    rcases List.mem_cons.1 hx with rfl | hx
    · simp only [Lx.wide]; omega
    · have := h2 x hx; simp only [Lx.wide]; omega
/-- The tokens of a text, as a cursor asks for them. -/
theorem full_ok {s : ByteArray} {ts : List Lx.Tok} (hl : left s 0 = .ok ts) (hs : s.size ≤ 40000) : Tidy (full ts s.size) ∧ (full ts s.size).length ≤ 100000 ∧ ∀ t ∈ full ts s.size, t.s.size ≤ 100000 := by
  have hl2 : Lx.lex s.data.toList 0 = .ok ts := by unfold left at hl; rwa [List.drop_zero] at hl
  obtain ⟨hr, hw⟩ := Lx.lex_right hl2
  have hsz : s.data.toList.length = s.size := (Lib.size_eq s).symm
  obtain ⟨h1, h2⟩ := wide_len ts
  have htk : ∀ t : Lx.Tok, (tk t).s.size = t.text.length := fun t => by rw [Lib.size_eq]; simp [tk]
  refine ⟨⟨ts.map tk, ⟨3, ⟨#[]⟩, s.size⟩, rfl, rfl, rfl, fun t ht => ?_⟩, by simp only [full, List.length_append, List.length_map, List.length_cons, List.length_nil]; omega, fun t ht => ?_⟩
  · rw [List.mem_map] at ht
    obtain ⟨x, hx, rfl⟩ := ht
    rcases hr x hx with ⟨h, _⟩ | ⟨h, c, h3, h4⟩
    · exact .inl h
    · refine .inr ⟨h, ?_⟩
      show Nm.isB x.text.toArray.toList = false
      rw [List.toList_toArray, h3]
      exact sgn_isB h4
  · rw [full, List.mem_append, List.mem_map, List.mem_singleton] at ht
    rcases ht with ⟨x, hx, rfl⟩ | rfl
    · rw [htk]; have := h2 x hx; omega
    · show (0 : Nat) ≤ _; omega

/-! ### the outcome of reading a text -/
/-- What is read, or an error: its code and its offset. -/
inductive Out (α : Type) where
  | good (v : α)
  | err (c o : Int)
def Out.val {α : Type} (z : α) : Out α → α
  | .good v => v
  | .err _ _ => z
def Out.errV {α : Type} : Out α → Value
  | .good _ => .nilIface
  | .err c o => faultV c o
/-- The kind of the next token. -/
def kind (l : List Tk) : Int := (l.headD ⟨3, ⟨#[]⟩, 0⟩).k
/-- What is read, and then End. -/
def endO {α : Type} : Got α → Out α
  | .ok v q => if kind q = 3 then .good v else .err 2 (off q)
  | .bad q => .err 2 (off q)
def wholeO {α : Type} (f : List Tk → Got α) (s : ByteArray) : Out α := match left s 0 with
  | .bad i => .err 1 i
  | .ok ts => endO (f (full ts s.size))
def tyO (s : ByteArray) : Out Ty := wholeO (fun l => tyF (2 * l.length + 2) l) s
def exO (s : ByteArray) : Out Ex := wholeO (fun l => exF (2 * l.length + 2) l) s
def exNone : Ex := .mk 0 ⟨#[]⟩ tyNone [] [] 0
theorem tyNone_in (w : World) (N : Prop) (S : Nat → Prop) : tyNone.dat.In w N S [.string ⟨#[]⟩, .slice none 0 0, .int .i64 0] := ty_shut (t := tyNone) (by show (0 : Nat) ≤ _; omega) (lies_row.2 (Row.nil _ _ _ _ _))
theorem exNone_in' (w : World) (N : Prop) (S : Nat → Prop) : exNone.dat.In w N S [.int .i64 0, .string ⟨#[]⟩, .string ⟨#[]⟩, .slice none 0 0, .int .i64 0, .slice none 0 0, .slice none 0 0, .int .i64 0] :=
  ex_shut (e := exNone) (by show (0 : Nat) ≤ _; omega) (by show (0 : Nat) ≤ _; omega) (lies_row.2 (Row.nil _ _ _ _ _)) (lies_row.2 (Row.nil _ _ _ _ _)) (Row.nil _ _ _ _ _) (Nat.le_refl _)
/-- What reading a text gives. -/
def TyWhole (s : ByteArray) (w : World) (e : Ending) (w' : World) : Prop := ∃ us, e = .returned (.tuple #[.agg us.toArray, (tyO s).errV]) ∧ ((tyO s).val tyNone).dat.In w' False (Fr w.heap.size w') us ∧ Below w.heap.size w w'
def ExWhole (s : ByteArray) (w : World) (e : Ending) (w' : World) : Prop := ∃ us, e = .returned (.tuple #[.agg us.toArray, (exO s).errV]) ∧ ((exO s).val exNone).dat.In w' False (Fr w.heap.size w') us ∧ Below w.heap.size w w'

theorem ty3_one {s : ByteArray} {A : Option Addr} {n c : Nat} {i : Int} : ∀ u ∈ ([.string s, .slice A n c, .int .i64 i] : List Value), u.oneCell' = true := by
  intro u hu
  simp only [List.mem_cons, List.not_mem_nil, or_false] at hu
  rcases hu with rfl | rfl | rfl <;> rfl
theorem faultV_ne (c o : Int) : faultV c o ≠ .nilIface := fun h => by rw [faultV] at h; cases h
/-- What End then says. -/
theorem aft_end {α : Type} {w : World} {c : Nat} {v : α} {g : Got α} (h : Aft w c v g) : ∃ q b, Cur w c q b ∧ ∀ z, (endV b q = .nilIface → (endO g).errV = .nilIface ∧ (endO g).val z = v) ∧ (endV b q ≠ .nilIface → ∃ o, endV b q = faultV 2 o ∧ (endO g).errV = faultV 2 o ∧ (endO g).val z = z) := by
  cases g with
  | ok u q =>
    obtain ⟨rfl, hc⟩ := h
    refine ⟨q, false, hc, fun z => ?_⟩
    by_cases hk : kind q = 3
    · have e : endV false q = .nilIface := by
        have hk2 : (q.headD ⟨3, ⟨#[]⟩, 0⟩).k = 3 := hk
        rw [endV, hk2]; rfl
      exact ⟨fun _ => by rw [endO, if_pos hk]; exact ⟨rfl, rfl⟩, fun h => absurd e h⟩
    · have e : endV false q = faultV 2 (off q) := by
        have hk2 : ((q.headD ⟨3, ⟨#[]⟩, 0⟩).k != 3) = true := by rw [bne_iff_ne]; exact hk
        rw [endV, hk2]; rfl
      exact ⟨fun h => absurd (e.symm.trans h) (faultV_ne _ _), fun _ => ⟨_, e, by rw [endO, if_neg hk]; exact ⟨rfl, rfl⟩⟩⟩
  | bad q =>
    have e : endV true q = faultV 2 (off q) := by rw [endV, Bool.true_or]; rfl
    exact ⟨q, true, h, fun z => ⟨fun h => absurd (e.symm.trans h) (faultV_ne _ _), fun _ => ⟨_, e, rfl, rfl⟩⟩⟩

theorem results_wholeTy {w : World} {b : Nat} {us : List Value} {v : Value} (tmps : Array Value) (ht : tmps[4]?.getD undef = .pointer (some ⟨b, 0, none⟩)) (hv : tmps[5]?.getD undef = v) (hc : Boxd w b us) (hl : us.length = 3) : (results Tryd.f27 tmps).run Tryd.prog w = .ok (.tuple #[.agg us.toArray, v]) w := by
  have h := run_cell flatTy hc hl
  have h2 := run_addr ⟨b, 0, none⟩ w
  simp [results, Tryd.results27, ht, hv, h, h2, Sem.run_bind, Result.andThen]
set_option maxRecDepth 100000 in
set_option maxHeartbeats 8000000 in
theorem wholeTy_any (s : ByteArray) (w : World) (hs : s.size ≤ 40000) (hE : ResVar w) :
    Calls Tryd.prog 27 #[.string s, .func (.func 28) #[] #[]] w (TyWhole s w) := by
  obtain ⟨W1, hW1⟩ : ∃ W, (w.alloc (.cells #[.string ⟨#[]⟩, .slice none 0 0, .int .i64 0] 24)).alloc (.cells #[.string ⟨#[]⟩, .slice none 0 0, .int .i64 0] 24) = W := ⟨_, rfl⟩
  have hb0 : Below w.heap.size w (w.alloc (.cells #[.string ⟨#[]⟩, .slice none 0 0, .int .i64 0] 24)) := (Below.refl _ _).alloc (Nat.le_refl _) _
  have hbw : Below w.heap.size w W1 := hW1 ▸ hb0.alloc hb0.size _
  have hsz : W1.heap.size = w.heap.size + 2 := by rw [← hW1]; simp
  have HT1 := Lib.hid (show W1.there w.heap.size 0 3 from hW1 ▸ fun j hj => by
    obtain ⟨h1, h2⟩ := there_new w #[.string ⟨#[]⟩, .slice none 0 0, .int .i64 0] 24 j hj
    obtain ⟨v, hv⟩ := Option.isSome_iff_exists.1 h1
    have hlt := cell_lt hv
    exact ⟨by rw [((Below.refl _ _).alloc (Nat.le_refl _) _ : Below (w.alloc (.cells #[.string ⟨#[]⟩, .slice none 0 0, .int .i64 0] 24)).heap.size _ _).cell hlt]; exact h1, (((Below.refl _ _).alloc (Nat.le_refl _) _ : Below (w.alloc (.cells #[.string ⟨#[]⟩, .slice none 0 0, .int .i64 0] 24)).heap.size _ _).frozen hlt).trans h2⟩)
  have HZ1 := Lib.hid (show Boxd W1 (w.heap.size + 1) [.string ⟨#[]⟩, .slice none 0 0, .int .i64 0] from hW1 ▸ (by have := Boxd.new (w.alloc (.cells #[.string ⟨#[]⟩, .slice none 0 0, .int .i64 0] 24)) #[.string ⟨#[]⟩, .slice none 0 0, .int .i64 0] 24; rwa [World.size_alloc] at this))
  have HW1 := Lib.hid hW1
  have HB1 := Lib.hid hbw
  have HE1 := Lib.hid (hE.later hbw)
  have HS := Lib.hid hs
  have HSZ := Lib.hid hsz
  have C1 := Lib.hid (lex_tokens_any s W1 (by omega))
  clear hW1 hb0 hbw hsz hE hs
  go_enter Tryd.func27, Tryd.ntmps27
  go_wp2_with fail
  rw [HW1.out]
  refine C1.out.mono ?_
  rintro e w2 ⟨hb, hp⟩
  cases hl : left s 0 with
  | bad i =>
    rw [hl] at hp
    obtain rfl := hp
    have HO := Lib.hid (show tyO s = .err 1 i by unfold tyO wholeO; rw [hl])
    have HB := Lib.hid (boxd_at0 (HZ1.out.later hb))
    have HT := Lib.hid (there_gb HT1.out (by rw [HSZ.out]; omega) (by omega) (gb_of (some (w.heap.size + 7)) hb))
    have HBB := Lib.hid (HB1.out.trans (hb.mono HB1.out.size))
    clear hl hb C1
    rw [faultV]
    go_wp2_with (first
      | (refine loadOp flatTy 6 19 rfl HB.out rfl ?_)
      | (refine storeOp flatTy 4 19 (b := w.heap.size) (o := 0) (us := [.string ⟨#[]⟩, .slice none 0 0, .int .i64 0]) rfl rfl HT.out ty3_one rfl ?_))
    refine bodyPost_ret (results_wholeTy _ rfl rfl (set_there (us := [.string ⟨#[]⟩, .slice none 0 0, .int .i64 0]) HT.out) rfl) rfl ?_
    refine ⟨[.string ⟨#[]⟩, .slice none 0 0, .int .i64 0], ?_, ?_, HBB.out.trans (below_sets (Nat.le_refl _) _ _ _)⟩
    · rw [HO.out]; rfl
    · rw [HO.out]; exact tyNone_in _ _ _
  | ok ts =>
    rw [hl] at hp
    obtain ⟨A, cap, rfl, hts⟩ := hp
    obtain ⟨f1, f2, f3⟩ := full_ok hl HS.out
    have HO := Lib.hid (show tyO s = endO (tyF (2 * (full ts s.size).length + 2) (full ts s.size)) by unfold tyO wholeO; rw [hl])
    have HB := Lib.hid (HZ1.out.later hb)
    have HT := Lib.hid (there_gb HT1.out (by rw [HSZ.out]; omega) (by omega) (gb_of (some (w.heap.size + 7)) hb))
    have HBB := Lib.hid (HB1.out.trans (hb.mono HB1.out.size))
    have C2 := Lib.hid (new_cursor A (ts.length + 1) cap (full ts s.size) w2 f1 f2 f3 (HE1.out.later hb) hts)
    have hs12 := hb.size
    clear hl hb C1 hts f1 f2 f3
    go_wp2_with fail
    refine C2.out.mono ?_
    rintro e w3 ⟨c, rfl, hc, hcur, hb⟩
    have HB3 := Lib.hid (HB.out.later hb)
    have HT3 := Lib.hid (there_gb HT.out (by have := HSZ.out; omega) (by omega) (gb_of (some (w.heap.size + 7)) hb))
    have HBB3 := Lib.hid (HBB.out.trans (hb.mono HBB.out.size))
    have HC := Lib.hid hc
    have hs23 := hb.size
    have C3 := Lib.hid (type_any' (2 * (full ts s.size).length + 2) c (full ts s.size) false w3 hcur fun _ => by omega)
    have HLT := Lib.hid hcur.lt
    clear hc hcur hb C2
    go_wp2_with fail
    refine C3.out.mono ?_
    rintro e w4 ⟨v, us, rfl, hd, ha, hg⟩
    obtain ⟨x1, x2, x3, rfl, -⟩ := ty_open hd
    obtain ⟨W4, hW4⟩ : ∃ W, w4.alloc (.cells #[.string v.name, .slice x1 x2 x3, .int .i64 v.off] 24) = W := ⟨_, rfl⟩
    have hb4 : Below w4.heap.size w4 W4 := hW4 ▸ (Below.refl _ _).alloc (Nat.le_refl _) _
    obtain ⟨q, b, hcur, hend⟩ : ∃ q b, Cur w4 c q b ∧ ∀ z, (endV b q = .nilIface → (tyO s).errV = .nilIface ∧ (tyO s).val z = v) ∧ (endV b q ≠ .nilIface → ∃ o, endV b q = faultV 2 o ∧ (tyO s).errV = faultV 2 o ∧ (tyO s).val z = z) := by
      rw [HO.out]
      exact aft_end ha
    have HEND := Lib.hid hend
    have HW4 := Lib.hid hW4
    have HC4 := Lib.hid (hcur.later hb4)
    have hg4 := gb_trans hg (gb_of (some c) hb4)
    have hs34 := hg.size
    have hcw : w.heap.size ≠ c := by have := HC.out; have := HSZ.out; omega
    have hcw1 : w.heap.size + 1 ≠ c := by have := HC.out; have := HSZ.out; omega
    have HT4 := Lib.hid (there_gb HT3.out (by have := HSZ.out; omega) hcw hg4)
    have HB4 := Lib.hid (boxd_gb hg4 hcw1 HB3.out)
    have HV4 := Lib.hid (show Boxd W4 w4.heap.size [.string v.name, .slice x1 x2 x3, .int .i64 v.off] from hW4 ▸ Boxd.new w4 #[.string v.name, .slice x1 x2 x3, .int .i64 v.off] 24)
    have hgg := gb_below hg4 (Nat.le_of_lt HLT.out)
    have HBB4 := Lib.hid (HBB3.out.trans (hgg.mono (by have := HC.out; have := HSZ.out; omega)))
    have HD4 := Lib.hid (hd.later (S := Fr w3.heap.size w4) hb4 fun k hk => hk.2)
    have hs4 : W4.heap.size = w4.heap.size + 1 := by rw [← hW4]; simp
    have h4c : w4.heap.size ≠ c := by have := HLT.out; omega
    clear hd ha hg hcur hend C3 hW4 hb4 hg4 hgg
    go_wp2_with fail
    rw [HW4.out]
    refine (end_any c q b W4 HC4.out).mono ?_
    rintro e w5 ⟨rfl, hg⟩
    have HT5 := Lib.hid (there_gb HT4.out (by have := HSZ.out; omega) hcw hg)
    have HB5 := Lib.hid (boxd_at0 (boxd_gb hg hcw1 HB4.out))
    have HV5 := Lib.hid (boxd_at0 (boxd_gb hg h4c HV4.out))
    have HBB5 := Lib.hid (HBB4.out.trans ((gb_below hg (by have := HLT.out; omega)).mono (by have := HC.out; have := HSZ.out; omega)))
    have HD5 := Lib.hid (Dat.In.keep id (gb_kept hg fun k hk => ⟨by have := hk.2; omega, by have := hk.1; have := HLT.out; omega⟩) (fun k hk => (⟨by have := hk.1; have := HSZ.out; omega, by have := hk.2; have := hg.size; omega⟩ : Fr (w.heap.size + 1) w5 k)) _ _ HD4.out)
    clear hg HC4
    by_cases hn : endV b q = .nilIface
    · obtain ⟨h1, h2⟩ := (HEND.out tyNone).1 hn
      have H1 := Lib.hid h1
      have H2 := Lib.hid h2
      rw [hn]
      clear hn h1 h2 HEND
      go_wp2_with (first
        | (refine loadOp flatTy 10 32 rfl HV5.out rfl ?_)
        | (refine storeOp flatTy 4 32 (b := w.heap.size) (o := 0) (us := [.string v.name, .slice x1 x2 x3, .int .i64 v.off]) rfl rfl HT5.out ty3_one rfl ?_))
      refine bodyPost_ret (results_wholeTy _ rfl rfl (set_there (us := [.string v.name, .slice x1 x2 x3, .int .i64 v.off]) HT5.out) rfl) rfl ?_
      refine ⟨[.string v.name, .slice x1 x2 x3, .int .i64 v.off], ?_, ?_, HBB5.out.trans (below_sets (Nat.le_refl _) _ _ _)⟩
      · rw [H1.out]; rfl
      · rw [H2.out]
        exact (in_sets HD5.out (Nat.lt_succ_self _) 0 _).wide fun k hk => ⟨by have := hk.1; omega, hk.2⟩
    · obtain ⟨o, h0, h1, h2⟩ := (HEND.out tyNone).2 hn
      have H1 := Lib.hid h1
      have H2 := Lib.hid h2
      rw [h0, faultV]
      clear hn h0 h1 h2 HEND
      go_wp2_with (first
        | (refine loadOp flatTy 6 30 rfl HB5.out rfl ?_)
        | (refine storeOp flatTy 4 30 (b := w.heap.size) (o := 0) (us := [.string ⟨#[]⟩, .slice none 0 0, .int .i64 0]) rfl rfl HT5.out ty3_one rfl ?_))
      refine bodyPost_ret (results_wholeTy _ rfl rfl (set_there (us := [.string ⟨#[]⟩, .slice none 0 0, .int .i64 0]) HT5.out) rfl) rfl ?_
      refine ⟨[.string ⟨#[]⟩, .slice none 0 0, .int .i64 0], ?_, ?_, HBB5.out.trans (below_sets (Nat.le_refl _) _ _ _)⟩
      · rw [H1.out]; rfl
      · rw [H2.out]; exact tyNone_in _ _ _
theorem results_readTy {w : World} {b : Nat} {us : List Value} {v : Value} (tmps : Array Value) (ht : tmps[2]?.getD undef = .pointer (some ⟨b, 0, none⟩)) (hv : tmps[3]?.getD undef = v) (hc : Boxd w b us) (hl : us.length = 3) : (results Tryd.f10 tmps).run Tryd.prog w = .ok (.tuple #[.agg us.toArray, v]) w := by
  have h := run_cell flatTy hc hl
  have h2 := run_addr ⟨b, 0, none⟩ w
  simp [results, Tryd.results10, ht, hv, h, h2, Sem.run_bind, Result.andThen]
set_option maxRecDepth 100000 in
set_option maxHeartbeats 8000000 in
theorem readTy_any (s : ByteArray) (w : World) (hs : s.size ≤ 40000) (hE : ResVar w) : Calls Tryd.prog 10 #[.string s] w (TyWhole s w) := by
  obtain ⟨W0, hW0⟩ : ∃ W, w.alloc (.cells #[.string ⟨#[]⟩, .slice none 0 0, .int .i64 0] 24) = W := ⟨_, rfl⟩
  have hb0 : Below w.heap.size w W0 := hW0 ▸ (Below.refl _ _).alloc (Nat.le_refl _) _
  have HT0 := Lib.hid (show W0.there w.heap.size 0 3 from hW0 ▸ there_new w #[.string ⟨#[]⟩, .slice none 0 0, .int .i64 0] 24)
  have HSZ := Lib.hid (show W0.heap.size = w.heap.size + 1 by rw [← hW0]; simp)
  have HW0 := Lib.hid hW0
  have HB0 := Lib.hid hb0
  have C := Lib.hid (wholeTy_any s W0 hs (hE.later hb0))
  clear hs hE hW0 hb0
  go_enter Tryd.func10, Tryd.ntmps10
  go_wp2_with fail
  rw [HW0.out]
  refine C.out.mono ?_
  rintro e w1 ⟨us, rfl, hd, hb⟩
  have HL := Lib.hid (show us.length = 3 from (Dat.In.len _ _ hd).trans (Ty.dat_size _))
  have HO := Lib.hid (ty_one hd)
  have HT := Lib.hid (show w1.there w.heap.size 0 us.length by rw [HL.out]; exact there_gb HT0.out (by rw [HSZ.out]; omega) (by omega : w.heap.size ≠ w.heap.size + 7) (gb_of _ hb))
  have HD := Lib.hid hd
  have HB := Lib.hid (HB0.out.trans (hb.mono HB0.out.size))
  clear hd hb C
  go_wp2_with (refine storeOp flatTy 2 6 (b := w.heap.size) (o := 0) (us := us) rfl rfl HT.out HO.out HL.out ?_)
  refine bodyPost_ret (results_readTy _ rfl rfl (set_there HT.out) HL.out) rfl ?_
  exact ⟨us, rfl, (in_sets (HD.out.wide (S' := Fr (w.heap.size + 1) w1) fun k hk => ⟨by have := hk.1; rw [HSZ.out] at this; exact this, hk.2⟩) (Nat.lt_succ_self _) 0 us).wide fun k hk => ⟨by have := hk.1; omega, hk.2⟩, HB.out.trans (below_sets (Nat.le_refl _) _ _ _)⟩

theorem results_wholeEx {w : World} {b : Nat} {us : List Value} {v : Value} (tmps : Array Value) (ht : tmps[4]?.getD undef = .pointer (some ⟨b, 0, none⟩)) (hv : tmps[5]?.getD undef = v) (hc : Boxd w b us) (hl : us.length = 8) : (results Tryd.f29 tmps).run Tryd.prog w = .ok (.tuple #[.agg us.toArray, v]) w := by
  have h := run_cell flatEx hc hl
  have h2 := run_addr ⟨b, 0, none⟩ w
  simp [results, Tryd.results29, ht, hv, h, h2, Sem.run_bind, Result.andThen]
set_option maxRecDepth 100000 in
set_option maxHeartbeats 8000000 in
theorem wholeEx_any (s : ByteArray) (w : World) (hs : s.size ≤ 40000) (hE : ResVar w) :
    Calls Tryd.prog 29 #[.string s, .func (.func 30) #[] #[]] w (ExWhole s w) := by
  obtain ⟨W1, hW1⟩ : ∃ W, (w.alloc (.cells #[.int .i64 0, .string ⟨#[]⟩, .string ⟨#[]⟩, .slice none 0 0, .int .i64 0, .slice none 0 0, .slice none 0 0, .int .i64 0] 27)).alloc (.cells #[.int .i64 0, .string ⟨#[]⟩, .string ⟨#[]⟩, .slice none 0 0, .int .i64 0, .slice none 0 0, .slice none 0 0, .int .i64 0] 27) = W := ⟨_, rfl⟩
  have hb0 : Below w.heap.size w (w.alloc (.cells #[.int .i64 0, .string ⟨#[]⟩, .string ⟨#[]⟩, .slice none 0 0, .int .i64 0, .slice none 0 0, .slice none 0 0, .int .i64 0] 27)) := (Below.refl _ _).alloc (Nat.le_refl _) _
  have hbw : Below w.heap.size w W1 := hW1 ▸ hb0.alloc hb0.size _
  have hsz : W1.heap.size = w.heap.size + 2 := by rw [← hW1]; simp
  have HT1 := Lib.hid (show W1.there w.heap.size 0 8 from hW1 ▸ fun j hj => by
    obtain ⟨h1, h2⟩ := there_new w #[.int .i64 0, .string ⟨#[]⟩, .string ⟨#[]⟩, .slice none 0 0, .int .i64 0, .slice none 0 0, .slice none 0 0, .int .i64 0] 27 j hj
    obtain ⟨v, hv⟩ := Option.isSome_iff_exists.1 h1
    have hlt := cell_lt hv
    exact ⟨by rw [((Below.refl _ _).alloc (Nat.le_refl _) _ : Below (w.alloc (.cells #[.int .i64 0, .string ⟨#[]⟩, .string ⟨#[]⟩, .slice none 0 0, .int .i64 0, .slice none 0 0, .slice none 0 0, .int .i64 0] 27)).heap.size _ _).cell hlt]; exact h1, (((Below.refl _ _).alloc (Nat.le_refl _) _ : Below (w.alloc (.cells #[.int .i64 0, .string ⟨#[]⟩, .string ⟨#[]⟩, .slice none 0 0, .int .i64 0, .slice none 0 0, .slice none 0 0, .int .i64 0] 27)).heap.size _ _).frozen hlt).trans h2⟩)
  have HZ1 := Lib.hid (show Boxd W1 (w.heap.size + 1) [.int .i64 0, .string ⟨#[]⟩, .string ⟨#[]⟩, .slice none 0 0, .int .i64 0, .slice none 0 0, .slice none 0 0, .int .i64 0] from hW1 ▸ (by have := Boxd.new (w.alloc (.cells #[.int .i64 0, .string ⟨#[]⟩, .string ⟨#[]⟩, .slice none 0 0, .int .i64 0, .slice none 0 0, .slice none 0 0, .int .i64 0] 27)) #[.int .i64 0, .string ⟨#[]⟩, .string ⟨#[]⟩, .slice none 0 0, .int .i64 0, .slice none 0 0, .slice none 0 0, .int .i64 0] 27; rwa [World.size_alloc] at this))
  have HW1 := Lib.hid hW1
  have HB1 := Lib.hid hbw
  have HE1 := Lib.hid (hE.later hbw)
  have HS := Lib.hid hs
  have HSZ := Lib.hid hsz
  have C1 := Lib.hid (lex_tokens_any s W1 (by omega))
  clear hW1 hb0 hbw hsz hE hs
  go_enter Tryd.func29, Tryd.ntmps29
  go_wp2_with fail
  rw [HW1.out]
  refine C1.out.mono ?_
  rintro e w2 ⟨hb, hp⟩
  cases hl : left s 0 with
  | bad i =>
    rw [hl] at hp
    obtain rfl := hp
    have HO := Lib.hid (show exO s = .err 1 i by unfold exO wholeO; rw [hl])
    have HB := Lib.hid (boxd_at0 (HZ1.out.later hb))
    have HT := Lib.hid (there_gb HT1.out (by rw [HSZ.out]; omega) (by omega) (gb_of (some (w.heap.size + 7)) hb))
    have HBB := Lib.hid (HB1.out.trans (hb.mono HB1.out.size))
    clear hl hb C1
    rw [faultV]
    go_wp2_with (first
      | (refine loadOp flatEx 6 19 rfl HB.out rfl ?_)
      | (refine storeOp flatEx 4 19 (b := w.heap.size) (o := 0) (us := [.int .i64 0, .string ⟨#[]⟩, .string ⟨#[]⟩, .slice none 0 0, .int .i64 0, .slice none 0 0, .slice none 0 0, .int .i64 0]) rfl rfl HT.out (ex8_one rfl rfl rfl rfl rfl rfl rfl rfl) rfl ?_))
    refine bodyPost_ret (results_wholeEx _ rfl rfl (set_there (us := [.int .i64 0, .string ⟨#[]⟩, .string ⟨#[]⟩, .slice none 0 0, .int .i64 0, .slice none 0 0, .slice none 0 0, .int .i64 0]) HT.out) rfl) rfl ?_
    refine ⟨[.int .i64 0, .string ⟨#[]⟩, .string ⟨#[]⟩, .slice none 0 0, .int .i64 0, .slice none 0 0, .slice none 0 0, .int .i64 0], ?_, ?_, HBB.out.trans (below_sets (Nat.le_refl _) _ _ _)⟩
    · rw [HO.out]; rfl
    · rw [HO.out]; exact exNone_in' _ _ _
  | ok ts =>
    rw [hl] at hp
    obtain ⟨A, cap, rfl, hts⟩ := hp
    obtain ⟨f1, f2, f3⟩ := full_ok hl HS.out
    have HO := Lib.hid (show exO s = endO (exF (2 * (full ts s.size).length + 2) (full ts s.size)) by unfold exO wholeO; rw [hl])
    have HB := Lib.hid (HZ1.out.later hb)
    have HT := Lib.hid (there_gb HT1.out (by rw [HSZ.out]; omega) (by omega) (gb_of (some (w.heap.size + 7)) hb))
    have HBB := Lib.hid (HB1.out.trans (hb.mono HB1.out.size))
    have C2 := Lib.hid (new_cursor A (ts.length + 1) cap (full ts s.size) w2 f1 f2 f3 (HE1.out.later hb) hts)
    have hs12 := hb.size
    clear hl hb C1 hts f1 f2 f3
    go_wp2_with fail
    refine C2.out.mono ?_
    rintro e w3 ⟨c, rfl, hc, hcur, hb⟩
    have HB3 := Lib.hid (HB.out.later hb)
    have HT3 := Lib.hid (there_gb HT.out (by have := HSZ.out; omega) (by omega) (gb_of (some (w.heap.size + 7)) hb))
    have HBB3 := Lib.hid (HBB.out.trans (hb.mono HBB.out.size))
    have HC := Lib.hid hc
    have hs23 := hb.size
    have C3 := Lib.hid (expr_any (2 * (full ts s.size).length + 2) c (full ts s.size) false w3 hcur fun _ => Nat.le_refl _)
    have HLT := Lib.hid hcur.lt
    clear hc hcur hb C2
    go_wp2_with fail
    refine C3.out.mono ?_
    rintro e w4 ⟨v, us, rfl, hd, ha, hg⟩
    obtain ⟨x1, x2, x3, x4, x5, x6, x7, x8, x9, rfl, -⟩ := ex_open hd
    obtain ⟨W4, hW4⟩ : ∃ W, w4.alloc (.cells #[.int .i64 v.kind, .string v.name, .string v.ty.name, .slice x1 x2 x3, .int .i64 v.ty.off, .slice x4 x5 x6, .slice x7 x8 x9, .int .i64 v.off] 27) = W := ⟨_, rfl⟩
    have hb4 : Below w4.heap.size w4 W4 := hW4 ▸ (Below.refl _ _).alloc (Nat.le_refl _) _
    obtain ⟨q, b, hcur, hend⟩ : ∃ q b, Cur w4 c q b ∧ ∀ z, (endV b q = .nilIface → (exO s).errV = .nilIface ∧ (exO s).val z = v) ∧ (endV b q ≠ .nilIface → ∃ o, endV b q = faultV 2 o ∧ (exO s).errV = faultV 2 o ∧ (exO s).val z = z) := by
      rw [HO.out]
      exact aft_end ha
    have HEND := Lib.hid hend
    have HW4 := Lib.hid hW4
    have HC4 := Lib.hid (hcur.later hb4)
    have hg4 := gb_trans hg (gb_of (some c) hb4)
    have hs34 := hg.size
    have hcw : w.heap.size ≠ c := by have := HC.out; have := HSZ.out; omega
    have hcw1 : w.heap.size + 1 ≠ c := by have := HC.out; have := HSZ.out; omega
    have HT4 := Lib.hid (there_gb HT3.out (by have := HSZ.out; omega) hcw hg4)
    have HB4 := Lib.hid (boxd_gb hg4 hcw1 HB3.out)
    have HV4 := Lib.hid (show Boxd W4 w4.heap.size [.int .i64 v.kind, .string v.name, .string v.ty.name, .slice x1 x2 x3, .int .i64 v.ty.off, .slice x4 x5 x6, .slice x7 x8 x9, .int .i64 v.off] from hW4 ▸ Boxd.new w4 #[.int .i64 v.kind, .string v.name, .string v.ty.name, .slice x1 x2 x3, .int .i64 v.ty.off, .slice x4 x5 x6, .slice x7 x8 x9, .int .i64 v.off] 27)
    have hgg := gb_below hg4 (Nat.le_of_lt HLT.out)
    have HBB4 := Lib.hid (HBB3.out.trans (hgg.mono (by have := HC.out; have := HSZ.out; omega)))
    have HD4 := Lib.hid (hd.later (S := Fr w3.heap.size w4) hb4 fun k hk => hk.2)
    have hs4 : W4.heap.size = w4.heap.size + 1 := by rw [← hW4]; simp
    have h4c : w4.heap.size ≠ c := by have := HLT.out; omega
    clear hd ha hg hcur hend C3 hW4 hb4 hg4 hgg
    go_wp2_with fail
    rw [HW4.out]
    refine (end_any c q b W4 HC4.out).mono ?_
    rintro e w5 ⟨rfl, hg⟩
    have HT5 := Lib.hid (there_gb HT4.out (by have := HSZ.out; omega) hcw hg)
    have HB5 := Lib.hid (boxd_at0 (boxd_gb hg hcw1 HB4.out))
    have HV5 := Lib.hid (boxd_at0 (boxd_gb hg h4c HV4.out))
    have HBB5 := Lib.hid (HBB4.out.trans ((gb_below hg (by have := HLT.out; omega)).mono (by have := HC.out; have := HSZ.out; omega)))
    have HD5 := Lib.hid (Dat.In.keep id (gb_kept hg fun k hk => ⟨by have := hk.2; omega, by have := hk.1; have := HLT.out; omega⟩) (fun k hk => (⟨by have := hk.1; have := HSZ.out; omega, by have := hk.2; have := hg.size; omega⟩ : Fr (w.heap.size + 1) w5 k)) _ _ HD4.out)
    clear hg HC4
    by_cases hn : endV b q = .nilIface
    · obtain ⟨h1, h2⟩ := (HEND.out exNone).1 hn
      have H1 := Lib.hid h1
      have H2 := Lib.hid h2
      rw [hn]
      clear hn h1 h2 HEND
      go_wp2_with (first
        | (refine loadOp flatEx 10 32 rfl HV5.out rfl ?_)
        | (refine storeOp flatEx 4 32 (b := w.heap.size) (o := 0) (us := [.int .i64 v.kind, .string v.name, .string v.ty.name, .slice x1 x2 x3, .int .i64 v.ty.off, .slice x4 x5 x6, .slice x7 x8 x9, .int .i64 v.off]) rfl rfl HT5.out (ex8_one rfl rfl rfl rfl rfl rfl rfl rfl) rfl ?_))
      refine bodyPost_ret (results_wholeEx _ rfl rfl (set_there (us := [.int .i64 v.kind, .string v.name, .string v.ty.name, .slice x1 x2 x3, .int .i64 v.ty.off, .slice x4 x5 x6, .slice x7 x8 x9, .int .i64 v.off]) HT5.out) rfl) rfl ?_
      refine ⟨[.int .i64 v.kind, .string v.name, .string v.ty.name, .slice x1 x2 x3, .int .i64 v.ty.off, .slice x4 x5 x6, .slice x7 x8 x9, .int .i64 v.off], ?_, ?_, HBB5.out.trans (below_sets (Nat.le_refl _) _ _ _)⟩
      · rw [H1.out]; rfl
      · rw [H2.out]
        exact (in_sets HD5.out (Nat.lt_succ_self _) 0 _).wide fun k hk => ⟨by have := hk.1; omega, hk.2⟩
    · obtain ⟨o, h0, h1, h2⟩ := (HEND.out exNone).2 hn
      have H1 := Lib.hid h1
      have H2 := Lib.hid h2
      rw [h0, faultV]
      clear hn h0 h1 h2 HEND
      go_wp2_with (first
        | (refine loadOp flatEx 6 30 rfl HB5.out rfl ?_)
        | (refine storeOp flatEx 4 30 (b := w.heap.size) (o := 0) (us := [.int .i64 0, .string ⟨#[]⟩, .string ⟨#[]⟩, .slice none 0 0, .int .i64 0, .slice none 0 0, .slice none 0 0, .int .i64 0]) rfl rfl HT5.out (ex8_one rfl rfl rfl rfl rfl rfl rfl rfl) rfl ?_))
      refine bodyPost_ret (results_wholeEx _ rfl rfl (set_there (us := [.int .i64 0, .string ⟨#[]⟩, .string ⟨#[]⟩, .slice none 0 0, .int .i64 0, .slice none 0 0, .slice none 0 0, .int .i64 0]) HT5.out) rfl) rfl ?_
      refine ⟨[.int .i64 0, .string ⟨#[]⟩, .string ⟨#[]⟩, .slice none 0 0, .int .i64 0, .slice none 0 0, .slice none 0 0, .int .i64 0], ?_, ?_, HBB5.out.trans (below_sets (Nat.le_refl _) _ _ _)⟩
      · rw [H1.out]; rfl
      · rw [H2.out]; exact exNone_in' _ _ _
theorem results_readEx {w : World} {b : Nat} {us : List Value} {v : Value} (tmps : Array Value) (ht : tmps[2]?.getD undef = .pointer (some ⟨b, 0, none⟩)) (hv : tmps[3]?.getD undef = v) (hc : Boxd w b us) (hl : us.length = 8) : (results Tryd.f12 tmps).run Tryd.prog w = .ok (.tuple #[.agg us.toArray, v]) w := by
  have h := run_cell flatEx hc hl
  have h2 := run_addr ⟨b, 0, none⟩ w
  simp [results, Tryd.results12, ht, hv, h, h2, Sem.run_bind, Result.andThen]
set_option maxRecDepth 100000 in
set_option maxHeartbeats 8000000 in
theorem readEx_any (s : ByteArray) (w : World) (hs : s.size ≤ 40000) (hE : ResVar w) : Calls Tryd.prog 12 #[.string s] w (ExWhole s w) := by
  obtain ⟨W0, hW0⟩ : ∃ W, w.alloc (.cells #[.int .i64 0, .string ⟨#[]⟩, .string ⟨#[]⟩, .slice none 0 0, .int .i64 0, .slice none 0 0, .slice none 0 0, .int .i64 0] 27) = W := ⟨_, rfl⟩
  have hb0 : Below w.heap.size w W0 := hW0 ▸ (Below.refl _ _).alloc (Nat.le_refl _) _
  have HT0 := Lib.hid (show W0.there w.heap.size 0 8 from hW0 ▸ there_new w #[.int .i64 0, .string ⟨#[]⟩, .string ⟨#[]⟩, .slice none 0 0, .int .i64 0, .slice none 0 0, .slice none 0 0, .int .i64 0] 27)
  have HSZ := Lib.hid (show W0.heap.size = w.heap.size + 1 by rw [← hW0]; simp)
  have HW0 := Lib.hid hW0
  have HB0 := Lib.hid hb0
  have C := Lib.hid (wholeEx_any s W0 hs (hE.later hb0))
  clear hs hE hW0 hb0
  go_enter Tryd.func12, Tryd.ntmps12
  go_wp2_with fail
  rw [HW0.out]
  refine C.out.mono ?_
  rintro e w1 ⟨us, rfl, hd, hb⟩
  have HL := Lib.hid (show us.length = 8 from (Dat.In.len _ _ hd).trans (Ex.dat_size _))
  have HO := Lib.hid (ex_one hd)
  have HT := Lib.hid (show w1.there w.heap.size 0 us.length by rw [HL.out]; exact there_gb HT0.out (by rw [HSZ.out]; omega) (by omega : w.heap.size ≠ w.heap.size + 7) (gb_of _ hb))
  have HD := Lib.hid hd
  have HB := Lib.hid (HB0.out.trans (hb.mono HB0.out.size))
  clear hd hb C
  go_wp2_with (refine storeOp flatEx 2 6 (b := w.heap.size) (o := 0) (us := us) rfl rfl HT.out HO.out HL.out ?_)
  refine bodyPost_ret (results_readEx _ rfl rfl (set_there HT.out) HL.out) rfl ?_
  exact ⟨us, rfl, (in_sets (HD.out.wide (S' := Fr (w.heap.size + 1) w1) fun k hk => ⟨by have := hk.1; rw [HSZ.out] at this; exact this, hk.2⟩) (Nat.lt_succ_self _) 0 us).wide fun k hk => ⟨by have := hk.1; omega, hk.2⟩, HB.out.trans (below_sets (Nat.le_refl _) _ _ _)⟩
end Go.Proofs.YtbeejmlmplgaeaaDoor.Rd
