/- The walks of the methods rest and Expr of read.Cursor: they read what the plain words say. The condition: the cursor stands in tokens of a text. -/
import Derived.Test.YtppcpccjeknhdaaGreatDoorRdE
namespace Go.Proofs.YtppcpccjeknhdaaGreatDoor.Rd
open Go.RowKit

/-- What rest gives: an expression whose parts lie in S or are made by the call. -/
def RestRet (S : Nat → Prop) (c : Nat) (w : World) (g : Got Ex) (e : Ending) (w' : World) : Prop := ∃ (t : Ex) (us : List Value), e = .returned (.agg us.toArray) ∧ t.dat.In w' False (fun k => S k ∨ Fr w.heap.size w' k) us ∧ Aft w' c t g ∧ w.grownBy w' (some c)
/-- The call's own: a box, the result, the row of kids; what it was given. -/
structure RS (w W : World) (c : Nat) (x : Ex) (vs : List Value) (S : Nat → Prop) : Prop where
  gb : w.grownBy W (some c)
  big : w.heap.size + 3 ≤ W.heap.size
  own : W.ownsRow (w.heap.size + 2) 28 8 (.slice (some ⟨w.heap.size + 2, 0, none⟩) 1 1) 1 vs
  res : W.there (w.heap.size + 1) 0 8
  dat : x.dat.In W False S vs
  hS : ∀ k, S k → k < w.heap.size ∧ k ≠ c
  hc : c < w.heap.size
theorem RS.later {w W W' : World} {c : Nat} {x : Ex} {vs : List Value} {S : Nat → Prop} (h : RS w W c x vs S) (hg : W.grownBy W' (some c)) : RS w W' c x vs S := by
  have hb := h.big
  have hc := h.hc
  refine ⟨gb_trans h.gb hg, Nat.le_trans hb hg.size, h.own.kept hg (.inr fun e => ?_), there_gb h.res (by omega) (by omega) hg, Dat.In.keep id (gb_kept hg fun k hk => ⟨by have := (h.hS k hk).1; omega, (h.hS k hk).2⟩) (fun _ h => h) _ _ h.dat, h.hS, hc⟩
  have e2 : some (w.heap.size + 2) = some c := e
  injection e2 with e2
  omega
/-- The row of the one kid. -/
theorem RS.one {w W : World} {c : Nat} {x : Ex} {vs : List Value} {S : Nat → Prop} (h : RS w W c x vs S) : Row W False (fun k => S k ∨ (w.heap.size + 2 ≤ k ∧ k < W.heap.size)) 8 (some ⟨w.heap.size + 2, 0, none⟩) 1 (Ex.dats [x]) := by
  obtain ⟨A, cp, e, hr, -⟩ := row_of_own (S' := fun k => S k ∨ (w.heap.size + 2 ≤ k ∧ k < W.heap.size)) h.own (show Dat.Ins W False S [x.dat] vs by rw [Dat.Ins]; exact ⟨vs, [], by simp, h.dat, by rw [Dat.Ins]⟩) (fun d hd => by rw [List.mem_singleton.1 hd]; exact Ex.dat_size x) (by omega) (fun _ h => .inl h) (fun g hg => .inr (h.own.lt g hg)) (by omega)
  simp only [Value.slice.injEq] at e
  obtain ⟨rfl, -, -⟩ := e
  rw [Ex.dats_map]
  exact hr
/-- The end: the result is written. -/
theorem rest_fin {w W : World} {c : Nat} {t : Ex} {us : List Value} {S : Nat → Prop} {g : Got Ex} (hgb : w.grownBy W (some c)) (hbig : w.heap.size + 3 ≤ W.heap.size) (hS : ∀ k, S k → k < w.heap.size ∧ k ≠ c) (hc : c < w.heap.size)
    (hd : t.dat.In W False (fun k => S k ∨ (w.heap.size + 2 ≤ k ∧ k < W.heap.size)) us) (ha : Aft W c t g) : RestRet S c w g (.returned (.agg us.toArray)) (W.setCells (w.heap.size + 1) 0 us) := by
  refine ⟨t, us, rfl, ?_, ha.up (below_sets (by omega) _ _ _), gb_sets (some c) hgb (by omega) _ _⟩
  have hk := gb_sets1 W (w.heap.size + 1) 0 us
  refine Dat.In.keep id (gb_kept hk fun k hk2 => ?_) (fun k hk2 => ?_) _ _ hd
  · rcases hk2 with h2 | ⟨h2, h3⟩
    · have := (hS k h2).1; omega
    · omega
  · rcases hk2 with h2 | ⟨h2, h3⟩
    · exact .inl h2
    · exact .inr ⟨by omega, by rw [size_sets]; exact h3⟩
theorem RS.fin {w W : World} {c : Nat} {x t : Ex} {vs us : List Value} {S : Nat → Prop} {g : Got Ex} (h : RS w W c x vs S) (hd : t.dat.In W False (fun k => S k ∨ (w.heap.size + 2 ≤ k ∧ k < W.heap.size)) us) (ha : Aft W c t g) :
    RestRet S c w g (.returned (.agg us.toArray)) (W.setCells (w.heap.size + 1) 0 us) := rest_fin h.gb h.big h.hS h.hc hd ha
/-- The further kids are appended. -/
theorem call_app {w w8 w9 : World} {c : Nat} {x : Ex} {vs cs : List Value} {S : Nat → Prop} {xs : List Ex} {ts : List Ty} {A5 : Option Addr} {v9 : Value} {g : Got (List Ex)} (h : RS w w8 c x vs S) (hcs : Dat.Ins w8 False (Fr (w.heap.size + 3) w8) (Ex.dats xs) cs) (hx : xs.length ≤ 100001) (ha : Aft w8 c xs g)
    (hr : Row w8 False (Fr (w.heap.size + 3) w8) 3 A5 ts.length (Ty.dats ts)) (hA : Appd w8 w9 (w.heap.size + 2) 28 8 1 xs.length (.slice (some ⟨w.heap.size + 2, 0, none⟩) 1 1) v9 vs cs) :
    ∃ A9 c9, v9 = .slice A9 (1 + xs.length) c9 ∧ Row w9 False (fun k => S k ∨ (w.heap.size + 2 ≤ k ∧ k < w9.heap.size)) 8 A9 (1 + xs.length) (Ex.dats (x :: xs)) ∧ 1 + xs.length ≤ c9 ∧ Aft w9 c xs g ∧ Row w9 False (Fr (w.heap.size + 3) w9) 3 A5 ts.length (Ty.dats ts)
      ∧ w9.there (w.heap.size + 1) 0 8 ∧ w.grownBy w9 (some c) ∧ w.heap.size + 3 ≤ w9.heap.size := by
  have hg : w8.grownBy w9 (some (w.heap.size + 2)) := hA.grow
  have hc := h.hc
  have hb := h.big
  have hs := hg.size
  have hr9 := row_gb hg (by omega : w.heap.size + 2 < w.heap.size + 3) hr
  have hd : x.dat.In w9 False (fun k => S k ∨ Fr (w.heap.size + 3) w9 k) vs := Dat.In.keep id (gb_kept hg fun k hk => by have := (h.hS k hk).1; omega) (fun _ h => .inl h) _ _ h.dat
  have hc9 : Dat.Ins w9 False (fun k => S k ∨ Fr (w.heap.size + 3) w9 k) (Ex.dats xs) cs := Dat.Ins.keep id (gb_kept hg fun k hk => ⟨hk.2, by have := hk.1; omega⟩) (fun k hk => .inr ⟨hk.1, Nat.lt_of_lt_of_le hk.2 hs⟩) _ _ hcs
  obtain ⟨A9, c9, e, hrow, hle⟩ := row_of_own (S' := fun k => S k ∨ (w.heap.size + 2 ≤ k ∧ k < w9.heap.size)) hA.own (show Dat.Ins w9 False (fun k => S k ∨ Fr (w.heap.size + 3) w9 k) (Ex.dats (x :: xs)) (vs ++ cs) by rw [Ex.dats, Dat.Ins]; exact ⟨vs, cs, rfl, hd, hc9⟩)
    (fun d hd => by rw [Ex.dats_map, List.mem_map] at hd; obtain ⟨y, _, rfl⟩ := hd; exact Ex.dat_size y) (by omega) (fun k hk => hk.imp id fun h => ⟨by have := h.1; omega, h.2⟩) (fun g hg => .inr (hA.own.lt g hg)) (by omega)
  refine ⟨A9, c9, e, hrow, hle, ha.up ⟨hg.os, hg.tape, hg.output, hs, fun k hk => hg.block k (by omega) (by simpa using (by omega : k ≠ w.heap.size + 2))⟩, hr9, there_gb h.res (by omega) (by omega) hg, ?_, by omega⟩
  exact ⟨hg.os.trans h.gb.os, hg.tape.trans h.gb.tape, hg.output.trans h.gb.output, Nat.le_trans h.gb.size hs, fun k hk hne => (hg.block k (by omega) (by simpa using (by omega : k ≠ w.heap.size + 2))).trans (h.gb.block k hk hne)⟩
theorem results_rest {w : World} {b : Nat} {us : List Value} (tmps : Array Value) (ht : tmps[4]?.getD undef = .pointer (some ⟨b, 0, none⟩)) (hc : Boxd w b us) (hl : us.length = 8) : (results Tryz.f140 tmps).run Tryz.prog w = .ok (.agg us.toArray) w := by
  have h := run_cell flatEx hc hl
  have h2 := run_addr ⟨b, 0, none⟩ w
  simp [results, Tryz.results140, ht, h, h2, Sem.run_bind, Result.andThen]
theorem slEx : SlOf 26 28 8 128 := by
  obtain ⟨i, hi, hz, hs, hb⟩ := info_parts infoExR
  exact ⟨Tryz.underlying26, ⟨i, _, hi, hz, hs, hb, rfl⟩, by omega⟩
theorem lo_wide {w W : World} {S : Nat → Prop} {lo : Nat} (h : w.heap.size + 2 ≤ lo) : ∀ k, Fr lo W k → S k ∨ (w.heap.size + 2 ≤ k ∧ k < W.heap.size) := fun _ hk => .inr ⟨Nat.le_trans h hk.1, hk.2⟩
theorem restF_eq (n : Nat) (x : Ex) (l : List Tk) : restF n x l = if isT [40] l then Got.bind (tyF n l.tail) fun t q => Got.bind (must [41] q) fun _ q => .ok (exAssert t x (off l)) q
    else Got.bind (name l) fun s q => Got.bind (targsF n q) fun ts q => if ts.isEmpty && !isT [40] q then .ok (exField s.s x s.o) q
    else Got.bind (must [40] q) fun _ q => Got.bind (argsF n [41] q) fun xs q => .ok (exCall s.s ts (x :: xs) s.o) q := rfl
theorem rest_neg (n : Nat) (x : Ex) (l : List Tk) (h : isT [40] l = false) : restF n x l = Got.bind (name l) fun s q => Got.bind (targsF n q) fun ts q => if ts.isEmpty && !isT [40] q then .ok (exField s.s x s.o) q
    else Got.bind (must [40] q) fun _ q => Got.bind (argsF n [41] q) fun xs q => .ok (exCall s.s ts (x :: xs) s.o) q := by rw [restF_eq, h]; rfl
theorem rest_pos (n : Nat) (x : Ex) (t : Tk) (r : List Tk) (h : isT [40] (t :: r) = true) : restF n x (t :: r) = Got.bind (tyF n r) fun t1 q => Got.bind (must [41] q) fun _ q => .ok (exAssert t1 x (off (t :: r))) q := by rw [restF_eq, if_pos h]; rfl
theorem rest_start (w : World) (c : Nat) (x : Ex) {v0 v1 v2 v3 v4 v5 v6 v7 : Value} {S : Nat → Prop} {T1 : TypeId} (hS : ∀ k, S k → k < w.heap.size ∧ k ≠ c) (hc : c < w.heap.size) (hx : x.dat.In w False S [v0, v1, v2, v3, v4, v5, v6, v7]) :
    RS w (((w.alloc (.cells #[v0, v1, v2, v3, v4, v5, v6, v7] T1)).alloc (.cells #[.int .i64 0, .string ⟨#[]⟩, .string ⟨#[]⟩, .slice none 0 0, .int .i64 0, .slice none 0 0, .slice none 0 0, .int .i64 0] 28)).alloc (.cells #[v0, v1, v2, v3, v4, v5, v6, v7] 28)) c x [v0, v1, v2, v3, v4, v5, v6, v7] S
      ∧ Below w.heap.size w (((w.alloc (.cells #[v0, v1, v2, v3, v4, v5, v6, v7] T1)).alloc (.cells #[.int .i64 0, .string ⟨#[]⟩, .string ⟨#[]⟩, .slice none 0 0, .int .i64 0, .slice none 0 0, .slice none 0 0, .int .i64 0] 28)).alloc (.cells #[v0, v1, v2, v3, v4, v5, v6, v7] 28)) := by
  have hb1 : Below w.heap.size w (w.alloc (.cells #[v0, v1, v2, v3, v4, v5, v6, v7] T1)) := (Below.refl _ _).alloc (Nat.le_refl _) _
  have hz1 : (w.alloc (.cells #[v0, v1, v2, v3, v4, v5, v6, v7] T1)).heap.size = w.heap.size + 1 := by simp
  obtain ⟨W1, hW1⟩ : ∃ W, w.alloc (.cells #[v0, v1, v2, v3, v4, v5, v6, v7] T1) = W := ⟨_, rfl⟩
  rw [hW1] at hb1 hz1 ⊢
  have hb2 : Below W1.heap.size W1 (W1.alloc (.cells #[.int .i64 0, .string ⟨#[]⟩, .string ⟨#[]⟩, .slice none 0 0, .int .i64 0, .slice none 0 0, .slice none 0 0, .int .i64 0] 28)) := (Below.refl _ _).alloc (Nat.le_refl _) _
  have hz2 : (W1.alloc (.cells #[.int .i64 0, .string ⟨#[]⟩, .string ⟨#[]⟩, .slice none 0 0, .int .i64 0, .slice none 0 0, .slice none 0 0, .int .i64 0] 28)).heap.size = w.heap.size + 2 := by simp [hz1]
  have ht : (W1.alloc (.cells #[.int .i64 0, .string ⟨#[]⟩, .string ⟨#[]⟩, .slice none 0 0, .int .i64 0, .slice none 0 0, .slice none 0 0, .int .i64 0] 28)).there (w.heap.size + 1) 0 8 := hz1 ▸ there_new W1 #[.int .i64 0, .string ⟨#[]⟩, .string ⟨#[]⟩, .slice none 0 0, .int .i64 0, .slice none 0 0, .slice none 0 0, .int .i64 0] 28
  obtain ⟨W2, hW2⟩ : ∃ W, W1.alloc (.cells #[.int .i64 0, .string ⟨#[]⟩, .string ⟨#[]⟩, .slice none 0 0, .int .i64 0, .slice none 0 0, .slice none 0 0, .int .i64 0] 28) = W := ⟨_, rfl⟩
  rw [hW2] at hb2 hz2 ht ⊢
  have hb3 : Below W2.heap.size W2 (W2.alloc (.cells #[v0, v1, v2, v3, v4, v5, v6, v7] 28)) := (Below.refl _ _).alloc (Nat.le_refl _) _
  have hB : Below w.heap.size w (W2.alloc (.cells #[v0, v1, v2, v3, v4, v5, v6, v7] 28)) := (hb1.trans (hb2.mono (by omega))).trans (hb3.mono (by omega))
  refine ⟨⟨gb_of _ hB, by simp [hz2], ?_, there_gb ht (by omega) (by omega : w.heap.size + 1 ≠ c) (gb_of _ hb3), hx.later hB fun k hk => (hS k hk).1, hS, hc⟩, hB⟩
  have := World.ownsRow_lit (base := w.heap.size + 2) (e := 28) (size := 8) W2 #[v0, v1, v2, v3, v4, v5, v6, v7] 1 (by omega) (by unfold maxLen; omega) rfl
  rw [hz2] at this
  exact this

set_option maxRecDepth 100000 in
set_option maxHeartbeats 8000000 in
theorem rest_any (n : Nat) (ih : ∀ m, m ≤ n → ExAt m) (x : Ex) (vs : List Value) (S : Nat → Prop) (c : Nat) (l : List Tk) (w : World) (h : Cur w c l false) (hS : ∀ k, S k → k < w.heap.size ∧ k ≠ c) (hx : x.dat.In w False S vs) (hf : 2 * l.length + 1 ≤ n) :
    Calls Tryz.prog 140 #[.pointer (some ⟨c, 0, none⟩), .agg vs.toArray] w (RestRet S c w (restF n x l)) := by
  have hlt := h.lt
  obtain ⟨y1, y2, y3, y4, y5, y6, y7, y8, y9, rfl, -⟩ := ex_open hx
  obtain ⟨hrs, hbw⟩ := rest_start w c x (T1 := 28) hS hlt hx
  obtain ⟨W1, hW1⟩ : ∃ W, (((w.alloc (.cells #[.int .i64 x.kind, .string x.name, .string x.ty.name, .slice y1 y2 y3, .int .i64 x.ty.off, .slice y4 y5 y6, .slice y7 y8 y9, .int .i64 x.off] 28)).alloc (.cells #[.int .i64 0, .string ⟨#[]⟩, .string ⟨#[]⟩, .slice none 0 0, .int .i64 0, .slice none 0 0, .slice none 0 0, .int .i64 0] 28)).alloc (.cells #[.int .i64 x.kind, .string x.name, .string x.ty.name, .slice y1 y2 y3, .int .i64 x.ty.off, .slice y4 y5 y6, .slice y7 y8 y9, .int .i64 x.off] 28)) = W := ⟨_, rfl⟩
  rw [hW1] at hrs hbw
  have R1 := Lib.hid hrs
  have HW1 := Lib.hid hW1
  have H1 := Lib.hid (h.later hbw)
  have HF := Lib.hid hf
  have IH := Lib.hid ih
  have HBX := Lib.hid (boxd_at0 (((Boxd.new w #[.int .i64 x.kind, .string x.name, .string x.ty.name, .slice y1 y2 y3, .int .i64 x.ty.off, .slice y4 y5 y6, .slice y7 y8 y9, .int .i64 x.off] 28)).later ((Below.refl _ _).alloc (Nat.le_refl _) (.cells #[.int .i64 0, .string ⟨#[]⟩, .string ⟨#[]⟩, .slice none 0 0, .int .i64 0, .slice none 0 0, .slice none 0 0, .int .i64 0] 28))))
  obtain ⟨t0, r0, -, -, -, e0, -⟩ := h.head
  have HE0 := Lib.hid e0
  clear h hS hx hf ih hrs hbw hW1 e0
  go_enter Tryz.func140, Tryz.ntmps140
  go_wp2_with (refine loadOp flatEx 3 10 rfl HBX.out rfl ?_)
  rw [HW1.out]
  clear HBX
  refine (peek_any c l false W1 H1.out).mono ?_
  rintro e w2 ⟨rfl, hb⟩
  obtain ⟨oo, hoo⟩ : ∃ o, (l.headD ⟨3, ⟨#[]⟩, 0⟩).o = o := ⟨_, rfl⟩
  obtain ⟨kk, hkk⟩ : ∃ o, (l.headD ⟨3, ⟨#[]⟩, 0⟩).k = o := ⟨_, rfl⟩
  obtain ⟨ss, hss⟩ : ∃ o, (l.headD ⟨3, ⟨#[]⟩, 0⟩).s = o := ⟨_, rfl⟩
  rw [hoo, hkk, hss]
  have HOO := Lib.hid (show off l = oo by rw [← hoo, HE0.out]; rfl)
  have R2 := Lib.hid (R1.out.later (gb_of (some c) hb))
  have H2 := Lib.hid (H1.out.later hb)
  have g2 := fun w => fieldTk2 kk oo ss w
  clear hb hoo hkk hss R1 H1 HE0
  go_wp2_with fail
  have CT := Lib.hid (show Calls Tryz.prog 57 #[.pointer (some ⟨c, 0, none⟩), .string ⟨#[40]⟩] w2 (TakePost c l false [40] w2) from take_any c l false ⟨#[40]⟩ w2 H2.out)
  refine CT.out.mono ?_
  rintro e w3 ⟨rfl, hc3, hg3⟩
  have R3 := Lib.hid (R2.out.later hg3)
  have HBG := Lib.hid R3.out.big
  clear g2 CT R2 H2 hg3
  cases hx : nextB false [40] l
  · have HI := Lib.hid (show isT [40] l = false by rw [← nextB_false]; exact hx)
    have H3 := Lib.hid (show Cur w3 c l false by rw [takeL, hx] at hc3; exact hc3)
    clear hx hc3
    go_wp2_with fail
    refine (name_any c l false w3 H3.out).mono ?_
    rintro e w4 ⟨nm, rfl, hz, ha, hg⟩
    obtain ⟨q, d, hcur, hql, hdd, heq⟩ := aft_next2 (b := false) (name_less l) ha (fun s q => Got.bind (targsF n q) fun ts q => if ts.isEmpty && !isT [40] q then .ok (exField s.s x s.o) q
      else Got.bind (must [40] q) fun _ q => Got.bind (argsF n [41] q) fun xs q => .ok (exCall s.s ts (x :: xs) s.o) q)
    have HEQ := Lib.hid ((rest_neg n x l HI.out).trans heq)
    have HDD := Lib.hid hdd
    have HZ := Lib.hid hz
    have R4 := Lib.hid (R3.out.later hg)
    have C5 := Lib.hid (targs_any' n c q d w4 hcur fun h => by have := (hdd h).2; have := HF.out; omega)
    clear ha hg heq hcur hz hdd R3 H3 HI
    go_wp2_with fail
    refine C5.out.mono ?_
    rintro e w5 ⟨ts, A5, cap5, rfl, hrow, ha, hg⟩
    obtain ⟨q5, d5, hcur5, hql5, hdd5, heq5⟩ := aft_next3 (targsF_ends n q) ha (fun ts q => if ts.isEmpty && !isT [40] q then .ok (exField nm.s x nm.o) q
      else Got.bind (must [40] q) fun _ q => Got.bind (argsF n [41] q) fun xs q => .ok (exCall nm.s ts (x :: xs) nm.o) q)
    have HEQ5 := Lib.hid (HEQ.out.trans ((stop_if d q _).trans heq5))
    have HDD5 := Lib.hid hdd5
    have R5 := Lib.hid (R4.out.later hg)
    have HS4 := Lib.hid R4.out.big
    have HRW := Lib.hid hrow
    have H5 := Lib.hid hcur5
    have HRL := Lib.hid (show Row w5 False (Fr (w.heap.size + 3) w5) 3 A5 ts.length (Ty.dats ts) from hrow.wide fun k hk => ⟨Nat.le_trans HS4.out hk.1, hk.2⟩)
    have HIE := Lib.hid (show ts.isEmpty = (ts.length == 0) by cases ts <;> rfl)
    have hlc : c < w.heap.size + 3 := by omega
    clear ha hg heq5 hcur5 hdd5 hrow C5 R4
    by_cases hm : ts.length = 0
    · have e0 : ((ts.length : Int) == 0) = true := by rw [hm]; rfl
      have HM := Lib.hid hm
      have HTN := Lib.hid (show ts = [] from List.eq_nil_of_length_eq_zero hm)
      clear hm
      go_wp2_with fail
      have C6 := Lib.hid (show Calls Tryz.prog 58 #[.pointer (some ⟨c, 0, none⟩), .string ⟨#[40]⟩] w5 (fun e w' => e = .returned (.bool (nextB d5 [40] q5)) ∧ Below w5.heap.size w5 w') from next_any c q5 d5 ⟨#[40]⟩ w5 H5.out)
      refine C6.out.mono ?_
      rintro e w6 ⟨rfl, hb6⟩
      have R6 := Lib.hid (R5.out.later (gb_of (some c) hb6))
      have H6 := Lib.hid (H5.out.later hb6)
      have HRL6 := Lib.hid (row_gb (gb_of (some c) hb6) hlc HRL.out)
      clear hb6 C6 R5 H5
      cases hx : nextB d5 [40] q5
      · have HX := Lib.hid hx
        clear hx
        have HT := Lib.hid R6.out.res
        go_wp2_with (refine storeOp flatEx 4 43 (b := w.heap.size + 1) (o := 0) (us := [.int .i64 4, .string nm.s, .string ⟨#[]⟩, .slice none 0 0, .int .i64 0, .slice none 0 0, .slice (some ⟨w.heap.size + 2, 0, none⟩) 1 1, .int .i64 nm.o]) rfl rfl HT.out (ex8_one rfl rfl rfl rfl rfl rfl rfl rfl) rfl ?_)
        refine bodyPost_ret (results_rest _ rfl (set_there (us := [.int .i64 4, .string nm.s, .string ⟨#[]⟩, .slice none 0 0, .int .i64 0, .slice none 0 0, .slice (some ⟨w.heap.size + 2, 0, none⟩) 1 1, .int .i64 nm.o]) HT.out) rfl) rfl ?_
        refine R6.out.fin (t := exField nm.s x nm.o) (ex_shut (e := exField nm.s x nm.o) (by show nm.s.size ≤ _; have := HZ.out; omega) (by show (0 : Nat) ≤ _; omega) (lies_row.2 (Row.nil _ _ _ _ _)) (lies_row.2 (Row.nil _ _ _ _ _)) R6.out.one (Nat.le_refl _)) ?_
        rw [HEQ5.out]
        cases d5
        · rw [if_neg (by decide), HTN.out, ← nextB_false, HX.out]
          exact ⟨rfl, H6.out⟩
        · exact H6.out
      · have HX := Lib.hid hx
        have HE7 := Lib.hid (show restF n x l = stop d5 q5 (Got.bind (must [40] q5) fun _ q => Got.bind (argsF n [41] q) fun xs q => .ok (exCall nm.s ts (x :: xs) nm.o) q) by
          obtain ⟨rfl, hi⟩ := nextB_cons HX.out
          rw [HEQ5.out, if_neg (by decide), hi, Bool.not_true, Bool.and_false, if_neg (by decide)]
          rfl)
        clear hx
        have C7 := Lib.hid (show Calls Tryz.prog 161 #[.pointer (some ⟨c, 0, none⟩), .string ⟨#[40]⟩] w6 (MustPost c q5 d5 [40] w6) from must_any c q5 d5 ⟨#[40]⟩ w6 H6.out)
        go_wp2_with fail
        refine C7.out.mono ?_
        rintro e w7 ⟨rfl, ha, hg⟩
        obtain ⟨q7, d7, hcur7, hql7, hdd7, heq7⟩ := aft_next2 (must_less [40] q5) ha (fun _ q => Got.bind (argsF n [41] q) fun xs q => .ok (exCall nm.s ts (x :: xs) nm.o) q)
        have HEQ7 := Lib.hid (HE7.out.trans heq7)
        have R7 := Lib.hid (R6.out.later hg)
        have HR7 := Lib.hid (row_gb hg hlc HRL6.out)
        have hfl : d7 = false → 2 * q7.length + 2 ≤ n := fun h => by
          obtain ⟨h1, h2⟩ := hdd7 h
          obtain ⟨h3, h4⟩ := HDD.out (HDD5.out h1)
          have := HF.out
          omega
        have C8 := Lib.hid (show Calls Tryz.prog 183 #[.pointer (some ⟨c, 0, none⟩), .string ⟨#[41]⟩] w7 (ExsRet c q7 d7 w7 (argsF n [41] q7)) from args_any n IH.out ⟨#[41]⟩ c q7 d7 w7 hcur7 hfl)
        clear ha hg heq7 hcur7 hfl C7 hdd7
        go_wp2_with fail
        refine C8.out.mono ?_
        rintro e w8 ⟨xs, A8, cap8, rfl, hrow, -, hxl, ha, hg⟩
        have HS7 := Lib.hid R7.out.big
        have R8 := Lib.hid (R7.out.later hg)
        have HR8 := Lib.hid (row_gb hg hlc HR7.out)
        have HX8 := Lib.hid (show Row w8 False (Fr (w.heap.size + 3) w8) 8 A8 xs.length (Ex.dats xs) from hrow.wide fun k hk => ⟨Nat.le_trans HS7.out hk.1, hk.2⟩)
        have HA := Lib.hid ha
        obtain ⟨cs, hcs, hlc2, hcc⟩ := row_flat HX8.out (fun d hd => by rw [Ex.dats_map, List.mem_map] at hd; obtain ⟨y, _, rfl⟩ := hd; exact Ex.dat_size y)
        have HCS := Lib.hid hcs
        have HLC := Lib.hid hlc2
        have HCC := Lib.hid hcc
        have HON := Lib.hid (ins_cells (fun d hd u hu => by rw [Ex.dats_map, List.mem_map] at hd; obtain ⟨y, _, rfl⟩ := hd; exact ex_one hu) hcs)
        have HSM := Lib.hid (row_some hrow)
        have hbs : w.heap.size + 2 ≤ w8.heap.size := by have := R8.out.big; omega
        clear hrow ha hg C8 R7 hcs hlc2 hcc
        go_wp2_with (first
          | (at_builtin; refine wpList_append_row slEx rfl _ _ rfl rfl rfl R8.out.own hbs HLC.out HCC.out HON.out HSM.out (by omega) (by omega) ?_; intro v9 w9 hA9; obtain ⟨A9, c9, rfl, hrow9, hc9, ha9, hr9, ht9, hg9, hb9⟩ := call_app R8.out HCS.out hxl HA.out HR8.out hA9; have HX9 := Lib.hid hrow9; have HC9 := Lib.hid hc9; have HA9 := Lib.hid ha9; have HR9 := Lib.hid hr9; have HG9 := Lib.hid hg9; have HT9 := Lib.hid ht9; have HB9 := Lib.hid hb9; have HH := Lib.hid R8.out.hS; clear hA9 hrow9 hc9 ha9 hr9 hg9 ht9 hb9 R8)
          | (refine storeOp flatEx 4 54 (b := w.heap.size + 1) (o := 0) (us := [.int .i64 2, .string nm.s, .string ⟨#[]⟩, .slice none 0 0, .int .i64 0, .slice A5 ts.length cap5, .slice A9 (1 + xs.length) c9, .int .i64 nm.o]) rfl rfl HT9.out (ex8_one rfl rfl rfl rfl rfl rfl rfl rfl) rfl ?_))
        refine bodyPost_ret (results_rest _ rfl (set_there (us := [.int .i64 2, .string nm.s, .string ⟨#[]⟩, .slice none 0 0, .int .i64 0, .slice A5 ts.length cap5, .slice A9 (1 + xs.length) c9, .int .i64 nm.o]) HT9.out) rfl) rfl ?_
        refine rest_fin HG9.out HB9.out HH.out hlt (t := exCall nm.s ts (x :: xs) nm.o) (ex_shut (e := exCall nm.s ts (x :: xs) nm.o) (by show nm.s.size ≤ _; have := HZ.out; omega) (by show (0 : Nat) ≤ _; omega) (lies_row.2 (Row.nil _ _ _ _ _)) (lies_row.2 (HR9.out.wide (lo_wide (by omega)))) HX9.out HC9.out) ?_
        rw [HEQ7.out, stop_if, stop_bind]
        exact aft_ret HA9.out (fun xs => exCall nm.s ts (x :: xs) nm.o) rfl
    · have e0 : ((ts.length : Int) == 0) = false := by simp only [beq_eq_false_iff_ne, ne_eq]; omega
      have HM := Lib.hid hm
      have HE7 := Lib.hid (show restF n x l = stop d5 q5 (Got.bind (must [40] q5) fun _ q => Got.bind (argsF n [41] q) fun xs q => .ok (exCall nm.s ts (x :: xs) nm.o) q) by
        rw [HEQ5.out, HIE.out, show (ts.length == 0) = false by simpa using HM.out, Bool.false_and, if_neg (show ¬ (false = true) by decide)]
        exact stop_if _ _ _)
      clear hm
      have C7 := Lib.hid (show Calls Tryz.prog 161 #[.pointer (some ⟨c, 0, none⟩), .string ⟨#[40]⟩] w5 (MustPost c q5 d5 [40] w5) from must_any c q5 d5 ⟨#[40]⟩ w5 H5.out)
      go_wp2_with fail
      refine C7.out.mono ?_
      rintro e w7 ⟨rfl, ha, hg⟩
      obtain ⟨q7, d7, hcur7, hql7, hdd7, heq7⟩ := aft_next2 (must_less [40] q5) ha (fun _ q => Got.bind (argsF n [41] q) fun xs q => .ok (exCall nm.s ts (x :: xs) nm.o) q)
      have HEQ7 := Lib.hid (HE7.out.trans heq7)
      have R7 := Lib.hid (R5.out.later hg)
      have HR7 := Lib.hid (row_gb hg hlc HRL.out)
      have hfl : d7 = false → 2 * q7.length + 2 ≤ n := fun h => by
        obtain ⟨h1, h2⟩ := hdd7 h
        obtain ⟨h3, h4⟩ := HDD.out (HDD5.out h1)
        have := HF.out
        omega
      have C8 := Lib.hid (show Calls Tryz.prog 183 #[.pointer (some ⟨c, 0, none⟩), .string ⟨#[41]⟩] w7 (ExsRet c q7 d7 w7 (argsF n [41] q7)) from args_any n IH.out ⟨#[41]⟩ c q7 d7 w7 hcur7 hfl)
      clear ha hg heq7 hcur7 hfl C7 hdd7
      go_wp2_with fail
      refine C8.out.mono ?_
      rintro e w8 ⟨xs, A8, cap8, rfl, hrow, -, hxl, ha, hg⟩
      have HS7 := Lib.hid R7.out.big
      have R8 := Lib.hid (R7.out.later hg)
      have HR8 := Lib.hid (row_gb hg hlc HR7.out)
      have HX8 := Lib.hid (show Row w8 False (Fr (w.heap.size + 3) w8) 8 A8 xs.length (Ex.dats xs) from hrow.wide fun k hk => ⟨Nat.le_trans HS7.out hk.1, hk.2⟩)
      have HA := Lib.hid ha
      obtain ⟨cs, hcs, hlc2, hcc⟩ := row_flat HX8.out (fun d hd => by rw [Ex.dats_map, List.mem_map] at hd; obtain ⟨y, _, rfl⟩ := hd; exact Ex.dat_size y)
      have HCS := Lib.hid hcs
      have HLC := Lib.hid hlc2
      have HCC := Lib.hid hcc
      have HON := Lib.hid (ins_cells (fun d hd u hu => by rw [Ex.dats_map, List.mem_map] at hd; obtain ⟨y, _, rfl⟩ := hd; exact ex_one hu) hcs)
      have HSM := Lib.hid (row_some hrow)
      have hbs : w.heap.size + 2 ≤ w8.heap.size := by have := R8.out.big; omega
      clear hrow ha hg C8 R7 hcs hlc2 hcc
      go_wp2_with (first
        | (at_builtin; refine wpList_append_row slEx rfl _ _ rfl rfl rfl R8.out.own hbs HLC.out HCC.out HON.out HSM.out (by omega) (by omega) ?_; intro v9 w9 hA9; obtain ⟨A9, c9, rfl, hrow9, hc9, ha9, hr9, ht9, hg9, hb9⟩ := call_app R8.out HCS.out hxl HA.out HR8.out hA9; have HX9 := Lib.hid hrow9; have HC9 := Lib.hid hc9; have HA9 := Lib.hid ha9; have HR9 := Lib.hid hr9; have HG9 := Lib.hid hg9; have HT9 := Lib.hid ht9; have HB9 := Lib.hid hb9; have HH := Lib.hid R8.out.hS; clear hA9 hrow9 hc9 ha9 hr9 hg9 ht9 hb9 R8)
        | (refine storeOp flatEx 4 54 (b := w.heap.size + 1) (o := 0) (us := [.int .i64 2, .string nm.s, .string ⟨#[]⟩, .slice none 0 0, .int .i64 0, .slice A5 ts.length cap5, .slice A9 (1 + xs.length) c9, .int .i64 nm.o]) rfl rfl HT9.out (ex8_one rfl rfl rfl rfl rfl rfl rfl rfl) rfl ?_))
      refine bodyPost_ret (results_rest _ rfl (set_there (us := [.int .i64 2, .string nm.s, .string ⟨#[]⟩, .slice none 0 0, .int .i64 0, .slice A5 ts.length cap5, .slice A9 (1 + xs.length) c9, .int .i64 nm.o]) HT9.out) rfl) rfl ?_
      refine rest_fin HG9.out HB9.out HH.out hlt (t := exCall nm.s ts (x :: xs) nm.o) (ex_shut (e := exCall nm.s ts (x :: xs) nm.o) (by show nm.s.size ≤ _; have := HZ.out; omega) (by show (0 : Nat) ≤ _; omega) (lies_row.2 (Row.nil _ _ _ _ _)) (lies_row.2 (HR9.out.wide (lo_wide (by omega)))) HX9.out HC9.out) ?_
      rw [HEQ7.out, stop_if, stop_bind]
      exact aft_ret HA9.out (fun xs => exCall nm.s ts (x :: xs) nm.o) rfl
  · have HI := Lib.hid (show isT [40] l = true by rw [← nextB_false]; exact hx)
    obtain ⟨t1, r1, rfl, -, -⟩ := isT_cons HI.out
    have H3 := Lib.hid (show Cur w3 c r1 false by rw [takeL, hx] at hc3; exact hc3)
    clear hx hc3
    have C4 := Lib.hid (type_any n c r1 false w3 H3.out (by have := HF.out; simp only [List.length_cons] at this; omega))
    go_wp2_with fail
    refine C4.out.mono ?_
    rintro e w4 ⟨t, us, rfl, hd, ha, hg⟩
    obtain ⟨B, m, c1, rfl, hsz, hli⟩ := ty_open hd
    obtain ⟨q, d, hcur, hql, hdd, heq⟩ := aft_next2 (b := false) (tyF_less n r1) ha (fun t q => Got.bind (must [41] q) fun _ q => .ok (exAssert t x (off (t1 :: r1))) q)
    have HEQ := Lib.hid ((rest_pos n x t1 r1 HI.out).trans heq)
    obtain ⟨W4, hW4⟩ : ∃ W, w4.alloc (.cells #[.string t.name, .slice B m c1, .int .i64 t.off] 25) = W := ⟨_, rfl⟩
    have hb4 : Below w4.heap.size w4 W4 := hW4 ▸ (Below.refl _ _).alloc (Nat.le_refl _) _
    have R4 := Lib.hid (R3.out.later (gb_trans hg (gb_of (some c) hb4)))
    have HS3 := Lib.hid R3.out.big
    have H4 := Lib.hid (hcur.later hb4)
    have hlc : c < w.heap.size + 3 := by omega
    have HD4 := Lib.hid (in_gb (gb_of (some c) hb4) hlc (hd.wide (S' := Fr (w.heap.size + 3) w4) fun k hk => ⟨Nat.le_trans HS3.out hk.1, hk.2⟩))
    have HG4 := Lib.hid (show w.heap.size + 3 ≤ w4.heap.size from Nat.le_trans HS3.out hg.size)
    have HB4 := Lib.hid (show Boxd W4 w4.heap.size [.string t.name, .slice B m c1, .int .i64 t.off] from hW4 ▸ Boxd.new w4 #[.string t.name, .slice B m c1, .int .i64 t.off] 25)
    have HW4 := Lib.hid hW4
    clear hd ha hg heq hcur C4 hli hdd hW4 hb4 R3 H3 HI hsz
    go_wp2_with fail
    rw [HW4.out]
    have C5 := Lib.hid (show Calls Tryz.prog 161 #[.pointer (some ⟨c, 0, none⟩), .string ⟨#[41]⟩] W4 (MustPost c q d [41] W4) from must_any c q d ⟨#[41]⟩ W4 H4.out)
    refine C5.out.mono ?_
    rintro e w5 ⟨rfl, ha, hg⟩
    have HA := Lib.hid ha
    have R5 := Lib.hid (R4.out.later hg)
    have HT := Lib.hid R5.out.res
    have HD5 := Lib.hid (in_gb hg hlc HD4.out)
    have HB5 := Lib.hid (boxd_at0 (boxd_gb hg (by have := HG4.out; omega : w4.heap.size ≠ c) HB4.out))
    clear ha hg C5 R4 H4 HW4
    go_wp2_with (first
      | (refine loadOp flatTy 7 21 rfl HB5.out rfl ?_)
      | (refine storeOp flatEx 4 24 (b := w.heap.size + 1) (o := 0) (us := [.int .i64 5, .string ⟨#[]⟩, .string t.name, .slice B m c1, .int .i64 t.off, .slice none 0 0, .slice (some ⟨w.heap.size + 2, 0, none⟩) 1 1, .int .i64 oo]) rfl rfl HT.out (ex8_one rfl rfl rfl rfl rfl rfl rfl rfl) rfl ?_))
    refine bodyPost_ret (results_rest _ rfl (set_there (us := [.int .i64 5, .string ⟨#[]⟩, .string t.name, .slice B m c1, .int .i64 t.off, .slice none 0 0, .slice (some ⟨w.heap.size + 2, 0, none⟩) 1 1, .int .i64 oo]) HT.out) rfl) rfl ?_
    refine R5.out.fin (t := exAssert t x oo) ?_ ?_
    · obtain ⟨B2, m2, c2, e, h1, h2⟩ := ty_open (HD5.out.wide (S' := fun k => S k ∨ (w.heap.size + 2 ≤ k ∧ k < w5.heap.size)) (lo_wide (by omega)))
      simp only [List.cons.injEq, Value.slice.injEq, and_true, true_and] at e
      obtain ⟨rfl, rfl, rfl⟩ := e
      exact ex_shut (e := exAssert t x oo) (by show (0 : Nat) ≤ _; omega) h1 h2 (lies_row.2 (Row.nil _ _ _ _ _)) R5.out.one (Nat.le_refl _)
    · rw [HEQ.out, HOO.out, stop_if, stop_bind]
      exact aft_ret HA.out (fun _ => exAssert t x oo) rfl
end Go.Proofs.YtppcpccjeknhdaaGreatDoor.Rd
