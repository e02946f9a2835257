/- The walk of the method Expr of read.Cursor: it reads what the plain words say. The condition: the cursor stands in tokens of a text. -/
import Derived.Test.YtppcpccjeknhdaaGreatDoorRdR
namespace Go.Proofs.YtppcpccjeknhdaaGreatDoor.Rd
open Go.RowKit

/-- How many tokens a cursor has. -/
def curLen (c : Nat) (w : World) : Nat := lenOf ((w.cell? ⟨c, 0, none⟩).getD .nilIface)
theorem Cur.curLen {w : World} {c : Nat} {l : List Tk} {b : Bool} (h : Cur w c l b) : curLen c w = l.length := by
  obtain ⟨A, cap, h1, -⟩ := h.mem
  rw [Rd.curLen, h1]
  rfl
/-- What holds at a round's head: the expression read so far lies in the block g. -/
structure XRel (w wr : World) (c g : Nat) (l : List Tk) (b : Bool) (n m : Nat) (e : Ex) (us : List Value) (q : List Tk) (d : Bool) : Prop where
  cur : Cur wr c q d
  box : Boxd wr g us
  own : wr.there g 0 8
  res : wr.there w.heap.size 0 8
  dat : e.dat.In wr False (fun k => w.heap.size + 1 ≤ k ∧ k < wr.heap.size ∧ k ≠ g) us
  gb : w.grownBy wr (some c)
  glt : g < wr.heap.size
  fuel : d = false → 2 * q.length + 1 ≤ m
  less : m ≤ n
  act : d = false → b = false
  eq : stop b l (exF (n + 1) l) = if d then .bad q else restsF m e q
theorem results_expr {w : World} {b : Nat} {us : List Value} (tmps : Array Value) (ht : tmps[2]?.getD undef = .pointer (some ⟨b, 0, none⟩)) (hc : Boxd w b us) (hl : us.length = 8) : (results Tryz.f60 tmps).run Tryz.prog w = .ok (.agg us.toArray) w := by
  have h := run_cell flatEx hc hl
  have h2 := run_addr ⟨b, 0, none⟩ w
  simp [results, Tryz.results60, ht, h, h2, Sem.run_bind, Result.andThen]
theorem ex_len {w : World} {N : Prop} {S : Nat → Prop} {e : Ex} {us : List Value} (h : e.dat.In w N S us) : us.length = 8 := (Dat.In.len _ _ h).trans (Ex.dat_size e)
theorem set_boxd {w : World} {g : Nat} {us : List Value} (h : w.there g 0 8) (hl : us.length = 8) : Boxd (w.setCells g 0 us) g us := set_there (by rw [hl]; exact h)

set_option maxRecDepth 100000 in
set_option maxHeartbeats 8000000 in
theorem expr_core (n c : Nat) (l : List Tk) (b : Bool) (w : World) (h : Cur w c l b) (hf : b = false → 2 * l.length + 2 ≤ n + 1) (ih : b = false → ∀ m, m ≤ n → ExAt m)
    (hfirst : ∀ W, Cur W c l b → Calls Tryz.prog 139 #[.pointer (some ⟨c, 0, none⟩)] W (ExRet c l b W (firstF n l))) : Calls Tryz.prog 60 #[.pointer (some ⟨c, 0, none⟩)] w (ExRet c l b w (exF (n + 1) l)) := by
  have hlt := h.lt
  obtain ⟨W0, hW0⟩ : ∃ W, w.alloc (.cells #[.int .i64 0, .string ⟨#[]⟩, .string ⟨#[]⟩, .slice none 0 0, .int .i64 0, .slice none 0 0, .slice none 0 0, .int .i64 0] 28) = W := ⟨_, rfl⟩
  have hb0 : Below w.heap.size w W0 := hW0 ▸ (Below.refl _ _).alloc (Nat.le_refl _) _
  have HS0 := Lib.hid (show W0.heap.size = w.heap.size + 1 by rw [← hW0]; simp)
  have HW0 := Lib.hid hW0
  have HB0 := Lib.hid hb0
  have HT0 := Lib.hid (show W0.there w.heap.size 0 8 from hW0 ▸ there_new w #[.int .i64 0, .string ⟨#[]⟩, .string ⟨#[]⟩, .slice none 0 0, .int .i64 0, .slice none 0 0, .slice none 0 0, .int .i64 0] 28)
  have HF := Lib.hid hf
  have IH := Lib.hid ih
  have C1 := Lib.hid (hfirst W0 (h.later hb0))
  clear h hW0 hb0 hf ih hfirst
  go_enter Tryz.func60, Tryz.ntmps60
  go_wp2_with fail
  rw [HW0.out]
  refine C1.out.mono ?_
  rintro e w1 ⟨t, us, rfl, hd, ha, hg⟩
  obtain ⟨y1, y2, y3, y4, y5, y6, y7, y8, y9, rfl, -⟩ := ex_open hd
  obtain ⟨q, d, hcur, hql, hdd, heq⟩ := aft_next2 (firstF_less n l) ha (fun e q => restsF n e q)
  have HEQ := Lib.hid heq
  have HDD := Lib.hid hdd
  obtain ⟨W1, hW1⟩ : ∃ W, w1.alloc (.cells #[.int .i64 t.kind, .string t.name, .string t.ty.name, .slice y1 y2 y3, .int .i64 t.ty.off, .slice y4 y5 y6, .slice y7 y8 y9, .int .i64 t.off] 28) = W := ⟨_, rfl⟩
  have hb1 : Below w1.heap.size w1 W1 := hW1 ▸ (Below.refl _ _).alloc (Nat.le_refl _) _
  have hs1 : W0.heap.size ≤ w1.heap.size := hg.size
  have hsz : W1.heap.size = w1.heap.size + 1 := by rw [← hW1]; simp
  have hg2 := gb_trans hg (gb_of (some c) hb1)
  have HX := Lib.hid (show XRel w W1 c w1.heap.size l b n n t [.int .i64 t.kind, .string t.name, .string t.ty.name, .slice y1 y2 y3, .int .i64 t.ty.off, .slice y4 y5 y6, .slice y7 y8 y9, .int .i64 t.off] q d from by
    refine ⟨hcur.later hb1, hW1 ▸ Boxd.new w1 #[.int .i64 t.kind, .string t.name, .string t.ty.name, .slice y1 y2 y3, .int .i64 t.ty.off, .slice y4 y5 y6, .slice y7 y8 y9, .int .i64 t.off] 28, hW1 ▸ there_new w1 #[.int .i64 t.kind, .string t.name, .string t.ty.name, .slice y1 y2 y3, .int .i64 t.ty.off, .slice y4 y5 y6, .slice y7 y8 y9, .int .i64 t.off] 28,
      there_gb HT0.out (by rw [HS0.out]; omega) (by omega) hg2, ?_, gb_trans (gb_of (some c) HB0.out) hg2, by omega, fun h => ?_, Nat.le_refl _, fun h => (hdd h).1, by rw [exF_succ]; exact heq⟩
    · refine (hd.later hb1 fun k hk => hk.2).wide fun k hk => ⟨?_, ?_, ?_⟩
      · have := hk.1; rw [HS0.out] at this; exact this
      · have := hk.2; omega
      · have := hk.2; omega
    · obtain ⟨h1, h2⟩ := hdd h
      have := HF.out h1
      omega)
  have hwg : w.heap.size < w1.heap.size := by have := HS0.out; omega
  have HW1 := Lib.hid hW1
  clear hd ha hg heq hcur C1 hdd hW1 hb1 hg2 hsz
  go_wp2_with fail
  rw [HW1.out]
  obtain ⟨g, hgg⟩ : ∃ g, w1.heap.size = g := ⟨_, rfl⟩
  rw [hgg] at HX hwg
  clear HW1
  simp only [hgg]
  clear hgg hs1
  go_loopw [7] (fun _ wr => ∃ m e us q d, XRel w wr c g l b n m e us q d) (fun _ wr => curLen c wr)
  case atStart => exact ⟨_, _, _, _, _, HX.out⟩
  case round =>
    obtain ⟨m, e, us, q, d, hr⟩ := hrel
    have HR := Lib.hid hr
    have CT := Lib.hid (show Calls Tryz.prog 57 #[.pointer (some ⟨c, 0, none⟩), .string ⟨#[46]⟩] wr (TakePost c q d [46] wr) from take_any c q d ⟨#[46]⟩ wr hr.cur)
    have HL := Lib.hid (ex_len hr.dat)
    have HO := Lib.hid (ex_one hr.dat)
    have hgc : g ≠ c := by omega
    have hwc : w.heap.size ≠ c := by omega
    have hsw : w.heap.size ≤ wr.heap.size := hr.gb.size
    have HCL := Lib.hid hr.cur.curLen
    clear hr HX
    cases hx : nextB d [46] q
    · have HXN := Lib.hid hx
      clear hx
      go_wp2_with fail
      refine CT.out.mono ?_
      rintro e w2 ⟨rfl, hc, hg⟩
      rw [HXN.out]
      rw [takeL, HXN.out] at hc
      have HC := Lib.hid (show Cur w2 c q d from hc)
      have HB := Lib.hid (boxd_at0 (boxd_gb hg hgc HR.out.box))
      have HT := Lib.hid (there_gb HR.out.res (Nat.lt_of_lt_of_le (by have := HR.out.glt; omega) (Nat.le_refl _)) hwc hg)
      have HT8 := Lib.hid (show w2.there w.heap.size 0 us.length by rw [HL.out]; exact HT.out)
      have HD := Lib.hid (Dat.In.keep id (gb_kept hg fun k hk => ⟨hk.2.1, by have := hk.1; omega⟩) (fun k hk => (⟨hk.1, Nat.lt_of_lt_of_le hk.2.1 hg.size⟩ : Fr (w.heap.size + 1) w2 k)) _ _ HR.out.dat)
      have HG := Lib.hid (gb_trans HR.out.gb hg)
      clear hc hg CT
      go_wp2_with (first
        | (refine loadOp flatEx 3 11 rfl HB.out HL.out ?_)
        | (refine storeOp flatEx 2 11 (b := w.heap.size) (o := 0) (us := us) rfl rfl HT8.out HO.out HL.out ?_))
      refine bodyPost_ret (results_expr _ rfl (set_boxd HT.out HL.out) HL.out) rfl ?_
      refine ⟨_, us, rfl, (in_sets HD.out (Nat.lt_succ_self _) 0 us).wide fun k hk => ⟨by have := hk.1; omega, hk.2⟩, ?_, gb_sets (some c) HG.out (Nat.le_refl _) _ _⟩
      rw [HR.out.eq]
      have hcu := HC.out.up (below_sets hlt us 0 w2)
      cases d
      · obtain ⟨k, rfl⟩ : ∃ k, m = k + 1 := ⟨m - 1, by have := HR.out.fuel rfl; omega⟩
        rw [if_neg (by decide), restsF_succ, ← nextB_false, HXN.out]
        exact ⟨rfl, hcu⟩
      · exact hcu
    · have HXN := Lib.hid hx
      obtain ⟨rfl, hi⟩ := nextB_cons hx
      obtain ⟨t0, r, rfl, -, -⟩ := isT_cons hi
      obtain ⟨k, rfl⟩ : ∃ k, m = k + 1 := ⟨m - 1, by have := HR.out.fuel rfl; omega⟩
      have HI := Lib.hid hi
      clear hx hi
      go_wp2_with fail
      refine CT.out.mono ?_
      rintro e w2 ⟨rfl, hc, hg⟩
      rw [HXN.out]
      rw [takeL, HXN.out] at hc
      have HC := Lib.hid (show Cur w2 c r false from hc)
      have HB := Lib.hid (boxd_at0 (boxd_gb hg hgc HR.out.box))
      have hgl2 : g < w2.heap.size := Nat.lt_of_lt_of_le HR.out.glt hg.size
      have HT2 := Lib.hid (there_gb HR.out.res (by have := HR.out.glt; omega) hwc hg)
      have HO2 := Lib.hid (there_gb HR.out.own HR.out.glt hgc hg)
      have HD := Lib.hid (Dat.In.keep id (gb_kept hg fun k hk => ⟨hk.2.1, by have := hk.1; omega⟩) (fun k hk => (⟨hk.1, Nat.lt_of_lt_of_le hk.2.1 hg.size, hk.2.2⟩ : w.heap.size + 1 ≤ k ∧ k < w2.heap.size ∧ k ≠ g)) _ _ HR.out.dat)
      have HG2 := Lib.hid (gb_trans HR.out.gb hg)
      have CR := Lib.hid (rest_any k (fun m hm => IH.out (HR.out.act rfl) m (by have := HR.out.less; omega)) e us (fun k => w.heap.size + 1 ≤ k ∧ k < w2.heap.size ∧ k ≠ g) c r w2 HC.out (fun k hk => ⟨hk.2.1, by have := hk.1; omega⟩) HD.out (by have := HR.out.fuel rfl; simp only [List.length_cons] at this; omega))
      clear hc hg CT
      go_wp2_with (refine loadOp flatEx 3 9 rfl HB.out HL.out ?_)
      refine CR.out.mono ?_
      rintro e3 w3 ⟨t, vs, rfl, hd, ha, hg⟩
      have HVL := Lib.hid (ex_len hd)
      have HVO := Lib.hid (ex_one hd)
      have HT3 := Lib.hid (there_gb HO2.out hgl2 hgc hg)
      have HT38 := Lib.hid (show w3.there g 0 vs.length by rw [HVL.out]; exact HT3.out)
      have HR3 := Lib.hid (there_gb HT2.out (by omega) hwc hg)
      have HD3 := Lib.hid hd
      have HA3 := Lib.hid ha
      have HG3 := Lib.hid (gb_trans HG2.out hg)
      have hgl3 : g < w3.heap.size := Nat.lt_of_lt_of_le hgl2 hg.size
      have hs23 := hg.size
      clear hd ha hg CR HB
      go_wp2_with (refine storeOp flatEx 3 10 (b := g) (o := 0) (us := vs) rfl rfl HT38.out HVO.out HVL.out ?_)
      go_roundw
      case rel =>
        have hup : Below (c + 1) w3 (w3.setCells g 0 vs) := below_sets (by omega) vs 0 w3
        obtain ⟨q', d', g1, g2, g3, g4⟩ := aft_next2 (b := false) (restF_less k e r) (HA3.out.up hup) (fun e q => restsF k e q)
        refine ⟨_, _, _, _, _, ⟨k, t, vs, q', d', g1, set_boxd HT3.out HVL.out, World.there_setCells HT3.out _ _ _, World.there_setCells HR3.out _ _ _, ?_, gb_sets (some c) HG3.out (by omega) _ _, by rw [size_sets]; exact hgl3, fun h => ?_, by have := HR.out.less; omega, fun _ => HR.out.act rfl, ?_⟩, rfl⟩
        · refine Dat.In.keep id (gb_kept (gb_sets1 w3 g 0 vs) fun k hk => ?_) (fun k hk => ?_) _ _ HD3.out
          · rcases hk with hk | hk
            · exact ⟨by omega, hk.2.2⟩
            · exact ⟨hk.2, by have := hk.1; omega⟩
          · rw [size_sets]
            rcases hk with hk | hk
            · exact ⟨hk.1, by omega, hk.2.2⟩
            · exact ⟨by have := hk.1; omega, hk.2, by have := hk.1; omega⟩
        · have := HR.out.fuel rfl; simp only [List.length_cons] at this; omega
        · rw [HR.out.eq, if_neg (by decide), restsF_succ, HI.out, if_pos rfl]
          exact g4
      case measure =>
        have hup : Below (c + 1) w3 (w3.setCells g 0 vs) := below_sets (by omega) vs 0 w3
        obtain ⟨q', d', g1, g2, g3, g4⟩ := aft_next2 (b := false) (restF_less k e r) (HA3.out.up hup) (fun e q => restsF k e q)
        rw [HCL.out, g1.curLen]
        simp only [List.length_cons]
        omega

/-! ### behind an error -/
set_option maxRecDepth 100000 in
set_option maxHeartbeats 4000000 in
theorem targs_bad (c : Nat) (l : List Tk) (w : World) (h : Cur w c l true) : Calls Tryz.prog 151 #[.pointer (some ⟨c, 0, none⟩)] w (fun e w' => e = .returned (.slice none 0 0) ∧ Cur w' c l true ∧ w.grownBy w' (some c)) := by
  have CT := Lib.hid (show Calls Tryz.prog 57 #[.pointer (some ⟨c, 0, none⟩), .string ⟨#[91]⟩] w (fun e w' => e = .returned (.bool false) ∧ Cur w' c l true ∧ w.grownBy w' (some c)) from take_any c l true ⟨#[91]⟩ w h)
  clear h
  go_enter Tryz.func151, Tryz.ntmps151
  go_wp2_with fail
  refine CT.out.mono ?_
  rintro e w2 ⟨rfl, hc, hg⟩
  have HC := Lib.hid hc
  have HG2 := Lib.hid hg
  clear hc hg
  go_wp2_with fail
  go_ret
  exact ⟨rfl, HC.out, HG2.out⟩
set_option maxRecDepth 100000 in
set_option maxHeartbeats 4000000 in
theorem type_bad (c : Nat) (l : List Tk) (w : World) (h : Cur w c l true) : Calls Tryz.prog 70 #[.pointer (some ⟨c, 0, none⟩)] w (fun e w' => ∃ (s : ByteArray) (o : Int), e = .returned (.agg #[.string s, .slice none 0 0, .int .i64 o]) ∧ s.size ≤ 100000 ∧ Cur w' c l true ∧ w.grownBy w' (some c)) := by
  have hlt := h.lt
  obtain ⟨W0, hW0⟩ : ∃ W, w.alloc (.cells #[.string ⟨#[]⟩, .slice none 0 0, .int .i64 0] 25) = W := ⟨_, rfl⟩
  have hb0 : Below w.heap.size w W0 := hW0 ▸ (Below.refl _ _).alloc (Nat.le_refl _) _
  have HS0 := Lib.hid (show W0.heap.size = w.heap.size + 1 by rw [← hW0]; simp)
  have H := Lib.hid (h.later hb0)
  have HW0 := Lib.hid hW0
  have HB0 := Lib.hid hb0
  have HT0 := Lib.hid (show W0.there w.heap.size 0 3 from hW0 ▸ there_new w #[.string ⟨#[]⟩, .slice none 0 0, .int .i64 0] 25)
  clear h hW0 hb0
  go_enter Tryz.func70, Tryz.ntmps70
  go_wp2_with fail
  rw [HW0.out]
  refine (name_any c l true W0 H.out).mono ?_
  rintro e w1 ⟨nm, rfl, hz, ha, hg⟩
  have HZ := Lib.hid hz
  have HG1 := Lib.hid hg
  have C2 := Lib.hid (targs_bad c l w1 ha)
  clear ha hg hz
  go_wp2_with fail
  refine C2.out.mono ?_
  rintro e w2 ⟨rfl, hc, hg⟩
  have HC := Lib.hid hc
  have HG2 := Lib.hid (gb_trans HG1.out hg)
  have HT2 := Lib.hid (there_gb HT0.out (by rw [HS0.out]; omega) (by omega) HG2.out)
  clear hc hg C2
  go_wp2_with (refine storeOp flatTy 2 14 (b := w.heap.size) (o := 0) (us := [.string nm.s, .slice none 0 0, .int .i64 nm.o]) rfl rfl HT2.out (by intro u hu; simp only [List.mem_cons, List.not_mem_nil, or_false] at hu; rcases hu with rfl | rfl | rfl <;> rfl) rfl ?_)
  refine bodyPost_ret (results_type _ rfl (set_there (us := [.string nm.s, .slice none 0 0, .int .i64 nm.o]) HT2.out) rfl) rfl ?_
  exact ⟨nm.s, nm.o, rfl, HZ.out, HC.out.up (below_sets hlt _ _ _), gb_sets (some c) (gb_trans (gb_of (some c) HB0.out) HG2.out) (Nat.le_refl _) _ _⟩
set_option maxRecDepth 100000 in
set_option maxHeartbeats 4000000 in
theorem first_bad (g : Got Ex) (c : Nat) (l : List Tk) (w : World) (h : Cur w c l true) : Calls Tryz.prog 139 #[.pointer (some ⟨c, 0, none⟩)] w (ExRet c l true w g) := by
  have hlt := h.lt
  obtain ⟨W0, hW0⟩ : ∃ W, w.alloc (.cells #[.int .i64 0, .string ⟨#[]⟩, .string ⟨#[]⟩, .slice none 0 0, .int .i64 0, .slice none 0 0, .slice none 0 0, .int .i64 0] 28) = W := ⟨_, rfl⟩
  have hb0 : Below w.heap.size w W0 := hW0 ▸ (Below.refl _ _).alloc (Nat.le_refl _) _
  have HS0 := Lib.hid (show W0.heap.size = w.heap.size + 1 by rw [← hW0]; simp)
  have HW0 := Lib.hid hW0
  have HB0 := Lib.hid hb0
  have HT0 := Lib.hid (show W0.there w.heap.size 0 8 from hW0 ▸ there_new w #[.int .i64 0, .string ⟨#[]⟩, .string ⟨#[]⟩, .slice none 0 0, .int .i64 0, .slice none 0 0, .slice none 0 0, .int .i64 0] 28)
  have C1 := Lib.hid (type_bad c l W0 (h.later hb0))
  clear h hW0 hb0
  go_enter Tryz.func139, Tryz.ntmps139
  go_wp2_with fail
  rw [HW0.out]
  refine C1.out.mono ?_
  rintro e w1 ⟨s, o, rfl, hz, hc, hg⟩
  obtain ⟨W1, hW1⟩ : ∃ W, w1.alloc (.cells #[.string s, .slice none 0 0, .int .i64 o] 25) = W := ⟨_, rfl⟩
  have hb1 : Below w1.heap.size w1 W1 := hW1 ▸ (Below.refl _ _).alloc (Nat.le_refl _) _
  have HC1 := Lib.hid (hc.later hb1)
  have HG1 := Lib.hid (gb_trans hg (gb_of (some c) hb1))
  have HB1 := Lib.hid (show Boxd W1 w1.heap.size [.string s, .slice none 0 0, .int .i64 o] from hW1 ▸ Boxd.new w1 #[.string s, .slice none 0 0, .int .i64 o] 25)
  have HW1 := Lib.hid hW1
  have HZ := Lib.hid hz
  clear hc hg C1 hW1 hb1 hz
  go_wp2_with fail
  rw [HW1.out]
  have C2 := Lib.hid (show Calls Tryz.prog 58 #[.pointer (some ⟨c, 0, none⟩), .string ⟨#[123]⟩] W1 (fun e w' => e = .returned (.bool false) ∧ Below W1.heap.size W1 w') from next_any c l true ⟨#[123]⟩ W1 HC1.out)
  refine C2.out.mono ?_
  rintro e w2 ⟨rfl, hb2⟩
  have HC2 := Lib.hid (HC1.out.later hb2)
  have HG2 := Lib.hid (gb_trans HG1.out (gb_of (some c) hb2))
  have HB2 := Lib.hid (HB1.out.later hb2)
  have HT2 := Lib.hid (there_gb HT0.out (by rw [HS0.out]; omega) (by omega) HG2.out)
  have y0 := HB2.out 0 _ rfl
  have y2 := HB2.out 2 _ rfl
  clear hb2 C2
  go_wp2_with (refine storeOp flatEx 2 19 (b := w.heap.size) (o := 0) (us := [.int .i64 1, .string s, .string ⟨#[]⟩, .slice none 0 0, .int .i64 0, .slice none 0 0, .slice none 0 0, .int .i64 o]) rfl rfl HT2.out (ex8_one rfl rfl rfl rfl rfl rfl rfl rfl) rfl ?_)
  refine bodyPost_ret (results_first _ rfl (set_there (us := [.int .i64 1, .string s, .string ⟨#[]⟩, .slice none 0 0, .int .i64 0, .slice none 0 0, .slice none 0 0, .int .i64 o]) HT2.out) rfl) rfl ?_
  exact ⟨exVar s o, _, rfl, exVar_in (by have := HZ.out; omega), HC2.out.up (below_sets hlt _ _ _), gb_sets (some c) (gb_trans (gb_of (some c) HB0.out) HG2.out) (Nat.le_refl _) _ _⟩
theorem expr_zero : ExAt 0 := by
  intro c l b w h hf
  cases b
  · exfalso; have := hf rfl; omega
  · exact (expr_core 0 c l true w h (fun h => by cases h) (fun h => by cases h) fun W hW => first_bad _ c l W hW).mono fun e w' h => h
theorem expr_step (n : Nat) (ih : ∀ m, m ≤ n → ExAt m) : ExAt (n + 1) := fun c l b w h hf =>
  expr_core n c l b w h hf (fun _ => ih) fun W hW => first_any n ih c l b W hW fun h => by have := hf h; omega
theorem expr_all (n : Nat) : ∀ m, m ≤ n → ExAt m := by
  induction n with
  | zero =>
    intro m hm
    obtain rfl : m = 0 := by omega
    exact expr_zero
  | succ n ih =>
    intro m hm
    rcases Nat.lt_or_ge m (n + 1) with h | h
    · exact ih m (by omega)
    · obtain rfl : m = n + 1 := by omega
      exact expr_step n ih
theorem expr_any (n : Nat) : ExAt n := expr_all n n (Nat.le_refl _)
end Go.Proofs.YtppcpccjeknhdaaGreatDoor.Rd
