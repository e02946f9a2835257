/- The walks of read.list at expressions, and of the methods args, first, rest and Expr of read.Cursor: they read what the plain words say. The condition: the cursor stands in tokens of a text. -/
import Derived.Test.YtbeejmlmplgaeaaDoorRdT
namespace Go.Proofs.YtbeejmlmplgaeaaDoor.Rd
open Go.RowKit

/-- An expression that the call has made, and the cursor behind it. -/
def ExRet (c : Nat) (l : List Tk) (b : Bool) (w : World) (g : Got Ex) (e : Ending) (w' : World) : Prop := ∃ (t : Ex) (us : List Value), e = .returned (.agg us.toArray) ∧ t.dat.In w' False (Fr w.heap.size w') us ∧ Aft w' c t (stop b l g) ∧ w.grownBy w' (some c)
/-- A list of expressions that the call has made, and the cursor behind it. -/
def ExsRet (c : Nat) (l : List Tk) (b : Bool) (w : World) (g : Got (List Ex)) (e : Ending) (w' : World) : Prop := ∃ (ts : List Ex) (A : Option Addr) (cap : Nat), e = .returned (.slice A ts.length cap) ∧ Row w' False (Fr w.heap.size w') 8 A ts.length (Ex.dats ts) ∧ ts.length ≤ cap ∧ ts.length ≤ 100001 ∧ Aft w' c ts (stop b l g) ∧ w.grownBy w' (some c)
def ExAt (n : Nat) : Prop := ∀ (c : Nat) (l : List Tk) (b : Bool) (w : World), Cur w c l b → (b = false → 2 * l.length + 2 ≤ n) → Calls Tryd.prog 30 #[.pointer (some ⟨c, 0, none⟩)] w (ExRet c l b w (exF n l))

/-- What holds at a round's head of a list: what is read so far, and what is left to read. -/
structure ListRelX (w wr : World) (c : Nat) (v : Value) (l : List Tk) (b : Bool) (n : Nat) (m : Nat) (acc : List Ex) (q : List Tk) (d : Bool) : Prop where
  cur : Cur wr c q d
  row : Built wr False 27 8 w.heap.size v acc.length (Ex.dats acc)
  gb : w.grownBy wr (some c)
  fuel : d = false → 2 * q.length + 1 ≤ m
  less : m ≤ n
  few : acc.length + q.length ≤ 100001
  eq : stop b l (manyX n l) = if d then .bad q else moreX m acc q
theorem datx_snoc (xs : List Ex) (x : Ex) : Ex.dats (xs ++ [x]) = Ex.dats xs ++ [x.dat] := by rw [Ex.dats_map, Ex.dats_map, List.map_append]; rfl
theorem infoExR : (Tryd.prog.info? 27).map (fun i => (i.zero, i.size, i.bytes)) = some (some (.agg #[.int .i64 0, .string ⟨#[]⟩, .string ⟨#[]⟩, .slice none 0 0, .int .i64 0, .slice none 0 0, .slice none 0 0, .int .i64 0]), 8, 128) := by kernel_rfl
/-- The cursor behind one step, and what is left of the whole; where it did not stop, something was read. -/
theorem aft_next2 {α β : Type} {w : World} {c : Nat} {t : α} {b : Bool} {r : List Tk} {g : Got α} (he : Got.Less r g) (h : Aft w c t (stop b r g)) (f : α → List Tk → Got β) :
    ∃ q d, Cur w c q d ∧ q.length ≤ r.length ∧ (d = false → b = false ∧ q.length < r.length) ∧ stop b r (Got.bind g f) = if d then .bad q else f t q := by
  cases b
  · cases g with
    | ok u q => obtain ⟨rfl, h2⟩ := h; exact ⟨q, false, h2, Nat.le_of_lt he.2, fun _ => ⟨rfl, he.2⟩, rfl⟩
    | bad q => exact ⟨q, true, h, he.length_le, fun h => (by cases h), rfl⟩
  · exact ⟨r, true, h, Nat.le_refl _, fun h => (by cases h), rfl⟩
/-- The same for a step that may read nothing. -/
theorem aft_next3 {α β : Type} {w : World} {c : Nat} {t : α} {b : Bool} {r : List Tk} {g : Got α} (he : Got.Ends r g) (h : Aft w c t (stop b r g)) (f : α → List Tk → Got β) :
    ∃ q d, Cur w c q d ∧ q.length ≤ r.length ∧ (d = false → b = false) ∧ stop b r (Got.bind g f) = if d then .bad q else f t q := by
  cases b
  · cases g with
    | ok u q => obtain ⟨rfl, h2⟩ := h; exact ⟨q, false, h2, he.length_le, fun _ => rfl, rfl⟩
    | bad q => exact ⟨q, true, h, he.length_le, fun _ => rfl, rfl⟩
  · exact ⟨r, true, h, Nat.le_refl _, fun h => (by cases h), rfl⟩
set_option maxRecDepth 100000 in
set_option maxHeartbeats 4000000 in
theorem listEx_any (n : Nat) (ih : ∀ m, m ≤ n → ExAt m) (c : Nat) (l : List Tk) (b : Bool) (w : World) (h : Cur w c l b) (hf : b = false → 2 * l.length + 2 ≤ n) :
    Calls Tryd.prog 74 #[.pointer (some ⟨c, 0, none⟩), .func (.func 30) #[.pointer (some ⟨c, 0, none⟩)] #[]] w (ExsRet c l b w (manyX n l)) := by
  have H := Lib.hid h
  have HF := Lib.hid hf
  have C0 := Lib.hid (ih n (Nat.le_refl _) c l b w h hf)
  have IH := Lib.hid ih
  have hcl := h.lt
  clear h hf ih
  obtain ⟨i0, hi0, hz0, hz1, hz2⟩ := info_parts infoExR
  go_enter Tryd.func74, Tryd.ntmps74
  go_wp2_with fail
  refine C0.out.mono ?_
  rintro e w1 ⟨t, us, rfl, hd, ha, hg⟩
  obtain ⟨x1, x2, x3, x4, x5, x6, x7, x8, x9, rfl, _⟩ := ex_open hd
  have HB := Lib.hid (built_one (T := 27) hd hg.size (Ex.dat_size t))
  have hs1 := hg.size
  have HA := Lib.hid (ha.later ((Below.refl _ _).alloc (Nat.le_refl _) (.cells #[.int .i64 t.kind, .string t.name, .string t.ty.name, .slice x1 x2 x3, .int .i64 t.ty.off, .slice x4 x5 x6, .slice x7 x8 x9, .int .i64 t.off] 27)))
  have HG := Lib.hid (gb_trans hg (gb_of (some c) ((Below.refl _ _).alloc (Nat.le_refl _) (.cells #[.int .i64 t.kind, .string t.name, .string t.ty.name, .slice x1 x2 x3, .int .i64 t.ty.off, .slice x4 x5 x6, .slice x7 x8 x9, .int .i64 t.off] 27))))
  have HST := Lib.hid (show ∃ q d, Cur (w1.alloc (.cells #[.int .i64 t.kind, .string t.name, .string t.ty.name, .slice x1 x2 x3, .int .i64 t.ty.off, .slice x4 x5 x6, .slice x7 x8 x9, .int .i64 t.off] 27)) c q d ∧ q.length ≤ l.length ∧ (d = false → b = false) ∧ stop b l (manyX n l) = (if d then .bad q else moreX n [t] q) by
    unfold manyX
    obtain ⟨q, d, h1, h2, h3, h4⟩ := aft_next2 (exF_less n l) HA.out (fun u q => moreX n [u] q)
    exact ⟨q, d, h1, h2, fun h => (h3 h).1, h4⟩)
  clear hd ha hg C0
  go_wp2_with fail
  generalize hWW : w1.alloc (.cells #[.int .i64 t.kind, .string t.name, .string t.ty.name, .slice x1 x2 x3, .int .i64 t.ty.off, .slice x4 x5 x6, .slice x7 x8 x9, .int .i64 t.off] 27) = W at *
  have hWs : W.heap.size = w1.heap.size + 1 := by rw [← hWW]; simp
  have HWS := Lib.hid hWs
  clear hWW hWs
  go_loopw [5] (fun v wr => ∃ m acc q d, ListRelX w wr c v l b n m acc q d ∧ 1 ≤ acc.length) (fun v _ => 200000 - lenOf v)
  case atStart =>
    obtain ⟨q, d, h1, h2, h4, h3⟩ := HST.out
    refine ⟨n, [t], q, d, ⟨h1, ?_, HG.out, fun hd0 => by have := HF.out (h4 hd0); omega, Nat.le_refl _, by have := H.out.len; simp; omega, h3⟩, Nat.le_refl _⟩
    have := HB.out
    rw [Ex.dats_map]
    exact this
  case round =>
    obtain ⟨m, acc, q, d, hr, ha1⟩ := hrel
    have HR := Lib.hid hr
    obtain ⟨A, cap, hv, -⟩ := hr.row.row (by omega) (by have := hr.few; omega)
    subst hv
    have hfew := hr.few
    have hsw := hr.gb.size
    have HA1 := Lib.hid ha1
    have CT := Lib.hid (show Calls Tryd.prog 21 #[.pointer (some ⟨c, 0, none⟩), .string ⟨#[44]⟩] wr (TakePost c q d [44] wr) from take_any c q d ⟨#[44]⟩ wr hr.cur)
    clear hr ha1
    cases hx : nextB d [44] q
    · have HX := Lib.hid hx
      clear hx
      go_wp2_with fail
      refine CT.out.mono ?_
      rintro e w2 ⟨rfl, hc, hg⟩
      rw [HX.out]
      rw [takeL, HX.out] at hc
      have HC := Lib.hid hc
      have HG2 := Lib.hid hg
      clear hc hg
      go_wp2_with fail
      go_ret
      obtain ⟨A2, cap2, e2, hrow, hcp⟩ := (built_gb HG2.out hcl HR.out.row).row (by omega) (by omega)
      injection e2 with e2 e3 e4
      subst e2 e4
      refine ⟨acc, A, cap, rfl, hrow, hcp, by omega, ?_, gb_trans HR.out.gb HG2.out⟩
      rw [HR.out.eq]
      cases d
      · obtain ⟨k, rfl⟩ : ∃ k, m = k + 1 := ⟨m - 1, by have := HR.out.fuel rfl; omega⟩
        have hi : isT [44] q = false := by simpa [nextB] using HX.out
        rw [if_neg (by decide), moreX_succ, hi]
        exact ⟨rfl, HC.out⟩
      · exact HC.out
    · have HX := Lib.hid hx
      obtain ⟨rfl, hi⟩ := nextB_cons hx
      obtain ⟨t0, r, rfl, -, -⟩ := isT_cons hi
      obtain ⟨k, rfl⟩ : ∃ k, m = k + 1 := ⟨m - 1, by have := HR.out.fuel rfl; omega⟩
      have HI := Lib.hid hi
      clear hx hi
      go_wp2_with fail
      refine CT.out.mono ?_
      rintro e w2 ⟨rfl, hc, hg⟩
      rw [HX.out]
      rw [takeL, HX.out] at hc
      have HC := Lib.hid (show Cur w2 c r false from hc)
      have C3 := Lib.hid (IH.out k (by have := HR.out.less; omega) c r false w2 HC.out (fun _ => by have := HR.out.fuel rfl; simp only [List.length_cons] at this; omega))
      have HB2 := Lib.hid (built_gb hg hcl HR.out.row)
      have HG2 := Lib.hid (gb_trans HR.out.gb hg)
      clear hc hg CT
      go_wp2_with fail
      refine C3.out.mono ?_
      rintro e w3 ⟨t, us, rfl, hd, ha, hg⟩
      obtain ⟨x1, x2, x3, x4, x5, x6, x7, x8, x9, rfl, _⟩ := ex_open hd
      have hs2 := hg.size
      have HS2 := Lib.hid HG2.out.size
      obtain ⟨cs, S, hown, hrows, hzs, hS⟩ := built_gb hg hcl HB2.out
      have HOW := Lib.hid hown
      have HD := Lib.hid hd
      have hol := fun g (hgg : (Value.slice A acc.length cap).ownBlock = some g) => (HB2.out.elim fun cs2 h2 => h2.elim fun S2 h3 => (h3.1.lt g hgg).2)
      have HSTP := Lib.hid (fun (gg cp : Nat) (w5 : World) h1 h2 h3 => built_more (w5 := w5) (gg := gg) (cap := cp) (T := 27) hown hrows hzs hS hd HS2.out hol (Ex.dat_size t) h1 h2 h3)
      have HA := Lib.hid ha
      have HG3 := Lib.hid (gb_trans HG2.out hg)
      have hb3 : w.heap.size ≤ (w3.alloc (.cells #[.int .i64 t.kind, .string t.name, .string t.ty.name, .slice x1 x2 x3, .int .i64 t.ty.off, .slice x4 x5 x6, .slice x7 x8 x9, .int .i64 t.off] 27)).heap.size := by have := HG3.out.size; simp; omega
      have hlc : acc.length + 1 ≤ 100002 := by omega
      clear hd ha hg hrows hzs hS hown C3 hol
      go_wp2_with (at_builtin; refine wpList_append_lies _ rfl _ _ 25 rfl w.heap.size 27 i0 _ 8 128 Tryd.underlying25 hi0 hz0 hz1 hz2 rfl (by omega) _ acc.length cs rfl (HOW.out.alloc _) ⟨w3.heap.size, 0, none⟩ 1 1 [.int .i64 t.kind, .string t.name, .string t.ty.name, .slice x1 x2 x3, .int .i64 t.ty.off, .slice x4 x5 x6, .slice x7 x8 x9, .int .i64 t.off] rfl rfl (World.news_of_block (cs := #[.int .i64 t.kind, .string t.name, .string t.ty.name, .slice x1 x2 x3, .int .i64 t.ty.off, .slice x4 x5 x6, .slice x7 x8 x9, .int .i64 t.off]) (t := 27) (fr := (0, 0)) (heap_alloc_new _ _)) (by simp [Value.oneCell']) (by omega) (by unfold maxLen; omega) (by omega) hb3 _ rfl ?_; intro gg cp w5 hown5 hgrow5 hat5 hlt5; have HO5 := Lib.hid (And.intro hown5 (And.intro hgrow5 hat5)); clear hown5 hgrow5 hat5 hlt5)
      go_roundw
      case rel =>
        obtain ⟨h1, h2, h3⟩ := HO5.out
        have hrw : ∀ g, (Value.slice A acc.length cap).ownBlock = some g → w.heap.size ≤ g := fun g hgg => (HOW.out.lt g hgg).1
        have hup : Below (c + 1) w3 w5 := (((Below.refl w3.heap.size w3).alloc (Nat.le_refl _) _).mono (by have := HG3.out.size; omega)).trans ((below_grown hb3 h2 hrw).mono hcl)
        obtain ⟨q', d', g1, g2, -, g3⟩ := aft_next2 (exF_less k r) (HA.out.up hup) (fun u q => moreX k (acc ++ [u]) q)
        refine ⟨k, acc ++ [t], q', d', ⟨g1, ?_, gb_grown HG3.out ((Below.refl w3.heap.size w3).alloc (Nat.le_refl _) _) h2 hrw, ?_, by have := HR.out.less; omega, ?_, ?_⟩, by simp⟩
        · have := HSTP.out gg cp w5 h1 h2 (h3.imp id fun h => by simpa using h)
          rw [datx_snoc, List.length_append]
          exact this
        · intro _; have := HR.out.fuel rfl; simp only [List.length_cons] at this; omega
        · have := HR.out.few; simp only [List.length_cons, List.length_append, List.length_nil] at this ⊢; omega
        · rw [HR.out.eq, if_neg (by decide), moreX_succ, HI.out, if_pos rfl]
          exact g3
      case measure => simp [lenOf]; omega

theorem argsF_eq (n : Nat) (s : List UInt8) (l : List Tk) : argsF n s l = if isT s l then .ok [] l.tail else Got.bind (manyX n l) fun xs q => Got.bind (must s q) fun _ q => .ok xs q := rfl
set_option maxRecDepth 100000 in
set_option maxHeartbeats 4000000 in
theorem args_any (n : Nat) (ih : ∀ m, m ≤ n → ExAt m) (s : ByteArray) (c : Nat) (l : List Tk) (b : Bool) (w : World) (h : Cur w c l b) (hf : b = false → 2 * l.length + 2 ≤ n) :
    Calls Tryd.prog 64 #[.pointer (some ⟨c, 0, none⟩), .string s] w (ExsRet c l b w (argsF n s.data.toList l)) := by
  have H := Lib.hid h
  have CT := Lib.hid (take_any c l b s w h)
  clear h
  cases hx : nextB b s.data.toList l
  · have HX := Lib.hid hx
    have HF := Lib.hid hf
    have IH := Lib.hid ih
    clear hx hf ih
    go_enter Tryd.func64, Tryd.ntmps64
    go_wp2_with fail
    refine CT.out.mono ?_
    rintro e w2 ⟨rfl, hc, hg⟩
    rw [HX.out]
    rw [takeL, HX.out] at hc
    have HC := Lib.hid (show Cur w2 c l b from hc)
    have HG2 := Lib.hid hg
    have C3 := Lib.hid (listEx_any n IH.out c l b w2 HC.out HF.out)
    clear hc hg CT
    go_wp2_with fail
    refine C3.out.mono ?_
    rintro e w3 ⟨ts, A, cap, rfl, hrow, hcp, hle, ha, hg⟩
    have HLE := Lib.hid hle
    have HCP := Lib.hid hcp
    have HR := Lib.hid hrow
    have HG3 := Lib.hid (gb_trans HG2.out hg)
    have hs2 := HG2.out.size
    obtain ⟨q, d, hcur, hql, -, heq⟩ := aft_next3 (manyX_ends n l) ha (fun ts q => Got.bind (must s.data.toList q) fun _ q => .ok ts q)
    have HEQ := Lib.hid heq
    have C4 := Lib.hid (must_any c q d s w3 hcur)
    have HCL := Lib.hid HC.out.lt
    clear hrow ha hg heq C3 hcur hcp hle
    go_wp2_with fail
    refine C4.out.mono ?_
    rintro e w4 ⟨rfl, ha, hg⟩
    have HA4 := Lib.hid ha
    have HR4 := Lib.hid (row_gb hg HCL.out HR.out)
    have HG4 := Lib.hid (gb_trans HG3.out hg)
    clear ha hg C4
    go_wp2_with fail
    go_ret
    refine ⟨ts, A, cap, rfl, HR4.out.wide fun k hk => ⟨Nat.le_trans hs2 hk.1, hk.2⟩, HCP.out, HLE.out, ?_, HG4.out⟩
    rw [take_none HX.out _ (Got.bind (manyX n l) fun xs q => Got.bind (must s.data.toList q) fun _ q => .ok xs q) fun h => by rw [argsF_eq, h]; rfl]
    rw [HEQ.out, stop_if, stop_bind]
    exact aft_ret HA4.out (fun _ => ts) rfl
  · have HX := Lib.hid hx
    obtain ⟨rfl, hi⟩ := nextB_cons hx
    have HI := Lib.hid hi
    clear hx hi hf ih
    go_enter Tryd.func64, Tryd.ntmps64
    go_wp2_with fail
    refine CT.out.mono ?_
    rintro e w2 ⟨rfl, hc, hg⟩
    rw [HX.out]
    rw [takeL, HX.out] at hc
    have HC := Lib.hid (show Cur w2 c l.tail false from hc)
    have HG2 := Lib.hid hg
    clear hc hg
    go_wp2_with fail
    go_ret
    refine ⟨[], none, 0, rfl, Row.nil _ _ _ _ _, Nat.le_refl _, Nat.zero_le _, ?_, HG2.out⟩
    rw [argsF_eq, HI.out, if_pos rfl]
    exact ⟨rfl, HC.out⟩
end Go.Proofs.YtbeejmlmplgaeaaDoor.Rd
