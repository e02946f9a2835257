/- The walks of expr.show, showList, showRest and Text. The condition: a right expression of a short text.
The walks of expr.showRest, show and Text. The condition: a right expression of few parts. -/
import Derived.Test.YtnfakhohoibkpaaDoorTwE
import Derived.Test.YtnfakhohoibkpaaDoorExF
import Derived.Test.YtnfakhohoibkpaaDoorEkG
namespace Go.Proofs.YtnfakhohoibkpaaDoor
open Go.RowKit

/-! ### a builder in a later world -/
theorem bldAt_below {b : Nat} {p : Value} {bs : List Value} {w w' : World} (h : Lib.BuilderAtF 57 5 b b p bs w) (hb : Below w.heap.size w w') : Lib.BuilderAtF 57 5 b b p bs w' := by
  have hlt := h.lt
  obtain ⟨h1, v, h2, h3, h4⟩ := h
  refine ⟨h1, v, (hb.block b hlt).trans h2, World.ownsRowF.kept (row := none) h3 ⟨hb.os, hb.tape, hb.output, hb.size, fun k hk _ => hb.block k hk⟩ ?_, h4⟩
  by_cases hv : v.ownBlock = none
  · exact .inl hv
  · exact .inr hv
theorem bld_below {b : Nat} {l : List UInt8} {w w' : World} (h : Bld b l w) (hb : Below w.heap.size w w') : Bld b l w' :=
  h.imp (fun h => bldAt_below h hb) (fun h => bldAt_below h hb)
theorem Bld.lt {b : Nat} {l : List UInt8} {w : World} (h : Bld b l w) : b < w.heap.size := by
  rcases h with h | h <;> exact h.lt
theorem Wrote.below {b : Nat} {u v w : World} (h : Wrote b u v) (hb : Below v.heap.size v w) (hbv : b ≤ v.heap.size) : Wrote b u w :=
  ⟨h.1.trans (hb.mono hbv), fun k o hk hne ho => (hb.block k (Array.getElem?_eq_some_iff.1 (h.2 k o hk hne ho)).1).trans (h.2 k o hk hne ho)⟩

/-- A box of eight cells. -/
def BoxC (w : World) (k : Nat) (us : Array Value) : Prop := w.heap[k]? = some (.cells us 27 (0, 0))
theorem BoxC.new (w : World) (us : Array Value) : BoxC (w.alloc (.cells us 27)) w.heap.size us := heap_last w _
theorem BoxC.wrote {w w' : World} {b k : Nat} {us : Array Value} (h : BoxC w k us) (hw : Wrote b w w') (hk : k ≠ b) : BoxC w' k us := hw.keeps (by decide) hk h
theorem BoxC.boxd {w : World} {k : Nat} {us : Array Value} (h : BoxC w k us) : Boxd w k us.toList := fun j u hu => by
  rw [cell_of_row _ _ j _ _ (0, 0) h]
  simpa using hu
theorem BoxC.lt {w : World} {k : Nat} {us : Array Value} (h : BoxC w k us) : k < w.heap.size := (Array.getElem?_eq_some_iff.1 h).1

/-- What the walks of the text leave. -/
def XShowPost (w : World) (b : Nat) (l : List UInt8) (e : Ending) (w' : World) : Prop := e = .returned (.tuple #[]) ∧ Bld b l w' ∧ Wrote b w w'
def XShowAt (b : Nat) (e : Ex) : Prop := ∀ (us : List Value) (l : List UInt8) (w : World), e.right = true → e.wt ≤ 1000 → l.length + e.text.length ≤ 100000000 → Bld b l w → e.dat.In w False (· < b) us →
  Calls Tryd.prog 40 #[.pointer (some ⟨b, 0, none⟩), .agg us.toArray] w (XShowPost w b (l ++ e.text))

/-- What stands ahead of the k-th of a list. -/
def sepC (k : Nat) : ByteArray := if k = 0 then ⟨#[]⟩ else ⟨#[44, 32]⟩

set_option maxRecDepth 100000 in
set_option maxHeartbeats 8000000 in
theorem showList_any (b : Nat) (xs : List Ex) (ih : ∀ e ∈ xs, XShowAt b e) (hr : ∀ e ∈ xs, e.right = true) (hwt : ∀ e ∈ xs, e.wt ≤ 1000) (f g : ByteArray) (C : Option Addr) (r c : Nat) (l : List UInt8) (w : World)
    (hlen : l.length + f.size + (Ex.textC xs).length + g.size ≤ 100000000) (hB : Bld b l w) (h : Row w False (· < b) 8 C r (Ex.dats xs)) :
    Calls Tryd.prog 69 #[.pointer (some ⟨b, 0, none⟩), .string f, .slice C r c, .string g] w (XShowPost w b (l ++ f.data.toList ++ Ex.textC xs ++ g.data.toList)) := by
  have hm : (r : Int) ≤ 9223372036854775807 := by have := h.le; omega
  have hxl := h.len
  rw [Ex.dats_len] at hxl
  have hfs := Lib.size_eq f
  have IH := Lib.hid ih
  have HRT := Lib.hid hr
  have HWT := Lib.hid hwt
  have H := Lib.hid h
  have HLN := Lib.hid hlen
  have HF := Lib.hid hfs
  have C1 := Lib.hid (writeString_any b l f w hB (by omega))
  have HBB := Lib.hid hB
  clear ih hr hwt h hlen hB hfs
  go_enter Tryd.func69, Tryd.ntmps69
  go_wp2_with fail
  refine C1.out.mono ?_
  rintro e w1 ⟨rfl, hb1, hw1⟩
  have HW1 := Lib.hid hw1
  have HB1 := Lib.hid hb1
  clear hb1 hw1 C1
  go_wp2_with fail
  go_loopw [15] (fun i wr => ∃ k : Nat, k ≤ r ∧ i = .int .i64 k ∧ Bld b (l ++ f.data.toList ++ Ex.textC (xs.take k)) wr ∧ Wrote b w wr) (fun i _ => r - (intOf i).toNat)
  case atStart => exact ⟨0, by omega, rfl, by simpa [Ex.textC] using HB1.out, HW1.out⟩
  case round =>
    obtain ⟨k, hk, rfl, hbk, hwk⟩ := hrel
    have z0 : (0 : Int) ≤ k := by omega
    have hpk := Ex.textC_take xs k
    have HBK := Lib.hid hbk
    have HWK := Lib.hid hwk
    by_cases hlt : k < r
    · have z1 : (k : Int) < r := by omega
      obtain ⟨p, u, ps, rfl, hx, hpb, _, hu, hcs⟩ := kid_at (Row.later H.out hwk.1 (fun _ h => h)) hlt
      have hst := Ex.textC_step hx
      have hpk2 := Ex.textC_take xs (k + 1)
      rw [hst] at hpk2
      simp only [List.length_append] at hpk2
      have HA0 := Lib.hid (show Wrote b wr (wr.alloc (.cells ps.toArray 27)) from (Wrote.refl b wr).alloc (Nat.le_of_lt hbk.lt) _)
      have HBX := Lib.hid (BoxC.new wr ps.toArray)
      have HBA := Lib.hid (bld_below hbk ((Below.refl _ _).alloc (Nat.le_refl _) (.cells ps.toArray 27)))
      have HNE := Lib.hid (show wr.heap.size ≠ b by have := hbk.lt; omega)
      have D := Lib.hid (fun (V : World) (hV : Wrote b wr V) (hq : Bld b (l ++ f.data.toList ++ Ex.textC (xs.take k) ++ (if k = 0 then [] else [44, 32])) V) => IH.out u (List.mem_of_getElem? hx) ps _ V (HRT.out u (List.mem_of_getElem? hx)) (HWT.out u (List.mem_of_getElem? hx)) (by
        have h1 := HLN.out; have h2 := HF.out
        simp only [List.length_append]
        omega) hq (Dat.In.later hu hV.1 (fun _ h => h)))
      obtain ⟨_, _, _, _, _, _, _, _, _, rfl, _⟩ := ex_open hu
      obtain ⟨c0, c1, c2, c3, c4, c5, c6, c7⟩ := cells8_at hcs
      obtain ⟨x0, x1, x2, x3, x4, x5, x6, x7⟩ := HBX.out.boxd.c8
      have HST := Lib.hid hst
      by_cases hk0 : k = 0
      · have z2 : (k : Int) ≤ 0 := by omega
        have hif : (if k = 0 then ([] : List UInt8) else [44, 32]) = [] := if_pos hk0
        rw [hif] at HST D
        have D2 := Lib.hid (D.out _ HA0.out (by simpa using HBA.out))
        clear hx hu hcs hst hpk hpk2 hbk hwk D hif hk0
        go_wp2_with fail
        refine D2.out.mono ?_
        rintro e w3 ⟨rfl, hb3, hw3⟩
        have HB3 := Lib.hid hb3
        have HW3 := Lib.hid (HWK.out.trans (HA0.out.trans hw3))
        clear hb3 hw3 x0 x1 x2 x3 x4 x5 x6 x7 c0 c1 c2 c3 c4 c5 c6 c7 D2
        go_wp2_with fail
        go_roundw
        case rel => exact ⟨k + 1, by omega, by go_num, by rw [HST.out]; simpa only [List.append_assoc, List.append_nil, List.nil_append] using HB3.out, HW3.out⟩
        case measure => simp [intOf]; omega
      · have z2 : (0 : Int) < k := by omega
        have hif : (if k = 0 then ([] : List UInt8) else [44, 32]) = [44, 32] := if_neg hk0
        rw [hif] at HST D
        have CW := Lib.hid (writeString_any b _ ⟨#[44, 32]⟩ _ HBA.out (by have := HLN.out; have := HF.out; simp only [List.length_append]; rw [show (ByteArray.mk #[44, 32]).size = 2 from rfl]; omega))
        clear hx hu hcs hst hpk hpk2 hbk hwk hk0 hif
        go_wp2_with fail
        refine CW.out.mono ?_
        rintro e w2 ⟨rfl, hb2, hw2⟩
        have HW2 := Lib.hid (HA0.out.trans hw2)
        have D2 := Lib.hid (D.out w2 HW2.out hb2)
        clear x0 x1 x2 x3 x4 x5 x6 x7 c0 c1 c2 c3 c4 c5 c6 c7
        obtain ⟨x0, x1, x2, x3, x4, x5, x6, x7⟩ := (HBX.out.wrote hw2 HNE.out).boxd.c8
        clear hb2 hw2 D CW
        go_wp2_with fail
        refine D2.out.mono ?_
        rintro e w3 ⟨rfl, hb3, hw3⟩
        have HB3 := Lib.hid hb3
        have HW3 := Lib.hid (HWK.out.trans (HW2.out.trans hw3))
        clear hb3 hw3 x0 x1 x2 x3 x4 x5 x6 x7 D2
        go_wp2_with fail
        go_roundw
        case rel => exact ⟨k + 1, by omega, by go_num, by rw [HST.out]; simpa only [List.append_assoc] using HB3.out, HW3.out⟩
        case measure => simp [intOf]; omega
    · have z1 : (r : Int) ≤ k := by omega
      have hjk : xs.take k = xs := List.take_of_length_le (by omega)
      rw [hjk] at hbk
      have CW := Lib.hid (writeString_any b _ g _ hbk (by have := HLN.out; have := HF.out; simp only [List.length_append]; omega))
      clear hbk hwk hpk HBK
      go_wp2_with fail
      refine CW.out.mono ?_
      rintro e w2 ⟨rfl, hb2, hw2⟩
      have HB3 := Lib.hid hb2
      have HW3 := Lib.hid (HWK.out.trans hw2)
      clear hb2 hw2
      go_wp2_with fail
      go_end0
      exact ⟨rfl, HB3.out, HW3.out⟩
end Go.Proofs.YtnfakhohoibkpaaDoor
namespace Go.Proofs.YtnfakhohoibkpaaDoor
open Go.RowKit

/-! ### a slice behind its first element -/
theorem Row.tail {w : World} {S : Nat → Prop} {C : Option Addr} {r c : Nat} {d : Dat} {ds : List Dat} (h : Row w False S 8 C r (d :: ds)) (hc : r ≤ c) : Row w False S 8 (if c = 1 then C else C.map (·.add (1 * 8))) (r - 1) ds := by
  have hl := h.len
  simp only [List.length_cons] at hl
  refine ⟨by omega, by have := h.le; omega, Dat.Elems.of fun k x hk => ?_⟩
  have hkl := (List.getElem?_eq_some_iff.1 hk).1
  obtain ⟨a, us, e, h1, _, h3, h4⟩ := h.at (k := k + 1) (d := x) (by simpa using hk)
  rw [if_neg (by omega), e]
  refine ⟨a.add (1 * 8), us, rfl, by rw [block_of_add]; exact h1, False.elim, h3, ?_⟩
  rw [add_add, show 1 * 8 + (0 + k) * 8 = (k + 1) * 8 by omega]
  exact h4

/-- A boxed expression beside a builder. -/
structure ShX (w W : World) (b : Nat) (l : List UInt8) (us : Array Value) : Prop where
  bld : Bld b l W
  wr : Wrote b w W
  box : BoxC W w.heap.size us
  ne : w.heap.size ≠ b
theorem ShX.new {w : World} {b : Nat} {l : List UInt8} (h : Bld b l w) (us : Array Value) : ShX w (w.alloc (.cells us 27)) b l us :=
  ⟨bld_below h ((Below.refl _ _).alloc (Nat.le_refl _) _), (Wrote.refl b w).alloc (Nat.le_of_lt h.lt) _, BoxC.new w us, by have := h.lt; omega⟩
theorem ShX.wrote {w W W' : World} {b : Nat} {l l' : List UInt8} {us : Array Value} (h : ShX w W b l us) (hb : Bld b l' W') (hw : Wrote b W W') : ShX w W' b l' us := ⟨hb, h.wr.trans hw, h.box.wrote hw h.ne, h.ne⟩
theorem ShX.below {w W W' : World} {b : Nat} {l : List UInt8} {us : Array Value} (h : ShX w W b l us) (hb : Below W.heap.size W W') : ShX w W' b l us :=
  ⟨bld_below h.bld hb, h.wr.below hb (Nat.le_of_lt h.bld.lt), (hb.block _ h.box.lt).trans h.box, h.ne⟩

theorem targText_le (ts : List Ty) (h : Ty.wtL ts ≤ 1000) : (Ex.targText ts).length ≤ 100000 := by
  have := Ty.text_wt (.mk ⟨#[]⟩ ts 0)
  rw [Ex.targText]
  simp only [Ty.wt] at this
  have h0 : (⟨#[]⟩ : ByteArray).size = 0 := rfl
  rw [h0] at this
  omega
theorem tyText_le {t : Ty} (h : Ty.wt t ≤ 1000) : t.text.length ≤ 100000 := by have := Ty.text_wt t; omega
theorem lies_lt {w w' : World} {b : Nat} {A : Option Addr} {m : Nat} {xs : List Ty} (h : Lies w (· < b) A m xs) (hw : Wrote b w w') (hb : b < w'.heap.size) : Here w' A m xs :=
  (LiesN.later h hw.1 (fun _ h => h)).wide fun _ hk => Nat.lt_trans hk hb

/-- What stands behind the first kid's text, of a right expression. -/
def Ex.rest (k : Int) (s : ByteArray) (t : Ty) (ts : List Ty) (xs : List Ex) : List UInt8 :=
  if k = 5 then [46] ++ [40] ++ t.text ++ [41] else if k = 4 then [46] ++ s.data.toList else [46] ++ s.data.toList ++ Ex.targText ts ++ [40] ++ Ex.textC xs ++ [41]

set_option maxRecDepth 100000 in
set_option maxHeartbeats 8000000 in
theorem showRest_any (b : Nat) (k : Int) (s : ByteArray) (t : Ty) (ts : List Ty) (x : Ex) (xs : List Ex) (o : Int) (ih : ∀ e ∈ xs, XShowAt b e) (hr : ∀ e ∈ xs, e.right = true) (hwt : Ex.wt (.mk k s t ts (x :: xs) o) ≤ 1000) (hk : k = 2 ∨ k = 4 ∨ k = 5)
    (us : List Value) (l : List UInt8) (w : World) (hlen : l.length + (Ex.rest k s t ts xs).length ≤ 100000000) (hB : Bld b l w) (h : (Ex.dat (.mk k s t ts (x :: xs) o)).In w False (· < b) us) :
    Calls Tryd.prog 70 #[.pointer (some ⟨b, 0, none⟩), .agg us.toArray] w (XShowPost w b (l ++ Ex.rest k s t ts xs)) := by
  obtain ⟨A, m, a, B, tl, tb, C, r, c, rfl, hs, ht, ha, hb, hc⟩ := ex_open h
  have hcap := ex_cap h
  have hwt1 := Ex.wt_ty (e := .mk k s t ts (x :: xs) o)
  have hwt2 := fun u => Ex.wt_targ (e := .mk k s t ts (x :: xs) o) (t := u)
  have hwt3 := fun y => Ex.wt_kid (e := .mk k s t ts (x :: xs) o) (x := y)
  have hwt4 : Ty.wtL ts ≤ 1000 := by simp only [Ex.wt] at hwt; omega
  simp only [Ex.kind, Ex.name, Ex.ty, Ex.targs, Ex.kids, Ex.off] at hs ht ha hb hc hwt1 hwt2 hwt3 ⊢
  have hrl := hc.len
  rw [Ex.dats_len, List.length_cons] at hrl
  have hr9 := hc.le
  have hc2 := hc
  rw [Ex.dats] at hc2
  have htail := Row.tail hc2 hcap
  obtain ⟨C', hC'⟩ : ∃ C', C' = (if c = 1 then C else C.map (·.add (1 * 8))) := ⟨_, rfl⟩
  rw [← hC'] at htail
  have hsl : ∀ W : World, (Instr.slice 25 (.slice C r c) (some (.int .i64 1)) none none).run Tryd.prog W = .ok (.slice C' (r - 1) (c - 1)) W := fun W => by
    rw [run_slice_l W 25 C r c Tryd.underlying25 .i64 1 (by omega) (by omega), hC']
    simp [sliced, go_sem]
  have hss := Lib.size_eq s
  have HSS := Lib.hid hss
  have S0 := Lib.hid (ShX.new hB #[.int .i64 k, .string s, .string t.name, .slice A m a, .int .i64 t.off, .slice B tl tb, .slice C r c, .int .i64 o])
  have HLN := Lib.hid hlen
  have HA := Lib.hid ha
  have HT := Lib.hid hb
  have HK := Lib.hid htail
  have HTT := Lib.hid (tyText_le (Nat.le_trans hwt1 hwt))
  have HTG := Lib.hid (targText_le ts hwt4)
  have CT := Lib.hid (fun (V : World) (hV : Here V A m t.args) => text_any t A m a V (by have := HTT.out; omega) hV)
  have CG := Lib.hid (fun (V : World) (hV : Here V B tl ts) => show Calls Tryd.prog 68 #[.agg #[.string ⟨#[]⟩, .slice B tl tb, .int .i64 0]] V (TxtPost V (Ex.targText ts)) from text_any (.mk ⟨#[]⟩ ts 0) B tl tb V (by have := HTG.out; rw [Ex.targText] at this; omega) hV)
  have CL := Lib.hid (fun (l2 : List UInt8) (V : World) (h1 : l2.length + 1 + (Ex.textC xs).length + 1 ≤ 100000000) (h2 : Bld b l2 V) (h3 : Row V False (· < b) 8 C' (r - 1) (Ex.dats xs)) =>
    showList_any b xs ih hr (fun e he => Nat.le_trans (hwt3 e (List.mem_cons_of_mem _ he)) hwt) ⟨#[40]⟩ ⟨#[41]⟩ C' (r - 1) (c - 1) l2 V h1 h2 h3)
  have CW := Lib.hid (writeString_any b l ⟨#[46]⟩ _ S0.out.bld (by have := hlen; rw [show (ByteArray.mk #[46]).size = 1 from rfl]; omega))
  obtain ⟨x0, x1, x2, x3, x4, x5, x6, x7⟩ := S0.out.box.boxd.c8
  clear h hs ht ha hb hc hc2 htail hC' hwt hwt1 hwt2 hwt3 hwt4 ih hr hB hlen hcap hss hrl hr9
  go_enter Tryd.func70, Tryd.ntmps70
  go_wp2_with fail
  refine CW.out.mono ?_
  rintro e w1 ⟨rfl, hb1, hw1⟩
  have S1 := Lib.hid (S0.out.wrote hb1 hw1)
  clear hb1 hw1 x0 x1 x2 x3 x4 x5 x6 x7 CW S0
  obtain ⟨x0, x1, x2, x3, x4, x5, x6, x7⟩ := S1.out.box.boxd.c8
  rcases hk with rfl | rfl | rfl
  · have hrest : Ex.rest 2 s t ts xs = [46] ++ s.data.toList ++ Ex.targText ts ++ [40] ++ Ex.textC xs ++ [41] := rfl
    have hl2 := HLN.out
    rw [hrest] at hl2
    simp only [List.length_append, List.length_cons, List.length_nil] at hl2
    have CW2 := Lib.hid (writeString_any b _ s _ S1.out.bld (by have := HSS.out; simp only [List.length_append]; rw [show (ByteArray.mk #[46]).data.toList.length = 1 from rfl]; omega))
    have HL2 := Lib.hid hl2
    have HRR := Lib.hid hrest
    clear hl2 hrest
    go_wp2_with fail
    refine CW2.out.mono ?_
    rintro e w2 ⟨rfl, hb2, hw2⟩
    have S2 := Lib.hid (S1.out.wrote hb2 hw2)
    clear hb2 hw2 x0 x1 x2 x3 x4 x5 x6 x7 CW2 S1
    obtain ⟨x0, x1, x2, x3, x4, x5, x6, x7⟩ := S2.out.box.boxd.c8
    go_wp2_with fail
    refine (CG.out _ (lies_lt HT.out S2.out.wr S2.out.bld.lt)).mono ?_
    rintro e w3 ⟨rfl, hb3⟩
    have S3 := Lib.hid (S2.out.below hb3)
    clear hb3 x0 x1 x2 x3 x4 x5 x6 x7 S2
    obtain ⟨x0, x1, x2, x3, x4, x5, x6, x7⟩ := S3.out.box.boxd.c8
    have CW3 := Lib.hid (writeString_any b _ ⟨(Ex.targText ts).toArray⟩ _ S3.out.bld (by have := HL2.out; rw [Lib.size_eq]; simp only [List.length_append]; rw [show (ByteArray.mk #[46]).data.toList.length = 1 from rfl]; omega))
    go_wp2_with fail
    refine CW3.out.mono ?_
    rintro e w4 ⟨rfl, hb4, hw4⟩
    have S4 := Lib.hid (S3.out.wrote hb4 hw4)
    clear hb4 hw4 x0 x1 x2 x3 x4 x5 x6 x7 CW3 S3
    obtain ⟨x0, x1, x2, x3, x4, x5, x6, x7⟩ := S4.out.box.boxd.c8
    have CL2 := Lib.hid (CL.out _ _ (by have := HL2.out; simp only [List.length_append]; rw [show (ByteArray.mk #[46]).data.toList.length = 1 from rfl]; omega) S4.out.bld (Row.later HK.out S4.out.wr.1 (fun _ h => h)))
    go_wp2_with fail
    refine CL2.out.mono ?_
    rintro e w5 ⟨rfl, hb5, hw5⟩
    have S5 := Lib.hid (S4.out.wrote hb5 hw5)
    clear hb5 hw5 x0 x1 x2 x3 x4 x5 x6 x7 CL2 S4
    go_wp2_with fail
    go_end0
    refine ⟨rfl, ?_, S5.out.wr⟩
    rw [HRR.out]
    simpa only [List.append_assoc] using S5.out.bld
  · have hrest : Ex.rest 4 s t ts xs = [46] ++ s.data.toList := rfl
    have hl2 := HLN.out
    rw [hrest] at hl2
    simp only [List.length_append, List.length_cons, List.length_nil] at hl2
    have CW2 := Lib.hid (writeString_any b _ s _ S1.out.bld (by have := HSS.out; simp only [List.length_append]; rw [show (ByteArray.mk #[46]).data.toList.length = 1 from rfl]; omega))
    have HRR := Lib.hid hrest
    clear hl2 hrest
    go_wp2_with fail
    refine CW2.out.mono ?_
    rintro e w2 ⟨rfl, hb2, hw2⟩
    have S2 := Lib.hid (S1.out.wrote hb2 hw2)
    clear hb2 hw2 x0 x1 x2 x3 x4 x5 x6 x7 CW2 S1
    go_wp2_with fail
    go_end0
    refine ⟨rfl, ?_, S2.out.wr⟩
    rw [HRR.out]
    simpa only [List.append_assoc] using S2.out.bld
  · have hrest : Ex.rest 5 s t ts xs = [46] ++ [40] ++ t.text ++ [41] := rfl
    have hl2 := HLN.out
    rw [hrest] at hl2
    simp only [List.length_append, List.length_cons, List.length_nil] at hl2
    have HL2 := Lib.hid hl2
    have HRR := Lib.hid hrest
    clear hl2 hrest
    go_wp2_with fail
    refine (CT.out _ (lies_lt HA.out S1.out.wr S1.out.bld.lt)).mono ?_
    rintro e w3 ⟨rfl, hb3⟩
    have S3 := Lib.hid (S1.out.below hb3)
    clear hb3 x0 x1 x2 x3 x4 x5 x6 x7 S1
    have hsz : t.text.length ≤ 100000 := HTT.out
    generalize t.text = X at *
    have CW3 := Lib.hid (writeString_any b _ ((⟨#[40]⟩ : ByteArray) ++ ⟨X.toArray⟩ ++ ⟨#[41]⟩) _ S3.out.bld (by
      have := HL2.out
      rw [Lib.size_eq, Go.Joins.data_append, Go.Joins.data_append]
      simp only [List.length_append]
      rw [show (ByteArray.mk #[46]).data.toList.length = 1 from rfl, show (ByteArray.mk #[40]).data.toList.length = 1 from rfl, show (ByteArray.mk #[41]).data.toList.length = 1 from rfl]
      omega))
    go_wp2_with fail
    refine CW3.out.mono ?_
    rintro e w4 ⟨rfl, hb4, hw4⟩
    have S4 := Lib.hid (S3.out.wrote hb4 hw4)
    clear hb4 hw4 CW3 S3
    go_wp2_with fail
    go_end0
    refine ⟨rfl, ?_, S4.out.wr⟩
    rw [HRR.out]
    have := S4.out.bld
    rw [Go.Joins.data_append, Go.Joins.data_append] at this
    simpa only [List.append_assoc] using this

theorem text_rest {k : Int} {s : ByteArray} {t : Ty} {ts : List Ty} {x : Ex} {xs : List Ex} {o : Int} (hr : Ex.right (.mk k s t ts (x :: xs) o) = true) (hk : k = 2 ∨ k = 4 ∨ k = 5) : Ex.text (.mk k s t ts (x :: xs) o) = x.text ++ Ex.rest k s t ts xs := by
  rcases hk with rfl | rfl | rfl
  · rw [Ex.text_call, Ex.rest, if_neg (by decide), if_neg (by decide)]; simp only [List.append_assoc]
  · rw [Ex.text_field, Ex.rest, if_neg (by decide), if_pos rfl]; simp only [List.append_assoc]
  · have he : s.data.toList = [] := by
      rw [Ex.right, Bool.and_eq_true, fit5, Bool.and_eq_true] at hr
      have := hr.2.1
      rw [emptyB, Lib.toList_data] at this
      simpa using this
    rw [Ex.text_assert, Ex.rest, if_pos rfl, he]; simp only [List.append_assoc, List.nil_append]

set_option maxRecDepth 100000 in
set_option maxHeartbeats 8000000 in
theorem xshow_any (b : Nat) : ∀ e : Ex, XShowAt b e := by
  refine Ex.ind fun k s t ts xs o ih us l w hr hwt hlen hB h => ?_
  have hkind := Ex.right_kind hr
  have hkids := Ex.right_kids hr
  have hh := h
  obtain ⟨A, m, a, B, tl, tb, C, r, c, rfl, hs, ht, ha, hb, hc⟩ := ex_open h
  have hwt1 := Ex.wt_ty (e := .mk k s t ts xs o)
  have hwt3 := fun y => Ex.wt_kid (e := .mk k s t ts xs o) (x := y)
  simp only [Ex.kind, Ex.name, Ex.ty, Ex.targs, Ex.kids, Ex.off] at hs ht ha hb hc hh hwt1 hwt3 ⊢
  have hxl := hc.len
  rw [Ex.dats_len] at hxl
  have hr9 : (r : Int) ≤ 9223372036854775807 := by have := hc.le; omega
  have hss := Lib.size_eq s
  have S0 := Lib.hid (ShX.new hB #[.int .i64 k, .string s, .string t.name, .slice A m a, .int .i64 t.off, .slice B tl tb, .slice C r c, .int .i64 o])
  obtain ⟨x0, x1, x2, x3, x4, x5, x6, x7⟩ := S0.out.box.boxd.c8
  have HTT := Lib.hid (tyText_le (Nat.le_trans hwt1 hwt))
  rcases hkind with rfl | hkind
  · have htx : Ex.text (.mk 1 s t ts xs o) = s.data.toList := Ex.text_var _ _ _ _ _
    rw [htx] at hlen ⊢
    have CW := Lib.hid (writeString_any b l s _ S0.out.bld (by omega))
    clear h hh hs ht ha hb hc hwt hwt1 hwt3 ih hr hkids hB hlen hxl hss htx
    go_enter Tryd.func40, Tryd.ntmps40
    go_wp2_with fail
    refine CW.out.mono ?_
    rintro e w1 ⟨rfl, hb1, hw1⟩
    have S1 := Lib.hid (S0.out.wrote hb1 hw1)
    clear hb1 hw1 CW S0 x0 x1 x2 x3 x4 x5 x6 x7
    go_wp2_with fail
    go_end0
    exact ⟨rfl, S1.out.bld, S1.out.wr⟩
  · by_cases hk3 : k = 3
    · subst hk3
      have htx : Ex.text (.mk 3 s t ts xs o) = t.text ++ [123] ++ Ex.textC xs ++ [125] := Ex.text_lit _ _ _ _ _
      rw [htx] at hlen ⊢
      simp only [List.length_append, List.length_cons, List.length_nil] at hlen
      have HL := Lib.hid (show l.length + (t.text.length + (Ex.textC xs).length) ≤ 100000000 by omega)
      have CT := Lib.hid (text_any t A m a _ (by have := HTT.out; omega) (lies_lt ha S0.out.wr S0.out.bld.lt))
      have CL := Lib.hid (fun (V : World) (h2 : Bld b (l ++ t.text) V) (h3 : Row V False (· < b) 8 C r (Ex.dats xs)) =>
        showList_any b xs ih hkids (fun e he => Nat.le_trans (hwt3 e he) hwt) ⟨#[123]⟩ ⟨#[125]⟩ C r c (l ++ t.text) V (by rw [show (ByteArray.mk #[123]).size = 1 from rfl, show (ByteArray.mk #[125]).size = 1 from rfl, List.length_append]; omega) h2 h3)
      have HK := Lib.hid hc
      have hsz : t.text.length ≤ 100000 := HTT.out
      clear h hh hs ht ha hb hc hwt hwt1 hwt3 ih hr hkids hkind hB hlen hxl hss htx
      generalize t.text = X at *
      go_enter Tryd.func40, Tryd.ntmps40
      go_wp2_with fail
      refine CT.out.mono ?_
      rintro e w1 ⟨rfl, hb1⟩
      have S1 := Lib.hid (S0.out.below hb1)
      clear hb1 CT S0 x0 x1 x2 x3 x4 x5 x6 x7
      obtain ⟨x0, x1, x2, x3, x4, x5, x6, x7⟩ := S1.out.box.boxd.c8
      have CW := Lib.hid (writeString_any b l ⟨X.toArray⟩ _ S1.out.bld (by have := HL.out; rw [Lib.size_eq]; show l.length + X.length ≤ _; omega))
      go_wp2_with fail
      refine CW.out.mono ?_
      rintro e w2 ⟨rfl, hb2, hw2⟩
      have S2 := Lib.hid (S1.out.wrote hb2 hw2)
      clear hb2 hw2 CW S1 x0 x1 x2 x3 x4 x5 x6 x7
      obtain ⟨x0, x1, x2, x3, x4, x5, x6, x7⟩ := S2.out.box.boxd.c8
      have CL2 := Lib.hid (CL.out _ S2.out.bld (Row.later HK.out S2.out.wr.1 (fun _ h => h)))
      clear CL
      go_wp2_with fail
      refine CL2.out.mono ?_
      rintro e w3 ⟨rfl, hb3, hw3⟩
      have S3 := Lib.hid (S2.out.wrote hb3 hw3)
      clear hb3 hw3 CL2 S2 x0 x1 x2 x3 x4 x5 x6 x7
      go_wp2_with fail
      go_end0
      exact ⟨rfl, by simpa only [List.append_assoc] using S3.out.bld, S3.out.wr⟩
    · have hk : k = 2 ∨ k = 4 ∨ k = 5 := by
        rcases hkind with ⟨h, _⟩ | h | ⟨h, _⟩ | ⟨h, _⟩
        · exact .inl h
        · exact absurd h hk3
        · exact .inr (.inl h)
        · exact .inr (.inr h)
      obtain ⟨y, ys, rfl⟩ : ∃ y ys, xs = y :: ys := by
        cases xs with
        | nil => rcases hkind with ⟨_, h⟩ | h | ⟨_, h⟩ | ⟨_, h⟩ <;> first | (simp at h; done) | exact absurd h hk3
        | cons y ys => exact ⟨y, ys, rfl⟩
      have htx := text_rest hr hk
      rw [htx] at hlen ⊢
      rw [List.length_append] at hlen
      simp only [List.length_cons] at hxl
      have z0 : (0 : Int) < r := by omega
      obtain ⟨p, u, ps, rfl, hx, hpb, _, hu, hcs⟩ := kid_at hc (show 0 < r by omega)
      obtain rfl : y = u := by simpa using hx
      have hp0 : p.add (0 * 8) = p := by unfold Addr.add; simp
      rw [hp0] at hcs
      have CS := Lib.hid (fun (V : World) (hV : Wrote b w V) (h2 : Bld b l V) => ih y (by simp) ps l V (hkids y (by simp)) (Nat.le_trans (hwt3 y (by simp)) hwt) (by omega) h2 (Dat.In.later hu hV.1 (fun _ h => h)))
      have CR := Lib.hid (fun (V : World) (hV : Wrote b w V) (h2 : Bld b (l ++ y.text) V) => showRest_any b k s t ts y ys o (fun e he => ih e (List.mem_cons_of_mem _ he)) (fun e he => hkids e (List.mem_cons_of_mem _ he)) hwt hk _ (l ++ y.text) V (by rw [List.length_append]; omega) h2 (Dat.In.later hh hV.1 (fun _ h => h)))
      have HCS := Lib.hid (fun (V : World) (hV : Wrote b w V) => show CellsAt V p ps from fun j u hu => (hV.1.cell (by rw [block_of_add]; exact hpb)).trans (hcs j u hu))
      obtain ⟨q1, q2, q3, q4, q5, q6, q7, q8, q9, rfl, _⟩ := ex_open hu
      have hcs0 := HCS.out _ S0.out.wr
      obtain ⟨c0, c1, c2, c3, c4, c5, c6, c7⟩ := cells8_at hcs0
      have hk2 : (k == 1) = false ∧ (k == 3) = false ∧ ((k == 2) = true ∨ ((k == 2) = false ∧ (k == 4) = true) ∨ ((k == 2) = false ∧ (k == 4) = false ∧ (k == 5) = true)) := by
        rcases hk with rfl | rfl | rfl <;> decide
      obtain ⟨e1, e3, hk2⟩ := hk2
      clear h hh hs ht ha hb hc hwt hwt1 hwt3 ih hr hkids hkind hB hlen hxl hss htx hk hk3 hcs hcs0 hu hx HCS hp0
      rcases hk2 with e2 | ⟨e2, e4⟩ | ⟨e2, e4, e5⟩
      all_goals
        go_enter Tryd.func40, Tryd.ntmps40
        go_wp2_with fail
        refine (CS.out _ S0.out.wr S0.out.bld).mono ?_
        rintro e w1 ⟨rfl, hb1, hw1⟩
        have S1 := Lib.hid (S0.out.wrote hb1 hw1)
        clear hb1 hw1 CS S0 x0 x1 x2 x3 x4 x5 x6 x7 c0 c1 c2 c3 c4 c5 c6 c7
        obtain ⟨x0, x1, x2, x3, x4, x5, x6, x7⟩ := S1.out.box.boxd.c8
        go_wp2_with fail
        refine (CR.out _ S1.out.wr S1.out.bld).mono ?_
        rintro e w2 ⟨rfl, hb2, hw2⟩
        have S2 := Lib.hid (S1.out.wrote hb2 hw2)
        clear hb2 hw2 CR S1 x0 x1 x2 x3 x4 x5 x6 x7
        go_wp2_with fail
        go_end0
        exact ⟨rfl, by simpa only [List.append_assoc] using S2.out.bld, S2.out.wr⟩

set_option maxRecDepth 100000 in
set_option maxHeartbeats 4000000 in
theorem xtext_any (e : Ex) (us : List Value) (w : World) (hr : e.right = true) (hwt : e.wt ≤ 1000) (hlen : e.text.length ≤ 1000000) (h : e.dat.H w us) : Calls Tryd.prog 14 #[.agg us.toArray] w (TxtPost w e.text) := by
  have hb : Below w.heap.size w ((w.alloc (.cells us.toArray 27)).alloc (.cells #[.pointer none, .slice none 0 0] 57)) := ((Below.refl _ _).alloc (Nat.le_refl _) _).alloc (by simp) _
  have hf := Lib.fresh_isBuilder 57 5 (w.alloc (.cells us.toArray 27))
  rw [show (w.alloc (.cells us.toArray 27)).heap.size = w.heap.size + 1 by simp] at hf
  have hbx := BoxC.boxd (us := us.toArray) (heap_prev (heap_last w (.cells us.toArray 27)) (.cells #[.pointer none, .slice none 0 0] 57))
  have C := Lib.hid (xshow_any (w.heap.size + 1) e us [] _ hr hwt (by simp; omega) (Lib.IsBuilderF.of hf) ((Dat.In.later h hb (fun _ h => h)).wide (fun _ h => Nat.lt_succ_of_lt h)))
  have HB := Lib.hid hb
  obtain ⟨A, m, a, B, l, b, C', r, c, rfl, _⟩ := ex_open h
  obtain ⟨x0, x1, x2, x3, x4, x5, x6, x7⟩ := hbx.c8
  clear hb hf h
  go_enter Tryd.func14, Tryd.ntmps14
  go_wp2_with fail
  refine C.out.mono ?_
  rintro e1 w1 ⟨rfl, hs1, hw1⟩
  have HB1 := Lib.hid (HB.out.trans (hw1.1.mono (Nat.le_succ _)))
  have D := Lib.hid (Tryd.Builder_String_any_k (w.heap.size + 1) (w.heap.size + 1) _ _ hs1 (by have := hs1.lt; omega))
  clear hs1 hw1 C x0 x1 x2 x3 x4 x5 x6 x7
  go_wp2_with fail
  refine D.out.mono ?_
  rintro e2 w2 ⟨rfl, _, hb2, _⟩
  have HB2 := Lib.hid (HB1.out.trans (hb2.mono (Nat.le_succ _)))
  clear hb2
  go_wp2_with fail
  go_ret
  exact ⟨by simp, HB2.out⟩
end Go.Proofs.YtnfakhohoibkpaaDoor
