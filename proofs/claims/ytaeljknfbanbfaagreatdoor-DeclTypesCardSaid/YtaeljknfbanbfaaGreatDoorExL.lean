/- The walk of the reference's List of an expression: the expression and its kids, from left to right; what they lead to lies where it lay. The condition: few parts. -/
import Derived.Test.YtaeljknfbanbfaaGreatDoorExG
import Derived.Deep.AppendLies
namespace Go.Proofs.YtaeljknfbanbfaaGreatDoor
open Go.RowKit

theorem infoExL : (Tryz.prog.info? 33).map (fun i => (i.zero, i.size, i.bytes)) = some (some (.agg #[.int .i64 0, .string ⟨#[]⟩, .string ⟨#[]⟩, .slice none 0 0, .int .i64 0, .slice none 0 0, .slice none 0 0, .int .i64 0]), 8, 128) := by kernel_rfl
theorem ex_cells {w : World} {N : Prop} {S : Nat → Prop} {e : Ex} {us : List Value} (h : e.dat.In w N S us) : ∀ u ∈ us, u.oneCell' = true := by
  obtain ⟨A, m, a, B, l, b, C, n, c, rfl, _⟩ := ex_open h
  intro u hu
  simp only [List.mem_cons, List.not_mem_nil, or_false] at hu
  rcases hu with rfl | rfl | rfl | rfl | rfl | rfl | rfl | rfl <;> rfl
theorem exs_cells {w : World} {N : Prop} {S : Nat → Prop} : ∀ {es : List Ex} {cs : List Value}, Dat.Ins w N S (Ex.dats es) cs → ∀ u ∈ cs, u.oneCell' = true
  | [], cs, h => by
    rw [Ex.dats, Dat.Ins] at h
    subst h
    intro u hu
    cases hu
  | e :: r, cs, h => by
    rw [Ex.dats, Dat.Ins] at h
    obtain ⟨u1, u2, rfl, h1, h2⟩ := h
    intro u hu
    rcases List.mem_append.1 hu with hu | hu
    · exact ex_cells h1 u hu
    · exact exs_cells h2 u hu
theorem Dat.Ins.app {w : World} {N : Prop} {S : Nat → Prop} : ∀ {ds es : List Dat} {us vs : List Value}, Dat.Ins w N S ds us → Dat.Ins w N S es vs → Dat.Ins w N S (ds ++ es) (us ++ vs)
  | [], es, us, vs, h, h2 => by
    rw [Dat.Ins] at h
    subst h
    exact h2
  | d :: r, es, us, vs, h, h2 => by
    rw [Dat.Ins] at h
    obtain ⟨u1, u2, rfl, h3, h4⟩ := h
    rw [List.cons_append, Dat.Ins]
    exact ⟨u1, u2 ++ vs, by rw [List.append_assoc], h3, Dat.Ins.app h4 h2⟩
theorem exs_len {w : World} {N : Prop} {S : Nat → Prop} : ∀ {es : List Ex} {cs : List Value}, Dat.Ins w N S (Ex.dats es) cs → cs.length = es.length * 8
  | [], cs, h => by
    rw [Ex.dats, Dat.Ins] at h
    subst h
    rfl
  | e :: r, cs, h => by
    rw [Ex.dats, Dat.Ins] at h
    obtain ⟨u1, u2, rfl, h1, h2⟩ := h
    have h3 := exs_len h2
    have h4 := (Dat.In.len _ _ h1).trans (Ex.dat_size e)
    rw [List.length_append, h3, h4, List.length_cons]
    omega

/-- A list of expressions, whole in one block; what they lead to lies below lo. -/
def XsPost (w : World) (lo : Nat) (es : List Ex) (e : Ending) (w' : World) : Prop :=
  ∃ g c cs, e = .returned (.slice (some ⟨g, 0, none⟩) es.length c) ∧ w.heap.size ≤ g ∧ (∀ j u, cs[j]? = some u → w'.cell? ⟨g, j, none⟩ = some u) ∧ Dat.Ins w' False (· < lo) (Ex.dats es) cs ∧ Below w.heap.size w w'
def XListAt (e : Ex) : Prop := ∀ (us : List Value) (w : World) (lo : Nat), lo ≤ w.heap.size → e.list.length ≤ 1000000 → e.dat.In w False (· < lo) us → Calls Tryz.prog 124 #[.agg us.toArray] w (XsPost w lo e.list)

theorem one_list (e : Ex) : e.list = e :: Ex.listL e.kids := by
  obtain ⟨k, s, t, ts, xs, o⟩ := e
  rw [Ex.list]; rfl

theorem exs_listL_len : ∀ xs : List Ex, xs.length ≤ (Ex.listL xs).length
  | [] => by simp
  | a :: q => by
    have h1 := exs_listL_len q
    have h2 : (Ex.list a).length = (Ex.listL a.kids).length + 1 := by rw [one_list a, List.length_cons]
    rw [Ex.listL, List.length_append, h2, List.length_cons]
    omega
theorem listL_mem_len : ∀ {xs : List Ex} {x : Ex}, x ∈ xs → x.list.length ≤ (Ex.listL xs).length
  | a :: q, x, h => by
    rw [Ex.listL, List.length_append]
    rcases List.mem_cons.1 h with rfl | h
    · omega
    · have := listL_mem_len h
      omega
theorem exs_own {W : World} {base : Nat} {e : TypeId} {size : Nat} {v : Value} {k : Nat} {xs : List Value} (h : W.ownsRow base e size v (k + 1) xs) : ∃ g cap, v = .slice (some ⟨g, 0, none⟩) (k + 1) cap := by
  rcases h.2 with ⟨_, h0⟩ | ⟨g, cap, cur, rfl, _⟩
  · cases h0
  · exact ⟨g, cap, rfl⟩
theorem dats_app (xs ys : List Ex) : Ex.dats (xs ++ ys) = Ex.dats xs ++ Ex.dats ys := by simp [Ex.dats_map]

/-- What holds at the head of the kids' loop. -/
structure ListRow (w V : World) (lo : Nat) (v : Value) (es : List Ex) : Prop where
  bel : Below w.heap.size w V
  own : ∃ cs, V.ownsRow (w.heap.size + 1) 33 8 v es.length cs ∧ Dat.Ins V False (· < lo) (Ex.dats es) cs
theorem ListRow.step {w V w1 w2 : World} {lo cap gg : Nat} {v : Value} {es fs : List Ex} {cs ds : List Value} (hlo : lo ≤ w.heap.size) (hbel : Below w.heap.size w V) (hown : V.ownsRow (w.heap.size + 1) 33 8 v es.length cs) (hins : Dat.Ins V False (· < lo) (Ex.dats es) cs)
    (hb : Below V.heap.size V w1) (hd : Dat.Ins w1 False (· < lo) (Ex.dats fs) ds) (hown2 : w2.ownsRow (w.heap.size + 1) 33 8 (.slice (some ⟨gg, 0, none⟩) (es.length + fs.length) cap) (es.length + fs.length) (cs ++ ds)) (hgrow : w1.grownBy w2 v.ownBlock) :
    ListRow w w2 lo (.slice (some ⟨gg, 0, none⟩) (es.length + fs.length) cap) (es ++ fs) := by
  have s1 := hbel.size
  have s2 := hb.size
  have ob := own_base hown
  have far : ∀ p : Addr, p.block < lo → w2.cell? p = w1.cell? p ∧ w2.frozen? p = w1.frozen? p := fun p hp =>
    ⟨hgrow.cell_far p (by omega) (fun h => by have := ob _ h.symm; omega), hgrow.frozen_far p (by omega) (fun h => by have := ob _ h.symm; omega)⟩
  refine ⟨(hbel.trans (hb.mono s1)).grown hgrow (by omega) (fun k hk => by have := ob k hk; omega), cs ++ ds, by rw [List.length_append]; exact hown2, ?_⟩
  rw [dats_app]
  refine Dat.Ins.app (Dat.Ins.keep id (fun p hp => ?_) (fun _ h => h) _ _ hins) (Dat.Ins.keep id (fun p hp => far p hp) (fun _ h => h) _ _ hd)
  obtain ⟨e1, e2⟩ := far p hp
  exact ⟨e1.trans (hb.cell (by omega)), e2.trans (hb.frozen (by omega))⟩

set_option maxRecDepth 100000 in
set_option maxHeartbeats 8000000 in
theorem xref_list_any : ∀ e : Ex, XListAt e := by
  refine Ex.ind fun k s t ts xs o ih us w lo hlo hll h => ?_
  have hd8 := Ex.dat_size (.mk k s t ts xs o)
  obtain ⟨A, m, a, B, l, b, C, r, c, rfl, hs, ht, ha, hb, hc⟩ := ex_open h
  have hx := OneX.new (Dat.In.wide h (S' := (· < w.heap.size)) fun b hb => Nat.lt_of_lt_of_le hb hlo) 33
  have hxl := hc.len
  rw [Ex.dats_len] at hxl
  simp only [Ex.kind, Ex.name, Ex.ty, Ex.targs, Ex.kids, Ex.off] at hs ht ha hb hc hx hxl h ⊢
  have hL : (Ex.list (.mk k s t ts xs o)) = .mk k s t ts xs o :: Ex.listL xs := by rw [Ex.list]
  rw [hL] at hll ⊢
  have hll2 : (Ex.listL xs).length + 1 ≤ 1000000 := by simpa using hll
  have IH := Lib.hid ih
  have HX := Lib.hid hx
  have HC := Lib.hid hc
  have HD := Lib.hid h
  have HXL := Lib.hid hxl
  have hr : r ≤ 1000000 := by
    have h1 := exs_listL_len xs
    omega
  obtain ⟨i0, hi0, hz0, hz1, hz2⟩ := info_parts infoExL
  have HB2 := Lib.hid (show Below w.heap.size w ((w.alloc (.cells #[.int .i64 k, .string s, .string t.name, .slice A m a, .int .i64 t.off, .slice B l b, .slice C r c, .int .i64 o] 33)).alloc (.cells #[.int .i64 k, .string s, .string t.name, .slice A m a, .int .i64 t.off, .slice B l b, .slice C r c, .int .i64 o] 33)) from ((Below.refl _ _).alloc (Nat.le_refl _) _).alloc (by simp) _)
  have HX2 := Lib.hid (HX.out.later ((Below.refl _ _).alloc (Nat.le_refl _) (.cells #[.int .i64 k, .string s, .string t.name, .slice A m a, .int .i64 t.off, .slice B l b, .slice C r c, .int .i64 o] 33)))
  have HO := Lib.hid (World.ownsRow_lit (base := w.heap.size + 1) (e := 33) (size := 8) (w.alloc (.cells #[.int .i64 k, .string s, .string t.name, .slice A m a, .int .i64 t.off, .slice B l b, .slice C r c, .int .i64 o] 33)) #[.int .i64 k, .string s, .string t.name, .slice A m a, .int .i64 t.off, .slice B l b, .slice C r c, .int .i64 o] 1 (by simp) (by unfold maxLen; omega) rfl)
  clear ih hx hc h ha hb hL hll hxl HX
  go_enter Tryz.func124, Tryz.ntmps124
  go_wp2_with fail
  have HST := Lib.hid (show ListRow w ((w.alloc (.cells #[.int .i64 k, .string s, .string t.name, .slice A m a, .int .i64 t.off, .slice B l b, .slice C r c, .int .i64 o] 33)).alloc (.cells #[.int .i64 k, .string s, .string t.name, .slice A m a, .int .i64 t.off, .slice B l b, .slice C r c, .int .i64 o] 33)) lo (.slice (some ⟨w.heap.size + 1, 0, none⟩) 1 1) [.mk k s t ts xs o] from ⟨HB2.out, _, by
    have := HO.out
    rwa [World.size_alloc] at this, by
    rw [Ex.dats, Ex.dats, Dat.Ins]
    exact ⟨_, [], by simp, Dat.In.later HD.out HB2.out (fun b hb => Nat.lt_of_lt_of_le hb hlo), by rw [Dat.Ins]⟩⟩)
  generalize hW : (w.alloc (.cells #[.int .i64 k, .string s, .string t.name, .slice A m a, .int .i64 t.off, .slice B l b, .slice C r c, .int .i64 o] 33)).alloc (.cells #[.int .i64 k, .string s, .string t.name, .slice A m a, .int .i64 t.off, .slice B l b, .slice C r c, .int .i64 o] 33) = W at *
  have hX6 : Below W.heap.size W W := Below.refl _ _
  have HSZ := Lib.hid (show W.heap.size = w.heap.size + 2 by rw [← hW]; simp)
  clear hW HB2 HO
  go_loopw [3, 4] (fun v i V => ∃ (j : Nat), j ≤ r ∧ i = .int .i64 j ∧ ListRow w V lo v (.mk k s t ts xs o :: Ex.listL (xs.take j)) ∧ V.cell? ⟨w.heap.size, 6, none⟩ = some (.slice C r c)) (fun _ i _ => r - (intOf i).toNat)
  case atStart => exact ⟨0, Nat.zero_le _, rfl, by rw [List.take_zero, Ex.listL]; exact HST.out, HX2.out.one 6 _ rfl⟩
  case round =>
    obtain ⟨j, hj, rfl, ⟨hbel, cs, hown, hins⟩, x6⟩ := hrel
    have HBL := Lib.hid hbel
    have HIN := Lib.hid hins
    have hsz := hbel.size
    by_cases hlt : j < r
    · have y3 : (0 : Int) ≤ j := by omega
      have y4 : (j : Int) < r := by omega
      obtain ⟨p, z, zs, rfl, hz, hzp, _, hzd, hzc⟩ := kid_at (Row.later HC.out hbel (fun b hb => Nat.lt_of_lt_of_le hb hlo)) hlt
      have hmem := List.mem_of_getElem? hz
      have hzl := listL_mem_len hmem
      have HLS := Lib.hid (Ex.listL_step hz)
      have HLE := Lib.hid (show (Ex.listL (xs.take j)).length + z.list.length ≤ (Ex.listL xs).length by
        have h1 := Ex.listL_take xs (j + 1)
        rw [Ex.listL_step hz, List.length_append] at h1
        exact h1)
      have HZP := Lib.hid (show 1 ≤ z.list.length by rw [one_list z, List.length_cons]; omega)
      have C1 := Lib.hid (IH.out z hmem zs wr lo (Nat.le_trans hlo hsz) (by omega) hzd)
      obtain ⟨A8, m8, a8, B8, l8, b8, C8, n8, c8, rfl, _⟩ := ex_open hzd
      obtain ⟨w0, w1c, w2c, w3c, w4c, w5c, w6c, w7c⟩ := cells8_at hzc
      clear hz hzp hzd hzc hmem hzl hins hbel
      generalize z.list = fs at *
      go_wp2_with fail
      refine C1.out.mono ?_
      rintro e w1 ⟨g2, c2, ds, rfl, hg2, hds, hdi, hb2⟩
      have HO1 := Lib.hid (own_below hown hb2)
      have HB2 := Lib.hid hb2
      have HDI := Lib.hid hdi
      have HDS := Lib.hid hds
      have hs2 := hb2.size
      have hob := own_base hown
      have x6b := (hb2.cell (p := ⟨w.heap.size, 6, none⟩) (cell_lt x6)).trans x6
      have HOB := Lib.hid hob
      have hl0 : w.heap.size < wr.heap.size := cell_lt x6
      clear hb2 hdi hds hg2 hob
      go_wp2_with (at_builtin; refine wpList_append_lies _ rfl _ _ 31 rfl (w.heap.size + 1) 33 i0 _ 8 128 Tryz.underlying31 hi0 hz0 hz1 hz2 rfl (by omega) _ (Ex.mk k s t ts xs o :: Ex.listL (xs.take j)).length cs rfl HO1.out ⟨g2, 0, none⟩ fs.length c2 ds rfl (exs_len HDI.out) (fun i u hu => by rw [add_zero_addr]; exact HDS.out i u hu) (exs_cells HDI.out) (by have := HZP.out; omega) (by have := HLE.out; unfold maxLen; simp only [List.length_cons]; omega) (by have := HLE.out; simp only [List.length_cons]; omega) (by omega) w1.heap.size rfl ?_; intro gg cap w2 hown2 hgrow2 hat2 hlt2; have HR2 := Lib.hid (And.intro (ListRow.step hlo HBL.out hown HIN.out HB2.out HDI.out hown2 hgrow2) ((hgrow2.cell_far ⟨w.heap.size, 6, none⟩ (by show w.heap.size < _; omega) (fun h => absurd (HOB.out _ h.symm) (Nat.not_succ_le_self _))).trans x6b)); clear hown2 hgrow2 hat2 hlt2)
      go_roundw
      case rel => exact ⟨j + 1, by omega, by go_num, by rw [HLS.out]; exact HR2.out.1, HR2.out.2⟩
      case measure => simp [intOf]; omega
    · have y4 : (r : Int) ≤ j := by omega
      obtain rfl : j = r := by omega
      rw [List.take_of_length_le (by rw [HXL.out]; omega)] at hown hins
      obtain ⟨g, cap, rfl⟩ := exs_own hown
      have HG := Lib.hid (own_base hown g rfl)
      have HCA := Lib.hid (fun i hi => hown.cellAt i hi)
      have HLN := Lib.hid (exs_len hins)
      go_wp2_with fail
      go_ret
      refine ⟨g, cap, cs, rfl, by have := HG.out; omega, fun i u hu => ?_, hins, HBL.out⟩
      rw [HCA.out i (by have h1 := (List.getElem?_eq_some_iff.1 hu).1; have h2 := HLN.out; rw [List.length_cons] at h2; omega)]
      exact hu
end Go.Proofs.YtaeljknfbanbfaaGreatDoor
