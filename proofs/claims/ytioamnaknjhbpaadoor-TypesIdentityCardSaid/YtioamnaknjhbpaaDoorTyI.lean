/- The walk of the reference's All. -/
import Derived.Test.YtioamnaknjhbpaaDoorTyH
namespace Go.Proofs.YtioamnaknjhbpaaDoor
open Go.RowKit

theorem ref_subst_any (ns : List ByteArray) (us : List Ty) (N U : Option Addr) (nl ul nc uc : Nat) (t : Ty) (A : Option Addr) (m c : Nat) (w : World)
    (hus : ∀ u ∈ us, u.list.length ≤ 1000000) (hs : t.name.size ≤ 9223372036854775807) (hl : t.list.length ≤ 1000000) (hnl : nl ≤ 1000000) (h : Here w A m t.args) (hN : Sl w N nl ns) (hU : Here w U ul us) :
    Calls Tryd.prog 27 #[.agg #[.string t.name, .slice A m c, .int .i64 t.off], .slice N nl nc, .slice U ul uc] w (TyPost w (t.subst ns us)) :=
  (sub_gen ns us N U nl ul nc uc (fun u hu A m c V hs h => clone_neat u A m c V hs (hus u hu) h) t A m c w hs hl hnl h hN hU).mono fun _ _ h => h.post

/-- Types that the call has made. -/
def AllPost (w : World) (ts : List Ty) (e : Ending) (w' : World) : Prop :=
  ∃ A c, e = .returned (.slice A ts.length c) ∧ Lies w' (Fresh w w') A ts.length ts ∧ Below w.heap.size w w'

set_option maxRecDepth 100000 in
set_option maxHeartbeats 4000000 in
theorem ref_all_any (xs : List Ty) (ns : List ByteArray) (us : List Ty) (A N U : Option Addr) (m c nl ul nc uc : Nat) (w : World)
    (hus : ∀ u ∈ us, u.list.length ≤ 1000000) (hxs : ∀ x ∈ xs, x.list.length ≤ 1000000) (hm : m ≤ 1000000) (hnl : nl ≤ 1000000) (h : Here w A m xs) (hN : Sl w N nl ns) (hU : Here w U ul us) :
    Calls Tryd.prog 25 #[.slice A m c, .slice N nl nc, .slice U ul uc] w (AllPost w (xs.map (Ty.subst ns us))) := by
  have H := Lib.hid h
  have HN := Lib.hid hN
  have HU := Lib.hid hU
  have HXL := Lib.hid h.len
  obtain ⟨i0, hi0, hz0, hz1, hz2⟩ := info_parts infoTy
  clear h hN hU
  go_enter Tryd.func25, Tryd.ntmps25
  go_wp2_with fail
  go_loopw [7, 8] (fun v i wr => ∃ k : Nat, k ≤ m ∧ i = .int .i64 k ∧ RowRel wr w.heap.size v k (Ty.substL ns us (xs.take k)) ∧ Below w.heap.size w wr) (fun _ i _ => m - (intOf i).toNat)
  case atStart => exact ⟨0, by omega, rfl, by rw [List.take_zero]; simp only [Ty.substL]; exact RowRel.nil _ _, Below.refl _ _⟩
  case round =>
    obtain ⟨k, hk, rfl, hrow, hbel⟩ := hrel
    have HBL := Lib.hid hbel
    have hsz := hbel.size
    by_cases hlt : k < m
    · have y0 : (k : Int) < m := by omega
      obtain ⟨a, r, ys, p, B, l, d, rfl, hx, _, c0, c1, c2, hr, hl⟩ := Lies.get (Here.later H.out hbel) hlt
      obtain ⟨cs, S, hown, hrows, hS⟩ := hrow
      have C := Lib.hid (ref_subst_any ns us N U nl ul nc uc (.mk r ys p) B l d wr hus hr (hxs _ (List.mem_of_getElem? hx)) hnl hl (HN.out.later hbel) (Here.later HU.out hbel))
      simp only [Ty.name, Ty.off] at C
      have HST := Lib.hid (substL_step (ns := ns) (us := us) hx)
      have HRO := Lib.hid hrows
      have HSS := Lib.hid hS
      have HOB := Lib.hid (own_base hown)
      clear hx hl hbel hrows hS
      generalize hT : Ty.subst ns us (.mk r ys p) = t at *
      clear hT
      go_wp2_with fail
      refine C.out.mono ?_
      rintro e w1 ⟨A1, m1, cc1, rfl, hns, hl1, hb2⟩
      have HO1 := Lib.hid (own_below hown hb2)
      have hsz1 := hb2.size
      have HL1 := Lib.hid hl1
      have HB2 := Lib.hid hb2
      clear hl1 hb2
      go_wp2_with (at_builtin; refine wpList_append_lies _ rfl _ _ 22 rfl w.heap.size 24 i0 _ 3 48 Tryd.underlying22 hi0 hz0 hz1 hz2 rfl (by omega) _ k cs rfl (HO1.out.alloc _) ⟨w1.heap.size, 0, none⟩ 1 1 [.string t.name, .slice A1 m1 cc1, .int .i64 t.off] rfl rfl (World.news_of_block (cs := #[.string t.name, .slice A1 m1 cc1, .int .i64 t.off]) (t := 24) (fr := (0, 0)) (heap_alloc_new w1 _)) (by simp [Value.oneCell']) (by omega) (by unfold maxLen; omega) (by omega) (by simp; omega) (w1.heap.size + 1) (by simp) ?_; intro gg cap w2 hown2 hgrow2 hat2 hlt2; have HR2 := Lib.hid (And.intro (row_step hsz hown HRO.out HSS.out HB2.out hns HL1.out hown2 hgrow2 hat2) (Below.grown ((HBL.out.trans (HB2.out.mono hsz)).alloc (Nat.le_trans hsz hsz1) _) hgrow2 (by simp; omega) HOB.out)); clear hown2 hgrow2 hat2 hlt2)
      go_roundw
      case rel => exact ⟨k + 1, by omega, by go_num, by rw [HST.out]; exact HR2.out.1, HR2.out.2⟩
      case measure => simp [intOf]; omega
    · have y0 : (m : Int) ≤ k := by omega
      have hkm : k = m := by omega
      rw [hkm, List.take_of_length_le (by rw [HXL.out]; omega), Ty.substL_map] at hrow
      obtain ⟨A1, c1, rfl, hl1⟩ := hrow.lies (by omega)
      have hlen : (xs.map (Ty.subst ns us)).length = m := by rw [List.length_map, HXL.out]
      have HL1 := Lib.hid hl1
      have HLE := Lib.hid hlen
      clear hl1 hlen hrow hbel hkm
      go_wp2_with fail
      go_ret
      exact ⟨A1, c1, by rw [HLE.out]; rfl, by rw [HLE.out]; exact HL1.out, HBL.out⟩
end Go.Proofs.YtioamnaknjhbpaaDoor
