/- The walk of the law TypesIdentity over the contracts of package types: true, at every input. -/
import Derived.Test.YtioamnaknjhbpaaDoorTyO
namespace Go.Proofs.YtioamnaknjhbpaaDoor
open Go.RowKit

theorem Lies.drew {w : World} {S : Nat → Prop} {A : Option Addr} {n : Nat} {xs : List Ty} (h : Lies w S A n xs) : Lies w.drew S A n xs := h.keep (fun _ _ => ⟨rfl, rfl⟩) (fun _ h => h)
theorem TyPost.at {wr V : World} {t : Ty} {e : Ending} {w' : World} (hV : Below wr.heap.size wr V) (h : TyPost V t e w') : TyPost wr t e w' := TyPost.from hV h
theorem small_name {s : ByteArray} {o : Int} (h : s.size ≤ 100000) : (Ty.mk s [] o).Small where
  list := by simp [Ty.list, Ty.listL]
  names u hu := by
    simp only [Ty.list, Ty.listL, List.mem_singleton] at hu
    rw [hu]; exact h
  text := by simp only [Ty.text]; rw [← Lib.size_eq]; omega
  depth := by simp [Ty.depth, Ty.depthL]

set_option maxRecDepth 100000 in
set_option maxHeartbeats 8000000 in
theorem typesIdentity_any (L : TypesOk) (t : Ty) (At : Option Addr) (mt ct : Nat) (w : World) (nt : t.name.size ≤ 9223372036854775807) (ht : Here w At mt t.args) (hE : ResVar w) :
    Calls Tryd.prog 8 #[.agg #[.string t.name, .slice At mt ct, .int .i64 t.off]] w fun e w' => e = .returned (.bool true) ∧ Below w.heap.size w w' := by
  have hx := one_box w t At mt ct 24 hE ht
  have B0 := Lib.hid hx.1
  have Ot0 := Lib.hid hx.2
  obtain ⟨ft, hft⟩ : ∃ x, t.few = x := ⟨_, rfl⟩
  have Ft := Lib.hid hft
  clear hx hE ht hft
  go_enter Tryd.func8, Tryd.ntmps8
  go_wp2_with fail
  generalize hW : w.alloc (.cells #[.string t.name, .slice At mt ct, .int .i64 t.off] 24) = W at *
  clear hW
  obtain ⟨t0, t1, t2⟩ := Ot0.out.box
  refine (awake_any L _ B0.out.env).mono ?_
  rintro e w1 ⟨rfl, hb⟩
  clear t0 t1 t2
  have B1 := Lib.hid (B0.out.later hb)
  have Ot1 := Lib.hid (Ot0.out.later hb)
  clear hb B0 Ot0
  obtain ⟨t0, t1, t2⟩ := Ot1.out.box
  go_wp2_with fail
  refine (few_any t At mt ct _ nt Ot1.out.here).mono ?_
  rintro e w2 ⟨rfl, hb⟩
  rw [Ft.out]
  clear t0 t1 t2
  have B2 := Lib.hid (B1.out.later hb)
  have Ot2 := Lib.hid (Ot1.out.later hb)
  clear hb B1 Ot1
  cases ft
  · skip
    obtain ⟨t0, t1, t2⟩ := Ot2.out.box
    go_wp2_with fail
    refine (awake_any L _ B2.out.env).mono ?_
    rintro e w3 ⟨rfl, hb⟩
    clear t0 t1 t2
    have B3 := Lib.hid (B2.out.later hb)
    have Ot3 := Lib.hid (Ot2.out.later hb)
    clear hb B2 Ot2
    obtain ⟨t0, t1, t2⟩ := Ot3.out.box
    go_wp2_with fail
    go_ret
    exact ⟨rfl, B3.out.below⟩
  have St := Lib.hid (few_small Ft.out)
  have HSELF := Lib.hid (Ty.subst_self t.list t (fun _ h => h))
  have HSM := Lib.hid (fun u (hu : u ∈ t.list.map fun n => Ty.mk n [] 77) => (by obtain ⟨s, hs, rfl⟩ := List.mem_map.1 hu; exact small_name (St.out.names s hs) : u.Small))
  obtain ⟨t0, t1, t2⟩ := Ot2.out.box
  go_wp2_with fail
  refine (ref_list_any t At mt ct _ (Nat.le_trans St.out.list (by omega)) Ot2.out.here).mono ?_
  rintro e W1 ⟨gb, gc, rfl, hown, hb⟩
  clear t0 t1 t2
  have B3 := Lib.hid (B2.out.later hb)
  have Ot3 := Lib.hid (Ot2.out.later hb)
  clear hb B2 Ot2
  obtain ⟨A', c', he, hsl⟩ := sl_of_own (ps := t.list) rfl hown
  obtain ⟨rfl, rfl⟩ : A' = some ⟨gb, 0, none⟩ ∧ c' = gc := by injection he with e1 e2 e3; exact ⟨e1.symm, e3.symm⟩
  have HCP := Lib.hid (show Fits t.list t.list.length c' from ⟨own_cap hown, fun s hs => Nat.le_trans (St.out.names s hs) (by omega)⟩)
  have HSL := Lib.hid hsl
  have HLL := Lib.hid St.out.list
  have hln : (t.list.length : Int) ≤ 1000 := by have := St.out.list; omega
  have HNB := Lib.hid (fun s (hs : s ∈ t.list) => Nat.le_trans (St.out.names s hs) (by omega : 100000 ≤ 9223372036854775807))
  clear hown he hsl
  obtain ⟨i0, hi0, hz0, hz1, hz2⟩ := info_parts infoTy
  go_wp2_with fail
  go_loopw [4, 5] (fun v i wr => ∃ k : Nat, k ≤ t.list.length ∧ i = .int .i64 k ∧ RowRel wr W1.heap.size v k ((t.list.take k).map fun n => Ty.mk n [] 77) ∧ Below W1.heap.size W1 wr) (fun _ i _ => t.list.length - (intOf i).toNat)
  case atStart => exact ⟨0, by omega, rfl, by rw [List.take_zero]; exact RowRel.nil _ _, Below.refl _ _⟩
  case round =>
    obtain ⟨k, hk, rfl, hrow, hbel⟩ := hrel
    have HBL := Lib.hid hbel
    have hsz := hbel.size
    by_cases hlt : k < t.list.length
    · have y0 : (k : Int) < t.list.length := by omega
      have y1 : (0 : Int) ≤ k := by omega
      obtain ⟨a, s, hae, hs, c0⟩ := (HSL.out.later hbel).get hlt
      obtain rfl := Option.some.inj hae
      rw [show (⟨gb, 0, none⟩ : Addr).add k = ⟨gb, k, none⟩ by unfold Addr.add; split <;> simp_all] at c0
      obtain ⟨cs, S, hown, hrows, hS⟩ := hrow
      have HRO := Lib.hid hrows
      have HSS := Lib.hid hS
      have HOB := Lib.hid (own_base hown)
      have HST := Lib.hid (show t.list.take (k + 1) = t.list.take k ++ [s] by rw [List.take_add_one, hs]; rfl)
      have hsz2 := HNB.out s (List.mem_of_getElem? hs)
      clear hrows hS hs hbel hae
      go_wp2_with (at_builtin; refine wpList_append_lies _ rfl _ _ 22 rfl W1.heap.size 24 i0 _ 3 48 Tryd.underlying22 hi0 hz0 hz1 hz2 rfl (by omega) _ k cs rfl (hown.alloc _) ⟨wr.heap.size, 0, none⟩ 1 1 [.string s, .slice none 0 0, .int .i64 77] rfl rfl (World.news_of_block (cs := #[.string s, .slice none 0 0, .int .i64 77]) (t := 24) (fr := (0, 0)) (heap_alloc_new wr _)) (by simp [Value.oneCell']) (by omega) (by unfold maxLen; omega) (by omega) (by simp; omega) (wr.heap.size + 1) (by simp) ?_; intro gg cap w2 hown2 hgrow2 hat2 hlt2; have HR2 := Lib.hid (And.intro (row_step (t := .mk s [] 77) (cc1 := 0) hsz hown HRO.out HSS.out (Below.refl _ _) hsz2 (Lies.nil _ _ none) hown2 hgrow2 hat2) (Below.grown (HBL.out.alloc hsz _) hgrow2 (by simp; omega) HOB.out)); clear hown2 hgrow2 hat2 hlt2)
      go_roundw
      case rel => exact ⟨k + 1, by omega, by go_num, by rw [HST.out, List.map_append]; exact HR2.out.1, HR2.out.2⟩
      case measure => simp [intOf]; omega
    · have y0 : (t.list.length : Int) ≤ k := by omega
      have hkm : k = t.list.length := by omega
      rw [hkm, List.take_of_length_le (Nat.le_refl _)] at hrow
      obtain ⟨A1, c1, rfl, hl1⟩ := hrow.lies (by omega)
      have HU := Lib.hid hl1.here
      have HN := Lib.hid (HSL.out.later hbel)
      have hone := Ot3.out.later hbel
      have HO := Lib.hid hone.here
      have HBB := Lib.hid (B3.out.below.trans (hbel.mono B3.out.below.size))
      obtain ⟨x0, x1, x2⟩ := hone.box
      have l0 := cell_lt x0
      have CS := Lib.hid (fun (V : World) (hV : Below wr.heap.size wr V) => (L.subst t.list (t.list.map fun n => Ty.mk n [] 77) _ A1 t.list.length t.list.length c' c1 t At mt ct V HSM.out St.out HLL.out HLL.out HCP.out (Here.later HO.out hV) (HN.out.later hV) (Here.later HU.out hV)).mono fun e w' h => TyPost.from hV h)
      have CE := Lib.hid (fun (A2 : Option Addr) (m2 c2 : Nat) (hns : (Ty.subst t.list (t.list.map fun n => Ty.mk n [] 77) t).name.size ≤ 9223372036854775807) (V : World) (hV : Below wr.heap.size wr V) (h2 : Here V A2 m2 (Ty.subst t.list (t.list.map fun n => Ty.mk n [] 77) t).args) => (ref_equal_any _ t A2 At m2 mt c2 ct V hns nt h2 (Here.later HO.out hV)).mono fun e w' h => EqvPost.from hV h)
      rw [HSELF.out] at CE
      generalize Ty.subst t.list (t.list.map fun n => Ty.mk n [] 77) t = q at *
      have SS : Below wr.heap.size wr wr ∧ wr.cell? ⟨w.heap.size, 0, none⟩ = some (.string t.name) ∧ wr.cell? ⟨w.heap.size, 1, none⟩ = some (.slice At mt ct) ∧ wr.cell? ⟨w.heap.size, 2, none⟩ = some (.int .i64 t.off) := ⟨Below.refl _ _, x0, x1, x2⟩
      clear hrow hbel hkm hl1 hone
      go_wp2_with fail
      go_region_held3 (fun V => Below wr.heap.size wr V ∧ V.cell? ⟨w.heap.size, 0, none⟩ = some (.string t.name) ∧ V.cell? ⟨w.heap.size, 1, none⟩ = some (.slice At mt ct) ∧ V.cell? ⟨w.heap.size, 2, none⟩ = some (.int .i64 t.off))
        (first | exact SS | exact ⟨SS.1.drew, SS.2⟩)
        (first
          | (go_at_call 23; refine (CS.out _ ?_).mono ?_; (first | exact SS.1 | exact SS.1.drew); rintro e v1 ⟨A2, m2, c2, rfl, hns, hl2, hb⟩; have HL2 := Lib.hid hl2.here; have SS : Below wr.heap.size wr v1 ∧ v1.cell? ⟨w.heap.size, 0, none⟩ = some (.string t.name) ∧ v1.cell? ⟨w.heap.size, 1, none⟩ = some (.slice At mt ct) ∧ v1.cell? ⟨w.heap.size, 2, none⟩ = some (.int .i64 t.off) := ⟨hb, (hb.cell l0).trans x0, (hb.cell (p := ⟨w.heap.size, 1, none⟩) l0).trans x1, (hb.cell (p := ⟨w.heap.size, 2, none⟩) l0).trans x2⟩; clear hl2 hb)
          | (go_at_call 26; refine (CE.out A2 m2 c2 hns _ ?_ ?_).mono ?_; (first | exact SS.1 | exact SS.1.drew); (first | exact HL2.out | exact HL2.out.drew); rintro e v2 ⟨rfl, hb⟩; have SS : Below wr.heap.size wr v2 ∧ v2.cell? ⟨w.heap.size, 0, none⟩ = some (.string t.name) ∧ v2.cell? ⟨w.heap.size, 1, none⟩ = some (.slice At mt ct) ∧ v2.cell? ⟨w.heap.size, 2, none⟩ = some (.int .i64 t.off) := ⟨hb, (hb.cell l0).trans x0, (hb.cell (p := ⟨w.heap.size, 1, none⟩) l0).trans x1, (hb.cell (p := ⟨w.heap.size, 2, none⟩) l0).trans x2⟩; clear hb))
      go_wp2
      go_ret
      exact ⟨rfl, HBB.out.trans (Below.mono SS.1 HBB.out.size)⟩
end Go.Proofs.YtioamnaknjhbpaaDoor
