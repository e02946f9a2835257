/- The walk of types.gather: it appends the names of a type to a slice that the call owns. The condition: few names. -/
import Derived.Test.YtioamnaknjhbpaaDoorTwA
namespace Go.Proofs.YtioamnaknjhbpaaDoor
open Go.RowKit

/-- What gather gives: the slice that came, with the names behind it; blocks from base on may have turned. -/
def GatherPost (w : World) (base : Nat) (l : List ByteArray) (e : Ending) (w' : World) : Prop :=
  ∃ v, e = .returned v ∧ w'.ownsRow base 9 1 v l.length (l.map boxS) ∧ Below base w w'

theorem own_alloc {w : World} {base n size : Nat} {e : TypeId} {v : Value} {xs : List Value} (h : w.ownsRow base e size v n xs) (o : Obj) : (w.alloc o).ownsRow base e size v n xs :=
  own_below h ((Below.refl _ _).alloc (Nat.le_refl _) o)

set_option maxRecDepth 100000 in
set_option maxHeartbeats 4000000 in
theorem gather_any : ∀ (t : Ty) (A : Option Addr) (m c base : Nat) (v : Value) (ps : List ByteArray) (w : World), ps.length + t.list.length ≤ 1000000 → base ≤ w.heap.size → w.ownsRow base 9 1 v ps.length (ps.map boxS) → Lies w (· < base) A m t.args →
    Calls Tryd.prog 45 #[v, .agg #[.string t.name, .slice A m c, .int .i64 t.off]] w (GatherPost w base (ps ++ t.list)) := by
  refine Ty.ind fun s xs o ih A m c base v ps w hs hbs hown h => ?_
  simp only [Ty.name, Ty.args, Ty.off] at h ⊢
  have hm : (m : Int) ≤ 9223372036854775807 := by have := h.le; omega
  have hxl := h.len
  have hb : Below w.heap.size w (w.alloc (.cells #[.string s, .slice A m c, .int .i64 o] 24)) := (Below.refl _ _).alloc (Nat.le_refl _) _
  have HX := Box.new w s A m c o 24
  have hbb : Below w.heap.size w ((w.alloc (.cells #[.string s, .slice A m c, .int .i64 o] 24)).alloc (.cells #[.string s] 9)) := hb.alloc (by simp) _
  have hxb := HX.later (w' := (w.alloc (.cells #[.string s, .slice A m c, .int .i64 o] 24)).alloc (.cells #[.string s] 9)) ((Below.refl _ _).alloc (Nat.le_refl _) _)
  have IH := Lib.hid ih
  have HL := Lib.hid h
  have HO := Lib.hid (own_alloc (own_alloc hown (.cells #[.string s, .slice A m c, .int .i64 o] 24)) (.cells #[.string s] 9))
  have HV := Lib.hid (fun k hk => (hown.lt k hk).2)
  have HD := Lib.hid (show Ty.list (.mk s xs o) = s :: Ty.listL xs by rw [Ty.list])
  rw [HD.out] at hs
  simp only [List.length_cons] at hs
  have HT := Lib.hid hs
  have HBS := Lib.hid hbs
  have HXB := Lib.hid hxb
  have HBB := Lib.hid (hbb.mono hbs)
  obtain ⟨i0, hi0, hz0, hz1, hz2⟩ := info_parts infoStr
  obtain ⟨x0, x1, x2⟩ := HX
  have HN := Lib.hid (show ((w.alloc (.cells #[.string s, .slice A m c, .int .i64 o] 24)).alloc (.cells #[.string s] 9)).cell? ⟨w.heap.size + 1, 0, none⟩ = some (.string s) by
    rw [World.cell?_alloc_at _ _ _ _ (by simp)]; rfl)
  clear ih h hb hbb hxb hs hown hbs
  go_enter Tryd.func45, Tryd.ntmps45
  go_wp2_with (at_builtin; refine wpList_append_own _ rfl _ _ 31 rfl base 9 i0 _ 1 16 Tryd.underlying31 hi0 hz0 hz1 hz2 rfl (by omega) _ ps.length _ rfl HO.out ⟨w.heap.size + 1, 0, none⟩ 1 1 [.string s] rfl rfl (by intro j u hj; match j, hj with | 0, hj => (obtain rfl : Value.string s = u := by simpa using hj); exact HN.out) (by intro x hx; simp only [List.mem_singleton] at hx; subst hx; rfl) (by unfold maxLen; have := HT.out; omega) (by have := HT.out; omega) (by have := HBS.out; simp; omega) ?_)
  intro v1 w1 hown1 hgrow1 _
  have hk1 : ∀ i, w1.cell? ⟨w.heap.size, i, none⟩ = ((w.alloc (.cells #[.string s, .slice A m c, .int .i64 o] 24)).alloc (.cells #[.string s] 9)).cell? ⟨w.heap.size, i, none⟩ := fun i => by
    refine hgrow1.cell_far ⟨w.heap.size, i, none⟩ (by simp; omega) (fun e => ?_)
    have h2 : w.heap.size < w.heap.size := HV.out _ e.symm
    omega
  obtain ⟨y0, y1, y2⟩ := HXB.out
  rw [← hk1] at y0 y1 y2
  have HB1 := Lib.hid (Below.grown HBB.out hgrow1 (by have := HBS.out; simp; omega) (own_base HO.out))
  have HO1 := Lib.hid (show w1.ownsRow base 9 1 v1 (ps ++ s :: Ty.listL (xs.take 0)).length ((ps ++ s :: Ty.listL (xs.take 0)).map boxS) by
    have e : (ps ++ s :: Ty.listL (xs.take 0)) = ps ++ [s] := by simp [Ty.listL]
    rw [e, List.length_append, List.map_append]
    exact hown1)
  have HS1 := Lib.hid (show base ≤ w1.heap.size by have h1 := HB1.out.size; have := HBS.out; omega)
  clear hown1 hgrow1 hk1 x0 x1 x2 HO HV HN HXB HBB
  go_wp2_with fail
  go_loopw [0, 15] (fun v i wr => ∃ k : Nat, k ≤ m ∧ i = .int .i64 k ∧ wr.ownsRow base 9 1 v (ps ++ s :: Ty.listL (xs.take k)).length ((ps ++ s :: Ty.listL (xs.take k)).map boxS) ∧ Below base w wr) (fun _ i _ => m - (intOf i).toNat)
  case atStart => exact ⟨0, by omega, rfl, HO1.out, HB1.out⟩
  case round =>
    obtain ⟨k, hk, rfl, hown, hbel⟩ := hrel
    have z0 : (0 : Int) ≤ k := by omega
    have hsz : base ≤ wr.heap.size := Nat.le_trans HBS.out hbel.size
    have HBL := Lib.hid hbel
    by_cases hlt : k < m
    · have z1 : (k : Int) < m := by omega
      obtain ⟨a, u, ys, p, B, n, d, rfl, hx, _, a0, a1, a2, hu, hl⟩ := Lies.get (LiesN.later HL.out hbel (fun _ h => h)) hlt
      have hst := listL_step hx
      have hle := listL_take xs (k + 1)
      rw [hst, List.length_append] at hle
      have hka : Below wr.heap.size wr (wr.alloc (.cells #[.string u, .slice B n d, .int .i64 p] 24)) := (Below.refl _ _).alloc (Nat.le_refl _) _
      have C := Lib.hid (IH.out _ (List.mem_of_getElem? hx) B n d base _ (ps ++ s :: Ty.listL (xs.take k)) (wr.alloc (.cells #[.string u, .slice B n d, .int .i64 p] 24))
        (by have := HT.out; simp only [List.length_append, List.length_cons]; omega) (by simp; omega) (own_alloc hown _) (LiesN.later hl (hka.mono hsz) (fun _ h => h)))
      simp only [Ty.name, Ty.off] at C
      obtain ⟨x0, x1, x2⟩ := Box.new wr u B n d p 24
      have HST := Lib.hid hst
      have HK := Lib.hid (hbel.trans (hka.mono hsz))
      clear hx hl hst hle hka hown hbel hsz y0 y1 y2
      go_wp2_with fail
      refine C.out.mono ?_
      rintro e w3 ⟨v3, rfl, ho3, hb3⟩
      have HO3 := Lib.hid ho3
      have HB3 := Lib.hid (HK.out.trans hb3)
      clear ho3 hb3 x0 x1 x2 a0 a1 a2 C
      go_wp2_with fail
      go_roundw
      case rel => exact ⟨k + 1, by omega, by go_num, by rw [HST.out]; simpa only [List.append_assoc, List.cons_append] using HO3.out, HB3.out⟩
      case measure => simp [intOf]; omega
    · have z1 : (m : Int) ≤ k := by omega
      have hjk : xs.take k = xs := List.take_of_length_le (by omega)
      rw [hjk, ← HD.out] at hown
      have HOO := Lib.hid hown
      clear hown hbel hsz y0 y1 y2
      go_wp2_with fail
      go_ret
      exact ⟨_, rfl, HOO.out, HBL.out⟩
end Go.Proofs.YtioamnaknjhbpaaDoor
