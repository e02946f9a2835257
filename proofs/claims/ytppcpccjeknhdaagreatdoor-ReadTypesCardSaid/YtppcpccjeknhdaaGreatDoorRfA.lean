/- The walks of the small functions of layer 7's reference: Is, Name, Finish. The condition: the place stands in tokens of a text. -/
import Derived.Test.YtppcpccjeknhdaaGreatDoorRdV
namespace Go.Proofs.YtppcpccjeknhdaaGreatDoor.Rd
open Go.RowKit

/-- A place in tokens. -/
structure Pl (w : World) (A : Option Addr) (n : Nat) (L : List Tk) (p : Nat) (l : List Tk) : Prop where
  ts : TS w A n L
  l_eq : L.drop p = l
  tidy : Tidy l
  len : n ≤ 100000
  small : ∀ t ∈ L, t.s.size ≤ 100000
theorem Pl.later {w w' : World} {A : Option Addr} {n p : Nat} {L l : List Tk} (h : Pl w A n L p l) (hb : Below w.heap.size w w') : Pl w' A n L p l := ⟨h.ts.later hb, h.l_eq, h.tidy, h.len, h.small⟩
theorem Pl.lt {w : World} {A : Option Addr} {n p : Nat} {L l : List Tk} (h : Pl w A n L p l) : p < n := by
  have h1 := h.tidy.ne
  rw [← h.l_eq] at h1
  have h2 := h.ts.len
  rcases Nat.lt_or_ge p L.length with h3 | h3
  · omega
  · exact absurd (List.drop_eq_nil_of_le h3) h1
/-- The next token's cells. -/
theorem Pl.at {w : World} {A : Option Addr} {n p : Nat} {L l : List Tk} (h : Pl w A n L p l) : ∃ a t r, A = some a ∧ l = t :: r ∧ w.cell? (a.add (p * 3)) = some (.int .i64 t.k) ∧ w.cell? ⟨(a.add (p * 3)).block, (a.add (p * 3)).off + 1, none⟩ = some (.string t.s) ∧ w.cell? ⟨(a.add (p * 3)).block, (a.add (p * 3)).off + 2, none⟩ = some (.int .i64 t.o) := by
  obtain ⟨a, t, e, h1, h2⟩ := h.ts.get h.lt
  refine ⟨a, t, L.drop (p + 1), e, ?_, h2⟩
  rw [← h.l_eq]
  obtain ⟨hl, e2⟩ := List.getElem?_eq_some_iff.1 h1
  rw [List.drop_eq_getElem_cons hl, e2]
theorem Pl.step {w : World} {A : Option Addr} {n p : Nat} {L r : List Tk} {t : Tk} (h : Pl w A n L p (t :: r)) (hk : t.k ≠ 3) : Pl w A n L (p + 1) r := by
  refine ⟨h.ts, ?_, h.tidy.tail hk, h.len, h.small⟩
  rw [← List.drop_drop, h.l_eq]
  rfl
set_option maxRecDepth 100000 in
set_option maxHeartbeats 2000000 in
theorem ris_any (A : Option Addr) (n cap p : Nat) (L l : List Tk) (b : Bool) (s : ByteArray) (w : World) (h : Pl w A n L p l) :
    Calls Tryz.prog 78 #[.agg #[.slice A n cap, .int .i64 p, .bool b], .string s] w (BoolPost (nextB b s.data.toList l) w) := by
  cases b
  · have hb : Below w.heap.size w (w.alloc (.cells #[.slice A n cap, .int .i64 p, .bool false] 101)) := (Below.refl _ _).alloc (Nat.le_refl _) _
    obtain ⟨a, t, r, rfl, rfl, k0, k1, -⟩ := (h.later hb).at
    have y0 : (0 : Int) ≤ p := by omega
    have y1 : (p : Int) < n := by have := h.lt; omega
    obtain ⟨q, hq⟩ : ∃ q : Bool, (t.s.data.toList == s.data.toList) = q := ⟨_, rfl⟩
    have e0 : (t.s.toList == s.toList) = q := by rw [← hq, Lib.toList_data, Lib.toList_data]
    have E := Lib.hid (show nextB false s.data.toList (t :: r) = (!(t.k == 3) && q) by rw [← hq]; rfl)
    have HB := Lib.hid hb
    clear hq h hb
    cases hk : (t.k == 3)
    · have hk2 : (t.k != 3) = true := by rw [bne, hk]; rfl
      go_enter Tryz.func78, Tryz.ntmps78
      go_wp2_with fail
      go_ret
      exact ⟨by rw [E.out, hk]; cases q <;> rfl, HB.out⟩
    · have hk2 : (t.k != 3) = false := by rw [bne, hk]; rfl
      go_enter Tryz.func78, Tryz.ntmps78
      go_wp2_with fail
      go_ret
      exact ⟨by rw [E.out, hk]; cases q <;> rfl, HB.out⟩
  · go_enter Tryz.func78, Tryz.ntmps78
    go_wp2_with fail
    go_ret
    exact ⟨rfl, (Below.refl _ _).alloc (Nat.le_refl _) _⟩
theorem flatPl : Flat 101 3 := ⟨by kernel_rfl, _, Tryz.underlying101, rfl⟩
/-- The place behind what was read; and where reading did not stop, what was read. -/
def RAft {α : Type} (w : World) (A : Option Addr) (n : Nat) (L : List Tk) (p : Nat) (b : Bool) (v : α) : Got α → Prop
  | .ok u q => v = u ∧ b = false ∧ Pl w A n L p q
  | .bad q => b = true ∧ Pl w A n L p q
theorem RAft.later {α : Type} {w w' : World} {A : Option Addr} {n : Nat} {L : List Tk} {p : Nat} {b : Bool} {v : α} {g : Got α} (h : RAft w A n L p b v g) (hb : Below w.heap.size w w') : RAft w' A n L p b v g := by
  cases g with
  | ok u q => exact ⟨h.1, h.2.1, h.2.2.later hb⟩
  | bad q => exact ⟨h.1, h.2.later hb⟩
/-- A place as a value. -/
def plV (A : Option Addr) (n cap p : Nat) (b : Bool) : List Value := [.slice A n cap, .int .i64 p, .bool b]
theorem pl_one {A : Option Addr} {n cap : Nat} {p : Int} {b : Bool} : ∀ u ∈ ([.slice A n cap, .int .i64 p, .bool b] : List Value), u.oneCell' = true := by
  intro u hu
  simp only [List.mem_cons, List.not_mem_nil, or_false] at hu
  rcases hu with rfl | rfl | rfl <;> rfl
theorem plV_one {A : Option Addr} {n cap p : Nat} {b : Bool} : ∀ u ∈ plV A n cap p b, u.oneCell' = true := by
  intro u hu
  simp only [plV, List.mem_cons, List.not_mem_nil, or_false] at hu
  rcases hu with rfl | rfl | rfl <;> rfl
def RNamePost (A : Option Addr) (n cap : Nat) (L l : List Tk) (b : Bool) (w : World) (e : Ending) (w' : World) : Prop := ∃ (t : Tk) (p' : Nat) (b' : Bool), e = .returned (.tuple #[.agg (plV A n cap p' b').toArray, .string t.s, .int .i64 t.o]) ∧ t.s.size ≤ 100000 ∧ RAft w' A n L p' b' t (stop b l (name l)) ∧ Below w.heap.size w w' ∧ ∀ q, stop b l (name l) = .bad q → t = ⟨0, ⟨#[]⟩, 0⟩
theorem results_rname {w : World} {b : Nat} {us : List Value} {v u : Value} (tmps : Array Value) (ht : tmps[2]?.getD undef = .pointer (some ⟨b, 0, none⟩)) (hv : tmps[3]?.getD undef = v) (hu : tmps[4]?.getD undef = u) (hc : Boxd w b us) (hl : us.length = 3) : (results Tryz.f141 tmps).run Tryz.prog w = .ok (.tuple #[.agg us.toArray, v, u]) w := by
  have h := run_cell flatPl hc hl
  have h2 := run_addr ⟨b, 0, none⟩ w
  simp [results, Tryz.results141, ht, hv, hu, h, h2, Sem.run_bind, Result.andThen]
/-- A box with a place, and a block for the result. -/
theorem two_pl (w : World) (A : Option Addr) (n cap p : Nat) (b : Bool) : ∃ W, (w.alloc (.cells #[.slice A n cap, .int .i64 p, .bool b] 101)).alloc (.cells #[.slice none 0 0, .int .i64 0, .bool false] 101) = W ∧ Below w.heap.size w W ∧ W.heap.size = w.heap.size + 2 ∧ Boxd W w.heap.size (plV A n cap p b) ∧ W.there w.heap.size 0 3 ∧ W.there (w.heap.size + 1) 0 3 := by
  have hb0 : Below w.heap.size w (w.alloc (.cells #[.slice A n cap, .int .i64 p, .bool b] 101)) := (Below.refl _ _).alloc (Nat.le_refl _) _
  have hb1 : Below (w.alloc (.cells #[.slice A n cap, .int .i64 p, .bool b] 101)).heap.size (w.alloc (.cells #[.slice A n cap, .int .i64 p, .bool b] 101)) ((w.alloc (.cells #[.slice A n cap, .int .i64 p, .bool b] 101)).alloc (.cells #[.slice none 0 0, .int .i64 0, .bool false] 101)) := (Below.refl _ _).alloc (Nat.le_refl _) _
  refine ⟨_, rfl, hb0.alloc hb0.size _, by simp, (Boxd.new w #[.slice A n cap, .int .i64 p, .bool b] 101).later hb1, ?_, ?_⟩
  · exact there_gb (there_new w #[.slice A n cap, .int .i64 p, .bool b] 101) (by simp) (by omega : w.heap.size ≠ w.heap.size + 9) (gb_of _ hb1)
  · have := there_new (w.alloc (.cells #[.slice A n cap, .int .i64 p, .bool b] 101)) #[.slice none 0 0, .int .i64 0, .bool false] 101
    rwa [World.size_alloc] at this
theorem there_free {w : World} {b : Nat} (h : w.there b 0 3) (j : Nat) (hj : j < 3) : w.frozen? ⟨b, j, none⟩ = false := by
  have := (h j hj).2
  rwa [Nat.zero_add] at this
theorem sets_one (w : World) (b j : Nat) (v : Value) : w.setCell ⟨b, j, none⟩ v = w.setCells b j [v] := rfl
theorem boxd_put {w : World} {b : Nat} {v0 v1 v2 v : Value} (h : Boxd w b [v0, v1, v2]) : Boxd (w.setCell ⟨b, 2, none⟩ v) b [v0, v1, v] ∧ Boxd (w.setCell ⟨b, 1, none⟩ v) b [v0, v, v2] := by
  constructor
  · intro j u hu
    match j, hu with
    | 0, hu => exact (World.cell?_setCell_other _ _ _ _ (by simp)).trans (h 0 u hu)
    | 1, hu => exact (World.cell?_setCell_other _ _ _ _ (by simp)).trans (h 1 u hu)
    | 2, hu => obtain rfl := Option.some.inj hu; exact World.cell?_setCell_same _ _ _ (h 2 _ rfl)
    | j + 3, hu => simp at hu
  · intro j u hu
    match j, hu with
    | 0, hu => exact (World.cell?_setCell_other _ _ _ _ (by simp)).trans (h 0 u hu)
    | 1, hu => obtain rfl := Option.some.inj hu; exact World.cell?_setCell_same _ _ _ (h 1 _ rfl)
    | 2, hu => exact (World.cell?_setCell_other _ _ _ _ (by simp)).trans (h 2 u hu)
    | j + 3, hu => simp at hu
set_option maxRecDepth 100000 in
set_option maxHeartbeats 2000000 in
theorem rname_any (A : Option Addr) (n cap p : Nat) (L l : List Tk) (b : Bool) (w : World) (h : Pl w A n L p l) :
    Calls Tryz.prog 141 #[.agg #[.slice A n cap, .int .i64 p, .bool b]] w (RNamePost A n cap L l b w) := by
  obtain ⟨W, hW, hb, hz, hbx, ht1, ht2⟩ := two_pl w A n cap p b
  have HW := Lib.hid hW
  have HB := Lib.hid hb
  have HP := Lib.hid (h.later hb)
  obtain ⟨a, t, r, rfl, rfl, k0, k1, k2⟩ := (h.later hb).at
  have y0 : (0 : Int) ≤ p := by omega
  have y1 : (p : Int) < n := by have := h.lt; omega
  have y2 : (p : Int) ≤ 100000 := by have := h.lt; have := h.len; omega
  have HT := Lib.hid (show t.s.size ≤ 100000 from h.small t (List.mem_of_mem_drop (by rw [h.l_eq]; exact List.mem_cons_self)))
  have HBX := Lib.hid hbx
  have HT1 := Lib.hid ht1
  have HT2 := Lib.hid ht2
  have HN := Lib.hid (fun hn => h.tidy.name hn)
  have x0 := hbx 0 _ rfl
  have x1 := hbx 1 _ rfl
  have x2 := hbx 2 _ rfl
  have f1 := there_free ht1 1 (by omega)
  have f2 := there_free ht1 2 (by omega)
  have hlt := h.lt
  have HBX2 := Lib.hid (boxd_at0 (boxd_put (v := .bool true) hbx).1)
  have hbs : Below w.heap.size w (W.setCell ⟨w.heap.size, 2, none⟩ (.bool true)) := hb.setCell (Nat.le_refl _) _
  have HTT := Lib.hid (there_gb ht2 (by omega) (by omega : w.heap.size + 1 ≠ w.heap.size) (gb_set W w.heap.size 2 (.bool true)))
  have hend : Below w.heap.size w ((W.setCell ⟨w.heap.size, 2, none⟩ (.bool true)).setCells (w.heap.size + 1) 0 [.slice (some a) n cap, .int .i64 p, .bool true]) := hbs.trans (below_sets (by omega) _ _ _)
  have HBE := Lib.hid hend
  have HP0 := Lib.hid h
  have HPE := Lib.hid (h.later hend)
  obtain ⟨v0, z0⟩ := Option.isSome_iff_exists.1 (ht2 0 (by omega)).1
  obtain ⟨v1, z1⟩ := Option.isSome_iff_exists.1 (ht2 1 (by omega)).1
  obtain ⟨v2, z2⟩ := Option.isSome_iff_exists.1 (ht2 2 (by omega)).1
  rw [Nat.zero_add] at z0 z1 z2
  have q0 := there_free ht2 0 (by omega)
  have q1 := there_free ht2 1 (by omega)
  have q2 := there_free ht2 2 (by omega)
  clear h hW hb hbx ht1 ht2 hbs hend
  by_cases hbad : b = true ∨ nameB t = false
  · have HBAD := Lib.hid (show RAft ((W.setCell ⟨w.heap.size, 2, none⟩ (.bool true)).setCells (w.heap.size + 1) 0 [.slice (some a) n cap, .int .i64 p, .bool true]) (some a) n L p true (⟨0, ⟨#[]⟩, 0⟩ : Tk) (stop b (t :: r) (name (t :: r))) by rw [name_bad hbad]; exact ⟨rfl, HPE.out⟩)
    cases b
    · have HNB := Lib.hid (show nameB t = false by
        rcases hbad with h | h
        · cases h
        · exact h)
      clear hbad
      cases hk : (t.k == 1)
      · have hk2 : (t.k != 1) = true := by rw [bne, hk]; rfl
        go_enter Tryz.func141, Tryz.ntmps141
        go_upto_region 1 with fail
        rw [HW.out]
        go_wp2_with (first
          | fail)
        refine bodyPost_ret (results_rname _ rfl rfl rfl (show Boxd _ _ [.slice (some a) n cap, .int .i64 p, .bool true] from set_there (us := [.slice (some a) n cap, .int .i64 p, .bool true]) HTT.out) rfl) rfl ?_
        exact ⟨⟨0, ⟨#[]⟩, 0⟩, p, true, rfl, by show (0 : Nat) ≤ _; omega, HBAD.out, HBE.out, fun _ _ => rfl⟩
      · have hk2 : (t.k != 1) = false := by rw [bne, hk]; rfl
        have CI := Lib.hid (show Calls Tryz.prog 66 #[.string t.s] W (fun e w' => e = .returned (.bool false) ∧ W = w') by have := nm_ref_is_any t.s (by have := HT.out; omega) W; rwa [show Nm.isB t.s.data.toList = false from HNB.out] at this)
        go_enter Tryz.func141, Tryz.ntmps141
        go_upto_region 1 with fail
        rw [HW.out]
        go_wp2_with (first
          | ((with_reducible refine CI.out.mono ?_); rintro e w' ⟨rfl, rfl⟩)
          | fail)
        refine bodyPost_ret (results_rname _ rfl rfl rfl (show Boxd _ _ [.slice (some a) n cap, .int .i64 p, .bool true] from set_there (us := [.slice (some a) n cap, .int .i64 p, .bool true]) HTT.out) rfl) rfl ?_
        exact ⟨⟨0, ⟨#[]⟩, 0⟩, p, true, rfl, by show (0 : Nat) ≤ _; omega, HBAD.out, HBE.out, fun _ _ => rfl⟩
    · clear hbad
      go_enter Tryz.func141, Tryz.ntmps141
      go_upto_region 1 with fail
      rw [HW.out]
      go_wp2_with (first
        | fail)
      refine bodyPost_ret (results_rname _ rfl rfl rfl (show Boxd _ _ [.slice (some a) n cap, .int .i64 p, .bool true] from set_there (us := [.slice (some a) n cap, .int .i64 p, .bool true]) HTT.out) rfl) rfl ?_
      exact ⟨⟨0, ⟨#[]⟩, 0⟩, p, true, rfl, by show (0 : Nat) ≤ _; omega, HBAD.out, HBE.out, fun _ _ => rfl⟩
  · have hb0 : b = false := by
      cases b
      · rfl
      · exact absurd (.inl rfl) hbad
    subst hb0
    have hn1 : nameB t = true := by
      cases hq : nameB t
      · exact absurd (.inr hq) hbad
      · rfl
    have hk1 : t.k = 1 := HN.out hn1
    have hk : (t.k == 1) = true := by rw [hk1]; rfl
    have hk2 : (t.k != 1) = false := by rw [hk1]; rfl
    have HOK := Lib.hid (name_ok (r := r) hn1)
    have HK1 := Lib.hid hk1
    have CI := Lib.hid (show Calls Tryz.prog 66 #[.string t.s] W (fun e w' => e = .returned (.bool true) ∧ W = w') by have := nm_ref_is_any t.s (by have := HT.out; omega) W; rwa [show Nm.isB t.s.data.toList = true from hn1] at this)
    have HCA := Lib.hid (show CellsAt W (a.add (p * 3)) [.int .i64 t.k, .string t.s, .int .i64 t.o] from by
      intro j u hu
      match j, hu with
      | 0, hu => obtain rfl := Option.some.inj hu; simpa [Addr.add] using k0
      | 1, hu => obtain rfl := Option.some.inj hu; simpa [Addr.add] using k1
      | 2, hu => obtain rfl := Option.some.inj hu; simpa [Addr.add] using k2
      | j + 3, hu => simp at hu)
    clear hbad hn1 hk1
    go_enter Tryz.func141, Tryz.ntmps141
    go_upto_region 1 with fail
    rw [HW.out]
    go_wp2_with fail
    refine CI.out.mono ?_
    rintro e w' ⟨rfl, rfl⟩
    go_upto_region 5 with fail
    obtain ⟨V, hV⟩ : ∃ V, W.alloc (.cells #[.int .i64 t.k, .string t.s, .int .i64 t.o] 152) = V := ⟨_, rfl⟩
    have hbV : Below W.heap.size W V := hV ▸ (Below.refl _ _).alloc (Nat.le_refl _) _
    have tb : Boxd V (w.heap.size + 2) [.int .i64 t.k, .string t.s, .int .i64 t.o] := hV ▸ hz ▸ Boxd.new W #[.int .i64 t.k, .string t.s, .int .i64 t.o] 152
    obtain ⟨V1, hV1⟩ : ∃ V1, V.setCell ⟨w.heap.size, 1, none⟩ (.int .i64 ((p : Int) + 1)) = V1 := ⟨_, rfl⟩
    have hlz : w.heap.size < W.heap.size := by omega
    have hlz1 : w.heap.size + 1 < W.heap.size := by omega
    have bxV : Boxd V w.heap.size [.slice (some a) n cap, .int .i64 p, .bool false] := HBX.out.later hbV
    have bxV1 : Boxd V1 w.heap.size [.slice (some a) n cap, .int .i64 ((p : Int) + 1), .bool false] := hV1 ▸ (boxd_put bxV).2
    have tb1 : Boxd V1 (w.heap.size + 2) [.int .i64 t.k, .string t.s, .int .i64 t.o] := hV1 ▸ boxd_gb (gb_set V w.heap.size 1 _) (by omega) tb
    have thV1 : V1.there (w.heap.size + 1) 0 3 := hV1 ▸ there_gb (there_gb HT2.out (by omega) (by omega : w.heap.size + 1 ≠ w.heap.size + 9) (gb_of _ hbV)) (by have := hbV.size; omega) (by omega) (gb_set V w.heap.size 1 _)
    have hbV1 : Below w.heap.size w V1 := hV1 ▸ (HB.out.trans (hbV.mono (by omega))).setCell (Nat.le_refl _) _
    have u1 : V.cell? ⟨w.heap.size, 1, none⟩ = some (.int .i64 (p : Int)) := bxV 1 _ rfl
    have g1 : V.frozen? ⟨w.heap.size, 1, none⟩ = false := (hbV.frozen (p := ⟨w.heap.size, 1, none⟩) hlz).trans f1
    rw [hV]
    have HV1 := Lib.hid hV1
    have HBX1 := Lib.hid bxV1
    have HTB1 := Lib.hid tb1
    have HTH1 := Lib.hid thV1
    have HBV1 := Lib.hid hbV1
    clear x0 x1 x2 f1 f2 z0 z1 z2 q0 q1 q2 k0 k1 k2 hV hbV tb hV1 hlz hlz1 bxV bxV1 tb1 thV1 hbV1 HBX HTT HBE HPE HBX2 HW HT1 HT2 HCA CI
    go_upto_region 6 with fail
    rw [show V.setCell ⟨w.heap.size, 1, none⟩ (.int .i64 ((p : Int) + 1)) = V1 from HV1.out]
    clear u1 g1
    have SS : V1.rangeAt w.heap.size 0 [.slice (some a) n cap, .int .i64 ((p : Int) + 1), .bool false] ∧ V1.cell? ⟨w.heap.size + 2, 1, none⟩ = some (.string t.s) ∧ V1.cell? ⟨w.heap.size + 2, 2, none⟩ = some (.int .i64 t.o) := ⟨fun j u hu => by rw [Nat.zero_add]; exact HBX1.out j u hu, HTB1.out 1 _ rfl, HTB1.out 2 _ rfl⟩
    go_wp2_with fail
    refine wp_region_held_drew (S := fun V => V.rangeAt w.heap.size 0 [.slice (some a) n cap, .int .i64 ((p : Int) + 1), .bool false] ∧ V.cell? ⟨w.heap.size + 2, 1, none⟩ = some (.string t.s) ∧ V.cell? ⟨w.heap.size + 2, 2, none⟩ = some (.int .i64 t.o)) (by kernel_rfl) SS (fun hS => ?_)
    refine wpAnyH_take (i := 0) (v := .agg ([.slice (some a) n cap, .int .i64 ((p : Int) + 1), .bool false] : List Value).toArray) rfl (by kernel_rfl) (by kernel_rfl) (by kernel_rfl) (fun _ _ _ h => h) (yieldsIf_load_mid rfl 101 (.tmp 1) rfl w.heap.size 0 rfl [.slice (some a) n cap, .int .i64 ((p : Int) + 1), .bool false] _ (fun V hV => hV.1) Tryz.underlying101 rfl flatPl.size) (by assumption) ?_
    try simp only [Act.put, List.getElem_toArray, List.getElem_cons_zero, List.setIfInBounds_toArray, List.set_cons_zero, List.set_cons_succ]
    first
    | (refine wpAnyH_take (i := 1) (v := ?_) rfl (by kernel_rfl) (by kernel_rfl) (by kernel_rfl) (fun _ _ _ h => h) (Or.inl ⟨by rfl, ?_⟩) (by assumption) ?_
       rotate_left
       · (intro V hV; go_simp; try with_reducible rfl)
       try simp only [Act.put, List.getElem_toArray, List.getElem_cons_zero, List.getElem_cons_succ, List.setIfInBounds_toArray, List.set_cons_zero, List.set_cons_succ])
    | fail "take 1"
    first
    | (refine wpAnyH_take (i := 2) (v := ?_) rfl (by kernel_rfl) (by kernel_rfl) (by kernel_rfl) (fun _ _ _ h => h) (Or.inl ⟨by rfl, ?_⟩) (by assumption) ?_
       rotate_left
       · (intro V hV; have x1 := hV.2.1; go_simp; try with_reducible rfl)
       try simp only [Act.put, List.getElem_toArray, List.getElem_cons_zero, List.getElem_cons_succ, List.setIfInBounds_toArray, List.set_cons_zero, List.set_cons_succ])
    | fail "take 2"
    first
    | (refine wpAnyH_take (i := 3) (v := ?_) rfl (by kernel_rfl) (by kernel_rfl) (by kernel_rfl) (fun _ _ _ h => h) (Or.inl ⟨by rfl, ?_⟩) (by assumption) ?_
       rotate_left
       · (intro V hV; go_simp; try with_reducible rfl)
       try simp only [Act.put, List.getElem_toArray, List.getElem_cons_zero, List.getElem_cons_succ, List.setIfInBounds_toArray, List.set_cons_zero, List.set_cons_succ])
    | fail "take 3"
    first
    | (refine wpAnyH_take (i := 4) (v := ?_) rfl (by kernel_rfl) (by kernel_rfl) (by kernel_rfl) (fun _ _ _ h => h) (Or.inl ⟨by rfl, ?_⟩) (by assumption) ?_
       rotate_left
       · (intro V hV; have x2 := hV.2.2; go_simp; try with_reducible rfl)
       try simp only [Act.put, List.getElem_toArray, List.getElem_cons_zero, List.getElem_cons_succ, List.setIfInBounds_toArray, List.set_cons_zero, List.set_cons_succ])
    | fail "take 4"

    refine wpAnyH_ready (rs := [5]) (by kernel_rfl) (by simp) ?_
    refine AllReadyH.cons rfl (fun K hK => ?_) AllReadyH.nil
    refine ready_store flatPl rfl (.tmp 2) (.tmp 41) rfl (b := w.heap.size + 1) (off := 0) (us := [.slice (some a) n cap, .int .i64 ((p : Int) + 1), .bool false]) rfl rfl HTH1.out pl_one rfl ?_
    have SS : (V1.drew.setCells (w.heap.size + 1) 0 [.slice (some a) n cap, .int .i64 ((p : Int) + 1), .bool false]).rangeAt w.heap.size 0 [.slice (some a) n cap, .int .i64 ((p : Int) + 1), .bool false] ∧ (V1.drew.setCells (w.heap.size + 1) 0 [.slice (some a) n cap, .int .i64 ((p : Int) + 1), .bool false]).cell? ⟨w.heap.size + 2, 1, none⟩ = some (.string t.s) ∧ (V1.drew.setCells (w.heap.size + 1) 0 [.slice (some a) n cap, .int .i64 ((p : Int) + 1), .bool false]).cell? ⟨w.heap.size + 2, 2, none⟩ = some (.int .i64 t.o) :=
      ⟨World.rangeAt_setCells_apart hS.1 _ _ _ (.inl (by omega)), (World.cell?_setCells_out _ _ _ _ _ (fun e => by have e2 : w.heap.size + 2 = w.heap.size + 1 := e; omega)).trans hS.2.1, (World.cell?_setCells_out _ _ _ _ _ (fun e => by have e2 : w.heap.size + 2 = w.heap.size + 1 := e; omega)).trans hS.2.2⟩
    refine hK.out _ _ SS (fun hS => ?_)
    clear hK K
    try simp only [Act.put, List.getElem_toArray, List.getElem_cons_zero, List.getElem_cons_succ]
    first
    | (refine wpAnyH_take (i := 6) (v := ?_) rfl (by kernel_rfl) (by kernel_rfl) (by kernel_rfl) (fun _ _ _ h => h) (Or.inl ⟨by rfl, ?_⟩) (by assumption) ?_
       rotate_left
       · (intro V hV; go_simp; try with_reducible rfl)
       try simp only [Act.put, List.getElem_toArray, List.getElem_cons_zero, List.getElem_cons_succ, List.setIfInBounds_toArray, List.set_cons_zero, List.set_cons_succ])
    | fail "take 6"
    first
    | (refine wpAnyH_take (i := 7) (v := ?_) rfl (by kernel_rfl) (by kernel_rfl) (by kernel_rfl) (fun _ _ _ h => h) (Or.inl ⟨by rfl, ?_⟩) (by assumption) ?_
       rotate_left
       · (intro V hV; go_simp; try with_reducible rfl)
       try simp only [Act.put, List.getElem_toArray, List.getElem_cons_zero, List.getElem_cons_succ, List.setIfInBounds_toArray, List.set_cons_zero, List.set_cons_succ])
    | fail "take 7"
    refine wpAnyH_done (by kernel_rfl) ?_ _
    clear SS
    go_wp2_with fail
    refine bodyPost_ret (results_rname _ rfl rfl rfl (set_there (us := [.slice (some a) n cap, .int .i64 ((p : Int) + 1), .bool false]) HTH1.out) rfl) rfl ?_
    have hfin : Below w.heap.size w (V1.drew.setCells (w.heap.size + 1) 0 [.slice (some a) n cap, .int .i64 ((p : Int) + 1), .bool false]) := HBV1.out.drew.trans (below_sets (by omega) _ _ _)
    refine ⟨t, p + 1, false, rfl, HT.out, ?_, hfin, fun q h => by rw [HOK.out] at h; cases h⟩
    rw [HOK.out]
    exact ⟨rfl, rfl, (HP0.out.later hfin).step (by rw [HK1.out]; decide)⟩
/-- The outcome where a text ends: no error, or the next token's. -/
def finC (b : Bool) (l : List Tk) : Int := if !b && kind l == 3 then 0 else 2
def finO (b : Bool) (l : List Tk) : Int := if !b && kind l == 3 then 0 else off l
set_option maxRecDepth 100000 in
set_option maxHeartbeats 2000000 in
theorem rfinish_any (A : Option Addr) (n cap p : Nat) (L l : List Tk) (b : Bool) (w : World) (h : Pl w A n L p l) :
    Calls Tryz.prog 63 #[.agg #[.slice A n cap, .int .i64 p, .bool b]] w fun e w' => e = .returned (.tuple #[.int .i64 (finC b l), .int .i64 (finO b l)]) ∧ Below w.heap.size w w' := by
  have hb : Below w.heap.size w (w.alloc (.cells #[.slice A n cap, .int .i64 p, .bool b] 101)) := (Below.refl _ _).alloc (Nat.le_refl _) _
  obtain ⟨a, t, r, rfl, rfl, k0, k1, k2⟩ := (h.later hb).at
  have y0 : (0 : Int) ≤ p := by omega
  have y1 : (p : Int) < n := by have := h.lt; omega
  have hlt := h.lt
  have E1 := Lib.hid (show finC b (t :: r) = if !b && t.k == 3 then 0 else 2 from rfl)
  have E2 := Lib.hid (show finO b (t :: r) = if !b && t.k == 3 then 0 else t.o from rfl)
  have HB := Lib.hid hb
  clear h hb k1
  cases b
  · cases hk : (t.k == 3)
    · go_enter Tryz.func63, Tryz.ntmps63
      go_wp2_with fail
      go_quiet (fail)
      go_wp2_with fail
      go_ret2
      exact ⟨by rw [E1.out, E2.out, hk]; rfl, HB.out.trans (below_drewN _ _ _)⟩
    · go_enter Tryz.func63, Tryz.ntmps63
      go_wp2_with fail
      go_ret2
      exact ⟨by rw [E1.out, E2.out, hk]; rfl, HB.out⟩
  · go_enter Tryz.func63, Tryz.ntmps63
    go_wp2_with fail
    go_quiet (fail)
    go_wp2_with fail
    go_ret2
    exact ⟨by rw [E1.out, E2.out]; rfl, HB.out.trans (below_drewN _ _ _)⟩
end Go.Proofs.YtppcpccjeknhdaaGreatDoor.Rd
