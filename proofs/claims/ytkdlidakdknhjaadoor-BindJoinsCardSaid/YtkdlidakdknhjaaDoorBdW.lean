/- The walks of the reference's Find, Few, FewEnv and Alike. The condition of the last: few parts. -/
import Derived.Test.YtkdlidakdknhjaaDoorBdQ
import Derived.Test.YtkdlidakdknhjaaDoorBdV
import Derived.Test.YtkdlidakdknhjaaDoorDrN
namespace Go.Proofs.YtkdlidakdknhjaaDoor
open Go.RowKit

def sigPg (s : Sg) : Pg := ⟨[{ Dc.none? with sig := s }], Ex.none?⟩
def envPg (l : List Fo) : Pg := ⟨[{ Dc.none? with fs := l }], Ex.none?⟩
theorem exN_dat {w : World} {S : Nat → Prop} : Ex.none?.dat.In w False S [.int .i64 0, .string ⟨#[]⟩, .string ⟨#[]⟩, .slice none 0 0, .int .i64 0, .slice none 0 0, .slice none 0 0, .int .i64 0] :=
  ex_shut (e := Ex.none?) (m := 0) (l := 0) (n := 0) (by simp [Ex.none?, Ex.name, ByteArray.size]) (by simp [Ex.none?, Ex.ty, Ty.name, ByteArray.size]) (LiesN.nil _ _ _ _) (LiesN.nil _ _ _ _) (Row.nil _ _ _ _ _) (Nat.le_refl _)
theorem sigDc_dat {w : World} {S : Nat → Prop} {s : Sg} {us : List Value} (h : s.dat.In w False S us) : ({ Dc.none? with sig := s } : Dc).dat.In w False S ([.int .i64 0, .string ⟨#[]⟩, .slice none 0 0, .slice none 0 0, .slice none 0 0, .string ⟨#[]⟩, .slice none 0 0] ++ (us ++ ([.int .i64 0, .string ⟨#[]⟩, .string ⟨#[]⟩, .slice none 0 0, .int .i64 0, .slice none 0 0, .slice none 0 0, .int .i64 0] ++ [.int .i64 0]))) :=
  dc_shut (d := { Dc.none? with sig := s }) (nf := 0) (np := 0) (ng := 0) (nv := 0) (by simp [Dc.none?, ByteArray.size]) (Row.nil _ _ _ _ _) (Row.nil _ _ _ _ _) (Row.nil _ _ _ _ _) (by simp [Dc.none?, ByteArray.size]) (Row.nil _ _ _ _ _) h exN_dat
theorem envDc_dat {w : World} {S : Nat → Prop} {l : List Fo} {F : Option Addr} {nf cf : Nat} (h : Row w False S 5 F nf (l.map Fo.dat)) : ({ Dc.none? with fs := l } : Dc).dat.In w False S ([.int .i64 0, .string ⟨#[]⟩, .slice F nf cf, .slice none 0 0, .slice none 0 0, .string ⟨#[]⟩, .slice none 0 0] ++ ([.string ⟨#[]⟩, .slice none 0 0, .slice none 0 0, .string ⟨#[]⟩, .slice none 0 0, .int .i64 0, .int .i64 0] ++ ([.int .i64 0, .string ⟨#[]⟩, .string ⟨#[]⟩, .slice none 0 0, .int .i64 0, .slice none 0 0, .slice none 0 0, .int .i64 0] ++ [.int .i64 0]))) :=
  dc_shut (d := { Dc.none? with fs := l }) (nf := nf) (np := 0) (ng := 0) (nv := 0) (by simp [Dc.none?, ByteArray.size]) h (Row.nil _ _ _ _ _) (Row.nil _ _ _ _ _) (by simp [Dc.none?, ByteArray.size]) (Row.nil _ _ _ _ _) none_dat exN_dat
/-- A program of one declaration. -/
theorem onePg {w : World} {d : Dc} {us : List Value} (T : TypeId) (h : d.dat.H w us) : (⟨[d], Ex.none?⟩ : Pg).dat.H (w.alloc (.cells us.toArray T)) (.slice (some ⟨w.heap.size, 0, none⟩) 1 1 :: [.int .i64 0, .string ⟨#[]⟩, .string ⟨#[]⟩, .slice none 0 0, .int .i64 0, .slice none 0 0, .slice none 0 0, .int .i64 0]) := by
  have hb : Below w.heap.size w (w.alloc (.cells us.toArray T)) := (Below.refl _ _).alloc (Nat.le_refl _) _
  refine pg_shut (p := ⟨[d], Ex.none?⟩) ⟨rfl, by omega, Dat.Elems.of fun k x hk => ?_⟩ exN_dat
  match k, hk with
  | 0, hk =>
    obtain rfl := Option.some.inj hk
    exact ⟨⟨w.heap.size, 0, none⟩, us, rfl, by show w.heap.size < _; simp, False.elim, Dat.H.later h hb, by rw [Nat.zero_add, Nat.zero_mul]; exact (Boxd.new w us.toArray T).at0⟩
  | k + 1, hk => simp at hk
theorem sig_few {s : Sg} (h : (sigPg s).few = true) : s.wt ≤ 600 := by
  have h1 := Pg.wt_few h
  have h2 := Pg.wt_d (p := sigPg s) (d := { Dc.none? with sig := s }) List.mem_cons_self
  have h3 := Dc.wt_s (d := { Dc.none? with sig := s })
  have h4 : ({ Dc.none? with sig := s } : Dc).sig.wt = s.wt := rfl
  omega
theorem env_few {l : List Fo} (h : (envPg l).few = true) : l.length ≤ 600 ∧ ∀ f ∈ l, f.wt ≤ 600 := by
  have h1 := Pg.wt_few h
  have h2 := Pg.wt_d (p := envPg l) (d := { Dc.none? with fs := l }) List.mem_cons_self
  have h3 := Dc.len_f ({ Dc.none? with fs := l } : Dc)
  have h4 : ({ Dc.none? with fs := l } : Dc).fs = l := rfl
  rw [h4] at h3
  exact ⟨by omega, fun f hf => by have := Dc.wt_f (d := { Dc.none? with fs := l }) (f := f) hf; omega⟩
set_option maxRecDepth 100000 in
set_option maxHeartbeats 8000000 in
theorem rfewSg_any (s : Sg) (us : List Value) (w : World) (h : s.dat.H w us) : Calls Tryd.prog 14 #[.agg us.toArray] w (EqvPost w (sigPg s).few) := by
  obtain ⟨F, nf, cf, Q, np, cp, Ar, mr, ar, rfl, _⟩ := sg_open h
  have hb : Below w.heap.size w (w.alloc (.cells #[.string s.name, .slice F nf cf, .slice Q np cp, .string s.res.name, .slice Ar mr ar, .int .i64 s.res.off, .int .i64 s.off] 28)) := (Below.refl _ _).alloc (Nat.le_refl _) _
  have hx := (Boxd.new w #[.string s.name, .slice F nf cf, .slice Q np cp, .string s.res.name, .slice Ar mr ar, .int .i64 s.res.off, .int .i64 s.off] 28).at0
  obtain ⟨W, hW⟩ : ∃ W, w.alloc (.cells #[.string s.name, .slice F nf cf, .slice Q np cp, .string s.res.name, .slice Ar mr ar, .int .i64 s.res.off, .int .i64 s.off] 28) = W := ⟨_, rfl⟩
  rw [hW] at hb hx
  have HW := Lib.hid hW
  have HX := Lib.hid (show CellsAt W ⟨w.heap.size, 0, none⟩ [.string s.name, .slice F nf cf, .slice Q np cp, .string s.res.name, .slice Ar mr ar, .int .i64 s.res.off, .int .i64 s.off] from hx)
  have HB := Lib.hid (hb.trans (((Below.refl W.heap.size W).alloc (Nat.le_refl _) (.cells #[.int .i64 0, .string ⟨#[]⟩, .slice none 0 0, .slice none 0 0, .slice none 0 0, .string ⟨#[]⟩, .slice none 0 0, .string s.name, .slice F nf cf, .slice Q np cp, .string s.res.name, .slice Ar mr ar, .int .i64 s.res.off, .int .i64 s.off, .int .i64 0, .string ⟨#[]⟩, .string ⟨#[]⟩, .slice none 0 0, .int .i64 0, .slice none 0 0, .slice none 0 0, .int .i64 0, .int .i64 0] 73)).mono hb.size))
  have C := Lib.hid (show Calls Tryd.prog 33 #[.agg #[.slice (some ⟨W.heap.size, 0, none⟩) 1 1, .int .i64 0, .string ⟨#[]⟩, .string ⟨#[]⟩, .slice none 0 0, .int .i64 0, .slice none 0 0, .slice none 0 0, .int .i64 0]] (W.alloc (.cells #[.int .i64 0, .string ⟨#[]⟩, .slice none 0 0, .slice none 0 0, .slice none 0 0, .string ⟨#[]⟩, .slice none 0 0, .string s.name, .slice F nf cf, .slice Q np cp, .string s.res.name, .slice Ar mr ar, .int .i64 s.res.off, .int .i64 s.off, .int .i64 0, .string ⟨#[]⟩, .string ⟨#[]⟩, .slice none 0 0, .int .i64 0, .slice none 0 0, .slice none 0 0, .int .i64 0, .int .i64 0] 73)) (EqvPost _ (sigPg s).few) from rfewPg_any (sigPg s) _ _ (onePg 73 (sigDc_dat (Dat.H.later h hb))))
  clear h hb hx hW
  go_enter Tryd.func14, Tryd.ntmps14
  go_upto_region 1 with fail
  rw [HW.out]
  go_wp2_with (refine loadOp flatSg 1 3 rfl HX.out rfl ?_)
  refine C.out.mono ?_
  rintro e w1 ⟨rfl, hb1⟩
  have HB1 := Lib.hid hb1
  clear hb1 C
  go_wp2_with fail
  go_ret
  exact ⟨rfl, HB.out.trans (HB1.out.mono HB.out.size)⟩
set_option maxRecDepth 100000 in
set_option maxHeartbeats 8000000 in
theorem rfewEnv_any (l : List Fo) (F : Option Addr) (nf cf : Nat) (w : World) (h : RowH w 5 F nf (l.map Fo.dat)) : Calls Tryd.prog 25 #[.slice F nf cf] w (EqvPost w (envPg l).few) := by
  have HB := Lib.hid ((Below.refl w.heap.size w).alloc (Nat.le_refl _) (.cells #[.int .i64 0, .string ⟨#[]⟩, .slice F nf cf, .slice none 0 0, .slice none 0 0, .string ⟨#[]⟩, .slice none 0 0, .string ⟨#[]⟩, .slice none 0 0, .slice none 0 0, .string ⟨#[]⟩, .slice none 0 0, .int .i64 0, .int .i64 0, .int .i64 0, .string ⟨#[]⟩, .string ⟨#[]⟩, .slice none 0 0, .int .i64 0, .slice none 0 0, .slice none 0 0, .int .i64 0, .int .i64 0] 73))
  have C := Lib.hid (show Calls Tryd.prog 33 #[.agg #[.slice (some ⟨w.heap.size, 0, none⟩) 1 1, .int .i64 0, .string ⟨#[]⟩, .string ⟨#[]⟩, .slice none 0 0, .int .i64 0, .slice none 0 0, .slice none 0 0, .int .i64 0]] (w.alloc (.cells #[.int .i64 0, .string ⟨#[]⟩, .slice F nf cf, .slice none 0 0, .slice none 0 0, .string ⟨#[]⟩, .slice none 0 0, .string ⟨#[]⟩, .slice none 0 0, .slice none 0 0, .string ⟨#[]⟩, .slice none 0 0, .int .i64 0, .int .i64 0, .int .i64 0, .string ⟨#[]⟩, .string ⟨#[]⟩, .slice none 0 0, .int .i64 0, .slice none 0 0, .slice none 0 0, .int .i64 0, .int .i64 0] 73)) (EqvPost _ (envPg l).few) from rfewPg_any (envPg l) _ _ (onePg 73 (envDc_dat h)))
  clear h
  go_enter Tryd.func25, Tryd.ntmps25
  go_wp2_with fail
  refine C.out.mono ?_
  rintro e w1 ⟨rfl, hb1⟩
  have HB1 := Lib.hid hb1
  clear hb1 C
  go_wp2_with fail
  go_ret
  exact ⟨rfl, HB.out.trans (HB1.out.mono HB.out.size)⟩
def FindPost (w : World) (r : Option Nat) (e : Ending) (w' : World) : Prop := e = .returned (.int .i64 (r.elim (-1) fun k => (k : Int))) ∧ Below w.heap.size w w'
set_option maxRecDepth 100000 in
set_option maxHeartbeats 8000000 in
theorem rfind_any (xs : List Fo) (t : Ty) (us : List Value) (E : Option Addr) (q ce : Nat) (w : World) (hq : q ≤ 100000) (h : RowH w 5 E q (xs.map Fo.dat)) (ht : t.dat.H w us) : Calls Tryd.prog 28 #[.slice E q ce, .agg us.toArray] w (FindPost w (findF t xs)) := by
  obtain ⟨A, m, c, rfl, htn, hta⟩ := ty_open ht
  have hxl := h.len
  rw [List.length_map] at hxl
  have hml := hta.len
  have hme := hta.le
  obtain ⟨W0, hW0⟩ : ∃ W0, w.alloc (.cells #[.string t.name, .slice A m c, .int .i64 t.off] 26) = W0 := ⟨_, rfl⟩
  have hb0 : Below w.heap.size w W0 := hW0 ▸ (Below.refl _ _).alloc (Nat.le_refl _) _
  have hx0 : Boxd W0 w.heap.size [.string t.name, .slice A m c, .int .i64 t.off] := hW0 ▸ Boxd.new w #[.string t.name, .slice A m c, .int .i64 t.off] 26
  have HW0 := Lib.hid hW0
  have HB0 := Lib.hid hb0
  have HX0 := Lib.hid hx0
  have H1 := Lib.hid h
  have HXL := Lib.hid hxl
  have HML := Lib.hid hml
  have hqi : (q : Int) ≤ 100000 := by omega
  have hmi : (m : Int) ≤ 9223372036854775807 := by omega
  have hmi0 : (0 : Int) ≤ m := by omega
  clear hW0 hb0 hx0 h hxl ht htn hta hml hme
  go_enter Tryd.func28, Tryd.ntmps28
  go_upto_region 1 with fail
  rw [HW0.out]
  clear HW0
  go_wp2_with fail
  go_loopw [5] (fun i wr => ∃ k : Nat, k ≤ q ∧ i = .int .i64 k ∧ Below W0.heap.size W0 wr ∧ (k = 0 ∨ m = 0) ∧ ∀ j f, j < k → xs[j]? = some f → bytesEq f.name t.name = false) (fun i _ => q - (intOf i).toNat)
  case atStart => exact ⟨0, by omega, rfl, Below.refl _ _, .inl rfl, fun j _ hj => absurd hj (Nat.not_lt_zero _)⟩
  case round =>
    obtain ⟨k, hk, rfl, hbel, hkm, hno⟩ := hrel
    have HBL := Lib.hid hbel
    have HNO := Lib.hid hno
    have HX := Lib.hid (HX0.out.later hbel)
    have y1 : (0 : Int) ≤ k := by omega
    have t0 := (HX0.out.later hbel) 0 _ rfl
    have t1 := (HX0.out.later hbel) 1 _ rfl
    by_cases hlt : k < q
    · have y0 : (k : Int) < q := by omega
      by_cases hm : m = 0
      · subst hm
        have HA0 := Lib.hid (show t.args.length = 0 from HML.out)
        obtain ⟨pu, x, ps, rfl, hx, _, _, hu, hcs⟩ := dat_at (RowH.later H1.out (HB0.out.trans (hbel.mono HB0.out.size))) hlt
        obtain ⟨B, m9, a, rfl, _⟩ := fo_open hu
        have c0 := (cells5_at hcs).1
        have SS : wr.drew.cell? ⟨w.heap.size, 0, none⟩ = some (.string t.name) ∧ wr.drew.cell? (pu.add (k * 5)) = some (.string x.name) := ⟨t0, c0⟩
        have HBD := Lib.hid (show Below W0.heap.size W0 wr.drew from hbel.drew)
        cases hz : bytesEq x.name t.name
        · obtain ⟨g1, g2⟩ := toBeq hz
          have HZ := Lib.hid hz
          have HXK := Lib.hid hx
          clear hx hu hcs hbel hno hz hkm c0
          go_upto_region 4 with fail
          go_wp2_with fail
          refine wp_region_held_drew (S := fun V => V.cell? ⟨w.heap.size, 0, none⟩ = some (.string t.name) ∧ V.cell? (pu.add (k * 5)) = some (.string x.name)) (by kernel_rfl) SS (fun hS => ?_)
          clear SS t0 t1
          refine wpAnyH_take (i := 0) (v := ?_) rfl (by kernel_rfl) (by kernel_rfl) (by kernel_rfl) (fun _ _ _ h => h) (Or.inl ⟨by rfl, ?_⟩) (by assumption) ?_
          rotate_left
          · (intro V hV; obtain ⟨k0, k1⟩ := hV; go_simp; try with_reducible rfl)
          try simp only [Act.put, List.getElem_toArray, List.getElem_cons_zero, List.setIfInBounds_toArray, List.set_cons_zero, List.set_cons_succ]
          refine wpAnyH_take (i := 1) (v := ?_) rfl (by kernel_rfl) (by kernel_rfl) (by kernel_rfl) (fun _ _ _ h => h) (Or.inl ⟨by rfl, ?_⟩) (by assumption) ?_
          rotate_left
          · (intro V hV; obtain ⟨k0, k1⟩ := hV; go_simp; try with_reducible rfl)
          try simp only [Act.put, List.getElem_toArray, List.getElem_cons_zero, List.getElem_cons_succ, List.setIfInBounds_toArray, List.set_cons_zero, List.set_cons_succ]
          refine wpAnyH_take (i := 2) (v := ?_) rfl (by kernel_rfl) (by kernel_rfl) (by kernel_rfl) (fun _ _ _ h => h) (Or.inl ⟨by rfl, ?_⟩) (by assumption) ?_
          rotate_left
          · (intro V hV; obtain ⟨k0, k1⟩ := hV; go_simp; try with_reducible rfl)
          try simp only [Act.put, List.getElem_toArray, List.getElem_cons_zero, List.getElem_cons_succ, List.setIfInBounds_toArray, List.set_cons_zero, List.set_cons_succ]
          refine wpAnyH_take (i := 3) (v := ?_) rfl (by kernel_rfl) (by kernel_rfl) (by kernel_rfl) (fun _ _ _ h => h) (Or.inl ⟨by rfl, ?_⟩) (by assumption) ?_
          rotate_left
          · (intro V hV; obtain ⟨k0, k1⟩ := hV; go_simp; try with_reducible rfl)
          try simp only [Act.put, List.getElem_toArray, List.getElem_cons_zero, List.getElem_cons_succ, List.setIfInBounds_toArray, List.set_cons_zero, List.set_cons_succ]
          refine wpAnyH_take (i := 4) (v := ?_) rfl (by kernel_rfl) (by kernel_rfl) (by kernel_rfl) (fun _ _ _ h => h) (Or.inl ⟨by rfl, ?_⟩) (by assumption) ?_
          rotate_left
          · (intro V hV; obtain ⟨k0, k1⟩ := hV; go_simp; try with_reducible rfl)
          try simp only [Act.put, List.getElem_toArray, List.getElem_cons_zero, List.getElem_cons_succ, List.setIfInBounds_toArray, List.set_cons_zero, List.set_cons_succ]
          refine wpAnyH_take (i := 5) (v := ?_) rfl (by kernel_rfl) (by kernel_rfl) (by kernel_rfl) (fun _ _ _ h => h) (Or.inl ⟨by rfl, ?_⟩) (by assumption) ?_
          rotate_left
          · (intro V hV; obtain ⟨k0, k1⟩ := hV; go_simp; try with_reducible rfl)
          try simp only [Act.put, List.getElem_toArray, List.getElem_cons_zero, List.getElem_cons_succ, List.setIfInBounds_toArray, List.set_cons_zero, List.set_cons_succ]
          refine wpAnyH_take (i := 6) (v := ?_) rfl (by kernel_rfl) (by kernel_rfl) (by kernel_rfl) (fun _ _ _ h => h) (Or.inl ⟨by rfl, ?_⟩) (by assumption) ?_
          rotate_left
          · (intro V hV; obtain ⟨k0, k1⟩ := hV; go_simp; try with_reducible rfl)
          try simp only [Act.put, List.getElem_toArray, List.getElem_cons_zero, List.getElem_cons_succ, List.setIfInBounds_toArray, List.set_cons_zero, List.set_cons_succ]
          refine wpAnyH_take (i := 7) (v := ?_) rfl (by kernel_rfl) (by kernel_rfl) (by kernel_rfl) (fun _ _ _ h => h) (Or.inl ⟨by rfl, ?_⟩) (by assumption) ?_
          rotate_left
          · (intro V hV; obtain ⟨k0, k1⟩ := hV; go_simp; try with_reducible rfl)
          try simp only [Act.put, List.getElem_toArray, List.getElem_cons_zero, List.getElem_cons_succ, List.setIfInBounds_toArray, List.set_cons_zero, List.set_cons_succ]
          refine wpAnyH_done (by kernel_rfl) ?_ _
          clear hS
          go_wp2_with fail
          go_roundw
          case rel => exact ⟨k + 1, by omega, by go_num, HBD.out, .inr trivial, fun j f hj hf => by
            by_cases e : j = k
            · subst e; rw [HXK.out] at hf; obtain rfl := Option.some.inj hf; exact HZ.out
            · exact HNO.out j f (by omega) hf⟩
          case measure => simp [intOf]; omega
        · obtain ⟨g1, g2⟩ := toBeq hz
          have HFD := Lib.hid (show findF t xs = some k from find_at hno hx hz HA0.out)
          clear hx hu hcs hbel hno hz hkm c0
          go_upto_region 4 with fail
          go_wp2_with fail
          refine wp_region_held_drew (S := fun V => V.cell? ⟨w.heap.size, 0, none⟩ = some (.string t.name) ∧ V.cell? (pu.add (k * 5)) = some (.string x.name)) (by kernel_rfl) SS (fun hS => ?_)
          clear SS t0 t1
          refine wpAnyH_take (i := 0) (v := ?_) rfl (by kernel_rfl) (by kernel_rfl) (by kernel_rfl) (fun _ _ _ h => h) (Or.inl ⟨by rfl, ?_⟩) (by assumption) ?_
          rotate_left
          · (intro V hV; obtain ⟨k0, k1⟩ := hV; go_simp; try with_reducible rfl)
          try simp only [Act.put, List.getElem_toArray, List.getElem_cons_zero, List.setIfInBounds_toArray, List.set_cons_zero, List.set_cons_succ]
          refine wpAnyH_take (i := 1) (v := ?_) rfl (by kernel_rfl) (by kernel_rfl) (by kernel_rfl) (fun _ _ _ h => h) (Or.inl ⟨by rfl, ?_⟩) (by assumption) ?_
          rotate_left
          · (intro V hV; obtain ⟨k0, k1⟩ := hV; go_simp; try with_reducible rfl)
          try simp only [Act.put, List.getElem_toArray, List.getElem_cons_zero, List.getElem_cons_succ, List.setIfInBounds_toArray, List.set_cons_zero, List.set_cons_succ]
          refine wpAnyH_take (i := 2) (v := ?_) rfl (by kernel_rfl) (by kernel_rfl) (by kernel_rfl) (fun _ _ _ h => h) (Or.inl ⟨by rfl, ?_⟩) (by assumption) ?_
          rotate_left
          · (intro V hV; obtain ⟨k0, k1⟩ := hV; go_simp; try with_reducible rfl)
          try simp only [Act.put, List.getElem_toArray, List.getElem_cons_zero, List.getElem_cons_succ, List.setIfInBounds_toArray, List.set_cons_zero, List.set_cons_succ]
          refine wpAnyH_take (i := 3) (v := ?_) rfl (by kernel_rfl) (by kernel_rfl) (by kernel_rfl) (fun _ _ _ h => h) (Or.inl ⟨by rfl, ?_⟩) (by assumption) ?_
          rotate_left
          · (intro V hV; obtain ⟨k0, k1⟩ := hV; go_simp; try with_reducible rfl)
          try simp only [Act.put, List.getElem_toArray, List.getElem_cons_zero, List.getElem_cons_succ, List.setIfInBounds_toArray, List.set_cons_zero, List.set_cons_succ]
          refine wpAnyH_take (i := 4) (v := ?_) rfl (by kernel_rfl) (by kernel_rfl) (by kernel_rfl) (fun _ _ _ h => h) (Or.inl ⟨by rfl, ?_⟩) (by assumption) ?_
          rotate_left
          · (intro V hV; obtain ⟨k0, k1⟩ := hV; go_simp; try with_reducible rfl)
          try simp only [Act.put, List.getElem_toArray, List.getElem_cons_zero, List.getElem_cons_succ, List.setIfInBounds_toArray, List.set_cons_zero, List.set_cons_succ]
          refine wpAnyH_take (i := 5) (v := ?_) rfl (by kernel_rfl) (by kernel_rfl) (by kernel_rfl) (fun _ _ _ h => h) (Or.inl ⟨by rfl, ?_⟩) (by assumption) ?_
          rotate_left
          · (intro V hV; obtain ⟨k0, k1⟩ := hV; go_simp; try with_reducible rfl)
          try simp only [Act.put, List.getElem_toArray, List.getElem_cons_zero, List.getElem_cons_succ, List.setIfInBounds_toArray, List.set_cons_zero, List.set_cons_succ]
          refine wpAnyH_take (i := 6) (v := ?_) rfl (by kernel_rfl) (by kernel_rfl) (by kernel_rfl) (fun _ _ _ h => h) (Or.inl ⟨by rfl, ?_⟩) (by assumption) ?_
          rotate_left
          · (intro V hV; obtain ⟨k0, k1⟩ := hV; go_simp; try with_reducible rfl)
          try simp only [Act.put, List.getElem_toArray, List.getElem_cons_zero, List.getElem_cons_succ, List.setIfInBounds_toArray, List.set_cons_zero, List.set_cons_succ]
          refine wpAnyH_take (i := 7) (v := ?_) rfl (by kernel_rfl) (by kernel_rfl) (by kernel_rfl) (fun _ _ _ h => h) (Or.inl ⟨by rfl, ?_⟩) (by assumption) ?_
          rotate_left
          · (intro V hV; obtain ⟨k0, k1⟩ := hV; go_simp; try with_reducible rfl)
          try simp only [Act.put, List.getElem_toArray, List.getElem_cons_zero, List.getElem_cons_succ, List.setIfInBounds_toArray, List.set_cons_zero, List.set_cons_succ]
          refine wpAnyH_done (by kernel_rfl) ?_ _
          clear hS
          go_wp2_with fail
          go_ret
          exact ⟨ret_int (by rw [HFD.out]; rfl), HB0.out.trans (HBD.out.mono HB0.out.size)⟩
      · have y2 : ((m : Int) == 0) = false := by simp; omega
        have HFD := Lib.hid (show findF t xs = none by rw [findF, if_neg (by have := HML.out; omega)])
        clear hbel hno hkm
        go_wp2_with fail
        go_ret
        exact ⟨ret_int (by rw [HFD.out]; rfl), HB0.out.trans (HBL.out.mono HB0.out.size)⟩
    · have y0 : (q : Int) ≤ k := by omega
      obtain rfl : k = q := by omega
      have HFD := Lib.hid (show findF t xs = none from find_none (by rw [HXL.out]; exact hno))
      clear hbel hno hkm
      go_wp2_with fail
      go_ret
      exact ⟨ret_int (by rw [HFD.out]; rfl), HB0.out.trans (HBL.out.mono HB0.out.size)⟩
theorem rcanon_d (s : Sg) (us : List Value) (w : World) (hw : s.wt ≤ 1000) (h : s.dat.H w us) : Calls Tryd.prog 17 #[.agg us.toArray] w (DPost w s.canon.dat) := by
  have hn : s.name.size ≤ 9223372036854775807 := by obtain ⟨_, _, _, _, _, _, _, _, _, _, hn, _⟩ := sg_open h; exact hn
  have h1 := Sg.len_f s
  have h2 := Sg.len_p s
  exact (rcanon_any s us w hw h).mono fun e w' hp => hp.post hn ⟨by simp [Sg.canon, Sg.bare, Sg.subst]; omega, by simp [Sg.canon, Sg.bare, Sg.subst]; omega⟩
set_option maxRecDepth 100000 in
set_option maxHeartbeats 8000000 in
theorem ralike_any (a b : Sg) (us vs : List Value) (w : World) (ha : a.wt ≤ 1000) (hb : b.wt ≤ 1000) (h1 : a.dat.H w us) (h2 : b.dat.H w vs) : Calls Tryd.prog 19 #[.agg us.toArray, .agg vs.toArray] w (EqvPost w (Sg.alike a b)) := by
  have HT := TwoD.new h1 h2 28
  obtain ⟨W0, hW0⟩ : ∃ W0, (w.alloc (.cells us.toArray 28)).alloc (.cells vs.toArray 28) = W0 := ⟨_, rfl⟩
  rw [hW0] at HT
  have HW0 := Lib.hid hW0
  have HTD := Lib.hid (HT.later (Below.refl W0.heap.size W0).drew)
  have hul : us.length = 7 := (Dat.In.len _ _ h1).trans (Sg.dat_size a)
  have hvl : vs.length = 7 := (Dat.In.len _ _ h2).trans (Sg.dat_size b)
  have HUL := Lib.hid hul
  have HVL := Lib.hid hvl
  have HSST := Lib.hid (fun (X : World) (hX : Below W0.drew.heap.size W0.drew X) => (show CellsAt X ⟨w.heap.size, 0, none⟩ us ∧ CellsAt X ⟨w.heap.size + 1, 0, none⟩ vs from ⟨((HTD.out.later hX).one).at0, ((HTD.out.later hX).two).at0⟩))
  have CA := Lib.hid (fun (X : World) (hX : Below W0.drew.heap.size W0.drew X) => rcanon_d a us X ha (HTD.out.later hX).da)
  have CB := Lib.hid (fun (X : World) (hX : Below W0.drew.heap.size W0.drew X) => rcanon_d b vs X hb (HTD.out.later hX).db)
  have SS := HSST.out W0.drew (Below.refl _ _)
  clear HT hW0 h1 h2 ha hb hul hvl
  go_enter Tryd.func19, Tryd.ntmps19
  go_upto_region 1 with fail
  rw [HW0.out]
  clear HW0
  go_wp2_with fail
  refine wp_region_held_drew (S := fun V => CellsAt V ⟨w.heap.size, 0, none⟩ us ∧ CellsAt V ⟨w.heap.size + 1, 0, none⟩ vs) (by kernel_rfl) SS (fun hS => ?_)
  clear SS
  have HBW := Lib.hid HTD.out.bel
  generalize W0.drew = Wd at *
  refine wpAnyH_take (i := 0) (v := .agg us.toArray) rfl (by kernel_rfl) (by kernel_rfl) (by kernel_rfl) (fun _ _ _ h => h) (Or.inl ⟨by rfl, fun V hV => loadYieldB flatSg rfl hV.1 HUL.out⟩) (by assumption) ?_
  try simp only [Act.put, List.getElem_toArray, List.getElem_cons_zero, List.setIfInBounds_toArray, List.set_cons_zero, List.set_cons_succ]
  refine wpAnyH_take (i := 2) (v := .agg vs.toArray) rfl (by kernel_rfl) (by kernel_rfl) (by kernel_rfl) (fun _ _ _ h => h) (Or.inl ⟨by rfl, fun V hV => loadYieldB flatSg rfl hV.2 HVL.out⟩) (by assumption) ?_
  try simp only [Act.put, List.getElem_toArray, List.getElem_cons_zero, List.getElem_cons_succ, List.setIfInBounds_toArray, List.set_cons_zero, List.set_cons_succ]
  refine wpAnyH_ready (rs := [1]) (by kernel_rfl) (by simp) ?_
  refine AllReadyH.cons rfl (fun K hK => ?_) (AllReadyH.nil)
  go_simp
  refine (CA.out Wd (Below.refl _ _)).mono ?_
  rintro e X1 ⟨cs, rfl, hc, hb1⟩
  have HC := Lib.hid hc
  have HB1 := Lib.hid hb1
  have SS := HSST.out X1 hb1
  clear hc hb1
  refine hK.out _ _ SS (fun hS => ?_)
  clear hK K SS
  try simp only [Act.put, List.getElem_toArray, List.getElem_cons_zero, List.getElem_cons_succ, List.setIfInBounds_toArray, List.set_cons_zero, List.set_cons_succ]
  refine wpAnyH_ready (rs := [3]) (by kernel_rfl) (by simp) ?_
  refine AllReadyH.cons rfl (fun K hK => ?_) (AllReadyH.nil)
  go_simp
  refine (CB.out X1 HB1.out).mono ?_
  rintro e X2 ⟨ds, rfl, hd, hb2⟩
  have HD := Lib.hid hd
  have HB2 := Lib.hid hb2
  have SS := HSST.out X2 (HB1.out.trans (hb2.mono HB1.out.size))
  clear hd hb2
  refine hK.out _ _ SS (fun hS => ?_)
  clear hK K SS
  try simp only [Act.put, List.getElem_toArray, List.getElem_cons_zero, List.getElem_cons_succ, List.setIfInBounds_toArray, List.set_cons_zero, List.set_cons_succ]
  refine wpAnyH_ready (rs := [4]) (by kernel_rfl) (by simp) ?_
  refine AllReadyH.cons rfl (fun K hK => ?_) (AllReadyH.nil)
  go_simp
  refine (rsig_any a.canon b.canon cs ds false X2 (Dat.In.later HC.out HB2.out (fun b hb => hb.2) |>.wide fun b hb => Nat.lt_of_lt_of_le hb.2 HB2.out.size) (HD.out.wide fun b hb => hb.2)).mono ?_
  rintro e X3 ⟨rfl, hb3⟩
  have HB3 := Lib.hid hb3
  have SS := HSST.out X3 ((HB1.out.trans (HB2.out.mono HB1.out.size)).trans (hb3.mono (Nat.le_trans HB1.out.size HB2.out.size)))
  clear hb3
  refine hK.out _ _ SS (fun hS => ?_)
  clear hK K SS
  try simp only [Act.put, List.getElem_toArray, List.getElem_cons_zero, List.getElem_cons_succ, List.setIfInBounds_toArray, List.set_cons_zero, List.set_cons_succ]
  refine wpAnyH_take (i := 5) (v := ?_) rfl (by kernel_rfl) (by kernel_rfl) (by kernel_rfl) (fun _ _ _ h => h) (Or.inl ⟨by rfl, ?_⟩) (by assumption) ?_
  rotate_left
  · (intro V hV; go_simp; try with_reducible rfl)
  try simp only [Act.put, List.getElem_toArray, List.getElem_cons_zero, List.getElem_cons_succ, List.setIfInBounds_toArray, List.set_cons_zero, List.set_cons_succ]
  refine wpAnyH_done (by kernel_rfl) ?_ _
  clear hS
  go_wp2_with fail
  go_ret
  exact ⟨rfl, HBW.out.trans (((HB1.out.trans (HB2.out.mono HB1.out.size)).trans (HB3.out.mono (Nat.le_trans HB1.out.size HB2.out.size))).mono HBW.out.size)⟩
end Go.Proofs.YtkdlidakdknhjaaDoor
