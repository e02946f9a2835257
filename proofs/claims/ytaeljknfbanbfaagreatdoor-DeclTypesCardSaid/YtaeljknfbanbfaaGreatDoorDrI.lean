/- Appending rows of types to a row of one's own; the walk of the reference's sigTypes. The condition: few types.
The walks of the reference's Body and bare. The condition: few parts.
The walk of the reference's Types. The condition: few parts. -/
import Derived.Test.YtaeljknfbanbfaaGreatDoorDcG
import Derived.Test.YtaeljknfbanbfaaGreatDoorDcVd
import Derived.Test.YtaeljknfbanbfaaGreatDoorDcNd
import Derived.Test.YtaeljknfbanbfaaGreatDoorExL
namespace Go.Proofs.YtaeljknfbanbfaaGreatDoor
open Go.RowKit

/-- A row of types is appended to one's own. -/
theorem wpList_app {lo s : Nat} {w V : World} {v : Value} {ts rs : List Ty} {S : Nat → Prop} {A : Option Addr} {c n : Nat} {us : List Value} {ops : Array Oper} {rest : List Oper} {o : Oper} {a : Act} {Q : Exit → Act → World → Prop} (hgd : o.guard = none) (sx x : Operand)
    (ho : o.op = .call { callee := .builtin .append, args := #[sx, x], argTypes := #[26, 26] }) (hv : a.eval sx = v) (hx : a.eval x = .slice A n c) (hr : TRow lo s w V v ts) (hF : Flat3 S V A n rs us)
    (hS : ∀ b, S b → LB lo s V b ∧ v.ownBlock ≠ some b) (hlen : ts.length + rs.length ≤ 1000000)
    (h : ∀ v' w', TRow lo s w w' v' (ts ++ rs) → wpList Tryz.prog ops Q rest (a.put o.dst v') w') : wpList Tryz.prog ops Q (o :: rest) a V := by
  obtain ⟨cs, ho1, hi1⟩ := hr.own
  obtain rfl := hF.num
  exact wpList_append_row slTy hgd sx x ho hv hx ho1 hr.bel.size hF.len hF.cells hF.ones hF.some_ hlen (by omega) fun v4 w4 hA4 => h v4 w4 (TRow.app hr.bel ho1 hi1 hF.ins hS hA4)
/-- What lies below is not the row's own block. -/
theorem TRow.low {lo s : Nat} {w V : World} {v : Value} {ts : List Ty} (hr : TRow lo s w V v ts) (hlo : lo ≤ w.heap.size) : ∀ b, b < lo → LB lo s V b ∧ v.ownBlock ≠ some b := fun b hb => by
  obtain ⟨cs, ho1, _⟩ := hr.own
  exact ⟨⟨Nat.lt_of_lt_of_le (Nat.lt_of_lt_of_le hb hlo) hr.bel.size, .inl hb⟩, own_above ho1 b (Nat.lt_of_lt_of_le hb hlo)⟩
/-- What a call has made since is not, either. -/
theorem TRow.made {lo s : Nat} {w V V' : World} {v : Value} {ts : List Ty} (hr : TRow lo s w V v ts) (hlo : lo ≤ w.heap.size) (hs : s ≤ V.heap.size) : ∀ b, LB lo V.heap.size V' b → LB lo s V' b ∧ v.ownBlock ≠ some b := fun b hb => by
  obtain ⟨cs, ho1, _⟩ := hr.own
  exact ⟨LB.up (Nat.le_refl V'.heap.size) hs b hb, own_apart ho1 hlo (Nat.le_refl _) b hb.2⟩
theorem TRow.any {lo s : Nat} {w V : World} {v : Value} {ts : List Ty} (hr : TRow lo s w V v ts) {rs : List Ty} (h : ts = rs) : TRow lo s w V v rs := h ▸ hr
theorem map_take_step {α β : Type} {f : α → β} {l : List α} {k : Nat} {x : α} (h : l[k]? = some x) : (l.take (k + 1)).map f = (l.take k).map f ++ [f x] := by
  rw [Ex.take_at h, List.map_append]; rfl

set_option maxRecDepth 100000 in
set_option maxHeartbeats 8000000 in
theorem rsigTypes_any (s : Sg) (us : List Value) (lo : Nat) (w : World) (hlo : lo ≤ w.heap.size) (hq : s.types.length ≤ 1000000) (h : s.dat.In w False (· < lo) us) : Calls Tryz.prog 69 #[.agg us.toArray] w (TsPost lo w s.types) := by
  have hb : Below w.heap.size w (w.alloc (.cells us.toArray 30)) := (Below.refl _ _).alloc (Nat.le_refl _) _
  have hx := Boxd.new w us.toArray 30
  have h0 : s.dat.In (w.alloc (.cells us.toArray 30)) False (· < lo) us := Dat.In.later h hb fun k hk => Nat.lt_of_lt_of_le hk hlo
  obtain ⟨F, nf, cf, P, np, cp, A, m, a, rfl, _, hf, hp, ht, ha⟩ := sg_open h0
  have hfl := hf.len
  have hpl := hp.len
  rw [List.length_map] at hfl hpl
  have hq2 : s.fs.length + s.ps.length + 1 ≤ 1000000 := by rw [Sg.types] at hq; simp at hq; omega
  have i0 : (nf : Int) ≤ 1000000 := by omega
  have i1 : (np : Int) ≤ 1000000 := by omega
  have HX := Lib.hid hx
  have HF := Lib.hid hf
  have HP := Lib.hid hp
  have HT := Lib.hid (show s.res.dat.In _ False (· < lo) [.string s.res.name, .slice A m a, .int .i64 s.res.off] from ty_shut ht ha)
  have HB := Lib.hid hb
  have HTY := Lib.hid (show s.types = s.fs.map Fo.ty ++ s.ps.map Fo.ty ++ [s.res] from rfl)
  go_enter Tryz.func69, Tryz.ntmps69
  go_wp2_with fail
  clear h h0 hx hf hp ht ha hq
  generalize hW : w.alloc (.cells #[.string s.name, .slice F nf cf, .slice P np cp, .string s.res.name, .slice A m a, .int .i64 s.res.off, .int .i64 s.off] 30) = W at *
  have HW := Lib.hid (show W.heap.size = w.heap.size + 1 by rw [← hW]; exact World.size_alloc _ _)
  have HLO := Lib.hid (show lo ≤ W.heap.size by have := HW.out; omega)
  clear hW hb
  go_loopw [3, 4] (fun v i wr => ∃ k : Nat, k ≤ nf ∧ i = .int .i64 k ∧ TRow lo W.heap.size W wr v ((s.fs.take k).map Fo.ty)) (fun _ i _ => nf - (intOf i).toNat)
  case atStart => exact ⟨0, by omega, rfl, by rw [List.take_zero]; exact TRow.nil lo _ W W (Below.refl _ _)⟩
  case round =>
    obtain ⟨k, hk, rfl, hrow⟩ := hrel
    have hbel := hrow.bel
    have x1 := (HX.out.later hbel) 1 _ rfl
    have y1 : (0 : Int) ≤ k := by omega
    by_cases hlt : k < nf
    · have y0 : (k : Int) < nf := by omega
      obtain ⟨pu, u, ps, rfl, hx, _, _, hu, hcs⟩ := dat_at (HF.out.later hbel fun k hk => Nat.lt_of_lt_of_le hk HLO.out) hlt
      obtain ⟨Au, mu, au, rfl, _, htu, hau⟩ := fo_open hu
      obtain ⟨f0, f1, f2, f3, f4⟩ := cells5_at hcs
      have hbn : Below wr.heap.size wr (wr.alloc (.cells #[.string u.ty.name, .slice Au mu au, .int .i64 u.ty.off] 28)) := (Below.refl _ _).alloc (Nat.le_refl _) _
      have HF1 := Lib.hid (show Flat3 (· < lo) (wr.alloc (.cells #[.string u.ty.name, .slice Au mu au, .int .i64 u.ty.off] 28)) (some ⟨wr.heap.size, 0, none⟩) 1 [u.ty] _ from flat_new 28 (ty_shut htu hau) (Nat.le_trans HLO.out hbel.size))
      have HR1 := Lib.hid (hrow.later hbn)
      have HS1 := Lib.hid (HR1.out.low HLO.out)
      have HST := Lib.hid (map_take_step (f := Fo.ty) hx)
      have HLN := Lib.hid (show ((s.fs.take k).map Fo.ty).length + [u.ty].length ≤ 1000000 by simp only [List.length_map, List.length_take, List.length_cons, List.length_nil]; omega)
      clear hx hu hcs hbel hrow htu hau hbn
      generalize (s.fs.take k).map Fo.ty = ts at *
      go_wp2_with (at_builtin; refine wpList_app rfl _ _ rfl rfl rfl HR1.out HF1.out HS1.out HLN.out ?_; intro v4 w4 hA4; have HR4 := Lib.hid hA4; clear hA4)
      go_roundw
      case rel => exact ⟨k + 1, by omega, by go_num, by rw [HST.out]; exact HR4.out⟩
      case measure => simp [intOf]; omega
    · have y0 : (nf : Int) ≤ k := by omega
      rw [List.take_of_length_le (by omega)] at hrow
      have HR := Lib.hid hrow
      clear hrow hbel
      go_wp2_with fail
      clear x1
      go_loopw [3, 5] (fun v i wr => ∃ k : Nat, k ≤ np ∧ i = .int .i64 k ∧ TRow lo W.heap.size W wr v (s.fs.map Fo.ty ++ (s.ps.take k).map Fo.ty)) (fun _ i _ => np - (intOf i).toNat)
      case atStart => exact ⟨0, by omega, rfl, HR.out.any (by simp)⟩
      case round =>
        obtain ⟨j, hj, rfl, hrow⟩ := hrel
        have hbel := hrow.bel
        have x2 := (HX.out.later hbel) 2 _ rfl
        have x3 := (HX.out.later hbel) 3 _ rfl
        have x4 := (HX.out.later hbel) 4 _ rfl
        have x5 := (HX.out.later hbel) 5 _ rfl
        have y2 : (0 : Int) ≤ j := by omega
        by_cases hlt : j < np
        · have y3 : (j : Int) < np := by omega
          obtain ⟨pu, u, ps, rfl, hx, _, _, hu, hcs⟩ := dat_at (HP.out.later hbel fun k hk => Nat.lt_of_lt_of_le hk HLO.out) hlt
          obtain ⟨Au, mu, au, rfl, _, htu, hau⟩ := fo_open hu
          obtain ⟨f0, f1, f2, f3, f4⟩ := cells5_at hcs
          have hbn : Below wr.heap.size wr (wr.alloc (.cells #[.string u.ty.name, .slice Au mu au, .int .i64 u.ty.off] 28)) := (Below.refl _ _).alloc (Nat.le_refl _) _
          have HF1 := Lib.hid (show Flat3 (· < lo) (wr.alloc (.cells #[.string u.ty.name, .slice Au mu au, .int .i64 u.ty.off] 28)) (some ⟨wr.heap.size, 0, none⟩) 1 [u.ty] _ from flat_new 28 (ty_shut htu hau) (Nat.le_trans HLO.out hbel.size))
          have HR1 := Lib.hid (hrow.later hbn)
          have HS1 := Lib.hid (HR1.out.low HLO.out)
          have HST := Lib.hid (map_take_step (f := Fo.ty) hx)
          have HLN := Lib.hid (show (s.fs.map Fo.ty ++ (s.ps.take j).map Fo.ty).length + [u.ty].length ≤ 1000000 by simp only [List.length_append, List.length_map, List.length_take, List.length_cons, List.length_nil]; omega)
          clear hx hu hcs hbel hrow htu hau hbn x3 x4 x5
          generalize (s.ps.take j).map Fo.ty = ts at *
          go_wp2_with (at_builtin; refine wpList_app rfl _ _ rfl rfl rfl HR1.out HF1.out HS1.out HLN.out ?_; intro v4 w4 hA4; have HR4 := Lib.hid hA4; clear hA4)
          go_roundw
          case rel => exact ⟨j + 1, by omega, by go_num, HR4.out.any (by rw [HST.out, List.append_assoc])⟩
          case measure => simp [intOf]; omega
        · have y3 : (np : Int) ≤ j := by omega
          rw [List.take_of_length_le (by omega)] at hrow
          have hbn : Below wr.heap.size wr (wr.alloc (.cells #[.string s.res.name, .slice A m a, .int .i64 s.res.off] 28)) := (Below.refl _ _).alloc (Nat.le_refl _) _
          have HF1 := Lib.hid (show Flat3 (· < lo) (wr.alloc (.cells #[.string s.res.name, .slice A m a, .int .i64 s.res.off] 28)) (some ⟨wr.heap.size, 0, none⟩) 1 [s.res] _ from flat_new 28 (HT.out.later hbel fun k hk => Nat.lt_of_lt_of_le hk HLO.out) (Nat.le_trans HLO.out hbel.size))
          have HR1 := Lib.hid (hrow.later hbn)
          have HS1 := Lib.hid (HR1.out.low HLO.out)
          have HLN := Lib.hid (show (s.fs.map Fo.ty ++ s.ps.map Fo.ty).length + [s.res].length ≤ 1000000 by simp only [List.length_append, List.length_map, List.length_cons, List.length_nil]; omega)
          clear hrow hbel hbn HR
          generalize hts : s.fs.map Fo.ty ++ s.ps.map Fo.ty = ts at *
          have HTS := Lib.hid hts
          clear hts
          go_wp2_with (at_builtin; refine wpList_app rfl _ _ rfl rfl rfl HR1.out HF1.out HS1.out HLN.out ?_; intro v4 w4 hA4; have HR4 := Lib.hid hA4; clear hA4)
          go_ret
          exact ⟨_, rfl, (HR4.out.from (by have := HW.out; omega) HB.out).any (by rw [HTY.out])⟩
end Go.Proofs.YtaeljknfbanbfaaGreatDoor
namespace Go.Proofs.YtaeljknfbanbfaaGreatDoor
open Go.RowKit

theorem Ex.list_le_wt : ∀ e : Ex, e.list.length ≤ e.wt := by
  refine Ex.ind fun k s t ts xs o ih => ?_
  have hL : ∀ l : List Ex, (∀ x ∈ l, x ∈ xs) → (Ex.listL l).length ≤ Ex.wtL l := by
    intro l
    induction l with
    | nil => intro _; simp [Ex.listL]
    | cons a r ih2 =>
      intro h
      have h1 := ih a (h a (by simp))
      have h2 := ih2 fun x hx => h x (by simp [hx])
      rw [Ex.listL, List.length_append, Ex.wtL]
      omega
  have h1 := hL xs fun _ h => h
  have h3 := Ty.wt_pos t
  rw [Ex.list, List.length_cons, Ex.wt]
  omega

/-- A list of expressions in one block; what they lead to lies below lo. -/
structure XsAt (lo : Nat) (w : World) (g : Nat) (es : List Ex) : Prop where
  ex : ∃ cs, (∀ j u, cs[j]? = some u → w.cell? ⟨g, j, none⟩ = some u) ∧ Dat.Ins w False (· < lo) (Ex.dats es) cs
theorem XsAt.later {lo g : Nat} {w w' : World} {es : List Ex} (h : XsAt lo w g es) (hb : Below w.heap.size w w') (hlo : lo ≤ w.heap.size) : XsAt lo w' g es := by
  obtain ⟨cs, h1, h2⟩ := h.ex
  exact ⟨cs, fun j u hu => (hb.cell (cell_lt (h1 j u hu))).trans (h1 j u hu), h2.later hb fun k hk => Nat.lt_of_lt_of_le hk hlo⟩
theorem XsAt.at {lo g k : Nat} {w : World} {es : List Ex} {x : Ex} (h : XsAt lo w g es) (hk : es[k]? = some x) : ∃ us, x.dat.In w False (· < lo) us ∧ CellsAt w ⟨g, k * 8, none⟩ us := by
  obtain ⟨cs, h1, h2⟩ := h.ex
  obtain ⟨u, h3, h4⟩ := Dat.Ins.at (z := 8) h2 (fun y hy => by rw [Ex.dats_map, List.mem_map] at hy; obtain ⟨t, _, rfl⟩ := hy; exact Ex.dat_size t) (j := k) (d := x.dat) (by rw [Ex.dats_map, List.getElem?_map, hk]; rfl)
  refine ⟨u, h3, fun i v hv => ?_⟩
  have h5 := h1 _ _ (h4 i v hv)
  rwa [← add_zero_addr, ← add_add, add_zero_addr] at h5
theorem cells8_g {w : World} {g i : Nat} {u0 u1 u2 u3 u4 u5 u6 u7 : Value} (h : CellsAt w ⟨g, i, none⟩ [u0, u1, u2, u3, u4, u5, u6, u7]) : w.cell? ⟨g, i, none⟩ = some u0 ∧ w.cell? ⟨g, i + 1, none⟩ = some u1 ∧ w.cell? ⟨g, i + 2, none⟩ = some u2
    ∧ w.cell? ⟨g, i + 3, none⟩ = some u3 ∧ w.cell? ⟨g, i + 4, none⟩ = some u4 ∧ w.cell? ⟨g, i + 5, none⟩ = some u5 ∧ w.cell? ⟨g, i + 6, none⟩ = some u6 ∧ w.cell? ⟨g, i + 7, none⟩ = some u7 := cells8_at h
theorem flatMap_take_step {α β : Type} {f : α → List β} {l : List α} {k : Nat} {x : α} (h : l[k]? = some x) : (l.take (k + 1)).flatMap f = (l.take k).flatMap f ++ f x := by
  rw [Ex.take_at h, List.flatMap_append]; simp
theorem flatMap_take_le {α β : Type} (f : α → List β) (l : List α) (k : Nat) : ((l.take k).flatMap f).length ≤ (l.flatMap f).length := by
  conv => rhs; rw [← List.take_append_drop k l, List.flatMap_append, List.length_append]
  omega

set_option maxRecDepth 100000 in
set_option maxHeartbeats 8000000 in
theorem rbody_any (x : Ex) (us : List Value) (lo : Nat) (w : World) (hlo : lo ≤ w.heap.size) (hw : x.wt ≤ 1000) (h : x.dat.In w False (· < lo) us) : Calls Tryz.prog 70 #[.agg us.toArray] w (TsPost lo w x.types) := by
  have hb : Below w.heap.size w (w.alloc (.cells us.toArray 33)) := (Below.refl _ _).alloc (Nat.le_refl _) _
  have hx := Boxd.new w us.toArray 33
  have h0 : x.dat.In (w.alloc (.cells us.toArray 33)) False (· < lo) us := Dat.In.later h hb fun k hk => Nat.lt_of_lt_of_le hk hlo
  have hll := Ex.list_le_wt x
  have hty := Ex.types_len x
  have CL := Lib.hid (xref_list_any x us _ lo (Nat.le_trans hlo hb.size) (by omega) h0)
  obtain ⟨A, m, a, B, l, b, C, n, c, rfl, _⟩ := ex_open h0
  obtain ⟨x0, x1, x2, x3, x4, x5, x6, x7⟩ := hx.c8
  have HB := Lib.hid hb
  have HTY := Lib.hid (show x.types = x.list.flatMap Ex.own from rfl)
  have HTL := Lib.hid (show (x.list.flatMap Ex.own).length ≤ 1000 by rw [← HTY.out]; omega)
  have i0 : (x.list.length : Int) ≤ 1000 := by omega
  clear h h0 hx hb hty
  go_enter Tryz.func70, Tryz.ntmps70
  go_wp2_with fail
  refine CL.out.mono ?_
  rintro e w1 ⟨g, cp, cs, rfl, hg, hcs, hin, hb1⟩
  have HXS := Lib.hid (show XsAt lo w1 g x.list from ⟨cs, hcs, hin⟩)
  have HB1 := Lib.hid (HB.out.trans (hb1.mono HB.out.size))
  have HLO := Lib.hid (Nat.le_trans hlo HB1.out.size)
  clear hcs hin hb1 hg CL HB x0 x1 x2 x3 x4 x5 x6 x7
  generalize hes : x.list = es at *
  have hel : (es.length : Int) ≤ 1000 := i0
  go_wp2_with fail
  go_loopw [3, 5] (fun v i wr => ∃ k : Nat, k ≤ es.length ∧ i = .int .i64 k ∧ TRow lo w1.heap.size w1 wr v ((es.take k).flatMap Ex.own)) (fun _ i _ => es.length - (intOf i).toNat)
  case atStart => exact ⟨0, by omega, rfl, by rw [List.take_zero]; exact TRow.nil lo _ w1 w1 (Below.refl _ _)⟩
  case round =>
    obtain ⟨k, hk, rfl, hrow⟩ := hrel
    have hbel := hrow.bel
    have y1 : (0 : Int) ≤ k := by omega
    by_cases hlt : k < es.length
    · have y0 : (k : Int) < es.length := by omega
      obtain ⟨u, hxk⟩ : ∃ u, es[k]? = some u := ⟨_, List.getElem?_eq_getElem hlt⟩
      obtain ⟨ps, hu1, hcs1⟩ := HXS.out.at hxk
      have hu := hu1.later hbel fun k hk => Nat.lt_of_lt_of_le hk HLO.out
      have hcs := hcs1.later hbel
      have HST := Lib.hid (flatMap_take_step (f := Ex.own) hxk)
      have hle := flatMap_take_le Ex.own es (k + 1)
      rw [HST.out, List.length_append] at hle
      have htl := HTL.out
      obtain ⟨Au, mu, au, Bu, lu, bu, Cu, nu, cu, rfl, _, htu, hau, hbu, _⟩ := ex_open hu
      obtain ⟨us3, hF3⟩ := Row.flat (lies_row.1 hbu) (fun b hb => Nat.lt_of_lt_of_le hb (Nat.le_trans HLO.out hbel.size))
      have HF3 := Lib.hid hF3
      have HR1 := Lib.hid hrow
      have HS1 := Lib.hid (hrow.low HLO.out)
      have HCS := Lib.hid hcs1
      obtain ⟨c0, c1, c2, c3, c4, c5, c6, c7⟩ := cells8_g hcs
      have HTD := Lib.hid (show u.ty.dat.In w1 False (· < lo) [.string u.ty.name, .slice Au mu au, .int .i64 u.ty.off] by
        obtain ⟨A', m', a', B', l', b', C', n', c', e', _, h1, h2, _⟩ := ex_open hu1
        simp only [List.cons.injEq, Value.slice.injEq] at e'
        obtain ⟨_, _, _, ⟨rfl, rfl, rfl⟩, _⟩ := e'
        exact ty_shut h1 h2)
      have HOW := Lib.hid (show Ex.own u = u.targs ++ if Ex.typed u.kind then [u.ty] else [] from rfl)
      have HLN := Lib.hid (show ((es.take k).flatMap Ex.own).length + (Ex.own u).length ≤ 1000 by omega)
      clear hu hu1 hcs hcs1 hrow htu hau hbu hF3 hle htl hxk
      generalize (es.take k).flatMap Ex.own = ts at *
      have HL1 := Lib.hid (show ts.length + u.targs.length ≤ 1000000 by have := HLN.out; rw [HOW.out, List.length_append] at this; omega)
      have hk3 : (u.kind = 3 ∧ Ex.typed u.kind = true) ∨ (u.kind = 5 ∧ Ex.typed u.kind = true) ∨ ((u.kind == 3) = false ∧ (u.kind == 5) = false ∧ Ex.typed u.kind = false) := by
        by_cases h3 : u.kind = 3
        · exact .inl ⟨h3, by rw [h3]; rfl⟩
        · by_cases h5 : u.kind = 5
          · exact .inr (.inl ⟨h5, by rw [h5]; rfl⟩)
          · exact .inr (.inr ⟨by simp [h3], by simp [h5], by simp [Ex.typed, h3, h5]⟩)
      rcases hk3 with ⟨h3, ht⟩ | ⟨h5, ht⟩ | ⟨h3, h5, ht⟩
      · have e3 : (u.kind == 3) = true := by simp [h3]
        rw [ht, if_pos rfl] at HOW
        have HL2 := Lib.hid (show (ts ++ u.targs).length + [u.ty].length ≤ 1000000 by have := HLN.out; rw [HOW.out, List.length_append] at this; rw [List.length_append]; omega)
        clear h3
        go_wp2_with (at_builtin; first
          | (refine wpList_app rfl _ _ rfl rfl rfl HR1.out HF3.out HS1.out HL1.out ?_; intro v4 w4 hA4; have HR4 := Lib.hid hA4; clear hA4
             obtain ⟨d0, d1, d2, d3, d4, d5, d6, d7⟩ := cells8_g (HCS.out.later HR4.out.bel)
             have hbn : Below w4.heap.size w4 (w4.alloc (.cells #[.string u.ty.name, .slice Au mu au, .int .i64 u.ty.off] 28)) := (Below.refl _ _).alloc (Nat.le_refl _) _
             have HF5 := Lib.hid (show Flat3 (· < lo) (w4.alloc (.cells #[.string u.ty.name, .slice Au mu au, .int .i64 u.ty.off] 28)) (some ⟨w4.heap.size, 0, none⟩) 1 [u.ty] _ from flat_new 28 (HTD.out.later HR4.out.bel fun k hk => Nat.lt_of_lt_of_le hk HLO.out) (Nat.le_trans HLO.out HR4.out.bel.size))
             have HR5 := Lib.hid (HR4.out.later hbn)
             have HS5 := Lib.hid (HR5.out.low HLO.out)
             clear c0 c1 c2 c3 c4 c5 c6 c7 HR1 HS1 HF3 hbn HR4)
          | (refine wpList_app rfl _ _ rfl rfl rfl HR5.out HF5.out HS5.out HL2.out ?_; intro v6 w6 hA6; have HR6 := Lib.hid hA6; clear hA6))
        go_roundw
        case rel => exact ⟨k + 1, by omega, by go_num, HR6.out.any (by rw [HST.out, HOW.out, List.append_assoc])⟩
        case measure => simp [intOf]; omega
      · have e3 : (u.kind == 3) = false := by simp [h5]
        have e5 : (u.kind == 5) = true := by simp [h5]
        rw [ht, if_pos rfl] at HOW
        have HL2 := Lib.hid (show (ts ++ u.targs).length + [u.ty].length ≤ 1000000 by have := HLN.out; rw [HOW.out, List.length_append] at this; rw [List.length_append]; omega)
        clear h5
        go_wp2_with (at_builtin; first
          | (refine wpList_app rfl _ _ rfl rfl rfl HR1.out HF3.out HS1.out HL1.out ?_; intro v4 w4 hA4; have HR4 := Lib.hid hA4; clear hA4
             obtain ⟨d0, d1, d2, d3, d4, d5, d6, d7⟩ := cells8_g (HCS.out.later HR4.out.bel)
             have hbn : Below w4.heap.size w4 (w4.alloc (.cells #[.string u.ty.name, .slice Au mu au, .int .i64 u.ty.off] 28)) := (Below.refl _ _).alloc (Nat.le_refl _) _
             have HF5 := Lib.hid (show Flat3 (· < lo) (w4.alloc (.cells #[.string u.ty.name, .slice Au mu au, .int .i64 u.ty.off] 28)) (some ⟨w4.heap.size, 0, none⟩) 1 [u.ty] _ from flat_new 28 (HTD.out.later HR4.out.bel fun k hk => Nat.lt_of_lt_of_le hk HLO.out) (Nat.le_trans HLO.out HR4.out.bel.size))
             have HR5 := Lib.hid (HR4.out.later hbn)
             have HS5 := Lib.hid (HR5.out.low HLO.out)
             clear c0 c1 c2 c3 c4 c5 c6 c7 HR1 HS1 HF3 hbn HR4)
          | (refine wpList_app rfl _ _ rfl rfl rfl HR5.out HF5.out HS5.out HL2.out ?_; intro v6 w6 hA6; have HR6 := Lib.hid hA6; clear hA6))
        go_roundw
        case rel => exact ⟨k + 1, by omega, by go_num, HR6.out.any (by rw [HST.out, HOW.out, List.append_assoc])⟩
        case measure => simp [intOf]; omega
      · rw [ht, if_neg (by simp), List.append_nil] at HOW
        go_wp2_with (at_builtin; first
          | (refine wpList_app rfl _ _ rfl rfl rfl HR1.out HF3.out HS1.out HL1.out ?_; intro v4 w4 hA4; have HR4 := Lib.hid hA4; clear hA4
             obtain ⟨d0, d1, d2, d3, d4, d5, d6, d7⟩ := cells8_g (HCS.out.later HR4.out.bel)
             clear c0 c1 c2 c3 c4 c5 c6 c7 HR1 HS1 HF3))
        go_roundw
        case rel => exact ⟨k + 1, by omega, by go_num, HR4.out.any (by rw [HST.out, HOW.out])⟩
        case measure => simp [intOf]; omega
    · have y0 : (es.length : Int) ≤ k := by omega
      rw [List.take_of_length_le (by omega)] at hrow
      have HR := Lib.hid hrow
      clear hrow hbel
      go_wp2_with fail
      go_ret
      exact ⟨_, rfl, (HR.out.from HB1.out.size HB1.out).any (by rw [HTY.out])⟩

set_option maxRecDepth 100000 in
set_option maxHeartbeats 8000000 in
theorem rbare_any (x : Ex) (us : List Value) (w : World) (hw : x.wt ≤ 1000) (h : x.dat.H w us) : Calls Tryz.prog 80 #[.agg us.toArray] w (EqvPost w x.bare) := by
  have hb : Below w.heap.size w (w.alloc (.cells us.toArray 33)) := (Below.refl _ _).alloc (Nat.le_refl _) _
  have hx := Boxd.new w us.toArray 33
  have h0 : x.dat.In (w.alloc (.cells us.toArray 33)) False (· < w.heap.size) us := Dat.In.later h hb fun k hk => hk
  have hll := Ex.list_le_wt x
  have CL := Lib.hid (xref_list_any x us _ w.heap.size hb.size (by omega) h0)
  obtain ⟨A, m, a, B, l, b, C, n, c, rfl, _⟩ := ex_open h0
  obtain ⟨x0, x1, x2, x3, x4, x5, x6, x7⟩ := hx.c8
  have HB := Lib.hid hb
  have i0 : (x.list.length : Int) ≤ 1000 := by omega
  have HD := Lib.hid (show x.bare = x.list.all Ex.bare1 from rfl)
  clear h h0 hx hb
  go_enter Tryz.func80, Tryz.ntmps80
  go_wp2_with fail
  refine CL.out.mono ?_
  rintro e w1 ⟨g, cp, cs, rfl, hg, hcs, hin, hb1⟩
  have HXS := Lib.hid (show XsAt w.heap.size w1 g x.list from ⟨cs, hcs, hin⟩)
  have HB1 := Lib.hid (HB.out.trans (hb1.mono HB.out.size))
  clear hcs hin hb1 hg CL HB x0 x1 x2 x3 x4 x5 x6 x7
  generalize hes : x.list = es at *
  have hel : (es.length : Int) ≤ 1000 := i0
  go_wp2_with fail
  go_loopw [4] (fun i wr => ∃ k : Nat, k ≤ es.length ∧ i = .int .i64 k ∧ es.all Ex.bare1 = (es.drop k).all Ex.bare1 ∧ wr = w1) (fun i _ => es.length - (intOf i).toNat)
  case atStart => exact ⟨0, by omega, rfl, rfl, rfl⟩
  case round =>
    obtain ⟨k, hk, rfl, hq, rfl⟩ := hrel
    have HQ := Lib.hid hq
    have y1 : (0 : Int) ≤ k := by omega
    clear hq
    by_cases hlt : k < es.length
    · have y0 : (k : Int) < es.length := by omega
      obtain ⟨u, hxk⟩ : ∃ u, es[k]? = some u := ⟨_, List.getElem?_eq_getElem hlt⟩
      obtain ⟨ps, hu, hcs⟩ := HXS.out.at hxk
      have HS := Lib.hid (HQ.out.trans (allBy_on hxk))
      obtain ⟨Au, mu, au, Bu, lu, bu, Cu, nu, cu, rfl, _, htu, hau, hbu, _⟩ := ex_open hu
      obtain ⟨c0, c1, c2, c3, c4, c5, c6, c7⟩ := cells8_g hcs
      have hbl := hbu.len
      have y2 : (0 : Int) ≤ lu := by omega
      obtain ⟨q, hq⟩ : ∃ q : Bool, Ex.bare1 u = q := ⟨_, rfl⟩
      have hq2 := hq
      rw [Ex.bare1, hbl] at hq2
      rw [hq] at HS
      clear hu hcs hau hbu hxk hq
      cases q
      · have y3 : (0 : Int) < lu := by simp at hq2; omega
        go_wp2_with fail
        go_ret
        exact ⟨ret_bool (by rw [HD.out, HS.out]; rfl), HB1.out⟩
      · have y3 : (lu : Int) ≤ 0 := by simp at hq2; omega
        go_wp2_with fail
        go_roundw
        case rel => exact ⟨k + 1, by omega, by go_num, HS.out, trivial⟩
        case measure => simp [intOf]; omega
    · have y0 : (es.length : Int) ≤ k := by omega
      have hq := HQ.out
      rw [List.drop_eq_nil_of_le (by omega), List.all_nil] at hq
      have HQ2 := Lib.hid hq
      clear hq
      go_wp2_with fail
      go_ret
      exact ⟨ret_bool (by rw [HD.out, HQ2.out]), HB1.out⟩
end Go.Proofs.YtaeljknfbanbfaaGreatDoor
namespace Go.Proofs.YtaeljknfbanbfaaGreatDoor
open Go.RowKit

/-- A box beside a row of one's own. -/
structure BoxA (W : World) (v : Value) (b : Nat) (us : List Value) : Prop where
  box : Boxd W b us
  ne : v.ownBlock ≠ some b
  lt : b < W.heap.size
theorem BoxA.later {W W' : World} {v : Value} {b : Nat} {us : List Value} (h : BoxA W v b us) (hb : Below W.heap.size W W') : BoxA W' v b us := ⟨h.box.later hb, h.ne, Nat.lt_of_lt_of_le h.lt hb.size⟩
theorem BoxA.app {W W' : World} {v v' : Value} {b base n m size : Nat} {e : TypeId} {xs ys us : List Value} (h : BoxA W v b us) (hA : Appd W W' base e size n m v v' xs ys) : BoxA W' v' b us :=
  ⟨fun j u hu => by
    have h1 := h.box j u hu
    exact (hA.grow.cell_far ⟨b, j, none⟩ h.lt (fun e => h.ne e.symm)).trans h1,
   fun e => by
    rcases hA.at_ with h3 | h3
    · exact h.ne (h3 ▸ e)
    · rw [h3] at e
      have h4 : W.heap.size = b := by injection e
      have := h.lt
      omega, Nat.lt_of_lt_of_le h.lt hA.grow.size⟩
/-- The same as wpList_app, beside a box. -/
theorem wpList_appB {lo s b : Nat} {w V : World} {v : Value} {ts rs : List Ty} {S : Nat → Prop} {A : Option Addr} {c n : Nat} {us bs : List Value} {ops : Array Oper} {rest : List Oper} {o : Oper} {a : Act} {Q : Exit → Act → World → Prop} (hgd : o.guard = none) (sx x : Operand)
    (ho : o.op = .call { callee := .builtin .append, args := #[sx, x], argTypes := #[26, 26] }) (hv : a.eval sx = v) (hx : a.eval x = .slice A n c) (hr : TRow lo s w V v ts) (hF : Flat3 S V A n rs us)
    (hS : ∀ b, S b → LB lo s V b ∧ v.ownBlock ≠ some b) (hB : BoxA V v b bs) (hlen : ts.length + rs.length ≤ 1000000)
    (h : ∀ v' w', TRow lo s w w' v' (ts ++ rs) → BoxA w' v' b bs → wpList Tryz.prog ops Q rest (a.put o.dst v') w') : wpList Tryz.prog ops Q (o :: rest) a V := by
  obtain ⟨cs, ho1, hi1⟩ := hr.own
  obtain rfl := hF.num
  exact wpList_append_row slTy hgd sx x ho hv hx ho1 hr.bel.size hF.len hF.cells hF.ones hF.some_ hlen (by omega) fun v4 w4 hA4 => h v4 w4 (TRow.app hr.bel ho1 hi1 hF.ins hS hA4) (hB.app hA4)
theorem Dc.tyl (d : Dc) : (d.fs.map Fo.ty ++ d.ms.map Fo.ty ++ d.gs.flatMap Sg.types).length ≤ d.types.length := by
  rw [Dc.types]
  simp only [List.length_append]
  omega
theorem Pg.tyl {p : Pg} {k : Nat} {u : Dc} (h : p.ds[k]? = some u) (hw : p.wt ≤ 1000) : ((p.ds.take k).flatMap Dc.types).length + u.types.length ≤ 1000 := by
  have h1 := Pg.types_len p
  have h2 := flatMap_take_le Dc.types p.ds (k + 1)
  rw [flatMap_take_step h, List.length_append] at h2
  rw [Pg.types, List.length_append] at h1
  omega

set_option maxRecDepth 100000 in
set_option maxHeartbeats 16000000 in
theorem rtypes_any (p : Pg) (us : List Value) (lo : Nat) (w : World) (hlo : lo ≤ w.heap.size) (hw : p.wt ≤ 1000) (h : p.dat.In w False (· < lo) us) : Calls Tryz.prog 19 #[.agg us.toArray] w (TsPost lo w p.types) := by
  have hb : Below w.heap.size w (w.alloc (.cells us.toArray 40)) := (Below.refl _ _).alloc (Nat.le_refl _) _
  have hx := Boxd.new w us.toArray 40
  have h0 : p.dat.In (w.alloc (.cells us.toArray 40)) False (· < lo) us := Dat.In.later h hb fun k hk => Nat.lt_of_lt_of_le hk hlo
  obtain ⟨Dp, n, c, A3, m3, a3, B3, l3, b3, C3, n3, c3, rfl, hd, hm⟩ := pg_full h0
  have hdl := hd.len
  rw [List.length_map] at hdl
  have i0 : (n : Int) ≤ 1000 := by have := sumBy_len Dc.wt_pos p.ds; have := hw; unfold Pg.wt at this; omega
  have HX := Lib.hid hx
  have HDS := Lib.hid hd
  have HM := Lib.hid hm
  have HB := Lib.hid hb
  go_enter Tryz.func19, Tryz.ntmps19
  go_wp2_with fail
  clear h h0 hx hd hm
  generalize hW : w.alloc (.cells #[.slice Dp n c, .int .i64 p.main.kind, .string p.main.name, .string p.main.ty.name, .slice A3 m3 a3, .int .i64 p.main.ty.off, .slice B3 l3 b3, .slice C3 n3 c3, .int .i64 p.main.off] 40) = W at *
  have HW := Lib.hid (show W.heap.size = w.heap.size + 1 by rw [← hW]; exact World.size_alloc _ _)
  have HLO := Lib.hid (show lo ≤ W.heap.size by have := HW.out; omega)
  clear hW hb
  go_loopw [3, 4] (fun v i wr => ∃ k : Nat, k ≤ n ∧ i = .int .i64 k ∧ TRow lo W.heap.size W wr v ((p.ds.take k).flatMap Dc.types)) (fun _ i _ => n - (intOf i).toNat)
  case atStart => exact ⟨0, by omega, rfl, by rw [List.take_zero]; exact TRow.nil lo _ W W (Below.refl _ _)⟩
  case round =>
    obtain ⟨k, hk, rfl, hrow⟩ := hrel
    have hbel := hrow.bel
    have y1 : (0 : Int) ≤ k := by omega
    by_cases hlt : k < n
    · have x0 := (HX.out.later hbel) 0 _ rfl
      have y0 : (k : Int) < n := by omega
      obtain ⟨pu, u, ps, rfl, hxk, _, _, hu, hcs⟩ := dat_at HDS.out hlt
      have HLU := Lib.hid (dc_len hu)
      have HOU := Lib.hid (dc_cells hu)
      have HFC := Lib.hid (hcs.later hbel)
      obtain ⟨W1, hP1⟩ := put23 wr HLU.out
      have HP1 := Lib.hid hP1
      have HR1 := Lib.hid (hrow.later hP1.bel)
      obtain ⟨cs0, ho0, _⟩ := hrow.own
      have HST := Lib.hid (flatMap_take_step (f := Dc.types) hxk)
      have HTL := Lib.hid (Pg.tyl hxk hw)
      have HTL2 := Lib.hid (Dc.tyl u)
      have HWU := Lib.hid (show u.wt ≤ 1000 from Nat.le_trans (Pg.wt_d (List.mem_of_getElem? hxk)) hw)
      obtain ⟨F, nf, cf, P, np, cp, G, ng, cg, V, nv, cv, F2, nf2, cf2, P2, np2, cp2, A2, m2, a2, A4, m4, a4, B4, l4, b4, C4, n4, c4, hps, _, hf, hp, hg, _, _, hs, hbd⟩ := dc_full hu
      have HPS := Lib.hid hps
      have HB1 := Lib.hid (show BoxA W1 _ wr.heap.size ps from ⟨hP1.box, (fun e => by have := (ho0.lt _ e).2; omega), cell_lt (hP1.box 0 _ (by rw [hps]; rfl))⟩)
      have hfl := hf.len
      have hpl := hp.len
      have hgl := hg.len
      rw [List.length_map] at hfl hpl hgl
      have i1 : (nf : Int) ≤ 1000 := by have := u.len_f; have := HWU.out; omega
      have i2 : (np : Int) ≤ 1000 := by have := u.len_m; have := HWU.out; omega
      have i3 : (ng : Int) ≤ 1000 := by have := u.len_g; have := HWU.out; omega
      have HF := Lib.hid hf
      have HP := Lib.hid hp
      have HG := Lib.hid hg
      have HSD := Lib.hid hs
      have HBD := Lib.hid hbd
      clear hu hcs hbel hrow hP1 ho0 hps hf hp hg hs hbd hxk
      generalize (p.ds.take k).flatMap Dc.types = pre at *
      go_wp2_with (first
        | (refine loadDc 19 20 rfl HFC.out HLU.out ?_)
        | (refine storeDc 5 20 (b := wr.heap.size) (o := 0) rfl rfl HP1.out.there HOU.out HLU.out ?_; rw [HP1.out.eq]))
      clear x0 HFC HP1
      generalize wr.heap.size = b0 at *
      go_loopw [3, 6] (fun v i wr => ∃ j : Nat, j ≤ nf ∧ i = .int .i64 j ∧ TRow lo W.heap.size W wr v (pre ++ (u.fs.take j).map Fo.ty) ∧ BoxA wr v b0 ps) (fun _ i _ => nf - (intOf i).toNat)
      case atStart => exact ⟨0, by omega, rfl, HR1.out.any (by simp), HB1.out⟩
      case round =>
        obtain ⟨j, hj, rfl, hrow, hbox⟩ := hrel
        have hbel := hrow.bel
        have z6 := hbox.box 2 _ (by rw [HPS.out]; rfl)
        have y2 : (0 : Int) ≤ j := by omega
        by_cases hlt : j < nf
        · have y3 : (j : Int) < nf := by omega
          obtain ⟨pu2, t, qs, rfl, hx, _, _, hu, hcs⟩ := dat_at (HF.out.later hbel fun k hk => Nat.lt_of_lt_of_le hk HLO.out) hlt
          obtain ⟨Au, mu, au, rfl, _, htu, hau⟩ := fo_open hu
          obtain ⟨f0, f1, f2, f3, f4⟩ := cells5_at hcs
          have hbn : Below wr.heap.size wr (wr.alloc (.cells #[.string t.ty.name, .slice Au mu au, .int .i64 t.ty.off] 28)) := (Below.refl _ _).alloc (Nat.le_refl _) _
          have HF7 := Lib.hid (show Flat3 (· < lo) (wr.alloc (.cells #[.string t.ty.name, .slice Au mu au, .int .i64 t.ty.off] 28)) (some ⟨wr.heap.size, 0, none⟩) 1 [t.ty] _ from flat_new 28 (ty_shut htu hau) (Nat.le_trans HLO.out hbel.size))
          have HR7 := Lib.hid (hrow.later hbn)
          have HB7 := Lib.hid (hbox.later hbn)
          have HS7 := Lib.hid (HR7.out.low HLO.out)
          have HST2 := Lib.hid (map_take_step (f := Fo.ty) hx)
          have HLN := Lib.hid (show (pre ++ (u.fs.take j).map Fo.ty).length + [t.ty].length ≤ 1000000 by have := HTL.out; have := u.len_f; have := u.len_m; have := HWU.out; simp only [List.length_append, List.length_map, List.length_take, List.length_cons, List.length_nil]; omega)
          clear hx hu hcs hbel hrow htu hau hbn hbox
          generalize (u.fs.take j).map Fo.ty = ts2 at *
          go_wp2_with (at_builtin; refine wpList_appB rfl _ _ rfl rfl rfl HR7.out HF7.out HS7.out HB7.out HLN.out ?_; intro v8 w8 hA8 hB8; have HR8 := Lib.hid hA8; have HB8 := Lib.hid hB8; clear hA8 hB8)
          go_roundw
          case rel => exact ⟨j + 1, by omega, by go_num, HR8.out.any (by rw [HST2.out]; simp [List.append_assoc]), HB8.out⟩
          case measure => simp [intOf]; omega
        · have y3 : (nf : Int) ≤ j := by omega
          rw [List.take_of_length_le (by omega)] at hrow
          have HR2 := Lib.hid hrow
          have HB2 := Lib.hid hbox
          clear hrow hbel hbox HR1 HB1
          go_wp2_with fail
          clear z6
          go_loopw [3, 7] (fun v i wr => ∃ j : Nat, j ≤ np ∧ i = .int .i64 j ∧ TRow lo W.heap.size W wr v ((pre ++ u.fs.map Fo.ty) ++ (u.ms.take j).map Fo.ty) ∧ BoxA wr v b0 ps) (fun _ i _ => np - (intOf i).toNat)
          case atStart => exact ⟨0, by omega, rfl, HR2.out.any (by simp), HB2.out⟩
          case round =>
            obtain ⟨j, hj, rfl, hrow, hbox⟩ := hrel
            have hbel := hrow.bel
            have z7 := hbox.box 3 _ (by rw [HPS.out]; rfl)
            have y2 : (0 : Int) ≤ j := by omega
            by_cases hlt : j < np
            · have y3 : (j : Int) < np := by omega
              obtain ⟨pu2, t, qs, rfl, hx, _, _, hu, hcs⟩ := dat_at (HP.out.later hbel fun k hk => Nat.lt_of_lt_of_le hk HLO.out) hlt
              obtain ⟨Au, mu, au, rfl, _, htu, hau⟩ := fo_open hu
              obtain ⟨f0, f1, f2, f3, f4⟩ := cells5_at hcs
              have hbn : Below wr.heap.size wr (wr.alloc (.cells #[.string t.ty.name, .slice Au mu au, .int .i64 t.ty.off] 28)) := (Below.refl _ _).alloc (Nat.le_refl _) _
              have HF7 := Lib.hid (show Flat3 (· < lo) (wr.alloc (.cells #[.string t.ty.name, .slice Au mu au, .int .i64 t.ty.off] 28)) (some ⟨wr.heap.size, 0, none⟩) 1 [t.ty] _ from flat_new 28 (ty_shut htu hau) (Nat.le_trans HLO.out hbel.size))
              have HR7 := Lib.hid (hrow.later hbn)
              have HB7 := Lib.hid (hbox.later hbn)
              have HS7 := Lib.hid (HR7.out.low HLO.out)
              have HST2 := Lib.hid (map_take_step (f := Fo.ty) hx)
              have HLN := Lib.hid (show ((pre ++ u.fs.map Fo.ty) ++ (u.ms.take j).map Fo.ty).length + [t.ty].length ≤ 1000000 by have := HTL.out; have := u.len_f; have := u.len_m; have := HWU.out; simp only [List.length_append, List.length_map, List.length_take, List.length_cons, List.length_nil]; omega)
              clear hx hu hcs hbel hrow htu hau hbn hbox
              generalize (u.ms.take j).map Fo.ty = ts2 at *
              go_wp2_with (at_builtin; refine wpList_appB rfl _ _ rfl rfl rfl HR7.out HF7.out HS7.out HB7.out HLN.out ?_; intro v8 w8 hA8 hB8; have HR8 := Lib.hid hA8; have HB8 := Lib.hid hB8; clear hA8 hB8)
              go_roundw
              case rel => exact ⟨j + 1, by omega, by go_num, HR8.out.any (by rw [HST2.out]; simp [List.append_assoc]), HB8.out⟩
              case measure => simp [intOf]; omega
            · have y3 : (np : Int) ≤ j := by omega
              rw [List.take_of_length_le (by omega)] at hrow
              have HR3 := Lib.hid hrow
              have HB3 := Lib.hid hbox
              clear hrow hbel hbox HR2 HB2
              go_wp2_with fail
              clear z7
              go_loopw [3, 8] (fun v i wr => ∃ j : Nat, j ≤ ng ∧ i = .int .i64 j ∧ TRow lo W.heap.size W wr v (pre ++ u.fs.map Fo.ty ++ u.ms.map Fo.ty ++ (u.gs.take j).flatMap Sg.types) ∧ BoxA wr v b0 ps) (fun _ i _ => ng - (intOf i).toNat)
              case atStart => exact ⟨0, by omega, rfl, HR3.out.any (by simp), HB3.out⟩
              case round =>
                obtain ⟨j, hj, rfl, hrow, hbox⟩ := hrel
                have hbel := hrow.bel
                have z8 := hbox.box 4 _ (by rw [HPS.out]; rfl)
                have y2 : (0 : Int) ≤ j := by omega
                by_cases hlt : j < ng
                · have y3 : (j : Int) < ng := by omega
                  obtain ⟨pu2, t, qs, rfl, hx, _, _, hu, hcs⟩ := dat_at (HG.out.later hbel fun k hk => Nat.lt_of_lt_of_le hk HLO.out) hlt
                  have hle := flatMap_take_le Sg.types u.gs (j + 1)
                  have HST2 := Lib.hid (flatMap_take_step (f := Sg.types) hx)
                  rw [HST2.out, List.length_append] at hle
                  have HTT := Lib.hid (show t.types.length ≤ 1000000 by have := HTL.out; have := HTL2.out; simp only [List.length_append] at this; omega)
                  have C := Lib.hid (rsigTypes_any t qs lo wr (Nat.le_trans HLO.out hbel.size) HTT.out hu)
                  obtain ⟨Fu, nfu, cfu, Pu, npu, cpu, Au, mu, au, rfl, _⟩ := sg_open hu
                  obtain ⟨f0, f1, f2, f3, f4, f5, f6⟩ := cells7_at hcs
                  have HR7 := Lib.hid hrow
                  have HB7 := Lib.hid hbox
                  have HLN := Lib.hid (show (pre ++ u.fs.map Fo.ty ++ u.ms.map Fo.ty ++ (u.gs.take j).flatMap Sg.types).length + t.types.length ≤ 1000000 by have := HTL.out; have := HTL2.out; simp only [List.length_append] at this ⊢; omega)
                  clear hx hu hcs hbel hrow hbox hle
                  generalize (u.gs.take j).flatMap Sg.types = ts2 at *
                  generalize t.types = rs at *
                  go_wp2_with fail
                  refine C.out.mono ?_
                  rintro e w5 ⟨v5, rfl, hr5⟩
                  obtain ⟨A5, c5, us5, rfl, hF5⟩ := hr5.flat (Nat.le_refl _)
                  have HF5 := Lib.hid hF5
                  have HR5 := Lib.hid (HR7.out.later hr5.bel)
                  have HB5 := Lib.hid (HB7.out.later hr5.bel)
                  have HS5 := Lib.hid (fun b hb => HR7.out.made HLO.out HR7.out.bel.size (V' := w5) b hb)
                  clear hr5 hF5 C z8 HR7 HB7 f0 f1 f2 f3 f4 f5 f6
                  go_wp2_with (at_builtin; refine wpList_appB rfl _ _ rfl rfl rfl HR5.out HF5.out HS5.out HB5.out HLN.out ?_; intro v8 w8 hA8 hB8; have HR8 := Lib.hid hA8; have HB8 := Lib.hid hB8; clear hA8 hB8)
                  go_roundw
                  case rel => exact ⟨j + 1, by omega, by go_num, HR8.out.any (by rw [HST2.out]; simp [List.append_assoc]), HB8.out⟩
                  case measure => simp [intOf]; omega
                · have y3 : (ng : Int) ≤ j := by omega
                  rw [List.take_of_length_le (by omega)] at hrow
                  have HR4 := Lib.hid hrow
                  have HB4 := Lib.hid hbox
                  have hk0 := hbox.box 0 _ (by rw [HPS.out]; rfl)
                  have HTU := Lib.hid (show u.types = u.fs.map Fo.ty ++ u.ms.map Fo.ty ++ u.gs.flatMap Sg.types ++ if u.kind = 3 then u.sig.types ++ u.body.types else [] from rfl)
                  by_cases hk3 : u.kind = 3
                  · have e3 : (u.kind == 3) = true := by simp [hk3]
                    rw [if_pos hk3] at HTU
                    have b7 := hbox.box 7 _ (by rw [HPS.out]; rfl)
                    have b8 := hbox.box 8 _ (by rw [HPS.out]; rfl)
                    have b9 := hbox.box 9 _ (by rw [HPS.out]; rfl)
                    have b10 := hbox.box 10 _ (by rw [HPS.out]; rfl)
                    have b11 := hbox.box 11 _ (by rw [HPS.out]; rfl)
                    have b12 := hbox.box 12 _ (by rw [HPS.out]; rfl)
                    have b13 := hbox.box 13 _ (by rw [HPS.out]; rfl)
                    have HLS := Lib.hid (show pre.length + ((u.fs.map Fo.ty ++ u.ms.map Fo.ty ++ u.gs.flatMap Sg.types).length + (u.sig.types.length + u.body.types.length)) ≤ 1000 by have := HTL.out; rw [HTU.out] at this; simp only [List.length_append] at this ⊢; omega)
                    have C := Lib.hid (rsigTypes_any u.sig _ lo wr (Nat.le_trans HLO.out hbel.size) (by have := HLS.out; omega) (HSD.out.later hbel fun k hk => Nat.lt_of_lt_of_le hk HLO.out))
                    have C2 := Lib.hid (fun (X : World) (hX : Below W.heap.size W X) => rbody_any u.body _ lo X (Nat.le_trans HLO.out hX.size) (Nat.le_trans Dc.wt_b HWU.out) (HBD.out.later hX fun k hk => Nat.lt_of_lt_of_le hk HLO.out))
                    have HLN := Lib.hid (show (pre ++ u.fs.map Fo.ty ++ u.ms.map Fo.ty ++ u.gs.flatMap Sg.types).length + u.sig.types.length ≤ 1000000 by have := HLS.out; simp only [List.length_append] at this ⊢; omega)
                    have HLN2 := Lib.hid (show (pre ++ u.fs.map Fo.ty ++ u.ms.map Fo.ty ++ u.gs.flatMap Sg.types ++ u.sig.types).length + u.body.types.length ≤ 1000000 by have := HLS.out; simp only [List.length_append] at this ⊢; omega)
                    have HFIN := Lib.hid (show pre ++ u.fs.map Fo.ty ++ u.ms.map Fo.ty ++ u.gs.flatMap Sg.types ++ u.sig.types ++ u.body.types = pre ++ u.types by rw [HTU.out]; simp [List.append_assoc])
                    clear hrow hbel hbox HR3 HB3
                    generalize pre ++ u.fs.map Fo.ty ++ u.ms.map Fo.ty ++ u.gs.flatMap Sg.types = t4 at *
                    generalize u.sig.types = t5 at *
                    generalize u.body.types = t6 at *
                    go_wp2_with fail
                    refine C.out.mono ?_
                    rintro e w5 ⟨v5, rfl, hr5⟩
                    obtain ⟨A5, c5, us5, rfl, hF5⟩ := hr5.flat (Nat.le_refl _)
                    have HF5 := Lib.hid hF5
                    have HR5 := Lib.hid (HR4.out.later hr5.bel)
                    have HB5 := Lib.hid (HB4.out.later hr5.bel)
                    have HS5 := Lib.hid (fun b hb => HR4.out.made HLO.out HR4.out.bel.size (V' := w5) b hb)
                    clear hr5 hF5 C z8 HR4 HB4 b7 b8 b9 b10 b11 b12 b13 hk0
                    go_wp2_with (at_builtin; refine wpList_appB rfl _ _ rfl rfl rfl HR5.out HF5.out HS5.out HB5.out HLN.out ?_; intro v8 w8 hA8 hB8; have HR8 := Lib.hid hA8; have HB8 := Lib.hid hB8; clear hA8 hB8
                                 have b14 := HB8.out.box 14 _ (by rw [HPS.out]; rfl); have b15 := HB8.out.box 15 _ (by rw [HPS.out]; rfl); have b16 := HB8.out.box 16 _ (by rw [HPS.out]; rfl); have b17 := HB8.out.box 17 _ (by rw [HPS.out]; rfl)
                                 have b18 := HB8.out.box 18 _ (by rw [HPS.out]; rfl); have b19 := HB8.out.box 19 _ (by rw [HPS.out]; rfl); have b20 := HB8.out.box 20 _ (by rw [HPS.out]; rfl); have b21 := HB8.out.box 21 _ (by rw [HPS.out]; rfl))
                    refine (C2.out _ HR8.out.bel).mono ?_
                    rintro e w9 ⟨v9, rfl, hr9⟩
                    obtain ⟨A9, c9, us9, rfl, hF9⟩ := hr9.flat (Nat.le_refl _)
                    have HF9 := Lib.hid hF9
                    have HR9 := Lib.hid (HR8.out.later hr9.bel)
                    have HS9 := Lib.hid (fun b hb => HR8.out.made HLO.out HR8.out.bel.size (V' := w9) b hb)
                    clear hr9 hF9 C2 b14 b15 b16 b17 b18 b19 b20 b21 HR8 HB8 HR5 HB5 HF5 HS5
                    go_wp2_with (at_builtin; refine wpList_app rfl _ _ rfl rfl rfl HR9.out HF9.out HS9.out HLN2.out ?_; intro v10 w10 hA10; have HR10 := Lib.hid hA10; clear hA10)
                    go_roundw
                    case rel => exact ⟨k + 1, by omega, by go_num, HR10.out.any (by rw [HST.out, HFIN.out])⟩
                    case measure => simp [intOf]; omega
                  · have e3 : (u.kind == 3) = false := by simp [hk3]
                    rw [if_neg hk3, List.append_nil] at HTU
                    clear hrow hbel hbox
                    go_wp2_with fail
                    go_roundw
                    case rel => exact ⟨k + 1, by omega, by go_num, HR4.out.any (by rw [HST.out, HTU.out]; simp [List.append_assoc])⟩
                    case measure => simp [intOf]; omega
    · have x0 := (HX.out.later hbel) 0 _ rfl
      have x1 := (HX.out.later hbel) 1 _ rfl
      have x2 := (HX.out.later hbel) 2 _ rfl
      have x3 := (HX.out.later hbel) 3 _ rfl
      have x4 := (HX.out.later hbel) 4 _ rfl
      have x5 := (HX.out.later hbel) 5 _ rfl
      have x6 := (HX.out.later hbel) 6 _ rfl
      have x7 := (HX.out.later hbel) 7 _ rfl
      have x8 := (HX.out.later hbel) 8 _ rfl
      have y0 : (n : Int) ≤ k := by omega
      rw [List.take_of_length_le (by omega)] at hrow
      have HR := Lib.hid hrow
      have C := Lib.hid (rbody_any p.main _ lo wr (Nat.le_trans HLO.out hbel.size) (Nat.le_trans Pg.wt_main hw) (HM.out.later hbel fun k hk => Nat.lt_of_lt_of_le hk HLO.out))
      have HLN := Lib.hid (show (p.ds.flatMap Dc.types).length + p.main.types.length ≤ 1000000 by have := Pg.types_len p; rw [Pg.types, List.length_append] at this; omega)
      have HTY := Lib.hid (show p.types = p.ds.flatMap Dc.types ++ p.main.types from rfl)
      clear hrow hbel
      generalize p.ds.flatMap Dc.types = ts at *
      generalize p.main.types = rs at *
      go_wp2_with fail
      refine C.out.mono ?_
      rintro e w5 ⟨v5, rfl, hr5⟩
      obtain ⟨A5, c5, us5, rfl, hF5⟩ := hr5.flat (Nat.le_refl _)
      have HF5 := Lib.hid hF5
      have HR5 := Lib.hid (HR.out.later hr5.bel)
      have HS5 := Lib.hid (fun b hb => HR.out.made HLO.out HR.out.bel.size (V' := w5) b hb)
      clear hr5 hF5 C x0 x1 x2 x3 x4 x5 x6 x7 x8
      go_wp2_with (at_builtin; refine wpList_app rfl _ _ rfl rfl rfl HR5.out HF5.out HS5.out HLN.out ?_; intro v6 w6 hA6; have HR6 := Lib.hid hA6; clear hA6)
      go_ret
      exact ⟨_, rfl, (HR6.out.from (by have := HW.out; omega) HB.out).any HTY.out.symm⟩
end Go.Proofs.YtaeljknfbanbfaaGreatDoor
