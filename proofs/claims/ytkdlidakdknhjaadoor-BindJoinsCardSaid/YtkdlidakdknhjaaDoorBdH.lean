/- The walks of bind.Names and of the reference's Names. The condition: few formals. -/
import Derived.Test.YtkdlidakdknhjaaDoorBdG
namespace Go.Proofs.YtkdlidakdknhjaaDoor
open Go.RowKit

/-- A slice of strings that a call has made. -/
def NmsPost (w : World) (l : List ByteArray) (e : Ending) (w' : World) : Prop := ∃ A c, e = .returned (.slice A l.length c) ∧ l.length ≤ c ∧ Sl w' A l.length l ∧ Below w.heap.size w w'
theorem own_capB {w : World} {base n size c : Nat} {A : Option Addr} {e : TypeId} {xs : List Value} (h : w.ownsRow base e size (.slice A n c) n xs) : n ≤ c := by
  rcases h.2 with ⟨e, rfl⟩ | ⟨g, cap, _, e, _, _, hn, _⟩
  · omega
  · simp only [Value.slice.injEq] at e
    omega
theorem nms_end {w wr : World} {v : Value} {l : List ByteArray} {k : Nat} (hk : l.length = k) (h : wr.ownsRow w.heap.size 9 1 v k (l.map boxS)) (hb : Below w.heap.size w wr) : NmsPost w l (.returned v) wr := by
  obtain ⟨A, c, rfl, hs⟩ := sl_of_own hk h
  subst hk
  exact ⟨A, c, rfl, own_capB h, hs, hb⟩
theorem names_small {s : Sg} (h : s.wt ≤ 1990) : ∀ n ∈ s.names, n.size ≤ 9223372036854775807 := fun n hn => by
  obtain ⟨f, hf, rfl⟩ := List.mem_map.1 hn
  have := Sg.wt_f hf
  have := Fo.wt_name (f := f) (by omega)
  omega
theorem one_string_one {s : ByteArray} : ∀ u ∈ ([.string s] : List Value), u.oneCell' = true := by
  intro u hu
  simp only [List.mem_singleton] at hu
  subst hu; rfl
set_option maxRecDepth 100000 in
set_option maxHeartbeats 8000000 in
theorem bnames_any (xs : List Fo) (A : Option Addr) (q c : Nat) (w : World) (hq : q ≤ 100000) (h : RowH w 5 A q (xs.map Fo.dat)) : Calls Tryd.prog 31 #[.slice A q c] w (NmsPost w (xs.map Fo.name)) := by
  have hxl := h.len
  rw [List.length_map] at hxl
  have H1 := Lib.hid h
  have HXL := Lib.hid hxl
  have hqi : (q : Int) ≤ 100000 := by omega
  have hq0 : (0 : Int) ≤ q := by omega
  clear h hxl
  go_enter Tryd.func31, Tryd.ntmps31
  go_wp2_with fail
  go_loopw [3, 8] (fun v i wr => ∃ k : Nat, k ≤ q ∧ i = .int .i64 k ∧ wr.ownsRow w.heap.size 9 1 v k (((xs.take k).map Fo.name).map boxS) ∧ Below w.heap.size w wr) (fun _ i _ => q - (intOf i).toNat)
  case atStart => exact ⟨0, by omega, rfl, World.ownsRow_nil _ _ _ _, Below.refl _ _⟩
  case round =>
    obtain ⟨k, hk, rfl, hown, hbel⟩ := hrel
    have HBL := Lib.hid hbel
    have HOW := Lib.hid hown
    have y1 : (0 : Int) ≤ k := by omega
    by_cases hlt : k < q
    · have y0 : (k : Int) < q := by omega
      obtain ⟨p, x, ps, rfl, hx, _, _, hu, hcs⟩ := dat_at (RowH.later H1.out hbel) hlt
      obtain ⟨B, m, a, rfl, hn, _, _⟩ := fo_open hu
      have HST := Lib.hid (show ((xs.take (k + 1)).map Fo.name).map boxS = ((xs.take k).map Fo.name).map boxS ++ [.string x.name] by rw [Ex.take_at hx, List.map_append, List.map_append]; rfl)
      have HFC := Lib.hid hcs
      obtain ⟨W1, hP1⟩ := putZ #[.string ⟨#[]⟩, .string ⟨#[]⟩, .slice none 0 0, .int .i64 0, .int .i64 0] 48 wr (us := [.string x.name, .string x.ty.name, .slice B m a, .int .i64 x.ty.off, .int .i64 x.off]) rfl
      have HP1 := Lib.hid hP1
      have x0 := hP1.box 0 _ rfl
      have hba : Below W1.heap.size W1 (W1.alloc (.cells #[.string x.name] 9)) := (Below.refl _ _).alloc (Nat.le_refl _) _
      have HB2 := Lib.hid (show Below wr.heap.size wr (W1.alloc (.cells #[.string x.name] 9)) from hP1.bel.trans (hba.mono hP1.bel.size))
      have HO2 := Lib.hid (own_below hown HB2.out)
      have HC2 := Lib.hid (show CellsAt (W1.alloc (.cells #[.string x.name] 9)) ⟨W1.heap.size, 0, none⟩ [.string x.name] from (Boxd.new W1 #[.string x.name] 9).at0)
      clear hP1 hba
      clear hx hu hcs hn hown hbel
      go_wp2_with (first
        | (refine loadOp flatFo 10 11 rfl HFC.out rfl ?_)
        | (refine storeOp flatFo 5 11 (b := wr.heap.size) (o := 0) (us := [.string x.name, .string x.ty.name, .slice B m a, .int .i64 x.ty.off, .int .i64 x.off]) rfl rfl HP1.out.there five_oneB rfl ?_; rw [HP1.out.eq])
        | (at_builtin; refine wpList_append_row slStr rfl _ _ rfl rfl rfl HO2.out (by have := HBL.out.size; have := HB2.out.size; omega) (m := 1) rfl (fun a ha j u hu => by obtain rfl := Option.some.inj ha; exact HC2.out j u hu) one_string_one (fun _ => ⟨_, rfl⟩) (by omega) (by omega) ?_; intro v4 w4 hA; have HOA := Lib.hid hA.own; have HBA := Lib.hid ((HBL.out.trans (HB2.out.mono HBL.out.size)).grown hA.grow (by have := HBL.out.size; have := HB2.out.size; omega) (own_base HO2.out)); clear hA))
      go_roundw
      case rel => exact ⟨k + 1, by omega, by go_num, by rw [HST.out]; exact HOA.out, HBA.out⟩
      case measure => simp [intOf]; omega
    · have y0 : (q : Int) ≤ k := by omega
      obtain rfl : k = q := by omega
      clear hown hbel
      go_wp2_with fail
      go_ret
      have ho := HOW.out
      rw [List.take_of_length_le (by rw [HXL.out]; omega)] at ho
      exact nms_end (by rw [List.length_map]; exact HXL.out) ho HBL.out
set_option maxRecDepth 100000 in
set_option maxHeartbeats 8000000 in
theorem rnames_any (xs : List Fo) (A : Option Addr) (q c : Nat) (w : World) (hq : q ≤ 100000) (h : RowH w 5 A q (xs.map Fo.dat)) : Calls Tryd.prog 23 #[.slice A q c] w (NmsPost w (xs.map Fo.name)) := by
  have hxl := h.len
  rw [List.length_map] at hxl
  have H1 := Lib.hid h
  have HXL := Lib.hid hxl
  have hqi : (q : Int) ≤ 100000 := by omega
  have hq0 : (0 : Int) ≤ q := by omega
  clear h hxl
  go_enter Tryd.func23, Tryd.ntmps23
  go_wp2_with fail
  go_loopw [3, 4] (fun v i wr => ∃ k : Nat, k ≤ q ∧ i = .int .i64 k ∧ wr.ownsRow w.heap.size 9 1 v k (((xs.take k).map Fo.name).map boxS) ∧ Below w.heap.size w wr) (fun _ i _ => q - (intOf i).toNat)
  case atStart => exact ⟨0, by omega, rfl, World.ownsRow_nil _ _ _ _, Below.refl _ _⟩
  case round =>
    obtain ⟨k, hk, rfl, hown, hbel⟩ := hrel
    have HBL := Lib.hid hbel
    have HOW := Lib.hid hown
    have y1 : (0 : Int) ≤ k := by omega
    by_cases hlt : k < q
    · have y0 : (k : Int) < q := by omega
      obtain ⟨p, x, ps, rfl, hx, _, _, hu, hcs⟩ := dat_at (RowH.later H1.out hbel) hlt
      obtain ⟨B, m, a, rfl, hn, _, _⟩ := fo_open hu
      have HST := Lib.hid (show ((xs.take (k + 1)).map Fo.name).map boxS = ((xs.take k).map Fo.name).map boxS ++ [.string x.name] by rw [Ex.take_at hx, List.map_append, List.map_append]; rfl)
      have HFC := Lib.hid hcs
      have x0 : wr.cell? (p.add (k * 5)) = some (.string x.name) := (cells5_at hcs).1
      have hba : Below wr.heap.size wr (wr.alloc (.cells #[.string x.name] 9)) := (Below.refl _ _).alloc (Nat.le_refl _) _
      have HB2 := Lib.hid (show Below wr.heap.size wr (wr.alloc (.cells #[.string x.name] 9)) from hba)
      have HO2 := Lib.hid (own_below hown HB2.out)
      have HC2 := Lib.hid (show CellsAt (wr.alloc (.cells #[.string x.name] 9)) ⟨wr.heap.size, 0, none⟩ [.string x.name] from (Boxd.new wr #[.string x.name] 9).at0)
      clear hba
      clear hx hu hcs hn hown hbel
      go_wp2_with (first
        | (at_builtin; refine wpList_append_row slStr rfl _ _ rfl rfl rfl HO2.out (by have := HBL.out.size; have := HB2.out.size; omega) (m := 1) rfl (fun a ha j u hu => by obtain rfl := Option.some.inj ha; exact HC2.out j u hu) one_string_one (fun _ => ⟨_, rfl⟩) (by omega) (by omega) ?_; intro v4 w4 hA; have HOA := Lib.hid hA.own; have HBA := Lib.hid ((HBL.out.trans (HB2.out.mono HBL.out.size)).grown hA.grow (by have := HBL.out.size; have := HB2.out.size; omega) (own_base HO2.out)); clear hA))
      go_roundw
      case rel => exact ⟨k + 1, by omega, by go_num, by rw [HST.out]; exact HOA.out, HBA.out⟩
      case measure => simp [intOf]; omega
    · have y0 : (q : Int) ≤ k := by omega
      obtain rfl : k = q := by omega
      clear hown hbel
      go_wp2_with fail
      go_ret
      have ho := HOW.out
      rw [List.take_of_length_le (by rw [HXL.out]; omega)] at ho
      exact nms_end (by rw [List.length_map]; exact HXL.out) ho HBL.out
end Go.Proofs.YtkdlidakdknhjaaDoor
