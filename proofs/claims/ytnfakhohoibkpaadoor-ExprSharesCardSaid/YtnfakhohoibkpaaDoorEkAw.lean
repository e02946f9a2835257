/- The examples of law05.awake in plain words and in memory, and its walk. No condition but the table of words. -/
import Derived.Test.YtnfakhohoibkpaaDoorEkO
import Derived.Test.YtnfakhohoibkpaaDoorEkS
import Derived.Test.YtnfakhohoibkpaaDoorEkU
import Derived.Test.YtnfakhohoibkpaaDoorEkJ
import Derived.Test.YtnfakhohoibkpaaDoorEkG
import Derived.Test.YtnfakhohoibkpaaDoorEkD
import Derived.Test.YtnfakhohoibkpaaDoorEkB
import Derived.Test.YtnfakhohoibkpaaDoorEkA
import Derived.Test.YtnfakhohoibkpaaDoorTyMa
namespace Go.Proofs.YtnfakhohoibkpaaDoor
open Go.RowKit

def exz : Ty := .mk ⟨#[]⟩ [] 0
def exx : Ex := .mk 1 ⟨#[120]⟩ exz [] [] 0
def exf : Ex := .mk 1 ⟨#[102]⟩ exz [] [] 0
/-- x.Map[b](f) -/
def exE : Ex := .mk 2 ⟨#[77, 97, 112]⟩ exz [exB] [exx, exf] 0
/-- x.Map[Int](f) -/
def exF : Ex := .mk 2 ⟨#[77, 97, 112]⟩ exz [exI] [exx, exf] 0
/-- T{} -/
def exV : Ex := .mk 3 ⟨#[]⟩ (.mk ⟨#[84]⟩ [] 0) [] [] 0
/-- x.Map[b](T{}) -/
def exR : Ex := .mk 2 ⟨#[77, 97, 112]⟩ exz [exB] [exx, exV] 0
def exO : Ex := .mk 0 ⟨#[]⟩ exz [] [] 0
theorem exE_subst : exE.subst [⟨#[98]⟩] [exI] = exF := by simp [exE, exF, exx, exf, exz, exB, exI, Ex.subst, Ex.substL, Ty.subst, Ty.pick]
theorem exE_repl : exE.repl [⟨#[102]⟩] [exV] = exR := by simp [exE, exR, exx, exf, exz, exB, exV, Ex.repl, Ex.replL, Ex.pick]
theorem exE_text : exE.text = [120, 46, 77, 97, 112, 91, 98, 93, 40, 102, 41] := by simp [exE, exx, exf, exz, exB, Ex.text, Ex.textC, Ex.textM, Ex.tailA, Ex.targText, Ty.text, Ty.textL]
theorem exF_text : exF.text = [120, 46, 77, 97, 112, 91, 73, 110, 116, 93, 40, 102, 41] := by simp [exF, exx, exf, exz, exI, Ex.text, Ex.textC, Ex.textM, Ex.tailA, Ex.targText, Ty.text, Ty.textL]
theorem exR_text : exR.text = [120, 46, 77, 97, 112, 91, 98, 93, 40, 84, 123, 125, 41] := by simp [exR, exx, exV, exz, exB, Ex.text, Ex.textC, Ex.textM, Ex.tailA, Ex.targText, Ty.text, Ty.textL]
theorem exE_right : exE.right = true := by simp [exE, exx, exf, exz, exB, Ex.right, Ex.rightL, Ex.fit, Ex.typed, Ty.right, Ty.list, Ty.listL]; decide
theorem exF_right : exF.right = true := by simp [exF, exx, exf, exz, exI, Ex.right, Ex.rightL, Ex.fit, Ex.typed, Ty.right, Ty.list, Ty.listL]; decide
theorem exR_right : exR.right = true := by simp [exR, exx, exV, exz, exB, Ex.right, Ex.rightL, Ex.fit, Ex.typed, Ty.right, Ty.list, Ty.listL]; decide
theorem exO_right : exO.right = false := by simp [exO, exz, Ex.right, Ex.rightL, Ex.fit, Ex.typed, Ty.right, Ty.list, Ty.listL]
theorem exE_depth : exE.depth = 2 := by simp [exE, exx, exf, exz, exB, Ex.depth, Ex.depthL, Ex.typed, Ty.depth, Ty.depthL]
theorem exE_value : exE.value = false := by simp [exE, Ex.value]
theorem exV_value : exV.value = true := by simp [exV, Ex.value, Ex.valueL]
theorem exEE : exE.same exE = true := by simp [exE, exx, exf, exz, exB, Ex.same, Ex.sameL, Ex.sameT, Ty.cmp, Ty.cmpL]
theorem exEF : exE.same exF = false := by simp [exE, exF, exx, exf, exz, exB, exI, Ex.same, Ex.sameL, Ex.sameT, Ty.cmp, Ty.cmpL, Lib.compareBytes]
theorem exE_wt : exE.wt ≤ 1000 := by simp [exE, exx, exf, exz, exB, Ex.wt, Ex.wtL, Ty.wt, Ty.wtL, ByteArray.size]
theorem exF_wt : exF.wt ≤ 1000 := by simp [exF, exx, exf, exz, exI, Ex.wt, Ex.wtL, Ty.wt, Ty.wtL, ByteArray.size]
theorem exR_wt : exR.wt ≤ 1000 := by simp [exR, exx, exV, exz, exB, Ex.wt, Ex.wtL, Ty.wt, Ty.wtL, ByteArray.size]
theorem exV_wt : exV.wt ≤ 1000 := by simp [exV, Ex.wt, Ex.wtL, Ty.wt, Ty.wtL, ByteArray.size]
theorem exO_wt : exO.wt ≤ 1000 := by simp [exO, exz, Ex.wt, Ex.wtL, Ty.wt, Ty.wtL, ByteArray.size]

abbrev usV : List Value := [.int .i64 3, .string ⟨#[]⟩, .string ⟨#[84]⟩, .slice none 0 0, .int .i64 0, .slice none 0 0, .slice none 0 0, .int .i64 0]
abbrev usO : List Value := [.int .i64 0, .string ⟨#[]⟩, .string ⟨#[]⟩, .slice none 0 0, .int .i64 0, .slice none 0 0, .slice none 0 0, .int .i64 0]
abbrev usL (s : ByteArray) : List Value := [.int .i64 1, .string s, .string ⟨#[]⟩, .slice none 0 0, .int .i64 0, .slice none 0 0, .slice none 0 0, .int .i64 0]
abbrev usE (t k : Nat) : List Value := [.int .i64 2, .string ⟨#[77, 97, 112]⟩, .string ⟨#[]⟩, .slice none 0 0, .int .i64 0, .slice (some ⟨t, 0, none⟩) 1 1, .slice (some ⟨k, 0, none⟩) 2 2, .int .i64 0]
theorem exV_in (w : World) (S : Nat → Prop) : exV.dat.In w False S usV :=
  ex_shut (e := exV) (show (0 : Nat) ≤ _ by omega) (show (1 : Nat) ≤ _ by omega) (Lies.nil _ _ _) (Lies.nil _ _ _) (Row.nil _ _ _ _ _) (Nat.le_refl _)
theorem exO_in (w : World) (S : Nat → Prop) : exO.dat.In w False S usO :=
  ex_shut (e := exO) (show (0 : Nat) ≤ _ by omega) (show (0 : Nat) ≤ _ by omega) (Lies.nil _ _ _) (Lies.nil _ _ _) (Row.nil _ _ _ _ _) (Nat.le_refl _)
theorem exx_in (w : World) (S : Nat → Prop) : exx.dat.In w False S (usL ⟨#[120]⟩) :=
  ex_shut (e := exx) (show (1 : Nat) ≤ _ by omega) (show (0 : Nat) ≤ _ by omega) (Lies.nil _ _ _) (Lies.nil _ _ _) (Row.nil _ _ _ _ _) (Nat.le_refl _)
theorem exf_in (w : World) (S : Nat → Prop) : exf.dat.In w False S (usL ⟨#[102]⟩) :=
  ex_shut (e := exf) (show (1 : Nat) ≤ _ by omega) (show (0 : Nat) ≤ _ by omega) (Lies.nil _ _ _) (Lies.nil _ _ _) (Row.nil _ _ _ _ _) (Nat.le_refl _)

/-- A block of data that is known whole. -/
theorem row_of_block {w : World} {S : Nat → Prop} {g z : Nat} {cs : Array Value} {T : TypeId} {ds : List Dat} (hg : w.heap[g]? = some (.cells cs T)) (hS : S g) (hr : Dat.Ins w False S ds cs.toList) (hz : ∀ x ∈ ds, x.size = z) (hn : ds.length ≤ 9223372036854775807) :
    Row w False S z (some ⟨g, 0, none⟩) ds.length ds := by
  refine ⟨rfl, hn, Dat.Elems.of fun k d hk => ?_⟩
  obtain ⟨u, hu, hat⟩ := hr.at hz hk
  refine ⟨⟨g, 0, none⟩, u, rfl, hS, False.elim, hu, fun j x hx => ?_⟩
  rw [Nat.zero_add, add_add, add_zero_addr, cell_of_row w g _ cs T (0, 0) hg]
  have := hat j x hx
  simpa using this
theorem row_xf {w : World} {S : Nat → Prop} {g : Nat} (hg : w.heap[g]? = some (.cells #[.int .i64 1, .string ⟨#[120]⟩, .string ⟨#[]⟩, .slice none 0 0, .int .i64 0, .slice none 0 0, .slice none 0 0, .int .i64 0,
    .int .i64 1, .string ⟨#[102]⟩, .string ⟨#[]⟩, .slice none 0 0, .int .i64 0, .slice none 0 0, .slice none 0 0, .int .i64 0] 27)) (hS : S g) : Row w False S 8 (some ⟨g, 0, none⟩) 2 (Ex.dats [exx, exf]) := by
  refine row_of_block (ds := Ex.dats [exx, exf]) hg hS ?_ ?_ (by simp [Ex.dats])
  · show Dat.Ins _ _ _ [exx.dat, exf.dat] _
    rw [Dat.Ins]
    refine ⟨usL ⟨#[120]⟩, usL ⟨#[102]⟩, rfl, exx_in w S, ?_⟩
    rw [Dat.Ins]
    exact ⟨usL ⟨#[102]⟩, [], rfl, exf_in w S, by rw [Dat.Ins]⟩
  · intro x hx
    rw [Ex.dats_map, List.mem_map] at hx
    obtain ⟨y, _, rfl⟩ := hx
    exact Ex.dat_size y
theorem row_v {w : World} {S : Nat → Prop} {g : Nat} (hg : w.heap[g]? = some (.cells #[.int .i64 3, .string ⟨#[]⟩, .string ⟨#[84]⟩, .slice none 0 0, .int .i64 0, .slice none 0 0, .slice none 0 0, .int .i64 0] 27)) (hS : S g) :
    Row w False S 8 (some ⟨g, 0, none⟩) 1 (Ex.dats [exV]) := by
  refine row_of_block (ds := Ex.dats [exV]) hg hS ?_ ?_ (by simp [Ex.dats])
  · show Dat.Ins _ _ _ [exV.dat] _
    rw [Dat.Ins]
    exact ⟨usV, [], rfl, exV_in w S, by rw [Dat.Ins]⟩
  · intro x hx
    rw [Ex.dats_map, List.mem_map] at hx
    obtain ⟨y, _, rfl⟩ := hx
    exact Ex.dat_size y
theorem exE_in {w : World} {S : Nat → Prop} {t k : Nat} (hB : Lies w S (some ⟨t, 0, none⟩) 1 [exB]) (hK : Row w False S 8 (some ⟨k, 0, none⟩) 2 (Ex.dats [exx, exf])) : exE.dat.In w False S (usE t k) :=
  ex_shut (e := exE) (show (3 : Nat) ≤ _ by omega) (show (0 : Nat) ≤ _ by omega) (Lies.nil _ _ _) hB hK (Nat.le_refl _)

/-- The world of the examples, ahead of the first call. -/
def xaW (w : World) : World :=
  (((((((w.alloc (.cells #[.int .i64 1, .string ⟨#[120]⟩, .string ⟨#[]⟩, .slice none 0 0, .int .i64 0, .slice none 0 0, .slice none 0 0, .int .i64 0] 27)).alloc (.cells #[.int .i64 1, .string ⟨#[102]⟩, .string ⟨#[]⟩, .slice none 0 0, .int .i64 0, .slice none 0 0, .slice none 0 0, .int .i64 0] 27)).alloc
    (.cells #[.string ⟨#[98]⟩, .slice none 0 0, .int .i64 0] 24)).alloc (.cells #[.int .i64 1, .string ⟨#[120]⟩, .string ⟨#[]⟩, .slice none 0 0, .int .i64 0, .slice none 0 0, .slice none 0 0, .int .i64 0,
    .int .i64 1, .string ⟨#[102]⟩, .string ⟨#[]⟩, .slice none 0 0, .int .i64 0, .slice none 0 0, .slice none 0 0, .int .i64 0] 27)).alloc
    (.cells #[.int .i64 2, .string ⟨#[77, 97, 112]⟩, .string ⟨#[]⟩, .slice none 0 0, .int .i64 0, .slice (some ⟨w.heap.size + 1 + 1, 0, none⟩) 1 1, .slice (some ⟨w.heap.size + 1 + 1 + 1, 0, none⟩) 2 2, .int .i64 0] 27)).alloc
    (.cells #[.int .i64 3, .string ⟨#[]⟩, .string ⟨#[84]⟩, .slice none 0 0, .int .i64 0, .slice none 0 0, .slice none 0 0, .int .i64 0] 27)).alloc (.cells #[.string ⟨#[98]⟩] 9)).alloc (.cells #[.string ⟨#[73, 110, 116]⟩, .slice none 0 0, .int .i64 0] 24)
theorem xaW_size (w : World) : (xaW w).heap.size = w.heap.size + 8 := by simp [xaW]
theorem xaW_below (w : World) : Below w.heap.size w (xaW w) := by
  unfold xaW
  refine ((((((((Below.refl _ _).alloc (Nat.le_refl _) _).alloc ?_ _).alloc ?_ _).alloc ?_ _).alloc ?_ _).alloc ?_ _).alloc ?_ _).alloc ?_ _ <;> simp <;> omega
theorem xaW_2 (w : World) : (xaW w).heap[w.heap.size + 1 + 1]? = some (.cells #[.string ⟨#[98]⟩, .slice none 0 0, .int .i64 0] 24) := (heap_old (heap_old (heap_old (heap_old (heap_old (heap_new_at (by simp)))))))
theorem xaW_3 (w : World) : (xaW w).heap[w.heap.size + 1 + 1 + 1]? = some (.cells #[.int .i64 1, .string ⟨#[120]⟩, .string ⟨#[]⟩, .slice none 0 0, .int .i64 0, .slice none 0 0, .slice none 0 0, .int .i64 0,
    .int .i64 1, .string ⟨#[102]⟩, .string ⟨#[]⟩, .slice none 0 0, .int .i64 0, .slice none 0 0, .slice none 0 0, .int .i64 0] 27) := (heap_old (heap_old (heap_old (heap_old (heap_new_at (by simp))))))
theorem xaW_4 (w : World) : (xaW w).heap[w.heap.size + 1 + 1 + 1 + 1]? = some (.cells #[.int .i64 2, .string ⟨#[77, 97, 112]⟩, .string ⟨#[]⟩, .slice none 0 0, .int .i64 0, .slice (some ⟨w.heap.size + 1 + 1, 0, none⟩) 1 1, .slice (some ⟨w.heap.size + 1 + 1 + 1, 0, none⟩) 2 2, .int .i64 0] 27) :=
  (heap_old (heap_old (heap_old (heap_new_at (by simp)))))
theorem xaW_5 (w : World) : (xaW w).heap[w.heap.size + 1 + 1 + 1 + 1 + 1]? = some (.cells #[.int .i64 3, .string ⟨#[]⟩, .string ⟨#[84]⟩, .slice none 0 0, .int .i64 0, .slice none 0 0, .slice none 0 0, .int .i64 0] 27) := (heap_old (heap_old (heap_new_at (by simp))))
theorem xaW_6 (w : World) : (xaW w).heap[w.heap.size + 1 + 1 + 1 + 1 + 1 + 1]? = some (.cells #[.string ⟨#[98]⟩] 9) := (heap_old (heap_new_at (by simp)))
theorem xaW_7 (w : World) : (xaW w).heap[w.heap.size + 1 + 1 + 1 + 1 + 1 + 1 + 1]? = some (.cells #[.string ⟨#[73, 110, 116]⟩, .slice none 0 0, .int .i64 0] 24) := (heap_new_at (by simp))
theorem boxd_of_row {w : World} {g : Nat} {cs : Array Value} {T : TypeId} (hg : w.heap[g]? = some (.cells cs T)) : Boxd w g cs.toList := fun j u hu => by
  rw [cell_of_row w g j cs T (0, 0) hg]
  simpa using hu
theorem here_one {w : World} {g : Nat} {s : ByteArray} (hg : w.heap[g]? = some (.cells #[.string s, .slice none 0 0, .int .i64 0] 24)) (hs : s.size ≤ 9223372036854775807) : Here w (some ⟨g, 0, none⟩) 1 [.mk s [] 0] :=
  lies_of_row hg (Array.getElem?_eq_some_iff.1 hg).1 rfl (by omega) ⟨none, 0, [], rfl, hs, Lies.nil _ _ _, rfl⟩
theorem sl_one {w : World} {g : Nat} {s : ByteArray} (hg : w.heap[g]? = some (.cells #[.string s] 9)) : Sl w (some ⟨g, 0, none⟩) 1 [s] := by
  refine ⟨rfl, fun j p hj => ⟨_, rfl, (Array.getElem?_eq_some_iff.1 hg).1, ?_⟩⟩
  rw [add_zero_addr, cell_of_row _ _ j _ _ (0, 0) hg]
  cases j with
  | zero => simpa using hj
  | succ j => simp at hj
theorem xaW_e (w : World) : exE.dat.H (xaW w) (usE (w.heap.size + 1 + 1) (w.heap.size + 1 + 1 + 1)) :=
  exE_in (here_one (xaW_2 w) (show (1 : Nat) ≤ _ by omega)) (row_xf (xaW_3 w) (Array.getElem?_eq_some_iff.1 (xaW_3 w)).1)

theorem neqFnX (fn : Fn) (tys : Array Value) (cb : Array Value) (w : World) : (binOp .neq 42 (.func fn tys cb) .nilFunc).run Tryd.prog w = .ok (.bool true) w := by kernel_rfl

/-- What lies while the examples are looked at. -/
structure ExW (W : World) (e v s t k : Nat) (us : List Value) : Prop where
  be : Boxd W e (usE t k)
  bv : Boxd W v usV
  bs : Boxd W s us
  de : exE.dat.H W (usE t k)
  ds : exF.dat.H W us
theorem ExW.later {W W' : World} {e v s t k : Nat} {us : List Value} (h : ExW W e v s t k us) (hb : Below W.heap.size W W') : ExW W' e v s t k us :=
  ⟨h.be.later hb, h.bv.later hb, h.bs.later hb, Dat.H.later h.de hb, Dat.H.later h.ds hb⟩

theorem xaW_def (w : World) : (((((((w.alloc (.cells #[.int .i64 1, .string ⟨#[120]⟩, .string ⟨#[]⟩, .slice none 0 0, .int .i64 0, .slice none 0 0, .slice none 0 0, .int .i64 0] 27)).alloc (.cells #[.int .i64 1, .string ⟨#[102]⟩, .string ⟨#[]⟩, .slice none 0 0, .int .i64 0, .slice none 0 0, .slice none 0 0, .int .i64 0] 27)).alloc
    (.cells #[.string ⟨#[98]⟩, .slice none 0 0, .int .i64 0] 24)).alloc (.cells #[.int .i64 1, .string ⟨#[120]⟩, .string ⟨#[]⟩, .slice none 0 0, .int .i64 0, .slice none 0 0, .slice none 0 0, .int .i64 0,
    .int .i64 1, .string ⟨#[102]⟩, .string ⟨#[]⟩, .slice none 0 0, .int .i64 0, .slice none 0 0, .slice none 0 0, .int .i64 0] 27)).alloc
    (.cells #[.int .i64 2, .string ⟨#[77, 97, 112]⟩, .string ⟨#[]⟩, .slice none 0 0, .int .i64 0, .slice (some ⟨w.heap.size + 1 + 1, 0, none⟩) 1 1, .slice (some ⟨w.heap.size + 1 + 1 + 1, 0, none⟩) 2 2, .int .i64 0] 27)).alloc
    (.cells #[.int .i64 3, .string ⟨#[]⟩, .string ⟨#[84]⟩, .slice none 0 0, .int .i64 0, .slice none 0 0, .slice none 0 0, .int .i64 0] 27)).alloc (.cells #[.string ⟨#[98]⟩] 9)).alloc (.cells #[.string ⟨#[73, 110, 116]⟩, .slice none 0 0, .int .i64 0] 24) = xaW w := rfl

theorem xaTextE {W : World} {t k : Nat} (h : exE.dat.H W (usE t k)) : Calls Tryd.prog 14 #[.agg (usE t k).toArray] W (TxtPost W [120, 46, 77, 97, 112, 91, 98, 93, 40, 102, 41]) := by
  have := xtext_any exE _ W exE_right exE_wt (by rw [exE_text]; simp) h
  rwa [exE_text] at this
theorem xaTextF {W : World} {us : List Value} (h : exF.dat.H W us) : Calls Tryd.prog 14 #[.agg us.toArray] W (TxtPost W [120, 46, 77, 97, 112, 91, 73, 110, 116, 93, 40, 102, 41]) := by
  have := xtext_any exF _ W exF_right exF_wt (by rw [exF_text]; simp) h
  rwa [exF_text] at this
theorem xaTextR {W : World} {us : List Value} (h : exR.dat.H W us) : Calls Tryd.prog 14 #[.agg us.toArray] W (TxtPost W [120, 46, 77, 97, 112, 91, 98, 93, 40, 84, 123, 125, 41]) := by
  have := xtext_any exR _ W exR_right exR_wt (by rw [exR_text]; simp) h
  rwa [exR_text] at this
theorem xaRightE {W : World} {t k : Nat} (hE : ResVar W) (h : exE.dat.H W (usE t k)) : Calls Tryd.prog 10 #[.agg (usE t k).toArray] W (EqvPost W true) := by
  have := xright_any exE _ W hE exE_wt h
  rwa [exE_right] at this
theorem xaRightO {W : World} (hE : ResVar W) : Calls Tryd.prog 10 #[.agg usO.toArray] W (EqvPost W false) := by
  have := xright_any exO _ W hE exO_wt (exO_in W _)
  rwa [exO_right] at this
theorem xaDepthE {W : World} {t k : Nat} (h : exE.dat.H W (usE t k)) : Calls Tryd.prog 16 #[.agg (usE t k).toArray] W (NatPost W 2) := by
  have := xdepth_any exE _ W (by rw [exE_depth]; omega) h
  rwa [exE_depth] at this
theorem xaValueE {W : World} {t k : Nat} (h : exE.dat.H W (usE t k)) : Calls Tryd.prog 18 #[.agg (usE t k).toArray] W (EqvPost W false) := by
  have := xvalue_any exE _ W exE_wt h
  rwa [exE_value] at this
theorem xaValueV {W : World} : Calls Tryd.prog 18 #[.agg usV.toArray] W (EqvPost W true) := by
  have := xvalue_any exV _ W exV_wt (exV_in W _)
  rwa [exV_value] at this
theorem xaSameEE {W : World} {t k : Nat} (h : exE.dat.H W (usE t k)) : Calls Tryd.prog 12 #[.agg (usE t k).toArray, .agg (usE t k).toArray] W (EqvPost W true) := by
  have := xsame_any exE exE _ _ W h h
  rwa [exEE] at this
theorem xaSameEF {W : World} {t k : Nat} {us : List Value} (h : exE.dat.H W (usE t k)) (h2 : exF.dat.H W us) : Calls Tryd.prog 12 #[.agg (usE t k).toArray, .agg us.toArray] W (EqvPost W false) := by
  have := xsame_any exE exF _ _ W h h2
  rwa [exEF] at this
theorem xaAllE {W : World} {t k : Nat} (h : exE.dat.H W (usE t k)) : Calls Tryd.prog 28 #[.agg (usE t k).toArray] W (FnPost W) := xall_fn exE _ W (Nat.le_trans exE_wt (by omega)) h
theorem xaRepl {W : World} {t k : Nat} (h : exE.dat.H W (usE t k)) :
    Calls Tryd.prog 25 #[.agg (usE t k).toArray, .slice (some ⟨W.heap.size, 0, none⟩) 1 1, .slice (some ⟨W.heap.size + 1, 0, none⟩) 1 1] ((W.alloc (.cells #[.string ⟨#[102]⟩] 9)).alloc (.cells #[.int .i64 3, .string ⟨#[]⟩, .string ⟨#[84]⟩, .slice none 0 0, .int .i64 0, .slice none 0 0, .slice none 0 0, .int .i64 0] 27))
      fun e w' => ∃ us, e = .returned (.agg us.toArray) ∧ exR.dat.H w' us ∧ Below W.heap.size W w' := by
  have hb : Below W.heap.size W ((W.alloc (.cells #[.string ⟨#[102]⟩] 9)).alloc (.cells #[.int .i64 3, .string ⟨#[]⟩, .string ⟨#[84]⟩, .slice none 0 0, .int .i64 0, .slice none 0 0, .slice none 0 0, .int .i64 0] 27)) :=
    ((Below.refl _ _).alloc (Nat.le_refl _) _).alloc (by simp) _
  have h6 : ((W.alloc (.cells #[.string ⟨#[102]⟩] 9)).alloc (.cells #[.int .i64 3, .string ⟨#[]⟩, .string ⟨#[84]⟩, .slice none 0 0, .int .i64 0, .slice none 0 0, .slice none 0 0, .int .i64 0] 27)).heap[W.heap.size]? = some (.cells #[.string ⟨#[102]⟩] 9) := heap_old (heap_new_at rfl)
  have h7 : ((W.alloc (.cells #[.string ⟨#[102]⟩] 9)).alloc (.cells #[.int .i64 3, .string ⟨#[]⟩, .string ⟨#[84]⟩, .slice none 0 0, .int .i64 0, .slice none 0 0, .slice none 0 0, .int .i64 0] 27)).heap[W.heap.size + 1]? = some (.cells #[.int .i64 3, .string ⟨#[]⟩, .string ⟨#[84]⟩, .slice none 0 0, .int .i64 0, .slice none 0 0, .slice none 0 0, .int .i64 0] 27) := heap_new_at (by simp)
  have := xreplace_any exE _ [⟨#[102]⟩] [exV] _ _ 1 1 1 1 _ (Nat.le_trans exE_wt (by omega)) (by intro u hu; rw [List.mem_singleton.1 hu]; exact Nat.le_trans exV_wt (by omega)) (by omega) (fits_b 102) (Dat.H.later h hb) (sl_one h6) (row_v h7 (Array.getElem?_eq_some_iff.1 h7).1)
  rw [exE_repl] at this
  refine this.mono ?_
  rintro e w' ⟨us, rfl, h1, h2⟩
  exact ⟨us, rfl, h1.wide fun b hb => hb.2, hb.trans (h2.mono hb.size)⟩

theorem boxes3 {W : World} {e v s t k : Nat} {u0 u1 u2 u3 u4 u5 u6 u7 : Value} (h : ExW W e v s t k [u0, u1, u2, u3, u4, u5, u6, u7]) :
    (W.cell? ⟨e, 0, none⟩ = some (.int .i64 2) ∧ W.cell? ⟨e, 1, none⟩ = some (.string ⟨#[77, 97, 112]⟩) ∧ W.cell? ⟨e, 2, none⟩ = some (.string ⟨#[]⟩) ∧ W.cell? ⟨e, 3, none⟩ = some (.slice none 0 0) ∧ W.cell? ⟨e, 4, none⟩ = some (.int .i64 0) ∧ W.cell? ⟨e, 5, none⟩ = some (.slice (some ⟨t, 0, none⟩) 1 1) ∧ W.cell? ⟨e, 6, none⟩ = some (.slice (some ⟨k, 0, none⟩) 2 2) ∧ W.cell? ⟨e, 7, none⟩ = some (.int .i64 0))
    ∧ (W.cell? ⟨v, 0, none⟩ = some (.int .i64 3) ∧ W.cell? ⟨v, 1, none⟩ = some (.string ⟨#[]⟩) ∧ W.cell? ⟨v, 2, none⟩ = some (.string ⟨#[84]⟩) ∧ W.cell? ⟨v, 3, none⟩ = some (.slice none 0 0) ∧ W.cell? ⟨v, 4, none⟩ = some (.int .i64 0) ∧ W.cell? ⟨v, 5, none⟩ = some (.slice none 0 0) ∧ W.cell? ⟨v, 6, none⟩ = some (.slice none 0 0) ∧ W.cell? ⟨v, 7, none⟩ = some (.int .i64 0))
    ∧ (W.cell? ⟨s, 0, none⟩ = some u0 ∧ W.cell? ⟨s, 1, none⟩ = some u1 ∧ W.cell? ⟨s, 2, none⟩ = some u2 ∧ W.cell? ⟨s, 3, none⟩ = some u3 ∧ W.cell? ⟨s, 4, none⟩ = some u4 ∧ W.cell? ⟨s, 5, none⟩ = some u5 ∧ W.cell? ⟨s, 6, none⟩ = some u6 ∧ W.cell? ⟨s, 7, none⟩ = some u7) :=
  ⟨h.be.c8, h.bv.c8, h.bs.c8⟩
set_option maxRecDepth 100000 in
set_option maxHeartbeats 8000000 in
theorem xawake_any (w : World) (hE : ResVar w) :
    Calls Tryd.prog 8 #[] w fun e w' => e = .returned (.bool true) ∧ Below w.heap.size w w' := by
  have C1 := Lib.hid (xsubst_any exE _ [⟨#[98]⟩] [exI] _ _ 1 1 1 1 _ exE_wt (by intro u hu; rw [List.mem_singleton.1 hu]; exact exI_small) (by omega) (fits_b 98) (xaW_e w) (sl_one (xaW_6 w)) (here_one (xaW_7 w) (show (3 : Nat) ≤ _ by omega)))
  rw [exE_subst] at C1
  have DE := Lib.hid (xaW_e w)
  have BE := Lib.hid (boxd_of_row (xaW_4 w))
  have BV := Lib.hid (boxd_of_row (xaW_5 w))
  have HB := Lib.hid (xaW_below w)
  have HE := Lib.hid (hE.later (xaW_below w))
  go_enter Tryd.func8, Tryd.ntmps8
  go_wp2_with fail
  rw [xaW_def]
  generalize xaW w = W at *
  refine C1.out.mono ?_
  rintro e w1 ⟨us, rfl, hd, hb1⟩
  obtain ⟨A1, m1, c1, B1, l1, d1, C1', n1, f1, rfl, _⟩ := ex_open hd
  simp only [show exF.kind = 2 from rfl, show exF.name = ⟨#[77, 97, 112]⟩ from rfl, show exF.ty.name = ⟨#[]⟩ from rfl, show exF.ty.off = 0 from rfl, show exF.off = 0 from rfl] at *
  have hb2 : Below w1.heap.size w1 (w1.alloc (.cells #[.int .i64 2, .string ⟨#[77, 97, 112]⟩, .string ⟨#[]⟩, .slice A1 m1 c1, .int .i64 0, .slice B1 l1 d1, .slice C1' n1 f1, .int .i64 0] 27)) := (Below.refl _ _).alloc (Nat.le_refl _) _
  have hb3 := hb1.trans (hb2.mono hb1.size)
  have F0 := Lib.hid (ExW.mk (BE.out.later hb3) (BV.out.later hb3) (Boxd.new w1 #[.int .i64 2, .string ⟨#[77, 97, 112]⟩, .string ⟨#[]⟩, .slice A1 m1 c1, .int .i64 0, .slice B1 l1 d1, .slice C1' n1 f1, .int .i64 0] 27) (Dat.H.later DE.out hb3) (Dat.H.later (hd.wide fun _ h => h.2) hb2))
  have HE0 := Lib.hid (HE.out.later hb3)
  have HB0 := Lib.hid (HB.out.trans (hb3.mono HB.out.size))
  clear hb1 hb2 hb3 hd BE BV DE C1 HE HB
  have G := boxes3 F0.out
  obtain ⟨⟨e0, e1, e2, e3, e4, e5, e6, e7⟩, ⟨v0, v1, v2, v3, v4, v5, v6, v7⟩, s0, s1, s2, s3, s4, s5, s6, s7⟩ := G
  go_wp2_with fail
  refine (xaTextE F0.out.de).mono ?_
  rintro e w2 ⟨rfl, hb⟩
  have F1 := Lib.hid (F0.out.later hb)
  have HE1 := Lib.hid (HE0.out.later hb)
  have HB1 := Lib.hid (HB0.out.trans (hb.mono HB0.out.size))
  clear hb e0 e1 e2 e3 e4 e5 e6 e7 v0 v1 v2 v3 v4 v5 v6 v7 s0 s1 s2 s3 s4 s5 s6 s7 F0 HE0 HB0
  obtain ⟨⟨e0, e1, e2, e3, e4, e5, e6, e7⟩, ⟨v0, v1, v2, v3, v4, v5, v6, v7⟩, s0, s1, s2, s3, s4, s5, s6, s7⟩ := boxes3 F1.out
  go_wp2_with fail
  refine (xaRightE HE1.out F1.out.de).mono ?_
  rintro e w3 ⟨rfl, hb⟩
  have F2 := Lib.hid (F1.out.later hb)
  have HE2 := Lib.hid (HE1.out.later hb)
  have HB2 := Lib.hid (HB1.out.trans (hb.mono HB1.out.size))
  clear hb e0 e1 e2 e3 e4 e5 e6 e7 v0 v1 v2 v3 v4 v5 v6 v7 s0 s1 s2 s3 s4 s5 s6 s7 F1 HE1 HB1
  obtain ⟨⟨e0, e1, e2, e3, e4, e5, e6, e7⟩, ⟨v0, v1, v2, v3, v4, v5, v6, v7⟩, s0, s1, s2, s3, s4, s5, s6, s7⟩ := boxes3 F2.out
  go_wp2_with fail
  refine (xaRightO HE2.out).mono ?_
  rintro e w4 ⟨rfl, hb⟩
  have F3 := Lib.hid (F2.out.later hb)
  have HE3 := Lib.hid (HE2.out.later hb)
  have HB3 := Lib.hid (HB2.out.trans (hb.mono HB2.out.size))
  clear hb e0 e1 e2 e3 e4 e5 e6 e7 v0 v1 v2 v3 v4 v5 v6 v7 s0 s1 s2 s3 s4 s5 s6 s7 F2 HE2 HB2
  obtain ⟨⟨e0, e1, e2, e3, e4, e5, e6, e7⟩, ⟨v0, v1, v2, v3, v4, v5, v6, v7⟩, s0, s1, s2, s3, s4, s5, s6, s7⟩ := boxes3 F3.out
  go_wp2_with fail
  refine (xaDepthE F3.out.de).mono ?_
  rintro e w5 ⟨rfl, hb⟩
  have F4 := Lib.hid (F3.out.later hb)
  have HE4 := Lib.hid (HE3.out.later hb)
  have HB4 := Lib.hid (HB3.out.trans (hb.mono HB3.out.size))
  clear hb e0 e1 e2 e3 e4 e5 e6 e7 v0 v1 v2 v3 v4 v5 v6 v7 s0 s1 s2 s3 s4 s5 s6 s7 F3 HE3 HB3
  obtain ⟨⟨e0, e1, e2, e3, e4, e5, e6, e7⟩, ⟨v0, v1, v2, v3, v4, v5, v6, v7⟩, s0, s1, s2, s3, s4, s5, s6, s7⟩ := boxes3 F4.out
  go_wp2_with fail
  refine (xaValueE F4.out.de).mono ?_
  rintro e w6 ⟨rfl, hb⟩
  have F5 := Lib.hid (F4.out.later hb)
  have HE5 := Lib.hid (HE4.out.later hb)
  have HB5 := Lib.hid (HB4.out.trans (hb.mono HB4.out.size))
  clear hb e0 e1 e2 e3 e4 e5 e6 e7 v0 v1 v2 v3 v4 v5 v6 v7 s0 s1 s2 s3 s4 s5 s6 s7 F4 HE4 HB4
  obtain ⟨⟨e0, e1, e2, e3, e4, e5, e6, e7⟩, ⟨v0, v1, v2, v3, v4, v5, v6, v7⟩, s0, s1, s2, s3, s4, s5, s6, s7⟩ := boxes3 F5.out
  go_wp2_with fail
  refine (xaValueV).mono ?_
  rintro e w7 ⟨rfl, hb⟩
  have F6 := Lib.hid (F5.out.later hb)
  have HE6 := Lib.hid (HE5.out.later hb)
  have HB6 := Lib.hid (HB5.out.trans (hb.mono HB5.out.size))
  clear hb e0 e1 e2 e3 e4 e5 e6 e7 v0 v1 v2 v3 v4 v5 v6 v7 s0 s1 s2 s3 s4 s5 s6 s7 F5 HE5 HB5
  obtain ⟨⟨e0, e1, e2, e3, e4, e5, e6, e7⟩, ⟨v0, v1, v2, v3, v4, v5, v6, v7⟩, s0, s1, s2, s3, s4, s5, s6, s7⟩ := boxes3 F6.out
  go_wp2_with fail
  refine (xaTextF F6.out.ds).mono ?_
  rintro e w8 ⟨rfl, hb⟩
  have F7 := Lib.hid (F6.out.later hb)
  have HE7 := Lib.hid (HE6.out.later hb)
  have HB7 := Lib.hid (HB6.out.trans (hb.mono HB6.out.size))
  clear hb e0 e1 e2 e3 e4 e5 e6 e7 v0 v1 v2 v3 v4 v5 v6 v7 s0 s1 s2 s3 s4 s5 s6 s7 F6 HE6 HB6
  obtain ⟨⟨e0, e1, e2, e3, e4, e5, e6, e7⟩, ⟨v0, v1, v2, v3, v4, v5, v6, v7⟩, s0, s1, s2, s3, s4, s5, s6, s7⟩ := boxes3 F7.out
  obtain ⟨z0, z1, z2, z3, z4, z5, z6, z7⟩ := (F7.out.bv.later (w' := w8.alloc (.cells #[.string ⟨#[102]⟩] 9)) ((Below.refl _ _).alloc (Nat.le_refl _) _)).c8
  go_wp2_with fail
  clear z0 z1 z2 z3 z4 z5 z6 z7
  refine (xaRepl F7.out.de).mono ?_
  rintro e w9 ⟨qs, rfl, hq, hb⟩
  have HQ := Lib.hid hq
  obtain ⟨A2, m2, c2, B2, l2, d2, C2, n2, f2, rfl, _⟩ := ex_open hq
  clear hq
  have F8 := Lib.hid (F7.out.later hb)
  have HE8 := Lib.hid (HE7.out.later hb)
  have HB8 := Lib.hid (HB7.out.trans (hb.mono HB7.out.size))
  clear hb e0 e1 e2 e3 e4 e5 e6 e7 v0 v1 v2 v3 v4 v5 v6 v7 s0 s1 s2 s3 s4 s5 s6 s7 F7 HE7 HB7
  obtain ⟨⟨e0, e1, e2, e3, e4, e5, e6, e7⟩, ⟨v0, v1, v2, v3, v4, v5, v6, v7⟩, s0, s1, s2, s3, s4, s5, s6, s7⟩ := boxes3 F8.out
  go_wp2_with fail
  refine (xaTextR HQ.out).mono ?_
  rintro e w10 ⟨rfl, hb⟩
  clear HQ
  have F9 := Lib.hid (F8.out.later hb)
  have HE9 := Lib.hid (HE8.out.later hb)
  have HB9 := Lib.hid (HB8.out.trans (hb.mono HB8.out.size))
  clear hb e0 e1 e2 e3 e4 e5 e6 e7 v0 v1 v2 v3 v4 v5 v6 v7 s0 s1 s2 s3 s4 s5 s6 s7 F8 HE8 HB8
  obtain ⟨⟨e0, e1, e2, e3, e4, e5, e6, e7⟩, ⟨v0, v1, v2, v3, v4, v5, v6, v7⟩, s0, s1, s2, s3, s4, s5, s6, s7⟩ := boxes3 F9.out
  go_wp2_with fail
  refine (xaSameEE F9.out.de).mono ?_
  rintro e w11 ⟨rfl, hb⟩
  have F10 := Lib.hid (F9.out.later hb)
  have HE10 := Lib.hid (HE9.out.later hb)
  have HB10 := Lib.hid (HB9.out.trans (hb.mono HB9.out.size))
  clear hb e0 e1 e2 e3 e4 e5 e6 e7 v0 v1 v2 v3 v4 v5 v6 v7 s0 s1 s2 s3 s4 s5 s6 s7 F9 HE9 HB9
  obtain ⟨⟨e0, e1, e2, e3, e4, e5, e6, e7⟩, ⟨v0, v1, v2, v3, v4, v5, v6, v7⟩, s0, s1, s2, s3, s4, s5, s6, s7⟩ := boxes3 F10.out
  go_wp2_with fail
  refine (xaSameEF F10.out.de F10.out.ds).mono ?_
  rintro e w12 ⟨rfl, hb⟩
  have F11 := Lib.hid (F10.out.later hb)
  have HE11 := Lib.hid (HE10.out.later hb)
  have HB11 := Lib.hid (HB10.out.trans (hb.mono HB10.out.size))
  clear hb e0 e1 e2 e3 e4 e5 e6 e7 v0 v1 v2 v3 v4 v5 v6 v7 s0 s1 s2 s3 s4 s5 s6 s7 F10 HE10 HB10
  obtain ⟨⟨e0, e1, e2, e3, e4, e5, e6, e7⟩, ⟨v0, v1, v2, v3, v4, v5, v6, v7⟩, s0, s1, s2, s3, s4, s5, s6, s7⟩ := boxes3 F11.out
  go_wp2_with fail
  refine (xaAllE F11.out.de).mono ?_
  rintro e w13 ⟨fn, tys, cb, rfl, hb⟩
  have F12 := Lib.hid (F11.out.later hb)
  have HE12 := Lib.hid (HE11.out.later hb)
  have HB12 := Lib.hid (HB11.out.trans (hb.mono HB11.out.size))
  clear hb e0 e1 e2 e3 e4 e5 e6 e7 v0 v1 v2 v3 v4 v5 v6 v7 s0 s1 s2 s3 s4 s5 s6 s7 F11 HE11 HB11
  have nq := neqFnX fn tys cb
  go_wp2_with fail
  go_ret
  exact ⟨rfl, HB12.out⟩
end Go.Proofs.YtnfakhohoibkpaaDoor
