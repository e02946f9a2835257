/- The examples of law06.awake in plain words and in memory, and its walk. No condition but the table of words. -/
import Derived.Test.YtaeljknfbanbfaaGreatDoorDcVa
import Derived.Test.YtaeljknfbanbfaaGreatDoorDcVc
import Derived.Test.YtaeljknfbanbfaaGreatDoorDcU
import Derived.Test.YtaeljknfbanbfaaGreatDoorDcF
import Derived.Test.YtaeljknfbanbfaaGreatDoorDcM
import Derived.Deep.RegionHeld3
namespace Go.Proofs.YtaeljknfbanbfaaGreatDoor
open Go.RowKit

def dcT : Ty := .mk ⟨#[84]⟩ [] 0
def mnT : Ex := .mk 3 ⟨#[]⟩ dcT [] [] 0
def pgP : Pg := ⟨[], mnT⟩
def tyAny : Ty := .mk ⟨#[65, 110, 121]⟩ [] 0
def foA : Fo := ⟨⟨#[97]⟩, tyAny, 0⟩
def dcS : Dc := ⟨1, ⟨#[84]⟩, [foA], [], [], ⟨#[]⟩, [], Sg.none?, Ex.none?, 0⟩
def pgQ : Pg := ⟨[dcS], mnT⟩
def pgZ : Pg := ⟨[], Ex.none?⟩
abbrev usM : List Value := [.int .i64 3, .string ⟨#[]⟩, .string ⟨#[84]⟩, .slice none 0 0, .int .i64 0, .slice none 0 0, .slice none 0 0, .int .i64 0]
abbrev usP : List Value := [.slice none 0 0, .int .i64 3, .string ⟨#[]⟩, .string ⟨#[84]⟩, .slice none 0 0, .int .i64 0, .slice none 0 0, .slice none 0 0, .int .i64 0]
abbrev usQ (d : Nat) : List Value := [.slice (some ⟨d, 0, none⟩) 1 1, .int .i64 3, .string ⟨#[]⟩, .string ⟨#[84]⟩, .slice none 0 0, .int .i64 0, .slice none 0 0, .slice none 0 0, .int .i64 0]
abbrev usZ : List Value := [.slice none 0 0, .int .i64 0, .string ⟨#[]⟩, .string ⟨#[]⟩, .slice none 0 0, .int .i64 0, .slice none 0 0, .slice none 0 0, .int .i64 0]
abbrev usF : List Value := [.string ⟨#[97]⟩, .string ⟨#[65, 110, 121]⟩, .slice none 0 0, .int .i64 0, .int .i64 0]
abbrev usD (f : Nat) : List Value := [.int .i64 1, .string ⟨#[84]⟩, .slice (some ⟨f, 0, none⟩) 1 1, .slice none 0 0, .slice none 0 0, .string ⟨#[]⟩, .slice none 0 0, .string ⟨#[]⟩, .slice none 0 0, .slice none 0 0, .string ⟨#[]⟩, .slice none 0 0, .int .i64 0, .int .i64 0,
  .int .i64 0, .string ⟨#[]⟩, .string ⟨#[]⟩, .slice none 0 0, .int .i64 0, .slice none 0 0, .slice none 0 0, .int .i64 0, .int .i64 0]
abbrev usS : List Value := [.string ⟨#[]⟩, .slice none 0 0, .slice none 0 0, .string ⟨#[]⟩, .slice none 0 0, .int .i64 0, .int .i64 0]
theorem dcT_wt : dcT.wt ≤ 1000 := by simp [dcT, Ty.wt, Ty.wtL, ByteArray.size]
theorem mnT_wt : mnT.wt ≤ 500 := by simp [mnT, dcT, Ex.wt, Ex.wtL, Ty.wt, Ty.wtL, ByteArray.size]
theorem exZ_wt : Ex.none?.wt ≤ 100 := by simp [Ex.none?, Ex.wt, Ex.wtL, Ty.wt, Ty.wtL, ByteArray.size]
theorem sgZ_wt : Sg.none?.wt ≤ 100 := by simp [Sg.none?, Sg.wt, sumBy, Ty.wt, Ty.wtL, ByteArray.size]
theorem dcS_wt : dcS.wt ≤ 500 := by
  have h1 := exZ_wt
  have h2 := sgZ_wt
  simp [dcS, Dc.wt, sumBy, foA, Fo.wt, tyAny, Ty.wt, Ty.wtL, ByteArray.size]
  omega
theorem pgP_wt : pgP.wt ≤ 1000 := by have := mnT_wt; simp [pgP, Pg.wt, sumBy]; omega
theorem pgQ_wt : pgQ.wt ≤ 1000 := by have := mnT_wt; have := dcS_wt; simp [pgQ, Pg.wt, sumBy]; omega
theorem pgZ_wt : pgZ.wt ≤ 1000 := by have := exZ_wt; simp [pgZ, Pg.wt, sumBy]; omega
theorem pgP_types : pgP.types = [dcT] := by simp [pgP, Pg.types, mnT, Ex.types, Ex.list, Ex.listL, Ex.own, Ex.typed, Ex.targs, Ex.kind, Ex.ty]
theorem pgP_depth : pgP.depth = 2 := by rw [Pg.depth, pgP_types]; simp [Pg.depth1, pgP, mnT, dcT, Ex.depth, Ex.depthL, Ex.typed, Ty.depth, Ty.depthL]
theorem mnT_right : mnT.right = true := by simp [mnT, dcT, Ex.right, Ex.rightL, Ex.fit, Ex.typed, Ty.right, Ty.list, Ty.listL]; decide
theorem exZ_right : Ex.none?.right = false := by simp [Ex.none?, Ex.right, Ex.rightL, Ex.fit, Ex.typed, Ty.right, Ty.list, Ty.listL]
theorem foA_right : foA.right = true := by simp [foA, Fo.right, tyAny, Ty.right, Ty.list, Ty.listL]; decide
theorem exZZ : Ex.none?.same Ex.none? = true := by simp [Ex.none?, Ex.same, Ex.sameL, Ex.sameT, Ty.cmp, Ty.cmpL]
theorem sgZZ : Sg.sameX false Sg.none? Sg.none? = true := by simp [Sg.none?, Sg.sameX, sameBy, bytesEq, Ty.cmp, Ty.cmpL]
theorem dcS_right : dcS.right = true := by
  simp only [dcS, Dc.right, List.all_cons, List.all_nil, foA_right, sgZZ, exZZ]
  decide
theorem pgQ_right : pgQ.right = true := by simp [pgQ, Pg.right, dcS_right, mnT_right]
theorem pgZ_right : pgZ.right = false := by simp [pgZ, Pg.right, exZ_right]
theorem mnMM : mnT.same mnT = true := by simp [mnT, dcT, Ex.same, Ex.sameL, Ex.sameT, Ty.cmp, Ty.cmpL]
theorem foAA : Fo.sameX false foA foA = true := by simp [foA, Fo.sameX, bytesEq, tyAny, Ty.cmp, Ty.cmpL]
theorem dcSS : Dc.sameX false dcS dcS = true := by simp [dcS, Dc.sameX, sameBy, foAA, sgZZ, exZZ, bytesEq]
theorem pgPP : Pg.sameX false pgP pgP = true := by simp [pgP, Pg.sameX, sameBy, mnMM]
theorem pgPQ : Pg.sameX false pgP pgQ = false := by simp [pgP, pgQ, Pg.sameX, sameBy]
theorem pgQQ : Pg.sameX false pgQ pgQ = true := by simp [pgQ, Pg.sameX, sameBy, dcSS, mnMM]
theorem mnT_bare : mnT.bare = true := by simp [mnT, Ex.bare, Ex.list, Ex.listL, Ex.bare1, Ex.targs]
theorem pgP_bare : pgP.bareP = true := by rw [Pg.bareP, pgP_types]; simp [pgP, mnT_bare, dcT, Ty.bare, Ty.args]
theorem pgQ_bare : pgQ.bareP = false := by simp [Pg.bareP, pgQ, dcS, Dc.bare]
theorem mnT_in (w : World) (S : Nat → Prop) : mnT.dat.In w False S usM :=
  ex_shut (e := mnT) (show (0 : Nat) ≤ _ by omega) (show (1 : Nat) ≤ _ by omega) (Lies.nil _ _ _) (Lies.nil _ _ _) (Row.nil _ _ _ _ _) (Nat.le_refl _)
theorem pgP_in (w : World) : pgP.dat.H w usP := pg_shut (p := pgP) (Row.nil _ _ _ _ _) (mnT_in _ _)
theorem pgZ_in (w : World) : pgZ.dat.H w usZ := pg_shut (p := pgZ) (Row.nil _ _ _ _ _) (exNone_in _ _ _)
theorem foA_in (w : World) (S : Nat → Prop) : foA.dat.In w False S usF := fo_shut (f := foA) (show (1 : Nat) ≤ _ by omega) (show (3 : Nat) ≤ _ by omega) (Lies.nil _ _ _)
/-- A row of one datum in a block that is known. -/
theorem row_single {w : World} {S : Nat → Prop} {g z : Nat} {us : List Value} {d : Dat} (hB : Boxd w g us) (hS : S g) (hd : d.In w False S us) : Row w False S z (some ⟨g, 0, none⟩) 1 [d] :=
  ⟨rfl, by omega, by
    rw [Dat.Elems]
    exact ⟨⟨_, us, rfl, hS, False.elim, hd, fun j u hu => by rw [Nat.zero_mul, add_add, Nat.zero_add, add_zero_addr]; exact hB j u hu⟩, by rw [Dat.Elems]; trivial⟩⟩
/-- What lies in memory behind the examples' making. -/
structure AwD (W : World) (b f d q : Nat) : Prop where
  bp : Boxd W b usP
  bq : Boxd W q (usQ d)
  bd : Boxd W d (usD f)
  dq : pgQ.dat.H W (usQ d)
  dd : dcS.dat.H W (usD f)
theorem AwD.later {W W' : World} {b f d q : Nat} (h : AwD W b f d q) (hb : Below W.heap.size W W') : AwD W' b f d q := ⟨h.bp.later hb, h.bq.later hb, h.bd.later hb, Dat.H.later h.dq hb, Dat.H.later h.dd hb⟩
theorem AwD.of {W : World} {b f d q : Nat} (hp : Boxd W b usP) (hf : Boxd W f usF) (hd : Boxd W d (usD f)) (hq : Boxd W q (usQ d)) : AwD W b f d q := by
  have h1 : Row W False (· < W.heap.size) 5 (some ⟨f, 0, none⟩) 1 ([foA].map Fo.dat) := row_single hf (cell_lt (hf 0 _ rfl)) (foA_in W _)
  have h2 : dcS.dat.H W (usD f) := dc_shut (d := dcS) (sv := usS) (bv := [.int .i64 0, .string ⟨#[]⟩, .string ⟨#[]⟩, .slice none 0 0, .int .i64 0, .slice none 0 0, .slice none 0 0, .int .i64 0]) (show (1 : Nat) ≤ _ by omega) h1 (Row.nil _ _ _ _ _) (Row.nil _ _ _ _ _) (show (0 : Nat) ≤ _ by omega) (Row.nil _ _ _ _ _) (sgNone_in _ _ _) (exNone_in _ _ _)
  exact ⟨hp, hq, hd, pg_shut (p := pgQ) (row_single hd (cell_lt (hd 0 _ rfl)) h2) (mnT_in _ _), h2⟩
def daW (w : World) : World := (((w.alloc (.cells usP.toArray 40)).alloc (.cells usF.toArray 51)).alloc (.cells (usD (w.heap.size + 1)).toArray 35)).alloc (.cells (usQ (w.heap.size + 1 + 1)).toArray 40)
theorem daW_bel (w : World) : Below w.heap.size w (daW w) := by
  have h : ∀ (X : World) (o : Obj), Below w.heap.size w X → Below w.heap.size w (X.alloc o) := fun X o h => h.alloc h.size o
  exact h _ _ (h _ _ (h _ _ (h _ _ (Below.refl _ _))))
theorem daW_aw (w : World) : AwD (daW w) w.heap.size (w.heap.size + 1) (w.heap.size + 1 + 1) (w.heap.size + 1 + 1 + 1) := by
  have hs : ∀ (X : World) (o : Obj), (X.alloc o).heap.size = X.heap.size + 1 := fun X o => World.size_alloc _ _
  have hb : ∀ (X : World) (o : Obj), Below X.heap.size X (X.alloc o) := fun X o => (Below.refl _ _).alloc (Nat.le_refl _) _
  have n1 := Boxd.new w usP.toArray 40
  have n2 := Boxd.new (w.alloc (.cells usP.toArray 40)) usF.toArray 51
  rw [hs] at n2
  have n3 := Boxd.new ((w.alloc (.cells usP.toArray 40)).alloc (.cells usF.toArray 51)) (usD (w.heap.size + 1)).toArray 35
  rw [hs, hs] at n3
  have n4 := Boxd.new (((w.alloc (.cells usP.toArray 40)).alloc (.cells usF.toArray 51)).alloc (.cells (usD (w.heap.size + 1)).toArray 35)) (usQ (w.heap.size + 1 + 1)).toArray 40
  rw [hs, hs, hs] at n4
  exact AwD.of (((n1.later (hb _ _)).later (hb _ _)).later (hb _ _)) ((n2.later (hb _ _)).later (hb _ _)) (n3.later (hb _ _)) n4

/-- A struct loaded whole yields it in every world where it lies. -/
theorem loadYield {ty : TypeId} {z : Nat} (hf : Flat ty z) {f : Operand → Value} {V : World} {d i : Nat} {ps : String} {af : Array Edge} {g : Option (Nat × Bool)} {p : Addr} {us : List Value} (hx : f (.tmp i) = .pointer (some p)) (hc : CellsAt V p us) (hl : us.length = z) :
    (execOp f { dst := some d, op := .load ty (.tmp i), type := ty, pos := ps, after := af, guard := g }).run Tryz.prog V = .ok (.value (.agg us.toArray)) V := by
  obtain ⟨dsc, h1, h2⟩ := hf.row
  unfold execOp
  simp only [hx, Instr.loadAt, Instr.sureAddr, Sem.run_bind, Sem.run_pure, Result.andThen_ok, run_loadVar_at V p ty us _ hc h1 h2 (by rw [hl]; exact hf.size)]
theorem daTypes (W : World) : Calls Tryz.prog 18 #[.agg usP.toArray] W (RPost W 3 1 [dcT.dat]) := by
  have := typesPg_any pgP usP W pgP_wt (by rw [pgP_types]; intro t ht; rw [List.mem_singleton.1 ht]; exact dcT_wt) (pgP_in W)
  rwa [pgP_types] at this
theorem daRightQ {W : World} {b f d q : Nat} (hE : ResVar W) (h : AwD W b f d q) : Calls Tryz.prog 38 #[.agg (usQ d).toArray] W (EqvPost W true) := by
  have := right_prog_any pgQ _ W hE pgQ_wt h.dq
  rwa [pgQ_right] at this
theorem daRightZ {W : World} (hE : ResVar W) : Calls Tryz.prog 38 #[.agg usZ.toArray] W (EqvPost W false) := by
  have := right_prog_any pgZ _ W hE pgZ_wt (pgZ_in W)
  rwa [pgZ_right] at this
theorem daSamePP (W : World) : Calls Tryz.prog 39 #[.agg usP.toArray, .agg usP.toArray] W (EqvPost W true) := by
  have := sameProg_any pgP pgP _ _ W (pgP_in W) (pgP_in W)
  rwa [pgPP] at this
theorem daSamePQ {W : World} {b f d q : Nat} (h : AwD W b f d q) : Calls Tryz.prog 39 #[.agg usP.toArray, .agg (usQ d).toArray] W (EqvPost W false) := by
  have := sameProg_any pgP pgQ _ _ W (pgP_in W) h.dq
  rwa [pgPQ] at this
theorem daPlainP (W : World) : Calls Tryz.prog 23 #[.agg usP.toArray] W (EqvPost W true) := by
  have := plainPg_any pgP _ W pgP_wt (pgP_in W)
  rwa [pgP_bare] at this
theorem daPlainQ {W : World} {b f d q : Nat} (h : AwD W b f d q) : Calls Tryz.prog 23 #[.agg (usQ d).toArray] W (EqvPost W false) := by
  have := plainPg_any pgQ _ W pgQ_wt h.dq
  rwa [pgQ_bare] at this
theorem daDepth (W : World) : Calls Tryz.prog 21 #[.agg usP.toArray] W (NatPost W 2) := by
  have := depthPg_any pgP _ W pgP_wt (by rw [pgP_types]; intro t ht; rw [List.mem_singleton.1 ht]; exact dcT_wt) (pgP_in W)
  rwa [pgP_depth] at this
theorem daRightD {W : World} {b f d q : Nat} (hE : ResVar W) (h : AwD W b f d q) : Calls Tryz.prog 11 #[.agg (usD f).toArray] W (EqvPost W true) := by
  have := rightDecl_any dcS _ W hE (Nat.le_trans dcS_wt (by omega)) h.dd
  rwa [dcS_right] at this
theorem daSameD {W : World} {b f d q : Nat} (h : AwD W b f d q) : Calls Tryz.prog 13 #[.agg (usD f).toArray, .agg (usD f).toArray] W (EqvPost W true) := by
  have := sameDecl_any dcS dcS _ _ W h.dd h.dd
  rwa [dcSS] at this
theorem daSameS (W : World) : Calls Tryz.prog 15 #[.agg usS.toArray, .agg usS.toArray] W (EqvPost W true) := by
  have := sameSig_any Sg.none? Sg.none? _ _ W (sgNone_in _ _ _) (sgNone_in _ _ _)
  rwa [sgZZ] at this

set_option maxRecDepth 100000 in
set_option maxHeartbeats 16000000 in
theorem dawake_any (w : World) (hE : ResVar w) :
    Calls Tryz.prog 9 #[] w fun e w' => e = .returned (.bool true) ∧ Below w.heap.size w w' := by
  have F0 := Lib.hid (daW_aw w)
  have HE0 := Lib.hid (hE.later (daW_bel w))
  have HB0 := Lib.hid (daW_bel w)
  go_enter Tryz.func9, Tryz.ntmps9
  go_upto_region 3 with fail
  rw [show (((w.alloc (.cells usP.toArray 40)).alloc (.cells usF.toArray 51)).alloc (.cells (usD (w.heap.size + 1)).toArray 35)).alloc (.cells (usQ (w.heap.size + 1 + 1)).toArray 40) = daW w from rfl]
  generalize daW w = W at *
  obtain ⟨b0, hb0⟩ : ∃ b, w.heap.size = b := ⟨_, rfl⟩
  obtain ⟨f0, hf0⟩ : ∃ b, w.heap.size + 1 = b := ⟨_, rfl⟩
  obtain ⟨d0, hd0⟩ : ∃ b, w.heap.size + 1 + 1 = b := ⟨_, rfl⟩
  obtain ⟨q0, hq0⟩ : ∃ b, w.heap.size + 1 + 1 + 1 = b := ⟨_, rfl⟩
  rw [hq0, hd0, hf0, hb0] at F0
  have HB0 := Lib.hid HB0.out
  rw [hq0, hd0, hf0, hb0]
  clear hb0 hf0 hd0 hq0
  obtain ⟨p0, p1, p2, p3, p4, p5, p6, p7, p8⟩ := F0.out.bp.c9
  go_wp2_with fail
  refine (daTypes _).mono ?_
  rintro e w1 ⟨A, c, rfl, hrow, hb⟩
  obtain ⟨a, us, rfl, _, _, hu, hcs⟩ := hrow.at (k := 0) (d := dcT.dat) rfl
  obtain ⟨B, m, cc, rfl, _, _⟩ := ty_open hu
  have SS : Below w1.heap.size w1 w1 ∧ AwD w1 b0 f0 d0 q0 ∧ w1.cell? a = some (.string ⟨#[84]⟩) ∧ ResVar w1 := ⟨Below.refl _ _, F0.out.later hb, hcs 0 _ rfl, HE0.out.later hb⟩
  have HB1 := Lib.hid (HB0.out.trans (hb.mono HB0.out.size))
  clear hrow hu hcs hb F0 HE0 HB0 p0 p1 p2 p3 p4 p5 p6 p7 p8
  go_wp2_with fail
  refine wp_region_held_drew (S := fun V => Below w1.heap.size w1 V ∧ AwD V b0 f0 d0 q0 ∧ V.cell? a = some (.string ⟨#[84]⟩) ∧ ResVar V) (by kernel_rfl) (by exact ⟨SS.1.drew, SS.2.1.later (Below.refl _ _).drew, SS.2.2.1, SS.2.2.2.later (Below.refl _ _).drew⟩) (fun hS => ?_)
  simp only [List.append_eq, List.cons_append, List.nil_append]
  first
  | (refine wpAnyH_take (i := 0) (v := ?_) rfl (by kernel_rfl) (by kernel_rfl) (by kernel_rfl) (fun _ _ _ h => h) (Or.inl ⟨by rfl, ?_⟩) (by assumption) ?_
     rotate_left
     · (intro V hV; obtain ⟨_, hA, t0, hR⟩ := hV; go_simp; try with_reducible rfl)
     try simp only [Act.put, List.getElem_toArray, List.getElem_cons_zero, List.setIfInBounds_toArray, List.set_cons_zero, List.set_cons_succ])
  | (refine wpAnyH_take (i := 0) (v := undef) rfl (by kernel_rfl) (by kernel_rfl) (by kernel_rfl) (fun _ _ _ h => h) (Or.inr ⟨by rfl, rfl⟩) (by assumption) ?_
     try simp only [Act.put, List.getElem_toArray, List.getElem_cons_zero, List.setIfInBounds_toArray, List.set_cons_zero, List.set_cons_succ])
  | fail "take 0"
  first
  | (refine wpAnyH_take (i := 1) (v := ?_) rfl (by kernel_rfl) (by kernel_rfl) (by kernel_rfl) (fun _ _ _ h => h) (Or.inl ⟨by rfl, ?_⟩) (by assumption) ?_
     rotate_left
     · (intro V hV; obtain ⟨_, hA, t0, hR⟩ := hV; go_simp; try with_reducible rfl)
     try simp only [Act.put, List.getElem_toArray, List.getElem_cons_zero, List.getElem_cons_succ, List.setIfInBounds_toArray, List.set_cons_zero, List.set_cons_succ])
  | (refine wpAnyH_take (i := 1) (v := undef) rfl (by kernel_rfl) (by kernel_rfl) (by kernel_rfl) (fun _ _ _ h => h) (Or.inr ⟨by rfl, rfl⟩) (by assumption) ?_
     try simp only [Act.put, List.getElem_toArray, List.getElem_cons_zero, List.getElem_cons_succ, List.setIfInBounds_toArray, List.set_cons_zero, List.set_cons_succ])
  | fail "take 1"
  first
  | (refine wpAnyH_take (i := 2) (v := ?_) rfl (by kernel_rfl) (by kernel_rfl) (by kernel_rfl) (fun _ _ _ h => h) (Or.inl ⟨by rfl, ?_⟩) (by assumption) ?_
     rotate_left
     · (intro V hV; obtain ⟨_, hA, t0, hR⟩ := hV; go_simp; try with_reducible rfl)
     try simp only [Act.put, List.getElem_toArray, List.getElem_cons_zero, List.getElem_cons_succ, List.setIfInBounds_toArray, List.set_cons_zero, List.set_cons_succ])
  | (refine wpAnyH_take (i := 2) (v := undef) rfl (by kernel_rfl) (by kernel_rfl) (by kernel_rfl) (fun _ _ _ h => h) (Or.inr ⟨by rfl, rfl⟩) (by assumption) ?_
     try simp only [Act.put, List.getElem_toArray, List.getElem_cons_zero, List.getElem_cons_succ, List.setIfInBounds_toArray, List.set_cons_zero, List.set_cons_succ])
  | fail "take 2"
  first
  | (refine wpAnyH_take (i := 3) (v := ?_) rfl (by kernel_rfl) (by kernel_rfl) (by kernel_rfl) (fun _ _ _ h => h) (Or.inl ⟨by rfl, ?_⟩) (by assumption) ?_
     rotate_left
     · (intro V hV; obtain ⟨_, hA, t0, hR⟩ := hV; go_simp; try with_reducible rfl)
     try simp only [Act.put, List.getElem_toArray, List.getElem_cons_zero, List.getElem_cons_succ, List.setIfInBounds_toArray, List.set_cons_zero, List.set_cons_succ])
  | (refine wpAnyH_take (i := 3) (v := undef) rfl (by kernel_rfl) (by kernel_rfl) (by kernel_rfl) (fun _ _ _ h => h) (Or.inr ⟨by rfl, rfl⟩) (by assumption) ?_
     try simp only [Act.put, List.getElem_toArray, List.getElem_cons_zero, List.getElem_cons_succ, List.setIfInBounds_toArray, List.set_cons_zero, List.set_cons_succ])
  | fail "take 3"
  first
  | (refine wpAnyH_take (i := 4) (v := ?_) rfl (by kernel_rfl) (by kernel_rfl) (by kernel_rfl) (fun _ _ _ h => h) (Or.inl ⟨by rfl, ?_⟩) (by assumption) ?_
     rotate_left
     · (intro V hV; obtain ⟨_, hA, t0, hR⟩ := hV; go_simp; try with_reducible rfl)
     try simp only [Act.put, List.getElem_toArray, List.getElem_cons_zero, List.getElem_cons_succ, List.setIfInBounds_toArray, List.set_cons_zero, List.set_cons_succ])
  | (refine wpAnyH_take (i := 4) (v := undef) rfl (by kernel_rfl) (by kernel_rfl) (by kernel_rfl) (fun _ _ _ h => h) (Or.inr ⟨by rfl, rfl⟩) (by assumption) ?_
     try simp only [Act.put, List.getElem_toArray, List.getElem_cons_zero, List.getElem_cons_succ, List.setIfInBounds_toArray, List.set_cons_zero, List.set_cons_succ])
  | fail "take 4"
  first
  | (refine wpAnyH_take (i := 5) (v := ?_) rfl (by kernel_rfl) (by kernel_rfl) (by kernel_rfl) (fun _ _ _ h => h) (Or.inl ⟨by rfl, ?_⟩) (by assumption) ?_
     rotate_left
     · (intro V hV; obtain ⟨_, hA, t0, hR⟩ := hV; go_simp; try with_reducible rfl)
     try simp only [Act.put, List.getElem_toArray, List.getElem_cons_zero, List.getElem_cons_succ, List.setIfInBounds_toArray, List.set_cons_zero, List.set_cons_succ])
  | (refine wpAnyH_take (i := 5) (v := undef) rfl (by kernel_rfl) (by kernel_rfl) (by kernel_rfl) (fun _ _ _ h => h) (Or.inr ⟨by rfl, rfl⟩) (by assumption) ?_
     try simp only [Act.put, List.getElem_toArray, List.getElem_cons_zero, List.getElem_cons_succ, List.setIfInBounds_toArray, List.set_cons_zero, List.set_cons_succ])
  | fail "take 5"
  first
  | (refine wpAnyH_take (i := 6) (v := ?_) rfl (by kernel_rfl) (by kernel_rfl) (by kernel_rfl) (fun _ _ _ h => h) (Or.inl ⟨by rfl, ?_⟩) (by assumption) ?_
     rotate_left
     · (intro V hV; obtain ⟨_, hA, t0, hR⟩ := hV; go_simp; try with_reducible rfl)
     try simp only [Act.put, List.getElem_toArray, List.getElem_cons_zero, List.getElem_cons_succ, List.setIfInBounds_toArray, List.set_cons_zero, List.set_cons_succ])
  | (refine wpAnyH_take (i := 6) (v := undef) rfl (by kernel_rfl) (by kernel_rfl) (by kernel_rfl) (fun _ _ _ h => h) (Or.inr ⟨by rfl, rfl⟩) (by assumption) ?_
     try simp only [Act.put, List.getElem_toArray, List.getElem_cons_zero, List.getElem_cons_succ, List.setIfInBounds_toArray, List.set_cons_zero, List.set_cons_succ])
  | fail "take 6"
  first
  | (refine wpAnyH_take (i := 7) (v := ?_) rfl (by kernel_rfl) (by kernel_rfl) (by kernel_rfl) (fun _ _ _ h => h) (Or.inl ⟨by rfl, ?_⟩) (by assumption) ?_
     rotate_left
     · (intro V hV; obtain ⟨_, hA, t0, hR⟩ := hV; go_simp; try with_reducible rfl)
     try simp only [Act.put, List.getElem_toArray, List.getElem_cons_zero, List.getElem_cons_succ, List.setIfInBounds_toArray, List.set_cons_zero, List.set_cons_succ])
  | (refine wpAnyH_take (i := 7) (v := undef) rfl (by kernel_rfl) (by kernel_rfl) (by kernel_rfl) (fun _ _ _ h => h) (Or.inr ⟨by rfl, rfl⟩) (by assumption) ?_
     try simp only [Act.put, List.getElem_toArray, List.getElem_cons_zero, List.getElem_cons_succ, List.setIfInBounds_toArray, List.set_cons_zero, List.set_cons_succ])
  | fail "take 7"
  first
  | (refine wpAnyH_take (i := 8) (v := ?_) rfl (by kernel_rfl) (by kernel_rfl) (by kernel_rfl) (fun _ _ _ h => h) (Or.inl ⟨by rfl, ?_⟩) (by assumption) ?_
     rotate_left
     · (intro V hV; obtain ⟨_, hA, t0, hR⟩ := hV; go_simp; try with_reducible rfl)
     try simp only [Act.put, List.getElem_toArray, List.getElem_cons_zero, List.getElem_cons_succ, List.setIfInBounds_toArray, List.set_cons_zero, List.set_cons_succ])
  | (refine wpAnyH_take (i := 8) (v := undef) rfl (by kernel_rfl) (by kernel_rfl) (by kernel_rfl) (fun _ _ _ h => h) (Or.inr ⟨by rfl, rfl⟩) (by assumption) ?_
     try simp only [Act.put, List.getElem_toArray, List.getElem_cons_zero, List.getElem_cons_succ, List.setIfInBounds_toArray, List.set_cons_zero, List.set_cons_succ])
  | fail "take 8"
  first
  | (refine wpAnyH_take (i := 9) (v := ?_) rfl (by kernel_rfl) (by kernel_rfl) (by kernel_rfl) (fun _ _ _ h => h) (Or.inl ⟨by rfl, ?_⟩) (by assumption) ?_
     rotate_left
     · (intro V hV; obtain ⟨_, hA, t0, hR⟩ := hV; go_simp; try with_reducible rfl)
     try simp only [Act.put, List.getElem_toArray, List.getElem_cons_zero, List.getElem_cons_succ, List.setIfInBounds_toArray, List.set_cons_zero, List.set_cons_succ])
  | (refine wpAnyH_take (i := 9) (v := undef) rfl (by kernel_rfl) (by kernel_rfl) (by kernel_rfl) (fun _ _ _ h => h) (Or.inr ⟨by rfl, rfl⟩) (by assumption) ?_
     try simp only [Act.put, List.getElem_toArray, List.getElem_cons_zero, List.getElem_cons_succ, List.setIfInBounds_toArray, List.set_cons_zero, List.set_cons_succ])
  | fail "take 9"
  first
  | (refine wpAnyH_take (i := 10) (v := ?_) rfl (by kernel_rfl) (by kernel_rfl) (by kernel_rfl) (fun _ _ _ h => h) (Or.inl ⟨by rfl, ?_⟩) (by assumption) ?_
     rotate_left
     · (intro V hV; obtain ⟨_, hA, t0, hR⟩ := hV; go_simp; try with_reducible rfl)
     try simp only [Act.put, List.getElem_toArray, List.getElem_cons_zero, List.getElem_cons_succ, List.setIfInBounds_toArray, List.set_cons_zero, List.set_cons_succ])
  | (refine wpAnyH_take (i := 10) (v := undef) rfl (by kernel_rfl) (by kernel_rfl) (by kernel_rfl) (fun _ _ _ h => h) (Or.inr ⟨by rfl, rfl⟩) (by assumption) ?_
     try simp only [Act.put, List.getElem_toArray, List.getElem_cons_zero, List.getElem_cons_succ, List.setIfInBounds_toArray, List.set_cons_zero, List.set_cons_succ])
  | fail "take 10"
  refine wpAnyH_take (i := 11) (v := .agg (usQ d0).toArray) rfl (by kernel_rfl) (by kernel_rfl) (by kernel_rfl) (fun _ _ _ h => h) (Or.inl ⟨by rfl, fun V hV => loadYield flatPg rfl hV.2.1.bq.at0 rfl⟩) (by assumption) ?_
  try simp only [Act.put, List.getElem_toArray, List.getElem_cons_zero, List.getElem_cons_succ, List.setIfInBounds_toArray, List.set_cons_zero, List.set_cons_succ]
  as_aux_lemma =>
    refine wpAnyH_ready (rs := [12]) (by kernel_rfl) (by simp) ?_
    refine AllReadyH.cons rfl (fun K hK => ?_) AllReadyH.nil
    go_simp
    refine (daRightQ hS.2.2.2 hS.2.1).mono ?_
    rintro e Wv ⟨rfl, hb⟩
    have SS : Below w1.heap.size w1 Wv ∧ AwD Wv b0 f0 d0 q0 ∧ Wv.cell? a = some (.string ⟨#[84]⟩) ∧ ResVar Wv := ⟨hS.1.trans (hb.mono hS.1.size), hS.2.1.later hb, (hb.cell (cell_lt hS.2.2.1)).trans hS.2.2.1, hS.2.2.2.later hb⟩
    clear hS hb
    refine hK.out _ _ SS (fun hS => ?_)
    clear hK K
    try simp only [Act.put, List.getElem_toArray, List.getElem_cons_zero, List.getElem_cons_succ, List.setIfInBounds_toArray, List.set_cons_zero, List.set_cons_succ]
    first
    | (refine wpAnyH_take (i := 13) (v := ?_) rfl (by kernel_rfl) (by kernel_rfl) (by kernel_rfl) (fun _ _ _ h => h) (Or.inl ⟨by rfl, ?_⟩) (by assumption) ?_
       rotate_left
       · (intro V hV; obtain ⟨_, hA, t0, hR⟩ := hV; go_simp; try with_reducible rfl)
       try simp only [Act.put, List.getElem_toArray, List.getElem_cons_zero, List.getElem_cons_succ, List.setIfInBounds_toArray, List.set_cons_zero, List.set_cons_succ])
    | (refine wpAnyH_take (i := 13) (v := undef) rfl (by kernel_rfl) (by kernel_rfl) (by kernel_rfl) (fun _ _ _ h => h) (Or.inr ⟨by rfl, rfl⟩) (by assumption) ?_
       try simp only [Act.put, List.getElem_toArray, List.getElem_cons_zero, List.getElem_cons_succ, List.setIfInBounds_toArray, List.set_cons_zero, List.set_cons_succ])
    | fail "take 13"
    first
    | (refine wpAnyH_take (i := 14) (v := ?_) rfl (by kernel_rfl) (by kernel_rfl) (by kernel_rfl) (fun _ _ _ h => h) (Or.inl ⟨by rfl, ?_⟩) (by assumption) ?_
       rotate_left
       · (intro V hV; obtain ⟨_, hA, t0, hR⟩ := hV; go_simp; try with_reducible rfl)
       try simp only [Act.put, List.getElem_toArray, List.getElem_cons_zero, List.getElem_cons_succ, List.setIfInBounds_toArray, List.set_cons_zero, List.set_cons_succ])
    | (refine wpAnyH_take (i := 14) (v := undef) rfl (by kernel_rfl) (by kernel_rfl) (by kernel_rfl) (fun _ _ _ h => h) (Or.inr ⟨by rfl, rfl⟩) (by assumption) ?_
       try simp only [Act.put, List.getElem_toArray, List.getElem_cons_zero, List.getElem_cons_succ, List.setIfInBounds_toArray, List.set_cons_zero, List.set_cons_succ])
    | fail "take 14"
    first
    | (refine wpAnyH_take (i := 15) (v := ?_) rfl (by kernel_rfl) (by kernel_rfl) (by kernel_rfl) (fun _ _ _ h => h) (Or.inl ⟨by rfl, ?_⟩) (by assumption) ?_
       rotate_left
       · (intro V hV; obtain ⟨_, hA, t0, hR⟩ := hV; go_simp; try with_reducible rfl)
       try simp only [Act.put, List.getElem_toArray, List.getElem_cons_zero, List.getElem_cons_succ, List.setIfInBounds_toArray, List.set_cons_zero, List.set_cons_succ])
    | (refine wpAnyH_take (i := 15) (v := undef) rfl (by kernel_rfl) (by kernel_rfl) (by kernel_rfl) (fun _ _ _ h => h) (Or.inr ⟨by rfl, rfl⟩) (by assumption) ?_
       try simp only [Act.put, List.getElem_toArray, List.getElem_cons_zero, List.getElem_cons_succ, List.setIfInBounds_toArray, List.set_cons_zero, List.set_cons_succ])
    | fail "take 15"
    refine wpAnyH_ready (rs := [16]) (by kernel_rfl) (by simp) ?_
    refine AllReadyH.cons rfl (fun K hK => ?_) AllReadyH.nil
    go_simp
    refine (daRightZ hS.2.2.2).mono ?_
    rintro e Wv ⟨rfl, hb⟩
    have SS : Below w1.heap.size w1 Wv ∧ AwD Wv b0 f0 d0 q0 ∧ Wv.cell? a = some (.string ⟨#[84]⟩) ∧ ResVar Wv := ⟨hS.1.trans (hb.mono hS.1.size), hS.2.1.later hb, (hb.cell (cell_lt hS.2.2.1)).trans hS.2.2.1, hS.2.2.2.later hb⟩
    clear hS hb
    refine hK.out _ _ SS (fun hS => ?_)
    clear hK K
    try simp only [Act.put, List.getElem_toArray, List.getElem_cons_zero, List.getElem_cons_succ, List.setIfInBounds_toArray, List.set_cons_zero, List.set_cons_succ]
    first
    | (refine wpAnyH_take (i := 17) (v := ?_) rfl (by kernel_rfl) (by kernel_rfl) (by kernel_rfl) (fun _ _ _ h => h) (Or.inl ⟨by rfl, ?_⟩) (by assumption) ?_
       rotate_left
       · (intro V hV; obtain ⟨_, hA, t0, hR⟩ := hV; go_simp; try with_reducible rfl)
       try simp only [Act.put, List.getElem_toArray, List.getElem_cons_zero, List.getElem_cons_succ, List.setIfInBounds_toArray, List.set_cons_zero, List.set_cons_succ])
    | (refine wpAnyH_take (i := 17) (v := undef) rfl (by kernel_rfl) (by kernel_rfl) (by kernel_rfl) (fun _ _ _ h => h) (Or.inr ⟨by rfl, rfl⟩) (by assumption) ?_
       try simp only [Act.put, List.getElem_toArray, List.getElem_cons_zero, List.getElem_cons_succ, List.setIfInBounds_toArray, List.set_cons_zero, List.set_cons_succ])
    | fail "take 17"
    first
    | (refine wpAnyH_take (i := 18) (v := ?_) rfl (by kernel_rfl) (by kernel_rfl) (by kernel_rfl) (fun _ _ _ h => h) (Or.inl ⟨by rfl, ?_⟩) (by assumption) ?_
       rotate_left
       · (intro V hV; obtain ⟨_, hA, t0, hR⟩ := hV; go_simp; try with_reducible rfl)
       try simp only [Act.put, List.getElem_toArray, List.getElem_cons_zero, List.getElem_cons_succ, List.setIfInBounds_toArray, List.set_cons_zero, List.set_cons_succ])
    | (refine wpAnyH_take (i := 18) (v := undef) rfl (by kernel_rfl) (by kernel_rfl) (by kernel_rfl) (fun _ _ _ h => h) (Or.inr ⟨by rfl, rfl⟩) (by assumption) ?_
       try simp only [Act.put, List.getElem_toArray, List.getElem_cons_zero, List.getElem_cons_succ, List.setIfInBounds_toArray, List.set_cons_zero, List.set_cons_succ])
    | fail "take 18"
    first
    | (refine wpAnyH_take (i := 19) (v := ?_) rfl (by kernel_rfl) (by kernel_rfl) (by kernel_rfl) (fun _ _ _ h => h) (Or.inl ⟨by rfl, ?_⟩) (by assumption) ?_
       rotate_left
       · (intro V hV; obtain ⟨_, hA, t0, hR⟩ := hV; go_simp; try with_reducible rfl)
       try simp only [Act.put, List.getElem_toArray, List.getElem_cons_zero, List.getElem_cons_succ, List.setIfInBounds_toArray, List.set_cons_zero, List.set_cons_succ])
    | (refine wpAnyH_take (i := 19) (v := undef) rfl (by kernel_rfl) (by kernel_rfl) (by kernel_rfl) (fun _ _ _ h => h) (Or.inr ⟨by rfl, rfl⟩) (by assumption) ?_
       try simp only [Act.put, List.getElem_toArray, List.getElem_cons_zero, List.getElem_cons_succ, List.setIfInBounds_toArray, List.set_cons_zero, List.set_cons_succ])
    | fail "take 19"
    as_aux_lemma =>
      refine wpAnyH_take (i := 20) (v := .agg (usP).toArray) rfl (by kernel_rfl) (by kernel_rfl) (by kernel_rfl) (fun _ _ _ h => h) (Or.inl ⟨by rfl, fun V hV => loadYield flatPg rfl hV.2.1.bp.at0 rfl⟩) (by assumption) ?_
      try simp only [Act.put, List.getElem_toArray, List.getElem_cons_zero, List.getElem_cons_succ, List.setIfInBounds_toArray, List.set_cons_zero, List.set_cons_succ]
      refine wpAnyH_take (i := 21) (v := .agg (usP).toArray) rfl (by kernel_rfl) (by kernel_rfl) (by kernel_rfl) (fun _ _ _ h => h) (Or.inl ⟨by rfl, fun V hV => loadYield flatPg rfl hV.2.1.bp.at0 rfl⟩) (by assumption) ?_
      try simp only [Act.put, List.getElem_toArray, List.getElem_cons_zero, List.getElem_cons_succ, List.setIfInBounds_toArray, List.set_cons_zero, List.set_cons_succ]
      refine wpAnyH_ready (rs := [22]) (by kernel_rfl) (by simp) ?_
      refine AllReadyH.cons rfl (fun K hK => ?_) AllReadyH.nil
      go_simp
      refine (daSamePP _).mono ?_
      rintro e Wv ⟨rfl, hb⟩
      have SS : Below w1.heap.size w1 Wv ∧ AwD Wv b0 f0 d0 q0 ∧ Wv.cell? a = some (.string ⟨#[84]⟩) ∧ ResVar Wv := ⟨hS.1.trans (hb.mono hS.1.size), hS.2.1.later hb, (hb.cell (cell_lt hS.2.2.1)).trans hS.2.2.1, hS.2.2.2.later hb⟩
      clear hS hb
      refine hK.out _ _ SS (fun hS => ?_)
      clear hK K
      try simp only [Act.put, List.getElem_toArray, List.getElem_cons_zero, List.getElem_cons_succ, List.setIfInBounds_toArray, List.set_cons_zero, List.set_cons_succ]
      first
      | (refine wpAnyH_take (i := 23) (v := ?_) rfl (by kernel_rfl) (by kernel_rfl) (by kernel_rfl) (fun _ _ _ h => h) (Or.inl ⟨by rfl, ?_⟩) (by assumption) ?_
         rotate_left
         · (intro V hV; obtain ⟨_, hA, t0, hR⟩ := hV; go_simp; try with_reducible rfl)
         try simp only [Act.put, List.getElem_toArray, List.getElem_cons_zero, List.getElem_cons_succ, List.setIfInBounds_toArray, List.set_cons_zero, List.set_cons_succ])
      | (refine wpAnyH_take (i := 23) (v := undef) rfl (by kernel_rfl) (by kernel_rfl) (by kernel_rfl) (fun _ _ _ h => h) (Or.inr ⟨by rfl, rfl⟩) (by assumption) ?_
         try simp only [Act.put, List.getElem_toArray, List.getElem_cons_zero, List.getElem_cons_succ, List.setIfInBounds_toArray, List.set_cons_zero, List.set_cons_succ])
      | fail "take 23"
      first
      | (refine wpAnyH_take (i := 24) (v := ?_) rfl (by kernel_rfl) (by kernel_rfl) (by kernel_rfl) (fun _ _ _ h => h) (Or.inl ⟨by rfl, ?_⟩) (by assumption) ?_
         rotate_left
         · (intro V hV; obtain ⟨_, hA, t0, hR⟩ := hV; go_simp; try with_reducible rfl)
         try simp only [Act.put, List.getElem_toArray, List.getElem_cons_zero, List.getElem_cons_succ, List.setIfInBounds_toArray, List.set_cons_zero, List.set_cons_succ])
      | (refine wpAnyH_take (i := 24) (v := undef) rfl (by kernel_rfl) (by kernel_rfl) (by kernel_rfl) (fun _ _ _ h => h) (Or.inr ⟨by rfl, rfl⟩) (by assumption) ?_
         try simp only [Act.put, List.getElem_toArray, List.getElem_cons_zero, List.getElem_cons_succ, List.setIfInBounds_toArray, List.set_cons_zero, List.set_cons_succ])
      | fail "take 24"
      refine wpAnyH_take (i := 25) (v := .agg (usP).toArray) rfl (by kernel_rfl) (by kernel_rfl) (by kernel_rfl) (fun _ _ _ h => h) (Or.inl ⟨by rfl, fun V hV => loadYield flatPg rfl hV.2.1.bp.at0 rfl⟩) (by assumption) ?_
      try simp only [Act.put, List.getElem_toArray, List.getElem_cons_zero, List.getElem_cons_succ, List.setIfInBounds_toArray, List.set_cons_zero, List.set_cons_succ]
      refine wpAnyH_take (i := 26) (v := .agg (usQ d0).toArray) rfl (by kernel_rfl) (by kernel_rfl) (by kernel_rfl) (fun _ _ _ h => h) (Or.inl ⟨by rfl, fun V hV => loadYield flatPg rfl hV.2.1.bq.at0 rfl⟩) (by assumption) ?_
      try simp only [Act.put, List.getElem_toArray, List.getElem_cons_zero, List.getElem_cons_succ, List.setIfInBounds_toArray, List.set_cons_zero, List.set_cons_succ]
      refine wpAnyH_ready (rs := [27]) (by kernel_rfl) (by simp) ?_
      refine AllReadyH.cons rfl (fun K hK => ?_) AllReadyH.nil
      go_simp
      refine (daSamePQ hS.2.1).mono ?_
      rintro e Wv ⟨rfl, hb⟩
      have SS : Below w1.heap.size w1 Wv ∧ AwD Wv b0 f0 d0 q0 ∧ Wv.cell? a = some (.string ⟨#[84]⟩) ∧ ResVar Wv := ⟨hS.1.trans (hb.mono hS.1.size), hS.2.1.later hb, (hb.cell (cell_lt hS.2.2.1)).trans hS.2.2.1, hS.2.2.2.later hb⟩
      clear hS hb
      refine hK.out _ _ SS (fun hS => ?_)
      clear hK K
      try simp only [Act.put, List.getElem_toArray, List.getElem_cons_zero, List.getElem_cons_succ, List.setIfInBounds_toArray, List.set_cons_zero, List.set_cons_succ]
      as_aux_lemma =>
        first
        | (refine wpAnyH_take (i := 28) (v := ?_) rfl (by kernel_rfl) (by kernel_rfl) (by kernel_rfl) (fun _ _ _ h => h) (Or.inl ⟨by rfl, ?_⟩) (by assumption) ?_
           rotate_left
           · (intro V hV; obtain ⟨_, hA, t0, hR⟩ := hV; go_simp; try with_reducible rfl)
           try simp only [Act.put, List.getElem_toArray, List.getElem_cons_zero, List.getElem_cons_succ, List.setIfInBounds_toArray, List.set_cons_zero, List.set_cons_succ])
        | (refine wpAnyH_take (i := 28) (v := undef) rfl (by kernel_rfl) (by kernel_rfl) (by kernel_rfl) (fun _ _ _ h => h) (Or.inr ⟨by rfl, rfl⟩) (by assumption) ?_
           try simp only [Act.put, List.getElem_toArray, List.getElem_cons_zero, List.getElem_cons_succ, List.setIfInBounds_toArray, List.set_cons_zero, List.set_cons_succ])
        | fail "take 28"
        first
        | (refine wpAnyH_take (i := 29) (v := ?_) rfl (by kernel_rfl) (by kernel_rfl) (by kernel_rfl) (fun _ _ _ h => h) (Or.inl ⟨by rfl, ?_⟩) (by assumption) ?_
           rotate_left
           · (intro V hV; obtain ⟨_, hA, t0, hR⟩ := hV; go_simp; try with_reducible rfl)
           try simp only [Act.put, List.getElem_toArray, List.getElem_cons_zero, List.getElem_cons_succ, List.setIfInBounds_toArray, List.set_cons_zero, List.set_cons_succ])
        | (refine wpAnyH_take (i := 29) (v := undef) rfl (by kernel_rfl) (by kernel_rfl) (by kernel_rfl) (fun _ _ _ h => h) (Or.inr ⟨by rfl, rfl⟩) (by assumption) ?_
           try simp only [Act.put, List.getElem_toArray, List.getElem_cons_zero, List.getElem_cons_succ, List.setIfInBounds_toArray, List.set_cons_zero, List.set_cons_succ])
        | fail "take 29"
        first
        | (refine wpAnyH_take (i := 30) (v := ?_) rfl (by kernel_rfl) (by kernel_rfl) (by kernel_rfl) (fun _ _ _ h => h) (Or.inl ⟨by rfl, ?_⟩) (by assumption) ?_
           rotate_left
           · (intro V hV; obtain ⟨_, hA, t0, hR⟩ := hV; go_simp; try with_reducible rfl)
           try simp only [Act.put, List.getElem_toArray, List.getElem_cons_zero, List.getElem_cons_succ, List.setIfInBounds_toArray, List.set_cons_zero, List.set_cons_succ])
        | (refine wpAnyH_take (i := 30) (v := undef) rfl (by kernel_rfl) (by kernel_rfl) (by kernel_rfl) (fun _ _ _ h => h) (Or.inr ⟨by rfl, rfl⟩) (by assumption) ?_
           try simp only [Act.put, List.getElem_toArray, List.getElem_cons_zero, List.getElem_cons_succ, List.setIfInBounds_toArray, List.set_cons_zero, List.set_cons_succ])
        | fail "take 30"
        refine wpAnyH_take (i := 31) (v := .agg (usP).toArray) rfl (by kernel_rfl) (by kernel_rfl) (by kernel_rfl) (fun _ _ _ h => h) (Or.inl ⟨by rfl, fun V hV => loadYield flatPg rfl hV.2.1.bp.at0 rfl⟩) (by assumption) ?_
        try simp only [Act.put, List.getElem_toArray, List.getElem_cons_zero, List.getElem_cons_succ, List.setIfInBounds_toArray, List.set_cons_zero, List.set_cons_succ]
        refine wpAnyH_ready (rs := [32]) (by kernel_rfl) (by simp) ?_
        refine AllReadyH.cons rfl (fun K hK => ?_) AllReadyH.nil
        go_simp
        refine (daPlainP _).mono ?_
        rintro e Wv ⟨rfl, hb⟩
        have SS : Below w1.heap.size w1 Wv ∧ AwD Wv b0 f0 d0 q0 ∧ Wv.cell? a = some (.string ⟨#[84]⟩) ∧ ResVar Wv := ⟨hS.1.trans (hb.mono hS.1.size), hS.2.1.later hb, (hb.cell (cell_lt hS.2.2.1)).trans hS.2.2.1, hS.2.2.2.later hb⟩
        clear hS hb
        refine hK.out _ _ SS (fun hS => ?_)
        clear hK K
        try simp only [Act.put, List.getElem_toArray, List.getElem_cons_zero, List.getElem_cons_succ, List.setIfInBounds_toArray, List.set_cons_zero, List.set_cons_succ]
        first
        | (refine wpAnyH_take (i := 33) (v := ?_) rfl (by kernel_rfl) (by kernel_rfl) (by kernel_rfl) (fun _ _ _ h => h) (Or.inl ⟨by rfl, ?_⟩) (by assumption) ?_
           rotate_left
           · (intro V hV; obtain ⟨_, hA, t0, hR⟩ := hV; go_simp; try with_reducible rfl)
           try simp only [Act.put, List.getElem_toArray, List.getElem_cons_zero, List.getElem_cons_succ, List.setIfInBounds_toArray, List.set_cons_zero, List.set_cons_succ])
        | (refine wpAnyH_take (i := 33) (v := undef) rfl (by kernel_rfl) (by kernel_rfl) (by kernel_rfl) (fun _ _ _ h => h) (Or.inr ⟨by rfl, rfl⟩) (by assumption) ?_
           try simp only [Act.put, List.getElem_toArray, List.getElem_cons_zero, List.getElem_cons_succ, List.setIfInBounds_toArray, List.set_cons_zero, List.set_cons_succ])
        | fail "take 33"
        first
        | (refine wpAnyH_take (i := 34) (v := ?_) rfl (by kernel_rfl) (by kernel_rfl) (by kernel_rfl) (fun _ _ _ h => h) (Or.inl ⟨by rfl, ?_⟩) (by assumption) ?_
           rotate_left
           · (intro V hV; obtain ⟨_, hA, t0, hR⟩ := hV; go_simp; try with_reducible rfl)
           try simp only [Act.put, List.getElem_toArray, List.getElem_cons_zero, List.getElem_cons_succ, List.setIfInBounds_toArray, List.set_cons_zero, List.set_cons_succ])
        | (refine wpAnyH_take (i := 34) (v := undef) rfl (by kernel_rfl) (by kernel_rfl) (by kernel_rfl) (fun _ _ _ h => h) (Or.inr ⟨by rfl, rfl⟩) (by assumption) ?_
           try simp only [Act.put, List.getElem_toArray, List.getElem_cons_zero, List.getElem_cons_succ, List.setIfInBounds_toArray, List.set_cons_zero, List.set_cons_succ])
        | fail "take 34"
        refine wpAnyH_take (i := 35) (v := .agg (usQ d0).toArray) rfl (by kernel_rfl) (by kernel_rfl) (by kernel_rfl) (fun _ _ _ h => h) (Or.inl ⟨by rfl, fun V hV => loadYield flatPg rfl hV.2.1.bq.at0 rfl⟩) (by assumption) ?_
        try simp only [Act.put, List.getElem_toArray, List.getElem_cons_zero, List.getElem_cons_succ, List.setIfInBounds_toArray, List.set_cons_zero, List.set_cons_succ]
        as_aux_lemma =>
          refine wpAnyH_ready (rs := [36]) (by kernel_rfl) (by simp) ?_
          refine AllReadyH.cons rfl (fun K hK => ?_) AllReadyH.nil
          go_simp
          refine (daPlainQ hS.2.1).mono ?_
          rintro e Wv ⟨rfl, hb⟩
          have SS : Below w1.heap.size w1 Wv ∧ AwD Wv b0 f0 d0 q0 ∧ Wv.cell? a = some (.string ⟨#[84]⟩) ∧ ResVar Wv := ⟨hS.1.trans (hb.mono hS.1.size), hS.2.1.later hb, (hb.cell (cell_lt hS.2.2.1)).trans hS.2.2.1, hS.2.2.2.later hb⟩
          clear hS hb
          refine hK.out _ _ SS (fun hS => ?_)
          clear hK K
          try simp only [Act.put, List.getElem_toArray, List.getElem_cons_zero, List.getElem_cons_succ, List.setIfInBounds_toArray, List.set_cons_zero, List.set_cons_succ]
          first
          | (refine wpAnyH_take (i := 37) (v := ?_) rfl (by kernel_rfl) (by kernel_rfl) (by kernel_rfl) (fun _ _ _ h => h) (Or.inl ⟨by rfl, ?_⟩) (by assumption) ?_
             rotate_left
             · (intro V hV; obtain ⟨_, hA, t0, hR⟩ := hV; go_simp; try with_reducible rfl)
             try simp only [Act.put, List.getElem_toArray, List.getElem_cons_zero, List.getElem_cons_succ, List.setIfInBounds_toArray, List.set_cons_zero, List.set_cons_succ])
          | (refine wpAnyH_take (i := 37) (v := undef) rfl (by kernel_rfl) (by kernel_rfl) (by kernel_rfl) (fun _ _ _ h => h) (Or.inr ⟨by rfl, rfl⟩) (by assumption) ?_
             try simp only [Act.put, List.getElem_toArray, List.getElem_cons_zero, List.getElem_cons_succ, List.setIfInBounds_toArray, List.set_cons_zero, List.set_cons_succ])
          | fail "take 37"
          first
          | (refine wpAnyH_take (i := 38) (v := ?_) rfl (by kernel_rfl) (by kernel_rfl) (by kernel_rfl) (fun _ _ _ h => h) (Or.inl ⟨by rfl, ?_⟩) (by assumption) ?_
             rotate_left
             · (intro V hV; obtain ⟨_, hA, t0, hR⟩ := hV; go_simp; try with_reducible rfl)
             try simp only [Act.put, List.getElem_toArray, List.getElem_cons_zero, List.getElem_cons_succ, List.setIfInBounds_toArray, List.set_cons_zero, List.set_cons_succ])
          | (refine wpAnyH_take (i := 38) (v := undef) rfl (by kernel_rfl) (by kernel_rfl) (by kernel_rfl) (fun _ _ _ h => h) (Or.inr ⟨by rfl, rfl⟩) (by assumption) ?_
             try simp only [Act.put, List.getElem_toArray, List.getElem_cons_zero, List.getElem_cons_succ, List.setIfInBounds_toArray, List.set_cons_zero, List.set_cons_succ])
          | fail "take 38"
          first
          | (refine wpAnyH_take (i := 39) (v := ?_) rfl (by kernel_rfl) (by kernel_rfl) (by kernel_rfl) (fun _ _ _ h => h) (Or.inl ⟨by rfl, ?_⟩) (by assumption) ?_
             rotate_left
             · (intro V hV; obtain ⟨_, hA, t0, hR⟩ := hV; go_simp; try with_reducible rfl)
             try simp only [Act.put, List.getElem_toArray, List.getElem_cons_zero, List.getElem_cons_succ, List.setIfInBounds_toArray, List.set_cons_zero, List.set_cons_succ])
          | (refine wpAnyH_take (i := 39) (v := undef) rfl (by kernel_rfl) (by kernel_rfl) (by kernel_rfl) (fun _ _ _ h => h) (Or.inr ⟨by rfl, rfl⟩) (by assumption) ?_
             try simp only [Act.put, List.getElem_toArray, List.getElem_cons_zero, List.getElem_cons_succ, List.setIfInBounds_toArray, List.set_cons_zero, List.set_cons_succ])
          | fail "take 39"
          refine wpAnyH_take (i := 40) (v := .agg (usP).toArray) rfl (by kernel_rfl) (by kernel_rfl) (by kernel_rfl) (fun _ _ _ h => h) (Or.inl ⟨by rfl, fun V hV => loadYield flatPg rfl hV.2.1.bp.at0 rfl⟩) (by assumption) ?_
          try simp only [Act.put, List.getElem_toArray, List.getElem_cons_zero, List.getElem_cons_succ, List.setIfInBounds_toArray, List.set_cons_zero, List.set_cons_succ]
          refine wpAnyH_ready (rs := [41]) (by kernel_rfl) (by simp) ?_
          refine AllReadyH.cons rfl (fun K hK => ?_) AllReadyH.nil
          go_simp
          refine (daDepth _).mono ?_
          rintro e Wv ⟨rfl, hb⟩
          have SS : Below w1.heap.size w1 Wv ∧ AwD Wv b0 f0 d0 q0 ∧ Wv.cell? a = some (.string ⟨#[84]⟩) ∧ ResVar Wv := ⟨hS.1.trans (hb.mono hS.1.size), hS.2.1.later hb, (hb.cell (cell_lt hS.2.2.1)).trans hS.2.2.1, hS.2.2.2.later hb⟩
          clear hS hb
          refine hK.out _ _ SS (fun hS => ?_)
          clear hK K
          try simp only [Act.put, List.getElem_toArray, List.getElem_cons_zero, List.getElem_cons_succ, List.setIfInBounds_toArray, List.set_cons_zero, List.set_cons_succ]
          first
          | (refine wpAnyH_take (i := 42) (v := ?_) rfl (by kernel_rfl) (by kernel_rfl) (by kernel_rfl) (fun _ _ _ h => h) (Or.inl ⟨by rfl, ?_⟩) (by assumption) ?_
             rotate_left
             · (intro V hV; obtain ⟨_, hA, t0, hR⟩ := hV; go_simp; try with_reducible rfl)
             try simp only [Act.put, List.getElem_toArray, List.getElem_cons_zero, List.getElem_cons_succ, List.setIfInBounds_toArray, List.set_cons_zero, List.set_cons_succ])
          | (refine wpAnyH_take (i := 42) (v := undef) rfl (by kernel_rfl) (by kernel_rfl) (by kernel_rfl) (fun _ _ _ h => h) (Or.inr ⟨by rfl, rfl⟩) (by assumption) ?_
             try simp only [Act.put, List.getElem_toArray, List.getElem_cons_zero, List.getElem_cons_succ, List.setIfInBounds_toArray, List.set_cons_zero, List.set_cons_succ])
          | fail "take 42"
          first
          | (refine wpAnyH_take (i := 43) (v := ?_) rfl (by kernel_rfl) (by kernel_rfl) (by kernel_rfl) (fun _ _ _ h => h) (Or.inl ⟨by rfl, ?_⟩) (by assumption) ?_
             rotate_left
             · (intro V hV; obtain ⟨_, hA, t0, hR⟩ := hV; go_simp; try with_reducible rfl)
             try simp only [Act.put, List.getElem_toArray, List.getElem_cons_zero, List.getElem_cons_succ, List.setIfInBounds_toArray, List.set_cons_zero, List.set_cons_succ])
          | (refine wpAnyH_take (i := 43) (v := undef) rfl (by kernel_rfl) (by kernel_rfl) (by kernel_rfl) (fun _ _ _ h => h) (Or.inr ⟨by rfl, rfl⟩) (by assumption) ?_
             try simp only [Act.put, List.getElem_toArray, List.getElem_cons_zero, List.getElem_cons_succ, List.setIfInBounds_toArray, List.set_cons_zero, List.set_cons_succ])
          | fail "take 43"
          as_aux_lemma =>
            first
            | (refine wpAnyH_take (i := 44) (v := ?_) rfl (by kernel_rfl) (by kernel_rfl) (by kernel_rfl) (fun _ _ _ h => h) (Or.inl ⟨by rfl, ?_⟩) (by assumption) ?_
               rotate_left
               · (intro V hV; obtain ⟨_, hA, t0, hR⟩ := hV; go_simp; try with_reducible rfl)
               try simp only [Act.put, List.getElem_toArray, List.getElem_cons_zero, List.getElem_cons_succ, List.setIfInBounds_toArray, List.set_cons_zero, List.set_cons_succ])
            | (refine wpAnyH_take (i := 44) (v := undef) rfl (by kernel_rfl) (by kernel_rfl) (by kernel_rfl) (fun _ _ _ h => h) (Or.inr ⟨by rfl, rfl⟩) (by assumption) ?_
               try simp only [Act.put, List.getElem_toArray, List.getElem_cons_zero, List.getElem_cons_succ, List.setIfInBounds_toArray, List.set_cons_zero, List.set_cons_succ])
            | fail "take 44"
            first
            | (refine wpAnyH_take (i := 45) (v := ?_) rfl (by kernel_rfl) (by kernel_rfl) (by kernel_rfl) (fun _ _ _ h => h) (Or.inl ⟨by rfl, ?_⟩) (by assumption) ?_
               rotate_left
               · (intro V hV; obtain ⟨_, hA, t0, hR⟩ := hV; go_simp; try with_reducible rfl)
               try simp only [Act.put, List.getElem_toArray, List.getElem_cons_zero, List.getElem_cons_succ, List.setIfInBounds_toArray, List.set_cons_zero, List.set_cons_succ])
            | (refine wpAnyH_take (i := 45) (v := undef) rfl (by kernel_rfl) (by kernel_rfl) (by kernel_rfl) (fun _ _ _ h => h) (Or.inr ⟨by rfl, rfl⟩) (by assumption) ?_
               try simp only [Act.put, List.getElem_toArray, List.getElem_cons_zero, List.getElem_cons_succ, List.setIfInBounds_toArray, List.set_cons_zero, List.set_cons_succ])
            | fail "take 45"
            first
            | (refine wpAnyH_take (i := 46) (v := ?_) rfl (by kernel_rfl) (by kernel_rfl) (by kernel_rfl) (fun _ _ _ h => h) (Or.inl ⟨by rfl, ?_⟩) (by assumption) ?_
               rotate_left
               · (intro V hV; obtain ⟨_, hA, t0, hR⟩ := hV; obtain ⟨q0, q1, q2, q3, q4, q5, q6, q7, q8⟩ := hA.bq.c9; go_simp; try with_reducible rfl)
               try simp only [Act.put, List.getElem_toArray, List.getElem_cons_zero, List.getElem_cons_succ, List.setIfInBounds_toArray, List.set_cons_zero, List.set_cons_succ])
            | (refine wpAnyH_take (i := 46) (v := undef) rfl (by kernel_rfl) (by kernel_rfl) (by kernel_rfl) (fun _ _ _ h => h) (Or.inr ⟨by rfl, rfl⟩) (by assumption) ?_
               try simp only [Act.put, List.getElem_toArray, List.getElem_cons_zero, List.getElem_cons_succ, List.setIfInBounds_toArray, List.set_cons_zero, List.set_cons_succ])
            | fail "take 46"
            first
            | (refine wpAnyH_take (i := 47) (v := ?_) rfl (by kernel_rfl) (by kernel_rfl) (by kernel_rfl) (fun _ _ _ h => h) (Or.inl ⟨by rfl, ?_⟩) (by assumption) ?_
               rotate_left
               · (intro V hV; obtain ⟨_, hA, t0, hR⟩ := hV; go_simp; try with_reducible rfl)
               try simp only [Act.put, List.getElem_toArray, List.getElem_cons_zero, List.getElem_cons_succ, List.setIfInBounds_toArray, List.set_cons_zero, List.set_cons_succ])
            | (refine wpAnyH_take (i := 47) (v := undef) rfl (by kernel_rfl) (by kernel_rfl) (by kernel_rfl) (fun _ _ _ h => h) (Or.inr ⟨by rfl, rfl⟩) (by assumption) ?_
               try simp only [Act.put, List.getElem_toArray, List.getElem_cons_zero, List.getElem_cons_succ, List.setIfInBounds_toArray, List.set_cons_zero, List.set_cons_succ])
            | fail "take 47"
            refine wpAnyH_take (i := 48) (v := .agg (usD f0).toArray) rfl (by kernel_rfl) (by kernel_rfl) (by kernel_rfl) (fun _ _ _ h => h) (Or.inl ⟨by rfl, fun V hV => loadYield flatDc rfl hV.2.1.bd.at0 rfl⟩) (by assumption) ?_
            try simp only [Act.put, List.getElem_toArray, List.getElem_cons_zero, List.getElem_cons_succ, List.setIfInBounds_toArray, List.set_cons_zero, List.set_cons_succ]
            refine wpAnyH_ready (rs := [49]) (by kernel_rfl) (by simp) ?_
            refine AllReadyH.cons rfl (fun K hK => ?_) AllReadyH.nil
            go_simp
            refine (daRightD hS.2.2.2 hS.2.1).mono ?_
            rintro e Wv ⟨rfl, hb⟩
            have SS : Below w1.heap.size w1 Wv ∧ AwD Wv b0 f0 d0 q0 ∧ Wv.cell? a = some (.string ⟨#[84]⟩) ∧ ResVar Wv := ⟨hS.1.trans (hb.mono hS.1.size), hS.2.1.later hb, (hb.cell (cell_lt hS.2.2.1)).trans hS.2.2.1, hS.2.2.2.later hb⟩
            clear hS hb
            refine hK.out _ _ SS (fun hS => ?_)
            clear hK K
            try simp only [Act.put, List.getElem_toArray, List.getElem_cons_zero, List.getElem_cons_succ, List.setIfInBounds_toArray, List.set_cons_zero, List.set_cons_succ]
            first
            | (refine wpAnyH_take (i := 50) (v := ?_) rfl (by kernel_rfl) (by kernel_rfl) (by kernel_rfl) (fun _ _ _ h => h) (Or.inl ⟨by rfl, ?_⟩) (by assumption) ?_
               rotate_left
               · (intro V hV; obtain ⟨_, hA, t0, hR⟩ := hV; go_simp; try with_reducible rfl)
               try simp only [Act.put, List.getElem_toArray, List.getElem_cons_zero, List.getElem_cons_succ, List.setIfInBounds_toArray, List.set_cons_zero, List.set_cons_succ])
            | (refine wpAnyH_take (i := 50) (v := undef) rfl (by kernel_rfl) (by kernel_rfl) (by kernel_rfl) (fun _ _ _ h => h) (Or.inr ⟨by rfl, rfl⟩) (by assumption) ?_
               try simp only [Act.put, List.getElem_toArray, List.getElem_cons_zero, List.getElem_cons_succ, List.setIfInBounds_toArray, List.set_cons_zero, List.set_cons_succ])
            | fail "take 50"
            first
            | (refine wpAnyH_take (i := 51) (v := ?_) rfl (by kernel_rfl) (by kernel_rfl) (by kernel_rfl) (fun _ _ _ h => h) (Or.inl ⟨by rfl, ?_⟩) (by assumption) ?_
               rotate_left
               · (intro V hV; obtain ⟨_, hA, t0, hR⟩ := hV; go_simp; try with_reducible rfl)
               try simp only [Act.put, List.getElem_toArray, List.getElem_cons_zero, List.getElem_cons_succ, List.setIfInBounds_toArray, List.set_cons_zero, List.set_cons_succ])
            | (refine wpAnyH_take (i := 51) (v := undef) rfl (by kernel_rfl) (by kernel_rfl) (by kernel_rfl) (fun _ _ _ h => h) (Or.inr ⟨by rfl, rfl⟩) (by assumption) ?_
               try simp only [Act.put, List.getElem_toArray, List.getElem_cons_zero, List.getElem_cons_succ, List.setIfInBounds_toArray, List.set_cons_zero, List.set_cons_succ])
            | fail "take 51"
            as_aux_lemma =>
              first
              | (refine wpAnyH_take (i := 52) (v := ?_) rfl (by kernel_rfl) (by kernel_rfl) (by kernel_rfl) (fun _ _ _ h => h) (Or.inl ⟨by rfl, ?_⟩) (by assumption) ?_
                 rotate_left
                 · (intro V hV; obtain ⟨_, hA, t0, hR⟩ := hV; go_simp; try with_reducible rfl)
                 try simp only [Act.put, List.getElem_toArray, List.getElem_cons_zero, List.getElem_cons_succ, List.setIfInBounds_toArray, List.set_cons_zero, List.set_cons_succ])
              | (refine wpAnyH_take (i := 52) (v := undef) rfl (by kernel_rfl) (by kernel_rfl) (by kernel_rfl) (fun _ _ _ h => h) (Or.inr ⟨by rfl, rfl⟩) (by assumption) ?_
                 try simp only [Act.put, List.getElem_toArray, List.getElem_cons_zero, List.getElem_cons_succ, List.setIfInBounds_toArray, List.set_cons_zero, List.set_cons_succ])
              | fail "take 52"
              first
              | (refine wpAnyH_take (i := 53) (v := ?_) rfl (by kernel_rfl) (by kernel_rfl) (by kernel_rfl) (fun _ _ _ h => h) (Or.inl ⟨by rfl, ?_⟩) (by assumption) ?_
                 rotate_left
                 · (intro V hV; obtain ⟨_, hA, t0, hR⟩ := hV; obtain ⟨q0, q1, q2, q3, q4, q5, q6, q7, q8⟩ := hA.bq.c9; go_simp; try with_reducible rfl)
                 try simp only [Act.put, List.getElem_toArray, List.getElem_cons_zero, List.getElem_cons_succ, List.setIfInBounds_toArray, List.set_cons_zero, List.set_cons_succ])
              | (refine wpAnyH_take (i := 53) (v := undef) rfl (by kernel_rfl) (by kernel_rfl) (by kernel_rfl) (fun _ _ _ h => h) (Or.inr ⟨by rfl, rfl⟩) (by assumption) ?_
                 try simp only [Act.put, List.getElem_toArray, List.getElem_cons_zero, List.getElem_cons_succ, List.setIfInBounds_toArray, List.set_cons_zero, List.set_cons_succ])
              | fail "take 53"
              first
              | (refine wpAnyH_take (i := 54) (v := ?_) rfl (by kernel_rfl) (by kernel_rfl) (by kernel_rfl) (fun _ _ _ h => h) (Or.inl ⟨by rfl, ?_⟩) (by assumption) ?_
                 rotate_left
                 · (intro V hV; obtain ⟨_, hA, t0, hR⟩ := hV; go_simp; try with_reducible rfl)
                 try simp only [Act.put, List.getElem_toArray, List.getElem_cons_zero, List.getElem_cons_succ, List.setIfInBounds_toArray, List.set_cons_zero, List.set_cons_succ])
              | (refine wpAnyH_take (i := 54) (v := undef) rfl (by kernel_rfl) (by kernel_rfl) (by kernel_rfl) (fun _ _ _ h => h) (Or.inr ⟨by rfl, rfl⟩) (by assumption) ?_
                 try simp only [Act.put, List.getElem_toArray, List.getElem_cons_zero, List.getElem_cons_succ, List.setIfInBounds_toArray, List.set_cons_zero, List.set_cons_succ])
              | fail "take 54"
              refine wpAnyH_take (i := 55) (v := .agg (usD f0).toArray) rfl (by kernel_rfl) (by kernel_rfl) (by kernel_rfl) (fun _ _ _ h => h) (Or.inl ⟨by rfl, fun V hV => loadYield flatDc rfl hV.2.1.bd.at0 rfl⟩) (by assumption) ?_
              try simp only [Act.put, List.getElem_toArray, List.getElem_cons_zero, List.getElem_cons_succ, List.setIfInBounds_toArray, List.set_cons_zero, List.set_cons_succ]
              first
              | (refine wpAnyH_take (i := 56) (v := ?_) rfl (by kernel_rfl) (by kernel_rfl) (by kernel_rfl) (fun _ _ _ h => h) (Or.inl ⟨by rfl, ?_⟩) (by assumption) ?_
                 rotate_left
                 · (intro V hV; obtain ⟨_, hA, t0, hR⟩ := hV; go_simp; try with_reducible rfl)
                 try simp only [Act.put, List.getElem_toArray, List.getElem_cons_zero, List.getElem_cons_succ, List.setIfInBounds_toArray, List.set_cons_zero, List.set_cons_succ])
              | (refine wpAnyH_take (i := 56) (v := undef) rfl (by kernel_rfl) (by kernel_rfl) (by kernel_rfl) (fun _ _ _ h => h) (Or.inr ⟨by rfl, rfl⟩) (by assumption) ?_
                 try simp only [Act.put, List.getElem_toArray, List.getElem_cons_zero, List.getElem_cons_succ, List.setIfInBounds_toArray, List.set_cons_zero, List.set_cons_succ])
              | fail "take 56"
              first
              | (refine wpAnyH_take (i := 57) (v := ?_) rfl (by kernel_rfl) (by kernel_rfl) (by kernel_rfl) (fun _ _ _ h => h) (Or.inl ⟨by rfl, ?_⟩) (by assumption) ?_
                 rotate_left
                 · (intro V hV; obtain ⟨_, hA, t0, hR⟩ := hV; obtain ⟨q0, q1, q2, q3, q4, q5, q6, q7, q8⟩ := hA.bq.c9; go_simp; try with_reducible rfl)
                 try simp only [Act.put, List.getElem_toArray, List.getElem_cons_zero, List.getElem_cons_succ, List.setIfInBounds_toArray, List.set_cons_zero, List.set_cons_succ])
              | (refine wpAnyH_take (i := 57) (v := undef) rfl (by kernel_rfl) (by kernel_rfl) (by kernel_rfl) (fun _ _ _ h => h) (Or.inr ⟨by rfl, rfl⟩) (by assumption) ?_
                 try simp only [Act.put, List.getElem_toArray, List.getElem_cons_zero, List.getElem_cons_succ, List.setIfInBounds_toArray, List.set_cons_zero, List.set_cons_succ])
              | fail "take 57"
              first
              | (refine wpAnyH_take (i := 58) (v := ?_) rfl (by kernel_rfl) (by kernel_rfl) (by kernel_rfl) (fun _ _ _ h => h) (Or.inl ⟨by rfl, ?_⟩) (by assumption) ?_
                 rotate_left
                 · (intro V hV; obtain ⟨_, hA, t0, hR⟩ := hV; go_simp; try with_reducible rfl)
                 try simp only [Act.put, List.getElem_toArray, List.getElem_cons_zero, List.getElem_cons_succ, List.setIfInBounds_toArray, List.set_cons_zero, List.set_cons_succ])
              | (refine wpAnyH_take (i := 58) (v := undef) rfl (by kernel_rfl) (by kernel_rfl) (by kernel_rfl) (fun _ _ _ h => h) (Or.inr ⟨by rfl, rfl⟩) (by assumption) ?_
                 try simp only [Act.put, List.getElem_toArray, List.getElem_cons_zero, List.getElem_cons_succ, List.setIfInBounds_toArray, List.set_cons_zero, List.set_cons_succ])
              | fail "take 58"
              refine wpAnyH_take (i := 59) (v := .agg (usD f0).toArray) rfl (by kernel_rfl) (by kernel_rfl) (by kernel_rfl) (fun _ _ _ h => h) (Or.inl ⟨by rfl, fun V hV => loadYield flatDc rfl hV.2.1.bd.at0 rfl⟩) (by assumption) ?_
              try simp only [Act.put, List.getElem_toArray, List.getElem_cons_zero, List.getElem_cons_succ, List.setIfInBounds_toArray, List.set_cons_zero, List.set_cons_succ]
              as_aux_lemma =>
                refine wpAnyH_ready (rs := [60]) (by kernel_rfl) (by simp) ?_
                refine AllReadyH.cons rfl (fun K hK => ?_) AllReadyH.nil
                go_simp
                refine (daSameD hS.2.1).mono ?_
                rintro e Wv ⟨rfl, hb⟩
                have SS : Below w1.heap.size w1 Wv ∧ AwD Wv b0 f0 d0 q0 ∧ Wv.cell? a = some (.string ⟨#[84]⟩) ∧ ResVar Wv := ⟨hS.1.trans (hb.mono hS.1.size), hS.2.1.later hb, (hb.cell (cell_lt hS.2.2.1)).trans hS.2.2.1, hS.2.2.2.later hb⟩
                clear hS hb
                refine hK.out _ _ SS (fun hS => ?_)
                clear hK K
                try simp only [Act.put, List.getElem_toArray, List.getElem_cons_zero, List.getElem_cons_succ, List.setIfInBounds_toArray, List.set_cons_zero, List.set_cons_succ]
                first
                | (refine wpAnyH_take (i := 61) (v := ?_) rfl (by kernel_rfl) (by kernel_rfl) (by kernel_rfl) (fun _ _ _ h => h) (Or.inl ⟨by rfl, ?_⟩) (by assumption) ?_
                   rotate_left
                   · (intro V hV; obtain ⟨_, hA, t0, hR⟩ := hV; go_simp; try with_reducible rfl)
                   try simp only [Act.put, List.getElem_toArray, List.getElem_cons_zero, List.getElem_cons_succ, List.setIfInBounds_toArray, List.set_cons_zero, List.set_cons_succ])
                | (refine wpAnyH_take (i := 61) (v := undef) rfl (by kernel_rfl) (by kernel_rfl) (by kernel_rfl) (fun _ _ _ h => h) (Or.inr ⟨by rfl, rfl⟩) (by assumption) ?_
                   try simp only [Act.put, List.getElem_toArray, List.getElem_cons_zero, List.getElem_cons_succ, List.setIfInBounds_toArray, List.set_cons_zero, List.set_cons_succ])
                | fail "take 61"
                first
                | (refine wpAnyH_take (i := 62) (v := ?_) rfl (by kernel_rfl) (by kernel_rfl) (by kernel_rfl) (fun _ _ _ h => h) (Or.inl ⟨by rfl, ?_⟩) (by assumption) ?_
                   rotate_left
                   · (intro V hV; obtain ⟨_, hA, t0, hR⟩ := hV; go_simp; try with_reducible rfl)
                   try simp only [Act.put, List.getElem_toArray, List.getElem_cons_zero, List.getElem_cons_succ, List.setIfInBounds_toArray, List.set_cons_zero, List.set_cons_succ])
                | (refine wpAnyH_take (i := 62) (v := undef) rfl (by kernel_rfl) (by kernel_rfl) (by kernel_rfl) (fun _ _ _ h => h) (Or.inr ⟨by rfl, rfl⟩) (by assumption) ?_
                   try simp only [Act.put, List.getElem_toArray, List.getElem_cons_zero, List.getElem_cons_succ, List.setIfInBounds_toArray, List.set_cons_zero, List.set_cons_succ])
                | fail "take 62"
                first
                | (refine wpAnyH_take (i := 63) (v := ?_) rfl (by kernel_rfl) (by kernel_rfl) (by kernel_rfl) (fun _ _ _ h => h) (Or.inl ⟨by rfl, ?_⟩) (by assumption) ?_
                   rotate_left
                   · (intro V hV; obtain ⟨_, hA, t0, hR⟩ := hV; go_simp; try with_reducible rfl)
                   try simp only [Act.put, List.getElem_toArray, List.getElem_cons_zero, List.getElem_cons_succ, List.setIfInBounds_toArray, List.set_cons_zero, List.set_cons_succ])
                | (refine wpAnyH_take (i := 63) (v := undef) rfl (by kernel_rfl) (by kernel_rfl) (by kernel_rfl) (fun _ _ _ h => h) (Or.inr ⟨by rfl, rfl⟩) (by assumption) ?_
                   try simp only [Act.put, List.getElem_toArray, List.getElem_cons_zero, List.getElem_cons_succ, List.setIfInBounds_toArray, List.set_cons_zero, List.set_cons_succ])
                | fail "take 63"
                first
                | (refine wpAnyH_take (i := 64) (v := ?_) rfl (by kernel_rfl) (by kernel_rfl) (by kernel_rfl) (fun _ _ _ h => h) (Or.inl ⟨by rfl, ?_⟩) (by assumption) ?_
                   rotate_left
                   · (intro V hV; obtain ⟨_, hA, t0, hR⟩ := hV; go_simp; try with_reducible rfl)
                   try simp only [Act.put, List.getElem_toArray, List.getElem_cons_zero, List.getElem_cons_succ, List.setIfInBounds_toArray, List.set_cons_zero, List.set_cons_succ])
                | (refine wpAnyH_take (i := 64) (v := undef) rfl (by kernel_rfl) (by kernel_rfl) (by kernel_rfl) (fun _ _ _ h => h) (Or.inr ⟨by rfl, rfl⟩) (by assumption) ?_
                   try simp only [Act.put, List.getElem_toArray, List.getElem_cons_zero, List.getElem_cons_succ, List.setIfInBounds_toArray, List.set_cons_zero, List.set_cons_succ])
                | fail "take 64"
                refine wpAnyH_ready (rs := [65]) (by kernel_rfl) (by simp) ?_
                refine AllReadyH.cons rfl (fun K hK => ?_) AllReadyH.nil
                go_simp
                refine (daSameS _).mono ?_
                rintro e Wv ⟨rfl, hb⟩
                have SS : Below w1.heap.size w1 Wv ∧ AwD Wv b0 f0 d0 q0 ∧ Wv.cell? a = some (.string ⟨#[84]⟩) ∧ ResVar Wv := ⟨hS.1.trans (hb.mono hS.1.size), hS.2.1.later hb, (hb.cell (cell_lt hS.2.2.1)).trans hS.2.2.1, hS.2.2.2.later hb⟩
                clear hS hb
                refine hK.out _ _ SS (fun hS => ?_)
                clear hK K
                try simp only [Act.put, List.getElem_toArray, List.getElem_cons_zero, List.getElem_cons_succ, List.setIfInBounds_toArray, List.set_cons_zero, List.set_cons_succ]
                as_aux_lemma =>
                  first
                  | (refine wpAnyH_take (i := 66) (v := ?_) rfl (by kernel_rfl) (by kernel_rfl) (by kernel_rfl) (fun _ _ _ h => h) (Or.inl ⟨by rfl, ?_⟩) (by assumption) ?_
                     rotate_left
                     · (intro V hV; obtain ⟨_, hA, t0, hR⟩ := hV; go_simp; try with_reducible rfl)
                     try simp only [Act.put, List.getElem_toArray, List.getElem_cons_zero, List.getElem_cons_succ, List.setIfInBounds_toArray, List.set_cons_zero, List.set_cons_succ])
                  | (refine wpAnyH_take (i := 66) (v := undef) rfl (by kernel_rfl) (by kernel_rfl) (by kernel_rfl) (fun _ _ _ h => h) (Or.inr ⟨by rfl, rfl⟩) (by assumption) ?_
                     try simp only [Act.put, List.getElem_toArray, List.getElem_cons_zero, List.getElem_cons_succ, List.setIfInBounds_toArray, List.set_cons_zero, List.set_cons_succ])
                  | fail "take 66"
                  first
                  | (refine wpAnyH_take (i := 67) (v := ?_) rfl (by kernel_rfl) (by kernel_rfl) (by kernel_rfl) (fun _ _ _ h => h) (Or.inl ⟨by rfl, ?_⟩) (by assumption) ?_
                     rotate_left
                     · (intro V hV; obtain ⟨_, hA, t0, hR⟩ := hV; go_simp; try with_reducible rfl)
                     try simp only [Act.put, List.getElem_toArray, List.getElem_cons_zero, List.getElem_cons_succ, List.setIfInBounds_toArray, List.set_cons_zero, List.set_cons_succ])
                  | (refine wpAnyH_take (i := 67) (v := undef) rfl (by kernel_rfl) (by kernel_rfl) (by kernel_rfl) (fun _ _ _ h => h) (Or.inr ⟨by rfl, rfl⟩) (by assumption) ?_
                     try simp only [Act.put, List.getElem_toArray, List.getElem_cons_zero, List.getElem_cons_succ, List.setIfInBounds_toArray, List.set_cons_zero, List.set_cons_succ])
                  | fail "take 67"
                  refine wpAnyH_take (i := 68) (v := .agg (usQ d0).toArray) rfl (by kernel_rfl) (by kernel_rfl) (by kernel_rfl) (fun _ _ _ h => h) (Or.inl ⟨by rfl, fun V hV => loadYield flatPg rfl hV.2.1.bq.at0 rfl⟩) (by assumption) ?_
                  try simp only [Act.put, List.getElem_toArray, List.getElem_cons_zero, List.getElem_cons_succ, List.setIfInBounds_toArray, List.set_cons_zero, List.set_cons_succ]
                  refine wpAnyH_take (i := 70) (v := .agg (usQ d0).toArray) rfl (by kernel_rfl) (by kernel_rfl) (by kernel_rfl) (fun _ _ _ h => h) (Or.inl ⟨by rfl, fun V hV => loadYield flatPg rfl hV.2.1.bq.at0 rfl⟩) (by assumption) ?_
                  try simp only [Act.put, List.getElem_toArray, List.getElem_cons_zero, List.getElem_cons_succ, List.setIfInBounds_toArray, List.set_cons_zero, List.set_cons_succ]
                  refine wpAnyH_ready (rs := [69]) (by kernel_rfl) (by simp) ?_
                  refine AllReadyH.cons rfl (fun K hK => ?_) AllReadyH.nil
                  go_simp
                  refine (clonePg_any pgQ _ _ pgQ_wt hS.2.1.dq).mono ?_
                  rintro e Wv ⟨us2, rfl, hd, hb⟩
                  have HCL := Lib.hid (hd.wide (S' := (· < Wv.heap.size)) fun _ h => h.2)
                  clear hd
                  have SS : Below w1.heap.size w1 Wv ∧ AwD Wv b0 f0 d0 q0 ∧ Wv.cell? a = some (.string ⟨#[84]⟩) ∧ ResVar Wv := ⟨hS.1.trans (hb.mono hS.1.size), hS.2.1.later hb, (hb.cell (cell_lt hS.2.2.1)).trans hS.2.2.1, hS.2.2.2.later hb⟩
                  clear hS hb
                  refine hK.out _ _ SS (fun hS => ?_)
                  clear hK K
                  try simp only [Act.put, List.getElem_toArray, List.getElem_cons_zero, List.getElem_cons_succ, List.setIfInBounds_toArray, List.set_cons_zero, List.set_cons_succ]
                  refine wpAnyH_ready (rs := [71]) (by kernel_rfl) (by simp) ?_
                  refine AllReadyH.cons rfl (fun K hK => ?_) AllReadyH.nil
                  go_simp
                  have CS := sameProg_any pgQ pgQ us2 _ _ HCL.out hS.2.1.dq
                  rw [pgQQ] at CS
                  refine (CS).mono ?_
                  rintro e Wv ⟨rfl, hb⟩
                  have SS : Below w1.heap.size w1 Wv ∧ AwD Wv b0 f0 d0 q0 ∧ Wv.cell? a = some (.string ⟨#[84]⟩) ∧ ResVar Wv := ⟨hS.1.trans (hb.mono hS.1.size), hS.2.1.later hb, (hb.cell (cell_lt hS.2.2.1)).trans hS.2.2.1, hS.2.2.2.later hb⟩
                  clear hS hb
                  refine hK.out _ _ SS (fun hS => ?_)
                  clear hK K
                  try simp only [Act.put, List.getElem_toArray, List.getElem_cons_zero, List.getElem_cons_succ, List.setIfInBounds_toArray, List.set_cons_zero, List.set_cons_succ]
                  first
                  | (refine wpAnyH_take (i := 72) (v := ?_) rfl (by kernel_rfl) (by kernel_rfl) (by kernel_rfl) (fun _ _ _ h => h) (Or.inl ⟨by rfl, ?_⟩) (by assumption) ?_
                     rotate_left
                     · (intro V hV; obtain ⟨_, hA, t0, hR⟩ := hV; go_simp; try with_reducible rfl)
                     try simp only [Act.put, List.getElem_toArray, List.getElem_cons_zero, List.getElem_cons_succ, List.setIfInBounds_toArray, List.set_cons_zero, List.set_cons_succ])
                  | (refine wpAnyH_take (i := 72) (v := undef) rfl (by kernel_rfl) (by kernel_rfl) (by kernel_rfl) (fun _ _ _ h => h) (Or.inr ⟨by rfl, rfl⟩) (by assumption) ?_
                     try simp only [Act.put, List.getElem_toArray, List.getElem_cons_zero, List.getElem_cons_succ, List.setIfInBounds_toArray, List.set_cons_zero, List.set_cons_succ])
                  | fail "take 72"
                  first
                  | (refine wpAnyH_take (i := 73) (v := ?_) rfl (by kernel_rfl) (by kernel_rfl) (by kernel_rfl) (fun _ _ _ h => h) (Or.inl ⟨by rfl, ?_⟩) (by assumption) ?_
                     rotate_left
                     · (intro V hV; obtain ⟨_, hA, t0, hR⟩ := hV; go_simp; try with_reducible rfl)
                     try simp only [Act.put, List.getElem_toArray, List.getElem_cons_zero, List.getElem_cons_succ, List.setIfInBounds_toArray, List.set_cons_zero])
                  | (refine wpAnyH_take (i := 73) (v := undef) rfl (by kernel_rfl) (by kernel_rfl) (by kernel_rfl) (fun _ _ _ h => h) (Or.inr ⟨by rfl, rfl⟩) (by assumption) ?_
                     try simp only [Act.put, List.getElem_toArray, List.getElem_cons_zero, List.getElem_cons_succ, List.setIfInBounds_toArray, List.set_cons_zero])
                  | fail "take 73"
                  refine wpAnyH_done (by kernel_rfl) ?_ _
                  go_wp2_with fail
                  go_ret
                  exact ⟨rfl, HB1.out.trans (SS.1.mono HB1.out.size)⟩
end Go.Proofs.YtaeljknfbanbfaaGreatDoor
