/- What every card of a law needs behind its walk: arguments read as before; structs of one-cell fields opened; the head of a list of laid variables. No condition.
From what the rows of layer 4 list of package-level variables to what the walks ask (ResVar); types that came in, opened. No condition.
What the listed variables of layer 7's laws give: the table of words, the variable of package errors. No condition. -/
import Derived.Test.YtkdlidakdknhjaaGreatDoorQDEfC
import Derived.Test.YtkdlidakdknhjaaGreatDoorQDNmR
import Derived.Test.YtkdlidakdknhjaaGreatDoorRows
import Derived.ProofKit
import Derived.LaidMore
import Derived.Stop.LaidErr
import Derived.Stop.Joined
import Derived.Deep.Slices
import Derived.Deep.Fields
import Derived.Lib.SmallJoins
import Derived.Lib.LaidTab
import Derived.Carry
namespace Go.Proofs.YtkdlidakdknhjaaGreatDoor
open Go.ChangeShapes Go.WideShapes Go.ChangeAt Go.RowKit
theorem laidOut:laidOutB Tryz.prog=true:=by kernel_rfl
theorem trodAll_stays {H:Type} {enc:TypeId × Value→H} {P:Program} (hl:laidOutB P=true) {W W':World} (hb:Below W.heap.size W W') :
    ∀ (ts:List TypeId) (vs:List Value) (ds:List (DataW H)) (ps:List MemPlace),(∀ t∈ts,P.readableRec t=true∧t<P.types.size) →
      DataW.TrodAll enc P W 0 (fun _=>true) true ts vs ds ps→(∀ x∈ps,x.block<W.heap.size)→DataW.TrodAll enc P W' 0 (fun b=>decide (b<W.heap.size)) true ts vs ds ps:=by
  intro ts
  induction ts with
  | nil =>
    intro vs ds ps _ h _
    cases vs<;>cases ds<;>first | exact h | exact h.elim
  | cons t ts ih =>
    intro vs ds ps ht h hlt
    cases vs with
    | nil=>cases ds<;>exact h.elim
    | cons v vs =>
      cases ds with
      | nil=>exact h.elim
      | cons d ds =>
        obtain ⟨p,q,h1,h2,rfl⟩:=h
        obtain ⟨ha,hs⟩:=ht t (by simp)
        exact ⟨p,q,Below.trod hl ha hs h1 hb (fun x hx=>hlt x (List.mem_append_left _ hx)),ih vs ds q (fun t' h'=>ht t' (by simp [h'])) h2 (fun x hx=>hlt x (List.mem_append_right _ hx)),rfl⟩
theorem all_readable {P:Program} {ts:List TypeId} (h:(ts.all fun t=>P.readableRec t&&decide (t<P.types.size))=true):∀ t∈ts,P.readableRec t=true∧t<P.types.size:=fun t ht=>by
  have:=List.all_eq_true.1 h t ht
  simpa only [Bool.and_eq_true,decide_eq_true_eq] using this
theorem post_law {H:Type} {enc:TypeId × Value→H} {f:Func} {s:ChangeSpec} {apart fresh handsOn:Bool} {W W':World} {args:Array Value} {ds gs:List (DataW H)} {before:List MemPlace} {x:Bool} {tb:TypeId}
    (hW:DataW.Whole enc Tryz.prog f.params.toList s.vars apart W args.toList ds gs before) (hA:DataW.TrodAll enc Tryz.prog W 0 (fun _=>true) true f.params.toList args.toList ds before) (hb:Below W.heap.size W W')
    (ht:(f.params.toList.all fun t=>Tryz.prog.readableRec t&&decide (t<Tryz.prog.types.size))=true)
    (hv0:s.vars=[]) (hs:s.fn H (ds++gs)={ results:=[.lit (.bool x)],args:=ds }) (hr:f.resultTypes=#[tb]) (htb:Tryz.prog.underlying tb=some .bool) :
    s.post enc Tryz.prog f apart fresh handsOn false W args (.bool x) W':=by
  have hlt:∀ x∈before,x.block<W.heap.size:=fun x hx=>by simpa using hW.lt x hx
  refine ⟨ds,gs,before,[],before,[],hW,?_,?_,?_,World.keptBut_mono (fun p hp=>⟨hp,Or.inr (Or.inl hp)⟩) (hb.frame (·∈before)),fun h=>by cases h⟩
  · rw [hs,hr]
    exact trodAll_mk1 (shut_bool htb x)
  · rw [hs]
    exact trodAll_stays laidOut hb _ _ _ _ (all_readable ht) hA hlt
  rw [hs,hv0]
  rfl
theorem laidMet_mem {P:Program} {w:World} {x:String × DataW Unit}:∀ {l:List (String × DataW Unit)},laidMet P l w→x∈l→∃ r,laidMet P (x :: r) w
  | [],_,hm=>by cases hm
  | y :: l,h,hm=>by
    rcases List.mem_cons.1 hm with rfl | hm
    · exact ⟨l,h⟩
    exact laidMet_mem h.tail hm
theorem cells_of_strs {H:Type} {enc:TypeId × Value→H} {P:Program} {w:World} {base:Nat} {sp:Nat→Bool} {held:Bool} {fuel:Nat} {t e:TypeId} {n:Nat} {cs:List Value} {ls:List (List UInt8)} {p:List MemPlace}
    (ht:P.underlying t=some (.array n e)) (he:P.underlying e=some .string) (hce:P.cellsOf e=1) (hct:P.cellsOf t=n)
    (h:DataW.trod enc P w base sp held fuel t cs=some (.agg (ls.map fun l=>.lit (.string l)),p)):cs=ls.map fun l=>Value.string ⟨l.toArray⟩:=by
  cases fuel with
  | zero=>simp [DataW.trod] at h
  | succ fuel =>
    simp only [DataW.trod,ht,hce,hct,Nat.mul_one] at h
    split at h
    · rename_i hl
      obtain ⟨xs,hm,hx⟩:=Option.map_eq_some_iff.1 h
      have hxs:xs.map (·.1)=ls.map fun l=>(DataW.lit (.string l):DataW H):=by
        have:=congrArg Prod.fst hx
        simpa using this
      have hxl:xs.length=n:=by simpa using Lib.mapM_length hm
      have hzl:ls.length=n:=by
        have:=congrArg List.length hxs
        simp at this
        omega
      apply List.ext_getElem?
      intro i
      by_cases hi:i<n
      · obtain ⟨b,hb,hf⟩:=Lib.mapM_at hm i i (by simp [hi])
        obtain ⟨s,hc,rfl,_⟩:=DataW.trod_string he hf
        have h1:cs[i]?=some (.string s):=by
          have:=congrArg (·[0]?) hc
          simpa [List.getElem?_take,List.getElem?_drop] using this
        have h2:(xs.map (·.1))[i]?=some (DataW.lit (.string s.data.toList):DataW H):=by simp [hb]
        rw [hxs] at h2
        simp only [List.getElem?_map,Option.map_eq_some_iff,DataW.lit.injEq,Lit.string.injEq] at h2
        obtain ⟨l,hl',rfl⟩:=h2
        simp only [h1,List.getElem?_map,hl',Option.map_some]
      rw [List.getElem?_eq_none (by omega),List.getElem?_eq_none (by simp;omega)]
    cases h
def flatB (P:Program) (t:TypeId):Bool:=match P.underlying t with | some (.struct fs)=>Go.Deep.oneCellFields P fs&&P.cellsOf t==fs.size | _=>false
open Go.ChangeShapes Go.WideShapes Go.ChangeAt Go.RowKit
theorem flatTy:flatB Tryz.prog 29=true:=by kernel_rfl
theorem cStr:Tryz.prog.cellsOf 9=1:=by kernel_rfl
theorem tRes:(Tryz.prog.globals[1]?).map (·.type)=some 181:=by kernel_rfl
theorem cRes:Tryz.prog.cellsOf 181=7:=by kernel_rfl
theorem res_of_laid {W : World} {l : List (String × DataW Unit)} (h : laidMet Tryz.prog l W) (m1 : ("castings/name.reserved", Rows.laid_castings_name_reserved) ∈ l) : ResVar W := by
  obtain ⟨r1,h1⟩:=laidMet_mem h m1
  obtain ⟨ps,⟨g',t',cs,fuel,p,q,hg',ht',hvar,hd,_,_⟩,_⟩:=h1
  obtain rfl:=Option.some.inj (gRes.symm.trans hg')
  obtain rfl:=Option.some.inj (tRes.symm.trans ht')
  have hd':=cells_of_strs (ls:=Nm.words) Tryz.underlying181 Tryz.underlying9 cStr cRes hd
  unfold ResVar
  rw [hvar,resCells,←hd']
theorem env_of_laid {W : World} (h : laidMetH Tryz.prog [("castings/name.reserved", Rows.laid_castings_name_reserved)] W) : ResVar W := by
  have h' : laidMet Tryz.prog [("castings/name.reserved", Rows.laid_castings_name_reserved)] W := h
  exact res_of_laid h' (List.mem_singleton.2 rfl)
end Go.Proofs.YtkdlidakdknhjaaGreatDoor
namespace Go.Proofs.YtkdlidakdknhjaaGreatDoor.Rd
open Go.RowKit
theorem rtRow : (Tryz.prog.cutTypes.find? (·.1 == "internal/reflectlite.rtype")).map (·.2) = some 204 := by kernel_rfl
theorem oneRow:((List.range 257).filter fun t=>Tryz.prog.rowNamed t [101,114,114,111,114])=[38]:=by kernel_rfl
theorem tySize:Tryz.prog.types.size=257:=by kernel_rfl
theorem err_of_handles {W : World} {hs : List (String × DataW Unit)} (h : handlesMet Tryz.prog hs W) (hm : ("errors.errorType", Rows.laid_errors_errorType) ∈ hs) : ErrVar W := by
  obtain ⟨name,u,ty,e1,e2,e3,e4,e5⟩:=h _ hm
  have en:name=[101,114,114,111,114]:=(Option.some.inj e1).symm
  subst en
  obtain rfl:=Option.some.inj (rtRow.symm.trans e2)
  have hmm:ty∈(List.range 257).filter fun t=>Tryz.prog.rowNamed t [101,114,114,111,114]:=List.mem_filter.2 ⟨List.mem_range.2 (by rw [←tySize];exact e3),e4⟩
  rw [oneRow] at hmm
  obtain rfl:=List.mem_singleton.1 hmm
  have hh:typeHandle Tryz.prog 38=.pointer (some ⟨3,38,none⟩):=by kernel_rfl
  rw [hh] at e5
  unfold ErrVar
  simpa using World.var?_cell gTyp e5 0
theorem env_of_laid {W : World} (h : laidMetH Tryz.prog [("errors.errorType", Rows.laid_errors_errorType), ("castings/name.reserved", Rows.laid_castings_name_reserved)] W) : ResVar W ∧ ErrVar W := by
  have h' : laidMet Tryz.prog [("castings/name.reserved", Rows.laid_castings_name_reserved)] W ∧ handlesMet Tryz.prog [("errors.errorType", Rows.laid_errors_errorType)] W := h
  exact ⟨res_of_laid h'.1 (List.mem_singleton.2 rfl),err_of_handles h'.2 (List.mem_singleton.2 rfl)⟩
