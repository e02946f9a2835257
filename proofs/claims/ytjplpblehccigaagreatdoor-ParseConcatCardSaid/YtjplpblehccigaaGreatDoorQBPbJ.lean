/- The walk of the law ParseTrees: true, at every input; words for the laws that compare with the offsets. The conditions: the table of words, the variable of package errors. -/
import Derived.Test.YtjplpblehccigaaGreatDoorQBDrF
import Derived.Test.YtjplpblehccigaaGreatDoorQBPbC
import Derived.Deep.CutBlock
import Derived.Lib.IndexAny
import Derived.Maps.RangeRun
import Derived.WalkMore
namespace Go.Proofs.YtjplpblehccigaaGreatDoor.Rd
open Go.RowKit

theorem loadOpG {ty:TypeId} {z:Nat} (hf:Flat ty z) {ops:Array Oper} {rest:List Oper} {a:Act} {w:World} {Q:Exit→Act→World→Prop} {ps:String} {af:Array Edge} {g:Option (Nat × Bool)} (i d:Nat) {p:Addr} {us:List Value}
    (hw:Region.wanted { dst:=some d,op:=.load ty (.tmp i),type:=ty,pos:=ps,after:=af,guard:=g } (yielded ops a.tmps)=true) (hx:a.eval (.tmp i)=.pointer (some p)) (hc:CellsAt w p us) (hl:us.length=z)
    (h:wpList Tryz.prog ops Q rest (a.put (some d) (.agg us.toArray)) w) :
    wpList Tryz.prog ops Q ({ dst:=some d,op:=.load ty (.tmp i),type:=ty,pos:=ps,after:=af,guard:=g } :: rest) a w :=
  wpList_step fun K hK=>by
    obtain ⟨dsc,h1,h2⟩:=hf.row
    rw [if_pos hw]
    unfold Oper.wp execOp
    simp only [hx,Instr.loadAt,Instr.sureAddr,Sem.run_bind,Sem.run_pure,Result.andThen_ok,run_load w p ty us _ hc h1 h2 (by rw [hl]; exact hf.size)]
    exact hK _ _ h
theorem here8 {w:World} {lo:Nat} {d:Dat} {us:List Value} (h:d.In w False (Fr lo w) us):d.H w us:=Dat.In.wide h fun _ hb=>hb.2
end Go.Proofs.YtjplpblehccigaaGreatDoor.Rd
