/- The walk of the law ParseTrees: true, at every input; words for the laws that compare with the offsets. The conditions: the table of words, the variable of package errors. -/
import Derived.Test.YtkdlidakdknhjaaGreatDoorQDDrF
import Derived.Test.YtkdlidakdknhjaaGreatDoorQDPbC
import Derived.Lib.IndexAny
import Derived.Maps.RangeRun
import Derived.WalkMore
namespace Go.Proofs.YtkdlidakdknhjaaGreatDoor.Rd
open Go.RowKit
theorem eqvL8:∀ ts:List Ty,Ty.eqvL ts ts=true
  | []=>by simp only [Ty.eqvL]
  | t :: r=>by rw [Ty.eqvL,Ty.eqv_refl,eqvL8 r];rfl
theorem eqv8:∀ e:Ex,e.eqv e=true:=by
  refine Ex.ind fun k s t ts xs o ih=>?_
  have hL:∀ ys:List Ex,(∀ y∈ys,y.eqv y=true)→Ex.eqvL ys ys=true:=by
    intro ys
    induction ys with
    | nil=>intro _;simp only [Ex.eqvL]
    | cons y r ih2=>intro h;rw [Ex.eqvL,h y (by simp),ih2 fun z hz=>h z (by simp [hz])];rfl
  rw [Ex.eqv,Ty.eqv_refl,eqvL8,hL xs ih]
  simp
theorem fo_exact (f:Fo):Fo.sameX true f f=true:=by simp [Fo.sameX,bytesEq,cmp_refl,Ty.eqv_refl]
theorem sg_exact (s:Sg):Sg.sameX true s s=true:=by
  rw [Sg.sameX,sameBy_refl fo_exact,sameBy_refl fo_exact,cmp_refl,Ty.eqv_refl,bytesEq_refl]
  simp
theorem dc_exact (d:Dc):Dc.sameX true d d=true:=by
  rw [Dc.sameX,sameBy_refl fo_exact,sameBy_refl fo_exact,sameBy_refl sg_exact,sameBy_refl bytesEq_refl,sg_exact,Ex.same_refl',eqv8,bytesEq_refl,bytesEq_refl]
  simp
theorem loadOpG {ty:TypeId} {z:Nat} (hf:Flat ty z) {ops:Array Oper} {rest:List Oper} {a:Act} {w:World} {Q:Exit→Act→World→Prop} {ps:String} {af:Array Edge} {g:Option (Nat × Bool)} (i d:Nat) {p:Addr} {us:List Value}
    (hw:Region.wanted { dst:=some d,op:=.load ty (.tmp i),type:=ty,pos:=ps,after:=af,guard:=g } (yielded ops a.tmps)=true) (hx:a.eval (.tmp i)=.pointer (some p)) (hc:CellsAt w p us) (hl:us.length=z)
    (h:wpList Tryz.prog ops Q rest (a.put (some d) (.agg us.toArray)) w) :
    wpList Tryz.prog ops Q ({ dst:=some d,op:=.load ty (.tmp i),type:=ty,pos:=ps,after:=af,guard:=g } :: rest) a w :=
  wpList_step fun K hK=>by
    obtain ⟨dsc,h1,h2⟩:=hf.row
    rw [if_pos hw]
    unfold Oper.wp execOp
    simp only [hx,Instr.loadAt,Instr.sureAddr,Sem.run_bind,Sem.run_pure,Result.andThen_ok,run_load w p ty us _ hc h1 h2 (by rw [hl];exact hf.size)]
    exact hK _ _ h
theorem here8 {w:World} {lo:Nat} {d:Dat} {us:List Value} (h:d.In w False (Fr lo w) us):d.H w us:=Dat.In.wide h fun _ hb=>hb.2
