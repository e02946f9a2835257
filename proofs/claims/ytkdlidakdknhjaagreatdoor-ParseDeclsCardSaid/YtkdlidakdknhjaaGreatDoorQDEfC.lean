/- Errors that are faults or codes alone: what errors.As finds in them: closed facts on the model's entries for internal/reflectlite. No condition but those in each statement.
errors.as and errors.As at a fault: the walks, at a pointer to an api.Code and at a pointer to an api.Fault.
The walks of fault.Code and fault.At at a fault and at nil. -/
import Derived.Test.YtkdlidakdknhjaaGreatDoorQDExA
import Derived.WalkKit
import Derived.WalkSmall
import Derived.Below
import Derived.LaidEql
import Derived.Stop.Asserts
import Derived.RowKitTokens
import Derived.Lib.Hide
import Derived.Tactics2
import Derived.Defers
import Derived.Recover
set_option maxHeartbeats 2000000
open Go.Lib (hid)
namespace Go.Proofs.YtkdlidakdknhjaaGreatDoor
open Go.RowKit Go.Extern.Stop Go.Stop Go.Extern
theorem gTyp : Tryz.prog.globalNamed "errors.errorType" = some 0 := by kernel_rfl
def ErrVar (w:World):Prop:=w.cell? ⟨0,0,none⟩=some (.iface 204 (.agg #[.pointer (some ⟨3,38,none⟩)]))
theorem ErrVar.later {w w':World} (h:ErrVar w) (hb:Below w.heap.size w w'):ErrVar w':=(hb.cell (cell_lt h)).trans h
def faultV (c o:Int):Value:=.iface 128 (.agg #[.int .i64 c,.int .i64 o])
theorem new_any (c a:Int) (w:World) :
    Calls Tryz.prog 87 #[.int .i64 c,.int .i64 a] w fun e w'=>e=.returned (faultV c a)∧w=w':=by
  go_enter Tryz.func87,Tryz.ntmps87
  go_wp2_with fail
  go_ret
  exact ⟨rfl,rfl⟩
theorem typeOfC (v:Value) (w:World):(ReflectliteType.typeOf #[.iface 72 v]).run Tryz.prog w=.ok (.iface 204 (.agg #[.pointer (some ⟨3,72,none⟩)])) w:=by kernel_rfl
theorem typeOfF (v:Value) (w:World):(ReflectliteType.typeOf #[.iface 128 v]).run Tryz.prog w=.ok (.iface 204 (.agg #[.pointer (some ⟨3,128,none⟩)])) w:=by kernel_rfl
theorem methodAss (h : Value) (w : World) : (Go.method 357 204 (.agg #[h]) "AssignableTo").run Tryz.prog w = .ok (182, .agg #[h]) w := by kernel_rfl
theorem assCC (w : World) : (ReflectliteType.relation "AssignableTo" ReflectliteType.assignableTo #[.agg #[.pointer (some ⟨3, 72, none⟩)], .iface 204 (.agg #[.pointer (some ⟨3, 72, none⟩)])]).run Tryz.prog w = .ok (.bool true) w := by kernel_rfl
theorem assFC (w : World) : (ReflectliteType.relation "AssignableTo" ReflectliteType.assignableTo #[.agg #[.pointer (some ⟨3, 128, none⟩)], .iface 204 (.agg #[.pointer (some ⟨3, 72, none⟩)])]).run Tryz.prog w = .ok (.bool false) w := by kernel_rfl
theorem assFF (w : World) : (ReflectliteType.relation "AssignableTo" ReflectliteType.assignableTo #[.agg #[.pointer (some ⟨3, 128, none⟩)], .iface 204 (.agg #[.pointer (some ⟨3, 128, none⟩)])]).run Tryz.prog w = .ok (.bool true) w := by kernel_rfl
theorem noAs (t : Nat) (h : (Tryz.prog.info? t).map (fun i => (lacking #[("As", 211)] i.methods).isEmpty) = some false) (v : Value) (xT : TypeId) (w : World) :
    (Instr.typeAssert (.iface t v) xT 209 true).run Tryz.prog w=.ok (.tuple #[.nilIface,.bool false]) w:=run_typeAssert_lacksB Tryz.underlying209 h (by kernel_rfl) v xT w
theorem noAsF (v:Value) (xT:TypeId) (w:World):(Instr.typeAssert (.iface 128 v) xT 209 true).run Tryz.prog w=.ok (.tuple #[.nilIface,.bool false]) w:=noAs _ (by kernel_rfl) v xT w
theorem unF (v:Value) (xT:TypeId) (w:World):(Instr.typeAssert (.iface 128 v) xT 212 true).run Tryz.prog w=.ok (.tuple #[.iface 128 v,.bool true]) w:=run_typeAssert_hasB Tryz.underlying212 (by kernel_rfl) v xT w
theorem mUnF (v : Value) (w : World) : (Go.method 357 128 v "Unwrap").run Tryz.prog w = .ok (177, v) w := by kernel_rfl
theorem unwrapF (c a:Int) (w:World) :
    Calls Tryz.prog 177 #[.agg #[.int .i64 c,.int .i64 a]] w fun e w'=>e=.returned (.iface 72 (.int .i64 c))∧Below w.heap.size w w':=by
  go_enter Tryz.func177,Tryz.ntmps177
  go_wp2_with fail
  go_ret
  exact ⟨rfl,(Below.refl _ _).alloc (Nat.le_refl _) _⟩
theorem rlm (z:Sem Value) (f:TypeId→Addr→Nat→Nat→Sem Value) (v:Value) :
    ReflectliteValue.method z f #[v]=(do match ←ReflectliteValue.parts v with | none=>z | some (t,a,fl)=>f t a fl (fl % 32)):=rfl
theorem rls (v x:Value):ReflectliteValue.set #[v,x]=(do
    let (some (dst,a,fl),some (src,b,_)):=(←ReflectliteValue.parts v,←ReflectliteValue.parts x)
      | unsupported (.noEntry "extern/(internal/reflectlite.Value).Set.zeroValue")
    if fl / ReflectliteValue.flagAddr % 2 == 0 then unsupported (.noEntry "extern/(internal/reflectlite.Value).Set.unaddressable")
    let val ←loadVar src b
    if ←Rtype.directlyAssignable dst src then storeVar dst a val
    else if ←Rtype.implements dst src then
      if (←Rtype.kind src)==20 then
        match val with
        | .nilIface => unsupported (.noEntry "extern/reflectlite: a nil value of one interface type handed on as a value of another")
        | _=>storeVar dst a val
      else storeVar dst a (.iface src val)
    else panicString ("reflectlite.Set: value of type " ++ (← Rtype.spelt src) ++ " is not assignable to type " ++ (← Rtype.spelt dst))
    pure (.tuple #[])):=rfl
theorem elemOfPC (w:World):(Rtype.elem? 126).run Tryz.prog w=.ok (some 72) w:=by kernel_rfl
theorem mkC (p:Addr) (w:World):(ReflectliteValue.mk 72 p ReflectliteValue.flagAddr).run Tryz.prog w=.ok (.agg #[.pointer (some ⟨3,72,none⟩),.pointer (some p),.int .u64 386]) w:=by kernel_rfl
theorem partsPC (a:Addr) (w:World):(ReflectliteValue.parts (.agg #[.pointer (some ⟨3,126,none⟩),.pointer (some a),.int .u64 150])).run Tryz.prog w=.ok (some (126,a,150)) w:=by kernel_rfl
theorem partsCa (a:Addr) (w:World):(ReflectliteValue.parts (.agg #[.pointer (some ⟨3,72,none⟩),.pointer (some a),.int .u64 386])).run Tryz.prog w=.ok (some (72,a,386)) w:=by kernel_rfl
theorem partsC (a:Addr) (w:World):(ReflectliteValue.parts (.agg #[.pointer (some ⟨3,72,none⟩),.pointer (some a),.int .u64 130])).run Tryz.prog w=.ok (some (72,a,130)) w:=by kernel_rfl
theorem directC (w:World):(Rtype.directlyAssignable 72 72).run Tryz.prog w=.ok true w:=by kernel_rfl
theorem valueOfC (c:Int) (w:World):(ReflectliteValue.unpack (.iface 72 (.int .i64 c))).run Tryz.prog w
    = .ok (.agg #[.pointer (some ⟨3,72,none⟩),.pointer (some ⟨w.heap.size,0,none⟩),.int .u64 130]) (w.alloc (.cells #[.int .i64 c] 72)):=by kernel_rfl
theorem elemPC (a p:Addr) (W:World) (ha:W.cell? a=some (.pointer (some p))) :
    (ReflectliteValue.method (ReflectliteValue.valueError "reflectlite.Value.Elem" 0) ReflectliteValue.elem #[.agg #[.pointer (some ⟨3, 126, none⟩), .pointer (some a), .int .u64 150]]).run Tryz.prog W
      = .ok (.agg #[.pointer (some ⟨3,72,none⟩),.pointer (some p),.int .u64 386]) W:=by
  rw [rlm]
  simp only [Sem.run_bind,partsPC,Result.andThen]
  simp [ReflectliteValue.elem,loadVar,isAgg,underlying,Tryz.underlying126,ha,Result.andThen,elemOfPC,mkC]
theorem setC (ta b:Addr) (c:Int) (old:Value) (W:World) (hb:W.cell? b=some (.int .i64 c)) (ht:W.cell? ta=some old) (hf:W.frozen? ta=false) :
    (ReflectliteValue.set #[.agg #[.pointer (some ⟨3,72,none⟩),.pointer (some ta),.int .u64 386],.agg #[.pointer (some ⟨3,72,none⟩),.pointer (some b),.int .u64 130]]).run Tryz.prog W
      = .ok (.tuple #[]) (W.setCell ta (.int .i64 c)):=by
  rw [rls]
  simp only [Sem.run_bind,partsCa,partsC,Result.andThen]
  simp [ReflectliteValue.flagAddr,loadVar,isAgg,underlying,Tryz.underlying72,hb,Result.andThen,directC,storeVar,Value.cells,storeCells,Addr.add]
  rw [run_store Tryz.prog W ta _ _ (by rfl)]
  simp [ht,hf]
theorem elemOfPF (w:World):(Rtype.elem? 129).run Tryz.prog w=.ok (some 128) w:=by kernel_rfl
theorem mkF (p:Addr) (w:World):(ReflectliteValue.mk 128 p ReflectliteValue.flagAddr).run Tryz.prog w=.ok (.agg #[.pointer (some ⟨3,128,none⟩),.pointer (some p),.int .u64 409]) w:=by kernel_rfl
theorem partsPF (a:Addr) (w:World):(ReflectliteValue.parts (.agg #[.pointer (some ⟨3,129,none⟩),.pointer (some a),.int .u64 150])).run Tryz.prog w=.ok (some (129,a,150)) w:=by kernel_rfl
theorem partsFa (a:Addr) (w:World):(ReflectliteValue.parts (.agg #[.pointer (some ⟨3,128,none⟩),.pointer (some a),.int .u64 409])).run Tryz.prog w=.ok (some (128,a,409)) w:=by kernel_rfl
theorem partsF (a:Addr) (w:World):(ReflectliteValue.parts (.agg #[.pointer (some ⟨3,128,none⟩),.pointer (some a),.int .u64 153])).run Tryz.prog w=.ok (some (128,a,153)) w:=by kernel_rfl
theorem directF (w:World):(Rtype.directlyAssignable 128 128).run Tryz.prog w=.ok true w:=by kernel_rfl
theorem valueOfF (c o:Int) (w:World):(ReflectliteValue.unpack (.iface 128 (.agg #[.int .i64 c,.int .i64 o]))).run Tryz.prog w
    = .ok (.agg #[.pointer (some ⟨3,128,none⟩),.pointer (some ⟨w.heap.size,0,none⟩),.int .u64 153]) (w.alloc (.cells #[.int .i64 c,.int .i64 o] 128)):=by kernel_rfl
theorem elemPF (a p:Addr) (W:World) (ha:W.cell? a=some (.pointer (some p))) :
    (ReflectliteValue.method (ReflectliteValue.valueError "reflectlite.Value.Elem" 0) ReflectliteValue.elem #[.agg #[.pointer (some ⟨3, 129, none⟩), .pointer (some a), .int .u64 150]]).run Tryz.prog W
      = .ok (.agg #[.pointer (some ⟨3,128,none⟩),.pointer (some p),.int .u64 409]) W:=by
  rw [rlm]
  simp only [Sem.run_bind,partsPF,Result.andThen]
  simp [ReflectliteValue.elem,loadVar,isAgg,underlying,Tryz.underlying129,ha,Result.andThen,elemOfPF,mkF]
theorem setF (tb b:Nat) (c o:Int) (old0 old1:Value) (W:World) (hb0:W.cell? ⟨b,0,none⟩=some (.int .i64 c)) (hb1:W.cell? ⟨b,1,none⟩=some (.int .i64 o))
    (ht0:W.cell? ⟨tb,0,none⟩=some old0) (ht1:W.cell? ⟨tb,1,none⟩=some old1) (hf0:W.frozen? ⟨tb,0,none⟩=false) (hf1:W.frozen? ⟨tb,1,none⟩=false) :
    (ReflectliteValue.set #[.agg #[.pointer (some ⟨3,128,none⟩),.pointer (some ⟨tb,0,none⟩),.int .u64 409],.agg #[.pointer (some ⟨3,128,none⟩),.pointer (some ⟨b,0,none⟩),.int .u64 153]]).run Tryz.prog W
      = .ok (.tuple #[]) ((W.setCell ⟨tb,0,none⟩ (.int .i64 c)).setCell ⟨tb,1,none⟩ (.int .i64 o)):=by
  rw [rls]
  simp only [Sem.run_bind,partsFa,partsF,Result.andThen]
  have hl:(loadCells ⟨b,0,none⟩ 2).run Tryz.prog W=.ok #[.int .i64 c,.int .i64 o] W :=
    run_loadCells_list W ⟨b,0,none⟩ [.int .i64 c,.int .i64 o] (fun j v hj=>by
      match j,hj with
      | 0,hj=>obtain rfl:=Option.some.inj hj;simpa [Addr.add] using hb0
      | 1,hj=>obtain rfl:=Option.some.inj hj;simpa [Addr.add] using hb1)
  have h1:(W.setCell ⟨tb,0,none⟩ (.int .i64 c)).cell? ⟨tb,1,none⟩=some old1:=(World.cell?_setCell_other _ _ _ _ (by intro e;injection e with _ e;cases e)).trans ht1
  have h2:(W.setCell ⟨tb,0,none⟩ (.int .i64 c)).frozen? ⟨tb,1,none⟩=false:=by rw [World.frozen?_setCell];exact hf1
  simp [ReflectliteValue.flagAddr,loadVar,isAgg,underlying,Tryz.underlying128,hl,Result.andThen,directF,storeVar]
  have hcs:(Value.agg #[Value.int IntKind.i64 c,Value.int IntKind.i64 o]).cells=#[Value.int IntKind.i64 c,Value.int IntKind.i64 o]:=by kernel_rfl
  rw [hcs]
  simp [storeCells,Result.andThen,Addr.add]
  rw [run_store Tryz.prog W ⟨tb,0,none⟩ _ _ (by rfl)]
  simp only [ht0,hf0]
  simp
  rw [run_store Tryz.prog _ ⟨tb,1,none⟩ _ _ (by rfl)]
  simp only [h1,h2]
  simp
open Go.RowKit Go.Extern.Stop Go.Stop Go.Extern
def GotC (B:Nat) (w:World) (t:Addr) (c:Int) (e:Ending) (w':World):Prop :=
  e=.returned (.bool true)∧Below B w w'∧w'.cell? t=some (.int .i64 c)
def GotF (B:Nat) (w:World) (tb:Nat) (o:Int) (e:Ending) (w':World):Prop :=
  e=.returned (.bool true)∧Below B w w'∧w'.cell? ⟨tb,1,none⟩=some (.int .i64 o)
def Rest (W wr:World) (c o:Int) (v:Value):Prop:=Below W.heap.size W wr∧(v=faultV c o∨v=.iface 72 (.int .i64 c))
def rank:Value→Nat
  | .iface t _=>if t=128 then 1 else 0
  | _=>0
theorem rank_fault {v:Value}:rank (.iface 128 v)=1:=by simp [rank]
theorem rank_code {v:Value}:rank (.iface 72 v)=0:=by simp [rank]
theorem asC (B:Nat) (w:World) (c o:Int) (t a:Addr) (old:Value) (ht:w.cell? t=some old) (hf:w.frozen? t=false)
    (ha:w.cell? a=some (.pointer (some t))) (hB:B≤t.block) :
    Calls Tryz.prog 108 #[faultV c o,.iface 126 (.pointer (some t)),.agg #[.pointer (some ⟨3,126,none⟩),.pointer (some a),.int .u64 150],.iface 204 (.agg #[.pointer (some ⟨3,72,none⟩)])] w (GotC B w t c):=by
  have hTO:=@run_callFunc_extern Tryz.prog 135 _ ReflectliteType.typeOf Tryz.func135 (by kernel_rfl) (by kernel_rfl) (by kernel_rfl) (by kernel_rfl)
  have hAT := @run_callFunc_extern Tryz.prog 182 _ (ReflectliteType.relation "AssignableTo" ReflectliteType.assignableTo) Tryz.func182 (by kernel_rfl) (by kernel_rfl) (by kernel_rfl) (by kernel_rfl)
  have hEl := @run_callFunc_extern Tryz.prog 136 _ (ReflectliteValue.method (ReflectliteValue.valueError "reflectlite.Value.Elem" 0) ReflectliteValue.elem) Tryz.func136 (by kernel_rfl) (by kernel_rfl) (by kernel_rfl) (by kernel_rfl)
  have hSe:=@run_callFunc_extern Tryz.prog 137 _ ReflectliteValue.set Tryz.func137 (by kernel_rfl) (by kernel_rfl) (by kernel_rfl) (by kernel_rfl)
  have hVO:=@run_callFunc_extern Tryz.prog 105 _ (fun args=>ReflectliteValue.unpack (args.getD 0 (.tuple #[]))) Tryz.func105 (by kernel_rfl) (by kernel_rfl) (by kernel_rfl) (by kernel_rfl)
  have mA:=methodAss
  obtain ⟨W,hW⟩:∃ W,W=w.alloc (.cells #[.pointer (some ⟨3,126,none⟩),.pointer (some a),.int .u64 150] 171):=⟨_,rfl⟩
  have hwW:Below w.heap.size w W:=by rw [hW];exact (Below.refl _ _).alloc (Nat.le_refl _) _
  have hR:Rest W W c o (faultV c o):=⟨Below.refl _ _,.inl rfl⟩
  have hx:W.cell? ⟨w.heap.size,0,none⟩=some (.pointer (some ⟨3,126,none⟩))∧W.cell? ⟨w.heap.size,1,none⟩=some (.pointer (some a))∧W.cell? ⟨w.heap.size,2,none⟩=some (.int .u64 150)∧W.cell? a=some (.pointer (some t))∧W.cell? t=some old∧W.frozen? t=false∧w.heap.size<W.heap.size:=by
    refine ⟨?_,?_,?_,(hwW.cell (cell_lt ha)).trans ha,(hwW.cell (cell_lt ht)).trans ht,(hwW.frozen (p:=t) (cell_lt ht)).trans hf,?_⟩
    all_goals rw [hW]
    · rw [World.cell?_alloc_at _ _ _ _ rfl];rfl
    · rw [World.cell?_alloc_at _ _ _ _ rfl];rfl
    · rw [World.cell?_alloc_at _ _ _ _ rfl];rfl
    simp
  have htw:=cell_lt ht
  have HW:=hid hW
  have HwW:=hid hwW
  have HR:=hid hR
  have HX:=hid hx
  clear hR hW hwW hx ht hf ha
  go_enter Tryz.func108,Tryz.ntmps108
  go_wp2
  rw [←HW.out]
  unfold faultV
  go_loopw [0] (fun v wr=>Rest W wr c o v) (fun v _=>rank v)
  case atStart=>exact HR.out
  obtain ⟨hbel,hv'⟩:=hrel
  obtain ⟨x0,x1,x2,xa,xt,xf,xl⟩:=HX.out
  have ha1:=cell_lt xa
  have ht1:=cell_lt xt
  have y0:=(hbel.cell (cell_lt x0)).trans x0
  have y1:=(hbel.cell (cell_lt x1)).trans x1
  have y2:=(hbel.cell (cell_lt x2)).trans x2
  have ya:=(hbel.cell ha1).trans xa
  have yt:=(hbel.cell ht1).trans xt
  have yf:=(hbel.frozen (p:=t) ht1).trans xf
  have HB:=hid hbel
  have zl:=hbel.size
  clear x0 x1 x2 xa xt xf hbel
  rcases hv' with rfl | rfl
  · have f1:=typeOfF
    have f2:=assFC
    have f3:=noAsF
    have f4:=unF
    have f5:=mUnF
    clear ya yt yf
    unfold faultV
    go_wp2_with (go_at_call 177;refine (unwrapF c o _).mono ?_;rintro e w1 ⟨rfl,hb1⟩)
    go_roundw
    case rel=>exact ⟨HB.out.trans (hb1.mono HB.out.size),.inr rfl⟩
    case measure=>rw [rank_code,rank_fault];omega
  have f1:=typeOfC
  have f2:=assCC
  have f3:=elemPC a t wr ya
  have f4:=valueOfC c
  have yt':(wr.alloc (.cells #[.int .i64 c] 72)).cell? t=some old:=(World.cell?_alloc_lt _ _ t (by omega)).trans yt
  have yf':(wr.alloc (.cells #[.int .i64 c] 72)).frozen? t=false:=(World.frozen?_alloc_old _ _ t (by omega)).trans yf
  have f5:=setC t ⟨wr.heap.size,0,none⟩ c old (wr.alloc (.cells #[.int .i64 c] 72)) (by rw [World.cell?_alloc_at _ _ _ _ rfl];rfl) yt' yf'
  have HF:=hid f5
  have HT:=hid yt'
  clear f5 yt yf ya yt' yf'
  have f5:=HF.out
  go_wp2
  go_ret
  refine ⟨rfl,?_,?_⟩
  · exact ((((HwW.out.trans (HB.out.mono HwW.out.size)).mono (by omega)).alloc (by omega) _).setCell hB _)
  exact World.cell?_setCell_same _ _ _ HT.out
theorem asF (B:Nat) (w:World) (c o:Int) (tb:Nat) (a:Addr) (old0 old1:Value) (ht:w.cell? ⟨tb,0,none⟩=some old0) (htt:w.cell? ⟨tb,1,none⟩=some old1)
    (hf:w.frozen? ⟨tb,0,none⟩=false) (hff:w.frozen? ⟨tb,1,none⟩=false) (ha:w.cell? a=some (.pointer (some ⟨tb,0,none⟩))) (hB:B≤tb) :
    Calls Tryz.prog 108 #[faultV c o,.iface 129 (.pointer (some ⟨tb,0,none⟩)),.agg #[.pointer (some ⟨3,129,none⟩),.pointer (some a),.int .u64 150],.iface 204 (.agg #[.pointer (some ⟨3,128,none⟩)])] w (GotF B w tb o):=by
  have hTO:=@run_callFunc_extern Tryz.prog 135 _ ReflectliteType.typeOf Tryz.func135 (by kernel_rfl) (by kernel_rfl) (by kernel_rfl) (by kernel_rfl)
  have hAT := @run_callFunc_extern Tryz.prog 182 _ (ReflectliteType.relation "AssignableTo" ReflectliteType.assignableTo) Tryz.func182 (by kernel_rfl) (by kernel_rfl) (by kernel_rfl) (by kernel_rfl)
  have hEl := @run_callFunc_extern Tryz.prog 136 _ (ReflectliteValue.method (ReflectliteValue.valueError "reflectlite.Value.Elem" 0) ReflectliteValue.elem) Tryz.func136 (by kernel_rfl) (by kernel_rfl) (by kernel_rfl) (by kernel_rfl)
  have hSe:=@run_callFunc_extern Tryz.prog 137 _ ReflectliteValue.set Tryz.func137 (by kernel_rfl) (by kernel_rfl) (by kernel_rfl) (by kernel_rfl)
  have hVO:=@run_callFunc_extern Tryz.prog 105 _ (fun args=>ReflectliteValue.unpack (args.getD 0 (.tuple #[]))) Tryz.func105 (by kernel_rfl) (by kernel_rfl) (by kernel_rfl) (by kernel_rfl)
  have mA:=methodAss
  obtain ⟨W,hW⟩:∃ W,W=w.alloc (.cells #[.pointer (some ⟨3,129,none⟩),.pointer (some a),.int .u64 150] 171):=⟨_,rfl⟩
  have hwW:Below w.heap.size w W:=by rw [hW];exact (Below.refl _ _).alloc (Nat.le_refl _) _
  have hx:W.cell? ⟨w.heap.size,0,none⟩=some (.pointer (some ⟨3,129,none⟩))∧W.cell? ⟨w.heap.size,1,none⟩=some (.pointer (some a))∧W.cell? ⟨w.heap.size,2,none⟩=some (.int .u64 150)∧W.cell? a=some (.pointer (some ⟨tb,0,none⟩)) ∧
      W.cell? ⟨tb,0,none⟩=some old0∧W.cell? ⟨tb,1,none⟩=some old1∧W.frozen? ⟨tb,0,none⟩=false∧W.frozen? ⟨tb,1,none⟩=false∧w.heap.size<W.heap.size:=by
    refine ⟨?_,?_,?_,(hwW.cell (cell_lt ha)).trans ha,(hwW.cell (cell_lt ht)).trans ht,(hwW.cell (cell_lt htt)).trans htt,(hwW.frozen (p:=⟨tb,0,none⟩) (cell_lt ht)).trans hf,(hwW.frozen (p:=⟨tb,1,none⟩) (cell_lt htt)).trans hff,?_⟩
    all_goals rw [hW]
    · rw [World.cell?_alloc_at _ _ _ _ rfl];rfl
    · rw [World.cell?_alloc_at _ _ _ _ rfl];rfl
    · rw [World.cell?_alloc_at _ _ _ _ rfl];rfl
    simp
  have htw:tb<w.heap.size:=cell_lt ht
  have HW:=hid hW
  have HwW:=hid hwW
  have HX:=hid hx
  clear hW hwW hx ht hf ha htt hff
  go_enter Tryz.func108,Tryz.ntmps108
  go_wp2
  rw [←HW.out]
  obtain ⟨x0,x1,x2,xa,xt,xtt,xf,xff,xl⟩:=HX.out
  have ha1:=cell_lt xa
  have ht1:tb<W.heap.size:=cell_lt xt
  have f1:=typeOfF
  have f2:=assFF
  have f3:=elemPF a ⟨tb,0,none⟩ W xa
  have f4:=valueOfF c o
  have yt0:(W.alloc (.cells #[.int .i64 c,.int .i64 o] 128)).cell? ⟨tb,0,none⟩=some old0:=(World.cell?_alloc_lt _ _ _ (by show tb<_;omega)).trans xt
  have yt1:(W.alloc (.cells #[.int .i64 c,.int .i64 o] 128)).cell? ⟨tb,1,none⟩=some old1:=(World.cell?_alloc_lt _ _ _ (by show tb<_;omega)).trans xtt
  have yf0:(W.alloc (.cells #[.int .i64 c,.int .i64 o] 128)).frozen? ⟨tb,0,none⟩=false:=(World.frozen?_alloc_old _ _ ⟨tb,0,none⟩ (by show tb≠_;omega)).trans xf
  have yf1:(W.alloc (.cells #[.int .i64 c,.int .i64 o] 128)).frozen? ⟨tb,1,none⟩=false:=(World.frozen?_alloc_old _ _ ⟨tb,1,none⟩ (by show tb≠_;omega)).trans xff
  have f5:=setF tb W.heap.size c o old0 old1 (W.alloc (.cells #[.int .i64 c,.int .i64 o] 128)) (by rw [World.cell?_alloc_at _ _ _ _ rfl];rfl) (by rw [World.cell?_alloc_at _ _ _ _ rfl];rfl) yt0 yt1 yf0 yf1
  have HF:=hid f5
  have HT:=hid yt1
  clear f5 xt xf xa xtt xff yt0 yt1 yf0 yf1
  have f5:=HF.out
  unfold faultV
  refine wp_loop_rounds 1 ?_
  rw [rounds_succ]
  go_wp2
  go_ret
  refine ⟨rfl,?_,?_⟩
  · exact Below.alloc (Below.setCell (p:=⟨tb,1,none⟩) (Below.setCell (p:=⟨tb,0,none⟩) (HwW.out.mono (show B≤w.heap.size by omega)) hB _) hB _) (by simp;omega) _
  refine (World.cell?_alloc_lt _ _ _ (by simp;omega)).trans ?_
  obtain ⟨_,_,_,_,_,xtt,_⟩:=HX.out
  exact World.cell?_setCell_same _ _ _ ((World.cell?_setCell_other W ⟨tb,0,none⟩ ⟨tb,1,none⟩ (.int .i64 c) (by intro e;injection e with _ e;cases e)).trans xtt)
theorem methodKind (h : Value) (w : World) : (Go.method 357 204 (.agg #[h]) "Kind").run Tryz.prog w = .ok (172, h) w := by kernel_rfl
theorem methodElem (h : Value) (w : World) : (Go.method 357 204 (.agg #[h]) "Elem").run Tryz.prog w = .ok (184, .agg #[h]) w := by kernel_rfl
theorem methodImp (h : Value) (w : World) : (Go.method 357 204 (.agg #[h]) "Implements").run Tryz.prog w = .ok (185, .agg #[h]) w := by kernel_rfl
theorem valueOfPC (t:Addr) (w:World):(ReflectliteValue.unpack (.iface 126 (.pointer (some t)))).run Tryz.prog w
    = .ok (.agg #[.pointer (some ⟨3,126,none⟩),.pointer (some ⟨w.heap.size,0,none⟩),.int .u64 150]) (w.alloc (.cells #[.pointer (some t)] 126)):=by kernel_rfl
theorem typePC (a : Addr) (w : World) : (ReflectliteValue.methodAny (ReflectliteValue.valueError "reflectlite.Value.Type" 0) (fun t _ _ _ => ReflectliteType.toType t) #[.agg #[.pointer (some ⟨3, 126, none⟩), .pointer (some a), .int .u64 150]]).run Tryz.prog w
    = .ok (.iface 204 (.agg #[.pointer (some ⟨3,126,none⟩)])) w:=by kernel_rfl
theorem kindPC (w:World):((ReflectliteType.abiMethod fun t=>(fun a:Nat=>Value.int IntKind.u8 (a:Int)) <$> Rtype.kind t) #[.pointer (some ⟨3,126,none⟩)]).run Tryz.prog w=.ok (.int .u8 22) w:=by kernel_rfl
theorem kindC (w:World):((ReflectliteType.abiMethod fun t=>(fun a:Nat=>Value.int IntKind.u8 (a:Int)) <$> Rtype.kind t) #[.pointer (some ⟨3,72,none⟩)]).run Tryz.prog w=.ok (.int .u8 2) w:=by kernel_rfl
theorem isNilPC (a p:Addr) (W:World) (ha:W.cell? a=some (.pointer (some p))) :
    (ReflectliteValue.method (ReflectliteValue.valueError "reflectlite.Value.IsNil" 0) ReflectliteValue.isNil #[.agg #[.pointer (some ⟨3, 126, none⟩), .pointer (some a), .int .u64 150]]).run Tryz.prog W = .ok (.bool false) W := by
  rw [rlm]
  simp only [Sem.run_bind,partsPC,Result.andThen]
  simp [ReflectliteValue.isNil,loadVar,isAgg,underlying,Tryz.underlying126,ha,Result.andThen]
theorem elemTPC (w:World):(ReflectliteType.method ReflectliteType.elem #[.agg #[.pointer (some ⟨3,126,none⟩)]]).run Tryz.prog w=.ok (.iface 204 (.agg #[.pointer (some ⟨3,72,none⟩)])) w:=by kernel_rfl
theorem implC (w : World) : (ReflectliteType.relation "Implements" ReflectliteType.implements_ #[.agg #[.pointer (some ⟨3, 72, none⟩)], .iface 204 (.agg #[.pointer (some ⟨3, 38, none⟩)])]).run Tryz.prog w = .ok (.bool true) w := by kernel_rfl
theorem valueOfPF (t:Addr) (w:World):(ReflectliteValue.unpack (.iface 129 (.pointer (some t)))).run Tryz.prog w
    = .ok (.agg #[.pointer (some ⟨3,129,none⟩),.pointer (some ⟨w.heap.size,0,none⟩),.int .u64 150]) (w.alloc (.cells #[.pointer (some t)] 129)):=by kernel_rfl
theorem typePF (a : Addr) (w : World) : (ReflectliteValue.methodAny (ReflectliteValue.valueError "reflectlite.Value.Type" 0) (fun t _ _ _ => ReflectliteType.toType t) #[.agg #[.pointer (some ⟨3, 129, none⟩), .pointer (some a), .int .u64 150]]).run Tryz.prog w
    = .ok (.iface 204 (.agg #[.pointer (some ⟨3,129,none⟩)])) w:=by kernel_rfl
theorem kindPF (w:World):((ReflectliteType.abiMethod fun t=>(fun a:Nat=>Value.int IntKind.u8 (a:Int)) <$> Rtype.kind t) #[.pointer (some ⟨3,129,none⟩)]).run Tryz.prog w=.ok (.int .u8 22) w:=by kernel_rfl
theorem kindF (w:World):((ReflectliteType.abiMethod fun t=>(fun a:Nat=>Value.int IntKind.u8 (a:Int)) <$> Rtype.kind t) #[.pointer (some ⟨3,128,none⟩)]).run Tryz.prog w=.ok (.int .u8 25) w:=by kernel_rfl
theorem isNilPF (a p:Addr) (W:World) (ha:W.cell? a=some (.pointer (some p))) :
    (ReflectliteValue.method (ReflectliteValue.valueError "reflectlite.Value.IsNil" 0) ReflectliteValue.isNil #[.agg #[.pointer (some ⟨3, 129, none⟩), .pointer (some a), .int .u64 150]]).run Tryz.prog W = .ok (.bool false) W := by
  rw [rlm]
  simp only [Sem.run_bind,partsPF,Result.andThen]
  simp [ReflectliteValue.isNil,loadVar,isAgg,underlying,Tryz.underlying129,ha,Result.andThen]
theorem elemTPF (w:World):(ReflectliteType.method ReflectliteType.elem #[.agg #[.pointer (some ⟨3,129,none⟩)]]).run Tryz.prog w=.ok (.iface 204 (.agg #[.pointer (some ⟨3,128,none⟩)])) w:=by kernel_rfl
theorem implF (w : World) : (ReflectliteType.relation "Implements" ReflectliteType.implements_ #[.agg #[.pointer (some ⟨3, 128, none⟩)], .iface 204 (.agg #[.pointer (some ⟨3, 38, none⟩)])]).run Tryz.prog w = .ok (.bool true) w := by kernel_rfl
theorem As_C (B:Nat) (w:World) (c o:Int) (t:Addr) (old:Value) (ht:w.cell? t=some old) (hf:w.frozen? t=false) (hB:B≤t.block) (hg:w.cell? ⟨0,0,none⟩=some (.iface 204 (.agg #[.pointer (some ⟨3,38,none⟩)]))) :
    Calls Tryz.prog 62 #[faultV c o,.iface 126 (.pointer (some t))] w (GotC B w t c):=by
  have hVO:=@run_callFunc_extern Tryz.prog 105 _ (fun args=>ReflectliteValue.unpack (args.getD 0 (.tuple #[]))) Tryz.func105 (by kernel_rfl) (by kernel_rfl) (by kernel_rfl) (by kernel_rfl)
  have hTy := @run_callFunc_extern Tryz.prog 106 _ (ReflectliteValue.methodAny (ReflectliteValue.valueError "reflectlite.Value.Type" 0) (fun t _ _ _ => ReflectliteType.toType t)) Tryz.func106 (by kernel_rfl) (by kernel_rfl) (by kernel_rfl) (by kernel_rfl)
  have hNi := @run_callFunc_extern Tryz.prog 107 _ (ReflectliteValue.method (ReflectliteValue.valueError "reflectlite.Value.IsNil" 0) ReflectliteValue.isNil) Tryz.func107 (by kernel_rfl) (by kernel_rfl) (by kernel_rfl) (by kernel_rfl)
  have hKi:=@run_callFunc_extern Tryz.prog 172 _ (ReflectliteType.abiMethod fun t=>do pure (.int .u8 (←Rtype.kind t))) Tryz.func172 (by kernel_rfl) (by kernel_rfl) (by kernel_rfl) (by kernel_rfl)
  have hET:=@run_callFunc_extern Tryz.prog 184 _ (ReflectliteType.method ReflectliteType.elem) Tryz.func184 (by kernel_rfl) (by kernel_rfl) (by kernel_rfl) (by kernel_rfl)
  have hIm := @run_callFunc_extern Tryz.prog 185 _ (ReflectliteType.relation "Implements" ReflectliteType.implements_) Tryz.func185 (by kernel_rfl) (by kernel_rfl) (by kernel_rfl) (by kernel_rfl)
  have f1:=valueOfPC
  have f2:=typePC
  have f3:=methodKind
  have f4:=kindPC
  have f5:=kindC
  have f6:=elemTPC
  have f7:=implC
  have f8:=methodElem
  have f9:=methodImp
  obtain ⟨W1,hW1⟩:∃ W1,W1=w.alloc (.cells #[.pointer (some t)] 126):=⟨_,rfl⟩
  obtain ⟨W2,hW2⟩:∃ W2,W2=W1.alloc (.cells #[.pointer (some ⟨3,126,none⟩),.pointer (some ⟨w.heap.size,0,none⟩),.int .u64 150] 171):=⟨_,rfl⟩
  have hb1:Below w.heap.size w W1:=by rw [hW1];exact (Below.refl _ _).alloc (Nat.le_refl _) _
  have hs1:W1.heap.size=w.heap.size+1:=by rw [hW1];simp
  have hb2:Below W1.heap.size W1 W2:=by rw [hW2];exact (Below.refl _ _).alloc (Nat.le_refl _) _
  have hb:Below w.heap.size w W2:=hb1.trans (hb2.mono hb1.size)
  have ha1:W1.cell? ⟨w.heap.size,0,none⟩=some (.pointer (some t)):=by rw [hW1,World.cell?_alloc_at _ _ _ _ rfl];rfl
  have ha2:=(hb2.cell (cell_lt ha1)).trans ha1
  have hg2:=(hb.cell (cell_lt hg)).trans hg
  have n8:=isNilPC ⟨w.heap.size,0,none⟩ t W2 ha2
  have HT:=hid ((hb.cell (cell_lt ht)).trans ht)
  have HF:=hid ((hb.frozen (p:=t) (cell_lt ht)).trans hf)
  have hBw:B≤w.heap.size:=by have:=cell_lt ht;omega
  clear ht hf
  have HB:=hid hb
  have H2:=hid ha2
  have HW1:=hid hW1
  have HW2:=hid hW2
  have HG:=hid hg2
  clear hb hb1 hb2 ha1 ha2 hs1 hg hg2
  subst hW1
  subst hW2
  have hg2:=HG.out
  unfold faultV
  go_enter Tryz.func62,Tryz.ntmps62
  go_wp2_with (go_at_call 108;refine (asC B _ c o t ⟨w.heap.size,0,none⟩ old HT.out HF.out H2.out hB).mono ?_;rintro e w1 ⟨rfl,hq1,hq2⟩;have HQ1:=hid hq1;have HQ2:=hid hq2;clear hq1 hq2)
  go_ret
  exact ⟨rfl,(HB.out.mono hBw).trans HQ1.out,HQ2.out⟩
theorem As_F (B:Nat) (w:World) (c o:Int) (tb:Nat) (old0 old1:Value) (ht:w.cell? ⟨tb,0,none⟩=some old0) (htt:w.cell? ⟨tb,1,none⟩=some old1) (hf:w.frozen? ⟨tb,0,none⟩=false) (hff:w.frozen? ⟨tb,1,none⟩=false) (hB:B≤tb) (hg:w.cell? ⟨0,0,none⟩=some (.iface 204 (.agg #[.pointer (some ⟨3,38,none⟩)]))) :
    Calls Tryz.prog 62 #[faultV c o,.iface 129 (.pointer (some ⟨tb,0,none⟩))] w (GotF B w tb o):=by
  have hVO:=@run_callFunc_extern Tryz.prog 105 _ (fun args=>ReflectliteValue.unpack (args.getD 0 (.tuple #[]))) Tryz.func105 (by kernel_rfl) (by kernel_rfl) (by kernel_rfl) (by kernel_rfl)
  have hTy := @run_callFunc_extern Tryz.prog 106 _ (ReflectliteValue.methodAny (ReflectliteValue.valueError "reflectlite.Value.Type" 0) (fun t _ _ _ => ReflectliteType.toType t)) Tryz.func106 (by kernel_rfl) (by kernel_rfl) (by kernel_rfl) (by kernel_rfl)
  have hNi := @run_callFunc_extern Tryz.prog 107 _ (ReflectliteValue.method (ReflectliteValue.valueError "reflectlite.Value.IsNil" 0) ReflectliteValue.isNil) Tryz.func107 (by kernel_rfl) (by kernel_rfl) (by kernel_rfl) (by kernel_rfl)
  have hKi:=@run_callFunc_extern Tryz.prog 172 _ (ReflectliteType.abiMethod fun t=>do pure (.int .u8 (←Rtype.kind t))) Tryz.func172 (by kernel_rfl) (by kernel_rfl) (by kernel_rfl) (by kernel_rfl)
  have hET:=@run_callFunc_extern Tryz.prog 184 _ (ReflectliteType.method ReflectliteType.elem) Tryz.func184 (by kernel_rfl) (by kernel_rfl) (by kernel_rfl) (by kernel_rfl)
  have hIm := @run_callFunc_extern Tryz.prog 185 _ (ReflectliteType.relation "Implements" ReflectliteType.implements_) Tryz.func185 (by kernel_rfl) (by kernel_rfl) (by kernel_rfl) (by kernel_rfl)
  have f1:=valueOfPF
  have f2:=typePF
  have f3:=methodKind
  have f4:=kindPF
  have f5:=kindF
  have f6:=elemTPF
  have f7:=implF
  have f8:=methodElem
  have f9:=methodImp
  obtain ⟨W1,hW1⟩:∃ W1,W1=w.alloc (.cells #[.pointer (some ⟨tb,0,none⟩)] 129):=⟨_,rfl⟩
  obtain ⟨W2,hW2⟩:∃ W2,W2=W1.alloc (.cells #[.pointer (some ⟨3,129,none⟩),.pointer (some ⟨w.heap.size,0,none⟩),.int .u64 150] 171):=⟨_,rfl⟩
  have hb1:Below w.heap.size w W1:=by rw [hW1];exact (Below.refl _ _).alloc (Nat.le_refl _) _
  have hs1:W1.heap.size=w.heap.size+1:=by rw [hW1];simp
  have hb2:Below W1.heap.size W1 W2:=by rw [hW2];exact (Below.refl _ _).alloc (Nat.le_refl _) _
  have hb:Below w.heap.size w W2:=hb1.trans (hb2.mono hb1.size)
  have ha1:W1.cell? ⟨w.heap.size,0,none⟩=some (.pointer (some ⟨tb,0,none⟩)):=by rw [hW1,World.cell?_alloc_at _ _ _ _ rfl];rfl
  have ha2:=(hb2.cell (cell_lt ha1)).trans ha1
  have hg2:=(hb.cell (cell_lt hg)).trans hg
  have n8:=isNilPF ⟨w.heap.size,0,none⟩ ⟨tb,0,none⟩ W2 ha2
  have HT:=hid ((hb.cell (cell_lt ht)).trans ht)
  have HTT:=hid ((hb.cell (cell_lt htt)).trans htt)
  have HF:=hid ((hb.frozen (p:=⟨tb,0,none⟩) (cell_lt ht)).trans hf)
  have HFF:=hid ((hb.frozen (p:=⟨tb,1,none⟩) (cell_lt htt)).trans hff)
  have hBw:B≤w.heap.size:=by have:tb<w.heap.size:=cell_lt ht;omega
  clear ht hf htt hff
  have HB:=hid hb
  have H2:=hid ha2
  have HW1:=hid hW1
  have HW2:=hid hW2
  have HG:=hid hg2
  clear hb hb1 hb2 ha1 ha2 hs1 hg hg2
  subst hW1
  subst hW2
  have hg2:=HG.out
  unfold faultV
  go_enter Tryz.func62,Tryz.ntmps62
  go_wp2_with (go_at_call 108;refine (asF B _ c o tb ⟨w.heap.size,0,none⟩ old0 old1 HT.out HTT.out HF.out HFF.out H2.out hB).mono ?_;rintro e w1 ⟨rfl,hq1,hq2⟩;have HQ1:=hid hq1;have HQ2:=hid hq2;clear hq1 hq2)
  go_ret
  exact ⟨rfl,(HB.out.mono hBw).trans HQ1.out,HQ2.out⟩
open Go.RowKit
theorem idleC (w:World):CallsD Tryz.prog 61 #[] .returning w fun e u' w'=>e=.returned (.tuple #[])∧u'=.returning∧w'=w:=by
  refine callsD_of_wpS Tryz.func61 rfl fun c₀ cs hu=>?_
  apply wpS_region
  simp [wpOpsS,go_sem,recoverD,hu,Tryz.ntmps61,bodyPostS,results,Tryz.results61]
  cases c₀
  simp_all
theorem idleA (w:World):CallsD Tryz.prog 63 #[] .returning w fun e u' w'=>e=.returned (.tuple #[])∧u'=.returning∧w'=w:=by
  refine callsD_of_wpS Tryz.func63 rfl fun c₀ cs hu=>?_
  apply wpS_region
  simp [wpOpsS,go_sem,recoverD,hu,Tryz.ntmps63,bodyPostS,results,Tryz.results63]
  cases c₀
  simp_all
theorem code_fault (c o:Int) (w:World) (hE:ErrVar w) :
    Calls Tryz.prog 25 #[faultV c o] w fun e w'=>e=.returned (.tuple #[.int .i64 c,.bool true])∧Below w.heap.size w w':=by
  obtain ⟨W,hW⟩:∃ W,W=w.alloc (.cells #[.int .i64 0] 72):=⟨_,rfl⟩
  have hb:Below w.heap.size w W:=by rw [hW];exact (Below.refl _ _).alloc (Nat.le_refl _) _
  have hz:W.cell? ⟨w.heap.size,0,none⟩=some (.int .i64 0):=by rw [hW,World.cell?_alloc_at _ _ _ _ rfl];rfl
  have hf:W.frozen? ⟨w.heap.size,0,none⟩=false:=by rw [hW];simp
  have hg:=hE.later hb
  have HC:=hid (As_C w.heap.size W c o ⟨w.heap.size,0,none⟩ _ hz hf (Nat.le_refl _) hg)
  have HB:=hid hb
  clear hz hf hg hb hE
  subst hW
  go_enter_defers Tryz.func25,Tryz.ntmps25
  go_wp2_with (go_at_call 62;refine HC.out.mono ?_;rintro e w1 ⟨rfl,hq1,hq2⟩;have HQ1:=hid hq1;clear hq1)
  refine leaves_cons (f:=61) (args:=#[]) (by simp) (by simp [go_sem]) ?_
  refine (idleC _).mono ?_
  rintro e u' w'' ⟨rfl,rfl,rfl⟩
  refine ⟨_,by simp [results,Tryz.results25],rfl,?_⟩
  exact HB.out.trans HQ1.out
theorem at_fault (c o:Int) (w:World) (hE:ErrVar w) :
    Calls Tryz.prog 26 #[faultV c o] w fun e w'=>e=.returned (.tuple #[.int .i64 o,.bool true])∧Below w.heap.size w w':=by
  obtain ⟨W,hW⟩:∃ W,W=w.alloc (.cells #[.int .i64 0,.int .i64 0] 128):=⟨_,rfl⟩
  have hb:Below w.heap.size w W:=by rw [hW];exact (Below.refl _ _).alloc (Nat.le_refl _) _
  have hz0:W.cell? ⟨w.heap.size,0,none⟩=some (.int .i64 0):=by rw [hW,World.cell?_alloc_at _ _ _ _ rfl];rfl
  have hz1:W.cell? ⟨w.heap.size,1,none⟩=some (.int .i64 0):=by rw [hW,World.cell?_alloc_at _ _ _ _ rfl];rfl
  have hf0:W.frozen? ⟨w.heap.size,0,none⟩=false:=by rw [hW];simp
  have hf1:W.frozen? ⟨w.heap.size,1,none⟩=false:=by rw [hW];simp
  have hg:=hE.later hb
  have HC:=hid (As_F w.heap.size W c o w.heap.size _ _ hz0 hz1 hf0 hf1 (Nat.le_refl _) hg)
  have HB:=hid hb
  clear hz0 hz1 hf0 hf1 hg hb hE
  subst hW
  go_enter_defers Tryz.func26,Tryz.ntmps26
  go_wp2_with (go_at_call 62;refine HC.out.mono ?_;rintro e w1 ⟨rfl,hq1,hq2⟩;have HQ1:=hid hq1;clear hq1)
  refine leaves_cons (f:=63) (args:=#[]) (by simp) (by simp [go_sem]) ?_
  refine (idleA _).mono ?_
  rintro e u' w'' ⟨rfl,rfl,rfl⟩
  refine ⟨_,by simp [results,Tryz.results26],rfl,?_⟩
  exact HB.out.trans HQ1.out
