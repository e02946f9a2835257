/- The walks of parse's mustAll, structure, specification, and of choose with its maps of rules: they read what the plain words say. The condition: the cursor stands in tokens of a text. -/
import Derived.Test.YtkdlidakdknhjaaGreatDoorQDPaC
import Derived.Maps.RangeRun
set_option maxRecDepth 100000
set_option maxHeartbeats 8000000
open Go.Lib (hid)
namespace Go.Proofs.YtkdlidakdknhjaaGreatDoor.Rd
open Go.RowKit
open Go.ChangeMaps (setBlock)
theorem setBlock_alloc (w:World) (o o':Obj):setBlock (w.alloc o) w.heap.size o'=w.alloc o':=by
  have hp:∀ (h:Array Obj) (x y:Obj),(h.push x).setIfInBounds h.size y=h.push y:=by
    intro h x y
    apply Array.toList_inj.1
    simp
  show ({ w.alloc o with heap:=(w.heap.push o).setIfInBounds w.heap.size o' }:World)=_
  rw [hp]
  rfl
theorem run_check (n:Nat) (k:ByteArray) (w:World):(Instr.checkKey false (n+1) 9 (.string k)).run Tryz.prog w=.ok () w:=by
  rw [Instr.checkKey]
  simp [Sem.run_bind,run_underlying Tryz.underlying9,Result.andThen]
theorem run_check2 (k:ByteArray) (w:World):(Instr.checkKey false 10000 9 (.string k)).run Tryz.prog w=.ok () w:=run_check 9999 k w
theorem run_ins0 (w:World) (k:ByteArray) (v:Value):(Instr.mapUpdate 106 (.map (some w.heap.size)) (.string k) v).run Tryz.prog (w.alloc (.map #[] 0))=.ok () (w.alloc (.map #[⟨.string k,v,0⟩] 1)):=by
  have hs:=setBlock_alloc w (.map #[] 0) (.map #[⟨.string k,v,0⟩] 1)
  have hh:=heap_alloc_new w (.map #[] 0)
  have hu:=run_underlying Tryz.underlying106 (w.alloc (.map #[] 0))
  have hv:=run_underlying Tryz.underlying9 (w.alloc (.map #[] 0))
  have hc:=run_check2 k (w.alloc (.map #[] 0))
  generalize w.alloc (.map #[] 0)=W at *
  unfold setBlock at hs
  unfold Instr.mapUpdate
  simp only [Sem.run_bind,Sem.run_pure,hu,getObj,Sem.run,hh,Result.andThen,hc,Instr.findKey,hv,Instr.findNow,setObj]
  exact congrArg (Result.ok ()) hs
theorem run_ins1 (w:World) (k k':ByteArray) (v v':Value) (hk:(k'==k)=false):(Instr.mapUpdate 106 (.map (some w.heap.size)) (.string k') v').run Tryz.prog (w.alloc (.map #[⟨.string k,v,0⟩] 1))=.ok () (w.alloc (.map #[⟨.string k,v,0⟩,⟨.string k',v',1⟩] 2)):=by
  have hs:=setBlock_alloc w (.map #[⟨.string k,v,0⟩] 1) (.map #[⟨.string k,v,0⟩,⟨.string k',v',1⟩] 2)
  have hh:=heap_alloc_new w (.map #[⟨.string k,v,0⟩] 1)
  have hu:=run_underlying Tryz.underlying106 (w.alloc (.map #[⟨.string k,v,0⟩] 1))
  have hv:=run_underlying Tryz.underlying9 (w.alloc (.map #[⟨.string k,v,0⟩] 1))
  have hc:=run_check2 k' (w.alloc (.map #[⟨.string k,v,0⟩] 1))
  generalize w.alloc (.map #[⟨.string k,v,0⟩] 1)=W at *
  unfold setBlock at hs
  unfold Instr.mapUpdate
  simp only [Sem.run_bind,Sem.run_pure,hu,getObj,Sem.run,hh,Result.andThen,hc,Instr.findKey,hv,Instr.findNow,Instr.sameNow,hk,setObj]
  exact congrArg (Result.ok ()) hs
def two (s1 s2:ByteArray) (f1 f2:Value):Array MapEntry:=#[⟨.string s1,f1,0⟩,⟨.string s2,f2,1⟩]
structure Rules (w:World) (bm c:Nat) (s1 s2:ByteArray) (f1 f2:Value):Prop where
  at_:w.heap[bm]?=some (.map (two s1 s2 f1 f2) 2)
  ne:bm≠c
theorem Rules.lt {w:World} {bm c:Nat} {s1 s2:ByteArray} {f1 f2:Value} (h:Rules w bm c s1 s2 f1 f2):bm<w.heap.size:=(Array.getElem?_eq_some_iff.1 h.at_).1
theorem Rules.gb {w w':World} {bm c:Nat} {s1 s2:ByteArray} {f1 f2:Value} (h:Rules w bm c s1 s2 f1 f2) (hg:w.grownBy w' (some c)):Rules w' bm c s1 s2 f1 f2:=⟨(hg.block bm h.lt (by simpa using h.ne)).trans h.at_,h.ne⟩
theorem Rules.later {w w':World} {bm c:Nat} {s1 s2:ByteArray} {f1 f2:Value} (h:Rules w bm c s1 s2 f1 f2) (hb:Below w.heap.size w w'):Rules w' bm c s1 s2 f1 f2:=⟨(hb.block bm h.lt).trans h.at_,h.ne⟩
theorem below_iter {w w1:World} {r:Nat} {o:Obj} (h:w1=w∨w1=w.drew):Below r w (setBlock w1 r o):=by
  have hb:∀ v:World,v.heap=w.heap→v.os=w.os→v.tape=w.tape→v.output=w.output→Below r w (setBlock v r o):=fun v e1 e2 e3 e4=>by
    refine ⟨e2,e3,e4,by show _≤(v.heap.setIfInBounds r o).size;rw [Array.size_setIfInBounds,e1];exact Nat.le_refl _,fun i hi=>?_⟩
    show (v.heap.setIfInBounds r o)[i]?=_
    rw [Array.getElem?_setIfInBounds_ne (by omega),e1]
  rcases h with rfl | rfl
  · exact hb _ rfl rfl rfl rfl
  exact hb _ rfl rfl rfl rfl
theorem gb_iter {W w w1:World} {r c:Nat} {o:Obj} (hg:W.grownBy w (some c)) (hr:W.heap.size≤r) (h:w1=w∨w1=w.drew):W.grownBy (setBlock w1 r o) (some c):=by
  have hb:=below_iter (r:=r) (o:=o) h
  exact ⟨hb.os.trans hg.os,hb.tape.trans hg.tape,hb.output.trans hg.output,Nat.le_trans hg.size hb.size,fun i hi hne=>(hb.block i (by omega)).trans (hg.block i hi hne)⟩
theorem iter_at {w w1:World} {r:Nat} {o:Obj} (h:w1=w∨w1=w.drew) (hr:r<w.heap.size):(setBlock w1 r o).heap[r]?=some o:=by
  show (w1.heap.setIfInBounds r o)[r]?=some o
  have e:w1.heap=w.heap:=by rcases h with rfl | rfl<;>rfl
  rw [e,Array.getElem?_setIfInBounds_self_of_lt hr]
theorem there_up {w w':World} {b o n B:Nat} (h:w.there b o n) (hl:b<B) (hb:Below B w w'):w'.there b o n:=fun j hj=>by
  obtain ⟨h1,h2⟩:=h j hj
  exact ⟨by rw [hb.cell (p:=⟨b,o+j,none⟩) hl];exact h1,(hb.frozen (p:=⟨b,o+j,none⟩) hl).trans h2⟩
theorem Ps.up {w w':World} {p c B:Nat} (h:Ps w p c) (hl:p<B) (hb:Below B w w'):Ps w' p c:=⟨(hb.cell (p:=⟨p,0,none⟩) hl).trans h.at_,h.ne⟩
theorem flatDc:Flat 36 23:=⟨by kernel_rfl,_,Tryz.underlying36,rfl⟩
theorem exNone_dat (w:World) (N:Prop) (S:Nat→Prop):Ex.none?.dat.In w N S [.int .i64 0,.string ⟨#[]⟩,.string ⟨#[]⟩,.slice none 0 0,.int .i64 0,.slice none 0 0,.slice none 0 0,.int .i64 0] :=
  ex_shut (e:=Ex.none?) (by show (0:Nat)≤_;omega) (by show (0:Nat)≤_;omega) (lies_row.2 (Row.nil _ _ _ _ _)) (lies_row.2 (Row.nil _ _ _ _ _)) (Row.nil _ _ _ _ _) (Nat.le_refl _)
theorem sgNone_dat (w:World) (N:Prop) (S:Nat→Prop):Sg.none?.dat.In w N S [.string ⟨#[]⟩,.slice none 0 0,.slice none 0 0,.string ⟨#[]⟩,.slice none 0 0,.int .i64 0,.int .i64 0] :=
  sgMkR (s:=⟨#[]⟩) (fs:=[]) (ps:=[]) (r:=.mk ⟨#[]⟩ [] 0) (o:=0) (by show (0:Nat)≤_;omega) (Row.nil _ _ _ _ _) (Row.nil _ _ _ _ _) (ty_shut (t:=.mk ⟨#[]⟩ [] 0) (by show (0:Nat)≤_;omega) (lies_row.2 (Row.nil _ _ _ _ _)))
theorem arr_of {w:World} {N:Prop} {S:Nat→Prop} {z n c:Nat} {A:Option Addr} {ds:List Dat} (h:Row w N S z A n ds):(Dat.arr false z ds).In w N S [.slice A n c]:=by
  obtain rfl:=h.len
  rw [Dat.In]
  exact ⟨A,c,rfl,h.le,(fun h=>by cases h),h.elems⟩
theorem dcMkR {w:World} {N:Prop} {S:Nat→Prop} {d:Dc} {u1 u2 u3 u4 u5 u6:List Value} (h1:d.name.size≤9223372036854775807) (h2:(Dat.arr false 5 (d.fs.map Fo.dat)).In w N S u1) (h3:(Dat.arr false 5 (d.ms.map Fo.dat)).In w N S u2) (h4:(Dat.arr false 7 (d.gs.map Sg.dat)).In w N S u3)
    (h5:d.recv.size≤9223372036854775807) (h6:(Dat.arr false 1 (d.vs.map Dat.str)).In w N S u4) (h7:d.sig.dat.In w N S u5) (h8:d.body.dat.In w N S u6) :
    d.dat.In w N S (.int .i64 d.kind :: .string d.name :: (u1++(u2++(u3++(.string d.recv :: (u4++(u5++(u6++[.int .i64 d.off])))))))):=by
  rw [Dc.dat,Dat.In,Dat.Ins]
  refine ⟨[_],_,rfl,by rw [Dat.In],?_⟩
  rw [Dat.Ins]
  refine ⟨[_],_,rfl,by rw [Dat.In];exact ⟨rfl,h1⟩,?_⟩
  rw [Dat.Ins]
  refine ⟨u1,_,rfl,h2,?_⟩
  rw [Dat.Ins]
  refine ⟨u2,_,rfl,h3,?_⟩
  rw [Dat.Ins]
  refine ⟨u3,_,rfl,h4,?_⟩
  rw [Dat.Ins]
  refine ⟨[_],_,rfl,by rw [Dat.In];exact ⟨rfl,h5⟩,?_⟩
  rw [Dat.Ins]
  refine ⟨u4,_,rfl,h6,?_⟩
  rw [Dat.Ins]
  refine ⟨u5,_,rfl,h7,?_⟩
  rw [Dat.Ins]
  refine ⟨u6,_,rfl,h8,?_⟩
  rw [Dat.Ins]
  exact ⟨[_],[],rfl,by rw [Dat.In],by rw [Dat.Ins]⟩
theorem dcNone_dat (w:World) (N:Prop) (S:Nat→Prop):Dc.none?.dat.In w N S [.int .i64 0,.string ⟨#[]⟩,.slice none 0 0,.slice none 0 0,.slice none 0 0,.string ⟨#[]⟩,.slice none 0 0,.string ⟨#[]⟩,.slice none 0 0,.slice none 0 0,.string ⟨#[]⟩,.slice none 0 0,.int .i64 0,.int .i64 0,.int .i64 0,.string ⟨#[]⟩,.string ⟨#[]⟩,.slice none 0 0,.int .i64 0,.slice none 0 0,.slice none 0 0,.int .i64 0,.int .i64 0] :=
  dcMkR (d:=Dc.none?) (u1:=[.slice none 0 0]) (u2:=[.slice none 0 0]) (u3:=[.slice none 0 0]) (u4:=[.slice none 0 0]) (by show (0:Nat)≤_;omega) (arr_of (Row.nil _ _ _ _ _)) (arr_of (Row.nil _ _ _ _ _)) (arr_of (Row.nil _ _ _ _ _)) (by show (0:Nat)≤_;omega) (arr_of (Row.nil _ _ _ _ _)) (sgNone_dat w N S) (exNone_dat w N S)
theorem dc_opens {w:World} {N:Prop} {S:Nat→Prop} {d:Dc} {us:List Value} (h:d.dat.In w N S us):∃ F nf cf M nm cm G ng cg V nv cv F2 nf2 cf2 P2 np2 cp2 A2 m2 a2 A3 m3 a3 B3 l3 b3 C3 n3 c3,
    us=[.int .i64 d.kind,.string d.name,.slice F nf cf,.slice M nm cm,.slice G ng cg,.string d.recv,.slice V nv cv,.string d.sig.name,.slice F2 nf2 cf2,.slice P2 np2 cp2,.string d.sig.res.name,.slice A2 m2 a2,.int .i64 d.sig.res.off,.int .i64 d.sig.off,.int .i64 d.body.kind,.string d.body.name,.string d.body.ty.name,.slice A3 m3 a3,.int .i64 d.body.ty.off,.slice B3 l3 b3,.slice C3 n3 c3,.int .i64 d.body.off,.int .i64 d.off]
    ∧ ∀ (w':World) (S':Nat→Prop) (s:ByteArray) (o:Int) (fs:List Fo) (F':Option Addr) (cf':Nat),Kept w w' S→(∀ k,S k→S' k)→s.size≤9223372036854775807→Row w' N S' 5 F' fs.length (fs.map Fo.dat)→({ d with name:=s,off:=o,fs:=fs }:Dc).dat.In w' N S' [.int .i64 d.kind,.string s,(.slice F' fs.length cf'),.slice M nm cm,.slice G ng cg,.string d.recv,.slice V nv cv,.string d.sig.name,.slice F2 nf2 cf2,.slice P2 np2 cp2,.string d.sig.res.name,.slice A2 m2 a2,.int .i64 d.sig.res.off,.int .i64 d.sig.off,.int .i64 d.body.kind,.string d.body.name,.string d.body.ty.name,.slice A3 m3 a3,.int .i64 d.body.ty.off,.slice B3 l3 b3,.slice C3 n3 c3,.int .i64 d.body.off,.int .i64 o]:=by
  rw [Dc.dat] at h
  simp only [Dat.In,Dat.Ins] at h
  obtain ⟨u1,u2,e1,rfl,u3,u4,rfl,⟨rfl,h1⟩,u5,u6,rfl,⟨F,cf,rfl,_,_,_⟩,u7,u8,rfl,⟨M,cm,rfl,hm,hm2,hm3⟩,u9,u10,rfl,⟨G,cg,rfl,hg,hg2,hg3⟩,u11,u12,rfl,⟨rfl,h2⟩,u13,u14,rfl,⟨V,cv,rfl,hv,hv2,hv3⟩,u15,u16,rfl,h3,u17,u18,rfl,h4,u19,u20,rfl,rfl,rfl⟩:=h
  obtain ⟨F2,nf2,cf2,P2,np2,cp2,A2,m2,a2,rfl⟩:=sg_opens h3
  obtain ⟨A3,m3,a3,B3,l3,b3,C3,n3,c3,rfl,_⟩:=ex_open h4
  refine ⟨F,_,cf,M,_,cm,G,_,cg,V,_,cv,F2,nf2,cf2,P2,np2,cp2,A2,m2,a2,A3,m3,a3,B3,l3,b3,C3,n3,c3,by rw [e1];rfl,fun w' S' s o fs F' cf' hK hS hs hr=>?_⟩
  have k1:(Dat.arr false 5 (d.ms.map Fo.dat)).In w' N S' _:=Dat.In.keep id hK hS _ _ (show (Dat.arr false 5 (d.ms.map Fo.dat)).In w N S _ by rw [Dat.In];exact ⟨M,cm,rfl,hm,hm2,hm3⟩)
  have k2:(Dat.arr false 7 (d.gs.map Sg.dat)).In w' N S' _:=Dat.In.keep id hK hS _ _ (show (Dat.arr false 7 (d.gs.map Sg.dat)).In w N S _ by rw [Dat.In];exact ⟨G,cg,rfl,hg,hg2,hg3⟩)
  have k3:(Dat.arr false 1 (d.vs.map Dat.str)).In w' N S' _:=Dat.In.keep id hK hS _ _ (show (Dat.arr false 1 (d.vs.map Dat.str)).In w N S _ by rw [Dat.In];exact ⟨V,cv,rfl,hv,hv2,hv3⟩)
  exact dcMkR (d:={ d with name:=s,off:=o,fs:=fs }) (u1:=[.slice F' fs.length cf']) (u2:=[_]) (u3:=[_]) (u4:=[_]) hs (arr_of hr) k1 k2 h2 k3 (Dat.In.keep id hK hS _ _ h3) (Dat.In.keep id hK hS _ _ h4)
theorem dc_one {w:World} {N:Prop} {S:Nat→Prop} {d:Dc} {us:List Value} (h:d.dat.In w N S us):(∀ u∈us,u.oneCell'=true)∧us.length=23:=by
  obtain ⟨F,nf,cf,M,nm,cm,G,ng,cg,V,nv,cv,F2,nf2,cf2,P2,np2,cp2,A2,m2,a2,A3,m3,a3,B3,l3,b3,C3,n3,c3,rfl,-⟩:=dc_opens h
  refine ⟨fun u hu=>?_,rfl⟩
  simp only [List.mem_cons,List.not_mem_nil,or_false] at hu
  rcases hu with rfl | rfl | rfl | rfl | rfl | rfl | rfl | rfl | rfl | rfl | rfl | rfl | rfl | rfl | rfl | rfl | rfl | rfl | rfl | rfl | rfl | rfl | rfl<;>rfl
structure Sts (w:World) (g c:Nat) (ss:List ByteArray):Prop where
  at_:∀ k s,ss[k]?=some s→w.cell? ⟨g,k,none⟩=some (.string s)
  ne:g≠c
theorem Sts.gb {w w':World} {g c:Nat} {ss:List ByteArray} (h:Sts w g c ss) (hg:w.grownBy w' (some c)):Sts w' g c ss:=⟨fun k s hk=>gb_cell hg (h.at_ k s hk) h.ne,h.ne⟩
theorem mustAll_any (p c g n cap:Nat) (ss:List ByteArray) (l:List Tk) (b:Bool) (w:World) (h:Cur w c l b) (hp:Ps w p c) (hs:Sts w g c ss) (hn:ss.length=n) (hz:n≤100) :
    Calls Tryz.prog 83 #[.pointer (some ⟨p,0,none⟩),.slice (some ⟨g,0,none⟩) n cap] w fun e w'=>e=.returned (.tuple #[])∧Aft w' c () (stop b l (allF (ss.map fun s=>s.data.toList) l))∧w.grownBy w' (some c):=by
  have H:=hid h
  have HP:=hid hp
  have HS:=hid hs
  have HN:=hid hn
  have zn:(n:Int)≤100:=by omega
  clear h hp hs hn
  go_enter Tryz.func83,Tryz.ntmps83
  go_wp2_with fail
  go_loopw [8] (fun i wr=>∃ (k:Nat) (q:List Tk) (d:Bool),k≤n∧i=.int .i64 k∧Cur wr c q d∧w.grownBy wr (some c)∧stop b l (allF (ss.map fun s=>s.data.toList) l)=stop d q (allF ((ss.drop k).map fun s=>s.data.toList) q)) (fun i _=>n-(intOf i).toNat)
  case atStart=>exact ⟨0,l,b,by omega,rfl,H.out,gb_refl _ _,rfl⟩
  obtain ⟨k,q,d,hk,rfl,hc,hg,he⟩:=hrel
  have HC:=hid hc
  have HG:=hid hg
  have HE:=hid he
  have y1:(0:Int)≤k:=by omega
  by_cases hlt:k<n
  · have y0:(k:Int)<n:=by omega
    obtain ⟨s,hks⟩:∃ s,ss[k]?=some s:=⟨_,List.getElem?_eq_getElem (by rw [HN.out];exact hlt)⟩
    have HKS:=hid hks
    have x0:=(HP.out.gb hg).at_
    have x1:wr.cell? ⟨g,k,none⟩=some (.string s):=(HS.out.gb hg).at_ k s hks
    have x2:wr.cell? (Addr.add ⟨g,0,none⟩ k)=some (.string s):=by
      by_cases hk0:k=0
      · subst hk0;simpa [Addr.add] using x1
      simpa [Addr.add,hk0] using x1
    have C:=hid (must_any c q d s wr hc)
    clear hc hg he hks
    go_wp2_with fail
    refine C.out.mono ?_
    rintro e w2 ⟨rfl,ha,hg⟩
    have HA:=hid ha
    have HG2:=hid (gb_trans HG.out hg)
    clear ha hg x0 x1 x2 C
    go_wp2_with fail
    go_roundw
    case rel =>
      obtain ⟨q2,d2,e1,-,-,e4⟩:=aft_next2 (must_less s.data.toList q) HA.out (fun _ q=>allF ((ss.drop (k+1)).map fun s=>s.data.toList) q)
      refine ⟨k+1,q2,d2,by omega,by go_num,e1,HG2.out,?_⟩
      rw [HE.out,List.drop_eq_getElem_cons (by rw [HN.out];exact hlt),(List.getElem?_eq_some_iff.1 HKS.out).2,List.map_cons,allF,e4,stop_if]
    case measure=>simp [intOf];omega
  have y0:(n:Int)≤k:=by omega
  obtain rfl:k=n:=by omega
  clear hc hg he
  go_wp2_with fail
  go_end0
  refine ⟨rfl,?_,HG.out⟩
  rw [HE.out,List.drop_of_length_le (by rw [HN.out];exact Nat.le_refl _)]
  have:=HC.out
  cases d
  · exact ⟨rfl,this⟩
  exact this
theorem results_structure {w:World} {b:Nat} {us:List Value} (tmps:Array Value) (ht:tmps[2]?.getD undef=.pointer (some ⟨b,0,none⟩)) (hc:Boxd w b us) (hl:us.length=23):(results Tryz.f95 tmps).run Tryz.prog w=.ok (.agg us.toArray) w:=by
  have h:=run_cell flatDc hc hl
  have h2:=run_addr ⟨b,0,none⟩ w
  simp [results,Tryz.results95,ht,h,h2,Sem.run_bind,Result.andThen]
theorem structure_any (p c:Nat) (l:List Tk) (b:Bool) (w:World) (h:Cur w c l b) (hp:Ps w p c):Calls Tryz.prog 95 #[.pointer (some ⟨p,0,none⟩)] w (ItRet Dc.dat c l b w (structF l)):=by
  have hlt:=h.lt
  obtain ⟨W0,hW0⟩:∃ W,w.alloc (.cells #[.int .i64 0,.string ⟨#[]⟩,.slice none 0 0,.slice none 0 0,.slice none 0 0,.string ⟨#[]⟩,.slice none 0 0,.string ⟨#[]⟩,.slice none 0 0,.slice none 0 0,.string ⟨#[]⟩,.slice none 0 0,.int .i64 0,.int .i64 0,.int .i64 0,.string ⟨#[]⟩,.string ⟨#[]⟩,.slice none 0 0,.int .i64 0,.slice none 0 0,.slice none 0 0,.int .i64 0,.int .i64 0] 36)=W:=⟨_,rfl⟩
  have hb0:Below w.heap.size w W0:=hW0▸(Below.refl _ _).alloc (Nat.le_refl _) _
  have hs0:W0.heap.size=w.heap.size+1:=by rw [←hW0];simp
  have HW0:=hid hW0
  have HB0:=hid hb0
  have HT0:=hid (show W0.there w.heap.size 0 23 from hW0▸there_new w #[.int .i64 0,.string ⟨#[]⟩,.slice none 0 0,.slice none 0 0,.slice none 0 0,.string ⟨#[]⟩,.slice none 0 0,.string ⟨#[]⟩,.slice none 0 0,.slice none 0 0,.string ⟨#[]⟩,.slice none 0 0,.int .i64 0,.int .i64 0,.int .i64 0,.string ⟨#[]⟩,.string ⟨#[]⟩,.slice none 0 0,.int .i64 0,.slice none 0 0,.slice none 0 0,.int .i64 0,.int .i64 0] 36)
  have C:=hid (blockPa_any p c l b W0 (h.later hb0) (hp.later hb0))
  clear h hp hW0 hb0
  go_enter Tryz.func95,Tryz.ntmps95
  go_upto_region 1 with fail
  rw [HW0.out]
  go_wp2_with fail
  refine C.out.mono ?_
  rintro e w1 ⟨ts,A,cap,rfl,hr,ha,hg⟩
  have HR:=hid hr
  have HA:=hid ha
  have HG:=hid (gb_trans (gb_of (some c) HB0.out) hg)
  have HT:=hid (there_gb HT0.out (by omega) (by omega) hg)
  have hin:(dcStruct ts).dat.In w1 False (Fr W0.heap.size w1) [.int .i64 1,.string ⟨#[]⟩,.slice none 0 0,.slice A ts.length cap,.slice none 0 0,.string ⟨#[]⟩,.slice none 0 0,.string ⟨#[]⟩,.slice none 0 0,.slice none 0 0,.string ⟨#[]⟩,.slice none 0 0,.int .i64 0,.int .i64 0,.int .i64 0,.string ⟨#[]⟩,.string ⟨#[]⟩,.slice none 0 0,.int .i64 0,.slice none 0 0,.slice none 0 0,.int .i64 0,.int .i64 0] :=
    dcMkR (d:=dcStruct ts) (u1:=[.slice none 0 0]) (u2:=[.slice A ts.length cap]) (u3:=[.slice none 0 0]) (u4:=[.slice none 0 0]) (by show (0:Nat)≤_;omega) (arr_of (Row.nil _ _ _ _ _)) (arr_of HR.out) (arr_of (Row.nil _ _ _ _ _)) (by show (0:Nat)≤_;omega) (arr_of (Row.nil _ _ _ _ _)) (sgNone_dat _ _ _) (exNone_dat _ _ _)
  have HIN:=hid hin
  clear hr ha hg C hin
  go_wp2_with (refine storeOp flatDc 2 7 (b:=w.heap.size) (o:=0) (us:=[.int .i64 1,.string ⟨#[]⟩,.slice none 0 0,.slice A ts.length cap,.slice none 0 0,.string ⟨#[]⟩,.slice none 0 0,.string ⟨#[]⟩,.slice none 0 0,.slice none 0 0,.string ⟨#[]⟩,.slice none 0 0,.int .i64 0,.int .i64 0,.int .i64 0,.string ⟨#[]⟩,.string ⟨#[]⟩,.slice none 0 0,.int .i64 0,.slice none 0 0,.slice none 0 0,.int .i64 0,.int .i64 0]) rfl rfl HT.out (dc_one HIN.out).1 rfl ?_)
  refine bodyPost_ret (results_structure _ rfl (set_there (us:=[.int .i64 1,.string ⟨#[]⟩,.slice none 0 0,.slice A ts.length cap,.slice none 0 0,.string ⟨#[]⟩,.slice none 0 0,.string ⟨#[]⟩,.slice none 0 0,.slice none 0 0,.string ⟨#[]⟩,.slice none 0 0,.int .i64 0,.int .i64 0,.int .i64 0,.string ⟨#[]⟩,.string ⟨#[]⟩,.slice none 0 0,.int .i64 0,.slice none 0 0,.slice none 0 0,.int .i64 0,.int .i64 0]) HT.out) rfl) rfl ?_
  refine ⟨dcStruct ts,_,rfl,(in_gb (gb_sets1 _ _ _ _) (by omega) HIN.out).wide fun i hi=>⟨by have:=hi.1;omega,hi.2⟩,?_,gb_sets (some c) HG.out (Nat.le_refl _) _ _⟩
  rw [structF,stop_bind]
  exact (aft_ret HA.out dcStruct rfl).set hlt _ _
theorem results_specification {w:World} {b:Nat} {us:List Value} (tmps:Array Value) (ht:tmps[2]?.getD undef=.pointer (some ⟨b,0,none⟩)) (hc:Boxd w b us) (hl:us.length=23):(results Tryz.f96 tmps).run Tryz.prog w=.ok (.agg us.toArray) w:=by
  have h:=run_cell flatDc hc hl
  have h2:=run_addr ⟨b,0,none⟩ w
  simp [results,Tryz.results96,ht,h,h2,Sem.run_bind,Result.andThen]
theorem specification_any (p c:Nat) (l:List Tk) (b:Bool) (w:World) (h:Cur w c l b) (hp:Ps w p c):Calls Tryz.prog 96 #[.pointer (some ⟨p,0,none⟩)] w (ItRet Dc.dat c l b w (interF l)):=by
  have hlt:=h.lt
  obtain ⟨W0,hW0⟩:∃ W,w.alloc (.cells #[.int .i64 0,.string ⟨#[]⟩,.slice none 0 0,.slice none 0 0,.slice none 0 0,.string ⟨#[]⟩,.slice none 0 0,.string ⟨#[]⟩,.slice none 0 0,.slice none 0 0,.string ⟨#[]⟩,.slice none 0 0,.int .i64 0,.int .i64 0,.int .i64 0,.string ⟨#[]⟩,.string ⟨#[]⟩,.slice none 0 0,.int .i64 0,.slice none 0 0,.slice none 0 0,.int .i64 0,.int .i64 0] 36)=W:=⟨_,rfl⟩
  have hb0:Below w.heap.size w W0:=hW0▸(Below.refl _ _).alloc (Nat.le_refl _) _
  have hs0:W0.heap.size=w.heap.size+1:=by rw [←hW0];simp
  have HW0:=hid hW0
  have HB0:=hid hb0
  have HT0:=hid (show W0.there w.heap.size 0 23 from hW0▸there_new w #[.int .i64 0,.string ⟨#[]⟩,.slice none 0 0,.slice none 0 0,.slice none 0 0,.string ⟨#[]⟩,.slice none 0 0,.string ⟨#[]⟩,.slice none 0 0,.slice none 0 0,.string ⟨#[]⟩,.slice none 0 0,.int .i64 0,.int .i64 0,.int .i64 0,.string ⟨#[]⟩,.string ⟨#[]⟩,.slice none 0 0,.int .i64 0,.slice none 0 0,.slice none 0 0,.int .i64 0,.int .i64 0] 36)
  have C:=hid (blockSg_any p c l b W0 (h.later hb0) (hp.later hb0))
  clear h hp hW0 hb0
  go_enter Tryz.func96,Tryz.ntmps96
  go_upto_region 1 with fail
  rw [HW0.out]
  go_wp2_with fail
  refine C.out.mono ?_
  rintro e w1 ⟨ts,A,cap,rfl,hr,ha,hg⟩
  have HR:=hid hr
  have HA:=hid ha
  have HG:=hid (gb_trans (gb_of (some c) HB0.out) hg)
  have HT:=hid (there_gb HT0.out (by omega) (by omega) hg)
  have hin:(dcInter ts).dat.In w1 False (Fr W0.heap.size w1) [.int .i64 2,.string ⟨#[]⟩,.slice none 0 0,.slice none 0 0,.slice A ts.length cap,.string ⟨#[]⟩,.slice none 0 0,.string ⟨#[]⟩,.slice none 0 0,.slice none 0 0,.string ⟨#[]⟩,.slice none 0 0,.int .i64 0,.int .i64 0,.int .i64 0,.string ⟨#[]⟩,.string ⟨#[]⟩,.slice none 0 0,.int .i64 0,.slice none 0 0,.slice none 0 0,.int .i64 0,.int .i64 0] :=
    dcMkR (d:=dcInter ts) (u1:=[.slice none 0 0]) (u2:=[.slice none 0 0]) (u3:=[.slice A ts.length cap]) (u4:=[.slice none 0 0]) (by show (0:Nat)≤_;omega) (arr_of (Row.nil _ _ _ _ _)) (arr_of (Row.nil _ _ _ _ _)) (arr_of HR.out) (by show (0:Nat)≤_;omega) (arr_of (Row.nil _ _ _ _ _)) (sgNone_dat _ _ _) (exNone_dat _ _ _)
  have HIN:=hid hin
  clear hr ha hg C hin
  go_wp2_with (refine storeOp flatDc 2 7 (b:=w.heap.size) (o:=0) (us:=[.int .i64 2,.string ⟨#[]⟩,.slice none 0 0,.slice none 0 0,.slice A ts.length cap,.string ⟨#[]⟩,.slice none 0 0,.string ⟨#[]⟩,.slice none 0 0,.slice none 0 0,.string ⟨#[]⟩,.slice none 0 0,.int .i64 0,.int .i64 0,.int .i64 0,.string ⟨#[]⟩,.string ⟨#[]⟩,.slice none 0 0,.int .i64 0,.slice none 0 0,.slice none 0 0,.int .i64 0,.int .i64 0]) rfl rfl HT.out (dc_one HIN.out).1 rfl ?_)
  refine bodyPost_ret (results_specification _ rfl (set_there (us:=[.int .i64 2,.string ⟨#[]⟩,.slice none 0 0,.slice none 0 0,.slice A ts.length cap,.string ⟨#[]⟩,.slice none 0 0,.string ⟨#[]⟩,.slice none 0 0,.slice none 0 0,.string ⟨#[]⟩,.slice none 0 0,.int .i64 0,.int .i64 0,.int .i64 0,.string ⟨#[]⟩,.string ⟨#[]⟩,.slice none 0 0,.int .i64 0,.slice none 0 0,.slice none 0 0,.int .i64 0,.int .i64 0]) HT.out) rfl) rfl ?_
  refine ⟨dcInter ts,_,rfl,(in_gb (gb_sets1 _ _ _ _) (by omega) HIN.out).wide fun i hi=>⟨by have:=hi.1;omega,hi.2⟩,?_,gb_sets (some c) HG.out (Nat.le_refl _) _ _⟩
  rw [interF,stop_bind]
  exact (aft_ret HA.out dcInter rfl).set hlt _ _
def ChRet (c:Nat) (l:List Tk) (b:Bool) (w:World) (g:Got Dc) (e:Ending) (w':World):Prop:=∃ (t:Dc) (us:List Value),e=.returned (.agg us.toArray)∧t.dat.In w' False (Fr w.heap.size w') us∧Aft w' c t (stop b l g)∧w.grownBy w' (some c)∧(b=true→t.kind=0)
theorem results_choose {w:World} {b:Nat} {us:List Value} (tmps:Array Value) (ht:tmps[4]?.getD undef=.pointer (some ⟨b,0,none⟩)) (hc:Boxd w b us) (hl:us.length=23):(results Tryz.f48 tmps).run Tryz.prog w=.ok (.agg us.toArray) w:=by
  have h:=run_cell flatDc hc hl
  have h2:=run_addr ⟨b,0,none⟩ w
  simp [results,Tryz.results48,ht,h,h2,Sem.run_bind,Result.andThen]
structure Trying (w wr:World) (p c bm:Nat) (l:List Tk) (b:Bool) (s1 s2:ByteArray) (f1 f2:Value) (seen:Array Nat):Prop where
  cur:Cur wr c l b
  ps:Ps wr p c
  rules:Rules wr bm c s1 s2 f1 f2
  iter:wr.heap[w.heap.size+1]?=some (.mapIter (some bm) 2 seen 2)
  res:wr.there w.heap.size 0 23
  gb:w.grownBy wr (some c)
  no1:seen.contains 0=true→nextB b s1.data.toList l=false
  no2:seen.contains 1=true→nextB b s2.data.toList l=false
theorem two_born (s1 s2:ByteArray) (f1 f2:Value):((two s1 s2 f1 f2).toList.map (·.born)).Nodup:=by
  show [0,1].Nodup
  decide
theorem two_old (s1 s2:ByteArray) (f1 f2:Value):∀ x∈(two s1 s2 f1 f2).toList,x.born<2:=by
  intro x hx
  simp only [two,List.mem_cons,List.not_mem_nil,or_false] at hx
  rcases hx with rfl | rfl
  · show 0<2;omega
  show 1<2;omega
theorem isT_neg2 {t:Tk} {r:List Tk} {s:List UInt8} (h:t.s.data.toList≠s):isT s (t :: r)=false:=by
  rw [isT,Bool.and_eq_false_iff]
  exact .inr (by simpa using h)
theorem chooseK_any (p c bm:Nat) (l:List Tk) (b:Bool) (w:World) (h:Cur w c l b) (hp:Ps w p c) (hm:Rules w bm c ⟨#[115,116,114,117,99,116]⟩ ⟨#[105,110,116,101,114,102,97,99,101]⟩ (.func (.func 95) #[] #[]) (.func (.func 96) #[] #[])) :
    Calls Tryz.prog 48 #[.pointer (some ⟨p,0,none⟩),.map (some bm)] w (ChRet c l b w (chooseF [115,116,114,117,99,116] structF [105,110,116,101,114,102,97,99,101] interF l)):=by
  have hlt:=h.lt
  have hpl:=hp.lt
  have hml:=hm.lt
  obtain ⟨s1,hs1⟩:∃ s:ByteArray,⟨#[115,116,114,117,99,116]⟩=s:=⟨_,rfl⟩
  obtain ⟨s2,hs2⟩:∃ s:ByteArray,⟨#[105,110,116,101,114,102,97,99,101]⟩=s:=⟨_,rfl⟩
  have ht1:s1.data.toList=[115,116,114,117,99,116]:=by rw [←hs1]
  have ht2:s2.data.toList=[105,110,116,101,114,102,97,99,101]:=by rw [←hs2]
  rw [hs1,hs2] at hm
  obtain ⟨es,hes⟩:∃ es,two s1 s2 (.func (.func 95) #[] #[]) (.func (.func 96) #[] #[])=es:=⟨_,rfl⟩
  have HES:=hid hes
  have HT1:=hid ht1
  have HT2:=hid ht2
  obtain ⟨W0,hW0⟩:∃ W,w.alloc (.cells #[.int .i64 0,.string ⟨#[]⟩,.slice none 0 0,.slice none 0 0,.slice none 0 0,.string ⟨#[]⟩,.slice none 0 0,.string ⟨#[]⟩,.slice none 0 0,.slice none 0 0,.string ⟨#[]⟩,.slice none 0 0,.int .i64 0,.int .i64 0,.int .i64 0,.string ⟨#[]⟩,.string ⟨#[]⟩,.slice none 0 0,.int .i64 0,.slice none 0 0,.slice none 0 0,.int .i64 0,.int .i64 0] 36)=W:=⟨_,rfl⟩
  have hb0:Below w.heap.size w W0:=hW0▸(Below.refl _ _).alloc (Nat.le_refl _) _
  have hs0:W0.heap.size=w.heap.size+1:=by rw [←hW0];simp
  have hrg:=run_range_map (P:=Tryz.prog) W0 106 9 55 bm es 2 Tryz.underlying106 (by rw [←hes];exact (hm.later hb0).at_)
  obtain ⟨W1,hW1⟩:∃ W,W0.alloc (.mapIter (some bm) 2 #[] 2)=W:=⟨_,rfl⟩
  have hb1:Below W0.heap.size W0 W1:=hW1▸(Below.refl _ _).alloc (Nat.le_refl _) _
  have hall:=hb0.trans (hb1.mono hb0.size)
  have TR:=hid (show Trying w W1 p c bm l b s1 s2 _ _ #[] from ⟨h.later hall,hp.later hall,hm.later hall,by rw [←hs0,←hW1];exact heap_alloc_new _ _,there_up (hW0▸there_new w #[.int .i64 0,.string ⟨#[]⟩,.slice none 0 0,.slice none 0 0,.slice none 0 0,.string ⟨#[]⟩,.slice none 0 0,.string ⟨#[]⟩,.slice none 0 0,.slice none 0 0,.string ⟨#[]⟩,.slice none 0 0,.int .i64 0,.int .i64 0,.int .i64 0,.string ⟨#[]⟩,.string ⟨#[]⟩,.slice none 0 0,.int .i64 0,.slice none 0 0,.slice none 0 0,.int .i64 0,.int .i64 0] 36) (by omega) hb1,gb_of _ hall,fun h=>by simp at h,fun h=>by simp at h⟩)
  have HW0:=hid hW0
  have HW1:=hid hW1
  have HS0:=hid hs0
  clear h hp hm hW0 hW1 hb0 hb1 hs0 hall ht1 ht2 hs1 hs2 hes
  go_enter Tryz.func48,Tryz.ntmps48
  go_upto_region 1 with fail
  rw [HW0.out]
  go_wp2_with fail
  rw [HW1.out,HS0.out]
  clear hrg
  go_loopw [] (fun wr=>∃ seen,Trying w wr p c bm l b s1 s2 (.func (.func 95) #[] #[]) (.func (.func 96) #[] #[]) seen) (fun wr=>(leftOf es (wr.iterSeen (w.heap.size+1))).size)
  case atStart=>exact ⟨_,TR.out⟩
  obtain ⟨seen,hr⟩:=hrel
  have HR:=hid hr
  have hbw:w.heap.size+1<wr.heap.size:=(Array.getElem?_eq_some_iff.1 hr.iter).1
  have law:=run_next_at (P:=Tryz.prog) wr 0 (w.heap.size+1) bm 2 2 seen es 2 hr.iter (by rw [←HES.out];exact hr.rules.at_) (by rw [←HES.out];exact two_old _ _ _ _) (Nat.le_refl _)
  clear hr
  rcases law with ⟨h0,hrun⟩ | ⟨e,he,w2,hal,hrun⟩
  · have hnx:∀ ty,(Instr.next (.pointer (some ⟨w.heap.size+1,0,none⟩)) false ty).run Tryz.prog wr=_:=fun _=>hrun
    have hse:=all_seen es seen h0
    have n1:=HR.out.no1 (hse ⟨.string s1,.func (.func 95) #[] #[],0⟩ (by rw [←HES.out];simp [two]))
    have n2:=HR.out.no2 (hse ⟨.string s2,.func (.func 96) #[] #[],1⟩ (by rw [←HES.out];simp [two]))
    have N1:=hid n1
    have N2:=hid n2
    have C:=hid (show Calls Tryz.prog 86 #[.pointer (some ⟨c,0,none⟩),.string ⟨#[]⟩] wr (MustPost c l b [] wr) from must_any c l b ⟨#[]⟩ wr HR.out.cur)
    have x0:=HR.out.ps.at_
    clear hrun hse n1 n2 h0
    go_wp2_with fail
    refine C.out.mono ?_
    rintro e w3 ⟨rfl,ha,hg⟩
    have HA:=hid ha
    have HG:=hid (gb_trans HR.out.gb hg)
    have HT:=hid (there_gb HR.out.res (by omega) (by omega) hg)
    clear ha hg x0 hnx C
    go_wp2_with (refine storeOp flatDc 4 28 (b:=w.heap.size) (o:=0) (us:=[.int .i64 0,.string ⟨#[]⟩,.slice none 0 0,.slice none 0 0,.slice none 0 0,.string ⟨#[]⟩,.slice none 0 0,.string ⟨#[]⟩,.slice none 0 0,.slice none 0 0,.string ⟨#[]⟩,.slice none 0 0,.int .i64 0,.int .i64 0,.int .i64 0,.string ⟨#[]⟩,.string ⟨#[]⟩,.slice none 0 0,.int .i64 0,.slice none 0 0,.slice none 0 0,.int .i64 0,.int .i64 0]) rfl rfl HT.out (dc_one (dcNone_dat w3 False (fun _=>False))).1 rfl ?_)
    refine bodyPost_ret (results_choose _ rfl (set_there (us:=[.int .i64 0,.string ⟨#[]⟩,.slice none 0 0,.slice none 0 0,.slice none 0 0,.string ⟨#[]⟩,.slice none 0 0,.string ⟨#[]⟩,.slice none 0 0,.slice none 0 0,.string ⟨#[]⟩,.slice none 0 0,.int .i64 0,.int .i64 0,.int .i64 0,.string ⟨#[]⟩,.string ⟨#[]⟩,.slice none 0 0,.int .i64 0,.slice none 0 0,.slice none 0 0,.int .i64 0,.int .i64 0]) HT.out) rfl) rfl ?_
    refine ⟨Dc.none?,_,rfl,dcNone_dat _ _ _,?_,gb_sets (some c) HG.out (Nat.le_refl _) _ _,fun _=>rfl⟩
    have e2:stop b l (chooseF [115,116,114,117,99,116] structF [105,110,116,101,114,102,97,99,101] interF l)=stop b l (Got.bind (must [] l) fun _ q=>.ok Dc.none? q):=by
      cases b
      · have i1:isT [115,116,114,117,99,116] l=false:=by have:=N1.out;rw [HT1.out] at this;simpa [nextB] using this
        have i2:isT [105,110,116,101,114,102,97,99,101] l=false:=by have:=N2.out;rw [HT2.out] at this;simpa [nextB] using this
        rw [chooseF,i1,i2]
        rfl
      rfl
    rw [e2,stop_bind]
    exact (aft_ret HA.out (fun _=>Dc.none?) rfl).set hlt _ _
  have hml2:=(mem_left he).1
  have hcon:=(mem_left he).2
  have hw2r:(setBlock w2 (w.heap.size+1) (.mapIter (some bm) 2 (seen.push e.born) 2)).heap[w.heap.size+1]?=some (.mapIter (some bm) 2 (seen.push e.born) 2):=iter_at hal hbw
  have hup:=below_iter (r:=w.heap.size+1) (o:=.mapIter (some bm) 2 (seen.push e.born) 2) hal
  have hgb:=gb_iter (r:=w.heap.size+1) (o:=.mapIter (some bm) 2 (seen.push e.born) 2) HR.out.gb (by omega) hal
  have hcur:=Cur.up HR.out.cur (hup.mono (by omega:c+1≤w.heap.size+1))
  have hps:=HR.out.ps.up (by omega:p<w.heap.size+1) hup
  have hrl:Rules (setBlock w2 (w.heap.size+1) (.mapIter (some bm) 2 (seen.push e.born) 2)) bm c s1 s2 _ _:=⟨(hup.block bm (by omega)).trans HR.out.rules.at_,HR.out.rules.ne⟩
  have hres:=there_up HR.out.res (by omega:w.heap.size<w.heap.size+1) hup
  have hsh:=left_shrinks es seen e he
  have hen:=run_entry_at (P:=Tryz.prog) (setBlock w2 (w.heap.size+1) (.mapIter (some bm) 2 (seen.push e.born) 2)) (w.heap.size+1) bm 2 seen es 2 e hw2r (by rw [←HES.out];exact hrl.at_) hml2 (by rw [←HES.out];exact two_born _ _ _ _)
  have hms:es.toList=[⟨.string s1,.func (.func 95) #[] #[],0⟩,⟨.string s2,.func (.func 96) #[] #[],1⟩]:=by rw [←HES.out];rfl
  rw [hms] at hml2
  simp only [List.mem_cons,List.not_mem_nil,or_false] at hml2
  obtain ⟨W2,hW2⟩:∃ W,setBlock w2 (w.heap.size+1) (.mapIter (some bm) 2 (seen.push e.born) 2)=W:=⟨_,rfl⟩
  rw [hW2] at hrun hw2r hgb hcur hps hrl hres hen
  have HIT:=hid hw2r
  have HGB:=hid hgb
  have HCU:=hid hcur
  have HPS:=hid hps
  have HRL:=hid hrl
  have HRES:=hid hres
  have HSH:=hid hsh
  have HSI:=hid (show wr.iterSeen (w.heap.size+1)=seen by unfold World.iterSeen;rw [HR.out.iter])
  have hW2s:w.heap.size+1<W2.heap.size:=(Array.getElem?_eq_some_iff.1 hw2r).1
  clear hup hw2r hgb hcur hps hrl hres hW2 hsh hcon hms he
  rcases hml2 with rfl | rfl
  · have hnx:∀ ty,(Instr.next (.pointer (some ⟨w.heap.size+1,0,none⟩)) false ty).run Tryz.prog wr=_:=fun _=>hrun
    have CT:=hid (take_any c l b s1 W2 HCU.out)
    have x0:=HPS.out.at_
    clear hrun
    go_wp2_with fail
    refine CT.out.mono ?_
    rintro e w3 ⟨rfl,hc,hg⟩
    cases hx:nextB b s1.data.toList l
    · have HX:=hid hx
      rw [takeL,hx] at hc
      have T3:=hid (show Trying w w3 p c bm l b s1 s2 _ _ (seen.push 0) from ⟨hc,HPS.out.gb hg,HRL.out.gb hg,(hg.block _ hW2s (by simpa using (by omega:w.heap.size+1≠c))).trans HIT.out,there_gb HRES.out (by omega) (by omega) hg,gb_trans HGB.out hg,fun _=>HX.out,fun h2=>HR.out.no2 (by rw [contains_push] at h2;simpa using h2)⟩)
      clear hx hc hg x0 hnx hen CT
      go_wp2_with fail
      go_roundw
      case rel=>exact ⟨_,T3.out⟩
      case measure =>
        rw [HSI.out,show w3.iterSeen (w.heap.size+1)=seen.push 0 from by unfold World.iterSeen;rw [T3.out.iter]]
        exact HSH.out
    have HX:=hid hx
    obtain ⟨rfl,hi⟩:=nextB_cons hx
    rw [takeL,hx,if_pos rfl] at hc
    have HI:=hid hi
    have C4:=hid (structure_any p c l.tail false w3 hc (HPS.out.gb hg))
    have HG3:=hid (gb_trans HGB.out hg)
    have HT3:=hid (there_gb HRES.out (by omega) (by omega) hg)
    have hs3:=HG3.out.size
    have hs4:=hg.size
    clear hx hi hc hg x0 hnx hen CT
    go_wp2_with fail
    refine C4.out.mono ?_
    rintro e w4 ⟨t,us,rfl,hd,ha,hg⟩
    have HD:=hid hd
    have HA:=hid ha
    have HG4:=hid (gb_trans HG3.out hg)
    have HT4:=hid (show w4.there w.heap.size 0 us.length by rw [(dc_one hd).2];exact there_gb HT3.out (by omega) (by omega) hg)
    clear hd ha hg C4
    go_wp2_with (refine storeOp flatDc 4 22 (b:=w.heap.size) (o:=0) (us:=us) rfl rfl HT4.out (dc_one HD.out).1 (dc_one HD.out).2 ?_)
    refine bodyPost_ret (results_choose _ rfl (set_there (us:=us) HT4.out) (dc_one HD.out).2) rfl ?_
    refine ⟨t,us,rfl,(in_gb (gb_sets1 _ _ _ _) (by omega) HD.out).wide fun i hi=>⟨by have:=hi.1;omega,hi.2⟩,?_,gb_sets (some c) HG4.out (Nat.le_refl _) _ _,fun h=>by cases h⟩
    have e2:stop false l (chooseF [115,116,114,117,99,116] structF [105,110,116,101,114,102,97,99,101] interF l)=stop false l.tail (structF l.tail):=by
      rw [stop_false,chooseF,show isT [115,116,114,117,99,116] l=true from by rw [←HT1.out];exact HI.out,if_pos rfl,stop_false]
    rw [e2]
    exact HA.out.set hlt _ _
  have hnx:∀ ty,(Instr.next (.pointer (some ⟨w.heap.size+1,0,none⟩)) false ty).run Tryz.prog wr=_:=fun _=>hrun
  have CT:=hid (take_any c l b s2 W2 HCU.out)
  have x0:=HPS.out.at_
  clear hrun
  go_wp2_with fail
  refine CT.out.mono ?_
  rintro e w3 ⟨rfl,hc,hg⟩
  cases hx:nextB b s2.data.toList l
  · have HX:=hid hx
    rw [takeL,hx] at hc
    have T3:=hid (show Trying w w3 p c bm l b s1 s2 _ _ (seen.push 1) from ⟨hc,HPS.out.gb hg,HRL.out.gb hg,(hg.block _ hW2s (by simpa using (by omega:w.heap.size+1≠c))).trans HIT.out,there_gb HRES.out (by omega) (by omega) hg,gb_trans HGB.out hg,fun h2=>HR.out.no1 (by rw [contains_push] at h2;simpa using h2),fun _=>HX.out⟩)
    clear hx hc hg x0 hnx hen CT
    go_wp2_with fail
    go_roundw
    case rel=>exact ⟨_,T3.out⟩
    case measure =>
      rw [HSI.out,show w3.iterSeen (w.heap.size+1)=seen.push 1 from by unfold World.iterSeen;rw [T3.out.iter]]
      exact HSH.out
  have HX:=hid hx
  obtain ⟨rfl,hi⟩:=nextB_cons hx
  rw [takeL,hx,if_pos rfl] at hc
  have HI:=hid hi
  have C4:=hid (specification_any p c l.tail false w3 hc (HPS.out.gb hg))
  have HG3:=hid (gb_trans HGB.out hg)
  have HT3:=hid (there_gb HRES.out (by omega) (by omega) hg)
  have hs3:=HG3.out.size
  have hs4:=hg.size
  clear hx hi hc hg x0 hnx hen CT
  go_wp2_with fail
  refine C4.out.mono ?_
  rintro e w4 ⟨t,us,rfl,hd,ha,hg⟩
  have HD:=hid hd
  have HA:=hid ha
  have HG4:=hid (gb_trans HG3.out hg)
  have HT4:=hid (show w4.there w.heap.size 0 us.length by rw [(dc_one hd).2];exact there_gb HT3.out (by omega) (by omega) hg)
  clear hd ha hg C4
  go_wp2_with (refine storeOp flatDc 4 22 (b:=w.heap.size) (o:=0) (us:=us) rfl rfl HT4.out (dc_one HD.out).1 (dc_one HD.out).2 ?_)
  refine bodyPost_ret (results_choose _ rfl (set_there (us:=us) HT4.out) (dc_one HD.out).2) rfl ?_
  refine ⟨t,us,rfl,(in_gb (gb_sets1 _ _ _ _) (by omega) HD.out).wide fun i hi=>⟨by have:=hi.1;omega,hi.2⟩,?_,gb_sets (some c) HG4.out (Nat.le_refl _) _ _,fun h=>by cases h⟩
  have e2:stop false l (chooseF [115,116,114,117,99,116] structF [105,110,116,101,114,102,97,99,101] interF l)=stop false l.tail (interF l.tail):=by
    obtain ⟨t0,r0,rfl,hk0,ht0⟩:=isT_cons HI.out
    rw [stop_false,chooseF,isT_neg2 (show t0.s.data.toList≠[115,116,114,117,99,116] by rw [ht0,HT2.out];decide),if_neg (by decide),show isT [105,110,116,101,114,102,97,99,101] (t0 :: r0)=true from by rw [←HT2.out];exact HI.out,if_pos rfl,stop_false]
  rw [e2]
  exact HA.out.set hlt _ _
