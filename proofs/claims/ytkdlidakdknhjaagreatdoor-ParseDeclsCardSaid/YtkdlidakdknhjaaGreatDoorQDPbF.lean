/- The walk of method of layer 8's reference. The condition: the place stands in tokens of a text. -/
import Derived.Test.YtkdlidakdknhjaaGreatDoorQDPbE
set_option maxRecDepth 100000
set_option maxHeartbeats 16000000
open Go.Lib (hid)
namespace Go.Proofs.YtkdlidakdknhjaaGreatDoor.Rd
open Go.RowKit
def metV (rc:ByteArray) (t:Tk) (vs:List ByteArray) (q:List Tk):Got Dc:=Got.bind (must [41] q) fun _ q=>Got.bind (sgF q) fun s q=>Got.bind (must [123] q) fun _ q=>Got.bind (must wReturn q) fun _ q=>Got.bind (exA q) fun e q =>
  Got.bind (must [125] q) fun _ q=>Got.bind (must [59] q) fun _ q=>.ok ⟨3,t.s,[],[],[],rc,vs,s,e,t.o⟩ q
theorem methodF_musts (l:List Tk):methodF l=Got.bind (must [40] l) fun _ q=>Got.bind (name q) fun r q=>Got.bind (name q) fun t q=>Got.bind (bracketsG varF q) fun vs q=>metV r.s t vs q:=by
  simp only [methodF,varF,metV,allF,bind_bind,bind_ok]
structure LpM (w V:World) (lo:Nat) (A:Option Addr) (n cap:Nat) (L:List Tk) (rn nm:Tk) (v:Value) (acc:List ByteArray) (q:List Tk) (p:Nat) (b:Bool):Prop where
  pz:Pz w V 23 [.slice A n cap,.int .i64 (p:Int),.bool b] [.int .i64 3,.string nm.s,.slice none 0 0,.slice none 0 0,.slice none 0 0,.string rn.s,v,.string ⟨#[]⟩,.slice none 0 0,.slice none 0 0,.string ⟨#[]⟩,.slice none 0 0,.int .i64 0,.int .i64 0,.int .i64 0,.string ⟨#[]⟩,.string ⟨#[]⟩,.slice none 0 0,.int .i64 0,.slice none 0 0,.slice none 0 0,.int .i64 0,.int .i64 nm.o]
  pl:Pl w A n L p q
  row:Built V False 9 1 lo v acc.length (acc.map Dat.str)
  big:w.heap.size+4≤lo∧lo≤V.heap.size
  few:(b=false→acc.length+q.length≤100001)∧acc.length≤100002
def MtAt (rn nm:Tk) (b:Bool) (l:List Tk) (sgn:ByteArray) (acc:List ByteArray) (q:List Tk) (b':Bool) (m:Nat):Prop :=
  (acc=[]∧sgn=⟨#[91]⟩∧stop b l (methodR l)=stop b' q (Got.bind (bracketsG varF q) fun vs q=>metV rn.s nm vs q)) ∨
  (sgn=⟨#[44]⟩∧(b'=false→q.length<m)∧stop b l (methodR l)=stop b' q (Got.bind (moreG varF m acc q) fun us q=>Got.bind (must [93] q) fun _ q=>metV rn.s nm us q))
theorem varF_bind {β:Type} (q:List Tk) (F:ByteArray→List Tk→Got β):Got.bind (varF q) F=Got.bind (name q) fun t q=>F t.s q:=by
  rw [varF,bind_bind]
  rfl
theorem mt_step {rn nm:Tk} {b:Bool} {l:List Tk} {sgn:ByteArray} {acc:List ByteArray} {q:List Tk} {m:Nat} (h:MtAt rn nm b l sgn acc q false m) (hi:isT sgn.data.toList q=true) :
    ∃ f:List Tk→Nat,(∀ q':List Tk,q'.length<q.tail.length→q'.length<f q')∧stop b l (methodR l)=stop false q.tail (Got.bind (name q.tail) fun t q=>Got.bind (moreG varF (f q) (acc++[t.s]) q) fun us q=>Got.bind (must [93] q) fun _ q=>metV rn.s nm us q):=by
  rcases h with ⟨rfl,rfl,he⟩ | ⟨rfl,hm,he⟩
  · have hi:isT [91] q=true:=hi
    refine ⟨fun q=>q.length+1,fun q' _=>Nat.lt_succ_self _,he.trans ?_⟩
    rw [bracketsG,hi,if_pos rfl,listG,bind_bind,varF_bind]
    show Got.bind _ _=Got.bind _ _
    refine congrArg _ (funext fun t=>funext fun q=>?_)
    rw [bind_bind,List.nil_append]
    refine congrArg _ (funext fun us=>funext fun q=>?_)
    rw [bind_bind]
    rfl
  have hi:isT [44] q=true:=hi
  obtain ⟨k,rfl⟩:∃ k,m=k+1:=⟨m-1,by have:=hm rfl;omega⟩
  refine ⟨fun _=>k,fun q' h=>?_,he.trans ?_⟩
  · have h1:=hm rfl
    have h2:q.tail.length≤q.length:=(List.tail_suffix q).length_le
    show q'.length<k
    omega
  rw [moreG,hi,if_pos rfl,bind_bind,varF_bind]
  rfl
theorem mt_end1 {rn nm:Tk} {b:Bool} {l:List Tk} {acc:List ByteArray} {q:List Tk} {b':Bool} (hx:nextB b' [91] q=false) (he:stop b l (methodR l)=stop b' q (Got.bind (bracketsG varF q) fun vs q=>metV rn.s nm vs q)) (ha:acc=[]) :
    stop b l (methodR l)=stop b' q (metV rn.s nm acc q):=by
  subst ha
  rw [he]
  cases b'
  · have hi:isT [91] q=false:=by simpa [nextB] using hx
    rw [bracketsG,hi]
    rfl
  rfl
theorem mt_end2 {rn nm:Tk} {b:Bool} {l:List Tk} {acc:List ByteArray} {q:List Tk} {b':Bool} {m:Nat} (hx:nextB b' [44] q=false) (hm:b'=false→q.length<m) (he:stop b l (methodR l)=stop b' q (Got.bind (moreG varF m acc q) fun us q=>Got.bind (must [93] q) fun _ q=>metV rn.s nm us q)) :
    stop b l (methodR l)=stop b' q (Got.bind (must [93] q) fun _ q=>metV rn.s nm acc q):=by
  rw [he]
  cases b'
  · have hi:isT [44] q=false:=by simpa [nextB] using hx
    obtain ⟨k,rfl⟩:∃ k,m=k+1:=⟨m-1,by have:=hm rfl;omega⟩
    rw [moreG,hi]
    rfl
  rfl
structure MtRel (w V:World) (A:Option Addr) (n cap:Nat) (L:List Tk) (rn nm:Tk) (B:Option Addr) (kc:Nat) (acc:List ByteArray) (s:Sg) (y1:Option Addr) (y2 y3:Nat) (y4:Option Addr) (y5 y6:Nat) (y7:Option Addr) (y8 y9:Nat) (e:Ex) (z1:Option Addr) (z2 z3:Nat) (z4:Option Addr) (z5 z6:Nat) (z7:Option Addr) (z8 z9:Nat) (q:List Tk) (p:Nat) (b:Bool):Prop where
  pz:Pz w V 23 [.slice A n cap,.int .i64 (p:Int),.bool b] [.int .i64 3,.string nm.s,.slice none 0 0,.slice none 0 0,.slice none 0 0,.string rn.s,.slice B acc.length kc,.string s.name,.slice y1 y2 y3,.slice y4 y5 y6,.string s.res.name,.slice y7 y8 y9,.int .i64 s.res.off,.int .i64 s.off,.int .i64 e.kind,.string e.name,.string e.ty.name,.slice z1 z2 z3,.int .i64 e.ty.off,.slice z4 z5 z6,.slice z7 z8 z9,.int .i64 e.off,.int .i64 nm.o]
  vs:Row V False (Fr (w.heap.size+4) V) 1 B acc.length (acc.map Dat.str)
  sig:s.dat.In V False (Fr (w.heap.size+4) V) [.string s.name,.slice y1 y2 y3,.slice y4 y5 y6,.string s.res.name,.slice y7 y8 y9,.int .i64 s.res.off,.int .i64 s.off]
  body:e.dat.In V False (Fr (w.heap.size+4) V) [.int .i64 e.kind,.string e.name,.string e.ty.name,.slice z1 z2 z3,.int .i64 e.ty.off,.slice z4 z5 z6,.slice z7 z8 z9,.int .i64 e.off]
  pl:Pl w A n L p q
theorem results_rmethod {w:World} {b b2:Nat} {us vs:List Value} (tmps:Array Value) (ht:tmps[2]?.getD undef=.pointer (some ⟨b,0,none⟩)) (ht2:tmps[3]?.getD undef=.pointer (some ⟨b2,0,none⟩)) (hc:Boxd w b us) (hl:us.length=3) (hc2:Boxd w b2 vs) (hl2:vs.length=23):(results Tryz.f17 tmps).run Tryz.prog w=.ok (.tuple #[.agg us.toArray,.agg vs.toArray]) w:=by
  have h:=run_cell flatPl hc hl
  have h2:=run_addr ⟨b,0,none⟩ w
  have h3:=run_cell flatDc hc2 hl2
  have h4:=run_addr ⟨b2,0,none⟩ w
  simp [results,Tryz.results17,ht,ht2,h,h2,h3,h4,Sem.run_bind,Result.andThen]
theorem rmethod_any (A:Option Addr) (n cap p:Nat) (L l:List Tk) (b:Bool) (w:World) (h:Pl w A n L p l) :
    Calls Tryz.prog 17 #[.agg #[.slice A n cap,.int .i64 p,.bool b]] w (RDcPost A n cap L l b methodR w):=by
  obtain ⟨W,hW,hb,hz,hbx,ht1,ht2⟩:=two_pl w A n cap p b
  obtain ⟨W1,hW1⟩:∃ X,W.alloc (.cells #[.int .i64 0,.string ⟨#[]⟩,.slice none 0 0,.slice none 0 0,.slice none 0 0,.string ⟨#[]⟩,.slice none 0 0,.string ⟨#[]⟩,.slice none 0 0,.slice none 0 0,.string ⟨#[]⟩,.slice none 0 0,.int .i64 0,.int .i64 0,.int .i64 0,.string ⟨#[]⟩,.string ⟨#[]⟩,.slice none 0 0,.int .i64 0,.slice none 0 0,.slice none 0 0,.int .i64 0,.int .i64 0] 36)=X:=⟨_,rfl⟩
  have hb1:Below W.heap.size W W1:=hW1▸(Below.refl _ _).alloc (Nat.le_refl _) _
  have hs1:W1.heap.size=w.heap.size+3:=by rw [←hW1];simp;omega
  obtain ⟨V0,hV0⟩:∃ X,W1.alloc (.cells #[.int .i64 0,.string ⟨#[]⟩,.slice none 0 0,.slice none 0 0,.slice none 0 0,.string ⟨#[]⟩,.slice none 0 0,.string ⟨#[]⟩,.slice none 0 0,.slice none 0 0,.string ⟨#[]⟩,.slice none 0 0,.int .i64 0,.int .i64 0,.int .i64 0,.string ⟨#[]⟩,.string ⟨#[]⟩,.slice none 0 0,.int .i64 0,.slice none 0 0,.slice none 0 0,.int .i64 0,.int .i64 0] 36)=X:=⟨_,rfl⟩
  have hb2:Below W1.heap.size W1 V0:=hV0▸(Below.refl _ _).alloc (Nat.le_refl _) _
  have hs2:V0.heap.size=w.heap.size+4:=by rw [←hV0];simp;omega
  have hbb:=hb1.trans (hb2.mono hb1.size)
  have t3:V0.there (w.heap.size+2) 0 23:=there_upB (B:=W1.heap.size) (hz▸hW1▸there_new W #[.int .i64 0,.string ⟨#[]⟩,.slice none 0 0,.slice none 0 0,.slice none 0 0,.string ⟨#[]⟩,.slice none 0 0,.string ⟨#[]⟩,.slice none 0 0,.slice none 0 0,.string ⟨#[]⟩,.slice none 0 0,.int .i64 0,.int .i64 0,.int .i64 0,.string ⟨#[]⟩,.string ⟨#[]⟩,.slice none 0 0,.int .i64 0,.slice none 0 0,.slice none 0 0,.int .i64 0,.int .i64 0] 36) (by omega) hb2
  have t4:V0.there (w.heap.size+3) 0 23:=hs1▸hV0▸there_new W1 #[.int .i64 0,.string ⟨#[]⟩,.slice none 0 0,.slice none 0 0,.slice none 0 0,.string ⟨#[]⟩,.slice none 0 0,.string ⟨#[]⟩,.slice none 0 0,.slice none 0 0,.string ⟨#[]⟩,.slice none 0 0,.int .i64 0,.int .i64 0,.int .i64 0,.string ⟨#[]⟩,.string ⟨#[]⟩,.slice none 0 0,.int .i64 0,.slice none 0 0,.slice none 0 0,.int .i64 0,.int .i64 0] 36
  have T4:=hid (show (W1.alloc (.cells #[.int .i64 0,.string ⟨#[]⟩,.slice none 0 0,.slice none 0 0,.slice none 0 0,.string ⟨#[]⟩,.slice none 0 0,.string ⟨#[]⟩,.slice none 0 0,.slice none 0 0,.string ⟨#[]⟩,.slice none 0 0,.int .i64 0,.int .i64 0,.int .i64 0,.string ⟨#[]⟩,.string ⟨#[]⟩,.slice none 0 0,.int .i64 0,.slice none 0 0,.slice none 0 0,.int .i64 0,.int .i64 0] 36)).there W1.heap.size 0 23 from there_new W1 #[.int .i64 0,.string ⟨#[]⟩,.slice none 0 0,.slice none 0 0,.slice none 0 0,.string ⟨#[]⟩,.slice none 0 0,.string ⟨#[]⟩,.slice none 0 0,.slice none 0 0,.string ⟨#[]⟩,.slice none 0 0,.int .i64 0,.int .i64 0,.int .i64 0,.string ⟨#[]⟩,.string ⟨#[]⟩,.slice none 0 0,.int .i64 0,.slice none 0 0,.slice none 0 0,.int .i64 0,.int .i64 0] 36)
  have hKV0:Pz w V0 23 [.slice A n cap,.int .i64 (p:Int),.bool b] [.int .i64 0,.string ⟨#[]⟩,.slice none 0 0,.slice none 0 0,.slice none 0 0,.string ⟨#[]⟩,.slice none 0 0,.string ⟨#[]⟩,.slice none 0 0,.slice none 0 0,.string ⟨#[]⟩,.slice none 0 0,.int .i64 0,.int .i64 0,.int .i64 0,.string ⟨#[]⟩,.string ⟨#[]⟩,.slice none 0 0,.int .i64 0,.slice none 0 0,.slice none 0 0,.int .i64 0,.int .i64 0]:=⟨⟨hb.trans (hbb.mono hb.size),by simp;omega,fun j u hu=>(hbb.cell (p:=⟨w.heap.size,j,none⟩) (by show w.heap.size<W.heap.size;omega)).trans (hbx j u hu),there_upB ht1 (by omega) hbb,fun i z hi=>by
    match i,hi with
    | 0,hi=>obtain rfl:=Option.some.inj hi;exact there_upB ht2 (by omega) hbb
    | 1,hi=>obtain rfl:=Option.some.inj hi;exact t3
    | i+2,hi=>simp at hi,rfl⟩,hs1▸hV0▸Boxd.new W1 #[.int .i64 0,.string ⟨#[]⟩,.slice none 0 0,.slice none 0 0,.slice none 0 0,.string ⟨#[]⟩,.slice none 0 0,.string ⟨#[]⟩,.slice none 0 0,.slice none 0 0,.string ⟨#[]⟩,.slice none 0 0,.int .i64 0,.int .i64 0,.int .i64 0,.string ⟨#[]⟩,.string ⟨#[]⟩,.slice none 0 0,.int .i64 0,.slice none 0 0,.slice none 0 0,.int .i64 0,.int .i64 0] 36,t4,rfl,by omega⟩
  obtain ⟨V,hV⟩:∃ X,V0.setCells (w.heap.size+3) 0 [.int .i64 3,.string ⟨#[]⟩,.slice none 0 0,.slice none 0 0,.slice none 0 0,.string ⟨#[]⟩,.slice none 0 0,.string ⟨#[]⟩,.slice none 0 0,.slice none 0 0,.string ⟨#[]⟩,.slice none 0 0,.int .i64 0,.int .i64 0,.int .i64 0,.string ⟨#[]⟩,.string ⟨#[]⟩,.slice none 0 0,.int .i64 0,.slice none 0 0,.slice none 0 0,.int .i64 0,.int .i64 0]=X:=⟨_,rfl⟩
  have HKV:=hid (show Pz w V 23 [.slice A n cap,.int .i64 (p:Int),.bool b] [.int .i64 3,.string ⟨#[]⟩,.slice none 0 0,.slice none 0 0,.slice none 0 0,.string ⟨#[]⟩,.slice none 0 0,.string ⟨#[]⟩,.slice none 0 0,.slice none 0 0,.string ⟨#[]⟩,.slice none 0 0,.int .i64 0,.int .i64 0,.int .i64 0,.string ⟨#[]⟩,.string ⟨#[]⟩,.slice none 0 0,.int .i64 0,.slice none 0 0,.slice none 0 0,.int .i64 0,.int .i64 0] from hV▸hKV0.whole [.int .i64 3,.string ⟨#[]⟩,.slice none 0 0,.slice none 0 0,.slice none 0 0,.string ⟨#[]⟩,.slice none 0 0,.string ⟨#[]⟩,.slice none 0 0,.slice none 0 0,.string ⟨#[]⟩,.slice none 0 0,.int .i64 0,.int .i64 0,.int .i64 0,.string ⟨#[]⟩,.string ⟨#[]⟩,.slice none 0 0,.int .i64 0,.slice none 0 0,.slice none 0 0,.int .i64 0,.int .i64 0] rfl)
  have HW:=hid hW
  have HW1:=hid hW1
  have HV0:=hid hV0
  have HV:=hid hV
  have HS1:=hid hs1
  have O4:=hid (show ∀ u∈([.int .i64 3,.string ⟨#[]⟩,.slice none 0 0,.slice none 0 0,.slice none 0 0,.string ⟨#[]⟩,.slice none 0 0,.string ⟨#[]⟩,.slice none 0 0,.slice none 0 0,.string ⟨#[]⟩,.slice none 0 0,.int .i64 0,.int .i64 0,.int .i64 0,.string ⟨#[]⟩,.string ⟨#[]⟩,.slice none 0 0,.int .i64 0,.slice none 0 0,.slice none 0 0,.int .i64 0,.int .i64 0]:List Value),u.oneCell'=true from fun u hu=>by simp only [List.mem_cons,List.not_mem_nil,or_false] at hu;rcases hu with rfl | rfl | rfl | rfl | rfl | rfl | rfl | rfl | rfl | rfl | rfl | rfl | rfl | rfl | rfl | rfl | rfl | rfl | rfl | rfl | rfl | rfl | rfl<;>rfl)
  have HP0:=hid h
  clear h hW hb hz hbx ht1 ht2 hW1 hV0 hV hb1 hb2 hs1 hs2 hbb t3 t4 hKV0
  go_enter Tryz.func17,Tryz.ntmps17
  go_upto_region 1 with fail
  rw [HW.out,HW1.out]
  go_upto_region 2 with (refine storeOp flatDc 4 7 (b:=W1.heap.size) (o:=0) (us:=[.int .i64 3,.string ⟨#[]⟩,.slice none 0 0,.slice none 0 0,.slice none 0 0,.string ⟨#[]⟩,.slice none 0 0,.string ⟨#[]⟩,.slice none 0 0,.slice none 0 0,.string ⟨#[]⟩,.slice none 0 0,.int .i64 0,.int .i64 0,.int .i64 0,.string ⟨#[]⟩,.string ⟨#[]⟩,.slice none 0 0,.int .i64 0,.slice none 0 0,.slice none 0 0,.int .i64 0,.int .i64 0]) rfl rfl T4.out O4.out rfl ?_)
  rw [HV0.out,HS1.out,HV.out]
  clear T4 O4
  have KV:=HKV
  obtain ⟨x0,x1,x2,-⟩:=KV.out.pk.three
  have C2:=hid (show Calls Tryz.prog 52 #[.agg #[.slice A n cap,.int .i64 (p:Int),.bool b],.string ⟨#[102,117,110,99]⟩] V (RMustPost A n cap L l b wFunc V) from rmust_any A n cap p L l b ⟨#[102,117,110,99]⟩ V (HP0.out.later KV.out.pk.bel))
  go_wp2_with fail
  refine C2.out.mono ?_
  rintro e w2 ⟨p2,b2,rfl,hra,hb⟩
  have KC:=KV.out.later hb
  obtain ⟨V2,hV⟩:∃ X,w2.setCells w.heap.size 0 [.slice A n cap,.int .i64 (p2:Int),.bool b2]=X:=⟨_,rfl⟩
  have KV2:=hid (show Pz w V2 23 [.slice A n cap,.int .i64 (p2:Int),.bool b2] [.int .i64 3,.string ⟨#[]⟩,.slice none 0 0,.slice none 0 0,.slice none 0 0,.string ⟨#[]⟩,.slice none 0 0,.string ⟨#[]⟩,.slice none 0 0,.slice none 0 0,.string ⟨#[]⟩,.slice none 0 0,.int .i64 0,.int .i64 0,.int .i64 0,.string ⟨#[]⟩,.string ⟨#[]⟩,.slice none 0 0,.int .i64 0,.slice none 0 0,.slice none 0 0,.int .i64 0,.int .i64 0] from hV▸(KC.place [.slice A n cap,.int .i64 (p2:Int),.bool b2] rfl))
  have d2:Dk (w.heap.size+4) w2 V2:=hV▸dk_gb (gb_sets1 w2 w.heap.size 0 [.slice A n cap,.int .i64 (p2:Int),.bool b2]) (by omega)
  have D2V2:=hid d2
  have D1V2:=hid ((dk_below hb).trans d2)
  have HV2:=hid (show ((w2.setCell ⟨w.heap.size,0,none⟩ (.slice A n cap)).setCell ⟨w.heap.size,1,none⟩ (.int .i64 (p2:Int))).setCell ⟨w.heap.size,2,none⟩ (.bool b2)=V2 from hV)
  obtain ⟨q2,hq1,hq2,hq3⟩:=raft_step (Less.ends (must_less wFunc l)) hra (fun _ q=>methodF q)
  have HQ2:=hid (HP0.out.move hq1 (Below.refl _ _))
  have HL2:=hid hq2
  have HB2:=hid (raft_false hra)
  have E2:=hid (show stop b l (methodR l)=stop b2 q2 (methodF q2) from hq3)
  obtain ⟨y0,y1,y2,f0,f1,f2⟩:=KC.pk.three
  clear hra hb KC d2 hV hq1 hq2 hq3 C2 x0 x1 x2
  go_upto_region 3 with fail
  rw [HV2.out]
  clear y0 y1 y2 f0 f1 f2 
  obtain ⟨x0,x1,x2,-⟩:=KV2.out.pk.three
  have C3:=hid (show Calls Tryz.prog 52 #[.agg #[.slice A n cap,.int .i64 (p2:Int),.bool b2],.string ⟨#[40]⟩] V2 (RMustPost A n cap L q2 b2 [40] V2) from rmust_any A n cap p2 L q2 b2 ⟨#[40]⟩ V2 (HQ2.out.later KV2.out.pk.bel))
  go_wp2_with fail
  refine C3.out.mono ?_
  rintro e w3 ⟨p3,b3,rfl,hra,hb⟩
  have KC:=KV2.out.later hb
  obtain ⟨V3,hV⟩:∃ X,w3.setCells w.heap.size 0 [.slice A n cap,.int .i64 (p3:Int),.bool b3]=X:=⟨_,rfl⟩
  have KV3:=hid (show Pz w V3 23 [.slice A n cap,.int .i64 (p3:Int),.bool b3] [.int .i64 3,.string ⟨#[]⟩,.slice none 0 0,.slice none 0 0,.slice none 0 0,.string ⟨#[]⟩,.slice none 0 0,.string ⟨#[]⟩,.slice none 0 0,.slice none 0 0,.string ⟨#[]⟩,.slice none 0 0,.int .i64 0,.int .i64 0,.int .i64 0,.string ⟨#[]⟩,.string ⟨#[]⟩,.slice none 0 0,.int .i64 0,.slice none 0 0,.slice none 0 0,.int .i64 0,.int .i64 0] from hV▸(KC.place [.slice A n cap,.int .i64 (p3:Int),.bool b3] rfl))
  have d2:Dk (w.heap.size+4) w3 V3:=hV▸dk_gb (gb_sets1 w3 w.heap.size 0 [.slice A n cap,.int .i64 (p3:Int),.bool b3]) (by omega)
  have D2V3:=hid d2
  have D1V3:=hid ((dk_below hb).trans d2)
  have HV3:=hid (show ((w3.setCell ⟨w.heap.size,0,none⟩ (.slice A n cap)).setCell ⟨w.heap.size,1,none⟩ (.int .i64 (p3:Int))).setCell ⟨w.heap.size,2,none⟩ (.bool b3)=V3 from hV)
  obtain ⟨q3,hq1,hq2,hq3⟩:=raft_step (Less.ends (must_less [40] q2)) hra (fun _ q=>Got.bind (name q) fun r q=>Got.bind (name q) fun t q=>Got.bind (bracketsG varF q) fun vs q=>metV r.s t vs q)
  have HQ3:=hid (HP0.out.move hq1 (Below.refl _ _))
  have HL3:=hid hq2
  have HB3:=hid (raft_false hra)
  have E3:=hid (show stop b l (methodR l)=stop b3 q3 (Got.bind (name q3) fun r q=>Got.bind (name q) fun t q=>Got.bind (bracketsG varF q) fun vs q=>metV r.s t vs q) from E2.out.trans <| (congrArg (stop b2 q2) (methodF_musts q2)).trans hq3)
  obtain ⟨y0,y1,y2,f0,f1,f2⟩:=KC.pk.three
  clear hra hb KC d2 hV hq1 hq2 hq3 C3 x0 x1 x2
  go_upto_region 4 with fail
  rw [HV3.out]
  clear y0 y1 y2 f0 f1 f2 
  obtain ⟨x0,x1,x2,-⟩:=KV3.out.pk.three
  have C4:=hid (rname_any A n cap p3 L q3 b3 V3 (HQ3.out.later KV3.out.pk.bel))
  go_wp2_with fail
  refine C4.out.mono ?_
  rintro e w4 ⟨rn,p4,b4,rfl,hzn,hra,hb,-⟩
  rw [show (plV A n cap p4 b4).toArray=#[.slice A n cap,.int .i64 p4,.bool b4] from rfl]
  have KC:=KV3.out.later hb
  obtain ⟨V4,hV⟩:∃ X,(w4.setCells w.heap.size 0 [.slice A n cap,.int .i64 (p4:Int),.bool b4]).setCell ⟨w.heap.size+3,5,none⟩ (.string rn.s)=X:=⟨_,rfl⟩
  have KV4:=hid (show Pz w V4 23 [.slice A n cap,.int .i64 (p4:Int),.bool b4] [.int .i64 3,.string ⟨#[]⟩,.slice none 0 0,.slice none 0 0,.slice none 0 0,.string rn.s,.slice none 0 0,.string ⟨#[]⟩,.slice none 0 0,.slice none 0 0,.string ⟨#[]⟩,.slice none 0 0,.int .i64 0,.int .i64 0,.int .i64 0,.string ⟨#[]⟩,.string ⟨#[]⟩,.slice none 0 0,.int .i64 0,.slice none 0 0,.slice none 0 0,.int .i64 0,.int .i64 0] from hV▸((KC.place [.slice A n cap,.int .i64 (p4:Int),.bool b4] rfl).field 5 (by decide) (.string rn.s)))
  have d2:Dk (w.heap.size+4) w4 V4:=hV▸(dk_gb (gb_sets1 w4 w.heap.size 0 [.slice A n cap,.int .i64 (p4:Int),.bool b4]) (by omega)).trans (dk_gb (gb_set (w4.setCells w.heap.size 0 [.slice A n cap,.int .i64 (p4:Int),.bool b4]) (w.heap.size+3) 5 (.string rn.s)) (by omega))
  have D2V4:=hid d2
  have D1V4:=hid ((dk_below hb).trans d2)
  have HV4:=hid (show (((w4.setCell ⟨w.heap.size,0,none⟩ (.slice A n cap)).setCell ⟨w.heap.size,1,none⟩ (.int .i64 (p4:Int))).setCell ⟨w.heap.size,2,none⟩ (.bool b4)).setCell ⟨w.heap.size+3,5,none⟩ (.string rn.s)=V4 from hV)
  obtain ⟨q4,hq1,hq2,hq3⟩:=raft_step (Less.ends (name_less q3)) hra (fun r q=>Got.bind (name q) fun t q=>Got.bind (bracketsG varF q) fun vs q=>metV r.s t vs q)
  have HQ4:=hid (HP0.out.move hq1 (Below.refl _ _))
  have E4:=hid (show stop b l (methodR l)=stop b4 q4 (Got.bind (name q4) fun t q=>Got.bind (bracketsG varF q) fun vs q=>metV rn.s t vs q) from E3.out.trans hq3)
  have HRN:=hid (show rn.s.size≤9223372036854775807 by have:=hzn;omega)
  obtain ⟨y0,y1,y2,f0,f1,f2⟩:=KC.pk.three
  have z5:=KC.box 5 _ rfl
  have g5:w4.frozen? ⟨w.heap.size+3,5,none⟩=false:=by have:=(KC.own 5 (by decide)).2;rwa [Nat.zero_add] at this
  clear hzn hra hb KC d2 hV hq1 hq2 hq3 C4 x0 x1 x2
  go_upto_region 5 with fail
  rw [HV4.out]
  clear y0 y1 y2 f0 f1 f2 z5 g5
  obtain ⟨x0,x1,x2,-⟩:=KV4.out.pk.three
  have C5:=hid (rname_any A n cap p4 L q4 b4 V4 (HQ4.out.later KV4.out.pk.bel))
  go_wp2_with fail
  refine C5.out.mono ?_
  rintro e w5 ⟨nm,p5,b5,rfl,hzn,hra,hb,-⟩
  rw [show (plV A n cap p5 b5).toArray=#[.slice A n cap,.int .i64 p5,.bool b5] from rfl]
  have KC:=KV4.out.later hb
  obtain ⟨V5,hV⟩:∃ X,((w5.setCells w.heap.size 0 [.slice A n cap,.int .i64 (p5:Int),.bool b5]).setCell ⟨w.heap.size+3,1,none⟩ (.string nm.s)).setCell ⟨w.heap.size+3,22,none⟩ (.int .i64 nm.o)=X:=⟨_,rfl⟩
  have KV5:=hid (show Pz w V5 23 [.slice A n cap,.int .i64 (p5:Int),.bool b5] [.int .i64 3,.string nm.s,.slice none 0 0,.slice none 0 0,.slice none 0 0,.string rn.s,.slice none 0 0,.string ⟨#[]⟩,.slice none 0 0,.slice none 0 0,.string ⟨#[]⟩,.slice none 0 0,.int .i64 0,.int .i64 0,.int .i64 0,.string ⟨#[]⟩,.string ⟨#[]⟩,.slice none 0 0,.int .i64 0,.slice none 0 0,.slice none 0 0,.int .i64 0,.int .i64 nm.o] from hV▸(((KC.place [.slice A n cap,.int .i64 (p5:Int),.bool b5] rfl).field 1 (by decide) (.string nm.s)).field 22 (by decide) (.int .i64 nm.o)))
  have d2:Dk (w.heap.size+4) w5 V5:=hV▸((dk_gb (gb_sets1 w5 w.heap.size 0 [.slice A n cap,.int .i64 (p5:Int),.bool b5]) (by omega)).trans (dk_gb (gb_set (w5.setCells w.heap.size 0 [.slice A n cap,.int .i64 (p5:Int),.bool b5]) (w.heap.size+3) 1 (.string nm.s)) (by omega))).trans (dk_gb (gb_set ((w5.setCells w.heap.size 0 [.slice A n cap,.int .i64 (p5:Int),.bool b5]).setCell ⟨w.heap.size+3,1,none⟩ (.string nm.s)) (w.heap.size+3) 22 (.int .i64 nm.o)) (by omega))
  have D2V5:=hid d2
  have D1V5:=hid ((dk_below hb).trans d2)
  have HV5:=hid (show ((((w5.setCell ⟨w.heap.size,0,none⟩ (.slice A n cap)).setCell ⟨w.heap.size,1,none⟩ (.int .i64 (p5:Int))).setCell ⟨w.heap.size,2,none⟩ (.bool b5)).setCell ⟨w.heap.size+3,1,none⟩ (.string nm.s)).setCell ⟨w.heap.size+3,22,none⟩ (.int .i64 nm.o)=V5 from hV)
  obtain ⟨q5,hq1,hq2,hq3⟩:=raft_step (Less.ends (name_less q4)) hra (fun t q=>Got.bind (bracketsG varF q) fun vs q=>metV rn.s t vs q)
  have HQ5:=hid (HP0.out.move hq1 (Below.refl _ _))
  have E5:=hid (show stop b l (methodR l)=stop b5 q5 (Got.bind (bracketsG varF q5) fun vs q=>metV rn.s nm vs q) from E4.out.trans hq3)
  have HNM:=hid (show nm.s.size≤9223372036854775807 by have:=hzn;omega)
  obtain ⟨y0,y1,y2,f0,f1,f2⟩:=KC.pk.three
  have z1:=KC.box 1 _ rfl
  have g1:w5.frozen? ⟨w.heap.size+3,1,none⟩=false:=by have:=(KC.own 1 (by decide)).2;rwa [Nat.zero_add] at this
  have z22:=KC.box 22 _ rfl
  have g22:w5.frozen? ⟨w.heap.size+3,22,none⟩=false:=by have:=(KC.own 22 (by decide)).2;rwa [Nat.zero_add] at this
  clear hzn hra hb KC d2 hV hq1 hq2 hq3 C5 x0 x1 x2
  go_wp2_with fail
  rw [HV5.out]
  clear y0 y1 y2 f0 f1 f2 z1 g1 z22 g22
  obtain ⟨lo,hlo⟩:∃ x,V5.heap.size=x:=⟨_,rfl⟩
  have HLO:=hid hlo
  have hlo4:w.heap.size+4≤lo:=hlo▸KV5.out.big
  clear hlo HV5 D1V5 D2V5 HV4 HV3 HV2 E4 E3 E2 KV4 KV3 KV2 HQ4 HQ3 HQ2 HL3 HL2 HB3 HB2 KV
  obtain ⟨i0,hi0,hz0,hz1,hz2⟩:=info_parts infoStr
  go_loopw [5] (fun sg wr=>∃ (sgn:ByteArray) (v:Value) (acc:List ByteArray) (q:List Tk) (p':Nat) (b':Bool) (m:Nat),sg=.string sgn∧LpM w wr lo A n cap L rn nm v acc q p' b'∧MtAt rn nm b l sgn acc q b' m∧sgn.size≤1) (fun _ wr=>200000-lenOf ((wr.cell? ⟨w.heap.size+3,6,none⟩).getD undef))
  case atStart=>exact ⟨⟨#[91]⟩,.slice none 0 0,[],q5,p5,b5,0,rfl,⟨KV5.out,HQ5.out,Built.nil _ _ _ _ _,⟨hlo4,by rw [HLO.out];exact Nat.le_refl _⟩,fun _=>by have:=pl_len HQ5.out;simp;omega,by simp⟩,.inl ⟨rfl,rfl,E5.out⟩,Nat.le_refl _⟩
  obtain ⟨sgn,v,acc,q,p6,b6,m,rfl,hr,hmt,hsn⟩:=hrel
  obtain ⟨B,kc,hv,-⟩:=hr.row.row (by omega) (by have:=hr.few.2;omega)
  subst hv
  have HR:=hid hr
  have HMT:=hid hmt
  have KR:=hid hr.pz
  have hfew:=hr.few.2
  have hbig:=hr.big.2
  have HQR:=hid hr.pl
  have C1:=hid (ris_any A n cap p6 L q b6 sgn wr (hr.pl.later hr.pz.pk.bel))
  obtain ⟨x0,x1,x2,-⟩:=KR.out.pk.three
  clear hr hmt KV5 E5 HQ5 HLO
  go_wp2_with fail
  refine C1.out.mono ?_
  rintro e w1 ⟨rfl,hb⟩
  have K1:=hid (KR.out.later hb)
  have RW1:=hid (show Built w1 False _ _ lo _ _ _ from HR.out.row.later hb)
  have hbig1:=Nat.le_trans hbig hb.size
  clear hb KR C1 x0 x1 x2
  cases hx:nextB b6 sgn.data.toList q
  · have HX:=hid hx
    clear hx
    go_upto_if 29 with fail
    obtain ⟨B2,kc2,e2,hrow2,-⟩:=RW1.out.row (by omega) (by omega)
    simp only [Value.slice.injEq] at e2
    obtain ⟨rfl,-,rfl⟩:=e2
    have HRW:=hid (hrow2.wide (S':=Fr (w.heap.size+4) w1) fun i hi=>⟨by have:=hi.1;omega,hi.2⟩)
    clear hrow2 RW1
    go_upto_region 13 with fail
    obtain ⟨cb,hcb⟩:∃ c,(sgn.data.toList==[44])=c:=⟨_,rfl⟩
    have HCB:=hid hcb
    clear hcb
    go_cut [47] from 46 to 47 (fun s47 wx=>s47=.bool cb∧wx=w1)
    case first =>
      have hcb:=HCB.out
      rcases HMT.out with ⟨-,rfl,-⟩ | ⟨rfl,-⟩
      · obtain rfl:false=cb:=hcb
        go_wp2_with fail
        go_meet
        exact ⟨rfl,rfl⟩
      obtain rfl:true=cb:=hcb
      go_wp2_with fail
      go_meet
      exact ⟨rfl,rfl⟩
    case rest =>
    obtain ⟨rfl,hw⟩:=hcut
    obtain rfl:=hw.symm
    go_upto_if 47 with fail
    go_cut [48] from 48 to 49 (fun _ wx=>∃ (q':List Tk) (p':Nat) (b':Bool),Pz w wx 23 [.slice A n cap,.int .i64 (p':Int),.bool b'] [.int .i64 3,.string nm.s,.slice none 0 0,.slice none 0 0,.slice none 0 0,.string rn.s,.slice B acc.length kc,.string ⟨#[]⟩,.slice none 0 0,.slice none 0 0,.string ⟨#[]⟩,.slice none 0 0,.int .i64 0,.int .i64 0,.int .i64 0,.string ⟨#[]⟩,.string ⟨#[]⟩,.slice none 0 0,.int .i64 0,.slice none 0 0,.slice none 0 0,.int .i64 0,.int .i64 nm.o]∧Row wx False (Fr (w.heap.size+4) wx) 1 B acc.length (acc.map Dat.str)∧Pl w A n L p' q'∧stop b l (methodR l)=stop b' q' (metV rn.s nm acc q'))
    case first =>
      have hcb:=HCB.out
      rcases HMT.out with ⟨ha,rfl,he⟩ | ⟨rfl,hm,he⟩
      · have HE:=hid (mt_end1 HX.out he ha)
        obtain rfl:false=cb:=hcb
        clear he
        go_wp2_with fail
        go_meet
        exact ⟨q,p6,b6,K1.out,HRW.out,HQR.out,HE.out⟩
      have HE:=hid (mt_end2 HX.out hm he)
      obtain rfl:true=cb:=hcb
      clear he hm
      obtain ⟨x0,x1,x2,-⟩:=K1.out.pk.three
      have C14:=hid (show Calls Tryz.prog 52 #[.agg #[.slice A n cap,.int .i64 (p6:Int),.bool b6],.string ⟨#[93]⟩] w1 (RMustPost A n cap L q b6 [93] w1) from rmust_any A n cap p6 L q b6 ⟨#[93]⟩ w1 (HQR.out.later K1.out.pk.bel))
      go_wp2_with fail
      refine C14.out.mono ?_
      rintro e w14 ⟨p14,b14,rfl,hra,hb⟩
      have KC:=K1.out.later hb
      obtain ⟨V14,hV⟩:∃ X,w14.setCells w.heap.size 0 [.slice A n cap,.int .i64 (p14:Int),.bool b14]=X:=⟨_,rfl⟩
      have KV14:=hid (show Pz w V14 23 [.slice A n cap,.int .i64 (p14:Int),.bool b14] [.int .i64 3,.string nm.s,.slice none 0 0,.slice none 0 0,.slice none 0 0,.string rn.s,.slice B acc.length kc,.string ⟨#[]⟩,.slice none 0 0,.slice none 0 0,.string ⟨#[]⟩,.slice none 0 0,.int .i64 0,.int .i64 0,.int .i64 0,.string ⟨#[]⟩,.string ⟨#[]⟩,.slice none 0 0,.int .i64 0,.slice none 0 0,.slice none 0 0,.int .i64 0,.int .i64 nm.o] from hV▸(KC.place [.slice A n cap,.int .i64 (p14:Int),.bool b14] rfl))
      have d2:Dk (w.heap.size+4) w14 V14:=hV▸dk_gb (gb_sets1 w14 w.heap.size 0 [.slice A n cap,.int .i64 (p14:Int),.bool b14]) (by omega)
      have D2V14:=hid d2
      have D1V14:=hid ((dk_below hb).trans d2)
      have HV14:=hid (show ((w14.setCell ⟨w.heap.size,0,none⟩ (.slice A n cap)).setCell ⟨w.heap.size,1,none⟩ (.int .i64 (p14:Int))).setCell ⟨w.heap.size,2,none⟩ (.bool b14)=V14 from hV)
      obtain ⟨q14,hq1,hq2,hq3⟩:=raft_step (Less.ends (must_less [93] q)) hra (fun _ q=>metV rn.s nm acc q)
      have HQ14:=hid (HP0.out.move hq1 (Below.refl _ _))
      have HL14:=hid hq2
      have HB14:=hid (raft_false hra)
      have E14:=hid (show stop b l (methodR l)=stop b14 q14 (metV rn.s nm acc q14) from HE.out.trans hq3)
      obtain ⟨y0,y1,y2,f0,f1,f2⟩:=KC.pk.three
      clear hra hb KC d2 hV hq1 hq2 hq3 C14 x0 x1 x2
      go_wp2_with fail
      skip
      skip
      go_meet
      rw [HV14.out]
      exact ⟨q14,p14,b14,KV14.out,D1V14.out.row (Nat.le_refl _) HRW.out,HQ14.out,E14.out⟩
    obtain ⟨q7,p7,b7,hz7,hrow7,hpl7,he7⟩:=hcut
    have Kwc:=hid hz7
    have HRW7:=hid hrow7
    have HQ7:=hid hpl7
    have E7:=hid he7
    clear hz7 hrow7 hpl7 he7 K1 HRW HMT HR HX HCB
    obtain ⟨x0,x1,x2,-⟩:=Kwc.out.pk.three
    have C8:=hid (show Calls Tryz.prog 52 #[.agg #[.slice A n cap,.int .i64 (p7:Int),.bool b7],.string ⟨#[41]⟩] wc (RMustPost A n cap L q7 b7 [41] wc) from rmust_any A n cap p7 L q7 b7 ⟨#[41]⟩ wc (HQ7.out.later Kwc.out.pk.bel))
    go_wp2_with fail
    refine C8.out.mono ?_
    rintro e w8 ⟨p8,b8,rfl,hra,hb⟩
    have KC:=Kwc.out.later hb
    obtain ⟨V8,hV⟩:∃ X,w8.setCells w.heap.size 0 [.slice A n cap,.int .i64 (p8:Int),.bool b8]=X:=⟨_,rfl⟩
    have KV8:=hid (show Pz w V8 23 [.slice A n cap,.int .i64 (p8:Int),.bool b8] [.int .i64 3,.string nm.s,.slice none 0 0,.slice none 0 0,.slice none 0 0,.string rn.s,.slice B acc.length kc,.string ⟨#[]⟩,.slice none 0 0,.slice none 0 0,.string ⟨#[]⟩,.slice none 0 0,.int .i64 0,.int .i64 0,.int .i64 0,.string ⟨#[]⟩,.string ⟨#[]⟩,.slice none 0 0,.int .i64 0,.slice none 0 0,.slice none 0 0,.int .i64 0,.int .i64 nm.o] from hV▸(KC.place [.slice A n cap,.int .i64 (p8:Int),.bool b8] rfl))
    have d2:Dk (w.heap.size+4) w8 V8:=hV▸dk_gb (gb_sets1 w8 w.heap.size 0 [.slice A n cap,.int .i64 (p8:Int),.bool b8]) (by omega)
    have D2V8:=hid d2
    have D1V8:=hid ((dk_below hb).trans d2)
    have HV8:=hid (show ((w8.setCell ⟨w.heap.size,0,none⟩ (.slice A n cap)).setCell ⟨w.heap.size,1,none⟩ (.int .i64 (p8:Int))).setCell ⟨w.heap.size,2,none⟩ (.bool b8)=V8 from hV)
    obtain ⟨q8,hq1,hq2,hq3⟩:=raft_step (Less.ends (must_less [41] q7)) hra (fun _ q=>Got.bind (sgF q) fun s q=>Got.bind (must [123] q) fun _ q=>Got.bind (must wReturn q) fun _ q=>Got.bind (exA q) fun e q=>Got.bind (must [125] q) fun _ q=>Got.bind (must [59] q) fun _ q=>.ok (⟨3,nm.s,[],[],[],rn.s,acc,s,e,nm.o⟩:Dc) q)
    have HQ8:=hid (HP0.out.move hq1 (Below.refl _ _))
    have HL8:=hid hq2
    have HB8:=hid (raft_false hra)
    have E8:=hid (show stop b l (methodR l)=stop b8 q8 (Got.bind (sgF q8) (fun s q=>Got.bind (must [123] q) fun _ q=>Got.bind (must wReturn q) fun _ q=>Got.bind (exA q) fun e q=>Got.bind (must [125] q) fun _ q=>Got.bind (must [59] q) fun _ q=>.ok (⟨3,nm.s,[],[],[],rn.s,acc,s,e,nm.o⟩:Dc) q)) from E7.out.trans hq3)
    obtain ⟨y0,y1,y2,f0,f1,f2⟩:=KC.pk.three
    clear hra hb KC d2 hV hq1 hq2 hq3 C8 x0 x1 x2
    go_upto_region 16 with fail
    rw [HV8.out]
    clear y0 y1 y2 f0 f1 f2 
    have HRW8:=hid (D1V8.out.row (Nat.le_refl _) HRW7.out)
    obtain ⟨x0,x1,x2,-⟩:=KV8.out.pk.three
    have C9:=hid (rsig_any8 A n cap p8 L q8 b8 V8 (HQ8.out.later KV8.out.pk.bel))
    go_wp2_with fail
    refine C9.out.mono ?_
    rintro e w9 ⟨s,us,p9,b9,rfl,hd,hra,hb⟩
    obtain ⟨y1,y2,y3,y4,y5,y6,y7,y8,y9,rfl⟩:=sg_opens hd
    have KC:=KV8.out.later hb
    obtain ⟨V9,hV⟩:∃ X,(w9.setCells w.heap.size 0 [.slice A n cap,.int .i64 (p9:Int),.bool b9]).setCells (w.heap.size+3) 7 [.string s.name,.slice y1 y2 y3,.slice y4 y5 y6,.string s.res.name,.slice y7 y8 y9,.int .i64 s.res.off,.int .i64 s.off]=X:=⟨_,rfl⟩
    have KV9:=hid (show Pz w V9 23 [.slice A n cap,.int .i64 (p9:Int),.bool b9] [.int .i64 3,.string nm.s,.slice none 0 0,.slice none 0 0,.slice none 0 0,.string rn.s,.slice B acc.length kc,.string s.name,.slice y1 y2 y3,.slice y4 y5 y6,.string s.res.name,.slice y7 y8 y9,.int .i64 s.res.off,.int .i64 s.off,.int .i64 0,.string ⟨#[]⟩,.string ⟨#[]⟩,.slice none 0 0,.int .i64 0,.slice none 0 0,.slice none 0 0,.int .i64 0,.int .i64 nm.o] from hV▸Pz.sub [.string s.name,.slice y1 y2 y3,.slice y4 y5 y6,.string s.res.name,.slice y7 y8 y9,.int .i64 s.res.off,.int .i64 s.off] 7 _ _ (KC.place [.slice A n cap,.int .i64 (p9:Int),.bool b9] rfl) (Nat.le_of_ble_eq_true rfl))
    have d2:Dk (w.heap.size+4) w9 V9:=hV▸(dk_gb (gb_sets1 w9 w.heap.size 0 [.slice A n cap,.int .i64 (p9:Int),.bool b9]) (by omega)).trans (dk_gb (gb_sets1 _ (w.heap.size+3) 7 _) (by omega))
    have D19:=hid ((dk_below hb).trans d2)
    have HSG9:=hid (show s.dat.In V9 False (Fr (w.heap.size+4) V9) [.string s.name,.slice y1 y2 y3,.slice y4 y5 y6,.string s.res.name,.slice y7 y8 y9,.int .i64 s.res.off,.int .i64 s.off] from d2.dat KV8.out.big hd)
    have HRW9:=hid (D19.out.row (Nat.le_refl _) HRW8.out)
    have T9:=hid (show (((w9.setCell ⟨w.heap.size,0,none⟩ (.slice A n cap)).setCell ⟨w.heap.size,1,none⟩ (.int .i64 (p9:Int))).setCell ⟨w.heap.size,2,none⟩ (.bool b9)).there (w.heap.size+3) 7 7 from there_sub (World.there_setCells KC.own w.heap.size 0 [.slice A n cap,.int .i64 (p9:Int),.bool b9]) (by decide))
    have O9:=hid (sg_one hd)
    have HV9:=hid (show (((w9.setCell ⟨w.heap.size,0,none⟩ (.slice A n cap)).setCell ⟨w.heap.size,1,none⟩ (.int .i64 (p9:Int))).setCell ⟨w.heap.size,2,none⟩ (.bool b9)).setCells (w.heap.size+3) 7 [.string s.name,.slice y1 y2 y3,.slice y4 y5 y6,.string s.res.name,.slice y7 y8 y9,.int .i64 s.res.off,.int .i64 s.off]=V9 from hV)
    obtain ⟨q9,hq1,hq2,hq3⟩:=raft_step (Less.ends (sgF_less q8)) hra (fun s q=>Got.bind (must [123] q) fun _ q=>Got.bind (must wReturn q) fun _ q=>Got.bind (exA q) fun e q=>Got.bind (must [125] q) fun _ q=>Got.bind (must [59] q) fun _ q=>.ok (⟨3,nm.s,[],[],[],rn.s,acc,s,e,nm.o⟩:Dc) q)
    have HQ9:=hid (HP0.out.move hq1 (Below.refl _ _))
    have E9:=hid (E8.out.trans hq3)
    obtain ⟨y00,y01,y02,f0,f1,f2⟩:=KC.pk.three
    clear hra hb hd KC d2 hV hq1 hq2 hq3 C9 x0 x1 x2
    go_upto_region 17 with (refine storeOp flatSg 57 56 (b:=w.heap.size+3) (o:=7) (us:=[.string s.name,.slice y1 y2 y3,.slice y4 y5 y6,.string s.res.name,.slice y7 y8 y9,.int .i64 s.res.off,.int .i64 s.off]) rfl rfl T9.out O9.out rfl ?_)
    rw [HV9.out]
    clear y00 y01 y02 f0 f1 f2 T9 O9
    obtain ⟨x0,x1,x2,-⟩:=KV9.out.pk.three
    have C10:=hid (show Calls Tryz.prog 52 #[.agg #[.slice A n cap,.int .i64 (p9:Int),.bool b9],.string ⟨#[123]⟩] V9 (RMustPost A n cap L q9 b9 [123] V9) from rmust_any A n cap p9 L q9 b9 ⟨#[123]⟩ V9 (HQ9.out.later KV9.out.pk.bel))
    go_wp2_with fail
    refine C10.out.mono ?_
    rintro e w10 ⟨p10,b10,rfl,hra,hb⟩
    have Kw10:=hid (KV9.out.later hb)
    have D110:=hid (dk_below (lo:=w.heap.size+4) hb)
    obtain ⟨q10,hq1,hq2,hq3⟩:=raft_step (Less.ends (must_less [123] q9)) hra (fun _ q=>Got.bind (must wReturn q) fun _ q=>Got.bind (exA q) fun e q=>Got.bind (must [125] q) fun _ q=>Got.bind (must [59] q) fun _ q=>.ok (⟨3,nm.s,[],[],[],rn.s,acc,s,e,nm.o⟩:Dc) q)
    have HQ10:=hid (HP0.out.move hq1 (Below.refl _ _))
    have E10:=hid (E9.out.trans hq3)
    have C11:=hid (show Calls Tryz.prog 52 #[.agg #[.slice A n cap,.int .i64 (p10:Int),.bool b10],.string ⟨#[114,101,116,117,114,110]⟩] w10 (RMustPost A n cap L q10 b10 wReturn w10) from rmust_any A n cap p10 L q10 b10 ⟨#[114,101,116,117,114,110]⟩ w10 (HQ10.out.later Kw10.out.pk.bel))
    clear hra hb hq1 hq2 hq3 C10 x0 x1 x2
    go_wp2_with fail
    refine C11.out.mono ?_
    rintro e w11 ⟨p11,b11,rfl,hra,hb⟩
    have KC:=Kw10.out.later hb
    obtain ⟨V11,hV⟩:∃ X,w11.setCells w.heap.size 0 [.slice A n cap,.int .i64 (p11:Int),.bool b11]=X:=⟨_,rfl⟩
    have KV11:=hid (show Pz w V11 23 [.slice A n cap,.int .i64 (p11:Int),.bool b11] [.int .i64 3,.string nm.s,.slice none 0 0,.slice none 0 0,.slice none 0 0,.string rn.s,.slice B acc.length kc,.string s.name,.slice y1 y2 y3,.slice y4 y5 y6,.string s.res.name,.slice y7 y8 y9,.int .i64 s.res.off,.int .i64 s.off,.int .i64 0,.string ⟨#[]⟩,.string ⟨#[]⟩,.slice none 0 0,.int .i64 0,.slice none 0 0,.slice none 0 0,.int .i64 0,.int .i64 nm.o] from hV▸(KC.place [.slice A n cap,.int .i64 (p11:Int),.bool b11] rfl))
    have d2:Dk (w.heap.size+4) w11 V11:=hV▸dk_gb (gb_sets1 w11 w.heap.size 0 [.slice A n cap,.int .i64 (p11:Int),.bool b11]) (by omega)
    have D2V11:=hid d2
    have D1V11:=hid ((dk_below hb).trans d2)
    have HV11:=hid (show ((w11.setCell ⟨w.heap.size,0,none⟩ (.slice A n cap)).setCell ⟨w.heap.size,1,none⟩ (.int .i64 (p11:Int))).setCell ⟨w.heap.size,2,none⟩ (.bool b11)=V11 from hV)
    obtain ⟨q11,hq1,hq2,hq3⟩:=raft_step (Less.ends (must_less wReturn q10)) hra (fun _ q=>Got.bind (exA q) fun e q=>Got.bind (must [125] q) fun _ q=>Got.bind (must [59] q) fun _ q=>.ok (⟨3,nm.s,[],[],[],rn.s,acc,s,e,nm.o⟩:Dc) q)
    have HQ11:=hid (HP0.out.move hq1 (Below.refl _ _))
    have E11:=hid (show stop b l (methodR l)=stop b11 q11 (Got.bind (exA q11) (fun e q=>Got.bind (must [125] q) fun _ q=>Got.bind (must [59] q) fun _ q=>.ok (⟨3,nm.s,[],[],[],rn.s,acc,s,e,nm.o⟩:Dc) q)) from E10.out.trans hq3)
    have D911:=hid (D110.out.trans D1V11.out)
    have HRW11:=hid (D911.out.row (Nat.le_refl _) HRW9.out)
    have HSG11:=hid (D911.out.dat (Nat.le_refl _) HSG9.out)
    obtain ⟨y0,y1,y2,f0,f1,f2⟩:=KC.pk.three
    clear hra hb KC d2 hV hq1 hq2 hq3 C11 HRW9 HSG9 HRW8 HRW7
    go_upto_region 18 with fail
    rw [HV11.out]
    clear y0 y1 y2 f0 f1 f2 
    obtain ⟨x0,x1,x2,-⟩:=KV11.out.pk.three
    go_upto_if 63 with fail
    go_cut [64] from 64 to 69 (fun _ wx=>∃ e z1 z2 z3 z4 z5 z6 z7 z8 z9 q' p' b',MtRel w wx A n cap L rn nm B kc acc s y1 y2 y3 y4 y5 y6 y7 y8 y9 e z1 z2 z3 z4 z5 z6 z7 z8 z9 q' p' b'∧stop b l (methodR l)=stop b' q' ((fun e q=>Got.bind (must [125] q) fun _ q=>Got.bind (must [59] q) fun _ q=>.ok (⟨3,nm.s,[],[],[],rn.s,acc,s,e,nm.o⟩:Dc) q) e q'))
    case first =>
      cases b11
      · have C12:=hid (rexpr_any (2*q11.length+2) A n cap p11 L q11 V11 (HQ11.out.later KV11.out.pk.bel) (Nat.le_refl _))
        go_wp2_with fail
        refine C12.out.mono ?_
        rintro e' w12 ⟨e,us,p12,b12,rfl,hd,hra,hb⟩
        obtain ⟨z1,z2,z3,z4,z5,z6,z7,z8,z9,rfl,-⟩:=ex_open hd
        have KC:=KV11.out.later hb
        obtain ⟨V12,hV⟩:∃ X,(w12.setCells w.heap.size 0 [.slice A n cap,.int .i64 (p12:Int),.bool b12]).setCells (w.heap.size+3) 14 [.int .i64 e.kind,.string e.name,.string e.ty.name,.slice z1 z2 z3,.int .i64 e.ty.off,.slice z4 z5 z6,.slice z7 z8 z9,.int .i64 e.off]=X:=⟨_,rfl⟩
        have KV12:=hid (show Pz w V12 23 [.slice A n cap,.int .i64 (p12:Int),.bool b12] [.int .i64 3,.string nm.s,.slice none 0 0,.slice none 0 0,.slice none 0 0,.string rn.s,.slice B acc.length kc,.string s.name,.slice y1 y2 y3,.slice y4 y5 y6,.string s.res.name,.slice y7 y8 y9,.int .i64 s.res.off,.int .i64 s.off,.int .i64 e.kind,.string e.name,.string e.ty.name,.slice z1 z2 z3,.int .i64 e.ty.off,.slice z4 z5 z6,.slice z7 z8 z9,.int .i64 e.off,.int .i64 nm.o] from hV▸Pz.sub [.int .i64 e.kind,.string e.name,.string e.ty.name,.slice z1 z2 z3,.int .i64 e.ty.off,.slice z4 z5 z6,.slice z7 z8 z9,.int .i64 e.off] 14 _ _ (KC.place [.slice A n cap,.int .i64 (p12:Int),.bool b12] rfl) (Nat.le_of_ble_eq_true rfl))
        have d2:Dk (w.heap.size+4) w12 V12:=hV▸(dk_gb (gb_sets1 w12 w.heap.size 0 [.slice A n cap,.int .i64 (p12:Int),.bool b12]) (by omega)).trans (dk_gb (gb_sets1 _ (w.heap.size+3) 14 _) (by omega))
        have D112:=hid ((dk_below hb).trans d2)
        have HEX12:=hid (show e.dat.In V12 False (Fr (w.heap.size+4) V12) [.int .i64 e.kind,.string e.name,.string e.ty.name,.slice z1 z2 z3,.int .i64 e.ty.off,.slice z4 z5 z6,.slice z7 z8 z9,.int .i64 e.off] from d2.dat KV11.out.big hd)
        have T12:=hid (show (((w12.setCell ⟨w.heap.size,0,none⟩ (.slice A n cap)).setCell ⟨w.heap.size,1,none⟩ (.int .i64 (p12:Int))).setCell ⟨w.heap.size,2,none⟩ (.bool b12)).there (w.heap.size+3) 14 8 from there_sub (World.there_setCells KC.own w.heap.size 0 [.slice A n cap,.int .i64 (p12:Int),.bool b12]) (by decide))
        have O12:=hid (ex_one hd)
        have HV12:=hid (show (((w12.setCell ⟨w.heap.size,0,none⟩ (.slice A n cap)).setCell ⟨w.heap.size,1,none⟩ (.int .i64 (p12:Int))).setCell ⟨w.heap.size,2,none⟩ (.bool b12)).setCells (w.heap.size+3) 14 [.int .i64 e.kind,.string e.name,.string e.ty.name,.slice z1 z2 z3,.int .i64 e.ty.off,.slice z4 z5 z6,.slice z7 z8 z9,.int .i64 e.off]=V12 from hV)
        obtain ⟨q12,hq1,hq2,-,hq3⟩:=raft_less (exA_less q11) (show RAft w12 A n L p12 b12 e (stop false q11 (exA q11)) from hra) (fun e q=>Got.bind (must [125] q) fun _ q=>Got.bind (must [59] q) fun _ q=>.ok (⟨3,nm.s,[],[],[],rn.s,acc,s,e,nm.o⟩:Dc) q)
        have HQ12:=hid (HP0.out.move hq1 (Below.refl _ _))
        have E12:=hid (E11.out.trans hq3)
        obtain ⟨y00,y01,y02,f0,f1,f2⟩:=KC.pk.three
        clear hra hb hd KC d2 hV hq1 hq2 hq3 C12 x0 x1 x2
        go_wp2_with (refine storeOp flatEx 69 68 (b:=w.heap.size+3) (o:=14) (us:=[.int .i64 e.kind,.string e.name,.string e.ty.name,.slice z1 z2 z3,.int .i64 e.ty.off,.slice z4 z5 z6,.slice z7 z8 z9,.int .i64 e.off]) rfl rfl T12.out O12.out rfl ?_)
        go_meet
        rw [HV12.out]
        exact ⟨e,z1,z2,z3,z4,z5,z6,z7,z8,z9,q12,p12,b12,⟨KV12.out,D112.out.row (Nat.le_refl _) HRW11.out,D112.out.dat (Nat.le_refl _) HSG11.out,HEX12.out,HQ12.out⟩,E12.out⟩
      go_wp2_with fail
      go_meet
      exact ⟨Ex.none?,none,0,0,none,0,0,none,0,0,q11,p11,true,⟨KV11.out,HRW11.out,HSG11.out,exNone_dat _ _ _,HQ11.out⟩,E11.out⟩
    obtain ⟨e,z1,z2,z3,z4,z5,z6,z7,z8,z9,q13,p13,b13,hrel,he13⟩:=hcut
    have HMR:=hid hrel
    have E13:=hid he13
    have Kwc:=hid hrel.pz
    have HQ13:=hid hrel.pl
    clear hrel he13 KV11 HRW11 HSG11 HQ11 E11 x0 x1 x2
    have KD:=hid (Kwc.out.up (B:=wc.heap.size) Kwc.out.big (Below.refl wc.heap.size wc).drew)
    have OD:=hid (show ∀ u∈([.int .i64 3,.string nm.s,.slice none 0 0,.slice none 0 0,.slice none 0 0,.string rn.s,.slice B acc.length kc,.string s.name,.slice y1 y2 y3,.slice y4 y5 y6,.string s.res.name,.slice y7 y8 y9,.int .i64 s.res.off,.int .i64 s.off,.int .i64 e.kind,.string e.name,.string e.ty.name,.slice z1 z2 z3,.int .i64 e.ty.off,.slice z4 z5 z6,.slice z7 z8 z9,.int .i64 e.off,.int .i64 nm.o]:List Value),u.oneCell'=true from fun u hu=>by simp only [List.mem_cons,List.not_mem_nil,or_false] at hu;rcases hu with rfl | rfl | rfl | rfl | rfl | rfl | rfl | rfl | rfl | rfl | rfl | rfl | rfl | rfl | rfl | rfl | rfl | rfl | rfl | rfl | rfl | rfl | rfl<;>rfl)
    have SS:(wc).rangeAt w.heap.size 0 [.slice A n cap,.int .i64 (p13:Int),.bool b13]∧(wc).rangeAt (w.heap.size+3) 0 [.int .i64 3,.string nm.s,.slice none 0 0,.slice none 0 0,.slice none 0 0,.string rn.s,.slice B acc.length kc,.string s.name,.slice y1 y2 y3,.slice y4 y5 y6,.string s.res.name,.slice y7 y8 y9,.int .i64 s.res.off,.int .i64 s.off,.int .i64 e.kind,.string e.name,.string e.ty.name,.slice z1 z2 z3,.int .i64 e.ty.off,.slice z4 z5 z6,.slice z7 z8 z9,.int .i64 e.off,.int .i64 nm.o]:=⟨fun j u hu=>by rw [Nat.zero_add];exact Kwc.out.pk.box j u hu,fun j u hu=>by rw [Nat.zero_add];exact Kwc.out.box j u hu⟩
    go_wp2_with fail
    refine wp_region_held_drew (S:=fun V=>V.rangeAt w.heap.size 0 [.slice A n cap,.int .i64 (p13:Int),.bool b13]∧V.rangeAt (w.heap.size+3) 0 [.int .i64 3,.string nm.s,.slice none 0 0,.slice none 0 0,.slice none 0 0,.string rn.s,.slice B acc.length kc,.string s.name,.slice y1 y2 y3,.slice y4 y5 y6,.string s.res.name,.slice y7 y8 y9,.int .i64 s.res.off,.int .i64 s.off,.int .i64 e.kind,.string e.name,.string e.ty.name,.slice z1 z2 z3,.int .i64 e.ty.off,.slice z4 z5 z6,.slice z7 z8 z9,.int .i64 e.off,.int .i64 nm.o]) (by kernel_rfl) SS (fun hS=>?_)
    clear SS
    refine wpAnyH_take (i:=0) (v:=.agg ([.slice A n cap,.int .i64 (p13:Int),.bool b13]:List Value).toArray) rfl (by kernel_rfl) (by kernel_rfl) (by kernel_rfl) (fun _ _ _ h=>h) (yieldsIf_load_mid rfl 60 (.tmp 1) rfl w.heap.size 0 rfl [.slice A n cap,.int .i64 (p13:Int),.bool b13] _ (fun V hV=>hV.1) Tryz.underlying60 rfl flatPl.size) (by assumption) ?_
    try simp only [Act.put,List.getElem_toArray,List.getElem_cons_zero,List.setIfInBounds_toArray,List.set_cons_zero,List.set_cons_succ]
    refine wpAnyH_take (i:=3) (v:=.agg ([.int .i64 3,.string nm.s,.slice none 0 0,.slice none 0 0,.slice none 0 0,.string rn.s,.slice B acc.length kc,.string s.name,.slice y1 y2 y3,.slice y4 y5 y6,.string s.res.name,.slice y7 y8 y9,.int .i64 s.res.off,.int .i64 s.off,.int .i64 e.kind,.string e.name,.string e.ty.name,.slice z1 z2 z3,.int .i64 e.ty.off,.slice z4 z5 z6,.slice z7 z8 z9,.int .i64 e.off,.int .i64 nm.o]:List Value).toArray) rfl (by kernel_rfl) (by kernel_rfl) (by kernel_rfl) (fun _ _ _ h=>h) (yieldsIf_load_mid rfl 36 (.tmp 4) rfl (w.heap.size+3) 0 rfl [.int .i64 3,.string nm.s,.slice none 0 0,.slice none 0 0,.slice none 0 0,.string rn.s,.slice B acc.length kc,.string s.name,.slice y1 y2 y3,.slice y4 y5 y6,.string s.res.name,.slice y7 y8 y9,.int .i64 s.res.off,.int .i64 s.off,.int .i64 e.kind,.string e.name,.string e.ty.name,.slice z1 z2 z3,.int .i64 e.ty.off,.slice z4 z5 z6,.slice z7 z8 z9,.int .i64 e.off,.int .i64 nm.o] _ (fun V hV=>hV.2) Tryz.underlying36 rfl flatDc.size) (by assumption) ?_
    try simp only [Act.put,List.getElem_toArray,List.getElem_cons_zero,List.getElem_cons_succ,List.setIfInBounds_toArray,List.set_cons_zero,List.set_cons_succ]
    have R0:=hid (HQ13.out.later KD.out.pk.bel)
    obtain ⟨X0,hX0⟩:∃ X,wc.drew=X:=⟨_,rfl⟩
    rw [hX0] at KD R0 hS ⊢
    have CC0:=hid (show Calls Tryz.prog 52 #[.agg #[.slice A n cap,.int .i64 (p13:Int),.bool b13],.string ⟨#[125]⟩] X0 (RMustPost A n cap L q13 b13 [125] X0) from rmust_any A n cap p13 L q13 b13 ⟨#[125]⟩ X0 R0.out)
    refine wpAnyH_ready (rs:=[1]) (by kernel_rfl) (by simp) ?_
    refine AllReadyH.cons rfl (fun K hK=>?_) AllReadyH.nil
    go_simp
    refine CC0.out.mono ?_
    rintro e Y0 ⟨pe0,be0,rfl,hra,hb⟩
    have KY0:=hid (KD.out.later hb)
    have SS:(Y0).rangeAt w.heap.size 0 [.slice A n cap,.int .i64 (p13:Int),.bool b13]∧(Y0).rangeAt (w.heap.size+3) 0 [.int .i64 3,.string nm.s,.slice none 0 0,.slice none 0 0,.slice none 0 0,.string rn.s,.slice B acc.length kc,.string s.name,.slice y1 y2 y3,.slice y4 y5 y6,.string s.res.name,.slice y7 y8 y9,.int .i64 s.res.off,.int .i64 s.off,.int .i64 e.kind,.string e.name,.string e.ty.name,.slice z1 z2 z3,.int .i64 e.ty.off,.slice z4 z5 z6,.slice z7 z8 z9,.int .i64 e.off,.int .i64 nm.o]:=⟨fun j u hu=>by rw [Nat.zero_add];exact KY0.out.pk.box j u hu,fun j u hu=>by rw [Nat.zero_add];exact KY0.out.box j u hu⟩
    refine hK.out _ _ SS (fun hS=>?_)
    clear hK K SS
    try simp only [Act.put,List.getElem_toArray,List.getElem_cons_zero,List.getElem_cons_succ,List.setIfInBounds_toArray,List.set_cons_zero,List.set_cons_succ]
    obtain ⟨qe0,hq1,hq2,hq3⟩:=raft_step (Less.ends (must_less [125] q13)) hra (fun _ q=>Got.bind (must [59] q) fun _ q=>.ok (⟨3,nm.s,[],[],[],rn.s,acc,s,e,nm.o⟩:Dc) q)
    have EE0:=hid (E13.out.trans hq3)
    have RR0:=hid (HP0.out.move hq1 KY0.out.pk.bel)
    have DK0:=hid (dk_below (lo:=w.heap.size+4) hb)
    clear hra hb hq1 hq2 hq3
    have CC1:=hid (show Calls Tryz.prog 52 #[.agg #[.slice A n cap,.int .i64 (pe0:Int),.bool be0],.string ⟨#[59]⟩] Y0 (RMustPost A n cap L qe0 be0 [59] Y0) from rmust_any A n cap pe0 L qe0 be0 ⟨#[59]⟩ Y0 RR0.out)
    refine wpAnyH_ready (rs:=[2]) (by kernel_rfl) (by simp) ?_
    refine AllReadyH.cons rfl (fun K hK=>?_) AllReadyH.nil
    go_simp
    refine CC1.out.mono ?_
    rintro e Y1 ⟨pe1,be1,rfl,hra,hb⟩
    have KY1:=hid (KY0.out.later hb)
    have SS:(Y1).rangeAt w.heap.size 0 [.slice A n cap,.int .i64 (p13:Int),.bool b13]∧(Y1).rangeAt (w.heap.size+3) 0 [.int .i64 3,.string nm.s,.slice none 0 0,.slice none 0 0,.slice none 0 0,.string rn.s,.slice B acc.length kc,.string s.name,.slice y1 y2 y3,.slice y4 y5 y6,.string s.res.name,.slice y7 y8 y9,.int .i64 s.res.off,.int .i64 s.off,.int .i64 e.kind,.string e.name,.string e.ty.name,.slice z1 z2 z3,.int .i64 e.ty.off,.slice z4 z5 z6,.slice z7 z8 z9,.int .i64 e.off,.int .i64 nm.o]:=⟨fun j u hu=>by rw [Nat.zero_add];exact KY1.out.pk.box j u hu,fun j u hu=>by rw [Nat.zero_add];exact KY1.out.box j u hu⟩
    refine hK.out _ _ SS (fun hS=>?_)
    clear hK K SS
    try simp only [Act.put,List.getElem_toArray,List.getElem_cons_zero,List.getElem_cons_succ,List.setIfInBounds_toArray,List.set_cons_zero,List.set_cons_succ]
    have HRA:=hid hra
    have DK1:=hid (DK0.out.trans (dk_below (lo:=w.heap.size+4) hb))
    clear hra hb
    have ht2:Y1.there (w.heap.size+1) 0 3:=KY1.out.pk.res 0 3 rfl
    have ht3:(Y1.setCells (w.heap.size+1) 0 [.slice A n cap,.int .i64 (pe1:Int),.bool be1]).there (w.heap.size+2) 0 23:=World.there_setCells (show Y1.there (w.heap.size+2) 0 23 from KY1.out.pk.res 1 23 rfl) _ _ _
    refine wpAnyH_ready (rs:=[4]) (by kernel_rfl) (by simp) ?_
    refine AllReadyH.cons rfl (fun K hK=>?_) AllReadyH.nil
    refine ready_store flatPl rfl (.tmp 2) (.tmp 72) rfl (b:=w.heap.size+1) (off:=0) (us:=[.slice A n cap,.int .i64 (pe1:Int),.bool be1]) rfl rfl ht2 pl_one rfl ?_
    have SS:(Y1.setCells (w.heap.size+1) 0 [.slice A n cap,.int .i64 (pe1:Int),.bool be1]).rangeAt w.heap.size 0 [.slice A n cap,.int .i64 (p13:Int),.bool b13]∧(Y1.setCells (w.heap.size+1) 0 [.slice A n cap,.int .i64 (pe1:Int),.bool be1]).rangeAt (w.heap.size+3) 0 [.int .i64 3,.string nm.s,.slice none 0 0,.slice none 0 0,.slice none 0 0,.string rn.s,.slice B acc.length kc,.string s.name,.slice y1 y2 y3,.slice y4 y5 y6,.string s.res.name,.slice y7 y8 y9,.int .i64 s.res.off,.int .i64 s.off,.int .i64 e.kind,.string e.name,.string e.ty.name,.slice z1 z2 z3,.int .i64 e.ty.off,.slice z4 z5 z6,.slice z7 z8 z9,.int .i64 e.off,.int .i64 nm.o]:=⟨World.rangeAt_setCells_apart hS.1 _ _ _ (.inl (by omega)),World.rangeAt_setCells_apart hS.2 _ _ _ (.inl (by omega))⟩
    refine hK.out _ _ SS (fun hS=>?_)
    clear hK K SS
    try simp only [Act.put,List.getElem_toArray,List.getElem_cons_zero,List.getElem_cons_succ]
    refine wpAnyH_ready (rs:=[5]) (by kernel_rfl) (by simp) ?_
    refine AllReadyH.cons rfl (fun K hK=>?_) AllReadyH.nil
    refine ready_store flatDc rfl (.tmp 3) (.tmp 73) rfl (b:=w.heap.size+2) (off:=0) (us:=[.int .i64 3,.string nm.s,.slice none 0 0,.slice none 0 0,.slice none 0 0,.string rn.s,.slice B acc.length kc,.string s.name,.slice y1 y2 y3,.slice y4 y5 y6,.string s.res.name,.slice y7 y8 y9,.int .i64 s.res.off,.int .i64 s.off,.int .i64 e.kind,.string e.name,.string e.ty.name,.slice z1 z2 z3,.int .i64 e.ty.off,.slice z4 z5 z6,.slice z7 z8 z9,.int .i64 e.off,.int .i64 nm.o]) rfl rfl ht3 OD.out rfl ?_
    have SS:((Y1.setCells (w.heap.size+1) 0 [.slice A n cap,.int .i64 (pe1:Int),.bool be1]).setCells (w.heap.size+2) 0 [.int .i64 3,.string nm.s,.slice none 0 0,.slice none 0 0,.slice none 0 0,.string rn.s,.slice B acc.length kc,.string s.name,.slice y1 y2 y3,.slice y4 y5 y6,.string s.res.name,.slice y7 y8 y9,.int .i64 s.res.off,.int .i64 s.off,.int .i64 e.kind,.string e.name,.string e.ty.name,.slice z1 z2 z3,.int .i64 e.ty.off,.slice z4 z5 z6,.slice z7 z8 z9,.int .i64 e.off,.int .i64 nm.o]).rangeAt w.heap.size 0 [.slice A n cap,.int .i64 (p13:Int),.bool b13]∧((Y1.setCells (w.heap.size+1) 0 [.slice A n cap,.int .i64 (pe1:Int),.bool be1]).setCells (w.heap.size+2) 0 [.int .i64 3,.string nm.s,.slice none 0 0,.slice none 0 0,.slice none 0 0,.string rn.s,.slice B acc.length kc,.string s.name,.slice y1 y2 y3,.slice y4 y5 y6,.string s.res.name,.slice y7 y8 y9,.int .i64 s.res.off,.int .i64 s.off,.int .i64 e.kind,.string e.name,.string e.ty.name,.slice z1 z2 z3,.int .i64 e.ty.off,.slice z4 z5 z6,.slice z7 z8 z9,.int .i64 e.off,.int .i64 nm.o]).rangeAt (w.heap.size+3) 0 [.int .i64 3,.string nm.s,.slice none 0 0,.slice none 0 0,.slice none 0 0,.string rn.s,.slice B acc.length kc,.string s.name,.slice y1 y2 y3,.slice y4 y5 y6,.string s.res.name,.slice y7 y8 y9,.int .i64 s.res.off,.int .i64 s.off,.int .i64 e.kind,.string e.name,.string e.ty.name,.slice z1 z2 z3,.int .i64 e.ty.off,.slice z4 z5 z6,.slice z7 z8 z9,.int .i64 e.off,.int .i64 nm.o]:=⟨World.rangeAt_setCells_apart hS.1 _ _ _ (.inl (by omega)),World.rangeAt_setCells_apart hS.2 _ _ _ (.inl (by omega))⟩
    refine hK.out _ _ SS (fun hS=>?_)
    clear hK K SS
    try simp only [Act.put,List.getElem_toArray,List.getElem_cons_zero,List.getElem_cons_succ]
    refine wpAnyH_done (by kernel_rfl) ?_ _
    clear hS
    go_wp2_with fail
    have hg1:=gb_sets1 Y1 (w.heap.size+1) 0 [.slice A n cap,.int .i64 (pe1:Int),.bool be1]
    have hg2:=gb_sets1 (Y1.setCells (w.heap.size+1) 0 [.slice A n cap,.int .i64 (pe1:Int),.bool be1]) (w.heap.size+2) 0 [.int .i64 3,.string nm.s,.slice none 0 0,.slice none 0 0,.slice none 0 0,.string rn.s,.slice B acc.length kc,.string s.name,.slice y1 y2 y3,.slice y4 y5 y6,.string s.res.name,.slice y7 y8 y9,.int .i64 s.res.off,.int .i64 s.off,.int .i64 e.kind,.string e.name,.string e.ty.name,.slice z1 z2 z3,.int .i64 e.ty.off,.slice z4 z5 z6,.slice z7 z8 z9,.int .i64 e.off,.int .i64 nm.o]
    have hfin:Below w.heap.size w ((Y1.setCells (w.heap.size+1) 0 [.slice A n cap,.int .i64 (pe1:Int),.bool be1]).setCells (w.heap.size+2) 0 [.int .i64 3,.string nm.s,.slice none 0 0,.slice none 0 0,.slice none 0 0,.string rn.s,.slice B acc.length kc,.string s.name,.slice y1 y2 y3,.slice y4 y5 y6,.string s.res.name,.slice y7 y8 y9,.int .i64 s.res.off,.int .i64 s.off,.int .i64 e.kind,.string e.name,.string e.ty.name,.slice z1 z2 z3,.int .i64 e.ty.off,.slice z4 z5 z6,.slice z7 z8 z9,.int .i64 e.off,.int .i64 nm.o]):=(KY1.out.pk.bel.trans (below_sets (by omega) _ _ _)).trans (below_sets (by omega) _ _ _)
    have hdk:Dk (w.heap.size+4) wc ((Y1.setCells (w.heap.size+1) 0 [.slice A n cap,.int .i64 (pe1:Int),.bool be1]).setCells (w.heap.size+2) 0 [.int .i64 3,.string nm.s,.slice none 0 0,.slice none 0 0,.slice none 0 0,.string rn.s,.slice B acc.length kc,.string s.name,.slice y1 y2 y3,.slice y4 y5 y6,.string s.res.name,.slice y7 y8 y9,.int .i64 s.res.off,.int .i64 s.off,.int .i64 e.kind,.string e.name,.string e.ty.name,.slice z1 z2 z3,.int .i64 e.ty.off,.slice z4 z5 z6,.slice z7 z8 z9,.int .i64 e.off,.int .i64 nm.o]):=(((show Dk (w.heap.size+4) wc X0 from hX0▸⟨Nat.le_refl _,fun _ _ _=>rfl⟩).trans DK1.out).trans (dk_gb hg1 (by omega))).trans (dk_gb hg2 (by omega))
    refine bodyPost_ret (results_rmethod _ rfl rfl (boxd_gb hg2 (by omega) (set_there (us:=[.slice A n cap,.int .i64 (pe1:Int),.bool be1]) ht2)) rfl (set_there (us:=[.int .i64 3,.string nm.s,.slice none 0 0,.slice none 0 0,.slice none 0 0,.string rn.s,.slice B acc.length kc,.string s.name,.slice y1 y2 y3,.slice y4 y5 y6,.string s.res.name,.slice y7 y8 y9,.int .i64 s.res.off,.int .i64 s.off,.int .i64 e.kind,.string e.name,.string e.ty.name,.slice z1 z2 z3,.int .i64 e.ty.off,.slice z4 z5 z6,.slice z7 z8 z9,.int .i64 e.off,.int .i64 nm.o]) ht3) rfl) rfl ?_
    refine ⟨⟨3,nm.s,[],[],[],rn.s,acc,s,e,nm.o⟩,_,pe1,be1,rfl,?_,?_,hfin⟩
    · refine Dat.In.wide (S:=Fr (w.heap.size+4) ((Y1.setCells (w.heap.size+1) 0 [.slice A n cap,.int .i64 (pe1:Int),.bool be1]).setCells (w.heap.size+2) 0 [.int .i64 3,.string nm.s,.slice none 0 0,.slice none 0 0,.slice none 0 0,.string rn.s,.slice B acc.length kc,.string s.name,.slice y1 y2 y3,.slice y4 y5 y6,.string s.res.name,.slice y7 y8 y9,.int .i64 s.res.off,.int .i64 s.off,.int .i64 e.kind,.string e.name,.string e.ty.name,.slice z1 z2 z3,.int .i64 e.ty.off,.slice z4 z5 z6,.slice z7 z8 z9,.int .i64 e.off,.int .i64 nm.o])) ?_ fun i hi=>⟨by have:=hi.1;omega,hi.2⟩
      exact dcMet_dat HNM.out HRN.out (hdk.row (Nat.le_refl _) HMR.out.vs) (hdk.dat (Nat.le_refl _) HMR.out.sig) (hdk.dat (Nat.le_refl _) HMR.out.body)
    rw [EE0.out]
    have hra:=RAft.move HP0.out HRA.out hfin
    cases be0
    · exact raft_ret hra (fun _=>(⟨3,nm.s,[],[],[],rn.s,acc,s,e,nm.o⟩:Dc)) rfl
    exact ⟨hra.1,hra.2⟩
  have HX:=hid hx
  obtain ⟨rfl,hi⟩:=nextB_cons hx
  obtain ⟨f,hf,he⟩:=mt_step HMT.out hi
  have HF:=hid hf
  have HE:=hid he
  obtain ⟨t1,r1,rfl,hk1,-⟩:=isT_cons hi
  have HPS:=hid (HQR.out.step hk1)
  have yp:(p6:Int)≤100000:=by have:=HQR.out.lt;have:=HQR.out.len;omega
  have yp0:(0:Int)≤p6:=by omega
  clear hx hi hk1 hf he
  go_upto_if 29 with fail
  obtain ⟨x0,x1,x2,f0,f1,f2⟩:=K1.out.pk.three
  obtain ⟨V2,hV2⟩:∃ X,w1.setCell ⟨w.heap.size,1,none⟩ (.int .i64 ((p6:Int)+1))=X:=⟨_,rfl⟩
  have KV2:=hid (show Pz w V2 23 [.slice A n cap,.int .i64 ((p6:Int)+1),.bool false] [.int .i64 3,.string nm.s,.slice none 0 0,.slice none 0 0,.slice none 0 0,.string rn.s,.slice B acc.length kc,.string ⟨#[]⟩,.slice none 0 0,.slice none 0 0,.string ⟨#[]⟩,.slice none 0 0,.int .i64 0,.int .i64 0,.int .i64 0,.string ⟨#[]⟩,.string ⟨#[]⟩,.slice none 0 0,.int .i64 0,.slice none 0 0,.slice none 0 0,.int .i64 0,.int .i64 nm.o] from hV2▸K1.out.placeAt 1 (by decide) (.int .i64 ((p6:Int)+1)))
  have RW2:=hid (show Built V2 False _ _ lo _ _ _ from hV2▸built_gb (gb_set w1 w.heap.size 1 (.int .i64 ((p6:Int)+1))) (by omega) RW1.out)
  have hbig2:lo≤V2.heap.size:=by have:=(gb_set w1 w.heap.size 1 (.int .i64 ((p6:Int)+1))).size;rw [hV2] at this;omega
  have HV2:=hid hV2
  clear hV2
  go_upto_region 10 with fail
  rw [HV2.out]
  clear x0 x1 x2 f0 f1 f2 RW1 K1
  obtain ⟨x0,x1,x2,-⟩:=KV2.out.pk.three
  have C4:=hid (show Calls Tryz.prog 53 #[.agg #[.slice A n cap,.int .i64 ((p6:Int)+1),.bool false]] V2 (RNamePost A n cap L r1 false V2) from rname_any A n cap (p6+1) L r1 false V2 (HPS.out.later KV2.out.pk.bel))
  go_wp2_with fail
  refine C4.out.mono ?_
  rintro e w3 ⟨t,p3,b3,rfl,hz,hra,hb,-⟩
  rw [show (plV A n cap p3 b3).toArray=#[.slice A n cap,.int .i64 p3,.bool b3] from rfl]
  have KC:=KV2.out.later hb
  obtain ⟨V3,hV⟩:∃ X,w3.setCells w.heap.size 0 [.slice A n cap,.int .i64 (p3:Int),.bool b3]=X:=⟨_,rfl⟩
  have KV3:=hid (show Pz w V3 23 [.slice A n cap,.int .i64 (p3:Int),.bool b3] [.int .i64 3,.string nm.s,.slice none 0 0,.slice none 0 0,.slice none 0 0,.string rn.s,.slice B acc.length kc,.string ⟨#[]⟩,.slice none 0 0,.slice none 0 0,.string ⟨#[]⟩,.slice none 0 0,.int .i64 0,.int .i64 0,.int .i64 0,.string ⟨#[]⟩,.string ⟨#[]⟩,.slice none 0 0,.int .i64 0,.slice none 0 0,.slice none 0 0,.int .i64 0,.int .i64 nm.o] from hV▸(KC.place [.slice A n cap,.int .i64 (p3:Int),.bool b3] rfl))
  have d2:Dk (w.heap.size+4) w3 V3:=hV▸dk_gb (gb_sets1 w3 w.heap.size 0 [.slice A n cap,.int .i64 (p3:Int),.bool b3]) (by omega)
  have D2V3:=hid d2
  have D1V3:=hid ((dk_below hb).trans d2)
  have HV3:=hid (show ((w3.setCell ⟨w.heap.size,0,none⟩ (.slice A n cap)).setCell ⟨w.heap.size,1,none⟩ (.int .i64 (p3:Int))).setCell ⟨w.heap.size,2,none⟩ (.bool b3)=V3 from hV)
  have RW3:=hid (show Built V3 False _ _ lo _ _ _ from hV▸built_gb (gb_sets1 w3 w.heap.size 0 _) (by omega) (RW2.out.later hb))
  have hbig3:lo≤V3.heap.size:=by have h1:=hb.size;have h2:=d2.size;omega
  obtain ⟨q3,hq1,hq2,hq3,hq4⟩:=raft_less (name_less r1) hra (fun t q=>Got.bind (moreG varF (f q) (acc++[t.s]) q) fun us q=>Got.bind (must [93] q) fun _ q=>metV rn.s nm us q)
  have HQ3:=hid (HP0.out.move hq1 (Below.refl _ _))
  have HL3:=hid (And.intro hq2 hq3)
  have HE3:=hid (HE.out.trans hq4)
  have HZ:=hid hz
  obtain ⟨y0,y1,y2,f0,f1,f2⟩:=KC.pk.three
  clear hra hb KC d2 hV hq1 hq2 hq3 hq4 C4 x0 x1 x2 hz
  go_upto_region 11 with fail
  rw [HV3.out]
  clear y0 y1 y2 f0 f1 f2 KV2 RW2 HE
  have hd:=str_in (w:=V3) (N:=False) (S:=Fr V3.heap.size V3) HZ.out
  obtain ⟨cs,S,hown,hrows,hzs,hS⟩:=RW3.out
  have HOW:=hid hown
  have hol:=fun g (hgg:(Value.slice B acc.length kc).ownBlock=some g)=>(hown.lt g hgg)
  have HSTP:=hid (fun (gg cp:Nat) (w5:World) h1 h2 h3=>built_more (w5:=w5) (gg:=gg) (cap:=cp) (T:=9) hown hrows hzs hS hd hbig3 (fun g hg=>(hol g hg).2) (rfl) h1 h2 h3)
  have HOL:=hid (fun g hg=>(hol g hg).1)
  have hb5:lo≤(V3.alloc (.cells #[.string t.s] 9)).heap.size:=by simp;omega
  have z3:=KV3.out.box 6 _ rfl
  have hlc:acc.length+1≤100003:=by omega
  clear hd hown hrows hzs hS hol
  go_upto_region 12 with (at_builtin;refine wpList_append_lies _ rfl _ _ 26 rfl lo 9 i0 _ 1 16 Tryz.underlying26 hi0 hz0 hz1 hz2 rfl (by omega) _ acc.length cs rfl (HOW.out.alloc _) ⟨V3.heap.size,0,none⟩ 1 1 [.string t.s] rfl rfl (World.news_of_block (cs:=#[.string t.s]) (t:=9) (fr:=(0,0)) (heap_alloc_new _ _)) (by simp [Value.oneCell']) (by omega) (by unfold maxLen;omega) (by omega) hb5 _ rfl ?_;intro gg cp w6 hown6 hgrow6 hat6 hlt6;have HO6:=hid (And.intro hown6 (And.intro hgrow6 hat6));clear hown6 hgrow6 hat6 hlt6;have hb6:Below lo V3 w6:=(((Below.refl V3.heap.size V3).alloc (Nat.le_refl _) _).mono (by omega)).trans (below_grown hb5 HO6.out.2.1 HOL.out);have K6:=hid (KV3.out.up hlo4 hb6);have z6:=K6.out.box 6 _ rfl;have g6:w6.frozen? ⟨w.heap.size+3,6,none⟩=false:=by (have:=(K6.out.own 6 (by decide)).2;rwa [Nat.zero_add] at this))
  obtain ⟨V6,hV6⟩:∃ X,w6.setCell ⟨w.heap.size+3,6,none⟩ (.slice (some ⟨gg,0,none⟩) (acc.length+1) cp)=X:=⟨_,rfl⟩
  rw [hV6]
  have hg6:=gb_set w6 (w.heap.size+3) 6 (.slice (some ⟨gg,0,none⟩) (acc.length+1) cp)
  rw [hV6] at hg6
  have KV6:=hid (show Pz w V6 23 [.slice A n cap,.int .i64 (p3:Int),.bool b3] [.int .i64 3,.string nm.s,.slice none 0 0,.slice none 0 0,.slice none 0 0,.string rn.s,.slice (some ⟨gg,0,none⟩) (acc.length+1) cp,.string ⟨#[]⟩,.slice none 0 0,.slice none 0 0,.string ⟨#[]⟩,.slice none 0 0,.int .i64 0,.int .i64 0,.int .i64 0,.string ⟨#[]⟩,.string ⟨#[]⟩,.slice none 0 0,.int .i64 0,.slice none 0 0,.slice none 0 0,.int .i64 0,.int .i64 nm.o] from hV6▸K6.out.field 6 (by decide) _)
  have RW6:=hid (show Built V6 False 9 1 lo (.slice (some ⟨gg,0,none⟩) (acc.length+1) cp) (acc++[t.s]).length ((acc++[t.s]).map Dat.str) from built_gb hg6 (by omega) (by
    have:=HSTP.out gg cp w6 HO6.out.1 HO6.out.2.1 (HO6.out.2.2.imp id fun h=>by simpa using h)
    rw [List.map_append,List.length_append]
    exact this))
  have hlq2:(acc++[t.s]).length=acc.length+1:=by simp
  have hs6:lo≤V6.heap.size:=by have h1:=hb6.size;have h2:=hg6.size;omega
  clear hV6 hg6 HO6 HSTP HOW K6 z6 g6 hb6 z3
  go_wp2_with fail
  go_roundw
  case rel =>
    refine ⟨⟨#[44]⟩,_,acc++[t.s],q3,p3,b3,f q3,rfl,⟨KV6.out,HQ3.out,RW6.out,⟨hlo4,hs6⟩,fun h=>?_,?_⟩,.inr ⟨rfl,fun h=>HF.out q3 (HL3.out.2 h),HE3.out⟩,Nat.le_refl _⟩
    · have h1:=HL3.out.2 h
      have h2:=HR.out.few.1 rfl
      simp only [List.length_cons] at h2
      rw [hlq2]
      omega
    have h2:=HR.out.few.1 rfl
    rw [hlq2]
    omega
  case measure =>
    have h1:=KV6.out.box 6 _ rfl
    have h2:=HR.out.pz.box 6 _ rfl
    rw [h1,h2]
    simp [lenOf]
    omega
