/- The walk of parse's program: it reads what the plain words say. The condition: the cursor stands in tokens of a text.
The walks of parse.whole at programs and declarations, and of parse.Program, parse.Decl and parse.Tree: they give what the plain words say of the text. The condition: the text has at most 40000 bytes.
The walk of parse.Tree: what parse.Program gives, and whether there is no error. The condition: the text has at most 40000 bytes. -/
import Derived.Test.YtkdlidakdknhjaaGreatDoorQDLwC
import Derived.Test.YtkdlidakdknhjaaGreatDoorQDPaG
import Derived.Test.YtkdlidakdknhjaaGreatDoorQDRdV
set_option maxRecDepth 100000
set_option maxHeartbeats 16000000
open Go.Lib (hid)
namespace Go.Proofs.YtkdlidakdknhjaaGreatDoor.Rd
open Go.RowKit
theorem strs_new (w:World) (c:Nat) (ss:List ByteArray) (hc:c<w.heap.size):Sts (w.alloc (.cells (ss.map Value.string).toArray 9)) w.heap.size c ss:=⟨fun k s hk=>by
  have h:=Boxd.new w (ss.map Value.string).toArray 9
  exact h k (.string s) (by simp [hk]),by omega⟩
theorem flatPg:Flat 49 9:=⟨by kernel_rfl,_,Tryz.underlying49,rfl⟩
theorem infoDcR:(Tryz.prog.info? 36).map (fun i=>(i.zero,i.size,i.bytes))=some (some (.agg #[.int .i64 0,.string ⟨#[]⟩,.slice none 0 0,.slice none 0 0,.slice none 0 0,.string ⟨#[]⟩,.slice none 0 0,.string ⟨#[]⟩,.slice none 0 0,.slice none 0 0,.string ⟨#[]⟩,.slice none 0 0,.int .i64 0,.int .i64 0,.int .i64 0,.string ⟨#[]⟩,.string ⟨#[]⟩,.slice none 0 0,.int .i64 0,.slice none 0 0,.slice none 0 0,.int .i64 0,.int .i64 0]),23,392):=by kernel_rfl
theorem pgMkR {w:World} {N:Prop} {S:Nat→Prop} {ds:List Dc} {e:Ex} {A:Option Addr} {cap:Nat} {us:List Value} (h1:Row w N S 23 A ds.length (ds.map Dc.dat)) (h2:e.dat.In w N S us):(Pg.mk ds e).dat.In w N S (.slice A ds.length cap :: us):=by
  rw [Pg.dat,Dat.In,Dat.Ins]
  refine ⟨[_],_,rfl,arr_of h1,?_⟩
  rw [Dat.Ins]
  exact ⟨us,[],by simp,h2,by rw [Dat.Ins]⟩
theorem pg_one {w:World} {S:Nat→Prop} {e:Ex} {A:Option Addr} {n cap:Nat} {us:List Value} (h2:e.dat.In w False S us):∀ u∈(.slice A n cap :: us:List Value),u.oneCell'=true:=by
  intro u hu
  rcases List.mem_cons.1 hu with rfl | hu
  · rfl
  exact ex_one h2 u hu
def progRest (ds:List Dc) (q:List Tk):Got Pg:=Got.bind (allF [[40],[41],[123],[95],[61]] q) fun _ q=>Got.bind (exA q) fun e q=>Got.bind (must [125] q) fun _ q=>.ok ⟨ds,e⟩ q
structure PgRel (w wr:World) (p c T:Nat) (v:Value) (m:Nat) (acc:List Dc) (d:Dc) (us:List Value) (q:List Tk) (b:Bool) (D s2:Nat) (dv:Value):Prop where
  ptr:v=.pointer (some ⟨D,0,none⟩)
  cur:Cur wr c q b
  ps:Ps wr p c
  res:wr.there w.heap.size 0 9
  tbox:Boxd wr T [dv,.int .i64 0,.string ⟨#[]⟩,.string ⟨#[]⟩,.slice none 0 0,.int .i64 0,.slice none 0 0,.slice none 0 0,.int .i64 0]
  town:wr.there T 0 9
  dbox:Boxd wr D us
  dat:d.dat.In wr False (Fr s2 wr) us
  row:Built wr False 36 23 (T+1) dv acc.length (acc.map Dc.dat)
  own:∀ g,dv.ownBlock=some g→g<s2∧g≠D
  dne:D≠T
  lo:T+1≤s2
  big:s2≤wr.heap.size
  gb:w.grownBy wr (some c)
  fuel:b=false→q.length+1≤m
  few:acc.length+q.length≤100001+(if b then (if d.kind=0 then 2 else 1) else 0)
theorem aft_next4 {α β:Type} {w:World} {c:Nat} {t:α} {b:Bool} {r:List Tk} {g:Got α} (he:Got.Less r g) (h:Aft w c t (stop b r g)) (f:α→List Tk→Got β) :
    ∃ q d,Cur w c q d∧q.length≤r.length∧(d=false→b=false∧q.length<r.length)∧(b=true→d=true∧q=r)∧stop b r (Got.bind g f)=if d then .bad q else f t q:=by
  cases b
  · cases g with
    | ok u q=>obtain ⟨rfl,h2⟩:=h;exact ⟨q,false,h2,Nat.le_of_lt he.2,fun _=>⟨rfl,he.2⟩,(fun h=>by cases h),rfl⟩
    | bad q=>exact ⟨q,true,h,he.length_le,(fun h=>by cases h),(fun h=>by cases h),rfl⟩
  exact ⟨r,true,h,Nat.le_refl _,(fun h=>by cases h),fun _=>⟨rfl,rfl⟩,rfl⟩
theorem app_below {wr w5:World} {T n z:Nat} {o:Obj} {e:TypeId} {v:Value} {cs:List Value} (hown:wr.ownsRow (T+1) e z v n cs) (hT:T+1≤wr.heap.size) (hgrow:(wr.alloc o).grownBy w5 v.ownBlock):Below (T+1) wr w5 :=
  (((Below.refl wr.heap.size wr).alloc (Nat.le_refl _) o).mono hT).trans (below_grown (by simp;omega) hgrow fun g hg=>(hown.lt g hg).1)
theorem PgRel.bound {w wr:World} {p c T:Nat} {v:Value} {m:Nat} {acc:List Dc} {d:Dc} {us:List Value} {q:List Tk} {b:Bool} {D s2:Nat} {dv:Value} (h:PgRel w wr p c T v m acc d us q b D s2 dv):acc.length+q.length≤100003:=by
  have:=h.few
  split at this
  · split at this<;>omega
  omega
theorem results_program {w:World} {b:Nat} {us:List Value} (tmps:Array Value) (ht:tmps[2]?.getD undef=.pointer (some ⟨b,0,none⟩)) (hc:Boxd w b us) (hl:us.length=9):(results Tryz.f44 tmps).run Tryz.prog w=.ok (.agg us.toArray) w:=by
  have h:=run_cell flatPg hc hl
  have h2:=run_addr ⟨b,0,none⟩ w
  simp [results,Tryz.results44,ht,h,h2,Sem.run_bind,Result.andThen]
theorem program_any (p c:Nat) (l:List Tk) (b:Bool) (w:World) (h:Cur w c l b) (hp:Ps w p c):Calls Tryz.prog 44 #[.pointer (some ⟨p,0,none⟩)] w (ItRet Pg.dat c l b w (progF l)):=by
  have hlt:=h.lt
  have hpl:=hp.lt
  have HLN:=hid h.len
  obtain ⟨i0,hi0,hz0,hz1,hz2⟩:=info_parts infoDcR
  obtain ⟨W0,hW0⟩:∃ W,w.alloc (.cells #[.slice none 0 0,.int .i64 0,.string ⟨#[]⟩,.string ⟨#[]⟩,.slice none 0 0,.int .i64 0,.slice none 0 0,.slice none 0 0,.int .i64 0] 49)=W:=⟨_,rfl⟩
  have hb0:Below w.heap.size w W0:=hW0▸(Below.refl _ _).alloc (Nat.le_refl _) _
  have hs0:W0.heap.size=w.heap.size+1:=by rw [←hW0];simp
  obtain ⟨W1,hW1⟩:∃ W,W0.alloc (.cells #[.string ⟨#[112,97,99,107,97,103,101]⟩,.string ⟨#[109,97,105,110]⟩,.string ⟨#[59]⟩] 9)=W:=⟨_,rfl⟩
  have hb1:Below W0.heap.size W0 W1:=hW1▸(Below.refl _ _).alloc (Nat.le_refl _) _
  have hs1:W1.heap.size=w.heap.size+2:=by rw [←hW1];simp;omega
  have hall:=hb0.trans (hb1.mono hb0.size)
  have HW0:=hid hW0
  have HW1:=hid hW1
  have HS0:=hid hs0
  have P1:=hid (hp.later hall)
  have G1:=hid (gb_of (some c) hall)
  have T1:=hid (there_up (show W0.there w.heap.size 0 9 from hW0▸there_new w #[.slice none 0 0,.int .i64 0,.string ⟨#[]⟩,.string ⟨#[]⟩,.slice none 0 0,.int .i64 0,.slice none 0 0,.slice none 0 0,.int .i64 0] 49) (by omega) hb1)
  have C1:=hid (mustAll_any p c W0.heap.size 3 3 [⟨#[112,97,99,107,97,103,101]⟩,⟨#[109,97,105,110]⟩,⟨#[59]⟩] l b W1 (h.later hall) P1.out (hW1▸strs_new W0 c [⟨#[112,97,99,107,97,103,101]⟩,⟨#[109,97,105,110]⟩,⟨#[59]⟩] (by omega)) rfl (by omega))
  rw [hs0] at C1
  clear h hp hW0 hW1 hb0 hb1 hall hs0
  go_enter Tryz.func44,Tryz.ntmps44
  go_upto_region 1 with fail
  rw [HW0.out]
  have hs0:=HS0.out
  go_wp2_with fail
  rw [HW1.out]
  refine C1.out.mono ?_
  rintro e w1 ⟨rfl,ha,hg⟩
  obtain ⟨q1,d1,hcur,hql,-,heq⟩:=aft_next3 (allF_ends [wPackage,wMain,[59]] l) ha (fun _ q=>Got.bind (declsF (q.length+1) [] q) fun ds q=>progRest ds q)
  have E1:=hid (show stop b l (progF l)=_ from heq.trans (stop_if _ _ _))
  have P2:=hid (P1.out.gb hg)
  have G2:=hid (gb_trans G1.out hg)
  have T2:=hid (there_gb T1.out (by omega) (by omega) hg)
  obtain ⟨T,hT⟩:∃ T,w1.heap.size=T:=⟨_,rfl⟩
  have hTw:w.heap.size+2≤T:=by have:=hg.size;omega
  obtain ⟨W2,hW2⟩:∃ W,w1.alloc (.cells #[.slice none 0 0,.int .i64 0,.string ⟨#[]⟩,.string ⟨#[]⟩,.slice none 0 0,.int .i64 0,.slice none 0 0,.slice none 0 0,.int .i64 0] 49)=W:=⟨_,rfl⟩
  have hb2:Below w1.heap.size w1 W2:=hW2▸(Below.refl _ _).alloc (Nat.le_refl _) _
  have hs2:W2.heap.size=T+1:=by rw [←hW2,←hT];simp
  have HW2:=hid hW2
  have HT:=hid hT
  have P3:=hid (P2.out.later hb2)
  have G3:=hid (gb_trans G2.out (gb_of (some c) hb2))
  have T3:=hid (there_up T2.out (by omega) hb2)
  have X3:=hid (show Boxd W2 T [.slice none 0 0,.int .i64 0,.string ⟨#[]⟩,.string ⟨#[]⟩,.slice none 0 0,.int .i64 0,.slice none 0 0,.slice none 0 0,.int .i64 0] from hT▸hW2▸Boxd.new w1 #[.slice none 0 0,.int .i64 0,.string ⟨#[]⟩,.string ⟨#[]⟩,.slice none 0 0,.int .i64 0,.slice none 0 0,.slice none 0 0,.int .i64 0] 49)
  have O3:=hid (show W2.there T 0 9 from hT▸hW2▸there_new w1 #[.slice none 0 0,.int .i64 0,.string ⟨#[]⟩,.string ⟨#[]⟩,.slice none 0 0,.int .i64 0,.slice none 0 0,.slice none 0 0,.int .i64 0] 49)
  have C3:=hid (declOrMain_any p c q1 d1 W2 (hcur.later hb2) P3.out)
  clear ha hg hcur heq hW2 hb2 hT C1 P1 G1 T1 P2 G2 T2 hs0
  go_upto_region 3 with fail
  rw [HW2.out,HT.out]
  go_wp2_with fail
  refine C3.out.mono ?_
  rintro e w3 ⟨t,us,rfl,hd,ha,hg,hk⟩
  obtain ⟨q3,d3,hcur,hq3,hls,heq⟩:=aft_next2 (declOrMainF_less q1) ha (fun d q=>Got.bind (if d.kind=0 then .ok [] q else declsF q1.length [d] q) fun ds q=>progRest ds q)
  have E3:=hid (show stop b l (progF l)=if d3 then .bad q3 else Got.bind (if t.kind=0 then .ok [] q3 else declsF q1.length ([]++[t]) q3) fun ds q=>progRest ds q from by
    rw [E1.out,show (Got.bind (declsF (q1.length+1) [] q1) fun ds q=>progRest ds q)=Got.bind (declOrMainF q1) fun d q=>Got.bind (if d.kind=0 then .ok [] q else declsF q1.length [d] q) fun ds q=>progRest ds q from by rw [declsF,bind_bind];rfl]
    exact heq)
  have HK3:=hid hk
  obtain ⟨V3,hV3,hbV3,bxV3,-,th30⟩:=putD w3 (dc_one hd).2
  have hgV3:W2.grownBy V3 (some c):=gb_trans hg (gb_of (some c) hbV3)
  have hs3:=hg.size
  have R0:=hid (show PgRel w V3 p c T (.pointer (some ⟨w3.heap.size,0,none⟩)) q1.length [] t us q3 d3 w3.heap.size W2.heap.size (.slice none 0 0) from
    ⟨rfl,hcur.later hbV3,(P3.out.gb hg).later hbV3,there_up (there_gb T3.out (by omega) (by omega) hg) (by omega) hbV3,boxd_gb hgV3 (by omega) X3.out,there_gb O3.out (by omega) (by omega) hgV3,bxV3,
      Dat.In.keep id (gb_kept (gb_of (some 0) hbV3) fun k hk=>⟨hk.2,by have:=hk.1;omega⟩) (fun k hk=>⟨hk.1,Nat.lt_of_lt_of_le hk.2 hbV3.size⟩) _ _ hd,Built.nil _ _ _ _ _,(fun g hgg=>by cases hgg),by omega,by omega,Nat.le_trans hs3 hbV3.size,gb_trans G3.out hgV3,(fun hd3=>by have:=(hls hd3).2;omega),(by
        have:=HLN.out
        simp only [List.length_nil]
        split
        · split<;>omega
        omega)⟩)
  have T30:=hid th30
  have O30:=hid (dc_one hd)
  have HV3:=hid hV3
  clear hd ha hg hk hcur heq hls hV3 hbV3 bxV3 th30 hgV3 C3 P3 G3 T3 X3 O3 E1
  go_wp2_with (refine storeOp flatDc 4 9 (b:=w3.heap.size) (o:=0) (us:=us) rfl rfl T30.out O30.out.1 O30.out.2 ?_;rw [HV3.out])
  simp only [Act.put]
  go_loopw [4] (fun v wr=>∃ m acc d us q b' D s2 dv,PgRel w wr p c T v m acc d us q b' D s2 dv∧stop b l (progF l)=if b' then .bad q else Got.bind (if d.kind=0 then .ok acc q else declsF m (acc++[d]) q) fun ds q=>progRest ds q) (fun _ wr=>300000-lenOf ((wr.cell? ⟨T,0,none⟩).getD .nilIface))
  case atStart=>exact ⟨_,_,_,_,_,_,_,_,_,R0.out,E3.out⟩
  clear E3 R0 T30 O30 HV3
  obtain ⟨m,acc,d,us,q,b',D,s2,dv,hr,he⟩:=hrel
  have HR:=hid hr
  have HE:=hid he
  obtain ⟨A,cap,hv,-⟩:=hr.row.row (by omega) (by have:=hr.bound;omega)
  subst hv
  have hbd:=hr.bound
  have hptr:=hr.ptr
  subst hptr
  have hdat:=hr.dat
  obtain ⟨F,nf,cf,M,nm,cm,G,ng,cg,V,nv,cv,F2,nf2,cf2,P2',np2,cp2,A2,m2,a2,A3,m3,a3,B3,l3,b3,C3',n3,c3,rfl,-⟩:=dc_opens hdat
  have x0:=hr.dbox 0 _ rfl
  have hsw:=hr.gb.size
  have hlo:=hr.lo
  have hbg:=hr.big
  clear hr he hdat
  by_cases hk:d.kind=0
  · have e0:(d.kind != 0)=false:=by rw [hk];rfl
    have HE2:=hid (show stop b l (progF l)=stop b' q (progRest acc q) from by
      rw [HE.out]
      cases b'
      · rw [if_neg (by decide),if_pos hk];rfl
      rfl)
    obtain ⟨V1,hV1⟩:∃ W,wr.alloc (.cells #[.string ⟨#[40]⟩,.string ⟨#[41]⟩,.string ⟨#[123]⟩,.string ⟨#[95]⟩,.string ⟨#[61]⟩] 9)=W:=⟨_,rfl⟩
    have hb1:Below wr.heap.size wr V1:=hV1▸(Below.refl _ _).alloc (Nat.le_refl _) _
    have HV1:=hid hV1
    have P1:=hid (HR.out.ps.later hb1)
    have C1:=hid (mustAll_any p c wr.heap.size 5 5 [⟨#[40]⟩,⟨#[41]⟩,⟨#[123]⟩,⟨#[95]⟩,⟨#[61]⟩] q b' V1 (HR.out.cur.later hb1) P1.out (hV1▸strs_new wr c [⟨#[40]⟩,⟨#[41]⟩,⟨#[123]⟩,⟨#[95]⟩,⟨#[61]⟩] (by omega)) rfl (by omega))
    have hG1:=gb_of (some c) hb1
    have HG1:=hid hG1
    clear hV1 hb1 hG1
    go_wp2_with fail
    rw [HV1.out]
    refine C1.out.mono ?_
    rintro e w4 ⟨rfl,ha,hg⟩
    obtain ⟨q4,d4,hcur,-,-,heq⟩:=aft_next3 (allF_ends [[40],[41],[123],[95],[61]] q) ha (fun _ q=>Got.bind (exA q) fun e q=>Got.bind (must [125] q) fun _ q=>Got.ok (Pg.mk acc e) q)
    have E4:=hid (HE2.out.trans (heq.trans (stop_if _ _ _)))
    have HG4:=hid (gb_trans HG1.out hg)
    have P4:=hid (P1.out.gb hg)
    have C4:=hid (expr_any (2*q4.length+2) c q4 d4 w4 hcur (fun _=>by omega))
    clear ha hg hcur heq C1 P1 x0 HV1 e0
    have x0:=P4.out.at_
    go_wp2_with fail
    refine C4.out.mono ?_
    rintro e w5 ⟨e5,vs,rfl,hd,ha,hg⟩
    obtain ⟨y1,y2,y3,y4,y5,y6,y7,y8,y9,rfl,-⟩:=ex_open hd
    obtain ⟨q5,d5,hcur,-,-,heq⟩:=aft_next2 (exA_less q4) ha (fun e q=>Got.bind (must [125] q) fun _ q=>Got.ok (Pg.mk acc e) q)
    have E5:=hid (E4.out.trans (heq.trans (stop_if _ _ _)))
    have hg5:=gb_trans HG4.out hg
    have hsz5:=HG4.out.size
    have R5:=built_gb hg5 (by omega:c<T+1) HR.out.row
    obtain ⟨A5,cap5,e2,hrow5,-⟩:=R5.row (by omega) (by omega)
    injection e2 with e2 e3 e4
    subst e2 e4
    have tb5:=boxd_gb hg5 (by omega:T≠c) HR.out.tbox
    have to5:=there_gb HR.out.town (by omega) (by omega:T≠c) hg5
    obtain ⟨V6,hV6⟩:∃ X,w5.setCells T 1 [.int .i64 e5.kind,.string e5.name,.string e5.ty.name,.slice y1 y2 y3,.int .i64 e5.ty.off,.slice y4 y5 y6,.slice y7 y8 y9,.int .i64 e5.off]=X:=⟨_,rfl⟩
    have hgT:w5.grownBy V6 (some T):=hV6▸gb_sets1 _ _ _ _
    have hbT:Below T w5 V6:=gb_below hgT (by have:=hg5.size;omega)
    have BX6:=hid (show Boxd V6 T [.slice A acc.length cap,.int .i64 e5.kind,.string e5.name,.string e5.ty.name,.slice y1 y2 y3,.int .i64 e5.ty.off,.slice y4 y5 y6,.slice y7 y8 y9,.int .i64 e5.off] from hV6▸(boxd_one (boxd_one (boxd_one (boxd_one (boxd_one (boxd_one (boxd_one (boxd_one (tb5) (by simp)) (by simp)) (by simp)) (by simp)) (by simp)) (by simp)) (by simp)) (by simp)))
    have R6:=hid (row_gb hgT (by omega) hrow5)
    have D6:=hid (in_gb hgT (by omega:T<T+1) (hd.wide (S':=Fr (T+1) w5) fun i hi=>⟨by have:=hi.1;omega,hi.2⟩))
    have P6:=hid ((P4.out.gb hg).up (by omega) hbT)
    have T6:=hid (there_up (there_gb HR.out.res (by omega) (by omega) hg5) (by omega) hbT)
    have G6:=hid (show w.grownBy V6 (some c) from by
      have h1:=gb_trans HR.out.gb hg5
      exact ⟨hbT.os.trans h1.os,hbT.tape.trans h1.tape,hbT.output.trans h1.output,Nat.le_trans h1.size hbT.size,fun i hi hne=>(hbT.block i (by omega)).trans (h1.block i hi hne)⟩)
    have C6:=hid (show Calls Tryz.prog 86 #[.pointer (some ⟨c,0,none⟩),.string ⟨#[125]⟩] V6 (MustPost c q5 d5 [125] V6) from must_any c q5 d5 ⟨#[125]⟩ V6 (Cur.up hcur (hbT.mono (by omega))))
    have TS:=hid (there_sub to5 (show 1+8≤9 by omega))
    have O5:=hid (ex_one hd)
    have HV6:=hid hV6
    have hTV:T<V6.heap.size:=by have:=hg5.size;have:=hbT.size;omega
    clear hd ha hg hcur heq hg5 R5 hrow5 tb5 to5 hV6 hgT hbT C4 P4 x0
    go_upto_region 11 with (refine storeOp flatEx 30 29 (b:=T) (o:=1) (us:=[.int .i64 e5.kind,.string e5.name,.string e5.ty.name,.slice y1 y2 y3,.int .i64 e5.ty.off,.slice y4 y5 y6,.slice y7 y8 y9,.int .i64 e5.off]) rfl rfl TS.out O5.out rfl ?_;rw [HV6.out])
    have x0:=P6.out.at_
    go_wp2_with fail
    refine C6.out.mono ?_
    rintro e w7 ⟨rfl,ha,hg⟩
    have HA:=hid ha
    have R7:=row_gb hg (by omega) R6.out
    have D7:=in_gb hg (by omega) D6.out
    have HIN:=hid (pgMkR (cap:=cap) R7 D7)
    have HO7:=hid (pg_one (A:=A) (n:=acc.length) (cap:=cap) D7)
    have HX:=hid (boxd_at0 (boxd_gb hg (by omega:T≠c) BX6.out))
    have G7:=hid (gb_trans G6.out hg)
    have T7:=hid (there_gb T6.out (by have:=G6.out.size;omega) (by omega) hg)
    clear ha hg R7 D7 C6 x0 BX6
    go_wp2_with (first | (refine loadOp flatPg 3 36 rfl HX.out rfl ?_) | (refine storeOp flatPg 2 36 (b:=w.heap.size) (o:=0) (us:=[.slice A acc.length cap,.int .i64 e5.kind,.string e5.name,.string e5.ty.name,.slice y1 y2 y3,.int .i64 e5.ty.off,.slice y4 y5 y6,.slice y7 y8 y9,.int .i64 e5.off]) rfl rfl T7.out HO7.out rfl ?_))
    refine bodyPost_ret (results_program _ rfl (set_there (us:=[.slice A acc.length cap,.int .i64 e5.kind,.string e5.name,.string e5.ty.name,.slice y1 y2 y3,.int .i64 e5.ty.off,.slice y4 y5 y6,.slice y7 y8 y9,.int .i64 e5.off]) T7.out) rfl) rfl ?_
    refine ⟨⟨acc,e5⟩,_,rfl,(in_gb (gb_sets1 _ _ _ _) (by omega) HIN.out).wide fun i hi=>⟨by have:=hi.1;omega,hi.2⟩,?_,gb_sets (some c) G7.out (Nat.le_refl _) _ _⟩
    rw [E5.out,stop_bind]
    exact (aft_ret HA.out (fun _=>Pg.mk acc e5) rfl).set hlt _ _
  have e0:(d.kind != 0)=true:=by rw [bne_iff_ne];exact hk
  have HK:=hid hk
  obtain ⟨cs,S,hown,hrows,hzs,hS⟩:=HR.out.row
  have HOW:=hid hown
  have HSTP:=hid (fun (gg cp:Nat) (w5:World) h1 h2 h3=>built_more (w5:=w5) (gg:=gg) (cap:=cp) (T:=36) hown hrows hzs hS HR.out.dat HR.out.lo (fun g hg=>(HR.out.own g hg).1) (Dc.dat_size d) h1 h2 h3)
  have t0:=HR.out.tbox 0 _ rfl
  have f0:=free_at HR.out.town 0 (by omega)
  have hb3:T+1≤(wr.alloc (.cells #[.int .i64 d.kind,.string d.name,.slice F nf cf,.slice M nm cm,.slice G ng cg,.string d.recv,.slice V nv cv,.string d.sig.name,.slice F2 nf2 cf2,.slice P2' np2 cp2,.string d.sig.res.name,.slice A2 m2 a2,.int .i64 d.sig.res.off,.int .i64 d.sig.off,.int .i64 d.body.kind,.string d.body.name,.string d.body.ty.name,.slice A3 m3 a3,.int .i64 d.body.ty.off,.slice B3 l3 b3,.slice C3' n3 c3,.int .i64 d.body.off,.int .i64 d.off] 36)).heap.size:=by simp;omega
  have hlc:acc.length+1≤100004:=by omega
  have HDX:=hid (boxd_at0 HR.out.dbox)
  clear hrows hzs hS hown hk
  go_upto_region 7 with (first | (refine loadOp flatDc 4 17 rfl HDX.out rfl ?_) | (at_builtin;refine wpList_append_lies _ rfl _ _ 47 rfl (T+1) 36 i0 _ 23 392 Tryz.underlying47 hi0 hz0 hz1 hz2 rfl (by omega) _ acc.length cs rfl (HOW.out.alloc _) ⟨wr.heap.size,0,none⟩ 1 1 [.int .i64 d.kind,.string d.name,.slice F nf cf,.slice M nm cm,.slice G ng cg,.string d.recv,.slice V nv cv,.string d.sig.name,.slice F2 nf2 cf2,.slice P2' np2 cp2,.string d.sig.res.name,.slice A2 m2 a2,.int .i64 d.sig.res.off,.int .i64 d.sig.off,.int .i64 d.body.kind,.string d.body.name,.string d.body.ty.name,.slice A3 m3 a3,.int .i64 d.body.ty.off,.slice B3 l3 b3,.slice C3' n3 c3,.int .i64 d.body.off,.int .i64 d.off] rfl rfl (World.news_of_block (cs:=#[.int .i64 d.kind,.string d.name,.slice F nf cf,.slice M nm cm,.slice G ng cg,.string d.recv,.slice V nv cv,.string d.sig.name,.slice F2 nf2 cf2,.slice P2' np2 cp2,.string d.sig.res.name,.slice A2 m2 a2,.int .i64 d.sig.res.off,.int .i64 d.sig.off,.int .i64 d.body.kind,.string d.body.name,.string d.body.ty.name,.slice A3 m3 a3,.int .i64 d.body.ty.off,.slice B3 l3 b3,.slice C3' n3 c3,.int .i64 d.body.off,.int .i64 d.off]) (t:=36) (fr:=(0,0)) (heap_alloc_new _ _)) (by simp [Value.oneCell']) (by omega) (by unfold maxLen;omega) (by omega) hb3 _ rfl ?_;intro gg cp w5 hown5 hgrow5 hat5 hlt5;have HO5:=hid (And.intro hown5 (And.intro hgrow5 hat5));have HB5:=hid (app_below HOW.out (by omega) hgrow5);have t5:=(HB5.out.cell (p:=⟨T,0,none⟩) (Nat.lt_succ_self T)).trans t0;have f5:=(HB5.out.frozen (p:=⟨T,0,none⟩) (Nat.lt_succ_self T)).trans f0;clear hown5 hgrow5 hat5 hlt5 t0 f0))
  obtain ⟨hown5,hgrow5,hat5⟩:=HO5.out
  have hgg:=hown5.lt gg rfl
  have hgr5:(wr.alloc (.cells #[.int .i64 d.kind,.string d.name,.slice F nf cf,.slice M nm cm,.slice G ng cg,.string d.recv,.slice V nv cv,.string d.sig.name,.slice F2 nf2 cf2,.slice P2' np2 cp2,.string d.sig.res.name,.slice A2 m2 a2,.int .i64 d.sig.res.off,.int .i64 d.sig.off,.int .i64 d.body.kind,.string d.body.name,.string d.body.ty.name,.slice A3 m3 a3,.int .i64 d.body.ty.off,.slice B3 l3 b3,.slice C3' n3 c3,.int .i64 d.body.off,.int .i64 d.off] 36)).grownBy w5 (Value.slice A acc.length cap).ownBlock:=hgrow5
  have hD:D<wr.heap.size:=cell_lt (HR.out.dbox 0 _ rfl)
  have hs5:wr.heap.size≤w5.heap.size:=HB5.out.size
  obtain ⟨V6,hV6⟩:∃ X,w5.setCells T 0 [.slice (some ⟨gg,0,none⟩) (acc.length+1) cp]=X:=⟨_,rfl⟩
  have hgT:w5.grownBy V6 (some T):=hV6▸gb_sets1 _ _ _ _
  have hbT:Below T w5 V6:=gb_below hgT (by omega)
  have hz6:V6.heap.size=w5.heap.size:=by rw [←hV6];exact size_sets _ _ _ _
  have dx6:Boxd V6 D [.int .i64 d.kind,.string d.name,.slice F nf cf,.slice M nm cm,.slice G ng cg,.string d.recv,.slice V nv cv,.string d.sig.name,.slice F2 nf2 cf2,.slice P2' np2 cp2,.string d.sig.res.name,.slice A2 m2 a2,.int .i64 d.sig.res.off,.int .i64 d.sig.off,.int .i64 d.body.kind,.string d.body.name,.string d.body.ty.name,.slice A3 m3 a3,.int .i64 d.body.ty.off,.slice B3 l3 b3,.slice C3' n3 c3,.int .i64 d.body.off,.int .i64 d.off]:=boxd_gb hgT HR.out.dne fun j u hu=>by
    have h1:=HR.out.dbox j u hu
    have e1:w5.heap[D]?=wr.heap[D]?:=(hgr5.block D (by simp;omega) (fun e=>(HR.out.own D e.symm).2 rfl)).trans (((Below.refl wr.heap.size wr).alloc (Nat.le_refl _) _:Below wr.heap.size wr (wr.alloc (.cells #[.int .i64 d.kind,.string d.name,.slice F nf cf,.slice M nm cm,.slice G ng cg,.string d.recv,.slice V nv cv,.string d.sig.name,.slice F2 nf2 cf2,.slice P2' np2 cp2,.string d.sig.res.name,.slice A2 m2 a2,.int .i64 d.sig.res.off,.int .i64 d.sig.off,.int .i64 d.body.kind,.string d.body.name,.string d.body.ty.name,.slice A3 m3 a3,.int .i64 d.body.ty.off,.slice B3 l3 b3,.slice C3' n3 c3,.int .i64 d.body.off,.int .i64 d.off] 36))).block D hD)
    exact (World.cell?_of_block (a:=⟨D,j,none⟩) e1).trans h1
  obtain ⟨V7,hV7,hb7,bx7,th7,th70⟩:=putD V6 (us:=[.int .i64 d.kind,.string d.name,.slice F nf cf,.slice M nm cm,.slice G ng cg,.string d.recv,.slice V nv cv,.string d.sig.name,.slice F2 nf2 cf2,.slice P2' np2 cp2,.string d.sig.res.name,.slice A2 m2 a2,.int .i64 d.sig.res.off,.int .i64 d.sig.off,.int .i64 d.body.kind,.string d.body.name,.string d.body.ty.name,.slice A3 m3 a3,.int .i64 d.body.ty.off,.slice B3 l3 b3,.slice C3' n3 c3,.int .i64 d.body.off,.int .i64 d.off]) rfl
  have hbT7:Below T wr V7:=((HB5.out.mono (by omega)).trans hbT).trans (hb7.mono (by omega))
  have row6:Built V6 False 36 23 (T+1) (.slice (some ⟨gg,0,none⟩) (acc.length+1) cp) (acc++[d]).length ((acc++[d]).map Dc.dat):=built_gb hgT (by omega) (by
    have:=HSTP.out gg cp w5 hown5 hgrow5 (hat5.imp id fun h=>by simpa using h)
    rw [List.map_append,List.length_append]
    exact this)
  have tb6:Boxd V6 T [.slice (some ⟨gg,0,none⟩) (acc.length+1) cp,.int .i64 0,.string ⟨#[]⟩,.string ⟨#[]⟩,.slice none 0 0,.int .i64 0,.slice none 0 0,.slice none 0 0,.int .i64 0]:=hV6▸boxd_one (HR.out.tbox.laterB HB5.out (by omega)) (by simp)
  have to6:V6.there T 0 9:=hV6▸World.there_setCells (there_up HR.out.town (by omega) HB5.out) T 0 [.slice (some ⟨gg,0,none⟩) (acc.length+1) cp]
  have P7:=hid (HR.out.ps.up (by omega) hbT7)
  have C8:=hid (declOrMain_any p c q b' V7 (Cur.up HR.out.cur (hbT7.mono (by omega))) P7.out)
  have ROW6:=hid row6
  have TB6:=hid tb6
  have TO6:=hid to6
  have HB7:=hid hb7
  have HBT7:=hid hbT7
  have TH7:=hid th7
  have T70:=hid th70
  have O70:=hid (dc_one HR.out.dat).1
  have DX6:=hid (boxd_at0 dx6)
  have HV6:=hid (show w5.setCell ⟨T,0,none⟩ (.slice (some ⟨gg,0,none⟩) (acc.length+1) cp)=V6 from hV6)
  have HV7:=hid hV7
  have hD7:V6.heap.size<V7.heap.size:=by
    obtain ⟨v,hv⟩:=Option.isSome_iff_exists.1 (th7 0 (by omega)).1
    exact cell_lt hv
  have hVc:c<V6.heap.size∧V6.heap.size=V6.heap.size:=⟨by omega,rfl⟩
  have HZ6:=hid hz6
  clear hz6 hown5 hgrow5 hat5 hgr5 hV6 hgT hbT dx6 hV7 hb7 bx7 th7 th70 hbT7 row6 tb6 to6 HSTP HOW HO5 HDX t5 f5
  rw [HV6.out]
  go_upto_region 5 with (first | (refine loadOp flatDc 4 21 rfl DX6.out rfl ?_) | (refine storeOp flatDc 4 21 (b:=V6.heap.size) (o:=0) (us:=[.int .i64 d.kind,.string d.name,.slice F nf cf,.slice M nm cm,.slice G ng cg,.string d.recv,.slice V nv cv,.string d.sig.name,.slice F2 nf2 cf2,.slice P2' np2 cp2,.string d.sig.res.name,.slice A2 m2 a2,.int .i64 d.sig.res.off,.int .i64 d.sig.off,.int .i64 d.body.kind,.string d.body.name,.string d.body.ty.name,.slice A3 m3 a3,.int .i64 d.body.ty.off,.slice B3 l3 b3,.slice C3' n3 c3,.int .i64 d.body.off,.int .i64 d.off]) rfl rfl T70.out O70.out rfl ?_;rw [HV7.out]))
  clear T70 O70 DX6 x0
  go_wp2_with fail
  refine C8.out.mono ?_
  rintro e w8 ⟨t8,us8,rfl,hd,ha,hg,hk⟩
  have h9:=dc_one hd
  have TH8:=hid (show w8.there V6.heap.size 0 us8.length by rw [h9.2];exact there_gb TH7.out hD7 (Nat.ne_of_gt hVc.1) hg)
  have O8:=hid h9
  have HD8:=hid hd
  have HA8:=hid ha
  have HG8:=hid hg
  have HK8:=hid hk
  clear hd ha hg hk h9 C8
  go_wp2_with (refine storeOp flatDc 4 14 (b:=V6.heap.size) (o:=0) (us:=us8) rfl rfl TH8.out O8.out.1 O8.out.2 ?_)
  have hz6:=HZ6.out
  have g67:=gb_of (some c) HB7.out
  have g68:=gb_trans g67 HG8.out
  have g69:V6.grownBy (w8.setCells V6.heap.size 0 us8) (some c):=gb_sets (some c) g68 (Nat.le_refl _) _ _
  have tb9:=boxd_gb g69 (by omega:T≠c) TB6.out
  simp only [Act.put]
  go_roundw
  case rel =>
    obtain ⟨k,hk⟩:∃ k,(b'=false→m=k+1):=by
      cases b'
      · exact ⟨m-1,fun _=>by have:=HR.out.fuel rfl;omega⟩
      exact ⟨0,fun h=>by cases h⟩
    obtain ⟨q9,b9,hc9,hl9,hs9,hb9,heq⟩:=aft_next4 (declOrMainF_less q) HA8.out (fun d' q=>Got.bind (if d'.kind=0 then .ok (acc++[d]) q else declsF k (acc++[d]++[d']) q) fun ds q=>progRest ds q)
    have hgb9:w.grownBy (w8.setCells V6.heap.size 0 us8) (some c):=by
      have h1:w.grownBy V7 (some c):=⟨HBT7.out.os.trans HR.out.gb.os,HBT7.out.tape.trans HR.out.gb.tape,HBT7.out.output.trans HR.out.gb.output,Nat.le_trans HR.out.gb.size HBT7.out.size,fun i hi hne=>(HBT7.out.block i (by omega)).trans (HR.out.gb.block i hi hne)⟩
      exact gb_sets (some c) (gb_trans h1 HG8.out) (by omega) _ _
    refine ⟨k,acc++[d],t8,us8,q9,b9,V6.heap.size,V7.heap.size,_,⟨rfl,hc9.set (by omega) _ _,(P7.out.gb HG8.out).set (by omega) _ _,World.there_setCells (there_gb (there_up HR.out.res (by omega) HBT7.out) (by omega) (by omega) HG8.out) _ _ _,tb9,there_gb TO6.out (by omega) (by omega) g69,set_there TH8.out,in_gb (gb_sets1 _ _ _ _) hD7 HD8.out,built_gb g69 (by omega) ROW6.out,?_,by omega,by omega,Nat.le_trans HG8.out.size (by rw [size_sets];exact Nat.le_refl _),hgb9,?_,?_⟩,?_⟩
    · intro g2 hg2
      have e:some gg=some g2:=hg2
      injection e with e
      omega
    · intro h
      have h1:=hs9 h
      have h2:=HR.out.fuel h1.1
      have h3:=hk h1.1
      omega
    · have hf:=HR.out.few
      simp only [List.length_append,List.length_cons,List.length_nil]
      cases b9
      · have h1:=hs9 rfl
        rw [h1.1,if_neg (by decide)] at hf
        rw [if_neg (by decide)]
        omega
      rw [if_pos rfl]
      cases b'
      · rw [if_neg (by decide)] at hf
        split<;>omega
      rw [if_pos rfl,if_neg HK.out] at hf
      rw [if_pos (HK8.out rfl)]
      omega
    rw [HE.out]
    cases b'
    · obtain rfl:=hk rfl
      rw [if_neg (by decide),if_neg HK.out,declsF,bind_bind]
      rw [stop_false] at heq
      refine Eq.trans (congrArg _ (funext fun d'=>funext fun q=>?_)) heq
      rfl
    have h1:=hb9 rfl
    rw [h1.1,h1.2]
    rfl
  case measure =>
    rw [tb9 0 _ rfl,HR.out.tbox 0 _ rfl]
    simp [lenOf]
    omega
open Go.RowKit
def pgO (s:ByteArray):Out Pg:=wholeO progF s
def dcO (s:ByteArray):Out Dc:=wholeO declF s
def pgNone:Pg:=⟨[],Ex.none?⟩
theorem pgNone_dat (w:World) (N:Prop) (S:Nat→Prop):pgNone.dat.In w N S [.slice none 0 0,.int .i64 0,.string ⟨#[]⟩,.string ⟨#[]⟩,.slice none 0 0,.int .i64 0,.slice none 0 0,.slice none 0 0,.int .i64 0]:=pgMkR (ds:=[]) (e:=Ex.none?) (Row.nil _ _ _ _ _) (exNone_dat w N S)
theorem pg_ones {w:World} {S:Nat→Prop} {g:Pg} {us:List Value} (h:g.dat.In w False S us):(∀ u∈us,u.oneCell'=true)∧us.length=9:=by
  refine ⟨?_,(Dat.In.len _ _ h).trans (Pg.dat_size g)⟩
  rw [Pg.dat] at h
  simp only [Dat.In,Dat.Ins] at h
  obtain ⟨u1,u2,rfl,⟨A,c,rfl,-⟩,u3,u4,rfl,h2,rfl⟩:=h
  rw [List.append_nil]
  exact pg_one (A:=A) h2
def PaWhole {α:Type} (dt:α→Dat) (o:Out α) (none:α) (w:World) (e:Ending) (w':World):Prop:=∃ us,e=.returned (.tuple #[.agg us.toArray,o.errV])∧(dt (o.val none)).In w' False (Fr w.heap.size w') us∧Below w.heap.size w w'
theorem putProgram (w:World) {us:List Value} (hl:us.length=9):∃ W,(w.alloc (.cells #[.slice none 0 0,.int .i64 0,.string ⟨#[]⟩,.string ⟨#[]⟩,.slice none 0 0,.int .i64 0,.slice none 0 0,.slice none 0 0,.int .i64 0] 49)).setCells w.heap.size 0 us=W∧Below w.heap.size w W∧Boxd W w.heap.size us∧(w.alloc (.cells #[.slice none 0 0,.int .i64 0,.string ⟨#[]⟩,.string ⟨#[]⟩,.slice none 0 0,.int .i64 0,.slice none 0 0,.slice none 0 0,.int .i64 0] 49)).there w.heap.size 0 us.length:=by
  have hb:Below w.heap.size w (w.alloc (.cells #[.slice none 0 0,.int .i64 0,.string ⟨#[]⟩,.string ⟨#[]⟩,.slice none 0 0,.int .i64 0,.slice none 0 0,.slice none 0 0,.int .i64 0] 49)):=(Below.refl _ _).alloc (Nat.le_refl _) _
  have ht:(w.alloc (.cells #[.slice none 0 0,.int .i64 0,.string ⟨#[]⟩,.string ⟨#[]⟩,.slice none 0 0,.int .i64 0,.slice none 0 0,.slice none 0 0,.int .i64 0] 49)).there w.heap.size 0 us.length:=by rw [hl];exact there_new w #[.slice none 0 0,.int .i64 0,.string ⟨#[]⟩,.string ⟨#[]⟩,.slice none 0 0,.int .i64 0,.slice none 0 0,.slice none 0 0,.int .i64 0] 49
  exact ⟨_,rfl,hb.trans (below_sets (Nat.le_refl _) _ _ _),set_there ht,ht⟩
theorem results_wholeProgram {w:World} {b:Nat} {us:List Value} {v:Value} (tmps:Array Value) (ht:tmps[4]?.getD undef=.pointer (some ⟨b,0,none⟩)) (hv:tmps[5]?.getD undef=v) (hc:Boxd w b us) (hl:us.length=9):(results Tryz.f43 tmps).run Tryz.prog w=.ok (.tuple #[.agg us.toArray,v]) w:=by
  have h:=run_cell flatPg hc hl
  have h2:=run_addr ⟨b,0,none⟩ w
  simp [results,Tryz.results43,ht,hv,h,h2,Sem.run_bind,Result.andThen]
theorem wholeProgram_any (s:ByteArray) (w:World) (hs:s.size≤40000) (hE:ResVar w) :
    Calls Tryz.prog 43 #[.string s,.func (.func 44) #[] #[]] w (PaWhole Pg.dat (pgO s) pgNone w):=by
  obtain ⟨W0,hW0⟩:∃ W,w.alloc (.cells #[.slice none 0 0,.int .i64 0,.string ⟨#[]⟩,.string ⟨#[]⟩,.slice none 0 0,.int .i64 0,.slice none 0 0,.slice none 0 0,.int .i64 0] 49)=W:=⟨_,rfl⟩
  have hb0:Below w.heap.size w W0:=hW0▸(Below.refl _ _).alloc (Nat.le_refl _) _
  have hs0:W0.heap.size=w.heap.size+1:=by rw [←hW0];simp
  obtain ⟨W1,hW1⟩:∃ W,W0.alloc (.cells #[.slice none 0 0,.int .i64 0,.string ⟨#[]⟩,.string ⟨#[]⟩,.slice none 0 0,.int .i64 0,.slice none 0 0,.slice none 0 0,.int .i64 0] 49)=W:=⟨_,rfl⟩
  have hb1:Below W0.heap.size W0 W1:=hW1▸(Below.refl _ _).alloc (Nat.le_refl _) _
  have hs1:W1.heap.size=w.heap.size+2:=by rw [←hW1];simp;omega
  have hall:=hb0.trans (hb1.mono hb0.size)
  have HT1:=hid (there_up (show W0.there w.heap.size 0 9 from hW0▸there_new w #[.slice none 0 0,.int .i64 0,.string ⟨#[]⟩,.string ⟨#[]⟩,.slice none 0 0,.int .i64 0,.slice none 0 0,.slice none 0 0,.int .i64 0] 49) (by omega) hb1)
  have HZ1:=hid (show Boxd W1 (w.heap.size+1) [.slice none 0 0,.int .i64 0,.string ⟨#[]⟩,.string ⟨#[]⟩,.slice none 0 0,.int .i64 0,.slice none 0 0,.slice none 0 0,.int .i64 0] from hs0▸hW1▸Boxd.new W0 #[.slice none 0 0,.int .i64 0,.string ⟨#[]⟩,.string ⟨#[]⟩,.slice none 0 0,.int .i64 0,.slice none 0 0,.slice none 0 0,.int .i64 0] 49)
  have HW0:=hid hW0
  have HW1:=hid hW1
  have HB1:=hid hall
  have HE1:=hid (hE.later hall)
  have HS:=hid hs
  have HSZ:=hid hs1
  have HS0:=hid hs0
  have C1:=hid (lex_tokens_any s W1 (by omega))
  clear hW0 hW1 hb0 hb1 hall hE hs hs0 hs1
  go_enter Tryz.func43,Tryz.ntmps43
  go_upto_region 1 with fail
  rw [HW0.out]
  go_upto_region 2 with fail
  rw [HW1.out,HS0.out]
  go_wp2_with fail
  refine C1.out.mono ?_
  rintro e w2 ⟨hb,hp⟩
  cases hl:left s 0 with
  | bad i =>
    rw [hl] at hp
    obtain rfl:=hp
    have HO:=hid (show pgO s=.err 1 i by unfold pgO wholeO;rw [hl])
    have HB:=hid (boxd_at0 (HZ1.out.later hb))
    have HT:=hid (there_gb HT1.out (by rw [HSZ.out];omega) (by omega) (gb_of (some (w.heap.size+7)) hb))
    have HBB:=hid (HB1.out.trans (hb.mono HB1.out.size))
    clear hl hb C1
    rw [faultV]
    go_wp2_with (first | (refine loadOp flatPg 6 19 rfl HB.out rfl ?_) | (refine storeOp flatPg 4 19 (b:=w.heap.size) (o:=0) (us:=[.slice none 0 0,.int .i64 0,.string ⟨#[]⟩,.string ⟨#[]⟩,.slice none 0 0,.int .i64 0,.slice none 0 0,.slice none 0 0,.int .i64 0]) rfl rfl HT.out (pg_ones (pgNone_dat w2 False (fun _=>False))).1 rfl ?_))
    refine bodyPost_ret (results_wholeProgram _ rfl rfl (set_there (us:=[.slice none 0 0,.int .i64 0,.string ⟨#[]⟩,.string ⟨#[]⟩,.slice none 0 0,.int .i64 0,.slice none 0 0,.slice none 0 0,.int .i64 0]) HT.out) rfl) rfl ?_
    refine ⟨[.slice none 0 0,.int .i64 0,.string ⟨#[]⟩,.string ⟨#[]⟩,.slice none 0 0,.int .i64 0,.slice none 0 0,.slice none 0 0,.int .i64 0],?_,?_,HBB.out.trans (below_sets (Nat.le_refl _) _ _ _)⟩
    · rw [HO.out];rfl
    rw [HO.out];exact pgNone_dat _ _ _
  | ok ts =>
    rw [hl] at hp
    obtain ⟨A,cap,rfl,hts⟩:=hp
    obtain ⟨f1,f2,f3⟩:=full_ok hl HS.out
    have HO:=hid (show pgO s=endO (progF (full ts s.size)) by unfold pgO wholeO;rw [hl])
    have HB:=hid (HZ1.out.later hb)
    have HT:=hid (there_gb HT1.out (by rw [HSZ.out];omega) (by omega) (gb_of (some (w.heap.size+7)) hb))
    have HBB:=hid (HB1.out.trans (hb.mono HB1.out.size))
    have C2:=hid (new_cursor A (ts.length+1) cap (full ts s.size) w2 f1 f2 f3 (HE1.out.later hb) hts)
    have hs12:=hb.size
    clear hl hb C1 hts f1 f2 f3
    go_wp2_with fail
    refine C2.out.mono ?_
    rintro e w3 ⟨c,rfl,hc,hcur,hb⟩
    have hlt3:=hcur.lt
    obtain ⟨W4,hW4⟩:∃ W,w3.alloc (.cells #[.pointer (some ⟨c,0,none⟩)] 102)=W:=⟨_,rfl⟩
    have hb4:Below w3.heap.size w3 W4:=hW4▸(Below.refl _ _).alloc (Nat.le_refl _) _
    have hs4:W4.heap.size=w3.heap.size+1:=by rw [←hW4];simp
    have hba:=hb.trans (hb4.mono hb.size)
    have PS4:=hid (show Ps W4 w3.heap.size c from ⟨by have h:=Boxd.new w3 #[.pointer (some ⟨c,0,none⟩)] 102;rw [hW4] at h;exact h 0 _ rfl,by omega⟩)
    have HB4:=hid (HB.out.later hba)
    have HT4:=hid (there_gb HT.out (by have:=HSZ.out;omega) (by omega) (gb_of (some (w.heap.size+7)) hba))
    have HBB4:=hid (HBB.out.trans (hba.mono HBB.out.size))
    have HC:=hid hc
    have C3:=hid (program_any w3.heap.size c (full ts s.size) false W4 (hcur.later hb4) PS4.out)
    have HW4:=hid hW4
    have hs23:=hb.size
    clear hc hcur hb hb4 hba hW4 C2
    go_upto_region 6 with fail
    rw [HW4.out]
    go_wp2_with fail
    refine C3.out.mono ?_
    rintro e w5 ⟨v,us,rfl,hd,ha,hg⟩
    have h9:=pg_ones hd
    obtain ⟨V6,hV6,hb6,bx6,th60⟩:=putProgram w5 h9.2
    obtain ⟨q,b,hcur,hend⟩:∃ q b,Cur w5 c q b∧∀ z,(endV b q=.nilIface→(pgO s).errV=.nilIface∧(pgO s).val z=v)∧(endV b q≠.nilIface→∃ o,endV b q=faultV 2 o∧(pgO s).errV=faultV 2 o∧(pgO s).val z=z):=by
      rw [HO.out]
      exact aft_end ha
    have HEND:=hid hend
    have HL9:=hid h9
    have hg6:=gb_trans hg (gb_of (some c) hb6)
    have hs45:=hg.size
    have hcw:w.heap.size≠c:=by have:=HC.out;have:=HSZ.out;omega
    have hcw1:w.heap.size+1≠c:=by have:=HC.out;have:=HSZ.out;omega
    have HT6:=hid (there_gb HT4.out (by have:=HSZ.out;omega) hcw hg6)
    have HB6:=hid (boxd_gb hg6 hcw1 HB4.out)
    have HV6:=hid bx6
    have HPS6:=hid (PS4.out.gb hg6)
    have hgg:=gb_below hg6 (by omega:c≤W4.heap.size)
    have HBB6:=hid (HBB4.out.trans (hgg.mono (by have:=HC.out;have:=HSZ.out;omega)))
    have HD6:=hid (hd.later (S:=Fr W4.heap.size w5) hb6 fun k hk=>hk.2)
    have h5c:w5.heap.size≠c:=by omega
    have CE:=hid (end_any c q b V6 (hcur.later hb6))
    have T60:=hid th60
    have HVV:=hid hV6
    have hs56:=hb6.size
    clear hd ha hg hcur hend C3 hV6 hb6 bx6 th60 hg6 hgg h9
    go_upto_region 7 with (refine storeOp flatPg 10 27 (b:=w5.heap.size) (o:=0) (us:=us) rfl rfl T60.out HL9.out.1 HL9.out.2 ?_;rw [HVV.out])
    have x0:=HPS6.out.at_
    go_wp2_with fail
    refine CE.out.mono ?_
    rintro e w7 ⟨rfl,hg⟩
    have HT7:=hid (there_gb HT6.out (by have:=HSZ.out;omega) hcw hg)
    have HB7:=hid (boxd_at0 (boxd_gb hg hcw1 HB6.out))
    have HV7:=hid (boxd_at0 (boxd_gb hg h5c HV6.out))
    have HBB7:=hid (HBB6.out.trans ((gb_below hg (by omega)).mono (by have:=HC.out;have:=HSZ.out;omega)))
    have HD7:=hid (Dat.In.keep id (gb_kept hg fun k hk=>⟨by have:=hk.2;omega,by have:=hk.1;omega⟩) (fun k hk=>(⟨by have:=hk.1;have:=HSZ.out;omega,by have:=hk.2;have:=hg.size;omega⟩:Fr (w.heap.size+1) w7 k)) _ _ HD6.out)
    have HT7u:=hid (show w7.there w.heap.size 0 us.length by rw [HL9.out.2];exact HT7.out)
    clear hg CE x0
    by_cases hn:endV b q=.nilIface
    · obtain ⟨h1,h2⟩:=(HEND.out pgNone).1 hn
      have H1:=hid h1
      have H2:=hid h2
      rw [hn]
      clear hn h1 h2 HEND
      go_wp2_with (first | (refine loadOp flatPg 10 37 rfl HV7.out HL9.out.2 ?_) | (refine storeOp flatPg 4 37 (b:=w.heap.size) (o:=0) (us:=us) rfl rfl HT7u.out HL9.out.1 HL9.out.2 ?_))
      refine bodyPost_ret (results_wholeProgram _ rfl rfl (set_there (us:=us) HT7u.out) HL9.out.2) rfl ?_
      refine ⟨us,?_,?_,HBB7.out.trans (below_sets (Nat.le_refl _) _ _ _)⟩
      · rw [H1.out];rfl
      rw [H2.out]
      exact (in_sets HD7.out (Nat.lt_succ_self _) 0 _).wide fun k hk=>⟨by have:=hk.1;omega,hk.2⟩
    obtain ⟨o,h0,h1,h2⟩:=(HEND.out pgNone).2 hn
    have H1:=hid h1
    have H2:=hid h2
    rw [h0,faultV]
    clear hn h0 h1 h2 HEND
    go_wp2_with (first | (refine loadOp flatPg 6 35 rfl HB7.out rfl ?_) | (refine storeOp flatPg 4 35 (b:=w.heap.size) (o:=0) (us:=[.slice none 0 0,.int .i64 0,.string ⟨#[]⟩,.string ⟨#[]⟩,.slice none 0 0,.int .i64 0,.slice none 0 0,.slice none 0 0,.int .i64 0]) rfl rfl HT7.out (pg_ones (pgNone_dat w2 False (fun _=>False))).1 rfl ?_))
    refine bodyPost_ret (results_wholeProgram _ rfl rfl (set_there (us:=[.slice none 0 0,.int .i64 0,.string ⟨#[]⟩,.string ⟨#[]⟩,.slice none 0 0,.int .i64 0,.slice none 0 0,.slice none 0 0,.int .i64 0]) HT7.out) rfl) rfl ?_
    refine ⟨[.slice none 0 0,.int .i64 0,.string ⟨#[]⟩,.string ⟨#[]⟩,.slice none 0 0,.int .i64 0,.slice none 0 0,.slice none 0 0,.int .i64 0],?_,?_,HBB7.out.trans (below_sets (Nat.le_refl _) _ _ _)⟩
    · rw [H1.out];rfl
    rw [H2.out];exact pgNone_dat _ _ _
theorem results_paProgram {w:World} {b:Nat} {us:List Value} {v:Value} (tmps:Array Value) (ht:tmps[2]?.getD undef=.pointer (some ⟨b,0,none⟩)) (hv:tmps[3]?.getD undef=v) (hc:Boxd w b us) (hl:us.length=9):(results Tryz.f11 tmps).run Tryz.prog w=.ok (.tuple #[.agg us.toArray,v]) w:=by
  have h:=run_cell flatPg hc hl
  have h2:=run_addr ⟨b,0,none⟩ w
  simp [results,Tryz.results11,ht,hv,h,h2,Sem.run_bind,Result.andThen]
theorem paProgram_any (s:ByteArray) (w:World) (hs:s.size≤40000) (hE:ResVar w):Calls Tryz.prog 11 #[.string s] w (PaWhole Pg.dat (pgO s) pgNone w):=by
  obtain ⟨W0,hW0⟩:∃ W,w.alloc (.cells #[.slice none 0 0,.int .i64 0,.string ⟨#[]⟩,.string ⟨#[]⟩,.slice none 0 0,.int .i64 0,.slice none 0 0,.slice none 0 0,.int .i64 0] 49)=W:=⟨_,rfl⟩
  have hb0:Below w.heap.size w W0:=hW0▸(Below.refl _ _).alloc (Nat.le_refl _) _
  have HT0:=hid (show W0.there w.heap.size 0 9 from hW0▸there_new w #[.slice none 0 0,.int .i64 0,.string ⟨#[]⟩,.string ⟨#[]⟩,.slice none 0 0,.int .i64 0,.slice none 0 0,.slice none 0 0,.int .i64 0] 49)
  have HSZ:=hid (show W0.heap.size=w.heap.size+1 by rw [←hW0];simp)
  have HW0:=hid hW0
  have HB0:=hid hb0
  have C:=hid (wholeProgram_any s W0 hs (hE.later hb0))
  clear hs hE hW0 hb0
  go_enter Tryz.func11,Tryz.ntmps11
  go_upto_region 1 with fail
  rw [HW0.out]
  go_wp2_with fail
  refine C.out.mono ?_
  rintro e w1 ⟨us,rfl,hd,hb⟩
  have h9:=pg_ones hd
  have HL:=hid h9
  have HT:=hid (show w1.there w.heap.size 0 us.length by rw [h9.2];exact there_gb HT0.out (by rw [HSZ.out];omega) (by omega:w.heap.size≠w.heap.size+7) (gb_of _ hb))
  have HD:=hid hd
  have HB:=hid (HB0.out.trans (hb.mono HB0.out.size))
  clear hd hb C h9
  go_wp2_with (refine storeOp flatPg 2 6 (b:=w.heap.size) (o:=0) (us:=us) rfl rfl HT.out HL.out.1 HL.out.2 ?_)
  refine bodyPost_ret (results_paProgram _ rfl rfl (set_there HT.out) HL.out.2) rfl ?_
  exact ⟨us,rfl,(in_sets (HD.out.wide (S':=Fr (w.heap.size+1) w1) fun k hk=>⟨by have:=hk.1;rw [HSZ.out] at this;exact this,hk.2⟩) (Nat.lt_succ_self _) 0 us).wide fun k hk=>⟨by have:=hk.1;omega,hk.2⟩,HB.out.trans (below_sets (Nat.le_refl _) _ _ _)⟩
theorem putDecl (w:World) {us:List Value} (hl:us.length=23):∃ W,(w.alloc (.cells #[.int .i64 0,.string ⟨#[]⟩,.slice none 0 0,.slice none 0 0,.slice none 0 0,.string ⟨#[]⟩,.slice none 0 0,.string ⟨#[]⟩,.slice none 0 0,.slice none 0 0,.string ⟨#[]⟩,.slice none 0 0,.int .i64 0,.int .i64 0,.int .i64 0,.string ⟨#[]⟩,.string ⟨#[]⟩,.slice none 0 0,.int .i64 0,.slice none 0 0,.slice none 0 0,.int .i64 0,.int .i64 0] 36)).setCells w.heap.size 0 us=W∧Below w.heap.size w W∧Boxd W w.heap.size us∧(w.alloc (.cells #[.int .i64 0,.string ⟨#[]⟩,.slice none 0 0,.slice none 0 0,.slice none 0 0,.string ⟨#[]⟩,.slice none 0 0,.string ⟨#[]⟩,.slice none 0 0,.slice none 0 0,.string ⟨#[]⟩,.slice none 0 0,.int .i64 0,.int .i64 0,.int .i64 0,.string ⟨#[]⟩,.string ⟨#[]⟩,.slice none 0 0,.int .i64 0,.slice none 0 0,.slice none 0 0,.int .i64 0,.int .i64 0] 36)).there w.heap.size 0 us.length:=by
  have hb:Below w.heap.size w (w.alloc (.cells #[.int .i64 0,.string ⟨#[]⟩,.slice none 0 0,.slice none 0 0,.slice none 0 0,.string ⟨#[]⟩,.slice none 0 0,.string ⟨#[]⟩,.slice none 0 0,.slice none 0 0,.string ⟨#[]⟩,.slice none 0 0,.int .i64 0,.int .i64 0,.int .i64 0,.string ⟨#[]⟩,.string ⟨#[]⟩,.slice none 0 0,.int .i64 0,.slice none 0 0,.slice none 0 0,.int .i64 0,.int .i64 0] 36)):=(Below.refl _ _).alloc (Nat.le_refl _) _
  have ht:(w.alloc (.cells #[.int .i64 0,.string ⟨#[]⟩,.slice none 0 0,.slice none 0 0,.slice none 0 0,.string ⟨#[]⟩,.slice none 0 0,.string ⟨#[]⟩,.slice none 0 0,.slice none 0 0,.string ⟨#[]⟩,.slice none 0 0,.int .i64 0,.int .i64 0,.int .i64 0,.string ⟨#[]⟩,.string ⟨#[]⟩,.slice none 0 0,.int .i64 0,.slice none 0 0,.slice none 0 0,.int .i64 0,.int .i64 0] 36)).there w.heap.size 0 us.length:=by rw [hl];exact there_new w #[.int .i64 0,.string ⟨#[]⟩,.slice none 0 0,.slice none 0 0,.slice none 0 0,.string ⟨#[]⟩,.slice none 0 0,.string ⟨#[]⟩,.slice none 0 0,.slice none 0 0,.string ⟨#[]⟩,.slice none 0 0,.int .i64 0,.int .i64 0,.int .i64 0,.string ⟨#[]⟩,.string ⟨#[]⟩,.slice none 0 0,.int .i64 0,.slice none 0 0,.slice none 0 0,.int .i64 0,.int .i64 0] 36
  exact ⟨_,rfl,hb.trans (below_sets (Nat.le_refl _) _ _ _),set_there ht,ht⟩
theorem results_wholeDecl {w:World} {b:Nat} {us:List Value} {v:Value} (tmps:Array Value) (ht:tmps[4]?.getD undef=.pointer (some ⟨b,0,none⟩)) (hv:tmps[5]?.getD undef=v) (hc:Boxd w b us) (hl:us.length=23):(results Tryz.f13 tmps).run Tryz.prog w=.ok (.tuple #[.agg us.toArray,v]) w:=by
  have h:=run_cell flatDc hc hl
  have h2:=run_addr ⟨b,0,none⟩ w
  simp [results,Tryz.results13,ht,hv,h,h2,Sem.run_bind,Result.andThen]
theorem wholeDecl_any (s:ByteArray) (w:World) (hs:s.size≤40000) (hE:ResVar w) :
    Calls Tryz.prog 13 #[.string s,.func (.func 14) #[] #[]] w (PaWhole Dc.dat (dcO s) Dc.none? w):=by
  obtain ⟨W0,hW0⟩:∃ W,w.alloc (.cells #[.int .i64 0,.string ⟨#[]⟩,.slice none 0 0,.slice none 0 0,.slice none 0 0,.string ⟨#[]⟩,.slice none 0 0,.string ⟨#[]⟩,.slice none 0 0,.slice none 0 0,.string ⟨#[]⟩,.slice none 0 0,.int .i64 0,.int .i64 0,.int .i64 0,.string ⟨#[]⟩,.string ⟨#[]⟩,.slice none 0 0,.int .i64 0,.slice none 0 0,.slice none 0 0,.int .i64 0,.int .i64 0] 36)=W:=⟨_,rfl⟩
  have hb0:Below w.heap.size w W0:=hW0▸(Below.refl _ _).alloc (Nat.le_refl _) _
  have hs0:W0.heap.size=w.heap.size+1:=by rw [←hW0];simp
  obtain ⟨W1,hW1⟩:∃ W,W0.alloc (.cells #[.int .i64 0,.string ⟨#[]⟩,.slice none 0 0,.slice none 0 0,.slice none 0 0,.string ⟨#[]⟩,.slice none 0 0,.string ⟨#[]⟩,.slice none 0 0,.slice none 0 0,.string ⟨#[]⟩,.slice none 0 0,.int .i64 0,.int .i64 0,.int .i64 0,.string ⟨#[]⟩,.string ⟨#[]⟩,.slice none 0 0,.int .i64 0,.slice none 0 0,.slice none 0 0,.int .i64 0,.int .i64 0] 36)=W:=⟨_,rfl⟩
  have hb1:Below W0.heap.size W0 W1:=hW1▸(Below.refl _ _).alloc (Nat.le_refl _) _
  have hs1:W1.heap.size=w.heap.size+2:=by rw [←hW1];simp;omega
  have hall:=hb0.trans (hb1.mono hb0.size)
  have HT1:=hid (there_up (show W0.there w.heap.size 0 23 from hW0▸there_new w #[.int .i64 0,.string ⟨#[]⟩,.slice none 0 0,.slice none 0 0,.slice none 0 0,.string ⟨#[]⟩,.slice none 0 0,.string ⟨#[]⟩,.slice none 0 0,.slice none 0 0,.string ⟨#[]⟩,.slice none 0 0,.int .i64 0,.int .i64 0,.int .i64 0,.string ⟨#[]⟩,.string ⟨#[]⟩,.slice none 0 0,.int .i64 0,.slice none 0 0,.slice none 0 0,.int .i64 0,.int .i64 0] 36) (by omega) hb1)
  have HZ1:=hid (show Boxd W1 (w.heap.size+1) [.int .i64 0,.string ⟨#[]⟩,.slice none 0 0,.slice none 0 0,.slice none 0 0,.string ⟨#[]⟩,.slice none 0 0,.string ⟨#[]⟩,.slice none 0 0,.slice none 0 0,.string ⟨#[]⟩,.slice none 0 0,.int .i64 0,.int .i64 0,.int .i64 0,.string ⟨#[]⟩,.string ⟨#[]⟩,.slice none 0 0,.int .i64 0,.slice none 0 0,.slice none 0 0,.int .i64 0,.int .i64 0] from hs0▸hW1▸Boxd.new W0 #[.int .i64 0,.string ⟨#[]⟩,.slice none 0 0,.slice none 0 0,.slice none 0 0,.string ⟨#[]⟩,.slice none 0 0,.string ⟨#[]⟩,.slice none 0 0,.slice none 0 0,.string ⟨#[]⟩,.slice none 0 0,.int .i64 0,.int .i64 0,.int .i64 0,.string ⟨#[]⟩,.string ⟨#[]⟩,.slice none 0 0,.int .i64 0,.slice none 0 0,.slice none 0 0,.int .i64 0,.int .i64 0] 36)
  have HW0:=hid hW0
  have HW1:=hid hW1
  have HB1:=hid hall
  have HE1:=hid (hE.later hall)
  have HS:=hid hs
  have HSZ:=hid hs1
  have HS0:=hid hs0
  have C1:=hid (lex_tokens_any s W1 (by omega))
  clear hW0 hW1 hb0 hb1 hall hE hs hs0 hs1
  go_enter Tryz.func13,Tryz.ntmps13
  go_upto_region 1 with fail
  rw [HW0.out]
  go_upto_region 2 with fail
  rw [HW1.out,HS0.out]
  go_wp2_with fail
  refine C1.out.mono ?_
  rintro e w2 ⟨hb,hp⟩
  cases hl:left s 0 with
  | bad i =>
    rw [hl] at hp
    obtain rfl:=hp
    have HO:=hid (show dcO s=.err 1 i by unfold dcO wholeO;rw [hl])
    have HB:=hid (boxd_at0 (HZ1.out.later hb))
    have HT:=hid (there_gb HT1.out (by rw [HSZ.out];omega) (by omega) (gb_of (some (w.heap.size+7)) hb))
    have HBB:=hid (HB1.out.trans (hb.mono HB1.out.size))
    clear hl hb C1
    rw [faultV]
    go_wp2_with (first | (refine loadOp flatDc 6 19 rfl HB.out rfl ?_) | (refine storeOp flatDc 4 19 (b:=w.heap.size) (o:=0) (us:=[.int .i64 0,.string ⟨#[]⟩,.slice none 0 0,.slice none 0 0,.slice none 0 0,.string ⟨#[]⟩,.slice none 0 0,.string ⟨#[]⟩,.slice none 0 0,.slice none 0 0,.string ⟨#[]⟩,.slice none 0 0,.int .i64 0,.int .i64 0,.int .i64 0,.string ⟨#[]⟩,.string ⟨#[]⟩,.slice none 0 0,.int .i64 0,.slice none 0 0,.slice none 0 0,.int .i64 0,.int .i64 0]) rfl rfl HT.out z23_one rfl ?_))
    refine bodyPost_ret (results_wholeDecl _ rfl rfl (set_there (us:=[.int .i64 0,.string ⟨#[]⟩,.slice none 0 0,.slice none 0 0,.slice none 0 0,.string ⟨#[]⟩,.slice none 0 0,.string ⟨#[]⟩,.slice none 0 0,.slice none 0 0,.string ⟨#[]⟩,.slice none 0 0,.int .i64 0,.int .i64 0,.int .i64 0,.string ⟨#[]⟩,.string ⟨#[]⟩,.slice none 0 0,.int .i64 0,.slice none 0 0,.slice none 0 0,.int .i64 0,.int .i64 0]) HT.out) rfl) rfl ?_
    refine ⟨[.int .i64 0,.string ⟨#[]⟩,.slice none 0 0,.slice none 0 0,.slice none 0 0,.string ⟨#[]⟩,.slice none 0 0,.string ⟨#[]⟩,.slice none 0 0,.slice none 0 0,.string ⟨#[]⟩,.slice none 0 0,.int .i64 0,.int .i64 0,.int .i64 0,.string ⟨#[]⟩,.string ⟨#[]⟩,.slice none 0 0,.int .i64 0,.slice none 0 0,.slice none 0 0,.int .i64 0,.int .i64 0],?_,?_,HBB.out.trans (below_sets (Nat.le_refl _) _ _ _)⟩
    · rw [HO.out];rfl
    rw [HO.out];exact dcNone_dat _ _ _
  | ok ts =>
    rw [hl] at hp
    obtain ⟨A,cap,rfl,hts⟩:=hp
    obtain ⟨f1,f2,f3⟩:=full_ok hl HS.out
    have HO:=hid (show dcO s=endO (declF (full ts s.size)) by unfold dcO wholeO;rw [hl])
    have HB:=hid (HZ1.out.later hb)
    have HT:=hid (there_gb HT1.out (by rw [HSZ.out];omega) (by omega) (gb_of (some (w.heap.size+7)) hb))
    have HBB:=hid (HB1.out.trans (hb.mono HB1.out.size))
    have C2:=hid (new_cursor A (ts.length+1) cap (full ts s.size) w2 f1 f2 f3 (HE1.out.later hb) hts)
    have hs12:=hb.size
    clear hl hb C1 hts f1 f2 f3
    go_wp2_with fail
    refine C2.out.mono ?_
    rintro e w3 ⟨c,rfl,hc,hcur,hb⟩
    have hlt3:=hcur.lt
    obtain ⟨W4,hW4⟩:∃ W,w3.alloc (.cells #[.pointer (some ⟨c,0,none⟩)] 102)=W:=⟨_,rfl⟩
    have hb4:Below w3.heap.size w3 W4:=hW4▸(Below.refl _ _).alloc (Nat.le_refl _) _
    have hs4:W4.heap.size=w3.heap.size+1:=by rw [←hW4];simp
    have hba:=hb.trans (hb4.mono hb.size)
    have PS4:=hid (show Ps W4 w3.heap.size c from ⟨by have h:=Boxd.new w3 #[.pointer (some ⟨c,0,none⟩)] 102;rw [hW4] at h;exact h 0 _ rfl,by omega⟩)
    have HB4:=hid (HB.out.later hba)
    have HT4:=hid (there_gb HT.out (by have:=HSZ.out;omega) (by omega) (gb_of (some (w.heap.size+7)) hba))
    have HBB4:=hid (HBB.out.trans (hba.mono HBB.out.size))
    have HC:=hid hc
    have C3:=hid (decl_any w3.heap.size c (full ts s.size) false W4 (hcur.later hb4) PS4.out)
    have HW4:=hid hW4
    have hs23:=hb.size
    clear hc hcur hb hb4 hba hW4 C2
    go_upto_region 6 with fail
    rw [HW4.out]
    go_wp2_with fail
    refine C3.out.mono ?_
    rintro e w5 ⟨v,us,rfl,hd,ha,hg,-⟩
    have h9:=dc_one hd
    obtain ⟨V6,hV6,hb6,bx6,th60⟩:=putDecl w5 h9.2
    obtain ⟨q,b,hcur,hend⟩:∃ q b,Cur w5 c q b∧∀ z,(endV b q=.nilIface→(dcO s).errV=.nilIface∧(dcO s).val z=v)∧(endV b q≠.nilIface→∃ o,endV b q=faultV 2 o∧(dcO s).errV=faultV 2 o∧(dcO s).val z=z):=by
      rw [HO.out]
      exact aft_end ha
    have HEND:=hid hend
    have HL9:=hid h9
    have hg6:=gb_trans hg (gb_of (some c) hb6)
    have hs45:=hg.size
    have hcw:w.heap.size≠c:=by have:=HC.out;have:=HSZ.out;omega
    have hcw1:w.heap.size+1≠c:=by have:=HC.out;have:=HSZ.out;omega
    have HT6:=hid (there_gb HT4.out (by have:=HSZ.out;omega) hcw hg6)
    have HB6:=hid (boxd_gb hg6 hcw1 HB4.out)
    have HV6:=hid bx6
    have HPS6:=hid (PS4.out.gb hg6)
    have hgg:=gb_below hg6 (by omega:c≤W4.heap.size)
    have HBB6:=hid (HBB4.out.trans (hgg.mono (by have:=HC.out;have:=HSZ.out;omega)))
    have HD6:=hid (hd.later (S:=Fr W4.heap.size w5) hb6 fun k hk=>hk.2)
    have h5c:w5.heap.size≠c:=by omega
    have CE:=hid (end_any c q b V6 (hcur.later hb6))
    have T60:=hid th60
    have HVV:=hid hV6
    have hs56:=hb6.size
    clear hd ha hg hcur hend C3 hV6 hb6 bx6 th60 hg6 hgg h9
    go_upto_region 7 with (refine storeOp flatDc 10 27 (b:=w5.heap.size) (o:=0) (us:=us) rfl rfl T60.out HL9.out.1 HL9.out.2 ?_;rw [HVV.out])
    have x0:=HPS6.out.at_
    go_wp2_with fail
    refine CE.out.mono ?_
    rintro e w7 ⟨rfl,hg⟩
    have HT7:=hid (there_gb HT6.out (by have:=HSZ.out;omega) hcw hg)
    have HB7:=hid (boxd_at0 (boxd_gb hg hcw1 HB6.out))
    have HV7:=hid (boxd_at0 (boxd_gb hg h5c HV6.out))
    have HBB7:=hid (HBB6.out.trans ((gb_below hg (by omega)).mono (by have:=HC.out;have:=HSZ.out;omega)))
    have HD7:=hid (Dat.In.keep id (gb_kept hg fun k hk=>⟨by have:=hk.2;omega,by have:=hk.1;omega⟩) (fun k hk=>(⟨by have:=hk.1;have:=HSZ.out;omega,by have:=hk.2;have:=hg.size;omega⟩:Fr (w.heap.size+1) w7 k)) _ _ HD6.out)
    have HT7u:=hid (show w7.there w.heap.size 0 us.length by rw [HL9.out.2];exact HT7.out)
    clear hg CE x0
    by_cases hn:endV b q=.nilIface
    · obtain ⟨h1,h2⟩:=(HEND.out Dc.none?).1 hn
      have H1:=hid h1
      have H2:=hid h2
      rw [hn]
      clear hn h1 h2 HEND
      go_wp2_with (first | (refine loadOp flatDc 10 37 rfl HV7.out HL9.out.2 ?_) | (refine storeOp flatDc 4 37 (b:=w.heap.size) (o:=0) (us:=us) rfl rfl HT7u.out HL9.out.1 HL9.out.2 ?_))
      refine bodyPost_ret (results_wholeDecl _ rfl rfl (set_there (us:=us) HT7u.out) HL9.out.2) rfl ?_
      refine ⟨us,?_,?_,HBB7.out.trans (below_sets (Nat.le_refl _) _ _ _)⟩
      · rw [H1.out];rfl
      rw [H2.out]
      exact (in_sets HD7.out (Nat.lt_succ_self _) 0 _).wide fun k hk=>⟨by have:=hk.1;omega,hk.2⟩
    obtain ⟨o,h0,h1,h2⟩:=(HEND.out Dc.none?).2 hn
    have H1:=hid h1
    have H2:=hid h2
    rw [h0,faultV]
    clear hn h0 h1 h2 HEND
    go_wp2_with (first | (refine loadOp flatDc 6 35 rfl HB7.out rfl ?_) | (refine storeOp flatDc 4 35 (b:=w.heap.size) (o:=0) (us:=[.int .i64 0,.string ⟨#[]⟩,.slice none 0 0,.slice none 0 0,.slice none 0 0,.string ⟨#[]⟩,.slice none 0 0,.string ⟨#[]⟩,.slice none 0 0,.slice none 0 0,.string ⟨#[]⟩,.slice none 0 0,.int .i64 0,.int .i64 0,.int .i64 0,.string ⟨#[]⟩,.string ⟨#[]⟩,.slice none 0 0,.int .i64 0,.slice none 0 0,.slice none 0 0,.int .i64 0,.int .i64 0]) rfl rfl HT7.out z23_one rfl ?_))
    refine bodyPost_ret (results_wholeDecl _ rfl rfl (set_there (us:=[.int .i64 0,.string ⟨#[]⟩,.slice none 0 0,.slice none 0 0,.slice none 0 0,.string ⟨#[]⟩,.slice none 0 0,.string ⟨#[]⟩,.slice none 0 0,.slice none 0 0,.string ⟨#[]⟩,.slice none 0 0,.int .i64 0,.int .i64 0,.int .i64 0,.string ⟨#[]⟩,.string ⟨#[]⟩,.slice none 0 0,.int .i64 0,.slice none 0 0,.slice none 0 0,.int .i64 0,.int .i64 0]) HT7.out) rfl) rfl ?_
    refine ⟨[.int .i64 0,.string ⟨#[]⟩,.slice none 0 0,.slice none 0 0,.slice none 0 0,.string ⟨#[]⟩,.slice none 0 0,.string ⟨#[]⟩,.slice none 0 0,.slice none 0 0,.string ⟨#[]⟩,.slice none 0 0,.int .i64 0,.int .i64 0,.int .i64 0,.string ⟨#[]⟩,.string ⟨#[]⟩,.slice none 0 0,.int .i64 0,.slice none 0 0,.slice none 0 0,.int .i64 0,.int .i64 0],?_,?_,HBB7.out.trans (below_sets (Nat.le_refl _) _ _ _)⟩
    · rw [H1.out];rfl
    rw [H2.out];exact dcNone_dat _ _ _
theorem results_paDecl {w:World} {b:Nat} {us:List Value} {v:Value} (tmps:Array Value) (ht:tmps[2]?.getD undef=.pointer (some ⟨b,0,none⟩)) (hv:tmps[3]?.getD undef=v) (hc:Boxd w b us) (hl:us.length=23):(results Tryz.f5 tmps).run Tryz.prog w=.ok (.tuple #[.agg us.toArray,v]) w:=by
  have h:=run_cell flatDc hc hl
  have h2:=run_addr ⟨b,0,none⟩ w
  simp [results,Tryz.results5,ht,hv,h,h2,Sem.run_bind,Result.andThen]
theorem paDecl_any (s:ByteArray) (w:World) (hs:s.size≤40000) (hE:ResVar w):Calls Tryz.prog 5 #[.string s] w (PaWhole Dc.dat (dcO s) Dc.none? w):=by
  obtain ⟨W0,hW0⟩:∃ W,w.alloc (.cells #[.int .i64 0,.string ⟨#[]⟩,.slice none 0 0,.slice none 0 0,.slice none 0 0,.string ⟨#[]⟩,.slice none 0 0,.string ⟨#[]⟩,.slice none 0 0,.slice none 0 0,.string ⟨#[]⟩,.slice none 0 0,.int .i64 0,.int .i64 0,.int .i64 0,.string ⟨#[]⟩,.string ⟨#[]⟩,.slice none 0 0,.int .i64 0,.slice none 0 0,.slice none 0 0,.int .i64 0,.int .i64 0] 36)=W:=⟨_,rfl⟩
  have hb0:Below w.heap.size w W0:=hW0▸(Below.refl _ _).alloc (Nat.le_refl _) _
  have HT0:=hid (show W0.there w.heap.size 0 23 from hW0▸there_new w #[.int .i64 0,.string ⟨#[]⟩,.slice none 0 0,.slice none 0 0,.slice none 0 0,.string ⟨#[]⟩,.slice none 0 0,.string ⟨#[]⟩,.slice none 0 0,.slice none 0 0,.string ⟨#[]⟩,.slice none 0 0,.int .i64 0,.int .i64 0,.int .i64 0,.string ⟨#[]⟩,.string ⟨#[]⟩,.slice none 0 0,.int .i64 0,.slice none 0 0,.slice none 0 0,.int .i64 0,.int .i64 0] 36)
  have HSZ:=hid (show W0.heap.size=w.heap.size+1 by rw [←hW0];simp)
  have HW0:=hid hW0
  have HB0:=hid hb0
  have C:=hid (wholeDecl_any s W0 hs (hE.later hb0))
  clear hs hE hW0 hb0
  go_enter Tryz.func5,Tryz.ntmps5
  go_upto_region 1 with fail
  rw [HW0.out]
  go_wp2_with fail
  refine C.out.mono ?_
  rintro e w1 ⟨us,rfl,hd,hb⟩
  have h9:=dc_one hd
  have HL:=hid h9
  have HT:=hid (show w1.there w.heap.size 0 us.length by rw [h9.2];exact there_gb HT0.out (by rw [HSZ.out];omega) (by omega:w.heap.size≠w.heap.size+7) (gb_of _ hb))
  have HD:=hid hd
  have HB:=hid (HB0.out.trans (hb.mono HB0.out.size))
  clear hd hb C h9
  go_wp2_with (refine storeOp flatDc 2 6 (b:=w.heap.size) (o:=0) (us:=us) rfl rfl HT.out HL.out.1 HL.out.2 ?_)
  refine bodyPost_ret (results_paDecl _ rfl rfl (set_there HT.out) HL.out.2) rfl ?_
  exact ⟨us,rfl,(in_sets (HD.out.wide (S':=Fr (w.heap.size+1) w1) fun k hk=>⟨by have:=hk.1;rw [HSZ.out] at this;exact this,hk.2⟩) (Nat.lt_succ_self _) 0 us).wide fun k hk=>⟨by have:=hk.1;omega,hk.2⟩,HB.out.trans (below_sets (Nat.le_refl _) _ _ _)⟩
open Go.RowKit
def Out.ok {α:Type}:Out α→Bool
  | .good _=>true
  | .err _ _=>false
def TreePost (s:ByteArray) (w:World) (e:Ending) (w':World):Prop:=∃ us,e=.returned (.tuple #[.agg us.toArray,.bool (pgO s).ok])∧((pgO s).val pgNone).dat.In w' False (Fr w.heap.size w') us∧Below w.heap.size w w'
theorem results_paTree {w:World} {b:Nat} {us:List Value} {v:Value} (tmps:Array Value) (ht:tmps[2]?.getD undef=.pointer (some ⟨b,0,none⟩)) (hv:tmps[3]?.getD undef=v) (hc:Boxd w b us) (hl:us.length=9):(results Tryz.f12 tmps).run Tryz.prog w=.ok (.tuple #[.agg us.toArray,v]) w:=by
  have h:=run_cell flatPg hc hl
  have h2:=run_addr ⟨b,0,none⟩ w
  simp [results,Tryz.results12,ht,hv,h,h2,Sem.run_bind,Result.andThen]
theorem paTree_any (s:ByteArray) (w:World) (hs:s.size≤40000) (hE:ResVar w):Calls Tryz.prog 12 #[.string s] w (TreePost s w):=by
  obtain ⟨W0,hW0⟩:∃ W,w.alloc (.cells #[.slice none 0 0,.int .i64 0,.string ⟨#[]⟩,.string ⟨#[]⟩,.slice none 0 0,.int .i64 0,.slice none 0 0,.slice none 0 0,.int .i64 0] 49)=W:=⟨_,rfl⟩
  have hb0:Below w.heap.size w W0:=hW0▸(Below.refl _ _).alloc (Nat.le_refl _) _
  have HT0:=hid (show W0.there w.heap.size 0 9 from hW0▸there_new w #[.slice none 0 0,.int .i64 0,.string ⟨#[]⟩,.string ⟨#[]⟩,.slice none 0 0,.int .i64 0,.slice none 0 0,.slice none 0 0,.int .i64 0] 49)
  have HSZ:=hid (show W0.heap.size=w.heap.size+1 by rw [←hW0];simp)
  have HW0:=hid hW0
  have HB0:=hid hb0
  have C:=hid (paProgram_any s W0 hs (hE.later hb0))
  clear hs hE hW0 hb0
  go_enter Tryz.func12,Tryz.ntmps12
  go_upto_region 1 with fail
  rw [HW0.out]
  go_wp2_with fail
  refine C.out.mono ?_
  rintro e w1 ⟨us,rfl,hd,hb⟩
  have h9:=pg_ones hd
  have HL:=hid h9
  obtain ⟨V2,hV2,hb2,bx2,th2⟩:=putProgram w1 h9.2
  have hs01:=hb.size
  have HT:=hid (show V2.there w.heap.size 0 us.length by rw [h9.2];exact there_up (there_gb HT0.out (by rw [HSZ.out];omega) (by omega:w.heap.size≠w.heap.size+7) (gb_of _ hb)) (by rw [HSZ.out] at hs01;omega) hb2)
  have HD:=hid ((Dat.In.later (w':=V2) hd hb2 fun k hk=>hk.2).wide (S':=Fr W0.heap.size V2) fun k hk=>⟨hk.1,by have:=hk.2;have:=hb2.size;omega⟩)
  have HB:=hid (HB0.out.trans ((hb.trans (hb2.mono hb.size)).mono HB0.out.size))
  have HVV:=hid hV2
  have HBX:=hid bx2
  have TH:=hid th2
  have HS1:=hid (show w.heap.size+1≤w1.heap.size by rw [HSZ.out] at hs01;exact hs01)
  clear hd hb C h9 hV2 hb2 bx2 th2 hs01
  go_upto_region 2 with (refine storeOp flatPg 4 9 (b:=w1.heap.size) (o:=0) (us:=us) rfl rfl TH.out HL.out.1 HL.out.2 ?_;rw [HVV.out])
  have SS:V2.rangeAt w1.heap.size 0 us∧V2.there w.heap.size 0 us.length:=⟨fun j u hu=>by rw [Nat.zero_add];exact HBX.out j u hu,HT.out⟩
  rw [show TreePost s w=fun e w'=>TreePost s w e w' from rfl]
  unfold TreePost
  cases ho:pgO s
  all_goals
    have HO:=hid ho
    simp only [Out.errV,faultV]
    clear ho
    go_wp2_with fail
    refine wp_region_held_drew (S:=fun V=>V.rangeAt w1.heap.size 0 us∧V.there w.heap.size 0 us.length) (by kernel_rfl) SS (fun hS=>?_)
    refine wpAnyH_take (i:=0) (v:=.agg us.toArray) rfl (by kernel_rfl) (by kernel_rfl) (by kernel_rfl) (fun _ _ _ h=>h) (yieldsIf_load_mid rfl 49 (.tmp 4) rfl w1.heap.size 0 rfl us _ (fun V hV=>hV.1) Tryz.underlying49 rfl (by rw [HL.out.2];exact flatPg.size)) (by assumption) ?_
    try simp only [Act.put,List.getElem_toArray,List.getElem_cons_zero,List.setIfInBounds_toArray,List.set_cons_zero,List.set_cons_succ]
    first
    | (refine wpAnyH_take (i:=1) (v:=?_) rfl (by kernel_rfl) (by kernel_rfl) (by kernel_rfl) (fun _ _ _ h=>h) (Or.inl ⟨by rfl,?_⟩) (by assumption) ?_
       rotate_left
       · (intro V hV;go_simp;try with_reducible rfl)
       try simp only [Act.put,List.getElem_toArray,List.getElem_cons_zero,List.getElem_cons_succ,List.setIfInBounds_toArray,List.set_cons_zero,List.set_cons_succ])
    | fail "take 1"
    first
    | (refine wpAnyH_take (i:=2) (v:=?_) rfl (by kernel_rfl) (by kernel_rfl) (by kernel_rfl) (fun _ _ _ h=>h) (Or.inl ⟨by rfl,?_⟩) (by assumption) ?_
       rotate_left
       · (intro V hV;go_simp;try with_reducible rfl)
       try simp only [Act.put,List.getElem_toArray,List.getElem_cons_zero,List.getElem_cons_succ,List.setIfInBounds_toArray,List.set_cons_zero,List.set_cons_succ])
    | fail "take 2"
    refine wpAnyH_ready (rs:=[3]) (by kernel_rfl) (by simp) ?_
    refine AllReadyH.cons rfl (fun K hK=>?_) AllReadyH.nil
    refine ready_store flatPg rfl (.tmp 2) (.tmp 11) rfl (b:=w.heap.size) (off:=0) (us:=us) rfl rfl (show V2.drew.there w.heap.size 0 us.length from HT.out) HL.out.1 HL.out.2 ?_
    have SS:(V2.drew.setCells w.heap.size 0 us).rangeAt w1.heap.size 0 us∧(V2.drew.setCells w.heap.size 0 us).there w.heap.size 0 us.length:=⟨World.rangeAt_setCells_apart hS.1 _ _ _ (.inl (by have:=HS1.out;omega)),World.there_setCells hS.2 _ _ _⟩
    refine hK.out _ _ SS (fun hS=>?_)
    clear hK K
    try simp only [Act.put,List.getElem_toArray,List.getElem_cons_zero,List.getElem_cons_succ]
    first
    | (refine wpAnyH_take (i:=4) (v:=?_) rfl (by kernel_rfl) (by kernel_rfl) (by kernel_rfl) (fun _ _ _ h=>h) (Or.inl ⟨by rfl,?_⟩) (by assumption) ?_
       rotate_left
       · (intro V hV;go_simp;try with_reducible rfl)
       try simp only [Act.put,List.getElem_toArray,List.getElem_cons_zero,List.getElem_cons_succ,List.setIfInBounds_toArray,List.set_cons_zero,List.set_cons_succ])
    | fail "take 4"
    refine wpAnyH_done (by kernel_rfl) ?_ _
    clear SS hS
    go_wp2_with fail
    refine bodyPost_ret (results_paTree _ rfl rfl (set_there (us:=us) (show V2.drew.there w.heap.size 0 us.length from HT.out)) HL.out.2) rfl ?_
    refine ⟨us,?_,?_,HB.out.drew.trans (below_sets (Nat.le_refl _) _ _ _)⟩
    · rw [HO.out];rfl
    have hd0:(((pgO s).val pgNone)).dat.In V2.drew False (Fr (w.heap.size+1) V2.drew) us:=Dat.In.keep (w:=V2) (w':=V2.drew) (N:=False) (N':=False) (S:=Fr W0.heap.size V2) (S':=Fr (w.heap.size+1) V2.drew) (fun h=>h) (fun _ _=>⟨rfl,rfl⟩) (fun k hk=>⟨by have:=hk.1;rw [HSZ.out] at this;exact this,hk.2⟩) _ us HD.out
    exact (in_sets hd0 (Nat.lt_succ_self _) 0 us).wide fun k hk=>⟨by have:=hk.1;omega,hk.2⟩
