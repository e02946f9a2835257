/- The walks of parse's readers of signatures and of blocks: they read what the plain words say. The condition: the cursor stands in tokens of a text. -/
import Derived.Test.YtkdlidakdknhjaaGreatDoorQDPaB
set_option maxRecDepth 100000
set_option maxHeartbeats 8000000
open Go.Lib (hid)
namespace Go.Proofs.YtkdlidakdknhjaaGreatDoor.Rd
open Go.RowKit
theorem Ps.lt {w:World} {p c:Nat} (h:Ps w p c):p<w.heap.size:=cell_lt h.at_
theorem Ps.set {W:World} {p c g:Nat} (h:Ps W p c) (hg:p≠g) (o:Nat) (vs:List Value):Ps (W.setCells g o vs) p c:=⟨gb_cell (gb_sets1 W g o vs) h.at_ hg,h.ne⟩
structure Bx2 (w W:World) (c z:Nat) (us:List Value):Prop where
  gb:w.grownBy W (some c)
  big:w.heap.size+2≤W.heap.size
  res:W.there w.heap.size 0 z
  box:Boxd W (w.heap.size+1) us
  own:W.there (w.heap.size+1) 0 z
  len:us.length=z
  lt:c<w.heap.size
theorem Bx2.new (w:World) (c:Nat) (zs us:Array Value) (T:TypeId) (hl:us.size=zs.size) (hc:c<w.heap.size):∃ W,(w.alloc (.cells zs T)).alloc (.cells us T)=W∧Bx2 w W c zs.size us.toList∧Below w.heap.size w W∧W.heap.size=w.heap.size+2:=by
  obtain ⟨W1,h1⟩:∃ X,w.alloc (.cells zs T)=X:=⟨_,rfl⟩
  have hb1:Below w.heap.size w W1:=h1▸(Below.refl _ _).alloc (Nat.le_refl _) _
  have hz1:W1.heap.size=w.heap.size+1:=by rw [←h1];simp
  have t1:W1.there w.heap.size 0 zs.size:=h1▸there_new w zs T
  rw [h1]
  obtain ⟨W2,h2⟩:∃ X,W1.alloc (.cells us T)=X:=⟨_,rfl⟩
  have hb2:Below W1.heap.size W1 W2:=h2▸(Below.refl _ _).alloc (Nat.le_refl _) _
  have hz2:W2.heap.size=w.heap.size+2:=by rw [←h2];simp;omega
  have hb:=hb1.trans (hb2.mono hb1.size)
  have b2:=Boxd.new W1 us T
  have t2:=there_new W1 us T
  rw [h2,hz1] at b2 t2
  rw [hl] at t2
  exact ⟨W2,h2,⟨gb_of _ hb,by omega,there_gb t1 (by omega) (by omega:w.heap.size≠w.heap.size+9) (gb_of _ hb2),b2,t2,by rw [Array.length_toList,hl],hc⟩,hb,hz2⟩
theorem Bx2.step {w W W':World} {c z:Nat} {us:List Value} (h:Bx2 w W c z us) (hg:W.grownBy W' (some c)):Bx2 w W' c z us:=by
  have h1:=h.lt
  have h2:=h.big
  exact ⟨gb_trans h.gb hg,Nat.le_trans h.big hg.size,there_gb h.res (by omega) (by omega) hg,boxd_gb hg (by omega) h.box,there_gb h.own (by omega) (by omega) hg,h.len,h.lt⟩
theorem Bx2.field {w W:World} {c z:Nat} {us:List Value} (h:Bx2 w W c z us) (j:Nat) (hj:j<z) (v:Value):Bx2 w (W.setCell ⟨w.heap.size+1,j,none⟩ v) c z (us.set j v):=by
  have hx:Boxd (W.setCell ⟨w.heap.size+1,j,none⟩ v) (w.heap.size+1) (us.set j v):=fun k u hu=>by
    by_cases e:k=j
    · subst e
      have hj2:k<us.length:=by rw [h.len];exact hj
      rw [List.getElem?_set_self hj2] at hu
      obtain rfl:=Option.some.inj hu
      exact World.cell?_setCell_same _ _ _ (h.box k us[k] (List.getElem?_eq_getElem hj2))
    rw [List.getElem?_set_ne (fun e2=>e e2.symm)] at hu
    exact (World.cell?_setCell_other _ _ _ _ (by intro e2;exact e (by injection e2 with _ h2 _;exact_mod_cast h2.symm))).trans (h.box k u hu)
  have h2:=h.big
  exact ⟨gb_sets (some c) h.gb (by omega) j [v],by have e:=size_sets (w.heap.size+1) [v] j W;rw [show (W.setCell ⟨w.heap.size+1,j,none⟩ v).heap.size=W.heap.size from e];exact h.big,World.there_setCells h.res (w.heap.size+1) j [v],hx,World.there_setCells h.own (w.heap.size+1) j [v],by rw [List.length_set];exact h.len,h.lt⟩
theorem Bx2.free {w W:World} {c z:Nat} {us:List Value} (h:Bx2 w W c z us) (j:Nat) (hj:j<z):W.frozen? ⟨w.heap.size+1,j,none⟩=false:=by
  have:=(h.own j hj).2
  rwa [Nat.zero_add] at this
theorem Cur.set {W:World} {c g:Nat} {q:List Tk} {d:Bool} (h:Cur W c q d) (hg:c<g) (o:Nat) (vs:List Value):Cur (W.setCells g o vs) c q d:=Cur.up h (below_sets hg vs o W)
theorem Aft.set {α:Type} {W:World} {c g:Nat} {v:α} {r:Got α} (h:Aft W c v r) (hg:c<g) (o:Nat) (vs:List Value):Aft (W.setCells g o vs) c v r:=h.up (below_sets hg vs o W)
theorem sgMkR {w:World} {N:Prop} {S:Nat→Prop} {s:ByteArray} {fs ps:List Fo} {r:Ty} {o:Int} {F P A:Option Addr} {cf cp m a:Nat} (h1:s.size≤9223372036854775807) (h2:Row w N S 5 F fs.length (fs.map Fo.dat)) (h3:Row w N S 5 P ps.length (ps.map Fo.dat)) (h4:r.dat.In w N S [.string r.name,.slice A m a,.int .i64 r.off]) :
    (Sg.mk s fs ps r o).dat.In w N S [.string s,.slice F fs.length cf,.slice P ps.length cp,.string r.name,.slice A m a,.int .i64 r.off,.int .i64 o]:=by
  rw [Sg.dat]
  simp only [Dat.In,Dat.Ins,List.length_map]
  exact ⟨[_],_,rfl,⟨rfl,h1⟩,[_],_,rfl,⟨F,cf,rfl,by have:=h2.le;simpa using this,(fun h=>by cases h),h2.elems⟩,[_],_,rfl,⟨P,cp,rfl,by have:=h3.le;simpa using this,(fun h=>by cases h),h3.elems⟩,[_,_,_],_,rfl,h4,[_],[],rfl,rfl,rfl⟩
theorem sg_opens {w:World} {N:Prop} {S:Nat→Prop} {s:Sg} {us:List Value} (h:s.dat.In w N S us):∃ F nf cf P np cp A m a,us=[.string s.name,.slice F nf cf,.slice P np cp,.string s.res.name,.slice A m a,.int .i64 s.res.off,.int .i64 s.off]:=by
  rw [Sg.dat] at h
  simp only [Dat.In,Dat.Ins] at h
  obtain ⟨u1,u2,rfl,⟨rfl,h1⟩,u3,u4,rfl,⟨F,cf,rfl,_,_,_⟩,u5,u6,rfl,⟨P,cp,rfl,_,_,_⟩,u7,u8,rfl,h2,u9,u10,rfl,rfl,rfl⟩:=h
  obtain ⟨A,m,a,rfl,_⟩:=ty_open h2
  exact ⟨F,_,cf,P,_,cp,A,m,a,rfl⟩
theorem sg_one {w:World} {N:Prop} {S:Nat→Prop} {s:Sg} {us:List Value} (h:s.dat.In w N S us):∀ u∈us,u.oneCell'=true:=by
  obtain ⟨F,nf,cf,P,np,cp,A,m,a,rfl⟩:=sg_opens h
  intro u hu
  simp only [List.mem_cons,List.not_mem_nil,or_false] at hu
  rcases hu with rfl | rfl | rfl | rfl | rfl | rfl | rfl<;>rfl
theorem flatSg:Flat 31 7:=⟨by kernel_rfl,_,Tryz.underlying31,rfl⟩
theorem infoSgR:(Tryz.prog.info? 31).map (fun i=>(i.zero,i.size,i.bytes))=some (some (.agg #[.string ⟨#[]⟩,.slice none 0 0,.slice none 0 0,.string ⟨#[]⟩,.slice none 0 0,.int .i64 0,.int .i64 0]),7,120):=by kernel_rfl
theorem formals_any (p c:Nat) (l:List Tk) (b:Bool) (w:World) (h:Cur w c l b) (hp:Ps w p c):Calls Tryz.prog 94 #[.pointer (some ⟨p,0,none⟩)] w (RowRet Fo.dat 5 c l b w (bracketsG foF l)):=by
  have C:=hid (bracketsFo_any p c l b w h hp)
  clear h hp
  go_enter Tryz.func94,Tryz.ntmps94
  go_wp2_with fail
  refine C.out.mono ?_
  rintro e w1 ⟨ts,A,cap,rfl,hr,ha,hg⟩
  have HR:=hid hr
  have HA:=hid ha
  have HG:=hid hg
  clear hr ha hg C
  go_wp2_with fail
  go_ret
  exact ⟨ts,A,cap,rfl,HR.out,HA.out,HG.out⟩
theorem params_any (p c:Nat) (l:List Tk) (b:Bool) (w:World) (h:Cur w c l b) (hp:Ps w p c):Calls Tryz.prog 132 #[.pointer (some ⟨p,0,none⟩)] w (RowRet Fo.dat 5 c l b w (paramsF l)):=by
  have C1:=hid (show Calls Tryz.prog 86 #[.pointer (some ⟨c,0,none⟩),.string ⟨#[40]⟩] w (MustPost c l b [40] w) from must_any c l b ⟨#[40]⟩ w h)
  have HP:=hid hp
  have x0:=hp.at_
  clear h hp
  go_enter Tryz.func132,Tryz.ntmps132
  go_wp2_with fail
  refine C1.out.mono ?_
  rintro e w1 ⟨rfl,ha,hg⟩
  obtain ⟨q,d,hcur,hql,-,heq⟩:=aft_next2 (must_less [40] l) ha (fun _ q=>if isT [41] q then Got.ok [] q.tail else listG foF [41] q)
  have HEQ:=hid (heq.trans (stop_if _ _ _))
  have HG1:=hid hg
  have HP1:=hid (HP.out.gb hg)
  have C2:=hid (show Calls Tryz.prog 92 #[.pointer (some ⟨c,0,none⟩),.string ⟨#[41]⟩] w1 (TakePost c q d [41] w1) from take_any c q d ⟨#[41]⟩ w1 hcur)
  clear ha hg heq hcur x0 C1
  have x0:=HP1.out.at_
  go_wp2_with fail
  refine C2.out.mono ?_
  rintro e w2 ⟨rfl,hc,hg⟩
  have HG2:=hid (gb_trans HG1.out hg)
  have HP2:=hid (HP1.out.gb hg)
  cases hx:nextB d [41] q
  · have HX:=hid hx
    rw [takeL,hx] at hc
    have C3:=hid (show Calls Tryz.prog 148 #[.pointer (some ⟨p,0,none⟩),.func (.func 129) #[.pointer (some ⟨p,0,none⟩)] #[],.string ⟨#[41]⟩] w2 (RowRet Fo.dat 5 c q d w2 (listG foF [41] q)) from listPa_any p c ⟨#[41]⟩ q d w2 hc HP2.out)
    have hs2:=HG2.out.size
    clear hx hc hg x0 C2
    go_wp2_with fail
    refine C3.out.mono ?_
    rintro e w3 ⟨ts,A,cap,rfl,hr,ha,hg⟩
    have HR:=hid hr
    have HA:=hid ha
    have HG3:=hid (gb_trans HG2.out hg)
    clear hr ha hg C3
    go_wp2_with fail
    go_ret
    refine ⟨ts,A,cap,rfl,HR.out.wide fun k hk=>⟨Nat.le_trans hs2 hk.1,hk.2⟩,?_,HG3.out⟩
    have e:stop b l (paramsF l)=stop d q (listG foF [41] q):=by
      rw [paramsF,HEQ.out]
      exact take_none HX.out _ _ fun h=>by rw [h];rfl
    rw [e]
    exact HA.out
  have HX:=hid hx
  rw [takeL,hx,if_pos rfl] at hc
  have HC:=hid hc
  clear hx hc hg x0 C2
  go_wp2_with fail
  go_ret
  refine ⟨[],none,0,rfl,Row.nil _ _ _ _ _,?_,HG2.out⟩
  obtain ⟨rfl,hi⟩:=nextB_cons HX.out
  rw [paramsF,HEQ.out,hi,stop_false]
  exact ⟨rfl,HC.out⟩
theorem results_sig {w:World} {b:Nat} {us:List Value} (tmps:Array Value) (ht:tmps[2]?.getD undef=.pointer (some ⟨b,0,none⟩)) (hc:Boxd w b us) (hl:us.length=7):(results Tryz.f99 tmps).run Tryz.prog w=.ok (.agg us.toArray) w:=by
  have h:=run_cell flatSg hc hl
  have h2:=run_addr ⟨b,0,none⟩ w
  simp [results,Tryz.results99,ht,h,h2,Sem.run_bind,Result.andThen]
theorem sig_any (p c:Nat) (l:List Tk) (b:Bool) (w:World) (h:Cur w c l b) (hp:Ps w p c):Calls Tryz.prog 99 #[.pointer (some ⟨p,0,none⟩)] w (ItRet Sg.dat c l b w (sgF l)):=by
  have hlt:=h.lt
  have hpl:=hp.lt
  obtain ⟨W0,hW0,hb,hbel,hz0⟩:=Bx2.new w c #[.string ⟨#[]⟩,.slice none 0 0,.slice none 0 0,.string ⟨#[]⟩,.slice none 0 0,.int .i64 0,.int .i64 0] #[.string ⟨#[]⟩,.slice none 0 0,.slice none 0 0,.string ⟨#[]⟩,.slice none 0 0,.int .i64 0,.int .i64 0] 31 rfl hlt
  have HW0:=hid hW0
  have B0:=hid (show Bx2 w W0 c 7 [.string ⟨#[]⟩,.slice none 0 0,.slice none 0 0,.string ⟨#[]⟩,.slice none 0 0,.int .i64 0,.int .i64 0] from hb)
  have P0:=hid (hp.later hbel)
  have C1:=hid (name_any c l b W0 (h.later hbel))
  clear h hp hW0 hb hbel
  go_enter Tryz.func99,Tryz.ntmps99
  go_upto_region 2 with fail
  rw [HW0.out]
  have x0:=P0.out.at_
  go_wp2_with fail
  refine C1.out.mono ?_
  rintro e w1 ⟨nm,rfl,hz,ha,hg⟩
  obtain ⟨q1,d1,hcur,-,-,heq⟩:=aft_next2 (name_less l) ha (fun t q=>Got.bind (bracketsG foF q) fun fs q=>Got.bind (paramsF q) fun ps q=>Got.bind (tyA q) fun r q=>Got.ok (Sg.mk t.s fs ps r t.o) q)
  have E1:=hid (show stop b l (sgF l)=_ from heq.trans (stop_if _ _ _))
  have B1:=hid (B0.out.step hg)
  have HZ:=hid hz
  obtain ⟨V1,hV1⟩:∃ X,(w1.setCells (w.heap.size+1) 0 [.string nm.s]).setCells (w.heap.size+1) 6 [.int .i64 nm.o]=X:=⟨_,rfl⟩
  have BV1:=hid (show Bx2 w V1 c 7 [.string nm.s,.slice none 0 0,.slice none 0 0,.string ⟨#[]⟩,.slice none 0 0,.int .i64 0,.int .i64 nm.o] from hV1▸(B1.out.field 0 (by omega) (.string nm.s)).field 6 (by omega) (.int .i64 nm.o))
  have PV1:=hid (show Ps V1 p c from hV1▸((P0.out.gb hg).set (by omega) _ _).set (by omega) _ _)
  have C2:=hid (formals_any p c q1 d1 V1 (hV1▸(hcur.set (by omega) _ _).set (by omega) _ _) PV1.out)
  have HV1:=hid (show (w1.setCell ⟨w.heap.size+1,0,none⟩ (.string nm.s)).setCell ⟨w.heap.size+1,6,none⟩ (.int .i64 nm.o)=V1 from hV1)
  have z0:=B1.out.box 0 _ rfl
  have z6:=B1.out.box 6 _ rfl
  have g0:=B1.out.free 0 (by omega)
  have g6:=B1.out.free 6 (by omega)
  clear hz ha hg hcur heq hV1 x0 C1 B0
  go_upto_region 3 with fail
  rw [HV1.out]
  clear z0 z6 g0 g6 B1
  go_wp2_with fail
  refine C2.out.mono ?_
  rintro e w2 ⟨fs,F,cf,rfl,hr,ha,hg⟩
  obtain ⟨q2,d2,hcur,-,-,heq⟩:=aft_next3 (bracketsG_ends foF_less q1) ha (fun fs q=>Got.bind (paramsF q) fun ps q=>Got.bind (tyA q) fun r q=>Got.ok (Sg.mk nm.s fs ps r nm.o) q)
  have E2:=hid (E1.out.trans (heq.trans (stop_if _ _ _)))
  have B2:=hid (BV1.out.step hg)
  have hs1:=BV1.out.big
  obtain ⟨V2,hV2⟩:∃ X,w2.setCells (w.heap.size+1) 1 [.slice F fs.length cf]=X:=⟨_,rfl⟩
  have BV2:=hid (show Bx2 w V2 c 7 [.string nm.s,.slice F fs.length cf,.slice none 0 0,.string ⟨#[]⟩,.slice none 0 0,.int .i64 0,.int .i64 nm.o] from hV2▸B2.out.field 1 (by omega) (.slice F fs.length cf))
  have PV2:=hid (show Ps V2 p c from hV2▸(PV1.out.gb hg).set (by omega) _ _)
  have R2:=hid (show Row V2 False (Fr (w.heap.size+2) V2) 5 F fs.length (fs.map Fo.dat) from hV2▸row_gb (gb_sets1 _ _ _ _) (by omega) (hr.wide fun i hi=>⟨Nat.le_trans hs1 hi.1,hi.2⟩))
  have C3:=hid (params_any p c q2 d2 V2 (hV2▸hcur.set (by omega) _ _) PV2.out)
  have HV2:=hid (show w2.setCell ⟨w.heap.size+1,1,none⟩ (.slice F fs.length cf)=V2 from hV2)
  have z1:=B2.out.box 1 _ rfl
  have g1:=B2.out.free 1 (by omega)
  clear hr ha hg hcur heq hV2 C2 BV1 PV1
  go_upto_region 4 with fail
  rw [HV2.out]
  clear z1 g1 B2
  go_wp2_with fail
  refine C3.out.mono ?_
  rintro e w3 ⟨ps,P,cp,rfl,hr,ha,hg⟩
  obtain ⟨q3,d3,hcur,-,-,heq⟩:=aft_next2 (paramsF_less q2) ha (fun ps q=>Got.bind (tyA q) fun r q=>Got.ok (Sg.mk nm.s fs ps r nm.o) q)
  have E3:=hid (E2.out.trans (heq.trans (stop_if _ _ _)))
  have B3:=hid (BV2.out.step hg)
  have hs2:=BV2.out.big
  obtain ⟨V3,hV3⟩:∃ X,w3.setCells (w.heap.size+1) 2 [.slice P ps.length cp]=X:=⟨_,rfl⟩
  have BV3:=hid (show Bx2 w V3 c 7 [.string nm.s,.slice F fs.length cf,.slice P ps.length cp,.string ⟨#[]⟩,.slice none 0 0,.int .i64 0,.int .i64 nm.o] from hV3▸B3.out.field 2 (by omega) (.slice P ps.length cp))
  have PV3:=hid (show Ps V3 p c from hV3▸(PV2.out.gb hg).set (by omega) _ _)
  have R3:=hid (show Row V3 False (Fr (w.heap.size+2) V3) 5 F fs.length (fs.map Fo.dat) from hV3▸row_gb (gb_sets1 _ _ _ _) (by omega) (row_gb hg (by omega) R2.out))
  have Q3:=hid (show Row V3 False (Fr (w.heap.size+2) V3) 5 P ps.length (ps.map Fo.dat) from hV3▸row_gb (gb_sets1 _ _ _ _) (by omega) (hr.wide fun i hi=>⟨Nat.le_trans hs2 hi.1,hi.2⟩))
  have C4:=hid (type_any' (2*q3.length+2) c q3 d3 V3 (hV3▸hcur.set (by omega) _ _) (fun _=>by omega))
  have HV3:=hid (show w3.setCell ⟨w.heap.size+1,2,none⟩ (.slice P ps.length cp)=V3 from hV3)
  have z2:=B3.out.box 2 _ rfl
  have g2:=B3.out.free 2 (by omega)
  clear hr ha hg hcur heq hV3 C3 BV2 PV2 R2
  go_upto_region 5 with fail
  rw [HV3.out]
  clear z2 g2 B3
  have x0:=PV3.out.at_
  go_wp2_with fail
  refine C4.out.mono ?_
  rintro e w4 ⟨r,us,rfl,hd,ha,hg⟩
  obtain ⟨A,m,a,rfl,-⟩:=ty_open hd
  have B4:=hid (BV3.out.step hg)
  have hs3:=BV3.out.big
  obtain ⟨V4,hV4⟩:∃ X,((w4.setCells (w.heap.size+1) 3 [.string r.name]).setCells (w.heap.size+1) 4 [.slice A m a]).setCells (w.heap.size+1) 5 [.int .i64 r.off]=X:=⟨_,rfl⟩
  have BV4:=hid (show Bx2 w V4 c 7 [.string nm.s,.slice F fs.length cf,.slice P ps.length cp,.string r.name,.slice A m a,.int .i64 r.off,.int .i64 nm.o] from hV4▸((B4.out.field 3 (by omega) (.string r.name)).field 4 (by omega) (.slice A m a)).field 5 (by omega) (.int .i64 r.off))
  have R4:=hid (show Row V4 False (Fr (w.heap.size+2) V4) 5 F fs.length (fs.map Fo.dat) from hV4▸row_gb (gb_sets1 _ _ _ _) (by omega) (row_gb (gb_sets1 _ _ _ _) (by omega) (row_gb (gb_sets1 _ _ _ _) (by omega) (row_gb hg (by omega) R3.out))))
  have Q4:=hid (show Row V4 False (Fr (w.heap.size+2) V4) 5 P ps.length (ps.map Fo.dat) from hV4▸row_gb (gb_sets1 _ _ _ _) (by omega) (row_gb (gb_sets1 _ _ _ _) (by omega) (row_gb (gb_sets1 _ _ _ _) (by omega) (row_gb hg (by omega) Q3.out))))
  have D4:=hid (show r.dat.In V4 False (Fr (w.heap.size+2) V4) [.string r.name,.slice A m a,.int .i64 r.off] from hV4▸in_gb (gb_sets1 _ _ _ _) (by omega) (in_gb (gb_sets1 _ _ _ _) (by omega) (in_gb (gb_sets1 _ _ _ _) (by omega) (hd.wide fun i hi=>⟨Nat.le_trans hs3 hi.1,hi.2⟩))))
  have A4:=hid (show Aft V4 c r (stop d3 q3 (tyA q3)) from hV4▸((ha.set (by omega) _ _).set (by omega) _ _).set (by omega) _ _)
  have HV4:=hid (show ((w4.setCell ⟨w.heap.size+1,3,none⟩ (.string r.name)).setCell ⟨w.heap.size+1,4,none⟩ (.slice A m a)).setCell ⟨w.heap.size+1,5,none⟩ (.int .i64 r.off)=V4 from hV4)
  have z3:=B4.out.box 3 _ rfl
  have z4:=B4.out.box 4 _ rfl
  have z5:=B4.out.box 5 _ rfl
  have g3:=B4.out.free 3 (by omega)
  have g4:=B4.out.free 4 (by omega)
  have g5:=B4.out.free 5 (by omega)
  clear hd ha hg hV4 C4 BV3 PV3 R3 Q3 x0
  go_upto_region 6 with fail
  rw [HV4.out]
  clear z3 z4 z5 g3 g4 g5 B4
  have hin:=sgMkR (s:=nm.s) (fs:=fs) (ps:=ps) (r:=r) (o:=nm.o) (cf:=cf) (cp:=cp) (by have:=HZ.out;omega) R4.out Q4.out D4.out
  have HIN:=hid hin
  have HX:=hid (boxd_at0 BV4.out.box)
  have HRES:=hid BV4.out.res
  clear hin
  go_wp2_with (first | (refine loadOp flatSg 3 26 rfl HX.out rfl ?_) | (refine storeOp flatSg 2 26 (b:=w.heap.size) (o:=0) (us:=[.string nm.s,.slice F fs.length cf,.slice P ps.length cp,.string r.name,.slice A m a,.int .i64 r.off,.int .i64 nm.o]) rfl rfl HRES.out (sg_one HIN.out) rfl ?_))
  refine bodyPost_ret (results_sig _ rfl (set_there (us:=[.string nm.s,.slice F fs.length cf,.slice P ps.length cp,.string r.name,.slice A m a,.int .i64 r.off,.int .i64 nm.o]) HRES.out) rfl) rfl ?_
  refine ⟨⟨nm.s,fs,ps,r,nm.o⟩,_,rfl,?_,?_,gb_sets (some c) BV4.out.gb (Nat.le_refl _) _ _⟩
  · exact (in_gb (gb_sets1 _ _ _ _) (by omega) HIN.out).wide fun i hi=>⟨by have:=hi.1;omega,hi.2⟩
  rw [E3.out,stop_bind]
  exact (aft_ret A4.out (fun r=>Sg.mk nm.s fs ps r nm.o) rfl).set hlt _ _
theorem blockPa_any (p c:Nat) (l:List Tk) (b:Bool) (w:World) (h:Cur w c l b) (hp:Ps w p c) :
    Calls Tryz.prog 128 #[.pointer (some ⟨p,0,none⟩),.func (.func 129) #[.pointer (some ⟨p,0,none⟩)] #[]] w (RowRet Fo.dat 5 c l b w (blockG foF l)):=by
  have HP:=hid hp
  have HLN:=hid h.len
  have C0:=hid (show Calls Tryz.prog 86 #[.pointer (some ⟨c,0,none⟩),.string ⟨#[123]⟩] w (MustPost c l b [123] w) from must_any c l b ⟨#[123]⟩ w h)
  have hcl:=h.lt
  have x0:=hp.at_
  clear h hp
  obtain ⟨i0,hi0,hz0,hz1,hz2⟩:=info_parts infoPaR
  go_enter Tryz.func128,Tryz.ntmps128
  go_wp2_with fail
  refine C0.out.mono ?_
  rintro e W ⟨rfl,ha,hg⟩
  have HST:=hid (aft_next2 (must_less [123] l) ha (fun _ q=>itemsG foF (q.length+1) [] q))
  have HG:=hid hg
  clear ha hg C0 x0
  go_wp2_with fail
  go_loopw [5] (fun v wr=>∃ m acc q d,PaRel Fo.dat 89 5 w wr p c v m acc q d∧stop b l (blockG foF l)=(if d then .bad q else itemsG foF m acc q)) (fun v _=>200000-lenOf v)
  case atStart =>
    obtain ⟨q,d,h1,h2,-,h3⟩:=HST.out
    exact ⟨q.length+1,[],q,d,⟨h1,HP.out.gb HG.out,Built.nil _ _ _ _ _,HG.out,fun _=>Nat.le_refl _,by have:=HLN.out;simp;omega⟩,h3⟩
  obtain ⟨m,acc,q,d,hr,he⟩:=hrel
  have HR:=hid hr
  have HE:=hid he
  obtain ⟨A,cap,hv,-⟩:=hr.row.row (by omega) (by have:=hr.few;have:=Bool.toNat_le d;omega)
  subst hv
  have hfew:acc.length+q.length≤100002:=by have:=hr.few;have:=Bool.toNat_le d;omega
  have hsw:=hr.gb.size
  have CF:=hid (failed_any c q d wr hr.cur)
  have x0:=hr.ps.at_
  clear hr he
  cases d
  · have CT:=hid (show Calls Tryz.prog 92 #[.pointer (some ⟨c,0,none⟩),.string ⟨#[125]⟩] wr (TakePost c q false [125] wr) from take_any c q false ⟨#[125]⟩ wr HR.out.cur)
    go_wp2_with fail
    refine CF.out.mono ?_
    rintro e w0 ⟨rfl,rfl⟩
    go_wp2_with fail
    refine CT.out.mono ?_
    rintro e w2 ⟨rfl,hc,hg⟩
    cases hx:nextB false [125] q
    · have hi:isT [125] q=false:=by simpa [nextB] using hx
      have HI:=hid hi
      rw [takeL,hx] at hc
      have C3:=hid (param_any p c q false w2 hc (HR.out.ps.gb hg))
      have HB2:=hid (built_gb hg hcl HR.out.row)
      have HG2:=hid (gb_trans HR.out.gb hg)
      have HP2:=hid (HR.out.ps.gb hg)
      clear hx hi hc hg CT CF x0
      go_wp2_with fail
      refine C3.out.mono ?_
      rintro e w3 ⟨t,us,rfl,hd,ha,hg⟩
      obtain ⟨y1,y2,y3,rfl⟩:=fo_opens hd
      have HS2:=hid HG2.out.size
      obtain ⟨cs,S,hown,hrows,hzs,hS⟩:=built_gb hg hcl HB2.out
      have HOW:=hid hown
      have hol:=fun g (hgg:(Value.slice A acc.length cap).ownBlock=some g)=>(HB2.out.elim fun cs2 h2=>h2.elim fun S2 h3=>(h3.1.lt g hgg).2)
      have HSTP:=hid (fun (gg cp:Nat) (w5:World) h1 h2 h3=>built_more (w5:=w5) (gg:=gg) (cap:=cp) (T:=89) hown hrows hzs hS hd HS2.out hol (Fo.dat_size t) h1 h2 h3)
      have HA:=hid ha
      have HG3:=hid (gb_trans HG2.out hg)
      have hb3:w.heap.size≤(w3.alloc (.cells #[.string t.name,.string t.ty.name,.slice y1 y2 y3,.int .i64 t.ty.off,.int .i64 t.off] 89)).heap.size:=by have:=HG3.out.size;simp;omega
      have hlc:acc.length+1≤100003:=by omega
      clear hd ha hg hrows hzs hS hown C3 hol
      go_upto_region 5 with (at_builtin;refine wpList_append_lies _ rfl _ _ 24 rfl w.heap.size 89 i0 _ 5 72 Tryz.underlying24 hi0 hz0 hz1 hz2 rfl (by omega) _ acc.length cs rfl (HOW.out.alloc _) ⟨w3.heap.size,0,none⟩ 1 1 [.string t.name,.string t.ty.name,.slice y1 y2 y3,.int .i64 t.ty.off,.int .i64 t.off] rfl rfl (World.news_of_block (cs:=#[.string t.name,.string t.ty.name,.slice y1 y2 y3,.int .i64 t.ty.off,.int .i64 t.off]) (t:=89) (fr:=(0,0)) (heap_alloc_new _ _)) (by simp [Value.oneCell']) (by omega) (by unfold maxLen;omega) (by omega) hb3 _ rfl ?_;intro gg cp w5 hown5 hgrow5 hat5 hlt5;have HO5:=hid (And.intro hown5 (And.intro hgrow5 hat5));clear hown5 hgrow5 hat5 hlt5)
      obtain ⟨h1,h2,h3⟩:=HO5.out
      have hrw:∀ g,(Value.slice A acc.length cap).ownBlock=some g→w.heap.size≤g:=fun g hgg=>(HOW.out.lt g hgg).1
      have hal:=(Below.refl w3.heap.size w3).alloc (Nat.le_refl _) (.cells #[.string t.name,.string t.ty.name,.slice y1 y2 y3,.int .i64 t.ty.off,.int .i64 t.off] 89)
      have hup:Below (c+1) w3 w5:=(hal.mono (by have:=HG3.out.size;omega)).trans ((below_grown hb3 h2 hrw).mono hcl)
      obtain ⟨k,rfl⟩:∃ k,m=k+1:=⟨m-1,by have:=HR.out.fuel rfl;omega⟩
      obtain ⟨q',d',g1,gl,gs,g3⟩:=aft_next2 (b:=false) (foF_less q) (HA.out.up hup) (fun u q=>Got.bind (must [59] q) fun _ q=>itemsG foF k (acc++[u]) q)
      have hgb:=gb_grown HG3.out hal h2 hrw
      have HB5:=hid (show Built w5 False 89 5 w.heap.size (.slice (some ⟨gg,0,none⟩) (acc.length+1) cp) (acc++[t]).length ((acc++[t]).map Fo.dat) from by
        have:=HSTP.out gg cp w5 h1 h2 (h3.imp id fun h=>by simpa using h)
        rw [List.map_append,List.length_append]
        exact this)
      have HG5:=hid hgb
      have HE5:=hid (show stop b l (blockG foF l)=stop d' q' (Got.bind (must [59] q') fun _ q=>itemsG foF k (acc++[t]) q) from by
        rw [HE.out,if_neg (by decide),itemsG,HI.out,if_neg (by decide)]
        exact g3.trans (stop_if _ _ _))
      have x1:=(HP.out.gb hgb).at_
      have C5:=hid (show Calls Tryz.prog 86 #[.pointer (some ⟨c,0,none⟩),.string ⟨#[59]⟩] w5 (MustPost c q' d' [59] w5) from must_any c q' d' ⟨#[59]⟩ w5 g1)
      have HLS:=hid (And.intro gl gs)
      clear h1 h2 h3 hrw hal hup g1 gl gs g3 hgb HSTP HO5 HOW HB2
      go_wp2_with fail
      refine C5.out.mono ?_
      rintro e w6 ⟨rfl,ha,hg⟩
      have HA6:=hid ha
      have HG6:=hid hg
      clear ha hg x1 C5
      go_wp2_with fail
      go_roundw
      case rel =>
        obtain ⟨q2,d2,e1,e2,e3,e4⟩:=aft_next2 (must_less [59] q') HA6.out (fun _ q=>itemsG foF k (acc++[t]) q)
        have hgg:=gb_trans HG5.out HG6.out
        refine ⟨k,acc++[t],q2,d2,⟨e1,HP.out.gb hgg,built_gb HG6.out hcl HB5.out,hgg,?_,?_⟩,HE5.out.trans e4⟩
        · intro hd
          have:=HR.out.fuel rfl
          have h1:=e3 hd
          have h2:=(HLS.out.2 h1.1).2
          omega
        have h0:=HR.out.few
        have h1:=HLS.out.1
        simp only [List.length_append,List.length_cons,List.length_nil,Bool.toNat_false] at h0 ⊢
        cases d2
        · have h2:=e3 rfl
          have h3:=(HLS.out.2 h2.1).2
          simp only [Bool.toNat_false]
          omega
        simp only [Bool.toNat_true]
        omega
      case measure=>simp [lenOf];omega
    obtain ⟨-,hi⟩:=nextB_cons hx
    rw [takeL,hx,if_pos rfl] at hc
    have HI:=hid hi
    have HC:=hid hc
    have HG2:=hid hg
    clear hx hi hc hg CT CF x0
    go_wp2_with fail
    go_ret
    obtain ⟨A2,cap2,e2,hrow,-⟩:=(built_gb HG2.out hcl HR.out.row).row (by omega) (by omega)
    injection e2 with e2 e3 e4
    subst e2 e4
    refine ⟨acc,A,cap,rfl,hrow,?_,gb_trans HR.out.gb HG2.out⟩
    obtain ⟨k,rfl⟩:∃ k,m=k+1:=⟨m-1,by have:=HR.out.fuel rfl;omega⟩
    rw [HE.out,if_neg (by decide),itemsG,HI.out,if_pos rfl]
    exact ⟨rfl,HC.out⟩
  go_wp2_with fail
  refine CF.out.mono ?_
  rintro e w0 ⟨rfl,rfl⟩
  clear CF x0
  go_wp2_with fail
  go_ret
  obtain ⟨A2,cap2,e2,hrow,-⟩:=HR.out.row.row (by omega) (by omega)
  injection e2 with e2 e3 e4
  subst e2 e4
  refine ⟨acc,A,cap,rfl,hrow,?_,HR.out.gb⟩
  rw [HE.out]
  exact HR.out.cur
theorem blockSg_any (p c:Nat) (l:List Tk) (b:Bool) (w:World) (h:Cur w c l b) (hp:Ps w p c) :
    Calls Tryz.prog 130 #[.pointer (some ⟨p,0,none⟩),.func (.func 99) #[.pointer (some ⟨p,0,none⟩)] #[]] w (RowRet Sg.dat 7 c l b w (blockG sgF l)):=by
  have HP:=hid hp
  have HLN:=hid h.len
  have C0:=hid (show Calls Tryz.prog 86 #[.pointer (some ⟨c,0,none⟩),.string ⟨#[123]⟩] w (MustPost c l b [123] w) from must_any c l b ⟨#[123]⟩ w h)
  have hcl:=h.lt
  have x0:=hp.at_
  clear h hp
  obtain ⟨i0,hi0,hz0,hz1,hz2⟩:=info_parts infoSgR
  go_enter Tryz.func130,Tryz.ntmps130
  go_wp2_with fail
  refine C0.out.mono ?_
  rintro e W ⟨rfl,ha,hg⟩
  have HST:=hid (aft_next2 (must_less [123] l) ha (fun _ q=>itemsG sgF (q.length+1) [] q))
  have HG:=hid hg
  clear ha hg C0 x0
  go_wp2_with fail
  go_loopw [5] (fun v wr=>∃ m acc q d,PaRel Sg.dat 31 7 w wr p c v m acc q d∧stop b l (blockG sgF l)=(if d then .bad q else itemsG sgF m acc q)) (fun v _=>200000-lenOf v)
  case atStart =>
    obtain ⟨q,d,h1,h2,-,h3⟩:=HST.out
    exact ⟨q.length+1,[],q,d,⟨h1,HP.out.gb HG.out,Built.nil _ _ _ _ _,HG.out,fun _=>Nat.le_refl _,by have:=HLN.out;simp;omega⟩,h3⟩
  obtain ⟨m,acc,q,d,hr,he⟩:=hrel
  have HR:=hid hr
  have HE:=hid he
  obtain ⟨A,cap,hv,-⟩:=hr.row.row (by omega) (by have:=hr.few;have:=Bool.toNat_le d;omega)
  subst hv
  have hfew:acc.length+q.length≤100002:=by have:=hr.few;have:=Bool.toNat_le d;omega
  have hsw:=hr.gb.size
  have CF:=hid (failed_any c q d wr hr.cur)
  have x0:=hr.ps.at_
  clear hr he
  cases d
  · have CT:=hid (show Calls Tryz.prog 92 #[.pointer (some ⟨c,0,none⟩),.string ⟨#[125]⟩] wr (TakePost c q false [125] wr) from take_any c q false ⟨#[125]⟩ wr HR.out.cur)
    go_wp2_with fail
    refine CF.out.mono ?_
    rintro e w0 ⟨rfl,rfl⟩
    go_wp2_with fail
    refine CT.out.mono ?_
    rintro e w2 ⟨rfl,hc,hg⟩
    cases hx:nextB false [125] q
    · have hi:isT [125] q=false:=by simpa [nextB] using hx
      have HI:=hid hi
      rw [takeL,hx] at hc
      have C3:=hid (sig_any p c q false w2 hc (HR.out.ps.gb hg))
      have HB2:=hid (built_gb hg hcl HR.out.row)
      have HG2:=hid (gb_trans HR.out.gb hg)
      have HP2:=hid (HR.out.ps.gb hg)
      clear hx hi hc hg CT CF x0
      go_wp2_with fail
      refine C3.out.mono ?_
      rintro e w3 ⟨t,us,rfl,hd,ha,hg⟩
      obtain ⟨y1,y2,y3,y4,y5,y6,y7,y8,y9,rfl⟩:=sg_opens hd
      have HS2:=hid HG2.out.size
      obtain ⟨cs,S,hown,hrows,hzs,hS⟩:=built_gb hg hcl HB2.out
      have HOW:=hid hown
      have hol:=fun g (hgg:(Value.slice A acc.length cap).ownBlock=some g)=>(HB2.out.elim fun cs2 h2=>h2.elim fun S2 h3=>(h3.1.lt g hgg).2)
      have HSTP:=hid (fun (gg cp:Nat) (w5:World) h1 h2 h3=>built_more (w5:=w5) (gg:=gg) (cap:=cp) (T:=31) hown hrows hzs hS hd HS2.out hol (Sg.dat_size t) h1 h2 h3)
      have HA:=hid ha
      have HG3:=hid (gb_trans HG2.out hg)
      have hb3:w.heap.size≤(w3.alloc (.cells #[.string t.name,.slice y1 y2 y3,.slice y4 y5 y6,.string t.res.name,.slice y7 y8 y9,.int .i64 t.res.off,.int .i64 t.off] 31)).heap.size:=by have:=HG3.out.size;simp;omega
      have hlc:acc.length+1≤100003:=by omega
      clear hd ha hg hrows hzs hS hown C3 hol
      go_upto_region 5 with (at_builtin;refine wpList_append_lies _ rfl _ _ 25 rfl w.heap.size 31 i0 _ 7 120 Tryz.underlying25 hi0 hz0 hz1 hz2 rfl (by omega) _ acc.length cs rfl (HOW.out.alloc _) ⟨w3.heap.size,0,none⟩ 1 1 [.string t.name,.slice y1 y2 y3,.slice y4 y5 y6,.string t.res.name,.slice y7 y8 y9,.int .i64 t.res.off,.int .i64 t.off] rfl rfl (World.news_of_block (cs:=#[.string t.name,.slice y1 y2 y3,.slice y4 y5 y6,.string t.res.name,.slice y7 y8 y9,.int .i64 t.res.off,.int .i64 t.off]) (t:=31) (fr:=(0,0)) (heap_alloc_new _ _)) (by simp [Value.oneCell']) (by omega) (by unfold maxLen;omega) (by omega) hb3 _ rfl ?_;intro gg cp w5 hown5 hgrow5 hat5 hlt5;have HO5:=hid (And.intro hown5 (And.intro hgrow5 hat5));clear hown5 hgrow5 hat5 hlt5)
      obtain ⟨h1,h2,h3⟩:=HO5.out
      have hrw:∀ g,(Value.slice A acc.length cap).ownBlock=some g→w.heap.size≤g:=fun g hgg=>(HOW.out.lt g hgg).1
      have hal:=(Below.refl w3.heap.size w3).alloc (Nat.le_refl _) (.cells #[.string t.name,.slice y1 y2 y3,.slice y4 y5 y6,.string t.res.name,.slice y7 y8 y9,.int .i64 t.res.off,.int .i64 t.off] 31)
      have hup:Below (c+1) w3 w5:=(hal.mono (by have:=HG3.out.size;omega)).trans ((below_grown hb3 h2 hrw).mono hcl)
      obtain ⟨k,rfl⟩:∃ k,m=k+1:=⟨m-1,by have:=HR.out.fuel rfl;omega⟩
      obtain ⟨q',d',g1,gl,gs,g3⟩:=aft_next2 (b:=false) (sgF_less q) (HA.out.up hup) (fun u q=>Got.bind (must [59] q) fun _ q=>itemsG sgF k (acc++[u]) q)
      have hgb:=gb_grown HG3.out hal h2 hrw
      have HB5:=hid (show Built w5 False 31 7 w.heap.size (.slice (some ⟨gg,0,none⟩) (acc.length+1) cp) (acc++[t]).length ((acc++[t]).map Sg.dat) from by
        have:=HSTP.out gg cp w5 h1 h2 (h3.imp id fun h=>by simpa using h)
        rw [List.map_append,List.length_append]
        exact this)
      have HG5:=hid hgb
      have HE5:=hid (show stop b l (blockG sgF l)=stop d' q' (Got.bind (must [59] q') fun _ q=>itemsG sgF k (acc++[t]) q) from by
        rw [HE.out,if_neg (by decide),itemsG,HI.out,if_neg (by decide)]
        exact g3.trans (stop_if _ _ _))
      have x1:=(HP.out.gb hgb).at_
      have C5:=hid (show Calls Tryz.prog 86 #[.pointer (some ⟨c,0,none⟩),.string ⟨#[59]⟩] w5 (MustPost c q' d' [59] w5) from must_any c q' d' ⟨#[59]⟩ w5 g1)
      have HLS:=hid (And.intro gl gs)
      clear h1 h2 h3 hrw hal hup g1 gl gs g3 hgb HSTP HO5 HOW HB2
      go_wp2_with fail
      refine C5.out.mono ?_
      rintro e w6 ⟨rfl,ha,hg⟩
      have HA6:=hid ha
      have HG6:=hid hg
      clear ha hg x1 C5
      go_wp2_with fail
      go_roundw
      case rel =>
        obtain ⟨q2,d2,e1,e2,e3,e4⟩:=aft_next2 (must_less [59] q') HA6.out (fun _ q=>itemsG sgF k (acc++[t]) q)
        have hgg:=gb_trans HG5.out HG6.out
        refine ⟨k,acc++[t],q2,d2,⟨e1,HP.out.gb hgg,built_gb HG6.out hcl HB5.out,hgg,?_,?_⟩,HE5.out.trans e4⟩
        · intro hd
          have:=HR.out.fuel rfl
          have h1:=e3 hd
          have h2:=(HLS.out.2 h1.1).2
          omega
        have h0:=HR.out.few
        have h1:=HLS.out.1
        simp only [List.length_append,List.length_cons,List.length_nil,Bool.toNat_false] at h0 ⊢
        cases d2
        · have h2:=e3 rfl
          have h3:=(HLS.out.2 h2.1).2
          simp only [Bool.toNat_false]
          omega
        simp only [Bool.toNat_true]
        omega
      case measure=>simp [lenOf];omega
    obtain ⟨-,hi⟩:=nextB_cons hx
    rw [takeL,hx,if_pos rfl] at hc
    have HI:=hid hi
    have HC:=hid hc
    have HG2:=hid hg
    clear hx hi hc hg CT CF x0
    go_wp2_with fail
    go_ret
    obtain ⟨A2,cap2,e2,hrow,-⟩:=(built_gb HG2.out hcl HR.out.row).row (by omega) (by omega)
    injection e2 with e2 e3 e4
    subst e2 e4
    refine ⟨acc,A,cap,rfl,hrow,?_,gb_trans HR.out.gb HG2.out⟩
    obtain ⟨k,rfl⟩:∃ k,m=k+1:=⟨m-1,by have:=HR.out.fuel rfl;omega⟩
    rw [HE.out,if_neg (by decide),itemsG,HI.out,if_pos rfl]
    exact ⟨rfl,HC.out⟩
  go_wp2_with fail
  refine CF.out.mono ?_
  rintro e w0 ⟨rfl,rfl⟩
  clear CF x0
  go_wp2_with fail
  go_ret
  obtain ⟨A2,cap2,e2,hrow,-⟩:=HR.out.row.row (by omega) (by omega)
  injection e2 with e2 e3 e4
  subst e2 e4
  refine ⟨acc,A,cap,rfl,hrow,?_,HR.out.gb⟩
  rw [HE.out]
  exact HR.out.cur
