/- The walks of parse's typeDecl, method, methodOrMain, decl, declOrMain: they read what the plain words say. The condition: the cursor stands in tokens of a text. -/
import Derived.Test.YtkdlidakdknhjaaGreatDoorQDPaD
set_option maxRecDepth 100000
set_option maxHeartbeats 8000000
open Go.Lib (hid)
namespace Go.Proofs.YtkdlidakdknhjaaGreatDoor.Rd
open Go.RowKit
theorem boxd_one {w:World} {b j:Nat} {us:List Value} {v:Value} (h:Boxd w b us) (hj:j<us.length):Boxd (w.setCell ⟨b,j,none⟩ v) b (us.set j v):=fun k u hu=>by
  by_cases e:k=j
  · subst e
    rw [List.getElem?_set_self hj] at hu
    obtain rfl:=Option.some.inj hu
    exact World.cell?_setCell_same _ _ _ (h k us[k] (List.getElem?_eq_getElem hj))
  rw [List.getElem?_set_ne (fun e2=>e e2.symm)] at hu
  exact (World.cell?_setCell_other _ _ _ _ (by intro e2;exact e (by injection e2 with _ h2 _;exact_mod_cast h2.symm))).trans (h k u hu)
theorem free_at {w:World} {b n:Nat} (h:w.there b 0 n) (j:Nat) (hj:j<n):w.frozen? ⟨b,j,none⟩=false:=by
  have:=(h j hj).2
  rwa [Nat.zero_add] at this
theorem putD (w:World) {us:List Value} (hl:us.length=23):∃ W,(w.alloc (.cells #[.int .i64 0,.string ⟨#[]⟩,.slice none 0 0,.slice none 0 0,.slice none 0 0,.string ⟨#[]⟩,.slice none 0 0,.string ⟨#[]⟩,.slice none 0 0,.slice none 0 0,.string ⟨#[]⟩,.slice none 0 0,.int .i64 0,.int .i64 0,.int .i64 0,.string ⟨#[]⟩,.string ⟨#[]⟩,.slice none 0 0,.int .i64 0,.slice none 0 0,.slice none 0 0,.int .i64 0,.int .i64 0] 36)).setCells w.heap.size 0 us=W∧Below w.heap.size w W∧Boxd W w.heap.size us∧W.there w.heap.size 0 23∧(w.alloc (.cells #[.int .i64 0,.string ⟨#[]⟩,.slice none 0 0,.slice none 0 0,.slice none 0 0,.string ⟨#[]⟩,.slice none 0 0,.string ⟨#[]⟩,.slice none 0 0,.slice none 0 0,.string ⟨#[]⟩,.slice none 0 0,.int .i64 0,.int .i64 0,.int .i64 0,.string ⟨#[]⟩,.string ⟨#[]⟩,.slice none 0 0,.int .i64 0,.slice none 0 0,.slice none 0 0,.int .i64 0,.int .i64 0] 36)).there w.heap.size 0 us.length:=by
  have hb:Below w.heap.size w (w.alloc (.cells #[.int .i64 0,.string ⟨#[]⟩,.slice none 0 0,.slice none 0 0,.slice none 0 0,.string ⟨#[]⟩,.slice none 0 0,.string ⟨#[]⟩,.slice none 0 0,.slice none 0 0,.string ⟨#[]⟩,.slice none 0 0,.int .i64 0,.int .i64 0,.int .i64 0,.string ⟨#[]⟩,.string ⟨#[]⟩,.slice none 0 0,.int .i64 0,.slice none 0 0,.slice none 0 0,.int .i64 0,.int .i64 0] 36)):=(Below.refl _ _).alloc (Nat.le_refl _) _
  have ht:(w.alloc (.cells #[.int .i64 0,.string ⟨#[]⟩,.slice none 0 0,.slice none 0 0,.slice none 0 0,.string ⟨#[]⟩,.slice none 0 0,.string ⟨#[]⟩,.slice none 0 0,.slice none 0 0,.string ⟨#[]⟩,.slice none 0 0,.int .i64 0,.int .i64 0,.int .i64 0,.string ⟨#[]⟩,.string ⟨#[]⟩,.slice none 0 0,.int .i64 0,.slice none 0 0,.slice none 0 0,.int .i64 0,.int .i64 0] 36)).there w.heap.size 0 us.length:=by rw [hl];exact there_new w #[.int .i64 0,.string ⟨#[]⟩,.slice none 0 0,.slice none 0 0,.slice none 0 0,.string ⟨#[]⟩,.slice none 0 0,.string ⟨#[]⟩,.slice none 0 0,.slice none 0 0,.string ⟨#[]⟩,.slice none 0 0,.int .i64 0,.int .i64 0,.int .i64 0,.string ⟨#[]⟩,.string ⟨#[]⟩,.slice none 0 0,.int .i64 0,.slice none 0 0,.slice none 0 0,.int .i64 0,.int .i64 0] 36
  refine ⟨_,rfl,hb.trans (below_sets (Nat.le_refl _) _ _ _),set_there ht,?_,ht⟩
  rw [hl] at ht
  exact World.there_setCells ht _ _ _
theorem results_typeDecl {w:World} {b:Nat} {us:List Value} (tmps:Array Value) (ht:tmps[2]?.getD undef=.pointer (some ⟨b,0,none⟩)) (hc:Boxd w b us) (hl:us.length=23):(results Tryz.f49 tmps).run Tryz.prog w=.ok (.agg us.toArray) w:=by
  have h:=run_cell flatDc hc hl
  have h2:=run_addr ⟨b,0,none⟩ w
  simp [results,Tryz.results49,ht,h,h2,Sem.run_bind,Result.andThen]
theorem typeDecl_any (p c:Nat) (l:List Tk) (b:Bool) (w:World) (h:Cur w c l b) (hp:Ps w p c):Calls Tryz.prog 49 #[.pointer (some ⟨p,0,none⟩)] w (ItRet Dc.dat c l b w (typeDeclF l)):=by
  have hlt:=h.lt
  have hpl:=hp.lt
  obtain ⟨W0,hW0⟩:∃ W,w.alloc (.cells #[.int .i64 0,.string ⟨#[]⟩,.slice none 0 0,.slice none 0 0,.slice none 0 0,.string ⟨#[]⟩,.slice none 0 0,.string ⟨#[]⟩,.slice none 0 0,.slice none 0 0,.string ⟨#[]⟩,.slice none 0 0,.int .i64 0,.int .i64 0,.int .i64 0,.string ⟨#[]⟩,.string ⟨#[]⟩,.slice none 0 0,.int .i64 0,.slice none 0 0,.slice none 0 0,.int .i64 0,.int .i64 0] 36)=W:=⟨_,rfl⟩
  have hb0:Below w.heap.size w W0:=hW0▸(Below.refl _ _).alloc (Nat.le_refl _) _
  have hs0:W0.heap.size=w.heap.size+1:=by rw [←hW0];simp
  have HW0:=hid hW0
  have P0:=hid (hp.later hb0)
  have T0:=hid (show W0.there w.heap.size 0 23 from hW0▸there_new w #[.int .i64 0,.string ⟨#[]⟩,.slice none 0 0,.slice none 0 0,.slice none 0 0,.string ⟨#[]⟩,.slice none 0 0,.string ⟨#[]⟩,.slice none 0 0,.slice none 0 0,.string ⟨#[]⟩,.slice none 0 0,.int .i64 0,.int .i64 0,.int .i64 0,.string ⟨#[]⟩,.string ⟨#[]⟩,.slice none 0 0,.int .i64 0,.slice none 0 0,.slice none 0 0,.int .i64 0,.int .i64 0] 36)
  have G0:=hid (gb_of (some c) hb0)
  have C1:=hid (name_any c l b W0 (h.later hb0))
  clear h hp hW0 hb0
  go_enter Tryz.func49,Tryz.ntmps49
  go_upto_region 1 with fail
  rw [HW0.out]
  have x0:=P0.out.at_
  go_wp2_with fail
  refine C1.out.mono ?_
  rintro e w1 ⟨nm,rfl,hz,ha,hg⟩
  obtain ⟨q1,d1,hcur,-,-,heq⟩:=aft_next2 (name_less l) ha (fun t q=>Got.bind (bracketsG foF q) fun fs q=>Got.bind (chooseF wStruct structF wInter interF q) fun d q=>Got.bind (must [59] q) fun _ q=>Got.ok ({ d with name:=t.s,off:=t.o,fs:=fs }:Dc) q)
  have E1:=hid (show stop b l (typeDeclF l)=_ from heq.trans (stop_if _ _ _))
  have HZ:=hid hz
  have P1:=hid (P0.out.gb hg)
  have G1:=hid (gb_trans G0.out hg)
  have T1:=hid (there_gb T0.out (by omega) (by omega) hg)
  have hs1:w.heap.size+1≤w1.heap.size:=by have:=hg.size;omega
  have C2:=hid (formals_any p c q1 d1 w1 hcur P1.out)
  clear hz ha hg hcur heq x0 C1 P0 G0 T0
  go_wp2_with fail
  refine C2.out.mono ?_
  rintro e w2 ⟨fs,F,cf,rfl,hr,ha,hg⟩
  obtain ⟨q2,d2,hcur,-,-,heq⟩:=aft_next3 (bracketsG_ends foF_less q1) ha (fun fs q=>Got.bind (chooseF wStruct structF wInter interF q) fun d q=>Got.bind (must [59] q) fun _ q=>Got.ok ({ d with name:=nm.s,off:=nm.o,fs:=fs }:Dc) q)
  have E2:=hid (E1.out.trans (heq.trans (stop_if _ _ _)))
  have P2:=hid (P1.out.gb hg)
  have G2:=hid (gb_trans G1.out hg)
  have T2:=hid (there_gb T1.out (by omega) (by omega) hg)
  have R2:=hid (hr.wide (S':=Fr (w.heap.size+1) w2) fun i hi=>⟨Nat.le_trans hs1 hi.1,hi.2⟩)
  have hs2:w.heap.size+1≤w2.heap.size:=Nat.le_trans hs1 hg.size
  have hmm:=@run_makeMap Tryz.prog
  have hi0:=run_ins0 w2 ⟨#[115,116,114,117,99,116]⟩ (.func (.func 95) #[] #[])
  have hi1:=run_ins1 w2 ⟨#[115,116,114,117,99,116]⟩ ⟨#[105,110,116,101,114,102,97,99,101]⟩ (.func (.func 95) #[] #[]) (.func (.func 96) #[] #[]) (by decide)
  obtain ⟨W3,hW3⟩:∃ W,w2.alloc (.map #[⟨.string ⟨#[115,116,114,117,99,116]⟩,(.func (.func 95) #[] #[]),0⟩,⟨.string ⟨#[105,110,116,101,114,102,97,99,101]⟩,(.func (.func 96) #[] #[]),1⟩] 2)=W:=⟨_,rfl⟩
  have hb3:Below w2.heap.size w2 W3:=hW3▸(Below.refl _ _).alloc (Nat.le_refl _) _
  have HW3:=hid hW3
  have G3:=hid (gb_trans G2.out (gb_of (some c) hb3))
  have T3:=hid (there_up T2.out (by omega) hb3)
  have P3:=hid (P2.out.later hb3)
  have R3:=hid (row_gb (gb_of (some 0) hb3) (by omega) R2.out)
  have C3:=hid (chooseK_any p c w2.heap.size q2 d2 W3 (hcur.later hb3) P3.out ⟨by rw [←hW3];exact heap_alloc_new _ _,by omega⟩)
  have hs3:w2.heap.size≤W3.heap.size:=hb3.size
  clear hr ha hg hcur heq hW3 hb3 C2 P1 G1 T1 P2 G2 T2 R2
  go_wp2_with fail
  rw [HW3.out]
  refine C3.out.mono ?_
  rintro e w4 ⟨t,us,rfl,hd,ha,hg,-⟩
  obtain ⟨q3,d3,hcur,-,-,heq⟩:=aft_next2 (chooseF_less structF_ends interF_ends q2) ha (fun d q=>Got.bind (must [59] q) fun _ q=>Got.ok ({ d with name:=nm.s,off:=nm.o,fs:=fs }:Dc) q)
  have E3:=hid (E2.out.trans (heq.trans (stop_if _ _ _)))
  have G4:=hid (gb_trans G3.out hg)
  have T4:=hid (there_gb T3.out (by omega) (by omega) hg)
  have P4:=hid (P3.out.gb hg)
  have R4:=hid (row_gb hg (by omega) R3.out)
  have hs4:=hg.size
  have hd2:=hd.wide (S':=Fr (w.heap.size+1) w4) fun i hi=>⟨by have:=hi.1;omega,hi.2⟩
  obtain ⟨F0,nf0,cf0,M,nm0,cm,G,ng,cg,V,nv,cv,F2,nf2,cf2,P2',np2,cp2,A2,m2,a2,A3,m3,a3,B3,l3,b3,C3',n3,c3,rfl,hput⟩:=dc_opens hd2
  obtain ⟨L,hL⟩:∃ L,w4.heap.size=L:=⟨_,rfl⟩
  obtain ⟨W5,hW5,hb5,bx5,th5,th50⟩:=putD w4 (us:=[.int .i64 t.kind,.string t.name,.slice F0 nf0 cf0,.slice M nm0 cm,.slice G ng cg,.string t.recv,.slice V nv cv,.string t.sig.name,.slice F2 nf2 cf2,.slice P2' np2 cp2,.string t.sig.res.name,.slice A2 m2 a2,.int .i64 t.sig.res.off,.int .i64 t.sig.off,.int .i64 t.body.kind,.string t.body.name,.string t.body.ty.name,.slice A3 m3 a3,.int .i64 t.body.ty.off,.slice B3 l3 b3,.slice C3' n3 c3,.int .i64 t.body.off,.int .i64 t.off]) rfl
  rw [hL] at bx5 th5
  have T50:=hid th50
  have O50:=hid (dc_one hd2).1
  have HW5:=hid hW5
  obtain ⟨V6,hV6⟩:∃ X,((W5.setCells L 1 [.string nm.s]).setCells L 22 [.int .i64 nm.o]).setCells L 2 [.slice F fs.length cf]=X:=⟨_,rfl⟩
  have hgL:w4.grownBy V6 (some L):=hV6▸gb_trans (gb_trans (gb_trans (gb_of (some L) hb5) (gb_sets1 _ _ _ _)) (gb_sets1 _ _ _ _)) (gb_sets1 _ _ _ _)
  have hbL:Below L w4 V6:=gb_below hgL (by omega)
  have bx6:Boxd V6 L [.int .i64 t.kind,.string nm.s,.slice F fs.length cf,.slice M nm0 cm,.slice G ng cg,.string t.recv,.slice V nv cv,.string t.sig.name,.slice F2 nf2 cf2,.slice P2' np2 cp2,.string t.sig.res.name,.slice A2 m2 a2,.int .i64 t.sig.res.off,.int .i64 t.sig.off,.int .i64 t.body.kind,.string t.body.name,.string t.body.ty.name,.slice A3 m3 a3,.int .i64 t.body.ty.off,.slice B3 l3 b3,.slice C3' n3 c3,.int .i64 t.body.off,.int .i64 nm.o]:=hV6▸boxd_one (boxd_one (boxd_one bx5 (by simp)) (by simp)) (by simp)
  have hrk:Row V6 False (Fr (w.heap.size+1) w4) 5 F fs.length (fs.map Fo.dat):=R4.out.keep id (gb_kept hgL fun k hk=>⟨hk.2,by have:=hk.2;omega⟩) (fun _ h=>h)
  have HD6:=hid (hput V6 (Fr (w.heap.size+1) w4) nm.s nm.o fs F cf (gb_kept hgL fun k hk=>⟨hk.2,by have:=hk.2;omega⟩) (fun _ h=>h) (by have:=HZ.out;omega) hrk)
  have BX6:=hid bx6
  have T6:=hid (there_up T4.out (by omega) hbL)
  have P6:=hid (P4.out.up (by omega) hbL)
  have C6:=hid (show Calls Tryz.prog 86 #[.pointer (some ⟨c,0,none⟩),.string ⟨#[59]⟩] V6 (MustPost c q3 d3 [59] V6) from must_any c q3 d3 ⟨#[59]⟩ V6 (Cur.up hcur (hbL.mono (by omega))))
  have G6:=hid (show w.grownBy V6 (some c) from ⟨hbL.os.trans G4.out.os,hbL.tape.trans G4.out.tape,hbL.output.trans G4.out.output,Nat.le_trans G4.out.size hbL.size,fun i hi hne=>(hbL.block i (by omega)).trans (G4.out.block i hi hne)⟩)
  have HV6:=hid (show ((W5.setCell ⟨L,1,none⟩ (.string nm.s)).setCell ⟨L,22,none⟩ (.int .i64 nm.o)).setCell ⟨L,2,none⟩ (.slice F fs.length cf)=V6 from hV6)
  have z1:=bx5 1 _ rfl
  have z22:=bx5 22 _ rfl
  have z2:=bx5 2 _ rfl
  have g1:=free_at th5 1 (by omega)
  have g22:=free_at th5 22 (by omega)
  have g2:=free_at th5 2 (by omega)
  have hs6:=hbL.size
  have HL:=hid hL
  have hLc:c<L:=by omega
  clear hd ha hg hcur heq hd2 hput hW5 hb5 bx5 th5 th50 hV6 hgL hbL bx6 hrk hmm hi0 hi1 C3 HW3 hL
  go_upto_region 4 with (refine storeOp flatDc 6 20 (b:=w4.heap.size) (o:=0) (us:=[.int .i64 t.kind,.string t.name,.slice F0 nf0 cf0,.slice M nm0 cm,.slice G ng cg,.string t.recv,.slice V nv cv,.string t.sig.name,.slice F2 nf2 cf2,.slice P2' np2 cp2,.string t.sig.res.name,.slice A2 m2 a2,.int .i64 t.sig.res.off,.int .i64 t.sig.off,.int .i64 t.body.kind,.string t.body.name,.string t.body.ty.name,.slice A3 m3 a3,.int .i64 t.body.ty.off,.slice B3 l3 b3,.slice C3' n3 c3,.int .i64 t.body.off,.int .i64 t.off]) rfl rfl T50.out O50.out rfl ?_;rw [HW5.out])
  rw [HL.out]
  go_upto_region 5 with fail
  rw [HV6.out]
  clear z1 z22 z2 g1 g22 g2
  have x0:=P6.out.at_
  go_wp2_with fail
  refine C6.out.mono ?_
  rintro e w7 ⟨rfl,ha,hg⟩
  have HA:=hid ha
  have G7:=hid (gb_trans G6.out hg)
  have T7:=hid (there_gb T6.out (by have:=G6.out.size;omega) (by omega) hg)
  have HX:=hid (boxd_at0 (boxd_gb hg (by omega) BX6.out))
  have hLw:L≤V6.heap.size:=by have:=HL.out;omega
  have HD7:=hid (Dat.In.keep (N':=False) id (gb_kept hg fun k hk=>⟨by have h1:=hk.2;have h2:=HL.out;omega,by have:=hk.1;omega⟩) (fun k hk=>(⟨by have:=hk.1;omega,by have h1:=hk.2;have h2:=hg.size;have h3:=HL.out;omega⟩:Fr w.heap.size w7 k)) _ _ HD6.out)
  have hb1:=fun k (hk:Fr (w.heap.size+1) w4 k)=>hk.1
  have HD8:=hid (Dat.In.keep (N':=False) id (gb_kept (gb_trans (gb_of (some w.heap.size) (Below.refl w7.heap.size w7)) (gb_sets1 w7 w.heap.size 0 [.int .i64 t.kind,.string nm.s,.slice F fs.length cf,.slice M nm0 cm,.slice G ng cg,.string t.recv,.slice V nv cv,.string t.sig.name,.slice F2 nf2 cf2,.slice P2' np2 cp2,.string t.sig.res.name,.slice A2 m2 a2,.int .i64 t.sig.res.off,.int .i64 t.sig.off,.int .i64 t.body.kind,.string t.body.name,.string t.body.ty.name,.slice A3 m3 a3,.int .i64 t.body.ty.off,.slice B3 l3 b3,.slice C3' n3 c3,.int .i64 t.body.off,.int .i64 nm.o])) (S:=fun k=>Fr (w.heap.size+1) w7 k) fun k hk=>⟨hk.2,by have:=hk.1;omega⟩) (fun k hk=>(⟨by have:=hk.1;omega,by rw [size_sets];exact hk.2⟩:Fr w.heap.size (w7.setCells w.heap.size 0 [.int .i64 t.kind,.string nm.s,.slice F fs.length cf,.slice M nm0 cm,.slice G ng cg,.string t.recv,.slice V nv cv,.string t.sig.name,.slice F2 nf2 cf2,.slice P2' np2 cp2,.string t.sig.res.name,.slice A2 m2 a2,.int .i64 t.sig.res.off,.int .i64 t.sig.off,.int .i64 t.body.kind,.string t.body.name,.string t.body.ty.name,.slice A3 m3 a3,.int .i64 t.body.ty.off,.slice B3 l3 b3,.slice C3' n3 c3,.int .i64 t.body.off,.int .i64 nm.o]) k)) _ _ (Dat.In.keep (N':=False) id (gb_kept hg fun k hk=>⟨by have h1:=hk.2;have h2:=HL.out;omega,by have:=hk.1;omega⟩) (fun k hk=>(⟨hk.1,by have h1:=hk.2;have h2:=hg.size;have h3:=HL.out;omega⟩:Fr (w.heap.size+1) w7 k)) _ _ HD6.out))
  clear ha hg x0 C6
  go_wp2_with (first | (refine loadOp flatDc 6 32 rfl HX.out rfl ?_) | (refine storeOp flatDc 2 32 (b:=w.heap.size) (o:=0) (us:=[.int .i64 t.kind,.string nm.s,.slice F fs.length cf,.slice M nm0 cm,.slice G ng cg,.string t.recv,.slice V nv cv,.string t.sig.name,.slice F2 nf2 cf2,.slice P2' np2 cp2,.string t.sig.res.name,.slice A2 m2 a2,.int .i64 t.sig.res.off,.int .i64 t.sig.off,.int .i64 t.body.kind,.string t.body.name,.string t.body.ty.name,.slice A3 m3 a3,.int .i64 t.body.ty.off,.slice B3 l3 b3,.slice C3' n3 c3,.int .i64 t.body.off,.int .i64 nm.o]) rfl rfl T7.out (dc_one HD7.out).1 rfl ?_))
  refine bodyPost_ret (results_typeDecl _ rfl (set_there (us:=[.int .i64 t.kind,.string nm.s,.slice F fs.length cf,.slice M nm0 cm,.slice G ng cg,.string t.recv,.slice V nv cv,.string t.sig.name,.slice F2 nf2 cf2,.slice P2' np2 cp2,.string t.sig.res.name,.slice A2 m2 a2,.int .i64 t.sig.res.off,.int .i64 t.sig.off,.int .i64 t.body.kind,.string t.body.name,.string t.body.ty.name,.slice A3 m3 a3,.int .i64 t.body.ty.off,.slice B3 l3 b3,.slice C3' n3 c3,.int .i64 t.body.off,.int .i64 nm.o]) T7.out) rfl) rfl ?_
  refine ⟨_,_,rfl,HD8.out,?_,gb_sets (some c) G7.out (Nat.le_refl _) _ _⟩
  rw [E3.out,stop_bind]
  exact (aft_ret HA.out (fun _=>({ t with name:=nm.s,off:=nm.o,fs:=fs }:Dc)) rfl).set hlt _ _
