/- The walks of parse's readers of names, formals, parameters and lists of them: they read what the plain words say. The condition: the cursor stands in tokens of a text. -/
import Derived.Test.YtkdlidakdknhjaaGreatDoorQDPaP
import Derived.Test.YtkdlidakdknhjaaGreatDoorQDRdS
set_option maxRecDepth 100000
set_option maxHeartbeats 4000000
open Go.Lib (hid)
namespace Go.Proofs.YtkdlidakdknhjaaGreatDoor.Rd
open Go.RowKit
structure Ps (w:World) (p c:Nat):Prop where
  at_:w.cell? ⟨p,0,none⟩=some (.pointer (some ⟨c,0,none⟩))
  ne:p≠c
theorem Ps.gb {w w':World} {p c:Nat} (h:Ps w p c) (hg:w.grownBy w' (some c)):Ps w' p c:=⟨gb_cell hg h.at_ h.ne,h.ne⟩
theorem Ps.later {w w':World} {p c:Nat} (h:Ps w p c) (hb:Below w.heap.size w w'):Ps w' p c:=⟨(hb.cell (cell_lt h.at_)).trans h.at_,h.ne⟩
def ItRet {α:Type} (dt:α→Dat) (c:Nat) (l:List Tk) (b:Bool) (w:World) (g:Got α) (e:Ending) (w':World):Prop:=∃ (t:α) (us:List Value),e=.returned (.agg us.toArray)∧(dt t).In w' False (Fr w.heap.size w') us∧Aft w' c t (stop b l g)∧w.grownBy w' (some c)
def StrRet (c:Nat) (l:List Tk) (b:Bool) (w:World) (g:Got ByteArray) (e:Ending) (w':World):Prop:=∃ t:ByteArray,e=.returned (.string t)∧t.size≤100000∧Aft w' c t (stop b l g)∧w.grownBy w' (some c)
def RowRet {α:Type} (dt:α→Dat) (z:Nat) (c:Nat) (l:List Tk) (b:Bool) (w:World) (g:Got (List α)) (e:Ending) (w':World):Prop:=∃ (ts:List α) (A:Option Addr) (cap:Nat),e=.returned (.slice A ts.length cap)∧Row w' False (Fr w.heap.size w') z A ts.length (ts.map dt)∧Aft w' c ts (stop b l g)∧w.grownBy w' (some c)
theorem str_in {w:World} {N:Prop} {S:Nat→Prop} {s:ByteArray} (h:s.size≤100000):(Dat.str s).In w N S [.string s]:=by
  rw [Dat.In]
  exact ⟨rfl,by omega⟩
theorem fo_opens {w:World} {N:Prop} {S:Nat→Prop} {f:Fo} {us:List Value} (h:f.dat.In w N S us):∃ A m a,us=[.string f.name,.string f.ty.name,.slice A m a,.int .i64 f.ty.off,.int .i64 f.off]:=by
  rw [Fo.dat] at h
  simp only [Dat.In,Dat.Ins] at h
  obtain ⟨u1,u2,rfl,⟨rfl,h1⟩,u3,u4,rfl,h2,u5,u6,rfl,rfl,rfl⟩:=h
  obtain ⟨A,m,a,rfl,_⟩:=ty_open h2
  exact ⟨A,m,a,rfl⟩
theorem foMkR {w:World} {N:Prop} {S:Nat→Prop} {s:ByteArray} {u:Ty} {o:Int} {A:Option Addr} {m a:Nat} (h1:s.size≤9223372036854775807) (h2:u.dat.In w N S [.string u.name,.slice A m a,.int .i64 u.off]):(Fo.mk s u o).dat.In w N S [.string s,.string u.name,.slice A m a,.int .i64 u.off,.int .i64 o]:=by
  rw [Fo.dat]
  simp only [Dat.In,Dat.Ins]
  exact ⟨[_],_,rfl,⟨rfl,h1⟩,[_,_,_],_,rfl,h2,[_],[],rfl,rfl,rfl⟩
theorem five_one {s t:ByteArray} {A:Option Addr} {n c:Nat} {i j:Int}:∀ u∈([.string s,.string t,.slice A n c,.int .i64 i,.int .i64 j]:List Value),u.oneCell'=true:=by
  intro u hu
  simp only [List.mem_cons,List.not_mem_nil,or_false] at hu
  rcases hu with rfl | rfl | rfl | rfl | rfl<;>rfl
theorem flatFo:Flat 85 5:=⟨by kernel_rfl,_,Tryz.underlying85,rfl⟩
theorem flatPa:Flat 89 5:=⟨by kernel_rfl,_,Tryz.underlying89,rfl⟩
theorem infoFoR:(Tryz.prog.info? 85).map (fun i=>(i.zero,i.size,i.bytes))=some (some (.agg #[.string ⟨#[]⟩,.string ⟨#[]⟩,.slice none 0 0,.int .i64 0,.int .i64 0]),5,72):=by kernel_rfl
theorem infoPaR:(Tryz.prog.info? 89).map (fun i=>(i.zero,i.size,i.bytes))=some (some (.agg #[.string ⟨#[]⟩,.string ⟨#[]⟩,.slice none 0 0,.int .i64 0,.int .i64 0]),5,72):=by kernel_rfl
theorem variable_any (p c:Nat) (l:List Tk) (b:Bool) (w:World) (h:Cur w c l b) (hp:Ps w p c):Calls Tryz.prog 97 #[.pointer (some ⟨p,0,none⟩)] w (StrRet c l b w (varF l)):=by
  have x0:=hp.at_
  have C:=hid (name_any c l b w h)
  clear h hp
  go_enter Tryz.func97,Tryz.ntmps97
  go_wp2_with fail
  refine C.out.mono ?_
  rintro e w1 ⟨nm,rfl,hz,ha,hg⟩
  have HA:=hid ha
  have HG:=hid hg
  have HZ:=hid hz
  clear ha hg hz x0 C
  go_wp2_with fail
  go_ret
  refine ⟨nm.s,rfl,HZ.out,?_,HG.out⟩
  rw [varF,stop_bind]
  exact aft_ret HA.out (fun t=>t.s) rfl
theorem results_formal {w:World} {b:Nat} {us:List Value} (tmps:Array Value) (ht:tmps[2]?.getD undef=.pointer (some ⟨b,0,none⟩)) (hc:Boxd w b us) (hl:us.length=5):(results Tryz.f127 tmps).run Tryz.prog w=.ok (.agg us.toArray) w:=by
  have h:=run_cell flatFo hc hl
  have h2:=run_addr ⟨b,0,none⟩ w
  simp [results,Tryz.results127,ht,h,h2,Sem.run_bind,Result.andThen]
theorem formal_any (p c:Nat) (l:List Tk) (b:Bool) (w:World) (h:Cur w c l b) (hp:Ps w p c):Calls Tryz.prog 127 #[.pointer (some ⟨p,0,none⟩)] w (ItRet Fo.dat c l b w (foF l)):=by
  have hlt:=h.lt
  obtain ⟨W0,hW0⟩:∃ W,w.alloc (.cells #[.string ⟨#[]⟩,.string ⟨#[]⟩,.slice none 0 0,.int .i64 0,.int .i64 0] 85)=W:=⟨_,rfl⟩
  have hb0:Below w.heap.size w W0:=hW0▸(Below.refl _ _).alloc (Nat.le_refl _) _
  have hs0:W0.heap.size=w.heap.size+1:=by rw [←hW0];simp
  have H:=hid (h.later hb0)
  have HP:=hid (hp.later hb0)
  have HW0:=hid hW0
  have HB0:=hid hb0
  have HS0:=hid hs0
  have HT0:=hid (show W0.there w.heap.size 0 5 from hW0▸there_new w #[.string ⟨#[]⟩,.string ⟨#[]⟩,.slice none 0 0,.int .i64 0,.int .i64 0] 85)
  clear h hp hW0 hb0 hs0
  go_enter Tryz.func127,Tryz.ntmps127
  go_upto_region 1 with fail
  rw [HW0.out]
  have x0:=HP.out.at_
  go_wp2_with fail
  refine (name_any c l b W0 H.out).mono ?_
  rintro e w1 ⟨nm,rfl,hz,ha,hg⟩
  obtain ⟨q,d,hcur,hql,-,heq⟩:=aft_next2 (name_less l) ha (fun t q=>Got.bind (tyA q) fun u q=>Got.ok (Fo.mk t.s u t.o) q)
  have HEQ:=hid heq
  have HZ:=hid hz
  have HG1:=hid hg
  have HP1:=hid (HP.out.gb hg)
  have C2:=hid (type_any' (2*q.length+2) c q d w1 hcur (fun _=>by omega))
  clear ha hg heq hcur hz x0
  have x0:=HP1.out.at_
  go_wp2_with fail
  refine C2.out.mono ?_
  rintro e w2 ⟨u,us,rfl,hd,ha,hg⟩
  obtain ⟨B,m,k,rfl,-⟩:=ty_open hd
  have HD:=hid hd
  have HA:=hid ha
  have HG2:=hid (gb_trans HG1.out hg)
  have hs1:=HG1.out.size
  have HT2:=hid (there_gb HT0.out (by rw [HS0.out];omega) (by omega) HG2.out)
  clear hd ha hg C2 x0
  go_wp2_with (refine storeOp flatFo 2 20 (b:=w.heap.size) (o:=0) (us:=[.string nm.s,.string u.name,.slice B m k,.int .i64 u.off,.int .i64 nm.o]) rfl rfl HT2.out five_one rfl ?_)
  refine bodyPost_ret (results_formal _ rfl (set_there (us:=[.string nm.s,.string u.name,.slice B m k,.int .i64 u.off,.int .i64 nm.o]) HT2.out) rfl) rfl ?_
  have hgs:=gb_sets1 w2 w.heap.size 0 [.string nm.s,.string u.name,.slice B m k,.int .i64 u.off,.int .i64 nm.o]
  refine ⟨⟨nm.s,u,nm.o⟩,_,rfl,?_,?_,?_⟩
  · have hd2:=in_gb hgs (lo:=w1.heap.size) (by rw [HS0.out] at hs1;omega) HD.out
    exact foMkR (by have:=HZ.out;omega) (hd2.wide fun i hi=>⟨by have:=hi.1;rw [HS0.out] at hs1;omega,hi.2⟩)
  · have hup:Below (c+1) w2 (w2.setCells w.heap.size 0 [.string nm.s,.string u.name,.slice B m k,.int .i64 u.off,.int .i64 nm.o]):=below_sets hlt _ _ _
    rw [foF,HEQ.out,stop_if,stop_bind]
    exact aft_ret (HA.out.up hup) (fun u=>Fo.mk nm.s u nm.o) rfl
  exact gb_sets (some c) (gb_trans (gb_of (some c) HB0.out) HG2.out) (Nat.le_refl _) _ _
theorem results_param {w:World} {b:Nat} {us:List Value} (tmps:Array Value) (ht:tmps[2]?.getD undef=.pointer (some ⟨b,0,none⟩)) (hc:Boxd w b us) (hl:us.length=5):(results Tryz.f129 tmps).run Tryz.prog w=.ok (.agg us.toArray) w:=by
  have h:=run_cell flatPa hc hl
  have h2:=run_addr ⟨b,0,none⟩ w
  simp [results,Tryz.results129,ht,h,h2,Sem.run_bind,Result.andThen]
theorem param_any (p c:Nat) (l:List Tk) (b:Bool) (w:World) (h:Cur w c l b) (hp:Ps w p c):Calls Tryz.prog 129 #[.pointer (some ⟨p,0,none⟩)] w (ItRet Fo.dat c l b w (foF l)):=by
  have hlt:=h.lt
  obtain ⟨W0,hW0⟩:∃ W,w.alloc (.cells #[.string ⟨#[]⟩,.string ⟨#[]⟩,.slice none 0 0,.int .i64 0,.int .i64 0] 89)=W:=⟨_,rfl⟩
  have hb0:Below w.heap.size w W0:=hW0▸(Below.refl _ _).alloc (Nat.le_refl _) _
  have hs0:W0.heap.size=w.heap.size+1:=by rw [←hW0];simp
  have H:=hid (h.later hb0)
  have HP:=hid (hp.later hb0)
  have HW0:=hid hW0
  have HB0:=hid hb0
  have HS0:=hid hs0
  have HT0:=hid (show W0.there w.heap.size 0 5 from hW0▸there_new w #[.string ⟨#[]⟩,.string ⟨#[]⟩,.slice none 0 0,.int .i64 0,.int .i64 0] 89)
  clear h hp hW0 hb0 hs0
  go_enter Tryz.func129,Tryz.ntmps129
  go_upto_region 1 with fail
  rw [HW0.out]
  have x0:=HP.out.at_
  go_wp2_with fail
  refine (name_any c l b W0 H.out).mono ?_
  rintro e w1 ⟨nm,rfl,hz,ha,hg⟩
  obtain ⟨q,d,hcur,hql,-,heq⟩:=aft_next2 (name_less l) ha (fun t q=>Got.bind (tyA q) fun u q=>Got.ok (Fo.mk t.s u t.o) q)
  have HEQ:=hid heq
  have HZ:=hid hz
  have HG1:=hid hg
  have HP1:=hid (HP.out.gb hg)
  have C2:=hid (type_any' (2*q.length+2) c q d w1 hcur (fun _=>by omega))
  clear ha hg heq hcur hz x0
  have x0:=HP1.out.at_
  go_wp2_with fail
  refine C2.out.mono ?_
  rintro e w2 ⟨u,us,rfl,hd,ha,hg⟩
  obtain ⟨B,m,k,rfl,-⟩:=ty_open hd
  have HD:=hid hd
  have HA:=hid ha
  have HG2:=hid (gb_trans HG1.out hg)
  have hs1:=HG1.out.size
  have HT2:=hid (there_gb HT0.out (by rw [HS0.out];omega) (by omega) HG2.out)
  clear hd ha hg C2 x0
  go_wp2_with (refine storeOp flatPa 2 20 (b:=w.heap.size) (o:=0) (us:=[.string nm.s,.string u.name,.slice B m k,.int .i64 u.off,.int .i64 nm.o]) rfl rfl HT2.out five_one rfl ?_)
  refine bodyPost_ret (results_param _ rfl (set_there (us:=[.string nm.s,.string u.name,.slice B m k,.int .i64 u.off,.int .i64 nm.o]) HT2.out) rfl) rfl ?_
  have hgs:=gb_sets1 w2 w.heap.size 0 [.string nm.s,.string u.name,.slice B m k,.int .i64 u.off,.int .i64 nm.o]
  refine ⟨⟨nm.s,u,nm.o⟩,_,rfl,?_,?_,?_⟩
  · have hd2:=in_gb hgs (lo:=w1.heap.size) (by rw [HS0.out] at hs1;omega) HD.out
    exact foMkR (by have:=HZ.out;omega) (hd2.wide fun i hi=>⟨by have:=hi.1;rw [HS0.out] at hs1;omega,hi.2⟩)
  · have hup:Below (c+1) w2 (w2.setCells w.heap.size 0 [.string nm.s,.string u.name,.slice B m k,.int .i64 u.off,.int .i64 nm.o]):=below_sets hlt _ _ _
    rw [foF,HEQ.out,stop_if,stop_bind]
    exact aft_ret (HA.out.up hup) (fun u=>Fo.mk nm.s u nm.o) rfl
  exact gb_sets (some c) (gb_trans (gb_of (some c) HB0.out) HG2.out) (Nat.le_refl _) _ _
structure PaRel {α:Type} (dt:α→Dat) (T:TypeId) (z:Nat) (w wr:World) (p c:Nat) (v:Value) (m:Nat) (acc:List α) (q:List Tk) (d:Bool):Prop where
  cur:Cur wr c q d
  ps:Ps wr p c
  row:Built wr False T z w.heap.size v acc.length (acc.map dt)
  gb:w.grownBy wr (some c)
  fuel:d=false→q.length+1≤m
  few:acc.length+q.length≤100001+d.toNat
theorem listFo_any (p c:Nat) (s:ByteArray) (l:List Tk) (b:Bool) (w:World) (h:Cur w c l b) (hp:Ps w p c) :
    Calls Tryz.prog 147 #[.pointer (some ⟨p,0,none⟩),.func (.func 127) #[.pointer (some ⟨p,0,none⟩)] #[],.string s] w (RowRet Fo.dat 5 c l b w (listG foF s.data.toList l)):=by
  have H:=hid h
  have HP:=hid hp
  have C0:=hid (formal_any p c l b w h hp)
  have hcl:=h.lt
  clear h hp
  obtain ⟨i0,hi0,hz0,hz1,hz2⟩:=info_parts infoFoR
  go_enter Tryz.func147,Tryz.ntmps147
  go_wp2_with fail
  refine C0.out.mono ?_
  rintro e w1 ⟨t,us,rfl,hd,ha,hg⟩
  obtain ⟨y1,y2,y3,rfl⟩:=fo_opens hd
  have HB:=hid (built_one (T:=85) hd hg.size (Fo.dat_size t))
  have hs1:=hg.size
  have hbx:Below w1.heap.size w1 (w1.alloc (.cells #[.string t.name,.string t.ty.name,.slice y1 y2 y3,.int .i64 t.ty.off,.int .i64 t.off] 85)):=(Below.refl _ _).alloc (Nat.le_refl _) _
  have HA:=hid (ha.later hbx)
  have HG:=hid (gb_trans hg (gb_of (some c) hbx))
  have HST:=hid (show ∃ q d,Cur (w1.alloc (.cells #[.string t.name,.string t.ty.name,.slice y1 y2 y3,.int .i64 t.ty.off,.int .i64 t.off] 85)) c q d∧q.length≤l.length∧stop b l (listG foF s.data.toList l)=(if d then .bad q else Got.bind (moreG foF (q.length+1) [t] q) fun us q=>Got.bind (must s.data.toList q) fun _ q=>.ok us q) by
    unfold listG
    rw [stop_bind]
    exact aft_next (stop_ends (Less.ends (foF_less l))) HA.out _)
  clear hd ha hg C0 hbx
  go_wp2_with fail
  generalize hWW:w1.alloc (.cells #[.string t.name,.string t.ty.name,.slice y1 y2 y3,.int .i64 t.ty.off,.int .i64 t.off] 85)=W at *
  have hWs:W.heap.size=w1.heap.size+1:=by rw [←hWW];simp
  have HWS:=hid hWs
  clear hWW hWs
  go_loopw [7] (fun v wr=>∃ m acc q d,PaRel Fo.dat 85 5 w wr p c v m acc q d∧1≤acc.length∧stop b l (listG foF s.data.toList l)=(if d then .bad q else Got.bind (moreG foF m acc q) fun us q=>Got.bind (must s.data.toList q) fun _ q=>.ok us q)) (fun v _=>200000-lenOf v)
  case atStart =>
    obtain ⟨q,d,h1,h2,h3⟩:=HST.out
    exact ⟨q.length+1,[t],q,d,⟨h1,HP.out.gb HG.out,HB.out,HG.out,fun _=>Nat.le_refl _,by have:=H.out.len;simp;omega⟩,Nat.le_refl _,h3⟩
  obtain ⟨m,acc,q,d,hr,ha1,he⟩:=hrel
  have HR:=hid hr
  have HE:=hid he
  obtain ⟨A,cap,hv,-⟩:=hr.row.row (by omega) (by have:=hr.few;have:=Bool.toNat_le d;omega)
  subst hv
  have hfew:acc.length+q.length≤100002:=by have:=hr.few;have:=Bool.toNat_le d;omega
  have hsw:=hr.gb.size
  have HA1:=hid ha1
  have CT:=hid (show Calls Tryz.prog 92 #[.pointer (some ⟨c,0,none⟩),.string ⟨#[44]⟩] wr (TakePost c q d [44] wr) from take_any c q d ⟨#[44]⟩ wr hr.cur)
  have x0:=hr.ps.at_
  clear hr ha1 he
  cases hx:nextB d [44] q
  · have HX:=hid hx
    clear hx
    go_wp2_with fail
    refine CT.out.mono ?_
    rintro e w2 ⟨rfl,hc,hg⟩
    rw [HX.out]
    rw [takeL,HX.out] at hc
    have HG2:=hid hg
    have C4:=hid (must_any c q d s w2 hc)
    have x1:=(HR.out.ps.gb hg).at_
    clear hc hg x0
    go_wp2_with fail
    refine C4.out.mono ?_
    rintro e w4 ⟨rfl,ha,hg⟩
    have HA4:=hid ha
    have HG4:=hid (gb_trans HG2.out hg)
    clear ha hg x1
    go_wp2_with fail
    go_ret
    obtain ⟨A2,cap2,e2,hrow,-⟩:=(built_gb HG4.out hcl HR.out.row).row (by omega) (by omega)
    injection e2 with e2 e3 e4
    subst e2 e4
    refine ⟨acc,A,cap,rfl,hrow,?_,gb_trans HR.out.gb HG4.out⟩
    have he2:stop b l (listG foF s.data.toList l)=stop d q (Got.bind (must s.data.toList q) fun _ q=>.ok acc q):=by
      rw [HE.out]
      cases d
      · obtain ⟨k,rfl⟩:∃ k,m=k+1:=⟨m-1,by have:=HR.out.fuel rfl;omega⟩
        have hi:isT [44] q=false:=by simpa [nextB] using HX.out
        rw [if_neg (by decide),moreG,hi]
        rfl
      rfl
    rw [he2,stop_bind]
    exact aft_ret HA4.out (fun _=>acc) rfl
  have HX:=hid hx
  obtain ⟨rfl,hi⟩:=nextB_cons hx
  obtain ⟨t0,r,rfl,-,-⟩:=isT_cons hi
  obtain ⟨k,rfl⟩:∃ k,m=k+1:=⟨m-1,by have:=HR.out.fuel rfl;omega⟩
  have HI:=hid hi
  clear hx hi
  go_wp2_with fail
  refine CT.out.mono ?_
  rintro e w2 ⟨rfl,hc,hg⟩
  rw [HX.out]
  rw [takeL,HX.out] at hc
  have HC:=hid (show Cur w2 c r false from hc)
  have C3:=hid (formal_any p c r false w2 HC.out (HR.out.ps.gb hg))
  have HB2:=hid (built_gb hg hcl HR.out.row)
  have HG2:=hid (gb_trans HR.out.gb hg)
  have HP2:=hid (HR.out.ps.gb hg)
  clear hc hg CT x0
  go_wp2_with fail
  refine C3.out.mono ?_
  rintro e w3 ⟨t,us,rfl,hd,ha,hg⟩
  obtain ⟨y1,y2,y3,rfl⟩:=fo_opens hd
  have HS2:=hid HG2.out.size
  obtain ⟨cs,S,hown,hrows,hzs,hS⟩:=built_gb hg hcl HB2.out
  have HOW:=hid hown
  have hol:=fun g (hgg:(Value.slice A acc.length cap).ownBlock=some g)=>(HB2.out.elim fun cs2 h2=>h2.elim fun S2 h3=>(h3.1.lt g hgg).2)
  have HSTP:=hid (fun (gg cp:Nat) (w5:World) h1 h2 h3=>built_more (w5:=w5) (gg:=gg) (cap:=cp) (T:=85) hown hrows hzs hS hd HS2.out hol (Fo.dat_size t) h1 h2 h3)
  have HA:=hid ha
  have HG3:=hid (gb_trans HG2.out hg)
  have HP3:=hid (HP2.out.gb hg)
  have hb3:w.heap.size≤(w3.alloc (.cells #[.string t.name,.string t.ty.name,.slice y1 y2 y3,.int .i64 t.ty.off,.int .i64 t.off] 85)).heap.size:=by have:=HG3.out.size;simp;omega
  have hlc:acc.length+1≤100003:=by omega
  clear hd ha hg hrows hzs hS hown C3 hol
  go_wp2_with (at_builtin;refine wpList_append_lies _ rfl _ _ 23 rfl w.heap.size 85 i0 _ 5 72 Tryz.underlying23 hi0 hz0 hz1 hz2 rfl (by omega) _ acc.length cs rfl (HOW.out.alloc _) ⟨w3.heap.size,0,none⟩ 1 1 [.string t.name,.string t.ty.name,.slice y1 y2 y3,.int .i64 t.ty.off,.int .i64 t.off] rfl rfl (World.news_of_block (cs:=#[.string t.name,.string t.ty.name,.slice y1 y2 y3,.int .i64 t.ty.off,.int .i64 t.off]) (t:=85) (fr:=(0,0)) (heap_alloc_new _ _)) (by simp [Value.oneCell']) (by omega) (by unfold maxLen;omega) (by omega) hb3 _ rfl ?_;intro gg cp w5 hown5 hgrow5 hat5 hlt5;have HO5:=hid (And.intro hown5 (And.intro hgrow5 hat5));clear hown5 hgrow5 hat5 hlt5)
  go_roundw
  case rel =>
    obtain ⟨h1,h2,h3⟩:=HO5.out
    have hrw:∀ g,(Value.slice A acc.length cap).ownBlock=some g→w.heap.size≤g:=fun g hgg=>(HOW.out.lt g hgg).1
    have hal:=(Below.refl w3.heap.size w3).alloc (Nat.le_refl _) (.cells #[.string t.name,.string t.ty.name,.slice y1 y2 y3,.int .i64 t.ty.off,.int .i64 t.off] 85)
    have hup:Below (c+1) w3 w5:=(hal.mono (by have:=HG3.out.size;omega)).trans ((below_grown hb3 h2 hrw).mono hcl)
    obtain ⟨q',d',g1,g2,g3⟩:=aft_next (stop_ends (Less.ends (foF_less r))) (HA.out.up hup) (fun u q=>Got.bind (moreG foF k (acc++[u]) q) fun us q=>Got.bind (must s.data.toList q) fun _ q=>.ok us q)
    have hgb:=gb_grown HG3.out hal h2 hrw
    refine ⟨k,acc++[t],q',d',⟨g1,HP.out.gb hgb,?_,hgb,?_,?_⟩,by simp,?_⟩
    · have:=HSTP.out gg cp w5 h1 h2 (h3.imp id fun h=>by simpa using h)
      rw [List.map_append,List.length_append]
      exact this
    · have:=HR.out.fuel rfl;simp only [List.length_cons] at this;intro _;omega
    · have:=HR.out.few;simp only [List.length_cons,List.length_append,List.length_nil,Bool.toNat_false] at this ⊢;omega
    rw [HE.out,if_neg (by decide),moreG,HI.out,if_pos rfl,bind_bind]
    exact g3
  case measure=>simp [lenOf];omega
theorem listPa_any (p c:Nat) (s:ByteArray) (l:List Tk) (b:Bool) (w:World) (h:Cur w c l b) (hp:Ps w p c) :
    Calls Tryz.prog 148 #[.pointer (some ⟨p,0,none⟩),.func (.func 129) #[.pointer (some ⟨p,0,none⟩)] #[],.string s] w (RowRet Fo.dat 5 c l b w (listG foF s.data.toList l)):=by
  have H:=hid h
  have HP:=hid hp
  have C0:=hid (param_any p c l b w h hp)
  have hcl:=h.lt
  clear h hp
  obtain ⟨i0,hi0,hz0,hz1,hz2⟩:=info_parts infoPaR
  go_enter Tryz.func148,Tryz.ntmps148
  go_wp2_with fail
  refine C0.out.mono ?_
  rintro e w1 ⟨t,us,rfl,hd,ha,hg⟩
  obtain ⟨y1,y2,y3,rfl⟩:=fo_opens hd
  have HB:=hid (built_one (T:=89) hd hg.size (Fo.dat_size t))
  have hs1:=hg.size
  have hbx:Below w1.heap.size w1 (w1.alloc (.cells #[.string t.name,.string t.ty.name,.slice y1 y2 y3,.int .i64 t.ty.off,.int .i64 t.off] 89)):=(Below.refl _ _).alloc (Nat.le_refl _) _
  have HA:=hid (ha.later hbx)
  have HG:=hid (gb_trans hg (gb_of (some c) hbx))
  have HST:=hid (show ∃ q d,Cur (w1.alloc (.cells #[.string t.name,.string t.ty.name,.slice y1 y2 y3,.int .i64 t.ty.off,.int .i64 t.off] 89)) c q d∧q.length≤l.length∧stop b l (listG foF s.data.toList l)=(if d then .bad q else Got.bind (moreG foF (q.length+1) [t] q) fun us q=>Got.bind (must s.data.toList q) fun _ q=>.ok us q) by
    unfold listG
    rw [stop_bind]
    exact aft_next (stop_ends (Less.ends (foF_less l))) HA.out _)
  clear hd ha hg C0 hbx
  go_wp2_with fail
  generalize hWW:w1.alloc (.cells #[.string t.name,.string t.ty.name,.slice y1 y2 y3,.int .i64 t.ty.off,.int .i64 t.off] 89)=W at *
  have hWs:W.heap.size=w1.heap.size+1:=by rw [←hWW];simp
  have HWS:=hid hWs
  clear hWW hWs
  go_loopw [7] (fun v wr=>∃ m acc q d,PaRel Fo.dat 89 5 w wr p c v m acc q d∧1≤acc.length∧stop b l (listG foF s.data.toList l)=(if d then .bad q else Got.bind (moreG foF m acc q) fun us q=>Got.bind (must s.data.toList q) fun _ q=>.ok us q)) (fun v _=>200000-lenOf v)
  case atStart =>
    obtain ⟨q,d,h1,h2,h3⟩:=HST.out
    exact ⟨q.length+1,[t],q,d,⟨h1,HP.out.gb HG.out,HB.out,HG.out,fun _=>Nat.le_refl _,by have:=H.out.len;simp;omega⟩,Nat.le_refl _,h3⟩
  obtain ⟨m,acc,q,d,hr,ha1,he⟩:=hrel
  have HR:=hid hr
  have HE:=hid he
  obtain ⟨A,cap,hv,-⟩:=hr.row.row (by omega) (by have:=hr.few;have:=Bool.toNat_le d;omega)
  subst hv
  have hfew:acc.length+q.length≤100002:=by have:=hr.few;have:=Bool.toNat_le d;omega
  have hsw:=hr.gb.size
  have HA1:=hid ha1
  have CT:=hid (show Calls Tryz.prog 92 #[.pointer (some ⟨c,0,none⟩),.string ⟨#[44]⟩] wr (TakePost c q d [44] wr) from take_any c q d ⟨#[44]⟩ wr hr.cur)
  have x0:=hr.ps.at_
  clear hr ha1 he
  cases hx:nextB d [44] q
  · have HX:=hid hx
    clear hx
    go_wp2_with fail
    refine CT.out.mono ?_
    rintro e w2 ⟨rfl,hc,hg⟩
    rw [HX.out]
    rw [takeL,HX.out] at hc
    have HG2:=hid hg
    have C4:=hid (must_any c q d s w2 hc)
    have x1:=(HR.out.ps.gb hg).at_
    clear hc hg x0
    go_wp2_with fail
    refine C4.out.mono ?_
    rintro e w4 ⟨rfl,ha,hg⟩
    have HA4:=hid ha
    have HG4:=hid (gb_trans HG2.out hg)
    clear ha hg x1
    go_wp2_with fail
    go_ret
    obtain ⟨A2,cap2,e2,hrow,-⟩:=(built_gb HG4.out hcl HR.out.row).row (by omega) (by omega)
    injection e2 with e2 e3 e4
    subst e2 e4
    refine ⟨acc,A,cap,rfl,hrow,?_,gb_trans HR.out.gb HG4.out⟩
    have he2:stop b l (listG foF s.data.toList l)=stop d q (Got.bind (must s.data.toList q) fun _ q=>.ok acc q):=by
      rw [HE.out]
      cases d
      · obtain ⟨k,rfl⟩:∃ k,m=k+1:=⟨m-1,by have:=HR.out.fuel rfl;omega⟩
        have hi:isT [44] q=false:=by simpa [nextB] using HX.out
        rw [if_neg (by decide),moreG,hi]
        rfl
      rfl
    rw [he2,stop_bind]
    exact aft_ret HA4.out (fun _=>acc) rfl
  have HX:=hid hx
  obtain ⟨rfl,hi⟩:=nextB_cons hx
  obtain ⟨t0,r,rfl,-,-⟩:=isT_cons hi
  obtain ⟨k,rfl⟩:∃ k,m=k+1:=⟨m-1,by have:=HR.out.fuel rfl;omega⟩
  have HI:=hid hi
  clear hx hi
  go_wp2_with fail
  refine CT.out.mono ?_
  rintro e w2 ⟨rfl,hc,hg⟩
  rw [HX.out]
  rw [takeL,HX.out] at hc
  have HC:=hid (show Cur w2 c r false from hc)
  have C3:=hid (param_any p c r false w2 HC.out (HR.out.ps.gb hg))
  have HB2:=hid (built_gb hg hcl HR.out.row)
  have HG2:=hid (gb_trans HR.out.gb hg)
  have HP2:=hid (HR.out.ps.gb hg)
  clear hc hg CT x0
  go_wp2_with fail
  refine C3.out.mono ?_
  rintro e w3 ⟨t,us,rfl,hd,ha,hg⟩
  obtain ⟨y1,y2,y3,rfl⟩:=fo_opens hd
  have HS2:=hid HG2.out.size
  obtain ⟨cs,S,hown,hrows,hzs,hS⟩:=built_gb hg hcl HB2.out
  have HOW:=hid hown
  have hol:=fun g (hgg:(Value.slice A acc.length cap).ownBlock=some g)=>(HB2.out.elim fun cs2 h2=>h2.elim fun S2 h3=>(h3.1.lt g hgg).2)
  have HSTP:=hid (fun (gg cp:Nat) (w5:World) h1 h2 h3=>built_more (w5:=w5) (gg:=gg) (cap:=cp) (T:=89) hown hrows hzs hS hd HS2.out hol (Fo.dat_size t) h1 h2 h3)
  have HA:=hid ha
  have HG3:=hid (gb_trans HG2.out hg)
  have HP3:=hid (HP2.out.gb hg)
  have hb3:w.heap.size≤(w3.alloc (.cells #[.string t.name,.string t.ty.name,.slice y1 y2 y3,.int .i64 t.ty.off,.int .i64 t.off] 89)).heap.size:=by have:=HG3.out.size;simp;omega
  have hlc:acc.length+1≤100003:=by omega
  clear hd ha hg hrows hzs hS hown C3 hol
  go_wp2_with (at_builtin;refine wpList_append_lies _ rfl _ _ 24 rfl w.heap.size 89 i0 _ 5 72 Tryz.underlying24 hi0 hz0 hz1 hz2 rfl (by omega) _ acc.length cs rfl (HOW.out.alloc _) ⟨w3.heap.size,0,none⟩ 1 1 [.string t.name,.string t.ty.name,.slice y1 y2 y3,.int .i64 t.ty.off,.int .i64 t.off] rfl rfl (World.news_of_block (cs:=#[.string t.name,.string t.ty.name,.slice y1 y2 y3,.int .i64 t.ty.off,.int .i64 t.off]) (t:=89) (fr:=(0,0)) (heap_alloc_new _ _)) (by simp [Value.oneCell']) (by omega) (by unfold maxLen;omega) (by omega) hb3 _ rfl ?_;intro gg cp w5 hown5 hgrow5 hat5 hlt5;have HO5:=hid (And.intro hown5 (And.intro hgrow5 hat5));clear hown5 hgrow5 hat5 hlt5)
  go_roundw
  case rel =>
    obtain ⟨h1,h2,h3⟩:=HO5.out
    have hrw:∀ g,(Value.slice A acc.length cap).ownBlock=some g→w.heap.size≤g:=fun g hgg=>(HOW.out.lt g hgg).1
    have hal:=(Below.refl w3.heap.size w3).alloc (Nat.le_refl _) (.cells #[.string t.name,.string t.ty.name,.slice y1 y2 y3,.int .i64 t.ty.off,.int .i64 t.off] 89)
    have hup:Below (c+1) w3 w5:=(hal.mono (by have:=HG3.out.size;omega)).trans ((below_grown hb3 h2 hrw).mono hcl)
    obtain ⟨q',d',g1,g2,g3⟩:=aft_next (stop_ends (Less.ends (foF_less r))) (HA.out.up hup) (fun u q=>Got.bind (moreG foF k (acc++[u]) q) fun us q=>Got.bind (must s.data.toList q) fun _ q=>.ok us q)
    have hgb:=gb_grown HG3.out hal h2 hrw
    refine ⟨k,acc++[t],q',d',⟨g1,HP.out.gb hgb,?_,hgb,?_,?_⟩,by simp,?_⟩
    · have:=HSTP.out gg cp w5 h1 h2 (h3.imp id fun h=>by simpa using h)
      rw [List.map_append,List.length_append]
      exact this
    · have:=HR.out.fuel rfl;simp only [List.length_cons] at this;intro _;omega
    · have:=HR.out.few;simp only [List.length_cons,List.length_append,List.length_nil,Bool.toNat_false] at this ⊢;omega
    rw [HE.out,if_neg (by decide),moreG,HI.out,if_pos rfl,bind_bind]
    exact g3
  case measure=>simp [lenOf];omega
theorem listSt_any (p c:Nat) (s:ByteArray) (l:List Tk) (b:Bool) (w:World) (h:Cur w c l b) (hp:Ps w p c) :
    Calls Tryz.prog 131 #[.pointer (some ⟨p,0,none⟩),.func (.func 97) #[.pointer (some ⟨p,0,none⟩)] #[],.string s] w (RowRet Dat.str 1 c l b w (listG varF s.data.toList l)):=by
  have H:=hid h
  have HP:=hid hp
  have C0:=hid (variable_any p c l b w h hp)
  have hcl:=h.lt
  clear h hp
  obtain ⟨i0,hi0,hz0,hz1,hz2⟩:=info_parts infoStr
  go_enter Tryz.func131,Tryz.ntmps131
  go_wp2_with fail
  refine C0.out.mono ?_
  rintro e w1 ⟨t,rfl,hsz,ha,hg⟩
  have hd:=str_in (w:=w1) (N:=False) (S:=Fr w.heap.size w1) hsz
  have HB:=hid (built_one (T:=9) hd hg.size (rfl))
  have hs1:=hg.size
  have hbx:Below w1.heap.size w1 (w1.alloc (.cells #[.string t] 9)):=(Below.refl _ _).alloc (Nat.le_refl _) _
  have HA:=hid (ha.later hbx)
  have HG:=hid (gb_trans hg (gb_of (some c) hbx))
  have HST:=hid (show ∃ q d,Cur (w1.alloc (.cells #[.string t] 9)) c q d∧q.length≤l.length∧stop b l (listG varF s.data.toList l)=(if d then .bad q else Got.bind (moreG varF (q.length+1) [t] q) fun us q=>Got.bind (must s.data.toList q) fun _ q=>.ok us q) by
    unfold listG
    rw [stop_bind]
    exact aft_next (stop_ends (Less.ends (varF_less l))) HA.out _)
  clear hd ha hg C0 hbx
  go_wp2_with fail
  generalize hWW:w1.alloc (.cells #[.string t] 9)=W at *
  have hWs:W.heap.size=w1.heap.size+1:=by rw [←hWW];simp
  have HWS:=hid hWs
  clear hWW hWs
  go_loopw [7] (fun v wr=>∃ m acc q d,PaRel Dat.str 9 1 w wr p c v m acc q d∧1≤acc.length∧stop b l (listG varF s.data.toList l)=(if d then .bad q else Got.bind (moreG varF m acc q) fun us q=>Got.bind (must s.data.toList q) fun _ q=>.ok us q)) (fun v _=>200000-lenOf v)
  case atStart =>
    obtain ⟨q,d,h1,h2,h3⟩:=HST.out
    exact ⟨q.length+1,[t],q,d,⟨h1,HP.out.gb HG.out,HB.out,HG.out,fun _=>Nat.le_refl _,by have:=H.out.len;simp;omega⟩,Nat.le_refl _,h3⟩
  obtain ⟨m,acc,q,d,hr,ha1,he⟩:=hrel
  have HR:=hid hr
  have HE:=hid he
  obtain ⟨A,cap,hv,-⟩:=hr.row.row (by omega) (by have:=hr.few;have:=Bool.toNat_le d;omega)
  subst hv
  have hfew:acc.length+q.length≤100002:=by have:=hr.few;have:=Bool.toNat_le d;omega
  have hsw:=hr.gb.size
  have HA1:=hid ha1
  have CT:=hid (show Calls Tryz.prog 92 #[.pointer (some ⟨c,0,none⟩),.string ⟨#[44]⟩] wr (TakePost c q d [44] wr) from take_any c q d ⟨#[44]⟩ wr hr.cur)
  have x0:=hr.ps.at_
  clear hr ha1 he
  cases hx:nextB d [44] q
  · have HX:=hid hx
    clear hx
    go_wp2_with fail
    refine CT.out.mono ?_
    rintro e w2 ⟨rfl,hc,hg⟩
    rw [HX.out]
    rw [takeL,HX.out] at hc
    have HG2:=hid hg
    have C4:=hid (must_any c q d s w2 hc)
    have x1:=(HR.out.ps.gb hg).at_
    clear hc hg x0
    go_wp2_with fail
    refine C4.out.mono ?_
    rintro e w4 ⟨rfl,ha,hg⟩
    have HA4:=hid ha
    have HG4:=hid (gb_trans HG2.out hg)
    clear ha hg x1
    go_wp2_with fail
    go_ret
    obtain ⟨A2,cap2,e2,hrow,-⟩:=(built_gb HG4.out hcl HR.out.row).row (by omega) (by omega)
    injection e2 with e2 e3 e4
    subst e2 e4
    refine ⟨acc,A,cap,rfl,hrow,?_,gb_trans HR.out.gb HG4.out⟩
    have he2:stop b l (listG varF s.data.toList l)=stop d q (Got.bind (must s.data.toList q) fun _ q=>.ok acc q):=by
      rw [HE.out]
      cases d
      · obtain ⟨k,rfl⟩:∃ k,m=k+1:=⟨m-1,by have:=HR.out.fuel rfl;omega⟩
        have hi:isT [44] q=false:=by simpa [nextB] using HX.out
        rw [if_neg (by decide),moreG,hi]
        rfl
      rfl
    rw [he2,stop_bind]
    exact aft_ret HA4.out (fun _=>acc) rfl
  have HX:=hid hx
  obtain ⟨rfl,hi⟩:=nextB_cons hx
  obtain ⟨t0,r,rfl,-,-⟩:=isT_cons hi
  obtain ⟨k,rfl⟩:∃ k,m=k+1:=⟨m-1,by have:=HR.out.fuel rfl;omega⟩
  have HI:=hid hi
  clear hx hi
  go_wp2_with fail
  refine CT.out.mono ?_
  rintro e w2 ⟨rfl,hc,hg⟩
  rw [HX.out]
  rw [takeL,HX.out] at hc
  have HC:=hid (show Cur w2 c r false from hc)
  have C3:=hid (variable_any p c r false w2 HC.out (HR.out.ps.gb hg))
  have HB2:=hid (built_gb hg hcl HR.out.row)
  have HG2:=hid (gb_trans HR.out.gb hg)
  have HP2:=hid (HR.out.ps.gb hg)
  clear hc hg CT x0
  go_wp2_with fail
  refine C3.out.mono ?_
  rintro e w3 ⟨t,rfl,hsz,ha,hg⟩
  have hd:=str_in (w:=w3) (N:=False) (S:=Fr w2.heap.size w3) hsz
  have HS2:=hid HG2.out.size
  obtain ⟨cs,S,hown,hrows,hzs,hS⟩:=built_gb hg hcl HB2.out
  have HOW:=hid hown
  have hol:=fun g (hgg:(Value.slice A acc.length cap).ownBlock=some g)=>(HB2.out.elim fun cs2 h2=>h2.elim fun S2 h3=>(h3.1.lt g hgg).2)
  have HSTP:=hid (fun (gg cp:Nat) (w5:World) h1 h2 h3=>built_more (w5:=w5) (gg:=gg) (cap:=cp) (T:=9) hown hrows hzs hS hd HS2.out hol (rfl) h1 h2 h3)
  have HA:=hid ha
  have HG3:=hid (gb_trans HG2.out hg)
  have HP3:=hid (HP2.out.gb hg)
  have hb3:w.heap.size≤(w3.alloc (.cells #[.string t] 9)).heap.size:=by have:=HG3.out.size;simp;omega
  have hlc:acc.length+1≤100003:=by omega
  clear hd ha hg hrows hzs hS hown C3 hol
  go_wp2_with (at_builtin;refine wpList_append_lies _ rfl _ _ 26 rfl w.heap.size 9 i0 _ 1 16 Tryz.underlying26 hi0 hz0 hz1 hz2 rfl (by omega) _ acc.length cs rfl (HOW.out.alloc _) ⟨w3.heap.size,0,none⟩ 1 1 [.string t] rfl rfl (World.news_of_block (cs:=#[.string t]) (t:=9) (fr:=(0,0)) (heap_alloc_new _ _)) (by simp [Value.oneCell']) (by omega) (by unfold maxLen;omega) (by omega) hb3 _ rfl ?_;intro gg cp w5 hown5 hgrow5 hat5 hlt5;have HO5:=hid (And.intro hown5 (And.intro hgrow5 hat5));clear hown5 hgrow5 hat5 hlt5)
  go_roundw
  case rel =>
    obtain ⟨h1,h2,h3⟩:=HO5.out
    have hrw:∀ g,(Value.slice A acc.length cap).ownBlock=some g→w.heap.size≤g:=fun g hgg=>(HOW.out.lt g hgg).1
    have hal:=(Below.refl w3.heap.size w3).alloc (Nat.le_refl _) (.cells #[.string t] 9)
    have hup:Below (c+1) w3 w5:=(hal.mono (by have:=HG3.out.size;omega)).trans ((below_grown hb3 h2 hrw).mono hcl)
    obtain ⟨q',d',g1,g2,g3⟩:=aft_next (stop_ends (Less.ends (varF_less r))) (HA.out.up hup) (fun u q=>Got.bind (moreG varF k (acc++[u]) q) fun us q=>Got.bind (must s.data.toList q) fun _ q=>.ok us q)
    have hgb:=gb_grown HG3.out hal h2 hrw
    refine ⟨k,acc++[t],q',d',⟨g1,HP.out.gb hgb,?_,hgb,?_,?_⟩,by simp,?_⟩
    · have:=HSTP.out gg cp w5 h1 h2 (h3.imp id fun h=>by simpa using h)
      rw [List.map_append,List.length_append]
      exact this
    · have:=HR.out.fuel rfl;simp only [List.length_cons] at this;intro _;omega
    · have:=HR.out.few;simp only [List.length_cons,List.length_append,List.length_nil,Bool.toNat_false] at this ⊢;omega
    rw [HE.out,if_neg (by decide),moreG,HI.out,if_pos rfl,bind_bind]
    exact g3
  case measure=>simp [lenOf];omega
theorem bracketsFo_any (p c:Nat) (l:List Tk) (b:Bool) (w:World) (h:Cur w c l b) (hp:Ps w p c) :
    Calls Tryz.prog 126 #[.pointer (some ⟨p,0,none⟩),.func (.func 127) #[.pointer (some ⟨p,0,none⟩)] #[]] w (RowRet Fo.dat 5 c l b w (bracketsG foF l)):=by
  have CT:=hid (show Calls Tryz.prog 92 #[.pointer (some ⟨c,0,none⟩),.string ⟨#[91]⟩] w (TakePost c l b [91] w) from take_any c l b ⟨#[91]⟩ w h)
  have HP:=hid hp
  have x0:=hp.at_
  clear h hp
  cases hx:nextB b [91] l
  · have HX:=hid hx
    clear hx
    go_enter Tryz.func126,Tryz.ntmps126
    go_wp2_with fail
    refine CT.out.mono ?_
    rintro e w2 ⟨rfl,hc,hg⟩
    rw [HX.out]
    rw [takeL,HX.out] at hc
    have HC:=hid hc
    have HG2:=hid hg
    clear hc hg x0
    go_wp2_with fail
    go_ret
    refine ⟨[],none,0,rfl,Row.nil _ _ _ _ _,?_,HG2.out⟩
    rw [take_none HX.out _ (.ok [] l) fun h=>by rw [bracketsG,h];rfl]
    have:=HC.out
    cases b
    · exact ⟨rfl,this⟩
    exact this
  have HX:=hid hx
  obtain ⟨rfl,hi⟩:=nextB_cons hx
  obtain ⟨t0,r,rfl,-,-⟩:=isT_cons hi
  have HI:=hid hi
  clear hx hi
  go_enter Tryz.func126,Tryz.ntmps126
  go_wp2_with fail
  refine CT.out.mono ?_
  rintro e w2 ⟨rfl,hc,hg⟩
  rw [HX.out]
  rw [takeL,HX.out] at hc
  have HG2:=hid hg
  have C3:=hid (show Calls Tryz.prog 147 #[.pointer (some ⟨p,0,none⟩),.func (.func 127) #[.pointer (some ⟨p,0,none⟩)] #[],.string ⟨#[93]⟩] w2 (RowRet Fo.dat 5 c r false w2 (listG foF [93] r)) from listFo_any p c ⟨#[93]⟩ r false w2 hc (HP.out.gb hg))
  clear hc hg CT x0
  go_wp2_with fail
  refine C3.out.mono ?_
  rintro e w3 ⟨ts,A,cap,rfl,hrow,ha,hg⟩
  have HR:=hid hrow
  have HA:=hid ha
  have HG3:=hid (gb_trans HG2.out hg)
  have hs2:=HG2.out.size
  clear hrow ha hg C3
  go_wp2_with fail
  go_ret
  refine ⟨ts,A,cap,rfl,HR.out.wide fun k hk=>⟨Nat.le_trans hs2 hk.1,hk.2⟩,?_,HG3.out⟩
  rw [stop_false,bracketsG,HI.out,if_pos rfl]
  exact HA.out
theorem bracketsSt_any (p c:Nat) (l:List Tk) (b:Bool) (w:World) (h:Cur w c l b) (hp:Ps w p c) :
    Calls Tryz.prog 98 #[.pointer (some ⟨p,0,none⟩),.func (.func 97) #[.pointer (some ⟨p,0,none⟩)] #[]] w (RowRet Dat.str 1 c l b w (bracketsG varF l)):=by
  have CT:=hid (show Calls Tryz.prog 92 #[.pointer (some ⟨c,0,none⟩),.string ⟨#[91]⟩] w (TakePost c l b [91] w) from take_any c l b ⟨#[91]⟩ w h)
  have HP:=hid hp
  have x0:=hp.at_
  clear h hp
  cases hx:nextB b [91] l
  · have HX:=hid hx
    clear hx
    go_enter Tryz.func98,Tryz.ntmps98
    go_wp2_with fail
    refine CT.out.mono ?_
    rintro e w2 ⟨rfl,hc,hg⟩
    rw [HX.out]
    rw [takeL,HX.out] at hc
    have HC:=hid hc
    have HG2:=hid hg
    clear hc hg x0
    go_wp2_with fail
    go_ret
    refine ⟨[],none,0,rfl,Row.nil _ _ _ _ _,?_,HG2.out⟩
    rw [take_none HX.out _ (.ok [] l) fun h=>by rw [bracketsG,h];rfl]
    have:=HC.out
    cases b
    · exact ⟨rfl,this⟩
    exact this
  have HX:=hid hx
  obtain ⟨rfl,hi⟩:=nextB_cons hx
  obtain ⟨t0,r,rfl,-,-⟩:=isT_cons hi
  have HI:=hid hi
  clear hx hi
  go_enter Tryz.func98,Tryz.ntmps98
  go_wp2_with fail
  refine CT.out.mono ?_
  rintro e w2 ⟨rfl,hc,hg⟩
  rw [HX.out]
  rw [takeL,HX.out] at hc
  have HG2:=hid hg
  have C3:=hid (show Calls Tryz.prog 131 #[.pointer (some ⟨p,0,none⟩),.func (.func 97) #[.pointer (some ⟨p,0,none⟩)] #[],.string ⟨#[93]⟩] w2 (RowRet Dat.str 1 c r false w2 (listG varF [93] r)) from listSt_any p c ⟨#[93]⟩ r false w2 hc (HP.out.gb hg))
  clear hc hg CT x0
  go_wp2_with fail
  refine C3.out.mono ?_
  rintro e w3 ⟨ts,A,cap,rfl,hrow,ha,hg⟩
  have HR:=hid hrow
  have HA:=hid ha
  have HG3:=hid (gb_trans HG2.out hg)
  have hs2:=HG2.out.size
  clear hrow ha hg C3
  go_wp2_with fail
  go_ret
  refine ⟨ts,A,cap,rfl,HR.out.wide fun k hk=>⟨Nat.le_trans hs2 hk.1,hk.2⟩,?_,HG3.out⟩
  rw [stop_false,bracketsG,HI.out,if_pos rfl]
  exact HA.out
