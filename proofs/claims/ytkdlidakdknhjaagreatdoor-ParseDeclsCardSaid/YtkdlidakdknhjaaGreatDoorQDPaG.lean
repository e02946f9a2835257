/- The walks of parse's methodOrMain, decl, declOrMain: they read what the plain words say. The condition: the cursor stands in tokens of a text. -/
import Derived.Test.YtkdlidakdknhjaaGreatDoorQDPaF
set_option maxRecDepth 100000
set_option maxHeartbeats 8000000
open Go.Lib (hid)
namespace Go.Proofs.YtkdlidakdknhjaaGreatDoor.Rd
open Go.RowKit
open Go.ChangeMaps (setBlock)
theorem z23_one:∀ u∈([.int .i64 0,.string ⟨#[]⟩,.slice none 0 0,.slice none 0 0,.slice none 0 0,.string ⟨#[]⟩,.slice none 0 0,.string ⟨#[]⟩,.slice none 0 0,.slice none 0 0,.string ⟨#[]⟩,.slice none 0 0,.int .i64 0,.int .i64 0,.int .i64 0,.string ⟨#[]⟩,.string ⟨#[]⟩,.slice none 0 0,.int .i64 0,.slice none 0 0,.slice none 0 0,.int .i64 0,.int .i64 0]:List Value),u.oneCell'=true:=fun u hu=>(dc_one (dcNone_dat (default:World) False (fun _=>False))).1 u hu
theorem results_methodOrMain {w:World} {b:Nat} {us:List Value} (tmps:Array Value) (ht:tmps[2]?.getD undef=.pointer (some ⟨b,0,none⟩)) (hc:Boxd w b us) (hl:us.length=23):(results Tryz.f118 tmps).run Tryz.prog w=.ok (.agg us.toArray) w:=by
  have h:=run_cell flatDc hc hl
  have h2:=run_addr ⟨b,0,none⟩ w
  simp [results,Tryz.results118,ht,h,h2,Sem.run_bind,Result.andThen]
theorem methodOrMain_any (p c:Nat) (l:List Tk) (b:Bool) (w:World) (h:Cur w c l b) (hp:Ps w p c):Calls Tryz.prog 118 #[.pointer (some ⟨p,0,none⟩)] w (ItRet Dc.dat c l b w (methodOrMainF l)):=by
  have hlt:=h.lt
  obtain ⟨W0,hW0⟩:∃ W,w.alloc (.cells #[.int .i64 0,.string ⟨#[]⟩,.slice none 0 0,.slice none 0 0,.slice none 0 0,.string ⟨#[]⟩,.slice none 0 0,.string ⟨#[]⟩,.slice none 0 0,.slice none 0 0,.string ⟨#[]⟩,.slice none 0 0,.int .i64 0,.int .i64 0,.int .i64 0,.string ⟨#[]⟩,.string ⟨#[]⟩,.slice none 0 0,.int .i64 0,.slice none 0 0,.slice none 0 0,.int .i64 0,.int .i64 0] 36)=W:=⟨_,rfl⟩
  have hb0:Below w.heap.size w W0:=hW0▸(Below.refl _ _).alloc (Nat.le_refl _) _
  have hs0:W0.heap.size=w.heap.size+1:=by rw [←hW0];simp
  have HW0:=hid hW0
  have P0:=hid (hp.later hb0)
  have T0:=hid (show W0.there w.heap.size 0 23 from hW0▸there_new w #[.int .i64 0,.string ⟨#[]⟩,.slice none 0 0,.slice none 0 0,.slice none 0 0,.string ⟨#[]⟩,.slice none 0 0,.string ⟨#[]⟩,.slice none 0 0,.slice none 0 0,.string ⟨#[]⟩,.slice none 0 0,.int .i64 0,.int .i64 0,.int .i64 0,.string ⟨#[]⟩,.string ⟨#[]⟩,.slice none 0 0,.int .i64 0,.slice none 0 0,.slice none 0 0,.int .i64 0,.int .i64 0] 36)
  have G0:=hid (gb_of (some c) hb0)
  have CT:=hid (show Calls Tryz.prog 92 #[.pointer (some ⟨c,0,none⟩),.string ⟨#[109,97,105,110]⟩] W0 (TakePost c l b wMain W0) from take_any c l b ⟨#[109,97,105,110]⟩ W0 (h.later hb0))
  clear h hp hW0 hb0
  go_enter Tryz.func118,Tryz.ntmps118
  go_upto_region 1 with fail
  rw [HW0.out]
  have x0:=P0.out.at_
  go_wp2_with fail
  refine CT.out.mono ?_
  rintro e w1 ⟨rfl,hc,hg⟩
  have G1:=hid (gb_trans G0.out hg)
  have T1:=hid (there_gb T0.out (by omega) (by omega) hg)
  cases hx:nextB b wMain l
  · have HX:=hid hx
    rw [takeL,hx] at hc
    have C2:=hid (method_any p c l b w1 hc (P0.out.gb hg))
    have hs1:=hg.size
    clear hx hc hg x0 CT
    go_wp2_with fail
    refine C2.out.mono ?_
    rintro e w2 ⟨t,us,rfl,hd,ha,hg⟩
    have HD:=hid hd
    have HA:=hid ha
    have G2:=hid (gb_trans G1.out hg)
    have T2:=hid (show w2.there w.heap.size 0 us.length by rw [(dc_one hd).2];exact there_gb T1.out (by omega) (by omega) hg)
    clear hd ha hg C2
    go_wp2_with (refine storeOp flatDc 2 10 (b:=w.heap.size) (o:=0) (us:=us) rfl rfl T2.out (dc_one HD.out).1 (dc_one HD.out).2 ?_)
    refine bodyPost_ret (results_methodOrMain _ rfl (set_there (us:=us) T2.out) (dc_one HD.out).2) rfl ?_
    refine ⟨t,us,rfl,(in_gb (gb_sets1 _ _ _ _) (by omega) HD.out).wide fun i hi=>⟨by have:=hi.1;omega,hi.2⟩,?_,gb_sets (some c) G2.out (Nat.le_refl _) _ _⟩
    rw [take_none HX.out (methodOrMainF l) (methodF l) fun h=>by rw [methodOrMainF,h];rfl]
    exact HA.out.set hlt _ _
  have HX:=hid hx
  obtain ⟨rfl,hi⟩:=nextB_cons hx
  rw [takeL,hx,if_pos rfl] at hc
  have HC:=hid hc
  have HI:=hid hi
  clear hx hi hc hg x0 CT
  go_wp2_with (refine storeOp flatDc 2 8 (b:=w.heap.size) (o:=0) (us:=[.int .i64 0,.string ⟨#[]⟩,.slice none 0 0,.slice none 0 0,.slice none 0 0,.string ⟨#[]⟩,.slice none 0 0,.string ⟨#[]⟩,.slice none 0 0,.slice none 0 0,.string ⟨#[]⟩,.slice none 0 0,.int .i64 0,.int .i64 0,.int .i64 0,.string ⟨#[]⟩,.string ⟨#[]⟩,.slice none 0 0,.int .i64 0,.slice none 0 0,.slice none 0 0,.int .i64 0,.int .i64 0]) rfl rfl T1.out z23_one rfl ?_)
  refine bodyPost_ret (results_methodOrMain _ rfl (set_there (us:=[.int .i64 0,.string ⟨#[]⟩,.slice none 0 0,.slice none 0 0,.slice none 0 0,.string ⟨#[]⟩,.slice none 0 0,.string ⟨#[]⟩,.slice none 0 0,.slice none 0 0,.string ⟨#[]⟩,.slice none 0 0,.int .i64 0,.int .i64 0,.int .i64 0,.string ⟨#[]⟩,.string ⟨#[]⟩,.slice none 0 0,.int .i64 0,.slice none 0 0,.slice none 0 0,.int .i64 0,.int .i64 0]) T1.out) rfl) rfl ?_
  refine ⟨Dc.none?,_,rfl,dcNone_dat _ _ _,?_,gb_sets (some c) G1.out (Nat.le_refl _) _ _⟩
  rw [stop_false,methodOrMainF,HI.out,if_pos rfl]
  exact ⟨rfl,HC.out.set hlt _ _⟩
theorem chooseM_any (p c bm:Nat) (l:List Tk) (b:Bool) (w:World) (h:Cur w c l b) (hp:Ps w p c) (hm:Rules w bm c ⟨#[116,121,112,101]⟩ ⟨#[102,117,110,99]⟩ (.func (.func 49) #[] #[]) (.func (.func 50) #[] #[])) :
    Calls Tryz.prog 48 #[.pointer (some ⟨p,0,none⟩),.map (some bm)] w (ChRet c l b w (chooseF [116,121,112,101] typeDeclF [102,117,110,99] methodF l)):=by
  have hlt:=h.lt
  have hpl:=hp.lt
  have hml:=hm.lt
  obtain ⟨s1,hs1⟩:∃ s:ByteArray,⟨#[116,121,112,101]⟩=s:=⟨_,rfl⟩
  obtain ⟨s2,hs2⟩:∃ s:ByteArray,⟨#[102,117,110,99]⟩=s:=⟨_,rfl⟩
  have ht1:s1.data.toList=[116,121,112,101]:=by rw [←hs1]
  have ht2:s2.data.toList=[102,117,110,99]:=by rw [←hs2]
  rw [hs1,hs2] at hm
  obtain ⟨es,hes⟩:∃ es,two s1 s2 (.func (.func 49) #[] #[]) (.func (.func 50) #[] #[])=es:=⟨_,rfl⟩
  have HES:=hid hes
  have HT1:=hid ht1
  have HT2:=hid ht2
  obtain ⟨W0,hW0⟩:∃ W,w.alloc (.cells #[.int .i64 0,.string ⟨#[]⟩,.slice none 0 0,.slice none 0 0,.slice none 0 0,.string ⟨#[]⟩,.slice none 0 0,.string ⟨#[]⟩,.slice none 0 0,.slice none 0 0,.string ⟨#[]⟩,.slice none 0 0,.int .i64 0,.int .i64 0,.int .i64 0,.string ⟨#[]⟩,.string ⟨#[]⟩,.slice none 0 0,.int .i64 0,.slice none 0 0,.slice none 0 0,.int .i64 0,.int .i64 0] 36)=W:=⟨_,rfl⟩
  have hb0:Below w.heap.size w W0:=hW0▸(Below.refl _ _).alloc (Nat.le_refl _) _
  have hs0:W0.heap.size=w.heap.size+1:=by rw [←hW0];simp
  have hrg:=run_range_map (P:=Tryz.prog) W0 106 9 55 bm es 2 Tryz.underlying106 (by rw [←hes];exact (hm.later hb0).at_)
  obtain ⟨W1,hW1⟩:∃ W,W0.alloc (.mapIter (some bm) 2 #[] 2)=W:=⟨_,rfl⟩
  have hb1:Below W0.heap.size W0 W1:=hW1▸(Below.refl _ _).alloc (Nat.le_refl _) _
  have hall:=hb0.trans (hb1.mono hb0.size)
  have TR:=hid (show Trying w W1 p c bm l b s1 s2 _ _ #[] from ⟨h.later hall,hp.later hall,hm.later hall,by rw [←hs0,←hW1];exact heap_alloc_new _ _,there_up (hW0▸there_new w #[.int .i64 0,.string ⟨#[]⟩,.slice none 0 0,.slice none 0 0,.slice none 0 0,.string ⟨#[]⟩,.slice none 0 0,.string ⟨#[]⟩,.slice none 0 0,.slice none 0 0,.string ⟨#[]⟩,.slice none 0 0,.int .i64 0,.int .i64 0,.int .i64 0,.string ⟨#[]⟩,.string ⟨#[]⟩,.slice none 0 0,.int .i64 0,.slice none 0 0,.slice none 0 0,.int .i64 0,.int .i64 0] 36) (by omega) hb1,gb_of _ hall,fun h=>by simp at h,fun h=>by simp at h⟩)
  have HW0:=hid hW0
  have HW1:=hid hW1
  have HS0:=hid hs0
  clear h hp hm hW0 hW1 hb0 hb1 hs0 hall ht1 ht2 hs1 hs2 hes
  go_enter Tryz.func48,Tryz.ntmps48
  go_upto_region 1 with fail
  rw [HW0.out]
  go_wp2_with fail
  rw [HW1.out,HS0.out]
  clear hrg
  go_loopw [] (fun wr=>∃ seen,Trying w wr p c bm l b s1 s2 (.func (.func 49) #[] #[]) (.func (.func 50) #[] #[]) seen) (fun wr=>(leftOf es (wr.iterSeen (w.heap.size+1))).size)
  case atStart=>exact ⟨_,TR.out⟩
  obtain ⟨seen,hr⟩:=hrel
  have HR:=hid hr
  have hbw:w.heap.size+1<wr.heap.size:=(Array.getElem?_eq_some_iff.1 hr.iter).1
  have law:=run_next_at (P:=Tryz.prog) wr 0 (w.heap.size+1) bm 2 2 seen es 2 hr.iter (by rw [←HES.out];exact hr.rules.at_) (by rw [←HES.out];exact two_old _ _ _ _) (Nat.le_refl _)
  clear hr
  rcases law with ⟨h0,hrun⟩ | ⟨e,he,w2,hal,hrun⟩
  · have hnx:∀ ty,(Instr.next (.pointer (some ⟨w.heap.size+1,0,none⟩)) false ty).run Tryz.prog wr=_:=fun _=>hrun
    have hse:=all_seen es seen h0
    have n1:=HR.out.no1 (hse ⟨.string s1,.func (.func 49) #[] #[],0⟩ (by rw [←HES.out];simp [two]))
    have n2:=HR.out.no2 (hse ⟨.string s2,.func (.func 50) #[] #[],1⟩ (by rw [←HES.out];simp [two]))
    have N1:=hid n1
    have N2:=hid n2
    have C:=hid (show Calls Tryz.prog 86 #[.pointer (some ⟨c,0,none⟩),.string ⟨#[]⟩] wr (MustPost c l b [] wr) from must_any c l b ⟨#[]⟩ wr HR.out.cur)
    have x0:=HR.out.ps.at_
    clear hrun hse n1 n2 h0
    go_wp2_with fail
    refine C.out.mono ?_
    rintro e w3 ⟨rfl,ha,hg⟩
    have HA:=hid ha
    have HG:=hid (gb_trans HR.out.gb hg)
    have HT:=hid (there_gb HR.out.res (by omega) (by omega) hg)
    clear ha hg x0 hnx C
    go_wp2_with (refine storeOp flatDc 4 28 (b:=w.heap.size) (o:=0) (us:=[.int .i64 0,.string ⟨#[]⟩,.slice none 0 0,.slice none 0 0,.slice none 0 0,.string ⟨#[]⟩,.slice none 0 0,.string ⟨#[]⟩,.slice none 0 0,.slice none 0 0,.string ⟨#[]⟩,.slice none 0 0,.int .i64 0,.int .i64 0,.int .i64 0,.string ⟨#[]⟩,.string ⟨#[]⟩,.slice none 0 0,.int .i64 0,.slice none 0 0,.slice none 0 0,.int .i64 0,.int .i64 0]) rfl rfl HT.out (dc_one (dcNone_dat w3 False (fun _=>False))).1 rfl ?_)
    refine bodyPost_ret (results_choose _ rfl (set_there (us:=[.int .i64 0,.string ⟨#[]⟩,.slice none 0 0,.slice none 0 0,.slice none 0 0,.string ⟨#[]⟩,.slice none 0 0,.string ⟨#[]⟩,.slice none 0 0,.slice none 0 0,.string ⟨#[]⟩,.slice none 0 0,.int .i64 0,.int .i64 0,.int .i64 0,.string ⟨#[]⟩,.string ⟨#[]⟩,.slice none 0 0,.int .i64 0,.slice none 0 0,.slice none 0 0,.int .i64 0,.int .i64 0]) HT.out) rfl) rfl ?_
    refine ⟨Dc.none?,_,rfl,dcNone_dat _ _ _,?_,gb_sets (some c) HG.out (Nat.le_refl _) _ _,fun _=>rfl⟩
    have e2:stop b l (chooseF [116,121,112,101] typeDeclF [102,117,110,99] methodF l)=stop b l (Got.bind (must [] l) fun _ q=>.ok Dc.none? q):=by
      cases b
      · have i1:isT [116,121,112,101] l=false:=by have:=N1.out;rw [HT1.out] at this;simpa [nextB] using this
        have i2:isT [102,117,110,99] l=false:=by have:=N2.out;rw [HT2.out] at this;simpa [nextB] using this
        rw [chooseF,i1,i2]
        rfl
      rfl
    rw [e2,stop_bind]
    exact (aft_ret HA.out (fun _=>Dc.none?) rfl).set hlt _ _
  have hml2:=(mem_left he).1
  have hcon:=(mem_left he).2
  have hw2r:(setBlock w2 (w.heap.size+1) (.mapIter (some bm) 2 (seen.push e.born) 2)).heap[w.heap.size+1]?=some (.mapIter (some bm) 2 (seen.push e.born) 2):=iter_at hal hbw
  have hup:=below_iter (r:=w.heap.size+1) (o:=.mapIter (some bm) 2 (seen.push e.born) 2) hal
  have hgb:=gb_iter (r:=w.heap.size+1) (o:=.mapIter (some bm) 2 (seen.push e.born) 2) HR.out.gb (by omega) hal
  have hcur:=Cur.up HR.out.cur (hup.mono (by omega:c+1≤w.heap.size+1))
  have hps:=HR.out.ps.up (by omega:p<w.heap.size+1) hup
  have hrl:Rules (setBlock w2 (w.heap.size+1) (.mapIter (some bm) 2 (seen.push e.born) 2)) bm c s1 s2 _ _:=⟨(hup.block bm (by omega)).trans HR.out.rules.at_,HR.out.rules.ne⟩
  have hres:=there_up HR.out.res (by omega:w.heap.size<w.heap.size+1) hup
  have hsh:=left_shrinks es seen e he
  have hen:=run_entry_at (P:=Tryz.prog) (setBlock w2 (w.heap.size+1) (.mapIter (some bm) 2 (seen.push e.born) 2)) (w.heap.size+1) bm 2 seen es 2 e hw2r (by rw [←HES.out];exact hrl.at_) hml2 (by rw [←HES.out];exact two_born _ _ _ _)
  have hms:es.toList=[⟨.string s1,.func (.func 49) #[] #[],0⟩,⟨.string s2,.func (.func 50) #[] #[],1⟩]:=by rw [←HES.out];rfl
  rw [hms] at hml2
  simp only [List.mem_cons,List.not_mem_nil,or_false] at hml2
  obtain ⟨W2,hW2⟩:∃ W,setBlock w2 (w.heap.size+1) (.mapIter (some bm) 2 (seen.push e.born) 2)=W:=⟨_,rfl⟩
  rw [hW2] at hrun hw2r hgb hcur hps hrl hres hen
  have HIT:=hid hw2r
  have HGB:=hid hgb
  have HCU:=hid hcur
  have HPS:=hid hps
  have HRL:=hid hrl
  have HRES:=hid hres
  have HSH:=hid hsh
  have HSI:=hid (show wr.iterSeen (w.heap.size+1)=seen by unfold World.iterSeen;rw [HR.out.iter])
  have hW2s:w.heap.size+1<W2.heap.size:=(Array.getElem?_eq_some_iff.1 hw2r).1
  clear hup hw2r hgb hcur hps hrl hres hW2 hsh hcon hms he
  rcases hml2 with rfl | rfl
  · have hnx:∀ ty,(Instr.next (.pointer (some ⟨w.heap.size+1,0,none⟩)) false ty).run Tryz.prog wr=_:=fun _=>hrun
    have CT:=hid (take_any c l b s1 W2 HCU.out)
    have x0:=HPS.out.at_
    clear hrun
    go_wp2_with fail
    refine CT.out.mono ?_
    rintro e w3 ⟨rfl,hc,hg⟩
    cases hx:nextB b s1.data.toList l
    · have HX:=hid hx
      rw [takeL,hx] at hc
      have T3:=hid (show Trying w w3 p c bm l b s1 s2 _ _ (seen.push 0) from ⟨hc,HPS.out.gb hg,HRL.out.gb hg,(hg.block _ hW2s (by simpa using (by omega:w.heap.size+1≠c))).trans HIT.out,there_gb HRES.out (by omega) (by omega) hg,gb_trans HGB.out hg,fun _=>HX.out,fun h2=>HR.out.no2 (by rw [contains_push] at h2;simpa using h2)⟩)
      clear hx hc hg x0 hnx hen CT
      go_wp2_with fail
      go_roundw
      case rel=>exact ⟨_,T3.out⟩
      case measure =>
        rw [HSI.out,show w3.iterSeen (w.heap.size+1)=seen.push 0 from by unfold World.iterSeen;rw [T3.out.iter]]
        exact HSH.out
    have HX:=hid hx
    obtain ⟨rfl,hi⟩:=nextB_cons hx
    rw [takeL,hx,if_pos rfl] at hc
    have HI:=hid hi
    have C4:=hid (typeDecl_any p c l.tail false w3 hc (HPS.out.gb hg))
    have HG3:=hid (gb_trans HGB.out hg)
    have HT3:=hid (there_gb HRES.out (by omega) (by omega) hg)
    have hs3:=HG3.out.size
    have hs4:=hg.size
    clear hx hi hc hg x0 hnx hen CT
    go_wp2_with fail
    refine C4.out.mono ?_
    rintro e w4 ⟨t,us,rfl,hd,ha,hg⟩
    have HD:=hid hd
    have HA:=hid ha
    have HG4:=hid (gb_trans HG3.out hg)
    have HT4:=hid (show w4.there w.heap.size 0 us.length by rw [(dc_one hd).2];exact there_gb HT3.out (by omega) (by omega) hg)
    clear hd ha hg C4
    go_wp2_with (refine storeOp flatDc 4 22 (b:=w.heap.size) (o:=0) (us:=us) rfl rfl HT4.out (dc_one HD.out).1 (dc_one HD.out).2 ?_)
    refine bodyPost_ret (results_choose _ rfl (set_there (us:=us) HT4.out) (dc_one HD.out).2) rfl ?_
    refine ⟨t,us,rfl,(in_gb (gb_sets1 _ _ _ _) (by omega) HD.out).wide fun i hi=>⟨by have:=hi.1;omega,hi.2⟩,?_,gb_sets (some c) HG4.out (Nat.le_refl _) _ _,fun h=>by cases h⟩
    have e2:stop false l (chooseF [116,121,112,101] typeDeclF [102,117,110,99] methodF l)=stop false l.tail (typeDeclF l.tail):=by
      rw [stop_false,chooseF,show isT [116,121,112,101] l=true from by rw [←HT1.out];exact HI.out,if_pos rfl,stop_false]
    rw [e2]
    exact HA.out.set hlt _ _
  have hnx:∀ ty,(Instr.next (.pointer (some ⟨w.heap.size+1,0,none⟩)) false ty).run Tryz.prog wr=_:=fun _=>hrun
  have CT:=hid (take_any c l b s2 W2 HCU.out)
  have x0:=HPS.out.at_
  clear hrun
  go_wp2_with fail
  refine CT.out.mono ?_
  rintro e w3 ⟨rfl,hc,hg⟩
  cases hx:nextB b s2.data.toList l
  · have HX:=hid hx
    rw [takeL,hx] at hc
    have T3:=hid (show Trying w w3 p c bm l b s1 s2 _ _ (seen.push 1) from ⟨hc,HPS.out.gb hg,HRL.out.gb hg,(hg.block _ hW2s (by simpa using (by omega:w.heap.size+1≠c))).trans HIT.out,there_gb HRES.out (by omega) (by omega) hg,gb_trans HGB.out hg,fun h2=>HR.out.no1 (by rw [contains_push] at h2;simpa using h2),fun _=>HX.out⟩)
    clear hx hc hg x0 hnx hen CT
    go_wp2_with fail
    go_roundw
    case rel=>exact ⟨_,T3.out⟩
    case measure =>
      rw [HSI.out,show w3.iterSeen (w.heap.size+1)=seen.push 1 from by unfold World.iterSeen;rw [T3.out.iter]]
      exact HSH.out
  have HX:=hid hx
  obtain ⟨rfl,hi⟩:=nextB_cons hx
  rw [takeL,hx,if_pos rfl] at hc
  have HI:=hid hi
  have C4:=hid (method_any p c l.tail false w3 hc (HPS.out.gb hg))
  have HG3:=hid (gb_trans HGB.out hg)
  have HT3:=hid (there_gb HRES.out (by omega) (by omega) hg)
  have hs3:=HG3.out.size
  have hs4:=hg.size
  clear hx hi hc hg x0 hnx hen CT
  go_wp2_with fail
  refine C4.out.mono ?_
  rintro e w4 ⟨t,us,rfl,hd,ha,hg⟩
  have HD:=hid hd
  have HA:=hid ha
  have HG4:=hid (gb_trans HG3.out hg)
  have HT4:=hid (show w4.there w.heap.size 0 us.length by rw [(dc_one hd).2];exact there_gb HT3.out (by omega) (by omega) hg)
  clear hd ha hg C4
  go_wp2_with (refine storeOp flatDc 4 22 (b:=w.heap.size) (o:=0) (us:=us) rfl rfl HT4.out (dc_one HD.out).1 (dc_one HD.out).2 ?_)
  refine bodyPost_ret (results_choose _ rfl (set_there (us:=us) HT4.out) (dc_one HD.out).2) rfl ?_
  refine ⟨t,us,rfl,(in_gb (gb_sets1 _ _ _ _) (by omega) HD.out).wide fun i hi=>⟨by have:=hi.1;omega,hi.2⟩,?_,gb_sets (some c) HG4.out (Nat.le_refl _) _ _,fun h=>by cases h⟩
  have e2:stop false l (chooseF [116,121,112,101] typeDeclF [102,117,110,99] methodF l)=stop false l.tail (methodF l.tail):=by
    obtain ⟨t0,r0,rfl,hk0,ht0⟩:=isT_cons HI.out
    rw [stop_false,chooseF,isT_neg2 (show t0.s.data.toList≠[116,121,112,101] by rw [ht0,HT2.out];decide),if_neg (by decide),show isT [102,117,110,99] (t0 :: r0)=true from by rw [←HT2.out];exact HI.out,if_pos rfl,stop_false]
  rw [e2]
  exact HA.out.set hlt _ _
theorem chooseN_any (p c bm:Nat) (l:List Tk) (b:Bool) (w:World) (h:Cur w c l b) (hp:Ps w p c) (hm:Rules w bm c ⟨#[116,121,112,101]⟩ ⟨#[102,117,110,99]⟩ (.func (.func 49) #[] #[]) (.func (.func 118) #[] #[])) :
    Calls Tryz.prog 48 #[.pointer (some ⟨p,0,none⟩),.map (some bm)] w (ChRet c l b w (chooseF [116,121,112,101] typeDeclF [102,117,110,99] methodOrMainF l)):=by
  have hlt:=h.lt
  have hpl:=hp.lt
  have hml:=hm.lt
  obtain ⟨s1,hs1⟩:∃ s:ByteArray,⟨#[116,121,112,101]⟩=s:=⟨_,rfl⟩
  obtain ⟨s2,hs2⟩:∃ s:ByteArray,⟨#[102,117,110,99]⟩=s:=⟨_,rfl⟩
  have ht1:s1.data.toList=[116,121,112,101]:=by rw [←hs1]
  have ht2:s2.data.toList=[102,117,110,99]:=by rw [←hs2]
  rw [hs1,hs2] at hm
  obtain ⟨es,hes⟩:∃ es,two s1 s2 (.func (.func 49) #[] #[]) (.func (.func 118) #[] #[])=es:=⟨_,rfl⟩
  have HES:=hid hes
  have HT1:=hid ht1
  have HT2:=hid ht2
  obtain ⟨W0,hW0⟩:∃ W,w.alloc (.cells #[.int .i64 0,.string ⟨#[]⟩,.slice none 0 0,.slice none 0 0,.slice none 0 0,.string ⟨#[]⟩,.slice none 0 0,.string ⟨#[]⟩,.slice none 0 0,.slice none 0 0,.string ⟨#[]⟩,.slice none 0 0,.int .i64 0,.int .i64 0,.int .i64 0,.string ⟨#[]⟩,.string ⟨#[]⟩,.slice none 0 0,.int .i64 0,.slice none 0 0,.slice none 0 0,.int .i64 0,.int .i64 0] 36)=W:=⟨_,rfl⟩
  have hb0:Below w.heap.size w W0:=hW0▸(Below.refl _ _).alloc (Nat.le_refl _) _
  have hs0:W0.heap.size=w.heap.size+1:=by rw [←hW0];simp
  have hrg:=run_range_map (P:=Tryz.prog) W0 106 9 55 bm es 2 Tryz.underlying106 (by rw [←hes];exact (hm.later hb0).at_)
  obtain ⟨W1,hW1⟩:∃ W,W0.alloc (.mapIter (some bm) 2 #[] 2)=W:=⟨_,rfl⟩
  have hb1:Below W0.heap.size W0 W1:=hW1▸(Below.refl _ _).alloc (Nat.le_refl _) _
  have hall:=hb0.trans (hb1.mono hb0.size)
  have TR:=hid (show Trying w W1 p c bm l b s1 s2 _ _ #[] from ⟨h.later hall,hp.later hall,hm.later hall,by rw [←hs0,←hW1];exact heap_alloc_new _ _,there_up (hW0▸there_new w #[.int .i64 0,.string ⟨#[]⟩,.slice none 0 0,.slice none 0 0,.slice none 0 0,.string ⟨#[]⟩,.slice none 0 0,.string ⟨#[]⟩,.slice none 0 0,.slice none 0 0,.string ⟨#[]⟩,.slice none 0 0,.int .i64 0,.int .i64 0,.int .i64 0,.string ⟨#[]⟩,.string ⟨#[]⟩,.slice none 0 0,.int .i64 0,.slice none 0 0,.slice none 0 0,.int .i64 0,.int .i64 0] 36) (by omega) hb1,gb_of _ hall,fun h=>by simp at h,fun h=>by simp at h⟩)
  have HW0:=hid hW0
  have HW1:=hid hW1
  have HS0:=hid hs0
  clear h hp hm hW0 hW1 hb0 hb1 hs0 hall ht1 ht2 hs1 hs2 hes
  go_enter Tryz.func48,Tryz.ntmps48
  go_upto_region 1 with fail
  rw [HW0.out]
  go_wp2_with fail
  rw [HW1.out,HS0.out]
  clear hrg
  go_loopw [] (fun wr=>∃ seen,Trying w wr p c bm l b s1 s2 (.func (.func 49) #[] #[]) (.func (.func 118) #[] #[]) seen) (fun wr=>(leftOf es (wr.iterSeen (w.heap.size+1))).size)
  case atStart=>exact ⟨_,TR.out⟩
  obtain ⟨seen,hr⟩:=hrel
  have HR:=hid hr
  have hbw:w.heap.size+1<wr.heap.size:=(Array.getElem?_eq_some_iff.1 hr.iter).1
  have law:=run_next_at (P:=Tryz.prog) wr 0 (w.heap.size+1) bm 2 2 seen es 2 hr.iter (by rw [←HES.out];exact hr.rules.at_) (by rw [←HES.out];exact two_old _ _ _ _) (Nat.le_refl _)
  clear hr
  rcases law with ⟨h0,hrun⟩ | ⟨e,he,w2,hal,hrun⟩
  · have hnx:∀ ty,(Instr.next (.pointer (some ⟨w.heap.size+1,0,none⟩)) false ty).run Tryz.prog wr=_:=fun _=>hrun
    have hse:=all_seen es seen h0
    have n1:=HR.out.no1 (hse ⟨.string s1,.func (.func 49) #[] #[],0⟩ (by rw [←HES.out];simp [two]))
    have n2:=HR.out.no2 (hse ⟨.string s2,.func (.func 118) #[] #[],1⟩ (by rw [←HES.out];simp [two]))
    have N1:=hid n1
    have N2:=hid n2
    have C:=hid (show Calls Tryz.prog 86 #[.pointer (some ⟨c,0,none⟩),.string ⟨#[]⟩] wr (MustPost c l b [] wr) from must_any c l b ⟨#[]⟩ wr HR.out.cur)
    have x0:=HR.out.ps.at_
    clear hrun hse n1 n2 h0
    go_wp2_with fail
    refine C.out.mono ?_
    rintro e w3 ⟨rfl,ha,hg⟩
    have HA:=hid ha
    have HG:=hid (gb_trans HR.out.gb hg)
    have HT:=hid (there_gb HR.out.res (by omega) (by omega) hg)
    clear ha hg x0 hnx C
    go_wp2_with (refine storeOp flatDc 4 28 (b:=w.heap.size) (o:=0) (us:=[.int .i64 0,.string ⟨#[]⟩,.slice none 0 0,.slice none 0 0,.slice none 0 0,.string ⟨#[]⟩,.slice none 0 0,.string ⟨#[]⟩,.slice none 0 0,.slice none 0 0,.string ⟨#[]⟩,.slice none 0 0,.int .i64 0,.int .i64 0,.int .i64 0,.string ⟨#[]⟩,.string ⟨#[]⟩,.slice none 0 0,.int .i64 0,.slice none 0 0,.slice none 0 0,.int .i64 0,.int .i64 0]) rfl rfl HT.out (dc_one (dcNone_dat w3 False (fun _=>False))).1 rfl ?_)
    refine bodyPost_ret (results_choose _ rfl (set_there (us:=[.int .i64 0,.string ⟨#[]⟩,.slice none 0 0,.slice none 0 0,.slice none 0 0,.string ⟨#[]⟩,.slice none 0 0,.string ⟨#[]⟩,.slice none 0 0,.slice none 0 0,.string ⟨#[]⟩,.slice none 0 0,.int .i64 0,.int .i64 0,.int .i64 0,.string ⟨#[]⟩,.string ⟨#[]⟩,.slice none 0 0,.int .i64 0,.slice none 0 0,.slice none 0 0,.int .i64 0,.int .i64 0]) HT.out) rfl) rfl ?_
    refine ⟨Dc.none?,_,rfl,dcNone_dat _ _ _,?_,gb_sets (some c) HG.out (Nat.le_refl _) _ _,fun _=>rfl⟩
    have e2:stop b l (chooseF [116,121,112,101] typeDeclF [102,117,110,99] methodOrMainF l)=stop b l (Got.bind (must [] l) fun _ q=>.ok Dc.none? q):=by
      cases b
      · have i1:isT [116,121,112,101] l=false:=by have:=N1.out;rw [HT1.out] at this;simpa [nextB] using this
        have i2:isT [102,117,110,99] l=false:=by have:=N2.out;rw [HT2.out] at this;simpa [nextB] using this
        rw [chooseF,i1,i2]
        rfl
      rfl
    rw [e2,stop_bind]
    exact (aft_ret HA.out (fun _=>Dc.none?) rfl).set hlt _ _
  have hml2:=(mem_left he).1
  have hcon:=(mem_left he).2
  have hw2r:(setBlock w2 (w.heap.size+1) (.mapIter (some bm) 2 (seen.push e.born) 2)).heap[w.heap.size+1]?=some (.mapIter (some bm) 2 (seen.push e.born) 2):=iter_at hal hbw
  have hup:=below_iter (r:=w.heap.size+1) (o:=.mapIter (some bm) 2 (seen.push e.born) 2) hal
  have hgb:=gb_iter (r:=w.heap.size+1) (o:=.mapIter (some bm) 2 (seen.push e.born) 2) HR.out.gb (by omega) hal
  have hcur:=Cur.up HR.out.cur (hup.mono (by omega:c+1≤w.heap.size+1))
  have hps:=HR.out.ps.up (by omega:p<w.heap.size+1) hup
  have hrl:Rules (setBlock w2 (w.heap.size+1) (.mapIter (some bm) 2 (seen.push e.born) 2)) bm c s1 s2 _ _:=⟨(hup.block bm (by omega)).trans HR.out.rules.at_,HR.out.rules.ne⟩
  have hres:=there_up HR.out.res (by omega:w.heap.size<w.heap.size+1) hup
  have hsh:=left_shrinks es seen e he
  have hen:=run_entry_at (P:=Tryz.prog) (setBlock w2 (w.heap.size+1) (.mapIter (some bm) 2 (seen.push e.born) 2)) (w.heap.size+1) bm 2 seen es 2 e hw2r (by rw [←HES.out];exact hrl.at_) hml2 (by rw [←HES.out];exact two_born _ _ _ _)
  have hms:es.toList=[⟨.string s1,.func (.func 49) #[] #[],0⟩,⟨.string s2,.func (.func 118) #[] #[],1⟩]:=by rw [←HES.out];rfl
  rw [hms] at hml2
  simp only [List.mem_cons,List.not_mem_nil,or_false] at hml2
  obtain ⟨W2,hW2⟩:∃ W,setBlock w2 (w.heap.size+1) (.mapIter (some bm) 2 (seen.push e.born) 2)=W:=⟨_,rfl⟩
  rw [hW2] at hrun hw2r hgb hcur hps hrl hres hen
  have HIT:=hid hw2r
  have HGB:=hid hgb
  have HCU:=hid hcur
  have HPS:=hid hps
  have HRL:=hid hrl
  have HRES:=hid hres
  have HSH:=hid hsh
  have HSI:=hid (show wr.iterSeen (w.heap.size+1)=seen by unfold World.iterSeen;rw [HR.out.iter])
  have hW2s:w.heap.size+1<W2.heap.size:=(Array.getElem?_eq_some_iff.1 hw2r).1
  clear hup hw2r hgb hcur hps hrl hres hW2 hsh hcon hms he
  rcases hml2 with rfl | rfl
  · have hnx:∀ ty,(Instr.next (.pointer (some ⟨w.heap.size+1,0,none⟩)) false ty).run Tryz.prog wr=_:=fun _=>hrun
    have CT:=hid (take_any c l b s1 W2 HCU.out)
    have x0:=HPS.out.at_
    clear hrun
    go_wp2_with fail
    refine CT.out.mono ?_
    rintro e w3 ⟨rfl,hc,hg⟩
    cases hx:nextB b s1.data.toList l
    · have HX:=hid hx
      rw [takeL,hx] at hc
      have T3:=hid (show Trying w w3 p c bm l b s1 s2 _ _ (seen.push 0) from ⟨hc,HPS.out.gb hg,HRL.out.gb hg,(hg.block _ hW2s (by simpa using (by omega:w.heap.size+1≠c))).trans HIT.out,there_gb HRES.out (by omega) (by omega) hg,gb_trans HGB.out hg,fun _=>HX.out,fun h2=>HR.out.no2 (by rw [contains_push] at h2;simpa using h2)⟩)
      clear hx hc hg x0 hnx hen CT
      go_wp2_with fail
      go_roundw
      case rel=>exact ⟨_,T3.out⟩
      case measure =>
        rw [HSI.out,show w3.iterSeen (w.heap.size+1)=seen.push 0 from by unfold World.iterSeen;rw [T3.out.iter]]
        exact HSH.out
    have HX:=hid hx
    obtain ⟨rfl,hi⟩:=nextB_cons hx
    rw [takeL,hx,if_pos rfl] at hc
    have HI:=hid hi
    have C4:=hid (typeDecl_any p c l.tail false w3 hc (HPS.out.gb hg))
    have HG3:=hid (gb_trans HGB.out hg)
    have HT3:=hid (there_gb HRES.out (by omega) (by omega) hg)
    have hs3:=HG3.out.size
    have hs4:=hg.size
    clear hx hi hc hg x0 hnx hen CT
    go_wp2_with fail
    refine C4.out.mono ?_
    rintro e w4 ⟨t,us,rfl,hd,ha,hg⟩
    have HD:=hid hd
    have HA:=hid ha
    have HG4:=hid (gb_trans HG3.out hg)
    have HT4:=hid (show w4.there w.heap.size 0 us.length by rw [(dc_one hd).2];exact there_gb HT3.out (by omega) (by omega) hg)
    clear hd ha hg C4
    go_wp2_with (refine storeOp flatDc 4 22 (b:=w.heap.size) (o:=0) (us:=us) rfl rfl HT4.out (dc_one HD.out).1 (dc_one HD.out).2 ?_)
    refine bodyPost_ret (results_choose _ rfl (set_there (us:=us) HT4.out) (dc_one HD.out).2) rfl ?_
    refine ⟨t,us,rfl,(in_gb (gb_sets1 _ _ _ _) (by omega) HD.out).wide fun i hi=>⟨by have:=hi.1;omega,hi.2⟩,?_,gb_sets (some c) HG4.out (Nat.le_refl _) _ _,fun h=>by cases h⟩
    have e2:stop false l (chooseF [116,121,112,101] typeDeclF [102,117,110,99] methodOrMainF l)=stop false l.tail (typeDeclF l.tail):=by
      rw [stop_false,chooseF,show isT [116,121,112,101] l=true from by rw [←HT1.out];exact HI.out,if_pos rfl,stop_false]
    rw [e2]
    exact HA.out.set hlt _ _
  have hnx:∀ ty,(Instr.next (.pointer (some ⟨w.heap.size+1,0,none⟩)) false ty).run Tryz.prog wr=_:=fun _=>hrun
  have CT:=hid (take_any c l b s2 W2 HCU.out)
  have x0:=HPS.out.at_
  clear hrun
  go_wp2_with fail
  refine CT.out.mono ?_
  rintro e w3 ⟨rfl,hc,hg⟩
  cases hx:nextB b s2.data.toList l
  · have HX:=hid hx
    rw [takeL,hx] at hc
    have T3:=hid (show Trying w w3 p c bm l b s1 s2 _ _ (seen.push 1) from ⟨hc,HPS.out.gb hg,HRL.out.gb hg,(hg.block _ hW2s (by simpa using (by omega:w.heap.size+1≠c))).trans HIT.out,there_gb HRES.out (by omega) (by omega) hg,gb_trans HGB.out hg,fun h2=>HR.out.no1 (by rw [contains_push] at h2;simpa using h2),fun _=>HX.out⟩)
    clear hx hc hg x0 hnx hen CT
    go_wp2_with fail
    go_roundw
    case rel=>exact ⟨_,T3.out⟩
    case measure =>
      rw [HSI.out,show w3.iterSeen (w.heap.size+1)=seen.push 1 from by unfold World.iterSeen;rw [T3.out.iter]]
      exact HSH.out
  have HX:=hid hx
  obtain ⟨rfl,hi⟩:=nextB_cons hx
  rw [takeL,hx,if_pos rfl] at hc
  have HI:=hid hi
  have C4:=hid (methodOrMain_any p c l.tail false w3 hc (HPS.out.gb hg))
  have HG3:=hid (gb_trans HGB.out hg)
  have HT3:=hid (there_gb HRES.out (by omega) (by omega) hg)
  have hs3:=HG3.out.size
  have hs4:=hg.size
  clear hx hi hc hg x0 hnx hen CT
  go_wp2_with fail
  refine C4.out.mono ?_
  rintro e w4 ⟨t,us,rfl,hd,ha,hg⟩
  have HD:=hid hd
  have HA:=hid ha
  have HG4:=hid (gb_trans HG3.out hg)
  have HT4:=hid (show w4.there w.heap.size 0 us.length by rw [(dc_one hd).2];exact there_gb HT3.out (by omega) (by omega) hg)
  clear hd ha hg C4
  go_wp2_with (refine storeOp flatDc 4 22 (b:=w.heap.size) (o:=0) (us:=us) rfl rfl HT4.out (dc_one HD.out).1 (dc_one HD.out).2 ?_)
  refine bodyPost_ret (results_choose _ rfl (set_there (us:=us) HT4.out) (dc_one HD.out).2) rfl ?_
  refine ⟨t,us,rfl,(in_gb (gb_sets1 _ _ _ _) (by omega) HD.out).wide fun i hi=>⟨by have:=hi.1;omega,hi.2⟩,?_,gb_sets (some c) HG4.out (Nat.le_refl _) _ _,fun h=>by cases h⟩
  have e2:stop false l (chooseF [116,121,112,101] typeDeclF [102,117,110,99] methodOrMainF l)=stop false l.tail (methodOrMainF l.tail):=by
    obtain ⟨t0,r0,rfl,hk0,ht0⟩:=isT_cons HI.out
    rw [stop_false,chooseF,isT_neg2 (show t0.s.data.toList≠[116,121,112,101] by rw [ht0,HT2.out];decide),if_neg (by decide),show isT [102,117,110,99] (t0 :: r0)=true from by rw [←HT2.out];exact HI.out,if_pos rfl,stop_false]
  rw [e2]
  exact HA.out.set hlt _ _
theorem results_decl {w:World} {b:Nat} {us:List Value} (tmps:Array Value) (ht:tmps[2]?.getD undef=.pointer (some ⟨b,0,none⟩)) (hc:Boxd w b us) (hl:us.length=23):(results Tryz.f14 tmps).run Tryz.prog w=.ok (.agg us.toArray) w:=by
  have h:=run_cell flatDc hc hl
  have h2:=run_addr ⟨b,0,none⟩ w
  simp [results,Tryz.results14,ht,h,h2,Sem.run_bind,Result.andThen]
theorem decl_any (p c:Nat) (l:List Tk) (b:Bool) (w:World) (h:Cur w c l b) (hp:Ps w p c):Calls Tryz.prog 14 #[.pointer (some ⟨p,0,none⟩)] w (ChRet c l b w (declF l)):=by
  have hlt:=h.lt
  obtain ⟨W0,hW0⟩:∃ W,w.alloc (.cells #[.int .i64 0,.string ⟨#[]⟩,.slice none 0 0,.slice none 0 0,.slice none 0 0,.string ⟨#[]⟩,.slice none 0 0,.string ⟨#[]⟩,.slice none 0 0,.slice none 0 0,.string ⟨#[]⟩,.slice none 0 0,.int .i64 0,.int .i64 0,.int .i64 0,.string ⟨#[]⟩,.string ⟨#[]⟩,.slice none 0 0,.int .i64 0,.slice none 0 0,.slice none 0 0,.int .i64 0,.int .i64 0] 36)=W:=⟨_,rfl⟩
  have hb0:Below w.heap.size w W0:=hW0▸(Below.refl _ _).alloc (Nat.le_refl _) _
  have hs0:W0.heap.size=w.heap.size+1:=by rw [←hW0];simp
  have HW0:=hid hW0
  have T0:=hid (show W0.there w.heap.size 0 23 from hW0▸there_new w #[.int .i64 0,.string ⟨#[]⟩,.slice none 0 0,.slice none 0 0,.slice none 0 0,.string ⟨#[]⟩,.slice none 0 0,.string ⟨#[]⟩,.slice none 0 0,.slice none 0 0,.string ⟨#[]⟩,.slice none 0 0,.int .i64 0,.int .i64 0,.int .i64 0,.string ⟨#[]⟩,.string ⟨#[]⟩,.slice none 0 0,.int .i64 0,.slice none 0 0,.slice none 0 0,.int .i64 0,.int .i64 0] 36)
  have hmm:=@run_makeMap Tryz.prog
  have hi0:=run_ins0 W0 ⟨#[116,121,112,101]⟩ (.func (.func 49) #[] #[])
  have hi1:=run_ins1 W0 ⟨#[116,121,112,101]⟩ ⟨#[102,117,110,99]⟩ (.func (.func 49) #[] #[]) (.func (.func 50) #[] #[]) (by decide)
  rw [hs0] at hi0 hi1
  obtain ⟨W3,hW3⟩:∃ W,W0.alloc (.map #[⟨.string ⟨#[116,121,112,101]⟩,(.func (.func 49) #[] #[]),0⟩,⟨.string ⟨#[102,117,110,99]⟩,(.func (.func 50) #[] #[]),1⟩] 2)=W:=⟨_,rfl⟩
  have hb3:Below W0.heap.size W0 W3:=hW3▸(Below.refl _ _).alloc (Nat.le_refl _) _
  have hall:=hb0.trans (hb3.mono hb0.size)
  have HW3:=hid hW3
  have G3:=hid (gb_of (some c) hall)
  have T3:=hid (there_up T0.out (by omega) hb3)
  have C3:=hid (chooseM_any p c (w.heap.size+1) l b W3 (h.later hall) (hp.later hall) ⟨by rw [←hs0,←hW3];exact heap_alloc_new _ _,by omega⟩)
  have hs3:=hb3.size
  clear h hp hW0 hb0 hW3 hb3 hall
  go_enter Tryz.func14,Tryz.ntmps14
  go_upto_region 1 with fail
  rw [HW0.out]
  go_wp2_with fail
  rw [HW3.out]
  refine C3.out.mono ?_
  rintro e w4 ⟨t,us,rfl,hd,ha,hg,hk⟩
  have HD:=hid hd
  have HA:=hid ha
  have HK:=hid hk
  have G4:=hid (gb_trans G3.out hg)
  have T4:=hid (show w4.there w.heap.size 0 us.length by rw [(dc_one hd).2];exact there_gb T3.out (by omega) (by omega) hg)
  clear hd ha hg hk hmm hi0 hi1 C3
  go_wp2_with (refine storeOp flatDc 2 6 (b:=w.heap.size) (o:=0) (us:=us) rfl rfl T4.out (dc_one HD.out).1 (dc_one HD.out).2 ?_)
  refine bodyPost_ret (results_decl _ rfl (set_there (us:=us) T4.out) (dc_one HD.out).2) rfl ?_
  exact ⟨t,us,rfl,(in_gb (gb_sets1 _ _ _ _) (by omega) HD.out).wide fun i hi=>⟨by have:=hi.1;omega,hi.2⟩,HA.out.set hlt _ _,gb_sets (some c) G4.out (Nat.le_refl _) _ _,HK.out⟩
theorem results_declOrMain {w:World} {b:Nat} {us:List Value} (tmps:Array Value) (ht:tmps[2]?.getD undef=.pointer (some ⟨b,0,none⟩)) (hc:Boxd w b us) (hl:us.length=23):(results Tryz.f84 tmps).run Tryz.prog w=.ok (.agg us.toArray) w:=by
  have h:=run_cell flatDc hc hl
  have h2:=run_addr ⟨b,0,none⟩ w
  simp [results,Tryz.results84,ht,h,h2,Sem.run_bind,Result.andThen]
theorem declOrMain_any (p c:Nat) (l:List Tk) (b:Bool) (w:World) (h:Cur w c l b) (hp:Ps w p c):Calls Tryz.prog 84 #[.pointer (some ⟨p,0,none⟩)] w (ChRet c l b w (declOrMainF l)):=by
  have hlt:=h.lt
  obtain ⟨W0,hW0⟩:∃ W,w.alloc (.cells #[.int .i64 0,.string ⟨#[]⟩,.slice none 0 0,.slice none 0 0,.slice none 0 0,.string ⟨#[]⟩,.slice none 0 0,.string ⟨#[]⟩,.slice none 0 0,.slice none 0 0,.string ⟨#[]⟩,.slice none 0 0,.int .i64 0,.int .i64 0,.int .i64 0,.string ⟨#[]⟩,.string ⟨#[]⟩,.slice none 0 0,.int .i64 0,.slice none 0 0,.slice none 0 0,.int .i64 0,.int .i64 0] 36)=W:=⟨_,rfl⟩
  have hb0:Below w.heap.size w W0:=hW0▸(Below.refl _ _).alloc (Nat.le_refl _) _
  have hs0:W0.heap.size=w.heap.size+1:=by rw [←hW0];simp
  have HW0:=hid hW0
  have T0:=hid (show W0.there w.heap.size 0 23 from hW0▸there_new w #[.int .i64 0,.string ⟨#[]⟩,.slice none 0 0,.slice none 0 0,.slice none 0 0,.string ⟨#[]⟩,.slice none 0 0,.string ⟨#[]⟩,.slice none 0 0,.slice none 0 0,.string ⟨#[]⟩,.slice none 0 0,.int .i64 0,.int .i64 0,.int .i64 0,.string ⟨#[]⟩,.string ⟨#[]⟩,.slice none 0 0,.int .i64 0,.slice none 0 0,.slice none 0 0,.int .i64 0,.int .i64 0] 36)
  have hmm:=@run_makeMap Tryz.prog
  have hi0:=run_ins0 W0 ⟨#[116,121,112,101]⟩ (.func (.func 49) #[] #[])
  have hi1:=run_ins1 W0 ⟨#[116,121,112,101]⟩ ⟨#[102,117,110,99]⟩ (.func (.func 49) #[] #[]) (.func (.func 118) #[] #[]) (by decide)
  rw [hs0] at hi0 hi1
  obtain ⟨W3,hW3⟩:∃ W,W0.alloc (.map #[⟨.string ⟨#[116,121,112,101]⟩,(.func (.func 49) #[] #[]),0⟩,⟨.string ⟨#[102,117,110,99]⟩,(.func (.func 118) #[] #[]),1⟩] 2)=W:=⟨_,rfl⟩
  have hb3:Below W0.heap.size W0 W3:=hW3▸(Below.refl _ _).alloc (Nat.le_refl _) _
  have hall:=hb0.trans (hb3.mono hb0.size)
  have HW3:=hid hW3
  have G3:=hid (gb_of (some c) hall)
  have T3:=hid (there_up T0.out (by omega) hb3)
  have C3:=hid (chooseN_any p c (w.heap.size+1) l b W3 (h.later hall) (hp.later hall) ⟨by rw [←hs0,←hW3];exact heap_alloc_new _ _,by omega⟩)
  have hs3:=hb3.size
  clear h hp hW0 hb0 hW3 hb3 hall
  go_enter Tryz.func84,Tryz.ntmps84
  go_upto_region 1 with fail
  rw [HW0.out]
  go_wp2_with fail
  rw [HW3.out]
  refine C3.out.mono ?_
  rintro e w4 ⟨t,us,rfl,hd,ha,hg,hk⟩
  have HD:=hid hd
  have HA:=hid ha
  have HK:=hid hk
  have G4:=hid (gb_trans G3.out hg)
  have T4:=hid (show w4.there w.heap.size 0 us.length by rw [(dc_one hd).2];exact there_gb T3.out (by omega) (by omega) hg)
  clear hd ha hg hk hmm hi0 hi1 C3
  go_wp2_with (refine storeOp flatDc 2 6 (b:=w.heap.size) (o:=0) (us:=us) rfl rfl T4.out (dc_one HD.out).1 (dc_one HD.out).2 ?_)
  refine bodyPost_ret (results_declOrMain _ rfl (set_there (us:=us) T4.out) (dc_one HD.out).2) rfl ?_
  exact ⟨t,us,rfl,(in_gb (gb_sets1 _ _ _ _) (by omega) HD.out).wide fun i hi=>⟨by have:=hi.1;omega,hi.2⟩,HA.out.set hlt _ _,gb_sets (some c) G4.out (Nat.le_refl _) _ _,HK.out⟩
