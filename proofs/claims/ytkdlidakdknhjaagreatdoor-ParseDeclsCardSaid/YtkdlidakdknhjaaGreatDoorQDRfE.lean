/- The walk of WholeType of layer 7's reference. The condition: the text is short.
The walk of WholeExpr of layer 7's reference. The conditions: the text is short; what its Expr gives (RExAt).
The walk of args of layer 7's reference. The conditions: the place stands in tokens of a text; what its Expr gives (RExAt). -/
import Derived.Test.YtkdlidakdknhjaaGreatDoorQDRfC
import Derived.Lib.IndexAny
import Derived.WalkMore
set_option maxRecDepth 100000
set_option maxHeartbeats 8000000
open Go.Lib (hid)
namespace Go.Proofs.YtkdlidakdknhjaaGreatDoor.Rd
open Go.RowKit
theorem raft_end {α:Type} {w:World} {A:Option Addr} {n:Nat} {L:List Tk} {p:Nat} {b:Bool} {v:α} {g:Got α} (h:RAft w A n L p b v g):∃ q,Pl w A n L p q∧((finC b q=0∧finO b q=0∧endO g=.good v)∨(finC b q=2∧endO g=.err 2 (finO b q))):=by
  cases g with
  | ok u q =>
    obtain ⟨rfl,rfl,hp⟩:=h
    refine ⟨q,hp,?_⟩
    by_cases hk:kind q=3
    · exact .inl ⟨by simp [finC,hk],by simp [finO,hk],by simp [endO,hk]⟩
    exact .inr ⟨by simp [finC,hk],by simp [finO,endO,hk]⟩
  | bad q =>
    obtain ⟨rfl,hp⟩:=h
    exact ⟨q,hp,.inr ⟨by simp [finC],by simp [finO,endO]⟩⟩
open Go.RowKit
def RExPost (A:Option Addr) (n cap:Nat) (L l:List Tk) (m:Nat) (w:World) (e:Ending) (w':World):Prop:=∃ (t:Ex) (us:List Value) (p':Nat) (b':Bool),e=.returned (.tuple #[.agg #[.slice A n cap,.int .i64 p',.bool b'],.agg us.toArray])∧t.dat.In w' False (Fr w.heap.size w') us∧RAft w' A n L p' b' t (exF m l)∧Below w.heap.size w w'
def RExAt (m:Nat):Prop:=∀ (A:Option Addr) (n cap p:Nat) (L l:List Tk) (w:World),Pl w A n L p l→2*l.length+2≤m→Calls Tryz.prog 55 #[.agg #[.slice A n cap,.int .i64 p,.bool false]] w (RExPost A n cap L l m w)
open Go.RowKit
def RExsPost (A:Option Addr) (n cap:Nat) (L l:List Tk) (s:List UInt8) (b:Bool) (m:Nat) (w:World) (e:Ending) (w':World):Prop:=∃ (xs:List Ex) (B:Option Addr) (k p':Nat) (b':Bool),e=.returned (.tuple #[.agg #[.slice A n cap,.int .i64 p',.bool b'],.slice B xs.length k])∧Row w' False (Fr w.heap.size w') 8 B xs.length (Ex.dats xs)∧xs.length≤k∧xs.length≤100002∧RAft w' A n L p' b' xs (stop b l (argsF m s l))∧Below w.heap.size w w'
structure GRel (w wr:World) (A:Option Addr) (n cap:Nat) (L l:List Tk) (s:List UInt8) (b0:Bool) (N m:Nat) (v:Value) (acc:List Ex) (q:List Tk) (p:Nat) (b:Bool):Prop where
  pl:Pl w A n L p q
  box:Boxd wr w.heap.size [.slice A n cap,.int .i64 p,.bool b]
  own1:wr.there w.heap.size 0 3
  own2:wr.there (w.heap.size+1) 0 3
  row:Built wr False 34 8 (w.heap.size+2) v acc.length (Ex.dats acc)
  bel:Below w.heap.size w wr
  big:w.heap.size+2≤wr.heap.size
  fuel:b=false→2*q.length+2≤m
  less:m≤N
  few:acc.length+q.length≤100001
  eq:stop b0 l (argsF N s l)=if b then .bad q else Got.bind (exF m q) fun u q=>Got.bind (moreX m (acc++[u]) q) fun xs q=>Got.bind (must s q) fun _ q=>.ok xs q
theorem results_rargs {w:World} {b:Nat} {us:List Value} {v:Value} (tmps:Array Value) (ht:tmps[4]?.getD undef=.pointer (some ⟨b,0,none⟩)) (hv:tmps[5]?.getD undef=v) (hc:Boxd w b us) (hl:us.length=3):(results Tryz.f103 tmps).run Tryz.prog w=.ok (.tuple #[.agg us.toArray,v]) w:=by
  have h:=run_cell flatPl hc hl
  have h2:=run_addr ⟨b,0,none⟩ w
  simp [results,Tryz.results103,ht,hv,h,h2,Sem.run_bind,Result.andThen]
theorem rargs_any (N:Nat) (ih:∀ m,m≤N→RExAt m) (A:Option Addr) (n cap p:Nat) (L l:List Tk) (b:Bool) (s:ByteArray) (w:World) (h:Pl w A n L p l) (hf:b=false→2*l.length+2≤N) :
    Calls Tryz.prog 103 #[.agg #[.slice A n cap,.int .i64 p,.bool b],.string s] w (RExsPost A n cap L l s.data.toList b N w):=by
  obtain ⟨W,hW,hb,hz,hbx,ht1,ht2⟩:=two_pl w A n cap p b
  have HW:=hid hW
  have HB:=hid hb
  have HP:=hid (h.later hb)
  have HP0:=hid h
  have HBX:=hid hbx
  have HT1:=hid ht1
  have HT2:=hid ht2
  have HF:=hid hf
  have IH:=hid ih
  have HLL:=hid (show l.length≤100000 by have h1:=h.ts.len;have h2:=h.len;rw [←h.l_eq,List.length_drop];omega)
  obtain ⟨i0,hi0,hz0,hz1,hz2⟩:=info_parts infoExR
  obtain ⟨x0,x1,x2,-⟩:=three hbx ht1
  have CI:=hid (ris_any A n cap p L l b s W HP.out)
  clear h hW hb hbx ht1 ht2 hf ih
  go_enter Tryz.func103,Tryz.ntmps103
  go_upto_region 1 with fail
  rw [HW.out]
  go_wp2_with fail
  refine CI.out.mono ?_
  rintro e V ⟨rfl,hb⟩
  have HBXV:=hid (HBX.out.later hb)
  have HT1V:=hid (there_below HT1.out (by omega) hb)
  have HT2V:=hid (there_below HT2.out (by omega) hb)
  have HBV:=hid (HB.out.trans (hb.mono HB.out.size))
  have HPV:=hid (HP.out.later hb)
  have hsv:=hb.size
  clear hb x0 x1 x2 CI HBX HT1 HT2 HW HB HP
  obtain ⟨x0,x1,x2,f0,f1,f2⟩:=three HBXV.out HT1V.out
  cases hx:nextB b s.data.toList l
  · have HX:=hid hx
    clear hx x0 x1 x2 f0 f1 f2
    go_wp2_with fail
    go_loopw [6] (fun v wr=>∃ m acc q p b',GRel w wr A n cap L l s.data.toList b N m v acc q p b') (fun v _=>200000-lenOf v)
    case atStart =>
      refine ⟨N,[],l,p,b,⟨HP0.out,HBXV.out,HT1V.out,HT2V.out,Built.nil _ _ _ _ _,HBV.out,by omega,HF.out,Nat.le_refl _,by have:=HLL.out;simp;omega,?_⟩⟩
      cases b
      · have hi:isT s.data.toList l=false:=by simpa [nextB] using HX.out
        show argsF N s.data.toList l=_
        rw [argsF_eq,hi,if_neg (by decide),if_neg (by decide),manyX,bind_bind]
        rfl
      rfl
    obtain ⟨m,acc,q,p,b',hr⟩:=hrel
    have HR:=hid hr
    obtain ⟨B,kc,hv,-⟩:=hr.row.row (by omega) (by have:=hr.few;omega)
    subst hv
    have hfew:=hr.few
    obtain ⟨x0,x1,x2,f0,f1,f2⟩:=three hr.box hr.own1
    have zp:(p:Int)≤100000:=by have:=hr.pl.lt;have:=hr.pl.len;omega
    have zp0:(0:Int)≤p:=by omega
    have hbig:=hr.big
    clear hr
    cases b'
    · obtain ⟨k,rfl⟩:∃ k,m=k+1:=⟨m-1,by have:=HR.out.fuel rfl;omega⟩
      obtain ⟨V2,hV2⟩:∃ V,wr.alloc (.cells #[.int .i64 0,.string ⟨#[]⟩,.string ⟨#[]⟩,.slice none 0 0,.int .i64 0,.slice none 0 0,.slice none 0 0,.int .i64 0] 34)=V:=⟨_,rfl⟩
      have hb2:Below wr.heap.size wr V2:=hV2▸(Below.refl _ _).alloc (Nat.le_refl _) _
      have hs2:V2.heap.size=wr.heap.size+1:=by rw [←hV2];simp
      have BX2:=hid (HR.out.box.later hb2)
      have O12:=hid (there_below HR.out.own1 (by omega) hb2)
      have O22:=hid (there_below HR.out.own2 (by omega) hb2)
      have HB12:=hid hb2
      have HS2:=hid hs2
      have BL2:=hid (HR.out.bel.trans (hb2.mono (by omega)))
      obtain ⟨g,hgg⟩:∃ g,g=wr.heap.size:=⟨_,rfl⟩
      have OG2:=hid (show V2.there g 0 8 from hgg▸hV2▸there_new wr #[.int .i64 0,.string ⟨#[]⟩,.string ⟨#[]⟩,.slice none 0 0,.int .i64 0,.slice none 0 0,.slice none 0 0,.int .i64 0] 34)
      have HGG:=hid hgg
      have HV2:=hid hV2
      have hgb:w.heap.size+2≤g:=by omega
      have hgs:g<V2.heap.size:=by omega
      have C7:=hid (IH.out (k+1) HR.out.less A n cap p L q V2 (HR.out.pl.later BL2.out) (HR.out.fuel rfl))
      clear hV2 hb2 hgg hs2
      go_upto_region 6 with fail
      rw [show wr.alloc (.cells #[.int .i64 0,.string ⟨#[]⟩,.string ⟨#[]⟩,.slice none 0 0,.int .i64 0,.slice none 0 0,.slice none 0 0,.int .i64 0] 34)=V2 from HV2.out,←HGG.out]
      clear x0 x1 x2 f0 f1 f2
      obtain ⟨x0,x1,x2,-⟩:=three BX2.out O12.out
      go_wp2_with fail
      refine C7.out.mono ?_
      rintro e w3 ⟨t,us,p',b',rfl,hd,hra,hb3⟩
      obtain ⟨a1,a2,a3,a4,a5,a6,a7,a8,a9,rfl,-⟩:=ex_open hd
      obtain ⟨W4,hW4⟩:∃ W,w3.setCells w.heap.size 0 [.slice A n cap,.int .i64 p',.bool b']=W:=⟨_,rfl⟩
      obtain ⟨W5,hW5⟩:∃ W,W4.setCells g 0 [.int .i64 t.kind,.string t.name,.string t.ty.name,.slice a1 a2 a3,.int .i64 t.ty.off,.slice a4 a5 a6,.slice a7 a8 a9,.int .i64 t.off]=W:=⟨_,rfl⟩
      have g4:w3.grownBy W4 (some w.heap.size):=hW4▸gb_sets1 _ _ _ _
      have g5:W4.grownBy W5 (some g):=hW5▸gb_sets1 _ _ _ _
      have hs3:=hb3.size
      have hs4:=g4.size
      have hs5:=g5.size
      have a13:=there_below O12.out (by omega) hb3
      have a23:=there_below O22.out (by omega) hb3
      have ag3:=there_below OG2.out hgs hb3
      have BX5:=hid (show Boxd W5 w.heap.size [.slice A n cap,.int .i64 p',.bool b'] from boxd_gb g5 (by omega) (hW4▸set_there (us:=[.slice A n cap,.int .i64 p',.bool b']) a13))
      have O15:=hid (there_gb (hW4▸World.there_setCells a13 w.heap.size 0 [.slice A n cap,.int .i64 p',.bool b']) (by omega) (by omega) g5)
      have O25:=hid (there_gb (there_gb a23 (by omega) (by omega) g4) (by omega) (by omega:w.heap.size+1≠g) g5)
      have ag4:=there_gb ag3 (by omega) (by omega:g≠w.heap.size) g4
      have BG5:=hid (show Boxd W5 g [.int .i64 t.kind,.string t.name,.string t.ty.name,.slice a1 a2 a3,.int .i64 t.ty.off,.slice a4 a5 a6,.slice a7 a8 a9,.int .i64 t.off] from hW5▸set_there (us:=[.int .i64 t.kind,.string t.name,.string t.ty.name,.slice a1 a2 a3,.int .i64 t.ty.off,.slice a4 a5 a6,.slice a7 a8 a9,.int .i64 t.off]) ag4)
      have BL5:=hid (show Below w.heap.size w W5 from hW5▸(hW4▸(BL2.out.trans (hb3.mono (by omega))).trans (below_sets (Nat.le_refl _) _ _ _)).trans (below_sets (by omega) _ _ _))
      have HD5:=hid (show t.dat.In W5 False (Fr V2.heap.size W5) [.int .i64 t.kind,.string t.name,.string t.ty.name,.slice a1 a2 a3,.int .i64 t.ty.off,.slice a4 a5 a6,.slice a7 a8 a9,.int .i64 t.off] from in_gb g5 (by omega) (in_gb g4 (by omega) hd))
      have HRA:=hid hra
      have HW5:=hid hW5
      have HW4:=hid hW4
      have HT3:=hid (And.intro a13 ag3)
      have hbx3:=BX2.out.later hb3
      obtain ⟨cs,S,hown,hrows,hzs,hS,hol⟩:=built_far (V':=W5) HR.out.row (fun i h1 h2=>by
        have e1:V2.heap[i]?=wr.heap[i]?:=HB12.out.block i h2
        have e2:w3.heap[i]?=V2.heap[i]?:=hb3.block i (by have:=HS2.out;omega)
        have e3:W4.heap[i]?=w3.heap[i]?:=g4.block i (by have:=HS2.out;omega) (by simpa using (by omega:i≠w.heap.size))
        have e4:W5.heap[i]?=W4.heap[i]?:=g5.block i (by have:=HS2.out;omega) (by simpa using (by have:=HGG.out;omega:i≠g))
        rw [e4,e3,e2,e1])
      have hsV:V2.heap.size=wr.heap.size+1:=HS2.out
      have HOW:=hid hown
      have HSTP:=hid (fun (gg cp:Nat) (w6:World) h1 h2 h3=>built_more (w5:=w6) (gg:=gg) (cap:=cp) (T:=34) hown hrows hzs (fun b hb=>⟨(hS b hb).1,by have:=(hS b hb).2.1;omega,(hS b hb).2.2⟩) HD5.out (by omega) (fun g' hg'=>by have:=(hol g' hg').2;omega) (Ex.dat_size t) h1 h2 h3)
      have hol2:=fun g' hg'=>(hol g' hg').1
      have hW5s:w.heap.size+2≤W5.heap.size:=by omega
      have HOL:=hid hol2
      clear hd hra hb3 hW4 hW5 g4 g5 hs3 hs4 a13 a23 ag3 ag4 hrows hzs hS hown hol hol2 C7
      obtain ⟨t0',t1',t2',h0',h1',h2'⟩:=three hbx3 HT3.out.1
      clear hbx3 x0 x1 x2
      go_upto_region 7 with (refine storeOp flatEx 7 22 (b:=g) (o:=0) (us:=[.int .i64 t.kind,.string t.name,.string t.ty.name,.slice a1 a2 a3,.int .i64 t.ty.off,.slice a4 a5 a6,.slice a7 a8 a9,.int .i64 t.off]) rfl rfl (World.there_setCells HT3.out.2 w.heap.size 0 [.slice A n cap,.int .i64 p',.bool b']) (ex8_one rfl rfl rfl rfl rfl rfl rfl rfl) rfl ?_)
      rw [show (((w3.setCell ⟨w.heap.size,0,none⟩ (.slice A n cap)).setCell ⟨w.heap.size,1,none⟩ (.int .i64 p')).setCell ⟨w.heap.size,2,none⟩ (.bool b')).setCells g 0 [.int .i64 t.kind,.string t.name,.string t.ty.name,.slice a1 a2 a3,.int .i64 t.ty.off,.slice a4 a5 a6,.slice a7 a8 a9,.int .i64 t.off]=W5 from by rw [←HW5.out,←HW4.out];rfl]
      clear t0' t1' t2' h0' h1' h2'
      have hb5:w.heap.size+2≤(W5.alloc (.cells #[.int .i64 t.kind,.string t.name,.string t.ty.name,.slice a1 a2 a3,.int .i64 t.ty.off,.slice a4 a5 a6,.slice a7 a8 a9,.int .i64 t.off] 34)).heap.size:=by simp;omega
      have hlc:acc.length+1≤100002:=by omega
      go_upto_region 8 with (first | (refine loadOp flatEx 7 24 rfl (boxd_at0 BG5.out) rfl ?_) | (at_builtin;refine wpList_append_lies _ rfl _ _ 32 rfl (w.heap.size+2) 34 i0 _ 8 128 Tryz.underlying32 hi0 hz0 hz1 hz2 rfl (by omega) _ acc.length cs rfl (HOW.out.alloc _) ⟨W5.heap.size,0,none⟩ 1 1 [.int .i64 t.kind,.string t.name,.string t.ty.name,.slice a1 a2 a3,.int .i64 t.ty.off,.slice a4 a5 a6,.slice a7 a8 a9,.int .i64 t.off] rfl rfl (World.news_of_block (cs:=#[.int .i64 t.kind,.string t.name,.string t.ty.name,.slice a1 a2 a3,.int .i64 t.ty.off,.slice a4 a5 a6,.slice a7 a8 a9,.int .i64 t.off]) (t:=34) (fr:=(0,0)) (heap_alloc_new _ _)) (by simp [Value.oneCell']) (by omega) (by unfold maxLen;omega) (by omega) hb5 _ rfl ?_;intro gg cp w6 hown6 hgrow6 hat6 hlt6;have HO6:=hid (And.intro hown6 (And.intro hgrow6 hat6));clear hown6 hgrow6 hat6 hlt6))
      have hb6:Below (w.heap.size+2) W5 w6:=(((Below.refl W5.heap.size W5).alloc (Nat.le_refl _) _).mono (by omega)).trans (below_grown hb5 HO6.out.2.1 HOL.out)
      have BX6:=hid (BX5.out.laterB hb6 (by omega))
      have O16:=hid (there_lt O15.out hb6 (by omega))
      have O26:=hid (there_lt O25.out hb6 (by omega))
      have BL6:=hid (BL5.out.trans (hb6.mono (by omega)))
      have RW6:=hid (show Built w6 False 34 8 (w.heap.size+2) (.slice (some ⟨gg,0,none⟩) (acc.length+1) cp) (acc++[t]).length (Ex.dats (acc++[t])) from by
        have:=HSTP.out gg cp w6 HO6.out.1 HO6.out.2.1 (HO6.out.2.2.imp id fun h=>by simpa using h)
        rw [datx_snoc,List.length_append]
        exact this)
      have hs6:w.heap.size+2≤w6.heap.size:=by have:=hb6.size;omega
      obtain ⟨q',hp',hql,hqs,heq⟩:=raft_next (exF_less (k+1) q) HRA.out (fun u q=>Got.bind (moreX (k+1) (acc++[u]) q) fun xs q=>Got.bind (must s.data.toList q) fun _ q=>.ok xs q)
      have HQ:=hid (HP0.out.move hp' (Below.refl _ _))
      have HEQ:=hid (HR.out.eq.trans heq)
      have HQS:=hid hqs
      obtain ⟨x0,x1,x2,-⟩:=three BX6.out O16.out
      have C9:=hid (show Calls Tryz.prog 16 #[.agg #[.slice A n cap,.int .i64 p',.bool b'],.string ⟨#[44]⟩] w6 (BoolPost (nextB b' [44] q') w6) from ris_any A n cap p' L q' b' ⟨#[44]⟩ w6 (HQ.out.later BL6.out))
      have hlq:(acc++[t]).length=acc.length+1:=by simp
      clear hb6 hp' heq hqs HO6 HSTP HOW HD5 BG5 BX5 O15 O25 BL5
      go_wp2_with fail
      refine C9.out.mono ?_
      rintro e w7 ⟨rfl,hb⟩
      have BX7:=hid (BX6.out.later hb)
      have O17:=hid (there_below O16.out (by omega) hb)
      have O27:=hid (there_below O26.out (by omega) hb)
      have BL7:=hid (BL6.out.trans (hb.mono (by omega)))
      have RW7:=hid (RW6.out.later hb)
      have hs7:w.heap.size+2≤w7.heap.size:=Nat.le_trans hs6 hb.size
      clear hb C9 x0 x1 x2
      cases hx:nextB b' [44] q'
      · have HX:=hid hx
        obtain ⟨x0,x1,x2,-⟩:=three BX7.out O17.out
        have CM:=hid (rmust_any A n cap p' L q' b' s w7 (HQ.out.later BL7.out))
        clear hx
        go_wp2_with fail
        refine CM.out.mono ?_
        rintro e w8 ⟨p8,b8,rfl,hra8,hb⟩
        have O28:=hid (there_below O27.out (by omega) hb)
        have BL8:=hid (BL7.out.trans (hb.mono (by omega)))
        have RW8:=hid (RW7.out.later hb)
        have HRA8:=hid hra8
        obtain ⟨v0,v1,v2,hzz⟩:=three_any O28.out
        obtain ⟨z0,z1,z2,j0,j1,j2⟩:=three hzz O28.out
        clear hzz hra8 hb CM x0 x1 x2
        go_wp2_with fail
        refine bodyPost_ret (results_rargs _ rfl rfl (show Boxd _ _ [.slice A n cap,.int .i64 p8,.bool b8] from set_there (us:=[.slice A n cap,.int .i64 p8,.bool b8]) O28.out) rfl) rfl ?_
        have hfin:=BL8.out.trans (below_sets (show w.heap.size≤w.heap.size+1 by omega) [.slice A n cap,.int .i64 p8,.bool b8] 0 w8)
        obtain ⟨A9,c9,e9,hrow9,hcp9⟩:=RW8.out.row (by omega) (by simp;omega)
        simp only [Value.slice.injEq] at e9
        obtain ⟨rfl,-,rfl⟩:=e9
        have hrow:Row (w8.setCells (w.heap.size+1) 0 [.slice A n cap,.int .i64 p8,.bool b8]) False (Fr (w.heap.size+2) (w8.setCells (w.heap.size+1) 0 [.slice A n cap,.int .i64 p8,.bool b8])) 8 (some ⟨gg,0,none⟩) (acc++[t]).length (Ex.dats (acc++[t])):=row_gb (gb_sets1 w8 (w.heap.size+1) 0 _) (by omega) hrow9
        refine ⟨acc++[t],some ⟨gg,0,none⟩,cp,p8,b8,by rw [hlq];rfl,hrow.wide fun i hi=>⟨by have:=hi.1;omega,hi.2⟩,hcp9,by rw [hlq];exact hlc,?_,hfin⟩
        have hra:=RAft.move HP0.out HRA8.out hfin
        rw [HEQ.out]
        cases b'
        · have hi:isT [44] q'=false:=by simpa [nextB] using HX.out
          rw [if_neg (by decide),moreX_succ,hi]
          exact raft_ret hra (fun _=>acc++[t]) rfl
        exact ⟨hra.1,hra.2⟩
      have HX:=hid hx
      obtain ⟨rfl,hi⟩:=nextB_cons hx
      have HI:=hid hi
      obtain ⟨t1,r1,rfl,hk1,-⟩:=isT_cons hi
      have HPS:=hid (HQ.out.step hk1)
      obtain ⟨x0,x1,x2,f0,f1,f2⟩:=three BX7.out O17.out
      have yp:(p':Int)≤100000:=by have:=HQ.out.lt;have:=HQ.out.len;omega
      have yp0:(0:Int)≤p':=by omega
      clear hx hi hk1
      go_wp2_with fail
      go_roundw
      case rel =>
        have hg:=gb_set w7 w.heap.size 1 (.int .i64 ((p':Int)+1))
        refine ⟨k,acc++[t],r1,p'+1,false,⟨HPS.out,(boxd_put BX7.out).2,World.there_setCells O17.out w.heap.size 1 [.int .i64 ((p':Int)+1)],there_gb O27.out (by omega) (by omega) hg,built_gb hg (by omega) RW7.out,BL7.out.setCell (Nat.le_refl _) _,Nat.le_trans hs7 hg.size,fun _=>?_,by have:=HR.out.less;omega,?_,?_⟩⟩
        · have h1:=HQS.out (by first | rfl | trivial)
          have h2:=HR.out.fuel rfl
          simp only [List.length_cons] at h1
          omega
        · have h2:=HR.out.few
          simp only [List.length_cons] at hql
          rw [hlq]
          omega
        rw [HEQ.out,if_neg (by decide),if_neg (by decide),moreX_succ,HI.out,if_pos rfl,bind_bind]
        rfl
      case measure=>simp [lenOf];omega
    have HT2:=hid HR.out.own2
    obtain ⟨v0,v1,v2,hz2'⟩:=three_any HR.out.own2
    obtain ⟨z0,z1,z2,q0,q1,q2⟩:=three hz2' HR.out.own2
    clear hz2'
    go_wp2_with fail
    refine bodyPost_ret (results_rargs _ rfl rfl (show Boxd _ _ [.slice A n cap,.int .i64 p,.bool true] from set_there (us:=[.slice A n cap,.int .i64 p,.bool true]) HT2.out) rfl) rfl ?_
    have hfin:=HR.out.bel.trans (below_sets (show w.heap.size≤w.heap.size+1 by omega) [.slice A n cap,.int .i64 p,.bool true] 0 wr)
    refine ⟨[],none,0,p,true,rfl,Row.nil _ _ _ _ _,Nat.le_refl _,by simp,?_,hfin⟩
    rw [HR.out.eq]
    exact ⟨rfl,HR.out.pl.later hfin⟩
  have HX:=hid hx
  have CM:=hid (rmust_any A n cap p L l b s V HPV.out)
  clear hx
  go_wp2_with fail
  refine CM.out.mono ?_
  rintro e w8 ⟨p8,b8,rfl,hra8,hb⟩
  have O28:=hid (there_below HT2V.out (by omega) hb)
  have BL8:=hid (HBV.out.trans (hb.mono (by omega)))
  have HRA8:=hid hra8
  obtain ⟨v0,v1,v2,hzz⟩:=three_any O28.out
  obtain ⟨z0,z1,z2,j0,j1,j2⟩:=three hzz O28.out
  clear hzz hra8 hb CM x0 x1 x2 f0 f1 f2
  go_wp2_with fail
  refine bodyPost_ret (results_rargs _ rfl rfl (show Boxd _ _ [.slice A n cap,.int .i64 p8,.bool b8] from set_there (us:=[.slice A n cap,.int .i64 p8,.bool b8]) O28.out) rfl) rfl ?_
  have hfin:=BL8.out.trans (below_sets (show w.heap.size≤w.heap.size+1 by omega) [.slice A n cap,.int .i64 p8,.bool b8] 0 w8)
  refine ⟨[],none,0,p8,b8,rfl,Row.nil _ _ _ _ _,Nat.le_refl _,by simp,?_,hfin⟩
  have hra:=RAft.move HP0.out HRA8.out hfin
  obtain ⟨rfl,hi⟩:=nextB_cons HX.out
  have e:stop false l (argsF N s.data.toList l)=Got.bind (stop false l (must s.data.toList l)) fun _ q=>.ok ([]:List Ex) q:=by
    show argsF N s.data.toList l=Got.bind (must s.data.toList l) fun _ q=>.ok ([]:List Ex) q
    rw [argsF_eq,hi,must,hi]
    rfl
  rw [e]
  exact raft_ret hra (fun _=>[]) rfl
