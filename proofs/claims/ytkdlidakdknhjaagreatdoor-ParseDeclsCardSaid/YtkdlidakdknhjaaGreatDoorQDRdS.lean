/- The walks of read.list at expressions, and of the methods args, first, rest and Expr of read.Cursor: they read what the plain words say. The condition: the cursor stands in tokens of a text.
The walks of the methods first, rest and Expr of read.Cursor: they read what the plain words say. The condition: the cursor stands in tokens of a text.
The walks of the methods rest and Expr of read.Cursor: they read what the plain words say. The condition: the cursor stands in tokens of a text.
The walk of the method Expr of read.Cursor: it reads what the plain words say. The condition: the cursor stands in tokens of a text. -/
import Derived.Test.YtkdlidakdknhjaaGreatDoorQDRdT
import Derived.Deep.RegionHeld3
set_option maxRecDepth 100000
set_option maxHeartbeats 8000000
open Go.Lib (hid)
namespace Go.Proofs.YtkdlidakdknhjaaGreatDoor.Rd
open Go.RowKit
def ExRet (c:Nat) (l:List Tk) (b:Bool) (w:World) (g:Got Ex) (e:Ending) (w':World):Prop:=∃ (t:Ex) (us:List Value),e=.returned (.agg us.toArray)∧t.dat.In w' False (Fr w.heap.size w') us∧Aft w' c t (stop b l g)∧w.grownBy w' (some c)
def ExsRet (c:Nat) (l:List Tk) (b:Bool) (w:World) (g:Got (List Ex)) (e:Ending) (w':World):Prop:=∃ (ts:List Ex) (A:Option Addr) (cap:Nat),e=.returned (.slice A ts.length cap)∧Row w' False (Fr w.heap.size w') 8 A ts.length (Ex.dats ts)∧ts.length≤cap∧ts.length≤100001∧Aft w' c ts (stop b l g)∧w.grownBy w' (some c)
def ExAt (n:Nat):Prop:=∀ (c:Nat) (l:List Tk) (b:Bool) (w:World),Cur w c l b→(b=false→2*l.length+2≤n)→Calls Tryz.prog 85 #[.pointer (some ⟨c,0,none⟩)] w (ExRet c l b w (exF n l))
structure ListRelX (w wr:World) (c:Nat) (v:Value) (l:List Tk) (b:Bool) (n:Nat) (m:Nat) (acc:List Ex) (q:List Tk) (d:Bool):Prop where
  cur:Cur wr c q d
  row:Built wr False 34 8 w.heap.size v acc.length (Ex.dats acc)
  gb:w.grownBy wr (some c)
  fuel:d=false→2*q.length+1≤m
  less:m≤n
  few:acc.length+q.length≤100001
  eq:stop b l (manyX n l)=if d then .bad q else moreX m acc q
theorem datx_snoc (xs:List Ex) (x:Ex):Ex.dats (xs++[x])=Ex.dats xs++[x.dat]:=by rw [Ex.dats_map,Ex.dats_map,List.map_append];rfl
theorem infoExR:(Tryz.prog.info? 34).map (fun i=>(i.zero,i.size,i.bytes))=some (some (.agg #[.int .i64 0,.string ⟨#[]⟩,.string ⟨#[]⟩,.slice none 0 0,.int .i64 0,.slice none 0 0,.slice none 0 0,.int .i64 0]),8,128):=by kernel_rfl
theorem aft_next2 {α β:Type} {w:World} {c:Nat} {t:α} {b:Bool} {r:List Tk} {g:Got α} (he:Got.Less r g) (h:Aft w c t (stop b r g)) (f:α→List Tk→Got β) :
    ∃ q d,Cur w c q d∧q.length≤r.length∧(d=false→b=false∧q.length<r.length)∧stop b r (Got.bind g f)=if d then .bad q else f t q:=by
  cases b
  · cases g with
    | ok u q=>obtain ⟨rfl,h2⟩:=h;exact ⟨q,false,h2,Nat.le_of_lt he.2,fun _=>⟨rfl,he.2⟩,rfl⟩
    | bad q=>exact ⟨q,true,h,he.length_le,fun h=>(by cases h),rfl⟩
  exact ⟨r,true,h,Nat.le_refl _,fun h=>(by cases h),rfl⟩
theorem aft_next3 {α β:Type} {w:World} {c:Nat} {t:α} {b:Bool} {r:List Tk} {g:Got α} (he:Got.Ends r g) (h:Aft w c t (stop b r g)) (f:α→List Tk→Got β) :
    ∃ q d,Cur w c q d∧q.length≤r.length∧(d=false→b=false)∧stop b r (Got.bind g f)=if d then .bad q else f t q:=by
  cases b
  · cases g with
    | ok u q=>obtain ⟨rfl,h2⟩:=h;exact ⟨q,false,h2,he.length_le,fun _=>rfl,rfl⟩
    | bad q=>exact ⟨q,true,h,he.length_le,fun _=>rfl,rfl⟩
  exact ⟨r,true,h,Nat.le_refl _,fun h=>(by cases h),rfl⟩
theorem listEx_any (n:Nat) (ih:∀ m,m≤n→ExAt m) (c:Nat) (l:List Tk) (b:Bool) (w:World) (h:Cur w c l b) (hf:b=false→2*l.length+2≤n) :
    Calls Tryz.prog 150 #[.pointer (some ⟨c,0,none⟩),.func (.func 85) #[.pointer (some ⟨c,0,none⟩)] #[]] w (ExsRet c l b w (manyX n l)):=by
  have H:=hid h
  have HF:=hid hf
  have C0:=hid (ih n (Nat.le_refl _) c l b w h hf)
  have IH:=hid ih
  have hcl:=h.lt
  clear h hf ih
  obtain ⟨i0,hi0,hz0,hz1,hz2⟩:=info_parts infoExR
  go_enter Tryz.func150,Tryz.ntmps150
  go_wp2_with fail
  refine C0.out.mono ?_
  rintro e w1 ⟨t,us,rfl,hd,ha,hg⟩
  obtain ⟨x1,x2,x3,x4,x5,x6,x7,x8,x9,rfl,_⟩:=ex_open hd
  have HB:=hid (built_one (T:=34) hd hg.size (Ex.dat_size t))
  have hs1:=hg.size
  have HA:=hid (ha.later ((Below.refl _ _).alloc (Nat.le_refl _) (.cells #[.int .i64 t.kind,.string t.name,.string t.ty.name,.slice x1 x2 x3,.int .i64 t.ty.off,.slice x4 x5 x6,.slice x7 x8 x9,.int .i64 t.off] 34)))
  have HG:=hid (gb_trans hg (gb_of (some c) ((Below.refl _ _).alloc (Nat.le_refl _) (.cells #[.int .i64 t.kind,.string t.name,.string t.ty.name,.slice x1 x2 x3,.int .i64 t.ty.off,.slice x4 x5 x6,.slice x7 x8 x9,.int .i64 t.off] 34))))
  have HST:=hid (show ∃ q d,Cur (w1.alloc (.cells #[.int .i64 t.kind,.string t.name,.string t.ty.name,.slice x1 x2 x3,.int .i64 t.ty.off,.slice x4 x5 x6,.slice x7 x8 x9,.int .i64 t.off] 34)) c q d∧q.length≤l.length∧(d=false→b=false)∧stop b l (manyX n l)=(if d then .bad q else moreX n [t] q) by
    unfold manyX
    obtain ⟨q,d,h1,h2,h3,h4⟩:=aft_next2 (exF_less n l) HA.out (fun u q=>moreX n [u] q)
    exact ⟨q,d,h1,h2,fun h=>(h3 h).1,h4⟩)
  clear hd ha hg C0
  go_wp2_with fail
  generalize hWW:w1.alloc (.cells #[.int .i64 t.kind,.string t.name,.string t.ty.name,.slice x1 x2 x3,.int .i64 t.ty.off,.slice x4 x5 x6,.slice x7 x8 x9,.int .i64 t.off] 34)=W at *
  have hWs:W.heap.size=w1.heap.size+1:=by rw [←hWW];simp
  have HWS:=hid hWs
  clear hWW hWs
  go_loopw [5] (fun v wr=>∃ m acc q d,ListRelX w wr c v l b n m acc q d∧1≤acc.length) (fun v _=>200000-lenOf v)
  case atStart =>
    obtain ⟨q,d,h1,h2,h4,h3⟩:=HST.out
    refine ⟨n,[t],q,d,⟨h1,?_,HG.out,fun hd0=>by have:=HF.out (h4 hd0);omega,Nat.le_refl _,by have:=H.out.len;simp;omega,h3⟩,Nat.le_refl _⟩
    have:=HB.out
    rw [Ex.dats_map]
    exact this
  obtain ⟨m,acc,q,d,hr,ha1⟩:=hrel
  have HR:=hid hr
  obtain ⟨A,cap,hv,-⟩:=hr.row.row (by omega) (by have:=hr.few;omega)
  subst hv
  have hfew:=hr.few
  have hsw:=hr.gb.size
  have HA1:=hid ha1
  have CT:=hid (show Calls Tryz.prog 92 #[.pointer (some ⟨c,0,none⟩),.string ⟨#[44]⟩] wr (TakePost c q d [44] wr) from take_any c q d ⟨#[44]⟩ wr hr.cur)
  clear hr ha1
  cases hx:nextB d [44] q
  · have HX:=hid hx
    clear hx
    go_wp2_with fail
    refine CT.out.mono ?_
    rintro e w2 ⟨rfl,hc,hg⟩
    rw [HX.out]
    rw [takeL,HX.out] at hc
    have HC:=hid hc
    have HG2:=hid hg
    clear hc hg
    go_wp2_with fail
    go_ret
    obtain ⟨A2,cap2,e2,hrow,hcp⟩:=(built_gb HG2.out hcl HR.out.row).row (by omega) (by omega)
    injection e2 with e2 e3 e4
    subst e2 e4
    refine ⟨acc,A,cap,rfl,hrow,hcp,by omega,?_,gb_trans HR.out.gb HG2.out⟩
    rw [HR.out.eq]
    cases d
    · obtain ⟨k,rfl⟩:∃ k,m=k+1:=⟨m-1,by have:=HR.out.fuel rfl;omega⟩
      have hi:isT [44] q=false:=by simpa [nextB] using HX.out
      rw [if_neg (by decide),moreX_succ,hi]
      exact ⟨rfl,HC.out⟩
    exact HC.out
  have HX:=hid hx
  obtain ⟨rfl,hi⟩:=nextB_cons hx
  obtain ⟨t0,r,rfl,-,-⟩:=isT_cons hi
  obtain ⟨k,rfl⟩:∃ k,m=k+1:=⟨m-1,by have:=HR.out.fuel rfl;omega⟩
  have HI:=hid hi
  clear hx hi
  go_wp2_with fail
  refine CT.out.mono ?_
  rintro e w2 ⟨rfl,hc,hg⟩
  rw [HX.out]
  rw [takeL,HX.out] at hc
  have HC:=hid (show Cur w2 c r false from hc)
  have C3:=hid (IH.out k (by have:=HR.out.less;omega) c r false w2 HC.out (fun _=>by have:=HR.out.fuel rfl;simp only [List.length_cons] at this;omega))
  have HB2:=hid (built_gb hg hcl HR.out.row)
  have HG2:=hid (gb_trans HR.out.gb hg)
  clear hc hg CT
  go_wp2_with fail
  refine C3.out.mono ?_
  rintro e w3 ⟨t,us,rfl,hd,ha,hg⟩
  obtain ⟨x1,x2,x3,x4,x5,x6,x7,x8,x9,rfl,_⟩:=ex_open hd
  have hs2:=hg.size
  have HS2:=hid HG2.out.size
  obtain ⟨cs,S,hown,hrows,hzs,hS⟩:=built_gb hg hcl HB2.out
  have HOW:=hid hown
  have HD:=hid hd
  have hol:=fun g (hgg:(Value.slice A acc.length cap).ownBlock=some g)=>(HB2.out.elim fun cs2 h2=>h2.elim fun S2 h3=>(h3.1.lt g hgg).2)
  have HSTP:=hid (fun (gg cp:Nat) (w5:World) h1 h2 h3=>built_more (w5:=w5) (gg:=gg) (cap:=cp) (T:=34) hown hrows hzs hS hd HS2.out hol (Ex.dat_size t) h1 h2 h3)
  have HA:=hid ha
  have HG3:=hid (gb_trans HG2.out hg)
  have hb3:w.heap.size≤(w3.alloc (.cells #[.int .i64 t.kind,.string t.name,.string t.ty.name,.slice x1 x2 x3,.int .i64 t.ty.off,.slice x4 x5 x6,.slice x7 x8 x9,.int .i64 t.off] 34)).heap.size:=by have:=HG3.out.size;simp;omega
  have hlc:acc.length+1≤100002:=by omega
  clear hd ha hg hrows hzs hS hown C3 hol
  go_wp2_with (at_builtin;refine wpList_append_lies _ rfl _ _ 32 rfl w.heap.size 34 i0 _ 8 128 Tryz.underlying32 hi0 hz0 hz1 hz2 rfl (by omega) _ acc.length cs rfl (HOW.out.alloc _) ⟨w3.heap.size,0,none⟩ 1 1 [.int .i64 t.kind,.string t.name,.string t.ty.name,.slice x1 x2 x3,.int .i64 t.ty.off,.slice x4 x5 x6,.slice x7 x8 x9,.int .i64 t.off] rfl rfl (World.news_of_block (cs:=#[.int .i64 t.kind,.string t.name,.string t.ty.name,.slice x1 x2 x3,.int .i64 t.ty.off,.slice x4 x5 x6,.slice x7 x8 x9,.int .i64 t.off]) (t:=34) (fr:=(0,0)) (heap_alloc_new _ _)) (by simp [Value.oneCell']) (by omega) (by unfold maxLen;omega) (by omega) hb3 _ rfl ?_;intro gg cp w5 hown5 hgrow5 hat5 hlt5;have HO5:=hid (And.intro hown5 (And.intro hgrow5 hat5));clear hown5 hgrow5 hat5 hlt5)
  go_roundw
  case rel =>
    obtain ⟨h1,h2,h3⟩:=HO5.out
    have hrw:∀ g,(Value.slice A acc.length cap).ownBlock=some g→w.heap.size≤g:=fun g hgg=>(HOW.out.lt g hgg).1
    have hup:Below (c+1) w3 w5:=(((Below.refl w3.heap.size w3).alloc (Nat.le_refl _) _).mono (by have:=HG3.out.size;omega)).trans ((below_grown hb3 h2 hrw).mono hcl)
    obtain ⟨q',d',g1,g2,-,g3⟩:=aft_next2 (exF_less k r) (HA.out.up hup) (fun u q=>moreX k (acc++[u]) q)
    refine ⟨k,acc++[t],q',d',⟨g1,?_,gb_grown HG3.out ((Below.refl w3.heap.size w3).alloc (Nat.le_refl _) _) h2 hrw,?_,by have:=HR.out.less;omega,?_,?_⟩,by simp⟩
    · have:=HSTP.out gg cp w5 h1 h2 (h3.imp id fun h=>by simpa using h)
      rw [datx_snoc,List.length_append]
      exact this
    · intro _;have:=HR.out.fuel rfl;simp only [List.length_cons] at this;omega
    · have:=HR.out.few;simp only [List.length_cons,List.length_append,List.length_nil] at this ⊢;omega
    rw [HR.out.eq,if_neg (by decide),moreX_succ,HI.out,if_pos rfl]
    exact g3
  case measure=>simp [lenOf];omega
theorem argsF_eq (n:Nat) (s:List UInt8) (l:List Tk):argsF n s l=if isT s l then .ok [] l.tail else Got.bind (manyX n l) fun xs q=>Got.bind (must s q) fun _ q=>.ok xs q:=rfl
theorem args_any (n:Nat) (ih:∀ m,m≤n→ExAt m) (s:ByteArray) (c:Nat) (l:List Tk) (b:Bool) (w:World) (h:Cur w c l b) (hf:b=false→2*l.length+2≤n) :
    Calls Tryz.prog 140 #[.pointer (some ⟨c,0,none⟩),.string s] w (ExsRet c l b w (argsF n s.data.toList l)):=by
  have H:=hid h
  have CT:=hid (take_any c l b s w h)
  clear h
  cases hx:nextB b s.data.toList l
  · have HX:=hid hx
    have HF:=hid hf
    have IH:=hid ih
    clear hx hf ih
    go_enter Tryz.func140,Tryz.ntmps140
    go_wp2_with fail
    refine CT.out.mono ?_
    rintro e w2 ⟨rfl,hc,hg⟩
    rw [HX.out]
    rw [takeL,HX.out] at hc
    have HC:=hid (show Cur w2 c l b from hc)
    have HG2:=hid hg
    have C3:=hid (listEx_any n IH.out c l b w2 HC.out HF.out)
    clear hc hg CT
    go_wp2_with fail
    refine C3.out.mono ?_
    rintro e w3 ⟨ts,A,cap,rfl,hrow,hcp,hle,ha,hg⟩
    have HLE:=hid hle
    have HCP:=hid hcp
    have HR:=hid hrow
    have HG3:=hid (gb_trans HG2.out hg)
    have hs2:=HG2.out.size
    obtain ⟨q,d,hcur,hql,-,heq⟩:=aft_next3 (manyX_ends n l) ha (fun ts q=>Got.bind (must s.data.toList q) fun _ q=>.ok ts q)
    have HEQ:=hid heq
    have C4:=hid (must_any c q d s w3 hcur)
    have HCL:=hid HC.out.lt
    clear hrow ha hg heq C3 hcur hcp hle
    go_wp2_with fail
    refine C4.out.mono ?_
    rintro e w4 ⟨rfl,ha,hg⟩
    have HA4:=hid ha
    have HR4:=hid (row_gb hg HCL.out HR.out)
    have HG4:=hid (gb_trans HG3.out hg)
    clear ha hg C4
    go_wp2_with fail
    go_ret
    refine ⟨ts,A,cap,rfl,HR4.out.wide fun k hk=>⟨Nat.le_trans hs2 hk.1,hk.2⟩,HCP.out,HLE.out,?_,HG4.out⟩
    rw [take_none HX.out _ (Got.bind (manyX n l) fun xs q=>Got.bind (must s.data.toList q) fun _ q=>.ok xs q) fun h=>by rw [argsF_eq,h];rfl]
    rw [HEQ.out,stop_if,stop_bind]
    exact aft_ret HA4.out (fun _=>ts) rfl
  have HX:=hid hx
  obtain ⟨rfl,hi⟩:=nextB_cons hx
  have HI:=hid hi
  clear hx hi hf ih
  go_enter Tryz.func140,Tryz.ntmps140
  go_wp2_with fail
  refine CT.out.mono ?_
  rintro e w2 ⟨rfl,hc,hg⟩
  rw [HX.out]
  rw [takeL,HX.out] at hc
  have HC:=hid (show Cur w2 c l.tail false from hc)
  have HG2:=hid hg
  clear hc hg
  go_wp2_with fail
  go_ret
  refine ⟨[],none,0,rfl,Row.nil _ _ _ _ _,Nat.le_refl _,Nat.zero_le _,?_,HG2.out⟩
  rw [argsF_eq,HI.out,if_pos rfl]
  exact ⟨rfl,HC.out⟩
open Go.RowKit
theorem ready_store {ty:TypeId} {z:Nat} (hf:Flat ty z) {ops:Array Oper} {o:Oper} {a:Act} {K:Act→World→Prop} {Q:Exit→Act→World→Prop} {E:Prop} (hgd:o.guard=none) (x y:Operand) (ho:o.op=.store ty x y) {w:World} {b off:Nat} {us:List Value}
    (hx:a.eval x=.pointer (some ⟨b,off,none⟩)) (hy:a.eval y=.agg us.toArray) (ht:w.there b off us.length) (h1:∀ u∈us,u.oneCell'=true) (hl:us.length=z) (h:K (a.put o.dst undef) (w.setCells b off us)):if Region.wanted o (yielded ops a.tmps)=true then Oper.wp Tryz.prog o a w K Q else E:=by
  have hw:Region.wanted o (yielded ops a.tmps)=true:=by simp [Region.wanted,hgd]
  rw [if_pos hw]
  exact wp_store_mid ty x y ho b off us.toArray hx hy (by simpa using ht) (by rw [List.size_toArray,hl];exact hf.size) (all_oneCell_toArray h1) (by simpa using h)
theorem exVar_in {w:World} {N:Prop} {S:Nat→Prop} {s:ByteArray} {o:Int} (h:s.size≤9223372036854775807):(exVar s o).dat.In w N S [.int .i64 1,.string s,.string ⟨#[]⟩,.slice none 0 0,.int .i64 0,.slice none 0 0,.slice none 0 0,.int .i64 o] :=
  ex_shut (e:=exVar s o) h (by show (0:Nat)≤_;omega) (lies_row.2 (Row.nil _ _ _ _ _)) (lies_row.2 (Row.nil _ _ _ _ _)) (Row.nil _ _ _ _ _) (Nat.le_refl _)
theorem exLit_in {w:World} {S:Nat→Prop} {t:Ty} {xs:List Ex} {B C:Option Addr} {m c n d:Nat} (h:t.dat.In w False S [.string t.name,.slice B m c,.int .i64 t.off]) (hx:Row w False S 8 C n (Ex.dats xs)) (hn:n≤d) :
    (exLit t xs).dat.In w False S [.int .i64 3,.string ⟨#[]⟩,.string t.name,.slice B m c,.int .i64 t.off,.slice none 0 0,.slice C n d,.int .i64 t.off]:=by
  obtain ⟨B2,m2,c2,e,h1,h2⟩:=ty_open h
  simp only [List.cons.injEq,Value.slice.injEq,and_true,true_and] at e
  obtain ⟨rfl,rfl,rfl⟩:=e
  exact ex_shut (e:=exLit t xs) (by show (0:Nat)≤_;omega) h1 h2 (lies_row.2 (Row.nil _ _ _ _ _)) hx hn
theorem in_sets {w:World} {g lo:Nat} {d:Dat} {us:List Value} (h:d.In w False (Fr lo w) us) (hg:g<lo) (o:Nat) (vs:List Value):d.In (w.setCells g o vs) False (Fr lo (w.setCells g o vs)) us:=in_gb (gb_sets1 w g o vs) hg h
theorem ex8_one {v0 v1 v2 v3 v4 v5 v6 v7:Value} (h0:v0.oneCell'=true) (h1:v1.oneCell'=true) (h2:v2.oneCell'=true) (h3:v3.oneCell'=true) (h4:v4.oneCell'=true) (h5:v5.oneCell'=true) (h6:v6.oneCell'=true) (h7:v7.oneCell'=true):∀ u∈[v0,v1,v2,v3,v4,v5,v6,v7],u.oneCell'=true:=by
  intro u hu
  simp only [List.mem_cons,List.not_mem_nil,or_false] at hu
  rcases hu with rfl | rfl | rfl | rfl | rfl | rfl | rfl | rfl<;>assumption
theorem results_first {w:World} {b:Nat} {us:List Value} (tmps:Array Value) (ht:tmps[2]?.getD undef=.pointer (some ⟨b,0,none⟩)) (hc:Boxd w b us) (hl:us.length=8):(results Tryz.f119 tmps).run Tryz.prog w=.ok (.agg us.toArray) w:=by
  have h:=run_cell flatEx hc hl
  have h2:=run_addr ⟨b,0,none⟩ w
  simp [results,Tryz.results119,ht,h,h2,Sem.run_bind,Result.andThen]
theorem type_any' (n c:Nat) (l:List Tk) (b:Bool) (w:World) (h:Cur w c l b) (hf:b=false→2*l.length+1≤n):Calls Tryz.prog 133 #[.pointer (some ⟨c,0,none⟩)] w (TyRet c l b w (tyF n l)):=by
  cases b
  · exact type_any n c l false w h (hf rfl)
  exact (type_any _ c l true w h (Nat.le_refl _)).mono fun e w' h=>h
theorem targs_any' (n c:Nat) (l:List Tk) (b:Bool) (w:World) (h:Cur w c l b) (hf:b=false→2*l.length≤n+1):Calls Tryz.prog 141 #[.pointer (some ⟨c,0,none⟩)] w (TysRet c l b w (targsF n l)):=by
  cases b
  · exact targs_all n c l false w h (hf rfl)
  exact (targs_all (2*l.length) c l true w h (by omega)).mono fun e w' h=>h
theorem firstF_eq (n:Nat) (l:List Tk):firstF n l=Got.bind (tyF n l) fun t q=>if t.args.isEmpty&&!isT [123] q then .ok (exVar t.name t.off) q else Got.bind (must [123] q) fun _ q=>Got.bind (argsF n [125] q) fun xs q=>.ok (exLit t xs) q:=rfl
theorem nextB_false {s:List UInt8} {l:List Tk}:nextB false s l=isT s l:=by unfold nextB;rfl
theorem args_len {t:Ty} {m:Nat} (h:t.args.length=m):t.args.isEmpty=(m==0):=by
  subst h
  cases t.args<;>rfl
theorem first_any (n:Nat) (ih:∀ m,m≤n→ExAt m) (c:Nat) (l:List Tk) (b:Bool) (w:World) (h:Cur w c l b) (hf:b=false→2*l.length+1≤n) :
    Calls Tryz.prog 119 #[.pointer (some ⟨c,0,none⟩)] w (ExRet c l b w (firstF n l)):=by
  have hlt:=h.lt
  obtain ⟨W0,hW0⟩:∃ W,w.alloc (.cells #[.int .i64 0,.string ⟨#[]⟩,.string ⟨#[]⟩,.slice none 0 0,.int .i64 0,.slice none 0 0,.slice none 0 0,.int .i64 0] 34)=W:=⟨_,rfl⟩
  have hb0:Below w.heap.size w W0:=hW0▸(Below.refl _ _).alloc (Nat.le_refl _) _
  have HS0:=hid (show W0.heap.size=w.heap.size+1 by rw [←hW0];simp)
  have HW0:=hid hW0
  have HB0:=hid hb0
  have HT0:=hid (show W0.there w.heap.size 0 8 from hW0▸there_new w #[.int .i64 0,.string ⟨#[]⟩,.string ⟨#[]⟩,.slice none 0 0,.int .i64 0,.slice none 0 0,.slice none 0 0,.int .i64 0] 34)
  have HF:=hid hf
  have IH:=hid ih
  have C1:=hid (type_any' n c l b W0 (h.later hb0) hf)
  clear h hW0 hb0 hf ih
  go_enter Tryz.func119,Tryz.ntmps119
  go_wp2_with fail
  rw [HW0.out]
  refine C1.out.mono ?_
  rintro e w1 ⟨t,us,rfl,hd,ha,hg⟩
  obtain ⟨B,m,c1,rfl,hsz,hli⟩:=ty_open hd
  obtain ⟨q,d,hcur,hql,hdd,heq⟩:=aft_next2 (tyF_less n l) ha (fun t q=>if t.args.isEmpty&&!isT [123] q then .ok (exVar t.name t.off) q else Got.bind (must [123] q) fun _ q=>Got.bind (argsF n [125] q) fun xs q=>.ok (exLit t xs) q)
  have HEQ:=hid heq
  have HDD:=hid hdd
  have HSZ:=hid hsz
  have HIE:=hid (args_len hli.len)
  obtain ⟨W1,hW1⟩:∃ W,w1.alloc (.cells #[.string t.name,.slice B m c1,.int .i64 t.off] 29)=W:=⟨_,rfl⟩
  have hb1:Below w1.heap.size w1 W1:=hW1▸(Below.refl _ _).alloc (Nat.le_refl _) _
  have HC1:=hid (hcur.later hb1)
  have HG1:=hid (gb_trans hg (gb_of (some c) hb1))
  have hB1:Boxd W1 w1.heap.size [.string t.name,.slice B m c1,.int .i64 t.off]:=hW1▸Boxd.new w1 #[.string t.name,.slice B m c1,.int .i64 t.off] 29
  have hsg:W0.heap.size≤w1.heap.size:=hg.size
  have HD1:=hid (in_gb (gb_of (some c) hb1) (by have:=HS0.out;omega) hd)
  have HT1:=hid (there_gb HT0.out (by have:=HS0.out;omega) (by omega) HG1.out)
  have HLO:=hid (show c<W0.heap.size by have:=HS0.out;omega)
  obtain ⟨g,hgg⟩:∃ g,w1.heap.size=g:=⟨_,rfl⟩
  rw [hgg] at hB1 hsg
  have HGG:=hid hsg
  have HWG:=hid hgg
  have hgl:g<W1.heap.size:=by rw [←hW1,←hgg];simp
  have hgc:g≠c:=by have:=HS0.out;omega
  have HB1:=hid hB1
  have HW1:=hid hW1
  have x1:=hB1 1 _ rfl
  rw [←hW1,←hgg] at x1
  clear hd ha hg heq hcur C1 hsz hli hdd hW1 hb1 hB1
  by_cases hm:m=0
  · have e0:(((m:Nat):Int)==0)=true:=by rw [hm];rfl
    have HM:=hid hm
    clear hm
    go_wp2_with fail
    rw [HW1.out]
    have C2:=hid (show Calls Tryz.prog 125 #[.pointer (some ⟨c,0,none⟩),.string ⟨#[123]⟩] W1 (fun e w'=>e=.returned (.bool (nextB d [123] q))∧Below W1.heap.size W1 w') from next_any c q d ⟨#[123]⟩ W1 HC1.out)
    refine C2.out.mono ?_
    rintro e w2 ⟨rfl,hb2⟩
    have HC2:=hid (HC1.out.later hb2)
    have HGL2:=hid (show g<w2.heap.size from Nat.lt_of_lt_of_le hgl hb2.size)
    have HG2:=hid (gb_trans HG1.out (gb_of (some c) hb2))
    have HB2:=hid (HB1.out.later hb2)
    have HT2:=hid (there_gb HT1.out (by have:=HG1.out.size;have:=HS0.out;omega) (by omega:w.heap.size≠c) (gb_of (some c) hb2))
    have HD2:=hid (in_gb (gb_of (some c) hb2) HLO.out HD1.out)
    clear hb2 C2 x1
    cases hx:nextB d [123] q
    · have HX:=hid hx
      have y0:=HB2.out 0 _ rfl
      have y2:=HB2.out 2 _ rfl
      clear hx
      go_wp2_with (refine storeOp flatEx 2 19 (b:=w.heap.size) (o:=0) (us:=[.int .i64 1,.string t.name,.string ⟨#[]⟩,.slice none 0 0,.int .i64 0,.slice none 0 0,.slice none 0 0,.int .i64 t.off]) rfl rfl HT2.out (ex8_one rfl rfl rfl rfl rfl rfl rfl rfl) rfl ?_)
      refine bodyPost_ret (results_first _ rfl (set_there (us:=[.int .i64 1,.string t.name,.string ⟨#[]⟩,.slice none 0 0,.int .i64 0,.slice none 0 0,.slice none 0 0,.int .i64 t.off]) HT2.out) rfl) rfl ?_
      refine ⟨exVar t.name t.off,_,rfl,exVar_in HSZ.out,?_,gb_sets (some c) (gb_trans (gb_of (some c) HB0.out) HG2.out) (Nat.le_refl _) _ _⟩
      have hcu:=HC2.out.up (below_sets hlt [.int .i64 1,.string t.name,.string ⟨#[]⟩,.slice none 0 0,.int .i64 0,.slice none 0 0,.slice none 0 0,.int .i64 t.off] 0 w2)
      rw [firstF_eq,HEQ.out]
      cases d
      · rw [if_neg (by decide),HIE.out,HM.out,←nextB_false,HX.out]
        exact ⟨rfl,hcu⟩
      exact hcu
    have HX:=hid hx
    have HE3:=hid (show stop b l (firstF n l)=stop d q (Got.bind (must [123] q) fun _ q=>Got.bind (argsF n [125] q) fun xs q=>.ok (exLit t xs) q) by
      obtain ⟨rfl,hi⟩:=nextB_cons HX.out
      rw [firstF_eq,HEQ.out,if_neg (by decide),hi,Bool.not_true,Bool.and_false,if_neg (by decide)]
      rfl)
    clear hx
    have C3:=hid (show Calls Tryz.prog 86 #[.pointer (some ⟨c,0,none⟩),.string ⟨#[123]⟩] w2 (MustPost c q d [123] w2) from must_any c q d ⟨#[123]⟩ w2 HC2.out)
    go_wp2_with fail
    skip
    refine C3.out.mono ?_
    rintro e w3 ⟨rfl,ha,hg⟩
    obtain ⟨q2,d2,hcur2,hql2,hdd2,heq2⟩:=aft_next2 (must_less [123] q) ha (fun _ q=>Got.bind (argsF n [125] q) fun xs q=>.ok (exLit t xs) q)
    have HEQ2:=hid (HE3.out.trans heq2)
    have HG3:=hid (gb_trans HG2.out hg)
    have HD3:=hid (in_gb hg HLO.out HD2.out)
    have HBX:=hid (boxd_gb hg hgc HB2.out)
    have HT3:=hid (there_gb HT2.out (by have:=HG2.out.size;have:=HS0.out;omega) (by omega) hg)
    have hfl:d2=false→2*q2.length+2≤n:=fun h=>by
      obtain ⟨h1,h2⟩:=hdd2 h
      obtain ⟨h3,h4⟩:=HDD.out h1
      have:=HF.out h3
      omega
    have CA:=hid (fun (V:World) (hV:Cur V c q2 d2)=>(show Calls Tryz.prog 140 #[.pointer (some ⟨c,0,none⟩),.string ⟨#[125]⟩] V (ExsRet c q2 d2 V (argsF n [125] q2)) from args_any n IH.out ⟨#[125]⟩ c q2 d2 V hV hfl))
    have HGL:=hid (show g<w3.heap.size from Nat.lt_of_lt_of_le HGL2.out hg.size)
    have HCD:=hid (hcur2.later (Below.refl w3.heap.size w3).drew)
    have HDX:=hid (HD3.out.later (S:=Fr W0.heap.size w3) (Below.refl w3.heap.size w3).drew fun k hk=>hk.2)
    have HTD:=hid (show w3.drew.there w.heap.size 0 8 from HT3.out)
    have HGD:=hid (gb_trans HG3.out (gb_of (some c) (Below.refl w3.heap.size w3).drew))
    have SS:w3.rangeAt g 0 [.string t.name,.slice B m c1,.int .i64 t.off]:=fun j u hu=>by rw [Nat.zero_add];exact HBX.out j u hu
    clear ha hg heq2 hcur2 hfl C3 hdd2
    go_wp2_with fail
    refine wp_region_held_drew (S:=fun V=>V.rangeAt g 0 [.string t.name,.slice B m c1,.int .i64 t.off]) (by kernel_rfl) SS (fun hS=>?_)
    have HZ3:=hid (show w3.drew.heap.size=w3.heap.size from rfl)
    generalize World.drew w3=Wd at *
    refine wpAnyH_take (i:=0) (v:=.agg ([.string t.name,.slice B m c1,.int .i64 t.off]:List Value).toArray) rfl (by kernel_rfl) (by kernel_rfl) (by kernel_rfl) (fun _ _ _ h=>h) (yieldsIf_load_mid rfl 29 (.tmp 3) rfl g 0 rfl [.string t.name,.slice B m c1,.int .i64 t.off] _ (fun V hV=>hV) Tryz.underlying29 rfl flatTy.size) (by assumption) ?_
    try simp only [Act.put,List.getElem_toArray,List.getElem_cons_zero,List.setIfInBounds_toArray,List.set_cons_zero,List.set_cons_succ]
    first
    | (refine wpAnyH_take (i:=1) (v:=?_) rfl (by kernel_rfl) (by kernel_rfl) (by kernel_rfl) (fun _ _ _ h=>h) (Or.inl ⟨by rfl,?_⟩) (by assumption) ?_
       rotate_left
       · (intro V hV;go_simp;try with_reducible rfl)
       try simp only [Act.put,List.getElem_toArray,List.getElem_cons_zero,List.getElem_cons_succ,List.setIfInBounds_toArray,List.set_cons_zero,List.set_cons_succ])
    | fail "take 1"
    first
    | (refine wpAnyH_take (i:=3) (v:=?_) rfl (by kernel_rfl) (by kernel_rfl) (by kernel_rfl) (fun _ _ _ h=>h) (Or.inl ⟨by rfl,?_⟩) (by assumption) ?_
       rotate_left
       · (intro V hV;go_simp;try with_reducible rfl)
       try simp only [Act.put,List.getElem_toArray,List.getElem_cons_zero,List.getElem_cons_succ,List.setIfInBounds_toArray,List.set_cons_zero,List.set_cons_succ])
    | fail "take 3"
    first
    | (refine wpAnyH_take (i:=4) (v:=?_) rfl (by kernel_rfl) (by kernel_rfl) (by kernel_rfl) (fun _ _ _ h=>h) (Or.inl ⟨by rfl,?_⟩) (by assumption) ?_
       rotate_left
       · (intro V hV;have x2:=hV 2 _ rfl;go_simp;try with_reducible rfl)
       try simp only [Act.put,List.getElem_toArray,List.getElem_cons_zero,List.getElem_cons_succ,List.setIfInBounds_toArray,List.set_cons_zero,List.set_cons_succ])
    | fail "take 4"
    refine wpAnyH_ready (rs:=[2]) (by kernel_rfl) (by simp) ?_
    refine AllReadyH.cons rfl (fun K hK=>?_) AllReadyH.nil
    go_simp
    refine (CA.out _ HCD.out).mono ?_
    rintro e wA ⟨xs,A,cap,rfl,hrow,hcp,-,ha,hg⟩
    have SS:wA.rangeAt g 0 [.string t.name,.slice B m c1,.int .i64 t.off]:=fun j u hu=>gb_cell hg (hS j u hu) hgc
    have HR:=hid hrow
    have HA:=hid ha
    have HCP:=hid hcp
    have HGA:=hid (gb_trans HGD.out hg)
    have HDA:=hid (in_gb hg HLO.out (HDX.out.wide fun k hk=>⟨hk.1,by rw [HZ3.out];exact hk.2⟩))
    have HTA:=hid (there_gb HTD.out (by have:=HGD.out.size;have:=HS0.out;omega) (by omega) hg)
    have HSD:=hid (show W0.heap.size≤Wd.heap.size from HGD.out.size)
    refine hK.out _ _ SS (fun hS=>?_)
    clear hK K
    try simp only [Act.put,List.getElem_toArray,List.getElem_cons_zero,List.getElem_cons_succ,List.setIfInBounds_toArray,List.set_cons_zero,List.set_cons_succ]
    clear hrow ha hg hcp
    first
    | (refine wpAnyH_take (i:=5) (v:=?_) rfl (by kernel_rfl) (by kernel_rfl) (by kernel_rfl) (fun _ _ _ h=>h) (Or.inl ⟨by rfl,?_⟩) (by assumption) ?_
       rotate_left
       · (intro V hV;go_simp;try with_reducible rfl)
       try simp only [Act.put,List.getElem_toArray,List.getElem_cons_zero,List.getElem_cons_succ,List.setIfInBounds_toArray,List.set_cons_zero,List.set_cons_succ])
    | fail "take 5"
    refine wpAnyH_ready (rs:=[6]) (by kernel_rfl) (by simp) ?_
    refine AllReadyH.cons rfl (fun K hK=>?_) AllReadyH.nil
    refine ready_store flatEx rfl (.tmp 2) (.tmp 27) rfl (b:=w.heap.size) (off:=0) (us:=[.int .i64 3,.string ⟨#[]⟩,.string t.name,.slice B m c1,.int .i64 t.off,.slice none 0 0,.slice A xs.length cap,.int .i64 t.off]) rfl rfl HTA.out (ex8_one rfl rfl rfl rfl rfl rfl rfl rfl) rfl ?_
    have SS:(wA.setCells w.heap.size 0 [.int .i64 3,.string ⟨#[]⟩,.string t.name,.slice B m c1,.int .i64 t.off,.slice none 0 0,.slice A xs.length cap,.int .i64 t.off]).rangeAt g 0 [.string t.name,.slice B m c1,.int .i64 t.off]:=World.rangeAt_setCells_apart hS _ _ _ (.inl (by have:=HGG.out;have:=HS0.out;omega))
    refine hK.out _ _ SS (fun hS=>?_)
    clear hK K
    try simp only [Act.put,List.getElem_toArray,List.getElem_cons_zero,List.getElem_cons_succ]
    refine wpAnyH_done (by kernel_rfl) ?_ _
    clear CA SS
    go_wp2_with fail
    refine bodyPost_ret (results_first _ rfl (set_there (us:=[.int .i64 3,.string ⟨#[]⟩,.string t.name,.slice B m c1,.int .i64 t.off,.slice none 0 0,.slice A xs.length cap,.int .i64 t.off]) HTA.out) rfl) rfl ?_
    refine ⟨exLit t xs,_,rfl,?_,?_,gb_sets (some c) (gb_trans (gb_of (some c) HB0.out) HGA.out) (Nat.le_refl _) _ _⟩
    · have hr2:=row_gb (gb_sets1 wA w.heap.size 0 [.int .i64 3,.string ⟨#[]⟩,.string t.name,.slice B m c1,.int .i64 t.off,.slice none 0 0,.slice A xs.length cap,.int .i64 t.off]) (by have:=HSD.out;have:=HS0.out;omega) HR.out
      have hd2:=in_sets HDA.out (by have:=HS0.out;omega:w.heap.size<W0.heap.size) 0 [.int .i64 3,.string ⟨#[]⟩,.string t.name,.slice B m c1,.int .i64 t.off,.slice none 0 0,.slice A xs.length cap,.int .i64 t.off]
      refine exLit_in (hd2.wide fun k hk=>⟨by have:=hk.1;have:=HS0.out;omega,hk.2⟩) (hr2.wide fun k hk=>⟨by have:=hk.1;have:=HSD.out;have:=HS0.out;omega,hk.2⟩) HCP.out
    rw [HEQ2.out,stop_if,stop_bind]
    exact aft_ret (HA.out.up (below_sets hlt _ _ _)) (fun xs=>exLit t xs) rfl
  have e0:(((m:Nat):Int)==0)=false:=by simpa using hm
  have HM:=hid hm
  have HE3:=hid (show stop b l (firstF n l)=stop d q (Got.bind (must [123] q) fun _ q=>Got.bind (argsF n [125] q) fun xs q=>.ok (exLit t xs) q) by
    rw [firstF_eq,HEQ.out,HIE.out,show (m==0)=false by simpa using HM.out,Bool.false_and,if_neg (show ¬ (false=true) by decide)]
    exact stop_if _ _ _)
  clear hm
  have C3:=hid (show Calls Tryz.prog 86 #[.pointer (some ⟨c,0,none⟩),.string ⟨#[123]⟩] W1 (MustPost c q d [123] W1) from must_any c q d ⟨#[123]⟩ W1 HC1.out)
  go_wp2_with fail
  rw [HW1.out]
  refine C3.out.mono ?_
  rintro e w3 ⟨rfl,ha,hg⟩
  obtain ⟨q2,d2,hcur2,hql2,hdd2,heq2⟩:=aft_next2 (must_less [123] q) ha (fun _ q=>Got.bind (argsF n [125] q) fun xs q=>.ok (exLit t xs) q)
  have HEQ2:=hid (HE3.out.trans heq2)
  have HG3:=hid (gb_trans HG1.out hg)
  have HD3:=hid (in_gb hg HLO.out HD1.out)
  have HBX:=hid (boxd_gb hg hgc HB1.out)
  have HT3:=hid (there_gb HT1.out (by have:=HG1.out.size;have:=HS0.out;omega) (by omega) hg)
  have hfl:d2=false→2*q2.length+2≤n:=fun h=>by
    obtain ⟨h1,h2⟩:=hdd2 h
    obtain ⟨h3,h4⟩:=HDD.out h1
    have:=HF.out h3
    omega
  have CA:=hid (fun (V:World) (hV:Cur V c q2 d2)=>(show Calls Tryz.prog 140 #[.pointer (some ⟨c,0,none⟩),.string ⟨#[125]⟩] V (ExsRet c q2 d2 V (argsF n [125] q2)) from args_any n IH.out ⟨#[125]⟩ c q2 d2 V hV hfl))
  have HGL:=hid (show g<w3.heap.size from Nat.lt_of_lt_of_le hgl hg.size)
  have HCD:=hid (hcur2.later (Below.refl w3.heap.size w3).drew)
  have HDX:=hid (HD3.out.later (S:=Fr W0.heap.size w3) (Below.refl w3.heap.size w3).drew fun k hk=>hk.2)
  have HTD:=hid (show w3.drew.there w.heap.size 0 8 from HT3.out)
  have HGD:=hid (gb_trans HG3.out (gb_of (some c) (Below.refl w3.heap.size w3).drew))
  have SS:w3.rangeAt g 0 [.string t.name,.slice B m c1,.int .i64 t.off]:=fun j u hu=>by rw [Nat.zero_add];exact HBX.out j u hu
  clear ha hg heq2 hcur2 hfl C3 hdd2
  go_wp2_with fail
  refine wp_region_held_drew (S:=fun V=>V.rangeAt g 0 [.string t.name,.slice B m c1,.int .i64 t.off]) (by kernel_rfl) SS (fun hS=>?_)
  have HZ3:=hid (show w3.drew.heap.size=w3.heap.size from rfl)
  generalize World.drew w3=Wd at *
  refine wpAnyH_take (i:=0) (v:=.agg ([.string t.name,.slice B m c1,.int .i64 t.off]:List Value).toArray) rfl (by kernel_rfl) (by kernel_rfl) (by kernel_rfl) (fun _ _ _ h=>h) (yieldsIf_load_mid rfl 29 (.tmp 3) rfl g 0 rfl [.string t.name,.slice B m c1,.int .i64 t.off] _ (fun V hV=>hV) Tryz.underlying29 rfl flatTy.size) (by assumption) ?_
  try simp only [Act.put,List.getElem_toArray,List.getElem_cons_zero,List.setIfInBounds_toArray,List.set_cons_zero,List.set_cons_succ]
  first
  | (refine wpAnyH_take (i:=1) (v:=?_) rfl (by kernel_rfl) (by kernel_rfl) (by kernel_rfl) (fun _ _ _ h=>h) (Or.inl ⟨by rfl,?_⟩) (by assumption) ?_
     rotate_left
     · (intro V hV;go_simp;try with_reducible rfl)
     try simp only [Act.put,List.getElem_toArray,List.getElem_cons_zero,List.getElem_cons_succ,List.setIfInBounds_toArray,List.set_cons_zero,List.set_cons_succ])
  | fail "take 1"
  first
  | (refine wpAnyH_take (i:=3) (v:=?_) rfl (by kernel_rfl) (by kernel_rfl) (by kernel_rfl) (fun _ _ _ h=>h) (Or.inl ⟨by rfl,?_⟩) (by assumption) ?_
     rotate_left
     · (intro V hV;go_simp;try with_reducible rfl)
     try simp only [Act.put,List.getElem_toArray,List.getElem_cons_zero,List.getElem_cons_succ,List.setIfInBounds_toArray,List.set_cons_zero,List.set_cons_succ])
  | fail "take 3"
  first
  | (refine wpAnyH_take (i:=4) (v:=?_) rfl (by kernel_rfl) (by kernel_rfl) (by kernel_rfl) (fun _ _ _ h=>h) (Or.inl ⟨by rfl,?_⟩) (by assumption) ?_
     rotate_left
     · (intro V hV;have x2:=hV 2 _ rfl;go_simp;try with_reducible rfl)
     try simp only [Act.put,List.getElem_toArray,List.getElem_cons_zero,List.getElem_cons_succ,List.setIfInBounds_toArray,List.set_cons_zero,List.set_cons_succ])
  | fail "take 4"
  refine wpAnyH_ready (rs:=[2]) (by kernel_rfl) (by simp) ?_
  refine AllReadyH.cons rfl (fun K hK=>?_) AllReadyH.nil
  go_simp
  refine (CA.out _ HCD.out).mono ?_
  rintro e wA ⟨xs,A,cap,rfl,hrow,hcp,-,ha,hg⟩
  have SS:wA.rangeAt g 0 [.string t.name,.slice B m c1,.int .i64 t.off]:=fun j u hu=>gb_cell hg (hS j u hu) hgc
  have HR:=hid hrow
  have HA:=hid ha
  have HCP:=hid hcp
  have HGA:=hid (gb_trans HGD.out hg)
  have HDA:=hid (in_gb hg HLO.out (HDX.out.wide fun k hk=>⟨hk.1,by rw [HZ3.out];exact hk.2⟩))
  have HTA:=hid (there_gb HTD.out (by have:=HGD.out.size;have:=HS0.out;omega) (by omega) hg)
  have HSD:=hid (show W0.heap.size≤Wd.heap.size from HGD.out.size)
  refine hK.out _ _ SS (fun hS=>?_)
  clear hK K
  try simp only [Act.put,List.getElem_toArray,List.getElem_cons_zero,List.getElem_cons_succ,List.setIfInBounds_toArray,List.set_cons_zero,List.set_cons_succ]
  clear hrow ha hg hcp
  first
  | (refine wpAnyH_take (i:=5) (v:=?_) rfl (by kernel_rfl) (by kernel_rfl) (by kernel_rfl) (fun _ _ _ h=>h) (Or.inl ⟨by rfl,?_⟩) (by assumption) ?_
     rotate_left
     · (intro V hV;go_simp;try with_reducible rfl)
     try simp only [Act.put,List.getElem_toArray,List.getElem_cons_zero,List.getElem_cons_succ,List.setIfInBounds_toArray,List.set_cons_zero,List.set_cons_succ])
  | fail "take 5"
  refine wpAnyH_ready (rs:=[6]) (by kernel_rfl) (by simp) ?_
  refine AllReadyH.cons rfl (fun K hK=>?_) AllReadyH.nil
  refine ready_store flatEx rfl (.tmp 2) (.tmp 27) rfl (b:=w.heap.size) (off:=0) (us:=[.int .i64 3,.string ⟨#[]⟩,.string t.name,.slice B m c1,.int .i64 t.off,.slice none 0 0,.slice A xs.length cap,.int .i64 t.off]) rfl rfl HTA.out (ex8_one rfl rfl rfl rfl rfl rfl rfl rfl) rfl ?_
  have SS:(wA.setCells w.heap.size 0 [.int .i64 3,.string ⟨#[]⟩,.string t.name,.slice B m c1,.int .i64 t.off,.slice none 0 0,.slice A xs.length cap,.int .i64 t.off]).rangeAt g 0 [.string t.name,.slice B m c1,.int .i64 t.off]:=World.rangeAt_setCells_apart hS _ _ _ (.inl (by have:=HGG.out;have:=HS0.out;omega))
  refine hK.out _ _ SS (fun hS=>?_)
  clear hK K
  try simp only [Act.put,List.getElem_toArray,List.getElem_cons_zero,List.getElem_cons_succ]
  refine wpAnyH_done (by kernel_rfl) ?_ _
  clear CA SS
  go_wp2_with fail
  refine bodyPost_ret (results_first _ rfl (set_there (us:=[.int .i64 3,.string ⟨#[]⟩,.string t.name,.slice B m c1,.int .i64 t.off,.slice none 0 0,.slice A xs.length cap,.int .i64 t.off]) HTA.out) rfl) rfl ?_
  refine ⟨exLit t xs,_,rfl,?_,?_,gb_sets (some c) (gb_trans (gb_of (some c) HB0.out) HGA.out) (Nat.le_refl _) _ _⟩
  · have hr2:=row_gb (gb_sets1 wA w.heap.size 0 [.int .i64 3,.string ⟨#[]⟩,.string t.name,.slice B m c1,.int .i64 t.off,.slice none 0 0,.slice A xs.length cap,.int .i64 t.off]) (by have:=HSD.out;have:=HS0.out;omega) HR.out
    have hd2:=in_sets HDA.out (by have:=HS0.out;omega:w.heap.size<W0.heap.size) 0 [.int .i64 3,.string ⟨#[]⟩,.string t.name,.slice B m c1,.int .i64 t.off,.slice none 0 0,.slice A xs.length cap,.int .i64 t.off]
    refine exLit_in (hd2.wide fun k hk=>⟨by have:=hk.1;have:=HS0.out;omega,hk.2⟩) (hr2.wide fun k hk=>⟨by have:=hk.1;have:=HSD.out;have:=HS0.out;omega,hk.2⟩) HCP.out
  rw [HEQ2.out,stop_if,stop_bind]
  exact aft_ret (HA.out.up (below_sets hlt _ _ _)) (fun xs=>exLit t xs) rfl
open Go.RowKit
def RestRet (S:Nat→Prop) (c:Nat) (w:World) (g:Got Ex) (e:Ending) (w':World):Prop:=∃ (t:Ex) (us:List Value),e=.returned (.agg us.toArray)∧t.dat.In w' False (fun k=>S k∨Fr w.heap.size w' k) us∧Aft w' c t g∧w.grownBy w' (some c)
structure RS (w W:World) (c:Nat) (x:Ex) (vs:List Value) (S:Nat→Prop):Prop where
  gb:w.grownBy W (some c)
  big:w.heap.size+3≤W.heap.size
  own:W.ownsRow (w.heap.size+2) 34 8 (.slice (some ⟨w.heap.size+2,0,none⟩) 1 1) 1 vs
  res:W.there (w.heap.size+1) 0 8
  dat:x.dat.In W False S vs
  hS:∀ k,S k→k<w.heap.size∧k≠c
  hc:c<w.heap.size
theorem RS.later {w W W':World} {c:Nat} {x:Ex} {vs:List Value} {S:Nat→Prop} (h:RS w W c x vs S) (hg:W.grownBy W' (some c)):RS w W' c x vs S:=by
  have hb:=h.big
  have hc:=h.hc
  refine ⟨gb_trans h.gb hg,Nat.le_trans hb hg.size,h.own.kept hg (.inr fun e=>?_),there_gb h.res (by omega) (by omega) hg,Dat.In.keep id (gb_kept hg fun k hk=>⟨by have:=(h.hS k hk).1;omega,(h.hS k hk).2⟩) (fun _ h=>h) _ _ h.dat,h.hS,hc⟩
  have e2:some (w.heap.size+2)=some c:=e
  injection e2 with e2
  omega
theorem RS.one {w W:World} {c:Nat} {x:Ex} {vs:List Value} {S:Nat→Prop} (h:RS w W c x vs S):Row W False (fun k=>S k∨(w.heap.size+2≤k∧k<W.heap.size)) 8 (some ⟨w.heap.size+2,0,none⟩) 1 (Ex.dats [x]):=by
  obtain ⟨A,cp,e,hr,-⟩:=row_of_own (S':=fun k=>S k∨(w.heap.size+2≤k∧k<W.heap.size)) h.own (show Dat.Ins W False S [x.dat] vs by rw [Dat.Ins];exact ⟨vs,[],by simp,h.dat,by rw [Dat.Ins]⟩) (fun d hd=>by rw [List.mem_singleton.1 hd];exact Ex.dat_size x) (by omega) (fun _ h=>.inl h) (fun g hg=>.inr (h.own.lt g hg)) (by omega)
  simp only [Value.slice.injEq] at e
  obtain ⟨rfl,-,-⟩:=e
  rw [Ex.dats_map]
  exact hr
theorem rest_fin {w W:World} {c:Nat} {t:Ex} {us:List Value} {S:Nat→Prop} {g:Got Ex} (hgb:w.grownBy W (some c)) (hbig:w.heap.size+3≤W.heap.size) (hS:∀ k,S k→k<w.heap.size∧k≠c) (hc:c<w.heap.size)
    (hd:t.dat.In W False (fun k=>S k∨(w.heap.size+2≤k∧k<W.heap.size)) us) (ha:Aft W c t g):RestRet S c w g (.returned (.agg us.toArray)) (W.setCells (w.heap.size+1) 0 us):=by
  refine ⟨t,us,rfl,?_,ha.up (below_sets (by omega) _ _ _),gb_sets (some c) hgb (by omega) _ _⟩
  have hk:=gb_sets1 W (w.heap.size+1) 0 us
  refine Dat.In.keep id (gb_kept hk fun k hk2=>?_) (fun k hk2=>?_) _ _ hd
  · rcases hk2 with h2 | ⟨h2,h3⟩
    · have:=(hS k h2).1;omega
    omega
  rcases hk2 with h2 | ⟨h2,h3⟩
  · exact .inl h2
  exact .inr ⟨by omega,by rw [size_sets];exact h3⟩
theorem RS.fin {w W:World} {c:Nat} {x t:Ex} {vs us:List Value} {S:Nat→Prop} {g:Got Ex} (h:RS w W c x vs S) (hd:t.dat.In W False (fun k=>S k∨(w.heap.size+2≤k∧k<W.heap.size)) us) (ha:Aft W c t g) :
    RestRet S c w g (.returned (.agg us.toArray)) (W.setCells (w.heap.size+1) 0 us):=rest_fin h.gb h.big h.hS h.hc hd ha
theorem call_app {w w8 w9:World} {c:Nat} {x:Ex} {vs cs:List Value} {S:Nat→Prop} {xs:List Ex} {ts:List Ty} {A5:Option Addr} {v9:Value} {g:Got (List Ex)} (h:RS w w8 c x vs S) (hcs:Dat.Ins w8 False (Fr (w.heap.size+3) w8) (Ex.dats xs) cs) (hx:xs.length≤100001) (ha:Aft w8 c xs g)
    (hr:Row w8 False (Fr (w.heap.size+3) w8) 3 A5 ts.length (Ty.dats ts)) (hA:Appd w8 w9 (w.heap.size+2) 34 8 1 xs.length (.slice (some ⟨w.heap.size+2,0,none⟩) 1 1) v9 vs cs) :
    ∃ A9 c9,v9=.slice A9 (1+xs.length) c9∧Row w9 False (fun k=>S k∨(w.heap.size+2≤k∧k<w9.heap.size)) 8 A9 (1+xs.length) (Ex.dats (x :: xs))∧1+xs.length≤c9∧Aft w9 c xs g∧Row w9 False (Fr (w.heap.size+3) w9) 3 A5 ts.length (Ty.dats ts)
      ∧ w9.there (w.heap.size+1) 0 8∧w.grownBy w9 (some c)∧w.heap.size+3≤w9.heap.size:=by
  have hg:w8.grownBy w9 (some (w.heap.size+2)):=hA.grow
  have hc:=h.hc
  have hb:=h.big
  have hs:=hg.size
  have hr9:=row_gb hg (by omega:w.heap.size+2<w.heap.size+3) hr
  have hd:x.dat.In w9 False (fun k=>S k∨Fr (w.heap.size+3) w9 k) vs:=Dat.In.keep id (gb_kept hg fun k hk=>by have:=(h.hS k hk).1;omega) (fun _ h=>.inl h) _ _ h.dat
  have hc9:Dat.Ins w9 False (fun k=>S k∨Fr (w.heap.size+3) w9 k) (Ex.dats xs) cs:=Dat.Ins.keep id (gb_kept hg fun k hk=>⟨hk.2,by have:=hk.1;omega⟩) (fun k hk=>.inr ⟨hk.1,Nat.lt_of_lt_of_le hk.2 hs⟩) _ _ hcs
  obtain ⟨A9,c9,e,hrow,hle⟩:=row_of_own (S':=fun k=>S k∨(w.heap.size+2≤k∧k<w9.heap.size)) hA.own (show Dat.Ins w9 False (fun k=>S k∨Fr (w.heap.size+3) w9 k) (Ex.dats (x :: xs)) (vs++cs) by rw [Ex.dats,Dat.Ins];exact ⟨vs,cs,rfl,hd,hc9⟩)
    (fun d hd=>by rw [Ex.dats_map,List.mem_map] at hd;obtain ⟨y,_,rfl⟩:=hd;exact Ex.dat_size y) (by omega) (fun k hk=>hk.imp id fun h=>⟨by have:=h.1;omega,h.2⟩) (fun g hg=>.inr (hA.own.lt g hg)) (by omega)
  refine ⟨A9,c9,e,hrow,hle,ha.up ⟨hg.os,hg.tape,hg.output,hs,fun k hk=>hg.block k (by omega) (by simpa using (by omega:k≠w.heap.size+2))⟩,hr9,there_gb h.res (by omega) (by omega) hg,?_,by omega⟩
  exact ⟨hg.os.trans h.gb.os,hg.tape.trans h.gb.tape,hg.output.trans h.gb.output,Nat.le_trans h.gb.size hs,fun k hk hne=>(hg.block k (by omega) (by simpa using (by omega:k≠w.heap.size+2))).trans (h.gb.block k hk hne)⟩
theorem results_rest {w:World} {b:Nat} {us:List Value} (tmps:Array Value) (ht:tmps[4]?.getD undef=.pointer (some ⟨b,0,none⟩)) (hc:Boxd w b us) (hl:us.length=8):(results Tryz.f120 tmps).run Tryz.prog w=.ok (.agg us.toArray) w:=by
  have h:=run_cell flatEx hc hl
  have h2:=run_addr ⟨b,0,none⟩ w
  simp [results,Tryz.results120,ht,h,h2,Sem.run_bind,Result.andThen]
theorem slEx:SlOf 32 34 8 128:=by
  obtain ⟨i,hi,hz,hs,hb⟩:=info_parts infoExR
  exact ⟨Tryz.underlying32,⟨i,_,hi,hz,hs,hb,rfl⟩,by omega⟩
theorem lo_wide {w W:World} {S:Nat→Prop} {lo:Nat} (h:w.heap.size+2≤lo):∀ k,Fr lo W k→S k∨(w.heap.size+2≤k∧k<W.heap.size):=fun _ hk=>.inr ⟨Nat.le_trans h hk.1,hk.2⟩
theorem restF_eq (n:Nat) (x:Ex) (l:List Tk):restF n x l=if isT [40] l then Got.bind (tyF n l.tail) fun t q=>Got.bind (must [41] q) fun _ q=>.ok (exAssert t x (off l)) q
    else Got.bind (name l) fun s q=>Got.bind (targsF n q) fun ts q=>if ts.isEmpty&&!isT [40] q then .ok (exField s.s x s.o) q
    else Got.bind (must [40] q) fun _ q=>Got.bind (argsF n [41] q) fun xs q=>.ok (exCall s.s ts (x :: xs) s.o) q:=rfl
theorem rest_neg (n:Nat) (x:Ex) (l:List Tk) (h:isT [40] l=false):restF n x l=Got.bind (name l) fun s q=>Got.bind (targsF n q) fun ts q=>if ts.isEmpty&&!isT [40] q then .ok (exField s.s x s.o) q
    else Got.bind (must [40] q) fun _ q=>Got.bind (argsF n [41] q) fun xs q=>.ok (exCall s.s ts (x :: xs) s.o) q:=by rw [restF_eq,h];rfl
theorem rest_pos (n:Nat) (x:Ex) (t:Tk) (r:List Tk) (h:isT [40] (t :: r)=true):restF n x (t :: r)=Got.bind (tyF n r) fun t1 q=>Got.bind (must [41] q) fun _ q=>.ok (exAssert t1 x (off (t :: r))) q:=by rw [restF_eq,if_pos h];rfl
theorem rest_start (w:World) (c:Nat) (x:Ex) {v0 v1 v2 v3 v4 v5 v6 v7:Value} {S:Nat→Prop} {T1:TypeId} (hS:∀ k,S k→k<w.heap.size∧k≠c) (hc:c<w.heap.size) (hx:x.dat.In w False S [v0,v1,v2,v3,v4,v5,v6,v7]) :
    RS w (((w.alloc (.cells #[v0,v1,v2,v3,v4,v5,v6,v7] T1)).alloc (.cells #[.int .i64 0,.string ⟨#[]⟩,.string ⟨#[]⟩,.slice none 0 0,.int .i64 0,.slice none 0 0,.slice none 0 0,.int .i64 0] 34)).alloc (.cells #[v0,v1,v2,v3,v4,v5,v6,v7] 34)) c x [v0,v1,v2,v3,v4,v5,v6,v7] S
      ∧ Below w.heap.size w (((w.alloc (.cells #[v0,v1,v2,v3,v4,v5,v6,v7] T1)).alloc (.cells #[.int .i64 0,.string ⟨#[]⟩,.string ⟨#[]⟩,.slice none 0 0,.int .i64 0,.slice none 0 0,.slice none 0 0,.int .i64 0] 34)).alloc (.cells #[v0,v1,v2,v3,v4,v5,v6,v7] 34)):=by
  have hb1:Below w.heap.size w (w.alloc (.cells #[v0,v1,v2,v3,v4,v5,v6,v7] T1)):=(Below.refl _ _).alloc (Nat.le_refl _) _
  have hz1:(w.alloc (.cells #[v0,v1,v2,v3,v4,v5,v6,v7] T1)).heap.size=w.heap.size+1:=by simp
  obtain ⟨W1,hW1⟩:∃ W,w.alloc (.cells #[v0,v1,v2,v3,v4,v5,v6,v7] T1)=W:=⟨_,rfl⟩
  rw [hW1] at hb1 hz1 ⊢
  have hb2:Below W1.heap.size W1 (W1.alloc (.cells #[.int .i64 0,.string ⟨#[]⟩,.string ⟨#[]⟩,.slice none 0 0,.int .i64 0,.slice none 0 0,.slice none 0 0,.int .i64 0] 34)):=(Below.refl _ _).alloc (Nat.le_refl _) _
  have hz2:(W1.alloc (.cells #[.int .i64 0,.string ⟨#[]⟩,.string ⟨#[]⟩,.slice none 0 0,.int .i64 0,.slice none 0 0,.slice none 0 0,.int .i64 0] 34)).heap.size=w.heap.size+2:=by simp [hz1]
  have ht:(W1.alloc (.cells #[.int .i64 0,.string ⟨#[]⟩,.string ⟨#[]⟩,.slice none 0 0,.int .i64 0,.slice none 0 0,.slice none 0 0,.int .i64 0] 34)).there (w.heap.size+1) 0 8:=hz1▸there_new W1 #[.int .i64 0,.string ⟨#[]⟩,.string ⟨#[]⟩,.slice none 0 0,.int .i64 0,.slice none 0 0,.slice none 0 0,.int .i64 0] 34
  obtain ⟨W2,hW2⟩:∃ W,W1.alloc (.cells #[.int .i64 0,.string ⟨#[]⟩,.string ⟨#[]⟩,.slice none 0 0,.int .i64 0,.slice none 0 0,.slice none 0 0,.int .i64 0] 34)=W:=⟨_,rfl⟩
  rw [hW2] at hb2 hz2 ht ⊢
  have hb3:Below W2.heap.size W2 (W2.alloc (.cells #[v0,v1,v2,v3,v4,v5,v6,v7] 34)):=(Below.refl _ _).alloc (Nat.le_refl _) _
  have hB:Below w.heap.size w (W2.alloc (.cells #[v0,v1,v2,v3,v4,v5,v6,v7] 34)):=(hb1.trans (hb2.mono (by omega))).trans (hb3.mono (by omega))
  refine ⟨⟨gb_of _ hB,by simp [hz2],?_,there_gb ht (by omega) (by omega:w.heap.size+1≠c) (gb_of _ hb3),hx.later hB fun k hk=>(hS k hk).1,hS,hc⟩,hB⟩
  have:=World.ownsRow_lit (base:=w.heap.size+2) (e:=34) (size:=8) W2 #[v0,v1,v2,v3,v4,v5,v6,v7] 1 (by omega) (by unfold maxLen;omega) rfl
  rw [hz2] at this
  exact this
theorem rest_any (n:Nat) (ih:∀ m,m≤n→ExAt m) (x:Ex) (vs:List Value) (S:Nat→Prop) (c:Nat) (l:List Tk) (w:World) (h:Cur w c l false) (hS:∀ k,S k→k<w.heap.size∧k≠c) (hx:x.dat.In w False S vs) (hf:2*l.length+1≤n) :
    Calls Tryz.prog 120 #[.pointer (some ⟨c,0,none⟩),.agg vs.toArray] w (RestRet S c w (restF n x l)):=by
  have hlt:=h.lt
  obtain ⟨y1,y2,y3,y4,y5,y6,y7,y8,y9,rfl,-⟩:=ex_open hx
  obtain ⟨hrs,hbw⟩:=rest_start w c x (T1:=34) hS hlt hx
  obtain ⟨W1,hW1⟩:∃ W,(((w.alloc (.cells #[.int .i64 x.kind,.string x.name,.string x.ty.name,.slice y1 y2 y3,.int .i64 x.ty.off,.slice y4 y5 y6,.slice y7 y8 y9,.int .i64 x.off] 34)).alloc (.cells #[.int .i64 0,.string ⟨#[]⟩,.string ⟨#[]⟩,.slice none 0 0,.int .i64 0,.slice none 0 0,.slice none 0 0,.int .i64 0] 34)).alloc (.cells #[.int .i64 x.kind,.string x.name,.string x.ty.name,.slice y1 y2 y3,.int .i64 x.ty.off,.slice y4 y5 y6,.slice y7 y8 y9,.int .i64 x.off] 34))=W:=⟨_,rfl⟩
  rw [hW1] at hrs hbw
  have R1:=hid hrs
  have HW1:=hid hW1
  have H1:=hid (h.later hbw)
  have HF:=hid hf
  have IH:=hid ih
  have HBX:=hid (boxd_at0 (((Boxd.new w #[.int .i64 x.kind,.string x.name,.string x.ty.name,.slice y1 y2 y3,.int .i64 x.ty.off,.slice y4 y5 y6,.slice y7 y8 y9,.int .i64 x.off] 34)).later ((Below.refl _ _).alloc (Nat.le_refl _) (.cells #[.int .i64 0,.string ⟨#[]⟩,.string ⟨#[]⟩,.slice none 0 0,.int .i64 0,.slice none 0 0,.slice none 0 0,.int .i64 0] 34))))
  obtain ⟨t0,r0,-,-,-,e0,-⟩:=h.head
  have HE0:=hid e0
  clear h hS hx hf ih hrs hbw hW1 e0
  go_enter Tryz.func120,Tryz.ntmps120
  go_wp2_with (refine loadOp flatEx 3 10 rfl HBX.out rfl ?_)
  rw [HW1.out]
  clear HBX
  refine (peek_any c l false W1 H1.out).mono ?_
  rintro e w2 ⟨rfl,hb⟩
  obtain ⟨oo,hoo⟩:∃ o,(l.headD ⟨3,⟨#[]⟩,0⟩).o=o:=⟨_,rfl⟩
  obtain ⟨kk,hkk⟩:∃ o,(l.headD ⟨3,⟨#[]⟩,0⟩).k=o:=⟨_,rfl⟩
  obtain ⟨ss,hss⟩:∃ o,(l.headD ⟨3,⟨#[]⟩,0⟩).s=o:=⟨_,rfl⟩
  rw [hoo,hkk,hss]
  have HOO:=hid (show off l=oo by rw [←hoo,HE0.out];rfl)
  have R2:=hid (R1.out.later (gb_of (some c) hb))
  have H2:=hid (H1.out.later hb)
  have g2:=fun w=>fieldTk2 kk oo ss w
  clear hb hoo hkk hss R1 H1 HE0
  go_wp2_with fail
  have CT:=hid (show Calls Tryz.prog 92 #[.pointer (some ⟨c,0,none⟩),.string ⟨#[40]⟩] w2 (TakePost c l false [40] w2) from take_any c l false ⟨#[40]⟩ w2 H2.out)
  refine CT.out.mono ?_
  rintro e w3 ⟨rfl,hc3,hg3⟩
  have R3:=hid (R2.out.later hg3)
  have HBG:=hid R3.out.big
  clear g2 CT R2 H2 hg3
  cases hx:nextB false [40] l
  · have HI:=hid (show isT [40] l=false by rw [←nextB_false];exact hx)
    have H3:=hid (show Cur w3 c l false by rw [takeL,hx] at hc3;exact hc3)
    clear hx hc3
    go_wp2_with fail
    refine (name_any c l false w3 H3.out).mono ?_
    rintro e w4 ⟨nm,rfl,hz,ha,hg⟩
    obtain ⟨q,d,hcur,hql,hdd,heq⟩:=aft_next2 (b:=false) (name_less l) ha (fun s q=>Got.bind (targsF n q) fun ts q=>if ts.isEmpty&&!isT [40] q then .ok (exField s.s x s.o) q
      else Got.bind (must [40] q) fun _ q=>Got.bind (argsF n [41] q) fun xs q=>.ok (exCall s.s ts (x :: xs) s.o) q)
    have HEQ:=hid ((rest_neg n x l HI.out).trans heq)
    have HDD:=hid hdd
    have HZ:=hid hz
    have R4:=hid (R3.out.later hg)
    have C5:=hid (targs_any' n c q d w4 hcur fun h=>by have:=(hdd h).2;have:=HF.out;omega)
    clear ha hg heq hcur hz hdd R3 H3 HI
    go_wp2_with fail
    refine C5.out.mono ?_
    rintro e w5 ⟨ts,A5,cap5,rfl,hrow,ha,hg⟩
    obtain ⟨q5,d5,hcur5,hql5,hdd5,heq5⟩:=aft_next3 (targsF_ends n q) ha (fun ts q=>if ts.isEmpty&&!isT [40] q then .ok (exField nm.s x nm.o) q
      else Got.bind (must [40] q) fun _ q=>Got.bind (argsF n [41] q) fun xs q=>.ok (exCall nm.s ts (x :: xs) nm.o) q)
    have HEQ5:=hid (HEQ.out.trans ((stop_if d q _).trans heq5))
    have HDD5:=hid hdd5
    have R5:=hid (R4.out.later hg)
    have HS4:=hid R4.out.big
    have HRW:=hid hrow
    have H5:=hid hcur5
    have HRL:=hid (show Row w5 False (Fr (w.heap.size+3) w5) 3 A5 ts.length (Ty.dats ts) from hrow.wide fun k hk=>⟨Nat.le_trans HS4.out hk.1,hk.2⟩)
    have HIE:=hid (show ts.isEmpty=(ts.length==0) by cases ts<;>rfl)
    have hlc:c<w.heap.size+3:=by omega
    clear ha hg heq5 hcur5 hdd5 hrow C5 R4
    by_cases hm:ts.length=0
    · have e0:((ts.length:Int)==0)=true:=by rw [hm];rfl
      have HM:=hid hm
      have HTN:=hid (show ts=[] from List.eq_nil_of_length_eq_zero hm)
      clear hm
      go_wp2_with fail
      have C6:=hid (show Calls Tryz.prog 125 #[.pointer (some ⟨c,0,none⟩),.string ⟨#[40]⟩] w5 (fun e w'=>e=.returned (.bool (nextB d5 [40] q5))∧Below w5.heap.size w5 w') from next_any c q5 d5 ⟨#[40]⟩ w5 H5.out)
      refine C6.out.mono ?_
      rintro e w6 ⟨rfl,hb6⟩
      have R6:=hid (R5.out.later (gb_of (some c) hb6))
      have H6:=hid (H5.out.later hb6)
      have HRL6:=hid (row_gb (gb_of (some c) hb6) hlc HRL.out)
      clear hb6 C6 R5 H5
      cases hx:nextB d5 [40] q5
      · have HX:=hid hx
        clear hx
        have HT:=hid R6.out.res
        go_wp2_with (refine storeOp flatEx 4 43 (b:=w.heap.size+1) (o:=0) (us:=[.int .i64 4,.string nm.s,.string ⟨#[]⟩,.slice none 0 0,.int .i64 0,.slice none 0 0,.slice (some ⟨w.heap.size+2,0,none⟩) 1 1,.int .i64 nm.o]) rfl rfl HT.out (ex8_one rfl rfl rfl rfl rfl rfl rfl rfl) rfl ?_)
        refine bodyPost_ret (results_rest _ rfl (set_there (us:=[.int .i64 4,.string nm.s,.string ⟨#[]⟩,.slice none 0 0,.int .i64 0,.slice none 0 0,.slice (some ⟨w.heap.size+2,0,none⟩) 1 1,.int .i64 nm.o]) HT.out) rfl) rfl ?_
        refine R6.out.fin (t:=exField nm.s x nm.o) (ex_shut (e:=exField nm.s x nm.o) (by show nm.s.size≤_;have:=HZ.out;omega) (by show (0:Nat)≤_;omega) (lies_row.2 (Row.nil _ _ _ _ _)) (lies_row.2 (Row.nil _ _ _ _ _)) R6.out.one (Nat.le_refl _)) ?_
        rw [HEQ5.out]
        cases d5
        · rw [if_neg (by decide),HTN.out,←nextB_false,HX.out]
          exact ⟨rfl,H6.out⟩
        exact H6.out
      have HX:=hid hx
      have HE7:=hid (show restF n x l=stop d5 q5 (Got.bind (must [40] q5) fun _ q=>Got.bind (argsF n [41] q) fun xs q=>.ok (exCall nm.s ts (x :: xs) nm.o) q) by
        obtain ⟨rfl,hi⟩:=nextB_cons HX.out
        rw [HEQ5.out,if_neg (by decide),hi,Bool.not_true,Bool.and_false,if_neg (by decide)]
        rfl)
      clear hx
      have C7:=hid (show Calls Tryz.prog 86 #[.pointer (some ⟨c,0,none⟩),.string ⟨#[40]⟩] w6 (MustPost c q5 d5 [40] w6) from must_any c q5 d5 ⟨#[40]⟩ w6 H6.out)
      go_wp2_with fail
      refine C7.out.mono ?_
      rintro e w7 ⟨rfl,ha,hg⟩
      obtain ⟨q7,d7,hcur7,hql7,hdd7,heq7⟩:=aft_next2 (must_less [40] q5) ha (fun _ q=>Got.bind (argsF n [41] q) fun xs q=>.ok (exCall nm.s ts (x :: xs) nm.o) q)
      have HEQ7:=hid (HE7.out.trans heq7)
      have R7:=hid (R6.out.later hg)
      have HR7:=hid (row_gb hg hlc HRL6.out)
      have hfl:d7=false→2*q7.length+2≤n:=fun h=>by
        obtain ⟨h1,h2⟩:=hdd7 h
        obtain ⟨h3,h4⟩:=HDD.out (HDD5.out h1)
        have:=HF.out
        omega
      have C8:=hid (show Calls Tryz.prog 140 #[.pointer (some ⟨c,0,none⟩),.string ⟨#[41]⟩] w7 (ExsRet c q7 d7 w7 (argsF n [41] q7)) from args_any n IH.out ⟨#[41]⟩ c q7 d7 w7 hcur7 hfl)
      clear ha hg heq7 hcur7 hfl C7 hdd7
      go_wp2_with fail
      refine C8.out.mono ?_
      rintro e w8 ⟨xs,A8,cap8,rfl,hrow,-,hxl,ha,hg⟩
      have HS7:=hid R7.out.big
      have R8:=hid (R7.out.later hg)
      have HR8:=hid (row_gb hg hlc HR7.out)
      have HX8:=hid (show Row w8 False (Fr (w.heap.size+3) w8) 8 A8 xs.length (Ex.dats xs) from hrow.wide fun k hk=>⟨Nat.le_trans HS7.out hk.1,hk.2⟩)
      have HA:=hid ha
      obtain ⟨cs,hcs,hlc2,hcc⟩:=row_flat HX8.out (fun d hd=>by rw [Ex.dats_map,List.mem_map] at hd;obtain ⟨y,_,rfl⟩:=hd;exact Ex.dat_size y)
      have HCS:=hid hcs
      have HLC:=hid hlc2
      have HCC:=hid hcc
      have HON:=hid (ins_cells (fun d hd u hu=>by rw [Ex.dats_map,List.mem_map] at hd;obtain ⟨y,_,rfl⟩:=hd;exact ex_one hu) hcs)
      have HSM:=hid (row_some hrow)
      have hbs:w.heap.size+2≤w8.heap.size:=by have:=R8.out.big;omega
      clear hrow ha hg C8 R7 hcs hlc2 hcc
      go_wp2_with (first | (at_builtin;refine wpList_append_row slEx rfl _ _ rfl rfl rfl R8.out.own hbs HLC.out HCC.out HON.out HSM.out (by omega) (by omega) ?_;intro v9 w9 hA9;obtain ⟨A9,c9,rfl,hrow9,hc9,ha9,hr9,ht9,hg9,hb9⟩:=call_app R8.out HCS.out hxl HA.out HR8.out hA9;have HX9:=hid hrow9;have HC9:=hid hc9;have HA9:=hid ha9;have HR9:=hid hr9;have HG9:=hid hg9;have HT9:=hid ht9;have HB9:=hid hb9;have HH:=hid R8.out.hS;clear hA9 hrow9 hc9 ha9 hr9 hg9 ht9 hb9 R8) | (refine storeOp flatEx 4 54 (b:=w.heap.size+1) (o:=0) (us:=[.int .i64 2,.string nm.s,.string ⟨#[]⟩,.slice none 0 0,.int .i64 0,.slice A5 ts.length cap5,.slice A9 (1+xs.length) c9,.int .i64 nm.o]) rfl rfl HT9.out (ex8_one rfl rfl rfl rfl rfl rfl rfl rfl) rfl ?_))
      refine bodyPost_ret (results_rest _ rfl (set_there (us:=[.int .i64 2,.string nm.s,.string ⟨#[]⟩,.slice none 0 0,.int .i64 0,.slice A5 ts.length cap5,.slice A9 (1+xs.length) c9,.int .i64 nm.o]) HT9.out) rfl) rfl ?_
      refine rest_fin HG9.out HB9.out HH.out hlt (t:=exCall nm.s ts (x :: xs) nm.o) (ex_shut (e:=exCall nm.s ts (x :: xs) nm.o) (by show nm.s.size≤_;have:=HZ.out;omega) (by show (0:Nat)≤_;omega) (lies_row.2 (Row.nil _ _ _ _ _)) (lies_row.2 (HR9.out.wide (lo_wide (by omega)))) HX9.out HC9.out) ?_
      rw [HEQ7.out,stop_if,stop_bind]
      exact aft_ret HA9.out (fun xs=>exCall nm.s ts (x :: xs) nm.o) rfl
    have e0:((ts.length:Int)==0)=false:=by simp only [beq_eq_false_iff_ne,ne_eq];omega
    have HM:=hid hm
    have HE7:=hid (show restF n x l=stop d5 q5 (Got.bind (must [40] q5) fun _ q=>Got.bind (argsF n [41] q) fun xs q=>.ok (exCall nm.s ts (x :: xs) nm.o) q) by
      rw [HEQ5.out,HIE.out,show (ts.length==0)=false by simpa using HM.out,Bool.false_and,if_neg (show ¬ (false=true) by decide)]
      exact stop_if _ _ _)
    clear hm
    have C7:=hid (show Calls Tryz.prog 86 #[.pointer (some ⟨c,0,none⟩),.string ⟨#[40]⟩] w5 (MustPost c q5 d5 [40] w5) from must_any c q5 d5 ⟨#[40]⟩ w5 H5.out)
    go_wp2_with fail
    refine C7.out.mono ?_
    rintro e w7 ⟨rfl,ha,hg⟩
    obtain ⟨q7,d7,hcur7,hql7,hdd7,heq7⟩:=aft_next2 (must_less [40] q5) ha (fun _ q=>Got.bind (argsF n [41] q) fun xs q=>.ok (exCall nm.s ts (x :: xs) nm.o) q)
    have HEQ7:=hid (HE7.out.trans heq7)
    have R7:=hid (R5.out.later hg)
    have HR7:=hid (row_gb hg hlc HRL.out)
    have hfl:d7=false→2*q7.length+2≤n:=fun h=>by
      obtain ⟨h1,h2⟩:=hdd7 h
      obtain ⟨h3,h4⟩:=HDD.out (HDD5.out h1)
      have:=HF.out
      omega
    have C8:=hid (show Calls Tryz.prog 140 #[.pointer (some ⟨c,0,none⟩),.string ⟨#[41]⟩] w7 (ExsRet c q7 d7 w7 (argsF n [41] q7)) from args_any n IH.out ⟨#[41]⟩ c q7 d7 w7 hcur7 hfl)
    clear ha hg heq7 hcur7 hfl C7 hdd7
    go_wp2_with fail
    refine C8.out.mono ?_
    rintro e w8 ⟨xs,A8,cap8,rfl,hrow,-,hxl,ha,hg⟩
    have HS7:=hid R7.out.big
    have R8:=hid (R7.out.later hg)
    have HR8:=hid (row_gb hg hlc HR7.out)
    have HX8:=hid (show Row w8 False (Fr (w.heap.size+3) w8) 8 A8 xs.length (Ex.dats xs) from hrow.wide fun k hk=>⟨Nat.le_trans HS7.out hk.1,hk.2⟩)
    have HA:=hid ha
    obtain ⟨cs,hcs,hlc2,hcc⟩:=row_flat HX8.out (fun d hd=>by rw [Ex.dats_map,List.mem_map] at hd;obtain ⟨y,_,rfl⟩:=hd;exact Ex.dat_size y)
    have HCS:=hid hcs
    have HLC:=hid hlc2
    have HCC:=hid hcc
    have HON:=hid (ins_cells (fun d hd u hu=>by rw [Ex.dats_map,List.mem_map] at hd;obtain ⟨y,_,rfl⟩:=hd;exact ex_one hu) hcs)
    have HSM:=hid (row_some hrow)
    have hbs:w.heap.size+2≤w8.heap.size:=by have:=R8.out.big;omega
    clear hrow ha hg C8 R7 hcs hlc2 hcc
    go_wp2_with (first | (at_builtin;refine wpList_append_row slEx rfl _ _ rfl rfl rfl R8.out.own hbs HLC.out HCC.out HON.out HSM.out (by omega) (by omega) ?_;intro v9 w9 hA9;obtain ⟨A9,c9,rfl,hrow9,hc9,ha9,hr9,ht9,hg9,hb9⟩:=call_app R8.out HCS.out hxl HA.out HR8.out hA9;have HX9:=hid hrow9;have HC9:=hid hc9;have HA9:=hid ha9;have HR9:=hid hr9;have HG9:=hid hg9;have HT9:=hid ht9;have HB9:=hid hb9;have HH:=hid R8.out.hS;clear hA9 hrow9 hc9 ha9 hr9 hg9 ht9 hb9 R8) | (refine storeOp flatEx 4 54 (b:=w.heap.size+1) (o:=0) (us:=[.int .i64 2,.string nm.s,.string ⟨#[]⟩,.slice none 0 0,.int .i64 0,.slice A5 ts.length cap5,.slice A9 (1+xs.length) c9,.int .i64 nm.o]) rfl rfl HT9.out (ex8_one rfl rfl rfl rfl rfl rfl rfl rfl) rfl ?_))
    refine bodyPost_ret (results_rest _ rfl (set_there (us:=[.int .i64 2,.string nm.s,.string ⟨#[]⟩,.slice none 0 0,.int .i64 0,.slice A5 ts.length cap5,.slice A9 (1+xs.length) c9,.int .i64 nm.o]) HT9.out) rfl) rfl ?_
    refine rest_fin HG9.out HB9.out HH.out hlt (t:=exCall nm.s ts (x :: xs) nm.o) (ex_shut (e:=exCall nm.s ts (x :: xs) nm.o) (by show nm.s.size≤_;have:=HZ.out;omega) (by show (0:Nat)≤_;omega) (lies_row.2 (Row.nil _ _ _ _ _)) (lies_row.2 (HR9.out.wide (lo_wide (by omega)))) HX9.out HC9.out) ?_
    rw [HEQ7.out,stop_if,stop_bind]
    exact aft_ret HA9.out (fun xs=>exCall nm.s ts (x :: xs) nm.o) rfl
  have HI:=hid (show isT [40] l=true by rw [←nextB_false];exact hx)
  obtain ⟨t1,r1,rfl,-,-⟩:=isT_cons HI.out
  have H3:=hid (show Cur w3 c r1 false by rw [takeL,hx] at hc3;exact hc3)
  clear hx hc3
  have C4:=hid (type_any n c r1 false w3 H3.out (by have:=HF.out;simp only [List.length_cons] at this;omega))
  go_wp2_with fail
  refine C4.out.mono ?_
  rintro e w4 ⟨t,us,rfl,hd,ha,hg⟩
  obtain ⟨B,m,c1,rfl,hsz,hli⟩:=ty_open hd
  obtain ⟨q,d,hcur,hql,hdd,heq⟩:=aft_next2 (b:=false) (tyF_less n r1) ha (fun t q=>Got.bind (must [41] q) fun _ q=>.ok (exAssert t x (off (t1 :: r1))) q)
  have HEQ:=hid ((rest_pos n x t1 r1 HI.out).trans heq)
  obtain ⟨W4,hW4⟩:∃ W,w4.alloc (.cells #[.string t.name,.slice B m c1,.int .i64 t.off] 29)=W:=⟨_,rfl⟩
  have hb4:Below w4.heap.size w4 W4:=hW4▸(Below.refl _ _).alloc (Nat.le_refl _) _
  have R4:=hid (R3.out.later (gb_trans hg (gb_of (some c) hb4)))
  have HS3:=hid R3.out.big
  have H4:=hid (hcur.later hb4)
  have hlc:c<w.heap.size+3:=by omega
  have HD4:=hid (in_gb (gb_of (some c) hb4) hlc (hd.wide (S':=Fr (w.heap.size+3) w4) fun k hk=>⟨Nat.le_trans HS3.out hk.1,hk.2⟩))
  have HG4:=hid (show w.heap.size+3≤w4.heap.size from Nat.le_trans HS3.out hg.size)
  have HB4:=hid (show Boxd W4 w4.heap.size [.string t.name,.slice B m c1,.int .i64 t.off] from hW4▸Boxd.new w4 #[.string t.name,.slice B m c1,.int .i64 t.off] 29)
  have HW4:=hid hW4
  clear hd ha hg heq hcur C4 hli hdd hW4 hb4 R3 H3 HI hsz
  go_wp2_with fail
  rw [HW4.out]
  have C5:=hid (show Calls Tryz.prog 86 #[.pointer (some ⟨c,0,none⟩),.string ⟨#[41]⟩] W4 (MustPost c q d [41] W4) from must_any c q d ⟨#[41]⟩ W4 H4.out)
  refine C5.out.mono ?_
  rintro e w5 ⟨rfl,ha,hg⟩
  have HA:=hid ha
  have R5:=hid (R4.out.later hg)
  have HT:=hid R5.out.res
  have HD5:=hid (in_gb hg hlc HD4.out)
  have HB5:=hid (boxd_at0 (boxd_gb hg (by have:=HG4.out;omega:w4.heap.size≠c) HB4.out))
  clear ha hg C5 R4 H4 HW4
  go_wp2_with (first | (refine loadOp flatTy 7 21 rfl HB5.out rfl ?_) | (refine storeOp flatEx 4 24 (b:=w.heap.size+1) (o:=0) (us:=[.int .i64 5,.string ⟨#[]⟩,.string t.name,.slice B m c1,.int .i64 t.off,.slice none 0 0,.slice (some ⟨w.heap.size+2,0,none⟩) 1 1,.int .i64 oo]) rfl rfl HT.out (ex8_one rfl rfl rfl rfl rfl rfl rfl rfl) rfl ?_))
  refine bodyPost_ret (results_rest _ rfl (set_there (us:=[.int .i64 5,.string ⟨#[]⟩,.string t.name,.slice B m c1,.int .i64 t.off,.slice none 0 0,.slice (some ⟨w.heap.size+2,0,none⟩) 1 1,.int .i64 oo]) HT.out) rfl) rfl ?_
  refine R5.out.fin (t:=exAssert t x oo) ?_ ?_
  · obtain ⟨B2,m2,c2,e,h1,h2⟩:=ty_open (HD5.out.wide (S':=fun k=>S k∨(w.heap.size+2≤k∧k<w5.heap.size)) (lo_wide (by omega)))
    simp only [List.cons.injEq,Value.slice.injEq,and_true,true_and] at e
    obtain ⟨rfl,rfl,rfl⟩:=e
    exact ex_shut (e:=exAssert t x oo) (by show (0:Nat)≤_;omega) h1 h2 (lies_row.2 (Row.nil _ _ _ _ _)) R5.out.one (Nat.le_refl _)
  rw [HEQ.out,HOO.out,stop_if,stop_bind]
  exact aft_ret HA.out (fun _=>exAssert t x oo) rfl
open Go.RowKit
def curLen (c:Nat) (w:World):Nat:=lenOf ((w.cell? ⟨c,0,none⟩).getD .nilIface)
theorem Cur.curLen {w:World} {c:Nat} {l:List Tk} {b:Bool} (h:Cur w c l b):curLen c w=l.length:=by
  obtain ⟨A,cap,h1,-⟩:=h.mem
  rw [Rd.curLen,h1]
  rfl
structure XRel (w wr:World) (c g:Nat) (l:List Tk) (b:Bool) (n m:Nat) (e:Ex) (us:List Value) (q:List Tk) (d:Bool):Prop where
  cur:Cur wr c q d
  box:Boxd wr g us
  own:wr.there g 0 8
  res:wr.there w.heap.size 0 8
  dat:e.dat.In wr False (fun k=>w.heap.size+1≤k∧k<wr.heap.size∧k≠g) us
  gb:w.grownBy wr (some c)
  glt:g<wr.heap.size
  fuel:d=false→2*q.length+1≤m
  less:m≤n
  act:d=false→b=false
  eq:stop b l (exF (n+1) l)=if d then .bad q else restsF m e q
theorem results_expr {w:World} {b:Nat} {us:List Value} (tmps:Array Value) (ht:tmps[2]?.getD undef=.pointer (some ⟨b,0,none⟩)) (hc:Boxd w b us) (hl:us.length=8):(results Tryz.f85 tmps).run Tryz.prog w=.ok (.agg us.toArray) w:=by
  have h:=run_cell flatEx hc hl
  have h2:=run_addr ⟨b,0,none⟩ w
  simp [results,Tryz.results85,ht,h,h2,Sem.run_bind,Result.andThen]
theorem ex_len {w:World} {N:Prop} {S:Nat→Prop} {e:Ex} {us:List Value} (h:e.dat.In w N S us):us.length=8:=(Dat.In.len _ _ h).trans (Ex.dat_size e)
theorem set_boxd {w:World} {g:Nat} {us:List Value} (h:w.there g 0 8) (hl:us.length=8):Boxd (w.setCells g 0 us) g us:=set_there (by rw [hl];exact h)
theorem expr_core (n c:Nat) (l:List Tk) (b:Bool) (w:World) (h:Cur w c l b) (hf:b=false→2*l.length+2≤n+1) (ih:b=false→∀ m,m≤n→ExAt m)
    (hfirst:∀ W,Cur W c l b→Calls Tryz.prog 119 #[.pointer (some ⟨c,0,none⟩)] W (ExRet c l b W (firstF n l))):Calls Tryz.prog 85 #[.pointer (some ⟨c,0,none⟩)] w (ExRet c l b w (exF (n+1) l)):=by
  have hlt:=h.lt
  obtain ⟨W0,hW0⟩:∃ W,w.alloc (.cells #[.int .i64 0,.string ⟨#[]⟩,.string ⟨#[]⟩,.slice none 0 0,.int .i64 0,.slice none 0 0,.slice none 0 0,.int .i64 0] 34)=W:=⟨_,rfl⟩
  have hb0:Below w.heap.size w W0:=hW0▸(Below.refl _ _).alloc (Nat.le_refl _) _
  have HS0:=hid (show W0.heap.size=w.heap.size+1 by rw [←hW0];simp)
  have HW0:=hid hW0
  have HB0:=hid hb0
  have HT0:=hid (show W0.there w.heap.size 0 8 from hW0▸there_new w #[.int .i64 0,.string ⟨#[]⟩,.string ⟨#[]⟩,.slice none 0 0,.int .i64 0,.slice none 0 0,.slice none 0 0,.int .i64 0] 34)
  have HF:=hid hf
  have IH:=hid ih
  have C1:=hid (hfirst W0 (h.later hb0))
  clear h hW0 hb0 hf ih hfirst
  go_enter Tryz.func85,Tryz.ntmps85
  go_wp2_with fail
  rw [HW0.out]
  refine C1.out.mono ?_
  rintro e w1 ⟨t,us,rfl,hd,ha,hg⟩
  obtain ⟨y1,y2,y3,y4,y5,y6,y7,y8,y9,rfl,-⟩:=ex_open hd
  obtain ⟨q,d,hcur,hql,hdd,heq⟩:=aft_next2 (firstF_less n l) ha (fun e q=>restsF n e q)
  have HEQ:=hid heq
  have HDD:=hid hdd
  obtain ⟨W1,hW1⟩:∃ W,w1.alloc (.cells #[.int .i64 t.kind,.string t.name,.string t.ty.name,.slice y1 y2 y3,.int .i64 t.ty.off,.slice y4 y5 y6,.slice y7 y8 y9,.int .i64 t.off] 34)=W:=⟨_,rfl⟩
  have hb1:Below w1.heap.size w1 W1:=hW1▸(Below.refl _ _).alloc (Nat.le_refl _) _
  have hs1:W0.heap.size≤w1.heap.size:=hg.size
  have hsz:W1.heap.size=w1.heap.size+1:=by rw [←hW1];simp
  have hg2:=gb_trans hg (gb_of (some c) hb1)
  have HX:=hid (show XRel w W1 c w1.heap.size l b n n t [.int .i64 t.kind,.string t.name,.string t.ty.name,.slice y1 y2 y3,.int .i64 t.ty.off,.slice y4 y5 y6,.slice y7 y8 y9,.int .i64 t.off] q d from by
    refine ⟨hcur.later hb1,hW1▸Boxd.new w1 #[.int .i64 t.kind,.string t.name,.string t.ty.name,.slice y1 y2 y3,.int .i64 t.ty.off,.slice y4 y5 y6,.slice y7 y8 y9,.int .i64 t.off] 34,hW1▸there_new w1 #[.int .i64 t.kind,.string t.name,.string t.ty.name,.slice y1 y2 y3,.int .i64 t.ty.off,.slice y4 y5 y6,.slice y7 y8 y9,.int .i64 t.off] 34,
      there_gb HT0.out (by rw [HS0.out];omega) (by omega) hg2,?_,gb_trans (gb_of (some c) HB0.out) hg2,by omega,fun h=>?_,Nat.le_refl _,fun h=>(hdd h).1,by rw [exF_succ];exact heq⟩
    · refine (hd.later hb1 fun k hk=>hk.2).wide fun k hk=>⟨?_,?_,?_⟩
      · have:=hk.1;rw [HS0.out] at this;exact this
      · have:=hk.2;omega
      have:=hk.2;omega
    obtain ⟨h1,h2⟩:=hdd h
    have:=HF.out h1
    omega)
  have hwg:w.heap.size<w1.heap.size:=by have:=HS0.out;omega
  have HW1:=hid hW1
  clear hd ha hg heq hcur C1 hdd hW1 hb1 hg2 hsz
  go_wp2_with fail
  rw [HW1.out]
  obtain ⟨g,hgg⟩:∃ g,w1.heap.size=g:=⟨_,rfl⟩
  rw [hgg] at HX hwg
  clear HW1
  simp only [hgg]
  clear hgg hs1
  go_loopw [7] (fun _ wr=>∃ m e us q d,XRel w wr c g l b n m e us q d) (fun _ wr=>curLen c wr)
  case atStart=>exact ⟨_,_,_,_,_,HX.out⟩
  obtain ⟨m,e,us,q,d,hr⟩:=hrel
  have HR:=hid hr
  have CT:=hid (show Calls Tryz.prog 92 #[.pointer (some ⟨c,0,none⟩),.string ⟨#[46]⟩] wr (TakePost c q d [46] wr) from take_any c q d ⟨#[46]⟩ wr hr.cur)
  have HL:=hid (ex_len hr.dat)
  have HO:=hid (ex_one hr.dat)
  have hgc:g≠c:=by omega
  have hwc:w.heap.size≠c:=by omega
  have hsw:w.heap.size≤wr.heap.size:=hr.gb.size
  have HCL:=hid hr.cur.curLen
  clear hr HX
  cases hx:nextB d [46] q
  · have HXN:=hid hx
    clear hx
    go_wp2_with fail
    refine CT.out.mono ?_
    rintro e w2 ⟨rfl,hc,hg⟩
    rw [HXN.out]
    rw [takeL,HXN.out] at hc
    have HC:=hid (show Cur w2 c q d from hc)
    have HB:=hid (boxd_at0 (boxd_gb hg hgc HR.out.box))
    have HT:=hid (there_gb HR.out.res (Nat.lt_of_lt_of_le (by have:=HR.out.glt;omega) (Nat.le_refl _)) hwc hg)
    have HT8:=hid (show w2.there w.heap.size 0 us.length by rw [HL.out];exact HT.out)
    have HD:=hid (Dat.In.keep id (gb_kept hg fun k hk=>⟨hk.2.1,by have:=hk.1;omega⟩) (fun k hk=>(⟨hk.1,Nat.lt_of_lt_of_le hk.2.1 hg.size⟩:Fr (w.heap.size+1) w2 k)) _ _ HR.out.dat)
    have HG:=hid (gb_trans HR.out.gb hg)
    clear hc hg CT
    go_wp2_with (first | (refine loadOp flatEx 3 11 rfl HB.out HL.out ?_) | (refine storeOp flatEx 2 11 (b:=w.heap.size) (o:=0) (us:=us) rfl rfl HT8.out HO.out HL.out ?_))
    refine bodyPost_ret (results_expr _ rfl (set_boxd HT.out HL.out) HL.out) rfl ?_
    refine ⟨_,us,rfl,(in_sets HD.out (Nat.lt_succ_self _) 0 us).wide fun k hk=>⟨by have:=hk.1;omega,hk.2⟩,?_,gb_sets (some c) HG.out (Nat.le_refl _) _ _⟩
    rw [HR.out.eq]
    have hcu:=HC.out.up (below_sets hlt us 0 w2)
    cases d
    · obtain ⟨k,rfl⟩:∃ k,m=k+1:=⟨m-1,by have:=HR.out.fuel rfl;omega⟩
      rw [if_neg (by decide),restsF_succ,←nextB_false,HXN.out]
      exact ⟨rfl,hcu⟩
    exact hcu
  have HXN:=hid hx
  obtain ⟨rfl,hi⟩:=nextB_cons hx
  obtain ⟨t0,r,rfl,-,-⟩:=isT_cons hi
  obtain ⟨k,rfl⟩:∃ k,m=k+1:=⟨m-1,by have:=HR.out.fuel rfl;omega⟩
  have HI:=hid hi
  clear hx hi
  go_wp2_with fail
  refine CT.out.mono ?_
  rintro e w2 ⟨rfl,hc,hg⟩
  rw [HXN.out]
  rw [takeL,HXN.out] at hc
  have HC:=hid (show Cur w2 c r false from hc)
  have HB:=hid (boxd_at0 (boxd_gb hg hgc HR.out.box))
  have hgl2:g<w2.heap.size:=Nat.lt_of_lt_of_le HR.out.glt hg.size
  have HT2:=hid (there_gb HR.out.res (by have:=HR.out.glt;omega) hwc hg)
  have HO2:=hid (there_gb HR.out.own HR.out.glt hgc hg)
  have HD:=hid (Dat.In.keep id (gb_kept hg fun k hk=>⟨hk.2.1,by have:=hk.1;omega⟩) (fun k hk=>(⟨hk.1,Nat.lt_of_lt_of_le hk.2.1 hg.size,hk.2.2⟩:w.heap.size+1≤k∧k<w2.heap.size∧k≠g)) _ _ HR.out.dat)
  have HG2:=hid (gb_trans HR.out.gb hg)
  have CR:=hid (rest_any k (fun m hm=>IH.out (HR.out.act rfl) m (by have:=HR.out.less;omega)) e us (fun k=>w.heap.size+1≤k∧k<w2.heap.size∧k≠g) c r w2 HC.out (fun k hk=>⟨hk.2.1,by have:=hk.1;omega⟩) HD.out (by have:=HR.out.fuel rfl;simp only [List.length_cons] at this;omega))
  clear hc hg CT
  go_wp2_with (refine loadOp flatEx 3 9 rfl HB.out HL.out ?_)
  refine CR.out.mono ?_
  rintro e3 w3 ⟨t,vs,rfl,hd,ha,hg⟩
  have HVL:=hid (ex_len hd)
  have HVO:=hid (ex_one hd)
  have HT3:=hid (there_gb HO2.out hgl2 hgc hg)
  have HT38:=hid (show w3.there g 0 vs.length by rw [HVL.out];exact HT3.out)
  have HR3:=hid (there_gb HT2.out (by omega) hwc hg)
  have HD3:=hid hd
  have HA3:=hid ha
  have HG3:=hid (gb_trans HG2.out hg)
  have hgl3:g<w3.heap.size:=Nat.lt_of_lt_of_le hgl2 hg.size
  have hs23:=hg.size
  clear hd ha hg CR HB
  go_wp2_with (refine storeOp flatEx 3 10 (b:=g) (o:=0) (us:=vs) rfl rfl HT38.out HVO.out HVL.out ?_)
  go_roundw
  case rel =>
    have hup:Below (c+1) w3 (w3.setCells g 0 vs):=below_sets (by omega) vs 0 w3
    obtain ⟨q',d',g1,g2,g3,g4⟩:=aft_next2 (b:=false) (restF_less k e r) (HA3.out.up hup) (fun e q=>restsF k e q)
    refine ⟨_,_,_,_,_,⟨k,t,vs,q',d',g1,set_boxd HT3.out HVL.out,World.there_setCells HT3.out _ _ _,World.there_setCells HR3.out _ _ _,?_,gb_sets (some c) HG3.out (by omega) _ _,by rw [size_sets];exact hgl3,fun h=>?_,by have:=HR.out.less;omega,fun _=>HR.out.act rfl,?_⟩,rfl⟩
    · refine Dat.In.keep id (gb_kept (gb_sets1 w3 g 0 vs) fun k hk=>?_) (fun k hk=>?_) _ _ HD3.out
      · rcases hk with hk | hk
        · exact ⟨by omega,hk.2.2⟩
        exact ⟨hk.2,by have:=hk.1;omega⟩
      rw [size_sets]
      rcases hk with hk | hk
      · exact ⟨hk.1,by omega,hk.2.2⟩
      exact ⟨by have:=hk.1;omega,hk.2,by have:=hk.1;omega⟩
    · have:=HR.out.fuel rfl;simp only [List.length_cons] at this;omega
    rw [HR.out.eq,if_neg (by decide),restsF_succ,HI.out,if_pos rfl]
    exact g4
  case measure =>
    have hup:Below (c+1) w3 (w3.setCells g 0 vs):=below_sets (by omega) vs 0 w3
    obtain ⟨q',d',g1,g2,g3,g4⟩:=aft_next2 (b:=false) (restF_less k e r) (HA3.out.up hup) (fun e q=>restsF k e q)
    rw [HCL.out,g1.curLen]
    simp only [List.length_cons]
    omega
theorem targs_bad (c:Nat) (l:List Tk) (w:World) (h:Cur w c l true):Calls Tryz.prog 141 #[.pointer (some ⟨c,0,none⟩)] w (fun e w'=>e=.returned (.slice none 0 0)∧Cur w' c l true∧w.grownBy w' (some c)):=by
  have CT:=hid (show Calls Tryz.prog 92 #[.pointer (some ⟨c,0,none⟩),.string ⟨#[91]⟩] w (fun e w'=>e=.returned (.bool false)∧Cur w' c l true∧w.grownBy w' (some c)) from take_any c l true ⟨#[91]⟩ w h)
  clear h
  go_enter Tryz.func141,Tryz.ntmps141
  go_wp2_with fail
  refine CT.out.mono ?_
  rintro e w2 ⟨rfl,hc,hg⟩
  have HC:=hid hc
  have HG2:=hid hg
  clear hc hg
  go_wp2_with fail
  go_ret
  exact ⟨rfl,HC.out,HG2.out⟩
theorem type_bad (c:Nat) (l:List Tk) (w:World) (h:Cur w c l true):Calls Tryz.prog 133 #[.pointer (some ⟨c,0,none⟩)] w (fun e w'=>∃ (s:ByteArray) (o:Int),e=.returned (.agg #[.string s,.slice none 0 0,.int .i64 o])∧s.size≤100000∧Cur w' c l true∧w.grownBy w' (some c)):=by
  have hlt:=h.lt
  obtain ⟨W0,hW0⟩:∃ W,w.alloc (.cells #[.string ⟨#[]⟩,.slice none 0 0,.int .i64 0] 29)=W:=⟨_,rfl⟩
  have hb0:Below w.heap.size w W0:=hW0▸(Below.refl _ _).alloc (Nat.le_refl _) _
  have HS0:=hid (show W0.heap.size=w.heap.size+1 by rw [←hW0];simp)
  have H:=hid (h.later hb0)
  have HW0:=hid hW0
  have HB0:=hid hb0
  have HT0:=hid (show W0.there w.heap.size 0 3 from hW0▸there_new w #[.string ⟨#[]⟩,.slice none 0 0,.int .i64 0] 29)
  clear h hW0 hb0
  go_enter Tryz.func133,Tryz.ntmps133
  go_wp2_with fail
  rw [HW0.out]
  refine (name_any c l true W0 H.out).mono ?_
  rintro e w1 ⟨nm,rfl,hz,ha,hg⟩
  have HZ:=hid hz
  have HG1:=hid hg
  have C2:=hid (targs_bad c l w1 ha)
  clear ha hg hz
  go_wp2_with fail
  refine C2.out.mono ?_
  rintro e w2 ⟨rfl,hc,hg⟩
  have HC:=hid hc
  have HG2:=hid (gb_trans HG1.out hg)
  have HT2:=hid (there_gb HT0.out (by rw [HS0.out];omega) (by omega) HG2.out)
  clear hc hg C2
  go_wp2_with (refine storeOp flatTy 2 14 (b:=w.heap.size) (o:=0) (us:=[.string nm.s,.slice none 0 0,.int .i64 nm.o]) rfl rfl HT2.out (by intro u hu;simp only [List.mem_cons,List.not_mem_nil,or_false] at hu;rcases hu with rfl | rfl | rfl<;>rfl) rfl ?_)
  refine bodyPost_ret (results_type _ rfl (set_there (us:=[.string nm.s,.slice none 0 0,.int .i64 nm.o]) HT2.out) rfl) rfl ?_
  exact ⟨nm.s,nm.o,rfl,HZ.out,HC.out.up (below_sets hlt _ _ _),gb_sets (some c) (gb_trans (gb_of (some c) HB0.out) HG2.out) (Nat.le_refl _) _ _⟩
theorem first_bad (g:Got Ex) (c:Nat) (l:List Tk) (w:World) (h:Cur w c l true):Calls Tryz.prog 119 #[.pointer (some ⟨c,0,none⟩)] w (ExRet c l true w g):=by
  have hlt:=h.lt
  obtain ⟨W0,hW0⟩:∃ W,w.alloc (.cells #[.int .i64 0,.string ⟨#[]⟩,.string ⟨#[]⟩,.slice none 0 0,.int .i64 0,.slice none 0 0,.slice none 0 0,.int .i64 0] 34)=W:=⟨_,rfl⟩
  have hb0:Below w.heap.size w W0:=hW0▸(Below.refl _ _).alloc (Nat.le_refl _) _
  have HS0:=hid (show W0.heap.size=w.heap.size+1 by rw [←hW0];simp)
  have HW0:=hid hW0
  have HB0:=hid hb0
  have HT0:=hid (show W0.there w.heap.size 0 8 from hW0▸there_new w #[.int .i64 0,.string ⟨#[]⟩,.string ⟨#[]⟩,.slice none 0 0,.int .i64 0,.slice none 0 0,.slice none 0 0,.int .i64 0] 34)
  have C1:=hid (type_bad c l W0 (h.later hb0))
  clear h hW0 hb0
  go_enter Tryz.func119,Tryz.ntmps119
  go_wp2_with fail
  rw [HW0.out]
  refine C1.out.mono ?_
  rintro e w1 ⟨s,o,rfl,hz,hc,hg⟩
  obtain ⟨W1,hW1⟩:∃ W,w1.alloc (.cells #[.string s,.slice none 0 0,.int .i64 o] 29)=W:=⟨_,rfl⟩
  have hb1:Below w1.heap.size w1 W1:=hW1▸(Below.refl _ _).alloc (Nat.le_refl _) _
  have HC1:=hid (hc.later hb1)
  have HG1:=hid (gb_trans hg (gb_of (some c) hb1))
  have HB1:=hid (show Boxd W1 w1.heap.size [.string s,.slice none 0 0,.int .i64 o] from hW1▸Boxd.new w1 #[.string s,.slice none 0 0,.int .i64 o] 29)
  have HW1:=hid hW1
  have HZ:=hid hz
  clear hc hg C1 hW1 hb1 hz
  go_wp2_with fail
  rw [HW1.out]
  have C2:=hid (show Calls Tryz.prog 125 #[.pointer (some ⟨c,0,none⟩),.string ⟨#[123]⟩] W1 (fun e w'=>e=.returned (.bool false)∧Below W1.heap.size W1 w') from next_any c l true ⟨#[123]⟩ W1 HC1.out)
  refine C2.out.mono ?_
  rintro e w2 ⟨rfl,hb2⟩
  have HC2:=hid (HC1.out.later hb2)
  have HG2:=hid (gb_trans HG1.out (gb_of (some c) hb2))
  have HB2:=hid (HB1.out.later hb2)
  have HT2:=hid (there_gb HT0.out (by rw [HS0.out];omega) (by omega) HG2.out)
  have y0:=HB2.out 0 _ rfl
  have y2:=HB2.out 2 _ rfl
  clear hb2 C2
  go_wp2_with (refine storeOp flatEx 2 19 (b:=w.heap.size) (o:=0) (us:=[.int .i64 1,.string s,.string ⟨#[]⟩,.slice none 0 0,.int .i64 0,.slice none 0 0,.slice none 0 0,.int .i64 o]) rfl rfl HT2.out (ex8_one rfl rfl rfl rfl rfl rfl rfl rfl) rfl ?_)
  refine bodyPost_ret (results_first _ rfl (set_there (us:=[.int .i64 1,.string s,.string ⟨#[]⟩,.slice none 0 0,.int .i64 0,.slice none 0 0,.slice none 0 0,.int .i64 o]) HT2.out) rfl) rfl ?_
  exact ⟨exVar s o,_,rfl,exVar_in (by have:=HZ.out;omega),HC2.out.up (below_sets hlt _ _ _),gb_sets (some c) (gb_trans (gb_of (some c) HB0.out) HG2.out) (Nat.le_refl _) _ _⟩
theorem expr_zero:ExAt 0:=by
  intro c l b w h hf
  cases b
  · exfalso;have:=hf rfl;omega
  exact (expr_core 0 c l true w h (fun h=>by cases h) (fun h=>by cases h) fun W hW=>first_bad _ c l W hW).mono fun e w' h=>h
theorem expr_step (n:Nat) (ih:∀ m,m≤n→ExAt m):ExAt (n+1):=fun c l b w h hf =>
  expr_core n c l b w h hf (fun _=>ih) fun W hW=>first_any n ih c l b W hW fun h=>by have:=hf h;omega
theorem expr_all (n:Nat):∀ m,m≤n→ExAt m:=by
  induction n with
  | zero =>
    intro m hm
    obtain rfl:m=0:=by omega
    exact expr_zero
  | succ n ih =>
    intro m hm
    rcases Nat.lt_or_ge m (n+1) with h | h
    · exact ih m (by omega)
    obtain rfl:m=n+1:=by omega
    exact expr_step n ih
theorem expr_any (n:Nat):ExAt n:=expr_all n n (Nat.le_refl _)
