/- The walks of read.list at types, and of the methods targs and Type of read.Cursor: they read what the plain words say. The condition: the cursor stands in tokens of a text. -/
import Derived.Test.YtkdlidakdknhjaaGreatDoorQDRdD
import Derived.Deep.DeepCutAuto
set_option maxRecDepth 100000
set_option maxHeartbeats 4000000
open Go.Lib (hid)
namespace Go.Proofs.YtkdlidakdknhjaaGreatDoor.Rd
open Go.RowKit
def TyRet (c:Nat) (l:List Tk) (b:Bool) (w:World) (g:Got Ty) (e:Ending) (w':World):Prop:=∃ (t:Ty) (us:List Value),e=.returned (.agg us.toArray)∧t.dat.In w' False (Fr w.heap.size w') us∧Aft w' c t (stop b l g)∧w.grownBy w' (some c)
def TysRet (c:Nat) (l:List Tk) (b:Bool) (w:World) (g:Got (List Ty)) (e:Ending) (w':World):Prop:=∃ (ts:List Ty) (A:Option Addr) (cap:Nat),e=.returned (.slice A ts.length cap)∧Row w' False (Fr w.heap.size w') 3 A ts.length (Ty.dats ts)∧Aft w' c ts (stop b l g)∧w.grownBy w' (some c)
def TyAt (n:Nat):Prop:=∀ (c:Nat) (l:List Tk) (b:Bool) (w:World),Cur w c l b→2*l.length+1≤n→Calls Tryz.prog 133 #[.pointer (some ⟨c,0,none⟩)] w (TyRet c l b w (tyF n l))
structure ListRel (w wr:World) (c:Nat) (v:Value) (l:List Tk) (b:Bool) (n:Nat) (m:Nat) (acc:List Ty) (q:List Tk) (d:Bool):Prop where
  cur:Cur wr c q d
  row:Built wr False 29 3 w.heap.size v acc.length (Ty.dats acc)
  gb:w.grownBy wr (some c)
  fuel:2*q.length+1≤m
  less:m≤n
  few:acc.length+q.length≤100001
  eq:stop b l (manyF n l)=if d then .bad q else moreF m acc q
theorem dats_snoc (xs:List Ty) (x:Ty):Ty.dats (xs++[x])=Ty.dats xs++[x.dat]:=by rw [Ty.dats_map,Ty.dats_map,List.map_append];rfl
theorem infoTyR:(Tryz.prog.info? 29).map (fun i=>(i.zero,i.size,i.bytes))=some (some (.agg #[.string ⟨#[]⟩,.slice none 0 0,.int .i64 0]),3,48):=by kernel_rfl
def lenOf:Value→Nat
  | .slice _ n _=>n
  | _=>0
theorem stop_false {α:Type} (l:List Tk) (g:Got α):stop false l g=g:=rfl
theorem stop_bind {α β:Type} (b:Bool) (l:List Tk) (g:Got α) (f:α→List Tk→Got β):stop b l (Got.bind g f)=Got.bind (stop b l g) f:=by cases b<;>rfl
theorem stop_ends {α:Type} {b:Bool} {l:List Tk} {g:Got α} (h:Got.Ends l g):Got.Ends l (stop b l g):=by
  cases b
  · exact h
  exact ends_bad l
theorem aft_next {α β:Type} {w:World} {c:Nat} {t:α} {r:List Tk} {g:Got α} (he:Got.Ends r g) (h:Aft w c t g) (f:α→List Tk→Got β):∃ q d,Cur w c q d∧q.length≤r.length∧Got.bind g f=if d then .bad q else f t q:=by
  cases g with
  | ok u q=>obtain ⟨rfl,h2⟩:=h;exact ⟨q,false,h2,he.length_le,rfl⟩
  | bad q=>exact ⟨q,true,h,he.length_le,rfl⟩
theorem listTy_any (n:Nat) (ih:∀ m,m≤n→TyAt m) (c:Nat) (l:List Tk) (b:Bool) (w:World) (h:Cur w c l b) (hf:2*l.length+1≤n) :
    Calls Tryz.prog 151 #[.pointer (some ⟨c,0,none⟩),.func (.func 133) #[.pointer (some ⟨c,0,none⟩)] #[]] w (TysRet c l b w (manyF n l)):=by
  have H:=hid h
  have HF:=hid hf
  have C0:=hid (ih n (Nat.le_refl _) c l b w h hf)
  have IH:=hid ih
  have hcl:=h.lt
  clear h hf ih
  obtain ⟨i0,hi0,hz0,hz1,hz2⟩:=info_parts infoTyR
  go_enter Tryz.func151,Tryz.ntmps151
  go_wp2_with fail
  refine C0.out.mono ?_
  rintro e w1 ⟨t,us,rfl,hd,ha,hg⟩
  obtain ⟨B,m0,c0,rfl,_⟩:=ty_open hd
  have HB:=hid (built_one (T:=29) hd hg.size (Ty.dat_size t))
  have hs1:=hg.size
  have HA:=hid (ha.later ((Below.refl _ _).alloc (Nat.le_refl _) (.cells #[.string t.name,.slice B m0 c0,.int .i64 t.off] 29)))
  have HG:=hid (gb_trans hg (gb_of (some c) ((Below.refl _ _).alloc (Nat.le_refl _) (.cells #[.string t.name,.slice B m0 c0,.int .i64 t.off] 29))))
  have HST:=hid (show ∃ q d,Cur (w1.alloc (.cells #[.string t.name,.slice B m0 c0,.int .i64 t.off] 29)) c q d∧q.length≤l.length∧stop b l (manyF n l)=(if d then .bad q else moreF n [t] q) by
    unfold manyF
    rw [stop_bind]
    exact aft_next (stop_ends (Less.ends (tyF_less n l))) HA.out _)
  clear hd ha hg C0
  go_wp2_with fail
  generalize hWW:w1.alloc (.cells #[.string t.name,.slice B m0 c0,.int .i64 t.off] 29)=W at *
  have hWs:W.heap.size=w1.heap.size+1:=by rw [←hWW];simp
  have HWS:=hid hWs
  clear hWW hWs
  go_loopw [5] (fun v wr=>∃ m acc q d,ListRel w wr c v l b n m acc q d∧1≤acc.length) (fun v _=>200000-lenOf v)
  case atStart =>
    obtain ⟨q,d,h1,h2,h3⟩:=HST.out
    refine ⟨n,[t],q,d,⟨h1,?_,HG.out,by have:=HF.out;omega,Nat.le_refl _,by have:=H.out.len;simp;omega,h3⟩,Nat.le_refl _⟩
    have:=HB.out
    rw [Ty.dats_map]
    exact this
  obtain ⟨m,acc,q,d,hr,ha1⟩:=hrel
  have HR:=hid hr
  obtain ⟨A,cap,hv,-⟩:=hr.row.row (by omega) (by have:=hr.few;omega)
  subst hv
  have hfew:=hr.few
  have hsw:=hr.gb.size
  have HA1:=hid ha1
  have CT:=hid (show Calls Tryz.prog 92 #[.pointer (some ⟨c,0,none⟩),.string ⟨#[44]⟩] wr (TakePost c q d [44] wr) from take_any c q d ⟨#[44]⟩ wr hr.cur)
  clear hr ha1
  cases hx:nextB d [44] q
  · have HX:=hid hx
    clear hx
    go_wp2_with fail
    refine CT.out.mono ?_
    rintro e w2 ⟨rfl,hc,hg⟩
    rw [HX.out]
    rw [takeL,HX.out] at hc
    have HC:=hid hc
    have HG2:=hid hg
    clear hc hg
    go_wp2_with fail
    go_ret
    obtain ⟨A2,cap2,e2,hrow,-⟩:=(built_gb HG2.out hcl HR.out.row).row (by omega) (by omega)
    injection e2 with e2 e3 e4
    subst e2 e4
    refine ⟨acc,A,cap,rfl,hrow,?_,gb_trans HR.out.gb HG2.out⟩
    rw [HR.out.eq]
    cases d
    · obtain ⟨k,rfl⟩:∃ k,m=k+1:=⟨m-1,by have:=HR.out.fuel;omega⟩
      have hi:isT [44] q=false:=by simpa [nextB] using HX.out
      rw [if_neg (by decide),moreF_succ,hi]
      exact ⟨rfl,HC.out⟩
    exact HC.out
  have HX:=hid hx
  obtain ⟨rfl,hi⟩:=nextB_cons hx
  obtain ⟨t0,r,rfl,-,-⟩:=isT_cons hi
  obtain ⟨k,rfl⟩:∃ k,m=k+1:=⟨m-1,by have:=HR.out.fuel;omega⟩
  have HI:=hid hi
  clear hx hi
  go_wp2_with fail
  refine CT.out.mono ?_
  rintro e w2 ⟨rfl,hc,hg⟩
  rw [HX.out]
  rw [takeL,HX.out] at hc
  have HC:=hid (show Cur w2 c r false from hc)
  have C3:=hid (IH.out k (by have:=HR.out.less;omega) c r false w2 HC.out (by have:=HR.out.fuel;simp only [List.length_cons] at this;omega))
  have HB2:=hid (built_gb hg hcl HR.out.row)
  have HG2:=hid (gb_trans HR.out.gb hg)
  clear hc hg CT
  go_wp2_with fail
  refine C3.out.mono ?_
  rintro e w3 ⟨t,us,rfl,hd,ha,hg⟩
  obtain ⟨B,m1,c1,rfl,_⟩:=ty_open hd
  have hs2:=hg.size
  have HS2:=hid HG2.out.size
  obtain ⟨cs,S,hown,hrows,hzs,hS⟩:=built_gb hg hcl HB2.out
  have HOW:=hid hown
  have HD:=hid hd
  have hol:=fun g (hgg:(Value.slice A acc.length cap).ownBlock=some g)=>(HB2.out.elim fun cs2 h2=>h2.elim fun S2 h3=>(h3.1.lt g hgg).2)
  have HSTP:=hid (fun (gg cp:Nat) (w5:World) h1 h2 h3=>built_more (w5:=w5) (gg:=gg) (cap:=cp) (T:=29) hown hrows hzs hS hd HS2.out hol (Ty.dat_size t) h1 h2 h3)
  have HA:=hid ha
  have HG3:=hid (gb_trans HG2.out hg)
  have hb3:w.heap.size≤(w3.alloc (.cells #[.string t.name,.slice B m1 c1,.int .i64 t.off] 29)).heap.size:=by have:=HG3.out.size;simp;omega
  have hlc:acc.length+1≤100002:=by omega
  clear hd ha hg hrows hzs hS hown C3 hol
  go_wp2_with (at_builtin;refine wpList_append_lies _ rfl _ _ 27 rfl w.heap.size 29 i0 _ 3 48 Tryz.underlying27 hi0 hz0 hz1 hz2 rfl (by omega) _ acc.length cs rfl (HOW.out.alloc _) ⟨w3.heap.size,0,none⟩ 1 1 [.string t.name,.slice B m1 c1,.int .i64 t.off] rfl rfl (World.news_of_block (cs:=#[.string t.name,.slice B m1 c1,.int .i64 t.off]) (t:=29) (fr:=(0,0)) (heap_alloc_new _ _)) (by simp [Value.oneCell']) (by omega) (by unfold maxLen;omega) (by omega) hb3 _ rfl ?_;intro gg cp w5 hown5 hgrow5 hat5 hlt5;have HO5:=hid (And.intro hown5 (And.intro hgrow5 hat5));clear hown5 hgrow5 hat5 hlt5)
  go_roundw
  case rel =>
    obtain ⟨h1,h2,h3⟩:=HO5.out
    have hrw:∀ g,(Value.slice A acc.length cap).ownBlock=some g→w.heap.size≤g:=fun g hgg=>(HOW.out.lt g hgg).1
    have hup:Below (c+1) w3 w5:=(((Below.refl w3.heap.size w3).alloc (Nat.le_refl _) _).mono (by have:=HG3.out.size;omega)).trans ((below_grown hb3 h2 hrw).mono hcl)
    obtain ⟨q',d',g1,g2,g3⟩:=aft_next (stop_ends (Less.ends (tyF_less k r))) (HA.out.up hup) (fun u q=>moreF k (acc++[u]) q)
    refine ⟨k,acc++[t],q',d',⟨g1,?_,gb_grown HG3.out ((Below.refl w3.heap.size w3).alloc (Nat.le_refl _) _) h2 hrw,?_,by have:=HR.out.less;omega,?_,?_⟩,by simp⟩
    · have:=HSTP.out gg cp w5 h1 h2 (h3.imp id fun h=>by simpa using h)
      rw [dats_snoc,List.length_append]
      exact this
    · have:=HR.out.fuel;simp only [List.length_cons] at this;omega
    · have:=HR.out.few;simp only [List.length_cons,List.length_append,List.length_nil] at this ⊢;omega
    rw [HR.out.eq,if_neg (by decide),moreF_succ,HI.out,if_pos rfl]
    exact g3
  case measure=>simp [lenOf];omega
theorem aft_ret {α β:Type} {w:World} {c:Nat} {u:β} {v:α} {g:Got β} (h:Aft w c u g) (f:β→α) (hv:f u=v):Aft w c v (Got.bind g fun u q=>.ok (f u) q):=by
  cases g with
  | ok x q=>obtain ⟨rfl,h2⟩:=h;exact ⟨hv.symm,h2⟩
  | bad q=>exact h
theorem stop_if {α:Type} (d:Bool) (q:List Tk) (g:Got α):(if d then Got.bad q else g)=stop d q g:=by cases d<;>rfl
theorem take_none {α:Type} {b:Bool} {s:List UInt8} {l:List Tk} (h:nextB b s l=false) (g k:Got α) (hg:isT s l=false→g=k):stop b l g=stop b l k:=by
  cases b
  · rw [hg (by simpa [nextB] using h)]
  rfl
theorem targsF_eq (n:Nat) (l:List Tk):targsF n l=if isT [91] l then Got.bind (manyF n l.tail) fun ts q=>Got.bind (must [93] q) fun _ q=>.ok ts q else .ok [] l:=rfl
theorem manyF_ends (n:Nat) (l:List Tk):Got.Ends l (manyF n l):=ends_bind (Less.ends (tyF_less n l)) fun _ _ _=>moreF_ends n _ _
theorem targs_any (n:Nat) (ih:∀ m,m≤n→TyAt m) (c:Nat) (l:List Tk) (b:Bool) (w:World) (h:Cur w c l b) (hf:2*l.length≤n+1) :
    Calls Tryz.prog 141 #[.pointer (some ⟨c,0,none⟩)] w (TysRet c l b w (targsF n l)):=by
  have H:=hid h
  have CT:=hid (show Calls Tryz.prog 92 #[.pointer (some ⟨c,0,none⟩),.string ⟨#[91]⟩] w (TakePost c l b [91] w) from take_any c l b ⟨#[91]⟩ w h)
  clear h
  cases hx:nextB b [91] l
  · have HX:=hid hx
    clear hx
    go_enter Tryz.func141,Tryz.ntmps141
    go_wp2_with fail
    refine CT.out.mono ?_
    rintro e w2 ⟨rfl,hc,hg⟩
    rw [HX.out]
    rw [takeL,HX.out] at hc
    have HC:=hid hc
    have HG2:=hid hg
    clear hc hg
    go_wp2_with fail
    go_ret
    refine ⟨[],none,0,rfl,Row.nil _ _ _ _ _,?_,HG2.out⟩
    rw [take_none HX.out _ (.ok [] l) fun h=>by rw [targsF_eq,h];rfl]
    have:=HC.out
    cases b
    · exact ⟨rfl,this⟩
    exact this
  have HX:=hid hx
  obtain ⟨rfl,hi⟩:=nextB_cons hx
  obtain ⟨t0,r,rfl,-,-⟩:=isT_cons hi
  have HI:=hid hi
  have HF:=hid hf
  have IH:=hid ih
  clear hx hi hf ih
  go_enter Tryz.func141,Tryz.ntmps141
  go_wp2_with fail
  refine CT.out.mono ?_
  rintro e w2 ⟨rfl,hc,hg⟩
  rw [HX.out]
  rw [takeL,HX.out] at hc
  have HC:=hid (show Cur w2 c r false from hc)
  have HG2:=hid hg
  have C3:=hid (listTy_any n IH.out c r false w2 HC.out (by have:=HF.out;simp only [List.length_cons] at this;omega))
  clear hc hg CT
  go_wp2_with fail
  refine C3.out.mono ?_
  rintro e w3 ⟨ts,A,cap,rfl,hrow,ha,hg⟩
  have HR:=hid hrow
  have HG3:=hid (gb_trans HG2.out hg)
  have hs2:=HG2.out.size
  obtain ⟨q,d,hcur,hql,heq⟩:=aft_next (stop_ends (manyF_ends n r)) ha (fun ts q=>Got.bind (must [93] q) fun _ q=>.ok ts q)
  have HEQ:=hid heq
  have C4:=hid (show Calls Tryz.prog 86 #[.pointer (some ⟨c,0,none⟩),.string ⟨#[93]⟩] w3 (MustPost c q d [93] w3) from must_any c q d ⟨#[93]⟩ w3 hcur)
  have HCL:=hid HC.out.lt
  clear hrow ha hg heq C3 hcur
  go_wp2_with fail
  refine C4.out.mono ?_
  rintro e w4 ⟨rfl,ha,hg⟩
  have HA4:=hid ha
  have HR4:=hid (row_gb hg HCL.out HR.out)
  have HG4:=hid (gb_trans HG3.out hg)
  clear ha hg C4
  go_wp2_with fail
  go_ret
  refine ⟨ts,A,cap,rfl,HR4.out.wide fun k hk=>⟨Nat.le_trans hs2 hk.1,hk.2⟩,?_,HG4.out⟩
  have:=HEQ.out
  rw [stop_false] at this ⊢
  rw [targsF_eq,HI.out,if_pos rfl,List.tail_cons,this,stop_if,stop_bind]
  exact aft_ret HA4.out (fun _=>ts) rfl
theorem results_type {w:World} {b:Nat} {us:List Value} (tmps:Array Value) (ht:tmps[2]?.getD undef=.pointer (some ⟨b,0,none⟩)) (hc:Boxd w b us) (hl:us.length=3):(results Tryz.f133 tmps).run Tryz.prog w=.ok (.agg us.toArray) w:=by
  have h:=run_cell flatTy hc hl
  have h2:=run_addr ⟨b,0,none⟩ w
  simp [results,Tryz.results133,ht,h,h2,Sem.run_bind,Result.andThen]
theorem gb_sets1 (w:World) (g o:Nat) (vs:List Value):w.grownBy (w.setCells g o vs) (some g):=by
  induction vs generalizing o w with
  | nil=>exact gb_refl _ _
  | cons v r ih=>exact gb_trans (gb_set w g o v) (ih _ _)
theorem type_step (n:Nat) (ih:∀ m,m≤n→TyAt m):TyAt (n+1):=by
  intro c l b w h hf
  have hlt:=h.lt
  obtain ⟨W0,hW0⟩:∃ W,w.alloc (.cells #[.string ⟨#[]⟩,.slice none 0 0,.int .i64 0] 29)=W:=⟨_,rfl⟩
  have hb0:Below w.heap.size w W0:=hW0▸(Below.refl _ _).alloc (Nat.le_refl _) _
  have hs0:W0.heap.size=w.heap.size+1:=by rw [←hW0];simp
  have H:=hid (h.later hb0)
  have HW0:=hid hW0
  have HB0:=hid hb0
  have HS0:=hid hs0
  have HT0:=hid (show W0.there w.heap.size 0 3 from hW0▸there_new w #[.string ⟨#[]⟩,.slice none 0 0,.int .i64 0] 29)
  have HF:=hid hf
  have IH:=hid ih
  clear h hW0 hb0 hs0 hf ih
  go_enter Tryz.func133,Tryz.ntmps133
  go_wp2_with fail
  rw [HW0.out]
  refine (name_any c l b W0 H.out).mono ?_
  rintro e w1 ⟨nm,rfl,hz,ha,hg⟩
  obtain ⟨q,d,hcur,hql,heq⟩:=aft_next (stop_ends (Less.ends (name_less l))) ha (fun t r=>Got.bind (targsF n r) fun ts q=>Got.ok (Ty.mk t.s ts t.o) q)
  have HEQ:=hid heq
  have HZ:=hid hz
  have HG1:=hid hg
  have C2:=hid (targs_any n IH.out c q d w1 hcur (by have:=HF.out;omega))
  clear ha hg heq hcur hz
  go_wp2_with fail
  refine C2.out.mono ?_
  rintro e w2 ⟨ts,A,cap,rfl,hrow,ha,hg⟩
  have HR:=hid hrow
  have HA:=hid ha
  have HG2:=hid (gb_trans HG1.out hg)
  have hs1:=HG1.out.size
  have HT2:=hid (there_gb HT0.out (by rw [HS0.out];omega) (by omega) HG2.out)
  have HL:=hid (Row.len hrow)
  clear hrow ha hg C2
  go_wp2_with (refine storeOp flatTy 2 14 (b:=w.heap.size) (o:=0) (us:=[.string nm.s,.slice A ts.length cap,.int .i64 nm.o]) rfl rfl HT2.out (by intro u hu;simp only [List.mem_cons,List.not_mem_nil,or_false] at hu;rcases hu with rfl | rfl | rfl<;>rfl) rfl ?_)
  refine bodyPost_ret (results_type _ rfl (set_there (us:=[.string nm.s,.slice A ts.length cap,.int .i64 nm.o]) HT2.out) rfl) rfl ?_
  have hgs:=gb_sets1 w2 w.heap.size 0 [.string nm.s,.slice A ts.length cap,.int .i64 nm.o]
  refine ⟨.mk nm.s ts nm.o,_,rfl,?_,?_,?_⟩
  · have hr2:=row_gb hgs (lo:=w1.heap.size) (by rw [HS0.out] at hs1;omega) HR.out
    refine ty_shut (by show nm.s.size≤_;have:=HZ.out;omega) (lies_row.2 ?_)
    exact hr2.wide fun k hk=>⟨by have:=hk.1;rw [HS0.out] at hs1;omega,hk.2⟩
  · have hup:Below (c+1) w2 (w2.setCells w.heap.size 0 [.string nm.s,.slice A ts.length cap,.int .i64 nm.o]):=below_sets hlt _ _ _
    rw [tyF_succ,stop_bind,HEQ.out,stop_if,stop_bind]
    exact aft_ret (HA.out.up hup) (fun ts=>Ty.mk nm.s ts nm.o) rfl
  exact gb_sets (some c) (gb_trans (gb_of (some c) HB0.out) HG2.out) (Nat.le_refl _) _ _
theorem type_all (n:Nat):∀ m,m≤n→TyAt m:=by
  induction n with
  | zero=>intro m hm c l b w h hf;exfalso;omega
  | succ n ih =>
    intro m hm
    rcases Nat.lt_or_ge m (n+1) with h | h
    · exact ih m (by omega)
    obtain rfl:m=n+1:=by omega
    exact type_step n ih
theorem type_any (n:Nat):TyAt n:=type_all n n (Nat.le_refl _)
theorem targs_all (n c:Nat) (l:List Tk) (b:Bool) (w:World) (h:Cur w c l b) (hf:2*l.length≤n+1) :
    Calls Tryz.prog 141 #[.pointer (some ⟨c,0,none⟩)] w (TysRet c l b w (targsF n l)):=targs_any n (fun m _=>type_any m) c l b w h hf
