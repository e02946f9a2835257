/- The walks of Type, Begin and WholeType of layer 7's reference. The condition: the place stands in tokens of a text, and has no error. -/
import Derived.Test.YtkdlidakdknhjaaGreatDoorQDRfB
import Derived.Lib.IndexAny
import Derived.WalkMore
set_option maxRecDepth 100000
set_option maxHeartbeats 8000000
open Go.Lib (hid)
namespace Go.Proofs.YtkdlidakdknhjaaGreatDoor.Rd
open Go.RowKit
theorem results_rtype {w:World} {b c:Nat} {us vs:List Value} (tmps:Array Value) (ht:tmps[2]?.getD undef=.pointer (some ⟨b,0,none⟩)) (ht2:tmps[3]?.getD undef=.pointer (some ⟨c,0,none⟩)) (hc:Boxd w b us) (hl:us.length=3) (hc2:Boxd w c vs) (hl2:vs.length=3):(results Tryz.f57 tmps).run Tryz.prog w=.ok (.tuple #[.agg us.toArray,.agg vs.toArray]) w:=by
  have h:=run_cell flatPl hc hl
  have h2:=run_addr ⟨b,0,none⟩ w
  have h3:=run_cell flatTy hc2 hl2
  have h4:=run_addr ⟨c,0,none⟩ w
  simp [results,Tryz.results57,ht,ht2,h,h2,h3,h4,Sem.run_bind,Result.andThen]
theorem arr_held' (c:Array Value) (j:Nat) (v:Value) (h:c[j]?=some v):c.setIfInBounds j v=c:=by
  refine Array.ext_getElem? fun i=>?_
  rw [Array.getElem?_setIfInBounds]
  split
  · rename_i he
    subst he
    rw [h]
    split
    · rfl
    rename_i hn
    obtain ⟨h2,_⟩:=Array.getElem?_eq_some_iff.1 h
    exact absurd h2 hn
  rfl
theorem set_held' {w:World} {g j:Nat} {v:Value} (h:w.cell? ⟨g,j,none⟩=some v):w.setCell ⟨g,j,none⟩ v=w:=by
  have hh:w.heap.modify g (fun | .cells c elem frozen=>.cells (if (none:Option (Nat × Nat)).isSome then c else c.setIfInBounds j v) elem frozen | o=>o)=w.heap:=by
    refine Array.ext (by simp) ?_
    intro i h1 h2
    rw [Array.getElem_modify]
    split
    · rename_i he
      subst he
      unfold World.cell? at h
      rw [Array.getElem?_eq_getElem h2] at h
      cases hc:w.heap[g] with
      | cells c e f =>
        rw [hc] at h
        simp only [Option.isSome_none,Bool.false_eq_true,if_false] at h ⊢
        rw [arr_held' c j v h]
      | _=>rfl
    rfl
  unfold World.setCell
  exact congrArg (fun hp=>({ w with heap:=hp }:World)) hh
theorem ty_skip {V:World} {b c:Nat} {x0 x1 x2:Value} {v0 v2 a0 a2:Value} (hb:Boxd V b [a0,.slice none 0 0,a2]) (_ht:V.there b 0 3) (hk:b≠c):((((V.setCell ⟨c,0,none⟩ x0).setCell ⟨c,1,none⟩ x1).setCell ⟨c,2,none⟩ x2).setCell ⟨b,0,none⟩ v0).setCell ⟨b,2,none⟩ v2=(V.setCells c 0 [x0,x1,x2]).setCells b 0 [v0,.slice none 0 0,v2]:=by
  have h1:((((V.setCell ⟨c,0,none⟩ x0).setCell ⟨c,1,none⟩ x1).setCell ⟨c,2,none⟩ x2).setCell ⟨b,0,none⟩ v0).cell? ⟨b,1,none⟩=some (.slice none 0 0):=by
    rw [World.cell?_setCell_other _ _ _ _ (by simp),World.cell?_setCell_other _ _ _ _ (by intro e;have e2:=congrArg Addr.block e;exact hk e2.symm),World.cell?_setCell_other _ _ _ _ (by intro e;have e2:=congrArg Addr.block e;exact hk e2.symm),World.cell?_setCell_other _ _ _ _ (by intro e;have e2:=congrArg Addr.block e;exact hk e2.symm)]
    exact hb 1 _ rfl
  have h2:=set_held' h1
  conv=>lhs;rw [←h2]
  rfl
theorem ty_skip2 {V:World} {b c:Nat} {x0 x1 x2:Value} {a0 a1 a2 v1:Value} (hb:Boxd V b [a0,a1,a2]) (_ht:V.there b 0 3) (hk:b≠c):(((V.setCell ⟨c,0,none⟩ x0).setCell ⟨c,1,none⟩ x1).setCell ⟨c,2,none⟩ x2).setCell ⟨b,1,none⟩ v1=(V.setCells c 0 [x0,x1,x2]).setCells b 0 [a0,v1,a2]:=by
  have hh:∀ j u,[a0,a1,a2][j]?=some u→(((V.setCell ⟨c,0,none⟩ x0).setCell ⟨c,1,none⟩ x1).setCell ⟨c,2,none⟩ x2).cell? ⟨b,j,none⟩=some u:=fun j u hu=>by
    rw [World.cell?_setCell_other _ _ _ _ (by intro e;have e2:=congrArg Addr.block e;exact hk e2.symm),World.cell?_setCell_other _ _ _ _ (by intro e;have e2:=congrArg Addr.block e;exact hk e2.symm),World.cell?_setCell_other _ _ _ _ (by intro e;have e2:=congrArg Addr.block e;exact hk e2.symm)]
    exact hb j u hu
  obtain ⟨X,hX⟩:∃ X,((V.setCell ⟨c,0,none⟩ x0).setCell ⟨c,1,none⟩ x1).setCell ⟨c,2,none⟩ x2=X:=⟨_,rfl⟩
  rw [hX] at hh
  show (((V.setCell ⟨c,0,none⟩ x0).setCell ⟨c,1,none⟩ x1).setCell ⟨c,2,none⟩ x2).setCell ⟨b,1,none⟩ v1=(((((V.setCell ⟨c,0,none⟩ x0).setCell ⟨c,1,none⟩ x1).setCell ⟨c,2,none⟩ x2).setCell ⟨b,0,none⟩ a0).setCell ⟨b,1,none⟩ v1).setCell ⟨b,2,none⟩ a2
  rw [hX,set_held' (hh 0 _ rfl),set_held' ((World.cell?_setCell_other _ _ _ _ (by simp)).trans (hh 2 _ rfl))]
structure T4 (w W:World) (us vs:List Value):Prop where
  bel:Below w.heap.size w W
  big:w.heap.size+4≤W.heap.size
  box:Boxd W w.heap.size us
  own:W.there w.heap.size 0 3
  res1:W.there (w.heap.size+1) 0 3
  res2:W.there (w.heap.size+2) 0 3
  ty:Boxd W (w.heap.size+3) vs
  tyo:W.there (w.heap.size+3) 0 3
theorem T4.later {w W W':World} {us vs:List Value} (h:T4 w W us vs) (hb:Below W.heap.size W W'):T4 w W' us vs:=by
  have hs:=h.big
  exact ⟨h.bel.trans (hb.mono h.bel.size),Nat.le_trans hs hb.size,h.box.later hb,there_below h.own (by omega) hb,there_below h.res1 (by omega) hb,there_below h.res2 (by omega) hb,h.ty.later hb,there_below h.tyo (by omega) hb⟩
theorem T4.new (w:World) (A:Option Addr) (n cap p:Nat):∃ W,(((w.alloc (.cells #[.slice A n cap,.int .i64 p,.bool false] 60)).alloc (.cells #[.slice none 0 0,.int .i64 0,.bool false] 60)).alloc (.cells #[.string ⟨#[]⟩,.slice none 0 0,.int .i64 0] 29)).alloc (.cells #[.string ⟨#[]⟩,.slice none 0 0,.int .i64 0] 29)=W
    ∧ T4 w W [.slice A n cap,.int .i64 p,.bool false] [.string ⟨#[]⟩,.slice none 0 0,.int .i64 0]:=by
  obtain ⟨W2,h2,hb,hz,hbx,ht1,ht2⟩:=two_pl w A n cap p false
  rw [h2]
  obtain ⟨W3,h3⟩:∃ W3,W2.alloc (.cells #[.string ⟨#[]⟩,.slice none 0 0,.int .i64 0] 29)=W3:=⟨_,rfl⟩
  have hb3:Below W2.heap.size W2 W3:=h3▸(Below.refl _ _).alloc (Nat.le_refl _) _
  have hz3:W3.heap.size=w.heap.size+3:=by rw [←h3];simp [hz]
  have t3:W3.there (w.heap.size+2) 0 3:=hz▸h3▸there_new W2 #[.string ⟨#[]⟩,.slice none 0 0,.int .i64 0] 29
  rw [h3]
  obtain ⟨W4,h4⟩:∃ W4,W3.alloc (.cells #[.string ⟨#[]⟩,.slice none 0 0,.int .i64 0] 29)=W4:=⟨_,rfl⟩
  have hb4:Below W3.heap.size W3 W4:=h4▸(Below.refl _ _).alloc (Nat.le_refl _) _
  have t4:W4.there (w.heap.size+3) 0 3:=hz3▸h4▸there_new W3 #[.string ⟨#[]⟩,.slice none 0 0,.int .i64 0] 29
  have b4:Boxd W4 (w.heap.size+3) [.string ⟨#[]⟩,.slice none 0 0,.int .i64 0]:=hz3▸h4▸Boxd.new W3 #[.string ⟨#[]⟩,.slice none 0 0,.int .i64 0] 29
  refine ⟨W4,h4,(hb.trans (hb3.mono (by omega))).trans (hb4.mono (by omega)),by rw [←h4];simp;omega,(hbx.later hb3).later hb4,there_below (there_below ht1 (by omega) hb3) (by omega) hb4,there_below (there_below ht2 (by omega) hb3) (by omega) hb4,there_below t3 (by omega) hb4,b4,t4⟩
theorem T4.put {w W:World} {us vs us' vs':List Value} (h:T4 w W us vs) (hl:us'.length=3) (hl2:vs'.length=3):T4 w ((W.setCells w.heap.size 0 us').setCells (w.heap.size+3) 0 vs') us' vs':=by
  have hs:=h.big
  have g1:=gb_sets1 W w.heap.size 0 us'
  have g2:=gb_sets1 (W.setCells w.heap.size 0 us') (w.heap.size+3) 0 vs'
  have z1:(W.setCells w.heap.size 0 us').heap.size=W.heap.size:=size_sets _ _ _ _
  refine ⟨(h.bel.trans (below_sets (Nat.le_refl _) us' 0 W)).trans (below_sets (by omega) vs' 0 _),by rw [size_sets,size_sets];exact hs,boxd_gb g2 (by omega) (set_there (us:=us') (by rw [hl];exact h.own)),World.there_setCells (World.there_setCells h.own _ _ _) _ _ _,World.there_setCells (World.there_setCells h.res1 _ _ _) _ _ _,World.there_setCells (World.there_setCells h.res2 _ _ _) _ _ _,set_there (us:=vs') (by rw [hl2];exact World.there_setCells h.tyo _ _ _),World.there_setCells (World.there_setCells h.tyo _ _ _) _ _ _⟩
theorem one_cell3 {s:ByteArray} {B:Option Addr} {m c:Nat} {i:Int}:∀ u∈([.string s,.slice B m c,.int .i64 i]:List Value),u.oneCell'=true:=ty3_one
theorem rtype_step (M:Nat) (ih:∀ m,m≤M→RTyAt m):RTyAt (M+1):=by
  intro A n cap p L l w h hf
  obtain ⟨W,hW,h4⟩:=T4.new w A n cap p
  have HW:=hid hW
  have H4:=hid h4
  have HP0:=hid h
  have HF:=hid hf
  have IH:=hid ih
  obtain ⟨x0,x1,x2,-⟩:=three h4.box h4.own
  have CN:=hid (rname_any A n cap p L l false W (h.later h4.bel))
  clear h hW h4 hf ih
  go_enter Tryz.func57,Tryz.ntmps57
  go_upto_region 2 with fail
  rw [HW.out]
  go_wp2_with fail
  refine CN.out.mono ?_
  rintro e V ⟨nm,p1,b1,rfl,hz,hra,hb,-⟩
  rw [show (plV A n cap p1 b1).toArray=#[.slice A n cap,.int .i64 p1,.bool b1] from rfl]
  have H4V:=hid (H4.out.later hb)
  obtain ⟨V1,hV1⟩:∃ X,(V.setCells w.heap.size 0 [.slice A n cap,.int .i64 p1,.bool b1]).setCells (w.heap.size+3) 0 [.string nm.s,.slice none 0 0,.int .i64 nm.o]=X:=⟨_,rfl⟩
  have H41:=hid (show T4 w V1 [.slice A n cap,.int .i64 p1,.bool b1] [.string nm.s,.slice none 0 0,.int .i64 nm.o] from hV1▸H4V.out.put rfl rfl)
  have HZ:=hid hz
  obtain ⟨q1,hp1,hql,-,heq⟩:=raft_next (name_less l) (show RAft V A n L p1 b1 nm (name l) from hra) (fun t r=>Got.bind (targsF M r) fun ts q=>Got.ok (Ty.mk t.s ts t.o) q)
  have HEQ:=hid ((tyF_succ M l).trans heq)
  have HQ:=hid (HP0.out.move hp1 (Below.refl _ _))
  obtain ⟨y0,y1,y2,f0,f1,f2⟩:=three H4V.out.box H4V.out.own
  obtain ⟨z0,z1,z2,g0,g1,g2⟩:=three H4V.out.ty H4V.out.tyo
  have HV1:=hid (show ((((V.setCell ⟨w.heap.size,0,none⟩ (.slice A n cap)).setCell ⟨w.heap.size,1,none⟩ (.int .i64 p1)).setCell ⟨w.heap.size,2,none⟩ (.bool b1)).setCell ⟨w.heap.size+3,0,none⟩ (.string nm.s)).setCell ⟨w.heap.size+3,2,none⟩ (.int .i64 nm.o)=V1 by
    rw [←hV1]
    exact ty_skip H4V.out.ty H4V.out.tyo (by omega))
  clear hra hb hz x0 x1 x2 hV1 hp1 heq
  go_upto_region 3 with fail
  rw [HV1.out]
  clear y0 y1 y2 f0 f1 f2 z0 z1 z2 g0 g1 g2
  obtain ⟨x0,x1,x2,-⟩:=three H41.out.box H41.out.own
  cases b1
  · have C5:=hid (rtargs_any M IH.out A n cap p1 L q1 V1 (HQ.out.later H41.out.bel) (by have:=HF.out;omega))
    go_wp2_with fail
    refine C5.out.mono ?_
    rintro e V2 ⟨ts,B,k,p2,b2,rfl,hrow,hra,hb⟩
    have H42:=hid (H41.out.later hb)
    obtain ⟨V3,hV3⟩:∃ X,(V2.setCells w.heap.size 0 [.slice A n cap,.int .i64 p2,.bool b2]).setCells (w.heap.size+3) 0 [.string nm.s,.slice B ts.length k,.int .i64 nm.o]=X:=⟨_,rfl⟩
    have H43:=hid (show T4 w V3 [.slice A n cap,.int .i64 p2,.bool b2] [.string nm.s,.slice B ts.length k,.int .i64 nm.o] from hV3▸H42.out.put rfl rfl)
    have hsz:=H41.out.big
    have HROW:=hid (show Row V3 False (Fr V1.heap.size V3) 3 B ts.length (Ty.dats ts) from hV3▸row_gb (gb_sets1 _ _ _ _) (by omega) (row_gb (gb_sets1 _ _ _ _) (by omega) hrow))
    have HRA:=hid hra
    obtain ⟨y0,y1,y2,f0,f1,f2⟩:=three H42.out.box H42.out.own
    obtain ⟨z0,z1,z2,g0,g1,g2⟩:=three H42.out.ty H42.out.tyo
    have HV3:=hid (show (((V2.setCell ⟨w.heap.size,0,none⟩ (.slice A n cap)).setCell ⟨w.heap.size,1,none⟩ (.int .i64 p2)).setCell ⟨w.heap.size,2,none⟩ (.bool b2)).setCell ⟨w.heap.size+3,1,none⟩ (.slice B ts.length k)=V3 by
      rw [←hV3]
      exact ty_skip2 H42.out.ty H42.out.tyo (by omega))
    clear hrow hra hb hV3 C5 x0 x1 x2
    go_upto_region 6 with fail
    rw [HV3.out]
    clear y0 y1 y2 f0 f1 f2 z0 z1 z2 g0 g1 g2
    have SS:V3.rangeAt w.heap.size 0 [.slice A n cap,.int .i64 p2,.bool b2]∧V3.rangeAt (w.heap.size+3) 0 [.string nm.s,.slice B (ts.length) (k),.int .i64 nm.o]:=⟨fun j u hu=>by rw [Nat.zero_add];exact H43.out.box j u hu,fun j u hu=>by rw [Nat.zero_add];exact H43.out.ty j u hu⟩
    go_wp2_with fail
    refine wp_region_held_drew (S:=fun V=>V.rangeAt w.heap.size 0 [.slice A n cap,.int .i64 p2,.bool b2]∧V.rangeAt (w.heap.size+3) 0 [.string nm.s,.slice B (ts.length) (k),.int .i64 nm.o]) (by kernel_rfl) SS (fun hS=>?_)
    refine wpAnyH_take (i:=0) (v:=.agg ([.slice A n cap,.int .i64 p2,.bool b2]:List Value).toArray) rfl (by kernel_rfl) (by kernel_rfl) (by kernel_rfl) (fun _ _ _ h=>h) (yieldsIf_load_mid rfl 60 (.tmp 1) rfl w.heap.size 0 rfl [.slice A n cap,.int .i64 p2,.bool b2] _ (fun V hV=>hV.1) Tryz.underlying60 rfl flatPl.size) (by assumption) ?_
    try simp only [Act.put,List.getElem_toArray,List.getElem_cons_zero,List.setIfInBounds_toArray,List.set_cons_zero,List.set_cons_succ]
    refine wpAnyH_take (i:=1) (v:=.agg ([.string nm.s,.slice B (ts.length) (k),.int .i64 nm.o]:List Value).toArray) rfl (by kernel_rfl) (by kernel_rfl) (by kernel_rfl) (fun _ _ _ h=>h) (yieldsIf_load_mid rfl 29 (.tmp 4) rfl (w.heap.size+3) 0 rfl [.string nm.s,.slice B (ts.length) (k),.int .i64 nm.o] _ (fun V hV=>hV.2) Tryz.underlying29 rfl flatTy.size) (by assumption) ?_
    try simp only [Act.put,List.getElem_toArray,List.getElem_cons_zero,List.getElem_cons_succ,List.setIfInBounds_toArray,List.set_cons_zero,List.set_cons_succ]
    refine wpAnyH_ready (rs:=[2]) (by kernel_rfl) (by simp) ?_
    refine AllReadyH.cons rfl (fun K hK=>?_) AllReadyH.nil
    refine ready_store flatPl rfl (.tmp 2) (.tmp 24) rfl (b:=w.heap.size+1) (off:=0) (us:=[.slice A n cap,.int .i64 p2,.bool b2]) rfl rfl (show V3.drew.there (w.heap.size+1) 0 3 from H43.out.res1) pl_one rfl ?_
    have SS:(V3.drew.setCells (w.heap.size+1) 0 [.slice A n cap,.int .i64 p2,.bool b2]).rangeAt w.heap.size 0 [.slice A n cap,.int .i64 p2,.bool b2]∧(V3.drew.setCells (w.heap.size+1) 0 [.slice A n cap,.int .i64 p2,.bool b2]).rangeAt (w.heap.size+3) 0 [.string nm.s,.slice B (ts.length) (k),.int .i64 nm.o]:=⟨World.rangeAt_setCells_apart hS.1 _ _ _ (.inl (by omega)),World.rangeAt_setCells_apart hS.2 _ _ _ (.inl (by omega))⟩
    refine hK.out _ _ SS (fun hS=>?_)
    clear hK K
    try simp only [Act.put,List.getElem_toArray,List.getElem_cons_zero,List.getElem_cons_succ]
    refine wpAnyH_ready (rs:=[3]) (by kernel_rfl) (by simp) ?_
    refine AllReadyH.cons rfl (fun K hK=>?_) AllReadyH.nil
    refine ready_store flatTy rfl (.tmp 3) (.tmp 25) rfl (b:=w.heap.size+2) (off:=0) (us:=[.string nm.s,.slice B (ts.length) (k),.int .i64 nm.o]) rfl rfl (show (V3.drew.setCells (w.heap.size+1) 0 [.slice A n cap,.int .i64 p2,.bool b2]).there (w.heap.size+2) 0 3 from World.there_setCells (show V3.drew.there (w.heap.size+2) 0 3 from H43.out.res2) _ _ _) one_cell3 rfl ?_
    have SS:((V3.drew.setCells (w.heap.size+1) 0 [.slice A n cap,.int .i64 p2,.bool b2]).setCells (w.heap.size+2) 0 [.string nm.s,.slice B (ts.length) (k),.int .i64 nm.o]).rangeAt w.heap.size 0 [.slice A n cap,.int .i64 p2,.bool b2]∧((V3.drew.setCells (w.heap.size+1) 0 [.slice A n cap,.int .i64 p2,.bool b2]).setCells (w.heap.size+2) 0 [.string nm.s,.slice B (ts.length) (k),.int .i64 nm.o]).rangeAt (w.heap.size+3) 0 [.string nm.s,.slice B (ts.length) (k),.int .i64 nm.o]:=⟨World.rangeAt_setCells_apart hS.1 _ _ _ (.inl (by omega)),World.rangeAt_setCells_apart hS.2 _ _ _ (.inl (by omega))⟩
    refine hK.out _ _ SS (fun hS=>?_)
    clear hK K
    try simp only [Act.put,List.getElem_toArray,List.getElem_cons_zero,List.getElem_cons_succ]
    refine wpAnyH_done (by kernel_rfl) ?_ _
    clear SS hS
    go_wp2_with fail
    have hr1:V3.drew.there (w.heap.size+1) 0 3:=H43.out.res1
    have hr2:(V3.drew.setCells (w.heap.size+1) 0 [.slice A n cap,.int .i64 p2,.bool b2]).there (w.heap.size+2) 0 3:=World.there_setCells (show V3.drew.there (w.heap.size+2) 0 3 from H43.out.res2) _ _ _
    have hfin:Below w.heap.size w ((V3.drew.setCells (w.heap.size+1) 0 [.slice A n cap,.int .i64 p2,.bool b2]).setCells (w.heap.size+2) 0 [.string nm.s,.slice B (ts.length) (k),.int .i64 nm.o]):=(H43.out.bel.drew.trans (below_sets (by omega) _ _ _)).trans (below_sets (by omega) _ _ _)
    refine bodyPost_ret (results_rtype _ rfl rfl (boxd_gb (gb_sets1 _ (w.heap.size+2) 0 _) (by omega) (set_there (us:=[.slice A n cap,.int .i64 p2,.bool b2]) hr1)) rfl (set_there (us:=[.string nm.s,.slice B (ts.length) (k),.int .i64 nm.o]) hr2) rfl) rfl ?_
    refine ⟨.mk nm.s ts nm.o,[.string nm.s,.slice B ts.length k,.int .i64 nm.o],p2,b2,rfl,?_,?_,hfin⟩
    · have hr2:=row_gb (gb_sets1 (V3.drew.setCells (w.heap.size+1) 0 [.slice A n cap,.int .i64 p2,.bool b2]) (w.heap.size+2) 0 [.string nm.s,.slice B ts.length k,.int .i64 nm.o]) (by omega) (row_gb (gb_sets1 V3.drew (w.heap.size+1) 0 [.slice A n cap,.int .i64 p2,.bool b2]) (by omega) (show Row V3.drew False (Fr V1.heap.size V3.drew) 3 B ts.length (Ty.dats ts) from HROW.out.keep id (fun _ _=>⟨rfl,rfl⟩) fun _ h=>h))
      exact ty_shut (t:=.mk nm.s ts nm.o) (by show nm.s.size≤_;have:=HZ.out;omega) (lies_row.2 (hr2.wide fun i hi=>⟨by have:=hi.1;omega,hi.2⟩))
    rw [HEQ.out,if_neg (by decide)]
    exact raft_ret (RAft.move HP0.out HRA.out hfin) (fun ts=>Ty.mk nm.s ts nm.o) rfl
  go_upto_region 4 with fail
  clear x0 x1 x2
  have SS:V1.rangeAt w.heap.size 0 [.slice A n cap,.int .i64 p1,.bool true]∧V1.rangeAt (w.heap.size+3) 0 [.string nm.s,.slice none (0) (0),.int .i64 nm.o]:=⟨fun j u hu=>by rw [Nat.zero_add];exact H41.out.box j u hu,fun j u hu=>by rw [Nat.zero_add];exact H41.out.ty j u hu⟩
  go_wp2_with fail
  refine wp_region_held_drew (S:=fun V=>V.rangeAt w.heap.size 0 [.slice A n cap,.int .i64 p1,.bool true]∧V.rangeAt (w.heap.size+3) 0 [.string nm.s,.slice none (0) (0),.int .i64 nm.o]) (by kernel_rfl) SS (fun hS=>?_)
  refine wpAnyH_take (i:=0) (v:=.agg ([.slice A n cap,.int .i64 p1,.bool true]:List Value).toArray) rfl (by kernel_rfl) (by kernel_rfl) (by kernel_rfl) (fun _ _ _ h=>h) (yieldsIf_load_mid rfl 60 (.tmp 1) rfl w.heap.size 0 rfl [.slice A n cap,.int .i64 p1,.bool true] _ (fun V hV=>hV.1) Tryz.underlying60 rfl flatPl.size) (by assumption) ?_
  try simp only [Act.put,List.getElem_toArray,List.getElem_cons_zero,List.setIfInBounds_toArray,List.set_cons_zero,List.set_cons_succ]
  refine wpAnyH_take (i:=1) (v:=.agg ([.string nm.s,.slice none (0) (0),.int .i64 nm.o]:List Value).toArray) rfl (by kernel_rfl) (by kernel_rfl) (by kernel_rfl) (fun _ _ _ h=>h) (yieldsIf_load_mid rfl 29 (.tmp 4) rfl (w.heap.size+3) 0 rfl [.string nm.s,.slice none (0) (0),.int .i64 nm.o] _ (fun V hV=>hV.2) Tryz.underlying29 rfl flatTy.size) (by assumption) ?_
  try simp only [Act.put,List.getElem_toArray,List.getElem_cons_zero,List.getElem_cons_succ,List.setIfInBounds_toArray,List.set_cons_zero,List.set_cons_succ]
  refine wpAnyH_ready (rs:=[2]) (by kernel_rfl) (by simp) ?_
  refine AllReadyH.cons rfl (fun K hK=>?_) AllReadyH.nil
  refine ready_store flatPl rfl (.tmp 2) (.tmp 16) rfl (b:=w.heap.size+1) (off:=0) (us:=[.slice A n cap,.int .i64 p1,.bool true]) rfl rfl (show V1.drew.there (w.heap.size+1) 0 3 from H41.out.res1) pl_one rfl ?_
  have SS:(V1.drew.setCells (w.heap.size+1) 0 [.slice A n cap,.int .i64 p1,.bool true]).rangeAt w.heap.size 0 [.slice A n cap,.int .i64 p1,.bool true]∧(V1.drew.setCells (w.heap.size+1) 0 [.slice A n cap,.int .i64 p1,.bool true]).rangeAt (w.heap.size+3) 0 [.string nm.s,.slice none (0) (0),.int .i64 nm.o]:=⟨World.rangeAt_setCells_apart hS.1 _ _ _ (.inl (by omega)),World.rangeAt_setCells_apart hS.2 _ _ _ (.inl (by omega))⟩
  refine hK.out _ _ SS (fun hS=>?_)
  clear hK K
  try simp only [Act.put,List.getElem_toArray,List.getElem_cons_zero,List.getElem_cons_succ]
  refine wpAnyH_ready (rs:=[3]) (by kernel_rfl) (by simp) ?_
  refine AllReadyH.cons rfl (fun K hK=>?_) AllReadyH.nil
  refine ready_store flatTy rfl (.tmp 3) (.tmp 17) rfl (b:=w.heap.size+2) (off:=0) (us:=[.string nm.s,.slice none (0) (0),.int .i64 nm.o]) rfl rfl (show (V1.drew.setCells (w.heap.size+1) 0 [.slice A n cap,.int .i64 p1,.bool true]).there (w.heap.size+2) 0 3 from World.there_setCells (show V1.drew.there (w.heap.size+2) 0 3 from H41.out.res2) _ _ _) one_cell3 rfl ?_
  have SS:((V1.drew.setCells (w.heap.size+1) 0 [.slice A n cap,.int .i64 p1,.bool true]).setCells (w.heap.size+2) 0 [.string nm.s,.slice none (0) (0),.int .i64 nm.o]).rangeAt w.heap.size 0 [.slice A n cap,.int .i64 p1,.bool true]∧((V1.drew.setCells (w.heap.size+1) 0 [.slice A n cap,.int .i64 p1,.bool true]).setCells (w.heap.size+2) 0 [.string nm.s,.slice none (0) (0),.int .i64 nm.o]).rangeAt (w.heap.size+3) 0 [.string nm.s,.slice none (0) (0),.int .i64 nm.o]:=⟨World.rangeAt_setCells_apart hS.1 _ _ _ (.inl (by omega)),World.rangeAt_setCells_apart hS.2 _ _ _ (.inl (by omega))⟩
  refine hK.out _ _ SS (fun hS=>?_)
  clear hK K
  try simp only [Act.put,List.getElem_toArray,List.getElem_cons_zero,List.getElem_cons_succ]
  refine wpAnyH_done (by kernel_rfl) ?_ _
  clear SS hS
  go_wp2_with fail
  have hr1:V1.drew.there (w.heap.size+1) 0 3:=H41.out.res1
  have hr2:(V1.drew.setCells (w.heap.size+1) 0 [.slice A n cap,.int .i64 p1,.bool true]).there (w.heap.size+2) 0 3:=World.there_setCells (show V1.drew.there (w.heap.size+2) 0 3 from H41.out.res2) _ _ _
  have hfin:Below w.heap.size w ((V1.drew.setCells (w.heap.size+1) 0 [.slice A n cap,.int .i64 p1,.bool true]).setCells (w.heap.size+2) 0 [.string nm.s,.slice none (0) (0),.int .i64 nm.o]):=(H41.out.bel.drew.trans (below_sets (by omega) _ _ _)).trans (below_sets (by omega) _ _ _)
  refine bodyPost_ret (results_rtype _ rfl rfl (boxd_gb (gb_sets1 _ (w.heap.size+2) 0 _) (by omega) (set_there (us:=[.slice A n cap,.int .i64 p1,.bool true]) hr1)) rfl (set_there (us:=[.string nm.s,.slice none (0) (0),.int .i64 nm.o]) hr2) rfl) rfl ?_
  refine ⟨.mk nm.s [] nm.o,[.string nm.s,.slice none 0 0,.int .i64 nm.o],p1,true,rfl,ty_shut (t:=.mk nm.s [] nm.o) (by show nm.s.size≤_;have:=HZ.out;omega) (lies_row.2 (Row.nil _ _ _ _ _)),?_,hfin⟩
  rw [HEQ.out]
  exact ⟨rfl,HQ.out.later hfin⟩
theorem rtype_all (M:Nat):∀ m,m≤M→RTyAt m:=by
  induction M with
  | zero=>intro m hm A n cap p L l w h hf;exfalso;omega
  | succ M ih =>
    intro m hm
    rcases Nat.lt_or_ge m (M+1) with h | h
    · exact ih m (by omega)
    obtain rfl:m=M+1:=by omega
    exact rtype_step M ih
theorem rtype_any (M:Nat):RTyAt M:=rtype_all M M (Nat.le_refl _)
def BeginPost (s:ByteArray) (w:World) (e:Ending) (w':World):Prop:=Below w.heap.size w w'∧match left s 0 with
  | .bad i=>e=.returned (.tuple #[.agg #[.slice none 0 0,.int .i64 0,.bool false],.int .i64 1,.int .i64 i])
  | .ok ts=>∃ A cap,e=.returned (.tuple #[.agg #[.slice A (ts.length+1) cap,.int .i64 0,.bool false],.int .i64 0,.int .i64 0])∧TS w' A (ts.length+1) (full ts s.size)
theorem results_begin {w:World} {b:Nat} {us:List Value} {v u:Value} (tmps:Array Value) (ht:tmps[2]?.getD undef=.pointer (some ⟨b,0,none⟩)) (hv:tmps[3]?.getD undef=v) (hu:tmps[4]?.getD undef=u) (hc:Boxd w b us) (hl:us.length=3):(results Tryz.f15 tmps).run Tryz.prog w=.ok (.tuple #[.agg us.toArray,v,u]) w:=by
  have h:=run_cell flatPl hc hl
  have h2:=run_addr ⟨b,0,none⟩ w
  simp [results,Tryz.results15,ht,hv,hu,h,h2,Sem.run_bind,Result.andThen]
theorem ts_apart {w W V:World} {T:Nat} {A:Option Addr} {n:Nat} {ts:List Tk} (hW:w.alloc (.cells #[.slice none 0 0,.int .i64 0,.bool false] T)=W) (hb:Below W.heap.size W V) (h:TS V A n ts):∀ (j:Nat) (t:Tk) (a:Addr),ts[j]?=some t→A=some a→a.block≠w.heap.size:=by
  intro j t a hj he e
  obtain ⟨a',e',_,_,h3,_⟩:=h.at_ j t hj
  rw [he] at e'
  obtain rfl:=Option.some.inj e'
  have hbl:(a.add (j*3)).block=w.heap.size:=by rw [block_of_add];exact e
  have h4:=(hb.cell (p:=⟨(a.add (j*3)).block,(a.add (j*3)).off+1,none⟩) (by show (a.add (j*3)).block<W.heap.size;rw [hbl,←hW];simp)).symm.trans h3
  rw [hbl,←hW,World.cell?_alloc_at _ _ _ _ rfl] at h4
  revert h4
  generalize (a.add (j*3)).off+1=k
  intro h4
  match k,h4 with
  | 0,h=>cases h
  | 1,h=>cases h
  | 2,h=>cases h
  | k+3,h=>cases h
theorem ts_set {V:World} {b:Nat} {A:Option Addr} {n:Nat} {ts:List Tk} (h:TS V A n ts) (hn:∀ (j:Nat) (t:Tk) (a:Addr),ts[j]?=some t→A=some a→a.block≠b) (us:List Value):TS (V.setCells b 0 us) A n ts :=
  ⟨h.len,fun j t hj=>by
    obtain ⟨a,e,h1,h2,h3,h4⟩:=h.at_ j t hj
    have hb:=hn j t a hj e
    have ho:∀ q:Addr,q.block=a.block→(V.setCells b 0 us).cell? q=V.cell? q:=fun q hq=>World.cell?_setCells_out _ _ _ _ _ (fun e2=>(hb (hq.symm.trans e2)).elim)
    exact ⟨a,e,by rw [size_sets];exact h1,(ho _ (by rw [block_of_add])).trans h2,(ho _ (by show (a.add (j*3)).block=_;rw [block_of_add])).trans h3,(ho _ (by show (a.add (j*3)).block=_;rw [block_of_add])).trans h4⟩⟩
theorem begin_any (s:ByteArray) (w:World) (hs:s.size≤40000):Calls Tryz.prog 15 #[.string s] w (BeginPost s w):=by
  obtain ⟨W,hW⟩:∃ W,w.alloc (.cells #[.slice none 0 0,.int .i64 0,.bool false] 60)=W:=⟨_,rfl⟩
  have hb:Below w.heap.size w W:=hW▸(Below.refl _ _).alloc (Nat.le_refl _) _
  have HT:=hid (show W.there w.heap.size 0 3 from hW▸there_new w #[.slice none 0 0,.int .i64 0,.bool false] 60)
  have hz:W.heap.size=w.heap.size+1:=by rw [←hW];simp
  have HW:=hid hW
  have HB:=hid hb
  have C:=hid (ref_tokens_any s (by omega) W)
  clear hW hb hs
  go_enter Tryz.func15,Tryz.ntmps15
  go_wp2_with fail
  rw [HW.out]
  refine C.out.mono ?_
  rintro e V ⟨hb,hp⟩
  have hsV:=hb.size
  have HT1:=hid (there_below HT.out (by omega) hb)
  have HB1:=hid (HB.out.trans (hb.mono (by omega)))
  have HBW:=hid hb
  clear hb C HT HB
  cases hl:left s 0 with
  | bad i =>
    rw [hl] at hp
    obtain rfl:=hp
    obtain ⟨V1,hV1⟩:∃ X,V.alloc (.cells #[.slice none 0 0,.int .i64 i] 108)=X:=⟨_,rfl⟩
    have hb1:Below V.heap.size V V1:=hV1▸(Below.refl _ _).alloc (Nat.le_refl _) _
    have HT2:=hid (there_below HT1.out (by omega) hb1)
    have HB2:=hid (HB1.out.trans (hb1.mono (by omega)))
    have hbx:Boxd V1 V.heap.size [.slice none 0 0,.int .i64 i]:=hV1▸Boxd.new V #[.slice none 0 0,.int .i64 i] 108
    have HBX:=hid hbx
    have HV1:=hid hV1
    have HLL:=hid hl
    have z0:(0:Int)≤i:=by omega
    have x1:V1.cell? ⟨V.heap.size,1,none⟩=some (.int .i64 i):=hbx 1 _ rfl
    rw [←hV1] at x1
    clear hV1 hb1 hbx hl
    go_upto_region 3 with fail
    rw [HV1.out]
    clear x1
    have SS:V1.cell? ⟨V.heap.size,1,none⟩=some (.int .i64 i):=HBX.out 1 _ rfl
    go_wp2_with fail
    refine wp_region_held_drew (S:=fun X=>X.cell? ⟨V.heap.size,1,none⟩=some (.int .i64 i)) (by kernel_rfl) SS (fun hS=>?_)
    first
    | (refine wpAnyH_take (i:=0) (v:=?_) rfl (by kernel_rfl) (by kernel_rfl) (by kernel_rfl) (fun _ _ _ h=>h) (Or.inl ⟨by rfl,?_⟩) (by assumption) ?_
       rotate_left
       · (intro V hV;go_simp;try with_reducible rfl)
       try simp only [Act.put,List.getElem_toArray,List.getElem_cons_zero,List.setIfInBounds_toArray,List.set_cons_zero,List.set_cons_succ])
    | fail "take 0"
    first
    | (refine wpAnyH_take (i:=1) (v:=?_) rfl (by kernel_rfl) (by kernel_rfl) (by kernel_rfl) (fun _ _ _ h=>h) (Or.inl ⟨by rfl,?_⟩) (by assumption) ?_
       rotate_left
       · (intro V hV;go_simp;try with_reducible rfl)
       try simp only [Act.put,List.getElem_toArray,List.getElem_cons_zero,List.getElem_cons_succ,List.setIfInBounds_toArray,List.set_cons_zero,List.set_cons_succ])
    | fail "take 1"
    first
    | (refine wpAnyH_take (i:=2) (v:=?_) rfl (by kernel_rfl) (by kernel_rfl) (by kernel_rfl) (fun _ _ _ h=>h) (Or.inl ⟨by rfl,?_⟩) (by assumption) ?_
       rotate_left
       · (intro V hV;have x1:=hV;go_simp;try with_reducible rfl)
       try simp only [Act.put,List.getElem_toArray,List.getElem_cons_zero,List.getElem_cons_succ,List.setIfInBounds_toArray,List.set_cons_zero,List.set_cons_succ])
    | fail "take 2"
    refine wpAnyH_ready (rs:=[3]) (by kernel_rfl) (by simp) ?_
    refine AllReadyH.cons rfl (fun K hK=>?_) AllReadyH.nil
    refine ready_store flatPl rfl (.tmp 2) (.tmp 11) rfl (b:=w.heap.size) (off:=0) (us:=[.slice none 0 0,.int .i64 0,.bool false]) rfl rfl (show V1.drew.there w.heap.size 0 3 from HT2.out) pl_one rfl ?_
    have SS:(V1.drew.setCells w.heap.size 0 [.slice none 0 0,.int .i64 0,.bool false]).cell? ⟨V.heap.size,1,none⟩=some (.int .i64 i):=(World.cell?_setCells_out _ _ _ _ _ (fun e=>by have e2:V.heap.size=w.heap.size:=e;omega)).trans hS
    refine hK.out _ _ SS (fun hS=>?_)
    clear hK K
    try simp only [Act.put,List.getElem_toArray,List.getElem_cons_zero,List.getElem_cons_succ]
    first
    | (refine wpAnyH_take (i:=4) (v:=?_) rfl (by kernel_rfl) (by kernel_rfl) (by kernel_rfl) (fun _ _ _ h=>h) (Or.inl ⟨by rfl,?_⟩) (by assumption) ?_
       rotate_left
       · (intro V hV;go_simp;try with_reducible rfl)
       try simp only [Act.put,List.getElem_toArray,List.getElem_cons_zero,List.getElem_cons_succ,List.setIfInBounds_toArray,List.set_cons_zero,List.set_cons_succ])
    | fail "take 4"
    first
    | (refine wpAnyH_take (i:=5) (v:=?_) rfl (by kernel_rfl) (by kernel_rfl) (by kernel_rfl) (fun _ _ _ h=>h) (Or.inl ⟨by rfl,?_⟩) (by assumption) ?_
       rotate_left
       · (intro V hV;go_simp;try with_reducible rfl)
       try simp only [Act.put,List.getElem_toArray,List.getElem_cons_zero,List.getElem_cons_succ,List.setIfInBounds_toArray,List.set_cons_zero,List.set_cons_succ])
    | fail "take 5"
    refine wpAnyH_done (by kernel_rfl) ?_ _
    clear SS hS
    go_wp2_with fail
    refine bodyPost_ret (results_begin _ rfl rfl rfl (set_there (us:=[.slice none 0 0,.int .i64 0,.bool false]) (show V1.drew.there w.heap.size 0 3 from HT2.out)) rfl) rfl ?_
    refine ⟨HB2.out.drew.trans (below_sets (Nat.le_refl _) _ _ _),?_⟩
    rw [HLL.out]
    rfl
  | ok ts =>
    rw [hl] at hp
    obtain ⟨A,cap,rfl,hts⟩:=hp
    obtain ⟨V1,hV1⟩:∃ X,V.alloc (.cells #[.slice A (ts.length+1) cap,.int .i64 (-1)] 108)=X:=⟨_,rfl⟩
    have hb1:Below V.heap.size V V1:=hV1▸(Below.refl _ _).alloc (Nat.le_refl _) _
    have HT2:=hid (there_below HT1.out (by omega) hb1)
    have HB2:=hid (HB1.out.trans (hb1.mono (by omega)))
    have hbx:Boxd V1 V.heap.size [.slice A (ts.length+1) cap,.int .i64 (-1)]:=hV1▸Boxd.new V #[.slice A (ts.length+1) cap,.int .i64 (-1)] 108
    have HTS:=hid hts
    have HTS1:=hid (hts.later hb1)
    have HV1:=hid hV1
    have HLL:=hid hl
    have x1:=hbx 1 _ rfl
    rw [←hV1] at x1
    have hlt:w.heap.size<V.heap.size:=by omega
    have HNE:=hid (ts_apart HW.out HBW.out hts)
    have HBX:=hid hbx
    clear hV1 hb1 hbx hl hts
    go_upto_region 4 with fail
    rw [HV1.out]
    clear x1
    have x0:=HBX.out 0 _ rfl
    have x1:=HBX.out 1 _ rfl
    obtain ⟨v0,v1,v2,hzz⟩:=three_any HT2.out
    obtain ⟨z0,z1,z2,j0,j1,j2⟩:=three hzz HT2.out
    go_wp2_with fail
    have hfin:Below w.heap.size w (V1.setCells w.heap.size 0 [.slice A (ts.length+1) cap,.int .i64 0,.bool false]):=HB2.out.trans (below_sets (Nat.le_refl _) _ _ _)
    refine bodyPost_ret (results_begin _ rfl rfl rfl (show Boxd _ _ [.slice A (ts.length+1) cap,.int .i64 0,.bool false] from set_there (us:=[.slice A (ts.length+1) cap,.int .i64 0,.bool false]) HT2.out) rfl) rfl ?_
    refine ⟨hfin,?_⟩
    rw [HLL.out]
    exact ⟨A,cap,rfl,ts_set HTS1.out HNE.out [.slice A (ts.length+1) cap,.int .i64 0,.bool false]⟩
