/- The walks of the small functions of layer 7's reference: Is, Name, Finish. The condition: the place stands in tokens of a text.
The walks of Must, targs and Type of layer 7's reference. The condition: the place stands in tokens of a text, and has no error. -/
import Derived.Test.YtkdlidakdknhjaaGreatDoorQDRdV
import Derived.Test.YtkdlidakdknhjaaGreatDoorQDTyF
import Derived.Lib.IndexAny
import Derived.WalkMore
set_option maxRecDepth 100000
set_option maxHeartbeats 8000000
open Go.Lib (hid)
namespace Go.Proofs.YtkdlidakdknhjaaGreatDoor.Rd
open Go.RowKit
structure Pl (w:World) (A:Option Addr) (n:Nat) (L:List Tk) (p:Nat) (l:List Tk):Prop where
  ts:TS w A n L
  l_eq:L.drop p=l
  tidy:Tidy l
  len:n≤100000
  small:∀ t∈L,t.s.size≤100000
theorem Pl.later {w w':World} {A:Option Addr} {n p:Nat} {L l:List Tk} (h:Pl w A n L p l) (hb:Below w.heap.size w w'):Pl w' A n L p l:=⟨h.ts.later hb,h.l_eq,h.tidy,h.len,h.small⟩
theorem Pl.lt {w:World} {A:Option Addr} {n p:Nat} {L l:List Tk} (h:Pl w A n L p l):p<n:=by
  have h1:=h.tidy.ne
  rw [←h.l_eq] at h1
  have h2:=h.ts.len
  rcases Nat.lt_or_ge p L.length with h3 | h3
  · omega
  exact absurd (List.drop_eq_nil_of_le h3) h1
theorem Pl.at {w:World} {A:Option Addr} {n p:Nat} {L l:List Tk} (h:Pl w A n L p l):∃ a t r,A=some a∧l=t :: r∧w.cell? (a.add (p*3))=some (.int .i64 t.k)∧w.cell? ⟨(a.add (p*3)).block,(a.add (p*3)).off+1,none⟩=some (.string t.s)∧w.cell? ⟨(a.add (p*3)).block,(a.add (p*3)).off+2,none⟩=some (.int .i64 t.o):=by
  obtain ⟨a,t,e,h1,h2⟩:=h.ts.get h.lt
  refine ⟨a,t,L.drop (p+1),e,?_,h2⟩
  rw [←h.l_eq]
  obtain ⟨hl,e2⟩:=List.getElem?_eq_some_iff.1 h1
  rw [List.drop_eq_getElem_cons hl,e2]
theorem Pl.step {w:World} {A:Option Addr} {n p:Nat} {L r:List Tk} {t:Tk} (h:Pl w A n L p (t :: r)) (hk:t.k≠3):Pl w A n L (p+1) r:=by
  refine ⟨h.ts,?_,h.tidy.tail hk,h.len,h.small⟩
  rw [←List.drop_drop,h.l_eq]
  rfl
theorem ris_any (A:Option Addr) (n cap p:Nat) (L l:List Tk) (b:Bool) (s:ByteArray) (w:World) (h:Pl w A n L p l) :
    Calls Tryz.prog 16 #[.agg #[.slice A n cap,.int .i64 p,.bool b],.string s] w (BoolPost (nextB b s.data.toList l) w):=by
  cases b
  · have hb:Below w.heap.size w (w.alloc (.cells #[.slice A n cap,.int .i64 p,.bool false] 60)):=(Below.refl _ _).alloc (Nat.le_refl _) _
    obtain ⟨a,t,r,rfl,rfl,k0,k1,-⟩:=(h.later hb).at
    have y0:(0:Int)≤p:=by omega
    have y1:(p:Int)<n:=by have:=h.lt;omega
    obtain ⟨q,hq⟩:∃ q:Bool,(t.s.data.toList==s.data.toList)=q:=⟨_,rfl⟩
    have e0:(t.s.toList==s.toList)=q:=by rw [←hq,Lib.toList_data,Lib.toList_data]
    have E:=hid (show nextB false s.data.toList (t :: r)=(!(t.k==3)&&q) by rw [←hq];rfl)
    have HB:=hid hb
    clear hq h hb
    cases hk:(t.k==3)
    · have hk2:(t.k != 3)=true:=by rw [bne,hk];rfl
      go_enter Tryz.func16,Tryz.ntmps16
      go_wp2_with fail
      go_ret
      exact ⟨by rw [E.out,hk];cases q<;>rfl,HB.out⟩
    have hk2:(t.k != 3)=false:=by rw [bne,hk];rfl
    go_enter Tryz.func16,Tryz.ntmps16
    go_wp2_with fail
    go_ret
    exact ⟨by rw [E.out,hk];cases q<;>rfl,HB.out⟩
  go_enter Tryz.func16,Tryz.ntmps16
  go_wp2_with fail
  go_ret
  exact ⟨rfl,(Below.refl _ _).alloc (Nat.le_refl _) _⟩
theorem flatPl:Flat 60 3:=⟨by kernel_rfl,_,Tryz.underlying60,rfl⟩
def RAft {α:Type} (w:World) (A:Option Addr) (n:Nat) (L:List Tk) (p:Nat) (b:Bool) (v:α):Got α→Prop
  | .ok u q=>v=u∧b=false∧Pl w A n L p q
  | .bad q=>b=true∧Pl w A n L p q
def plV (A:Option Addr) (n cap p:Nat) (b:Bool):List Value:=[.slice A n cap,.int .i64 p,.bool b]
theorem pl_one {A:Option Addr} {n cap:Nat} {p:Int} {b:Bool}:∀ u∈([.slice A n cap,.int .i64 p,.bool b]:List Value),u.oneCell'=true:=by
  intro u hu
  simp only [List.mem_cons,List.not_mem_nil,or_false] at hu
  rcases hu with rfl | rfl | rfl<;>rfl
def RNamePost (A:Option Addr) (n cap:Nat) (L l:List Tk) (b:Bool) (w:World) (e:Ending) (w':World):Prop:=∃ (t:Tk) (p':Nat) (b':Bool),e=.returned (.tuple #[.agg (plV A n cap p' b').toArray,.string t.s,.int .i64 t.o])∧t.s.size≤100000∧RAft w' A n L p' b' t (stop b l (name l))∧Below w.heap.size w w'∧∀ q,stop b l (name l)=.bad q→t=⟨0,⟨#[]⟩,0⟩
theorem results_rname {w:World} {b:Nat} {us:List Value} {v u:Value} (tmps:Array Value) (ht:tmps[2]?.getD undef=.pointer (some ⟨b,0,none⟩)) (hv:tmps[3]?.getD undef=v) (hu:tmps[4]?.getD undef=u) (hc:Boxd w b us) (hl:us.length=3):(results Tryz.f53 tmps).run Tryz.prog w=.ok (.tuple #[.agg us.toArray,v,u]) w:=by
  have h:=run_cell flatPl hc hl
  have h2:=run_addr ⟨b,0,none⟩ w
  simp [results,Tryz.results53,ht,hv,hu,h,h2,Sem.run_bind,Result.andThen]
theorem two_pl (w:World) (A:Option Addr) (n cap p:Nat) (b:Bool):∃ W,(w.alloc (.cells #[.slice A n cap,.int .i64 p,.bool b] 60)).alloc (.cells #[.slice none 0 0,.int .i64 0,.bool false] 60)=W∧Below w.heap.size w W∧W.heap.size=w.heap.size+2∧Boxd W w.heap.size (plV A n cap p b)∧W.there w.heap.size 0 3∧W.there (w.heap.size+1) 0 3:=by
  have hb0:Below w.heap.size w (w.alloc (.cells #[.slice A n cap,.int .i64 p,.bool b] 60)):=(Below.refl _ _).alloc (Nat.le_refl _) _
  have hb1:Below (w.alloc (.cells #[.slice A n cap,.int .i64 p,.bool b] 60)).heap.size (w.alloc (.cells #[.slice A n cap,.int .i64 p,.bool b] 60)) ((w.alloc (.cells #[.slice A n cap,.int .i64 p,.bool b] 60)).alloc (.cells #[.slice none 0 0,.int .i64 0,.bool false] 60)):=(Below.refl _ _).alloc (Nat.le_refl _) _
  refine ⟨_,rfl,hb0.alloc hb0.size _,by simp,(Boxd.new w #[.slice A n cap,.int .i64 p,.bool b] 60).later hb1,?_,?_⟩
  · exact there_gb (there_new w #[.slice A n cap,.int .i64 p,.bool b] 60) (by simp) (by omega:w.heap.size≠w.heap.size+9) (gb_of _ hb1)
  have:=there_new (w.alloc (.cells #[.slice A n cap,.int .i64 p,.bool b] 60)) #[.slice none 0 0,.int .i64 0,.bool false] 60
  rwa [World.size_alloc] at this
theorem there_free {w:World} {b:Nat} (h:w.there b 0 3) (j:Nat) (hj:j<3):w.frozen? ⟨b,j,none⟩=false:=by
  have:=(h j hj).2
  rwa [Nat.zero_add] at this
theorem boxd_put {w:World} {b:Nat} {v0 v1 v2 v:Value} (h:Boxd w b [v0,v1,v2]):Boxd (w.setCell ⟨b,2,none⟩ v) b [v0,v1,v]∧Boxd (w.setCell ⟨b,1,none⟩ v) b [v0,v,v2]:=by
  constructor
  · intro j u hu
    match j,hu with
    | 0,hu=>exact (World.cell?_setCell_other _ _ _ _ (by simp)).trans (h 0 u hu)
    | 1,hu=>exact (World.cell?_setCell_other _ _ _ _ (by simp)).trans (h 1 u hu)
    | 2,hu=>obtain rfl:=Option.some.inj hu;exact World.cell?_setCell_same _ _ _ (h 2 _ rfl)
    | j+3,hu=>simp at hu
  intro j u hu
  match j,hu with
  | 0,hu=>exact (World.cell?_setCell_other _ _ _ _ (by simp)).trans (h 0 u hu)
  | 1,hu=>obtain rfl:=Option.some.inj hu;exact World.cell?_setCell_same _ _ _ (h 1 _ rfl)
  | 2,hu=>exact (World.cell?_setCell_other _ _ _ _ (by simp)).trans (h 2 u hu)
  | j+3,hu=>simp at hu
theorem rname_any (A:Option Addr) (n cap p:Nat) (L l:List Tk) (b:Bool) (w:World) (h:Pl w A n L p l) :
    Calls Tryz.prog 53 #[.agg #[.slice A n cap,.int .i64 p,.bool b]] w (RNamePost A n cap L l b w):=by
  obtain ⟨W,hW,hb,hz,hbx,ht1,ht2⟩:=two_pl w A n cap p b
  have HW:=hid hW
  have HB:=hid hb
  have HP:=hid (h.later hb)
  obtain ⟨a,t,r,rfl,rfl,k0,k1,k2⟩:=(h.later hb).at
  have y0:(0:Int)≤p:=by omega
  have y1:(p:Int)<n:=by have:=h.lt;omega
  have y2:(p:Int)≤100000:=by have:=h.lt;have:=h.len;omega
  have HT:=hid (show t.s.size≤100000 from h.small t (List.mem_of_mem_drop (by rw [h.l_eq];exact List.mem_cons_self)))
  have HBX:=hid hbx
  have HT1:=hid ht1
  have HT2:=hid ht2
  have HN:=hid (fun hn=>h.tidy.name hn)
  have x0:=hbx 0 _ rfl
  have x1:=hbx 1 _ rfl
  have x2:=hbx 2 _ rfl
  have f1:=there_free ht1 1 (by omega)
  have f2:=there_free ht1 2 (by omega)
  have hlt:=h.lt
  have HBX2:=hid (boxd_at0 (boxd_put (v:=.bool true) hbx).1)
  have hbs:Below w.heap.size w (W.setCell ⟨w.heap.size,2,none⟩ (.bool true)):=hb.setCell (Nat.le_refl _) _
  have HTT:=hid (there_gb ht2 (by omega) (by omega:w.heap.size+1≠w.heap.size) (gb_set W w.heap.size 2 (.bool true)))
  have hend:Below w.heap.size w ((W.setCell ⟨w.heap.size,2,none⟩ (.bool true)).setCells (w.heap.size+1) 0 [.slice (some a) n cap,.int .i64 p,.bool true]):=hbs.trans (below_sets (by omega) _ _ _)
  have HBE:=hid hend
  have HP0:=hid h
  have HPE:=hid (h.later hend)
  obtain ⟨v0,z0⟩:=Option.isSome_iff_exists.1 (ht2 0 (by omega)).1
  obtain ⟨v1,z1⟩:=Option.isSome_iff_exists.1 (ht2 1 (by omega)).1
  obtain ⟨v2,z2⟩:=Option.isSome_iff_exists.1 (ht2 2 (by omega)).1
  rw [Nat.zero_add] at z0 z1 z2
  have q0:=there_free ht2 0 (by omega)
  have q1:=there_free ht2 1 (by omega)
  have q2:=there_free ht2 2 (by omega)
  clear h hW hb hbx ht1 ht2 hbs hend
  by_cases hbad:b=true∨nameB t=false
  · have HBAD:=hid (show RAft ((W.setCell ⟨w.heap.size,2,none⟩ (.bool true)).setCells (w.heap.size+1) 0 [.slice (some a) n cap,.int .i64 p,.bool true]) (some a) n L p true (⟨0,⟨#[]⟩,0⟩:Tk) (stop b (t :: r) (name (t :: r))) by rw [name_bad hbad];exact ⟨rfl,HPE.out⟩)
    cases b
    · have HNB:=hid (show nameB t=false by
        rcases hbad with h | h
        · cases h
        exact h)
      clear hbad
      cases hk:(t.k==1)
      · have hk2:(t.k != 1)=true:=by rw [bne,hk];rfl
        go_enter Tryz.func53,Tryz.ntmps53
        go_upto_region 1 with fail
        rw [HW.out]
        go_wp2_with (first | fail)
        refine bodyPost_ret (results_rname _ rfl rfl rfl (show Boxd _ _ [.slice (some a) n cap,.int .i64 p,.bool true] from set_there (us:=[.slice (some a) n cap,.int .i64 p,.bool true]) HTT.out) rfl) rfl ?_
        exact ⟨⟨0,⟨#[]⟩,0⟩,p,true,rfl,by show (0:Nat)≤_;omega,HBAD.out,HBE.out,fun _ _=>rfl⟩
      have hk2:(t.k != 1)=false:=by rw [bne,hk];rfl
      have CI:=hid (show Calls Tryz.prog 27 #[.string t.s] W (fun e w'=>e=.returned (.bool false)∧W=w') by have:=nm_ref_is_any t.s (by have:=HT.out;omega) W;rwa [show Nm.isB t.s.data.toList=false from HNB.out] at this)
      go_enter Tryz.func53,Tryz.ntmps53
      go_upto_region 1 with fail
      rw [HW.out]
      go_wp2_with (first | ((with_reducible refine CI.out.mono ?_);rintro e w' ⟨rfl,rfl⟩) | fail)
      refine bodyPost_ret (results_rname _ rfl rfl rfl (show Boxd _ _ [.slice (some a) n cap,.int .i64 p,.bool true] from set_there (us:=[.slice (some a) n cap,.int .i64 p,.bool true]) HTT.out) rfl) rfl ?_
      exact ⟨⟨0,⟨#[]⟩,0⟩,p,true,rfl,by show (0:Nat)≤_;omega,HBAD.out,HBE.out,fun _ _=>rfl⟩
    clear hbad
    go_enter Tryz.func53,Tryz.ntmps53
    go_upto_region 1 with fail
    rw [HW.out]
    go_wp2_with (first | fail)
    refine bodyPost_ret (results_rname _ rfl rfl rfl (show Boxd _ _ [.slice (some a) n cap,.int .i64 p,.bool true] from set_there (us:=[.slice (some a) n cap,.int .i64 p,.bool true]) HTT.out) rfl) rfl ?_
    exact ⟨⟨0,⟨#[]⟩,0⟩,p,true,rfl,by show (0:Nat)≤_;omega,HBAD.out,HBE.out,fun _ _=>rfl⟩
  have hb0:b=false:=by
    cases b
    · rfl
    exact absurd (.inl rfl) hbad
  subst hb0
  have hn1:nameB t=true:=by
    cases hq:nameB t
    · exact absurd (.inr hq) hbad
    rfl
  have hk1:t.k=1:=HN.out hn1
  have hk:(t.k==1)=true:=by rw [hk1];rfl
  have hk2:(t.k != 1)=false:=by rw [hk1];rfl
  have HOK:=hid (name_ok (r:=r) hn1)
  have HK1:=hid hk1
  have CI:=hid (show Calls Tryz.prog 27 #[.string t.s] W (fun e w'=>e=.returned (.bool true)∧W=w') by have:=nm_ref_is_any t.s (by have:=HT.out;omega) W;rwa [show Nm.isB t.s.data.toList=true from hn1] at this)
  have HCA:=hid (show CellsAt W (a.add (p*3)) [.int .i64 t.k,.string t.s,.int .i64 t.o] from by
    intro j u hu
    match j,hu with
    | 0,hu=>obtain rfl:=Option.some.inj hu;simpa [Addr.add] using k0
    | 1,hu=>obtain rfl:=Option.some.inj hu;simpa [Addr.add] using k1
    | 2,hu=>obtain rfl:=Option.some.inj hu;simpa [Addr.add] using k2
    | j+3,hu=>simp at hu)
  clear hbad hn1 hk1
  go_enter Tryz.func53,Tryz.ntmps53
  go_upto_region 1 with fail
  rw [HW.out]
  go_wp2_with fail
  refine CI.out.mono ?_
  rintro e w' ⟨rfl,rfl⟩
  go_upto_region 5 with fail
  obtain ⟨V,hV⟩:∃ V,W.alloc (.cells #[.int .i64 t.k,.string t.s,.int .i64 t.o] 111)=V:=⟨_,rfl⟩
  have hbV:Below W.heap.size W V:=hV▸(Below.refl _ _).alloc (Nat.le_refl _) _
  have tb:Boxd V (w.heap.size+2) [.int .i64 t.k,.string t.s,.int .i64 t.o]:=hV▸hz▸Boxd.new W #[.int .i64 t.k,.string t.s,.int .i64 t.o] 111
  obtain ⟨V1,hV1⟩:∃ V1,V.setCell ⟨w.heap.size,1,none⟩ (.int .i64 ((p:Int)+1))=V1:=⟨_,rfl⟩
  have hlz:w.heap.size<W.heap.size:=by omega
  have hlz1:w.heap.size+1<W.heap.size:=by omega
  have bxV:Boxd V w.heap.size [.slice (some a) n cap,.int .i64 p,.bool false]:=HBX.out.later hbV
  have bxV1:Boxd V1 w.heap.size [.slice (some a) n cap,.int .i64 ((p:Int)+1),.bool false]:=hV1▸(boxd_put bxV).2
  have tb1:Boxd V1 (w.heap.size+2) [.int .i64 t.k,.string t.s,.int .i64 t.o]:=hV1▸boxd_gb (gb_set V w.heap.size 1 _) (by omega) tb
  have thV1:V1.there (w.heap.size+1) 0 3:=hV1▸there_gb (there_gb HT2.out (by omega) (by omega:w.heap.size+1≠w.heap.size+9) (gb_of _ hbV)) (by have:=hbV.size;omega) (by omega) (gb_set V w.heap.size 1 _)
  have hbV1:Below w.heap.size w V1:=hV1▸(HB.out.trans (hbV.mono (by omega))).setCell (Nat.le_refl _) _
  have u1:V.cell? ⟨w.heap.size,1,none⟩=some (.int .i64 (p:Int)):=bxV 1 _ rfl
  have g1:V.frozen? ⟨w.heap.size,1,none⟩=false:=(hbV.frozen (p:=⟨w.heap.size,1,none⟩) hlz).trans f1
  rw [hV]
  have HV1:=hid hV1
  have HBX1:=hid bxV1
  have HTB1:=hid tb1
  have HTH1:=hid thV1
  have HBV1:=hid hbV1
  clear x0 x1 x2 f1 f2 z0 z1 z2 q0 q1 q2 k0 k1 k2 hV hbV tb hV1 hlz hlz1 bxV bxV1 tb1 thV1 hbV1 HBX HTT HBE HPE HBX2 HW HT1 HT2 HCA CI
  go_upto_region 6 with fail
  rw [show V.setCell ⟨w.heap.size,1,none⟩ (.int .i64 ((p:Int)+1))=V1 from HV1.out]
  clear u1 g1
  have SS:V1.rangeAt w.heap.size 0 [.slice (some a) n cap,.int .i64 ((p:Int)+1),.bool false]∧V1.cell? ⟨w.heap.size+2,1,none⟩=some (.string t.s)∧V1.cell? ⟨w.heap.size+2,2,none⟩=some (.int .i64 t.o):=⟨fun j u hu=>by rw [Nat.zero_add];exact HBX1.out j u hu,HTB1.out 1 _ rfl,HTB1.out 2 _ rfl⟩
  go_wp2_with fail
  refine wp_region_held_drew (S:=fun V=>V.rangeAt w.heap.size 0 [.slice (some a) n cap,.int .i64 ((p:Int)+1),.bool false]∧V.cell? ⟨w.heap.size+2,1,none⟩=some (.string t.s)∧V.cell? ⟨w.heap.size+2,2,none⟩=some (.int .i64 t.o)) (by kernel_rfl) SS (fun hS=>?_)
  refine wpAnyH_take (i:=0) (v:=.agg ([.slice (some a) n cap,.int .i64 ((p:Int)+1),.bool false]:List Value).toArray) rfl (by kernel_rfl) (by kernel_rfl) (by kernel_rfl) (fun _ _ _ h=>h) (yieldsIf_load_mid rfl 60 (.tmp 1) rfl w.heap.size 0 rfl [.slice (some a) n cap,.int .i64 ((p:Int)+1),.bool false] _ (fun V hV=>hV.1) Tryz.underlying60 rfl flatPl.size) (by assumption) ?_
  try simp only [Act.put,List.getElem_toArray,List.getElem_cons_zero,List.setIfInBounds_toArray,List.set_cons_zero,List.set_cons_succ]
  first
  | (refine wpAnyH_take (i:=1) (v:=?_) rfl (by kernel_rfl) (by kernel_rfl) (by kernel_rfl) (fun _ _ _ h=>h) (Or.inl ⟨by rfl,?_⟩) (by assumption) ?_
     rotate_left
     · (intro V hV;go_simp;try with_reducible rfl)
     try simp only [Act.put,List.getElem_toArray,List.getElem_cons_zero,List.getElem_cons_succ,List.setIfInBounds_toArray,List.set_cons_zero,List.set_cons_succ])
  | fail "take 1"
  first
  | (refine wpAnyH_take (i:=2) (v:=?_) rfl (by kernel_rfl) (by kernel_rfl) (by kernel_rfl) (fun _ _ _ h=>h) (Or.inl ⟨by rfl,?_⟩) (by assumption) ?_
     rotate_left
     · (intro V hV;have x1:=hV.2.1;go_simp;try with_reducible rfl)
     try simp only [Act.put,List.getElem_toArray,List.getElem_cons_zero,List.getElem_cons_succ,List.setIfInBounds_toArray,List.set_cons_zero,List.set_cons_succ])
  | fail "take 2"
  first
  | (refine wpAnyH_take (i:=3) (v:=?_) rfl (by kernel_rfl) (by kernel_rfl) (by kernel_rfl) (fun _ _ _ h=>h) (Or.inl ⟨by rfl,?_⟩) (by assumption) ?_
     rotate_left
     · (intro V hV;go_simp;try with_reducible rfl)
     try simp only [Act.put,List.getElem_toArray,List.getElem_cons_zero,List.getElem_cons_succ,List.setIfInBounds_toArray,List.set_cons_zero,List.set_cons_succ])
  | fail "take 3"
  first
  | (refine wpAnyH_take (i:=4) (v:=?_) rfl (by kernel_rfl) (by kernel_rfl) (by kernel_rfl) (fun _ _ _ h=>h) (Or.inl ⟨by rfl,?_⟩) (by assumption) ?_
     rotate_left
     · (intro V hV;have x2:=hV.2.2;go_simp;try with_reducible rfl)
     try simp only [Act.put,List.getElem_toArray,List.getElem_cons_zero,List.getElem_cons_succ,List.setIfInBounds_toArray,List.set_cons_zero,List.set_cons_succ])
  | fail "take 4"
  refine wpAnyH_ready (rs:=[5]) (by kernel_rfl) (by simp) ?_
  refine AllReadyH.cons rfl (fun K hK=>?_) AllReadyH.nil
  refine ready_store flatPl rfl (.tmp 2) (.tmp 41) rfl (b:=w.heap.size+1) (off:=0) (us:=[.slice (some a) n cap,.int .i64 ((p:Int)+1),.bool false]) rfl rfl HTH1.out pl_one rfl ?_
  have SS:(V1.drew.setCells (w.heap.size+1) 0 [.slice (some a) n cap,.int .i64 ((p:Int)+1),.bool false]).rangeAt w.heap.size 0 [.slice (some a) n cap,.int .i64 ((p:Int)+1),.bool false]∧(V1.drew.setCells (w.heap.size+1) 0 [.slice (some a) n cap,.int .i64 ((p:Int)+1),.bool false]).cell? ⟨w.heap.size+2,1,none⟩=some (.string t.s)∧(V1.drew.setCells (w.heap.size+1) 0 [.slice (some a) n cap,.int .i64 ((p:Int)+1),.bool false]).cell? ⟨w.heap.size+2,2,none⟩=some (.int .i64 t.o) :=
    ⟨World.rangeAt_setCells_apart hS.1 _ _ _ (.inl (by omega)),(World.cell?_setCells_out _ _ _ _ _ (fun e=>by have e2:w.heap.size+2=w.heap.size+1:=e;omega)).trans hS.2.1,(World.cell?_setCells_out _ _ _ _ _ (fun e=>by have e2:w.heap.size+2=w.heap.size+1:=e;omega)).trans hS.2.2⟩
  refine hK.out _ _ SS (fun hS=>?_)
  clear hK K
  try simp only [Act.put,List.getElem_toArray,List.getElem_cons_zero,List.getElem_cons_succ]
  first
  | (refine wpAnyH_take (i:=6) (v:=?_) rfl (by kernel_rfl) (by kernel_rfl) (by kernel_rfl) (fun _ _ _ h=>h) (Or.inl ⟨by rfl,?_⟩) (by assumption) ?_
     rotate_left
     · (intro V hV;go_simp;try with_reducible rfl)
     try simp only [Act.put,List.getElem_toArray,List.getElem_cons_zero,List.getElem_cons_succ,List.setIfInBounds_toArray,List.set_cons_zero,List.set_cons_succ])
  | fail "take 6"
  first
  | (refine wpAnyH_take (i:=7) (v:=?_) rfl (by kernel_rfl) (by kernel_rfl) (by kernel_rfl) (fun _ _ _ h=>h) (Or.inl ⟨by rfl,?_⟩) (by assumption) ?_
     rotate_left
     · (intro V hV;go_simp;try with_reducible rfl)
     try simp only [Act.put,List.getElem_toArray,List.getElem_cons_zero,List.getElem_cons_succ,List.setIfInBounds_toArray,List.set_cons_zero,List.set_cons_succ])
  | fail "take 7"
  refine wpAnyH_done (by kernel_rfl) ?_ _
  clear SS
  go_wp2_with fail
  refine bodyPost_ret (results_rname _ rfl rfl rfl (set_there (us:=[.slice (some a) n cap,.int .i64 ((p:Int)+1),.bool false]) HTH1.out) rfl) rfl ?_
  have hfin:Below w.heap.size w (V1.drew.setCells (w.heap.size+1) 0 [.slice (some a) n cap,.int .i64 ((p:Int)+1),.bool false]):=HBV1.out.drew.trans (below_sets (by omega) _ _ _)
  refine ⟨t,p+1,false,rfl,HT.out,?_,hfin,fun q h=>by rw [HOK.out] at h;cases h⟩
  rw [HOK.out]
  exact ⟨rfl,rfl,(HP0.out.later hfin).step (by rw [HK1.out];decide)⟩
def finC (b:Bool) (l:List Tk):Int:=if !b&&kind l==3 then 0 else 2
def finO (b:Bool) (l:List Tk):Int:=if !b&&kind l==3 then 0 else off l
theorem rfinish_any (A:Option Addr) (n cap p:Nat) (L l:List Tk) (b:Bool) (w:World) (h:Pl w A n L p l) :
    Calls Tryz.prog 19 #[.agg #[.slice A n cap,.int .i64 p,.bool b]] w fun e w'=>e=.returned (.tuple #[.int .i64 (finC b l),.int .i64 (finO b l)])∧Below w.heap.size w w':=by
  have hb:Below w.heap.size w (w.alloc (.cells #[.slice A n cap,.int .i64 p,.bool b] 60)):=(Below.refl _ _).alloc (Nat.le_refl _) _
  obtain ⟨a,t,r,rfl,rfl,k0,k1,k2⟩:=(h.later hb).at
  have y0:(0:Int)≤p:=by omega
  have y1:(p:Int)<n:=by have:=h.lt;omega
  have hlt:=h.lt
  have E1:=hid (show finC b (t :: r)=if !b&&t.k==3 then 0 else 2 from rfl)
  have E2:=hid (show finO b (t :: r)=if !b&&t.k==3 then 0 else t.o from rfl)
  have HB:=hid hb
  clear h hb k1
  cases b
  · cases hk:(t.k==3)
    · go_enter Tryz.func19,Tryz.ntmps19
      go_wp2_with fail
      go_quiet (fail)
      go_wp2_with fail
      go_ret2
      exact ⟨by rw [E1.out,E2.out,hk];rfl,HB.out.trans (below_drewN _ _ _)⟩
    go_enter Tryz.func19,Tryz.ntmps19
    go_wp2_with fail
    go_ret2
    exact ⟨by rw [E1.out,E2.out,hk];rfl,HB.out⟩
  go_enter Tryz.func19,Tryz.ntmps19
  go_wp2_with fail
  go_quiet (fail)
  go_wp2_with fail
  go_ret2
  exact ⟨by rw [E1.out,E2.out];rfl,HB.out.trans (below_drewN _ _ _)⟩
open Go.RowKit
theorem three {V:World} {b:Nat} {v0 v1 v2:Value} (hb:Boxd V b [v0,v1,v2]) (ht:V.there b 0 3):V.cell? ⟨b,0,none⟩=some v0∧V.cell? ⟨b,1,none⟩=some v1∧V.cell? ⟨b,2,none⟩=some v2∧V.frozen? ⟨b,0,none⟩=false∧V.frozen? ⟨b,1,none⟩=false∧V.frozen? ⟨b,2,none⟩=false :=
  ⟨hb 0 _ rfl,hb 1 _ rfl,hb 2 _ rfl,there_free ht 0 (by omega),there_free ht 1 (by omega),there_free ht 2 (by omega)⟩
theorem three_any {V:World} {b:Nat} (ht:V.there b 0 3):∃ v0 v1 v2,Boxd V b [v0,v1,v2]:=by
  obtain ⟨v0,z0⟩:=Option.isSome_iff_exists.1 (ht 0 (by omega)).1
  obtain ⟨v1,z1⟩:=Option.isSome_iff_exists.1 (ht 1 (by omega)).1
  obtain ⟨v2,z2⟩:=Option.isSome_iff_exists.1 (ht 2 (by omega)).1
  rw [Nat.zero_add] at z0 z1 z2
  refine ⟨v0,v1,v2,fun j u hu=>?_⟩
  match j,hu with
  | 0,hu=>obtain rfl:=Option.some.inj hu;exact z0
  | 1,hu=>obtain rfl:=Option.some.inj hu;exact z1
  | 2,hu=>obtain rfl:=Option.some.inj hu;exact z2
  | j+3,hu=>simp at hu
theorem there_below {w w':World} {b n:Nat} (h:w.there b 0 n) (hl:b<w.heap.size) (hb:Below w.heap.size w w'):w'.there b 0 n:=there_gb h hl (by omega:b≠w.heap.size+b+1) (gb_of _ hb)
def RMustPost (A:Option Addr) (n cap:Nat) (L l:List Tk) (b:Bool) (s:List UInt8) (w:World) (e:Ending) (w':World):Prop:=∃ (p':Nat) (b':Bool),e=.returned (.agg #[.slice A n cap,.int .i64 p',.bool b'])∧RAft w' A n L p' b' () (stop b l (must s l))∧Below w.heap.size w w'
theorem results_rmust {w:World} {b:Nat} {us:List Value} (tmps:Array Value) (ht:tmps[4]?.getD undef=.pointer (some ⟨b,0,none⟩)) (hc:Boxd w b us) (hl:us.length=3):(results Tryz.f52 tmps).run Tryz.prog w=.ok (.agg us.toArray) w:=by
  have h:=run_cell flatPl hc hl
  have h2:=run_addr ⟨b,0,none⟩ w
  simp [results,Tryz.results52,ht,h,h2,Sem.run_bind,Result.andThen]
theorem rmust_any (A:Option Addr) (n cap p:Nat) (L l:List Tk) (b:Bool) (s:ByteArray) (w:World) (h:Pl w A n L p l) :
    Calls Tryz.prog 52 #[.agg #[.slice A n cap,.int .i64 p,.bool b],.string s] w (RMustPost A n cap L l b s.data.toList w):=by
  obtain ⟨W,hW,hb,hz,hbx,ht1,ht2⟩:=two_pl w A n cap p b
  have HW:=hid hW
  have HB:=hid hb
  have HP:=hid (h.later hb)
  have HP0:=hid h
  have HBX:=hid hbx
  have HT1:=hid ht1
  have HT2:=hid ht2
  have zp:(p:Int)≤100000:=by have:=h.lt;have:=h.len;omega
  have zp0:(0:Int)≤p:=by omega
  obtain ⟨x0,x1,x2,-⟩:=three hbx ht1
  have CI:=hid (ris_any A n cap p L l b s W HP.out)
  clear h hW hb hbx ht1 ht2
  go_enter Tryz.func52,Tryz.ntmps52
  go_upto_region 1 with fail
  rw [HW.out]
  go_wp2_with fail
  refine CI.out.mono ?_
  rintro e V ⟨rfl,hb⟩
  have hbx:=HBX.out.later hb
  have ht1:=there_below HT1.out (by omega) hb
  have ht2:=there_below HT2.out (by omega) hb
  have HBV:=hid (HB.out.trans (hb.mono HB.out.size))
  have HPV:=hid (HP.out.later hb)
  have HT2V:=hid ht2
  have hsv:=hb.size
  have HBXV:=hid hbx
  have HT1V:=hid ht1
  clear hb x0 x1 x2 CI HBX HT1 HT2 HW HB HP
  obtain ⟨x0,x1,x2,f0,f1,f2⟩:=three hbx ht1
  obtain ⟨v0,v1,v2,hz2⟩:=three_any ht2
  obtain ⟨z0,z1,z2,q0,q1,q2⟩:=three hz2 ht2
  clear hbx ht1 ht2 hz2
  cases hx:nextB b s.data.toList l
  · have HX:=hid hx
    have HTT:=hid (there_gb HT2V.out (by omega) (by omega:w.heap.size+1≠w.heap.size) (gb_set V w.heap.size 2 (.bool true)))
    have HBE:=hid ((HBV.out.setCell (p:=⟨w.heap.size,2,none⟩) (Nat.le_refl _) (.bool true)).trans (below_sets (show w.heap.size≤w.heap.size+1 by omega) [.slice A n cap,.int .i64 p,.bool true] 0 _))
    clear hx
    go_wp2_with fail
    refine bodyPost_ret (results_rmust _ rfl (show Boxd _ _ [.slice A n cap,.int .i64 p,.bool true] from set_there (us:=[.slice A n cap,.int .i64 p,.bool true]) HTT.out) rfl) rfl ?_
    refine ⟨p,true,rfl,?_,HBE.out⟩
    rw [take_stop HX.out]
    exact ⟨rfl,HP0.out.later HBE.out⟩
  have HX:=hid hx
  have HTT:=hid (there_gb HT2V.out (by omega) (by omega:w.heap.size+1≠w.heap.size) (gb_set V w.heap.size 1 (.int .i64 ((p:Int)+1))))
  have HBE:=hid ((HBV.out.setCell (p:=⟨w.heap.size,1,none⟩) (Nat.le_refl _) (.int .i64 ((p:Int)+1))).trans (below_sets (show w.heap.size≤w.heap.size+1 by omega) [.slice A n cap,.int .i64 ((p:Int)+1),.bool b] 0 _))
  clear hx
  go_wp2_with fail
  refine bodyPost_ret (results_rmust _ rfl (show Boxd _ _ [.slice A n cap,.int .i64 ((p:Int)+1),.bool b] from set_there (us:=[.slice A n cap,.int .i64 ((p:Int)+1),.bool b]) HTT.out) rfl) rfl ?_
  obtain ⟨rfl,e1,e2⟩:=take_go HX.out
  obtain ⟨_,hi⟩:=nextB_cons HX.out
  obtain ⟨t0,r0,rfl,hk3,-⟩:=isT_cons hi
  refine ⟨p+1,false,rfl,?_,HBE.out⟩
  rw [e2]
  exact ⟨rfl,rfl,(HP0.out.later HBE.out).step hk3⟩
theorem Pl.move {w w' W:World} {A:Option Addr} {n p0 p:Nat} {L l0 l:List Tk} (h0:Pl w A n L p0 l0) (h:Pl w' A n L p l) (hb:Below w.heap.size w W):Pl W A n L p l:=⟨h0.ts.later hb,h.l_eq,h.tidy,h.len,h.small⟩
theorem RAft.move {α:Type} {w w' W:World} {A:Option Addr} {n p0:Nat} {L l0:List Tk} {p:Nat} {b:Bool} {v:α} {g:Got α} (h0:Pl w A n L p0 l0) (h:RAft w' A n L p b v g) (hb:Below w.heap.size w W):RAft W A n L p b v g:=by
  cases g with
  | ok u q=>exact ⟨h.1,h.2.1,h0.move h.2.2 hb⟩
  | bad q=>exact ⟨h.1,h0.move h.2 hb⟩
def RTyPost (A:Option Addr) (n cap:Nat) (L l:List Tk) (m:Nat) (w:World) (e:Ending) (w':World):Prop:=∃ (t:Ty) (us:List Value) (p':Nat) (b':Bool),e=.returned (.tuple #[.agg #[.slice A n cap,.int .i64 p',.bool b'],.agg us.toArray])∧t.dat.In w' False (Fr w.heap.size w') us∧RAft w' A n L p' b' t (tyF m l)∧Below w.heap.size w w'
def RTyAt (m:Nat):Prop:=∀ (A:Option Addr) (n cap p:Nat) (L l:List Tk) (w:World),Pl w A n L p l→2*l.length+1≤m→Calls Tryz.prog 57 #[.agg #[.slice A n cap,.int .i64 p,.bool false]] w (RTyPost A n cap L l m w)
def RTysPost (A:Option Addr) (n cap:Nat) (L l:List Tk) (m:Nat) (w:World) (e:Ending) (w':World):Prop:=∃ (ts:List Ty) (B:Option Addr) (k p':Nat) (b':Bool),e=.returned (.tuple #[.agg #[.slice A n cap,.int .i64 p',.bool b'],.slice B ts.length k])∧Row w' False (Fr w.heap.size w') 3 B ts.length (Ty.dats ts)∧RAft w' A n L p' b' ts (targsF m l)∧Below w.heap.size w w'
structure TRel (w wr:World) (A:Option Addr) (n cap:Nat) (L l:List Tk) (N m:Nat) (v:Value) (acc:List Ty) (q:List Tk) (p:Nat) (b:Bool):Prop where
  pl:Pl w A n L p q
  box:Boxd wr w.heap.size [.slice A n cap,.int .i64 p,.bool b]
  own1:wr.there w.heap.size 0 3
  own2:wr.there (w.heap.size+1) 0 3
  row:Built wr False 29 3 (w.heap.size+2) v acc.length (Ty.dats acc)
  bel:Below w.heap.size w wr
  big:w.heap.size+2≤wr.heap.size
  fuel:b=false→2*q.length≤m+1
  less:m≤N
  few:acc.length+q.length≤100001
  sign:b=false→∃ t r,q=t :: r∧t.k≠3
  eq:targsF N l=if b then .bad q else Got.bind (tyF m q.tail) fun u q=>Got.bind (moreF m (acc++[u]) q) fun ts q=>Got.bind (must [93] q) fun _ q=>.ok ts q
theorem results_rtargs {w:World} {b:Nat} {us:List Value} {v:Value} (tmps:Array Value) (ht:tmps[2]?.getD undef=.pointer (some ⟨b,0,none⟩)) (hv:tmps[3]?.getD undef=v) (hc:Boxd w b us) (hl:us.length=3):(results Tryz.f102 tmps).run Tryz.prog w=.ok (.tuple #[.agg us.toArray,v]) w:=by
  have h:=run_cell flatPl hc hl
  have h2:=run_addr ⟨b,0,none⟩ w
  simp [results,Tryz.results102,ht,hv,h,h2,Sem.run_bind,Result.andThen]
theorem raft_next {α β:Type} {w:World} {A:Option Addr} {n:Nat} {L:List Tk} {p:Nat} {b:Bool} {t:α} {r:List Tk} {g:Got α} (he:Got.Less r g) (h:RAft w A n L p b t g) (f:α→List Tk→Got β) :
    ∃ q,Pl w A n L p q∧q.length≤r.length∧(b=false→q.length<r.length)∧Got.bind g f=if b then .bad q else f t q:=by
  cases g with
  | ok u q=>obtain ⟨rfl,rfl,h3⟩:=h;exact ⟨q,h3,Nat.le_of_lt he.2,fun _=>he.2,rfl⟩
  | bad q=>obtain ⟨rfl,h3⟩:=h;exact ⟨q,h3,he.length_le,fun h=>(by cases h),rfl⟩
theorem raft_ret {α β:Type} {w:World} {A:Option Addr} {n:Nat} {L:List Tk} {p:Nat} {b:Bool} {u:β} {v:α} {g:Got β} (h:RAft w A n L p b u g) (f:β→α) (hv:f u=v):RAft w A n L p b v (Got.bind g fun u q=>.ok (f u) q):=by
  cases g with
  | ok x q=>obtain ⟨rfl,h2⟩:=h;exact ⟨hv.symm,h2⟩
  | bad q=>exact h
theorem there_lt {w w':World} {b n B:Nat} (h:w.there b 0 n) (hb:Below B w w') (hl:b<B):w'.there b 0 n:=fun j hj=>by
  obtain ⟨h1,h2⟩:=h j hj
  exact ⟨by rw [hb.cell (p:=⟨b,0+j,none⟩) hl];exact h1,(hb.frozen (p:=⟨b,0+j,none⟩) hl).trans h2⟩
theorem built_far {V V':World} {N:Prop} {e:TypeId} {z lo k:Nat} {v:Value} {ds:List Dat} (h:Built V N e z lo v k ds) (hk:∀ i,lo≤i→i<V.heap.size→V'.heap[i]?=V.heap[i]?) :
    ∃ cs S,V'.ownsRow lo e z v k cs∧Dat.Ins V' N S ds cs∧(∀ x∈ds,x.size=z)∧(∀ b,S b→lo≤b∧b<V.heap.size∧v.ownBlock≠some b)∧∀ g,v.ownBlock=some g→lo≤g∧g<V.heap.size:=by
  obtain ⟨cs,S,h1,h2,h3,h4⟩:=h
  refine ⟨cs,S,⟨h1.1,?_⟩,Dat.Ins.keep id (fun p hp=>?_) (fun _ h=>h) ds cs h2,h3,h4,h1.lt⟩
  · rcases h1.2 with hn | ⟨g,cap,cur,rfl,hbs,hg,rest⟩
    · exact .inl hn
    exact .inr ⟨g,cap,cur,rfl,hbs,(hk g hbs (Array.getElem?_eq_some_iff.1 hg).1).trans hg,rest⟩
  obtain ⟨a1,a2,_⟩:=h4 _ hp
  exact ⟨World.cell?_of_block (w:=V) (hk _ a1 a2),World.frozen?_of_block (w:=V) (hk _ a1 a2)⟩
theorem rtargs_any (N:Nat) (ih:∀ m,m≤N→RTyAt m) (A:Option Addr) (n cap p:Nat) (L l:List Tk) (w:World) (h:Pl w A n L p l) (hf:2*l.length≤N+1) :
    Calls Tryz.prog 102 #[.agg #[.slice A n cap,.int .i64 p,.bool false]] w (RTysPost A n cap L l N w):=by
  obtain ⟨W,hW,hb,hz,hbx,ht1,ht2⟩:=two_pl w A n cap p false
  have HW:=hid hW
  have HB:=hid hb
  have HP:=hid (h.later hb)
  have HP0:=hid h
  have HBX:=hid hbx
  have HT1:=hid ht1
  have HT2:=hid ht2
  have HF:=hid hf
  have IH:=hid ih
  have HLL:=hid (show l.length≤100000 by have h1:=h.ts.len;have h2:=h.len;rw [←h.l_eq,List.length_drop];omega)
  obtain ⟨i0,hi0,hz0,hz1,hz2⟩:=info_parts infoTyR
  obtain ⟨x0,x1,x2,-⟩:=three hbx ht1
  have CI:=hid (show Calls Tryz.prog 16 #[.agg #[.slice A n cap,.int .i64 p,.bool false],.string ⟨#[91]⟩] W (BoolPost (nextB false [91] l) W) from ris_any A n cap p L l false ⟨#[91]⟩ W HP.out)
  clear h hW hb hbx ht1 ht2 hf ih
  go_enter Tryz.func102,Tryz.ntmps102
  go_upto_region 1 with fail
  rw [HW.out]
  go_wp2_with fail
  refine CI.out.mono ?_
  rintro e V ⟨rfl,hb⟩
  have HBXV:=hid (HBX.out.later hb)
  have HT1V:=hid (there_below HT1.out (by omega) hb)
  have HT2V:=hid (there_below HT2.out (by omega) hb)
  have HBV:=hid (HB.out.trans (hb.mono HB.out.size))
  have HPV:=hid (HP.out.later hb)
  have hsv:=hb.size
  clear hb x0 x1 x2 CI HBX HT1 HT2 HW HB HP
  obtain ⟨x0,x1,x2,f0,f1,f2⟩:=three HBXV.out HT1V.out
  obtain ⟨v0,v1,v2,hz2'⟩:=three_any HT2V.out
  obtain ⟨z0,z1,z2,q0,q1,q2⟩:=three hz2' HT2V.out
  clear hz2'
  cases hx:nextB false [91] l
  · have HX:=hid (show isT [91] l=false by rw [←nextB_false];exact hx)
    have HBE:=hid (HBV.out.trans (below_sets (show w.heap.size≤w.heap.size+1 by omega) [.slice A n cap,.int .i64 p,.bool false] 0 _))
    clear hx
    go_wp2_with fail
    refine bodyPost_ret (results_rtargs _ rfl rfl (show Boxd _ _ [.slice A n cap,.int .i64 p,.bool false] from set_there (us:=[.slice A n cap,.int .i64 p,.bool false]) HT2V.out) rfl) rfl ?_
    refine ⟨[],none,0,p,false,rfl,Row.nil _ _ _ _ _,?_,HBE.out⟩
    rw [targsF_eq,HX.out]
    exact ⟨rfl,rfl,HP0.out.later HBE.out⟩
  have HX:=hid (show isT [91] l=true by rw [←nextB_false];exact hx)
  clear hx x0 x1 x2 f0 f1 f2 z0 z1 z2 q0 q1 q2
  go_wp2_with fail
  go_loopw [4] (fun v wr=>∃ m acc q p b,TRel w wr A n cap L l N m v acc q p b) (fun v _=>200000-lenOf v)
  case atStart =>
    obtain ⟨t0,r0,e0,hk0,-⟩:=isT_cons HX.out
    refine ⟨N,[],l,p,false,⟨HP0.out,HBXV.out,HT1V.out,HT2V.out,Built.nil _ _ _ _ _,HBV.out,by omega,fun _=>HF.out,Nat.le_refl _,by have:=HLL.out;simp;omega,fun _=>⟨t0,r0,e0,hk0⟩,?_⟩⟩
    rw [targsF_eq,HX.out,if_pos rfl,if_neg (by decide),manyF,bind_bind]
    rfl
  obtain ⟨m,acc,q,p,b,hr⟩:=hrel
  have HR:=hid hr
  obtain ⟨B,kc,hv,-⟩:=hr.row.row (by omega) (by have:=hr.few;omega)
  subst hv
  have hfew:=hr.few
  obtain ⟨x0,x1,x2,f0,f1,f2⟩:=three hr.box hr.own1
  have zp:(p:Int)≤100000:=by have:=hr.pl.lt;have:=hr.pl.len;omega
  have zp0:(0:Int)≤p:=by omega
  have hbig:=hr.big
  clear hr
  cases b
  · obtain ⟨t0,r0,rfl,hk0⟩:=HR.out.sign rfl
    obtain ⟨k,rfl⟩:∃ k,m=k+1:=⟨m-1,by have:=HR.out.fuel rfl;simp only [List.length_cons] at this;omega⟩
    have HPS:=hid (HR.out.pl.step hk0)
    obtain ⟨V1,hV1⟩:∃ V,wr.setCell ⟨w.heap.size,1,none⟩ (.int .i64 ((p:Int)+1))=V:=⟨_,rfl⟩
    have bx1:Boxd V1 w.heap.size [.slice A n cap,.int .i64 ((p:Int)+1),.bool false]:=hV1▸(boxd_put HR.out.box).2
    have hg1:wr.grownBy V1 (some w.heap.size):=hV1▸gb_set wr w.heap.size 1 _
    have o1:V1.there w.heap.size 0 3:=hV1▸(show (wr.setCell ⟨w.heap.size,1,none⟩ (.int .i64 ((p:Int)+1))).there w.heap.size 0 3 from World.there_setCells HR.out.own1 w.heap.size 1 [.int .i64 ((p:Int)+1)])
    have o2:=there_gb HR.out.own2 (by omega) (by omega) hg1
    have rw1:=built_gb hg1 (by omega:w.heap.size<w.heap.size+2) HR.out.row
    have bl1:Below w.heap.size w V1:=hV1▸HR.out.bel.setCell (Nat.le_refl _) _
    have hs1:wr.heap.size≤V1.heap.size:=hg1.size
    obtain ⟨V2,hV2⟩:∃ V,V1.alloc (.cells #[.string ⟨#[]⟩,.slice none 0 0,.int .i64 0] 29)=V:=⟨_,rfl⟩
    have hb2:Below V1.heap.size V1 V2:=hV2▸(Below.refl _ _).alloc (Nat.le_refl _) _
    have hs2:V2.heap.size=V1.heap.size+1:=by rw [←hV2];simp
    have BX2:=hid (bx1.later hb2)
    have O12:=hid (there_below o1 (by omega) hb2)
    have O22:=hid (there_below o2 (by omega) hb2)
    have RW1:=hid rw1
    have HB12:=hid hb2
    have HS2:=hid hs2
    have BL2:=hid (bl1.trans (hb2.mono (by omega)))
    obtain ⟨g,hgg⟩:∃ g,g=V1.heap.size:=⟨_,rfl⟩
    have OG2:=hid (show V2.there g 0 3 from hgg▸hV2▸there_new V1 #[.string ⟨#[]⟩,.slice none 0 0,.int .i64 0] 29)
    have HGG:=hid hgg
    have HV1:=hid hV1
    have HV2:=hid hV2
    have hgb:w.heap.size+2≤g:=by omega
    have hgs:g<V2.heap.size:=by omega
    have C7:=hid (IH.out (k+1) HR.out.less A n cap (p+1) L r0 V2 (HPS.out.later BL2.out) (by have:=HR.out.fuel rfl;simp only [List.length_cons] at this;omega))
    clear hk0 hV1 bx1 hg1 o1 o2 rw1 bl1 hV2 hb2 hgg hs1 hs2
    go_upto_region 6 with fail
    rw [show wr.setCell ⟨w.heap.size,1,none⟩ (.int .i64 ((p:Int)+1))=V1 from HV1.out]
    clear x0 x1 x2 f0 f1 f2
    go_upto_region 7 with fail
    rw [show V1.alloc (.cells #[.string ⟨#[]⟩,.slice none 0 0,.int .i64 0] 29)=V2 from HV2.out,←HGG.out]
    obtain ⟨x0,x1,x2,-⟩:=three BX2.out O12.out
    go_wp2_with fail
    refine C7.out.mono ?_
    rintro e w3 ⟨t,us,p',b',rfl,hd,hra,hb3⟩
    obtain ⟨B1,m1,c1,rfl,-⟩:=ty_open hd
    obtain ⟨W4,hW4⟩:∃ W,w3.setCells w.heap.size 0 [.slice A n cap,.int .i64 p',.bool b']=W:=⟨_,rfl⟩
    obtain ⟨W5,hW5⟩:∃ W,W4.setCells g 0 [.string t.name,.slice B1 m1 c1,.int .i64 t.off]=W:=⟨_,rfl⟩
    have g4:w3.grownBy W4 (some w.heap.size):=hW4▸gb_sets1 _ _ _ _
    have g5:W4.grownBy W5 (some g):=hW5▸gb_sets1 _ _ _ _
    have hs3:=hb3.size
    have hs4:=g4.size
    have hs5:=g5.size
    have a13:=there_below O12.out (by omega) hb3
    have a23:=there_below O22.out (by omega) hb3
    have ag3:=there_below OG2.out hgs hb3
    have BX5:=hid (show Boxd W5 w.heap.size [.slice A n cap,.int .i64 p',.bool b'] from boxd_gb g5 (by omega) (hW4▸set_there (us:=[.slice A n cap,.int .i64 p',.bool b']) a13))
    have O15:=hid (there_gb (hW4▸World.there_setCells a13 w.heap.size 0 [.slice A n cap,.int .i64 p',.bool b']) (by omega) (by omega) g5)
    have O25:=hid (there_gb (there_gb a23 (by omega) (by omega) g4) (by omega) (by omega:w.heap.size+1≠g) g5)
    have ag4:=there_gb ag3 (by omega) (by omega:g≠w.heap.size) g4
    have BG5:=hid (show Boxd W5 g [.string t.name,.slice B1 m1 c1,.int .i64 t.off] from hW5▸set_there (us:=[.string t.name,.slice B1 m1 c1,.int .i64 t.off]) ag4)
    have OG5:=hid (show W5.there g 0 3 from hW5▸World.there_setCells ag4 g 0 [.string t.name,.slice B1 m1 c1,.int .i64 t.off])
    have BL5:=hid (show Below w.heap.size w W5 from hW5▸(hW4▸(BL2.out.trans (hb3.mono (by omega))).trans (below_sets (Nat.le_refl _) _ _ _)).trans (below_sets (by omega) _ _ _))
    have HD5:=hid (show t.dat.In W5 False (Fr V2.heap.size W5) [.string t.name,.slice B1 m1 c1,.int .i64 t.off] from in_gb g5 (by omega) (in_gb g4 (by omega) hd))
    have HRA:=hid hra
    have HW5:=hid hW5
    have HW4:=hid hW4
    have HT3:=hid (And.intro a13 ag3)
    have hbx3:=BX2.out.later hb3
    obtain ⟨cs,S,hown,hrows,hzs,hS,hol⟩:=built_far (V':=W5) RW1.out (fun i h1 h2=>by
      have e1:V2.heap[i]?=V1.heap[i]?:=HB12.out.block i h2
      have e2:w3.heap[i]?=V2.heap[i]?:=hb3.block i (by have:=HS2.out;omega)
      have e3:W4.heap[i]?=w3.heap[i]?:=g4.block i (by have:=HS2.out;omega) (by simpa using (by omega:i≠w.heap.size))
      have e4:W5.heap[i]?=W4.heap[i]?:=g5.block i (by have:=HS2.out;omega) (by simpa using (by have:=HGG.out;omega:i≠g))
      rw [e4,e3,e2,e1])
    have hsV:V2.heap.size=V1.heap.size+1:=HS2.out
    have HOW:=hid hown
    have HSTP:=hid (fun (gg cp:Nat) (w6:World) h1 h2 h3=>built_more (w5:=w6) (gg:=gg) (cap:=cp) (T:=29) hown hrows hzs (fun b hb=>⟨(hS b hb).1,by have:=(hS b hb).2.1;omega,(hS b hb).2.2⟩) HD5.out (by omega) (fun g' hg'=>by have:=(hol g' hg').2;omega) (Ty.dat_size t) h1 h2 h3)
    have hol2:=fun g' hg'=>(hol g' hg').1
    have hW5s:w.heap.size+2≤W5.heap.size:=by omega
    have HOL:=hid hol2
    clear hd hra hb3 hW4 hW5 g4 g5 hs3 hs4 a13 a23 ag3 ag4 hrows hzs hS hown hol hol2 C7
    obtain ⟨t0',t1',t2',h0',h1',h2'⟩:=three hbx3 HT3.out.1
    obtain ⟨u0,u1,u2,hzg⟩:=three_any HT3.out.2
    obtain ⟨s0,s1,s2,r0',r1',r2'⟩:=three hzg HT3.out.2
    clear hzg hbx3 x0 x1 x2
    go_upto_region 8 with fail
    rw [show (((((w3.setCell ⟨w.heap.size,0,none⟩ (.slice A n cap)).setCell ⟨w.heap.size,1,none⟩ (.int .i64 p')).setCell ⟨w.heap.size,2,none⟩ (.bool b')).setCell ⟨g,0,none⟩ (.string t.name)).setCell ⟨g,1,none⟩ (.slice B1 m1 c1)).setCell ⟨g,2,none⟩ (.int .i64 t.off)=W5 from by rw [←HW5.out,←HW4.out];rfl]
    clear t0' t1' t2' h0' h1' h2' s0 s1 s2 r0' r1' r2'
    obtain ⟨y0,y1,y2,-⟩:=three BG5.out OG5.out
    have hb5:w.heap.size+2≤(W5.alloc (.cells #[.string t.name,.slice B1 m1 c1,.int .i64 t.off] 29)).heap.size:=by simp;omega
    have hlc:acc.length+1≤100002:=by omega
    go_upto_region 9 with (at_builtin;refine wpList_append_lies _ rfl _ _ 27 rfl (w.heap.size+2) 29 i0 _ 3 48 Tryz.underlying27 hi0 hz0 hz1 hz2 rfl (by omega) _ acc.length cs rfl (HOW.out.alloc _) ⟨W5.heap.size,0,none⟩ 1 1 [.string t.name,.slice B1 m1 c1,.int .i64 t.off] rfl rfl (World.news_of_block (cs:=#[.string t.name,.slice B1 m1 c1,.int .i64 t.off]) (t:=29) (fr:=(0,0)) (heap_alloc_new _ _)) (by simp [Value.oneCell']) (by omega) (by unfold maxLen;omega) (by omega) hb5 _ rfl ?_;intro gg cp w6 hown6 hgrow6 hat6 hlt6;have HO6:=hid (And.intro hown6 (And.intro hgrow6 hat6));clear hown6 hgrow6 hat6 hlt6)
    clear y0 y1 y2
    have hb6:Below (w.heap.size+2) W5 w6:=(((Below.refl W5.heap.size W5).alloc (Nat.le_refl _) _).mono (by omega)).trans (below_grown hb5 HO6.out.2.1 HOL.out)
    have BX6:=hid (BX5.out.laterB hb6 (by omega))
    have O16:=hid (there_lt O15.out hb6 (by omega))
    have O26:=hid (there_lt O25.out hb6 (by omega))
    have BL6:=hid (BL5.out.trans (hb6.mono (by omega)))
    have RW6:=hid (show Built w6 False 29 3 (w.heap.size+2) (.slice (some ⟨gg,0,none⟩) (acc.length+1) cp) (acc++[t]).length (Ty.dats (acc++[t])) from by
      have:=HSTP.out gg cp w6 HO6.out.1 HO6.out.2.1 (HO6.out.2.2.imp id fun h=>by simpa using h)
      rw [dats_snoc,List.length_append]
      exact this)
    have hs6:w.heap.size+2≤w6.heap.size:=by have:=hb6.size;omega
    obtain ⟨q',hp',hql,hqs,heq⟩:=raft_next (tyF_less (k+1) r0) HRA.out (fun u q=>Got.bind (moreF (k+1) (acc++[u]) q) fun ts q=>Got.bind (must [93] q) fun _ q=>.ok ts q)
    have HQ:=hid (HP0.out.move hp' (Below.refl _ _))
    have HEQ:=hid (HR.out.eq.trans heq)
    have HQS:=hid hqs
    obtain ⟨x0,x1,x2,-⟩:=three BX6.out O16.out
    have C9:=hid (show Calls Tryz.prog 16 #[.agg #[.slice A n cap,.int .i64 p',.bool b'],.string ⟨#[44]⟩] w6 (BoolPost (nextB b' [44] q') w6) from ris_any A n cap p' L q' b' ⟨#[44]⟩ w6 (HQ.out.later BL6.out))
    have hlq:(acc++[t]).length=acc.length+1:=by simp
    clear hb6 hp' heq hqs HO6 HSTP HOW HD5 BG5 OG5 BX5 O15 O25 BL5
    go_wp2_with fail
    refine C9.out.mono ?_
    rintro e w7 ⟨rfl,hb⟩
    have BX7:=hid (BX6.out.later hb)
    have O17:=hid (there_below O16.out (by omega) hb)
    have O27:=hid (there_below O26.out (by omega) hb)
    have BL7:=hid (BL6.out.trans (hb.mono (by omega)))
    have RW7:=hid (RW6.out.later hb)
    have hs7:w.heap.size+2≤w7.heap.size:=Nat.le_trans hs6 hb.size
    clear hb C9 x0 x1 x2
    cases hx:nextB b' [44] q'
    · have HX:=hid hx
      obtain ⟨x0,x1,x2,-⟩:=three BX7.out O17.out
      have CM:=hid (show Calls Tryz.prog 52 #[.agg #[.slice A n cap,.int .i64 p',.bool b'],.string ⟨#[93]⟩] w7 (RMustPost A n cap L q' b' [93] w7) from rmust_any A n cap p' L q' b' ⟨#[93]⟩ w7 (HQ.out.later BL7.out))
      clear hx
      go_wp2_with fail
      refine CM.out.mono ?_
      rintro e w8 ⟨p8,b8,rfl,hra8,hb⟩
      have O28:=hid (there_below O27.out (by omega) hb)
      have BL8:=hid (BL7.out.trans (hb.mono (by omega)))
      have RW8:=hid (RW7.out.later hb)
      have HRA8:=hid hra8
      obtain ⟨v0,v1,v2,hzz⟩:=three_any O28.out
      obtain ⟨z0,z1,z2,j0,j1,j2⟩:=three hzz O28.out
      clear hzz hra8 hb CM x0 x1 x2
      go_wp2_with fail
      refine bodyPost_ret (results_rtargs _ rfl rfl (show Boxd _ _ [.slice A n cap,.int .i64 p8,.bool b8] from set_there (us:=[.slice A n cap,.int .i64 p8,.bool b8]) O28.out) rfl) rfl ?_
      have hfin:=BL8.out.trans (below_sets (show w.heap.size≤w.heap.size+1 by omega) [.slice A n cap,.int .i64 p8,.bool b8] 0 w8)
      obtain ⟨A9,c9,e9,hrow9,-⟩:=RW8.out.row (by omega) (by simp;omega)
      simp only [Value.slice.injEq] at e9
      obtain ⟨rfl,-,rfl⟩:=e9
      have hrow:Row (w8.setCells (w.heap.size+1) 0 [.slice A n cap,.int .i64 p8,.bool b8]) False (Fr (w.heap.size+2) (w8.setCells (w.heap.size+1) 0 [.slice A n cap,.int .i64 p8,.bool b8])) 3 (some ⟨gg,0,none⟩) (acc++[t]).length (Ty.dats (acc++[t])):=row_gb (gb_sets1 w8 (w.heap.size+1) 0 _) (by omega) hrow9
      refine ⟨acc++[t],some ⟨gg,0,none⟩,cp,p8,b8,by rw [hlq];rfl,hrow.wide fun i hi=>⟨by have:=hi.1;omega,hi.2⟩,?_,hfin⟩
      have hra:=RAft.move HP0.out HRA8.out hfin
      rw [HEQ.out]
      cases b'
      · have hi:isT [44] q'=false:=by rw [←nextB_false];exact HX.out
        rw [if_neg (by decide),moreF_succ,hi]
        exact raft_ret hra (fun _=>acc++[t]) rfl
      exact ⟨hra.1,hra.2⟩
    have HX:=hid hx
    obtain ⟨rfl,hi⟩:=nextB_cons hx
    have HI:=hid hi
    obtain ⟨t1,r1,hq1,hk1,-⟩:=isT_cons hi
    have HQ1:=hid (show ∃ t r,q'=t :: r∧t.k≠3 from ⟨t1,r1,hq1,hk1⟩)
    clear hx hi hq1 hk1
    go_wp2_with fail
    go_roundw
    case rel =>
      refine ⟨k,acc++[t],q',p',false,⟨HQ.out,BX7.out,O17.out,O27.out,RW7.out,BL7.out,hs7,fun _=>?_,by have:=HR.out.less;omega,?_,fun _=>HQ1.out,?_⟩⟩
      · have h1:=HQS.out (by first | rfl | trivial)
        have h2:=HR.out.fuel rfl
        simp only [List.length_cons] at h2
        omega
      · have h2:=HR.out.few
        simp only [List.length_cons] at h2
        rw [hlq]
        omega
      rw [HEQ.out,if_neg (by decide),if_neg (by decide),moreF_succ,HI.out,if_pos rfl,bind_bind]
    case measure=>simp [lenOf];omega
  have HT2:=hid HR.out.own2
  obtain ⟨v0,v1,v2,hz2'⟩:=three_any HR.out.own2
  obtain ⟨z0,z1,z2,q0,q1,q2⟩:=three hz2' HR.out.own2
  clear hz2'
  go_wp2_with fail
  refine bodyPost_ret (results_rtargs _ rfl rfl (show Boxd _ _ [.slice A n cap,.int .i64 p,.bool true] from set_there (us:=[.slice A n cap,.int .i64 p,.bool true]) HT2.out) rfl) rfl ?_
  have hfin:=HR.out.bel.trans (below_sets (show w.heap.size≤w.heap.size+1 by omega) [.slice A n cap,.int .i64 p,.bool true] 0 wr)
  refine ⟨[],none,0,p,true,rfl,Row.nil _ _ _ _ _,?_,hfin⟩
  rw [HR.out.eq]
  exact ⟨rfl,HR.out.pl.later hfin⟩
