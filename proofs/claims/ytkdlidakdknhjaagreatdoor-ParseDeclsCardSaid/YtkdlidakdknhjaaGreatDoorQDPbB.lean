/- The walk of pairs of layer 8's reference: it reads a list of names with types. The condition: the place stands in tokens of a text.
The walk of formals of layer 8's reference: it reads pairs in brackets, if there is one, and copies them. The condition: the place stands in tokens of a text. -/
import Derived.Test.YtkdlidakdknhjaaGreatDoorQDDcF
import Derived.Test.YtkdlidakdknhjaaGreatDoorQDPaB
import Derived.Test.YtkdlidakdknhjaaGreatDoorQDRfC
import Derived.Lib.IndexAny
import Derived.WalkMore
set_option maxRecDepth 100000
set_option maxHeartbeats 8000000
open Go.Lib (hid)
namespace Go.Proofs.YtkdlidakdknhjaaGreatDoor.Rd
open Go.RowKit
structure Pk (w W:World) (rs:List Nat) (ps:List Value):Prop where
  bel:Below w.heap.size w W
  big:w.heap.size+1+rs.length≤W.heap.size
  box:Boxd W w.heap.size ps
  own:W.there w.heap.size 0 3
  res:∀ i z,rs[i]?=some z→W.there (w.heap.size+1+i) 0 z
  pl:ps.length=3
theorem there_upB {w w':World} {b o n B:Nat} (h:w.there b o n) (hl:b<B) (hb:Below B w w'):w'.there b o n:=fun j hj=>by
  obtain ⟨h1,h2⟩:=h j hj
  exact ⟨by rw [hb.cell (p:=⟨b,o+j,none⟩) hl];exact h1,(hb.frozen (p:=⟨b,o+j,none⟩) hl).trans h2⟩
theorem Pk.up {w W W':World} {rs:List Nat} {ps:List Value} {B:Nat} (h:Pk w W rs ps) (hB:w.heap.size+1+rs.length≤B) (hb:Below B W W'):Pk w W' rs ps :=
  ⟨h.bel.trans (hb.mono (by omega)),Nat.le_trans h.big hb.size,fun j u hu=>(hb.cell (p:=⟨w.heap.size,j,none⟩) (by show w.heap.size<B;omega)).trans (h.box j u hu),there_upB h.own (by omega) hb,fun i z hi=>there_upB (h.res i z hi) (by have:=(List.getElem?_eq_some_iff.1 hi).1;omega) hb,h.pl⟩
theorem Pk.later {w W W':World} {rs:List Nat} {ps:List Value} (h:Pk w W rs ps) (hb:Below W.heap.size W W'):Pk w W' rs ps:=h.up h.big hb
theorem Pk.place {w W:World} {rs:List Nat} {ps:List Value} (h:Pk w W rs ps) (ps':List Value) (hl:ps'.length=3):Pk w (W.setCells w.heap.size 0 ps') rs ps' :=
  ⟨h.bel.trans (below_sets (Nat.le_refl _) ps' 0 W),by rw [size_sets];exact h.big,set_there (us:=ps') (by rw [hl];exact h.own),World.there_setCells h.own _ _ _,fun i z hi=>World.there_setCells (h.res i z hi) _ _ _,hl⟩
theorem boxd_two {w:World} {b j:Nat} {us:List Value} {v:Value} (h:Boxd w b us) (hj:j<us.length):Boxd (w.setCell ⟨b,j,none⟩ v) b (us.set j v):=fun k u hu=>by
  by_cases e:k=j
  · subst e
    rw [List.getElem?_set_self hj] at hu
    obtain rfl:=Option.some.inj hu
    exact World.cell?_setCell_same _ _ _ (h k us[k] (List.getElem?_eq_getElem hj))
  rw [List.getElem?_set_ne (fun e2=>e e2.symm)] at hu
  exact (World.cell?_setCell_other _ _ _ _ (by intro e2;exact e (by injection e2 with _ h2 _;exact_mod_cast h2.symm))).trans (h k u hu)
theorem Pk.placeAt {w W:World} {rs:List Nat} {ps:List Value} (h:Pk w W rs ps) (j:Nat) (hj:j<3) (v:Value):Pk w (W.setCell ⟨w.heap.size,j,none⟩ v) rs (ps.set j v) :=
  ⟨h.bel.trans (below_sets (Nat.le_refl _) [v] j W),by have e:=size_sets w.heap.size [v] j W;rw [show (W.setCell ⟨w.heap.size,j,none⟩ v).heap.size=W.heap.size from e];exact h.big,boxd_two h.box (by rw [h.pl];exact hj),World.there_setCells h.own w.heap.size j [v],fun i z hi=>World.there_setCells (h.res i z hi) w.heap.size j [v],by rw [List.length_set];exact h.pl⟩
theorem Pk.three {w W:World} {rs:List Nat} {v0 v1 v2:Value} (h:Pk w W rs [v0,v1,v2]):W.cell? ⟨w.heap.size,0,none⟩=some v0∧W.cell? ⟨w.heap.size,1,none⟩=some v1∧W.cell? ⟨w.heap.size,2,none⟩=some v2∧W.frozen? ⟨w.heap.size,0,none⟩=false∧W.frozen? ⟨w.heap.size,1,none⟩=false∧W.frozen? ⟨w.heap.size,2,none⟩=false:=Rd.three h.box h.own
def RParPost (A:Option Addr) (n cap:Nat) (L l:List Tk) (s:List UInt8) (b:Bool) (w:World) (e:Ending) (w':World):Prop:=∃ (ts:List Fo) (B:Option Addr) (k p':Nat) (b':Bool),e=.returned (.tuple #[.agg #[.slice A n cap,.int .i64 p',.bool b'],.slice B ts.length k])∧Row w' False (Fr w.heap.size w') 5 B ts.length (ts.map Fo.dat)∧ts.length≤100003∧RAft w' A n L p' b' ts (stop b l (listG foF s l))∧Below w.heap.size w w'
structure PrRel (w wr:World) (A:Option Addr) (n cap:Nat) (L:List Tk) (v:Value) (acc:List Fo) (q:List Tk) (p:Nat) (b:Bool):Prop where
  pk:Pk w wr [3] [.slice A n cap,.int .i64 (p:Int),.bool b]
  pl:Pl w A n L p q
  row:Built wr False 89 5 (w.heap.size+2) v acc.length (acc.map Fo.dat)
  few:acc.length+q.length≤100001
structure PcRel (w wr wx:World) (A:Option Addr) (n cap:Nat) (L:List Tk) (g:Nat) (x:Fo) (us:List Value) (q0 q:List Tk) (p:Nat) (b:Bool):Prop where
  pk:Pk w wx [3] [.slice A n cap,.int .i64 (p:Int),.bool b]
  box:Boxd wx g us
  dat:x.dat.In wx False (Fr (g+1) wx) us
  keep:∀ i,w.heap.size+2≤i→i<g→wx.heap[i]?=wr.heap[i]?
  pl:Pl w A n L p q
  len:b=false→q.length<q0.length
  le:q.length≤q0.length
  big:g+1≤wx.heap.size
theorem kp_step {wr W W':World} {lo g c:Nat} (h:∀ i,lo≤i→i<g→W.heap[i]?=wr.heap[i]?) (hg:W.grownBy W' (some c)) (hs:g≤W.heap.size) (hc:c<lo∨g≤c):∀ i,lo≤i→i<g→W'.heap[i]?=wr.heap[i]?:=fun i h1 h2 =>
  (hg.block i (by omega) (by simpa using (by omega:i≠c))).trans (h i h1 h2)
theorem results_rpairs {w:World} {b:Nat} {us:List Value} {v:Value} (tmps:Array Value) (ht:tmps[4]?.getD undef=.pointer (some ⟨b,0,none⟩)) (hv:tmps[5]?.getD undef=v) (hc:Boxd w b us) (hl:us.length=3):(results Tryz.f101 tmps).run Tryz.prog w=.ok (.tuple #[.agg us.toArray,v]) w:=by
  have h:=run_cell flatPl hc hl
  have h2:=run_addr ⟨b,0,none⟩ w
  simp [results,Tryz.results101,ht,hv,h,h2,Sem.run_bind,Result.andThen]
theorem rpairs_any (A:Option Addr) (n cap p:Nat) (L l:List Tk) (b:Bool) (s:ByteArray) (w:World) (h:Pl w A n L p l) :
    Calls Tryz.prog 101 #[.agg #[.slice A n cap,.int .i64 p,.bool b],.string s] w (RParPost A n cap L l s.data.toList b w):=by
  obtain ⟨W,hW,hb,hz,hbx,ht1,ht2⟩:=two_pl w A n cap p b
  have HW:=hid hW
  have HK:=hid (show Pk w W [3] [.slice A n cap,.int .i64 (p:Int),.bool b] from ⟨hb,by simp;omega,hbx,ht1,fun i z hi=>by
    match i,hi with
    | 0,hi=>obtain rfl:=Option.some.inj hi;exact ht2
    | i+1,hi=>simp at hi,rfl⟩)
  have HP0:=hid h
  have HLL:=hid (show l.length≤100000 by have h1:=h.ts.len;have h2:=h.len;rw [←h.l_eq,List.length_drop];omega)
  obtain ⟨i0,hi0,hz0,hz1,hz2⟩:=info_parts infoPaR
  clear h hW hb hz hbx ht1 ht2
  go_enter Tryz.func101,Tryz.ntmps101
  go_upto_region 1 with fail
  rw [HW.out]
  go_wp2_with fail
  go_loopw [6] (fun v wr=>∃ (acc:List Fo) (q:List Tk) (p:Nat) (b':Bool) (f:List Tk→Nat),PrRel w wr A n cap L v acc q p b'∧(∀ q':List Tk,q'.length<q.length→q'.length+1≤f q')∧stop b l (listG foF s.data.toList l)=if b' then .bad q else Got.bind (foF q) fun u q=>Got.bind (moreG foF (f q) (acc++[u]) q) fun us q=>Got.bind (must s.data.toList q) fun _ q=>.ok us q) (fun v _=>200000-lenOf v)
  case atStart =>
    refine ⟨[],l,p,b,fun q=>q.length+1,⟨HK.out,HP0.out,Built.nil _ _ _ _ _,by have:=HLL.out;simp;omega⟩,fun _ _=>Nat.le_refl _,?_⟩
    cases b<;>rfl
  obtain ⟨acc,q,p,b',f,hr,hf,he⟩:=hrel
  have HR:=hid hr
  have HF:=hid hf
  have HE:=hid he
  obtain ⟨B,kc,hv,-⟩:=hr.row.row (by omega) (by have:=hr.few;omega)
  subst hv
  have hfew:=hr.few
  obtain ⟨x0,x1,x2,f0,f1,f2⟩:=hr.pk.three
  have hbig:w.heap.size+2≤wr.heap.size:=hr.pk.big
  clear hr hf he
  cases b'
  · obtain ⟨W2,hW2⟩:∃ X,wr.alloc (.cells #[.string ⟨#[]⟩,.string ⟨#[]⟩,.slice none 0 0,.int .i64 0,.int .i64 0] 89)=X:=⟨_,rfl⟩
    have hb2:Below wr.heap.size wr W2:=hW2▸(Below.refl _ _).alloc (Nat.le_refl _) _
    have hs2:W2.heap.size=wr.heap.size+1:=by rw [←hW2];simp
    obtain ⟨g,hg⟩:∃ g,wr.heap.size=g:=⟨_,rfl⟩
    have K2:=hid (HR.out.pk.later hb2)
    have X2:=hid (show Boxd W2 g [.string ⟨#[]⟩,.string ⟨#[]⟩,.slice none 0 0,.int .i64 0,.int .i64 0] from hg▸hW2▸Boxd.new wr #[.string ⟨#[]⟩,.string ⟨#[]⟩,.slice none 0 0,.int .i64 0,.int .i64 0] 89)
    have O2:=hid (show W2.there g 0 5 from hg▸hW2▸there_new wr #[.string ⟨#[]⟩,.string ⟨#[]⟩,.slice none 0 0,.int .i64 0,.int .i64 0] 89)
    have KP2:=hid (show ∀ i,w.heap.size+2≤i→i<g→W2.heap[i]?=wr.heap[i]? from fun i _ h2=>hb2.block i (by omega))
    have C4:=hid (rname_any A n cap p L q false W2 (HP0.out.move HR.out.pl K2.out.bel))
    have HW2:=hid hW2
    have HG:=hid hg
    have hgb:w.heap.size+2≤g:=by omega
    have hg2:W2.heap.size=g+1:=by omega
    clear hW2 hb2 hs2 hg
    go_upto_region 4 with fail
    rw [HW2.out,HG.out]
    clear x0 x1 x2 f0 f1 f2
    obtain ⟨x0,x1,x2,-⟩:=K2.out.three
    go_wp2_with fail
    refine C4.out.mono ?_
    rintro e w3 ⟨nm,p3,b3,rfl,hz,hra,hb,-⟩
    rw [show (plV A n cap p3 b3).toArray=#[.slice A n cap,.int .i64 p3,.bool b3] from rfl]
    have K3:=hid (K2.out.later hb)
    have X3:=X2.out.later hb
    have O3:=there_upB O2.out (by omega:g<W2.heap.size) hb
    have hs3:=hb.size
    obtain ⟨V3,hV3⟩:∃ X,((w3.setCells w.heap.size 0 [.slice A n cap,.int .i64 (p3:Int),.bool b3]).setCells g 0 [.string nm.s]).setCells g 4 [.int .i64 nm.o]=X:=⟨_,rfl⟩
    have hsA:=gb_sets1 w3 w.heap.size 0 [.slice A n cap,.int .i64 (p3:Int),.bool b3]
    have KV3:=hid (show Pk w V3 [3] [.slice A n cap,.int .i64 (p3:Int),.bool b3] from hV3▸((K3.out.place _ rfl).up (B:=g) (by simp;omega) (below_sets (Nat.le_refl g) _ _ _)).up (B:=g) (by simp;omega) (below_sets (Nat.le_refl g) _ _ _))
    have XV3:=hid (show Boxd V3 g [.string nm.s,.string ⟨#[]⟩,.slice none 0 0,.int .i64 0,.int .i64 nm.o] from hV3▸boxd_two (boxd_two (boxd_gb hsA (by omega) X3) (by simp)) (by simp))
    have OV3:=hid (show V3.there g 0 5 from hV3▸World.there_setCells (World.there_setCells (there_gb O3 (by omega) (by omega) hsA) g 0 [.string nm.s]) g 4 [.int .i64 nm.o])
    have KP3:=hid (show ∀ i,w.heap.size+2≤i→i<g→V3.heap[i]?=wr.heap[i]? from hV3▸kp_step (kp_step (kp_step (kp_step KP2.out (gb_of (some 0) hb) (by omega) (.inl (by omega))) hsA (by omega) (.inl (by omega))) (gb_sets1 _ g 0 _) (by rw [size_sets];omega) (.inr (Nat.le_refl _))) (gb_sets1 _ g 4 _) (by rw [size_sets,size_sets];omega) (.inr (Nat.le_refl _)))
    have hz3:g+1≤V3.heap.size:=by rw [←hV3,size_sets,size_sets,size_sets];omega
    have HZ:=hid hz
    obtain ⟨q3,hq3⟩:∃ r,Pl w3 A n L p3 r∧r.length≤q.length∧((b3=true∧name q=.bad r)∨(b3=false∧name q=.ok nm r∧r.length<q.length)):=by
      have h:=(show RAft w3 A n L p3 b3 nm (name q) from hra)
      have hl:Got.Less q (name q):=name_less q
      cases hn:name q with
      | ok u r=>rw [hn] at h hl;obtain ⟨rfl,rfl,h3⟩:=h;exact ⟨r,h3,Nat.le_of_lt hl.2,.inr ⟨rfl,rfl,hl.2⟩⟩
      | bad r=>rw [hn] at h hl;exact ⟨r,h.2,(Less.ends hl).length_le,.inl ⟨h.1,rfl⟩⟩
    have HQ3:=hid (HP0.out.move hq3.1 (Below.refl _ _))
    have HN3:=hid hq3.2
    have HV3:=hid (show ((((w3.setCell ⟨w.heap.size,0,none⟩ (.slice A n cap)).setCell ⟨w.heap.size,1,none⟩ (.int .i64 (p3:Int))).setCell ⟨w.heap.size,2,none⟩ (.bool b3)).setCell ⟨g,0,none⟩ (.string nm.s)).setCell ⟨g,4,none⟩ (.int .i64 nm.o)=V3 from by rw [←hV3];rfl)
    obtain ⟨y0,y1,y2,f0,f1,f2⟩:=K3.out.three
    have z0:=X3 0 _ rfl
    have z4:=X3 4 _ rfl
    have g0:w3.frozen? ⟨g,0,none⟩=false:=by have:=(O3 0 (by omega)).2;rwa [Nat.zero_add] at this
    have g4:w3.frozen? ⟨g,4,none⟩=false:=by have:=(O3 4 (by omega)).2;rwa [Nat.zero_add] at this
    clear hra hb hz X3 O3 hV3 hsA hq3 C4 x0 x1 x2
    go_upto_region 5 with fail
    rw [HV3.out]
    clear y0 y1 y2 f0 f1 f2 z0 z4 g0 g4 K3 X2 O2 K2 KP2
    obtain ⟨x0,x1,x2,-⟩:=KV3.out.three
    go_upto_if 22 with fail
    go_cut [23] from 23 to 28 (fun _ wx=>∃ x us q' p' b',PcRel w wr wx A n cap L g x us q q' p' b'∧stop b l (listG foF s.data.toList l)=if b' then .bad q' else Got.bind (moreG foF (f q') (acc++[x]) q') fun us q=>Got.bind (must s.data.toList q) fun _ q=>.ok us q)
    case first =>
      cases b3
      · obtain ⟨hn,hln⟩:name q=.ok nm q3∧q3.length<q.length:=by
          rcases HN3.out.2 with ⟨h,-⟩ | ⟨-,h⟩
          · cases h
          exact h
        have HN:=hid hn
        have HLN:=hid hln
        have C6:=hid (rtype_any (2*q3.length+2) A n cap p3 L q3 V3 (HQ3.out.later KV3.out.bel) (by omega))
        clear hn hln
        go_wp2_with fail
        refine C6.out.mono ?_
        rintro e w6 ⟨t,us,p6,b6,rfl,hd,hra,hb⟩
        obtain ⟨Y,m,k,rfl,-⟩:=ty_open hd
        have K6:=KV3.out.later hb
        have X6:=XV3.out.later hb
        have O6:=there_upB OV3.out (by omega:g<V3.heap.size) hb
        have hs6:=hb.size
        obtain ⟨V6,hV6⟩:∃ X,(((w6.setCells w.heap.size 0 [.slice A n cap,.int .i64 (p6:Int),.bool b6]).setCells g 1 [.string t.name]).setCells g 2 [.slice Y m k]).setCells g 3 [.int .i64 t.off]=X:=⟨_,rfl⟩
        have hsA:=gb_sets1 w6 w.heap.size 0 [.slice A n cap,.int .i64 (p6:Int),.bool b6]
        have KV6:=hid (show Pk w V6 [3] [.slice A n cap,.int .i64 (p6:Int),.bool b6] from hV6▸(((K6.place _ rfl).up (B:=g) (by simp;omega) (below_sets (Nat.le_refl g) _ _ _)).up (B:=g) (by simp;omega) (below_sets (Nat.le_refl g) _ _ _)).up (B:=g) (by simp;omega) (below_sets (Nat.le_refl g) _ _ _))
        have XV6:=hid (show Boxd V6 g [.string nm.s,.string t.name,.slice Y m k,.int .i64 t.off,.int .i64 nm.o] from hV6▸boxd_two (boxd_two (boxd_two (boxd_gb hsA (by omega) X6) (by simp)) (by simp)) (by simp))
        have KP6:=hid (show ∀ i,w.heap.size+2≤i→i<g→V6.heap[i]?=wr.heap[i]? from hV6▸kp_step (kp_step (kp_step (kp_step (kp_step KP3.out (gb_of (some 0) hb) (by omega) (.inl (by omega))) hsA (by omega) (.inl (by omega))) (gb_sets1 _ g 1 _) (by rw [size_sets];omega) (.inr (Nat.le_refl _))) (gb_sets1 _ g 2 _) (by rw [size_sets,size_sets];omega) (.inr (Nat.le_refl _))) (gb_sets1 _ g 3 _) (by rw [size_sets,size_sets,size_sets];omega) (.inr (Nat.le_refl _)))
        have D6:=hid (show t.dat.In V6 False (Fr (g+1) V6) [.string t.name,.slice Y m k,.int .i64 t.off] from hV6▸in_gb (gb_sets1 _ _ _ _) (by omega) (in_gb (gb_sets1 _ _ _ _) (by omega) (in_gb (gb_sets1 _ _ _ _) (by omega) (in_gb hsA (by omega) (hd.wide fun i hi=>⟨by have:=hi.1;omega,hi.2⟩)))))
        have hz6:g+1≤V6.heap.size:=by rw [←hV6,size_sets,size_sets,size_sets,size_sets];omega
        obtain ⟨q6,hp6,hql6,hqs6,heq6⟩:=raft_next (tyA_less q3) hra (fun u q=>Got.bind (moreG foF (f q) (acc++[Fo.mk nm.s u nm.o]) q) fun us q=>Got.bind (must s.data.toList q) fun _ q=>.ok us q)
        have HQ6:=hid (HP0.out.move hp6 (Below.refl _ _))
        have HEQ6:=hid (show stop b l (listG foF s.data.toList l)=if b6 then .bad q6 else Got.bind (moreG foF (f q6) (acc++[Fo.mk nm.s t nm.o]) q6) fun us q=>Got.bind (must s.data.toList q) fun _ q=>.ok us q from by
          rw [HE.out,if_neg (by decide),foF,HN.out,bind_ok,bind_bind]
          exact heq6)
        have HQL:=hid (And.intro hql6 hqs6)
        have HV6:=hid (show (((((w6.setCell ⟨w.heap.size,0,none⟩ (.slice A n cap)).setCell ⟨w.heap.size,1,none⟩ (.int .i64 (p6:Int))).setCell ⟨w.heap.size,2,none⟩ (.bool b6)).setCell ⟨g,1,none⟩ (.string t.name)).setCell ⟨g,2,none⟩ (.slice Y m k)).setCell ⟨g,3,none⟩ (.int .i64 t.off)=V6 from by rw [←hV6];rfl)
        obtain ⟨y0,y1,y2,f0,f1,f2⟩:=K6.three
        have z1:=X6 1 _ rfl
        have z2:=X6 2 _ rfl
        have z3:=X6 3 _ rfl
        have g1:w6.frozen? ⟨g,1,none⟩=false:=by have:=(O6 1 (by omega)).2;rwa [Nat.zero_add] at this
        have g2:w6.frozen? ⟨g,2,none⟩=false:=by have:=(O6 2 (by omega)).2;rwa [Nat.zero_add] at this
        have g3:w6.frozen? ⟨g,3,none⟩=false:=by have:=(O6 3 (by omega)).2;rwa [Nat.zero_add] at this
        clear hd hra hb K6 X6 O6 hV6 hsA hp6 hql6 hqs6 heq6 C6 x0 x1 x2
        go_wp2_with fail
        go_meet
        rw [HV6.out]
        exact ⟨⟨nm.s,t,nm.o⟩,_,q6,p6,b6,⟨KV6.out,XV6.out,foMkR (by have:=HZ.out;omega) D6.out,KP6.out,HQ6.out,fun h=>by have:=HQL.out.2 h;have:=HLN.out;omega,by have:=HQL.out.1;have:=HLN.out;omega,hz6⟩,HEQ6.out⟩
      obtain hn:name q=.bad q3:=by
        rcases HN3.out.2 with ⟨-,h⟩ | ⟨h,-⟩
        · exact h
        cases h
      have HN:=hid hn
      clear hn
      go_wp2_with fail
      go_meet
      refine ⟨⟨nm.s,.mk ⟨#[]⟩ [] 0,nm.o⟩,_,q3,p3,true,⟨KV3.out,XV3.out,foMkR (u:=.mk ⟨#[]⟩ [] 0) (by have:=HZ.out;omega) (ty_shut (t:=.mk ⟨#[]⟩ [] 0) (by show (0:Nat)≤_;omega) (lies_row.2 (Row.nil _ _ _ _ _))),KP3.out,HQ3.out,(fun h=>by cases h),HN3.out.1,hz3⟩,?_⟩
      rw [HE.out,if_neg (by decide),foF,HN.out]
      rfl
    obtain ⟨x,us,q6,p6,b6,hc,he6⟩:=hcut
    have HC:=hid hc
    have HE6:=hid he6
    obtain ⟨y1,y2,y3,rfl⟩:=fo_opens hc.dat
    have HBX:=hid (boxd_at0 hc.box)
    obtain ⟨cs,S,hown,hrows,hzs,hS,hol⟩:=built_far (V':=wc) HR.out.row (fun i h1 h2=>hc.keep i h1 (by have:=HG.out;omega))
    have hgx:=hc.big
    have hgw:=HG.out
    have HOW:=hid hown
    have HSTP:=hid (fun (gg cp:Nat) (w5:World) h1 h2 h3=>built_more (w5:=w5) (gg:=gg) (cap:=cp) (T:=89) hown hrows hzs (fun b hb=>⟨(hS b hb).1,by have:=(hS b hb).2.1;omega,(hS b hb).2.2⟩) hc.dat (by omega) (fun g' hg'=>by have:=(hol g' hg').2;omega) (Fo.dat_size x) h1 h2 h3)
    have hol2:=fun g' hg'=>(hol g' hg').1
    have HOL:=hid hol2
    have hb5:w.heap.size+2≤(wc.alloc (.cells #[.string x.name,.string x.ty.name,.slice y1 y2 y3,.int .i64 x.ty.off,.int .i64 x.off] 89)).heap.size:=by simp;omega
    have hlc:acc.length+1≤100002:=by omega
    clear hc he6 hown hrows hzs hS hol hol2 HV3 KV3 XV3 OV3 KP3 HN3 HQ3 x0 x1 x2
    go_upto_region 8 with (first | (refine loadOp flatPa 7 30 rfl HBX.out rfl ?_) | (at_builtin;refine wpList_append_lies _ rfl _ _ 24 rfl (w.heap.size+2) 89 i0 _ 5 72 Tryz.underlying24 hi0 hz0 hz1 hz2 rfl (by omega) _ acc.length cs rfl (HOW.out.alloc _) ⟨wc.heap.size,0,none⟩ 1 1 [.string x.name,.string x.ty.name,.slice y1 y2 y3,.int .i64 x.ty.off,.int .i64 x.off] rfl rfl (World.news_of_block (cs:=#[.string x.name,.string x.ty.name,.slice y1 y2 y3,.int .i64 x.ty.off,.int .i64 x.off]) (t:=89) (fr:=(0,0)) (heap_alloc_new _ _)) (by simp [Value.oneCell']) (by omega) (by unfold maxLen;omega) (by omega) hb5 _ rfl ?_;intro gg cp w6 hown6 hgrow6 hat6 hlt6;have HO6:=hid (And.intro hown6 (And.intro hgrow6 hat6));clear hown6 hgrow6 hat6 hlt6))
    have hb6:Below (w.heap.size+2) wc w6:=(((Below.refl wc.heap.size wc).alloc (Nat.le_refl _) _).mono (by omega)).trans (below_grown hb5 HO6.out.2.1 HOL.out)
    have K6:=hid (HC.out.pk.up (B:=w.heap.size+2) (by simp) hb6)
    have RW6:=hid (show Built w6 False 89 5 (w.heap.size+2) (.slice (some ⟨gg,0,none⟩) (acc.length+1) cp) (acc++[x]).length ((acc++[x]).map Fo.dat) from by
      have:=HSTP.out gg cp w6 HO6.out.1 HO6.out.2.1 (HO6.out.2.2.imp id fun h=>by simpa using h)
      rw [List.map_append,List.length_append]
      exact this)
    have hs6:w.heap.size+2≤w6.heap.size:=by have:=hb6.size;omega
    have C9:=hid (show Calls Tryz.prog 16 #[.agg #[.slice A n cap,.int .i64 (p6:Int),.bool b6],.string ⟨#[44]⟩] w6 (BoolPost (nextB b6 [44] q6) w6) from ris_any A n cap p6 L q6 b6 ⟨#[44]⟩ w6 (HC.out.pl.later K6.out.bel))
    obtain ⟨x0,x1,x2,-⟩:=K6.out.three
    have hlq:(acc++[x]).length=acc.length+1:=by simp
    clear hb6 HO6 HSTP HOW HBX
    go_wp2_with fail
    refine C9.out.mono ?_
    rintro e w7 ⟨rfl,hb⟩
    have K7:=hid (K6.out.later hb)
    have RW7:=hid (RW6.out.later hb)
    have hs7:w.heap.size+2≤w7.heap.size:=Nat.le_trans hs6 hb.size
    clear hb C9 x0 x1 x2
    cases hx:nextB b6 [44] q6
    · have HX:=hid hx
      obtain ⟨x0,x1,x2,-⟩:=K7.out.three
      have CM:=hid (rmust_any A n cap p6 L q6 b6 s w7 (HC.out.pl.later K7.out.bel))
      clear hx
      go_wp2_with fail
      refine CM.out.mono ?_
      rintro e w8 ⟨p8,b8,rfl,hra8,hb⟩
      have K8:=hid (K7.out.later hb)
      have RW8:=hid (RW7.out.later hb)
      have HRA8:=hid hra8
      have HT8:=hid (K8.out.res 0 3 rfl)
      obtain ⟨v0,v1,v2,hzz⟩:=three_any HT8.out
      obtain ⟨z0,z1,z2,j0,j1,j2⟩:=Rd.three hzz HT8.out
      clear hzz hra8 hb CM x0 x1 x2
      go_wp2_with fail
      refine bodyPost_ret (results_rpairs _ rfl rfl (show Boxd _ _ [.slice A n cap,.int .i64 (p8:Int),.bool b8] from set_there (us:=[.slice A n cap,.int .i64 (p8:Int),.bool b8]) HT8.out) rfl) rfl ?_
      have hfin:=K8.out.bel.trans (below_sets (show w.heap.size≤w.heap.size+1 by omega) [.slice A n cap,.int .i64 (p8:Int),.bool b8] 0 w8)
      obtain ⟨A9,c9,e9,hrow9,-⟩:=RW8.out.row (by omega) (by simp;omega)
      simp only [Value.slice.injEq] at e9
      obtain ⟨rfl,-,rfl⟩:=e9
      have hrow:Row (w8.setCells (w.heap.size+1) 0 [.slice A n cap,.int .i64 (p8:Int),.bool b8]) False (Fr (w.heap.size+2) (w8.setCells (w.heap.size+1) 0 [.slice A n cap,.int .i64 (p8:Int),.bool b8])) 5 (some ⟨gg,0,none⟩) (acc++[x]).length ((acc++[x]).map Fo.dat):=row_gb (gb_sets1 w8 (w.heap.size+1) 0 _) (by omega) hrow9
      refine ⟨acc++[x],some ⟨gg,0,none⟩,cp,p8,b8,by rw [hlq];rfl,hrow.wide fun i hi=>⟨by have:=hi.1;omega,hi.2⟩,by rw [hlq];omega,?_,hfin⟩
      have hra:=RAft.move HP0.out HRA8.out hfin
      rw [HE6.out]
      cases b6
      · have hi:isT [44] q6=false:=by simpa [nextB] using HX.out
        obtain ⟨k,hk⟩:∃ k,f q6=k+1:=⟨f q6-1,by have:=HF.out q6 (HC.out.len rfl);omega⟩
        rw [if_neg (by decide),hk,moreG,hi]
        exact raft_ret hra (fun _=>acc++[x]) rfl
      exact ⟨hra.1,hra.2⟩
    have HX:=hid hx
    obtain ⟨rfl,hi⟩:=nextB_cons hx
    have HI:=hid hi
    obtain ⟨t1,r1,rfl,hk1,-⟩:=isT_cons hi
    have HPS:=hid (HC.out.pl.step hk1)
    obtain ⟨x0,x1,x2,f0,f1,f2⟩:=K7.out.three
    have yp:(p6:Int)≤100000:=by have:=HC.out.pl.lt;have:=HC.out.pl.len;omega
    have yp0:(0:Int)≤p6:=by omega
    clear hx hi hk1
    go_wp2_with fail
    go_roundw
    case rel =>
      have hg:=gb_set w7 w.heap.size 1 (.int .i64 ((p6:Int)+1))
      obtain ⟨k,hk⟩:∃ k,f (t1 :: r1)=k+1:=⟨f (t1 :: r1)-1,by have:=HF.out (t1 :: r1) (HC.out.len rfl);omega⟩
      refine ⟨acc++[x],r1,p6+1,false,fun _=>k,⟨K7.out.placeAt 1 (by omega) (.int .i64 ((p6:Int)+1)),HPS.out,built_gb hg (by omega) RW7.out,?_⟩,fun q' hq'=>?_,?_⟩
      · have h1:=HR.out.few
        have h2:=HC.out.le
        simp only [List.length_cons] at h2
        rw [hlq]
        omega
      · have h1:=HF.out (t1 :: r1) (HC.out.len rfl)
        simp only [List.length_cons] at h1
        show q'.length+1≤k
        omega
      rw [HE6.out,if_neg (by decide),if_neg (by decide),hk,moreG,HI.out,if_pos rfl,bind_bind]
      rfl
    case measure=>simp [lenOf];omega
  have HT:=hid (HR.out.pk.res 0 3 rfl)
  have hb1:=HR.out.pk.box
  have HB:=hid (boxd_at0 hb1)
  clear hb1
  go_wp2_with (first | (refine loadOp flatPl 2 44 rfl HB.out rfl ?_) | (refine storeOp flatPl 4 44 (b:=w.heap.size+1) (o:=0) (us:=[.slice A n cap,.int .i64 (p:Int),.bool true]) rfl rfl HT.out pl_one rfl ?_))
  refine bodyPost_ret (results_rpairs _ rfl rfl (show Boxd _ _ [.slice A n cap,.int .i64 (p:Int),.bool true] from set_there (us:=[.slice A n cap,.int .i64 (p:Int),.bool true]) HT.out) rfl) rfl ?_
  have hfin:=HR.out.pk.bel.trans (below_sets (show w.heap.size≤w.heap.size+1 by omega) [.slice A n cap,.int .i64 (p:Int),.bool true] 0 wr)
  refine ⟨[],none,0,p,true,rfl,Row.nil _ _ _ _ _,by simp,?_,hfin⟩
  rw [HE.out]
  exact ⟨rfl,HR.out.pl.later hfin⟩
open Go.RowKit
theorem addBlock (a:Addr) (j:Nat):(a.add j).block=a.block:=by unfold Addr.add;split<;>rfl
theorem loadYield8 {ty:TypeId} {z:Nat} (hf:Flat ty z) {f:Operand→Value} {V:World} {d i:Nat} {ps:String} {af:Array Edge} {g:Option (Nat × Bool)} {p:Addr} {us:List Value} (hx:f (.tmp i)=.pointer (some p)) (hc:CellsAt V p us) (hl:us.length=z) :
    (execOp f { dst:=some d,op:=.load ty (.tmp i),type:=ty,pos:=ps,after:=af,guard:=g }).run Tryz.prog V=.ok (.value (.agg us.toArray)) V:=by
  obtain ⟨dsc,h1,h2⟩:=hf.row
  unfold execOp
  simp only [hx,Instr.loadAt,Instr.sureAddr,Sem.run_bind,Sem.run_pure,Result.andThen_ok,run_loadVar_at V p ty us _ hc h1 h2 (by rw [hl];exact hf.size)]
theorem slFo:SlOf 23 85 5 72:=by
  obtain ⟨i,hi,hz,hs,hb⟩:=info_parts infoFoR
  exact ⟨Tryz.underlying23,⟨i,_,hi,hz,hs,hb,rfl⟩,by omega⟩
def RFosPost (A:Option Addr) (n cap:Nat) (L l:List Tk) (b:Bool) (w:World) (e:Ending) (w':World):Prop:=∃ (ts:List Fo) (B:Option Addr) (k p':Nat) (b':Bool),e=.returned (.tuple #[.agg #[.slice A n cap,.int .i64 p',.bool b'],.slice B ts.length k])∧Row w' False (Fr w.heap.size w') 5 B ts.length (ts.map Fo.dat)∧ts.length≤100003∧RAft w' A n L p' b' ts (stop b l (bracketsG foF l))∧Below w.heap.size w w'
theorem results_rformals {w:World} {b:Nat} {us:List Value} {v:Value} (tmps:Array Value) (ht:tmps[2]?.getD undef=.pointer (some ⟨b,0,none⟩)) (hv:tmps[3]?.getD undef=v) (hc:Boxd w b us) (hl:us.length=3):(results Tryz.f56 tmps).run Tryz.prog w=.ok (.tuple #[.agg us.toArray,v]) w:=by
  have h:=run_cell flatPl hc hl
  have h2:=run_addr ⟨b,0,none⟩ w
  simp [results,Tryz.results56,ht,hv,h,h2,Sem.run_bind,Result.andThen]
theorem rformals_any8 (A:Option Addr) (n cap p:Nat) (L l:List Tk) (b:Bool) (w:World) (h:Pl w A n L p l) :
    Calls Tryz.prog 56 #[.agg #[.slice A n cap,.int .i64 p,.bool b]] w (RFosPost A n cap L l b w):=by
  obtain ⟨W,hW,hb,hz,hbx,ht1,ht2⟩:=two_pl w A n cap p b
  have HW:=hid hW
  have HK:=hid (show Pk w W [3] [.slice A n cap,.int .i64 (p:Int),.bool b] from ⟨hb,by simp;omega,hbx,ht1,fun i z hi=>by
    match i,hi with
    | 0,hi=>obtain rfl:=Option.some.inj hi;exact ht2
    | i+1,hi=>simp at hi,rfl⟩)
  have HP0:=hid h
  have C1:=hid (show Calls Tryz.prog 16 #[.agg #[.slice A n cap,.int .i64 (p:Int),.bool b],.string ⟨#[91]⟩] W (BoolPost (nextB b [91] l) W) from ris_any A n cap p L l b ⟨#[91]⟩ W (h.later hb))
  clear h hW hb hz hbx ht1 ht2
  go_enter Tryz.func56,Tryz.ntmps56
  go_upto_region 1 with fail
  rw [HW.out]
  obtain ⟨x0,x1,x2,f0,f1,f2⟩:=HK.out.three
  go_wp2_with fail
  refine C1.out.mono ?_
  rintro e w1 ⟨rfl,hb⟩
  have K1:=hid (HK.out.later hb)
  clear hb C1 x0 x1 x2 f0 f1 f2
  cases hx:nextB b [91] l
  · have HX:=hid hx
    have HT:=hid (K1.out.res 0 3 rfl)
    have HB:=hid (boxd_at0 K1.out.box)
    clear hx
    go_wp2_with (first | (refine loadOp flatPl 1 10 rfl HB.out rfl ?_) | (refine storeOp flatPl 2 10 (b:=w.heap.size+1) (o:=0) (us:=[.slice A n cap,.int .i64 (p:Int),.bool b]) rfl rfl HT.out pl_one rfl ?_))
    refine bodyPost_ret (results_rformals _ rfl rfl (show Boxd _ _ [.slice A n cap,.int .i64 (p:Int),.bool b] from set_there (us:=[.slice A n cap,.int .i64 (p:Int),.bool b]) HT.out) rfl) rfl ?_
    have hfin:=K1.out.bel.trans (below_sets (show w.heap.size≤w.heap.size+1 by omega) [.slice A n cap,.int .i64 (p:Int),.bool b] 0 w1)
    refine ⟨[],none,0,p,b,rfl,Row.nil _ _ _ _ _,by simp,?_,hfin⟩
    cases b
    · have hi:isT [91] l=false:=by simpa [nextB] using HX.out
      show RAft _ A n L p false [] (bracketsG foF l)
      unfold bracketsG
      rw [hi]
      exact ⟨rfl,rfl,HP0.out.later hfin⟩
    exact ⟨rfl,HP0.out.later hfin⟩
  have HX:=hid hx
  obtain ⟨rfl,hi⟩:=nextB_cons hx
  have HI:=hid hi
  obtain ⟨t1,r1,rfl,hk1,-⟩:=isT_cons hi
  have HPS:=hid (HP0.out.step hk1)
  obtain ⟨x0,x1,x2,f0,f1,f2⟩:=K1.out.three
  have yp:(p:Int)≤100000:=by have:=HP0.out.lt;have:=HP0.out.len;omega
  have yp0:(0:Int)≤p:=by omega
  obtain ⟨pp,hpp⟩:∃ pp,p+1=pp:=⟨_,rfl⟩
  have HPP:=hid (show ((p:Int)+1)=pp by omega)
  obtain ⟨V1,hV1⟩:∃ X,w1.setCell ⟨w.heap.size,1,none⟩ (.int .i64 (pp:Int))=X:=⟨_,rfl⟩
  have KV1:=hid (show Pk w V1 [3] [.slice A n cap,.int .i64 (pp:Int),.bool false] from hV1▸K1.out.placeAt 1 (by omega) (.int .i64 (pp:Int)))
  have HQ:=hid (show Pl w A n L pp r1 from hpp▸HPS.out)
  have C4:=hid (show Calls Tryz.prog 101 #[.agg #[.slice A n cap,.int .i64 (pp:Int),.bool false],.string ⟨#[93]⟩] V1 (RParPost A n cap L r1 [93] false V1) from rpairs_any A n cap pp L r1 false ⟨#[93]⟩ V1 (HQ.out.later KV1.out.bel))
  have HV1:=hid hV1
  clear hx hi hk1 hpp hV1
  go_upto_region 4 with fail
  rw [HPP.out,HV1.out]
  clear x0 x1 x2 f0 f1 f2
  obtain ⟨x0,x1,x2,-⟩:=KV1.out.three
  go_wp2_with fail
  refine C4.out.mono ?_
  rintro e w4 ⟨ts,B,kc,p4,b4,rfl,hrow,hlen,hra,hb⟩
  have K4:=hid (KV1.out.later hb)
  have hv1:w.heap.size+2≤V1.heap.size:=KV1.out.big
  have hs4:=hb.size
  obtain ⟨V5,hV5⟩:∃ X,w4.setCells w.heap.size 0 [.slice A n cap,.int .i64 (p4:Int),.bool b4]=X:=⟨_,rfl⟩
  have hsA:=gb_sets1 w4 w.heap.size 0 [.slice A n cap,.int .i64 (p4:Int),.bool b4]
  have K5:=hid (show Pk w V5 [3] [.slice A n cap,.int .i64 (p4:Int),.bool b4] from hV5▸K4.out.place _ rfl)
  have HROW:=hid (show Row V5 False (Fr V1.heap.size V5) 5 B ts.length (ts.map Fo.dat) from hV5▸row_gb hsA (by omega) hrow)
  have HRA:=hid hra
  have HLEN:=hid hlen
  have HV5:=hid (show ((w4.setCell ⟨w.heap.size,0,none⟩ (.slice A n cap)).setCell ⟨w.heap.size,1,none⟩ (.int .i64 (p4:Int))).setCell ⟨w.heap.size,2,none⟩ (.bool b4)=V5 from by rw [←hV5];rfl)
  obtain ⟨y0,y1,y2,f0,f1,f2⟩:=K4.out.three
  clear hrow hra hb hV5 hsA C4 x0 x1 x2
  go_upto_region 5 with fail
  rw [HV5.out]
  clear y0 y1 y2 f0 f1 f2 K4
  go_wp2_with fail
  go_loopw [5,6] (fun v i wr=>∃ (k:Nat) (cs:List Value),k≤ts.length∧i=.int .i64 k∧wr.ownsRow V5.heap.size 85 5 v k cs∧Dat.Ins V5 False (Fr V1.heap.size V5) ((ts.take k).map Fo.dat) cs∧Below V5.heap.size V5 wr) (fun _ i _=>ts.length-(intOf i).toNat)
  case atStart=>exact ⟨0,[],by omega,rfl,World.ownsRow_nil _ _ _ _,by rw [List.take_zero,List.map_nil,Dat.Ins],Below.refl _ _⟩
  obtain ⟨k,cs,hk,rfl,hown,hins,hbel⟩:=hrel
  have HOWN:=hid hown
  have HINS:=hid hins
  have HBEL:=hid hbel
  clear hown hins hbel
  have z0:(0:Int)≤k:=by omega
  by_cases hlt:k<ts.length
  · have z1:(k:Int)<ts.length:=by omega
    obtain ⟨pa,x,us,rfl,hxk,hpa,-,hd,hcs⟩:=dat_at HROW.out hlt
    obtain ⟨y1,y2,y3,rfl⟩:=fo_opens hd
    have HD:=hid hd
    have HXK:=hid hxk
    have HCS:=hid (fun (V:World) (hV:Below V5.heap.size V5 V)=>(fun j u hu=>(hV.cell (p:=(pa.add (k*5)).add j) (by rw [addBlock,addBlock];exact hpa.2)).trans (hcs j u hu):CellsAt V (pa.add (k*5)) [.string x.name,.string x.ty.name,.slice y1 y2 y3,.int .i64 x.ty.off,.int .i64 x.off]))
    have HCT:=hid (fun (V:World) (hV:Below V5.heap.size V5 V)=>(fun j u hu=>by
      rw [Addr.add_add]
      match j,hu with
      | 0,hu=>exact HCS.out V hV 1 u hu
      | 1,hu=>exact HCS.out V hV 2 u hu
      | 2,hu=>exact HCS.out V hV 3 u hu
      | j+3,hu=>simp at hu:CellsAt V ((pa.add (k*5)).add 1) [.string x.ty.name,.slice y1 y2 y3,.int .i64 x.ty.off]))
    clear hd hxk hcs hpa
    go_upto_region 9 with fail
    generalize hq:ts.length=nn at *
    go_wp2_with fail
    refine wp_region_held_drew (S:=fun V=>Below V5.heap.size V5 V) (by kernel_rfl) HBEL.out.drew (fun hS=>?_)
    refine wpAnyH_take (i:=0) (v:=?_) rfl (by kernel_rfl) (by kernel_rfl) (by kernel_rfl) (fun _ _ _ h=>h) (Or.inl ⟨by rfl,?_⟩) (by assumption) ?_
    rotate_left
    · (intro V hV;go_simp;try with_reducible rfl)
    try simp only [Act.put,List.getElem_toArray,List.getElem_cons_zero,List.setIfInBounds_toArray,List.set_cons_zero,List.set_cons_succ]
    refine wpAnyH_take (i:=1) (v:=?_) rfl (by kernel_rfl) (by kernel_rfl) (by kernel_rfl) (fun _ _ _ h=>h) (Or.inl ⟨by rfl,?_⟩) (by assumption) ?_
    rotate_left
    · (intro V hV;go_simp;try with_reducible rfl)
    try simp only [Act.put,List.getElem_toArray,List.getElem_cons_zero,List.getElem_cons_succ,List.setIfInBounds_toArray,List.set_cons_zero,List.set_cons_succ]
    refine wpAnyH_take (i:=2) (v:=?_) rfl (by kernel_rfl) (by kernel_rfl) (by kernel_rfl) (fun _ _ _ h=>h) (Or.inl ⟨by rfl,?_⟩) (by assumption) ?_
    rotate_left
    · (intro V hV;go_simp;try with_reducible rfl)
    try simp only [Act.put,List.getElem_toArray,List.getElem_cons_zero,List.getElem_cons_succ,List.setIfInBounds_toArray,List.set_cons_zero,List.set_cons_succ]
    refine wpAnyH_take (i:=3) (v:=?_) rfl (by kernel_rfl) (by kernel_rfl) (by kernel_rfl) (fun _ _ _ h=>h) (Or.inl ⟨by rfl,?_⟩) (by assumption) ?_
    rotate_left
    · (intro V hV;go_simp;try with_reducible rfl)
    try simp only [Act.put,List.getElem_toArray,List.getElem_cons_zero,List.getElem_cons_succ,List.setIfInBounds_toArray,List.set_cons_zero,List.set_cons_succ]
    refine wpAnyH_take (i:=4) (v:=?_) rfl (by kernel_rfl) (by kernel_rfl) (by kernel_rfl) (fun _ _ _ h=>h) (Or.inl ⟨by rfl,?_⟩) (by assumption) ?_
    rotate_left
    · (intro V hV;go_simp;try with_reducible rfl)
    try simp only [Act.put,List.getElem_toArray,List.getElem_cons_zero,List.getElem_cons_succ,List.setIfInBounds_toArray,List.set_cons_zero,List.set_cons_succ]
    refine wpAnyH_take (i:=5) (v:=?_) rfl (by kernel_rfl) (by kernel_rfl) (by kernel_rfl) (fun _ _ _ h=>h) (Or.inl ⟨by rfl,?_⟩) (by assumption) ?_
    rotate_left
    · (intro V hV;have c0:V.cell? (pa.add (k*5))=_:=HCS.out V hV 0 _ rfl;go_simp;try with_reducible rfl)
    try simp only [Act.put,List.getElem_toArray,List.getElem_cons_zero,List.getElem_cons_succ,List.setIfInBounds_toArray,List.set_cons_zero,List.set_cons_succ]
    refine wpAnyH_take (i:=6) (v:=?_) rfl (by kernel_rfl) (by kernel_rfl) (by kernel_rfl) (fun _ _ _ h=>h) (Or.inl ⟨by rfl,?_⟩) (by assumption) ?_
    rotate_left
    · (intro V hV;go_simp;try with_reducible rfl)
    try simp only [Act.put,List.getElem_toArray,List.getElem_cons_zero,List.getElem_cons_succ,List.setIfInBounds_toArray,List.set_cons_zero,List.set_cons_succ]
    refine wpAnyH_take (i:=7) (v:=?_) rfl (by kernel_rfl) (by kernel_rfl) (by kernel_rfl) (fun _ _ _ h=>h) (Or.inl ⟨by rfl,?_⟩) (by assumption) ?_
    rotate_left
    · (intro V hV;go_simp;try with_reducible rfl)
    try simp only [Act.put,List.getElem_toArray,List.getElem_cons_zero,List.getElem_cons_succ,List.setIfInBounds_toArray,List.set_cons_zero,List.set_cons_succ]
    refine wpAnyH_take (i:=8) (v:=?_) rfl (by kernel_rfl) (by kernel_rfl) (by kernel_rfl) (fun _ _ _ h=>h) (Or.inl ⟨by rfl,?_⟩) (by assumption) ?_
    rotate_left
    · (intro V hV;go_simp;try with_reducible rfl)
    try simp only [Act.put,List.getElem_toArray,List.getElem_cons_zero,List.getElem_cons_succ,List.setIfInBounds_toArray,List.set_cons_zero,List.set_cons_succ]
    refine wpAnyH_take (i:=9) (v:=?_) rfl (by kernel_rfl) (by kernel_rfl) (by kernel_rfl) (fun _ _ _ h=>h) (Or.inl ⟨by rfl,?_⟩) (by assumption) ?_
    rotate_left
    · (intro V hV;go_simp;try with_reducible rfl)
    try simp only [Act.put,List.getElem_toArray,List.getElem_cons_zero,List.getElem_cons_succ,List.setIfInBounds_toArray,List.set_cons_zero,List.set_cons_succ]
    refine wpAnyH_take (i:=10) (v:=.agg ([.string x.ty.name,.slice y1 y2 y3,.int .i64 x.ty.off]:List Value).toArray) rfl (by kernel_rfl) (by kernel_rfl) (by kernel_rfl) (fun _ _ _ h=>h) (Or.inl ⟨by rfl,fun V hV=>loadYield8 flatTy rfl (HCT.out V hV) rfl⟩) (by assumption) ?_
    try simp only [Act.put,List.getElem_toArray,List.getElem_cons_zero,List.getElem_cons_succ,List.setIfInBounds_toArray,List.set_cons_zero,List.set_cons_succ]
    refine wpAnyH_take (i:=11) (v:=?_) rfl (by kernel_rfl) (by kernel_rfl) (by kernel_rfl) (fun _ _ _ h=>h) (Or.inl ⟨by rfl,?_⟩) (by assumption) ?_
    rotate_left
    · (intro V hV;go_simp;try with_reducible rfl)
    try simp only [Act.put,List.getElem_toArray,List.getElem_cons_zero,List.getElem_cons_succ,List.setIfInBounds_toArray,List.set_cons_zero,List.set_cons_succ]
    refine wpAnyH_take (i:=12) (v:=?_) rfl (by kernel_rfl) (by kernel_rfl) (by kernel_rfl) (fun _ _ _ h=>h) (Or.inl ⟨by rfl,?_⟩) (by assumption) ?_
    rotate_left
    · (intro V hV;go_simp;try with_reducible rfl)
    try simp only [Act.put,List.getElem_toArray,List.getElem_cons_zero,List.getElem_cons_succ,List.setIfInBounds_toArray,List.set_cons_zero,List.set_cons_succ]
    refine wpAnyH_take (i:=13) (v:=?_) rfl (by kernel_rfl) (by kernel_rfl) (by kernel_rfl) (fun _ _ _ h=>h) (Or.inl ⟨by rfl,?_⟩) (by assumption) ?_
    rotate_left
    · (intro V hV;go_simp;try with_reducible rfl)
    try simp only [Act.put,List.getElem_toArray,List.getElem_cons_zero,List.getElem_cons_succ,List.setIfInBounds_toArray,List.set_cons_zero,List.set_cons_succ]
    refine wpAnyH_take (i:=14) (v:=?_) rfl (by kernel_rfl) (by kernel_rfl) (by kernel_rfl) (fun _ _ _ h=>h) (Or.inl ⟨by rfl,?_⟩) (by assumption) ?_
    rotate_left
    · (intro V hV;go_simp;try with_reducible rfl)
    try simp only [Act.put,List.getElem_toArray,List.getElem_cons_zero,List.getElem_cons_succ,List.setIfInBounds_toArray,List.set_cons_zero,List.set_cons_succ]
    refine wpAnyH_take (i:=15) (v:=?_) rfl (by kernel_rfl) (by kernel_rfl) (by kernel_rfl) (fun _ _ _ h=>h) (Or.inl ⟨by rfl,?_⟩) (by assumption) ?_
    rotate_left
    · (intro V hV;have c4:V.cell? ⟨(pa.add (k*5)).block,(pa.add (k*5)).off+4,none⟩=_:=HCS.out V hV 4 _ rfl;go_simp;try with_reducible rfl)
    try simp only [Act.put,List.getElem_toArray,List.getElem_cons_zero,List.getElem_cons_succ,List.setIfInBounds_toArray,List.set_cons_zero,List.set_cons_succ]
    refine wpAnyH_take (i:=16) (v:=?_) rfl (by kernel_rfl) (by kernel_rfl) (by kernel_rfl) (fun _ _ _ h=>h) (Or.inl ⟨by rfl,?_⟩) (by assumption) ?_
    rotate_left
    · (intro V hV;go_simp;try with_reducible rfl)
    try simp only [Act.put,List.getElem_toArray,List.getElem_cons_zero,List.getElem_cons_succ,List.setIfInBounds_toArray,List.set_cons_zero,List.set_cons_succ]
    have HOD:=hid (show wr.drew.ownsRow V5.heap.size 85 5 u5 k cs from HOWN.out)
    generalize wr.drew=Wd at *
    refine wpAnyH_ready (rs:=[17]) (by kernel_rfl) (by simp) ?_
    refine AllReadyH.cons rfl (fun K hK=>?_) (AllReadyH.nil)
    go_simp
    obtain ⟨w6,hw6⟩:∃ X,World.alloc Wd (.cells #[.string x.name,.string x.ty.name,.slice y1 y2 y3,.int .i64 x.ty.off,.int .i64 x.off] 85)=X:=⟨_,rfl⟩
    have hb6:Below Wd.heap.size Wd w6:=hw6▸(Below.refl _ _).alloc (Nat.le_refl _) _
    have HB6:=hid (boxd_at0 (show Boxd w6 Wd.heap.size [.string x.name,.string x.ty.name,.slice y1 y2 y3,.int .i64 x.ty.off,.int .i64 x.off] from hw6▸Boxd.new Wd #[.string x.name,.string x.ty.name,.slice y1 y2 y3,.int .i64 x.ty.off,.int .i64 x.off] 85))
    have HO6:=hid (own_below (w1:=w6) HOD.out hb6)
    have HL6:=hid (hS.trans (hb6.mono hS.size))
    rw [hw6]
    clear hw6 hb6
    have SS:Below V5.heap.size V5 w6:=HL6.out
    refine hK.out _ _ SS (fun hS=>?_)
    clear hK K SS
    try simp only [Act.put,List.getElem_toArray,List.getElem_cons_zero,List.getElem_cons_succ,List.setIfInBounds_toArray,List.set_cons_zero,List.set_cons_succ]
    refine wpAnyH_ready (rs:=[18]) (by kernel_rfl) (by simp) ?_
    refine AllReadyH.cons rfl (fun K hK=>?_) (AllReadyH.nil)
    refine ready_append_row slFo rfl _ _ rfl rfl rfl HO6.out HL6.out.size rfl (fun a ha j u hu=>by obtain rfl:=Option.some.inj ha;exact HB6.out j u hu) five_one (fun _=>⟨_,rfl⟩) (by have:=HLEN.out;omega) (by omega) ?_
    intro v7 w7 hA
    have SS:Below V5.heap.size V5 w7:=below_grown HL6.out.size hA.grow (own_base HO6.out) |> fun h=>HL6.out.trans h
    have HO7:=hid hA.own
    have HL7:=hid SS
    refine hK.out _ _ SS (fun hS=>?_)
    clear hK K SS hA HO6 HB6
    try simp only [Act.put,List.getElem_toArray,List.getElem_cons_zero,List.getElem_cons_succ,List.setIfInBounds_toArray,List.set_cons_zero,List.set_cons_succ]
    refine wpAnyH_take (i:=19) (v:=?_) rfl (by kernel_rfl) (by kernel_rfl) (by kernel_rfl) (fun _ _ _ h=>h) (Or.inl ⟨by rfl,?_⟩) (by assumption) ?_
    rotate_left
    · (intro V hV;go_simp;try with_reducible rfl)
    try simp only [Act.put,List.getElem_toArray,List.getElem_cons_zero,List.getElem_cons_succ,List.setIfInBounds_toArray,List.set_cons_zero,List.set_cons_succ]
    refine wpAnyH_done (by kernel_rfl) ?_ _
    clear hS
    go_wp2_with fail
    go_roundw
    case rel =>
      have hs:Dat.Ins V5 False (Fr V1.heap.size V5) ((ts.take (k+1)).map Fo.dat) (cs++[.string x.name,.string x.ty.name,.slice y1 y2 y3,.int .i64 x.ty.off,.int .i64 x.off]):=by
        have:=Dat.Ins.snoc (HD.out) HINS.out
        rw [List.take_add_one,HXK.out,List.map_append]
        exact this
      subst hq
      (repeat apply Exists.intro)
      exact ⟨⟨k+1,_,by omega,rfl,HO7.out,hs,HL7.out⟩,rfl⟩
    case measure =>
      show ts.length-((k:Int)+1).toNat<ts.length-(k:Int).toNat
      omega
  have hkk:k=ts.length:=by omega
  subst hkk
  have K6:=hid (K5.out.later HBEL.out)
  have HT:=hid (K6.out.res 0 3 rfl)
  have HB:=hid (boxd_at0 K6.out.box)
  have hs5:=K5.out.big
  obtain ⟨A9,c9,rfl,hrow9,-⟩:=row_of_own (S':=Fr (w.heap.size+2) wr) HOWN.out (Dat.Ins.keep (S':=Fr V1.heap.size V5) id (fun _ hp=>⟨HBEL.out.cell hp.2,HBEL.out.frozen hp.2⟩) (fun _ h=>h) _ _ HINS.out) (fun y hy=>by obtain ⟨a,-,rfl⟩:=List.mem_map.1 hy;exact Fo.dat_size a) (by omega)
    (fun k hk=>⟨by have:=hk.1;omega,by have:=hk.2;have:=HBEL.out.size;omega⟩) (fun g hg=>⟨by have:=own_base HOWN.out g hg;simp at hs5;omega,(HOWN.out.lt g hg).2⟩) (by have:=HLEN.out;omega)
  have HR9:=hid hrow9
  clear hrow9
  go_wp2_with (first | (refine loadOp flatPl 1 45 rfl HB.out rfl ?_) | (refine storeOp flatPl 2 45 (b:=w.heap.size+1) (o:=0) (us:=[.slice A n cap,.int .i64 (p4:Int),.bool b4]) rfl rfl HT.out pl_one rfl ?_))
  refine bodyPost_ret (results_rformals _ rfl rfl (show Boxd _ _ [.slice A n cap,.int .i64 (p4:Int),.bool b4] from set_there (us:=[.slice A n cap,.int .i64 (p4:Int),.bool b4]) HT.out) rfl) rfl ?_
  have hfin:=K6.out.bel.trans (below_sets (show w.heap.size≤w.heap.size+1 by omega) [.slice A n cap,.int .i64 (p4:Int),.bool b4] 0 wr)
  have hrow:Row (wr.setCells (w.heap.size+1) 0 [.slice A n cap,.int .i64 (p4:Int),.bool b4]) False (Fr (w.heap.size+2) (wr.setCells (w.heap.size+1) 0 [.slice A n cap,.int .i64 (p4:Int),.bool b4])) 5 A9 ts.length ((ts.take ts.length).map Fo.dat):=row_gb (gb_sets1 wr (w.heap.size+1) 0 _) (by omega) HR9.out
  rw [List.take_length] at hrow
  refine ⟨ts,A9,c9,p4,b4,rfl,hrow.wide fun i hi=>⟨by have:=hi.1;omega,hi.2⟩,HLEN.out,?_,hfin⟩
  show RAft _ A n L p4 b4 ts (bracketsG foF (t1 :: r1))
  unfold bracketsG
  rw [HI.out,if_pos rfl]
  exact RAft.move HP0.out HRA.out hfin
