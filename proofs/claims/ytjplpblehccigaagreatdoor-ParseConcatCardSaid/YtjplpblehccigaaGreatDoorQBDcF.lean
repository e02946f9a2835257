/- Texts of right expressions: how long they are, and that they tell them apart. No program, no condition.
The walks of the reference's Count and Few of expressions.
The walks of the reference's Same and Equal of expressions.
The walk of the reference's Equal of expressions.
The walks of expr.Same, expr.Depth and what they call.
Structs of five, seven, nine and twenty-three cells in memory; two boxed data. No condition.
The walks of decl.SameSig and of what it calls. No condition.
The walks of decl.SameDecl, decl.Same and of what they call. No condition.
The walk of decl.SameDecl. No condition.
What the laws and types.Right ask of types.Names: an iterator that yields the names, in whatever world behind its making. No condition.
The walks of expr.visit and expr.parts: an iterator over an expression and its kids, by a helper that calls itself and hands yield on. No condition.
The walk of expr.Value: a range over the parts. No condition.
The walks of types.Subst, All and Clone.
What the program computes of being right, in plain words. No program, no condition.
A struct of many cells is loaded, stored and handed back whole, its cells not spelled out. No condition.
The walks of slices.EqualFunc at declarations and of decl.Same. No condition. -/
import Derived.Test.YtjplpblehccigaaGreatDoorQBPaP
import Derived.Test.YtjplpblehccigaaGreatDoorQBTwA
import Derived.Test.YtjplpblehccigaaGreatDoorQBTyL
import Derived.Deep.RegionHeld3
import Derived.StillTailTactics
import Derived.RangeFuncNested
import Derived.RangeFuncBound
import Derived.RangeFuncCalls
import Derived.RangeFuncLeaves
import Derived.RangeFuncFrom
import Derived.Shelf.Abstract
import Derived.Shelf.RegionOpen
import Derived.WalkKit
import Derived.OwnWalkIn
import Derived.TacticsInMore
import Derived.LoopNIn
import Derived.LoopIn
import Derived.RangeFuncKeeps
import Derived.Maps.OwnSet
import Derived.Maps.OwnOps
import Derived.Deep.MidRow
import Derived.Laws.MakeOwn
import Derived.Deep.DeepCutAuto
namespace Go.Proofs.YtjplpblehccigaaGreatDoor
namespace Ex

/-! ### the same expression: the same text -/
theorem same_mk {k l:Int} {s r:ByteArray} {t u:Ty} {ts us:List Ty} {xs ys:List Ex} {o p:Int} :
    same (mk k s t ts xs o) (mk l r u us ys p)=true ↔ k=l∧s.data.toList=r.data.toList∧Ty.cmp t u=0∧sameT ts us=true∧sameL xs ys=true:=by
  rw [same]
  simp only [Bool.and_eq_true,beq_iff_eq,and_assoc]
/-! ### what a text begins with,and how it goes on -/
/-! ### what is asked,read -/
end Ex
end Go.Proofs.YtjplpblehccigaaGreatDoor

namespace Go.Proofs.YtjplpblehccigaaGreatDoor
open Go.RowKit

def Ex.few (e:Ex):Bool:=decide (e.cnt 0≤250)
end Go.Proofs.YtjplpblehccigaaGreatDoor
namespace Go.Proofs.YtjplpblehccigaaGreatDoor
open Go.RowKit

set_option maxHeartbeats 1000000 in
theorem tsame_any (t u:Ty) (A B:Option Addr) (m l c d:Nat) (w:World) (ht:t.name.size≤9223372036854775807) (hu:u.name.size≤9223372036854775807) (h1:Here w A m t.args) (h2:Here w B l u.args) :
    Calls Tryz.prog 129 #[.agg #[.string t.name,.slice A m c,.int .i64 t.off],.agg #[.string u.name,.slice B l d,.int .i64 u.off]] w (EqvPost w (Ty.cmp t u == 0)):=by
  obtain ⟨hb,hX,hY⟩:=Boxd.pair w #[.string t.name,.slice A m c,.int .i64 t.off] #[.string u.name,.slice B l d,.int .i64 u.off] 25
  have CC:=Lib.hid (ref_cmp_any t u A B m l c d _ ht hu (Here.later h1 hb) (Here.later h2 hb))
  have HB:=Lib.hid hb
  obtain ⟨x0,x1,x2⟩:=hX.c3
  obtain ⟨y0,y1,y2⟩:=hY.c3
  clear hb hX hY h1 h2
  go_enter Tryz.func129,Tryz.ntmps129
  go_wp2_with fail
  refine CC.out.mono ?_
  rintro e w1 ⟨rfl,hb1⟩
  have HB1:=Lib.hid (HB.out.trans (hb1.mono HB.out.size))
  clear hb1
  go_wp2_with fail
  go_ret
  exact ⟨rfl,HB1.out⟩

set_option maxRecDepth 100000 in
set_option maxHeartbeats 2000000 in
theorem tsames_any (xs ys:List Ty) (A B:Option Addr) (m l c d:Nat) (w:World) (h1:Here w A m xs) (h2:Here w B l ys) :
    Calls Tryz.prog 130 #[.slice A m c,.slice B l d] w (EqvPost w (Ex.sameT xs ys)):=by
  have hm:(m:Int)≤9223372036854775807:=by have:=h1.le; omega
  have hl:(l:Int)≤9223372036854775807:=by have:=h2.le; omega
  have hxl:=h1.len
  have hyl:=h2.len
  have H1:=Lib.hid h1
  have H2:=Lib.hid h2
  clear h1 h2
  by_cases hml:m=l
  · subst hml
    have hnn:(!((m:Int) == (m:Int)))=false:=by simp
    go_enter Tryz.func130,Tryz.ntmps130
    go_wp2_with fail
    go_loopw [5] (fun i wr=>∃ k:Nat,k≤m∧i=.int .i64 k∧Ex.sameT xs ys=Ex.sameT (xs.drop k) (ys.drop k)∧Below w.heap.size w wr) (fun i _=>m - (intOf i).toNat)
    case atStart=>exact ⟨0,by omega,rfl,rfl,Below.refl _ _⟩
    obtain ⟨k,hk,rfl,hc,hbel⟩:=hrel
    have HBL:=Lib.hid hbel
    have HQ:=Lib.hid hc
    clear hc
    by_cases hlt:k < m
    · have z0:(0:Int)≤k:=by omega
      have z1:(k:Int) < m:=by omega
      obtain ⟨a,s2,as2,o2,A2,m2,c2,rfl,hx,_,a0,a1,a2,hs2,hl2⟩:=(H1.out.later hbel).get hlt
      obtain ⟨b,r2,bs2,p2,B2,l2,d2,rfl,hy,_,b0,b1,b2,hr2,hl3⟩:=(H2.out.later hbel).get hlt
      have C:=Lib.hid (fun (V:World) (hV:Below wr.heap.size wr V)=>(tsame_any (.mk s2 as2 o2) (.mk r2 bs2 p2) A2 B2 m2 l2 c2 d2 V hs2 hr2 (Here.later hl2 hV) (Here.later hl3 hV)).mono fun e w' (h:_∧_)=>(⟨h.1,hV.trans (h.2.mono hV.size)⟩:_∧Below wr.heap.size wr w'))
      have HS:=Lib.hid (HQ.out.trans (Ex.sameT_on hx hy))
      simp only [Ty.name,Ty.off] at C
      clear hx hy hl2 hl3 hbel HQ
      go_wp2_with fail
      go_still_tail 8,(by kernel_rfl)
      change wpList _ _ _ _ _ wr.drew
      go_wp2_with fail
      refine (C.out _ (Below.refl _ _).drew).mono ?_
      rintro e w1 ⟨rfl,hb1⟩
      have HB1:=Lib.hid (HBL.out.trans (hb1.mono HBL.out.size))
      clear hb1
      cases hz:(Ty.cmp (.mk s2 as2 o2) (.mk r2 bs2 p2) == 0)
      · have HS2:=Lib.hid (HS.out.trans (by rw [hz]; rfl:_=false))
        go_wp2
        go_ret
        exact ⟨ret_bool (by rw [HS2.out]),HB1.out⟩
      have HS2:=Lib.hid (HS.out.trans (by rw [hz]; rfl:_=Ex.sameT (xs.drop (k+1)) (ys.drop (k+1))))
      go_wp2
      go_roundw
      case rel=>exact ⟨k+1,by omega,by go_num,HS2.out,HB1.out⟩
      case measure=>simp [intOf]; omega
    have hq:=HQ.out
    rw [List.drop_eq_nil_of_le (by rw [H1.out.len]; omega),List.drop_eq_nil_of_le (by rw [H2.out.len]; omega),Ex.sameT] at hq
    have HQ2:=Lib.hid hq
    have q1:(m:Int)≤k:=by omega
    clear hq hbel
    go_wp2_with fail
    go_ret
    exact ⟨ret_bool (by rw [HQ2.out]),HBL.out⟩
  have HC:=Lib.hid (show Ex.sameT xs ys=false from Ex.sameT_len (by rw [hxl,hyl]; exact hml))
  have e6:((m:Int) != (l:Int))=true:=by simp; omega
  have e7:((m:Int) == (l:Int))=false:=by simp; omega
  clear hxl hyl hml
  go_enter Tryz.func130,Tryz.ntmps130
  go_wp2_with fail
  go_ret
  exact ⟨ret_bool (by rw [HC.out]),Below.refl _ _⟩

/-- Two boxed expressions,and all that they lead to. -/
structure TwoX (w0 W:World) (a b:Ex) (us vs:List Value):Prop where
  bel:Below w0.heap.size w0 W
  one:Boxd W w0.heap.size us
  two:Boxd W (w0.heap.size+1) vs
  da:a.dat.H W us
  db:b.dat.H W vs
theorem TwoX.new {w:World} {a b:Ex} {us vs:List Value} (ha:a.dat.H w us) (hb:b.dat.H w vs) (T:TypeId):TwoX w ((w.alloc (.cells us.toArray T)).alloc (.cells vs.toArray T)) a b us vs:=by
  obtain ⟨h1,h2,h3⟩:=Boxd.pair w us.toArray vs.toArray T
  exact ⟨h1,h2,h3,Dat.H.later ha h1,Dat.H.later hb h1⟩
theorem TwoX.later {w0 W W':World} {a b:Ex} {us vs:List Value} (h:TwoX w0 W a b us vs) (hb:Below W.heap.size W W'):TwoX w0 W' a b us vs :=
  ⟨h.bel.trans (hb.mono h.bel.size),h.one.later hb,h.two.later hb,Dat.H.later h.da hb,Dat.H.later h.db hb⟩

set_option maxRecDepth 100000 in
set_option maxHeartbeats 8000000 in
theorem xref_same_any:∀ (e f:Ex) (us vs:List Value) (w:World),e.dat.H w us→f.dat.H w vs →
    Calls Tryz.prog 48 #[.agg us.toArray,.agg vs.toArray] w (EqvPost w (e.same f)):=by
  refine Ex.ind fun k s t ts xs o ih f us vs w h1 h2=>?_
  obtain ⟨k2,s2,t2,ts2,xs2,o2⟩:=f
  obtain ⟨A,m,a,B,l,b,C,r,c,rfl,hs,ht,ha,hb,hc⟩:=ex_open h1
  obtain ⟨A2,m2,a2,B2,l2,b2,C2,r2,c2,rfl,hs2,ht2,ha2,hb2,hc2⟩:=ex_open h2
  have h:=TwoX.new h1 h2 28
  simp only [Ex.kind,Ex.name,Ex.ty,Ex.targs,Ex.kids,Ex.off] at hs ht ha hb hc hs2 ht2 ha2 hb2 hc2 h ⊢
  have hr:(r:Int)≤9223372036854775807:=by have:=hc.le; omega
  have hr2:(r2:Int)≤9223372036854775807:=by have:=hc2.le; omega
  have hxl:=hc.len
  have hyl:=hc2.len
  rw [Ex.dats_len] at hxl hyl
  have IH:=Lib.hid ih
  have H:=Lib.hid h
  have hbel:=h.bel
  have C1:=Lib.hid (tsame_any t t2 A A2 m m2 a a2 _ ht ht2 (Here.later ha hbel) (Here.later ha2 hbel))
  have HD:=Lib.hid (show Ex.same (.mk k s t ts xs o) (.mk k2 s2 t2 ts2 xs2 o2)=((k == k2)&&(s.data.toList == s2.data.toList)&&(Ty.cmp t t2 == 0)&&Ex.sameT ts ts2&&Ex.sameL xs xs2) by rw [Ex.same])
  have HTB:=Lib.hid (Here.later hb hbel)
  have HTB2:=Lib.hid (Here.later hb2 hbel)
  have HK:=Lib.hid (RowH.later hc hbel)
  have HK2:=Lib.hid (RowH.later hc2 hbel)
  obtain ⟨x0,x1,x2,x3,x4,x5,x6,x7⟩:=H.out.one.c8
  obtain ⟨y0,y1,y2,y3,y4,y5,y6,y7⟩:=H.out.two.c8
  clear ih h1 h2 ha hb hc ha2 hb2 hc2 h hbel
  by_cases hk:k=k2
  · have e1:(k != k2)=false:=by simp [hk]
    have e2:(k == k2)=true:=by simp [hk]
    by_cases hsr:s.data.toList=s2.data.toList
    · have e3:(s.toList == s2.toList)=true:=by rw [Lib.toList_data,Lib.toList_data]; simp [hsr]
      have e4:(s.toList != s2.toList)=false:=by rw [Lib.toList_data,Lib.toList_data]; simp [hsr]
      have HD2:=Lib.hid (HD.out.trans (by rw [hsr,e2]; simp:_=((Ty.cmp t t2 == 0)&&Ex.sameT ts ts2&&Ex.sameL xs xs2)))
      clear hk hsr HD
      go_enter Tryz.func48,Tryz.ntmps48
      go_wp2_with fail
      refine C1.out.mono ?_
      rintro e w1 ⟨rfl,hb1⟩
      have H1:=Lib.hid (H.out.later hb1)
      have C2:=Lib.hid (tsames_any ts ts2 B B2 l l2 b b2 w1 (Here.later HTB.out hb1) (Here.later HTB2.out hb1))
      have HKK:=Lib.hid (RowH.later HK.out hb1)
      have HKK2:=Lib.hid (RowH.later HK2.out hb1)
      clear hb1 H C1 HTB HTB2 HK HK2 x0 x1 x2 x3 x4 x5 x6 x7 y0 y1 y2 y3 y4 y5 y6 y7
      obtain ⟨x0,x1,x2,x3,x4,x5,x6,x7⟩:=H1.out.one.c8
      obtain ⟨y0,y1,y2,y3,y4,y5,y6,y7⟩:=H1.out.two.c8
      cases hz:(Ty.cmp t t2 == 0)
      · have HC:=Lib.hid (HD2.out.trans (by rw [hz]; simp:_=false))
        go_wp2_with fail
        go_ret
        exact ⟨ret_bool (by rw [HC.out]),H1.out.bel⟩
      have HD3:=Lib.hid (HD2.out.trans (by rw [hz]; simp:_=(Ex.sameT ts ts2&&Ex.sameL xs xs2)))
      clear HD2
      go_wp2_with fail
      refine C2.out.mono ?_
      rintro e w2 ⟨rfl,hb2⟩
      have H2:=Lib.hid (H1.out.later hb2)
      have HL:=Lib.hid (RowH.later HKK.out hb2)
      have HL2:=Lib.hid (RowH.later HKK2.out hb2)
      clear hb2 H1 C2 HKK HKK2 x0 x1 x2 x3 x4 x5 x6 x7 y0 y1 y2 y3 y4 y5 y6 y7
      obtain ⟨x0,x1,x2,x3,x4,x5,x6,x7⟩:=H2.out.one.c8
      obtain ⟨y0,y1,y2,y3,y4,y5,y6,y7⟩:=H2.out.two.c8
      cases hy:Ex.sameT ts ts2
      · have HC:=Lib.hid (HD3.out.trans (by rw [hy]; simp:_=false))
        go_wp2_with fail
        go_ret
        exact ⟨ret_bool (by rw [HC.out]),H2.out.bel⟩
      have HD4:=Lib.hid (HD3.out.trans (by rw [hy]; simp:_=Ex.sameL xs xs2))
      clear HD3
      by_cases hml:r=r2
      · subst hml
        have hnn:(!((r:Int) == (r:Int)))=false:=by simp
        clear hxl hyl
        go_wp2_with fail
        clear x0 x1 x2 x3 x4 x5 x6 x7 y0 y1 y2 y3 y4 y5 y6 y7
        go_loopw [5] (fun i wr=>∃ k:Nat,k≤r∧i=.int .i64 k∧Ex.sameL xs xs2=Ex.sameL (xs.drop k) (xs2.drop k)∧Below w2.heap.size w2 wr) (fun i _=>r - (intOf i).toNat)
        case atStart=>exact ⟨0,by omega,rfl,rfl,Below.refl _ _⟩
        obtain ⟨j,hj,rfl,hq,hbel⟩:=hrel
        have H3:=Lib.hid (H2.out.later hbel)
        obtain ⟨x0,x1,x2,x3,x4,x5,x6,x7⟩:=H3.out.one.c8
        obtain ⟨y0,y1,y2,y3,y4,y5,y6,y7⟩:=H3.out.two.c8
        have HBL:=Lib.hid hbel
        have HQ:=Lib.hid hq
        clear hq
        by_cases hlt:j < r
        · have z0:(0:Int)≤j:=by omega
          have z1:(j:Int) < r:=by omega
          obtain ⟨p,u,ps,rfl,hx,_,_,hu,hcs⟩:=kid_at (RowH.later HL.out hbel) hlt
          obtain ⟨p2,v,qs,rfl,hy2,_,_,hv,hds⟩:=kid_at (RowH.later HL2.out hbel) hlt
          have CC:=Lib.hid (fun (V:World) (hV:Below wr.heap.size wr V)=>(IH.out _ (List.mem_of_getElem? hx) v ps qs V (Dat.H.later hu hV) (Dat.H.later hv hV)).mono fun e w' (h:_∧_)=>(⟨h.1,hV.trans (h.2.mono hV.size)⟩:_∧Below wr.heap.size wr w'))
          obtain ⟨_,_,_,_,_,_,_,_,_,rfl,_⟩:=ex_open hu
          obtain ⟨_,_,_,_,_,_,_,_,_,rfl,_⟩:=ex_open hv
          obtain ⟨c0,c1,c2,c3,c4,c5,c6,c7⟩:=cells8_at hcs
          obtain ⟨d0,d1,d2,d3,d4,d5,d6,d7⟩:=cells8_at hds
          have HS:=Lib.hid (HQ.out.trans (Ex.sameL_on hx hy2))
          clear hx hy2 hu hv hcs hds hbel HQ
          go_wp2_with fail
          go_still_tail 10,(by kernel_rfl)
          change wpList _ _ _ _ _ wr.drew
          go_wp2_with fail
          refine (CC.out _ (Below.refl _ _).drew).mono ?_
          rintro e w3 ⟨rfl,hb3⟩
          have HB3:=Lib.hid (HBL.out.trans (hb3.mono HBL.out.size))
          clear hb3
          cases hz3:Ex.same u v
          · have HC:=Lib.hid (HD4.out.trans (HS.out.trans (by rw [hz3]; rfl:_=false)))
            go_wp2
            go_ret
            exact ⟨ret_bool (by rw [HC.out]),H2.out.bel.trans (HB3.out.mono H2.out.bel.size)⟩
          have HS2:=Lib.hid (HS.out.trans (by rw [hz3]; rfl:_=Ex.sameL (xs.drop (j+1)) (xs2.drop (j+1))))
          go_wp2
          go_roundw
          case rel=>exact ⟨j+1,by omega,by go_num,HS2.out,HB3.out⟩
          case measure=>simp [intOf]; omega
        have hq:=HD4.out.trans HQ.out
        have n1:=HL.out.len
        have n2:=HL2.out.len
        rw [Ex.dats_len] at n1 n2
        rw [List.drop_eq_nil_of_le (by omega),List.drop_eq_nil_of_le (by omega),Ex.sameL] at hq
        have HQ2:=Lib.hid hq
        have q1:(r:Int)≤j:=by omega
        clear hq hbel n1 n2
        go_wp2_with fail
        go_ret
        exact ⟨ret_bool (by rw [HQ2.out]),H2.out.bel.trans (HBL.out.mono H2.out.bel.size)⟩
      have HC:=Lib.hid (HD4.out.trans (Ex.sameL_len (by rw [hxl,hyl]; exact hml)))
      have e6:((r:Int) != (r2:Int))=true:=by simp; omega
      have e7:((r:Int) == (r2:Int))=false:=by simp; omega
      clear hxl hyl hml
      go_wp2_with fail
      go_ret
      exact ⟨ret_bool (by rw [HC.out]),H2.out.bel⟩
    have e3:(s.toList == s2.toList)=false:=by rw [Lib.toList_data,Lib.toList_data]; simpa using hsr
    have e4:(s.toList != s2.toList)=true:=by rw [Lib.toList_data,Lib.toList_data]; simpa using hsr
    have HC:=Lib.hid (HD.out.trans (by rw [show (s.data.toList == s2.data.toList)=false by simpa using hsr]; simp:_=false))
    clear hsr hxl hyl hk
    go_enter Tryz.func48,Tryz.ntmps48
    go_wp2_with fail
    go_ret
    exact ⟨ret_bool (by rw [HC.out]),H.out.bel⟩
  have e1:(k != k2)=true:=by simp [hk]
  have e2:(k == k2)=false:=by simp [hk]
  have HC:=Lib.hid (HD.out.trans (by rw [e2]; simp:_=false))
  clear hxl hyl hk
  go_enter Tryz.func48,Tryz.ntmps48
  go_wp2_with fail
  go_ret
  exact ⟨ret_bool (by rw [HC.out]),H.out.bel⟩
end Go.Proofs.YtjplpblehccigaaGreatDoor
namespace Go.Proofs.YtjplpblehccigaaGreatDoor
open Go.RowKit

set_option maxRecDepth 100000 in
set_option maxHeartbeats 8000000 in
theorem xref_equal_any:∀ (e f:Ex) (us vs:List Value) (w:World),e.dat.H w us→f.dat.H w vs →
    Calls Tryz.prog 49 #[.agg us.toArray,.agg vs.toArray] w (EqvPost w (e.eqv f)):=by
  refine Ex.ind fun k s t ts xs o ih f us vs w h1 h2=>?_
  obtain ⟨k2,s2,t2,ts2,xs2,o2⟩:=f
  obtain ⟨A,m,a,B,l,b,C,r,c,rfl,hs,ht,ha,hb,hc⟩:=ex_open h1
  obtain ⟨A2,m2,a2,B2,l2,b2,C2,r2,c2,rfl,hs2,ht2,ha2,hb2,hc2⟩:=ex_open h2
  have h:=TwoX.new h1 h2 28
  simp only [Ex.kind,Ex.name,Ex.ty,Ex.targs,Ex.kids,Ex.off] at hs ht ha hb hc hs2 ht2 ha2 hb2 hc2 h ⊢
  have hl:(l:Int)≤9223372036854775807:=by have:=hb.le; omega
  have hr:(r:Int)≤9223372036854775807:=by have:=hc.le; omega
  have hl2:(l2:Int)≤9223372036854775807:=by have:=hb2.le; omega
  have hr2:(r2:Int)≤9223372036854775807:=by have:=hc2.le; omega
  have hxl:=hc.len
  have hyl:=hc2.len
  have htl:=hb.len
  have htl2:=hb2.len
  rw [Ex.dats_len] at hxl hyl
  have IH:=Lib.hid ih
  have H:=Lib.hid h
  have hbel:=h.bel
  have C1:=Lib.hid (ref_equal_any t t2 A A2 m m2 a a2 _ ht ht2 (Here.later ha hbel) (Here.later ha2 hbel))
  have HD:=Lib.hid (show Ex.eqv (.mk k s t ts xs o) (.mk k2 s2 t2 ts2 xs2 o2)=((o == o2)&&(k == k2)&&(s.data.toList == s2.data.toList)&&Ty.eqv t t2&&Ty.eqvL ts ts2&&Ex.eqvL xs xs2) by rw [Ex.eqv])
  have HTB:=Lib.hid (Here.later hb hbel)
  have HTB2:=Lib.hid (Here.later hb2 hbel)
  have HK:=Lib.hid (RowH.later hc hbel)
  have HK2:=Lib.hid (RowH.later hc2 hbel)
  obtain ⟨x0,x1,x2,x3,x4,x5,x6,x7⟩:=H.out.one.c8
  obtain ⟨y0,y1,y2,y3,y4,y5,y6,y7⟩:=H.out.two.c8
  clear ih h1 h2 ha hb hc ha2 hb2 hc2 h hbel
  by_cases hno:o=o2∧k=k2∧s.data.toList=s2.data.toList
  · obtain ⟨ho,hk,hsr⟩:=hno
    have e1:(o != o2)=false:=by simp [ho]
    have e2:(o == o2)=true:=by simp [ho]
    have e3:(k != k2)=false:=by simp [hk]
    have e4:(k == k2)=true:=by simp [hk]
    have e5:(s.toList == s2.toList)=true:=by rw [Lib.toList_data,Lib.toList_data]; simp [hsr]
    have e6:(s.toList != s2.toList)=false:=by rw [Lib.toList_data,Lib.toList_data]; simp [hsr]
    have HD2:=Lib.hid (HD.out.trans (by rw [hsr,e2,e4]; simp:_=(Ty.eqv t t2&&Ty.eqvL ts ts2&&Ex.eqvL xs xs2)))
    clear ho hk hsr HD
    go_enter Tryz.func49,Tryz.ntmps49
    go_wp2_with fail
    refine C1.out.mono ?_
    rintro e w1 ⟨rfl,hb1⟩
    have H1:=Lib.hid (H.out.later hb1)
    have HT:=Lib.hid (Here.later HTB.out hb1)
    have HT2:=Lib.hid (Here.later HTB2.out hb1)
    have HL:=Lib.hid (RowH.later HK.out hb1)
    have HL2:=Lib.hid (RowH.later HK2.out hb1)
    clear hb1 H C1 HTB HTB2 HK HK2 x0 x1 x2 x3 x4 x5 x6 x7 y0 y1 y2 y3 y4 y5 y6 y7
    obtain ⟨x0,x1,x2,x3,x4,x5,x6,x7⟩:=H1.out.one.c8
    obtain ⟨y0,y1,y2,y3,y4,y5,y6,y7⟩:=H1.out.two.c8
    cases hz:Ty.eqv t t2
    · have HC:=Lib.hid (HD2.out.trans (by rw [hz]; simp:_=false))
      go_wp2_with fail
      go_ret
      exact ⟨ret_bool (by rw [HC.out]),H1.out.bel⟩
    have HD3:=Lib.hid (HD2.out.trans (by rw [hz]; simp:_=(Ty.eqvL ts ts2&&Ex.eqvL xs xs2)))
    clear HD2
    by_cases hml:l=l2
    · subst hml
      by_cases hmr:r=r2
      · subst hmr
        have n1:(!((l:Int) == (l:Int)))=false:=by simp
        have n2:(!((r:Int) == (r:Int)))=false:=by simp
        go_wp2_with fail
        clear x0 x1 x2 x3 x4 x5 x6 x7 y0 y1 y2 y3 y4 y5 y6 y7
        go_loopw [5] (fun i wr=>∃ k:Nat,k≤l∧i=.int .i64 k∧Ty.eqvL ts ts2=Ty.eqvL (ts.drop k) (ts2.drop k)∧Below w1.heap.size w1 wr) (fun i _=>l - (intOf i).toNat)
        case atStart=>exact ⟨0,by omega,rfl,rfl,Below.refl _ _⟩
        obtain ⟨j,hj,rfl,hq,hbel⟩:=hrel
        have H3:=Lib.hid (H1.out.later hbel)
        obtain ⟨x0,x1,x2,x3,x4,x5,x6,x7⟩:=H3.out.one.c8
        obtain ⟨y0,y1,y2,y3,y4,y5,y6,y7⟩:=H3.out.two.c8
        have HBL:=Lib.hid hbel
        have HQ:=Lib.hid hq
        clear hq
        by_cases hlt:j < l
        · have z0:(0:Int)≤j:=by omega
          have z1:(j:Int) < l:=by omega
          obtain ⟨p,u,us2,uo,A5,m5,c5,rfl,hx,_,c0,c1,c2,hu,hul⟩:=(HT.out.later hbel).get hlt
          obtain ⟨p2,v,vs2,vo,A6,m6,c6,rfl,hy,_,d0,d1,d2,hv,hvl⟩:=(HT2.out.later hbel).get hlt
          have CC:=Lib.hid (fun (V:World) (hV:Below wr.heap.size wr V)=>(ref_equal_any (.mk u us2 uo) (.mk v vs2 vo) A5 A6 m5 m6 c5 c6 V hu hv (Here.later hul hV) (Here.later hvl hV)).mono fun e w' (h:_∧_)=>(⟨h.1,hV.trans (h.2.mono hV.size)⟩:_∧Below wr.heap.size wr w'))
          simp only [Ty.name,Ty.off] at CC
          have HS:=Lib.hid (HQ.out.trans (eqvL_on hx hy))
          clear hx hy hul hvl hbel HQ
          go_wp2_with fail
          go_still_tail 10,(by kernel_rfl)
          change wpList _ _ _ _ _ wr.drew
          go_wp2_with fail
          refine (CC.out _ (Below.refl _ _).drew).mono ?_
          rintro e w3 ⟨rfl,hb3⟩
          have HB3:=Lib.hid (HBL.out.trans (hb3.mono HBL.out.size))
          clear hb3
          cases hz3:Ty.eqv (.mk u us2 uo) (.mk v vs2 vo)
          · have HC:=Lib.hid (HD3.out.trans (by rw [HS.out,hz3]; simp:_=false))
            go_wp2
            go_ret
            exact ⟨ret_bool (by rw [HC.out]),H1.out.bel.trans (HB3.out.mono H1.out.bel.size)⟩
          have HS2:=Lib.hid (HS.out.trans (by rw [hz3]; rfl:_=Ty.eqvL (ts.drop (j+1)) (ts2.drop (j+1))))
          go_wp2
          go_roundw
          case rel=>exact ⟨j+1,by omega,by go_num,HS2.out,HB3.out⟩
          case measure=>simp [intOf]; omega
        have hq2:=HQ.out
        rw [List.drop_eq_nil_of_le (by omega),List.drop_eq_nil_of_le (by omega),Ty.eqvL] at hq2
        have HD4:=Lib.hid (HD3.out.trans (by rw [hq2]; simp:_=Ex.eqvL xs xs2))
        have q1:(l:Int)≤j:=by omega
        have HM:=Lib.hid (RowH.later HL.out hbel)
        have HM2:=Lib.hid (RowH.later HL2.out hbel)
        clear hq2 hbel HD3 HQ HBL H1 HT HT2 HL HL2
        go_wp2_with fail
        generalize hV:wr=V at *
        clear hV x0 x1 x2 x3 x4 x5 x6 x7 y0 y1 y2 y3 y4 y5 y6 y7
        go_loopw [6] (fun i wr=>∃ k:Nat,k≤r∧i=.int .i64 k∧Ex.eqvL xs xs2=Ex.eqvL (xs.drop k) (xs2.drop k)∧Below V.heap.size V wr) (fun i _=>r - (intOf i).toNat)
        case atStart=>exact ⟨0,by omega,rfl,rfl,Below.refl _ _⟩
        obtain ⟨i,hi,rfl,hq,hbel⟩:=hrel
        have H4:=Lib.hid (H3.out.later hbel)
        obtain ⟨x0,x1,x2,x3,x4,x5,x6,x7⟩:=H4.out.one.c8
        obtain ⟨y0,y1,y2,y3,y4,y5,y6,y7⟩:=H4.out.two.c8
        have HBL:=Lib.hid hbel
        have HQ:=Lib.hid hq
        clear hq
        by_cases hlt2:i < r
        · have z0:(0:Int)≤i:=by omega
          have z1:(i:Int) < r:=by omega
          obtain ⟨p,u,ps,rfl,hx,_,_,hu,hcs⟩:=kid_at (RowH.later HM.out hbel) hlt2
          obtain ⟨p2,v,qs,rfl,hy2,_,_,hv,hds⟩:=kid_at (RowH.later HM2.out hbel) hlt2
          have CC:=Lib.hid (fun (V:World) (hV:Below wr.heap.size wr V)=>(IH.out _ (List.mem_of_getElem? hx) v ps qs V (Dat.H.later hu hV) (Dat.H.later hv hV)).mono fun e w' (h:_∧_)=>(⟨h.1,hV.trans (h.2.mono hV.size)⟩:_∧Below wr.heap.size wr w'))
          obtain ⟨_,_,_,_,_,_,_,_,_,rfl,_⟩:=ex_open hu
          obtain ⟨_,_,_,_,_,_,_,_,_,rfl,_⟩:=ex_open hv
          obtain ⟨c0,c1,c2,c3,c4,c5,c6,c7⟩:=cells8_at hcs
          obtain ⟨d0,d1,d2,d3,d4,d5,d6,d7⟩:=cells8_at hds
          have HS:=Lib.hid (HQ.out.trans (Ex.eqvL_on hx hy2))
          clear hx hy2 hu hv hcs hds hbel HQ
          go_wp2_with fail
          go_still_tail 10,(by kernel_rfl)
          change wpList _ _ _ _ _ wr.drew
          go_wp2_with fail
          refine (CC.out _ (Below.refl _ _).drew).mono ?_
          rintro e w3 ⟨rfl,hb3⟩
          have HB3:=Lib.hid (HBL.out.trans (hb3.mono HBL.out.size))
          clear hb3
          cases hz3:Ex.eqv u v
          · have HC:=Lib.hid (HD4.out.trans (HS.out.trans (by rw [hz3]; rfl:_=false)))
            go_wp2
            go_ret
            exact ⟨ret_bool (by rw [HC.out]),H3.out.bel.trans (HB3.out.mono H3.out.bel.size)⟩
          have HS2:=Lib.hid (HS.out.trans (by rw [hz3]; rfl:_=Ex.eqvL (xs.drop (i+1)) (xs2.drop (i+1))))
          go_wp2
          go_roundw
          case rel=>exact ⟨i+1,by omega,by go_num,HS2.out,HB3.out⟩
          case measure=>simp [intOf]; omega
        have hq:=HD4.out.trans HQ.out
        rw [List.drop_eq_nil_of_le (by omega),List.drop_eq_nil_of_le (by omega),Ex.eqvL] at hq
        have HQ2:=Lib.hid hq
        have q2:(r:Int)≤i:=by omega
        clear hq hbel
        go_wp2_with fail
        go_ret
        exact ⟨ret_bool (by rw [HQ2.out]),H3.out.bel.trans (HBL.out.mono H3.out.bel.size)⟩
      have HC:=Lib.hid (HD3.out.trans (by rw [Ex.eqvL_len (by rw [hxl,hyl]; exact hmr),Bool.and_false]:_=false))
      have n1:(!((l:Int) == (l:Int)))=false:=by simp
      have e6:((r:Int) != (r2:Int))=true:=by simp; omega
      have e7:((r:Int) == (r2:Int))=false:=by simp; omega
      clear hxl hyl hmr
      go_wp2_with fail
      go_ret
      exact ⟨ret_bool (by rw [HC.out]),H1.out.bel⟩
    have HC:=Lib.hid (HD3.out.trans (by rw [eqvL_len (by rw [htl,htl2]; exact hml),Bool.false_and]:_=false))
    have e6:((l:Int) != (l2:Int))=true:=by simp; omega
    have e7:((l:Int) == (l2:Int))=false:=by simp; omega
    clear hxl hyl htl htl2 hml
    go_wp2_with fail
    go_ret
    exact ⟨ret_bool (by rw [HC.out]),H1.out.bel⟩
  have HC:=Lib.hid (HD.out.trans (by
    rw [show ((o == o2)&&(k == k2)&&(s.data.toList == s2.data.toList))=false by
      rw [Bool.eq_false_iff]
      intro h
      simp only [Bool.and_eq_true,beq_iff_eq] at h
      exact hno ⟨h.1.1,h.1.2,h.2⟩]
    simp:_=false))
  have hcond:(o≠o2)∨(o=o2∧k≠k2)∨(o=o2∧k=k2∧s.data.toList≠s2.data.toList):=by
    by_cases h1:o=o2
    · by_cases h2:k=k2
      · exact .inr (.inr ⟨h1,h2,fun h=>hno ⟨h1,h2,h⟩⟩)
      exact .inr (.inl ⟨h1,h2⟩)
    exact .inl h1
  have hcond2:((o != o2)=true∧(o == o2)=false)∨((o != o2)=false∧(o == o2)=true∧(k != k2)=true∧(k == k2)=false)∨((o != o2)=false∧(o == o2)=true∧(k != k2)=false∧(k == k2)=true∧(s.toList == s2.toList)=false∧(s.toList != s2.toList)=true):=by
    rcases hcond with h | ⟨h1,h2⟩ | ⟨h1,h2,h3⟩
    · exact .inl ⟨by simp [h],by simp [h]⟩
    · exact .inr (.inl ⟨by simp [h1],by simp [h1],by simp [h2],by simp [h2]⟩)
    exact .inr (.inr ⟨by simp [h1],by simp [h1],by simp [h2],by simp [h2],by rw [Lib.toList_data,Lib.toList_data]; simpa using h3,by rw [Lib.toList_data,Lib.toList_data]; simpa using h3⟩)
  clear hcond hno hxl hyl htl htl2
  rcases hcond2 with ⟨e1,e2⟩ | ⟨e1,e2,e3,e4⟩ | ⟨e1,e2,e3,e4,e5,e6⟩
  all_goals
    go_enter Tryz.func49,Tryz.ntmps49
    go_wp2_with fail
    go_ret
    exact ⟨ret_bool (by rw [HC.out]),H.out.bel⟩
end Go.Proofs.YtjplpblehccigaaGreatDoor

namespace Go.Proofs.YtjplpblehccigaaGreatDoor
open Go.RowKit

theorem sameT_cmpL:∀ (xs ys:List Ty),Ex.sameT xs ys=(Ty.cmpL xs ys == 0)
  | [],[]=>by simp [Ex.sameT,Ty.cmpL]
  | _ :: _,[]=>by simp [Ex.sameT,Ty.cmpL]
  | [],_ :: _=>by simp [Ex.sameT,Ty.cmpL]
  | x :: xs,y :: ys=>by
    rw [Ex.sameT,Ty.cmpL,sameT_cmpL xs ys]
    by_cases h:Ty.cmp x y=0
    · rw [if_pos h]; simp [h]
    rw [if_neg h]
    have:(Ty.cmp x y == 0)=false:=by simpa using h
    rw [this]; rfl

theorem CellsAt.later {w w':World} {p:Addr} {us:List Value} (h:CellsAt w p us) (hb:Below w.heap.size w w'):CellsAt w' p us:=fun j u hu=>(hb.cell (cell_lt (h j u hu))).trans (h j u hu)
theorem CellsAt.alloc {w:World} {p:Addr} {us:List Value} (h:CellsAt w p us) (o:Obj):CellsAt (w.alloc o) p us:=h.later ((Below.refl _ _).alloc (Nat.le_refl _) o)

/-- What Same gives of e. -/
def XSameAt (e:Ex):Prop:=∀ (f:Ex) (us vs:List Value) (w:World),e.dat.H w us→f.dat.H w vs →
  Calls Tryz.prog 84 #[.agg us.toArray,.agg vs.toArray] w (EqvPost w (e.same f))

set_option maxRecDepth 100000 in
set_option maxHeartbeats 8000000 in
theorem xeqFunc_any (xs:List Ex) (ih:∀ e∈xs,XSameAt e) (ys:List Ex) (A B:Option Addr) (m l c d:Nat) (w:World) (h1:RowH w 8 A m (Ex.dats xs)) (h2:RowH w 8 B l (Ex.dats ys)) :
    Calls Tryz.prog 159 #[.slice A m c,.slice B l d,.func (.func 84) #[] #[]] w (EqvPost w (Ex.sameL xs ys)):=by
  have hm:(m:Int)≤9223372036854775807:=by have:=h1.le; omega
  have hl:(l:Int)≤9223372036854775807:=by have:=h2.le; omega
  have hxl:=h1.len
  have hyl:=h2.len
  rw [Ex.dats_len] at hxl hyl
  have IH:=Lib.hid ih
  have H1:=Lib.hid h1
  have H2:=Lib.hid h2
  by_cases hml:m=l
  · subst hml
    have e0:((m:Int) != (m:Int))=false:=by simp
    clear ih h1 h2
    go_enter Tryz.func159,Tryz.ntmps159
    go_wp2_with fail
    go_loopw [17] (fun i wr=>∃ k:Nat,k≤m∧i=.int .i64 k∧Ex.sameL xs ys=Ex.sameL (xs.drop k) (ys.drop k)∧Below w.heap.size w wr) (fun i _=>m - (intOf i).toNat)
    case atStart=>exact ⟨0,by omega,rfl,rfl,Below.refl _ _⟩
    obtain ⟨k,hk,rfl,hc,hbel⟩:=hrel
    have HBL:=Lib.hid hbel
    have HQ:=Lib.hid hc
    clear hc
    have z0:(0:Int)≤k:=by omega
    by_cases hlt1:k < m
    · have z1:(k:Int) < m:=by omega
      obtain ⟨p,u,ps,rfl,hx,_,_,hu,hcs⟩:=kid_at (RowH.later H1.out hbel) hlt1
      obtain ⟨p2,v,qs,rfl,hy2,_,_,hv,hds⟩:=kid_at (RowH.later H2.out hbel) hlt1
      obtain ⟨hbx,hX,hY⟩:=Boxd.pair wr ps.toArray qs.toArray 28
      have C:=Lib.hid (IH.out _ (List.mem_of_getElem? hx) v ps qs _ (Dat.H.later hu hbx) (Dat.H.later hv hbx))
      have HB2:=Lib.hid (HBL.out.trans (hbx.mono HBL.out.size))
      have HS:=Lib.hid (HQ.out.trans (Ex.sameL_on hx hy2))
      have hds':=hds.alloc (.cells ps.toArray 28)
      obtain ⟨A1,m1,a1,B1,l1,b1,C1,n1,c1,rfl,_⟩:=ex_open hu
      obtain ⟨A2,m2,a2,B2,l2,b2,C2,n2,c2,rfl,_⟩:=ex_open hv
      obtain ⟨f0,f1,f2,f3,f4,f5,f6,f7⟩:=cells8_at hcs
      obtain ⟨g0,g1,g2,g3,g4,g5,g6,g7⟩:=cells8_at hds'
      obtain ⟨x0,x1,x2,x3,x4,x5,x6,x7⟩:=hX.c8
      obtain ⟨y0,y1,y2,y3,y4,y5,y6,y7⟩:=hY.c8
      clear hx hy2 hu hv hcs hds hds' hbel HQ hbx hX hY
      generalize Ex.same u v=q at *
      go_wp2_with fail
      refine C.out.mono ?_
      rintro e w1 ⟨rfl,hb1⟩
      have HB1:=Lib.hid (HB2.out.trans (hb1.mono HB2.out.size))
      clear hb1 x0 x1 x2 x3 x4 x5 x6 x7 y0 y1 y2 y3 y4 y5 y6 y7 f0 f1 f2 f3 f4 f5 f6 f7 g0 g1 g2 g3 g4 g5 g6 g7 C
      cases q
      · go_wp2_with fail
        go_ret
        exact ⟨ret_bool (by rw [HS.out]; rfl),HB1.out⟩
      go_wp2_with fail
      go_roundw
      case rel=>exact ⟨k+1,by omega,by go_num,HS.out,HB1.out⟩
      case measure=>simp [intOf]; omega
    have z1:(m:Int)≤k:=by omega
    have hq:=HQ.out
    rw [List.drop_eq_nil_of_le (by omega),List.drop_eq_nil_of_le (by omega),Ex.sameL] at hq
    have HQ2:=Lib.hid hq
    clear hq hbel
    go_wp2_with fail
    go_ret
    exact ⟨ret_bool (by rw [HQ2.out]),HBL.out⟩
  have e0:((m:Int) != (l:Int))=true:=by simp; omega
  have HQ2:=Lib.hid (show Ex.sameL xs ys=false from Ex.sameL_len (by omega))
  clear ih h1 h2 hml
  go_enter Tryz.func159,Tryz.ntmps159
  go_wp2_with fail
  go_ret
  exact ⟨ret_bool (by rw [HQ2.out]),Below.refl _ _⟩

set_option maxRecDepth 100000 in
set_option maxHeartbeats 8000000 in
theorem xsame_any:∀ e:Ex,XSameAt e:=by
  refine Ex.ind fun k s t ts xs o ih f us vs w h1 h2=>?_
  obtain ⟨k2,s2,t2,ts2,xs2,o2⟩:=f
  obtain ⟨A,m,a,B,l,b,C,r,c,rfl,hs,ht,ha,hb,hc⟩:=ex_open h1
  obtain ⟨A2,m2,a2,B2,l2,b2,C2,r2,c2,rfl,hs2,ht2,ha2,hb2,hc2⟩:=ex_open h2
  have h:=TwoX.new h1 h2 28
  simp only [Ex.kind,Ex.name,Ex.ty,Ex.targs,Ex.kids,Ex.off] at hs ht ha hb hc hs2 ht2 ha2 hb2 hc2 h ⊢
  have hbel:=h.bel
  have H:=Lib.hid h
  have IH:=Lib.hid ih
  have C1:=Lib.hid (same_any t t2 A A2 m m2 a a2 _ (Here.later ha hbel) (Here.later ha2 hbel))
  have HD:=Lib.hid (show Ex.same (.mk k s t ts xs o) (.mk k2 s2 t2 ts2 xs2 o2)=((k == k2)&&(s.data.toList == s2.data.toList)&&(Ty.cmp t t2 == 0)&&(Ty.cmpL ts ts2 == 0)&&Ex.sameL xs xs2) by rw [Ex.same,sameT_cmpL])
  have HTB:=Lib.hid (Here.later hb hbel)
  have HTB2:=Lib.hid (Here.later hb2 hbel)
  have HK:=Lib.hid (RowH.later hc hbel)
  have HK2:=Lib.hid (RowH.later hc2 hbel)
  obtain ⟨x0,x1,x2,x3,x4,x5,x6,x7⟩:=H.out.one.c8
  obtain ⟨y0,y1,y2,y3,y4,y5,y6,y7⟩:=H.out.two.c8
  clear ih h1 h2 ha hb hc ha2 hb2 hc2 h hbel
  by_cases hk:k=k2
  · have e2:(k == k2)=true:=by simp [hk]
    by_cases hsr:s.data.toList=s2.data.toList
    · have e3:(s.toList == s2.toList)=true:=by rw [Lib.toList_data,Lib.toList_data]; simp [hsr]
      have HD2:=Lib.hid (HD.out.trans (by rw [hsr,e2]; simp:_=((Ty.cmp t t2 == 0)&&(Ty.cmpL ts ts2 == 0)&&Ex.sameL xs xs2)))
      clear hk hsr HD
      go_enter Tryz.func84,Tryz.ntmps84
      go_wp2_with fail
      refine C1.out.mono ?_
      rintro e w1 ⟨rfl,hb1⟩
      have H1:=Lib.hid (H.out.later hb1)
      have CX:=Lib.hid (eqFunc_any ts (fun t _=>same_any t) ts2 B B2 l l2 b b2 w1 (Here.later HTB.out hb1) (Here.later HTB2.out hb1))
      have HKK:=Lib.hid (RowH.later HK.out hb1)
      have HKK2:=Lib.hid (RowH.later HK2.out hb1)
      clear hb1 H C1 HTB HTB2 HK HK2 x0 x1 x2 x3 x4 x5 x6 x7 y0 y1 y2 y3 y4 y5 y6 y7
      obtain ⟨x0,x1,x2,x3,x4,x5,x6,x7⟩:=H1.out.one.c8
      obtain ⟨y0,y1,y2,y3,y4,y5,y6,y7⟩:=H1.out.two.c8
      generalize (Ty.cmp t t2 == 0)=q1 at *
      generalize (Ty.cmpL ts ts2 == 0)=q2 at *
      cases q1
      · have HC:=Lib.hid (HD2.out.trans (by simp:_=false))
        go_wp2_with fail
        go_ret
        exact ⟨ret_bool (by rw [HC.out]),H1.out.bel⟩
      go_wp2_with fail
      refine CX.out.mono ?_
      rintro e w2 ⟨rfl,hb2⟩
      have H2:=Lib.hid (H1.out.later hb2)
      have CY:=Lib.hid (xeqFunc_any xs IH.out xs2 C C2 r r2 c c2 w2 (RowH.later HKK.out hb2) (RowH.later HKK2.out hb2))
      clear hb2 H1 CX HKK HKK2 x0 x1 x2 x3 x4 x5 x6 x7 y0 y1 y2 y3 y4 y5 y6 y7
      obtain ⟨x0,x1,x2,x3,x4,x5,x6,x7⟩:=H2.out.one.c8
      obtain ⟨y0,y1,y2,y3,y4,y5,y6,y7⟩:=H2.out.two.c8
      cases q2
      · have HC:=Lib.hid (HD2.out.trans (by simp:_=false))
        go_wp2_with fail
        go_ret
        exact ⟨ret_bool (by rw [HC.out]),H2.out.bel⟩
      have HC:=Lib.hid (HD2.out.trans (by simp:_=Ex.sameL xs xs2))
      generalize Ex.sameL xs xs2=q3 at *
      go_wp2_with fail
      refine CY.out.mono ?_
      rintro e w3 ⟨rfl,hb3⟩
      have HB3:=Lib.hid (H2.out.bel.trans (hb3.mono H2.out.bel.size))
      clear hb3
      go_wp2_with fail
      go_ret
      exact ⟨ret_bool (by rw [HC.out]),HB3.out⟩
    have e3:(s.toList == s2.toList)=false:=by rw [Lib.toList_data,Lib.toList_data]; simpa using hsr
    have HC:=Lib.hid (HD.out.trans (by rw [show (s.data.toList == s2.data.toList)=false by simpa using hsr]; simp:_=false))
    clear hsr hk
    go_enter Tryz.func84,Tryz.ntmps84
    go_wp2_with fail
    go_ret
    exact ⟨ret_bool (by rw [HC.out]),H.out.bel⟩
  have e2:(k == k2)=false:=by simp [hk]
  have HC:=Lib.hid (HD.out.trans (by rw [e2]; simp:_=false))
  clear hk
  go_enter Tryz.func84,Tryz.ntmps84
  go_wp2_with fail
  go_ret
  exact ⟨ret_bool (by rw [HC.out]),H.out.bel⟩
end Go.Proofs.YtjplpblehccigaaGreatDoor

namespace Go.Proofs.YtjplpblehccigaaGreatDoor
open Go.RowKit

theorem cells5_at {w:World} {p:Addr} {u0 u1 u2 u3 u4:Value} (h:CellsAt w p [u0,u1,u2,u3,u4]):w.cell? p=some u0∧w.cell? ⟨p.block,p.off+1,none⟩=some u1∧w.cell? ⟨p.block,p.off+2,none⟩=some u2∧w.cell? ⟨p.block,p.off+3,none⟩=some u3∧w.cell? ⟨p.block,p.off+4,none⟩=some u4 :=
  ⟨h 0 _ rfl,h 1 _ rfl,h 2 _ rfl,h 3 _ rfl,h 4 _ rfl⟩
theorem Boxd.c5 {W:World} {b:Nat} {u0 u1 u2 u3 u4:Value} (h:Boxd W b [u0,u1,u2,u3,u4]):W.cell? ⟨b,0,none⟩=some u0∧W.cell? ⟨b,1,none⟩=some u1∧W.cell? ⟨b,2,none⟩=some u2∧W.cell? ⟨b,3,none⟩=some u3∧W.cell? ⟨b,4,none⟩=some u4 :=
  ⟨h 0 _ rfl,h 1 _ rfl,h 2 _ rfl,h 3 _ rfl,h 4 _ rfl⟩
theorem cells7_at {w:World} {p:Addr} {u0 u1 u2 u3 u4 u5 u6:Value} (h:CellsAt w p [u0,u1,u2,u3,u4,u5,u6]):w.cell? p=some u0∧w.cell? ⟨p.block,p.off+1,none⟩=some u1∧w.cell? ⟨p.block,p.off+2,none⟩=some u2∧w.cell? ⟨p.block,p.off+3,none⟩=some u3∧w.cell? ⟨p.block,p.off+4,none⟩=some u4∧w.cell? ⟨p.block,p.off+5,none⟩=some u5∧w.cell? ⟨p.block,p.off+6,none⟩=some u6 :=
  ⟨h 0 _ rfl,h 1 _ rfl,h 2 _ rfl,h 3 _ rfl,h 4 _ rfl,h 5 _ rfl,h 6 _ rfl⟩
theorem Boxd.c7 {W:World} {b:Nat} {u0 u1 u2 u3 u4 u5 u6:Value} (h:Boxd W b [u0,u1,u2,u3,u4,u5,u6]):W.cell? ⟨b,0,none⟩=some u0∧W.cell? ⟨b,1,none⟩=some u1∧W.cell? ⟨b,2,none⟩=some u2∧W.cell? ⟨b,3,none⟩=some u3∧W.cell? ⟨b,4,none⟩=some u4∧W.cell? ⟨b,5,none⟩=some u5∧W.cell? ⟨b,6,none⟩=some u6 :=
  ⟨h 0 _ rfl,h 1 _ rfl,h 2 _ rfl,h 3 _ rfl,h 4 _ rfl,h 5 _ rfl,h 6 _ rfl⟩
theorem Boxd.c9 {W:World} {b:Nat} {u0 u1 u2 u3 u4 u5 u6 u7 u8:Value} (h:Boxd W b [u0,u1,u2,u3,u4,u5,u6,u7,u8]):W.cell? ⟨b,0,none⟩=some u0∧W.cell? ⟨b,1,none⟩=some u1∧W.cell? ⟨b,2,none⟩=some u2∧W.cell? ⟨b,3,none⟩=some u3∧W.cell? ⟨b,4,none⟩=some u4∧W.cell? ⟨b,5,none⟩=some u5∧W.cell? ⟨b,6,none⟩=some u6∧W.cell? ⟨b,7,none⟩=some u7∧W.cell? ⟨b,8,none⟩=some u8 :=
  ⟨h 0 _ rfl,h 1 _ rfl,h 2 _ rfl,h 3 _ rfl,h 4 _ rfl,h 5 _ rfl,h 6 _ rfl,h 7 _ rfl,h 8 _ rfl⟩
/-- Two boxed data since a world. -/
structure TwoD (w0 W:World) (a b:Dat) (us vs:List Value):Prop where
  bel:Below w0.heap.size w0 W
  one:Boxd W w0.heap.size us
  two:Boxd W (w0.heap.size+1) vs
  da:a.H W us
  db:b.H W vs
theorem TwoD.new {w:World} {a b:Dat} {us vs:List Value} (ha:a.H w us) (hb:b.H w vs) (T:TypeId):TwoD w ((w.alloc (.cells us.toArray T)).alloc (.cells vs.toArray T)) a b us vs:=by
  obtain ⟨h1,h2,h3⟩:=Boxd.pair w us.toArray vs.toArray T
  exact ⟨h1,h2,h3,Dat.H.later ha h1,Dat.H.later hb h1⟩
theorem TwoD.later {w0 W W':World} {a b:Dat} {us vs:List Value} (h:TwoD w0 W a b us vs) (hb:Below W.heap.size W W'):TwoD w0 W' a b us vs :=
  ⟨h.bel.trans (hb.mono h.bel.size),h.one.later hb,h.two.later hb,Dat.H.later h.da hb,Dat.H.later h.db hb⟩
/-- A declaration,all its cells. -/
theorem dc_full {w:World} {N:Prop} {S:Nat→Prop} {d:Dc} {us:List Value} (h:d.dat.In w N S us):∃ F nf cf P np cp G ng cg V nv cv F2 nf2 cf2 P2 np2 cp2 A2 m2 a2 A3 m3 a3 B3 l3 b3 C3 n3 c3,
    us=[.int .i64 d.kind,.string d.name,.slice F nf cf,.slice P np cp,.slice G ng cg,.string d.recv,.slice V nv cv,.string d.sig.name,.slice F2 nf2 cf2,.slice P2 np2 cp2,.string d.sig.res.name,.slice A2 m2 a2,.int .i64 d.sig.res.off,.int .i64 d.sig.off,
      .int .i64 d.body.kind,.string d.body.name,.string d.body.ty.name,.slice A3 m3 a3,.int .i64 d.body.ty.off,.slice B3 l3 b3,.slice C3 n3 c3,.int .i64 d.body.off,.int .i64 d.off]
    ∧ d.name.size≤9223372036854775807∧Row w N S 5 F nf (d.fs.map Fo.dat)∧Row w N S 5 P np (d.ms.map Fo.dat)∧Row w N S 7 G ng (d.gs.map Sg.dat)∧d.recv.size≤9223372036854775807∧Row w N S 1 V nv (d.vs.map Dat.str)
    ∧ d.sig.dat.In w N S [.string d.sig.name,.slice F2 nf2 cf2,.slice P2 np2 cp2,.string d.sig.res.name,.slice A2 m2 a2,.int .i64 d.sig.res.off,.int .i64 d.sig.off]
    ∧ d.body.dat.In w N S [.int .i64 d.body.kind,.string d.body.name,.string d.body.ty.name,.slice A3 m3 a3,.int .i64 d.body.ty.off,.slice B3 l3 b3,.slice C3 n3 c3,.int .i64 d.body.off]:=by
  obtain ⟨F,nf,cf,P,np,cp,G,ng,cg,V,nv,cv,sv,bv,rfl,h1,h2,h3,h4,h5,h6,h7,h8⟩:=dc_open h
  obtain ⟨F2,nf2,cf2,P2,np2,cp2,A2,m2,a2,rfl,_⟩:=sg_open h7
  obtain ⟨A3,m3,a3,B3,l3,b3,C3,n3,c3,rfl,_⟩:=ex_open h8
  exact ⟨F,nf,cf,P,np,cp,G,ng,cg,V,nv,cv,F2,nf2,cf2,P2,np2,cp2,A2,m2,a2,A3,m3,a3,B3,l3,b3,C3,n3,c3,rfl,h1,h2,h3,h4,h5,h6,h7,h8⟩
/-- A program,all its cells. -/
theorem pg_full {w:World} {N:Prop} {S:Nat→Prop} {p:Pg} {us:List Value} (h:p.dat.In w N S us):∃ D n c A3 m3 a3 B3 l3 b3 C3 n3 c3,
    us=[.slice D n c,.int .i64 p.main.kind,.string p.main.name,.string p.main.ty.name,.slice A3 m3 a3,.int .i64 p.main.ty.off,.slice B3 l3 b3,.slice C3 n3 c3,.int .i64 p.main.off]
    ∧ Row w N S 23 D n (p.ds.map Dc.dat)∧p.main.dat.In w N S [.int .i64 p.main.kind,.string p.main.name,.string p.main.ty.name,.slice A3 m3 a3,.int .i64 p.main.ty.off,.slice B3 l3 b3,.slice C3 n3 c3,.int .i64 p.main.off]:=by
  obtain ⟨D,n,c,bv,rfl,h1,h2⟩:=pg_open h
  obtain ⟨A3,m3,a3,B3,l3,b3,C3,n3,c3,rfl,_⟩:=ex_open h2
  exact ⟨D,n,c,A3,m3,a3,B3,l3,b3,C3,n3,c3,rfl,h1,h2⟩
end Go.Proofs.YtjplpblehccigaaGreatDoor
namespace Go.Proofs.YtjplpblehccigaaGreatDoor
open Go.RowKit

set_option maxRecDepth 100000 in
set_option maxHeartbeats 8000000 in
theorem sameFormal_any (f g:Fo) (us vs:List Value) (w:World) (h1:f.dat.H w us) (h2:g.dat.H w vs):Calls Tryz.prog 112 #[.agg us.toArray,.agg vs.toArray] w (EqvPost w (Fo.sameX false f g)):=by
  have h:=TwoD.new h1 h2 43
  obtain ⟨Au,mu,au,rfl,_,_,ha1⟩:=fo_open h1
  obtain ⟨Av,mv,av,rfl,_,_,ha2⟩:=fo_open h2
  have H0:=Lib.hid h
  have HZ0:=Lib.hid (Below.refl (((w.alloc (.cells #[.string f.name,.string f.ty.name,.slice Au mu au,.int .i64 f.ty.off,.int .i64 f.off] 43)).alloc (.cells #[.string g.name,.string g.ty.name,.slice Av mv av,.int .i64 g.ty.off,.int .i64 g.off] 43))).heap.size (((w.alloc (.cells #[.string f.name,.string f.ty.name,.slice Au mu au,.int .i64 f.ty.off,.int .i64 f.off] 43)).alloc (.cells #[.string g.name,.string g.ty.name,.slice Av mv av,.int .i64 g.ty.off,.int .i64 g.off] 43))))
  have HA:=Lib.hid (Here.later ha1 h.bel)
  have HB:=Lib.hid (Here.later ha2 h.bel)
  clear h h1 h2 ha1 ha2
  obtain ⟨q0,hq0⟩:∃ q:Bool,bytesEq f.name g.name=q:=⟨_,rfl⟩
  obtain ⟨q1,hq1⟩:∃ q:Bool,(Ty.cmp f.ty g.ty == 0)=q:=⟨_,rfl⟩
  have e0:(f.name.toList == g.name.toList)=q0:=by rw [←hq0,bytesEq,Lib.toList_data,Lib.toList_data]
  have HD:=Lib.hid (show Fo.sameX false f g=(q0&&(q1 )) by subst_vars; simp [Fo.sameX])
  have HQ1:=Lib.hid hq1
  clear hq0 hq1
  obtain ⟨x0,x1,x2,x3,x4⟩:=H0.out.one.c5
  obtain ⟨y0,y1,y2,y3,y4⟩:=H0.out.two.c5
  go_enter Tryz.func112,Tryz.ntmps112
  cases q0
  · go_wp2_with fail
    go_ret
    exact ⟨ret_bool (by rw [HD.out]; rfl),H0.out.bel⟩
  skip
  go_wp2_with fail
  refine (same_any f.ty g.ty Au Av mu mv au av _ (Here.later HA.out HZ0.out) (Here.later HB.out HZ0.out)).mono ?_
  rintro e w1 ⟨rfl,hb⟩
  rw [HQ1.out]
  have H1:=Lib.hid (H0.out.later hb)
  have HZ1:=Lib.hid (HZ0.out.trans (hb.mono HZ0.out.size))
  clear hb H0 HZ0 x0 x1 x2 x3 x4 y0 y1 y2 y3 y4
  go_wp2_with fail
  go_ret
  exact ⟨ret_bool (by rw [HD.out]; rfl),H1.out.bel⟩
set_option maxRecDepth 100000 in
set_option maxHeartbeats 8000000 in
theorem eqFormal_any (xs ys:List Fo) (A B:Option Addr) (m l c d:Nat) (w:World) (h1:RowH w 5 A m (xs.map Fo.dat)) (h2:RowH w 5 B l (ys.map Fo.dat)) :
    Calls Tryz.prog 111 #[.slice A m c,.slice B l d,.func (.func 112) #[] #[]] w (EqvPost w (sameBy (Fo.sameX false) xs ys)):=by
  have hm:(m:Int)≤9223372036854775807:=by have:=h1.le; omega
  have hl:(l:Int)≤9223372036854775807:=by have:=h2.le; omega
  have hxl:=h1.len
  have hyl:=h2.len
  rw [List.length_map] at hxl hyl
  have H1:=Lib.hid h1
  have H2:=Lib.hid h2
  by_cases hml:m=l
  · subst hml
    have e0:((m:Int) != (m:Int))=false:=by simp
    clear h1 h2
    go_enter Tryz.func111,Tryz.ntmps111
    go_wp2_with fail
    go_loopw [17] (fun i wr=>∃ k:Nat,k≤m∧i=.int .i64 k∧sameBy (Fo.sameX false) xs ys=sameBy (Fo.sameX false) (xs.drop k) (ys.drop k)∧Below w.heap.size w wr) (fun i _=>m - (intOf i).toNat)
    case atStart=>exact ⟨0,by omega,rfl,rfl,Below.refl _ _⟩
    obtain ⟨k,hk,rfl,hc,hbel⟩:=hrel
    have HBL:=Lib.hid hbel
    have HQ:=Lib.hid hc
    clear hc
    have z0:(0:Int)≤k:=by omega
    by_cases hlt1:k < m
    · have z1:(k:Int) < m:=by omega
      obtain ⟨pu,u,ps,rfl,hx,_,_,hu,hcs⟩:=dat_at (RowH.later H1.out hbel) hlt1
      obtain ⟨pv,v,qs,rfl,hy2,_,_,hv,hds⟩:=dat_at (RowH.later H2.out hbel) hlt1
      obtain ⟨hbx,hX,hY⟩:=Boxd.pair wr ps.toArray qs.toArray 43
      have C:=Lib.hid (sameFormal_any u v ps qs _ (Dat.H.later hu hbx) (Dat.H.later hv hbx))
      have HB2:=Lib.hid (HBL.out.trans (hbx.mono HBL.out.size))
      have HS:=Lib.hid (HQ.out.trans (sameBy_on hx hy2))
      have hds':=hds.alloc (.cells ps.toArray 43)
      obtain ⟨Au,mu,au,rfl,_⟩:=fo_open hu
      obtain ⟨Av,mv,av,rfl,_⟩:=fo_open hv
      obtain ⟨f0,f1,f2,f3,f4⟩:=cells5_at hcs
      obtain ⟨g0,g1,g2,g3,g4⟩:=cells5_at hds'
      obtain ⟨x0,x1,x2,x3,x4⟩:=hX.c5
      obtain ⟨y0,y1,y2,y3,y4⟩:=hY.c5
      clear hx hy2 hu hv hcs hds hds' hbel HQ hbx hX hY
      generalize (Fo.sameX false) u v=q at *
      go_wp2_with fail
      refine C.out.mono ?_
      rintro e w1 ⟨rfl,hb1⟩
      have HB1:=Lib.hid (HB2.out.trans (hb1.mono HB2.out.size))
      clear hb1 C f0 f1 f2 f3 f4 g0 g1 g2 g3 g4 x0 x1 x2 x3 x4 y0 y1 y2 y3 y4
      cases q
      · go_wp2_with fail
        go_ret
        exact ⟨ret_bool (by rw [HS.out]; rfl),HB1.out⟩
      go_wp2_with fail
      go_roundw
      case rel=>exact ⟨k+1,by omega,by go_num,HS.out,HB1.out⟩
      case measure=>simp [intOf]; omega
    have z1:(m:Int)≤k:=by omega
    have hq:=HQ.out
    rw [List.drop_eq_nil_of_le (by omega),List.drop_eq_nil_of_le (by omega),sameBy] at hq
    have HQ2:=Lib.hid hq
    clear hq hbel
    go_wp2_with fail
    go_ret
    exact ⟨ret_bool (by rw [HQ2.out]),HBL.out⟩
  have e0:((m:Int) != (l:Int))=true:=by simp; omega
  have HQ2:=Lib.hid (show sameBy (Fo.sameX false) xs ys=false from sameBy_len (by omega))
  clear h1 h2 hml
  go_enter Tryz.func111,Tryz.ntmps111
  go_wp2_with fail
  go_ret
  exact ⟨ret_bool (by rw [HQ2.out]),Below.refl _ _⟩
set_option maxRecDepth 100000 in
set_option maxHeartbeats 8000000 in
theorem sameParam_any (f g:Fo) (us vs:List Value) (w:World) (h1:f.dat.H w us) (h2:g.dat.H w vs):Calls Tryz.prog 114 #[.agg us.toArray,.agg vs.toArray] w (EqvPost w (Fo.sameX false f g)):=by
  have h:=TwoD.new h1 h2 45
  obtain ⟨Au,mu,au,rfl,_,_,ha1⟩:=fo_open h1
  obtain ⟨Av,mv,av,rfl,_,_,ha2⟩:=fo_open h2
  have H0:=Lib.hid h
  have HZ0:=Lib.hid (Below.refl (((w.alloc (.cells #[.string f.name,.string f.ty.name,.slice Au mu au,.int .i64 f.ty.off,.int .i64 f.off] 45)).alloc (.cells #[.string g.name,.string g.ty.name,.slice Av mv av,.int .i64 g.ty.off,.int .i64 g.off] 45))).heap.size (((w.alloc (.cells #[.string f.name,.string f.ty.name,.slice Au mu au,.int .i64 f.ty.off,.int .i64 f.off] 45)).alloc (.cells #[.string g.name,.string g.ty.name,.slice Av mv av,.int .i64 g.ty.off,.int .i64 g.off] 45))))
  have HA:=Lib.hid (Here.later ha1 h.bel)
  have HB:=Lib.hid (Here.later ha2 h.bel)
  clear h h1 h2 ha1 ha2
  obtain ⟨q0,hq0⟩:∃ q:Bool,bytesEq f.name g.name=q:=⟨_,rfl⟩
  obtain ⟨q1,hq1⟩:∃ q:Bool,(Ty.cmp f.ty g.ty == 0)=q:=⟨_,rfl⟩
  have e0:(f.name.toList == g.name.toList)=q0:=by rw [←hq0,bytesEq,Lib.toList_data,Lib.toList_data]
  have HD:=Lib.hid (show Fo.sameX false f g=(q0&&(q1 )) by subst_vars; simp [Fo.sameX])
  have HQ1:=Lib.hid hq1
  clear hq0 hq1
  obtain ⟨x0,x1,x2,x3,x4⟩:=H0.out.one.c5
  obtain ⟨y0,y1,y2,y3,y4⟩:=H0.out.two.c5
  go_enter Tryz.func114,Tryz.ntmps114
  cases q0
  · go_wp2_with fail
    go_ret
    exact ⟨ret_bool (by rw [HD.out]; rfl),H0.out.bel⟩
  skip
  go_wp2_with fail
  refine (same_any f.ty g.ty Au Av mu mv au av _ (Here.later HA.out HZ0.out) (Here.later HB.out HZ0.out)).mono ?_
  rintro e w1 ⟨rfl,hb⟩
  rw [HQ1.out]
  have H1:=Lib.hid (H0.out.later hb)
  have HZ1:=Lib.hid (HZ0.out.trans (hb.mono HZ0.out.size))
  clear hb H0 HZ0 x0 x1 x2 x3 x4 y0 y1 y2 y3 y4
  go_wp2_with fail
  go_ret
  exact ⟨ret_bool (by rw [HD.out]; rfl),H1.out.bel⟩
set_option maxRecDepth 100000 in
set_option maxHeartbeats 8000000 in
theorem eqParam_any (xs ys:List Fo) (A B:Option Addr) (m l c d:Nat) (w:World) (h1:RowH w 5 A m (xs.map Fo.dat)) (h2:RowH w 5 B l (ys.map Fo.dat)) :
    Calls Tryz.prog 113 #[.slice A m c,.slice B l d,.func (.func 114) #[] #[]] w (EqvPost w (sameBy (Fo.sameX false) xs ys)):=by
  have hm:(m:Int)≤9223372036854775807:=by have:=h1.le; omega
  have hl:(l:Int)≤9223372036854775807:=by have:=h2.le; omega
  have hxl:=h1.len
  have hyl:=h2.len
  rw [List.length_map] at hxl hyl
  have H1:=Lib.hid h1
  have H2:=Lib.hid h2
  by_cases hml:m=l
  · subst hml
    have e0:((m:Int) != (m:Int))=false:=by simp
    clear h1 h2
    go_enter Tryz.func113,Tryz.ntmps113
    go_wp2_with fail
    go_loopw [17] (fun i wr=>∃ k:Nat,k≤m∧i=.int .i64 k∧sameBy (Fo.sameX false) xs ys=sameBy (Fo.sameX false) (xs.drop k) (ys.drop k)∧Below w.heap.size w wr) (fun i _=>m - (intOf i).toNat)
    case atStart=>exact ⟨0,by omega,rfl,rfl,Below.refl _ _⟩
    obtain ⟨k,hk,rfl,hc,hbel⟩:=hrel
    have HBL:=Lib.hid hbel
    have HQ:=Lib.hid hc
    clear hc
    have z0:(0:Int)≤k:=by omega
    by_cases hlt1:k < m
    · have z1:(k:Int) < m:=by omega
      obtain ⟨pu,u,ps,rfl,hx,_,_,hu,hcs⟩:=dat_at (RowH.later H1.out hbel) hlt1
      obtain ⟨pv,v,qs,rfl,hy2,_,_,hv,hds⟩:=dat_at (RowH.later H2.out hbel) hlt1
      obtain ⟨hbx,hX,hY⟩:=Boxd.pair wr ps.toArray qs.toArray 45
      have C:=Lib.hid (sameParam_any u v ps qs _ (Dat.H.later hu hbx) (Dat.H.later hv hbx))
      have HB2:=Lib.hid (HBL.out.trans (hbx.mono HBL.out.size))
      have HS:=Lib.hid (HQ.out.trans (sameBy_on hx hy2))
      have hds':=hds.alloc (.cells ps.toArray 45)
      obtain ⟨Au,mu,au,rfl,_⟩:=fo_open hu
      obtain ⟨Av,mv,av,rfl,_⟩:=fo_open hv
      obtain ⟨f0,f1,f2,f3,f4⟩:=cells5_at hcs
      obtain ⟨g0,g1,g2,g3,g4⟩:=cells5_at hds'
      obtain ⟨x0,x1,x2,x3,x4⟩:=hX.c5
      obtain ⟨y0,y1,y2,y3,y4⟩:=hY.c5
      clear hx hy2 hu hv hcs hds hds' hbel HQ hbx hX hY
      generalize (Fo.sameX false) u v=q at *
      go_wp2_with fail
      refine C.out.mono ?_
      rintro e w1 ⟨rfl,hb1⟩
      have HB1:=Lib.hid (HB2.out.trans (hb1.mono HB2.out.size))
      clear hb1 C f0 f1 f2 f3 f4 g0 g1 g2 g3 g4 x0 x1 x2 x3 x4 y0 y1 y2 y3 y4
      cases q
      · go_wp2_with fail
        go_ret
        exact ⟨ret_bool (by rw [HS.out]; rfl),HB1.out⟩
      go_wp2_with fail
      go_roundw
      case rel=>exact ⟨k+1,by omega,by go_num,HS.out,HB1.out⟩
      case measure=>simp [intOf]; omega
    have z1:(m:Int)≤k:=by omega
    have hq:=HQ.out
    rw [List.drop_eq_nil_of_le (by omega),List.drop_eq_nil_of_le (by omega),sameBy] at hq
    have HQ2:=Lib.hid hq
    clear hq hbel
    go_wp2_with fail
    go_ret
    exact ⟨ret_bool (by rw [HQ2.out]),HBL.out⟩
  have e0:((m:Int) != (l:Int))=true:=by simp; omega
  have HQ2:=Lib.hid (show sameBy (Fo.sameX false) xs ys=false from sameBy_len (by omega))
  clear h1 h2 hml
  go_enter Tryz.func113,Tryz.ntmps113
  go_wp2_with fail
  go_ret
  exact ⟨ret_bool (by rw [HQ2.out]),Below.refl _ _⟩
set_option maxRecDepth 100000 in
set_option maxHeartbeats 8000000 in
theorem sameSig_any (a b:Sg) (us vs:List Value) (w:World) (h1:a.dat.H w us) (h2:b.dat.H w vs):Calls Tryz.prog 43 #[.agg us.toArray,.agg vs.toArray] w (EqvPost w (Sg.sameX false a b)):=by
  have h:=TwoD.new h1 h2 39
  obtain ⟨Fu,nfu,cfu,Pu,npu,cpu,Au,mu,au,rfl,_,hf1,hp1,_,ha1⟩:=sg_open h1
  obtain ⟨Fv,nfv,cfv,Pv,npv,cpv,Av,mv,av,rfl,_,hf2,hp2,_,ha2⟩:=sg_open h2
  have H0:=Lib.hid h
  have HZ0:=Lib.hid (Below.refl (((w.alloc (.cells #[.string a.name,.slice Fu nfu cfu,.slice Pu npu cpu,.string a.res.name,.slice Au mu au,.int .i64 a.res.off,.int .i64 a.off] 39)).alloc (.cells #[.string b.name,.slice Fv nfv cfv,.slice Pv npv cpv,.string b.res.name,.slice Av mv av,.int .i64 b.res.off,.int .i64 b.off] 39))).heap.size (((w.alloc (.cells #[.string a.name,.slice Fu nfu cfu,.slice Pu npu cpu,.string a.res.name,.slice Au mu au,.int .i64 a.res.off,.int .i64 a.off] 39)).alloc (.cells #[.string b.name,.slice Fv nfv cfv,.slice Pv npv cpv,.string b.res.name,.slice Av mv av,.int .i64 b.res.off,.int .i64 b.off] 39))))
  have HF1:=Lib.hid (RowH.later hf1 h.bel)
  have HF2:=Lib.hid (RowH.later hf2 h.bel)
  have HP1:=Lib.hid (RowH.later hp1 h.bel)
  have HP2:=Lib.hid (RowH.later hp2 h.bel)
  have HA1:=Lib.hid (Here.later ha1 h.bel)
  have HA2:=Lib.hid (Here.later ha2 h.bel)
  clear h h1 h2 hf1 hf2 hp1 hp2 ha1 ha2
  obtain ⟨q0,hq0⟩:∃ q:Bool,bytesEq a.name b.name=q:=⟨_,rfl⟩
  obtain ⟨q1,hq1⟩:∃ q:Bool,sameBy (Fo.sameX false) a.fs b.fs=q:=⟨_,rfl⟩
  obtain ⟨q2,hq2⟩:∃ q:Bool,sameBy (Fo.sameX false) a.ps b.ps=q:=⟨_,rfl⟩
  obtain ⟨q3,hq3⟩:∃ q:Bool,(Ty.cmp a.res b.res == 0)=q:=⟨_,rfl⟩
  have e0:(a.name.toList == b.name.toList)=q0:=by rw [←hq0,bytesEq,Lib.toList_data,Lib.toList_data]
  have HD:=Lib.hid (show Sg.sameX false a b=(q0&&(q1&&(q2&&(q3 )))) by subst_vars; simp [Sg.sameX,Bool.and_assoc])
  have HQ1:=Lib.hid hq1
  have HQ2:=Lib.hid hq2
  have HQ3:=Lib.hid hq3
  clear hq0 hq1 hq2 hq3
  obtain ⟨x0,x1,x2,x3,x4,x5,x6⟩:=H0.out.one.c7
  obtain ⟨y0,y1,y2,y3,y4,y5,y6⟩:=H0.out.two.c7
  go_enter Tryz.func43,Tryz.ntmps43
  cases q0
  · go_wp2_with fail
    go_ret
    exact ⟨ret_bool (by rw [HD.out]; rfl),H0.out.bel⟩
  skip
  go_wp2_with fail
  refine (eqFormal_any a.fs b.fs Fu Fv nfu nfv cfu cfv _ (RowH.later HF1.out HZ0.out) (RowH.later HF2.out HZ0.out)).mono ?_
  rintro e w1 ⟨rfl,hb⟩
  rw [HQ1.out]
  have H1:=Lib.hid (H0.out.later hb)
  have HZ1:=Lib.hid (HZ0.out.trans (hb.mono HZ0.out.size))
  clear hb H0 HZ0 x0 x1 x2 x3 x4 x5 x6 y0 y1 y2 y3 y4 y5 y6
  obtain ⟨x0,x1,x2,x3,x4,x5,x6⟩:=H1.out.one.c7
  obtain ⟨y0,y1,y2,y3,y4,y5,y6⟩:=H1.out.two.c7
  cases q1
  · go_wp2_with fail
    go_ret
    exact ⟨ret_bool (by rw [HD.out]; rfl),H1.out.bel⟩
  skip
  go_wp2_with fail
  refine (eqParam_any a.ps b.ps Pu Pv npu npv cpu cpv _ (RowH.later HP1.out HZ1.out) (RowH.later HP2.out HZ1.out)).mono ?_
  rintro e w2 ⟨rfl,hb⟩
  rw [HQ2.out]
  have H2:=Lib.hid (H1.out.later hb)
  have HZ2:=Lib.hid (HZ1.out.trans (hb.mono HZ1.out.size))
  clear hb H1 HZ1 x0 x1 x2 x3 x4 x5 x6 y0 y1 y2 y3 y4 y5 y6
  obtain ⟨x0,x1,x2,x3,x4,x5,x6⟩:=H2.out.one.c7
  obtain ⟨y0,y1,y2,y3,y4,y5,y6⟩:=H2.out.two.c7
  cases q2
  · go_wp2_with fail
    go_ret
    exact ⟨ret_bool (by rw [HD.out]; rfl),H2.out.bel⟩
  skip
  go_wp2_with fail
  refine (same_any a.res b.res Au Av mu mv au av _ (Here.later HA1.out HZ2.out) (Here.later HA2.out HZ2.out)).mono ?_
  rintro e w3 ⟨rfl,hb⟩
  rw [HQ3.out]
  have H3:=Lib.hid (H2.out.later hb)
  have HZ3:=Lib.hid (HZ2.out.trans (hb.mono HZ2.out.size))
  clear hb H2 HZ2 x0 x1 x2 x3 x4 x5 x6 y0 y1 y2 y3 y4 y5 y6
  go_wp2_with fail
  go_ret
  exact ⟨ret_bool (by rw [HD.out]; rfl),H3.out.bel⟩
end Go.Proofs.YtjplpblehccigaaGreatDoor
namespace Go.Proofs.YtjplpblehccigaaGreatDoor
open Go.RowKit

set_option maxRecDepth 100000 in
set_option maxHeartbeats 8000000 in
theorem eqSig_any (xs ys:List Sg) (A B:Option Addr) (m l c d:Nat) (w:World) (h1:RowH w 7 A m (xs.map Sg.dat)) (h2:RowH w 7 B l (ys.map Sg.dat)) :
    Calls Tryz.prog 115 #[.slice A m c,.slice B l d,.func (.func 43) #[] #[]] w (EqvPost w (sameBy (Sg.sameX false) xs ys)):=by
  have hm:(m:Int)≤9223372036854775807:=by have:=h1.le; omega
  have hl:(l:Int)≤9223372036854775807:=by have:=h2.le; omega
  have hxl:=h1.len
  have hyl:=h2.len
  rw [List.length_map] at hxl hyl
  have H1:=Lib.hid h1
  have H2:=Lib.hid h2
  by_cases hml:m=l
  · subst hml
    have e0:((m:Int) != (m:Int))=false:=by simp
    clear h1 h2
    go_enter Tryz.func115,Tryz.ntmps115
    go_wp2_with fail
    go_loopw [17] (fun i wr=>∃ k:Nat,k≤m∧i=.int .i64 k∧sameBy (Sg.sameX false) xs ys=sameBy (Sg.sameX false) (xs.drop k) (ys.drop k)∧Below w.heap.size w wr) (fun i _=>m - (intOf i).toNat)
    case atStart=>exact ⟨0,by omega,rfl,rfl,Below.refl _ _⟩
    obtain ⟨k,hk,rfl,hc,hbel⟩:=hrel
    have HBL:=Lib.hid hbel
    have HQ:=Lib.hid hc
    clear hc
    have z0:(0:Int)≤k:=by omega
    by_cases hlt1:k < m
    · have z1:(k:Int) < m:=by omega
      obtain ⟨pu,u,ps,rfl,hx,_,_,hu,hcs⟩:=dat_at (RowH.later H1.out hbel) hlt1
      obtain ⟨pv,v,qs,rfl,hy2,_,_,hv,hds⟩:=dat_at (RowH.later H2.out hbel) hlt1
      obtain ⟨hbx,hX,hY⟩:=Boxd.pair wr ps.toArray qs.toArray 39
      have C:=Lib.hid (sameSig_any u v ps qs _ (Dat.H.later hu hbx) (Dat.H.later hv hbx))
      have HB2:=Lib.hid (HBL.out.trans (hbx.mono HBL.out.size))
      have HS:=Lib.hid (HQ.out.trans (sameBy_on hx hy2))
      have hds':=hds.alloc (.cells ps.toArray 39)
      obtain ⟨Fu,nfu,cfu,Pu,npu,cpu,Au,mu,au,rfl,_⟩:=sg_open hu
      obtain ⟨Fv,nfv,cfv,Pv,npv,cpv,Av,mv,av,rfl,_⟩:=sg_open hv
      obtain ⟨f0,f1,f2,f3,f4,f5,f6⟩:=cells7_at hcs
      obtain ⟨g0,g1,g2,g3,g4,g5,g6⟩:=cells7_at hds'
      obtain ⟨x0,x1,x2,x3,x4,x5,x6⟩:=hX.c7
      obtain ⟨y0,y1,y2,y3,y4,y5,y6⟩:=hY.c7
      clear hx hy2 hu hv hcs hds hds' hbel HQ hbx hX hY
      generalize (Sg.sameX false) u v=q at *
      go_wp2_with fail
      refine C.out.mono ?_
      rintro e w1 ⟨rfl,hb1⟩
      have HB1:=Lib.hid (HB2.out.trans (hb1.mono HB2.out.size))
      clear hb1 C f0 f1 f2 f3 f4 f5 f6 g0 g1 g2 g3 g4 g5 g6 x0 x1 x2 x3 x4 x5 x6 y0 y1 y2 y3 y4 y5 y6
      cases q
      · go_wp2_with fail
        go_ret
        exact ⟨ret_bool (by rw [HS.out]; rfl),HB1.out⟩
      go_wp2_with fail
      go_roundw
      case rel=>exact ⟨k+1,by omega,by go_num,HS.out,HB1.out⟩
      case measure=>simp [intOf]; omega
    have z1:(m:Int)≤k:=by omega
    have hq:=HQ.out
    rw [List.drop_eq_nil_of_le (by omega),List.drop_eq_nil_of_le (by omega),sameBy] at hq
    have HQ2:=Lib.hid hq
    clear hq hbel
    go_wp2_with fail
    go_ret
    exact ⟨ret_bool (by rw [HQ2.out]),HBL.out⟩
  have e0:((m:Int) != (l:Int))=true:=by simp; omega
  have HQ2:=Lib.hid (show sameBy (Sg.sameX false) xs ys=false from sameBy_len (by omega))
  clear h1 h2 hml
  go_enter Tryz.func115,Tryz.ntmps115
  go_wp2_with fail
  go_ret
  exact ⟨ret_bool (by rw [HQ2.out]),Below.refl _ _⟩
set_option maxRecDepth 100000 in
set_option maxHeartbeats 8000000 in
theorem eqStrs_any (xs ys:List ByteArray) (A B:Option Addr) (m l c d:Nat) (w:World) (h1:RowH w 1 A m (xs.map Dat.str)) (h2:RowH w 1 B l (ys.map Dat.str)) :
    Calls Tryz.prog 116 #[.slice A m c,.slice B l d] w (EqvPost w (sameBy bytesEq xs ys)):=by
  have hm:(m:Int)≤9223372036854775807:=by have:=h1.le; omega
  have hl:(l:Int)≤9223372036854775807:=by have:=h2.le; omega
  have hxl:=h1.len
  have hyl:=h2.len
  rw [List.length_map] at hxl hyl
  have H1:=Lib.hid h1
  have H2:=Lib.hid h2
  by_cases hml:m=l
  · subst hml
    have e0:((m:Int) != (m:Int))=false:=by simp
    clear h1 h2
    go_enter Tryz.func116,Tryz.ntmps116
    go_wp2_with fail
    go_loopw [13] (fun i wr=>∃ k:Nat,k≤m∧i=.int .i64 k∧sameBy bytesEq xs ys=sameBy bytesEq (xs.drop k) (ys.drop k)∧Below w.heap.size w wr) (fun i _=>m - (intOf i).toNat)
    case atStart=>exact ⟨0,by omega,rfl,rfl,Below.refl _ _⟩
    obtain ⟨k,hk,rfl,hc,hbel⟩:=hrel
    have HBL:=Lib.hid hbel
    have HQ:=Lib.hid hc
    clear hc
    have z0:(0:Int)≤k:=by omega
    by_cases hlt1:k < m
    · have z1:(k:Int) < m:=by omega
      obtain ⟨pu,u,ps,rfl,hx,_,_,hu,hcs⟩:=dat_at (RowH.later H1.out hbel) hlt1
      obtain ⟨pv,v,qs,rfl,hy2,_,_,hv,hds⟩:=dat_at (RowH.later H2.out hbel) hlt1
      rw [Dat.In] at hu hv
      obtain ⟨rfl,_⟩:=hu
      obtain ⟨rfl,_⟩:=hv
      have HS:=Lib.hid (HQ.out.trans (sameBy_on hx hy2))
      have f0:=hcs 0 _ rfl
      have g0:=hds 0 _ rfl
      rw [add_add,Nat.mul_one,Nat.add_zero] at f0 g0
      obtain ⟨q,hq⟩:∃ q:Bool,bytesEq u v=q:=⟨_,rfl⟩
      have e1:(u.toList == v.toList)=q:=by rw [←hq,bytesEq,Lib.toList_data,Lib.toList_data]
      have e2:(u.toList != v.toList)=!q:=by rw [←e1]; rfl
      have HQ2:=Lib.hid hq
      clear hx hy2 hcs hds hbel HQ hq
      cases q
      · rw [Bool.not_false] at e2
        have HC:=Lib.hid (HS.out.trans (by rw [HQ2.out]; rfl:_=false))
        go_wp2_with fail
        go_quiet (fail)
        go_wp2_with fail
        go_ret
        exact ⟨ret_bool (by rw [HC.out]),below_drewN HBL.out _⟩
      rw [Bool.not_true] at e2
      have HC:=Lib.hid (HS.out.trans (by rw [HQ2.out,Bool.true_and]:_=sameBy bytesEq (xs.drop (k+1)) (ys.drop (k+1))))
      go_wp2_with fail
      go_quiet (fail)
      go_wp2_with fail
      go_roundw
      case rel=>exact ⟨k+1,by omega,by go_num,HC.out,below_drewN HBL.out _⟩
      case measure=>simp [intOf]; omega
    have z1:(m:Int)≤k:=by omega
    have hq:=HQ.out
    rw [List.drop_eq_nil_of_le (by omega),List.drop_eq_nil_of_le (by omega),sameBy] at hq
    have HQ2:=Lib.hid hq
    clear hq hbel
    go_wp2_with fail
    go_ret
    exact ⟨ret_bool (by rw [HQ2.out]),HBL.out⟩
  have e0:((m:Int) != (l:Int))=true:=by simp; omega
  have HQ2:=Lib.hid (show sameBy bytesEq xs ys=false from sameBy_len (by omega))
  clear h1 h2 hml
  go_enter Tryz.func116,Tryz.ntmps116
  go_wp2_with fail
  go_ret
  exact ⟨ret_bool (by rw [HQ2.out]),Below.refl _ _⟩
end Go.Proofs.YtjplpblehccigaaGreatDoor
namespace Go.Proofs.YtjplpblehccigaaGreatDoor
open Go.RowKit

set_option maxRecDepth 100000 in
set_option maxHeartbeats 8000000 in
theorem sameDecl_any (a b:Dc) (us vs:List Value) (w:World) (h1:a.dat.H w us) (h2:b.dat.H w vs):Calls Tryz.prog 42 #[.agg us.toArray,.agg vs.toArray] w (EqvPost w (Dc.sameX false a b)):=by
  have h:=TwoD.new h1 h2 41
  obtain ⟨Fu,nfu,cfu,Pu,npu,cpu,Gu,ngu,cgu,Vu,nvu,cvu,F2u,nf2u,cf2u,P2u,np2u,cp2u,A2u,m2u,a2u,A3u,m3u,a3u,B3u,l3u,b3u,C3u,n3u,c3u,rfl,_,hf1,hp1,hg1,_,hv1,hs1,hb1⟩:=dc_full h1
  obtain ⟨Fv,nfv,cfv,Pv,npv,cpv,Gv,ngv,cgv,Vv,nvv,cvv,F2v,nf2v,cf2v,P2v,np2v,cp2v,A2v,m2v,a2v,A3v,m3v,a3v,B3v,l3v,b3v,C3v,n3v,c3v,rfl,_,hf2,hp2,hg2,_,hv2,hs2,hb2⟩:=dc_full h2
  have H0:=Lib.hid h
  have HZ0:=Lib.hid (Below.refl (((w.alloc (.cells #[.int .i64 a.kind,.string a.name,.slice Fu nfu cfu,.slice Pu npu cpu,.slice Gu ngu cgu,.string a.recv,.slice Vu nvu cvu,.string a.sig.name,.slice F2u nf2u cf2u,.slice P2u np2u cp2u,.string a.sig.res.name,.slice A2u m2u a2u,.int .i64 a.sig.res.off,.int .i64 a.sig.off,.int .i64 a.body.kind,.string a.body.name,.string a.body.ty.name,.slice A3u m3u a3u,.int .i64 a.body.ty.off,.slice B3u l3u b3u,.slice C3u n3u c3u,.int .i64 a.body.off,.int .i64 a.off] 41)).alloc (.cells #[.int .i64 b.kind,.string b.name,.slice Fv nfv cfv,.slice Pv npv cpv,.slice Gv ngv cgv,.string b.recv,.slice Vv nvv cvv,.string b.sig.name,.slice F2v nf2v cf2v,.slice P2v np2v cp2v,.string b.sig.res.name,.slice A2v m2v a2v,.int .i64 b.sig.res.off,.int .i64 b.sig.off,.int .i64 b.body.kind,.string b.body.name,.string b.body.ty.name,.slice A3v m3v a3v,.int .i64 b.body.ty.off,.slice B3v l3v b3v,.slice C3v n3v c3v,.int .i64 b.body.off,.int .i64 b.off] 41))).heap.size (((w.alloc (.cells #[.int .i64 a.kind,.string a.name,.slice Fu nfu cfu,.slice Pu npu cpu,.slice Gu ngu cgu,.string a.recv,.slice Vu nvu cvu,.string a.sig.name,.slice F2u nf2u cf2u,.slice P2u np2u cp2u,.string a.sig.res.name,.slice A2u m2u a2u,.int .i64 a.sig.res.off,.int .i64 a.sig.off,.int .i64 a.body.kind,.string a.body.name,.string a.body.ty.name,.slice A3u m3u a3u,.int .i64 a.body.ty.off,.slice B3u l3u b3u,.slice C3u n3u c3u,.int .i64 a.body.off,.int .i64 a.off] 41)).alloc (.cells #[.int .i64 b.kind,.string b.name,.slice Fv nfv cfv,.slice Pv npv cpv,.slice Gv ngv cgv,.string b.recv,.slice Vv nvv cvv,.string b.sig.name,.slice F2v nf2v cf2v,.slice P2v np2v cp2v,.string b.sig.res.name,.slice A2v m2v a2v,.int .i64 b.sig.res.off,.int .i64 b.sig.off,.int .i64 b.body.kind,.string b.body.name,.string b.body.ty.name,.slice A3v m3v a3v,.int .i64 b.body.ty.off,.slice B3v l3v b3v,.slice C3v n3v c3v,.int .i64 b.body.off,.int .i64 b.off] 41))))
  have HF1:=Lib.hid (RowH.later hf1 h.bel)
  have HF2:=Lib.hid (RowH.later hf2 h.bel)
  have HP1:=Lib.hid (RowH.later hp1 h.bel)
  have HP2:=Lib.hid (RowH.later hp2 h.bel)
  have HG1:=Lib.hid (RowH.later hg1 h.bel)
  have HG2:=Lib.hid (RowH.later hg2 h.bel)
  have HV1:=Lib.hid (RowH.later hv1 h.bel)
  have HV2:=Lib.hid (RowH.later hv2 h.bel)
  have HS1:=Lib.hid (Dat.H.later hs1 h.bel)
  have HS2:=Lib.hid (Dat.H.later hs2 h.bel)
  have HB1:=Lib.hid (Dat.H.later hb1 h.bel)
  have HB2:=Lib.hid (Dat.H.later hb2 h.bel)
  clear h h1 h2 hf1 hf2 hp1 hp2 hg1 hg2 hv1 hv2 hs1 hs2 hb1 hb2
  obtain ⟨q0,hq0⟩:∃ q:Bool,(a.kind == b.kind)=q:=⟨_,rfl⟩
  obtain ⟨q1,hq1⟩:∃ q:Bool,bytesEq a.name b.name=q:=⟨_,rfl⟩
  obtain ⟨q2,hq2⟩:∃ q:Bool,bytesEq a.recv b.recv=q:=⟨_,rfl⟩
  obtain ⟨q3,hq3⟩:∃ q:Bool,sameBy (Fo.sameX false) a.fs b.fs=q:=⟨_,rfl⟩
  obtain ⟨q4,hq4⟩:∃ q:Bool,sameBy (Fo.sameX false) a.ms b.ms=q:=⟨_,rfl⟩
  obtain ⟨q5,hq5⟩:∃ q:Bool,sameBy (Sg.sameX false) a.gs b.gs=q:=⟨_,rfl⟩
  obtain ⟨q6,hq6⟩:∃ q:Bool,sameBy bytesEq a.vs b.vs=q:=⟨_,rfl⟩
  obtain ⟨q7,hq7⟩:∃ q:Bool,Sg.sameX false a.sig b.sig=q:=⟨_,rfl⟩
  obtain ⟨q8,hq8⟩:∃ q:Bool,a.body.same b.body=q:=⟨_,rfl⟩
  have e0:(a.kind == b.kind)=q0:=by exact hq0
  have e1:(a.name.toList == b.name.toList)=q1:=by rw [←hq1,bytesEq,Lib.toList_data,Lib.toList_data]
  have e2:(a.recv.toList == b.recv.toList)=q2:=by rw [←hq2,bytesEq,Lib.toList_data,Lib.toList_data]
  have HD:=Lib.hid (show Dc.sameX false a b=(q0&&(q1&&(q2&&(q3&&(q4&&(q5&&(q6&&(q7&&(q8 ))))))))) by subst_vars; simp [Dc.sameX,Bool.and_assoc])
  have HQ3:=Lib.hid hq3
  have HQ4:=Lib.hid hq4
  have HQ5:=Lib.hid hq5
  have HQ6:=Lib.hid hq6
  have HQ7:=Lib.hid hq7
  have HQ8:=Lib.hid hq8
  clear hq0 hq1 hq2 hq3 hq4 hq5 hq6 hq7 hq8
  have x0:=H0.out.one 0 _ rfl
  have x1:=H0.out.one 1 _ rfl
  have x2:=H0.out.one 2 _ rfl
  have x5:=H0.out.one 5 _ rfl
  have y0:=H0.out.two 0 _ rfl
  have y1:=H0.out.two 1 _ rfl
  have y2:=H0.out.two 2 _ rfl
  have y5:=H0.out.two 5 _ rfl
  go_enter Tryz.func42,Tryz.ntmps42
  cases q0
  · go_wp2_with fail
    go_ret
    exact ⟨ret_bool (by rw [HD.out]; rfl),H0.out.bel⟩
  skip
  cases q1
  · go_wp2_with fail
    go_ret
    exact ⟨ret_bool (by rw [HD.out]; rfl),H0.out.bel⟩
  skip
  cases q2
  · go_wp2_with fail
    go_ret
    exact ⟨ret_bool (by rw [HD.out]; rfl),H0.out.bel⟩
  skip
  go_wp2_with fail
  refine (eqFormal_any a.fs b.fs Fu Fv nfu nfv cfu cfv _ (RowH.later HF1.out HZ0.out) (RowH.later HF2.out HZ0.out)).mono ?_
  rintro e w1 ⟨rfl,hb⟩
  rw [HQ3.out]
  have H1:=Lib.hid (H0.out.later hb)
  have HZ1:=Lib.hid (HZ0.out.trans (hb.mono HZ0.out.size))
  clear hb H0 HZ0 x0 x1 x2 x5 y0 y1 y2 y5
  have x3:=H1.out.one 3 _ rfl
  have y3:=H1.out.two 3 _ rfl
  cases q3
  · go_wp2_with fail
    go_ret
    exact ⟨ret_bool (by rw [HD.out]; rfl),H1.out.bel⟩
  skip
  go_wp2_with fail
  refine (eqParam_any a.ms b.ms Pu Pv npu npv cpu cpv _ (RowH.later HP1.out HZ1.out) (RowH.later HP2.out HZ1.out)).mono ?_
  rintro e w2 ⟨rfl,hb⟩
  rw [HQ4.out]
  have H2:=Lib.hid (H1.out.later hb)
  have HZ2:=Lib.hid (HZ1.out.trans (hb.mono HZ1.out.size))
  clear hb H1 HZ1 x3 y3
  have x4:=H2.out.one 4 _ rfl
  have y4:=H2.out.two 4 _ rfl
  cases q4
  · go_wp2_with fail
    go_ret
    exact ⟨ret_bool (by rw [HD.out]; rfl),H2.out.bel⟩
  skip
  go_wp2_with fail
  refine (eqSig_any a.gs b.gs Gu Gv ngu ngv cgu cgv _ (RowH.later HG1.out HZ2.out) (RowH.later HG2.out HZ2.out)).mono ?_
  rintro e w3 ⟨rfl,hb⟩
  rw [HQ5.out]
  have H3:=Lib.hid (H2.out.later hb)
  have HZ3:=Lib.hid (HZ2.out.trans (hb.mono HZ2.out.size))
  clear hb H2 HZ2 x4 y4
  have x6:=H3.out.one 6 _ rfl
  have y6:=H3.out.two 6 _ rfl
  cases q5
  · go_wp2_with fail
    go_ret
    exact ⟨ret_bool (by rw [HD.out]; rfl),H3.out.bel⟩
  skip
  go_wp2_with fail
  refine (eqStrs_any a.vs b.vs Vu Vv nvu nvv cvu cvv _ (RowH.later HV1.out HZ3.out) (RowH.later HV2.out HZ3.out)).mono ?_
  rintro e w4 ⟨rfl,hb⟩
  rw [HQ6.out]
  have H4:=Lib.hid (H3.out.later hb)
  have HZ4:=Lib.hid (HZ3.out.trans (hb.mono HZ3.out.size))
  clear hb H3 HZ3 x6 y6
  have x7:=H4.out.one 7 _ rfl
  have x8:=H4.out.one 8 _ rfl
  have x9:=H4.out.one 9 _ rfl
  have x10:=H4.out.one 10 _ rfl
  have x11:=H4.out.one 11 _ rfl
  have x12:=H4.out.one 12 _ rfl
  have x13:=H4.out.one 13 _ rfl
  have y7:=H4.out.two 7 _ rfl
  have y8:=H4.out.two 8 _ rfl
  have y9:=H4.out.two 9 _ rfl
  have y10:=H4.out.two 10 _ rfl
  have y11:=H4.out.two 11 _ rfl
  have y12:=H4.out.two 12 _ rfl
  have y13:=H4.out.two 13 _ rfl
  cases q6
  · go_wp2_with fail
    go_ret
    exact ⟨ret_bool (by rw [HD.out]; rfl),H4.out.bel⟩
  skip
  go_wp2_with fail
  refine (sameSig_any a.sig b.sig _ _ _ (Dat.H.later HS1.out HZ4.out) (Dat.H.later HS2.out HZ4.out)).mono ?_
  rintro e w5 ⟨rfl,hb⟩
  rw [HQ7.out]
  have H5:=Lib.hid (H4.out.later hb)
  have HZ5:=Lib.hid (HZ4.out.trans (hb.mono HZ4.out.size))
  clear hb H4 HZ4 x7 x8 x9 x10 x11 x12 x13 y7 y8 y9 y10 y11 y12 y13
  have x14:=H5.out.one 14 _ rfl
  have x15:=H5.out.one 15 _ rfl
  have x16:=H5.out.one 16 _ rfl
  have x17:=H5.out.one 17 _ rfl
  have x18:=H5.out.one 18 _ rfl
  have x19:=H5.out.one 19 _ rfl
  have x20:=H5.out.one 20 _ rfl
  have x21:=H5.out.one 21 _ rfl
  have y14:=H5.out.two 14 _ rfl
  have y15:=H5.out.two 15 _ rfl
  have y16:=H5.out.two 16 _ rfl
  have y17:=H5.out.two 17 _ rfl
  have y18:=H5.out.two 18 _ rfl
  have y19:=H5.out.two 19 _ rfl
  have y20:=H5.out.two 20 _ rfl
  have y21:=H5.out.two 21 _ rfl
  cases q7
  · go_wp2_with fail
    go_ret
    exact ⟨ret_bool (by rw [HD.out]; rfl),H5.out.bel⟩
  skip
  go_wp2_with fail
  refine (xsame_any a.body b.body _ _ _ (Dat.H.later HB1.out HZ5.out) (Dat.H.later HB2.out HZ5.out)).mono ?_
  rintro e w6 ⟨rfl,hb⟩
  rw [HQ8.out]
  have H6:=Lib.hid (H5.out.later hb)
  have HZ6:=Lib.hid (HZ5.out.trans (hb.mono HZ5.out.size))
  clear hb H5 HZ5 x14 x15 x16 x17 x18 x19 x20 x21 y14 y15 y16 y17 y18 y19 y20 y21
  go_wp2_with fail
  go_ret
  exact ⟨ret_bool (by rw [HD.out]; rfl),H6.out.bel⟩
end Go.Proofs.YtjplpblehccigaaGreatDoor

namespace Go.Proofs.YtjplpblehccigaaGreatDoor
open Go.RowKit

/-- What a round keeps: every cell but those of the blocks from n to m. -/
def Keep (n m:Nat) (W W':World):Prop:=W.heap.size≤W'.heap.size∧∀ p v,(p.block < n∨m≤p.block)→W.cell? p=some v→W'.cell? p=some v∧W'.frozen? p=W.frozen? p
/-- What Names gives: a function over which a range takes the names,in their order; a round may write what the caller has made since. -/
def NamesPost (w:World) (l:List ByteArray) (e:Ending) (w':World):Prop:=∃ g lb,e=.returned (.func (.func g) #[] lb)∧Below w.heap.size w w' ∧
  (∀ args W,(callFunc g args).run Tryz.prog W=.ok (.enter g args) W) ∧
  ∀ n w2,1≤n→Below w'.heap.size w' w2→SeqStopsK Fence.wide n Tryz.prog g lb (fun s:ByteArray=>#[.string s]) (Keep w'.heap.size w2.heap.size) (fun xs=>xs=l) (fun pre=>pre <+: l) l.length w2
theorem NamesPost.fn {w:World} {l:List ByteArray} {e:Ending} {w':World} (h:NamesPost w l e w'):FnPost w e w':=let ⟨_,_,h1,h2,_⟩:=h; ⟨_,_,_,h1,h2⟩
end Go.Proofs.YtjplpblehccigaaGreatDoor

namespace Go.Proofs.YtjplpblehccigaaGreatDoor
open Go.RowKit
attribute [local go_sem] Oper.semAt_some

/-! ### data last where the cells that are there last -/
/-- A part: an expression of few parts that lies in the blocks below n of a world. -/
abbrev Part (w0:World) (n:Nat):Type:={x:Ex × List Value // x.1.wt≤1990∧x.1.dat.In w0 False (· < n) x.2}
def Part.ex {w0:World} {n:Nat} (x:Part w0 n):Ex:=x.1.1
def Part.enc {w0:World} {n:Nat} (x:Part w0 n):Array Value:=#[.agg x.1.2.toArray]

end Go.Proofs.YtjplpblehccigaaGreatDoor
namespace Go.Proofs.YtjplpblehccigaaGreatDoor
open Go.RowKit
attribute [local go_sem] Oper.semAt_some

end Go.Proofs.YtjplpblehccigaaGreatDoor

namespace Go.Proofs.YtjplpblehccigaaGreatDoor
open Go.RowKit

/-! ### what stands for a name -/
/-! ### a map in memory -/
/-- A value of the map reads as itself. -/
def mR (v:Value):Option (DataW Value × List MemPlace):=some (.held v,[])
/-- The map in block g of w gives f; the types that it gives lie in w0. -/
structure GivenAt (w0 w:World) (g n:Nat) (f:ByteArray→Option Ty):Prop where
  map:∃ D,w.ownsMap Tryz.prog 9 mR g n D∧∀ s:ByteArray,s.size≤9223372036854775807 →
    match f s with
    | none=>Go.Maps.has D (.string s.data.toList)=false
    | some t=>Go.Maps.has D (.string s.data.toList)=true∧∃ A c,t.name.size≤9223372036854775807∧Here w0 A t.args.length t.args∧∀ z,D.atKey (.string s.data.toList) z=.held (.agg #[.string t.name,.slice A t.args.length c,.int .i64 t.off])

theorem GivenAt.base {w0 w0' w:World} {g n:Nat} {f:ByteArray→Option Ty} (h:GivenAt w0 w g n f) (hb:Below w0.heap.size w0 w0'):GivenAt w0' w g n f:=by
  obtain ⟨D,h1,h2⟩:=h.map
  refine ⟨D,h1,fun s hs=>?_⟩
  have h3:=h2 s hs
  revert h3
  cases f s with
  | none=>exact id
  | some t=>exact fun ⟨h4,A,c,h5,h6,h7⟩=>⟨h4,A,c,h5,Here.later h6 hb,h7⟩
theorem GivenAt.mono {w0 w:World} {g n n':Nat} {f:ByteArray→Option Ty} (h:GivenAt w0 w g n f) (hn:n≤n'):GivenAt w0 w g n' f:=by
  obtain ⟨D,h1,h2⟩:=h.map
  exact ⟨D,h1.mono hn,h2⟩
/-- What byName gives. -/
def NamePost (w:World) (ns:List ByteArray) (us:List Ty) (e:Ending) (w':World):Prop :=
  ∃ g n,e=.returned (.map (some g))∧GivenAt w' w' g n (fun s=>Ty.pick s ns us)∧Below w.heap.size w w'

end Go.Proofs.YtjplpblehccigaaGreatDoor
namespace Go.Proofs.YtjplpblehccigaaGreatDoor
open Go.RowKit

theorem size_setCells_w (b:Nat):∀ (vs:List Value) (o:Nat) (w:World),(w.setCells b o vs).heap.size=w.heap.size
  | [],_,_=>rfl
  | v :: r,o,w=>by rw [World.setCells,size_setCells_w b r (o+1)]; simp [World.setCell]
theorem below_cells {B g:Nat} (hg:B≤g):∀ (vs:List Value) (o:Nat) (w:World),Below B w (w.setCells g o vs)
  | [],_,_=>Below.refl _ _
  | v :: r,o,w=>((Below.refl B w).setCell (p:=⟨g,o,none⟩) hg v).trans (below_cells hg r (o+1) _)
end Go.Proofs.YtjplpblehccigaaGreatDoor
namespace Go.Proofs.YtjplpblehccigaaGreatDoor
open Go.RowKit

end Go.Proofs.YtjplpblehccigaaGreatDoor
namespace Go.Proofs.YtjplpblehccigaaGreatDoor
open Go.RowKit

end Go.Proofs.YtjplpblehccigaaGreatDoor

namespace Go.Proofs.YtjplpblehccigaaGreatDoor
open Go.RowKit

theorem cmp_refl (t:Ty):Ty.cmp t t=0:=by have:=Ty.cmp_neg t t; omega
theorem Fo.same_refl (f:Fo):Fo.sameX false f f=true:=by simp [Fo.sameX,bytesEq,cmp_refl]
theorem Sg.same_refl (s:Sg):Sg.sameX false s s=true:=by
  rw [Sg.sameX,sameBy_refl Fo.same_refl,sameBy_refl Fo.same_refl,cmp_refl]
  simp [bytesEq]
theorem Ex.same_refl':∀ e:Ex,e.same e=true:=by
  refine Ex.ind fun k s t ts xs o ih=>?_
  rw [Ex.same_mk]
  have hL:∀ l:List Ex,(∀ x∈l,x∈xs)→Ex.sameL l l=true:=by
    intro l
    induction l with
    | nil=>intro _; rw [Ex.sameL]
    | cons a r ih2 =>
      intro h
      rw [Ex.sameL,ih a (h a (by simp)),ih2 fun x hx=>h x (by simp [hx])]
      rfl
  have hT:∀ l:List Ty,Ex.sameT l l=true:=by
    intro l
    induction l with
    | nil=>rw [Ex.sameT]
    | cons a r ih=>rw [Ex.sameT,cmp_refl a,ih]; rfl
  exact ⟨rfl,rfl,cmp_refl t,hT ts,hL xs fun _ h=>h⟩
end Go.Proofs.YtjplpblehccigaaGreatDoor
namespace Go.Proofs.YtjplpblehccigaaGreatDoor
open Go.RowKit

theorem sizeDc:(Tryz.prog.info? 41).map (·.size)=some 23:=by kernel_rfl
theorem run_loadVar_at (w:World) (p:Addr) (ty:TypeId) (cs:List Value) (d:TypeDesc) (hc:CellsAt w p cs) (hu:Tryz.prog.underlying ty=some d) (hd:d.isRow=true) (hi:(Tryz.prog.info? ty).map (·.size)=some cs.length) :
    (loadVar ty p).run Tryz.prog w=.ok (.agg cs.toArray) w:=by
  have hl:(loadCells p cs.length).run Tryz.prog w=.ok cs.toArray w:=run_loadCells_list (P:=Tryz.prog) w p cs hc
  cases hq:Tryz.prog.info? ty with
  | none=>simp [hq] at hi
  | some i =>
    have hs:i.size=cs.length:=by simpa [hq] using hi
    have hagg:(isAgg ty).run Tryz.prog w=.ok true w:=by
      unfold isAgg
      rw [Sem.run_bind,run_underlying hu w]
      cases d <;> simp_all
    simp [loadVar,Sem.run_bind,hagg,sizeOf,typeInfo,hq,hs,hl]
theorem loadDc {ops:Array Oper} {rest:List Oper} {a:Act} {w:World} {Q:Exit→Act→World→Prop} {ps:String} {af:Array Edge} (i d:Nat) {p:Addr} {us:List Value} (hx:a.eval (.tmp i)=.pointer (some p)) (hc:CellsAt w p us) (hl:us.length=23)
    (h:wpList Tryz.prog ops Q rest (a.put (some d) (.agg us.toArray)) w) :
    wpList Tryz.prog ops Q ({ dst:=some d,op:=.load 41 (.tmp i),type:=41,pos:=ps,after:=af,guard:=none } :: rest) a w :=
  wpList_plain rfl fun _ hK=>by
    unfold Oper.wp execOp
    simp only [hx,Instr.loadAt,Instr.sureAddr,Sem.run_bind,Sem.run_pure,Result.andThen_ok,run_loadVar_at w p 41 us _ hc Tryz.underlying41 rfl (by rw [hl]; exact sizeDc)]
    exact hK _ _ h
theorem storeDc {ops:Array Oper} {rest:List Oper} {a:Act} {w:World} {Q:Exit→Act→World→Prop} {ps:String} {af:Array Edge} (i j:Nat) {b o:Nat} {us:List Value} (hx:a.eval (.tmp i)=.pointer (some ⟨b,o,none⟩)) (hy:a.eval (.tmp j)=.agg us.toArray)
    (ht:w.there b o us.length) (h1:∀ u∈us,u.oneCell'=true) (hl:us.length=23) (h:wpList Tryz.prog ops Q rest (a.put none undef) (w.setCells b o us)) :
    wpList Tryz.prog ops Q ({ dst:=none,op:=.store 41 (.tmp i) (.tmp j),type:=0,pos:=ps,after:=af,guard:=none } :: rest) a w :=
  wpList_store_mid rfl 41 (.tmp i) (.tmp j) rfl b o us.toArray hx hy (by simpa using ht) (by rw [List.size_toArray,hl]; exact sizeDc) (all_oneCell_toArray h1) (by simpa using h)
theorem set_there {w:World} {k:Nat} {us:List Value} (h:w.there k 0 us.length):Boxd (w.setCells k 0 us) k us:=fun j u hu=>by
  have:=World.rangeAt_setCells_same w k 0 us h j u hu
  rwa [Nat.zero_add] at this
theorem there_new (w:World) (cs:Array Value) (T:TypeId):(w.alloc (.cells cs T)).there w.heap.size 0 cs.size:=fun j hj=>⟨by
  rw [Nat.zero_add,cell_of_row _ _ j _ _ (0,0) (heap_alloc_new _ _),Array.getElem?_eq_getElem hj]
  rfl,frozen_of_row (heap_alloc_new _ _) _⟩
theorem Boxd.at0 {w:World} {b:Nat} {us:List Value} (h:Boxd w b us):CellsAt w ⟨b,0,none⟩ us:=fun j u hu=>by rw [add_zero_addr]; exact h j u hu
theorem ty_cells {w:World} {N:Prop} {S:Nat→Prop} {t:Ty} {us:List Value} (h:t.dat.In w N S us):∀ u∈us,u.oneCell'=true:=by
  obtain ⟨B,m,c,rfl,_⟩:=ty_open h
  intro u hu
  simp only [List.mem_cons,List.not_mem_nil,or_false] at hu
  rcases hu with rfl | rfl | rfl <;> rfl
theorem ex_cells' {w:World} {N:Prop} {S:Nat→Prop} {e:Ex} {us:List Value} (h:e.dat.In w N S us):∀ u∈us,u.oneCell'=true:=by
  obtain ⟨A,m,a,B,l,b,C,n,c,rfl,_⟩:=ex_open h
  intro u hu
  simp only [List.mem_cons,List.not_mem_nil,or_false] at hu
  rcases hu with rfl | rfl | rfl | rfl | rfl | rfl | rfl | rfl <;> rfl
theorem sg_cells {w:World} {N:Prop} {S:Nat→Prop} {s:Sg} {us:List Value} (h:s.dat.In w N S us):∀ u∈us,u.oneCell'=true:=by
  obtain ⟨F,nf,cf,P,np,cp,A,m,a,rfl,_⟩:=sg_open h
  intro u hu
  simp only [List.mem_cons,List.not_mem_nil,or_false] at hu
  rcases hu with rfl | rfl | rfl | rfl | rfl | rfl | rfl <;> rfl
theorem dc_cells {w:World} {N:Prop} {S:Nat→Prop} {d:Dc} {us:List Value} (h:d.dat.In w N S us):∀ u∈us,u.oneCell'=true:=by
  obtain ⟨F,nf,cf,P,np,cp,G,ng,cg,V,nv,cv,sv,bv,rfl,_,_,_,_,_,_,h7,h8⟩:=dc_open h
  intro u hu
  rcases List.mem_append.1 hu with hu | hu
  · simp only [List.mem_cons,List.not_mem_nil,or_false] at hu
    rcases hu with rfl | rfl | rfl | rfl | rfl | rfl | rfl <;> rfl
  rcases List.mem_append.1 hu with hu | hu
  · exact sg_cells h7 u hu
  rcases List.mem_append.1 hu with hu | hu
  · exact ex_cells' h8 u hu
  simp only [List.mem_cons,List.not_mem_nil,or_false] at hu
  rcases hu with rfl
  rfl
theorem dc_len {w:World} {N:Prop} {S:Nat→Prop} {d:Dc} {us:List Value} (h:d.dat.In w N S us):us.length=23:=(Dat.In.len _ _ h).trans (Dc.dat_size d)
abbrev z23:Array Value:=#[.int .i64 0,.string ⟨#[]⟩,.slice none 0 0,.slice none 0 0,.slice none 0 0,.string ⟨#[]⟩,.slice none 0 0,.string ⟨#[]⟩,.slice none 0 0,.slice none 0 0,.string ⟨#[]⟩,.slice none 0 0,.int .i64 0,.int .i64 0,
  .int .i64 0,.string ⟨#[]⟩,.string ⟨#[]⟩,.slice none 0 0,.int .i64 0,.slice none 0 0,.slice none 0 0,.int .i64 0,.int .i64 0]
/-- A new block of a declaration,written whole: the world behind,and what lies there. -/
structure Put23 (w W:World) (us:List Value):Prop where
  eq:(w.alloc (.cells z23 41)).setCells w.heap.size 0 us=W
  bel:Below w.heap.size w W
  box:Boxd W w.heap.size us
  there:(w.alloc (.cells z23 41)).there w.heap.size 0 us.length
theorem put23 (w:World) {us:List Value} (hl:us.length=23):∃ W,Put23 w W us:=by
  have ht:(w.alloc (.cells z23 41)).there w.heap.size 0 us.length:=by rw [hl]; exact there_new w z23 41
  exact ⟨_,rfl,((Below.refl _ _).alloc (Nat.le_refl _) _).trans (below_cells (Nat.le_refl _) us 0 _),set_there ht,ht⟩
end Go.Proofs.YtjplpblehccigaaGreatDoor
namespace Go.Proofs.YtjplpblehccigaaGreatDoor
open Go.RowKit

set_option maxRecDepth 100000 in
set_option maxHeartbeats 8000000 in
theorem eqDecl_any (xs ys:List Dc) (A B:Option Addr) (m l c d:Nat) (w:World) (h1:RowH w 23 A m (xs.map Dc.dat)) (h2:RowH w 23 B l (ys.map Dc.dat)) :
    Calls Tryz.prog 83 #[.slice A m c,.slice B l d,.func (.func 42) #[] #[]] w (EqvPost w (sameBy (Dc.sameX false) xs ys)):=by
  have hm:(m:Int)≤9223372036854775807:=by have:=h1.le; omega
  have hl:(l:Int)≤9223372036854775807:=by have:=h2.le; omega
  have hxl:=h1.len
  have hyl:=h2.len
  rw [List.length_map] at hxl hyl
  have H1:=Lib.hid h1
  have H2:=Lib.hid h2
  by_cases hml:m=l
  · subst hml
    have e0:((m:Int) != (m:Int))=false:=by simp
    clear h1 h2
    go_enter Tryz.func83,Tryz.ntmps83
    go_wp2_with fail
    go_loopw [17] (fun i wr=>∃ k:Nat,k≤m∧i=.int .i64 k∧sameBy (Dc.sameX false) xs ys=sameBy (Dc.sameX false) (xs.drop k) (ys.drop k)∧Below w.heap.size w wr) (fun i _=>m - (intOf i).toNat)
    case atStart=>exact ⟨0,by omega,rfl,rfl,Below.refl _ _⟩
    obtain ⟨k,hk,rfl,hc,hbel⟩:=hrel
    have HBL:=Lib.hid hbel
    have HQ:=Lib.hid hc
    clear hc
    have z0:(0:Int)≤k:=by omega
    by_cases hlt1:k < m
    · have z1:(k:Int) < m:=by omega
      obtain ⟨pu,u,ps,rfl,hx,_,_,hu,hcs⟩:=dat_at (RowH.later H1.out hbel) hlt1
      obtain ⟨pv,v,qs,rfl,hy2,_,_,hv,hds⟩:=dat_at (RowH.later H2.out hbel) hlt1
      have HS:=Lib.hid (HQ.out.trans (sameBy_on hx hy2))
      have HU:=Lib.hid hu
      have HV:=Lib.hid hv
      have HF:=Lib.hid hcs
      have HLU:=Lib.hid (dc_len hu)
      have HLV:=Lib.hid (dc_len hv)
      have HOU:=Lib.hid (dc_cells hu)
      have HOV:=Lib.hid (dc_cells hv)
      obtain ⟨W1,hP1⟩:=put23 wr HLU.out
      have HP1:=Lib.hid hP1
      obtain ⟨W2,hP2⟩:=put23 W1 HLV.out
      have HP2:=Lib.hid hP2
      have HG:=Lib.hid (hds.later hP1.bel)
      have HX:=Lib.hid (hP1.box.later hP2.bel).at0
      have HY:=Lib.hid hP2.box.at0
      have HB12:=Lib.hid (hP1.bel.trans (hP2.bel.mono hP1.bel.size))
      have C:=Lib.hid (sameDecl_any u v _ _ W2 (Dat.H.later hu HB12.out) (Dat.H.later hv HB12.out))
      have HB3:=Lib.hid (HBL.out.trans (HB12.out.mono HBL.out.size))
      clear hx hy2 hu hv hcs hds hbel HQ hP1 hP2
      generalize (Dc.sameX false) u v=q at *
      go_wp2_with (first
        | (refine loadDc 20 21 rfl HF.out HLU.out ?_)
        | (refine storeDc 8 21 (b:=wr.heap.size) (o:=0) rfl rfl HP1.out.there HOU.out HLU.out ?_; rw [HP1.out.eq])
        | (refine loadDc 24 25 rfl HG.out HLV.out ?_)
        | (refine storeDc 9 25 (b:=W1.heap.size) (o:=0) rfl rfl HP2.out.there HOV.out HLV.out ?_; rw [HP2.out.eq])
        | (refine loadDc 8 27 rfl HX.out HLU.out ?_)
        | (refine loadDc 9 28 rfl HY.out HLV.out ?_))
      refine C.out.mono ?_
      rintro e w1 ⟨rfl,hb1⟩
      have HB1:=Lib.hid (HB3.out.trans (hb1.mono HB3.out.size))
      clear hb1 C HB3
      cases q
      · go_wp2_with fail
        go_ret
        exact ⟨ret_bool (by rw [HS.out]; rfl),HB1.out⟩
      go_wp2_with fail
      go_roundw
      case rel=>exact ⟨k+1,by omega,by go_num,HS.out,HB1.out⟩
      case measure=>simp [intOf]; omega
    have z1:(m:Int)≤k:=by omega
    have hq:=HQ.out
    rw [List.drop_eq_nil_of_le (by omega),List.drop_eq_nil_of_le (by omega),sameBy] at hq
    have HQ2:=Lib.hid hq
    clear hq hbel
    go_wp2_with fail
    go_ret
    exact ⟨ret_bool (by rw [HQ2.out]),HBL.out⟩
  have e0:((m:Int) != (l:Int))=true:=by simp; omega
  have HQ2:=Lib.hid (show sameBy (Dc.sameX false) xs ys=false from sameBy_len (by omega))
  clear h1 h2 hml
  go_enter Tryz.func83,Tryz.ntmps83
  go_wp2_with fail
  go_ret
  exact ⟨ret_bool (by rw [HQ2.out]),Below.refl _ _⟩
set_option maxRecDepth 100000 in
set_option maxHeartbeats 8000000 in
theorem sameProg_any (a b:Pg) (us vs:List Value) (w:World) (h1:a.dat.H w us) (h2:b.dat.H w vs):Calls Tryz.prog 30 #[.agg us.toArray,.agg vs.toArray] w (EqvPost w (Pg.sameX false a b)):=by
  have h:=TwoD.new h1 h2 30
  obtain ⟨Du,nu,cu,A3u,m3u,a3u,B3u,l3u,b3u,C3u,n3u,c3u,rfl,hd1,hb1⟩:=pg_full h1
  obtain ⟨Dv,nv,cv,A3v,m3v,a3v,B3v,l3v,b3v,C3v,n3v,c3v,rfl,hd2,hb2⟩:=pg_full h2
  have H0:=Lib.hid h
  have HZ0:=Lib.hid (Below.refl (((w.alloc (.cells #[.slice Du nu cu,.int .i64 a.main.kind,.string a.main.name,.string a.main.ty.name,.slice A3u m3u a3u,.int .i64 a.main.ty.off,.slice B3u l3u b3u,.slice C3u n3u c3u,.int .i64 a.main.off] 30)).alloc (.cells #[.slice Dv nv cv,.int .i64 b.main.kind,.string b.main.name,.string b.main.ty.name,.slice A3v m3v a3v,.int .i64 b.main.ty.off,.slice B3v l3v b3v,.slice C3v n3v c3v,.int .i64 b.main.off] 30))).heap.size (((w.alloc (.cells #[.slice Du nu cu,.int .i64 a.main.kind,.string a.main.name,.string a.main.ty.name,.slice A3u m3u a3u,.int .i64 a.main.ty.off,.slice B3u l3u b3u,.slice C3u n3u c3u,.int .i64 a.main.off] 30)).alloc (.cells #[.slice Dv nv cv,.int .i64 b.main.kind,.string b.main.name,.string b.main.ty.name,.slice A3v m3v a3v,.int .i64 b.main.ty.off,.slice B3v l3v b3v,.slice C3v n3v c3v,.int .i64 b.main.off] 30))))
  have HD1:=Lib.hid (RowH.later hd1 h.bel)
  have HD2:=Lib.hid (RowH.later hd2 h.bel)
  have HB1:=Lib.hid (Dat.H.later hb1 h.bel)
  have HB2:=Lib.hid (Dat.H.later hb2 h.bel)
  clear h h1 h2 hd1 hd2 hb1 hb2
  obtain ⟨q0,hq0⟩:∃ q:Bool,sameBy (Dc.sameX false) a.ds b.ds=q:=⟨_,rfl⟩
  obtain ⟨q1,hq1⟩:∃ q:Bool,a.main.same b.main=q:=⟨_,rfl⟩
  have HD:=Lib.hid (show Pg.sameX false a b=(q0&&(q1 )) by subst_vars; simp [Pg.sameX])
  have HQ0:=Lib.hid hq0
  have HQ1:=Lib.hid hq1
  clear hq0 hq1
  obtain ⟨x0,x1,x2,x3,x4,x5,x6,x7,x8⟩:=H0.out.one.c9
  obtain ⟨y0,y1,y2,y3,y4,y5,y6,y7,y8⟩:=H0.out.two.c9
  go_enter Tryz.func30,Tryz.ntmps30
  go_wp2_with fail
  refine (eqDecl_any a.ds b.ds Du Dv nu nv cu cv _ (RowH.later HD1.out HZ0.out) (RowH.later HD2.out HZ0.out)).mono ?_
  rintro e w1 ⟨rfl,hb⟩
  rw [HQ0.out]
  have H1:=Lib.hid (H0.out.later hb)
  have HZ1:=Lib.hid (HZ0.out.trans (hb.mono HZ0.out.size))
  clear hb H0 HZ0 x0 x1 x2 x3 x4 x5 x6 x7 x8 y0 y1 y2 y3 y4 y5 y6 y7 y8
  obtain ⟨x0,x1,x2,x3,x4,x5,x6,x7,x8⟩:=H1.out.one.c9
  obtain ⟨y0,y1,y2,y3,y4,y5,y6,y7,y8⟩:=H1.out.two.c9
  cases q0
  · go_wp2_with fail
    go_ret
    exact ⟨ret_bool (by rw [HD.out]; rfl),H1.out.bel⟩
  skip
  go_wp2_with fail
  refine (xsame_any a.main b.main _ _ _ (Dat.H.later HB1.out HZ1.out) (Dat.H.later HB2.out HZ1.out)).mono ?_
  rintro e w2 ⟨rfl,hb⟩
  rw [HQ1.out]
  have H2:=Lib.hid (H1.out.later hb)
  have HZ2:=Lib.hid (HZ1.out.trans (hb.mono HZ1.out.size))
  clear hb H1 HZ1 x0 x1 x2 x3 x4 x5 x6 x7 x8 y0 y1 y2 y3 y4 y5 y6 y7 y8
  go_wp2_with fail
  go_ret
  exact ⟨ret_bool (by rw [HD.out]; rfl),H2.out.bel⟩
end Go.Proofs.YtjplpblehccigaaGreatDoor
