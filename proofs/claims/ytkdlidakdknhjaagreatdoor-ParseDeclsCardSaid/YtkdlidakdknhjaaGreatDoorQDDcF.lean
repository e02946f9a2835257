/- Texts of right expressions: how long they are, and that they tell them apart. No program, no condition.
The walks of expr.Same, expr.Depth and what they call.
Structs of five, seven, nine and twenty-three cells in memory; two boxed data. No condition.
The walks of decl.SameSig and of what it calls. No condition.
The walks of decl.SameDecl, decl.Same and of what they call. No condition.
The walk of decl.SameDecl. No condition.
The walks of expr.visit and expr.parts: an iterator over an expression and its kids, by a helper that calls itself and hands yield on. No condition.
The walk of expr.Value: a range over the parts. No condition.
The walks of types.Subst, All and Clone.
What the program computes of being right, in plain words. No program, no condition.
A struct of many cells is loaded, stored and handed back whole, its cells not spelled out. No condition.
The walks of slices.EqualFunc at declarations and of decl.Same. No condition. -/
import Derived.Test.YtkdlidakdknhjaaGreatDoorQDExG
import Derived.Test.YtkdlidakdknhjaaGreatDoorQDPaP
import Derived.Test.YtkdlidakdknhjaaGreatDoorQDTwA
import Derived.Test.YtkdlidakdknhjaaGreatDoorQDTwD
import Derived.RangeFuncKeeps
import Derived.RangeFuncNested
import Derived.Maps.OwnSet
import Derived.Maps.OwnOps
import Derived.Deep.MidRow
import Derived.Laws.MakeOwn
import Derived.Deep.RegionHeld3
import Derived.Deep.DeepCutAuto
set_option maxRecDepth 100000
set_option maxHeartbeats 8000000
open Go.Lib (hid)
namespace Go.Proofs.YtkdlidakdknhjaaGreatDoor
namespace Ex
theorem same_mk {k l:Int} {s r:ByteArray} {t u:Ty} {ts us:List Ty} {xs ys:List Ex} {o p:Int} :
    same (mk k s t ts xs o) (mk l r u us ys p)=true ↔ k=l∧s.data.toList=r.data.toList∧Ty.cmp t u=0∧sameT ts us=true∧sameL xs ys=true:=by
  rw [same]
  simp only [Bool.and_eq_true,beq_iff_eq,and_assoc]
end Ex
open Go.RowKit
theorem sameT_cmpL:∀ (xs ys:List Ty),Ex.sameT xs ys=(Ty.cmpL xs ys==0)
  | [],[]=>by simp [Ex.sameT,Ty.cmpL]
  | _ :: _,[]=>by simp [Ex.sameT,Ty.cmpL]
  | [],_ :: _=>by simp [Ex.sameT,Ty.cmpL]
  | x :: xs,y :: ys=>by
    rw [Ex.sameT,Ty.cmpL,sameT_cmpL xs ys]
    by_cases h:Ty.cmp x y=0
    · rw [if_pos h];simp [h]
    rw [if_neg h]
    have:(Ty.cmp x y==0)=false:=by simpa using h
    rw [this];rfl
theorem CellsAt.later {w w':World} {p:Addr} {us:List Value} (h:CellsAt w p us) (hb:Below w.heap.size w w'):CellsAt w' p us:=fun j u hu=>(hb.cell (cell_lt (h j u hu))).trans (h j u hu)
theorem CellsAt.alloc {w:World} {p:Addr} {us:List Value} (h:CellsAt w p us) (o:Obj):CellsAt (w.alloc o) p us:=h.later ((Below.refl _ _).alloc (Nat.le_refl _) o)
def XSameAt (e:Ex):Prop:=∀ (f:Ex) (us vs:List Value) (w:World),e.dat.H w us→f.dat.H w vs →
  Calls Tryz.prog 79 #[.agg us.toArray,.agg vs.toArray] w (EqvPost w (e.same f))
theorem xeqFunc_any (xs:List Ex) (ih:∀ e∈xs,XSameAt e) (ys:List Ex) (A B:Option Addr) (m l c d:Nat) (w:World) (h1:RowH w 8 A m (Ex.dats xs)) (h2:RowH w 8 B l (Ex.dats ys)) :
    Calls Tryz.prog 113 #[.slice A m c,.slice B l d,.func (.func 79) #[] #[]] w (EqvPost w (Ex.sameL xs ys)):=by
  have hm:(m:Int)≤9223372036854775807:=by have:=h1.le;omega
  have hl:(l:Int)≤9223372036854775807:=by have:=h2.le;omega
  have hxl:=h1.len
  have hyl:=h2.len
  rw [Ex.dats_len] at hxl hyl
  have IH:=hid ih
  have H1:=hid h1
  have H2:=hid h2
  by_cases hml:m=l
  · subst hml
    have e0:((m:Int) != (m:Int))=false:=by simp
    clear ih h1 h2
    go_enter Tryz.func113,Tryz.ntmps113
    go_wp2_with fail
    go_loopw [17] (fun i wr=>∃ k:Nat,k≤m∧i=.int .i64 k∧Ex.sameL xs ys=Ex.sameL (xs.drop k) (ys.drop k)∧Below w.heap.size w wr) (fun i _=>m-(intOf i).toNat)
    case atStart=>exact ⟨0,by omega,rfl,rfl,Below.refl _ _⟩
    obtain ⟨k,hk,rfl,hc,hbel⟩:=hrel
    have HBL:=hid hbel
    have HQ:=hid hc
    clear hc
    have z0:(0:Int)≤k:=by omega
    by_cases hlt1:k<m
    · have z1:(k:Int)<m:=by omega
      obtain ⟨p,u,ps,rfl,hx,_,_,hu,hcs⟩:=kid_at (RowH.later H1.out hbel) hlt1
      obtain ⟨p2,v,qs,rfl,hy2,_,_,hv,hds⟩:=kid_at (RowH.later H2.out hbel) hlt1
      obtain ⟨hbx,hX,hY⟩:=Boxd.pair wr ps.toArray qs.toArray 34
      have C:=hid (IH.out _ (List.mem_of_getElem? hx) v ps qs _ (Dat.H.later hu hbx) (Dat.H.later hv hbx))
      have HB2:=hid (HBL.out.trans (hbx.mono HBL.out.size))
      have HS:=hid (HQ.out.trans (Ex.sameL_on hx hy2))
      have hds':=hds.alloc (.cells ps.toArray 34)
      obtain ⟨A1,m1,a1,B1,l1,b1,C1,n1,c1,rfl,_⟩:=ex_open hu
      obtain ⟨A2,m2,a2,B2,l2,b2,C2,n2,c2,rfl,_⟩:=ex_open hv
      obtain ⟨f0,f1,f2,f3,f4,f5,f6,f7⟩:=cells8_at hcs
      obtain ⟨g0,g1,g2,g3,g4,g5,g6,g7⟩:=cells8_at hds'
      obtain ⟨x0,x1,x2,x3,x4,x5,x6,x7⟩:=hX.c8
      obtain ⟨y0,y1,y2,y3,y4,y5,y6,y7⟩:=hY.c8
      clear hx hy2 hu hv hcs hds hds' hbel HQ hbx hX hY
      generalize Ex.same u v=q at *
      go_wp2_with fail
      refine C.out.mono ?_
      rintro e w1 ⟨rfl,hb1⟩
      have HB1:=hid (HB2.out.trans (hb1.mono HB2.out.size))
      clear hb1 x0 x1 x2 x3 x4 x5 x6 x7 y0 y1 y2 y3 y4 y5 y6 y7 f0 f1 f2 f3 f4 f5 f6 f7 g0 g1 g2 g3 g4 g5 g6 g7 C
      cases q
      · go_wp2_with fail
        go_ret
        exact ⟨ret_bool (by rw [HS.out];rfl),HB1.out⟩
      go_wp2_with fail
      go_roundw
      case rel=>exact ⟨k+1,by omega,by go_num,HS.out,HB1.out⟩
      case measure=>simp [intOf];omega
    have z1:(m:Int)≤k:=by omega
    have hq:=HQ.out
    rw [List.drop_eq_nil_of_le (by omega),List.drop_eq_nil_of_le (by omega),Ex.sameL] at hq
    have HQ2:=hid hq
    clear hq hbel
    go_wp2_with fail
    go_ret
    exact ⟨ret_bool (by rw [HQ2.out]),HBL.out⟩
  have e0:((m:Int) != (l:Int))=true:=by simp;omega
  have HQ2:=hid (show Ex.sameL xs ys=false from Ex.sameL_len (by omega))
  clear ih h1 h2 hml
  go_enter Tryz.func113,Tryz.ntmps113
  go_wp2_with fail
  go_ret
  exact ⟨ret_bool (by rw [HQ2.out]),Below.refl _ _⟩
theorem xsame_any:∀ e:Ex,XSameAt e:=by
  refine Ex.ind fun k s t ts xs o ih f us vs w h1 h2=>?_
  obtain ⟨k2,s2,t2,ts2,xs2,o2⟩:=f
  obtain ⟨A,m,a,B,l,b,C,r,c,rfl,hs,ht,ha,hb,hc⟩:=ex_open h1
  obtain ⟨A2,m2,a2,B2,l2,b2,C2,r2,c2,rfl,hs2,ht2,ha2,hb2,hc2⟩:=ex_open h2
  have h:=TwoX.new h1 h2 34
  simp only [Ex.kind,Ex.name,Ex.ty,Ex.targs,Ex.kids,Ex.off] at hs ht ha hb hc hs2 ht2 ha2 hb2 hc2 h ⊢
  have hbel:=h.bel
  have H:=hid h
  have IH:=hid ih
  have C1:=hid (same_any t t2 A A2 m m2 a a2 _ (Here.later ha hbel) (Here.later ha2 hbel))
  have HD:=hid (show Ex.same (.mk k s t ts xs o) (.mk k2 s2 t2 ts2 xs2 o2)=((k==k2)&&(s.data.toList==s2.data.toList)&&(Ty.cmp t t2==0)&&(Ty.cmpL ts ts2==0)&&Ex.sameL xs xs2) by rw [Ex.same,sameT_cmpL])
  have HTB:=hid (Here.later hb hbel)
  have HTB2:=hid (Here.later hb2 hbel)
  have HK:=hid (RowH.later hc hbel)
  have HK2:=hid (RowH.later hc2 hbel)
  obtain ⟨x0,x1,x2,x3,x4,x5,x6,x7⟩:=H.out.one.c8
  obtain ⟨y0,y1,y2,y3,y4,y5,y6,y7⟩:=H.out.two.c8
  clear ih h1 h2 ha hb hc ha2 hb2 hc2 h hbel
  by_cases hk:k=k2
  · have e2:(k==k2)=true:=by simp [hk]
    by_cases hsr:s.data.toList=s2.data.toList
    · have e3:(s.toList==s2.toList)=true:=by rw [Lib.toList_data,Lib.toList_data];simp [hsr]
      have HD2:=hid (HD.out.trans (by rw [hsr,e2];simp:_=((Ty.cmp t t2==0)&&(Ty.cmpL ts ts2==0)&&Ex.sameL xs xs2)))
      clear hk hsr HD
      go_enter Tryz.func79,Tryz.ntmps79
      go_wp2_with fail
      refine C1.out.mono ?_
      rintro e w1 ⟨rfl,hb1⟩
      have H1:=hid (H.out.later hb1)
      have CX:=hid (eqFunc_any ts (fun t _=>same_any t) ts2 B B2 l l2 b b2 w1 (Here.later HTB.out hb1) (Here.later HTB2.out hb1))
      have HKK:=hid (RowH.later HK.out hb1)
      have HKK2:=hid (RowH.later HK2.out hb1)
      clear hb1 H C1 HTB HTB2 HK HK2 x0 x1 x2 x3 x4 x5 x6 x7 y0 y1 y2 y3 y4 y5 y6 y7
      obtain ⟨x0,x1,x2,x3,x4,x5,x6,x7⟩:=H1.out.one.c8
      obtain ⟨y0,y1,y2,y3,y4,y5,y6,y7⟩:=H1.out.two.c8
      generalize (Ty.cmp t t2==0)=q1 at *
      generalize (Ty.cmpL ts ts2==0)=q2 at *
      cases q1
      · have HC:=hid (HD2.out.trans (by simp:_=false))
        go_wp2_with fail
        go_ret
        exact ⟨ret_bool (by rw [HC.out]),H1.out.bel⟩
      go_wp2_with fail
      refine CX.out.mono ?_
      rintro e w2 ⟨rfl,hb2⟩
      have H2:=hid (H1.out.later hb2)
      have CY:=hid (xeqFunc_any xs IH.out xs2 C C2 r r2 c c2 w2 (RowH.later HKK.out hb2) (RowH.later HKK2.out hb2))
      clear hb2 H1 CX HKK HKK2 x0 x1 x2 x3 x4 x5 x6 x7 y0 y1 y2 y3 y4 y5 y6 y7
      obtain ⟨x0,x1,x2,x3,x4,x5,x6,x7⟩:=H2.out.one.c8
      obtain ⟨y0,y1,y2,y3,y4,y5,y6,y7⟩:=H2.out.two.c8
      cases q2
      · have HC:=hid (HD2.out.trans (by simp:_=false))
        go_wp2_with fail
        go_ret
        exact ⟨ret_bool (by rw [HC.out]),H2.out.bel⟩
      have HC:=hid (HD2.out.trans (by simp:_=Ex.sameL xs xs2))
      generalize Ex.sameL xs xs2=q3 at *
      go_wp2_with fail
      refine CY.out.mono ?_
      rintro e w3 ⟨rfl,hb3⟩
      have HB3:=hid (H2.out.bel.trans (hb3.mono H2.out.bel.size))
      clear hb3
      go_wp2_with fail
      go_ret
      exact ⟨ret_bool (by rw [HC.out]),HB3.out⟩
    have e3:(s.toList==s2.toList)=false:=by rw [Lib.toList_data,Lib.toList_data];simpa using hsr
    have HC:=hid (HD.out.trans (by rw [show (s.data.toList==s2.data.toList)=false by simpa using hsr];simp:_=false))
    clear hsr hk
    go_enter Tryz.func79,Tryz.ntmps79
    go_wp2_with fail
    go_ret
    exact ⟨ret_bool (by rw [HC.out]),H.out.bel⟩
  have e2:(k==k2)=false:=by simp [hk]
  have HC:=hid (HD.out.trans (by rw [e2];simp:_=false))
  clear hk
  go_enter Tryz.func79,Tryz.ntmps79
  go_wp2_with fail
  go_ret
  exact ⟨ret_bool (by rw [HC.out]),H.out.bel⟩
open Go.RowKit
theorem cells5_at {w:World} {p:Addr} {u0 u1 u2 u3 u4:Value} (h:CellsAt w p [u0,u1,u2,u3,u4]):w.cell? p=some u0∧w.cell? ⟨p.block,p.off+1,none⟩=some u1∧w.cell? ⟨p.block,p.off+2,none⟩=some u2∧w.cell? ⟨p.block,p.off+3,none⟩=some u3∧w.cell? ⟨p.block,p.off+4,none⟩=some u4 :=
  ⟨h 0 _ rfl,h 1 _ rfl,h 2 _ rfl,h 3 _ rfl,h 4 _ rfl⟩
theorem Boxd.c5 {W:World} {b:Nat} {u0 u1 u2 u3 u4:Value} (h:Boxd W b [u0,u1,u2,u3,u4]):W.cell? ⟨b,0,none⟩=some u0∧W.cell? ⟨b,1,none⟩=some u1∧W.cell? ⟨b,2,none⟩=some u2∧W.cell? ⟨b,3,none⟩=some u3∧W.cell? ⟨b,4,none⟩=some u4 :=
  ⟨h 0 _ rfl,h 1 _ rfl,h 2 _ rfl,h 3 _ rfl,h 4 _ rfl⟩
theorem cells7_at {w:World} {p:Addr} {u0 u1 u2 u3 u4 u5 u6:Value} (h:CellsAt w p [u0,u1,u2,u3,u4,u5,u6]):w.cell? p=some u0∧w.cell? ⟨p.block,p.off+1,none⟩=some u1∧w.cell? ⟨p.block,p.off+2,none⟩=some u2∧w.cell? ⟨p.block,p.off+3,none⟩=some u3∧w.cell? ⟨p.block,p.off+4,none⟩=some u4∧w.cell? ⟨p.block,p.off+5,none⟩=some u5∧w.cell? ⟨p.block,p.off+6,none⟩=some u6 :=
  ⟨h 0 _ rfl,h 1 _ rfl,h 2 _ rfl,h 3 _ rfl,h 4 _ rfl,h 5 _ rfl,h 6 _ rfl⟩
theorem Boxd.c7 {W:World} {b:Nat} {u0 u1 u2 u3 u4 u5 u6:Value} (h:Boxd W b [u0,u1,u2,u3,u4,u5,u6]):W.cell? ⟨b,0,none⟩=some u0∧W.cell? ⟨b,1,none⟩=some u1∧W.cell? ⟨b,2,none⟩=some u2∧W.cell? ⟨b,3,none⟩=some u3∧W.cell? ⟨b,4,none⟩=some u4∧W.cell? ⟨b,5,none⟩=some u5∧W.cell? ⟨b,6,none⟩=some u6 :=
  ⟨h 0 _ rfl,h 1 _ rfl,h 2 _ rfl,h 3 _ rfl,h 4 _ rfl,h 5 _ rfl,h 6 _ rfl⟩
structure OneD (w0 W:World) (a:Dat) (us:List Value):Prop where
  bel:Below w0.heap.size w0 W
  one:Boxd W w0.heap.size us
  da:a.H W us
theorem OneD.new {w:World} {a:Dat} {us:List Value} (ha:a.H w us) (T:TypeId):OneD w (w.alloc (.cells us.toArray T)) a us:=by
  have hb:Below w.heap.size w (w.alloc (.cells us.toArray T)):=(Below.refl _ _).alloc (Nat.le_refl _) _
  exact ⟨hb,Boxd.new w us.toArray T,Dat.H.later ha hb⟩
theorem OneD.later {w0 W W':World} {a:Dat} {us:List Value} (h:OneD w0 W a us) (hb:Below W.heap.size W W'):OneD w0 W' a us:=⟨h.bel.trans (hb.mono h.bel.size),h.one.later hb,Dat.H.later h.da hb⟩
structure TwoD (w0 W:World) (a b:Dat) (us vs:List Value):Prop where
  bel:Below w0.heap.size w0 W
  one:Boxd W w0.heap.size us
  two:Boxd W (w0.heap.size+1) vs
  da:a.H W us
  db:b.H W vs
theorem TwoD.new {w:World} {a b:Dat} {us vs:List Value} (ha:a.H w us) (hb:b.H w vs) (T:TypeId):TwoD w ((w.alloc (.cells us.toArray T)).alloc (.cells vs.toArray T)) a b us vs:=by
  obtain ⟨h1,h2,h3⟩:=Boxd.pair w us.toArray vs.toArray T
  exact ⟨h1,h2,h3,Dat.H.later ha h1,Dat.H.later hb h1⟩
theorem TwoD.later {w0 W W':World} {a b:Dat} {us vs:List Value} (h:TwoD w0 W a b us vs) (hb:Below W.heap.size W W'):TwoD w0 W' a b us vs :=
  ⟨h.bel.trans (hb.mono h.bel.size),h.one.later hb,h.two.later hb,Dat.H.later h.da hb,Dat.H.later h.db hb⟩
theorem dc_full {w:World} {N:Prop} {S:Nat→Prop} {d:Dc} {us:List Value} (h:d.dat.In w N S us):∃ F nf cf P np cp G ng cg V nv cv F2 nf2 cf2 P2 np2 cp2 A2 m2 a2 A3 m3 a3 B3 l3 b3 C3 n3 c3,
    us=[.int .i64 d.kind,.string d.name,.slice F nf cf,.slice P np cp,.slice G ng cg,.string d.recv,.slice V nv cv,.string d.sig.name,.slice F2 nf2 cf2,.slice P2 np2 cp2,.string d.sig.res.name,.slice A2 m2 a2,.int .i64 d.sig.res.off,.int .i64 d.sig.off,
      .int .i64 d.body.kind,.string d.body.name,.string d.body.ty.name,.slice A3 m3 a3,.int .i64 d.body.ty.off,.slice B3 l3 b3,.slice C3 n3 c3,.int .i64 d.body.off,.int .i64 d.off]
    ∧ d.name.size≤9223372036854775807∧Row w N S 5 F nf (d.fs.map Fo.dat)∧Row w N S 5 P np (d.ms.map Fo.dat)∧Row w N S 7 G ng (d.gs.map Sg.dat)∧d.recv.size≤9223372036854775807∧Row w N S 1 V nv (d.vs.map Dat.str)
    ∧ d.sig.dat.In w N S [.string d.sig.name,.slice F2 nf2 cf2,.slice P2 np2 cp2,.string d.sig.res.name,.slice A2 m2 a2,.int .i64 d.sig.res.off,.int .i64 d.sig.off]
    ∧ d.body.dat.In w N S [.int .i64 d.body.kind,.string d.body.name,.string d.body.ty.name,.slice A3 m3 a3,.int .i64 d.body.ty.off,.slice B3 l3 b3,.slice C3 n3 c3,.int .i64 d.body.off]:=by
  obtain ⟨F,nf,cf,P,np,cp,G,ng,cg,V,nv,cv,sv,bv,rfl,h1,h2,h3,h4,h5,h6,h7,h8⟩:=dc_open h
  obtain ⟨F2,nf2,cf2,P2,np2,cp2,A2,m2,a2,rfl,_⟩:=sg_open h7
  obtain ⟨A3,m3,a3,B3,l3,b3,C3,n3,c3,rfl,_⟩:=ex_open h8
  exact ⟨F,nf,cf,P,np,cp,G,ng,cg,V,nv,cv,F2,nf2,cf2,P2,np2,cp2,A2,m2,a2,A3,m3,a3,B3,l3,b3,C3,n3,c3,rfl,h1,h2,h3,h4,h5,h6,h7,h8⟩
open Go.RowKit
theorem sameFormal_any (f g:Fo) (us vs:List Value) (w:World) (h1:f.dat.H w us) (h2:g.dat.H w vs):Calls Tryz.prog 73 #[.agg us.toArray,.agg vs.toArray] w (EqvPost w (Fo.sameX false f g)):=by
  have h:=TwoD.new h1 h2 85
  obtain ⟨Au,mu,au,rfl,_,_,ha1⟩:=fo_open h1
  obtain ⟨Av,mv,av,rfl,_,_,ha2⟩:=fo_open h2
  have H0:=hid h
  have HZ0:=hid (Below.refl (((w.alloc (.cells #[.string f.name,.string f.ty.name,.slice Au mu au,.int .i64 f.ty.off,.int .i64 f.off] 85)).alloc (.cells #[.string g.name,.string g.ty.name,.slice Av mv av,.int .i64 g.ty.off,.int .i64 g.off] 85))).heap.size (((w.alloc (.cells #[.string f.name,.string f.ty.name,.slice Au mu au,.int .i64 f.ty.off,.int .i64 f.off] 85)).alloc (.cells #[.string g.name,.string g.ty.name,.slice Av mv av,.int .i64 g.ty.off,.int .i64 g.off] 85))))
  have HA:=hid (Here.later ha1 h.bel)
  have HB:=hid (Here.later ha2 h.bel)
  clear h h1 h2 ha1 ha2
  obtain ⟨q0,hq0⟩:∃ q:Bool,bytesEq f.name g.name=q:=⟨_,rfl⟩
  obtain ⟨q1,hq1⟩:∃ q:Bool,(Ty.cmp f.ty g.ty==0)=q:=⟨_,rfl⟩
  have e0:(f.name.toList==g.name.toList)=q0:=by rw [←hq0,bytesEq,Lib.toList_data,Lib.toList_data]
  have HD:=hid (show Fo.sameX false f g=(q0&&(q1 )) by subst_vars;simp [Fo.sameX])
  have HQ1:=hid hq1
  clear hq0 hq1
  obtain ⟨x0,x1,x2,x3,x4⟩:=H0.out.one.c5
  obtain ⟨y0,y1,y2,y3,y4⟩:=H0.out.two.c5
  go_enter Tryz.func73,Tryz.ntmps73
  cases q0
  · go_wp2_with fail
    go_ret
    exact ⟨ret_bool (by rw [HD.out];rfl),H0.out.bel⟩
  skip
  go_wp2_with fail
  refine (same_any f.ty g.ty Au Av mu mv au av _ (Here.later HA.out HZ0.out) (Here.later HB.out HZ0.out)).mono ?_
  rintro e w1 ⟨rfl,hb⟩
  rw [HQ1.out]
  have H1:=hid (H0.out.later hb)
  have HZ1:=hid (HZ0.out.trans (hb.mono HZ0.out.size))
  clear hb H0 HZ0 x0 x1 x2 x3 x4 y0 y1 y2 y3 y4
  go_wp2_with fail
  go_ret
  exact ⟨ret_bool (by rw [HD.out];rfl),H1.out.bel⟩
theorem eqFormal_any (xs ys:List Fo) (A B:Option Addr) (m l c d:Nat) (w:World) (h1:RowH w 5 A m (xs.map Fo.dat)) (h2:RowH w 5 B l (ys.map Fo.dat)) :
    Calls Tryz.prog 72 #[.slice A m c,.slice B l d,.func (.func 73) #[] #[]] w (EqvPost w (sameBy (Fo.sameX false) xs ys)):=by
  have hm:(m:Int)≤9223372036854775807:=by have:=h1.le;omega
  have hl:(l:Int)≤9223372036854775807:=by have:=h2.le;omega
  have hxl:=h1.len
  have hyl:=h2.len
  rw [List.length_map] at hxl hyl
  have H1:=hid h1
  have H2:=hid h2
  by_cases hml:m=l
  · subst hml
    have e0:((m:Int) != (m:Int))=false:=by simp
    clear h1 h2
    go_enter Tryz.func72,Tryz.ntmps72
    go_wp2_with fail
    go_loopw [17] (fun i wr=>∃ k:Nat,k≤m∧i=.int .i64 k∧sameBy (Fo.sameX false) xs ys=sameBy (Fo.sameX false) (xs.drop k) (ys.drop k)∧Below w.heap.size w wr) (fun i _=>m-(intOf i).toNat)
    case atStart=>exact ⟨0,by omega,rfl,rfl,Below.refl _ _⟩
    obtain ⟨k,hk,rfl,hc,hbel⟩:=hrel
    have HBL:=hid hbel
    have HQ:=hid hc
    clear hc
    have z0:(0:Int)≤k:=by omega
    by_cases hlt1:k<m
    · have z1:(k:Int)<m:=by omega
      obtain ⟨pu,u,ps,rfl,hx,_,_,hu,hcs⟩:=dat_at (RowH.later H1.out hbel) hlt1
      obtain ⟨pv,v,qs,rfl,hy2,_,_,hv,hds⟩:=dat_at (RowH.later H2.out hbel) hlt1
      obtain ⟨hbx,hX,hY⟩:=Boxd.pair wr ps.toArray qs.toArray 85
      have C:=hid (sameFormal_any u v ps qs _ (Dat.H.later hu hbx) (Dat.H.later hv hbx))
      have HB2:=hid (HBL.out.trans (hbx.mono HBL.out.size))
      have HS:=hid (HQ.out.trans (sameBy_on hx hy2))
      have hds':=hds.alloc (.cells ps.toArray 85)
      obtain ⟨Au,mu,au,rfl,_⟩:=fo_open hu
      obtain ⟨Av,mv,av,rfl,_⟩:=fo_open hv
      obtain ⟨f0,f1,f2,f3,f4⟩:=cells5_at hcs
      obtain ⟨g0,g1,g2,g3,g4⟩:=cells5_at hds'
      obtain ⟨x0,x1,x2,x3,x4⟩:=hX.c5
      obtain ⟨y0,y1,y2,y3,y4⟩:=hY.c5
      clear hx hy2 hu hv hcs hds hds' hbel HQ hbx hX hY
      generalize (Fo.sameX false) u v=q at *
      go_wp2_with fail
      refine C.out.mono ?_
      rintro e w1 ⟨rfl,hb1⟩
      have HB1:=hid (HB2.out.trans (hb1.mono HB2.out.size))
      clear hb1 C f0 f1 f2 f3 f4 g0 g1 g2 g3 g4 x0 x1 x2 x3 x4 y0 y1 y2 y3 y4
      cases q
      · go_wp2_with fail
        go_ret
        exact ⟨ret_bool (by rw [HS.out];rfl),HB1.out⟩
      go_wp2_with fail
      go_roundw
      case rel=>exact ⟨k+1,by omega,by go_num,HS.out,HB1.out⟩
      case measure=>simp [intOf];omega
    have z1:(m:Int)≤k:=by omega
    have hq:=HQ.out
    rw [List.drop_eq_nil_of_le (by omega),List.drop_eq_nil_of_le (by omega),sameBy] at hq
    have HQ2:=hid hq
    clear hq hbel
    go_wp2_with fail
    go_ret
    exact ⟨ret_bool (by rw [HQ2.out]),HBL.out⟩
  have e0:((m:Int) != (l:Int))=true:=by simp;omega
  have HQ2:=hid (show sameBy (Fo.sameX false) xs ys=false from sameBy_len (by omega))
  clear h1 h2 hml
  go_enter Tryz.func72,Tryz.ntmps72
  go_wp2_with fail
  go_ret
  exact ⟨ret_bool (by rw [HQ2.out]),Below.refl _ _⟩
theorem sameParam_any (f g:Fo) (us vs:List Value) (w:World) (h1:f.dat.H w us) (h2:g.dat.H w vs):Calls Tryz.prog 75 #[.agg us.toArray,.agg vs.toArray] w (EqvPost w (Fo.sameX false f g)):=by
  have h:=TwoD.new h1 h2 89
  obtain ⟨Au,mu,au,rfl,_,_,ha1⟩:=fo_open h1
  obtain ⟨Av,mv,av,rfl,_,_,ha2⟩:=fo_open h2
  have H0:=hid h
  have HZ0:=hid (Below.refl (((w.alloc (.cells #[.string f.name,.string f.ty.name,.slice Au mu au,.int .i64 f.ty.off,.int .i64 f.off] 89)).alloc (.cells #[.string g.name,.string g.ty.name,.slice Av mv av,.int .i64 g.ty.off,.int .i64 g.off] 89))).heap.size (((w.alloc (.cells #[.string f.name,.string f.ty.name,.slice Au mu au,.int .i64 f.ty.off,.int .i64 f.off] 89)).alloc (.cells #[.string g.name,.string g.ty.name,.slice Av mv av,.int .i64 g.ty.off,.int .i64 g.off] 89))))
  have HA:=hid (Here.later ha1 h.bel)
  have HB:=hid (Here.later ha2 h.bel)
  clear h h1 h2 ha1 ha2
  obtain ⟨q0,hq0⟩:∃ q:Bool,bytesEq f.name g.name=q:=⟨_,rfl⟩
  obtain ⟨q1,hq1⟩:∃ q:Bool,(Ty.cmp f.ty g.ty==0)=q:=⟨_,rfl⟩
  have e0:(f.name.toList==g.name.toList)=q0:=by rw [←hq0,bytesEq,Lib.toList_data,Lib.toList_data]
  have HD:=hid (show Fo.sameX false f g=(q0&&(q1 )) by subst_vars;simp [Fo.sameX])
  have HQ1:=hid hq1
  clear hq0 hq1
  obtain ⟨x0,x1,x2,x3,x4⟩:=H0.out.one.c5
  obtain ⟨y0,y1,y2,y3,y4⟩:=H0.out.two.c5
  go_enter Tryz.func75,Tryz.ntmps75
  cases q0
  · go_wp2_with fail
    go_ret
    exact ⟨ret_bool (by rw [HD.out];rfl),H0.out.bel⟩
  skip
  go_wp2_with fail
  refine (same_any f.ty g.ty Au Av mu mv au av _ (Here.later HA.out HZ0.out) (Here.later HB.out HZ0.out)).mono ?_
  rintro e w1 ⟨rfl,hb⟩
  rw [HQ1.out]
  have H1:=hid (H0.out.later hb)
  have HZ1:=hid (HZ0.out.trans (hb.mono HZ0.out.size))
  clear hb H0 HZ0 x0 x1 x2 x3 x4 y0 y1 y2 y3 y4
  go_wp2_with fail
  go_ret
  exact ⟨ret_bool (by rw [HD.out];rfl),H1.out.bel⟩
theorem eqParam_any (xs ys:List Fo) (A B:Option Addr) (m l c d:Nat) (w:World) (h1:RowH w 5 A m (xs.map Fo.dat)) (h2:RowH w 5 B l (ys.map Fo.dat)) :
    Calls Tryz.prog 74 #[.slice A m c,.slice B l d,.func (.func 75) #[] #[]] w (EqvPost w (sameBy (Fo.sameX false) xs ys)):=by
  have hm:(m:Int)≤9223372036854775807:=by have:=h1.le;omega
  have hl:(l:Int)≤9223372036854775807:=by have:=h2.le;omega
  have hxl:=h1.len
  have hyl:=h2.len
  rw [List.length_map] at hxl hyl
  have H1:=hid h1
  have H2:=hid h2
  by_cases hml:m=l
  · subst hml
    have e0:((m:Int) != (m:Int))=false:=by simp
    clear h1 h2
    go_enter Tryz.func74,Tryz.ntmps74
    go_wp2_with fail
    go_loopw [17] (fun i wr=>∃ k:Nat,k≤m∧i=.int .i64 k∧sameBy (Fo.sameX false) xs ys=sameBy (Fo.sameX false) (xs.drop k) (ys.drop k)∧Below w.heap.size w wr) (fun i _=>m-(intOf i).toNat)
    case atStart=>exact ⟨0,by omega,rfl,rfl,Below.refl _ _⟩
    obtain ⟨k,hk,rfl,hc,hbel⟩:=hrel
    have HBL:=hid hbel
    have HQ:=hid hc
    clear hc
    have z0:(0:Int)≤k:=by omega
    by_cases hlt1:k<m
    · have z1:(k:Int)<m:=by omega
      obtain ⟨pu,u,ps,rfl,hx,_,_,hu,hcs⟩:=dat_at (RowH.later H1.out hbel) hlt1
      obtain ⟨pv,v,qs,rfl,hy2,_,_,hv,hds⟩:=dat_at (RowH.later H2.out hbel) hlt1
      obtain ⟨hbx,hX,hY⟩:=Boxd.pair wr ps.toArray qs.toArray 89
      have C:=hid (sameParam_any u v ps qs _ (Dat.H.later hu hbx) (Dat.H.later hv hbx))
      have HB2:=hid (HBL.out.trans (hbx.mono HBL.out.size))
      have HS:=hid (HQ.out.trans (sameBy_on hx hy2))
      have hds':=hds.alloc (.cells ps.toArray 89)
      obtain ⟨Au,mu,au,rfl,_⟩:=fo_open hu
      obtain ⟨Av,mv,av,rfl,_⟩:=fo_open hv
      obtain ⟨f0,f1,f2,f3,f4⟩:=cells5_at hcs
      obtain ⟨g0,g1,g2,g3,g4⟩:=cells5_at hds'
      obtain ⟨x0,x1,x2,x3,x4⟩:=hX.c5
      obtain ⟨y0,y1,y2,y3,y4⟩:=hY.c5
      clear hx hy2 hu hv hcs hds hds' hbel HQ hbx hX hY
      generalize (Fo.sameX false) u v=q at *
      go_wp2_with fail
      refine C.out.mono ?_
      rintro e w1 ⟨rfl,hb1⟩
      have HB1:=hid (HB2.out.trans (hb1.mono HB2.out.size))
      clear hb1 C f0 f1 f2 f3 f4 g0 g1 g2 g3 g4 x0 x1 x2 x3 x4 y0 y1 y2 y3 y4
      cases q
      · go_wp2_with fail
        go_ret
        exact ⟨ret_bool (by rw [HS.out];rfl),HB1.out⟩
      go_wp2_with fail
      go_roundw
      case rel=>exact ⟨k+1,by omega,by go_num,HS.out,HB1.out⟩
      case measure=>simp [intOf];omega
    have z1:(m:Int)≤k:=by omega
    have hq:=HQ.out
    rw [List.drop_eq_nil_of_le (by omega),List.drop_eq_nil_of_le (by omega),sameBy] at hq
    have HQ2:=hid hq
    clear hq hbel
    go_wp2_with fail
    go_ret
    exact ⟨ret_bool (by rw [HQ2.out]),HBL.out⟩
  have e0:((m:Int) != (l:Int))=true:=by simp;omega
  have HQ2:=hid (show sameBy (Fo.sameX false) xs ys=false from sameBy_len (by omega))
  clear h1 h2 hml
  go_enter Tryz.func74,Tryz.ntmps74
  go_wp2_with fail
  go_ret
  exact ⟨ret_bool (by rw [HQ2.out]),Below.refl _ _⟩
theorem sameSig_any (a b:Sg) (us vs:List Value) (w:World) (h1:a.dat.H w us) (h2:b.dat.H w vs):Calls Tryz.prog 77 #[.agg us.toArray,.agg vs.toArray] w (EqvPost w (Sg.sameX false a b)):=by
  have h:=TwoD.new h1 h2 31
  obtain ⟨Fu,nfu,cfu,Pu,npu,cpu,Au,mu,au,rfl,_,hf1,hp1,_,ha1⟩:=sg_open h1
  obtain ⟨Fv,nfv,cfv,Pv,npv,cpv,Av,mv,av,rfl,_,hf2,hp2,_,ha2⟩:=sg_open h2
  have H0:=hid h
  have HZ0:=hid (Below.refl (((w.alloc (.cells #[.string a.name,.slice Fu nfu cfu,.slice Pu npu cpu,.string a.res.name,.slice Au mu au,.int .i64 a.res.off,.int .i64 a.off] 31)).alloc (.cells #[.string b.name,.slice Fv nfv cfv,.slice Pv npv cpv,.string b.res.name,.slice Av mv av,.int .i64 b.res.off,.int .i64 b.off] 31))).heap.size (((w.alloc (.cells #[.string a.name,.slice Fu nfu cfu,.slice Pu npu cpu,.string a.res.name,.slice Au mu au,.int .i64 a.res.off,.int .i64 a.off] 31)).alloc (.cells #[.string b.name,.slice Fv nfv cfv,.slice Pv npv cpv,.string b.res.name,.slice Av mv av,.int .i64 b.res.off,.int .i64 b.off] 31))))
  have HF1:=hid (RowH.later hf1 h.bel)
  have HF2:=hid (RowH.later hf2 h.bel)
  have HP1:=hid (RowH.later hp1 h.bel)
  have HP2:=hid (RowH.later hp2 h.bel)
  have HA1:=hid (Here.later ha1 h.bel)
  have HA2:=hid (Here.later ha2 h.bel)
  clear h h1 h2 hf1 hf2 hp1 hp2 ha1 ha2
  obtain ⟨q0,hq0⟩:∃ q:Bool,bytesEq a.name b.name=q:=⟨_,rfl⟩
  obtain ⟨q1,hq1⟩:∃ q:Bool,sameBy (Fo.sameX false) a.fs b.fs=q:=⟨_,rfl⟩
  obtain ⟨q2,hq2⟩:∃ q:Bool,sameBy (Fo.sameX false) a.ps b.ps=q:=⟨_,rfl⟩
  obtain ⟨q3,hq3⟩:∃ q:Bool,(Ty.cmp a.res b.res==0)=q:=⟨_,rfl⟩
  have e0:(a.name.toList==b.name.toList)=q0:=by rw [←hq0,bytesEq,Lib.toList_data,Lib.toList_data]
  have HD:=hid (show Sg.sameX false a b=(q0&&(q1&&(q2&&(q3 )))) by subst_vars;simp [Sg.sameX,Bool.and_assoc])
  have HQ1:=hid hq1
  have HQ2:=hid hq2
  have HQ3:=hid hq3
  clear hq0 hq1 hq2 hq3
  obtain ⟨x0,x1,x2,x3,x4,x5,x6⟩:=H0.out.one.c7
  obtain ⟨y0,y1,y2,y3,y4,y5,y6⟩:=H0.out.two.c7
  go_enter Tryz.func77,Tryz.ntmps77
  cases q0
  · go_wp2_with fail
    go_ret
    exact ⟨ret_bool (by rw [HD.out];rfl),H0.out.bel⟩
  skip
  go_wp2_with fail
  refine (eqFormal_any a.fs b.fs Fu Fv nfu nfv cfu cfv _ (RowH.later HF1.out HZ0.out) (RowH.later HF2.out HZ0.out)).mono ?_
  rintro e w1 ⟨rfl,hb⟩
  rw [HQ1.out]
  have H1:=hid (H0.out.later hb)
  have HZ1:=hid (HZ0.out.trans (hb.mono HZ0.out.size))
  clear hb H0 HZ0 x0 x1 x2 x3 x4 x5 x6 y0 y1 y2 y3 y4 y5 y6
  obtain ⟨x0,x1,x2,x3,x4,x5,x6⟩:=H1.out.one.c7
  obtain ⟨y0,y1,y2,y3,y4,y5,y6⟩:=H1.out.two.c7
  cases q1
  · go_wp2_with fail
    go_ret
    exact ⟨ret_bool (by rw [HD.out];rfl),H1.out.bel⟩
  skip
  go_wp2_with fail
  refine (eqParam_any a.ps b.ps Pu Pv npu npv cpu cpv _ (RowH.later HP1.out HZ1.out) (RowH.later HP2.out HZ1.out)).mono ?_
  rintro e w2 ⟨rfl,hb⟩
  rw [HQ2.out]
  have H2:=hid (H1.out.later hb)
  have HZ2:=hid (HZ1.out.trans (hb.mono HZ1.out.size))
  clear hb H1 HZ1 x0 x1 x2 x3 x4 x5 x6 y0 y1 y2 y3 y4 y5 y6
  obtain ⟨x0,x1,x2,x3,x4,x5,x6⟩:=H2.out.one.c7
  obtain ⟨y0,y1,y2,y3,y4,y5,y6⟩:=H2.out.two.c7
  cases q2
  · go_wp2_with fail
    go_ret
    exact ⟨ret_bool (by rw [HD.out];rfl),H2.out.bel⟩
  skip
  go_wp2_with fail
  refine (same_any a.res b.res Au Av mu mv au av _ (Here.later HA1.out HZ2.out) (Here.later HA2.out HZ2.out)).mono ?_
  rintro e w3 ⟨rfl,hb⟩
  rw [HQ3.out]
  have H3:=hid (H2.out.later hb)
  have HZ3:=hid (HZ2.out.trans (hb.mono HZ2.out.size))
  clear hb H2 HZ2 x0 x1 x2 x3 x4 x5 x6 y0 y1 y2 y3 y4 y5 y6
  go_wp2_with fail
  go_ret
  exact ⟨ret_bool (by rw [HD.out];rfl),H3.out.bel⟩
open Go.RowKit
theorem eqSig_any (xs ys:List Sg) (A B:Option Addr) (m l c d:Nat) (w:World) (h1:RowH w 7 A m (xs.map Sg.dat)) (h2:RowH w 7 B l (ys.map Sg.dat)) :
    Calls Tryz.prog 76 #[.slice A m c,.slice B l d,.func (.func 77) #[] #[]] w (EqvPost w (sameBy (Sg.sameX false) xs ys)):=by
  have hm:(m:Int)≤9223372036854775807:=by have:=h1.le;omega
  have hl:(l:Int)≤9223372036854775807:=by have:=h2.le;omega
  have hxl:=h1.len
  have hyl:=h2.len
  rw [List.length_map] at hxl hyl
  have H1:=hid h1
  have H2:=hid h2
  by_cases hml:m=l
  · subst hml
    have e0:((m:Int) != (m:Int))=false:=by simp
    clear h1 h2
    go_enter Tryz.func76,Tryz.ntmps76
    go_wp2_with fail
    go_loopw [17] (fun i wr=>∃ k:Nat,k≤m∧i=.int .i64 k∧sameBy (Sg.sameX false) xs ys=sameBy (Sg.sameX false) (xs.drop k) (ys.drop k)∧Below w.heap.size w wr) (fun i _=>m-(intOf i).toNat)
    case atStart=>exact ⟨0,by omega,rfl,rfl,Below.refl _ _⟩
    obtain ⟨k,hk,rfl,hc,hbel⟩:=hrel
    have HBL:=hid hbel
    have HQ:=hid hc
    clear hc
    have z0:(0:Int)≤k:=by omega
    by_cases hlt1:k<m
    · have z1:(k:Int)<m:=by omega
      obtain ⟨pu,u,ps,rfl,hx,_,_,hu,hcs⟩:=dat_at (RowH.later H1.out hbel) hlt1
      obtain ⟨pv,v,qs,rfl,hy2,_,_,hv,hds⟩:=dat_at (RowH.later H2.out hbel) hlt1
      obtain ⟨hbx,hX,hY⟩:=Boxd.pair wr ps.toArray qs.toArray 31
      have C:=hid (sameSig_any u v ps qs _ (Dat.H.later hu hbx) (Dat.H.later hv hbx))
      have HB2:=hid (HBL.out.trans (hbx.mono HBL.out.size))
      have HS:=hid (HQ.out.trans (sameBy_on hx hy2))
      have hds':=hds.alloc (.cells ps.toArray 31)
      obtain ⟨Fu,nfu,cfu,Pu,npu,cpu,Au,mu,au,rfl,_⟩:=sg_open hu
      obtain ⟨Fv,nfv,cfv,Pv,npv,cpv,Av,mv,av,rfl,_⟩:=sg_open hv
      obtain ⟨f0,f1,f2,f3,f4,f5,f6⟩:=cells7_at hcs
      obtain ⟨g0,g1,g2,g3,g4,g5,g6⟩:=cells7_at hds'
      obtain ⟨x0,x1,x2,x3,x4,x5,x6⟩:=hX.c7
      obtain ⟨y0,y1,y2,y3,y4,y5,y6⟩:=hY.c7
      clear hx hy2 hu hv hcs hds hds' hbel HQ hbx hX hY
      generalize (Sg.sameX false) u v=q at *
      go_wp2_with fail
      refine C.out.mono ?_
      rintro e w1 ⟨rfl,hb1⟩
      have HB1:=hid (HB2.out.trans (hb1.mono HB2.out.size))
      clear hb1 C f0 f1 f2 f3 f4 f5 f6 g0 g1 g2 g3 g4 g5 g6 x0 x1 x2 x3 x4 x5 x6 y0 y1 y2 y3 y4 y5 y6
      cases q
      · go_wp2_with fail
        go_ret
        exact ⟨ret_bool (by rw [HS.out];rfl),HB1.out⟩
      go_wp2_with fail
      go_roundw
      case rel=>exact ⟨k+1,by omega,by go_num,HS.out,HB1.out⟩
      case measure=>simp [intOf];omega
    have z1:(m:Int)≤k:=by omega
    have hq:=HQ.out
    rw [List.drop_eq_nil_of_le (by omega),List.drop_eq_nil_of_le (by omega),sameBy] at hq
    have HQ2:=hid hq
    clear hq hbel
    go_wp2_with fail
    go_ret
    exact ⟨ret_bool (by rw [HQ2.out]),HBL.out⟩
  have e0:((m:Int) != (l:Int))=true:=by simp;omega
  have HQ2:=hid (show sameBy (Sg.sameX false) xs ys=false from sameBy_len (by omega))
  clear h1 h2 hml
  go_enter Tryz.func76,Tryz.ntmps76
  go_wp2_with fail
  go_ret
  exact ⟨ret_bool (by rw [HQ2.out]),Below.refl _ _⟩
theorem eqStrs_any (xs ys:List ByteArray) (A B:Option Addr) (m l c d:Nat) (w:World) (h1:RowH w 1 A m (xs.map Dat.str)) (h2:RowH w 1 B l (ys.map Dat.str)) :
    Calls Tryz.prog 78 #[.slice A m c,.slice B l d] w (EqvPost w (sameBy bytesEq xs ys)):=by
  have hm:(m:Int)≤9223372036854775807:=by have:=h1.le;omega
  have hl:(l:Int)≤9223372036854775807:=by have:=h2.le;omega
  have hxl:=h1.len
  have hyl:=h2.len
  rw [List.length_map] at hxl hyl
  have H1:=hid h1
  have H2:=hid h2
  by_cases hml:m=l
  · subst hml
    have e0:((m:Int) != (m:Int))=false:=by simp
    clear h1 h2
    go_enter Tryz.func78,Tryz.ntmps78
    go_wp2_with fail
    go_loopw [13] (fun i wr=>∃ k:Nat,k≤m∧i=.int .i64 k∧sameBy bytesEq xs ys=sameBy bytesEq (xs.drop k) (ys.drop k)∧Below w.heap.size w wr) (fun i _=>m-(intOf i).toNat)
    case atStart=>exact ⟨0,by omega,rfl,rfl,Below.refl _ _⟩
    obtain ⟨k,hk,rfl,hc,hbel⟩:=hrel
    have HBL:=hid hbel
    have HQ:=hid hc
    clear hc
    have z0:(0:Int)≤k:=by omega
    by_cases hlt1:k<m
    · have z1:(k:Int)<m:=by omega
      obtain ⟨pu,u,ps,rfl,hx,_,_,hu,hcs⟩:=dat_at (RowH.later H1.out hbel) hlt1
      obtain ⟨pv,v,qs,rfl,hy2,_,_,hv,hds⟩:=dat_at (RowH.later H2.out hbel) hlt1
      rw [Dat.In] at hu hv
      obtain ⟨rfl,_⟩:=hu
      obtain ⟨rfl,_⟩:=hv
      have HS:=hid (HQ.out.trans (sameBy_on hx hy2))
      have f0:=hcs 0 _ rfl
      have g0:=hds 0 _ rfl
      rw [add_add,Nat.mul_one,Nat.add_zero] at f0 g0
      obtain ⟨q,hq⟩:∃ q:Bool,bytesEq u v=q:=⟨_,rfl⟩
      have e1:(u.toList==v.toList)=q:=by rw [←hq,bytesEq,Lib.toList_data,Lib.toList_data]
      have e2:(u.toList != v.toList)=!q:=by rw [←e1];rfl
      have HQ2:=hid hq
      clear hx hy2 hcs hds hbel HQ hq
      cases q
      · rw [Bool.not_false] at e2
        have HC:=hid (HS.out.trans (by rw [HQ2.out];rfl:_=false))
        go_wp2_with fail
        go_quiet (fail)
        go_wp2_with fail
        go_ret
        exact ⟨ret_bool (by rw [HC.out]),below_drewN HBL.out _⟩
      rw [Bool.not_true] at e2
      have HC:=hid (HS.out.trans (by rw [HQ2.out,Bool.true_and]:_=sameBy bytesEq (xs.drop (k+1)) (ys.drop (k+1))))
      go_wp2_with fail
      go_quiet (fail)
      go_wp2_with fail
      go_roundw
      case rel=>exact ⟨k+1,by omega,by go_num,HC.out,below_drewN HBL.out _⟩
      case measure=>simp [intOf];omega
    have z1:(m:Int)≤k:=by omega
    have hq:=HQ.out
    rw [List.drop_eq_nil_of_le (by omega),List.drop_eq_nil_of_le (by omega),sameBy] at hq
    have HQ2:=hid hq
    clear hq hbel
    go_wp2_with fail
    go_ret
    exact ⟨ret_bool (by rw [HQ2.out]),HBL.out⟩
  have e0:((m:Int) != (l:Int))=true:=by simp;omega
  have HQ2:=hid (show sameBy bytesEq xs ys=false from sameBy_len (by omega))
  clear h1 h2 hml
  go_enter Tryz.func78,Tryz.ntmps78
  go_wp2_with fail
  go_ret
  exact ⟨ret_bool (by rw [HQ2.out]),Below.refl _ _⟩
open Go.RowKit
theorem sameDecl_any (a b:Dc) (us vs:List Value) (w:World) (h1:a.dat.H w us) (h2:b.dat.H w vs):Calls Tryz.prog 33 #[.agg us.toArray,.agg vs.toArray] w (EqvPost w (Dc.sameX false a b)):=by
  have h:=TwoD.new h1 h2 36
  obtain ⟨Fu,nfu,cfu,Pu,npu,cpu,Gu,ngu,cgu,Vu,nvu,cvu,F2u,nf2u,cf2u,P2u,np2u,cp2u,A2u,m2u,a2u,A3u,m3u,a3u,B3u,l3u,b3u,C3u,n3u,c3u,rfl,_,hf1,hp1,hg1,_,hv1,hs1,hb1⟩:=dc_full h1
  obtain ⟨Fv,nfv,cfv,Pv,npv,cpv,Gv,ngv,cgv,Vv,nvv,cvv,F2v,nf2v,cf2v,P2v,np2v,cp2v,A2v,m2v,a2v,A3v,m3v,a3v,B3v,l3v,b3v,C3v,n3v,c3v,rfl,_,hf2,hp2,hg2,_,hv2,hs2,hb2⟩:=dc_full h2
  have H0:=hid h
  have HZ0:=hid (Below.refl (((w.alloc (.cells #[.int .i64 a.kind,.string a.name,.slice Fu nfu cfu,.slice Pu npu cpu,.slice Gu ngu cgu,.string a.recv,.slice Vu nvu cvu,.string a.sig.name,.slice F2u nf2u cf2u,.slice P2u np2u cp2u,.string a.sig.res.name,.slice A2u m2u a2u,.int .i64 a.sig.res.off,.int .i64 a.sig.off,.int .i64 a.body.kind,.string a.body.name,.string a.body.ty.name,.slice A3u m3u a3u,.int .i64 a.body.ty.off,.slice B3u l3u b3u,.slice C3u n3u c3u,.int .i64 a.body.off,.int .i64 a.off] 36)).alloc (.cells #[.int .i64 b.kind,.string b.name,.slice Fv nfv cfv,.slice Pv npv cpv,.slice Gv ngv cgv,.string b.recv,.slice Vv nvv cvv,.string b.sig.name,.slice F2v nf2v cf2v,.slice P2v np2v cp2v,.string b.sig.res.name,.slice A2v m2v a2v,.int .i64 b.sig.res.off,.int .i64 b.sig.off,.int .i64 b.body.kind,.string b.body.name,.string b.body.ty.name,.slice A3v m3v a3v,.int .i64 b.body.ty.off,.slice B3v l3v b3v,.slice C3v n3v c3v,.int .i64 b.body.off,.int .i64 b.off] 36))).heap.size (((w.alloc (.cells #[.int .i64 a.kind,.string a.name,.slice Fu nfu cfu,.slice Pu npu cpu,.slice Gu ngu cgu,.string a.recv,.slice Vu nvu cvu,.string a.sig.name,.slice F2u nf2u cf2u,.slice P2u np2u cp2u,.string a.sig.res.name,.slice A2u m2u a2u,.int .i64 a.sig.res.off,.int .i64 a.sig.off,.int .i64 a.body.kind,.string a.body.name,.string a.body.ty.name,.slice A3u m3u a3u,.int .i64 a.body.ty.off,.slice B3u l3u b3u,.slice C3u n3u c3u,.int .i64 a.body.off,.int .i64 a.off] 36)).alloc (.cells #[.int .i64 b.kind,.string b.name,.slice Fv nfv cfv,.slice Pv npv cpv,.slice Gv ngv cgv,.string b.recv,.slice Vv nvv cvv,.string b.sig.name,.slice F2v nf2v cf2v,.slice P2v np2v cp2v,.string b.sig.res.name,.slice A2v m2v a2v,.int .i64 b.sig.res.off,.int .i64 b.sig.off,.int .i64 b.body.kind,.string b.body.name,.string b.body.ty.name,.slice A3v m3v a3v,.int .i64 b.body.ty.off,.slice B3v l3v b3v,.slice C3v n3v c3v,.int .i64 b.body.off,.int .i64 b.off] 36))))
  have HF1:=hid (RowH.later hf1 h.bel)
  have HF2:=hid (RowH.later hf2 h.bel)
  have HP1:=hid (RowH.later hp1 h.bel)
  have HP2:=hid (RowH.later hp2 h.bel)
  have HG1:=hid (RowH.later hg1 h.bel)
  have HG2:=hid (RowH.later hg2 h.bel)
  have HV1:=hid (RowH.later hv1 h.bel)
  have HV2:=hid (RowH.later hv2 h.bel)
  have HS1:=hid (Dat.H.later hs1 h.bel)
  have HS2:=hid (Dat.H.later hs2 h.bel)
  have HB1:=hid (Dat.H.later hb1 h.bel)
  have HB2:=hid (Dat.H.later hb2 h.bel)
  clear h h1 h2 hf1 hf2 hp1 hp2 hg1 hg2 hv1 hv2 hs1 hs2 hb1 hb2
  obtain ⟨q0,hq0⟩:∃ q:Bool,(a.kind==b.kind)=q:=⟨_,rfl⟩
  obtain ⟨q1,hq1⟩:∃ q:Bool,bytesEq a.name b.name=q:=⟨_,rfl⟩
  obtain ⟨q2,hq2⟩:∃ q:Bool,bytesEq a.recv b.recv=q:=⟨_,rfl⟩
  obtain ⟨q3,hq3⟩:∃ q:Bool,sameBy (Fo.sameX false) a.fs b.fs=q:=⟨_,rfl⟩
  obtain ⟨q4,hq4⟩:∃ q:Bool,sameBy (Fo.sameX false) a.ms b.ms=q:=⟨_,rfl⟩
  obtain ⟨q5,hq5⟩:∃ q:Bool,sameBy (Sg.sameX false) a.gs b.gs=q:=⟨_,rfl⟩
  obtain ⟨q6,hq6⟩:∃ q:Bool,sameBy bytesEq a.vs b.vs=q:=⟨_,rfl⟩
  obtain ⟨q7,hq7⟩:∃ q:Bool,Sg.sameX false a.sig b.sig=q:=⟨_,rfl⟩
  obtain ⟨q8,hq8⟩:∃ q:Bool,a.body.same b.body=q:=⟨_,rfl⟩
  have e0:(a.kind==b.kind)=q0:=by exact hq0
  have e1:(a.name.toList==b.name.toList)=q1:=by rw [←hq1,bytesEq,Lib.toList_data,Lib.toList_data]
  have e2:(a.recv.toList==b.recv.toList)=q2:=by rw [←hq2,bytesEq,Lib.toList_data,Lib.toList_data]
  have HD:=hid (show Dc.sameX false a b=(q0&&(q1&&(q2&&(q3&&(q4&&(q5&&(q6&&(q7&&(q8 ))))))))) by subst_vars;simp [Dc.sameX,Bool.and_assoc])
  have HQ3:=hid hq3
  have HQ4:=hid hq4
  have HQ5:=hid hq5
  have HQ6:=hid hq6
  have HQ7:=hid hq7
  have HQ8:=hid hq8
  clear hq0 hq1 hq2 hq3 hq4 hq5 hq6 hq7 hq8
  have x0:=H0.out.one 0 _ rfl
  have x1:=H0.out.one 1 _ rfl
  have x2:=H0.out.one 2 _ rfl
  have x5:=H0.out.one 5 _ rfl
  have y0:=H0.out.two 0 _ rfl
  have y1:=H0.out.two 1 _ rfl
  have y2:=H0.out.two 2 _ rfl
  have y5:=H0.out.two 5 _ rfl
  go_enter Tryz.func33,Tryz.ntmps33
  cases q0
  · go_wp2_with fail
    go_ret
    exact ⟨ret_bool (by rw [HD.out];rfl),H0.out.bel⟩
  skip
  cases q1
  · go_wp2_with fail
    go_ret
    exact ⟨ret_bool (by rw [HD.out];rfl),H0.out.bel⟩
  skip
  cases q2
  · go_wp2_with fail
    go_ret
    exact ⟨ret_bool (by rw [HD.out];rfl),H0.out.bel⟩
  skip
  go_wp2_with fail
  refine (eqFormal_any a.fs b.fs Fu Fv nfu nfv cfu cfv _ (RowH.later HF1.out HZ0.out) (RowH.later HF2.out HZ0.out)).mono ?_
  rintro e w1 ⟨rfl,hb⟩
  rw [HQ3.out]
  have H1:=hid (H0.out.later hb)
  have HZ1:=hid (HZ0.out.trans (hb.mono HZ0.out.size))
  clear hb H0 HZ0 x0 x1 x2 x5 y0 y1 y2 y5
  have x3:=H1.out.one 3 _ rfl
  have y3:=H1.out.two 3 _ rfl
  cases q3
  · go_wp2_with fail
    go_ret
    exact ⟨ret_bool (by rw [HD.out];rfl),H1.out.bel⟩
  skip
  go_wp2_with fail
  refine (eqParam_any a.ms b.ms Pu Pv npu npv cpu cpv _ (RowH.later HP1.out HZ1.out) (RowH.later HP2.out HZ1.out)).mono ?_
  rintro e w2 ⟨rfl,hb⟩
  rw [HQ4.out]
  have H2:=hid (H1.out.later hb)
  have HZ2:=hid (HZ1.out.trans (hb.mono HZ1.out.size))
  clear hb H1 HZ1 x3 y3
  have x4:=H2.out.one 4 _ rfl
  have y4:=H2.out.two 4 _ rfl
  cases q4
  · go_wp2_with fail
    go_ret
    exact ⟨ret_bool (by rw [HD.out];rfl),H2.out.bel⟩
  skip
  go_wp2_with fail
  refine (eqSig_any a.gs b.gs Gu Gv ngu ngv cgu cgv _ (RowH.later HG1.out HZ2.out) (RowH.later HG2.out HZ2.out)).mono ?_
  rintro e w3 ⟨rfl,hb⟩
  rw [HQ5.out]
  have H3:=hid (H2.out.later hb)
  have HZ3:=hid (HZ2.out.trans (hb.mono HZ2.out.size))
  clear hb H2 HZ2 x4 y4
  have x6:=H3.out.one 6 _ rfl
  have y6:=H3.out.two 6 _ rfl
  cases q5
  · go_wp2_with fail
    go_ret
    exact ⟨ret_bool (by rw [HD.out];rfl),H3.out.bel⟩
  skip
  go_wp2_with fail
  refine (eqStrs_any a.vs b.vs Vu Vv nvu nvv cvu cvv _ (RowH.later HV1.out HZ3.out) (RowH.later HV2.out HZ3.out)).mono ?_
  rintro e w4 ⟨rfl,hb⟩
  rw [HQ6.out]
  have H4:=hid (H3.out.later hb)
  have HZ4:=hid (HZ3.out.trans (hb.mono HZ3.out.size))
  clear hb H3 HZ3 x6 y6
  have x7:=H4.out.one 7 _ rfl
  have x8:=H4.out.one 8 _ rfl
  have x9:=H4.out.one 9 _ rfl
  have x10:=H4.out.one 10 _ rfl
  have x11:=H4.out.one 11 _ rfl
  have x12:=H4.out.one 12 _ rfl
  have x13:=H4.out.one 13 _ rfl
  have y7:=H4.out.two 7 _ rfl
  have y8:=H4.out.two 8 _ rfl
  have y9:=H4.out.two 9 _ rfl
  have y10:=H4.out.two 10 _ rfl
  have y11:=H4.out.two 11 _ rfl
  have y12:=H4.out.two 12 _ rfl
  have y13:=H4.out.two 13 _ rfl
  cases q6
  · go_wp2_with fail
    go_ret
    exact ⟨ret_bool (by rw [HD.out];rfl),H4.out.bel⟩
  skip
  go_wp2_with fail
  refine (sameSig_any a.sig b.sig _ _ _ (Dat.H.later HS1.out HZ4.out) (Dat.H.later HS2.out HZ4.out)).mono ?_
  rintro e w5 ⟨rfl,hb⟩
  rw [HQ7.out]
  have H5:=hid (H4.out.later hb)
  have HZ5:=hid (HZ4.out.trans (hb.mono HZ4.out.size))
  clear hb H4 HZ4 x7 x8 x9 x10 x11 x12 x13 y7 y8 y9 y10 y11 y12 y13
  have x14:=H5.out.one 14 _ rfl
  have x15:=H5.out.one 15 _ rfl
  have x16:=H5.out.one 16 _ rfl
  have x17:=H5.out.one 17 _ rfl
  have x18:=H5.out.one 18 _ rfl
  have x19:=H5.out.one 19 _ rfl
  have x20:=H5.out.one 20 _ rfl
  have x21:=H5.out.one 21 _ rfl
  have y14:=H5.out.two 14 _ rfl
  have y15:=H5.out.two 15 _ rfl
  have y16:=H5.out.two 16 _ rfl
  have y17:=H5.out.two 17 _ rfl
  have y18:=H5.out.two 18 _ rfl
  have y19:=H5.out.two 19 _ rfl
  have y20:=H5.out.two 20 _ rfl
  have y21:=H5.out.two 21 _ rfl
  cases q7
  · go_wp2_with fail
    go_ret
    exact ⟨ret_bool (by rw [HD.out];rfl),H5.out.bel⟩
  skip
  go_wp2_with fail
  refine (xsame_any a.body b.body _ _ _ (Dat.H.later HB1.out HZ5.out) (Dat.H.later HB2.out HZ5.out)).mono ?_
  rintro e w6 ⟨rfl,hb⟩
  rw [HQ8.out]
  have H6:=hid (H5.out.later hb)
  have HZ6:=hid (HZ5.out.trans (hb.mono HZ5.out.size))
  clear hb H5 HZ5 x14 x15 x16 x17 x18 x19 x20 x21 y14 y15 y16 y17 y18 y19 y20 y21
  go_wp2_with fail
  go_ret
  exact ⟨ret_bool (by rw [HD.out];rfl),H6.out.bel⟩
open Go.RowKit
attribute [local go_sem] Oper.semAt_some
theorem room_of_none {F:Fence} (hd:F.depth=none) (k:Nat):F.room k:=fun d h=>by rw [hd] at h;cases h
theorem RoundIn.anyDepth {F:Fence} (hd:F.depth=none) {m m':Nat} {P:Program} {l:Nat} {f:FuncId} {tmps:Array Value} {assign body:Code} {w:World} {R:Ending→World→Prop}
    (h:RoundIn F m P l f tmps assign body w R):RoundIn F m' P l f tmps assign body w R:=⟨h.1,fun c cs _=>h.2 c cs (room_of_none hd _)⟩
theorem YieldAt.anyDepth {F:Fence} (hd:F.depth=none) {m:Nat} (m':Nat) {P:Program} {l:Nat} {args:Array Value} {W:World} {R:Ending→World→Prop} (h:YieldAt F m P l args W R):YieldAt F m' P l args W R:=by
  obtain ⟨fn,tmps,assign,body,hy,hR⟩:=h
  exact ⟨fn,tmps,assign,body,hy,RoundIn.anyDepth hd hR⟩
def Lasts (w w':World) (S:Nat→Prop):Prop:=∀ (p:Addr) (v:Value),S p.block→w.cell? p=some v→w'.cell? p=some v
mutual
theorem Dat.In.last {w w':World} {S:Nat→Prop} (hk:Lasts w w' S):∀ (d:Dat) (us:List Value),d.In w False S us→d.In w' False S us
  | .cell v,us,h=>by rw [Dat.In] at h ⊢;exact h
  | .str s,us,h=>by rw [Dat.In] at h ⊢;exact h
  | .tup fs,us,h=>by rw [Dat.In] at h ⊢;exact Dat.Ins.last hk fs us h
  | .arr q z xs,us,h=>by
    rw [Dat.In] at h ⊢
    obtain ⟨A,c,h1,h2,hq,h3⟩:=h
    exact ⟨A,c,h1,h2,hq,Dat.Elems.last hk z A xs 0 h3⟩
theorem Dat.Ins.last {w w':World} {S:Nat→Prop} (hk:Lasts w w' S):∀ (ds:List Dat) (us:List Value),Dat.Ins w False S ds us→Dat.Ins w' False S ds us
  | [],us,h=>by rw [Dat.Ins] at h ⊢;exact h
  | d :: r,us,h=>by
    rw [Dat.Ins] at h ⊢
    obtain ⟨u1,u2,h1,h2,h3⟩:=h
    exact ⟨u1,u2,h1,Dat.In.last hk d u1 h2,Dat.Ins.last hk r u2 h3⟩
theorem Dat.Elems.last {w w':World} {S:Nat→Prop} (hk:Lasts w w' S) (z:Nat) (A:Option Addr):∀ (ds:List Dat) (i:Nat),Dat.Elems w False S z A i ds→Dat.Elems w' False S z A i ds
  | [],i,h=>by rw [Dat.Elems];trivial
  | d :: r,i,h=>by
    rw [Dat.Elems] at h ⊢
    obtain ⟨⟨a,us,e,h1,h2,h3,h4⟩,h5⟩:=h
    exact ⟨⟨a,us,e,h1,False.elim,Dat.In.last hk d us h3,fun j u hu=>hk _ _ (by rw [block_of_add,block_of_add];exact h1) (h4 j u hu)⟩,Dat.Elems.last hk z A r (i+1) h5⟩
end
theorem CellsAt.last {w w':World} {S:Nat→Prop} {p:Addr} {us:List Value} (h:CellsAt w p us) (hk:Lasts w w' S) (hp:S p.block):CellsAt w' p us:=fun j u hu=>hk _ _ (by rw [block_of_add];exact hp) (h j u hu)
structure KeepE (n m:Nat) (W W':World):Prop where
  size:W.heap.size≤W'.heap.size
  low:∀ (p:Addr) (v:Value),p.block<n→W.cell? p=some v→W'.cell? p=some v∧W'.frozen? p=W.frozen? p
  box:∀ (k:Nat) (cs:Array Value),m≤k→W.heap[k]?=some (.cells cs 34 (0,0))→W'.heap[k]?=some (.cells cs 34 (0,0))
theorem KeepE.trans {n m:Nat} {A B C:World} (h:KeepE n m A B) (k:KeepE n m B C):KeepE n m A C :=
  ⟨Nat.le_trans h.size k.size,fun p v hp hv=>by obtain ⟨h1,h2⟩:=h.low p v hp hv;obtain ⟨h3,h4⟩:=k.low p v hp h1;exact ⟨h3,h4.trans h2⟩,fun i cs hi hc=>k.box i cs hi (h.box i cs hi hc)⟩
theorem KeepE.put {n m:Nat} (W:World) (l:Nat) (o o':Obj) (h:W.heap[l]?=some o) (hc:o.isCells=false):KeepE n m W (W.putObj l o') :=
  ⟨(grownBy_putObj' W l o').size,fun _ _ _ hv=>⟨cell_kept hv (grownBy_putObj' W l o') (fun r e=>by cases e;exact ⟨o,h,hc⟩),frozen_kept hv (grownBy_putObj' W l o') (fun r e=>by cases e;exact ⟨o,h,hc⟩)⟩,
    fun k cs _ hk=>(World.putObj_heap_other (by rintro rfl;rw [hk] at h;cases h;cases hc)).trans hk⟩
theorem KeepE.of_below {n m:Nat} {W W':World} (h:Below W.heap.size W W'):KeepE n m W W' :=
  ⟨h.size,fun _ _ _ hv=>⟨(h.cell (cell_lt hv)).trans hv,h.frozen (cell_lt hv)⟩,fun k _ _ hk=>(h.block k (Array.getElem?_eq_some_iff.1 hk).1).trans hk⟩
theorem KeepE.lasts {n m:Nat} {w w':World} (h:KeepE n m w w'):Lasts w w' (·<n):=fun p v hp hv=>(h.low p v hp hv).1
def BoxE (W:World) (k:Nat) (us:Array Value):Prop:=W.heap[k]?=some (.cells us 34 (0,0))
theorem BoxE.new (w:World) (us:Array Value):BoxE (w.alloc (.cells us 34)) w.heap.size us:=(MapKept.heap_alloc w _).1
theorem BoxE.boxd {W:World} {k:Nat} {us:Array Value} (h:BoxE W k us):Boxd W k us.toList:=fun j u hu=>by
  rw [cell_of_row _ _ j _ _ (0,0) h]
  simpa using hu
theorem BoxE.kept {W W':World} {n m k:Nat} {us:Array Value} (h:BoxE W k us) (hk:KeepE n m W W') (hb:m≤k):BoxE W' k us:=hk.box k us hb h
abbrev Part (w0:World) (n:Nat):Type:={x:Ex × List Value // x.1.wt≤1990∧x.1.dat.In w0 False (·<n) x.2}
def Part.ex {w0:World} {n:Nat} (x:Part w0 n):Ex:=x.1.1
def Part.enc {w0:World} {n:Nat} (x:Part w0 n):Array Value:=#[.agg x.1.2.toArray]
theorem xlistL_app:∀ (a b:List Ex),Ex.listL (a++b)=Ex.listL a++Ex.listL b
  | [],b=>by simp [Ex.listL]
  | x :: a,b=>by simp [Ex.listL,xlistL_app a b]
theorem xlistL_pre {xs:List Ex} {j:Nat} {x:Ex} {q:List Ex} (hx:xs[j]?=some x) (hq:q <+: x.list):Ex.listL (xs.take j)++q <+: Ex.listL xs:=by
  have h:Ex.listL xs=Ex.listL (xs.take j)++x.list++Ex.listL (xs.drop (j+1)):=by rw [←Ex.listL_step hx,←xlistL_app,List.take_append_drop]
  obtain ⟨r,hr⟩:=hq
  exact ⟨r++Ex.listL (xs.drop (j+1)),by rw [h,←hr];simp⟩
def PartsDone {w0:World} (n m:Nat) (J Jx:List (Part w0 n)→World→Prop) (pre:List (Part w0 n)) (l:List Ex) (W:World) (e:Ending) (W':World):Prop :=
  (e=.returned (.bool true)∧(∃ q:List (Part w0 n),q.map Part.ex=l∧J (pre++q) W')∧KeepE n m W W')∨(e=.returned (.bool false)∧∃ q:List (Part w0 n),q.map Part.ex <+: l∧Jx (pre++q) W')
theorem visit_in (w0:World) (l n m K B0:Nat) (J Jx:List (Part w0 n)→World→Prop) (hJa:AbidesFrom B0 J)
    (hY:∀ d pre x W,J pre W→pre.length<K→YieldAt Fence.wide d Tryz.prog l (Part.enc x) W fun e W' =>
      (e=.returned (.bool true)∧J (pre++[x]) W'∧KeepE n m W W')∨(e=.returned (.bool false)∧Jx (pre++[x]) W')) :
    ∀ (e:Ex) (us:List Value),e.wt≤1990→e.dat.In w0 False (·<n) us→∀ (d:Nat) (pre:List (Part w0 n)) (W:World),m≤W.heap.size→KeepE n m w0 W→J pre W→pre.length+e.list.length≤K →
      CallsIn Fence.wide d Tryz.prog 116 #[.agg us.toArray,.func (.yield l) #[] #[]] W (PartsDone n m J Jx pre e.list W):=by
  refine Ex.ind fun k s t ts xs o ih us hwt h d pre W hm hkw hJ hN=>?_
  have HWT:=hid (show ∀ x∈xs,Ex.wt x≤1990 from fun x hx=>Nat.le_trans (Ex.wt_kid (e:=.mk k s t ts xs o) hx) hwt)
  obtain ⟨A,q0,a,B,l0,b,C,r,c,rfl,hs,ht,ha,hb,hc⟩:=ex_open h
  have hlist:Ex.list (.mk k s t ts xs o)=.mk k s t ts xs o :: Ex.listL xs:=by rw [Ex.list]
  simp only [Ex.kind,Ex.name,Ex.ty,Ex.targs,Ex.kids,Ex.off] at hs ht ha hb hc h ⊢
  rw [hlist] at hN ⊢
  simp only [List.length_cons] at hN
  have hdd:∀ k:Nat,(Fence.wide.depth.isSome=true→1≤k):=fun k h=>by cases h
  have hbx:=BoxE.new W #[.int .i64 k,.string s,.string t.name,.slice A q0 a,.int .i64 t.off,.slice B l0 b,.slice C r c,.int .i64 o]
  have hkp:KeepE n m W (W.alloc (.cells #[.int .i64 k,.string s,.string t.name,.slice A q0 a,.int .i64 t.off,.slice B l0 b,.slice C r c,.int .i64 o] 34)):=KeepE.of_below ((Below.refl _ _).alloc (Nat.le_refl _) _)
  have hJ1:=hJa pre W (W.alloc (.cells #[.int .i64 k,.string s,.string t.name,.slice A q0 a,.int .i64 t.off,.slice B l0 b,.slice C r c,.int .i64 o] 34)) none hJ (World.grownBy_alloc W _ none) (fun r e=>by cases e)
  have hkm:(r:Int)≤9223372036854775807:=by have:=hc.le;omega
  have hxl:=hc.len
  rw [Ex.dats_len] at hxl
  obtain ⟨x0,hx0⟩:∃ x0:Part w0 n,x0=⟨(.mk k s t ts xs o,[.int .i64 k,.string s,.string t.name,.slice A q0 a,.int .i64 t.off,.slice B l0 b,.slice C r c,.int .i64 o]),hwt,h⟩:=⟨_,rfl⟩
  have hex:x0.ex=.mk k s t ts xs o:=by rw [hx0];rfl
  have henc:Part.enc x0=#[.agg #[.int .i64 k,.string s,.string t.name,.slice A q0 a,.int .i64 t.off,.slice B l0 b,.slice C r c,.int .i64 o]]:=by rw [hx0];rfl
  have hR:=hY (d-1) pre x0 _ hJ1 (by omega)
  rw [henc] at hR
  obtain ⟨fn,tmps,assign,body,hy,hR⟩:=hR
  have HR:=hid hR
  have HB:=hid hbx
  have HK:=hid hkp
  have HKW:=hid hkw
  have HC:=hid hc
  have HM:=hid hm
  have HN:=hid hN
  have HEX:=hid hex
  have IH:=hid ih
  obtain ⟨y0,y1,y2,y3,y4,y5,y6,y7⟩:=hbx.boxd.c8
  clear hR hkp ih h hwt hc ha hb hJ hJ1 hN hbx hkw hx0 henc hex hlist
  refine callsIn_of_wp Tryz.func116 rfl trivial ?_ rfl
  simp only [Tryz.ntmps116,List.size_toArray,List.length_cons,List.length_nil,Nat.reduceAdd,Nat.reduceSub,Array.replicate_succ,Array.replicate_zero,List.push_toArray,List.append_toArray,List.nil_append,List.cons_append]
  gi_wp2_with (((try refine ⟨hdd _,?_⟩);refine HR.out.mono ?_;clear HR y0 y1 y2 y3 y4 y5 y6 y7;rintro e W2 (⟨rfl,hJ2,hk2⟩ | ⟨rfl,hx2⟩);obtain ⟨y0,y1,y2,y3,y4,y5,y6,y7⟩:=(HB.out.kept hk2 HM.out).boxd.c8;have HK2:=hid (HK.out.trans hk2);have HJ2:=hid hJ2;clear hk2 hJ2))
  · gi_loopw [14] (fun i wr=>∃ j:Nat,j≤r∧i=.int .i64 j∧(∃ q:List (Part w0 n),q.map Part.ex=.mk k s t ts xs o :: Ex.listL (xs.take j)∧J (pre++q) wr)∧KeepE n m W wr) (fun i _=>r-(intOf i).toNat)
    case atStart=>exact ⟨0,by omega,rfl,⟨[x0],by simp [Ex.listL,HEX.out],HJ2.out⟩,HK2.out⟩
    obtain ⟨j,hj,rfl,⟨q,hq,hjj⟩,hkk⟩:=hrel
    have HKK:=hid hkk
    have HQ:=hid hq
    by_cases hlt:j<r
    · have z0:(j:Int)<r:=by omega
      have z1:(0:Int)≤j:=by omega
      obtain ⟨p,u,ps,rfl,hx,hpn,_,hu,hcs⟩:=kid_at HC.out hlt
      have hks:=(HKW.out.trans hkk)
      have hcs2:=hcs.last hks.lasts (by rw [block_of_add];exact hpn)
      have hka:KeepE n m wr (wr.alloc (.cells ps.toArray 34)):=KeepE.of_below ((Below.refl _ _).alloc (Nat.le_refl _) _)
      have hst:=Ex.listL_step hx
      have hle:=Ex.listL_take xs (j+1)
      rw [hst,List.length_append] at hle
      have hql:q.length=1+(Ex.listL (xs.take j)).length:=by have:=congrArg List.length hq;simp at this;omega
      have C1:=hid (IH.out u (List.mem_of_getElem? hx) ps (HWT.out u (List.mem_of_getElem? hx)) hu (d-1) (pre++q) (wr.alloc (.cells ps.toArray 34))
        (Nat.le_trans HM.out (Nat.le_trans hkk.size hka.size)) (hks.trans hka) (hJa _ _ _ none hjj (World.grownBy_alloc wr _ none) (fun r e=>by cases e)) (by have:=HN.out;rw [List.length_append];omega))
      have HX:=hid (Boxd.new wr ps.toArray 34)
      obtain ⟨A2,m2,a2,B2,l2,b2,C2,n2,c2,rfl,_⟩:=ex_open hu
      obtain ⟨f0,f1,f2,f3,f4,f5,f6,f7⟩:=cells8_at hcs2
      obtain ⟨g0,g1,g2,g3,g4,g5,g6,g7⟩:=HX.out.c8
      have HKA:=hid (hkk.trans hka)
      have HST:=hid hst
      have HXJ:=hid hx
      clear hx hu hcs hcs2 hks hjj hkk hka hst hle hj hq hql HX
      gi_wp2_with (refine ⟨trivial,hdd _,?_⟩;refine C1.out.mono ?_;clear C1;rintro e W3 (⟨rfl,⟨q3,hq3,hJ3⟩,hk3⟩ | ⟨rfl,q3,hq3,hx3⟩))
      · go_roundw
        case rel=>exact ⟨j+1,by omega,by go_num,⟨q++q3,by rw [List.map_append,HQ.out,hq3,HST.out];rfl,by rw [←List.append_assoc];exact hJ3⟩,HKA.out.trans hk3⟩
        case measure=>simp [intOf];omega
      go_ret
      exact .inr ⟨rfl,q++q3,by rw [List.map_append,HQ.out,List.cons_append];exact List.cons_prefix_cons.2 ⟨rfl,xlistL_pre HXJ.out hq3⟩,by rw [←List.append_assoc];exact hx3⟩
    have z0:(r:Int)≤j:=by omega
    have hjk:xs.take j=xs:=List.take_of_length_le (by omega)
    rw [hjk] at HQ
    have HJJ:=hid hjj
    clear hjj hkk hq
    gi_wp2
    go_ret
    exact .inl ⟨rfl,⟨q,HQ.out,HJJ.out⟩,HKK.out⟩
  go_ret
  exact .inr ⟨rfl,[x0],by rw [List.map_cons,HEX.out];exact ⟨Ex.listL xs,rfl⟩,hx2⟩
def PartsPost (n0:Nat) (w:World) (x:Ex) (e:Ending) (w':World):Prop:=∃ g lb,e=.returned (.func (.func g) #[] lb)∧Below w.heap.size w w' ∧
  (∀ args W,(callFunc g args).run Tryz.prog W=.ok (.enter g args) W) ∧
  ∀ n w2,1≤n→Below w'.heap.size w' w2→SeqStopsK Fence.wide n Tryz.prog g lb (Part.enc (w0:=w') (n:=n0)) (KeepE n0 w2.heap.size) (fun q=>q.map Part.ex=x.list) (fun q=>q.map Part.ex <+: x.list) x.list.length w2
theorem parts_in (w0:World) (l n m d Bt:Nat) (e:Ex) (us:List Value) (hwt:e.wt≤1990) (h:e.dat.In w0 False (·<n) us) (J Jx:List (Part w0 n)→World→Prop) (W:World) (hJa:AbidesFrom W.heap.size J)
    (hY:∀ pre x V,J pre V→pre.length<e.list.length→YieldAt Fence.wide (d-1) Tryz.prog l (Part.enc x) V fun e W' =>
      (e=.returned (.bool true)∧J (pre++[x]) W'∧KeepE n m V W')∨(e=.returned (.bool false)∧Jx (pre++[x]) W'))
    (hm:m≤W.heap.size) (hk:KeepE n m w0 W) (hB:Boxd W Bt us) (h0:J [] W) :
    CallsIn Fence.wide d Tryz.prog 115 #[.func (.yield l) #[] #[],.pointer (some ⟨Bt,0,none⟩)] W fun e' W'=>(∃ v,e'=.returned v)∧((∃ ys:List (Part w0 n),ys.map Part.ex=e.list∧J ys W')∨(∃ pre:List (Part w0 n),pre.map Part.ex <+: e.list∧Jx pre W')):=by
  have hdd:∀ k:Nat,(Fence.wide.depth.isSome=true→1≤k):=fun k h=>by cases h
  have C:=hid (visit_in w0 l n m e.list.length W.heap.size J Jx hJa (fun e pre x V hj hl=>YieldAt.anyDepth rfl e (hY pre x V hj hl)) e us hwt h (d-1) [] W hm hk h0 (by simp))
  obtain ⟨A,q0,a,B,l0,b,C',r,c,rfl,_⟩:=ex_open h
  obtain ⟨y0,y1,y2,y3,y4,y5,y6,y7⟩:=hB.c8
  clear hY hJa h h0 hB hk
  refine callsIn_of_wp Tryz.func115 rfl trivial ?_ rfl
  simp only [Tryz.ntmps115,List.size_toArray,List.length_cons,List.length_nil,Nat.reduceAdd,Nat.reduceSub,Array.replicate_succ,Array.replicate_zero,List.push_toArray,List.append_toArray,List.nil_append,List.cons_append]
  gi_wp2_with (refine ⟨trivial,hdd _,?_⟩;refine C.out.mono ?_;clear C;rintro e W3 (⟨rfl,⟨q3,hq3,hJ3⟩,hk3⟩ | ⟨rfl,q3,hq3,hx3⟩))
  · go_end0
    exact ⟨⟨_,rfl⟩,.inl ⟨q3,hq3,by simpa using hJ3⟩⟩
  go_end0
  exact ⟨⟨_,rfl⟩,.inr ⟨q3,hq3,by simpa using hx3⟩⟩
theorem parts_any (n0:Nat) (e:Ex) (us:List Value) (w:World) (hn:n0≤w.heap.size) (hwt:e.wt≤1990) (h:e.dat.In w False (·<n0) us):Calls Tryz.prog 81 #[.agg us.toArray] w (PartsPost n0 w e):=by
  have hb:Below w.heap.size w (w.alloc (.cells us.toArray 34)):=(Below.refl _ _).alloc (Nat.le_refl _) _
  have HB:=hid hb
  have HX:=hid (Boxd.new w us.toArray 34)
  have HL:=hid (Dat.In.later h hb (fun _ h=>Nat.lt_of_lt_of_le h hn))
  have HZ:=hid (show w.heap.size<(w.alloc (.cells us.toArray 34)).heap.size by simp)
  obtain ⟨A,q0,a,B,l0,b,C',r,c,rfl,_⟩:=ex_open h
  clear hb h
  go_enter Tryz.func81,Tryz.ntmps81
  go_wp2_with fail
  go_ret
  generalize hW:w.alloc (.cells #[.int .i64 e.kind,.string e.name,.string e.ty.name,.slice A q0 a,.int .i64 e.ty.off,.slice B l0 b,.slice C' r c,.int .i64 e.off] 34)=w' at *
  refine ⟨115,#[.pointer (some ⟨w.heap.size,0,none⟩)],rfl,HB.out,enters_of Tryz.func115 (by kernel_rfl) rfl,fun n w2 _ hb2 l J Jx W hWb hJ _ hY h0=>?_⟩
  have hbw:Below w'.heap.size w' W:=hb2.trans (hWb.mono hb2.size)
  exact parts_in w' l n0 w2.heap.size n w.heap.size e _ hwt HL.out J Jx W hJ hY hWb.size (KeepE.of_below hbw) (HX.out.later hbw) h0
open Go.RowKit
attribute [local go_sem] Oper.semAt_some
theorem xlistL_all (p:Ex→Bool):∀ xs:List Ex,(Ex.listL xs).all p=xs.all (fun x=>x.list.all p)
  | []=>by simp [Ex.listL]
  | a :: xs=>by rw [Ex.listL,List.all_append,xlistL_all p xs,List.all_cons]
def BoxAx {w0:World} {n:Nat} (mk:Addr→Part w0 n→Act) (x:Part w0 n) (a':Act) (W:World):Prop:=∃ B,a'=mk ⟨B,0,none⟩ x∧Boxd W B x.1.2
theorem boxAx_own {w0:World} {n B:Nat} (mk:Addr→Part w0 n→Act) (x:Part w0 n) (a':Act):OwnFrom B (fun (_:Unit) W=>BoxAx mk x a' W):=fun _ X Y row hs hg hr=>by
  obtain ⟨b,e,h⟩:=hs
  exact ⟨b,e,fun j u hu=>cell_kept (h j u hu) hg (fun r e=>(hr r e).2)⟩
def AllP {w0:World} {n:Nat} (p:Ex→Bool) (q:List (Part w0 n)):Prop:=∀ x∈q,p x.ex=true
theorem AllP.nil {w0:World} {n:Nat} (p:Ex→Bool):AllP p ([]:List (Part w0 n)):=fun _ h=>by cases h
theorem AllP.snoc {w0:World} {n:Nat} {p:Ex→Bool} {q:List (Part w0 n)} {x:Part w0 n} (h:AllP p q) (hx:p x.ex=true):AllP p (q++[x]):=fun y hy=>by
  rcases List.mem_append.1 hy with hy | hy
  · exact h y hy
  rw [List.mem_singleton.1 hy];exact hx
theorem AllP.last {w0:World} {n:Nat} {p:Ex→Bool} {q:List (Part w0 n)} {x:Part w0 n} (h:AllP p (q++[x])):p x.ex=true:=h x (by simp)
theorem all_parts {w0:World} {n:Nat} {p:Ex→Bool} {q:List (Part w0 n)} {l:List Ex} (hq:q.map Part.ex=l) (h:AllP p q):l.all p=true:=by
  rw [←hq,List.all_map]
  exact List.all_eq_true.2 h
theorem not_parts {w0:World} {n:Nat} {p:Ex→Bool} {q:List (Part w0 n)} {l:List Ex} (hq:q.map Part.ex <+: l) (h:¬ AllP p q):l.all p=false:=by
  rw [Bool.eq_false_iff]
  intro ha
  exact h fun s hs=>List.all_eq_true.1 ha s.ex (hq.subset (List.mem_map_of_mem hs))
theorem box_bool {w:World} {e:Ex} {us:List Value} (h:e.dat.H w us) :
    OneX w ((w.alloc (.cells us.toArray 34)).alloc (.cells #[.bool false] 4)) e us∧((w.alloc (.cells us.toArray 34)).alloc (.cells #[.bool false] 4)).heap[w.heap.size+1]?=some (.cells #[.bool false] 4) :=
  ⟨(OneX.new h 34).later ((Below.refl _ _).alloc (Nat.le_refl _) _),heap_alloc_two _ _ _⟩
open Go.RowKit
def mR (v:Value):Option (DataW Value × List MemPlace):=some (.held v,[])
structure GivenAt (w0 w:World) (g n:Nat) (f:ByteArray→Option Ty):Prop where
  map:∃ D,w.ownsMap Tryz.prog 9 mR g n D∧∀ s:ByteArray,s.size≤9223372036854775807 →
    match f s with
    | none=>Go.Maps.has D (.string s.data.toList)=false
    | some t=>Go.Maps.has D (.string s.data.toList)=true∧∃ A c,t.name.size≤9223372036854775807∧Here w0 A t.args.length t.args∧∀ z,D.atKey (.string s.data.toList) z=.held (.agg #[.string t.name,.slice A t.args.length c,.int .i64 t.off])
theorem GivenAt.base {w0 w0' w:World} {g n:Nat} {f:ByteArray→Option Ty} (h:GivenAt w0 w g n f) (hb:Below w0.heap.size w0 w0'):GivenAt w0' w g n f:=by
  obtain ⟨D,h1,h2⟩:=h.map
  refine ⟨D,h1,fun s hs=>?_⟩
  have h3:=h2 s hs
  revert h3
  cases f s with
  | none=>exact id
  | some t=>exact fun ⟨h4,A,c,h5,h6,h7⟩=>⟨h4,A,c,h5,Here.later h6 hb,h7⟩
theorem GivenAt.mono {w0 w:World} {g n n':Nat} {f:ByteArray→Option Ty} (h:GivenAt w0 w g n f) (hn:n≤n'):GivenAt w0 w g n' f:=by
  obtain ⟨D,h1,h2⟩:=h.map
  exact ⟨D,h1.mono hn,h2⟩
def NamePost (w:World) (ns:List ByteArray) (us:List Ty) (e:Ending) (w':World):Prop :=
  ∃ g n,e=.returned (.map (some g))∧GivenAt w' w' g n (fun s=>Ty.pick s ns us)∧Below w.heap.size w w'
open Go.RowKit
theorem size_setCells_w (b:Nat):∀ (vs:List Value) (o:Nat) (w:World),(w.setCells b o vs).heap.size=w.heap.size
  | [],_,_=>rfl
  | v :: r,o,w=>by rw [World.setCells,size_setCells_w b r (o+1)];simp [World.setCell]
theorem below_cells {B g:Nat} (hg:B≤g):∀ (vs:List Value) (o:Nat) (w:World),Below B w (w.setCells g o vs)
  | [],_,_=>Below.refl _ _
  | v :: r,o,w=>((Below.refl B w).setCell (p:=⟨g,o,none⟩) hg v).trans (below_cells hg r (o+1) _)
open Go.RowKit
open Go.RowKit
open Go.RowKit
def nmR (s:ByteArray):Bool:=Nm.isB s.data.toList
theorem cmp_refl (t:Ty):Ty.cmp t t=0:=by have:=Ty.cmp_neg t t;omega
theorem Fo.same_refl (f:Fo):Fo.sameX false f f=true:=by simp [Fo.sameX,bytesEq,cmp_refl]
theorem Sg.same_refl (s:Sg):Sg.sameX false s s=true:=by
  rw [Sg.sameX,sameBy_refl Fo.same_refl,sameBy_refl Fo.same_refl,cmp_refl]
  simp [bytesEq]
theorem Ex.same_refl':∀ e:Ex,e.same e=true:=by
  refine Ex.ind fun k s t ts xs o ih=>?_
  rw [Ex.same_mk]
  have hL:∀ l:List Ex,(∀ x∈l,x∈xs)→Ex.sameL l l=true:=by
    intro l
    induction l with
    | nil=>intro _;rw [Ex.sameL]
    | cons a r ih2 =>
      intro h
      rw [Ex.sameL,ih a (h a (by simp)),ih2 fun x hx=>h x (by simp [hx])]
      rfl
  have hT:∀ l:List Ty,Ex.sameT l l=true:=by
    intro l
    induction l with
    | nil=>rw [Ex.sameT]
    | cons a r ih=>rw [Ex.sameT,cmp_refl a,ih];rfl
  exact ⟨rfl,rfl,cmp_refl t,hT ts,hL xs fun _ h=>h⟩
theorem bytesEq_nil (s:ByteArray):bytesEq s ⟨#[]⟩=(s.size==0):=by
  obtain ⟨⟨l⟩⟩:=s
  cases l<;>rfl
theorem Dc.right_prog (d:Dc):Dc.right d=(nmR d.name&&(Dc.sameX false d d.ofKind&&if d.kind=3 then nmR d.recv&&(d.vs.all nmR&&(d.sig.right&&d.body.right)) else d.fs.all Fo.right&&(d.ms.all Fo.right&&d.gs.all Sg.right))):=by
  have hv:(fun s:ByteArray=>Nm.isB s.data.toList)=nmR:=rfl
  unfold Dc.right Dc.sameX Dc.ofKind
  rw [hv]
  have hnm:∀ s:ByteArray,Nm.isB s.data.toList=nmR s:=fun _=>rfl
  simp only [hnm]
  obtain ⟨k,s,fs,ms,gs,rc,vs,sg,bd,o⟩:=d
  simp only
  by_cases h1:k=1
  · subst h1
    simp only [Dc.none?,if_true,if_false,show ¬ ((1:Int)=3) by omega,bytesEq_refl,bytesEq_nil,sameBy_refl Fo.same_refl,sameBy_nil,show ((1:Int)==1)=true by rfl,show ((1:Int)==2)=false by rfl]
    rcases gs with _ | ⟨g,gs⟩<;>rcases vs with _ | ⟨v,vs⟩<;>simp<;>(generalize nmR s=a;generalize fs.all Fo.right=b;generalize ms.all Fo.right=c;generalize (rc.size==0)=d;generalize Sg.sameX false sg Sg.none?=e;generalize bd.same Ex.none?=f;revert a b c d e f;decide)
  by_cases h2:k=2
  · subst h2
    simp only [Dc.none?,if_true,if_false,show ¬ ((2:Int)=1) by omega,show ¬ ((2:Int)=3) by omega,bytesEq_refl,bytesEq_nil,sameBy_refl Fo.same_refl,sameBy_refl Sg.same_refl,sameBy_nil,show ((2:Int)==1)=false by rfl,show ((2:Int)==2)=true by rfl]
    rcases ms with _ | ⟨g,ms⟩<;>rcases vs with _ | ⟨v,vs⟩<;>simp<;>(generalize nmR s=a;generalize fs.all Fo.right=b;generalize gs.all Sg.right=c;generalize (rc.size==0)=d;generalize Sg.sameX false sg Sg.none?=e;generalize bd.same Ex.none?=f;revert a b c d e f;decide)
  by_cases h3:k=3
  · subst h3
    simp only [Dc.none?,if_true,if_false,show ¬ ((3:Int)=1) by omega,show ¬ ((3:Int)=2) by omega,bytesEq_refl,sameBy_nil,sameBy_refl bytesEq_refl,Sg.same_refl,Ex.same_refl',show ((3:Int)==3)=true by rfl]
    rcases fs with _ | ⟨f,fs⟩<;>rcases ms with _ | ⟨g,ms⟩<;>rcases gs with _ | ⟨v,gs⟩<;>simp<;>(generalize nmR s=a;generalize nmR rc=b;generalize vs.all nmR=c;generalize sg.right=d;generalize bd.right=e;revert a b c d e;decide)
  have e1:(k==1)=false:=by simpa using h1
  have e2:(k==2)=false:=by simpa using h2
  rw [if_neg h1,if_neg h2,if_neg h3,if_neg h3]
  by_cases h0:k=0
  · subst h0
    simp only [Dc.none?,e1,e2,Bool.false_and,Bool.or_false,Bool.and_false,bytesEq_nil]
    cases hs:(s.size==0)
    · simp
    have hs2:s=⟨#[]⟩:=by
      have:=eq_of_beq hs
      obtain ⟨⟨l⟩⟩:=s
      have h4:l.length=0:=this
      rw [List.eq_nil_of_length_eq_zero h4]
    subst hs2
    have:nmR ⟨#[]⟩=false:=by decide
    simp [this]
  have e0:(k==Dc.none?.kind)=false:=by simpa [Dc.none?] using h0
  simp only [e1,e2,e0,Bool.false_and,Bool.or_false,Bool.and_false]
open Go.RowKit
theorem sizeDc:(Tryz.prog.info? 36).map (·.size)=some 23:=by kernel_rfl
theorem run_loadVar_at (w:World) (p:Addr) (ty:TypeId) (cs:List Value) (d:TypeDesc) (hc:CellsAt w p cs) (hu:Tryz.prog.underlying ty=some d) (hd:d.isRow=true) (hi:(Tryz.prog.info? ty).map (·.size)=some cs.length) :
    (loadVar ty p).run Tryz.prog w=.ok (.agg cs.toArray) w:=by
  have hl:(loadCells p cs.length).run Tryz.prog w=.ok cs.toArray w:=run_loadCells_list (P:=Tryz.prog) w p cs hc
  cases hq:Tryz.prog.info? ty with
  | none=>simp [hq] at hi
  | some i =>
    have hs:i.size=cs.length:=by simpa [hq] using hi
    have hagg:(isAgg ty).run Tryz.prog w=.ok true w:=by
      unfold isAgg
      rw [Sem.run_bind,run_underlying hu w]
      cases d<;>simp_all
    simp [loadVar,Sem.run_bind,hagg,sizeOf,typeInfo,hq,hs,hl]
theorem storeDc {ops:Array Oper} {rest:List Oper} {a:Act} {w:World} {Q:Exit→Act→World→Prop} {ps:String} {af:Array Edge} (i j:Nat) {b o:Nat} {us:List Value} (hx:a.eval (.tmp i)=.pointer (some ⟨b,o,none⟩)) (hy:a.eval (.tmp j)=.agg us.toArray)
    (ht:w.there b o us.length) (h1:∀ u∈us,u.oneCell'=true) (hl:us.length=23) (h:wpList Tryz.prog ops Q rest (a.put none undef) (w.setCells b o us)) :
    wpList Tryz.prog ops Q ({ dst:=none,op:=.store 36 (.tmp i) (.tmp j),type:=0,pos:=ps,after:=af,guard:=none } :: rest) a w :=
  wpList_store_mid rfl 36 (.tmp i) (.tmp j) rfl b o us.toArray hx hy (by simpa using ht) (by rw [List.size_toArray,hl];exact sizeDc) (all_oneCell_toArray h1) (by simpa using h)
def DAt (w:World) (d:Dat) (e:Ending) (w':World):Prop:=∃ us,e=.returned (.agg us.toArray)∧d.H w' us∧Below w.heap.size w w'
theorem set_there {w:World} {k:Nat} {us:List Value} (h:w.there k 0 us.length):Boxd (w.setCells k 0 us) k us:=fun j u hu=>by
  have:=World.rangeAt_setCells_same w k 0 us h j u hu
  rwa [Nat.zero_add] at this
theorem there_new (w:World) (cs:Array Value) (T:TypeId):(w.alloc (.cells cs T)).there w.heap.size 0 cs.size:=fun j hj=>⟨by
  rw [Nat.zero_add,cell_of_row _ _ j _ _ (0,0) (heap_alloc_new _ _),Array.getElem?_eq_getElem hj]
  rfl,frozen_of_row (heap_alloc_new _ _) _⟩
theorem Boxd.at0 {w:World} {b:Nat} {us:List Value} (h:Boxd w b us):CellsAt w ⟨b,0,none⟩ us:=fun j u hu=>by rw [add_zero_addr];exact h j u hu
theorem ex_cells' {w:World} {N:Prop} {S:Nat→Prop} {e:Ex} {us:List Value} (h:e.dat.In w N S us):∀ u∈us,u.oneCell'=true:=by
  obtain ⟨A,m,a,B,l,b,C,n,c,rfl,_⟩:=ex_open h
  intro u hu
  simp only [List.mem_cons,List.not_mem_nil,or_false] at hu
  rcases hu with rfl | rfl | rfl | rfl | rfl | rfl | rfl | rfl<;>rfl
theorem sg_cells {w:World} {N:Prop} {S:Nat→Prop} {s:Sg} {us:List Value} (h:s.dat.In w N S us):∀ u∈us,u.oneCell'=true:=by
  obtain ⟨F,nf,cf,P,np,cp,A,m,a,rfl,_⟩:=sg_open h
  intro u hu
  simp only [List.mem_cons,List.not_mem_nil,or_false] at hu
  rcases hu with rfl | rfl | rfl | rfl | rfl | rfl | rfl<;>rfl
theorem dc_cells {w:World} {N:Prop} {S:Nat→Prop} {d:Dc} {us:List Value} (h:d.dat.In w N S us):∀ u∈us,u.oneCell'=true:=by
  obtain ⟨F,nf,cf,P,np,cp,G,ng,cg,V,nv,cv,sv,bv,rfl,_,_,_,_,_,_,h7,h8⟩:=dc_open h
  intro u hu
  rcases List.mem_append.1 hu with hu | hu
  · simp only [List.mem_cons,List.not_mem_nil,or_false] at hu
    rcases hu with rfl | rfl | rfl | rfl | rfl | rfl | rfl<;>rfl
  rcases List.mem_append.1 hu with hu | hu
  · exact sg_cells h7 u hu
  rcases List.mem_append.1 hu with hu | hu
  · exact ex_cells' h8 u hu
  simp only [List.mem_cons,List.not_mem_nil,or_false] at hu
  rcases hu with rfl
  rfl
theorem dc_len {w:World} {N:Prop} {S:Nat→Prop} {d:Dc} {us:List Value} (h:d.dat.In w N S us):us.length=23:=(Dat.In.len _ _ h).trans (Dc.dat_size d)
abbrev z23:Array Value:=#[.int .i64 0,.string ⟨#[]⟩,.slice none 0 0,.slice none 0 0,.slice none 0 0,.string ⟨#[]⟩,.slice none 0 0,.string ⟨#[]⟩,.slice none 0 0,.slice none 0 0,.string ⟨#[]⟩,.slice none 0 0,.int .i64 0,.int .i64 0,
  .int .i64 0,.string ⟨#[]⟩,.string ⟨#[]⟩,.slice none 0 0,.int .i64 0,.slice none 0 0,.slice none 0 0,.int .i64 0,.int .i64 0]
theorem sgNone_in (w:World) (N:Prop) (S:Nat→Prop):Sg.none?.dat.In w N S [.string ⟨#[]⟩,.slice none 0 0,.slice none 0 0,.string ⟨#[]⟩,.slice none 0 0,.int .i64 0,.int .i64 0] :=
  sg_shut (s:=Sg.none?) (show (0:Nat)≤_ by omega) (Row.nil _ _ _ _ _) (Row.nil _ _ _ _ _) (show (0:Nat)≤_ by omega) (lies_row.2 (Row.nil _ _ _ _ _))
theorem exNone_in (w:World) (N:Prop) (S:Nat→Prop):Ex.none?.dat.In w N S [.int .i64 0,.string ⟨#[]⟩,.string ⟨#[]⟩,.slice none 0 0,.int .i64 0,.slice none 0 0,.slice none 0 0,.int .i64 0] :=
  ex_shut (e:=Ex.none?) (show (0:Nat)≤_ by omega) (show (0:Nat)≤_ by omega) (lies_row.2 (Row.nil _ _ _ _ _)) (lies_row.2 (Row.nil _ _ _ _ _)) (Row.nil _ _ _ _ _) (Nat.le_refl _)
open Go.RowKit
