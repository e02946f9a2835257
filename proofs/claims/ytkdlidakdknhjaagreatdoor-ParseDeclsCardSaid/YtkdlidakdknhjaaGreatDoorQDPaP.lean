/- Declarations and programs as trees: sameness, being right, their types, depth, plainness, count, in plain words; they as data. No program, no condition.
How many parts declarations and programs have: a weight that bounds all else, and what counting gives of it. No program, no condition.
Reading declarations and programs from tokens, in plain words: what is read, or where it stops. No condition. -/
import Derived.Test.YtkdlidakdknhjaaGreatDoorQDExB
import Derived.Test.YtkdlidakdknhjaaGreatDoorQDRdP
import Derived.Test.YtkdlidakdknhjaaGreatDoorQDTyF
namespace Go.Proofs.YtkdlidakdknhjaaGreatDoor
open Go.RowKit
structure Fo where
  name:ByteArray
  ty:Ty
  off:Int
structure Sg where
  name:ByteArray
  fs:List Fo
  ps:List Fo
  res:Ty
  off:Int
structure Dc where
  kind:Int
  name:ByteArray
  fs:List Fo
  ms:List Fo
  gs:List Sg
  recv:ByteArray
  vs:List ByteArray
  sig:Sg
  body:Ex
  off:Int
structure Pg where
  ds:List Dc
  main:Ex
def sameBy {α:Type} (p:α→α→Bool):List α→List α→Bool
  | [],[]=>true
  | a :: r,b :: q=>p a b&&sameBy p r q
  | _,_=>false
theorem sameBy_len {α:Type} {p:α→α→Bool}:∀ {xs ys:List α},xs.length≠ys.length→sameBy p xs ys=false
  | [],[],h=>absurd rfl h
  | _ :: _,[],_=>rfl
  | [],_ :: _,_=>rfl
  | a :: r,b :: q,h=>by
    rw [sameBy,sameBy_len (xs:=r) (ys:=q) (by simpa using h),Bool.and_false]
theorem sameBy_on {α:Type} {p:α→α→Bool} {xs ys:List α} {k:Nat} {a b:α} (ha:xs[k]?=some a) (hb:ys[k]?=some b):sameBy p (xs.drop k) (ys.drop k)=(p a b&&sameBy p (xs.drop (k+1)) (ys.drop (k+1))):=by
  rw [Ex.drop_at ha,Ex.drop_at hb,sameBy]
theorem sameBy_refl {α:Type} {p:α→α→Bool} (h:∀ a,p a a=true):∀ xs:List α,sameBy p xs xs=true
  | []=>rfl
  | a :: r=>by rw [sameBy,h a,sameBy_refl h r];rfl
theorem sameBy_nil {α:Type} {p:α→α→Bool} (xs:List α):sameBy p xs []=(xs.length==0):=by cases xs<;>rfl
theorem allBy_on {α:Type} {p:α→Bool} {xs:List α} {k:Nat} {a:α} (ha:xs[k]?=some a):(xs.drop k).all p=(p a&&(xs.drop (k+1)).all p):=by
  rw [Ex.drop_at ha,List.all_cons]
def bytesEq (a b:ByteArray):Bool:=a.data.toList==b.data.toList
theorem bytesEq_refl (a:ByteArray):bytesEq a a=true:=by simp [bytesEq]
namespace Fo
def sameX (ex:Bool) (f g:Fo):Bool:=bytesEq f.name g.name&&(Ty.cmp f.ty g.ty==0)&&(!ex || ((f.off==g.off)&&Ty.eqv f.ty g.ty))
def right (f:Fo):Bool:=Nm.isB f.name.data.toList&&f.ty.right
def wt (f:Fo):Nat:=1+f.name.size / 50+f.ty.wt
def dat (f:Fo):Dat:=.tup [.str f.name,f.ty.dat,.cell (.int .i64 f.off)]
theorem dat_size (f:Fo):f.dat.size=5:=by simp only [dat,Dat.size,Dat.sizes,Ty.dat_size]
def cntL:List Fo→Int→Int
  | [],n=>n
  | f :: r,n=>if n≤2000 then cntL r (Ty.cnt f.ty (n+1+f.name.size / 50)) else n
end Fo
namespace Sg
def sameX (ex:Bool) (a b:Sg):Bool:=bytesEq a.name b.name&&sameBy (Fo.sameX ex) a.fs b.fs&&sameBy (Fo.sameX ex) a.ps b.ps&&(Ty.cmp a.res b.res==0)&&(!ex || ((a.off==b.off)&&Ty.eqv a.res b.res))
def right (s:Sg):Bool:=Nm.isB s.name.data.toList&&s.fs.all Fo.right&&s.ps.all Fo.right&&s.res.right
def types (s:Sg):List Ty:=s.fs.map Fo.ty++s.ps.map Fo.ty++[s.res]
def dat (s:Sg):Dat:=.tup [.str s.name,.arr false 5 (s.fs.map Fo.dat),.arr false 5 (s.ps.map Fo.dat),s.res.dat,.cell (.int .i64 s.off)]
theorem dat_size (s:Sg):s.dat.size=7:=by simp only [dat,Dat.size,Dat.sizes,Ty.dat_size]
def cnt (s:Sg) (n:Int):Int:=Ty.cnt s.res (Fo.cntL s.ps (Fo.cntL s.fs (n+s.name.size / 50)))
def cntL:List Sg→Int→Int
  | [],n=>n
  | s :: r,n=>if n≤2000 then cntL r (cnt s n) else n
def none?:Sg:=⟨⟨#[]⟩,[],[],.mk ⟨#[]⟩ [] 0,0⟩
end Sg
def Ex.own (x:Ex):List Ty:=x.targs++if Ex.typed x.kind then [x.ty] else []
def Ex.types (e:Ex):List Ty:=e.list.flatMap Ex.own
def Ex.none?:Ex:=.mk 0 ⟨#[]⟩ (.mk ⟨#[]⟩ [] 0) [] [] 0
namespace Dc
def sameX (ex:Bool) (a b:Dc):Bool:=(a.kind==b.kind)&&bytesEq a.name b.name&&bytesEq a.recv b.recv&&sameBy (Fo.sameX ex) a.fs b.fs&&sameBy (Fo.sameX ex) a.ms b.ms&&sameBy (Sg.sameX ex) a.gs b.gs&&sameBy bytesEq a.vs b.vs
  && Sg.sameX ex a.sig b.sig&&a.body.same b.body&&(!ex || ((a.off==b.off)&&a.body.eqv b.body))
def right (d:Dc):Bool:=Nm.isB d.name.data.toList&&d.fs.all Fo.right&&d.ms.all Fo.right&&d.gs.all Sg.right&&d.vs.all (fun s=>Nm.isB s.data.toList)
  && (if d.kind=3 then Nm.isB d.recv.data.toList&&(d.fs.length+d.ms.length+d.gs.length==0)&&d.sig.right&&d.body.right
      else (d.recv.size==0)&&(d.vs.length==0)&&Sg.sameX false d.sig Sg.none?&&d.body.same Ex.none?&&((d.kind==1&&d.gs.length==0) || (d.kind==2&&d.ms.length==0)))
def types (d:Dc):List Ty:=d.fs.map Fo.ty++d.ms.map Fo.ty++d.gs.flatMap Sg.types++if d.kind=3 then d.sig.types++d.body.types else []
def dat (d:Dc):Dat:=.tup [.cell (.int .i64 d.kind),.str d.name,.arr false 5 (d.fs.map Fo.dat),.arr false 5 (d.ms.map Fo.dat),.arr false 7 (d.gs.map Sg.dat),.str d.recv,.arr false 1 (d.vs.map Dat.str),d.sig.dat,d.body.dat,.cell (.int .i64 d.off)]
theorem dat_size (d:Dc):d.dat.size=23:=by simp only [dat,Dat.size,Dat.sizes,Sg.dat_size,Ex.dat_size]
def cntV:List ByteArray→Int→Int
  | [],n=>n
  | s :: r,n=>if n≤2000 then cntV r (n+1+s.size / 50) else n
def cnt (d:Dc) (n:Int):Int :=
  let m:=cntV d.vs (Sg.cntL d.gs (Fo.cntL d.ms (Fo.cntL d.fs (n+1+d.name.size / 50+d.recv.size / 50))))
  if m≤2000 then d.body.cnt (d.sig.cnt m) else m
def cntL:List Dc→Int→Int
  | [],n=>n
  | d :: r,n=>if n≤2000 then cntL r (cnt d n) else n
def none?:Dc:=⟨0,⟨#[]⟩,[],[],[],⟨#[]⟩,[],Sg.none?,Ex.none?,0⟩
def ofKind (d:Dc):Dc :=
  if d.kind=1 then { none? with kind:=d.kind,name:=d.name,fs:=d.fs,ms:=d.ms }
  else if d.kind=2 then { none? with kind:=d.kind,name:=d.name,fs:=d.fs,gs:=d.gs }
  else if d.kind=3 then { none? with kind:=d.kind,name:=d.name,recv:=d.recv,vs:=d.vs,sig:=d.sig,body:=d.body }
  else none?
end Dc
namespace Pg
def sameX (ex:Bool) (a b:Pg):Bool:=sameBy (Dc.sameX ex) a.ds b.ds&&a.main.same b.main&&(!ex || a.main.eqv b.main)
def right (p:Pg):Bool:=p.ds.all Dc.right&&p.main.right
def types (p:Pg):List Ty:=p.ds.flatMap Dc.types++p.main.types
def dat (p:Pg):Dat:=.tup [.arr false 23 (p.ds.map Dc.dat),p.main.dat]
theorem dat_size (p:Pg):p.dat.size=9:=by simp only [dat,Dat.size,Dat.sizes,Ex.dat_size]
def cnt (p:Pg):Int:=Dc.cntL p.ds (p.main.cnt 0)
def few (p:Pg):Bool:=decide (p.cnt≤600)
end Pg
theorem fo_open {w:World} {N:Prop} {S:Nat→Prop} {f:Fo} {us:List Value} (h:f.dat.In w N S us):∃ A m a,us=[.string f.name,.string f.ty.name,.slice A m a,.int .i64 f.ty.off,.int .i64 f.off]∧f.name.size≤9223372036854775807∧f.ty.name.size≤9223372036854775807∧LiesN w N S A m f.ty.args:=by
  rw [Fo.dat] at h
  simp only [Dat.In,Dat.Ins] at h
  obtain ⟨u1,u2,rfl,⟨rfl,h1⟩,u3,u4,rfl,h2,u5,u6,rfl,rfl,rfl⟩:=h
  obtain ⟨A,m,a,rfl,h3,h4⟩:=ty_open h2
  exact ⟨A,m,a,rfl,h1,h3,h4⟩
theorem sg_open {w:World} {N:Prop} {S:Nat→Prop} {s:Sg} {us:List Value} (h:s.dat.In w N S us):∃ F nf cf P np cp A m a,us=[.string s.name,.slice F nf cf,.slice P np cp,.string s.res.name,.slice A m a,.int .i64 s.res.off,.int .i64 s.off]
    ∧ s.name.size≤9223372036854775807∧Row w N S 5 F nf (s.fs.map Fo.dat)∧Row w N S 5 P np (s.ps.map Fo.dat)∧s.res.name.size≤9223372036854775807∧LiesN w N S A m s.res.args:=by
  rw [Sg.dat] at h
  simp only [Dat.In,Dat.Ins] at h
  obtain ⟨u1,u2,rfl,⟨rfl,h1⟩,u3,u4,rfl,⟨F,cf,rfl,h2,_,h3⟩,u5,u6,rfl,⟨P,cp,rfl,h4,_,h5⟩,u7,u8,rfl,h6,u9,u10,rfl,rfl,rfl⟩:=h
  obtain ⟨A,m,a,rfl,h7,h8⟩:=ty_open h6
  exact ⟨F,_,cf,P,_,cp,A,m,a,rfl,h1,⟨rfl,h2,h3⟩,⟨rfl,h4,h5⟩,h7,h8⟩
theorem sg_shut {w:World} {N:Prop} {S:Nat→Prop} {s:Sg} {F P A:Option Addr} {nf cf np cp m a:Nat} (h1:s.name.size≤9223372036854775807) (h2:Row w N S 5 F nf (s.fs.map Fo.dat)) (h3:Row w N S 5 P np (s.ps.map Fo.dat)) (h4:s.res.name.size≤9223372036854775807) (h5:LiesN w N S A m s.res.args) :
    s.dat.In w N S [.string s.name,.slice F nf cf,.slice P np cp,.string s.res.name,.slice A m a,.int .i64 s.res.off,.int .i64 s.off]:=by
  obtain rfl:=h2.len
  obtain rfl:=h3.len
  rw [Sg.dat]
  simp only [Dat.In,Dat.Ins]
  exact ⟨[_],_,rfl,⟨rfl,h1⟩,[_],_,rfl,⟨F,cf,rfl,h2.le,(fun h=>by cases h),h2.elems⟩,[_],_,rfl,⟨P,cp,rfl,h3.le,(fun h=>by cases h),h3.elems⟩,[_,_,_],_,rfl,ty_shut h4 h5,[_],[],rfl,rfl,rfl⟩
theorem dc_open {w:World} {N:Prop} {S:Nat→Prop} {d:Dc} {us:List Value} (h:d.dat.In w N S us):∃ F nf cf P np cp G ng cg V nv cv sv bv,us=[.int .i64 d.kind,.string d.name,.slice F nf cf,.slice P np cp,.slice G ng cg,.string d.recv,.slice V nv cv]++(sv++(bv++[.int .i64 d.off]))
    ∧ d.name.size≤9223372036854775807∧Row w N S 5 F nf (d.fs.map Fo.dat)∧Row w N S 5 P np (d.ms.map Fo.dat)∧Row w N S 7 G ng (d.gs.map Sg.dat)∧d.recv.size≤9223372036854775807∧Row w N S 1 V nv (d.vs.map Dat.str)∧d.sig.dat.In w N S sv∧d.body.dat.In w N S bv:=by
  rw [Dc.dat] at h
  simp only [Dat.In,Dat.Ins] at h
  obtain ⟨u1,u2,rfl,rfl,u3,u4,rfl,⟨rfl,h1⟩,u5,u6,rfl,⟨F,cf,rfl,h2,_,h3⟩,u7,u8,rfl,⟨P,cp,rfl,h4,_,h5⟩,u9,u10,rfl,⟨G,cg,rfl,h6,_,h7⟩,u11,u12,rfl,⟨rfl,h8⟩,u13,u14,rfl,⟨V,cv,rfl,h9,_,h10⟩,u15,u16,rfl,h11,u17,u18,rfl,h12,u19,u20,rfl,rfl,rfl⟩:=h
  exact ⟨F,_,cf,P,_,cp,G,_,cg,V,_,cv,u15,u17,rfl,h1,⟨rfl,h2,h3⟩,⟨rfl,h4,h5⟩,⟨rfl,h6,h7⟩,h8,⟨rfl,h9,h10⟩,h11,h12⟩
theorem dc_shut {w:World} {N:Prop} {S:Nat→Prop} {d:Dc} {F P G V:Option Addr} {nf cf np cp ng cg nv cv:Nat} {sv bv:List Value} (h1:d.name.size≤9223372036854775807) (h2:Row w N S 5 F nf (d.fs.map Fo.dat)) (h3:Row w N S 5 P np (d.ms.map Fo.dat)) (h4:Row w N S 7 G ng (d.gs.map Sg.dat))
    (h5:d.recv.size≤9223372036854775807) (h6:Row w N S 1 V nv (d.vs.map Dat.str)) (h7:d.sig.dat.In w N S sv) (h8:d.body.dat.In w N S bv) :
    d.dat.In w N S ([.int .i64 d.kind,.string d.name,.slice F nf cf,.slice P np cp,.slice G ng cg,.string d.recv,.slice V nv cv]++(sv++(bv++[.int .i64 d.off]))):=by
  obtain rfl:=h2.len
  obtain rfl:=h3.len
  obtain rfl:=h4.len
  obtain rfl:=h6.len
  rw [Dc.dat]
  simp only [Dat.In,Dat.Ins]
  exact ⟨[_],_,rfl,rfl,[_],_,rfl,⟨rfl,h1⟩,[_],_,rfl,⟨F,cf,rfl,h2.le,(fun h=>by cases h),h2.elems⟩,[_],_,rfl,⟨P,cp,rfl,h3.le,(fun h=>by cases h),h3.elems⟩,[_],_,rfl,⟨G,cg,rfl,h4.le,(fun h=>by cases h),h4.elems⟩,[_],_,rfl,⟨rfl,h5⟩,
    [_],_,rfl,⟨V,cv,rfl,h6.le,(fun h=>by cases h),h6.elems⟩,sv,_,rfl,h7,bv,_,rfl,h8,[_],[],rfl,rfl,rfl⟩
theorem pg_open {w:World} {N:Prop} {S:Nat→Prop} {p:Pg} {us:List Value} (h:p.dat.In w N S us):∃ D n c bv,us=.slice D n c :: bv∧Row w N S 23 D n (p.ds.map Dc.dat)∧p.main.dat.In w N S bv:=by
  rw [Pg.dat] at h
  simp only [Dat.In,Dat.Ins] at h
  obtain ⟨u1,u2,rfl,⟨D,c,rfl,h1,_,h2⟩,u3,u4,rfl,h3,rfl⟩:=h
  exact ⟨D,_,c,u3,by simp,⟨rfl,h1,h2⟩,h3⟩
theorem dat_at {α:Type} {dat:α→Dat} {w:World} {N:Prop} {S:Nat→Prop} {A:Option Addr} {z n k:Nat} {xs:List α} (h:Row w N S z A n (xs.map dat)) (hk:k<n) :
    ∃ p x us,A=some p∧xs[k]?=some x∧S p.block∧(N→p.off=0∧p.spot=none∧∀ k,w.frozen? ⟨p.block,k,none⟩=false)∧(dat x).In w N S us∧CellsAt w (p.add (k*z)) us:=by
  have hl:k<xs.length:=by have:=h.len;rw [List.length_map] at this;omega
  obtain ⟨p,us,h1,h2,h3,h4,h5⟩:=h.at (k:=k) (d:=dat xs[k]) (by rw [List.getElem?_map,List.getElem?_eq_getElem hl];rfl)
  exact ⟨p,xs[k],us,h1,List.getElem?_eq_getElem hl,h2,h3,h4,h5⟩
open Go.RowKit
def sumBy {α:Type} (g:α→Nat):List α→Nat
  | []=>0
  | a :: r=>g a+sumBy g r
theorem sumBy_mem {α:Type} {g:α→Nat}:∀ {l:List α} {a:α},a∈l→g a≤sumBy g l
  | b :: r,a,h=>by
    rw [sumBy]
    rcases List.mem_cons.1 h with rfl | h
    · omega
    have:=sumBy_mem (g:=g) h;omega
theorem sumBy_len {α:Type} {g:α→Nat} (h:∀ a,1≤g a):∀ l:List α,l.length≤sumBy g l
  | []=>Nat.le_refl _
  | a :: r=>by
    have h1:=h a
    have h2:=sumBy_len h r
    rw [sumBy,List.length_cons]
    omega
theorem Ty.wt_pos (t:Ty):1≤t.wt:=by cases t;simp only [Ty.wt];omega
namespace Fo
theorem wt_pos (f:Fo):1≤f.wt:=by unfold wt;omega
theorem wt_ty {f:Fo}:f.ty.wt≤f.wt:=by unfold wt;omega
end Fo
namespace Sg
def wt (s:Sg):Nat:=s.name.size / 50+sumBy Fo.wt s.fs+sumBy Fo.wt s.ps+s.res.wt
theorem wt_pos (s:Sg):1≤s.wt:=by have:=Ty.wt_pos s.res;unfold wt;omega
theorem wt_f {s:Sg} {f:Fo} (h:f∈s.fs):f.wt≤s.wt:=by have:=sumBy_mem (g:=Fo.wt) h;unfold wt;omega
theorem wt_p {s:Sg} {f:Fo} (h:f∈s.ps):f.wt≤s.wt:=by have:=sumBy_mem (g:=Fo.wt) h;unfold wt;omega
theorem wt_res {s:Sg}:s.res.wt≤s.wt:=by unfold wt;omega
end Sg
namespace Dc
def vwt (s:ByteArray):Nat:=1+s.size / 50
def wt (d:Dc):Nat:=1+d.name.size / 50+d.recv.size / 50+sumBy Fo.wt d.fs+sumBy Fo.wt d.ms+sumBy Sg.wt d.gs+sumBy vwt d.vs+d.sig.wt+d.body.wt
theorem wt_f {d:Dc} {f:Fo} (h:f∈d.fs):f.wt≤d.wt:=by have:=sumBy_mem (g:=Fo.wt) h;unfold wt;omega
theorem wt_m {d:Dc} {f:Fo} (h:f∈d.ms):f.wt≤d.wt:=by have:=sumBy_mem (g:=Fo.wt) h;unfold wt;omega
theorem wt_g {d:Dc} {s:Sg} (h:s∈d.gs):s.wt≤d.wt:=by have:=sumBy_mem (g:=Sg.wt) h;unfold wt;omega
theorem wt_s {d:Dc}:d.sig.wt≤d.wt:=by unfold wt;omega
theorem wt_b {d:Dc}:d.body.wt≤d.wt:=by unfold wt;omega
theorem len_f (d:Dc):d.fs.length≤d.wt:=by have:=sumBy_len Fo.wt_pos d.fs;unfold wt;omega
theorem len_m (d:Dc):d.ms.length≤d.wt:=by have:=sumBy_len Fo.wt_pos d.ms;unfold wt;omega
theorem len_g (d:Dc):d.gs.length≤d.wt:=by have:=sumBy_len Sg.wt_pos d.gs;unfold wt;omega
theorem len_v (d:Dc):d.vs.length≤d.wt:=by have:=sumBy_len (g:=vwt) (fun a=>by unfold vwt;omega) d.vs;unfold wt;omega
end Dc
namespace Pg
def wt (p:Pg):Nat:=sumBy Dc.wt p.ds+p.main.wt
end Pg
end Go.Proofs.YtkdlidakdknhjaaGreatDoor
namespace Go.Proofs.YtkdlidakdknhjaaGreatDoor.Rd
def tyA (l:List Tk):Got Ty:=tyF (2*l.length+2) l
def exA (l:List Tk):Got Ex:=exF (2*l.length+2) l
def moreG {α:Type} (item:List Tk→Got α):Nat→List α→List Tk→Got (List α)
  | 0,_,l=>.bad l
  | n+1,acc,l=>if isT [44] l then Got.bind (item l.tail) fun u q=>moreG item n (acc++[u]) q else .ok acc l
def listG {α:Type} (item:List Tk→Got α) (s:List UInt8) (l:List Tk):Got (List α) :=
  Got.bind (item l) fun u q=>Got.bind (moreG item (q.length+1) [u] q) fun us q=>Got.bind (must s q) fun _ q=>.ok us q
def bracketsG {α:Type} (item:List Tk→Got α) (l:List Tk):Got (List α):=if isT [91] l then listG item [93] l.tail else .ok [] l
def itemsG {α:Type} (item:List Tk→Got α):Nat→List α→List Tk→Got (List α)
  | 0,_,l=>.bad l
  | n+1,acc,l=>if isT [125] l then .ok acc l.tail else Got.bind (item l) fun u q=>Got.bind (must [59] q) fun _ q=>itemsG item n (acc++[u]) q
def blockG {α:Type} (item:List Tk→Got α) (l:List Tk):Got (List α):=Got.bind (must [123] l) fun _ q=>itemsG item (q.length+1) [] q
def varF (l:List Tk):Got ByteArray:=Got.bind (name l) fun t q=>.ok t.s q
def foF (l:List Tk):Got Fo:=Got.bind (name l) fun t q=>Got.bind (tyA q) fun u q=>.ok ⟨t.s,u,t.o⟩ q
def paramsF (l:List Tk):Got (List Fo):=Got.bind (must [40] l) fun _ q=>if isT [41] q then .ok [] q.tail else listG foF [41] q
def sgF (l:List Tk):Got Sg:=Got.bind (name l) fun t q=>Got.bind (bracketsG foF q) fun fs q=>Got.bind (paramsF q) fun ps q=>Got.bind (tyA q) fun r q=>.ok ⟨t.s,fs,ps,r,t.o⟩ q
def allF:List (List UInt8)→List Tk→Got Unit
  | [],l=>.ok () l
  | s :: r,l=>Got.bind (must s l) fun _ q=>allF r q
def chooseF (s:List UInt8) (f:List Tk→Got Dc) (t:List UInt8) (g:List Tk→Got Dc) (l:List Tk):Got Dc:=if isT s l then f l.tail else if isT t l then g l.tail else Got.bind (must [] l) fun _ q=>.ok Dc.none? q
def wType:List UInt8:=[116,121,112,101]
def wFunc:List UInt8:=[102,117,110,99]
def wStruct:List UInt8:=[115,116,114,117,99,116]
def wInter:List UInt8:=[105,110,116,101,114,102,97,99,101]
def wMain:List UInt8:=[109,97,105,110]
def wPackage:List UInt8:=[112,97,99,107,97,103,101]
def wReturn:List UInt8:=[114,101,116,117,114,110]
def dcStruct (ms:List Fo):Dc:={ Dc.none? with kind:=1,ms:=ms }
def dcInter (gs:List Sg):Dc:={ Dc.none? with kind:=2,gs:=gs }
def structF (l:List Tk):Got Dc:=Got.bind (blockG foF l) fun ms q=>.ok (dcStruct ms) q
def interF (l:List Tk):Got Dc:=Got.bind (blockG sgF l) fun gs q=>.ok (dcInter gs) q
def typeDeclF (l:List Tk):Got Dc:=Got.bind (name l) fun t q=>Got.bind (bracketsG foF q) fun fs q=>Got.bind (chooseF wStruct structF wInter interF q) fun d q=>Got.bind (must [59] q) fun _ q=>.ok { d with name:=t.s,off:=t.o,fs:=fs } q
def methodF (l:List Tk):Got Dc:=Got.bind (must [40] l) fun _ q=>Got.bind (varF q) fun rc q=>Got.bind (name q) fun t q=>Got.bind (bracketsG varF q) fun vs q=>Got.bind (must [41] q) fun _ q=>Got.bind (sgF q) fun s q =>
  Got.bind (allF [[123],wReturn] q) fun _ q=>Got.bind (exA q) fun e q=>Got.bind (allF [[125],[59]] q) fun _ q=>.ok ⟨3,t.s,[],[],[],rc,vs,s,e,t.o⟩ q
def declF (l:List Tk):Got Dc:=chooseF wType typeDeclF wFunc methodF l
def methodOrMainF (l:List Tk):Got Dc:=if isT wMain l then .ok Dc.none? l.tail else methodF l
def declOrMainF (l:List Tk):Got Dc:=chooseF wType typeDeclF wFunc methodOrMainF l
def declsF:Nat→List Dc→List Tk→Got (List Dc)
  | 0,_,l=>.bad l
  | n+1,acc,l=>Got.bind (declOrMainF l) fun d q=>if d.kind=0 then .ok acc q else declsF n (acc++[d]) q
def progF (l:List Tk):Got Pg:=Got.bind (allF [wPackage,wMain,[59]] l) fun _ q=>Got.bind (declsF (q.length+1) [] q) fun ds q=>Got.bind (allF [[40],[41],[123],[95],[61]] q) fun _ q =>
  Got.bind (exA q) fun e q=>Got.bind (must [125] q) fun _ q=>.ok ⟨ds,e⟩ q
theorem tyA_less (l:List Tk):Got.Less l (tyA l):=tyF_less _ l
theorem exA_less (l:List Tk):Got.Less l (exA l):=exF_less _ l
theorem moreG_ends {α:Type} {item:List Tk→Got α} (hi:∀ l,Got.Less l (item l)):∀ (n:Nat) (acc:List α) (l:List Tk),Got.Ends l (moreG item n acc l)
  | 0,_,l=>ends_bad l
  | n+1,acc,l=>by
    rw [moreG]
    split
    · rename_i h
      exact Less.ends (less_isT h (ends_bind (Less.ends (hi _)) fun _ _ _=>moreG_ends hi n _ _))
    exact ends_self _ _
theorem listG_less {α:Type} {item:List Tk→Got α} (hi:∀ l,Got.Less l (item l)) (s:List UInt8) (l:List Tk):Got.Less l (listG item s l) :=
  less_bind (hi l) fun _ _ _=>ends_bind (moreG_ends hi _ _ _) fun _ _ _=>ends_bind (Less.ends (must_less _ _)) fun _ _ _=>ends_self _ _
theorem bracketsG_ends {α:Type} {item:List Tk→Got α} (hi:∀ l,Got.Less l (item l)) (l:List Tk):Got.Ends l (bracketsG item l):=by
  unfold bracketsG
  split
  · rename_i h
    exact Less.ends (less_isT h (Less.ends (listG_less hi _ _)))
  exact ends_self _ _
theorem itemsG_ends {α:Type} {item:List Tk→Got α} (hi:∀ l,Got.Less l (item l)):∀ (n:Nat) (acc:List α) (l:List Tk),Got.Ends l (itemsG item n acc l)
  | 0,_,l=>ends_bad l
  | n+1,acc,l=>by
    rw [itemsG]
    split
    · rename_i h
      exact Less.ends (less_isT h (ends_self _ _))
    exact ends_bind (Less.ends (hi _)) fun _ _ _=>ends_bind (Less.ends (must_less _ _)) fun _ _ _=>itemsG_ends hi n _ _
theorem blockG_less {α:Type} {item:List Tk→Got α} (hi:∀ l,Got.Less l (item l)) (l:List Tk):Got.Less l (blockG item l):=less_bind (must_less _ _) fun _ _ _=>itemsG_ends hi _ _ _
theorem varF_less (l:List Tk):Got.Less l (varF l):=less_bind (name_less l) fun _ _ _=>ends_self _ _
theorem foF_less (l:List Tk):Got.Less l (foF l):=less_bind (name_less l) fun _ _ _=>ends_bind (Less.ends (tyA_less _)) fun _ _ _=>ends_self _ _
theorem paramsF_less (l:List Tk):Got.Less l (paramsF l):=less_bind (must_less _ _) fun _ q _=>by
  split
  · rename_i h
    exact Less.ends (less_isT h (ends_self _ _))
  exact Less.ends (listG_less foF_less _ _)
theorem sgF_less (l:List Tk):Got.Less l (sgF l):=less_bind (name_less l) fun _ _ _=>ends_bind (bracketsG_ends foF_less _) fun _ _ _=>ends_bind (Less.ends (paramsF_less _)) fun _ _ _=>ends_bind (Less.ends (tyA_less _)) fun _ _ _=>ends_self _ _
theorem allF_ends:∀ (ss:List (List UInt8)) (l:List Tk),Got.Ends l (allF ss l)
  | [],_=>ends_self _ _
  | s :: r,l=>ends_bind (Less.ends (must_less s l)) fun _ _ _=>allF_ends r _
theorem chooseF_less {s t:List UInt8} {f g:List Tk→Got Dc} (hf:∀ l,Got.Ends l (f l)) (hg:∀ l,Got.Ends l (g l)) (l:List Tk):Got.Less l (chooseF s f t g l):=by
  unfold chooseF
  split
  · rename_i h
    exact less_isT h (hf _)
  split
  · rename_i h
    exact less_isT h (hg _)
  exact less_bind (must_less [] l) fun _ _ _=>ends_self _ _
theorem structF_ends (l:List Tk):Got.Ends l (structF l):=ends_bind (Less.ends (blockG_less foF_less l)) fun _ _ _=>ends_self _ _
theorem interF_ends (l:List Tk):Got.Ends l (interF l):=ends_bind (Less.ends (blockG_less sgF_less l)) fun _ _ _=>ends_self _ _
theorem typeDeclF_ends (l:List Tk):Got.Ends l (typeDeclF l):=ends_bind (Less.ends (name_less l)) fun _ _ _=>ends_bind (bracketsG_ends foF_less _) fun _ _ _=>ends_bind (Less.ends (chooseF_less structF_ends interF_ends _)) fun _ _ _=>ends_bind (Less.ends (must_less _ _)) fun _ _ _=>ends_self _ _
theorem methodF_ends (l:List Tk):Got.Ends l (methodF l):=ends_bind (Less.ends (must_less _ l)) fun _ _ _=>ends_bind (Less.ends (varF_less _)) fun _ _ _=>ends_bind (Less.ends (name_less _)) fun _ _ _=>ends_bind (bracketsG_ends varF_less _) fun _ _ _ =>
  ends_bind (Less.ends (must_less _ _)) fun _ _ _=>ends_bind (Less.ends (sgF_less _)) fun _ _ _=>ends_bind (allF_ends _ _) fun _ _ _=>ends_bind (Less.ends (exA_less _)) fun _ _ _=>ends_bind (allF_ends _ _) fun _ _ _=>ends_self _ _
theorem methodOrMainF_ends (l:List Tk):Got.Ends l (methodOrMainF l):=by
  unfold methodOrMainF
  split
  · rename_i h
    exact Less.ends (less_isT h (ends_self _ _))
  exact methodF_ends l
theorem declOrMainF_less (l:List Tk):Got.Less l (declOrMainF l):=chooseF_less typeDeclF_ends methodOrMainF_ends l
