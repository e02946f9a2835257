/- The walks of expr.allRight and expr.rightAlone. The condition: the types are small.
The walk of expr.rightAlone. The condition: the types are small.
The walk of expr.Right: a range over the parts. The condition: few parts. -/
import Derived.Test.YtkdlidakdknhjaaGreatDoorQDDcF
import Derived.Deep.RegionHeld3
import Derived.Deep.DeepCutAuto
import Derived.Deep.QuietTactic
import Derived.BigQuiet
import Derived.RangeFuncNested
set_option maxRecDepth 100000
set_option maxHeartbeats 16000000
open Go.Lib (hid)
namespace Go.Proofs.YtkdlidakdknhjaaGreatDoor
open Go.RowKit
theorem all_drop_on {xs:List Ty} {k:Nat} {x:Ty} (hx:xs[k]?=some x):(xs.drop k).all Ty.right=(x.right&&(xs.drop (k+1)).all Ty.right):=Ex.all_on hx
theorem allRight_any (ts:List Ty) (B:Option Addr) (l b:Nat) (w:World) (hE:ResVar w) (hsm:∀ t∈ts,t.Small) (h:Here w B l ts) :
    Calls Tryz.prog 117 #[.slice B l b] w (EqvPost w (ts.all Ty.right)):=by
  have hl:(l:Int)≤9223372036854775807:=by have:=h.le;omega
  have hxl:=h.len
  have H:=hid h
  have HE:=hid hE
  have HS:=hid hsm
  clear h hE hsm
  go_enter Tryz.func117,Tryz.ntmps117
  go_wp2_with fail
  go_loopw [7] (fun i wr=>∃ k:Nat,k≤l∧i=.int .i64 k∧ts.all Ty.right=(ts.drop k).all Ty.right∧Below w.heap.size w wr) (fun i _=>l-(intOf i).toNat)
  case atStart=>exact ⟨0,by omega,rfl,by rw [List.drop_zero],Below.refl _ _⟩
  obtain ⟨k,hk,rfl,hc,hbel⟩:=hrel
  have HBL:=hid hbel
  have HQ:=hid hc
  clear hc
  have z0:(0:Int)≤k:=by omega
  by_cases hlt:k<l
  · have z1:(k:Int)<l:=by omega
    obtain ⟨p,u,ys,po,A2,m2,d2,rfl,hx,_,c0,c1,c2,hu,hl2⟩:=(H.out.later hbel).get hlt
    have hka:Below wr.heap.size wr (wr.alloc (.cells #[.string u,.slice A2 m2 d2,.int .i64 po] 29)):=(Below.refl _ _).alloc (Nat.le_refl _) _
    have CC:=hid (right_any (.mk u ys po) A2 m2 d2 (wr.alloc (.cells #[.string u,.slice A2 m2 d2,.int .i64 po] 29)) ((HE.out.later hbel).later hka) (HS.out _ (List.mem_of_getElem? hx)) (Here.later hl2 hka))
    obtain ⟨x0,x1,x2⟩:=Box.new wr u A2 m2 d2 po 29
    simp only [Ty.name,Ty.off] at CC
    have HST:=hid (HQ.out.trans (all_drop_on hx))
    have HK2:=hid (HBL.out.trans (hka.mono HBL.out.size))
    clear hx hl2 hbel hka
    generalize Ty.right (.mk u ys po)=q at *
    go_wp2_with fail
    refine CC.out.mono ?_
    rintro e w3 ⟨rfl,hb3⟩
    have HB3:=hid (HK2.out.trans (hb3.mono HK2.out.size))
    clear hb3 x0 x1 x2 c0 c1 c2
    cases q
    · have HC:=hid (HST.out.trans (by simp:_=false))
      go_wp2_with fail
      go_ret
      exact ⟨ret_bool (by rw [HC.out]),HB3.out⟩
    have HC:=hid (HST.out.trans (by simp:_=(ts.drop (k+1)).all Ty.right))
    go_wp2_with fail
    go_roundw
    case rel=>exact ⟨k+1,by omega,by go_num,HC.out,HB3.out⟩
    case measure=>simp [intOf];omega
  have z1:(l:Int)≤k:=by omega
  have hq:=HQ.out
  rw [List.drop_eq_nil_of_le (by omega),List.all_nil] at hq
  have HC:=hid hq
  clear hq hbel
  go_wp2_with fail
  go_ret
  exact ⟨ret_bool (by rw [HC.out]),HBL.out⟩
def Ty.zero:Ty:=.mk ⟨#[]⟩ [] 0
def Ty.none? (t:Ty):Bool:=t.cmp Ty.zero==0
theorem none_iff (t:Ty):t.none?=(t.name.size==0&&t.args.length==0):=by
  obtain ⟨s,xs,o⟩:=t
  rw [Ty.none?,Ty.zero,Ty.cmp]
  have hs:=Lib.size_eq s
  by_cases h:s.data.toList=(⟨#[]⟩:ByteArray).data.toList
  · rw [if_pos h]
    have h0:s.size=0:=by rw [hs,h];rfl
    cases xs with
    | nil=>simp [Ty.cmpL,Ty.name,Ty.args,h0]
    | cons a r=>simp [Ty.cmpL,Ty.name,Ty.args]
  rw [if_neg h]
  have h0:s.size≠0:=fun e=>h (by rw [hs] at e;exact List.eq_nil_of_length_eq_zero e)
  have h1:Lib.compareBytes s.data.toList (⟨#[]⟩:ByteArray).data.toList≠0:=fun e=>h ((Nm.cmp_zero _ _).1 e)
  have h2:(s.size==0)=false:=by simpa using h0
  have h3:(Lib.compareBytes s.data.toList (⟨#[]⟩:ByteArray).data.toList==0)=false:=by simpa using h1
  rw [h3,Ty.name,h2,Bool.false_and]
theorem none_wrong {t:Ty} (h:t.none?=true):t.right=false:=by
  obtain ⟨s,xs,o⟩:=t
  rw [none_iff,Bool.and_eq_true] at h
  have h0 : s.data.toList = [] := by have := Lib.size_eq s; have h1 : s.size = 0 := by simpa [Ty.name] using h.1
                                     exact List.eq_nil_of_length_eq_zero (by omega)
  rw [Ty.right,Ty.list,List.all_cons,h0]
  have:Nm.isB []=false:=by decide
  rw [this,Bool.false_and]
def emptyB (s:ByteArray):Bool:=s.toList==[]
theorem empty_size (s:ByteArray):(s.size==0)=emptyB s:=by
  rw [emptyB,Lib.toList_data,Lib.size_eq]
  cases s.data.toList<;>rfl
theorem all_no {α:Type} (ts:List α):ts.all (fun _=>false)=(ts.length==0):=by cases ts<;>rfl
theorem fit1 (s:ByteArray) (t:Ty) (ts:List Ty) (n:Nat):Ex.fit 1 s t ts n=(Nm.isB s.data.toList&&(t.none?&&(ts.length==0&&n==0))):=by
  have h:=none_wrong (t:=t)
  have e:Ex.typed 1=false:=rfl
  simp only [Ex.fit,e,Bool.false_or,←none_iff,if_true]
  rw [show (fun u:Ty=>((1:Int)==2&&u.right))=fun _=>false from rfl,all_no]
  cases hn:t.none?
  · simp
  rw [h hn];cases Nm.isB s.data.toList<;>cases (ts.length==0)<;>cases (n==0)<;>rfl
theorem fit2 (s:ByteArray) (t:Ty) (ts:List Ty) (n:Nat):Ex.fit 2 s t ts n=(Nm.isB s.data.toList&&(t.none?&&(ts.all Ty.right&&decide (0<n)))):=by
  have h:=none_wrong (t:=t)
  have e:Ex.typed 2=false:=rfl
  simp only [Ex.fit,e,Bool.false_or,←none_iff]
  rw [show (fun u:Ty=>((2:Int)==2&&u.right))=Ty.right from rfl]
  cases hn:t.none?
  · simp
  rw [h hn];cases Nm.isB s.data.toList<;>cases ts.all Ty.right<;>simp [Nat.succ_le_iff]
theorem fit3 (s:ByteArray) (t:Ty) (ts:List Ty) (n:Nat):Ex.fit 3 s t ts n=(emptyB s&&(t.right&&ts.length==0)):=by
  have e:Ex.typed 3=true:=rfl
  simp only [Ex.fit,e,Bool.true_or,Bool.and_true,if_true,empty_size]
  rw [show (fun u:Ty=>((3:Int)==2&&u.right))=fun _=>false from rfl,all_no]
  cases emptyB s<;>cases t.right<;>cases (ts.length==0)<;>simp
theorem fit4 (s:ByteArray) (t:Ty) (ts:List Ty) (n:Nat):Ex.fit 4 s t ts n=(Nm.isB s.data.toList&&(t.none?&&(ts.length==0&&n==1))):=by
  have h:=none_wrong (t:=t)
  have e:Ex.typed 4=false:=rfl
  simp only [Ex.fit,e,Bool.false_or,←none_iff]
  rw [show (fun u:Ty=>((4:Int)==2&&u.right))=fun _=>false from rfl,all_no]
  cases hn:t.none?
  · simp
  rw [h hn];cases Nm.isB s.data.toList<;>cases (ts.length==0)<;>cases (n==1)<;>simp
theorem fit5 (s:ByteArray) (t:Ty) (ts:List Ty) (n:Nat):Ex.fit 5 s t ts n=(emptyB s&&(t.right&&(ts.length==0&&n==1))):=by
  have e:Ex.typed 5=true:=rfl
  simp only [Ex.fit,e,Bool.true_or,Bool.and_true,if_true,empty_size]
  rw [show (fun u:Ty=>((5:Int)==2&&u.right))=fun _=>false from rfl,all_no]
  cases emptyB s<;>cases t.right<;>cases (ts.length==0)<;>cases (n==1)<;>simp
theorem fit0 {k:Int} (h:k≠1∧k≠2∧k≠3∧k≠4∧k≠5) (s:ByteArray) (t:Ty) (ts:List Ty) (n:Nat):Ex.fit k s t ts n=false:=by
  obtain ⟨h1,h2,h3,h4,h5⟩:=h
  simp [Ex.fit,h1,h2,h3,h4,h5]
def alone (x:Ex):Bool:=Ex.fit x.kind x.name x.ty x.targs x.kids.length
theorem right_list:∀ e:Ex,e.right=e.list.all alone:=by
  refine Ex.ind fun k s t ts xs o ih=>?_
  rw [Ex.right,Ex.list,List.all_cons,xlistL_all,Ex.rightL_all]
  have:xs.all Ex.right=xs.all (fun x=>x.list.all alone):=by
    clear o
    have hL:∀ ys:List Ex,(∀ y∈ys,y∈xs)→ys.all Ex.right=ys.all (fun x=>x.list.all alone):=by
      intro ys
      induction ys with
      | nil=>intro _;rfl
      | cons a r ih2=>intro hy;rw [List.all_cons,List.all_cons,ih a (hy a (by simp)),ih2 (fun e he=>hy e (by simp [he]))]
    exact hL xs (fun _ h=>h)
  rw [this,Bool.and_comm]
  rfl
open Go.RowKit
structure Sw (w W:World) (B:Option Addr) (l b:Nat) (k:Int) (ts:List Ty) (v6:Value):Prop where
  bel:Below w.heap.size w W
  kind:W.cell? ⟨w.heap.size,0,none⟩=some (.int .i64 k)
  targs:W.cell? ⟨w.heap.size,5,none⟩=some (.slice B l b)
  kids:W.cell? ⟨w.heap.size,6,none⟩=some v6
  env:ResVar W
  lies:Here W B l ts
theorem Sw.later {w W W':World} {B:Option Addr} {l b:Nat} {k:Int} {ts:List Ty} {v6:Value} (h:Sw w W B l b k ts v6) (hb:Below W.heap.size W W'):Sw w W' B l b k ts v6 :=
  ⟨h.bel.trans (hb.mono h.bel.size),(hb.cell (cell_lt h.kind)).trans h.kind,(hb.cell (cell_lt h.targs)).trans h.targs,(hb.cell (cell_lt h.kids)).trans h.kids,h.env.later hb,Here.later h.lies hb⟩
theorem rightAlone_any (e:Ex) (us:List Value) (w:World) (hE:ResVar w) (hsm:e.ty.Small) (hst:∀ t∈e.targs,t.Small) (h:e.dat.H w us) :
    Calls Tryz.prog 82 #[.agg us.toArray] w (EqvPost w (alone e)):=by
  obtain ⟨k,s,t,ts,xs,o⟩:=e
  obtain ⟨A,m,a,B,l,b,C,r,c,rfl,hs,ht,ha,hb,hc⟩:=ex_open h
  have h1:=OneX.new h 34
  simp only [Ex.kind,Ex.name,Ex.ty,Ex.targs,Ex.kids,Ex.off,alone] at hs ht ha hb hc h1 hsm hst ⊢
  have hl:(l:Int)≤9223372036854775807:=by have:=hb.le;omega
  have hr:(r:Int)≤9223372036854775807:=by have:=hc.le;omega
  have hl0:(0:Int)≤l:=by omega
  have hr0:(0:Int)≤r:=by omega
  have hxl:=hc.len
  rw [Ex.dats_len] at hxl
  have htl:=hb.len
  obtain ⟨x0,x1,x2,x3,x4,x5,x6,x7⟩:=h1.one.c8
  have C1:=hid (fun (V:World) (hV:Below (w.alloc (.cells #[.int .i64 k,.string s,.string t.name,.slice A m a,.int .i64 t.off,.slice B l b,.slice C r c,.int .i64 o] 34)).heap.size (w.alloc (.cells #[.int .i64 k,.string s,.string t.name,.slice A m a,.int .i64 t.off,.slice B l b,.slice C r c,.int .i64 o] 34)) V)=>nm_is_any s V ((hE.later h1.bel).later hV))
  have C2:=hid (fun (V:World) (hV:Below (w.alloc (.cells #[.int .i64 k,.string s,.string t.name,.slice A m a,.int .i64 t.off,.slice B l b,.slice C r c,.int .i64 o] 34)).heap.size (w.alloc (.cells #[.int .i64 k,.string s,.string t.name,.slice A m a,.int .i64 t.off,.slice B l b,.slice C r c,.int .i64 o] 34)) V)=>right_any t A m a V ((hE.later h1.bel).later hV) hsm (Here.later (Here.later ha h1.bel) hV))
  have C3:=hid (fun (V:World) (hV:Below (w.alloc (.cells #[.int .i64 k,.string s,.string t.name,.slice A m a,.int .i64 t.off,.slice B l b,.slice C r c,.int .i64 o] 34)).heap.size (w.alloc (.cells #[.int .i64 k,.string s,.string t.name,.slice A m a,.int .i64 t.off,.slice B l b,.slice C r c,.int .i64 o] 34)) V) =>
    show Calls Tryz.prog 111 #[.agg #[.string t.name,.slice A m a,.int .i64 t.off],.agg #[.string ⟨#[]⟩,.slice none 0 0,.int .i64 0]] V (EqvPost V t.none?) from same_any t Ty.zero A none m 0 a 0 V (Here.later (Here.later ha h1.bel) hV) (Lies.nil _ _ _))
  have CA:=hid (fun (V:World) (hV:ResVar V) (hh:Here V B l ts)=>allRight_any ts B l b V hV hst hh)
  have HSW:=hid (show Sw w (w.alloc (.cells #[.int .i64 k,.string s,.string t.name,.slice A m a,.int .i64 t.off,.slice B l b,.slice C r c,.int .i64 o] 34)) B l b k ts (.slice C r c) from ⟨h1.bel,x0,x5,x6,hE.later h1.bel,Here.later hb h1.bel⟩)
  have HE:=hid hE
  have HF:Hid ((k=1∧Ex.fit k s t ts xs.length=(Nm.isB s.data.toList&&(t.none?&&(l==0&&r==0))))∨(k=2∧Ex.fit k s t ts xs.length=(Nm.isB s.data.toList&&(t.none?&&(ts.all Ty.right&&decide (0<r)))))
      ∨ (k=3∧Ex.fit k s t ts xs.length=(emptyB s&&(t.right&&l==0)))∨(k=4∧Ex.fit k s t ts xs.length=(Nm.isB s.data.toList&&(t.none?&&(l==0&&r==1))))
      ∨ (k=5∧Ex.fit k s t ts xs.length=(emptyB s&&(t.right&&(l==0&&r==1))))∨((k≠1∧k≠2∧k≠3∧k≠4∧k≠5)∧Ex.fit k s t ts xs.length=false)):=hid (by
    rw [←htl,←hxl]
    by_cases h1:k=1
    · subst h1;exact .inl ⟨rfl,fit1 _ _ _ _⟩
    by_cases h2:k=2
    · subst h2;exact .inr (.inl ⟨rfl,fit2 _ _ _ _⟩)
    by_cases h3:k=3
    · subst h3;exact .inr (.inr (.inl ⟨rfl,fit3 _ _ _ _⟩))
    by_cases h4:k=4
    · subst h4;exact .inr (.inr (.inr (.inl ⟨rfl,fit4 _ _ _ _⟩)))
    by_cases h5:k=5
    · subst h5;exact .inr (.inr (.inr (.inr (.inl ⟨rfl,fit5 _ _ _ _⟩))))
    exact .inr (.inr (.inr (.inr (.inr ⟨⟨h1,h2,h3,h4,h5⟩,fit0 ⟨h1,h2,h3,h4,h5⟩ _ _ _ _⟩)))))
  have hem:(s.toList==[])=emptyB s:=rfl
  have HEM:=hid hem
  clear h h1 hs ht ha hb hc hsm hst hem hxl htl hE x0 x5 x6 x7
  generalize Nm.isB s.data.toList=nb at *
  generalize t.right=tr at *
  generalize t.none?=tl at *
  generalize emptyB s=nl at *
  generalize Ex.fit k s t ts xs.length=res at *
  go_enter Tryz.func82,Tryz.ntmps82
  go_upto_region 1 with fail
  generalize hW:w.alloc (.cells #[.int .i64 k,.string s,.string t.name,.slice A m a,.int .i64 t.off,.slice B l b,.slice C r c,.int .i64 o] 34)=W at *
  clear hW
  have KP:=hid (show ∀ w1:World,Below W.heap.size W w1→Below W.heap.size W w1∧w1.cell? ⟨w.heap.size,1,none⟩=some (.string s)∧w1.cell? ⟨w.heap.size,2,none⟩=some (.string t.name)∧w1.cell? ⟨w.heap.size,3,none⟩=some (.slice A m a)∧w1.cell? ⟨w.heap.size,4,none⟩=some (.int .i64 t.off) from fun w1 h=>⟨h,(h.cell (cell_lt x1)).trans x1,(h.cell (cell_lt x2)).trans x2,(h.cell (cell_lt x3)).trans x3,(h.cell (cell_lt x4)).trans x4⟩)
  clear x1 x2 x3 x4
  go_cut [3,4] (fun s3 s4 wx=>s3=.bool nb∧s4=.bool tr∧Below W.heap.size W wx)
  case first =>
    have SS:=KP.out W (Below.refl _ _)
    go_region_held3 (fun V=>Below W.heap.size W V∧V.cell? ⟨w.heap.size,1,none⟩=some (.string s)∧V.cell? ⟨w.heap.size,2,none⟩=some (.string t.name)∧V.cell? ⟨w.heap.size,3,none⟩=some (.slice A m a)∧V.cell? ⟨w.heap.size,4,none⟩=some (.int .i64 t.off))
      (first | exact SS | exact ⟨SS.1.drew,SS.2⟩ | fail)
      (first
        | (go_at_call 32;refine (C1.out _ ?_).mono ?_;(first | exact SS.1 | exact SS.1.drew | fail);rintro e wA ⟨rfl,hbA⟩;have hA0:=hid (show Below W.heap.size W wA by first | exact Below.trans SS.1 (Below.mono hbA (Below.size SS.1)) | exact Below.trans (Below.drew SS.1) (Below.mono hbA (Below.size (Below.drew SS.1))) | fail);have SS:=KP.out wA hA0.out;clear hbA)
        | (go_at_call 80;refine (C2.out _ ?_).mono ?_;(first | exact SS.1 | exact SS.1.drew | fail);rintro e wB ⟨rfl,hbB⟩;have hB0:=hid (show Below W.heap.size W wB by first | exact Below.trans SS.1 (Below.mono hbB (Below.size SS.1)) | exact Below.trans (Below.drew SS.1) (Below.mono hbB (Below.size (Below.drew SS.1))) | fail);have SS:=KP.out wB hB0.out;clear hbB))
    all_goals
      go_wp2_with fail
      go_meet
      exact ⟨rfl,rfl,SS.1⟩
  obtain ⟨rfl,rfl,hcb⟩:=hcut
  have HCB:=hid hcb
  clear hcb
  go_upto_region 2 with fail
  go_cut [5,6] (fun s5 s6 wx=>s5=.bool nl∧s6=.bool tl∧Below W.heap.size W wx)
  case first =>
    have SS:=KP.out _ HCB.out
    have hem:=HEM.out
    go_region_held3 (fun V=>Below W.heap.size W V∧V.cell? ⟨w.heap.size,1,none⟩=some (.string s)∧V.cell? ⟨w.heap.size,2,none⟩=some (.string t.name)∧V.cell? ⟨w.heap.size,3,none⟩=some (.slice A m a)∧V.cell? ⟨w.heap.size,4,none⟩=some (.int .i64 t.off))
      (first | exact SS | exact ⟨SS.1.drew,SS.2⟩ | fail)
      (first | (go_at_call 111;refine (C3.out _ ?_).mono ?_;(first | exact SS.1 | exact SS.1.drew | fail);rintro e wA ⟨rfl,hbA⟩;have hA0:=hid (show Below W.heap.size W wA by first | exact Below.trans SS.1 (Below.mono hbA (Below.size SS.1)) | exact Below.trans (Below.drew SS.1) (Below.mono hbA (Below.size (Below.drew SS.1))) | fail);have SS:=KP.out wA hA0.out;clear hbA))
    all_goals
      go_wp2_with fail
      go_meet
      exact ⟨rfl,rfl,SS.1⟩
  obtain ⟨rfl,rfl,hcb2⟩:=hcut
  have HSV:=hid (HSW.out.later hcb2)
  clear hcb2 HCB HSW
  obtain ⟨x0,x5,x6⟩:wc.cell? ⟨w.heap.size,0,none⟩=some (.int .i64 k)∧wc.cell? ⟨w.heap.size,5,none⟩=some (.slice B l b)∧wc.cell? ⟨w.heap.size,6,none⟩=some (.slice C r c):=⟨HSV.out.kind,HSV.out.targs,HSV.out.kids⟩
  go_upto_region 3 with fail
  go_quiet (fail)
  have HSD:=hid (HSV.out.later (below_drewN (Below.refl _ _) nq))
  have d0:=HSD.out.kind
  have d5:=HSD.out.targs
  clear HSV x0 x5 x6
  generalize World.drewN wc nq=wd at *
  obtain ⟨ql,hql⟩:∃ q,q=(l==0):=⟨_,rfl⟩
  obtain ⟨q0,hq0⟩:∃ q,q=(r==0):=⟨_,rfl⟩
  obtain ⟨q1,hq1⟩:∃ q,q=(r==1):=⟨_,rfl⟩
  have l0:((l:Int)==0)=ql:=by rw [hql,Bool.eq_iff_iff];simp
  have l1:((r:Int)==0)=q0:=by rw [hq0,Bool.eq_iff_iff];simp
  have l2:((r:Int)==1)=q1:=by rw [hq1,Bool.eq_iff_iff];simp;omega
  have hf:=HF.out
  rw [←hql,←hq0,←hq1] at hf
  clear hql hq0 hq1 HF
  rcases hf with ⟨rfl,hf⟩ | ⟨rfl,hf⟩ | ⟨rfl,hf⟩ | ⟨rfl,hf⟩ | ⟨rfl,hf⟩ | ⟨⟨h1,h2,h3,h4,h5⟩,hf⟩
  · have HFR:=hid hf
    clear hf
    cases nb<;>cases tl<;>cases ql<;>cases q0
    all_goals
      go_wp2_with fail
      go_ret
      exact ⟨ret_bool (by rw [HFR.out];rfl),HSD.out.bel⟩
  · have HFR:=hid hf
    clear hf
    cases nb
    · go_wp2_with fail
      go_ret
      exact ⟨ret_bool (by rw [HFR.out];rfl),HSD.out.bel⟩
    cases tl
    · go_wp2_with fail
      go_ret
      exact ⟨ret_bool (by rw [HFR.out];rfl),HSD.out.bel⟩
    have CC:=hid (CA.out _ HSD.out.env HSD.out.lies)
    generalize ts.all Ty.right=qa at *
    go_wp2_with fail
    refine CC.out.mono ?_
    rintro e w3 ⟨rfl,hb3⟩
    have HB3:=hid (HSD.out.bel.trans (hb3.mono HSD.out.bel.size))
    clear hb3 d0 d5
    obtain ⟨qd,hqd⟩:∃ q,q=decide (0<r):=⟨_,rfl⟩
    rw [←hqd] at HFR
    cases qd
    · have z:(r:Int)≤0:=by have:=of_decide_eq_false hqd.symm;omega
      have HFR2:=hid (HFR.out.trans (by simp:_=false))
      clear hqd
      cases qa
      all_goals
        go_wp2_with fail
        go_ret
        exact ⟨ret_bool (by rw [HFR2.out];all_goals (first | rfl | exact decide_eq_true (by omega) | exact decide_eq_false (by omega))),HB3.out⟩
    have z:(0:Int)<r:=by have:=of_decide_eq_true hqd.symm;omega
    have HFR2:=hid (HFR.out.trans (by simp:_=qa))
    clear hqd
    cases qa
    all_goals
      go_wp2_with fail
      go_ret
      exact ⟨ret_bool (by rw [HFR2.out];all_goals (first | rfl | exact decide_eq_true (by omega) | exact decide_eq_false (by omega))),HB3.out⟩
  · have HFR:=hid hf
    clear hf
    cases nl<;>cases tr<;>cases ql
    all_goals
      go_wp2_with fail
      go_ret
      exact ⟨ret_bool (by rw [HFR.out];rfl),HSD.out.bel⟩
  · have HFR:=hid hf
    clear hf
    cases nb<;>cases tl<;>cases ql<;>cases q1
    all_goals
      go_wp2_with fail
      go_ret
      exact ⟨ret_bool (by rw [HFR.out];rfl),HSD.out.bel⟩
  · have HFR:=hid hf
    clear hf
    cases nl<;>cases tr<;>cases ql<;>cases q1
    all_goals
      go_wp2_with fail
      go_ret
      exact ⟨ret_bool (by rw [HFR.out];rfl),HSD.out.bel⟩
  have HFR:=hid hf
  have e1:(k==1)=false:=by simp [h1]
  have e2:(k==2)=false:=by simp [h2]
  have e3:(k==3)=false:=by simp [h3]
  have e4:(k==4)=false:=by simp [h4]
  have e5:(k==5)=false:=by simp [h5]
  clear hf h1 h2 h3 h4 h5
  go_wp2_with fail
  go_ret
  exact ⟨ret_bool (by rw [HFR.out]),HSD.out.bel⟩
open Go.RowKit
attribute [local go_sem] Oper.semAt_some
theorem rightx_res {w:World} {r:Addr} {b:Bool} (tmps:Array Value) (ht:tmps[2]?.getD undef=.pointer (some r)) (hc:w.cell? r=some (.bool b)) :
    (results Tryz.f42 tmps).run Tryz.prog w=.ok (.bool b) w:=by
  simp [results,Tryz.results42,ht,go_sem,hc]
theorem rightx_leave {w W:World} {k D:Nat} {v0:Value} {b:Bool} (tmps:Array Value) (ht:tmps[2]?.getD undef=.pointer (some ⟨k,0,none⟩)) (hb:Below w.heap.size w W) (hk:w.heap.size≤k) (hD:w.heap.size≤D)
    (hK:W.heap[D]?=some (.deferred (some []))) (h0:W.cell? ⟨k,0,none⟩=some v0) :
    bodyPostM Fence.wide 9 Tryz.prog Tryz.f42 (EqvPost w b) .ret { tmps,defers:=[{ target:=.collected D,args:=#[] }] } (W.setCell ⟨k,0,none⟩ (.bool b)):=by
  have hK2:(W.setCell ⟨k,0,none⟩ (.bool b)).heap[D]?=some (.deferred (some [])):=(KeepsOthers.setCell _ _ _).same D _ hK rfl
  have hc:(W.setCell ⟨k,0,none⟩ (.bool b)).cell? ⟨k,0,none⟩=some (.bool b):=World.cell?_setCell_same _ _ _ h0
  have hc2:=cell_kept hc (grownBy_putObj' _ D (.deferred none)) (fun r e=>by cases e;exact ⟨_,hK2,rfl⟩)
  refine ⟨by simp,.inl ⟨_,_,rfl,run_takeDeferred hK2,?_⟩⟩
  exact ⟨_,rightx_res tmps ht hc2,rfl,(hb.setCell (p:=⟨k,0,none⟩) hk _).trans (belowK_b (w:=w) (Nat.le_refl _) _ D _ _ hD hK2 rfl rfl)⟩
theorem rightx_leave2 {w W:World} {k D:Nat} {b:Bool} (tmps:Array Value) (ht:tmps[2]?.getD undef=.pointer (some ⟨k,0,none⟩)) (hb:Below w.heap.size w W) (hD:w.heap.size≤D)
    (hK:W.heap[D]?=some (.deferred (some []))) (h0:W.cell? ⟨k,0,none⟩=some (.bool b)) :
    bodyPostM Fence.wide 9 Tryz.prog Tryz.f42 (EqvPost w b) .ret { tmps,defers:=[{ target:=.collected D,args:=#[] }] } W:=by
  have hc2:=cell_kept h0 (grownBy_putObj' _ D (.deferred none)) (fun r e=>by cases e;exact ⟨_,hK,rfl⟩)
  refine ⟨by simp,.inl ⟨_,_,rfl,run_takeDeferred hK,?_⟩⟩
  exact ⟨_,rightx_res tmps ht hc2,rfl,hb.trans (belowK_b (w:=w) (Nat.le_refl _) _ D _ _ hD hK rfl rfl)⟩
theorem xright_any (e:Ex) (us:List Value) (w:World) (hE:ResVar w) (hwt:e.wt≤1990) (h:e.dat.H w us):Calls Tryz.prog 42 #[.agg us.toArray] w (EqvPost w e.right):=by
  have hx:=box_bool h
  obtain ⟨A,m,a,B,l,b,C,r,c,rfl,_⟩:=ex_open h
  have HX:=hid hx.1
  have HR:=hid hx.2
  have HV:=hid (right_list e)
  have HE:=hid (hE.later hx.1.bel)
  clear hx h hE
  refine (callsIn_wide (n:=9)).1 (callsIn_of_wp_marks Tryz.func42 rfl trivial ?_ rfl)
  simp only [Tryz.ntmps42,List.size_toArray,List.length_cons,List.length_nil,Nat.reduceAdd,Nat.reduceSub,Array.replicate_succ,Array.replicate_zero,List.push_toArray,List.append_toArray,List.nil_append,List.cons_append]
  refine wpIn_wide.2 ?_
  obtain ⟨x0,x1,x2,x3,x4,x5,x6,x7⟩:=HX.out.one.c8
  go_wp2_with fail
  generalize hW:(w.alloc (.cells #[.int .i64 e.kind,.string e.name,.string e.ty.name,.slice A m a,.int .i64 e.ty.off,.slice B l b,.slice C r c,.int .i64 e.off] 34)).alloc (.cells #[.bool false] 4)=W at *
  clear hW
  refine (parts_any _ e _ _ (Nat.le_refl _) hwt HX.out.da).mono ?_
  rintro e5 w5 ⟨g,lb,rfl,hb,hent,hseq⟩
  clear x0 x1 x2 x3 x4 x5 x6 x7
  have B5:=hid (HX.out.bel.trans (hb.mono HX.out.bel.size))
  have HZ5:=hid hb.size
  have E5:=hid (HE.out.later hb)
  have R5:=hid ((hb.block _ (Array.getElem?_eq_some_iff.1 HR.out).1).trans HR.out)
  have HEN:=hid hent
  have HSQ:=hid hseq
  clear hb hent hseq HX HR HE
  go_wp2_with fail
  refine (wpIn_wide (n:=9)).1 ?_
  refine wpIn_rangeFunc_ownH rfl (by omega) (gf:=g) (lb:=lb) rfl trivial HEN.out (HSQ.out 8 w5 (by omega) (Below.refl _ _)) (fun h k=>h.trans k) (fun W l o o' _ h hc _=>KeepE.put W l o o' h hc) (Below.refl _ _) (fun _=>rfl)
    (fun pre W=>AllP alone pre∧Below w5.heap.size w5 W)
    (fun c pre W=>c=.ret∧(¬ AllP alone pre)∧W.cell? ⟨w.heap.size+1,0,none⟩=some (.bool false)∧Below w.heap.size w W)
    (OwnFrom.and (fun s A B row hs hg hr=>hs) (ownFrom_below (Nat.le_refl _) (Nat.le_refl _)))
    (fun c s A B row hs hg hr=>⟨hs.1,hs.2.1,cell_kept hs.2.2.1 hg (fun r e=>(hr r e).2),ownFrom_below (β:=Unit) (Nat.le_refl _) B5.out.size () A B row hs.2.2.2 hg hr⟩)
    ⟨AllP.nil _,Below.refl _ _⟩
    (BoxAx fun p x=>{ tmps:=#[.agg #[.int .i64 e.kind,.string e.name,.string e.ty.name,.slice A m a,.int .i64 e.ty.off,.slice B l b,.slice C r c,.int .i64 e.off],.pointer (some ⟨w.heap.size,0,none⟩),.pointer (some ⟨w.heap.size+1,0,none⟩),.pointer (some p),.agg #[.int .i64 e.kind,.string e.name,.string e.ty.name,.slice A m a,.int .i64 e.ty.off,.slice B l b,.slice C r c,.int .i64 e.off],
      .func (.func g) #[] lb,.agg x.1.2.toArray,undef,undef,undef],defers:=[] }) (boxAx_own _) ?assign ?body ?done ?stop
  case assign =>
    rintro l pre ⟨⟨u,us⟩,hx⟩ W K ⟨hpre,hbw⟩ hK
    have hb1:Below W.heap.size W (W.alloc (.cells us.toArray 34)):=(Below.refl _ _).alloc (Nat.le_refl _) _
    have HK:=hid (fun a' (ha:a'=_)=>hK a' (W.alloc (.cells us.toArray 34)) ((keepsOthers_below hb1).from _) (KeepE.of_below hb1) ⟨hpre,hbw.trans (hb1.mono hbw.size)⟩ ⟨W.heap.size,ha,Boxd.new W us.toArray 34⟩)
    obtain ⟨_,_,_,_,_,_,_,_,_,rfl,_⟩:=ex_open (e:=u) (us:=us) hx.2
    clear hK hb1 hpre hbw
    simp only [Part.enc]
    gi_wp2
    exact HK.out _ rfl
  case body =>
    rintro l pre ⟨⟨u,us⟩,hx⟩ a' Wr _ _ ⟨hpre,hbw⟩ ⟨bx,rfl,hbx⟩ hlen
    have hr:=(hbw.block _ (Array.getElem?_eq_some_iff.1 R5.out).1).trans R5.out
    have r0:Wr.cell? ⟨w.heap.size+1,0,none⟩=some (.bool false):=by rw [cell_of_row _ _ 0 _ _ (0,0) hr];rfl
    have r1:Wr.frozen? ⟨w.heap.size+1,0,none⟩=false:=frozen_of_row hr 0
    obtain ⟨_,_,_,_,_,_,_,_,_,rfl,_⟩:=ex_open (e:=u) (us:=us) hx.2
    obtain ⟨y0,y1,y2,y3,y4,y5,y6,y7⟩:=hbx.c8
    have HP:=hid hpre
    have HBW:=hid hbw
    have HRR:=hid hr
    have C:=hid (rightAlone_any u _ Wr (E5.out.later hbw) (ty_few (Nat.le_trans Ex.wt_ty hx.1)) (fun t ht=>ty_few (Nat.le_trans (Ex.wt_targ ht) hx.1)) (Dat.H.later (hx.2.wide fun _ h=>Nat.lt_of_lt_of_le h HZ5.out) hbw))
    clear hpre hbw hlen hr hbx r0 r1
    have hdd:∀ k:Nat,(Fence.wide.depth.isSome=true→1≤k):=fun k h=>by cases h
    cases hq:alone u
    · rw [hq] at C
      have HKK:=hid hq
      clear hq
      gi_wp2_with (refine ⟨trivial,?_⟩;gi_at_call 82;refine (CallsIn.inRound l (callsIn_wide.2 C.out)).mono ?_;clear C;rintro e W2 ⟨rfl,hb2⟩;have HB2:=hid hb2;have hr2:=(hb2.block _ (Array.getElem?_eq_some_iff.1 HRR.out).1).trans HRR.out;have r0:W2.cell? ⟨w.heap.size+1,0,none⟩=some (.bool false):=(by rw [cell_of_row _ _ 0 _ _ (0,0) hr2];rfl);have r1:W2.frozen? ⟨w.heap.size+1,0,none⟩=false:=frozen_of_row hr2 0;have HR2:=hid r0;clear hb2 hr2)
      exact ⟨((keepsOthers_below HB2.out).trans (KeepsOthers.setCell _ _ _)).from _,rfl,(fun h=>by have:=h.last;rw [Part.ex,HKK.out] at this;cases this),World.cell?_setCell_same _ _ _ HR2.out,
        (B5.out.trans ((HBW.out.trans (HB2.out.mono HBW.out.size)).mono B5.out.size)).setCell (p:=⟨w.heap.size+1,0,none⟩) (Nat.le_succ _) _⟩
    rw [hq] at C
    have HKK:=hid hq
    clear hq
    gi_wp2_with (refine ⟨trivial,?_⟩;gi_at_call 82;refine (CallsIn.inRound l (callsIn_wide.2 C.out)).mono ?_;clear C;rintro e W2 ⟨rfl,hb2⟩;have HB2:=hid hb2;clear hb2)
    exact ⟨(keepsOthers_below HB2.out).from _,KeepE.of_below HB2.out,HP.out.snoc HKK.out,HBW.out.trans (HB2.out.mono HBW.out.size)⟩
  case done =>
    rintro D ys W hD hys ⟨hpre,hbw⟩ hK
    have hr:=(hbw.block _ (Array.getElem?_eq_some_iff.1 R5.out).1).trans R5.out
    have r0:W.cell? ⟨w.heap.size+1,0,none⟩=some (.bool false):=by rw [cell_of_row _ _ 0 _ _ (0,0) hr];rfl
    have r1:W.frozen? ⟨w.heap.size+1,0,none⟩=false:=frozen_of_row hr 0
    have ht:e.right=true:=HV.out.trans (all_parts hys hpre)
    have HTR:=hid ht
    have HLV:=hid (fun tmps ht=>rightx_leave (w:=w) (W:=W) (k:=w.heap.size+1) (b:=true) tmps ht (B5.out.trans (hbw.mono B5.out.size)) (Nat.le_succ _) (Nat.le_trans B5.out.size hD) hK r0)
    clear hK hbw hD hpre hr ht hys
    go_wp2_with fail
    rw [HTR.out]
    exact HLV.out _ rfl
  case stop =>
    rintro D c pre W hD hpre ⟨rfl,hx,hc,hbw⟩ hK
    have ht:e.right=false:=HV.out.trans (not_parts hpre hx)
    have HTR:=hid ht
    have HLV:=hid (fun tmps ht=>rightx_leave2 (w:=w) (W:=W) (k:=w.heap.size+1) (b:=false) tmps ht hbw (Nat.le_trans B5.out.size hD) hK hc)
    clear hK hbw hD hpre hx hc ht
    refine wpIn_wide.2 ?_
    go_wp2_with fail
    rw [HTR.out]
    exact HLV.out _ rfl
