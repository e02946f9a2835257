/- The walks of the reference's Value, Depth and Right of expressions.
The walk of the reference's Right of expressions. The condition: the expression has few parts. -/
import Derived.Test.YtkdlidakdknhjaaGreatDoorQDExE
set_option maxRecDepth 100000
set_option maxHeartbeats 16000000
open Go.Lib (hid)
namespace Go.Proofs.YtkdlidakdknhjaaGreatDoor
open Go.RowKit
structure OneX (w0 W:World) (e:Ex) (us:List Value):Prop where
  bel:Below w0.heap.size w0 W
  one:Boxd W w0.heap.size us
  da:e.dat.H W us
theorem OneX.new {w:World} {e:Ex} {us:List Value} (h:e.dat.H w us) (T:TypeId):OneX w (w.alloc (.cells us.toArray T)) e us :=
  have hb:Below w.heap.size w (w.alloc (.cells us.toArray T)):=(Below.refl _ _).alloc (Nat.le_refl _) _
  ⟨hb,Boxd.new w us.toArray T,Dat.H.later h hb⟩
theorem OneX.later {w0 W W':World} {e:Ex} {us:List Value} (h:OneX w0 W e us) (hb:Below W.heap.size W W'):OneX w0 W' e us :=
  ⟨h.bel.trans (hb.mono h.bel.size),h.one.later hb,Dat.H.later h.da hb⟩
open Go.RowKit
theorem ty_few {t:Ty} (h:Ty.wt t≤1990):t.Small:=Ty.small_of_wt h
def targOk (k:Int) (u:Ty):Bool:=k==2&&u.right
theorem fit_eq (k:Int) (s:ByteArray) (t:Ty) (ts:List Ty) (n:Nat):Ex.fit k s t ts n=((ts.all (targOk k))&&((Ex.typed k==t.right)&&((Ex.typed k || (t.name.size==0&&t.args.length==0))&&((if Ex.typed k then s.size==0 else Nm.isB s.data.toList)
    && (if k=1 then n==0 else if k=2 then decide (1≤n) else if k=3 then true else if k=4∨k=5 then n==1 else false))))):=by
  simp only [Ex.fit,Bool.and_assoc]
  rfl
theorem xref_right_any:∀ (e:Ex) (us:List Value) (w:World),e.wt≤1990→e.dat.H w us→Calls Tryz.prog 31 #[.agg us.toArray] w (EqvPost w e.right):=by
  refine Ex.ind fun k s t ts xs o ih us w hwt h=>?_
  obtain ⟨A,m,a,B,l,b,C,r,c,rfl,hs,ht,ha,hb,hc⟩:=ex_open h
  have h1:=OneX.new h 34
  have hwt1:=Ex.wt_ty (e:=.mk k s t ts xs o)
  have hwt2:=fun u=>Ex.wt_targ (e:=.mk k s t ts xs o) (t:=u)
  have hwt3:=fun x=>Ex.wt_kid (e:=.mk k s t ts xs o) (x:=x)
  simp only [Ex.kind,Ex.name,Ex.ty,Ex.targs,Ex.kids,Ex.off] at hs ht ha hb hc h1 hwt1 hwt2 hwt3 ⊢
  have hl:(l:Int)≤9223372036854775807:=by have:=hb.le;omega
  have hr:(r:Int)≤9223372036854775807:=by have:=hc.le;omega
  have hxl:=hc.len
  rw [Ex.dats_len] at hxl
  have htl:=hb.len
  have hal:=ha.len
  have ha0:(m:Int)≤9223372036854775807:=by have:=ha.le;omega
  have IH:=hid ih
  have H:=hid h1
  have HWT:=hid (show ∀ u∈ts,Ty.wt u≤1990 from fun u hu=>Nat.le_trans (hwt2 u hu) hwt)
  have HWX:=hid (show ∀ x∈xs,Ex.wt x≤1990 from fun x hx=>Nat.le_trans (hwt3 x hx) hwt)
  have HWE:=hid (show Ty.wt t≤1990 from Nat.le_trans hwt1 hwt)
  have HA:=hid (Here.later ha h1.bel)
  have HT:=hid (Here.later hb h1.bel)
  have HK:=hid (RowH.later hc h1.bel)
  have HD:=hid (show Ex.right (.mk k s t ts xs o)=((xs.drop 0).all Ex.right&&Ex.fit k s t ts xs.length) by rw [Ex.right,Ex.rightL_all,List.drop_zero])
  clear ih h h1 ha hb hc hwt hwt1 hwt2 hwt3
  go_enter Tryz.func31,Tryz.ntmps31
  go_wp2_with fail
  generalize hW:w.alloc (.cells #[.int .i64 k,.string s,.string t.name,.slice A m a,.int .i64 t.off,.slice B l b,.slice C r c,.int .i64 o] 34)=W at *
  clear hW
  go_loopw [3] (fun i wr=>∃ j:Nat,j≤r∧i=.int .i64 j∧Ex.right (.mk k s t ts xs o)=((xs.drop j).all Ex.right&&Ex.fit k s t ts xs.length)∧Below W.heap.size W wr) (fun i _=>r-(intOf i).toNat)
  case atStart=>exact ⟨0,by omega,rfl,HD.out,Below.refl _ _⟩
  obtain ⟨j,hj,rfl,hq,hbel⟩:=hrel
  have H3:=hid (H.out.later hbel)
  obtain ⟨x0,x1,x2,x3,x4,x5,x6,x7⟩:=H3.out.one.c8
  have HBL:=hid hbel
  have HQ:=hid hq
  clear hq
  by_cases hlt:j<r
  · have z1:(j:Int)<r:=by omega
    obtain ⟨p,u,ps,rfl,hx,_,_,hu,hcs⟩:=kid_at (RowH.later HK.out hbel) hlt
    have CC:=hid (IH.out _ (List.mem_of_getElem? hx) ps wr (HWX.out _ (List.mem_of_getElem? hx)) hu)
    obtain ⟨_,_,_,_,_,_,_,_,_,rfl,_⟩:=ex_open hu
    obtain ⟨c0,c1,c2,c3,c4,c5,c6,c7⟩:=cells8_at hcs
    have HS:=hid (HQ.out.trans (by rw [Ex.all_on hx]))
    clear hx hu hcs hbel HQ
    go_wp2_with fail
    refine CC.out.mono ?_
    rintro e w3 ⟨rfl,hb3⟩
    have HB3:=hid (HBL.out.trans (hb3.mono HBL.out.size))
    clear hb3
    cases hz:Ex.right u
    · have HS2:=hid (HS.out.trans (by rw [hz];simp:_=false))
      go_wp2
      go_ret
      exact ⟨ret_bool (by rw [HS2.out]),H.out.bel.trans (HB3.out.mono H.out.bel.size)⟩
    have HS2:=hid (HS.out.trans (by rw [hz];simp:_=((xs.drop (j+1)).all Ex.right&&Ex.fit k s t ts xs.length)))
    go_wp2
    go_roundw
    case rel=>exact ⟨j+1,by omega,by go_num,HS2.out,HB3.out⟩
    case measure=>simp [intOf];omega
  have hq:=HQ.out
  rw [List.drop_eq_nil_of_le (by omega),List.all_nil,Bool.true_and,hxl] at hq
  have HQ2:=hid hq
  have q1:(r:Int)≤j:=by omega
  have HT2:=hid (Here.later HT.out hbel)
  have HA2:=hid (Here.later HA.out hbel)
  clear hq hbel HQ HBL H HT HA HK HD IH HWX
  go_wp2_with fail
  generalize hV:wr=V at *
  clear hV x0 x1 x2 x3 x4 x5 x6 x7
  go_loopw [4] (fun i wr=>∃ j:Nat,j≤l∧i=.int .i64 j∧ts.all (targOk k)=(ts.drop j).all (targOk k)∧Below V.heap.size V wr) (fun i _=>l-(intOf i).toNat)
  case atStart=>exact ⟨0,by omega,rfl,rfl,Below.refl _ _⟩
  obtain ⟨i,hi,rfl,hq,hbel⟩:=hrel
  have H4:=hid (H3.out.later hbel)
  obtain ⟨x0,x1,x2,x3,x4,x5,x6,x7⟩:=H4.out.one.c8
  have HBL:=hid hbel
  have HQ:=hid hq
  clear hq
  by_cases hlt2:i<l
  · have z2:(i:Int)<l:=by omega
    obtain ⟨p,u,ys,po,A2,m2,d2,rfl,hx,_,c0,c1,c2,hu,hl2⟩:=(HT2.out.later hbel).get hlt2
    have hsm:=ty_few (HWT.out _ (List.mem_of_getElem? hx))
    have CC:=hid (ref_right_any (.mk u ys po) A2 m2 d2 wr (by have:=hsm.list;omega) (fun s hs=>by have:=hsm.names s hs;omega) hl2)
    have HS:=hid (HQ.out.trans (Ex.all_on hx))
    simp only [Ty.name,Ty.off] at CC
    clear hx hl2 hbel HQ hsm
    by_cases hk2:k=2
    · have e1:(k != 2)=false:=by simp [hk2]
      have e2:(k==2)=true:=by simp [hk2]
      clear hk2
      go_wp2_with fail
      refine CC.out.mono ?_
      rintro e w3 ⟨rfl,hb3⟩
      have HB3:=hid (HBL.out.trans (hb3.mono HBL.out.size))
      clear hb3
      cases hz:Ty.right (.mk u ys po)
      · have HC:=hid (HQ2.out.trans (by rw [fit_eq,HS.out,targOk,hz];simp:_=false))
        go_wp2
        go_ret
        exact ⟨ret_bool (by rw [HC.out]),H3.out.bel.trans (HB3.out.mono H3.out.bel.size)⟩
      have HS2:=hid (HS.out.trans (by rw [targOk,hz,e2];simp:_=(ts.drop (i+1)).all (targOk k)))
      go_wp2
      go_roundw
      case rel=>exact ⟨i+1,by omega,by go_num,HS2.out,HB3.out⟩
      case measure=>simp [intOf];omega
    have e1:(k != 2)=true:=by simp [hk2]
    have e2:(k==2)=false:=by simp [hk2]
    have HC:=hid (HQ2.out.trans (by rw [fit_eq,HS.out,targOk,e2];simp:_=false))
    go_wp2_with fail
    go_ret
    exact ⟨ret_bool (by rw [HC.out]),H3.out.bel.trans (HBL.out.mono H3.out.bel.size)⟩
  have hq:=HQ.out
  rw [List.drop_eq_nil_of_le (by omega),List.all_nil] at hq
  have HF:=hid (HQ2.out.trans (by rw [fit_eq,hq,Bool.true_and]:_=_))
  have q2:(l:Int)≤i:=by omega
  have hsm:=ty_few HWE.out
  have CT:=hid (ref_right_any t A m a wr (by have:=hsm.list;omega) (fun s hs=>by have:=hsm.names s hs;omega) (Here.later HA2.out hbel))
  have CI:=hid (fun (w2:World)=>nm_ref_is_any s hs w2)
  clear hq hbel HQ HT2 HA2 HWT HWE HQ2 hsm
  have hsz:(s.size==0)=decide (s.toList=[]):=by rw [Lib.toList_data,Lib.size_eq];cases s.data.toList<;>simp
  have htz:(t.name.size==0)=decide (t.name.toList=[]):=by rw [Lib.toList_data,Lib.size_eq];cases t.name.data.toList<;>simp
  have n0:(r==0)=((r:Int)==0):=by rw [Bool.eq_iff_iff];simp
  have n1:(r==1)=((r:Int)==1):=by rw [Bool.eq_iff_iff];simp;omega
  have n2:decide (1≤r)=decide ((1:Int)≤r):=by rw [Bool.eq_iff_iff];simp;omega
  rw [hsz,htz,hal,n0,n1,n2] at HF
  clear hsz htz n0 n1 n2
  have hk:k=3∨k=5∨((k==3)=false∧(k==5)=false∧Ex.typed k=false∧¬ k=3∧¬ k=5):=by
    by_cases h3:k=3
    · exact .inl h3
    by_cases h5:k=5
    · exact .inr (.inl h5)
    exact .inr (.inr ⟨by simp [h3],by simp [h5],by simp [Ex.typed,h3,h5],h3,h5⟩)
  rcases hk with rfl | rfl | ⟨e3,e5,e7,hk3,hk5⟩
  · have e7:Ex.typed 3=true:=rfl
    rw [e7] at HF
    by_cases hs0:s.toList=[]
    all_goals
      go_wp2_with fail
      refine CT.out.mono ?_
      rintro e w3 ⟨rfl,hb3⟩
      have H5:=hid (H4.out.later hb3)
      clear hb3 x0 x1 x2 x3 x4 x5 x6 x7
      obtain ⟨x0,x1,x2,x3,x4,x5,x6,x7⟩:=H5.out.one.c8
      cases hz:t.right
      all_goals
        go_wp2_with fail
        go_ret
        exact ⟨ret_bool (by rw [HF.out,hz];simp [hs0]),H5.out.bel⟩
  · have e7:Ex.typed 5=true:=rfl
    rw [e7] at HF
    by_cases hs0:s.toList=[]
    all_goals
      go_wp2_with fail
      refine CT.out.mono ?_
      rintro e w3 ⟨rfl,hb3⟩
      have H5:=hid (H4.out.later hb3)
      clear hb3 x0 x1 x2 x3 x4 x5 x6 x7
      obtain ⟨x0,x1,x2,x3,x4,x5,x6,x7⟩:=H5.out.one.c8
      cases hz:t.right
      all_goals
        go_wp2_with fail
        go_ret
        exact ⟨ret_bool (by rw [HF.out,hz];simp [hs0]),H5.out.bel⟩
  rw [e7] at HF
  go_wp2_with fail
  refine CT.out.mono ?_
  rintro e w3 ⟨rfl,hb3⟩
  have H5:=hid (H4.out.later hb3)
  clear hb3 x0 x1 x2 x3 x4 x5 x6 x7
  obtain ⟨x0,x1,x2,x3,x4,x5,x6,x7⟩:=H5.out.one.c8
  cases hz:t.right
  · by_cases hn0:t.name.toList=[]
    · by_cases hm0:(m:Int)=0
      · have hm1:¬ (0:Int)<m:=by omega
        have hm2:(m==0)=true:=by simp;omega
        have hm3:(m:Int)≤0:=by omega
        go_wp2_with fail
        refine (CI.out _).mono ?_
        rintro e w4 ⟨rfl,rfl⟩
        cases hi:Nm.isB s.data.toList
        · go_wp2_with fail
          go_ret
          exact ⟨ret_bool (by rw [HF.out,hi];simp),H5.out.bel⟩
        have hkk:k=1∨k=2∨k=4∨(¬ k=1∧¬ k=2∧¬ k=4):=by omega
        rcases hkk with rfl | rfl | rfl | ⟨g1,g2,g4⟩
        all_goals
          go_wp2_with fail
          go_ret
          exact ⟨ret_bool (by rw [HF.out,hz,hi];simp [*]),H5.out.bel⟩
      have hm1:(0:Int)<m:=by omega
      have hm2:(m==0)=false:=by simp;omega
      go_wp2_with fail
      go_ret
      exact ⟨ret_bool (by rw [HF.out,hm2];simp),H5.out.bel⟩
    go_wp2_with fail
    go_ret
    exact ⟨ret_bool (by rw [HF.out];simp [hn0]),H5.out.bel⟩
  go_wp2_with fail
  go_ret
  exact ⟨ret_bool (by rw [HF.out,hz];rfl),H5.out.bel⟩
