/- The walks of decl's rights of formals, parameters and signatures. The conditions: few parts, the table of words.
The walk of decl.ofKind. No condition.
The walk of decl.RightDecl. The conditions: few parts, the table of words.
The walks of decl.all at declarations and of decl.Right. The conditions: few parts, the table of words. -/
import Derived.Test.YtkdlidakdknhjaaGreatDoorQDEkG
import Derived.Deep.RegionHeld3
set_option maxRecDepth 100000
set_option maxHeartbeats 16000000
open Go.Lib (hid)
namespace Go.Proofs.YtkdlidakdknhjaaGreatDoor
open Go.RowKit
theorem nmR_any (s:ByteArray) (w:World) (hE:ResVar w):Calls Tryz.prog 32 #[.string s] w (EqvPost w (nmR s)):=nm_is_any s w hE
theorem rightFormal_any (f:Fo) (us:List Value) (w:World) (hE:ResVar w) (hw:f.wt≤1990) (h1:f.dat.H w us):Calls Tryz.prog 36 #[.agg us.toArray] w (EqvPost w (Fo.right f)):=by
  have h:=OneD.new h1 85
  obtain ⟨Au,mu,au,rfl,_,_,ha1⟩:=fo_open h1
  have H0:=hid h
  have HZ0:=hid (Below.refl ((w.alloc (.cells #[.string f.name,.string f.ty.name,.slice Au mu au,.int .i64 f.ty.off,.int .i64 f.off] 85))).heap.size ((w.alloc (.cells #[.string f.name,.string f.ty.name,.slice Au mu au,.int .i64 f.ty.off,.int .i64 f.off] 85))))
  have HE0:=hid (hE.later h.bel)
  have HA:=hid (Here.later ha1 h.bel)
  have HW:=hid (Ty.small_of_wt (Nat.le_trans Fo.wt_ty hw))
  clear h h1 hE ha1 hw
  obtain ⟨q0,hq0⟩:∃ q:Bool,nmR f.name=q:=⟨_,rfl⟩
  obtain ⟨q1,hq1⟩:∃ q:Bool,f.ty.right=q:=⟨_,rfl⟩
  have HD:=hid (show (Fo.right f)=(q0&&(q1 )) by subst_vars;simp [Fo.right,nmR])
  have HQ0:=hid hq0
  have HQ1:=hid hq1
  clear hq0 hq1
  have x0:=H0.out.one 0 _ rfl
  go_enter Tryz.func36,Tryz.ntmps36
  go_wp2_with fail
  refine (nmR_any f.name _ HE0.out).mono ?_
  rintro e w1 ⟨rfl,hb⟩
  rw [HQ0.out]
  have H1:=hid (H0.out.later hb)
  have HZ1:=hid (HZ0.out.trans (hb.mono HZ0.out.size))
  have HE1:=hid (HE0.out.later hb)
  clear hb H0 HZ0 x0 HE0
  have x1:=H1.out.one 1 _ rfl
  have x2:=H1.out.one 2 _ rfl
  have x3:=H1.out.one 3 _ rfl
  cases q0
  · go_wp2_with fail
    go_ret
    exact ⟨ret_bool (by rw [HD.out];rfl),H1.out.bel⟩
  skip
  go_wp2_with fail
  refine (right_any f.ty Au mu au _ HE1.out HW.out (Here.later HA.out HZ1.out)).mono ?_
  rintro e w2 ⟨rfl,hb⟩
  rw [HQ1.out]
  have H2:=hid (H1.out.later hb)
  have HZ2:=hid (HZ1.out.trans (hb.mono HZ1.out.size))
  have HE2:=hid (HE1.out.later hb)
  clear hb H1 HZ1 x1 x2 x3 HE1
  go_wp2_with fail
  go_ret
  exact ⟨ret_bool (by rw [HD.out];rfl),H2.out.bel⟩
theorem allFormal_any (xs:List Fo) (A:Option Addr) (m c:Nat) (w:World) (hE:ResVar w) (hw:∀ f∈xs,f.wt≤1990) (h1:RowH w 5 A m (xs.map Fo.dat)) :
    Calls Tryz.prog 35 #[.slice A m c,.func (.func 36) #[] #[]] w (EqvPost w (xs.all Fo.right)):=by
  have hm:(m:Int)≤9223372036854775807:=by have:=h1.le;omega
  have hxl:=h1.len
  rw [List.length_map] at hxl
  have H1:=hid h1
  clear h1
  go_enter Tryz.func35,Tryz.ntmps35
  go_wp2_with fail
  go_loopw [9] (fun i wr=>∃ k:Nat,k≤m∧i=.int .i64 k∧xs.all Fo.right=(xs.drop k).all Fo.right∧Below w.heap.size w wr) (fun i _=>m-(intOf i).toNat)
  case atStart=>exact ⟨0,by omega,rfl,rfl,Below.refl _ _⟩
  obtain ⟨k,hk,rfl,hc,hbel⟩:=hrel
  have HBL:=hid hbel
  have HQ:=hid hc
  clear hc
  have z0:(0:Int)≤k:=by omega
  by_cases hlt1:k<m
  · have z1:(k:Int)<m:=by omega
    obtain ⟨pu,u,ps,rfl,hx,_,_,hu,hcs⟩:=dat_at (RowH.later H1.out hbel) hlt1
    have hbx:Below wr.heap.size wr (wr.alloc (.cells ps.toArray 85)):=(Below.refl _ _).alloc (Nat.le_refl _) _
    have hX:=Boxd.new wr ps.toArray 85
    have C:=hid (rightFormal_any u ps _ (hE.later (hbel.trans (hbx.mono hbel.size))) (hw u (List.mem_of_getElem? hx)) (Dat.H.later hu hbx))
    have HB2:=hid (HBL.out.trans (hbx.mono HBL.out.size))
    have HS:=hid (HQ.out.trans (allBy_on hx))
    obtain ⟨Au,mu,au,rfl,_⟩:=fo_open hu
    obtain ⟨f0,f1,f2,f3,f4⟩:=cells5_at hcs
    obtain ⟨x0,x1,x2,x3,x4⟩:=hX.c5
    clear hx hu hcs hbel HQ hbx hX
    generalize Fo.right u=q at *
    go_wp2_with fail
    refine C.out.mono ?_
    rintro e w1 ⟨rfl,hb1⟩
    have HB1:=hid (HB2.out.trans (hb1.mono HB2.out.size))
    clear hb1 C f0 f1 f2 f3 f4 x0 x1 x2 x3 x4
    cases q
    · go_wp2_with fail
      go_ret
      exact ⟨ret_bool (by rw [HS.out];rfl),HB1.out⟩
    go_wp2_with fail
    go_roundw
    case rel=>exact ⟨k+1,by omega,by go_num,HS.out,HB1.out⟩
    case measure=>simp [intOf];omega
  have z1:(m:Int)≤k:=by omega
  have hq:=HQ.out
  rw [List.drop_eq_nil_of_le (by omega),List.all_nil] at hq
  have HQ2:=hid hq
  clear hq hbel
  go_wp2_with fail
  go_ret
  exact ⟨ret_bool (by rw [HQ2.out]),HBL.out⟩
theorem rightParam_any (f:Fo) (us:List Value) (w:World) (hE:ResVar w) (hw:f.wt≤1990) (h1:f.dat.H w us):Calls Tryz.prog 38 #[.agg us.toArray] w (EqvPost w (Fo.right f)):=by
  have h:=OneD.new h1 89
  obtain ⟨Au,mu,au,rfl,_,_,ha1⟩:=fo_open h1
  have H0:=hid h
  have HZ0:=hid (Below.refl ((w.alloc (.cells #[.string f.name,.string f.ty.name,.slice Au mu au,.int .i64 f.ty.off,.int .i64 f.off] 89))).heap.size ((w.alloc (.cells #[.string f.name,.string f.ty.name,.slice Au mu au,.int .i64 f.ty.off,.int .i64 f.off] 89))))
  have HE0:=hid (hE.later h.bel)
  have HA:=hid (Here.later ha1 h.bel)
  have HW:=hid (Ty.small_of_wt (Nat.le_trans Fo.wt_ty hw))
  clear h h1 hE ha1 hw
  obtain ⟨q0,hq0⟩:∃ q:Bool,nmR f.name=q:=⟨_,rfl⟩
  obtain ⟨q1,hq1⟩:∃ q:Bool,f.ty.right=q:=⟨_,rfl⟩
  have HD:=hid (show (Fo.right f)=(q0&&(q1 )) by subst_vars;simp [Fo.right,nmR])
  have HQ0:=hid hq0
  have HQ1:=hid hq1
  clear hq0 hq1
  have x0:=H0.out.one 0 _ rfl
  go_enter Tryz.func38,Tryz.ntmps38
  go_wp2_with fail
  refine (nmR_any f.name _ HE0.out).mono ?_
  rintro e w1 ⟨rfl,hb⟩
  rw [HQ0.out]
  have H1:=hid (H0.out.later hb)
  have HZ1:=hid (HZ0.out.trans (hb.mono HZ0.out.size))
  have HE1:=hid (HE0.out.later hb)
  clear hb H0 HZ0 x0 HE0
  have x1:=H1.out.one 1 _ rfl
  have x2:=H1.out.one 2 _ rfl
  have x3:=H1.out.one 3 _ rfl
  cases q0
  · go_wp2_with fail
    go_ret
    exact ⟨ret_bool (by rw [HD.out];rfl),H1.out.bel⟩
  skip
  go_wp2_with fail
  refine (right_any f.ty Au mu au _ HE1.out HW.out (Here.later HA.out HZ1.out)).mono ?_
  rintro e w2 ⟨rfl,hb⟩
  rw [HQ1.out]
  have H2:=hid (H1.out.later hb)
  have HZ2:=hid (HZ1.out.trans (hb.mono HZ1.out.size))
  have HE2:=hid (HE1.out.later hb)
  clear hb H1 HZ1 x1 x2 x3 HE1
  go_wp2_with fail
  go_ret
  exact ⟨ret_bool (by rw [HD.out];rfl),H2.out.bel⟩
theorem allParam_any (xs:List Fo) (A:Option Addr) (m c:Nat) (w:World) (hE:ResVar w) (hw:∀ f∈xs,f.wt≤1990) (h1:RowH w 5 A m (xs.map Fo.dat)) :
    Calls Tryz.prog 37 #[.slice A m c,.func (.func 38) #[] #[]] w (EqvPost w (xs.all Fo.right)):=by
  have hm:(m:Int)≤9223372036854775807:=by have:=h1.le;omega
  have hxl:=h1.len
  rw [List.length_map] at hxl
  have H1:=hid h1
  clear h1
  go_enter Tryz.func37,Tryz.ntmps37
  go_wp2_with fail
  go_loopw [9] (fun i wr=>∃ k:Nat,k≤m∧i=.int .i64 k∧xs.all Fo.right=(xs.drop k).all Fo.right∧Below w.heap.size w wr) (fun i _=>m-(intOf i).toNat)
  case atStart=>exact ⟨0,by omega,rfl,rfl,Below.refl _ _⟩
  obtain ⟨k,hk,rfl,hc,hbel⟩:=hrel
  have HBL:=hid hbel
  have HQ:=hid hc
  clear hc
  have z0:(0:Int)≤k:=by omega
  by_cases hlt1:k<m
  · have z1:(k:Int)<m:=by omega
    obtain ⟨pu,u,ps,rfl,hx,_,_,hu,hcs⟩:=dat_at (RowH.later H1.out hbel) hlt1
    have hbx:Below wr.heap.size wr (wr.alloc (.cells ps.toArray 89)):=(Below.refl _ _).alloc (Nat.le_refl _) _
    have hX:=Boxd.new wr ps.toArray 89
    have C:=hid (rightParam_any u ps _ (hE.later (hbel.trans (hbx.mono hbel.size))) (hw u (List.mem_of_getElem? hx)) (Dat.H.later hu hbx))
    have HB2:=hid (HBL.out.trans (hbx.mono HBL.out.size))
    have HS:=hid (HQ.out.trans (allBy_on hx))
    obtain ⟨Au,mu,au,rfl,_⟩:=fo_open hu
    obtain ⟨f0,f1,f2,f3,f4⟩:=cells5_at hcs
    obtain ⟨x0,x1,x2,x3,x4⟩:=hX.c5
    clear hx hu hcs hbel HQ hbx hX
    generalize Fo.right u=q at *
    go_wp2_with fail
    refine C.out.mono ?_
    rintro e w1 ⟨rfl,hb1⟩
    have HB1:=hid (HB2.out.trans (hb1.mono HB2.out.size))
    clear hb1 C f0 f1 f2 f3 f4 x0 x1 x2 x3 x4
    cases q
    · go_wp2_with fail
      go_ret
      exact ⟨ret_bool (by rw [HS.out];rfl),HB1.out⟩
    go_wp2_with fail
    go_roundw
    case rel=>exact ⟨k+1,by omega,by go_num,HS.out,HB1.out⟩
    case measure=>simp [intOf];omega
  have z1:(m:Int)≤k:=by omega
  have hq:=HQ.out
  rw [List.drop_eq_nil_of_le (by omega),List.all_nil] at hq
  have HQ2:=hid hq
  clear hq hbel
  go_wp2_with fail
  go_ret
  exact ⟨ret_bool (by rw [HQ2.out]),HBL.out⟩
theorem rightSig_any (s:Sg) (us:List Value) (w:World) (hE:ResVar w) (hw:s.wt≤1990) (h1:s.dat.H w us):Calls Tryz.prog 40 #[.agg us.toArray] w (EqvPost w (Sg.right s)):=by
  have h:=OneD.new h1 31
  obtain ⟨Fu,nfu,cfu,Pu,npu,cpu,Au,mu,au,rfl,_,hf1,hp1,_,ha1⟩:=sg_open h1
  have H0:=hid h
  have HZ0:=hid (Below.refl ((w.alloc (.cells #[.string s.name,.slice Fu nfu cfu,.slice Pu npu cpu,.string s.res.name,.slice Au mu au,.int .i64 s.res.off,.int .i64 s.off] 31))).heap.size ((w.alloc (.cells #[.string s.name,.slice Fu nfu cfu,.slice Pu npu cpu,.string s.res.name,.slice Au mu au,.int .i64 s.res.off,.int .i64 s.off] 31))))
  have HE0:=hid (hE.later h.bel)
  have HF:=hid (RowH.later hf1 h.bel)
  have HP:=hid (RowH.later hp1 h.bel)
  have HA:=hid (Here.later ha1 h.bel)
  have HW:=hid (Ty.small_of_wt (Nat.le_trans Sg.wt_res hw))
  have HWF:=hid (fun f hf=>Nat.le_trans (Sg.wt_f (s:=s) (f:=f) hf) hw)
  have HWP:=hid (fun f hf=>Nat.le_trans (Sg.wt_p (s:=s) (f:=f) hf) hw)
  clear h h1 hE hf1 hp1 ha1 hw
  obtain ⟨q0,hq0⟩:∃ q:Bool,nmR s.name=q:=⟨_,rfl⟩
  obtain ⟨q1,hq1⟩:∃ q:Bool,s.fs.all Fo.right=q:=⟨_,rfl⟩
  obtain ⟨q2,hq2⟩:∃ q:Bool,s.ps.all Fo.right=q:=⟨_,rfl⟩
  obtain ⟨q3,hq3⟩:∃ q:Bool,s.res.right=q:=⟨_,rfl⟩
  have HD:=hid (show (Sg.right s)=(q0&&(q1&&(q2&&(q3 )))) by subst_vars;simp [Sg.right,nmR,Bool.and_assoc])
  have HQ0:=hid hq0
  have HQ1:=hid hq1
  have HQ2:=hid hq2
  have HQ3:=hid hq3
  clear hq0 hq1 hq2 hq3
  have x0:=H0.out.one 0 _ rfl
  go_enter Tryz.func40,Tryz.ntmps40
  go_wp2_with fail
  refine (nmR_any s.name _ HE0.out).mono ?_
  rintro e w1 ⟨rfl,hb⟩
  rw [HQ0.out]
  have H1:=hid (H0.out.later hb)
  have HZ1:=hid (HZ0.out.trans (hb.mono HZ0.out.size))
  have HE1:=hid (HE0.out.later hb)
  clear hb H0 HZ0 x0 HE0
  have x1:=H1.out.one 1 _ rfl
  cases q0
  · go_wp2_with fail
    go_ret
    exact ⟨ret_bool (by rw [HD.out];rfl),H1.out.bel⟩
  skip
  go_wp2_with fail
  refine (allFormal_any s.fs Fu nfu cfu _ HE1.out HWF.out (RowH.later HF.out HZ1.out)).mono ?_
  rintro e w2 ⟨rfl,hb⟩
  rw [HQ1.out]
  have H2:=hid (H1.out.later hb)
  have HZ2:=hid (HZ1.out.trans (hb.mono HZ1.out.size))
  have HE2:=hid (HE1.out.later hb)
  clear hb H1 HZ1 x1 HE1
  have x2:=H2.out.one 2 _ rfl
  cases q1
  · go_wp2_with fail
    go_ret
    exact ⟨ret_bool (by rw [HD.out];rfl),H2.out.bel⟩
  skip
  go_wp2_with fail
  refine (allParam_any s.ps Pu npu cpu _ HE2.out HWP.out (RowH.later HP.out HZ2.out)).mono ?_
  rintro e w3 ⟨rfl,hb⟩
  rw [HQ2.out]
  have H3:=hid (H2.out.later hb)
  have HZ3:=hid (HZ2.out.trans (hb.mono HZ2.out.size))
  have HE3:=hid (HE2.out.later hb)
  clear hb H2 HZ2 x2 HE2
  have x3:=H3.out.one 3 _ rfl
  have x4:=H3.out.one 4 _ rfl
  have x5:=H3.out.one 5 _ rfl
  cases q2
  · go_wp2_with fail
    go_ret
    exact ⟨ret_bool (by rw [HD.out];rfl),H3.out.bel⟩
  skip
  go_wp2_with fail
  refine (right_any s.res Au mu au _ HE3.out HW.out (Here.later HA.out HZ3.out)).mono ?_
  rintro e w4 ⟨rfl,hb⟩
  rw [HQ3.out]
  have H4:=hid (H3.out.later hb)
  have HZ4:=hid (HZ3.out.trans (hb.mono HZ3.out.size))
  have HE4:=hid (HE3.out.later hb)
  clear hb H3 HZ3 x3 x4 x5 HE3
  go_wp2_with fail
  go_ret
  exact ⟨ret_bool (by rw [HD.out];rfl),H4.out.bel⟩
theorem allSig_any (xs:List Sg) (A:Option Addr) (m c:Nat) (w:World) (hE:ResVar w) (hw:∀ f∈xs,f.wt≤1990) (h1:RowH w 7 A m (xs.map Sg.dat)) :
    Calls Tryz.prog 39 #[.slice A m c,.func (.func 40) #[] #[]] w (EqvPost w (xs.all Sg.right)):=by
  have hm:(m:Int)≤9223372036854775807:=by have:=h1.le;omega
  have hxl:=h1.len
  rw [List.length_map] at hxl
  have H1:=hid h1
  clear h1
  go_enter Tryz.func39,Tryz.ntmps39
  go_wp2_with fail
  go_loopw [9] (fun i wr=>∃ k:Nat,k≤m∧i=.int .i64 k∧xs.all Sg.right=(xs.drop k).all Sg.right∧Below w.heap.size w wr) (fun i _=>m-(intOf i).toNat)
  case atStart=>exact ⟨0,by omega,rfl,rfl,Below.refl _ _⟩
  obtain ⟨k,hk,rfl,hc,hbel⟩:=hrel
  have HBL:=hid hbel
  have HQ:=hid hc
  clear hc
  have z0:(0:Int)≤k:=by omega
  by_cases hlt1:k<m
  · have z1:(k:Int)<m:=by omega
    obtain ⟨pu,u,ps,rfl,hx,_,_,hu,hcs⟩:=dat_at (RowH.later H1.out hbel) hlt1
    have hbx:Below wr.heap.size wr (wr.alloc (.cells ps.toArray 31)):=(Below.refl _ _).alloc (Nat.le_refl _) _
    have hX:=Boxd.new wr ps.toArray 31
    have C:=hid (rightSig_any u ps _ (hE.later (hbel.trans (hbx.mono hbel.size))) (hw u (List.mem_of_getElem? hx)) (Dat.H.later hu hbx))
    have HB2:=hid (HBL.out.trans (hbx.mono HBL.out.size))
    have HS:=hid (HQ.out.trans (allBy_on hx))
    obtain ⟨Fu,nfu,cfu,Pu,npu,cpu,Au,mu,au,rfl,_⟩:=sg_open hu
    obtain ⟨f0,f1,f2,f3,f4,f5,f6⟩:=cells7_at hcs
    obtain ⟨x0,x1,x2,x3,x4,x5,x6⟩:=hX.c7
    clear hx hu hcs hbel HQ hbx hX
    generalize Sg.right u=q at *
    go_wp2_with fail
    refine C.out.mono ?_
    rintro e w1 ⟨rfl,hb1⟩
    have HB1:=hid (HB2.out.trans (hb1.mono HB2.out.size))
    clear hb1 C f0 f1 f2 f3 f4 f5 f6 x0 x1 x2 x3 x4 x5 x6
    cases q
    · go_wp2_with fail
      go_ret
      exact ⟨ret_bool (by rw [HS.out];rfl),HB1.out⟩
    go_wp2_with fail
    go_roundw
    case rel=>exact ⟨k+1,by omega,by go_num,HS.out,HB1.out⟩
    case measure=>simp [intOf];omega
  have z1:(m:Int)≤k:=by omega
  have hq:=HQ.out
  rw [List.drop_eq_nil_of_le (by omega),List.all_nil] at hq
  have HQ2:=hid hq
  clear hq hbel
  go_wp2_with fail
  go_ret
  exact ⟨ret_bool (by rw [HQ2.out]),HBL.out⟩
theorem allStr_any (xs:List ByteArray) (A:Option Addr) (m c:Nat) (w:World) (hE:ResVar w) (h1:RowH w 1 A m (xs.map Dat.str)) :
    Calls Tryz.prog 41 #[.slice A m c,.func (.func 32) #[] #[]] w (EqvPost w (xs.all nmR)):=by
  have hm:(m:Int)≤9223372036854775807:=by have:=h1.le;omega
  have hxl:=h1.len
  rw [List.length_map] at hxl
  have H1:=hid h1
  have HE:=hid hE
  clear h1 hE
  go_enter Tryz.func41,Tryz.ntmps41
  go_wp2_with fail
  go_loopw [9] (fun i wr=>∃ k:Nat,k≤m∧i=.int .i64 k∧xs.all nmR=(xs.drop k).all nmR∧Below w.heap.size w wr) (fun i _=>m-(intOf i).toNat)
  case atStart=>exact ⟨0,by omega,rfl,rfl,Below.refl _ _⟩
  obtain ⟨k,hk,rfl,hc,hbel⟩:=hrel
  have HBL:=hid hbel
  have HQ:=hid hc
  clear hc
  have z0:(0:Int)≤k:=by omega
  by_cases hlt1:k<m
  · have z1:(k:Int)<m:=by omega
    obtain ⟨pu,u,ps,rfl,hx,_,_,hu,hcs⟩:=dat_at (RowH.later H1.out hbel) hlt1
    rw [Dat.In] at hu
    obtain ⟨rfl,_⟩:=hu
    have f0:=hcs 0 _ rfl
    rw [add_add,Nat.mul_one,Nat.add_zero] at f0
    have C:=hid (nmR_any u wr (HE.out.later hbel))
    have HS:=hid (HQ.out.trans (allBy_on hx))
    clear hx hcs hbel HQ
    generalize nmR u=q at *
    go_wp2_with fail
    refine C.out.mono ?_
    rintro e w1 ⟨rfl,hb1⟩
    have HB1:=hid (HBL.out.trans (hb1.mono HBL.out.size))
    clear hb1 C f0
    cases q
    · go_wp2_with fail
      go_ret
      exact ⟨ret_bool (by rw [HS.out];rfl),HB1.out⟩
    go_wp2_with fail
    go_roundw
    case rel=>exact ⟨k+1,by omega,by go_num,HS.out,HB1.out⟩
    case measure=>simp [intOf];omega
  have z1:(m:Int)≤k:=by omega
  have hq:=HQ.out
  rw [List.drop_eq_nil_of_le (by omega),List.all_nil] at hq
  have HQ2:=hid hq
  clear hq hbel
  go_wp2_with fail
  go_ret
  exact ⟨ret_bool (by rw [HQ2.out]),HBL.out⟩
open Go.RowKit
theorem results_ofKind {w:World} {b:Nat} {us:List Value} (tmps:Array Value) (ht:tmps[2]?.getD undef=.pointer (some ⟨b,0,none⟩)) (hc:Boxd w b us) (hl:us.length=23):(results Tryz.f34 tmps).run Tryz.prog w=.ok (.agg us.toArray) w:=by
  have h:=run_loadVar_at w ⟨b,0,none⟩ 36 us _ hc.at0 Tryz.underlying36 rfl (by rw [hl];exact sizeDc)
  have h2:(asAddr (.pointer (some ⟨b,0,none⟩))).run Tryz.prog w=.ok ⟨b,0,none⟩ w:=rfl
  simp [results,Tryz.results34,ht,h,h2,Sem.run_bind,Result.andThen]
theorem ofKind_any (d:Dc) (us:List Value) (w:World) (h:d.dat.H w us):Calls Tryz.prog 34 #[.agg us.toArray] w (DAt w d.ofKind.dat):=by
  have hb1:Below w.heap.size w (w.alloc (.cells us.toArray 36)):=(Below.refl _ _).alloc (Nat.le_refl _) _
  have hb2:Below (w.alloc (.cells us.toArray 36)).heap.size (w.alloc (.cells us.toArray 36)) ((w.alloc (.cells us.toArray 36)).alloc (.cells z23 36)):=(Below.refl _ _).alloc (Nat.le_refl _) _
  obtain ⟨W0,hW0⟩:∃ W0,(w.alloc (.cells us.toArray 36)).alloc (.cells z23 36)=W0:=⟨_,rfl⟩
  have HB:=hid (show Below w.heap.size w W0 from hW0▸hb1.trans (hb2.mono hb1.size))
  have HXb:=hid (show Boxd W0 w.heap.size us from hW0▸(Boxd.new w us.toArray 36).later hb2)
  have HT:=hid (show W0.there (w.heap.size+1) 0 23 by
    have h:=there_new (w.alloc (.cells us.toArray 36)) z23 36
    rw [World.size_alloc,hW0] at h
    exact h)
  have HW0:=hid hW0
  clear hb1 hb2 hW0
  obtain ⟨Fu,nfu,cfu,Pu,npu,cpu,Gu,ngu,cgu,Vu,nvu,cvu,F2u,nf2u,cf2u,P2u,np2u,cp2u,A2u,m2u,a2u,A3u,m3u,a3u,B3u,l3u,b3u,C3u,n3u,c3u,rfl,hn,hf,hp,hg,hr,hv,hs,hbd⟩:=dc_full h
  have HN:=hid hn
  have HF:=hid hf
  have HP:=hid hp
  have HG:=hid hg
  have HR:=hid hr
  have HV:=hid hv
  have HS:=hid hs
  have HBD:=hid hbd
  clear h hn hf hp hg hr hv hs hbd
  go_enter Tryz.func34,Tryz.ntmps34
  go_upto_region 1 with fail
  rw [HW0.out]
  clear HW0
  have x0:=HXb.out 0 _ rfl
  by_cases k1:d.kind=1
  · have e1:(d.kind==1)=true:=by simp [k1]
    have HK:=hid (show d.ofKind=⟨d.kind,d.name,d.fs,d.ms,[],⟨#[]⟩,[],Sg.none?,Ex.none?,0⟩ by rw [Dc.ofKind,if_pos k1];rfl)
    clear k1
    have x1:=HXb.out 1 _ rfl
    have x2:=HXb.out 2 _ rfl
    have x3:=HXb.out 3 _ rfl
    obtain ⟨W2,hW2⟩:∃ W2,W0.setCells (w.heap.size+1) 0 [.int .i64 d.kind,.string d.name,.slice Fu nfu cfu,.slice Pu npu cpu,.slice none 0 0,.string ⟨#[]⟩,.slice none 0 0,.string ⟨#[]⟩,.slice none 0 0,.slice none 0 0,.string ⟨#[]⟩,.slice none 0 0,.int .i64 0,.int .i64 0,.int .i64 0,.string ⟨#[]⟩,.string ⟨#[]⟩,.slice none 0 0,.int .i64 0,.slice none 0 0,.slice none 0 0,.int .i64 0,.int .i64 0]=W2:=⟨_,rfl⟩
    have HW2:=hid hW2
    have HB2:=hid (show Below w.heap.size w W2 from HB.out.trans (by rw [←hW2];exact below_cells (Nat.le_succ _) _ 0 W0))
    have HFin:=hid (show Boxd W2 (w.heap.size+1) [.int .i64 d.kind,.string d.name,.slice Fu nfu cfu,.slice Pu npu cpu,.slice none 0 0,.string ⟨#[]⟩,.slice none 0 0,.string ⟨#[]⟩,.slice none 0 0,.slice none 0 0,.string ⟨#[]⟩,.slice none 0 0,.int .i64 0,.int .i64 0,.int .i64 0,.string ⟨#[]⟩,.string ⟨#[]⟩,.slice none 0 0,.int .i64 0,.slice none 0 0,.slice none 0 0,.int .i64 0,.int .i64 0] by rw [←hW2];exact set_there HT.out)
    have HIN:=hid (show d.ofKind.dat.H W2 [.int .i64 d.kind,.string d.name,.slice Fu nfu cfu,.slice Pu npu cpu,.slice none 0 0,.string ⟨#[]⟩,.slice none 0 0,.string ⟨#[]⟩,.slice none 0 0,.slice none 0 0,.string ⟨#[]⟩,.slice none 0 0,.int .i64 0,.int .i64 0,.int .i64 0,.string ⟨#[]⟩,.string ⟨#[]⟩,.slice none 0 0,.int .i64 0,.slice none 0 0,.slice none 0 0,.int .i64 0,.int .i64 0] by rw [HK.out];exact dc_shut (d:=⟨d.kind,d.name,d.fs,d.ms,[],⟨#[]⟩,[],Sg.none?,Ex.none?,0⟩) HN.out (RowH.later HF.out HB2.out) (RowH.later HP.out HB2.out) (Row.nil _ _ _ _ _) (show (0:Nat)≤_ by omega) (Row.nil _ _ _ _ _) (sgNone_in _ _ _) (exNone_in _ _ _))
    have HO:=hid (dc_cells HIN.out)
    clear hW2
    go_wp2_with (refine storeDc 2 15 (b:=w.heap.size+1) (o:=0) (us:=[.int .i64 d.kind,.string d.name,.slice Fu nfu cfu,.slice Pu npu cpu,.slice none 0 0,.string ⟨#[]⟩,.slice none 0 0,.string ⟨#[]⟩,.slice none 0 0,.slice none 0 0,.string ⟨#[]⟩,.slice none 0 0,.int .i64 0,.int .i64 0,.int .i64 0,.string ⟨#[]⟩,.string ⟨#[]⟩,.slice none 0 0,.int .i64 0,.slice none 0 0,.slice none 0 0,.int .i64 0,.int .i64 0]) rfl rfl HT.out HO.out rfl ?_;rw [HW2.out])
    exact bodyPost_ret (results_ofKind _ rfl HFin.out rfl) rfl ⟨_,rfl,HIN.out,HB2.out⟩
  have e1:(d.kind==1)=false:=by simpa using k1
  by_cases k2:d.kind=2
  · have e2:(d.kind==2)=true:=by simp [k2]
    have HK:=hid (show d.ofKind=⟨d.kind,d.name,d.fs,[],d.gs,⟨#[]⟩,[],Sg.none?,Ex.none?,0⟩ by rw [Dc.ofKind,if_neg k1,if_pos k2];rfl)
    clear k1 k2
    have x1:=HXb.out 1 _ rfl
    have x2:=HXb.out 2 _ rfl
    have x4:=HXb.out 4 _ rfl
    obtain ⟨W2,hW2⟩:∃ W2,W0.setCells (w.heap.size+1) 0 [.int .i64 d.kind,.string d.name,.slice Fu nfu cfu,.slice none 0 0,.slice Gu ngu cgu,.string ⟨#[]⟩,.slice none 0 0,.string ⟨#[]⟩,.slice none 0 0,.slice none 0 0,.string ⟨#[]⟩,.slice none 0 0,.int .i64 0,.int .i64 0,.int .i64 0,.string ⟨#[]⟩,.string ⟨#[]⟩,.slice none 0 0,.int .i64 0,.slice none 0 0,.slice none 0 0,.int .i64 0,.int .i64 0]=W2:=⟨_,rfl⟩
    have HW2:=hid hW2
    have HB2:=hid (show Below w.heap.size w W2 from HB.out.trans (by rw [←hW2];exact below_cells (Nat.le_succ _) _ 0 W0))
    have HFin:=hid (show Boxd W2 (w.heap.size+1) [.int .i64 d.kind,.string d.name,.slice Fu nfu cfu,.slice none 0 0,.slice Gu ngu cgu,.string ⟨#[]⟩,.slice none 0 0,.string ⟨#[]⟩,.slice none 0 0,.slice none 0 0,.string ⟨#[]⟩,.slice none 0 0,.int .i64 0,.int .i64 0,.int .i64 0,.string ⟨#[]⟩,.string ⟨#[]⟩,.slice none 0 0,.int .i64 0,.slice none 0 0,.slice none 0 0,.int .i64 0,.int .i64 0] by rw [←hW2];exact set_there HT.out)
    have HIN:=hid (show d.ofKind.dat.H W2 [.int .i64 d.kind,.string d.name,.slice Fu nfu cfu,.slice none 0 0,.slice Gu ngu cgu,.string ⟨#[]⟩,.slice none 0 0,.string ⟨#[]⟩,.slice none 0 0,.slice none 0 0,.string ⟨#[]⟩,.slice none 0 0,.int .i64 0,.int .i64 0,.int .i64 0,.string ⟨#[]⟩,.string ⟨#[]⟩,.slice none 0 0,.int .i64 0,.slice none 0 0,.slice none 0 0,.int .i64 0,.int .i64 0] by rw [HK.out];exact dc_shut (d:=⟨d.kind,d.name,d.fs,[],d.gs,⟨#[]⟩,[],Sg.none?,Ex.none?,0⟩) HN.out (RowH.later HF.out HB2.out) (Row.nil _ _ _ _ _) (RowH.later HG.out HB2.out) (show (0:Nat)≤_ by omega) (Row.nil _ _ _ _ _) (sgNone_in _ _ _) (exNone_in _ _ _))
    have HO:=hid (dc_cells HIN.out)
    clear hW2
    go_wp2_with (refine storeDc 2 26 (b:=w.heap.size+1) (o:=0) (us:=[.int .i64 d.kind,.string d.name,.slice Fu nfu cfu,.slice none 0 0,.slice Gu ngu cgu,.string ⟨#[]⟩,.slice none 0 0,.string ⟨#[]⟩,.slice none 0 0,.slice none 0 0,.string ⟨#[]⟩,.slice none 0 0,.int .i64 0,.int .i64 0,.int .i64 0,.string ⟨#[]⟩,.string ⟨#[]⟩,.slice none 0 0,.int .i64 0,.slice none 0 0,.slice none 0 0,.int .i64 0,.int .i64 0]) rfl rfl HT.out HO.out rfl ?_;rw [HW2.out])
    exact bodyPost_ret (results_ofKind _ rfl HFin.out rfl) rfl ⟨_,rfl,HIN.out,HB2.out⟩
  have e2:(d.kind==2)=false:=by simpa using k2
  by_cases k3:d.kind=3
  · have e3:(d.kind==3)=true:=by simp [k3]
    have HK:=hid (show d.ofKind=⟨d.kind,d.name,[],[],[],d.recv,d.vs,d.sig,d.body,0⟩ by rw [Dc.ofKind,if_neg k1,if_neg k2,if_pos k3];rfl)
    clear k1 k2 k3
    have x1:=HXb.out 1 _ rfl
    have x5:=HXb.out 5 _ rfl
    have x6:=HXb.out 6 _ rfl
    have x7:=HXb.out 7 _ rfl
    have x8:=HXb.out 8 _ rfl
    have x9:=HXb.out 9 _ rfl
    have x10:=HXb.out 10 _ rfl
    have x11:=HXb.out 11 _ rfl
    have x12:=HXb.out 12 _ rfl
    have x13:=HXb.out 13 _ rfl
    have x14:=HXb.out 14 _ rfl
    have x15:=HXb.out 15 _ rfl
    have x16:=HXb.out 16 _ rfl
    have x17:=HXb.out 17 _ rfl
    have x18:=HXb.out 18 _ rfl
    have x19:=HXb.out 19 _ rfl
    have x20:=HXb.out 20 _ rfl
    have x21:=HXb.out 21 _ rfl
    obtain ⟨W2,hW2⟩:∃ W2,W0.setCells (w.heap.size+1) 0 [.int .i64 d.kind,.string d.name,.slice none 0 0,.slice none 0 0,.slice none 0 0,.string d.recv,.slice Vu nvu cvu,.string d.sig.name,.slice F2u nf2u cf2u,.slice P2u np2u cp2u,.string d.sig.res.name,.slice A2u m2u a2u,.int .i64 d.sig.res.off,.int .i64 d.sig.off,.int .i64 d.body.kind,.string d.body.name,.string d.body.ty.name,.slice A3u m3u a3u,.int .i64 d.body.ty.off,.slice B3u l3u b3u,.slice C3u n3u c3u,.int .i64 d.body.off,.int .i64 0]=W2:=⟨_,rfl⟩
    have HW2:=hid hW2
    have HB2:=hid (show Below w.heap.size w W2 from HB.out.trans (by rw [←hW2];exact below_cells (Nat.le_succ _) _ 0 W0))
    have HFin:=hid (show Boxd W2 (w.heap.size+1) [.int .i64 d.kind,.string d.name,.slice none 0 0,.slice none 0 0,.slice none 0 0,.string d.recv,.slice Vu nvu cvu,.string d.sig.name,.slice F2u nf2u cf2u,.slice P2u np2u cp2u,.string d.sig.res.name,.slice A2u m2u a2u,.int .i64 d.sig.res.off,.int .i64 d.sig.off,.int .i64 d.body.kind,.string d.body.name,.string d.body.ty.name,.slice A3u m3u a3u,.int .i64 d.body.ty.off,.slice B3u l3u b3u,.slice C3u n3u c3u,.int .i64 d.body.off,.int .i64 0] by rw [←hW2];exact set_there HT.out)
    have HIN:=hid (show d.ofKind.dat.H W2 [.int .i64 d.kind,.string d.name,.slice none 0 0,.slice none 0 0,.slice none 0 0,.string d.recv,.slice Vu nvu cvu,.string d.sig.name,.slice F2u nf2u cf2u,.slice P2u np2u cp2u,.string d.sig.res.name,.slice A2u m2u a2u,.int .i64 d.sig.res.off,.int .i64 d.sig.off,.int .i64 d.body.kind,.string d.body.name,.string d.body.ty.name,.slice A3u m3u a3u,.int .i64 d.body.ty.off,.slice B3u l3u b3u,.slice C3u n3u c3u,.int .i64 d.body.off,.int .i64 0] by rw [HK.out];exact dc_shut (d:=⟨d.kind,d.name,[],[],[],d.recv,d.vs,d.sig,d.body,0⟩) HN.out (Row.nil _ _ _ _ _) (Row.nil _ _ _ _ _) (Row.nil _ _ _ _ _) HR.out (RowH.later HV.out HB2.out) (Dat.H.later HS.out HB2.out) (Dat.H.later HBD.out HB2.out))
    have HO:=hid (dc_cells HIN.out)
    clear hW2
    go_wp2_with (refine storeDc 2 41 (b:=w.heap.size+1) (o:=0) (us:=[.int .i64 d.kind,.string d.name,.slice none 0 0,.slice none 0 0,.slice none 0 0,.string d.recv,.slice Vu nvu cvu,.string d.sig.name,.slice F2u nf2u cf2u,.slice P2u np2u cp2u,.string d.sig.res.name,.slice A2u m2u a2u,.int .i64 d.sig.res.off,.int .i64 d.sig.off,.int .i64 d.body.kind,.string d.body.name,.string d.body.ty.name,.slice A3u m3u a3u,.int .i64 d.body.ty.off,.slice B3u l3u b3u,.slice C3u n3u c3u,.int .i64 d.body.off,.int .i64 0]) rfl rfl HT.out HO.out rfl ?_;rw [HW2.out])
    exact bodyPost_ret (results_ofKind _ rfl HFin.out rfl) rfl ⟨_,rfl,HIN.out,HB2.out⟩
  have e3:(d.kind==3)=false:=by simpa using k3
  have HK:=hid (show d.ofKind=⟨0,⟨#[]⟩,[],[],[],⟨#[]⟩,[],Sg.none?,Ex.none?,0⟩ by rw [Dc.ofKind,if_neg k1,if_neg k2,if_neg k3];rfl)
  clear k1 k2 k3
  obtain ⟨W2,hW2⟩:∃ W2,W0.setCells (w.heap.size+1) 0 [.int .i64 0,.string ⟨#[]⟩,.slice none 0 0,.slice none 0 0,.slice none 0 0,.string ⟨#[]⟩,.slice none 0 0,.string ⟨#[]⟩,.slice none 0 0,.slice none 0 0,.string ⟨#[]⟩,.slice none 0 0,.int .i64 0,.int .i64 0,.int .i64 0,.string ⟨#[]⟩,.string ⟨#[]⟩,.slice none 0 0,.int .i64 0,.slice none 0 0,.slice none 0 0,.int .i64 0,.int .i64 0]=W2:=⟨_,rfl⟩
  have HW2:=hid hW2
  have HB2:=hid (show Below w.heap.size w W2 from HB.out.trans (by rw [←hW2];exact below_cells (Nat.le_succ _) _ 0 W0))
  have HFin:=hid (show Boxd W2 (w.heap.size+1) [.int .i64 0,.string ⟨#[]⟩,.slice none 0 0,.slice none 0 0,.slice none 0 0,.string ⟨#[]⟩,.slice none 0 0,.string ⟨#[]⟩,.slice none 0 0,.slice none 0 0,.string ⟨#[]⟩,.slice none 0 0,.int .i64 0,.int .i64 0,.int .i64 0,.string ⟨#[]⟩,.string ⟨#[]⟩,.slice none 0 0,.int .i64 0,.slice none 0 0,.slice none 0 0,.int .i64 0,.int .i64 0] by rw [←hW2];exact set_there HT.out)
  have HIN:=hid (show d.ofKind.dat.H W2 [.int .i64 0,.string ⟨#[]⟩,.slice none 0 0,.slice none 0 0,.slice none 0 0,.string ⟨#[]⟩,.slice none 0 0,.string ⟨#[]⟩,.slice none 0 0,.slice none 0 0,.string ⟨#[]⟩,.slice none 0 0,.int .i64 0,.int .i64 0,.int .i64 0,.string ⟨#[]⟩,.string ⟨#[]⟩,.slice none 0 0,.int .i64 0,.slice none 0 0,.slice none 0 0,.int .i64 0,.int .i64 0] by rw [HK.out];exact dc_shut (d:=⟨0,⟨#[]⟩,[],[],[],⟨#[]⟩,[],Sg.none?,Ex.none?,0⟩) (show (0:Nat)≤_ by omega) (Row.nil _ _ _ _ _) (Row.nil _ _ _ _ _) (Row.nil _ _ _ _ _) (show (0:Nat)≤_ by omega) (Row.nil _ _ _ _ _) (sgNone_in _ _ _) (exNone_in _ _ _))
  have HO:=hid (dc_cells HIN.out)
  clear hW2
  go_wp2_with (refine storeDc 2 42 (b:=w.heap.size+1) (o:=0) (us:=[.int .i64 0,.string ⟨#[]⟩,.slice none 0 0,.slice none 0 0,.slice none 0 0,.string ⟨#[]⟩,.slice none 0 0,.string ⟨#[]⟩,.slice none 0 0,.slice none 0 0,.string ⟨#[]⟩,.slice none 0 0,.int .i64 0,.int .i64 0,.int .i64 0,.string ⟨#[]⟩,.string ⟨#[]⟩,.slice none 0 0,.int .i64 0,.slice none 0 0,.slice none 0 0,.int .i64 0,.int .i64 0]) rfl rfl HT.out HO.out rfl ?_;rw [HW2.out])
  exact bodyPost_ret (results_ofKind _ rfl HFin.out rfl) rfl ⟨_,rfl,HIN.out,HB2.out⟩
open Go.RowKit
theorem kind3_empty {d:Dc} (hk:d.kind=3) (h:Dc.sameX false d d.ofKind=true):d.fs=[]∧d.ms=[]∧d.gs=[]:=by
  unfold Dc.sameX Dc.ofKind at h
  rw [if_neg (by omega),if_neg (by omega),if_pos hk] at h
  simp only [Dc.none?,sameBy_nil,Bool.and_eq_true,beq_iff_eq] at h
  exact ⟨List.eq_nil_of_length_eq_zero h.1.1.1.1.1.1.2,List.eq_nil_of_length_eq_zero h.1.1.1.1.1.2,List.eq_nil_of_length_eq_zero h.1.1.1.1.2⟩
theorem rightDecl_any (d:Dc) (us:List Value) (w:World) (hE:ResVar w) (hw:d.wt≤1990) (h:d.dat.H w us):Calls Tryz.prog 10 #[.agg us.toArray] w (EqvPost w d.right):=by
  have hbel:Below w.heap.size w (w.alloc (.cells us.toArray 36)):=(Below.refl _ _).alloc (Nat.le_refl _) _
  obtain ⟨W0,hW0⟩:∃ W0,w.alloc (.cells us.toArray 36)=W0:=⟨_,rfl⟩
  rw [hW0] at hbel
  have hbox:Boxd W0 w.heap.size us:=hW0▸Boxd.new w us.toArray 36
  have HBEL:=hid hbel
  have HL:=hid (dc_len h)
  have h0:=Dat.H.later h hbel
  have HE:=hid (hE.later hbel)
  have HDAT:=hid h0
  have HW0:=hid hW0
  obtain ⟨Fu,nfu,cfu,Pu,npu,cpu,Gu,ngu,cgu,Vu,nvu,cvu,F2u,nf2u,cf2u,P2u,np2u,cp2u,A2u,m2u,a2u,A3u,m3u,a3u,B3u,l3u,b3u,C3u,n3u,c3u,hus,hn,hf,hp,hg,hr,hv,hs,hbd⟩:=dc_full h0
  have HUS:=hid hus
  have HF:=hid hf
  have HP:=hid hp
  have HG:=hid hg
  have HV:=hid hv
  have HS:=hid hs
  have HBD:=hid hbd
  have HWD:=hid hw
  have hx1:=hbox 1 (.string d.name) (by rw [hus];rfl)
  have SS:Below W0.heap.size W0 W0∧W0.cell? ⟨w.heap.size,1,none⟩=some (.string d.name)∧W0.rangeAt w.heap.size 0 us:=⟨Below.refl _ _,hx1,fun j v hv=>by rw [Nat.zero_add];exact hbox j v hv⟩
  have KP:=hid (show ∀ V:World,Below W0.heap.size W0 V→Below W0.heap.size W0 V∧V.cell? ⟨w.heap.size,1,none⟩=some (.string d.name)∧V.rangeAt w.heap.size 0 us from fun V hV=>⟨hV,(hV.cell (cell_lt hx1)).trans hx1,fun j v hv=>by rw [Nat.zero_add];exact hbox.later hV j v hv⟩)
  obtain ⟨q0,hq0⟩:∃ q:Bool,nmR d.name=q:=⟨_,rfl⟩
  obtain ⟨q1,hq1⟩:∃ q:Bool,Dc.sameX false d d.ofKind=q:=⟨_,rfl⟩
  have CN:=hid (fun (V:World) (hV:Below W0.heap.size W0 V)=>(show Calls Tryz.prog 32 #[.string d.name] V (EqvPost V q0) from hq0▸nmR_any d.name V (HE.out.later hV)))
  have CK:=hid (fun (V:World) (hV:Below W0.heap.size W0 V)=>ofKind_any d us V (Dat.H.later HDAT.out hV))
  have CS:=hid (fun (vs:List Value) (V:World) (hV:Below W0.heap.size W0 V) (h2:d.ofKind.dat.H V vs)=>(show Calls Tryz.prog 33 #[.agg us.toArray,.agg vs.toArray] V (EqvPost V q1) from hq1▸sameDecl_any d d.ofKind us vs V (Dat.H.later HDAT.out hV) h2))
  have HQ1:=hid hq1
  have HD:=hid (show d.right=(q0&&(q1&&if d.kind=3 then nmR d.recv&&(d.vs.all nmR&&(d.sig.right&&d.body.right)) else d.fs.all Fo.right&&(d.ms.all Fo.right&&d.gs.all Sg.right))) by rw [Dc.right_prog,hq0,hq1])
  clear hbel hW0 hus hn hf hp hg hr hv hs hbd hw hx1 hbox h h0 hE hq0 hq1
  go_enter Tryz.func10,Tryz.ntmps10
  go_upto_region 1 with fail
  rw [HW0.out]
  clear HW0
  go_wp2_with fail
  cases q0
  · skip
    refine wp_region_held_drew (S:=fun V=>Below W0.heap.size W0 V∧V.cell? ⟨w.heap.size,1,none⟩=some (.string d.name)∧V.rangeAt w.heap.size 0 us) (by kernel_rfl) ⟨SS.1.drew,SS.2⟩ (fun hS=>?_)
    first
    | (refine wpAnyH_take (i:=0) (v:=?_) rfl (by kernel_rfl) (by kernel_rfl) (by kernel_rfl) (fun _ _ _ h=>h) (Or.inl ⟨by rfl,?_⟩) (by assumption) ?_
       rotate_left
       · (intro V hV;obtain ⟨_,x0,x1⟩:=hV;go_simp;try with_reducible rfl)
       try simp only [Act.put,List.getElem_toArray,List.getElem_cons_zero,List.setIfInBounds_toArray,List.set_cons_zero,List.set_cons_succ])
    | (refine wpAnyH_take (i:=0) (v:=undef) rfl (by kernel_rfl) (by kernel_rfl) (by kernel_rfl) (fun _ _ _ h=>h) (Or.inr ⟨by rfl,rfl⟩) (by assumption) ?_
       try simp only [Act.put,List.getElem_toArray,List.getElem_cons_zero,List.setIfInBounds_toArray,List.set_cons_zero,List.set_cons_succ])
    | fail "take 0"
    first
    | (refine wpAnyH_take (i:=1) (v:=?_) rfl (by kernel_rfl) (by kernel_rfl) (by kernel_rfl) (fun _ _ _ h=>h) (Or.inl ⟨by rfl,?_⟩) (by assumption) ?_
       rotate_left
       · (intro V hV;obtain ⟨_,x0,x1⟩:=hV;go_simp;try with_reducible rfl)
       try simp only [Act.put,List.getElem_toArray,List.getElem_cons_zero,List.getElem_cons_succ,List.setIfInBounds_toArray,List.set_cons_zero,List.set_cons_succ])
    | (refine wpAnyH_take (i:=1) (v:=undef) rfl (by kernel_rfl) (by kernel_rfl) (by kernel_rfl) (fun _ _ _ h=>h) (Or.inr ⟨by rfl,rfl⟩) (by assumption) ?_
       try simp only [Act.put,List.getElem_toArray,List.getElem_cons_zero,List.getElem_cons_succ,List.setIfInBounds_toArray,List.set_cons_zero,List.set_cons_succ])
    | fail "take 1"
    refine wpAnyH_ready (rs:=[2]) (by kernel_rfl) (by simp) ?_
    refine AllReadyH.cons rfl (fun K hK=>?_) AllReadyH.nil
    go_simp
    refine (CN.out _ hS.1).mono ?_
    rintro e wN ⟨rfl,hb⟩
    have SS:=KP.out wN (hS.1.trans (hb.mono hS.1.size))
    clear hS hb
    refine hK.out _ _ SS (fun hS=>?_)
    clear hK K
    try simp only [Act.put,List.getElem_toArray,List.getElem_cons_zero,List.getElem_cons_succ,List.setIfInBounds_toArray,List.set_cons_zero,List.set_cons_succ]
    first
    | (refine wpAnyH_take (i:=3) (v:=?_) rfl (by kernel_rfl) (by kernel_rfl) (by kernel_rfl) (fun _ _ _ h=>h) (Or.inl ⟨by rfl,?_⟩) (by assumption) ?_
       rotate_left
       · (intro V hV;obtain ⟨_,x0,x1⟩:=hV;go_simp;try with_reducible rfl)
       try simp only [Act.put,List.getElem_toArray,List.getElem_cons_zero,List.getElem_cons_succ,List.setIfInBounds_toArray,List.set_cons_zero,List.set_cons_succ])
    | (refine wpAnyH_take (i:=3) (v:=undef) rfl (by kernel_rfl) (by kernel_rfl) (by kernel_rfl) (fun _ _ _ h=>h) (Or.inr ⟨by rfl,rfl⟩) (by assumption) ?_
       try simp only [Act.put,List.getElem_toArray,List.getElem_cons_zero,List.getElem_cons_succ,List.setIfInBounds_toArray,List.set_cons_zero,List.set_cons_succ])
    | fail "take 3"
    first
    | (refine wpAnyH_take (i:=4) (v:=?_) rfl (by kernel_rfl) (by kernel_rfl) (by kernel_rfl) (fun _ _ _ h=>h) (Or.inl ⟨by rfl,?_⟩) (by assumption) ?_
       rotate_left
       · (intro V hV;obtain ⟨_,x0,x1⟩:=hV;go_simp;try with_reducible rfl)
       try simp only [Act.put,List.getElem_toArray,List.getElem_cons_zero,List.getElem_cons_succ,List.setIfInBounds_toArray,List.set_cons_zero,List.set_cons_succ])
    | (refine wpAnyH_take (i:=4) (v:=undef) rfl (by kernel_rfl) (by kernel_rfl) (by kernel_rfl) (fun _ _ _ h=>h) (Or.inr ⟨by rfl,rfl⟩) (by assumption) ?_
       try simp only [Act.put,List.getElem_toArray,List.getElem_cons_zero,List.getElem_cons_succ,List.setIfInBounds_toArray,List.set_cons_zero,List.set_cons_succ])
    | fail "take 4"
    first
    | (refine wpAnyH_take (i:=5) (v:=?_) rfl (by kernel_rfl) (by kernel_rfl) (by kernel_rfl) (fun _ _ _ h=>h) (Or.inl ⟨by rfl,?_⟩) (by assumption) ?_
       rotate_left
       · (intro V hV;obtain ⟨_,x0,x1⟩:=hV;go_simp;try with_reducible rfl)
       try simp only [Act.put,List.getElem_toArray,List.getElem_cons_zero,List.getElem_cons_succ,List.setIfInBounds_toArray,List.set_cons_zero,List.set_cons_succ])
    | (refine wpAnyH_take (i:=5) (v:=undef) rfl (by kernel_rfl) (by kernel_rfl) (by kernel_rfl) (fun _ _ _ h=>h) (Or.inr ⟨by rfl,rfl⟩) (by assumption) ?_
       try simp only [Act.put,List.getElem_toArray,List.getElem_cons_zero,List.getElem_cons_succ,List.setIfInBounds_toArray,List.set_cons_zero,List.set_cons_succ])
    | fail "take 5"
    first
    | (refine wpAnyH_take (i:=6) (v:=?_) rfl (by kernel_rfl) (by kernel_rfl) (by kernel_rfl) (fun _ _ _ h=>h) (Or.inl ⟨by rfl,?_⟩) (by assumption) ?_
       rotate_left
       · (intro V hV;obtain ⟨_,x0,x1⟩:=hV;go_simp;try with_reducible rfl)
       try simp only [Act.put,List.getElem_toArray,List.getElem_cons_zero,List.getElem_cons_succ,List.setIfInBounds_toArray,List.set_cons_zero,List.set_cons_succ])
    | (refine wpAnyH_take (i:=6) (v:=undef) rfl (by kernel_rfl) (by kernel_rfl) (by kernel_rfl) (fun _ _ _ h=>h) (Or.inr ⟨by rfl,rfl⟩) (by assumption) ?_
       try simp only [Act.put,List.getElem_toArray,List.getElem_cons_zero,List.getElem_cons_succ,List.setIfInBounds_toArray,List.set_cons_zero,List.set_cons_succ])
    | fail "take 6"
    first
    | (refine wpAnyH_take (i:=7) (v:=?_) rfl (by kernel_rfl) (by kernel_rfl) (by kernel_rfl) (fun _ _ _ h=>h) (Or.inl ⟨by rfl,?_⟩) (by assumption) ?_
       rotate_left
       · (intro V hV;obtain ⟨_,x0,x1⟩:=hV;go_simp;try with_reducible rfl)
       try simp only [Act.put,List.getElem_toArray,List.getElem_cons_zero,List.getElem_cons_succ,List.setIfInBounds_toArray,List.set_cons_zero,List.set_cons_succ])
    | (refine wpAnyH_take (i:=7) (v:=undef) rfl (by kernel_rfl) (by kernel_rfl) (by kernel_rfl) (fun _ _ _ h=>h) (Or.inr ⟨by rfl,rfl⟩) (by assumption) ?_
       try simp only [Act.put,List.getElem_toArray,List.getElem_cons_zero,List.getElem_cons_succ,List.setIfInBounds_toArray,List.set_cons_zero,List.set_cons_succ])
    | fail "take 7"
    first
    | (refine wpAnyH_take (i:=8) (v:=?_) rfl (by kernel_rfl) (by kernel_rfl) (by kernel_rfl) (fun _ _ _ h=>h) (Or.inl ⟨by rfl,?_⟩) (by assumption) ?_
       rotate_left
       · (intro V hV;obtain ⟨_,x0,x1⟩:=hV;go_simp;try with_reducible rfl)
       try simp only [Act.put,List.getElem_toArray,List.getElem_cons_zero,List.getElem_cons_succ,List.setIfInBounds_toArray,List.set_cons_zero,List.set_cons_succ])
    | (refine wpAnyH_take (i:=8) (v:=undef) rfl (by kernel_rfl) (by kernel_rfl) (by kernel_rfl) (fun _ _ _ h=>h) (Or.inr ⟨by rfl,rfl⟩) (by assumption) ?_
       try simp only [Act.put,List.getElem_toArray,List.getElem_cons_zero,List.getElem_cons_succ,List.setIfInBounds_toArray,List.set_cons_zero,List.set_cons_succ])
    | fail "take 8"
    first
    | (refine wpAnyH_take (i:=9) (v:=?_) rfl (by kernel_rfl) (by kernel_rfl) (by kernel_rfl) (fun _ _ _ h=>h) (Or.inl ⟨by rfl,?_⟩) (by assumption) ?_
       rotate_left
       · (intro V hV;obtain ⟨_,x0,x1⟩:=hV;go_simp;try with_reducible rfl)
       try simp only [Act.put,List.getElem_toArray,List.getElem_cons_zero,List.getElem_cons_succ,List.setIfInBounds_toArray,List.set_cons_zero,List.set_cons_succ])
    | (refine wpAnyH_take (i:=9) (v:=undef) rfl (by kernel_rfl) (by kernel_rfl) (by kernel_rfl) (fun _ _ _ h=>h) (Or.inr ⟨by rfl,rfl⟩) (by assumption) ?_
       try simp only [Act.put,List.getElem_toArray,List.getElem_cons_zero,List.getElem_cons_succ,List.setIfInBounds_toArray,List.set_cons_zero,List.set_cons_succ])
    | fail "take 9"
    first
    | (refine wpAnyH_take (i:=10) (v:=?_) rfl (by kernel_rfl) (by kernel_rfl) (by kernel_rfl) (fun _ _ _ h=>h) (Or.inl ⟨by rfl,?_⟩) (by assumption) ?_
       rotate_left
       · (intro V hV;obtain ⟨_,x0,x1⟩:=hV;go_simp;try with_reducible rfl)
       try simp only [Act.put,List.getElem_toArray,List.getElem_cons_zero,List.getElem_cons_succ,List.setIfInBounds_toArray,List.set_cons_zero,List.set_cons_succ])
    | (refine wpAnyH_take (i:=10) (v:=undef) rfl (by kernel_rfl) (by kernel_rfl) (by kernel_rfl) (fun _ _ _ h=>h) (Or.inr ⟨by rfl,rfl⟩) (by assumption) ?_
       try simp only [Act.put,List.getElem_toArray,List.getElem_cons_zero,List.getElem_cons_succ,List.setIfInBounds_toArray,List.set_cons_zero,List.set_cons_succ])
    | fail "take 10"
    refine wpAnyH_done (by kernel_rfl) ?_ _
    clear KP CN CK CS
    go_wp2_with fail
    go_ret
    exact ⟨ret_bool (by rw [HD.out];rfl),HBEL.out.trans (Below.mono hS.1 HBEL.out.size)⟩
  skip
  refine wp_region_held_drew (S:=fun V=>Below W0.heap.size W0 V∧V.cell? ⟨w.heap.size,1,none⟩=some (.string d.name)∧V.rangeAt w.heap.size 0 us) (by kernel_rfl) ⟨SS.1.drew,SS.2⟩ (fun hS=>?_)
  first
  | (refine wpAnyH_take (i:=0) (v:=?_) rfl (by kernel_rfl) (by kernel_rfl) (by kernel_rfl) (fun _ _ _ h=>h) (Or.inl ⟨by rfl,?_⟩) (by assumption) ?_
     rotate_left
     · (intro V hV;obtain ⟨_,x0,x1⟩:=hV;go_simp;try with_reducible rfl)
     try simp only [Act.put,List.getElem_toArray,List.getElem_cons_zero,List.setIfInBounds_toArray,List.set_cons_zero,List.set_cons_succ])
  | (refine wpAnyH_take (i:=0) (v:=undef) rfl (by kernel_rfl) (by kernel_rfl) (by kernel_rfl) (fun _ _ _ h=>h) (Or.inr ⟨by rfl,rfl⟩) (by assumption) ?_
     try simp only [Act.put,List.getElem_toArray,List.getElem_cons_zero,List.setIfInBounds_toArray,List.set_cons_zero,List.set_cons_succ])
  | fail "take 0"
  first
  | (refine wpAnyH_take (i:=1) (v:=?_) rfl (by kernel_rfl) (by kernel_rfl) (by kernel_rfl) (fun _ _ _ h=>h) (Or.inl ⟨by rfl,?_⟩) (by assumption) ?_
     rotate_left
     · (intro V hV;obtain ⟨_,x0,x1⟩:=hV;go_simp;try with_reducible rfl)
     try simp only [Act.put,List.getElem_toArray,List.getElem_cons_zero,List.getElem_cons_succ,List.setIfInBounds_toArray,List.set_cons_zero,List.set_cons_succ])
  | (refine wpAnyH_take (i:=1) (v:=undef) rfl (by kernel_rfl) (by kernel_rfl) (by kernel_rfl) (fun _ _ _ h=>h) (Or.inr ⟨by rfl,rfl⟩) (by assumption) ?_
     try simp only [Act.put,List.getElem_toArray,List.getElem_cons_zero,List.getElem_cons_succ,List.setIfInBounds_toArray,List.set_cons_zero,List.set_cons_succ])
  | fail "take 1"
  refine wpAnyH_ready (rs:=[2]) (by kernel_rfl) (by simp) ?_
  refine AllReadyH.cons rfl (fun K hK=>?_) AllReadyH.nil
  go_simp
  refine (CN.out _ hS.1).mono ?_
  rintro e wN ⟨rfl,hb⟩
  have SS:=KP.out wN (hS.1.trans (hb.mono hS.1.size))
  clear hS hb
  refine hK.out _ _ SS (fun hS=>?_)
  clear hK K
  try simp only [Act.put,List.getElem_toArray,List.getElem_cons_zero,List.getElem_cons_succ,List.setIfInBounds_toArray,List.set_cons_zero,List.set_cons_succ]
  first
  | (refine wpAnyH_take (i:=3) (v:=?_) rfl (by kernel_rfl) (by kernel_rfl) (by kernel_rfl) (fun _ _ _ h=>h) (Or.inl ⟨by rfl,?_⟩) (by assumption) ?_
     rotate_left
     · (intro V hV;obtain ⟨_,x0,x1⟩:=hV;go_simp;try with_reducible rfl)
     try simp only [Act.put,List.getElem_toArray,List.getElem_cons_zero,List.getElem_cons_succ,List.setIfInBounds_toArray,List.set_cons_zero,List.set_cons_succ])
  | (refine wpAnyH_take (i:=3) (v:=undef) rfl (by kernel_rfl) (by kernel_rfl) (by kernel_rfl) (fun _ _ _ h=>h) (Or.inr ⟨by rfl,rfl⟩) (by assumption) ?_
     try simp only [Act.put,List.getElem_toArray,List.getElem_cons_zero,List.getElem_cons_succ,List.setIfInBounds_toArray,List.set_cons_zero,List.set_cons_succ])
  | fail "take 3"
  first
  | (refine wpAnyH_take (i:=4) (v:=?_) rfl (by kernel_rfl) (by kernel_rfl) (by kernel_rfl) (fun _ _ _ h=>h) (Or.inl ⟨by rfl,?_⟩) (by assumption) ?_
     rotate_left
     · (intro V hV;obtain ⟨_,x0,x1⟩:=hV;go_simp;try with_reducible rfl)
     try simp only [Act.put,List.getElem_toArray,List.getElem_cons_zero,List.getElem_cons_succ,List.setIfInBounds_toArray,List.set_cons_zero,List.set_cons_succ])
  | (refine wpAnyH_take (i:=4) (v:=undef) rfl (by kernel_rfl) (by kernel_rfl) (by kernel_rfl) (fun _ _ _ h=>h) (Or.inr ⟨by rfl,rfl⟩) (by assumption) ?_
     try simp only [Act.put,List.getElem_toArray,List.getElem_cons_zero,List.getElem_cons_succ,List.setIfInBounds_toArray,List.set_cons_zero,List.set_cons_succ])
  | fail "take 4"
  refine wpAnyH_take (i:=5) (v:=.agg us.toArray) rfl (by kernel_rfl) (by kernel_rfl) (by kernel_rfl) (fun _ _ _ h=>h) (yieldsIf_load_mid rfl 36 (.tmp 1) rfl w.heap.size 0 rfl us _ (fun V hV=>hV.2.2) Tryz.underlying36 rfl (by rw [HL.out];exact sizeDc)) (by assumption) ?_
  try simp only [Act.put,List.getElem_toArray,List.getElem_cons_zero,List.getElem_cons_succ,List.setIfInBounds_toArray,List.set_cons_zero,List.set_cons_succ]
  refine wpAnyH_take (i:=6) (v:=.agg us.toArray) rfl (by kernel_rfl) (by kernel_rfl) (by kernel_rfl) (fun _ _ _ h=>h) (yieldsIf_load_mid rfl 36 (.tmp 1) rfl w.heap.size 0 rfl us _ (fun V hV=>hV.2.2) Tryz.underlying36 rfl (by rw [HL.out];exact sizeDc)) (by assumption) ?_
  try simp only [Act.put,List.getElem_toArray,List.getElem_cons_zero,List.getElem_cons_succ,List.setIfInBounds_toArray,List.set_cons_zero,List.set_cons_succ]
  refine wpAnyH_ready (rs:=[7]) (by kernel_rfl) (by simp) ?_
  refine AllReadyH.cons rfl (fun K hK=>?_) AllReadyH.nil
  go_simp
  refine (CK.out _ hS.1).mono ?_
  rintro e wK ⟨vs,rfl,hin,hb⟩
  have HVS:=hid hin
  have SS:=KP.out wK (hS.1.trans (hb.mono hS.1.size))
  clear hS hb hin
  refine hK.out _ _ SS (fun hS=>?_)
  clear hK K
  try simp only [Act.put,List.getElem_toArray,List.getElem_cons_zero,List.getElem_cons_succ,List.setIfInBounds_toArray,List.set_cons_zero,List.set_cons_succ]
  refine wpAnyH_ready (rs:=[8]) (by kernel_rfl) (by simp) ?_
  refine AllReadyH.cons rfl (fun K hK=>?_) AllReadyH.nil
  go_simp
  refine (CS.out _ _ hS.1 HVS.out).mono ?_
  rintro e wD ⟨rfl,hb⟩
  have SS:=KP.out wD (hS.1.trans (hb.mono hS.1.size))
  clear hS hb HVS
  refine hK.out _ _ SS (fun hS=>?_)
  clear hK K
  try simp only [Act.put,List.getElem_toArray,List.getElem_cons_zero,List.getElem_cons_succ,List.setIfInBounds_toArray,List.set_cons_zero,List.set_cons_succ]
  first
  | (refine wpAnyH_take (i:=9) (v:=?_) rfl (by kernel_rfl) (by kernel_rfl) (by kernel_rfl) (fun _ _ _ h=>h) (Or.inl ⟨by rfl,?_⟩) (by assumption) ?_
     rotate_left
     · (intro V hV;obtain ⟨_,x0,x1⟩:=hV;go_simp;try with_reducible rfl)
     try simp only [Act.put,List.getElem_toArray,List.getElem_cons_zero,List.getElem_cons_succ,List.setIfInBounds_toArray,List.set_cons_zero,List.set_cons_succ])
  | (refine wpAnyH_take (i:=9) (v:=undef) rfl (by kernel_rfl) (by kernel_rfl) (by kernel_rfl) (fun _ _ _ h=>h) (Or.inr ⟨by rfl,rfl⟩) (by assumption) ?_
     try simp only [Act.put,List.getElem_toArray,List.getElem_cons_zero,List.getElem_cons_succ,List.setIfInBounds_toArray,List.set_cons_zero,List.set_cons_succ])
  | fail "take 9"
  first
  | (refine wpAnyH_take (i:=10) (v:=?_) rfl (by kernel_rfl) (by kernel_rfl) (by kernel_rfl) (fun _ _ _ h=>h) (Or.inl ⟨by rfl,?_⟩) (by assumption) ?_
     rotate_left
     · (intro V hV;obtain ⟨_,x0,x1⟩:=hV;go_simp;try with_reducible rfl)
     try simp only [Act.put,List.getElem_toArray,List.getElem_cons_zero,List.getElem_cons_succ,List.setIfInBounds_toArray,List.set_cons_zero,List.set_cons_succ])
  | (refine wpAnyH_take (i:=10) (v:=undef) rfl (by kernel_rfl) (by kernel_rfl) (by kernel_rfl) (fun _ _ _ h=>h) (Or.inr ⟨by rfl,rfl⟩) (by assumption) ?_
     try simp only [Act.put,List.getElem_toArray,List.getElem_cons_zero,List.getElem_cons_succ,List.setIfInBounds_toArray,List.set_cons_zero,List.set_cons_succ])
  | fail "take 10"
  refine wpAnyH_done (by kernel_rfl) ?_ _
  clear KP CN CK CS
  have HZ1:=hid hS.1
  have HX1:=hid (show Boxd _ w.heap.size us from fun j v hv=>by have h1:=hS.2.2 j v hv;rwa [Nat.zero_add] at h1)
  have HE1:=hid (HE.out.later HZ1.out)
  clear hS HE
  cases q1
  · go_wp2_with fail
    go_ret
    exact ⟨ret_bool (by rw [HD.out];rfl),HBEL.out.trans (Below.mono HZ1.out HBEL.out.size)⟩
  skip
  by_cases hk:d.kind=3
  · have e3:(d.kind==3)=true:=by simp [hk]
    obtain ⟨hf0,hp0,hg0⟩:=kind3_empty hk HQ1.out
    have Q0:=hid (show d.fs.all Fo.right=true by rw [hf0];rfl)
    have Q1:=hid (show d.ms.all Fo.right=true by rw [hp0];rfl)
    have Q2:=hid (show d.gs.all Sg.right=true by rw [hg0];rfl)
    obtain ⟨r0,hr0⟩:∃ r:Bool,nmR d.recv=r:=⟨_,rfl⟩
    have R0:=hid hr0
    obtain ⟨r1,hr1⟩:∃ r:Bool,d.vs.all nmR=r:=⟨_,rfl⟩
    have R1:=hid hr1
    obtain ⟨r2,hr2⟩:∃ r:Bool,d.sig.right=r:=⟨_,rfl⟩
    have R2:=hid hr2
    obtain ⟨r3,hr3⟩:∃ r:Bool,d.body.right=r:=⟨_,rfl⟩
    have R3:=hid hr3
    have HD2:=hid (show d.right=(r0&&(r1&&(r2&&r3))) by rw [HD.out,if_pos hk,hr0,hr1,hr2,hr3];rfl)
    clear hk hf0 hp0 hg0 hr0 hr1 hr2 hr3 HD
    have x2:=HX1.out 2 _ (by rw [HUS.out];rfl)
    go_wp2_with fail
    refine (allFormal_any d.fs Fu nfu cfu _ HE1.out (fun f hf=>Nat.le_trans (Dc.wt_f (d:=d) hf) HWD.out) (RowH.later HF.out HZ1.out)).mono ?_
    rintro e w2 ⟨rfl,hb⟩
    rw [Q0.out]
    have HZ2:=hid (HZ1.out.trans (hb.mono HZ1.out.size))
    have HX2:=hid (HX1.out.later hb)
    have HE2:=hid (HE1.out.later hb)
    clear hb HZ1 HX1 HE1 x2
    have x3:=HX2.out 3 _ (by rw [HUS.out];rfl)
    go_wp2_with fail
    refine (allParam_any d.ms Pu npu cpu _ HE2.out (fun f hf=>Nat.le_trans (Dc.wt_m (d:=d) hf) HWD.out) (RowH.later HP.out HZ2.out)).mono ?_
    rintro e w3 ⟨rfl,hb⟩
    rw [Q1.out]
    have HZ3:=hid (HZ2.out.trans (hb.mono HZ2.out.size))
    have HX3:=hid (HX2.out.later hb)
    have HE3:=hid (HE2.out.later hb)
    clear hb HZ2 HX2 HE2 x3
    have x4:=HX3.out 4 _ (by rw [HUS.out];rfl)
    go_wp2_with fail
    refine (allSig_any d.gs Gu ngu cgu _ HE3.out (fun f hf=>Nat.le_trans (Dc.wt_g (d:=d) hf) HWD.out) (RowH.later HG.out HZ3.out)).mono ?_
    rintro e w4 ⟨rfl,hb⟩
    rw [Q2.out]
    have HZ4:=hid (HZ3.out.trans (hb.mono HZ3.out.size))
    have HX4:=hid (HX3.out.later hb)
    have HE4:=hid (HE3.out.later hb)
    clear hb HZ3 HX3 HE3 x4
    have x0:=HX4.out 0 _ (by rw [HUS.out];rfl)
    have x5:=HX4.out 5 _ (by rw [HUS.out];rfl)
    go_wp2_with fail
    refine (nmR_any d.recv _ HE4.out).mono ?_
    rintro e w5 ⟨rfl,hb⟩
    rw [R0.out]
    have HZ5:=hid (HZ4.out.trans (hb.mono HZ4.out.size))
    have HX5:=hid (HX4.out.later hb)
    have HE5:=hid (HE4.out.later hb)
    clear hb HZ4 HX4 HE4 x0 x5
    have x6:=HX5.out 6 _ (by rw [HUS.out];rfl)
    cases r0
    · skip
      go_wp2_with fail
      go_ret
      exact ⟨ret_bool (by rw [HD2.out];rfl),HBEL.out.trans (HZ5.out.mono HBEL.out.size)⟩
    skip
    go_wp2_with fail
    refine (allStr_any d.vs Vu nvu cvu _ HE5.out (RowH.later HV.out HZ5.out)).mono ?_
    rintro e w6 ⟨rfl,hb⟩
    rw [R1.out]
    have HZ6:=hid (HZ5.out.trans (hb.mono HZ5.out.size))
    have HX6:=hid (HX5.out.later hb)
    have HE6:=hid (HE5.out.later hb)
    clear hb HZ5 HX5 HE5 x6
    have x7:=HX6.out 7 _ (by rw [HUS.out];rfl)
    have x8:=HX6.out 8 _ (by rw [HUS.out];rfl)
    have x9:=HX6.out 9 _ (by rw [HUS.out];rfl)
    have x10:=HX6.out 10 _ (by rw [HUS.out];rfl)
    have x11:=HX6.out 11 _ (by rw [HUS.out];rfl)
    have x12:=HX6.out 12 _ (by rw [HUS.out];rfl)
    have x13:=HX6.out 13 _ (by rw [HUS.out];rfl)
    cases r1
    · skip
      go_wp2_with fail
      go_ret
      exact ⟨ret_bool (by rw [HD2.out];rfl),HBEL.out.trans (HZ6.out.mono HBEL.out.size)⟩
    skip
    go_wp2_with fail
    refine (rightSig_any d.sig _ _ HE6.out (Nat.le_trans Dc.wt_s HWD.out) (Dat.H.later HS.out HZ6.out)).mono ?_
    rintro e w7 ⟨rfl,hb⟩
    rw [R2.out]
    have HZ7:=hid (HZ6.out.trans (hb.mono HZ6.out.size))
    have HX7:=hid (HX6.out.later hb)
    have HE7:=hid (HE6.out.later hb)
    clear hb HZ6 HX6 HE6 x7 x8 x9 x10 x11 x12 x13
    have x14:=HX7.out 14 _ (by rw [HUS.out];rfl)
    have x15:=HX7.out 15 _ (by rw [HUS.out];rfl)
    have x16:=HX7.out 16 _ (by rw [HUS.out];rfl)
    have x17:=HX7.out 17 _ (by rw [HUS.out];rfl)
    have x18:=HX7.out 18 _ (by rw [HUS.out];rfl)
    have x19:=HX7.out 19 _ (by rw [HUS.out];rfl)
    have x20:=HX7.out 20 _ (by rw [HUS.out];rfl)
    have x21:=HX7.out 21 _ (by rw [HUS.out];rfl)
    cases r2
    · skip
      go_wp2_with fail
      go_ret
      exact ⟨ret_bool (by rw [HD2.out];rfl),HBEL.out.trans (HZ7.out.mono HBEL.out.size)⟩
    skip
    go_wp2_with fail
    refine (xright_any d.body _ _ HE7.out (Nat.le_trans Dc.wt_b HWD.out) (Dat.H.later HBD.out HZ7.out)).mono ?_
    rintro e w8 ⟨rfl,hb⟩
    rw [R3.out]
    have HZ8:=hid (HZ7.out.trans (hb.mono HZ7.out.size))
    have HX8:=hid (HX7.out.later hb)
    have HE8:=hid (HE7.out.later hb)
    clear hb HZ7 HX7 HE7 x14 x15 x16 x17 x18 x19 x20 x21
    go_wp2_with fail
    go_ret
    exact ⟨ret_bool (by rw [HD2.out];rfl),HBEL.out.trans (HZ8.out.mono HBEL.out.size)⟩
  have e3:(d.kind==3)=false:=by simpa using hk
  obtain ⟨r0,hr0⟩:∃ r:Bool,d.fs.all Fo.right=r:=⟨_,rfl⟩
  have R0:=hid hr0
  obtain ⟨r1,hr1⟩:∃ r:Bool,d.ms.all Fo.right=r:=⟨_,rfl⟩
  have R1:=hid hr1
  obtain ⟨r2,hr2⟩:∃ r:Bool,d.gs.all Sg.right=r:=⟨_,rfl⟩
  have R2:=hid hr2
  have HD2:=hid (show d.right=(r0&&(r1&&r2)) by rw [HD.out,if_neg hk,hr0,hr1,hr2];rfl)
  clear hk hr0 hr1 hr2 HD
  have x2:=HX1.out 2 _ (by rw [HUS.out];rfl)
  go_wp2_with fail
  refine (allFormal_any d.fs Fu nfu cfu _ HE1.out (fun f hf=>Nat.le_trans (Dc.wt_f (d:=d) hf) HWD.out) (RowH.later HF.out HZ1.out)).mono ?_
  rintro e w2 ⟨rfl,hb⟩
  rw [R0.out]
  have HZ2:=hid (HZ1.out.trans (hb.mono HZ1.out.size))
  have HX2:=hid (HX1.out.later hb)
  have HE2:=hid (HE1.out.later hb)
  clear hb HZ1 HX1 HE1 x2
  have x0:=HX2.out 0 _ (by rw [HUS.out];rfl)
  have x3:=HX2.out 3 _ (by rw [HUS.out];rfl)
  cases r0
  · skip
    go_wp2_with fail
    go_ret
    exact ⟨ret_bool (by rw [HD2.out];rfl),HBEL.out.trans (HZ2.out.mono HBEL.out.size)⟩
  skip
  go_wp2_with fail
  refine (allParam_any d.ms Pu npu cpu _ HE2.out (fun f hf=>Nat.le_trans (Dc.wt_m (d:=d) hf) HWD.out) (RowH.later HP.out HZ2.out)).mono ?_
  rintro e w3 ⟨rfl,hb⟩
  rw [R1.out]
  have HZ3:=hid (HZ2.out.trans (hb.mono HZ2.out.size))
  have HX3:=hid (HX2.out.later hb)
  have HE3:=hid (HE2.out.later hb)
  clear hb HZ2 HX2 HE2 x0 x3
  have x0:=HX3.out 0 _ (by rw [HUS.out];rfl)
  have x4:=HX3.out 4 _ (by rw [HUS.out];rfl)
  cases r1
  · skip
    go_wp2_with fail
    go_ret
    exact ⟨ret_bool (by rw [HD2.out];rfl),HBEL.out.trans (HZ3.out.mono HBEL.out.size)⟩
  skip
  go_wp2_with fail
  refine (allSig_any d.gs Gu ngu cgu _ HE3.out (fun f hf=>Nat.le_trans (Dc.wt_g (d:=d) hf) HWD.out) (RowH.later HG.out HZ3.out)).mono ?_
  rintro e w4 ⟨rfl,hb⟩
  rw [R2.out]
  have HZ4:=hid (HZ3.out.trans (hb.mono HZ3.out.size))
  have HX4:=hid (HX3.out.later hb)
  have HE4:=hid (HE3.out.later hb)
  clear hb HZ3 HX3 HE3 x0 x4
  have x0:=HX4.out 0 _ (by rw [HUS.out];rfl)
  go_wp2_with fail
  go_ret
  exact ⟨ret_bool (by rw [HD2.out];rfl),HBEL.out.trans (HZ4.out.mono HBEL.out.size)⟩
open Go.RowKit
