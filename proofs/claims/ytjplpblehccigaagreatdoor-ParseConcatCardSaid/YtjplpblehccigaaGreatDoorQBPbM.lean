/- The walk of the law ParseBlanks: true, at every input. The conditions: the table of words, the variable of package errors. -/
import Derived.Test.YtjplpblehccigaaGreatDoorQBPbH
import Derived.Test.YtjplpblehccigaaGreatDoorQBPbI
import Derived.Test.YtjplpblehccigaaGreatDoorQBPbJ
import Derived.Test.YtjplpblehccigaaGreatDoorQBPbT
namespace Go.Proofs.YtjplpblehccigaaGreatDoor.Rd
open Go.RowKit

theorem bytes_size (l:List UInt8):(⟨l.toArray⟩:ByteArray).size=l.length:=by
  rw [Lib.size_eq]
theorem wide_full (ts:List Lx.Tok) (n:Nat):wideT (full ts n)=Lx.wide ts+1:=by
  unfold full
  induction ts with
  | nil=>rfl
  | cons t r ih =>
    simp only [List.map_cons,List.cons_append,wideT,Lx.wide,ih]
    rw [show (tk t).s.size=t.text.length from bytes_size _]
    omega
theorem joinT_nonempty:∀ (ts:List Lx.Tok) (s:List UInt8),(∀ t∈ts,t.right)→s≠[]→joinT s (ts.map tk)=s++(ts.flatMap fun t=>32 :: t.text)
  | [],s,_,_=>by simp [joinT]
  | t :: r,s,h,hs=>by
    have hk:(tk t).k≠3:=by
      rcases h t (by simp) with ⟨h1,_⟩ | ⟨h1,_⟩ <;> (show t.kind≠3; omega)
    simp only [List.map_cons,joinT,if_neg hk,if_neg hs]
    rw [joinT_nonempty r _ (fun x hx=>h x (by simp [hx])) (by simp)]
    simp [tk]
theorem joinL_flat:∀ (r:List Lx.Tok) (t:Lx.Tok),Lx.joinL (t :: r)=t.text++(r.flatMap fun t=>32 :: t.text)
  | [],t=>by simp [Lx.joinL]
  | u :: r,t=>by
    rw [Lx.joinL,joinL_flat r u]
    simp
theorem joinT_end:∀ (l:List Tk) (s:List UInt8) (n:Int),joinT s (l++[⟨3,⟨#[]⟩,n⟩])=joinT s l:=fun l s n=>by
  rw [joinT_snoc,if_pos rfl]
theorem joinT_full (ts:List Lx.Tok) (n:Nat) (h:∀ t∈ts,t.right):joinT [] (full ts n)=Lx.joinL ts:=by
  unfold full
  rw [joinT_end]
  cases ts with
  | nil=>rfl
  | cons t r =>
    have hk:(tk t).k≠3:=by
      rcases h t (by simp) with ⟨h1,_⟩ | ⟨h1,_⟩ <;> (show t.kind≠3; omega)
    have hne:t.text≠[]:=by
      rcases h t (by simp) with ⟨_,c,q,h2,_⟩ | ⟨_,c,h2,_⟩ <;> simp [h2]
    simp only [List.map_cons,joinT,if_neg hk,if_true]
    rw [show (tk t).s.data.toList=t.text by simp [tk],joinT_nonempty r _ (fun x hx=>h x (by simp [hx])) hne,joinL_flat]
set_option maxRecDepth 100000 in
set_option maxHeartbeats 4000000 in
theorem rsame8_any (a b:Pg) (us vs:List Value) (w:World) (h1:a.dat.H w us) (h2:b.dat.H w vs):Calls Tryz.prog 31 #[.agg us.toArray,.agg vs.toArray] w (EqvPost w (Pg.sameX false a b)):=by
  have h:=TwoD.new h1 h2 30
  obtain ⟨Du,nu,cu,A3u,m3u,a3u,B3u,l3u,b3u,C3u,n3u,c3u,rfl,-,-⟩:=pg_full h1
  obtain ⟨Dv,nv,cv,A3v,m3v,a3v,B3v,l3v,b3v,C3v,n3v,c3v,rfl,-,-⟩:=pg_full h2
  obtain ⟨W,hW⟩:∃ X,((w.alloc (.cells #[.slice Du nu cu,.int .i64 a.main.kind,.string a.main.name,.string a.main.ty.name,.slice A3u m3u a3u,.int .i64 a.main.ty.off,.slice B3u l3u b3u,.slice C3u n3u c3u,.int .i64 a.main.off] 30)).alloc (.cells #[.slice Dv nv cv,.int .i64 b.main.kind,.string b.main.name,.string b.main.ty.name,.slice A3v m3v a3v,.int .i64 b.main.ty.off,.slice B3v l3v b3v,.slice C3v n3v c3v,.int .i64 b.main.off] 30))=X:=⟨_,rfl⟩
  have H0:TwoD w W a.dat b.dat [.slice Du nu cu,.int .i64 a.main.kind,.string a.main.name,.string a.main.ty.name,.slice A3u m3u a3u,.int .i64 a.main.ty.off,.slice B3u l3u b3u,.slice C3u n3u c3u,.int .i64 a.main.off] [.slice Dv nv cv,.int .i64 b.main.kind,.string b.main.name,.string b.main.ty.name,.slice A3v m3v a3v,.int .i64 b.main.ty.off,.slice B3v l3v b3v,.slice C3v n3v c3v,.int .i64 b.main.off]:=hW▸h
  have HH:=Lib.hid H0
  have HW:=Lib.hid hW
  have C:=Lib.hid (rprog_any a b _ _ false W H0.da H0.db)
  clear h h1 h2 H0 hW
  go_enter Tryz.func31,Tryz.ntmps31
  go_upto_region 1 with fail
  rw [HW.out]
  go_wp2_with (first | (refine loadOp flatPg 2 5 rfl (boxd_at0 HH.out.one) rfl ?_) | (refine loadOp flatPg 3 6 rfl (boxd_at0 HH.out.two) rfl ?_))
  refine C.out.mono ?_
  rintro e w1 ⟨rfl,hb⟩
  have HB:=Lib.hid (HH.out.bel.trans (hb.mono HH.out.bel.size))
  clear hb C
  go_wp2_with fail
  go_ret
  exact ⟨rfl,HB.out⟩
set_option maxRecDepth 100000 in
set_option maxHeartbeats 8000000 in
theorem parseBlanks_law (s:ByteArray) (w:World) (_hs:s.size≤9223372036854775807) (hR:ResVar w) (hE:ErrVar w) :
    Calls Tryz.prog 6 #[.string s] w (BoolPost true w):=by
  have HR:=Lib.hid hR
  have HE:=Lib.hid hE
  have CA:=Lib.hid (awake8_any w hR hE)
  clear hR hE
  go_enter Tryz.func6,Tryz.ntmps6
  go_wp2_with fail
  refine CA.out.mono ?_
  rintro e w1 ⟨rfl,hb⟩
  have HR1:=Lib.hid (HR.out.later hb)
  have HE1:=Lib.hid (HE.out.later hb)
  have HB1:=Lib.hid hb
  clear hb CA
  by_cases hlen:2000 < s.size
  · have y0:(2000:Int) < s.size:=by omega
    have CA:=Lib.hid (awake8_any w1 HR1.out HE1.out)
    clear hlen
    go_wp2_with fail
    refine CA.out.mono ?_
    rintro e w2 ⟨rfl,hb⟩
    have HB2:=Lib.hid (HB1.out.trans (hb.mono HB1.out.size))
    clear hb CA
    go_wp2_with fail
    go_ret
    exact ⟨rfl,HB2.out⟩
  have y0:(s.size:Int)≤2000:=by omega
  have HL:=Lib.hid (show s.size≤2000 by omega)
  clear hlen
  have C2:=Lib.hid (ref_tokens_any s (by have:=HL.out; omega) w1)
  go_wp2_with fail
  refine C2.out.mono ?_
  rintro e w2 ⟨hb,hp⟩
  cases hl:left s 0 with
  | bad i =>
    rw [hl] at hp
    obtain rfl:=hp
    have zi:(0:Int)≤i:=by omega
    have HO:=Lib.hid (show pgO s=.err 1 i by unfold pgO wholeO; rw [hl])
    obtain ⟨W3,hW3⟩:∃ X,w2.alloc (.cells #[.slice none 0 0,.int .i64 (i:Int)] 63)=X:=⟨_,rfl⟩
    have hb3:Below w2.heap.size w2 W3:=hW3▸(Below.refl _ _).alloc (Nat.le_refl _) _
    have hall:=hb.trans (hb3.mono hb.size)
    have HR3:=Lib.hid (HR1.out.later hall)
    have HB3:=Lib.hid (HB1.out.trans (hall.mono HB1.out.size))
    have bx:Boxd W3 w2.heap.size [.slice none 0 0,.int .i64 (i:Int)]:=hW3▸Boxd.new w2 #[.slice none 0 0,.int .i64 (i:Int)] 63
    have x1:=bx 1 _ rfl
    have HW3:=Lib.hid hW3
    have C5:=Lib.hid (paProgram_any s W3 (by have:=HL.out; omega) HR3.out)
    clear hl hb hb3 hall bx hW3 C2
    go_upto_region 4 with fail
    rw [HW3.out]
    go_wp2_with fail
    refine C5.out.mono ?_
    rintro e w4 ⟨us,rfl,hin,hb⟩
    have h9:=pg_ones hin
    obtain ⟨W4,hW4,hb4,-,th4⟩:=putProgram w4 h9.2
    have HB4:=Lib.hid (HB3.out.trans ((hb.trans (hb4.mono hb.size)).mono HB3.out.size))
    have HV4:=Lib.hid hW4
    have TH4:=Lib.hid th4
    have HL4:=Lib.hid h9
    rw [HO.out]
    clear hin hb hb4 hW4 th4 h9 C5 x1 HW3
    simp only [Out.errV,faultV]
    go_upto_region 6 with (refine storeOp flatPg 4 29 (b:=w4.heap.size) (o:=0) (us:=us) rfl rfl TH4.out HL4.out.1 HL4.out.2 ?_; rw [HV4.out])
    go_wp2_with fail
    go_ret
    exact ⟨rfl,HB4.out⟩
  | ok ts =>
   rw [hl] at hp
   obtain ⟨A,c,rfl,hts⟩:=hp
   have hr:=(Lx.lex_right (left_lex.1 hl)).1
   have hwd:=(Lx.lex_right (left_lex.1 hl)).2
   have hsz:s.data.toList.length=s.size:=(Lib.size_eq s).symm
   have hjl:=Lx.joinL_wide ts
   obtain ⟨W3,hW3⟩:∃ X,w2.alloc (.cells #[.slice A (ts.length+1) c,.int .i64 (-1)] 63)=X:=⟨_,rfl⟩
   have hb3:Below w2.heap.size w2 W3:=hW3▸(Below.refl _ _).alloc (Nat.le_refl _) _
   have hall:=hb.trans (hb3.mono hb.size)
   have HR3:=Lib.hid (HR1.out.later hall)
   have HB3:=Lib.hid (HB1.out.trans (hall.mono HB1.out.size))
   have BX3:=Lib.hid (show Boxd W3 w2.heap.size [.slice A (ts.length+1) c,.int .i64 (-1)] from hW3▸Boxd.new w2 #[.slice A (ts.length+1) c,.int .i64 (-1)] 63)
   have TS3:=Lib.hid (hts.later hb3)
   have x1:=BX3.out 1 _ rfl
   have HW3:=Lib.hid hW3
   obtain ⟨jb,hjb⟩:∃ b:ByteArray,(⟨(joinT [] (full ts s.size)).toArray⟩:ByteArray)=b:=⟨_,rfl⟩
   obtain ⟨a,hadef⟩:∃ a:ByteArray,jb++⟨#[32,47,47,32,101,110,100]⟩=a:=⟨_,rfl⟩
   have hat:a.data.toList=Lx.joinL ts++endText:=by rw [←hadef,Go.Joins.data_append,←hjb,joinT_full ts _ hr]; simp [endText]
   have has:a.size≤5000:=by
     rw [Lib.size_eq,hat,List.length_append]
     have h1:=HL.out
     have h2:endText.length=7:=rfl
     omega
   have hjz:jb.size≤5000:=by
     rw [←hjb,joinT_full ts _ hr,bytes_size]
     have h1:=HL.out
     omega
   have HCASE:=Lib.hid (prog_join hl hat)
   have HADEF:=Lib.hid hadef
   have HJB:=Lib.hid hjb
   have hwt:wideT (full ts s.size)≤1000000:=by rw [wide_full]; have:=HL.out; omega
   have htl:ts.length+1≤9223372036854775807:=by
     have h1:=(full_ok hl (by have:=HL.out; omega)).2.1
     rw [full,List.length_append,List.length_map,List.length_singleton] at h1
     omega
   have HWT:=Lib.hid (And.intro hwt htl)
   clear hl hb hb3 hall hW3 C2 hts hwd hsz hjl hr hadef hjb hwt htl
   go_upto_region 4 with fail
   rw [HW3.out]
   have C4:=Lib.hid (paTree_any s W3 (by have:=HL.out; omega) HR3.out)
   go_wp2_with fail
   refine C4.out.mono ?_
   rintro e w4 ⟨us4,rfl,hin,hb⟩
   have h9:=pg_ones hin
   have hh:=here8 hin
   obtain ⟨W4,hW,hbW,bx,th⟩:=putProgram w4 h9.2
   have hall:=hb.trans (hbW.mono hb.size)
   have HX4:=Lib.hid bx
   have HH4:=Lib.hid (hh.later hbW)
   have HV4:=Lib.hid hW
   have TH4:=Lib.hid th
   have HL4:=Lib.hid h9
   have HR3_4:=Lib.hid (HR3.out.later hall)
   have HB3_4:=Lib.hid (HB3.out.trans (hall.mono HB3.out.size))
   have BX3_4:=Lib.hid (BX3.out.later hall)
   have TS3_4:=Lib.hid (TS3.out.later hall)
   clear hin hb hh hbW hall bx hW th h9 C4
   go_upto_region 8 with (refine storeOp flatPg 6 36 (b:=w4.heap.size) (o:=0) (us:=us4) rfl rfl TH4.out HL4.out.1 HL4.out.2 ?_; rw [HV4.out])
   clear x1
   have x0:=BX3_4.out 0 _ rfl
   have CJ:=Lib.hid (ref_join_any A (ts.length+1) c (full ts s.size) W4 HWT.out.2 HWT.out.1 TS3_4.out)
   go_wp2_with fail
   refine CJ.out.mono ?_
   rintro e w5 ⟨rfl,rfl⟩
   rw [HJB.out]
   clear CJ
   have zj:(jb.size:Int)≤5000:=by omega
   have C5:=Lib.hid (paTree_any a W4 (by omega) HR3_4.out)
   go_wp2_with fail
   rw [HADEF.out]
   refine C5.out.mono ?_
   rintro e w5 ⟨us5,rfl,hin,hb⟩
   have h9:=pg_ones hin
   have hh:=here8 hin
   obtain ⟨W5,hW,hbW,bx,th⟩:=putProgram w5 h9.2
   have hall:=hb.trans (hbW.mono hb.size)
   have HX5:=Lib.hid bx
   have HH5:=Lib.hid (hh.later hbW)
   have HV5:=Lib.hid hW
   have TH5:=Lib.hid th
   have HL5:=Lib.hid h9
   have HR3_4_5:=Lib.hid (HR3_4.out.later hall)
   have HB3_4_5:=Lib.hid (HB3_4.out.trans (hall.mono HB3_4.out.size))
   have HX4_5:=Lib.hid (HX4.out.later hall)
   have HH4_5:=Lib.hid (HH4.out.later hall)
   clear hin hb hh hbW hall bx hW th h9 C5
   go_upto_region 9 with (refine storeOp flatPg 8 44 (b:=w5.heap.size) (o:=0) (us:=us5) rfl rfl TH5.out HL5.out.1 HL5.out.2 ?_; rw [HV5.out])
   have C6:=Lib.hid (rprog8_any s W5 (by have:=HL.out; omega))
   go_wp2_with fail
   refine C6.out.mono ?_
   rintro e w6 ⟨us6,rfl,hin,hb⟩
   have h9:=pg_ones hin
   have hh:=here8 hin
   obtain ⟨W6,hW,hbW,bx,th⟩:=putProgram w6 h9.2
   have hall:=hb.trans (hbW.mono hb.size)
   have HX6:=Lib.hid bx
   have HH6:=Lib.hid (hh.later hbW)
   have HV6:=Lib.hid hW
   have TH6:=Lib.hid th
   have HL6:=Lib.hid h9
   have HR3_4_5_6:=Lib.hid (HR3_4_5.out.later hall)
   have HB3_4_5_6:=Lib.hid (HB3_4_5.out.trans (hall.mono HB3_4_5.out.size))
   have HX4_5_6:=Lib.hid (HX4_5.out.later hall)
   have HH4_5_6:=Lib.hid (HH4_5.out.later hall)
   have HX5_6:=Lib.hid (HX5.out.later hall)
   have HH5_6:=Lib.hid (HH5.out.later hall)
   clear hin hb hh hbW hall bx hW th h9 C6
   go_upto_region 10 with (refine storeOp flatPg 10 49 (b:=w6.heap.size) (o:=0) (us:=us6) rfl rfl TH6.out HL6.out.1 HL6.out.2 ?_; rw [HV6.out])
   have C7:=Lib.hid (sameProg_any ((pgO s).val pgNone) ((pgO a).val pgNone) us4 us5 W6 HH4_5_6.out HH5_6.out)
   have C8:=Lib.hid (fun W h1 h2=>rsame8_any ((pgO s).val pgNone) ((pgO s).val pgNone) us4 us6 W h1 h2)
   rcases HCASE.out with ⟨p,q,h1,h2,h3⟩ | ⟨i,j,h1,h2⟩
   · rw [h1] at C7 C8 HH4_5_6 HH6
     rw [h2] at C7 HH5_6
     rw [h1,h2]
     simp only [Out.val] at C7 C8 HH4_5_6 HH6 HH5_6
     rw [h3] at C7
     rw [show Pg.sameX false p p=true by rw [Pg.sameX,sameBy_refl (fun d=>by rw [Dc.sameX,sameBy_refl Fo.same_refl,sameBy_refl Fo.same_refl,sameBy_refl Sg.same_refl,sameBy_refl bytesEq_refl,Sg.same_refl,Ex.same_refl',bytesEq_refl,bytesEq_refl]; simp),Ex.same_refl']; rfl] at C8
     simp only [Out.ok,Out.code,Out.at]
     clear h1 h2 h3 HCASE
     go_wp2_with (first | (refine loadOpG flatPg 6 62 rfl rfl (boxd_at0 HX4_5_6.out) HL4.out.2 ?_) | (refine loadOpG flatPg 8 63 rfl rfl (boxd_at0 HX5_6.out) HL5.out.2 ?_))
     refine C7.out.mono ?_
     rintro e w7 ⟨rfl,hb⟩
     have HX47:=Lib.hid (HX4_5_6.out.later hb)
     have HX67:=Lib.hid (HX6.out.later hb)
     have C9:=Lib.hid (C8.out w7 (HH4_5_6.out.later hb) (HH6.out.later hb))
     have HB7:=Lib.hid (HB3_4_5_6.out.trans (hb.mono HB3_4_5_6.out.size))
     clear hb C7 C8
     go_wp2_with (first | (refine loadOpG flatPg 6 67 rfl rfl (boxd_at0 HX47.out) HL4.out.2 ?_) | (refine loadOpG flatPg 10 68 rfl rfl (boxd_at0 HX67.out) HL6.out.2 ?_))
     refine C9.out.mono ?_
     rintro e w8 ⟨rfl,hb⟩
     have HB8:=Lib.hid (HB7.out.trans (hb.mono HB7.out.size))
     clear hb C9
     go_wp2_with fail
     go_ret
     exact ⟨rfl,HB8.out⟩
   rw [h1] at C7 C8 HH4_5_6 HH6
   rw [h2] at C7 HH5_6
   rw [h1,h2]
   simp only [Out.val] at C7 C8 HH4_5_6 HH6 HH5_6
   rw [show Pg.sameX false pgNone pgNone=true by decide] at C7 C8
   simp only [Out.ok,Out.code,Out.at]
   clear h1 h2 HCASE
   go_wp2_with (first | (refine loadOpG flatPg 6 62 rfl rfl (boxd_at0 HX4_5_6.out) HL4.out.2 ?_) | (refine loadOpG flatPg 8 63 rfl rfl (boxd_at0 HX5_6.out) HL5.out.2 ?_))
   refine C7.out.mono ?_
   rintro e w7 ⟨rfl,hb⟩
   have HX47:=Lib.hid (HX4_5_6.out.later hb)
   have HX67:=Lib.hid (HX6.out.later hb)
   have C9:=Lib.hid (C8.out w7 (HH4_5_6.out.later hb) (HH6.out.later hb))
   have HB7:=Lib.hid (HB3_4_5_6.out.trans (hb.mono HB3_4_5_6.out.size))
   clear hb C7 C8
   go_wp2_with (first | (refine loadOpG flatPg 6 67 rfl rfl (boxd_at0 HX47.out) HL4.out.2 ?_) | (refine loadOpG flatPg 10 68 rfl rfl (boxd_at0 HX67.out) HL6.out.2 ?_))
   refine C9.out.mono ?_
   rintro e w8 ⟨rfl,hb⟩
   have HB8:=Lib.hid (HB7.out.trans (hb.mono HB7.out.size))
   clear hb C9
   go_wp2_with fail
   go_ret
   exact ⟨rfl,HB8.out⟩
end Go.Proofs.YtjplpblehccigaaGreatDoor.Rd
