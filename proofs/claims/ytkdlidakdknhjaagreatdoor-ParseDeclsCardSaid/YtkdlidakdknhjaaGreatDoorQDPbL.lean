/- The walk of the law ParseDecls: true, at every input. The conditions: the table of words, the variable of package errors. -/
import Derived.Test.YtkdlidakdknhjaaGreatDoorQDDcU
import Derived.Test.YtkdlidakdknhjaaGreatDoorQDPbG
import Derived.Test.YtkdlidakdknhjaaGreatDoorQDPbI
import Derived.Test.YtkdlidakdknhjaaGreatDoorQDPbJ
import Derived.Test.YtkdlidakdknhjaaGreatDoorQDPbQ
set_option maxRecDepth 100000
set_option maxHeartbeats 8000000
open Go.Lib (hid)
namespace Go.Proofs.YtkdlidakdknhjaaGreatDoor.Rd
open Go.RowKit
theorem parseDecls_law (s:ByteArray) (w:World) (_hs:s.size≤9223372036854775807) (hR:ResVar w) (hE:ErrVar w) :
    Calls Tryz.prog 3 #[.string s] w (BoolPost true w):=by
  have HR:=hid hR
  have HE:=hid hE
  have CA:=hid (awake8_any w hR hE)
  clear hR hE
  go_enter Tryz.func3,Tryz.ntmps3
  go_wp2_with fail
  refine CA.out.mono ?_
  rintro e w1 ⟨rfl,hb⟩
  have HR1:=hid (HR.out.later hb)
  have HE1:=hid (HE.out.later hb)
  have HB1:=hid hb
  clear hb CA
  by_cases hlen:2000<s.size
  · have y0:(2000:Int)<s.size:=by omega
    have CA:=hid (awake8_any w1 HR1.out HE1.out)
    clear hlen
    go_wp2_with fail
    refine CA.out.mono ?_
    rintro e w2 ⟨rfl,hb⟩
    have HB2:=hid (HB1.out.trans (hb.mono HB1.out.size))
    clear hb CA
    go_wp2_with fail
    go_ret
    exact ⟨rfl,HB2.out⟩
  have y0:(s.size:Int)≤2000:=by omega
  have HL:=hid (show s.size≤2000 by omega)
  clear hlen
  have C2:=hid (paDecl_any s w1 (by have:=HL.out;omega) HR1.out)
  go_wp2_with fail
  refine C2.out.mono ?_
  rintro e w2 ⟨us,rfl,hin,hb⟩
  have h9:=dc_one hin
  have hh:=here8 hin
  obtain ⟨W2,hW2,hb2,bx2,th2⟩:=putDecl w2 h9.2
  have hall:=hb.trans (hb2.mono hb.size)
  have HR2:=hid (HR1.out.later hall)
  have HE2:=hid (HE1.out.later hall)
  have HB2:=hid (HB1.out.trans (hall.mono HB1.out.size))
  have HX2:=hid bx2
  have HH2:=hid (hh.later hb2)
  have HV2:=hid hW2
  have TH2:=hid th2
  have HL2:=hid h9
  have C3:=hid (rdecl8_any s W2 (by have:=HL.out;omega))
  clear hin hb hh hb2 hall bx2 hW2 th2 h9 C2 HR1 HE1
  go_upto_region 4 with (refine storeOp flatDc 3 19 (b:=w2.heap.size) (o:=0) (us:=us) rfl rfl TH2.out HL2.out.1 HL2.out.2 ?_;rw [HV2.out])
  go_wp2_with fail
  refine C3.out.mono ?_
  rintro e w3 ⟨vs,rfl,hin,hb⟩
  have h9:=dc_one hin
  have hh:=here8 hin
  obtain ⟨W3,hW3,hb3,bx3,th3⟩:=putDecl w3 h9.2
  have hall:=hb.trans (hb3.mono hb.size)
  have HR3:=hid (HR2.out.later hall)
  have HE3:=hid (HE2.out.later hall)
  have HB3:=hid (HB2.out.trans (hall.mono HB2.out.size))
  have HX3:=hid bx3
  have HX23:=hid (HX2.out.later hall)
  have HH3:=hid (hh.later hb3)
  have HH23:=hid (HH2.out.later hall)
  have HV3:=hid hW3
  have TH3:=hid th3
  have HL3:=hid h9
  clear hin hb hh hb3 hall bx3 hW3 th3 h9 C3 HX2 HH2 HR2 HE2 HV2 TH2
  have C4:=hid (rdecl_any ((dcO s).val Dc.none?) ((dcO s).val Dc.none?) us vs true W3 HH23.out HH3.out)
  rw [dc_exact] at C4
  have hgd:∀ t,dcO s=.good t→t.right=true∧t.wt≤1990:=fun t h=>dcO_good HL.out h
  have hcd:∀ c a,dcO s=.err c a→c=1∨c=2:=fun c a h=>wholeO_code _ s c a h
  generalize dcO s=o at *
  go_upto_region 5 with (refine storeOp flatDc 5 24 (b:=w3.heap.size) (o:=0) (us:=vs) rfl rfl TH3.out HL3.out.1 HL3.out.2 ?_;rw [HV3.out])
  go_wp2_with (first | (refine loadOp flatDc 3 27 rfl (boxd_at0 HX23.out) HL2.out.2 ?_) | (refine loadOp flatDc 5 28 rfl (boxd_at0 HX3.out) HL3.out.2 ?_))
  refine C4.out.mono ?_
  rintro e w4 ⟨rfl,hb⟩
  have HR4:=hid (HR3.out.later hb)
  have HB4:=hid (HB3.out.trans (hb.mono HB3.out.size))
  have HX24:=hid (HX23.out.later hb)
  have HX34:=hid (HX3.out.later hb)
  have HH24:=hid (HH23.out.later hb)
  have HH34:=hid (HH3.out.later hb)
  have C5:=hid (told8_out o w4 hcd (HE3.out.later hb))
  clear hb C4
  go_wp2_with fail
  refine C5.out.mono ?_
  rintro e w5 ⟨rfl,hb⟩
  have HR5:=hid (HR4.out.later hb)
  have HB5:=hid (HB4.out.trans (hb.mono HB4.out.size))
  have HX25:=hid (HX24.out.later hb)
  have HX35:=hid (HX34.out.later hb)
  have HH25:=hid (HH24.out.later hb)
  have HH35:=hid (HH34.out.later hb)
  clear hb C5
  cases o with
  | err k a =>
    simp only [Out.code,Out.at,Out.errV,Out.val] at *
    have e0:(k != 0)=true:=by rcases hcd k a rfl with rfl | rfl<;>rfl
    have e1:(k==0)=false:=by rcases hcd k a rfl with rfl | rfl<;>rfl
    go_wp2_with fail
    go_ret
    exact ⟨rfl,HB5.out⟩
  | good t =>
    simp only [Out.code,Out.at,Out.errV,Out.val] at *
    have HRT:=hid (hgd t rfl).1
    have HSM:=hid (hgd t rfl).2
    have C6:=hid (rrightDecl_any t _ w5 HSM.out HH35.out)
    go_wp2_with (refine loadOpG flatDc 5 41 rfl rfl (boxd_at0 HX35.out) HL3.out.2 ?_)
    refine C6.out.mono ?_
    rintro e w6 ⟨rfl,hb⟩
    rw [HRT.out]
    have HB6:=hid (HB5.out.trans (hb.mono HB5.out.size))
    have HX26:=hid (HX25.out.later hb)
    have C7:=hid (rightDecl_any t _ w6 (HR5.out.later hb) HSM.out (HH25.out.later hb))
    clear hb C6
    go_wp2_with (refine loadOpG flatDc 3 44 rfl rfl (boxd_at0 HX26.out) HL2.out.2 ?_)
    refine C7.out.mono ?_
    rintro e w7 ⟨rfl,hb⟩
    rw [HRT.out]
    have HB7:=hid (HB6.out.trans (hb.mono HB6.out.size))
    clear hb C7
    go_wp2_with fail
    go_ret
    exact ⟨rfl,HB7.out⟩
