/- The walk of the law ParseConcat: true, at every input. The conditions: the table of words, the variable of package errors. -/
import Derived.Test.YtjplpblehccigaaGreatDoorQBPbM
namespace Go.Proofs.YtjplpblehccigaaGreatDoor.Rd
open Go.RowKit

def sumCut:List ByteArray→Nat
  | []=>0
  | s :: r=>min s.size 10000+sumCut r
theorem sumCut_append:∀ a b:List ByteArray,sumCut (a++b)=sumCut a+sumCut b
  | [],b=>by simp [sumCut]
  | s :: a,b=>by simp only [List.cons_append,sumCut,sumCut_append a b]; omega
theorem sumCut_succ {ps:List ByteArray} {k:Nat} {q:ByteArray} (h:ps[k]?=some q):sumCut (ps.take (k+1))=sumCut (ps.take k)+min q.size 10000:=by
  rw [List.take_add_one,h,sumCut_append]
  rfl
theorem sumCut_take (ps:List ByteArray) (k:Nat):sumCut (ps.take k)≤sumCut ps:=by
  have h:=sumCut_append (ps.take k) (ps.drop k)
  rw [List.take_append_drop] at h
  omega
theorem sumCut_mem {ps:List ByteArray} {k:Nat} {q:ByteArray} (h:ps[k]?=some q):min q.size 10000≤sumCut ps:=by
  have h1:=sumCut_succ h
  have h2:=sumCut_take ps (k+1)
  omega
theorem sumCut_le (ps:List ByteArray):∀ k,sumCut (ps.take k)≤10000 * k
  | 0=>by simp [sumCut]
  | k+1=>by
    have ih:=sumCut_le ps k
    cases h:ps[k]? with
    | none=>rw [List.take_add_one,h]; simp only [Option.toList_none,List.append_nil]; omega
    | some q=>rw [sumCut_succ h]; omega
theorem catText_succ {ps:List ByteArray} {k:Nat} {q:ByteArray} (h:ps[k]?=some q):catText (ps.take (k+1))=catText (ps.take k)++10 :: (q.data.toList++[10]):=by
  rw [List.take_add_one,h]
  simp [catText]
theorem catText_size {ps:List ByteArray} (hs:∀ q∈ps,q.size≤10000):∀ k,k≤ps.length→(catText (ps.take k)).length=13+sumCut (ps.take k)+2 * k
  | 0,_=>by simp [catText,pkgText,sumCut]
  | k+1,hk=>by
    have ih:=catText_size hs k (by omega)
    have h:=List.getElem?_eq_getElem (show k < ps.length by omega)
    rw [catText_succ h,sumCut_succ h,List.length_append,ih]
    have h2:=hs _ (List.getElem_mem (show k < ps.length by omega))
    have h3:(ps[k]'(by omega)).data.toList.length=(ps[k]'(by omega)).size:=(Lib.size_eq _).symm
    simp only [List.length_cons,List.length_append,List.length_nil,h3]
    omega
theorem allR_snoc {α β:Type} {R:α→β→Prop} {ps:List α} {k:Nat} {q:α} {ds:List β} {d:β} (h:AllR R (ps.take k) ds) (hq:ps[k]?=some q) (hd:R q d):AllR R (ps.take (k+1)) (ds++[d]):=by
  rw [List.take_add_one,hq]
  exact h.snoc hd
/-- What holds at a round's head. -/
structure CcRel (w wr:World) (lo:Nat) (ps:List ByteArray) (k:Nat) (ds:List Dc) (sk:ByteArray) (wv:Value):Prop where
  txt:sk.data.toList=catText (ps.take k)
  all:AllR (fun a d=>dcO a=.good d) (ps.take k) ds
  row:Built wr False 41 23 lo wv ds.length (ds.map Dc.dat)
  bel:Below w.heap.size w wr
  big:lo≤wr.heap.size
set_option maxRecDepth 100000 in
set_option maxHeartbeats 16000000 in
theorem parseConcat_law (A:Option Addr) (n c:Nat) (ps:List ByteArray) (w:World) (hn:n≤9223372036854775807) (hS:Sl w A n ps) (hR:ResVar w) (hE:ErrVar w) :
    Calls Tryz.prog 8 #[.slice A n c] w (BoolPost true w):=by
  have HS:=Lib.hid hS
  have HR:=Lib.hid hR
  have HE:=Lib.hid hE
  have hlen:=hS.len
  have zn:(n:Int)≤9223372036854775807:=by omega
  clear hS hR hE
  go_enter Tryz.func8,Tryz.ntmps8
  go_wp2_with fail
  go_loopw [3,4] (fun nv iv wr=>∃ k:Nat,k≤n∧k≤20∧iv=.int .i64 k∧nv=.int .i64 (sumCut (ps.take k):Nat)∧Below w.heap.size w wr) (fun _ iv _=>20 - (intOf iv).toNat)
  case atStart=>exact ⟨0,by omega,by omega,rfl,rfl,Below.refl _ _⟩
  obtain ⟨k,hk,hk20,rfl,rfl,hbel⟩:=hrel
  have HB:=Lib.hid hbel
  have hsc:=sumCut_le ps k
  have z0:(0:Int)≤k:=by omega
  have z3:((sumCut (ps.take k):Nat):Int)≤200000:=by omega
  have z4:(0:Int)≤((sumCut (ps.take k):Nat):Int):=by omega
  by_cases hgo:k < n∧k < 20
  · have z1:(k:Int) < n:=by omega
    have z2:(k:Int) < 20:=by omega
    obtain ⟨a,q,rfl,hq,c0⟩:=(HS.out.later hbel).get hgo.1
    have HQ:=Lib.hid hq
    have hgo2:=hgo.2
    clear hq hbel hgo
    go_wp2_with fail
    go_roundw
    case rel =>
      refine ⟨k+1,by omega,by omega,rfl,?_,HB.out⟩
      rw [sumCut_succ HQ.out]
      congr 1
      omega
    case measure =>
      show 20 - ((k:Int)+1).toNat < 20 - (k:Int).toNat
      omega
  have HGO:=Lib.hid hgo
  obtain ⟨N,hN⟩:∃ N:Nat,sumCut (ps.take k)=N:=⟨_,rfl⟩
  have HN:=Lib.hid hN
  rw [hN] at z3 z4 ⊢
  have CA:=Lib.hid (awake8_any wr (HR.out.later hbel) (HE.out.later hbel))
  have hcond:((k:Int) < n∧(k:Int) < 20)→False:=fun h=>hgo ⟨by omega,by omega⟩
  by_cases h1:(k:Int) < n
  · have h2:¬ (k:Int) < 20:=fun h=>hcond ⟨h1,h⟩
    have z8:(8:Int) < n:=by omega
    clear hcond hgo hN hbel
    go_wp2_with fail
    refine CA.out.mono ?_
    rintro e w1 ⟨rfl,hb⟩
    have CB:=Lib.hid (awake8_any w1 ((HR.out.later HB.out).later hb) ((HE.out.later HB.out).later hb))
    have HB1:=Lib.hid (HB.out.trans (hb.mono HB.out.size))
    clear hb CA
    go_wp2_with fail
    refine CB.out.mono ?_
    rintro e w2 ⟨rfl,hb⟩
    have HB2:=Lib.hid (HB1.out.trans (hb.mono HB1.out.size))
    clear hb CB
    go_wp2_with fail
    go_ret
    exact ⟨rfl,HB2.out⟩
  clear hcond hgo hN hbel
  go_wp2_with fail
  refine CA.out.mono ?_
  rintro e w1 ⟨rfl,hb⟩
  have HR1:=Lib.hid ((HR.out.later HB.out).later hb)
  have HE1:=Lib.hid ((HE.out.later HB.out).later hb)
  have HB1:=Lib.hid (HB.out.trans (hb.mono HB.out.size))
  have CB:=Lib.hid (awake8_any w1 HR1.out HE1.out)
  clear hb CA
  by_cases h8:(8:Int) < n∨(2000:Int) < (N:Int)
  · rcases h8 with h8 | h8
    · go_wp2_with fail
      refine CB.out.mono ?_
      rintro e w2 ⟨rfl,hb⟩
      have HB2:=Lib.hid (HB1.out.trans (hb.mono HB1.out.size))
      clear hb CB
      go_wp2_with fail
      go_ret
      exact ⟨rfl,HB2.out⟩
    by_cases h9:(8:Int) < n
    · go_wp2_with fail
      refine CB.out.mono ?_
      rintro e w2 ⟨rfl,hb⟩
      have HB2:=Lib.hid (HB1.out.trans (hb.mono HB1.out.size))
      clear hb CB
      go_wp2_with fail
      go_ret
      exact ⟨rfl,HB2.out⟩
    have h9':(n:Int)≤8:=by omega
    clear h9
    go_wp2_with fail
    refine CB.out.mono ?_
    rintro e w2 ⟨rfl,hb⟩
    have HB2:=Lib.hid (HB1.out.trans (hb.mono HB1.out.size))
    clear hb CB
    go_wp2_with fail
    go_ret
    exact ⟨rfl,HB2.out⟩
  have n8:(n:Int)≤8:=by omega
  have n2:(N:Int)≤2000:=by omega
  have hkn:k=n:=by omega
  have HSUM:=Lib.hid (show sumCut ps≤2000 by
    have:=HN.out
    rw [hkn,←hlen,List.take_length] at this
    omega)
  have HSZ:=Lib.hid (show ∀ (j:Nat) (q:ByteArray),ps[j]?=some q→q.size≤2000 from fun j q h=>by
    have h1:=sumCut_mem h
    have h2:=HSUM.out
    omega)
  have HCT:=Lib.hid (show ∀ j,j≤n→(catText (ps.take j)).length≤2029 from fun j hj=>by
    have h1:=catText_size (ps:=ps) (fun q hq=>by
      obtain ⟨i,hi⟩:=List.mem_iff_getElem?.1 hq
      have:=HSZ.out i q hi
      omega) j (by omega)
    have h2:=sumCut_take ps j
    have h3:=HSUM.out
    omega)
  clear h8 CB HGO
  obtain ⟨lo,hlo⟩:∃ x,w1.heap.size=x:=⟨_,rfl⟩
  have HLO:=Lib.hid hlo
  clear hlo
  obtain ⟨i0,hi0,hz0,hz1,hz2⟩:=info_parts infoDcR
  go_wp2_with fail
  go_loopw [5,6,7] (fun sv wv iv wr=>∃ (j:Nat) (ds:List Dc) (sk:ByteArray),j≤n∧iv=.int .i64 j∧sv=.string sk∧CcRel w1 wr lo ps j ds sk wv) (fun _ _ iv _=>n - (intOf iv).toNat)
  case atStart=>exact ⟨0,[],_,by omega,rfl,rfl,⟨by simp [catText,pkgText],.nil,Built.nil _ _ _ _ _,Below.refl _ _,by rw [HLO.out]; exact Nat.le_refl _⟩⟩
  obtain ⟨j,ds,sk,hj,rfl,rfl,hr⟩:=hrel
  have HRL:=Lib.hid hr
  have hdl:ds.length=j:=by
    have h1:=hr.all.len
    rw [List.length_take] at h1
    omega
  obtain ⟨B,kc,hv,hrow0,-⟩:=hr.row.row (by omega) (by omega)
  subst hv
  have hd8:ds.length≤8:=by omega
  clear hdl
  have hbw:=HB1.out.trans (hr.bel.mono HB1.out.size)
  have hsk:sk.size≤2029:=by
    rw [Lib.size_eq,hr.txt]
    exact HCT.out j hj
  have zk:(sk.size:Int)≤2029:=by omega
  have y0:(0:Int)≤j:=by omega
  have hbig:=hr.big
  have HRW:=Lib.hid hrow0
  by_cases hlt:j < n
  · have y1:(j:Int) < n:=by omega
    obtain ⟨a,q,rfl,hq,cw⟩:=HS.out.get hlt
    have c0:=(hbw.cell (cell_lt cw)).trans cw
    have hab:a.block < lo:=by
      have h1:=cell_lt cw
      rw [block_of_add] at h1
      have h2:=HB1.out.size
      rw [HLO.out] at h2
      omega
    have HQ:=Lib.hid hq
    have hqs:=HSZ.out j q hq
    have zq:(q.size:Int)≤2000:=by omega
    have C1:=Lib.hid (rdecl8_any q wr (by omega))
    have HRr:=Lib.hid (HR1.out.later hr.bel)
    clear hr hrow0 hq hbw cw
    go_wp2_with fail
    refine C1.out.mono ?_
    rintro e w2 ⟨us,rfl,hin,hb⟩
    have h9:=dc_one hin
    obtain ⟨W2,hW2,hb2,bx2,th2⟩:=putDecl w2 h9.2
    have hall:=hb.trans (hb2.mono hb.size)
    have HR2:=Lib.hid (HRr.out.later hall)
    have HX2:=Lib.hid bx2
    have HD2:=Lib.hid (hin.later (w':=W2) (S:=Fr wr.heap.size w2) hb2 fun k hk=>hk.2)
    have RW2:=Lib.hid (show Built W2 False _ _ lo _ _ _ from HRL.out.row.later hall)
    have HB2:=Lib.hid (HRL.out.bel.trans (hall.mono HRL.out.bel.size))
    have hc2:=(hall.cell (cell_lt c0)).trans c0
    have hs2:lo≤W2.heap.size:=Nat.le_trans hbig hall.size
    have hs2w:wr.heap.size≤w2.heap.size:=hb.size
    have hs2W:w2.heap.size < W2.heap.size:=by
      obtain ⟨v0,hv0⟩:∃ v,us[0]?=some v:=⟨_,List.getElem?_eq_getElem (by rw [h9.2]; decide)⟩
      exact cell_lt (bx2 0 _ hv0)
    have HV2:=Lib.hid hW2
    have TH2:=Lib.hid th2
    have HL2:=Lib.hid h9
    cases ho:dcO q with
    | err k2 o2 =>
      have HO:=Lib.hid ho
      have e0:(k2 != 0)=true:=by
        rcases wholeO_code _ q k2 o2 (show wholeO declF q=_ from ho) with rfl | rfl <;> rfl
      rw [ho] at HD2
      clear ho hin hb hb2 hall bx2 hW2 th2 h9 C1
      simp only [Out.code,Out.at]
      go_upto_region 14 with (refine storeOp flatDc 8 57 (b:=w2.heap.size) (o:=0) (us:=us) rfl rfl TH2.out HL2.out.1 HL2.out.2 ?_; rw [HV2.out])
      have C3:=Lib.hid (paDecl_any q W2 (by omega) HR2.out)
      go_wp2_with fail
      refine C3.out.mono ?_
      rintro e w3 ⟨us3,rfl,hin,hb⟩
      have h9:=dc_one hin
      obtain ⟨W3,hW3,hb3,-,th3⟩:=putDecl w3 h9.2
      have HB3:=Lib.hid (HB1.out.trans ((HB2.out.trans ((hb.trans (hb3.mono hb.size)).mono HB2.out.size)).mono HB1.out.size))
      have HV3:=Lib.hid hW3
      have TH3:=Lib.hid th3
      have HL3:=Lib.hid h9
      rw [HO.out]
      clear hin hb hb3 hW3 th3 h9 C3
      simp only [Out.errV,faultV]
      go_upto_region 16 with (refine storeOp flatDc 11 68 (b:=w3.heap.size) (o:=0) (us:=us3) rfl rfl TH3.out HL3.out.1 HL3.out.2 ?_; rw [HV3.out])
      go_wp2_with fail
      go_ret
      exact ⟨rfl,HB3.out⟩
    | good d =>
      have HO:=Lib.hid ho
      rw [ho] at HD2
      have hd2:d.dat.In W2 False (Fr wr.heap.size w2) us:=HD2.out
      obtain ⟨u1,u2,u3,u4,u5,u6,u7,u8,u9,u10,u11,u12,u13,u14,u15,u16,u17,u18,u19,u20,u21,u22,u23,u24,u25,u26,u27,u28,u29,u30,hus,-⟩:=dc_opens hd2
      subst hus
      have HDD:=Lib.hid (show d.dat.In W2 False (Fr wr.heap.size W2) [.int .i64 d.kind,.string d.name,.slice u1 u2 u3,.slice u4 u5 u6,.slice u7 u8 u9,.string d.recv,.slice u10 u11 u12,.string d.sig.name,.slice u13 u14 u15,.slice u16 u17 u18,.string d.sig.res.name,.slice u19 u20 u21,.int .i64 d.sig.res.off,.int .i64 d.sig.off,.int .i64 d.body.kind,.string d.body.name,.string d.body.ty.name,.slice u22 u23 u24,.int .i64 d.body.ty.off,.slice u25 u26 u27,.slice u28 u29 u30,.int .i64 d.body.off,.int .i64 d.off] from hd2.wide fun i hi=>⟨hi.1,by have:=hi.2; omega⟩)
      have HBX:=Lib.hid (boxd_at0 HX2.out)
      obtain ⟨cs,S,hown,hrows,hzs,hS,hol⟩:=built_far (V':=W2) HRL.out.row (fun i h1 h2=>hall.block i h2)
      have HOW:=Lib.hid hown
      have HSTP:=Lib.hid (fun (gg cp:Nat) (w5:World) h1 h2 h3=>built_more (w5:=w5) (gg:=gg) (cap:=cp) (T:=41) hown hrows hzs (fun b hb=>⟨(hS b hb).1,by have:=(hS b hb).2.1; omega,(hS b hb).2.2⟩) HDD.out (by omega) (fun g' hg'=>by have:=(hol g' hg').2; omega) (Dc.dat_size d) h1 h2 h3)
      have hol2:=fun g' hg'=>(hol g' hg').1
      have HOL:=Lib.hid hol2
      have hb5:lo≤(W2.alloc (.cells #[.int .i64 d.kind,.string d.name,.slice u1 u2 u3,.slice u4 u5 u6,.slice u7 u8 u9,.string d.recv,.slice u10 u11 u12,.string d.sig.name,.slice u13 u14 u15,.slice u16 u17 u18,.string d.sig.res.name,.slice u19 u20 u21,.int .i64 d.sig.res.off,.int .i64 d.sig.off,.int .i64 d.body.kind,.string d.body.name,.string d.body.ty.name,.slice u22 u23 u24,.int .i64 d.body.ty.off,.slice u25 u26 u27,.slice u28 u29 u30,.int .i64 d.body.off,.int .i64 d.off] 41)).heap.size:=by simp; omega
      have hlc:ds.length+1≤100003:=by omega
      clear ho hd2 hin hb hb2 hall bx2 hW2 th2 h9 C1 hown hrows hzs hS hol hol2
      simp only [Out.code,Out.at]
      go_upto_region 14 with (refine storeOp flatDc 8 57 (b:=w2.heap.size) (o:=0) (us:=[.int .i64 d.kind,.string d.name,.slice u1 u2 u3,.slice u4 u5 u6,.slice u7 u8 u9,.string d.recv,.slice u10 u11 u12,.string d.sig.name,.slice u13 u14 u15,.slice u16 u17 u18,.string d.sig.res.name,.slice u19 u20 u21,.int .i64 d.sig.res.off,.int .i64 d.sig.off,.int .i64 d.body.kind,.string d.body.name,.string d.body.ty.name,.slice u22 u23 u24,.int .i64 d.body.ty.off,.slice u25 u26 u27,.slice u28 u29 u30,.int .i64 d.body.off,.int .i64 d.off]) rfl rfl TH2.out HL2.out.1 HL2.out.2 ?_; rw [HV2.out])
      go_upto_region 18 with (first | (refine loadOp flatDc 8 73 rfl HBX.out rfl ?_) | (at_builtin; refine wpList_append_lies _ rfl _ _ 22 rfl lo 41 i0 _ 23 392 Tryz.underlying22 hi0 hz0 hz1 hz2 rfl (by omega) _ ds.length cs rfl (HOW.out.alloc _) ⟨W2.heap.size,0,none⟩ 1 1 [.int .i64 d.kind,.string d.name,.slice u1 u2 u3,.slice u4 u5 u6,.slice u7 u8 u9,.string d.recv,.slice u10 u11 u12,.string d.sig.name,.slice u13 u14 u15,.slice u16 u17 u18,.string d.sig.res.name,.slice u19 u20 u21,.int .i64 d.sig.res.off,.int .i64 d.sig.off,.int .i64 d.body.kind,.string d.body.name,.string d.body.ty.name,.slice u22 u23 u24,.int .i64 d.body.ty.off,.slice u25 u26 u27,.slice u28 u29 u30,.int .i64 d.body.off,.int .i64 d.off] rfl rfl (World.news_of_block (cs:=#[.int .i64 d.kind,.string d.name,.slice u1 u2 u3,.slice u4 u5 u6,.slice u7 u8 u9,.string d.recv,.slice u10 u11 u12,.string d.sig.name,.slice u13 u14 u15,.slice u16 u17 u18,.string d.sig.res.name,.slice u19 u20 u21,.int .i64 d.sig.res.off,.int .i64 d.sig.off,.int .i64 d.body.kind,.string d.body.name,.string d.body.ty.name,.slice u22 u23 u24,.int .i64 d.body.ty.off,.slice u25 u26 u27,.slice u28 u29 u30,.int .i64 d.body.off,.int .i64 d.off]) (t:=41) (fr:=(0,0)) (heap_alloc_new _ _)) (by simp [Value.oneCell']) (by omega) (by unfold maxLen; omega) (by omega) hb5 _ rfl ?_; intro gg cp w6 hown6 hgrow6 hat6 hlt6; have HO6:=Lib.hid (And.intro hown6 (And.intro hgrow6 hat6)); clear hown6 hgrow6 hat6 hlt6))
      have hb6:Below lo W2 w6:=(((Below.refl W2.heap.size W2).alloc (Nat.le_refl _) _).mono (by omega)).trans (below_grown hb5 HO6.out.2.1 HOL.out)
      have RW6:=Lib.hid (show Built w6 False 41 23 lo (.slice (some ⟨gg,0,none⟩) (ds.length+1) cp) (ds++[d]).length ((ds++[d]).map Dc.dat) from by
        have:=HSTP.out gg cp w6 HO6.out.1 HO6.out.2.1 (HO6.out.2.2.imp id fun h=>by simpa using h)
        rw [List.map_append,List.length_append]
        exact this)
      have HB6:=Lib.hid (HB2.out.trans (hb6.mono (by rw [HLO.out]; exact Nat.le_refl _)))
      have hc6:=(hb6.cell (p:=a.add j) (by rw [block_of_add]; exact hab)).trans hc2
      have hs6:lo≤w6.heap.size:=by have:=hb6.size; omega
      clear hb6 HO6 HSTP HOW HBX hc2 c0
      go_wp2_with fail
      go_roundw
      case rel =>
        refine ⟨j+1,ds++[d],_,by omega,rfl,rfl,⟨?_,allR_snoc HRL.out.all HQ.out HO.out,RW6.out,HB6.out,hs6⟩⟩
        rw [catText_succ HQ.out,←HRL.out.txt,Go.Joins.data_append,Go.Joins.data_append,Go.Joins.data_append]
        simp
      case measure =>
        show n - ((j:Int)+1).toNat < n - (j:Int).toNat
        omega
  have hjn:j=n:=by omega
  subst hjn
  have htk:ps.take j=ps:=by rw [←hlen]; exact List.take_length
  obtain ⟨s2,hs2⟩:∃ x:ByteArray,sk++⟨#[102,117,110,99,32,109,97,105,110,40,41,32,123,32,95,32,61,32,120,32,125]⟩=x:=⟨_,rfl⟩
  have hst:s2.data.toList=catText ps++finText:=by
    rw [←hs2,Go.Joins.data_append,hr.txt,htk]
    rfl
  have hss:s2.size≤40000:=by
    rw [←hs2,Lib.size_eq,Go.Joins.data_append,List.length_append,←Lib.size_eq]
    show sk.size+21≤40000
    omega
  have hall:=hr.all
  rw [htk] at hall
  obtain ⟨es,o1,hpg,hes⟩:=prog_concat hall hst
  have HPG:=Lib.hid hpg
  have HES:=Lib.hid (dr_all hes)
  have HS2:=Lib.hid hs2
  have C1:=Lib.hid (paProgram_any s2 wr hss (HR1.out.later hr.bel))
  have HBr:=Lib.hid (HB1.out.trans (hr.bel.mono HB1.out.size))
  clear hr hrow0 hbw hst hs2 hall hpg hes
  go_wp2_with fail
  rw [HS2.out]
  refine C1.out.mono ?_
  rintro e w2 ⟨us,rfl,hin,hb⟩
  rw [HPG.out] at hin
  have hin2:(⟨es,exVar ⟨#[120]⟩ o1⟩:Pg).dat.In w2 False (Fr wr.heap.size w2) us:=hin
  have h9:=pg_ones hin2
  obtain ⟨D,m,dc,bv,hus,hrow,hmain⟩:=pg_open hin2
  obtain ⟨z1,z2,z3,z4,z5,z6,z7,z8,z9,hbv,-⟩:=ex_open hmain
  obtain ⟨W2,hW2,hb2,bx2,th2⟩:=putProgram w2 h9.2
  have hall:=hb.trans (hb2.mono hb.size)
  have hk0:W2.cell? ⟨w2.heap.size,0,none⟩=some (.slice D m dc):=bx2 0 _ (by rw [hus]; rfl)
  have hk2:W2.cell? ⟨w2.heap.size,2,none⟩=some (.string ⟨#[120]⟩):=bx2 2 _ (by rw [hus,hbv]; rfl)
  obtain rfl:m=es.length:=by have:=hrow.len; rw [List.length_map] at this; exact this.symm
  have C2:=Lib.hid (rsame8_any ⟨es,Ex.none?⟩ ⟨ds,Ex.none?⟩ [.slice D es.length dc,.int .i64 0,.string ⟨#[]⟩,.string ⟨#[]⟩,.slice none 0 0,.int .i64 0,.slice none 0 0,.slice none 0 0,.int .i64 0] [.slice B ds.length kc,.int .i64 0,.string ⟨#[]⟩,.string ⟨#[]⟩,.slice none 0 0,.int .i64 0,.slice none 0 0,.slice none 0 0,.int .i64 0] W2 (here8 (lo:=0) ((pgMkR (Row.keep (w':=W2) hrow id (fun p hp=>⟨hb2.cell (p:=p) (by have:=hp.2; omega),hb2.frozen (p:=p) (by have:=hp.2; omega)⟩) (fun k hk=>(⟨Nat.zero_le _,by have:=hk.2; have:=hb2.size; omega⟩:Fr 0 W2 k))) (exNone_dat _ _ _)))) (here8 (lo:=0) (pgMkR (Row.keep (w':=W2) HRW.out id (fun p hp=>⟨hall.cell (p:=p) (by have:=hp.2; omega),hall.frozen (p:=p) (by have:=hp.2; omega)⟩) (fun k hk=>(⟨Nat.zero_le _,by have:=hk.2; have:=hall.size; omega⟩:Fr 0 W2 k))) (exNone_dat _ _ _))))
  have HB2:=Lib.hid (HBr.out.trans (hall.mono HBr.out.size))
  have HV2:=Lib.hid hW2
  have TH2:=Lib.hid th2
  have HL2:=Lib.hid h9
  have HK2:=Lib.hid hk2
  have hsame:Pg.sameX false ⟨es,Ex.none?⟩ ⟨ds,Ex.none?⟩=true:=by
    show (sameBy (Dc.sameX false) es ds&&Ex.none?.same Ex.none?&&true)=true
    rw [HES.out]
    decide
  rw [hsame] at C2
  rw [HPG.out]
  clear hin hin2 hb hus hrow hmain hbv hb2 bx2 hW2 th2 h9 hall C1 hk2 hsame
  simp only [Out.errV]
  go_upto_region 20 with (refine storeOp flatPg 13 88 (b:=w2.heap.size) (o:=0) (us:=us) rfl rfl TH2.out HL2.out.1 HL2.out.2 ?_; rw [HV2.out])
  go_wp2_with fail
  refine C2.out.mono ?_
  rintro e w3 ⟨rfl,hb⟩
  have HB3:=Lib.hid (HB2.out.trans (hb.mono HB2.out.size))
  have x2:=(hb.cell (cell_lt HK2.out)).trans HK2.out
  clear hb C2 hk0
  go_wp2_with fail
  go_ret
  exact ⟨rfl,HB3.out⟩
end Go.Proofs.YtjplpblehccigaaGreatDoor.Rd
