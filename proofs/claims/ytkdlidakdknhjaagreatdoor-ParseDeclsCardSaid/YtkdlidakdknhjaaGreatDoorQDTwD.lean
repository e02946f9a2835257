/- The walks of types.Names, gather and Right. -/
import Derived.Test.YtkdlidakdknhjaaGreatDoorQDTyK
import Derived.RangeFuncKeeps
set_option maxRecDepth 100000
set_option maxHeartbeats 8000000
open Go.Lib (hid)
namespace Go.Proofs.YtkdlidakdknhjaaGreatDoor
open Go.RowKit
def GatherPost (w:World) (base:Nat) (l:List ByteArray) (e:Ending) (w':World):Prop :=
  ∃ v,e=.returned v∧w'.ownsRow base 9 1 v l.length (l.map boxS)∧Below base w w'
theorem own_alloc {w:World} {base n size:Nat} {e:TypeId} {v:Value} {xs:List Value} (h:w.ownsRow base e size v n xs) (o:Obj):(w.alloc o).ownsRow base e size v n xs :=
  own_below h ((Below.refl _ _).alloc (Nat.le_refl _) o)
theorem gather_any:∀ (t:Ty) (A:Option Addr) (m c base:Nat) (v:Value) (ps:List ByteArray) (w:World),ps.length+t.list.length≤1000000→base≤w.heap.size→w.ownsRow base 9 1 v ps.length (ps.map boxS)→Lies w (·<base) A m t.args →
    Calls Tryz.prog 139 #[v,.agg #[.string t.name,.slice A m c,.int .i64 t.off]] w (GatherPost w base (ps++t.list)):=by
  refine Ty.ind fun s xs o ih A m c base v ps w hs hbs hown h=>?_
  simp only [Ty.name,Ty.args,Ty.off] at h ⊢
  have hm:(m:Int)≤9223372036854775807:=by have:=h.le;omega
  have hxl:=h.len
  have hb:Below w.heap.size w (w.alloc (.cells #[.string s,.slice A m c,.int .i64 o] 29)):=(Below.refl _ _).alloc (Nat.le_refl _) _
  have HX:=Box.new w s A m c o 29
  have hbb:Below w.heap.size w ((w.alloc (.cells #[.string s,.slice A m c,.int .i64 o] 29)).alloc (.cells #[.string s] 9)):=hb.alloc (by simp) _
  have hxb:=HX.later (w':=(w.alloc (.cells #[.string s,.slice A m c,.int .i64 o] 29)).alloc (.cells #[.string s] 9)) ((Below.refl _ _).alloc (Nat.le_refl _) _)
  have IH:=hid ih
  have HL:=hid h
  have HO:=hid (own_alloc (own_alloc hown (.cells #[.string s,.slice A m c,.int .i64 o] 29)) (.cells #[.string s] 9))
  have HV:=hid (fun k hk=>(hown.lt k hk).2)
  have HD:=hid (show Ty.list (.mk s xs o)=s :: Ty.listL xs by rw [Ty.list])
  rw [HD.out] at hs
  simp only [List.length_cons] at hs
  have HT:=hid hs
  have HBS:=hid hbs
  have HXB:=hid hxb
  have HBB:=hid (hbb.mono hbs)
  obtain ⟨i0,hi0,hz0,hz1,hz2⟩:=info_parts infoStr
  obtain ⟨x0,x1,x2⟩:=HX
  have HN:=hid (show ((w.alloc (.cells #[.string s,.slice A m c,.int .i64 o] 29)).alloc (.cells #[.string s] 9)).cell? ⟨w.heap.size+1,0,none⟩=some (.string s) by
    rw [World.cell?_alloc_at _ _ _ _ (by simp)];rfl)
  clear ih h hb hbb hxb hs hown hbs
  go_enter Tryz.func139,Tryz.ntmps139
  go_wp2_with (at_builtin;refine wpList_append_own _ rfl _ _ 26 rfl base 9 i0 _ 1 16 Tryz.underlying26 hi0 hz0 hz1 hz2 rfl (by omega) _ ps.length _ rfl HO.out ⟨w.heap.size+1,0,none⟩ 1 1 [.string s] rfl rfl (by intro j u hj;match j,hj with | 0,hj=>(obtain rfl:Value.string s=u:=by simpa using hj);exact HN.out) (by intro x hx;simp only [List.mem_singleton] at hx;subst hx;rfl) (by unfold maxLen;have:=HT.out;omega) (by have:=HT.out;omega) (by have:=HBS.out;simp;omega) ?_)
  intro v1 w1 hown1 hgrow1 _
  have hk1:∀ i,w1.cell? ⟨w.heap.size,i,none⟩=((w.alloc (.cells #[.string s,.slice A m c,.int .i64 o] 29)).alloc (.cells #[.string s] 9)).cell? ⟨w.heap.size,i,none⟩:=fun i=>by
    refine hgrow1.cell_far ⟨w.heap.size,i,none⟩ (by simp;omega) (fun e=>?_)
    have h2:w.heap.size<w.heap.size:=HV.out _ e.symm
    omega
  obtain ⟨y0,y1,y2⟩:=HXB.out
  rw [←hk1] at y0 y1 y2
  have HB1:=hid (Below.grown HBB.out hgrow1 (by have:=HBS.out;simp;omega) (own_base HO.out))
  have HO1:=hid (show w1.ownsRow base 9 1 v1 (ps++s :: Ty.listL (xs.take 0)).length ((ps++s :: Ty.listL (xs.take 0)).map boxS) by
    have e:(ps++s :: Ty.listL (xs.take 0))=ps++[s]:=by simp [Ty.listL]
    rw [e,List.length_append,List.map_append]
    exact hown1)
  have HS1:=hid (show base≤w1.heap.size by have h1:=HB1.out.size;have:=HBS.out;omega)
  clear hown1 hgrow1 hk1 x0 x1 x2 HO HV HN HXB HBB
  go_wp2_with fail
  go_loopw [0,15] (fun v i wr=>∃ k:Nat,k≤m∧i=.int .i64 k∧wr.ownsRow base 9 1 v (ps++s :: Ty.listL (xs.take k)).length ((ps++s :: Ty.listL (xs.take k)).map boxS)∧Below base w wr) (fun _ i _=>m-(intOf i).toNat)
  case atStart=>exact ⟨0,by omega,rfl,HO1.out,HB1.out⟩
  obtain ⟨k,hk,rfl,hown,hbel⟩:=hrel
  have z0:(0:Int)≤k:=by omega
  have hsz:base≤wr.heap.size:=Nat.le_trans HBS.out hbel.size
  have HBL:=hid hbel
  by_cases hlt:k<m
  · have z1:(k:Int)<m:=by omega
    obtain ⟨a,u,ys,p,B,n,d,rfl,hx,_,a0,a1,a2,hu,hl⟩:=Lies.get (LiesN.later HL.out hbel (fun _ h=>h)) hlt
    have hst:=listL_step hx
    have hle:=listL_take xs (k+1)
    rw [hst,List.length_append] at hle
    have hka:Below wr.heap.size wr (wr.alloc (.cells #[.string u,.slice B n d,.int .i64 p] 29)):=(Below.refl _ _).alloc (Nat.le_refl _) _
    have C:=hid (IH.out _ (List.mem_of_getElem? hx) B n d base _ (ps++s :: Ty.listL (xs.take k)) (wr.alloc (.cells #[.string u,.slice B n d,.int .i64 p] 29))
      (by have:=HT.out;simp only [List.length_append,List.length_cons];omega) (by simp;omega) (own_alloc hown _) (LiesN.later hl (hka.mono hsz) (fun _ h=>h)))
    simp only [Ty.name,Ty.off] at C
    obtain ⟨x0,x1,x2⟩:=Box.new wr u B n d p 29
    have HST:=hid hst
    have HK:=hid (hbel.trans (hka.mono hsz))
    clear hx hl hst hle hka hown hbel hsz y0 y1 y2
    go_wp2_with fail
    refine C.out.mono ?_
    rintro e w3 ⟨v3,rfl,ho3,hb3⟩
    have HO3:=hid ho3
    have HB3:=hid (HK.out.trans hb3)
    clear ho3 hb3 x0 x1 x2 a0 a1 a2 C
    go_wp2_with fail
    go_roundw
    case rel=>exact ⟨k+1,by omega,by go_num,by rw [HST.out];simpa only [List.append_assoc,List.cons_append] using HO3.out,HB3.out⟩
    case measure=>simp [intOf];omega
  have z1:(m:Int)≤k:=by omega
  have hjk:xs.take k=xs:=List.take_of_length_le (by omega)
  rw [hjk,←HD.out] at hown
  have HOO:=hid hown
  clear hown hbel hsz y0 y1 y2
  go_wp2_with fail
  go_ret
  exact ⟨_,rfl,HOO.out,HBL.out⟩
open Go.RowKit
attribute [local go_sem] Oper.semAt_some
structure SlB (n:Nat) (w:World) (A:Option Addr) (k:Nat) (ps:List ByteArray):Prop where
  len:ps.length=k
  at_:∀ j p,ps[j]?=some p→∃ a,A=some a∧a.block<n∧w.cell? (a.add j)=some (.string p)
theorem SlB.of {w:World} {A:Option Addr} {k:Nat} {ps:List ByteArray} (h:Sl w A k ps):SlB w.heap.size w A k ps:=⟨h.len,h.at_⟩
theorem SlB.wide {n n':Nat} {w:World} {A:Option Addr} {k:Nat} {ps:List ByteArray} (h:SlB n w A k ps) (hn:n≤n'):SlB n' w A k ps :=
  ⟨h.len,fun j p hj=>let ⟨a,e,h1,h2⟩:=h.at_ j p hj;⟨a,e,Nat.lt_of_lt_of_le h1 hn,h2⟩⟩
theorem SlB.later {n:Nat} {w w':World} {A:Option Addr} {k:Nat} {ps:List ByteArray} (h:SlB n w A k ps) (hb:Below n w w'):SlB n w' A k ps :=
  ⟨h.len,fun j p hj=>let ⟨a,e,h1,h2⟩:=h.at_ j p hj;⟨a,e,h1,(hb.cell (by rw [block_of_add];exact h1)).trans h2⟩⟩
theorem SlB.kept {n m:Nat} {w w':World} {A:Option Addr} {k:Nat} {ps:List ByteArray} (h:SlB n w A k ps) (hk:Keep n m w w'):SlB n w' A k ps :=
  ⟨h.len,fun j p hj=>let ⟨a,e,h1,h2⟩:=h.at_ j p hj;⟨a,e,h1,(hk.2 _ _ (.inl (by rw [block_of_add];exact h1)) h2).1⟩⟩
theorem take_snoc {ps:List ByteArray} {j:Nat} {s:ByteArray} (h:ps[j]?=some s):ps.take (j+1)=ps.take j++[s]:=by rw [List.take_add_one,h];rfl
theorem values_in (l n m d Bs:Nat) (ps:List ByteArray) (A:Option Addr) (k c:Nat) (J Jx:List ByteArray→World→Prop) (W:World) (hk:k≤1000000)
    (hY:∀ pre x V,J pre V→pre.length<ps.length→YieldAt Fence.wide (d-1) Tryz.prog l #[.string x] V fun e W' =>
      (e=.returned (.bool true)∧J (pre++[x]) W'∧Keep n m V W')∨(e=.returned (.bool false)∧Jx (pre++[x]) W'))
    (hB:W.cell? ⟨Bs,0,none⟩=some (.slice A k c)) (h:SlB n W A k ps) (h0:J [] W) :
    CallsIn Fence.wide d Tryz.prog 149 #[.func (.yield l) #[] #[],.pointer (some ⟨Bs,0,none⟩)] W fun e W'=>(∃ v,e=.returned v)∧((∃ ys,ys=ps∧J ys W')∨(∃ pre,pre <+: ps∧Jx pre W')):=by
  have hdd:∀ k:Nat,(Fence.wide.depth.isSome=true→1≤k):=fun k h=>by cases h
  have hkm:(k:Int)≤1000000:=by omega
  have hlen:=h.len
  have H:=hid h
  have HY:=hid hY
  have H0:=hid h0
  clear h hY h0
  refine callsIn_of_wp Tryz.func149 rfl trivial ?_ rfl
  simp only [Tryz.ntmps149,List.size_toArray,List.length_cons,List.length_nil,Nat.reduceAdd,Nat.reduceSub,Array.replicate_succ,Array.replicate_zero,List.push_toArray,List.append_toArray,List.nil_append,List.cons_append]
  gi_wp2
  gi_loopw [7] (fun i wr=>∃ j:Nat,j≤k∧i=.int .i64 j∧J (ps.take j) wr∧Keep n m W wr) (fun i _=>k-(intOf i).toNat)
  case atStart=>exact ⟨0,by omega,rfl,by simpa using H0.out,Keep.refl _ _ _⟩
  obtain ⟨j,hj,rfl,hjj,hkk⟩:=hrel
  have HKK:=hid hkk
  have y1:(0:Int)≤j:=by omega
  by_cases hlt:j<k
  · have y0:(j:Int)<k:=by omega
    obtain ⟨s,hs⟩:∃ s,ps[j]?=some s:=⟨_,List.getElem?_eq_getElem (by omega)⟩
    obtain ⟨a,rfl,_,a0⟩:=(H.out.kept hkk).at_ j s hs
    have hR:=HY.out _ s wr hjj (by rw [List.length_take];omega)
    rw [←take_snoc hs] at hR
    obtain ⟨fn,tmps,assign,body,hy,hR⟩:=hR
    have HR:=hid hR
    have HS:=hid hs
    clear hR hjj hkk hs
    gi_wp2_with (((try refine ⟨hdd _,?_⟩);refine HR.out.mono ?_;clear HR a0;rintro e W2 (⟨rfl,hJ2,hk2⟩ | ⟨rfl,hx2⟩);have HK2:=hid (HKK.out.trans hk2);have HJ2:=hid hJ2;clear hk2 hJ2))
    · go_roundw
      case rel=>exact ⟨j+1,by omega,by go_num,HJ2.out,HK2.out⟩
      case measure=>simp [intOf];omega
    refine bodyPost_ret (results_none rfl _ _ _) rfl ?_
    exact ⟨⟨_,rfl⟩,.inr ⟨_,List.take_prefix _ _,hx2⟩⟩
  have y0:(k:Int)≤j:=by omega
  have hjk:ps.take j=ps:=List.take_of_length_le (by omega)
  rw [hjk] at hjj
  have HJJ:=hid hjj
  clear hjj hkk
  gi_wp2
  go_end0
  exact ⟨⟨_,rfl⟩,.inl ⟨_,rfl,HJJ.out⟩⟩
theorem namesOk:NamesOk:=fun t A k c w hsm h=>by
  have hb:Below w.heap.size w (w.alloc (.cells #[.string t.name,.slice A k c,.int .i64 t.off] 29)):=(Below.refl _ _).alloc (Nat.le_refl _) _
  have HB:=hid hb
  obtain ⟨x0,x1,x2⟩:=Box.new w t.name A k c t.off 29
  have hl:=hsm.list
  have C:=hid (gather_any t A k c _ (.slice none 0 0) [] (w.alloc (.cells #[.string t.name,.slice A k c,.int .i64 t.off] 29)) (by simp;omega) (Nat.le_refl _) (World.ownsRow_nil _ _ _ _) (Here.later h hb))
  simp only [List.nil_append] at C
  clear hb h
  go_enter Tryz.func114,Tryz.ntmps114
  go_wp2_with fail
  refine C.out.mono ?_
  rintro e w1 ⟨v,rfl,hown,hb1⟩
  have HB1:=hid (HB.out.trans (hb1.mono HB.out.size))
  obtain ⟨A',c',rfl,hsl⟩:=sl_of_own rfl hown
  have HSL:=hid (SlB.of hsl)
  have hb2:Below w1.heap.size w1 (w1.alloc (.cells #[.slice A' t.list.length c'] 26)):=(Below.refl _ _).alloc (Nat.le_refl _) _
  have HB2:=hid (HB1.out.trans (hb2.mono HB1.out.size))
  have HC:=hid (show (w1.alloc (.cells #[.slice A' t.list.length c'] 26)).cell? ⟨w1.heap.size,0,none⟩=some (.slice A' t.list.length c') by rw [World.cell?_alloc_at _ _ _ _ rfl];rfl)
  have HSL2:=hid (HSL.out.later hb2)
  have HZ:=hid (show w1.heap.size<(w1.alloc (.cells #[.slice A' t.list.length c'] 26)).heap.size by simp)
  clear hown hb1 hsl hb2 x0 x1 x2 C HB1 HSL
  go_wp2
  go_ret
  generalize hW:w1.alloc (.cells #[.slice A' t.list.length c'] 26)=w' at *
  refine ⟨149,#[.pointer (some ⟨w1.heap.size,0,none⟩)],rfl,HB2.out,enters_of Tryz.func149 (by kernel_rfl) rfl,fun n w2 _ hb2 l J Jx W hWb hJ _ hY h0=>?_⟩
  have hbw:Below w'.heap.size w' W:=hb2.trans (hWb.mono hb2.size)
  exact values_in l w'.heap.size w2.heap.size n w1.heap.size t.list A' t.list.length c' J Jx W (by omega) hY ((hbw.cell (p:=⟨w1.heap.size,0,none⟩) HZ.out).trans HC.out) ((HSL2.out.wide (Nat.le_of_lt HZ.out)).later hbw) h0
open Go.RowKit
attribute [local go_sem] Oper.semAt_some
theorem right_res {w:World} {r:Addr} {b:Bool} (tmps:Array Value) (ht:tmps[2]?.getD undef=.pointer (some r)) (hc:w.cell? r=some (.bool b)) :
    (results Tryz.f80 tmps).run Tryz.prog w=.ok (.bool b) w:=by
  simp [results,Tryz.results80,ht,go_sem,hc]
theorem right_leave {w W:World} {k D:Nat} {v0:Value} {b:Bool} (tmps:Array Value) (ht:tmps[2]?.getD undef=.pointer (some ⟨k,0,none⟩)) (hb:Below w.heap.size w W) (hk:w.heap.size≤k) (hD:w.heap.size≤D)
    (hK:W.heap[D]?=some (.deferred (some []))) (h0:W.cell? ⟨k,0,none⟩=some v0) :
    bodyPostM Fence.wide 9 Tryz.prog Tryz.f80 (EqvPost w b) .ret { tmps,defers:=[{ target:=.collected D,args:=#[] }] } (W.setCell ⟨k,0,none⟩ (.bool b)):=by
  have hK2:(W.setCell ⟨k,0,none⟩ (.bool b)).heap[D]?=some (.deferred (some [])):=(KeepsOthers.setCell _ _ _).same D _ hK rfl
  have hc:(W.setCell ⟨k,0,none⟩ (.bool b)).cell? ⟨k,0,none⟩=some (.bool b):=World.cell?_setCell_same _ _ _ h0
  have hc2:=cell_kept hc (grownBy_putObj' _ D (.deferred none)) (fun r e=>by cases e;exact ⟨_,hK2,rfl⟩)
  refine ⟨by simp,.inl ⟨_,_,rfl,run_takeDeferred hK2,?_⟩⟩
  exact ⟨_,right_res tmps ht hc2,rfl,(hb.setCell (p:=⟨k,0,none⟩) hk _).trans (belowK_b (w:=w) (Nat.le_refl _) _ D _ _ hD hK2 rfl rfl)⟩
theorem right_leave2 {w W:World} {k D:Nat} {b:Bool} (tmps:Array Value) (ht:tmps[2]?.getD undef=.pointer (some ⟨k,0,none⟩)) (hb:Below w.heap.size w W) (hD:w.heap.size≤D)
    (hK:W.heap[D]?=some (.deferred (some []))) (h0:W.cell? ⟨k,0,none⟩=some (.bool b)) :
    bodyPostM Fence.wide 9 Tryz.prog Tryz.f80 (EqvPost w b) .ret { tmps,defers:=[{ target:=.collected D,args:=#[] }] } W:=by
  have hc2:=cell_kept h0 (grownBy_putObj' _ D (.deferred none)) (fun r e=>by cases e;exact ⟨_,hK,rfl⟩)
  refine ⟨by simp,.inl ⟨_,_,rfl,run_takeDeferred hK,?_⟩⟩
  exact ⟨_,right_res tmps ht hc2,rfl,hb.trans (belowK_b (w:=w) (Nat.le_refl _) _ D _ _ hD hK rfl rfl)⟩
theorem keepsOthers_below {W W':World} (h:Below W.heap.size W W'):KeepsOthers W W':=⟨h.size,fun k _ ho _=>(h.block k (Array.getElem?_eq_some_iff.1 ho).1).trans ho⟩
theorem isB_stop {l pre:List ByteArray} (hp:pre <+: l) (h:¬ ∀ s∈pre,Nm.isB s.data.toList=true):(l.all fun s=>Nm.isB s.data.toList)=false:=by
  rw [Bool.eq_false_iff]
  intro ha
  exact h fun s hs=>List.all_eq_true.1 ha s (hp.subset hs)
theorem right_any (t:Ty) (A:Option Addr) (m c:Nat) (w:World) (hE:ResVar w) (hsm:t.Small) (h:Here w A m t.args) :
    Calls Tryz.prog 80 #[.agg #[.string t.name,.slice A m c,.int .i64 t.off]] w (EqvPost w t.right):=by
  have hb:Below w.heap.size w ((w.alloc (.cells #[.string t.name,.slice A m c,.int .i64 t.off] 29)).alloc (.cells #[.bool false] 4)):=((Below.refl _ _).alloc (Nat.le_refl _) _).alloc (by simp) _
  have HB:=hid hb
  have HBx:=hid ((Box.new w t.name A m c t.off 29).later (w':=(w.alloc (.cells #[.string t.name,.slice A m c,.int .i64 t.off] 29)).alloc (.cells #[.bool false] 4)) ((Below.refl _ _).alloc (Nat.le_refl _) _))
  have HR:=hid (show ((w.alloc (.cells #[.string t.name,.slice A m c,.int .i64 t.off] 29)).alloc (.cells #[.bool false] 4)).heap[w.heap.size+1]?=some (.cells #[.bool false] 4) from heap_alloc_two _ _ _)
  have HH:=hid (Here.later h hb)
  have HE:=hid (hE.later hb)
  have HS:=hid hsm
  clear hb h hE
  refine (callsIn_wide (n:=9)).1 (callsIn_of_wp_marks Tryz.func80 rfl trivial ?_ rfl)
  simp only [Tryz.ntmps80,List.size_toArray,List.length_cons,List.length_nil,Nat.reduceAdd,Nat.reduceSub,Array.replicate_succ,Array.replicate_zero,List.push_toArray,List.append_toArray,List.nil_append,List.cons_append]
  refine wpIn_wide.2 ?_
  obtain ⟨x0,x1,x2⟩:=HBx.out
  go_wp2_with fail
  generalize hW:(w.alloc (.cells #[.string t.name,.slice A m c,.int .i64 t.off] 29)).alloc (.cells #[.bool false] 4)=W at *
  clear hW
  refine (namesOk t A m c _ HS.out HH.out).mono ?_
  rintro e w5 ⟨g,lb,rfl,hb,hent,hseq⟩
  clear x0 x1 x2
  have B5:=hid (HB.out.trans (hb.mono HB.out.size))
  have E5:=hid (HE.out.later hb)
  have R5:=hid ((hb.block _ (Array.getElem?_eq_some_iff.1 HR.out).1).trans HR.out)
  have HEN:=hid hent
  have HSQ:=hid hseq
  clear hb hent hseq HB HE HR HH HBx
  go_wp2_with fail
  refine (wpIn_wide (n:=9)).1 ?_
  refine wpIn_rangeFunc_ownF rfl (by omega) (gf:=g) (lb:=lb) rfl trivial HEN.out (HSQ.out 8 w5 (by omega) (Below.refl _ _)) (fun h k=>h.trans k) (fun W l o o' _ h hc _=>Keep.put W l o o' h hc) (Below.refl _ _) (fun _=>rfl)
    (fun pre W=>(∀ s∈pre,Nm.isB s.data.toList=true)∧Below w5.heap.size w5 W)
    (fun c pre W=>c=.ret∧(¬ ∀ s∈pre,Nm.isB s.data.toList=true)∧W.cell? ⟨w.heap.size+1,0,none⟩=some (.bool false)∧Below w.heap.size w W)
    (OwnFrom.and (fun s A B row hs hg hr=>hs) (ownFrom_below (Nat.le_refl _) (Nat.le_refl _)))
    (fun c s A B row hs hg hr=>⟨hs.1,hs.2.1,cell_kept hs.2.2.1 hg (fun r e=>(hr r e).2),ownFrom_below (β:=List ByteArray) (Nat.le_refl _) B5.out.size s A B row hs.2.2.2 hg hr⟩)
    ⟨(fun _ h=>by cases h),Below.refl _ _⟩ (fun x=>{ tmps:=#[.agg #[.string t.name,.slice A m c,.int .i64 t.off],.pointer (some ⟨w.heap.size,0,none⟩),.pointer (some ⟨w.heap.size+1,0,none⟩),.string x,.agg #[.string t.name,.slice A m c,.int .i64 t.off],
      .func (.func g) #[] lb,.string x,undef,undef,undef],defers:=[] }) ?assign ?body ?done ?stop
  case assign =>
    intro l x W K hK
    gi_wp2
    exact hK
  case body =>
    rintro l pre x Wr ⟨hpre,hbw⟩ hlen
    have hr:=(hbw.block _ (Array.getElem?_eq_some_iff.1 R5.out).1).trans R5.out
    have C:=hid (nm_is_any x Wr (E5.out.later hbw))
    have HP:=hid hpre
    have HBW:=hid hbw
    have HRR:=hid hr
    clear hpre hbw hlen hr
    have hdd:∀ k:Nat,(Fence.wide.depth.isSome=true→1≤k):=fun k h=>by cases h
    by_cases hx:Nm.isB x.data.toList=true
    · have q1:(!Nm.isB x.data.toList)=false:=by simp [hx]
      have HX:=hid hx
      clear hx
      gi_wp2_with (refine ⟨trivial,?_⟩;gi_at_call 32;refine (CallsIn.inRound l (callsIn_wide.2 C.out)).mono ?_;clear C;rintro e W2 ⟨rfl,hb2⟩;have HB2:=hid hb2;clear hb2)
      exact ⟨keepsOthers_below HB2.out,Keep.of_below HB2.out,fun s hs=>by
        rcases List.mem_append.1 hs with hs | hs
        · exact HP.out s hs
        rw [List.mem_singleton.1 hs];exact HX.out,HBW.out.trans (HB2.out.mono HBW.out.size)⟩
    have q1:(!Nm.isB x.data.toList)=true:=by simpa using hx
    have HX:=hid hx
    clear hx
    gi_wp2_with (refine ⟨trivial,?_⟩;gi_at_call 32;refine (CallsIn.inRound l (callsIn_wide.2 C.out)).mono ?_;clear C;rintro e W2 ⟨rfl,hb2⟩;have HB2:=hid hb2;have hr2:=(hb2.block _ (Array.getElem?_eq_some_iff.1 HRR.out).1).trans HRR.out;have r0:W2.cell? ⟨w.heap.size+1,0,none⟩=some (.bool false):=(by rw [cell_of_row _ _ 0 _ _ (0,0) hr2];rfl);have r1:W2.frozen? ⟨w.heap.size+1,0,none⟩=false:=frozen_of_row hr2 0;have HR2:=hid r0;clear hb2 hr2)
    exact ⟨(keepsOthers_below HB2.out).trans (KeepsOthers.setCell _ _ _),rfl,fun h=>HX.out (h x (by simp)),World.cell?_setCell_same _ _ _ HR2.out,
      (B5.out.trans ((HBW.out.trans (HB2.out.mono HBW.out.size)).mono B5.out.size)).setCell (p:=⟨w.heap.size+1,0,none⟩) (Nat.le_succ _) _⟩
  case done =>
    rintro D ys W hD rfl ⟨hpre,hbw⟩ hK
    have hr:=(hbw.block _ (Array.getElem?_eq_some_iff.1 R5.out).1).trans R5.out
    have r0:W.cell? ⟨w.heap.size+1,0,none⟩=some (.bool false):=by rw [cell_of_row _ _ 0 _ _ (0,0) hr];rfl
    have r1:W.frozen? ⟨w.heap.size+1,0,none⟩=false:=frozen_of_row hr 0
    have ht:t.right=true:=List.all_eq_true.2 hpre
    have HTR:=hid ht
    have HLV:=hid (fun tmps ht=>right_leave (w:=w) (W:=W) (k:=w.heap.size+1) (b:=true) tmps ht (B5.out.trans (hbw.mono B5.out.size)) (Nat.le_succ _) (Nat.le_trans B5.out.size hD) hK r0)
    clear hK hbw hD hpre hr ht
    go_wp2_with fail
    rw [HTR.out]
    exact HLV.out _ rfl
  case stop =>
    rintro D c pre W hD hpre ⟨rfl,hx,hc,hbw⟩ hK
    have ht:t.right=false:=isB_stop hpre hx
    have HTR:=hid ht
    have HLV:=hid (fun tmps ht=>right_leave2 (w:=w) (W:=W) (k:=w.heap.size+1) (b:=false) tmps ht hbw (Nat.le_trans B5.out.size hD) hK hc)
    clear hK hbw hD hpre hx hc ht
    refine wpIn_wide.2 ?_
    go_wp2_with fail
    rw [HTR.out]
    exact HLV.out _ rfl
