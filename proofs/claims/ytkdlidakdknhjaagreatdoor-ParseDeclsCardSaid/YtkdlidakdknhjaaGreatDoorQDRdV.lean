/- The walks of slices.Clone at tokens and of read.New. The condition: tokens of a text.
The walks of read.whole at types and expressions, and of read.Type and read.Expr: they give what the plain words say of the text. The condition: the text has at most 40000 bytes.
The walks of the helper told of layer 7's laws, and of their look at fixed examples. The conditions: the table of words, the variable of package errors. -/
import Derived.Test.YtkdlidakdknhjaaGreatDoorQDLxF
import Derived.Test.YtkdlidakdknhjaaGreatDoorQDRdS
import Derived.Deep.DeepCutAuto
import Derived.Lib.IndexAny
import Derived.WalkMore
set_option maxRecDepth 100000
set_option maxHeartbeats 1000000
open Go.Lib (hid)
namespace Go.Proofs.YtkdlidakdknhjaaGreatDoor.Rd
open Go.RowKit
theorem cells_of (w:World):∀ (ts:List Tk) (a:Addr),(∀ j t,ts[j]?=some t→CellsAt w (a.add (j*3)) (cells3 t))→CellsAt w a (ts.flatMap cells3)
  | [],a,h=>fun j u hu=>by simp at hu
  | t :: r,a,h=>fun j u hu=>by
    rw [List.flatMap_cons] at hu
    have hl:(cells3 t).length=3:=rfl
    by_cases hj:j<3
    · rw [List.getElem?_append_left (by omega)] at hu
      have:=h 0 t rfl j u hu
      rwa [Nat.zero_mul,add_add,Nat.zero_add] at this
    rw [List.getElem?_append_right (by omega),hl] at hu
    have h2:=cells_of w r (a.add 3) (fun i x hx=>by
      have:=h (i+1) x (by simpa using hx)
      rwa [add_add,show 3+i*3=(i+1)*3 by omega]) (j-3) u hu
    rwa [add_add,show 3+(j-3)=j by omega] at h2
theorem ts_cells {w:World} {a:Addr} {n:Nat} {ts:List Tk} (h:TS w (some a) n ts):CellsAt w a (ts.flatMap cells3):=by
  refine cells_of w ts a fun j t hj=>?_
  obtain ⟨b,e,h1,h2,h3,h4⟩:=h.at_ j t hj
  injection e with e
  subst e
  have hs:∀ i,∃ p:Addr,p=(a.add (j*3)).add i:=fun i=>⟨_,rfl⟩
  intro i u hu
  match i,hu with
  | 0,hu=>simp only [cells3,List.getElem?_cons_zero,Option.some.injEq] at hu;subst hu;simpa [Addr.add] using h2
  | 1,hu=>simp only [cells3,List.getElem?_cons_succ,List.getElem?_cons_zero,Option.some.injEq] at hu;subst hu;simpa [Addr.add] using h3
  | 2,hu=>simp only [cells3,List.getElem?_cons_succ,List.getElem?_cons_zero,Option.some.injEq] at hu;subst hu;simpa [Addr.add] using h4
  | i+3,hu=>simp [cells3] at hu
theorem cells3_len:∀ ts:List Tk,(ts.flatMap cells3).length=ts.length*3
  | []=>rfl
  | t :: r=>by rw [List.flatMap_cons,List.length_append,cells3_len r,List.length_cons,Nat.add_mul];show 3+_=_;omega
theorem cells3_one {ts:List Tk}:∀ u∈ts.flatMap cells3,u.oneCell'=true:=by
  intro u hu
  rw [List.mem_flatMap] at hu
  obtain ⟨t,_,hu⟩:=hu
  simp only [cells3,List.mem_cons,List.not_mem_nil,or_false] at hu
  rcases hu with rfl | rfl | rfl<;>rfl
theorem infoTk:(Tryz.prog.info? 150).map (fun i=>(i.zero,i.size,i.bytes))=some (some (.agg #[.int .i64 0,.string ⟨#[]⟩,.int .i64 0]),3,32):=by kernel_rfl
def ClonePost (w:World) (l:List Tk) (e:Ending) (w':World):Prop:=∃ A cap,e=.returned (.slice A l.length cap)∧l.length≤cap∧TS w' A l.length l∧Below w.heap.size w w'
theorem cloneTk_any (A:Option Addr) (n cap:Nat) (l:List Tk) (w:World) (hl:l≠[]) (hn:n≤100000) (h:TS w A n l):Calls Tryz.prog 89 #[.slice A n cap] w (ClonePost w l):=by
  obtain rfl:=h.len
  cases l with
  | nil=>exact absurd rfl hl
  | cons t r =>
    obtain ⟨a,rfl,-⟩:=h.at_ 0 t rfl
    have HC:=hid (ts_cells h)
    obtain ⟨q,hq⟩:∃ q,q=(t :: r).length:=⟨_,rfl⟩
    rw [←hq] at hn ⊢
    have HQ:=hid hq
    clear h hl hq
    obtain ⟨i0,hi0,hz0,hz1,hz2⟩:=info_parts infoTk
    have en:=fun w=>Lib.run_eql_slice_nil (P:=Tryz.prog) w 96 150 (some a) q cap 0 0 Tryz.underlying96
    have hq1:1≤q:=by rw [HQ.out];simp
    have hsn:(Option.isNone (some a))=false:=rfl
    have HOWN:=hid (World.ownsRow_lit (base:=w.heap.size) (e:=150) (size:=3) w #[] 0 (Nat.le_refl _) (Nat.zero_le _) rfl)
    have HC1:=hid (show ∀ j u,((t :: r).flatMap cells3)[j]?=some u→(w.alloc (.cells #[] 150)).cell? (a.add j)=some u from fun j u hu=>by
      have h1:=HC.out j u hu
      exact (((Below.refl w.heap.size w).alloc (Nat.le_refl _) _).cell (cell_lt h1)).trans h1)
    have HL:=hid (show ((t :: r).flatMap cells3).length=q*3 by rw [cells3_len,←HQ.out])
    go_enter Tryz.func89,Tryz.ntmps89
    go_wp2_with (at_builtin;refine wpList_append_lies _ rfl _ _ 96 rfl w.heap.size 150 i0 _ 3 32 Tryz.underlying96 hi0 hz0 hz1 hz2 rfl (by omega) _ 0 _ rfl HOWN.out a q cap ((t :: r).flatMap cells3) rfl HL.out HC1.out cells3_one (by omega) (by unfold maxLen;omega) (by omega) (by simp) _ rfl ?_;intro g cap2 w2 hown2 hgrow2 hat2 hlt2;have HO:=hid (And.intro hown2 hgrow2);clear hown2 hgrow2 hat2 hlt2)
    go_ret
    have hown:w2.ownsRow w.heap.size 150 3 (.slice (some ⟨g,0,none⟩) q cap2) q ((t :: r).flatMap cells3):=by
      have:=HO.out.1
      rwa [Nat.zero_add] at this
    obtain ⟨A2,c2,e2,ht⟩:=ts_of_own HQ.out.symm hown
    simp only [Value.slice.injEq] at e2
    obtain ⟨rfl,-,rfl⟩:=e2
    refine ⟨some ⟨g,0,none⟩,cap2,by rw [←HQ.out];rfl,?_,by rw [←HQ.out];exact ht,?_⟩
    · rw [←HQ.out]
      rcases hown.2 with ⟨h1,_⟩ | ⟨g2,cp,cur,h1,_,_,h2,_⟩
      · cases h1
      simp only [Value.slice.injEq] at h1
      omega
    exact Below.grown ((Below.refl _ _).alloc (Nat.le_refl _) _) HO.out.2 (by simp) fun k hk=>by
      have hk2:some w.heap.size=some k:=hk
      injection hk2 with hk2
      omega
def NewPost (w:World) (l:List Tk) (e:Ending) (w':World):Prop:=∃ c,e=.returned (.pointer (some ⟨c,0,none⟩))∧w.heap.size≤c∧Cur w' c l false∧Below w.heap.size w w'
theorem new_cursor (A:Option Addr) (n cap:Nat) (l:List Tk) (w:World) (hT:Tidy l) (hl:l.length≤100000) (hs:∀ t∈l,t.s.size≤100000) (hE:ResVar w) (h:TS w A n l):Calls Tryz.prog 46 #[.slice A n cap] w (NewPost w l):=by
  have HT:=hid hT
  have HL:=hid hl
  have HS:=hid hs
  have HE:=hid hE
  have hn:=h.len
  have C:=hid (cloneTk_any A n cap l w hT.ne (by omega) h)
  clear hT hl hs hE hn h
  go_enter Tryz.func46,Tryz.ntmps46
  go_wp2_with fail
  refine C.out.mono ?_
  rintro e w1 ⟨B,c2,rfl,hc,ht,hb⟩
  have HCP:=hid hc
  have H1:=hid ht
  have B1:=hid hb
  clear hc ht hb
  go_wp2_with fail
  go_ret
  refine ⟨w1.heap.size,rfl,B1.out.size,⟨HT.out,⟨B,c2,?_,HCP.out,H1.out.later ((Below.refl _ _).alloc (Nat.le_refl _) _),?_⟩,?_,?_,HL.out,HS.out,?_,?_⟩,B1.out.alloc B1.out.size _⟩
  · rw [World.cell?_alloc_at _ _ _ _ rfl];rfl
  · rintro a rfl
    obtain ⟨t,r,e⟩:∃ t r,l=t :: r:=by
      cases l with
      | nil=>exact absurd rfl HT.out.ne
      | cons t r=>exact ⟨t,r,rfl⟩
    obtain ⟨b,e2,h2,-⟩:=H1.out.at_ 0 t (by rw [e];rfl)
    injection e2 with e2
    subst e2
    exact h2
  · rw [World.cell?_alloc_at _ _ _ _ rfl];rfl
  · exact ⟨frozen_of_row (heap_alloc_new _ _) _,frozen_of_row (heap_alloc_new _ _) _⟩
  · exact HE.out.later (B1.out.alloc B1.out.size _)
  exact Nat.lt_of_lt_of_le (var_lt gRes HE.out) B1.out.size
open Go.RowKit
theorem sgn_isB {c:UInt8} (h:Lx.sgn c=true):Nm.isB [c]=false:=by
  rw [Lx.sgn,List.any_eq_true] at h
  obtain ⟨x,hx,e⟩:=h
  have e2:x=c:=by simpa using e
  subst e2
  revert x
  decide
theorem wide_len:∀ ts:List Lx.Tok,ts.length≤Lx.wide ts∧∀ t∈ts,t.text.length≤Lx.wide ts
  | []=>⟨Nat.zero_le _,fun _ h=>by cases h⟩
  | t :: r=>by
    obtain ⟨h1,h2⟩:=wide_len r
    refine ⟨by simp only [List.length_cons,Lx.wide];omega,fun x hx=>?_⟩
    rcases List.mem_cons.1 hx with rfl | hx
    · simp only [Lx.wide];omega
    have:=h2 x hx;simp only [Lx.wide];omega
theorem full_ok {s:ByteArray} {ts:List Lx.Tok} (hl:left s 0=.ok ts) (hs:s.size≤40000):Tidy (full ts s.size)∧(full ts s.size).length≤100000∧∀ t∈full ts s.size,t.s.size≤100000:=by
  have hl2:Lx.lex s.data.toList 0=.ok ts:=by unfold left at hl;rwa [List.drop_zero] at hl
  obtain ⟨hr,hw⟩:=Lx.lex_right hl2
  have hsz:s.data.toList.length=s.size:=(Lib.size_eq s).symm
  obtain ⟨h1,h2⟩:=wide_len ts
  have htk:∀ t:Lx.Tok,(tk t).s.size=t.text.length:=fun t=>by rw [Lib.size_eq];simp [tk]
  refine ⟨⟨ts.map tk,⟨3,⟨#[]⟩,s.size⟩,rfl,rfl,rfl,fun t ht=>?_⟩,by simp only [full,List.length_append,List.length_map,List.length_cons,List.length_nil];omega,fun t ht=>?_⟩
  · rw [List.mem_map] at ht
    obtain ⟨x,hx,rfl⟩:=ht
    rcases hr x hx with ⟨h,_⟩ | ⟨h,c,h3,h4⟩
    · exact .inl h
    refine .inr ⟨h,?_⟩
    show Nm.isB x.text.toArray.toList=false
    rw [List.toList_toArray,h3]
    exact sgn_isB h4
  rw [full,List.mem_append,List.mem_map,List.mem_singleton] at ht
  rcases ht with ⟨x,hx,rfl⟩ | rfl
  · rw [htk];have:=h2 x hx;omega
  show (0:Nat)≤_;omega
inductive Out (α:Type) where
  | good (v:α)
  | err (c o:Int)
def Out.val {α:Type} (z:α):Out α→α
  | .good v=>v
  | .err _ _=>z
def Out.errV {α:Type}:Out α→Value
  | .good _=>.nilIface
  | .err c o=>faultV c o
def kind (l:List Tk):Int:=(l.headD ⟨3,⟨#[]⟩,0⟩).k
def endO {α:Type}:Got α→Out α
  | .ok v q=>if kind q=3 then .good v else .err 2 (off q)
  | .bad q=>.err 2 (off q)
def wholeO {α:Type} (f:List Tk→Got α) (s:ByteArray):Out α:=match left s 0 with
  | .bad i=>.err 1 i
  | .ok ts=>endO (f (full ts s.size))
theorem ty3_one {s:ByteArray} {A:Option Addr} {n c:Nat} {i:Int}:∀ u∈([.string s,.slice A n c,.int .i64 i]:List Value),u.oneCell'=true:=by
  intro u hu
  simp only [List.mem_cons,List.not_mem_nil,or_false] at hu
  rcases hu with rfl | rfl | rfl<;>rfl
theorem faultV_ne (c o:Int):faultV c o≠.nilIface:=fun h=>by rw [faultV] at h;cases h
theorem aft_end {α:Type} {w:World} {c:Nat} {v:α} {g:Got α} (h:Aft w c v g):∃ q b,Cur w c q b∧∀ z,(endV b q=.nilIface→(endO g).errV=.nilIface∧(endO g).val z=v)∧(endV b q≠.nilIface→∃ o,endV b q=faultV 2 o∧(endO g).errV=faultV 2 o∧(endO g).val z=z):=by
  cases g with
  | ok u q =>
    obtain ⟨rfl,hc⟩:=h
    refine ⟨q,false,hc,fun z=>?_⟩
    by_cases hk:kind q=3
    · have e:endV false q=.nilIface:=by
        have hk2:(q.headD ⟨3,⟨#[]⟩,0⟩).k=3:=hk
        rw [endV,hk2];rfl
      exact ⟨fun _=>by rw [endO,if_pos hk];exact ⟨rfl,rfl⟩,fun h=>absurd e h⟩
    have e:endV false q=faultV 2 (off q):=by
      have hk2:((q.headD ⟨3,⟨#[]⟩,0⟩).k != 3)=true:=by rw [bne_iff_ne];exact hk
      rw [endV,hk2];rfl
    exact ⟨fun h=>absurd (e.symm.trans h) (faultV_ne _ _),fun _=>⟨_,e,by rw [endO,if_neg hk];exact ⟨rfl,rfl⟩⟩⟩
  | bad q =>
    have e:endV true q=faultV 2 (off q):=by rw [endV,Bool.true_or];rfl
    exact ⟨q,true,h,fun z=>⟨fun h=>absurd (e.symm.trans h) (faultV_ne _ _),fun _=>⟨_,e,rfl,rfl⟩⟩⟩
open Go.RowKit
def Out.code {α:Type}:Out α→Int
  | .good _=>0
  | .err c _=>c
def Out.at {α:Type}:Out α→Int
  | .good _=>0
  | .err _ o=>o
def BoolPost (b:Bool) (w:World) (e:Ending) (w':World):Prop:=e=.returned (.bool b)∧Below w.heap.size w w'
theorem wholeO_code {α:Type} (f:List Tk→Got α) (s:ByteArray) (c a:Int) (h:wholeO f s=.err c a):c=1∨c=2:=by
  unfold wholeO at h
  split at h
  · injection h with h1 h2
    exact .inl h1.symm
  unfold endO at h
  split at h
  · split at h
    · cases h
    injection h with h1 h2
    exact .inr h1.symm
  injection h with h1 h2
  exact .inr h1.symm
