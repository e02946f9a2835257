/- The walks of the reference's Count, Few, FewAll, Compare and Equal of types.
The walks of the reference's Text, Depth, List and Right of types. -/
import Derived.Test.YtkdlidakdknhjaaGreatDoorQDNmR
import Derived.Outline
import Derived.WalkSpells
import Derived.WalkLawsBesides
import Derived.Deep.QuietTactic
import Derived.BigQuiet
import Derived.Deep.RegionHeld3
import Derived.Lib.SmallJoins
set_option maxRecDepth 100000
set_option maxHeartbeats 4000000
open Go.Lib (hid)
namespace Go.Proofs.YtkdlidakdknhjaaGreatDoor
open Go.RowKit
def Ty.few (t:Ty):Bool:=decide (t.cnt 0≤200)
open Go.RowKit
theorem cmpL_on {xs ys:List Ty} {k:Nat} {x y:Ty} (hx:xs[k]?=some x) (hy:ys[k]?=some y):Ty.cmpL (xs.drop k) (ys.drop k)=if Ty.cmp x y=0 then Ty.cmpL (xs.drop (k+1)) (ys.drop (k+1)) else Ty.cmp x y:=by
  obtain ⟨h1,e1⟩:=List.getElem?_eq_some_iff.1 hx
  obtain ⟨h2,e2⟩:=List.getElem?_eq_some_iff.1 hy
  rw [List.drop_eq_getElem_cons h1,List.drop_eq_getElem_cons h2,e1,e2,Ty.cmpL]
theorem cmpL_off {xs ys:List Ty} {k:Nat} (h:k=xs.length∧k≤ys.length∨k=ys.length∧k≤xs.length):Ty.cmpL (xs.drop k) (ys.drop k)=if xs.length<ys.length then -1 else if ys.length<xs.length then 1 else 0:=by
  rcases h with ⟨rfl,h⟩ | ⟨rfl,h⟩
  · rw [List.drop_length]
    cases e:ys.drop xs.length with
    | nil =>
      have:=List.drop_eq_nil_iff.1 e
      rw [Ty.cmpL,if_neg (by omega),if_neg (by omega)]
    | cons y r =>
      have:xs.length<ys.length:=by
        rcases Nat.lt_or_ge xs.length ys.length with h1 | h1
        · exact h1
        rw [List.drop_eq_nil_of_le h1] at e;cases e
      rw [Ty.cmpL,if_pos this]
  rw [List.drop_length]
  cases e:xs.drop ys.length with
  | nil =>
    have:=List.drop_eq_nil_iff.1 e
    rw [Ty.cmpL,if_neg (by omega),if_neg (by omega)]
  | cons y r =>
    have:ys.length<xs.length:=by
      rcases Nat.lt_or_ge ys.length xs.length with h1 | h1
      · exact h1
      rw [List.drop_eq_nil_of_le h1] at e;cases e
    rw [Ty.cmpL,if_neg (by omega),if_pos this]
def CmpPost (w:World) (c:Int) (e:Ending) (w':World):Prop:=e=.returned (.int .i64 c)∧Below w.heap.size w w'
theorem ref_cmp_any:∀ (t u:Ty) (A B:Option Addr) (m l c d:Nat) (w:World),t.name.size≤9223372036854775807→u.name.size≤9223372036854775807→Here w A m t.args→Here w B l u.args →
    Calls Tryz.prog 104 #[.agg #[.string t.name,.slice A m c,.int .i64 t.off],.agg #[.string u.name,.slice B l d,.int .i64 u.off]] w (CmpPost w (t.cmp u)):=by
  refine Ty.ind fun s xs o ih u A B m l c d w hs hu h1 h2=>?_
  obtain ⟨r,ys,p⟩:=u
  simp only [Ty.name,Ty.args,Ty.off] at hs hu h1 h2 ⊢
  have hb:Below w.heap.size w ((w.alloc (.cells #[.string s,.slice A m c,.int .i64 o] 29)).alloc (.cells #[.string r,.slice B l d,.int .i64 p] 29)):=((Below.refl _ _).alloc (Nat.le_refl _) _).alloc (by simp) _
  have hb1:Below (w.alloc (.cells #[.string s,.slice A m c,.int .i64 o] 29)).heap.size (w.alloc (.cells #[.string s,.slice A m c,.int .i64 o] 29)) ((w.alloc (.cells #[.string s,.slice A m c,.int .i64 o] 29)).alloc (.cells #[.string r,.slice B l d,.int .i64 p] 29)):=(Below.refl _ _).alloc (Nat.le_refl _) _
  have IH:=hid ih
  have H1:=hid (Here.later h1 hb)
  have H2:=hid (Here.later h2 hb)
  have HX:=hid ((Box.new w s A m c o 29).later hb1)
  have hy:=Box.new (w.alloc (.cells #[.string s,.slice A m c,.int .i64 o] 29)) r B l d p 29
  rw [show (w.alloc (.cells #[.string s,.slice A m c,.int .i64 o] 29)).heap.size=w.heap.size+1 by simp] at hy
  have HY:=hid hy
  have HB:=hid hb
  have hm:(m:Int)≤9223372036854775807:=by have:=h1.le;omega
  have hl:(l:Int)≤9223372036854775807:=by have:=h2.le;omega
  clear ih h1 h2 hb hb1 hy
  by_cases hsr:s.data.toList=r.data.toList
  · have HC:=hid (show Ty.cmp (.mk s xs o) (.mk r ys p)=Ty.cmpL (xs.drop 0) (ys.drop 0) by rw [List.drop_zero,List.drop_zero,Ty.cmp,if_pos hsr])
    have e1:(s.toList==r.toList)=true:=by rw [Lib.toList_data,Lib.toList_data];simp [hsr]
    have e2:(s.toList != r.toList)=false:=by rw [Lib.toList_data,Lib.toList_data];simp [hsr]
    clear hsr
    go_enter Tryz.func104,Tryz.ntmps104
    go_wp2_with fail
    generalize hW:(w.alloc (.cells #[.string s,.slice A m c,.int .i64 o] 29)).alloc (.cells #[.string r,.slice B l d,.int .i64 p] 29)=W at *
    clear hW
    go_loopw [5] (fun i wr=>∃ k:Nat,k≤m∧k≤l∧i=.int .i64 k∧Ty.cmp (.mk s xs o) (.mk r ys p)=Ty.cmpL (xs.drop k) (ys.drop k)∧Below W.heap.size W wr) (fun i _=>m-(intOf i).toNat)
    case atStart=>exact ⟨0,by omega,by omega,rfl,HC.out,Below.refl _ _⟩
    obtain ⟨k,hk,hk2,rfl,hc,hbel⟩:=hrel
    obtain ⟨x0,x1,x2⟩:=HX.out.later hbel
    obtain ⟨y0,y1,y2⟩:=HY.out.later hbel
    have HBL:=hid hbel
    have HQ:=hid hc
    clear hc
    by_cases hlt:k<m∧k<l
    · obtain ⟨hlt1,hlt2⟩:=hlt
      have z0:(0:Int)≤k:=by omega
      have z1:(k:Int)<m:=by omega
      have z2:(k:Int)<l:=by omega
      obtain ⟨a,s2,as2,o2,A2,m2,c2,rfl,hx,_,a0,a1,a2,hs2,hl2⟩:=(H1.out.later hbel).get hlt1
      obtain ⟨b,r2,bs2,p2,B2,l2,d2,rfl,hy,_,b0,b1,b2,hr2,hl3⟩:=(H2.out.later hbel).get hlt2
      have C:=hid (fun (V:World) (hV:Below wr.heap.size wr V)=>(IH.out _ (List.mem_of_getElem? hx) (.mk r2 bs2 p2) A2 B2 m2 l2 c2 d2 V hs2 hr2 (Here.later hl2 hV) (Here.later hl3 hV)).mono fun e w' (h:_∧_)=>(⟨h.1,hV.trans (h.2.mono hV.size)⟩:_∧Below wr.heap.size wr w'))
      have HS:=hid (HQ.out.trans (cmpL_on hx hy))
      simp only [Ty.name,Ty.off] at C
      clear hx hy hl2 hl3 hbel HQ
      have k0:=cell_lt a0
      have k1:=cell_lt b0
      rw [block_of_add] at k0 k1
      have k2:=cell_lt x1
      have k3:=cell_lt y1
      have SS:Below wr.heap.size wr wr∧wr.cell? ⟨w.heap.size,1,none⟩=some (.slice (some a) m c)∧wr.cell? ⟨w.heap.size+1,1,none⟩=some (.slice (some b) l d)∧wr.cell? (a.add (k*3))=some (.string s2)
        ∧ wr.cell? ⟨(a.add (k*3)).block,(a.add (k*3)).off+1,none⟩=some (.slice A2 m2 c2)∧wr.cell? ⟨(a.add (k*3)).block,(a.add (k*3)).off+2,none⟩=some (.int .i64 o2)∧wr.cell? (b.add (k*3))=some (.string r2)
        ∧ wr.cell? ⟨(b.add (k*3)).block,(b.add (k*3)).off+1,none⟩=some (.slice B2 l2 d2)∧wr.cell? ⟨(b.add (k*3)).block,(b.add (k*3)).off+2,none⟩=some (.int .i64 p2):=⟨Below.refl _ _,x1,y1,a0,a1,a2,b0,b1,b2⟩
      go_wp2_with fail
      go_region_held3 (fun V=>Below wr.heap.size wr V∧V.cell? ⟨w.heap.size,1,none⟩=some (.slice (some a) m c)∧V.cell? ⟨w.heap.size+1,1,none⟩=some (.slice (some b) l d)∧V.cell? (a.add (k*3))=some (.string s2)
        ∧ V.cell? ⟨(a.add (k*3)).block,(a.add (k*3)).off+1,none⟩=some (.slice A2 m2 c2)∧V.cell? ⟨(a.add (k*3)).block,(a.add (k*3)).off+2,none⟩=some (.int .i64 o2)∧V.cell? (b.add (k*3))=some (.string r2)
        ∧ V.cell? ⟨(b.add (k*3)).block,(b.add (k*3)).off+1,none⟩=some (.slice B2 l2 d2)∧V.cell? ⟨(b.add (k*3)).block,(b.add (k*3)).off+2,none⟩=some (.int .i64 p2))
        (first | exact SS | exact ⟨SS.1.drew,SS.2⟩)
        (first
          | (go_at_call 104;refine (C.out _ ?_).mono ?_;(first | exact SS.1 | exact SS.1.drew);rintro e w1 ⟨rfl,hb1⟩;have SS:Below wr.heap.size wr w1∧w1.cell? ⟨w.heap.size,1,none⟩=some (.slice (some a) m c)∧w1.cell? ⟨w.heap.size+1,1,none⟩=some (.slice (some b) l d)∧w1.cell? (a.add (k*3))=some (.string s2)
        ∧ w1.cell? ⟨(a.add (k*3)).block,(a.add (k*3)).off+1,none⟩=some (.slice A2 m2 c2)∧w1.cell? ⟨(a.add (k*3)).block,(a.add (k*3)).off+2,none⟩=some (.int .i64 o2)∧w1.cell? (b.add (k*3))=some (.string r2)
        ∧ w1.cell? ⟨(b.add (k*3)).block,(b.add (k*3)).off+1,none⟩=some (.slice B2 l2 d2)∧w1.cell? ⟨(b.add (k*3)).block,(b.add (k*3)).off+2,none⟩=some (.int .i64 p2):=⟨hb1,(hb1.cell k2).trans x1,(hb1.cell k3).trans y1,(hb1.cell (by rw [block_of_add];exact k0)).trans a0,(hb1.cell (p:=⟨(a.add (k*3)).block,_,none⟩) (by rw [block_of_add];exact k0)).trans a1,(hb1.cell (p:=⟨(a.add (k*3)).block,_,none⟩) (by rw [block_of_add];exact k0)).trans a2,(hb1.cell (by rw [block_of_add];exact k1)).trans b0,(hb1.cell (p:=⟨(b.add (k*3)).block,_,none⟩) (by rw [block_of_add];exact k1)).trans b1,(hb1.cell (p:=⟨(b.add (k*3)).block,_,none⟩) (by rw [block_of_add];exact k1)).trans b2⟩;clear hb1))
      have HB1:=hid (HBL.out.trans (SS.1.mono HBL.out.size))
      clear SS
      by_cases hz:Ty.cmp (.mk s2 as2 o2) (.mk r2 bs2 p2)=0
      · have HS2:=hid (HS.out.trans (if_pos hz))
        have q1:(Ty.cmp (.mk s2 as2 o2) (.mk r2 bs2 p2) != 0)=false:=by simp [hz]
        have q2:(Ty.cmp (.mk s2 as2 o2) (.mk r2 bs2 p2)==0)=true:=by simp [hz]
        clear hz
        go_wp2
        go_roundw
        case rel=>exact ⟨k+1,by omega,by omega,by go_num,HS2.out,HB1.out⟩
        case measure=>simp [intOf];omega
      have HS2:=hid (HS.out.trans (if_neg hz))
      have q1:(Ty.cmp (.mk s2 as2 o2) (.mk r2 bs2 p2) != 0)=true:=by simp [hz]
      have q2:(Ty.cmp (.mk s2 as2 o2) (.mk r2 bs2 p2)==0)=false:=by simp [hz]
      clear hz
      go_wp2
      go_ret
      exact ⟨ret_int (by rw [HS2.out]),HB.out.trans (HB1.out.mono HB.out.size)⟩
    have hq:=HQ.out.trans (cmpL_off (by rw [H1.out.len,H2.out.len];omega))
    rw [H1.out.len,H2.out.len] at hq
    have HQ2:=hid hq
    clear hq hbel
    by_cases h3:m<l
    · have q1:(m:Int)<l:=by omega
      by_cases h4:k<m
      · omega
      have q2:(m:Int)≤k:=by omega
      go_wp2_with fail
      go_ret
      exact ⟨ret_int (by rw [HQ2.out,if_pos h3]),HB.out.trans (HBL.out.mono HB.out.size)⟩
    by_cases h4:l<m
    · have q1:(l:Int)<m:=by omega
      have q2:(l:Int)≤k:=by omega
      have q3:(k:Int)<m:=by omega
      go_wp2_with fail
      go_ret
      exact ⟨ret_int (by rw [HQ2.out,if_neg h3,if_pos h4]),HB.out.trans (HBL.out.mono HB.out.size)⟩
    have q1:(m:Int)≤k:=by omega
    have hml:l=m:=by omega
    have e3:((m:Int)<(l:Int))=False:=by simp;omega
    have e4:((l:Int)<(m:Int))=False:=by simp;omega
    clear hml
    go_wp2_with fail
    go_ret
    exact ⟨ret_int (by rw [HQ2.out,if_neg h3,if_neg h4]),HB.out.trans (HBL.out.mono HB.out.size)⟩
  have HC:=hid (show Ty.cmp (.mk s xs o) (.mk r ys p)=Lib.compareBytes s.data.toList r.data.toList by rw [Ty.cmp,if_neg hsr])
  have e1:(s.toList==r.toList)=false:=by rw [Lib.toList_data,Lib.toList_data];simpa using hsr
  have e2:(s.toList != r.toList)=true:=by rw [Lib.toList_data,Lib.toList_data];simpa using hsr
  clear hsr
  go_enter Tryz.func104,Tryz.ntmps104
  go_wp2_with fail
  refine (nm_ref_compare_any s r hs hu _).mono ?_
  rintro e w1 ⟨rfl,hw⟩
  have HW:=hid hw
  clear hw
  go_wp2_with fail
  go_ret
  exact ⟨ret_int (by rw [HC.out]),HB.out.trans (HW.out.mono HB.out.size)⟩
open Go.RowKit
theorem eqvL_len:∀ {xs ys:List Ty},xs.length≠ys.length→Ty.eqvL xs ys=false
  | [],[],h=>absurd rfl h
  | [],_ :: _,_=>by simp only [Ty.eqvL]
  | _ :: _,[],_=>by simp only [Ty.eqvL]
  | x :: xs,y :: ys,h=>by
    rw [Ty.eqvL,eqvL_len (xs:=xs) (ys:=ys) (by simp at h;omega),Bool.and_false]
theorem eqvL_on {xs ys:List Ty} {k:Nat} {x y:Ty} (hx:xs[k]?=some x) (hy:ys[k]?=some y):Ty.eqvL (xs.drop k) (ys.drop k)=(Ty.eqv x y&&Ty.eqvL (xs.drop (k+1)) (ys.drop (k+1))):=by
  obtain ⟨h1,e1⟩:=List.getElem?_eq_some_iff.1 hx
  obtain ⟨h2,e2⟩:=List.getElem?_eq_some_iff.1 hy
  rw [List.drop_eq_getElem_cons h1,List.drop_eq_getElem_cons h2,e1,e2,Ty.eqvL]
def EqvPost (w:World) (c:Bool) (e:Ending) (w':World):Prop:=e=.returned (.bool c)∧Below w.heap.size w w'
theorem ref_equal_any:∀ (t u:Ty) (A B:Option Addr) (m l c d:Nat) (w:World),t.name.size≤9223372036854775807→u.name.size≤9223372036854775807→Here w A m t.args→Here w B l u.args →
    Calls Tryz.prog 59 #[.agg #[.string t.name,.slice A m c,.int .i64 t.off],.agg #[.string u.name,.slice B l d,.int .i64 u.off]] w (EqvPost w (t.eqv u)):=by
  refine Ty.ind fun s xs o ih u A B m l c d w hs hu h1 h2=>?_
  obtain ⟨r,ys,p⟩:=u
  simp only [Ty.name,Ty.args,Ty.off] at hs hu h1 h2 ⊢
  have hb:Below w.heap.size w ((w.alloc (.cells #[.string s,.slice A m c,.int .i64 o] 29)).alloc (.cells #[.string r,.slice B l d,.int .i64 p] 29)):=((Below.refl _ _).alloc (Nat.le_refl _) _).alloc (by simp) _
  have hb1:Below (w.alloc (.cells #[.string s,.slice A m c,.int .i64 o] 29)).heap.size (w.alloc (.cells #[.string s,.slice A m c,.int .i64 o] 29)) ((w.alloc (.cells #[.string s,.slice A m c,.int .i64 o] 29)).alloc (.cells #[.string r,.slice B l d,.int .i64 p] 29)):=(Below.refl _ _).alloc (Nat.le_refl _) _
  have IH:=hid ih
  have H1:=hid (Here.later h1 hb)
  have H2:=hid (Here.later h2 hb)
  have HX:=hid ((Box.new w s A m c o 29).later hb1)
  have hy:=Box.new (w.alloc (.cells #[.string s,.slice A m c,.int .i64 o] 29)) r B l d p 29
  rw [show (w.alloc (.cells #[.string s,.slice A m c,.int .i64 o] 29)).heap.size=w.heap.size+1 by simp] at hy
  have HY:=hid hy
  have HB:=hid hb
  have hm:(m:Int)≤9223372036854775807:=by have:=h1.le;omega
  have hl:(l:Int)≤9223372036854775807:=by have:=h2.le;omega
  have hxl:=h1.len
  have hyl:=h2.len
  have HD:=hid (show Ty.eqv (.mk s xs o) (.mk r ys p)=((s.data.toList==r.data.toList)&&(o==p)&&Ty.eqvL xs ys) by rw [Ty.eqv])
  clear ih h1 h2 hb hb1 hy
  by_cases hsr:s.data.toList=r.data.toList
  · have e1:(s.toList==r.toList)=true:=by rw [Lib.toList_data,Lib.toList_data];simp [hsr]
    have e2:(s.toList != r.toList)=false:=by rw [Lib.toList_data,Lib.toList_data];simp [hsr]
    have e5:(!(s.toList==r.toList))=false:=by rw [e1];rfl
    by_cases hop:o=p
    · have e3:(o != p)=false:=by simp [hop]
      have e4:(o==p)=true:=by simp [hop]
      by_cases hml:m=l
      · subst hml
        have HC:=hid (show Ty.eqv (.mk s xs o) (.mk r ys p)=Ty.eqvL (xs.drop 0) (ys.drop 0) by rw [HD.out,hsr,e4];simp)
        have hnn:(!((m:Int)==(m:Int)))=false:=by simp
        clear hsr hop hxl hyl
        go_enter Tryz.func59,Tryz.ntmps59
        go_wp2_with fail
        generalize hW:(w.alloc (.cells #[.string s,.slice A m c,.int .i64 o] 29)).alloc (.cells #[.string r,.slice B m d,.int .i64 p] 29)=W at *
        clear hW
        go_loopw [5] (fun i wr=>∃ k:Nat,k≤m∧i=.int .i64 k∧Ty.eqv (.mk s xs o) (.mk r ys p)=Ty.eqvL (xs.drop k) (ys.drop k)∧Below W.heap.size W wr) (fun i _=>m-(intOf i).toNat)
        case atStart=>exact ⟨0,by omega,rfl,HC.out,Below.refl _ _⟩
        obtain ⟨k,hk,rfl,hc,hbel⟩:=hrel
        obtain ⟨x0,x1,x2⟩:=HX.out.later hbel
        obtain ⟨y0,y1,y2⟩:=HY.out.later hbel
        have HBL:=hid hbel
        have HQ:=hid hc
        clear hc
        by_cases hlt:k<m
        · have z0:(0:Int)≤k:=by omega
          have z1:(k:Int)<m:=by omega
          obtain ⟨a,s2,as2,o2,A2,m2,c2,rfl,hx,_,a0,a1,a2,hs2,hl2⟩:=(H1.out.later hbel).get hlt
          obtain ⟨b,r2,bs2,p2,B2,l2,d2,rfl,hy,_,b0,b1,b2,hr2,hl3⟩:=(H2.out.later hbel).get hlt
          have C:=hid (fun (V:World) (hV:Below wr.heap.size wr V)=>(IH.out _ (List.mem_of_getElem? hx) (.mk r2 bs2 p2) A2 B2 m2 l2 c2 d2 V hs2 hr2 (Here.later hl2 hV) (Here.later hl3 hV)).mono fun e w' (h:_∧_)=>(⟨h.1,hV.trans (h.2.mono hV.size)⟩:_∧Below wr.heap.size wr w'))
          have HS:=hid (HQ.out.trans (eqvL_on hx hy))
          simp only [Ty.name,Ty.off] at C
          clear hx hy hl2 hl3 hbel HQ
          have k0:=cell_lt a0
          have k1:=cell_lt b0
          rw [block_of_add] at k0 k1
          have k2:=cell_lt x1
          have k3:=cell_lt y1
          have SS:Below wr.heap.size wr wr∧wr.cell? ⟨w.heap.size,1,none⟩=some (.slice (some a) m c)∧wr.cell? ⟨w.heap.size+1,1,none⟩=some (.slice (some b) m d)∧wr.cell? (a.add (k*3))=some (.string s2)
            ∧ wr.cell? ⟨(a.add (k*3)).block,(a.add (k*3)).off+1,none⟩=some (.slice A2 m2 c2)∧wr.cell? ⟨(a.add (k*3)).block,(a.add (k*3)).off+2,none⟩=some (.int .i64 o2)∧wr.cell? (b.add (k*3))=some (.string r2)
            ∧ wr.cell? ⟨(b.add (k*3)).block,(b.add (k*3)).off+1,none⟩=some (.slice B2 l2 d2)∧wr.cell? ⟨(b.add (k*3)).block,(b.add (k*3)).off+2,none⟩=some (.int .i64 p2):=⟨Below.refl _ _,x1,y1,a0,a1,a2,b0,b1,b2⟩
          go_wp2_with fail
          go_region_held3 (fun V=>Below wr.heap.size wr V∧V.cell? ⟨w.heap.size,1,none⟩=some (.slice (some a) m c)∧V.cell? ⟨w.heap.size+1,1,none⟩=some (.slice (some b) m d)∧V.cell? (a.add (k*3))=some (.string s2)
            ∧ V.cell? ⟨(a.add (k*3)).block,(a.add (k*3)).off+1,none⟩=some (.slice A2 m2 c2)∧V.cell? ⟨(a.add (k*3)).block,(a.add (k*3)).off+2,none⟩=some (.int .i64 o2)∧V.cell? (b.add (k*3))=some (.string r2)
            ∧ V.cell? ⟨(b.add (k*3)).block,(b.add (k*3)).off+1,none⟩=some (.slice B2 l2 d2)∧V.cell? ⟨(b.add (k*3)).block,(b.add (k*3)).off+2,none⟩=some (.int .i64 p2))
            (first | exact SS | exact ⟨SS.1.drew,SS.2⟩)
            (first
              | (go_at_call 59;refine (C.out _ ?_).mono ?_;(first | exact SS.1 | exact SS.1.drew);rintro e w1 ⟨rfl,hb1⟩;have SS:Below wr.heap.size wr w1∧w1.cell? ⟨w.heap.size,1,none⟩=some (.slice (some a) m c)∧w1.cell? ⟨w.heap.size+1,1,none⟩=some (.slice (some b) m d)∧w1.cell? (a.add (k*3))=some (.string s2)
            ∧ w1.cell? ⟨(a.add (k*3)).block,(a.add (k*3)).off+1,none⟩=some (.slice A2 m2 c2)∧w1.cell? ⟨(a.add (k*3)).block,(a.add (k*3)).off+2,none⟩=some (.int .i64 o2)∧w1.cell? (b.add (k*3))=some (.string r2)
            ∧ w1.cell? ⟨(b.add (k*3)).block,(b.add (k*3)).off+1,none⟩=some (.slice B2 l2 d2)∧w1.cell? ⟨(b.add (k*3)).block,(b.add (k*3)).off+2,none⟩=some (.int .i64 p2):=⟨hb1,(hb1.cell k2).trans x1,(hb1.cell k3).trans y1,(hb1.cell (by rw [block_of_add];exact k0)).trans a0,(hb1.cell (p:=⟨(a.add (k*3)).block,_,none⟩) (by rw [block_of_add];exact k0)).trans a1,(hb1.cell (p:=⟨(a.add (k*3)).block,_,none⟩) (by rw [block_of_add];exact k0)).trans a2,(hb1.cell (by rw [block_of_add];exact k1)).trans b0,(hb1.cell (p:=⟨(b.add (k*3)).block,_,none⟩) (by rw [block_of_add];exact k1)).trans b1,(hb1.cell (p:=⟨(b.add (k*3)).block,_,none⟩) (by rw [block_of_add];exact k1)).trans b2⟩;clear hb1))
          have HB1:=hid (HBL.out.trans (SS.1.mono HBL.out.size))
          clear SS
          cases hz:Ty.eqv (.mk s2 as2 o2) (.mk r2 bs2 p2)
          · have HS2:=hid (HS.out.trans (by rw [hz];rfl:_=false))
            go_wp2
            go_ret
            exact ⟨ret_bool (by rw [HS2.out]),HB.out.trans (HB1.out.mono HB.out.size)⟩
          have HS2:=hid (HS.out.trans (by rw [hz];rfl:_=Ty.eqvL (xs.drop (k+1)) (ys.drop (k+1))))
          go_wp2
          go_roundw
          case rel=>exact ⟨k+1,by omega,by go_num,HS2.out,HB1.out⟩
          case measure=>simp [intOf];omega
        have hq:=HQ.out
        rw [List.drop_eq_nil_of_le (by rw [H1.out.len];omega),List.drop_eq_nil_of_le (by rw [H2.out.len];omega),Ty.eqvL] at hq
        have HQ2:=hid hq
        have q1:(m:Int)≤k:=by omega
        clear hq hbel
        go_wp2_with fail
        go_ret
        exact ⟨ret_bool (by rw [HQ2.out]),HB.out.trans (HBL.out.mono HB.out.size)⟩
      have HC:=hid (show Ty.eqv (.mk s xs o) (.mk r ys p)=false by rw [HD.out,eqvL_len (by rw [hxl,hyl];exact hml),Bool.and_false])
      have e6:((m:Int) != (l:Int))=true:=by simp;omega
      have e7:((m:Int)==(l:Int))=false:=by simp;omega
      clear hsr hop hxl hyl hml
      go_enter Tryz.func59,Tryz.ntmps59
      go_wp2_with fail
      go_ret
      exact ⟨ret_bool (by rw [HC.out]),HB.out⟩
    have e3:(o != p)=true:=by simp [hop]
    have e4:(o==p)=false:=by simp [hop]
    have HC:=hid (show Ty.eqv (.mk s xs o) (.mk r ys p)=false by rw [HD.out,e4,Bool.and_false,Bool.false_and])
    clear hsr hop hxl hyl
    go_enter Tryz.func59,Tryz.ntmps59
    go_wp2_with fail
    go_ret
    exact ⟨ret_bool (by rw [HC.out]),HB.out⟩
  have e1:(s.toList==r.toList)=false:=by rw [Lib.toList_data,Lib.toList_data];simpa using hsr
  have e2:(s.toList != r.toList)=true:=by rw [Lib.toList_data,Lib.toList_data];simpa using hsr
  have e5:(!(s.toList==r.toList))=true:=by rw [e1];rfl
  have HC:=hid (show Ty.eqv (.mk s xs o) (.mk r ys p)=false by rw [HD.out,show (s.data.toList==r.data.toList)=false by simpa using hsr,Bool.false_and,Bool.false_and])
  clear hsr hxl hyl
  go_enter Tryz.func59,Tryz.ntmps59
  go_wp2_with fail
  go_ret
  exact ⟨ret_bool (by rw [HC.out]),HB.out⟩
open Go.RowKit
theorem textL_snoc:∀ (r:List Ty) (x:Ty),Ty.textL (r++[x])=Ty.textL r++[44,32]++Ty.text x
  | [],x=>by simp [Ty.textL]
  | a :: r,x=>by
    have:=textL_snoc r x
    simp only [List.cons_append,Ty.textL,this,List.append_assoc]
def pre (s:List UInt8):List Ty→List UInt8
  | []=>s
  | a :: r=>s++[91]++Ty.text a++Ty.textL r
theorem textL_le:∀ (r q:List Ty),(Ty.textL r).length≤(Ty.textL (r++q)).length
  | [],_=>by simp [Ty.textL]
  | a :: r,q=>by
    have:=textL_le r q
    simp only [List.cons_append,Ty.textL,List.length_append,List.length_cons]
    omega
open Go.RowKit
theorem listL_snoc:∀ (r:List Ty) (x:Ty),Ty.listL (r++[x])=Ty.listL r++x.list
  | [],x=>by simp [Ty.listL]
  | a :: r,x=>by
    have:=listL_snoc r x
    simp only [List.cons_append,Ty.listL,this,List.append_assoc]
theorem listL_step {xs:List Ty} {k:Nat} {x:Ty} (hx:xs[k]?=some x):Ty.listL (xs.take (k+1))=Ty.listL (xs.take k)++x.list:=by
  rw [List.take_add_one,hx]
  exact listL_snoc _ _
theorem listL_le:∀ (r q:List Ty),(Ty.listL r).length≤(Ty.listL (r++q)).length
  | [],_=>by simp [Ty.listL]
  | a :: r,q=>by
    have:=listL_le r q
    simp only [List.cons_append,Ty.listL,List.length_append]
    omega
theorem listL_take (xs:List Ty) (k:Nat):(Ty.listL (xs.take k)).length≤(Ty.listL xs).length:=by
  have:=listL_le (xs.take k) (xs.drop k)
  rwa [List.take_append_drop] at this
def ListPost (w:World) (l:List ByteArray) (e:Ending) (w':World):Prop :=
  ∃ g cap,e=.returned (.slice (some ⟨g,0,none⟩) l.length cap)∧w'.ownsRow w.heap.size 9 1 (.slice (some ⟨g,0,none⟩) l.length cap) l.length (l.map boxS)∧Below w.heap.size w w'
theorem one_string (s:ByteArray):([s].map boxS)=(#[Value.string s]:Array Value).toList:=rfl
theorem ref_list_any:∀ (t:Ty) (A:Option Addr) (m c:Nat) (w:World),t.list.length≤1000000→Here w A m t.args →
    Calls Tryz.prog 109 #[.agg #[.string t.name,.slice A m c,.int .i64 t.off]] w (ListPost w t.list):=by
  refine Ty.ind fun s xs o ih A m c w hs h=>?_
  simp only [Ty.name,Ty.args,Ty.off] at h ⊢
  have hb:Below w.heap.size w (w.alloc (.cells #[.string s,.slice A m c,.int .i64 o] 29)):=(Below.refl _ _).alloc (Nat.le_refl _) _
  have hb2:Below w.heap.size w ((w.alloc (.cells #[.string s,.slice A m c,.int .i64 o] 29)).alloc (.cells #[.string s] 9)):=hb.alloc (by simp) _
  have hm:(m:Int)≤9223372036854775807:=by have:=h.le;omega
  have hxl:=h.len
  have IH:=hid ih
  have H:=hid h
  have HX:=hid ((Box.new w s A m c o 29).later (w':=(w.alloc (.cells #[.string s,.slice A m c,.int .i64 o] 29)).alloc (.cells #[.string s] 9)) ((Below.refl _ _).alloc (Nat.le_refl _) _))
  have hown:=own_new (w.alloc (.cells #[.string s,.slice A m c,.int .i64 o] 29)) (w.heap.size+1) 9 #[.string s] 1 1 (by simp) (by unfold maxLen;omega) rfl
  rw [show (w.alloc (.cells #[.string s,.slice A m c,.int .i64 o] 29)).heap.size=w.heap.size+1 by simp,←one_string] at hown
  have HO:=hid hown
  have HB:=hid hb2
  have HBW:=hid (show w.heap.size+2≤((w.alloc (.cells #[.string s,.slice A m c,.int .i64 o] 29)).alloc (.cells #[.string s] 9)).heap.size by simp)
  have hD:Ty.list (.mk s xs o)=s :: Ty.listL xs:=by rw [Ty.list]
  have HD:=hid hD
  rw [hD] at hs
  have HT:=hid hs
  obtain ⟨i0,hi0,hz0,hz1,hz2⟩:=info_parts infoStr
  clear ih h hb hb2 hs hown hD
  go_enter Tryz.func109,Tryz.ntmps109
  go_wp2_with fail
  generalize hW:(w.alloc (.cells #[.string s,.slice A m c,.int .i64 o] 29)).alloc (.cells #[.string s] 9)=W at *
  have hwW:w.heap.size+2≤W.heap.size:=HBW.out
  clear hW
  go_loopw [3,4] (fun v i wr=>∃ k:Nat,k≤m∧i=.int .i64 k∧wr.ownsRow (w.heap.size+1) 9 1 v (s :: Ty.listL (xs.take k)).length ((s :: Ty.listL (xs.take k)).map boxS)∧Below (w.heap.size+1) W wr) (fun _ i _=>m-(intOf i).toNat)
  case atStart=>exact ⟨0,by omega,rfl,HO.out,Below.refl _ _⟩
  obtain ⟨k,hk,rfl,hown,hbel⟩:=hrel
  obtain ⟨x0,x1,x2⟩:=HX.out.laterB hbel (by omega)
  have hbw:Below w.heap.size w wr:=HB.out.trans (hbel.mono (by omega))
  have hsz:=hbel.size
  have HBL:=hid hbel
  have HBX:=hid hbw
  have hpk:=listL_take xs k
  have hlen:(s :: Ty.listL (xs.take k)).length≤1000000:=by have:=HT.out;simp only [List.length_cons] at this ⊢;omega
  by_cases hlt:k<m
  · have y0:(k:Int)<m:=by omega
    obtain ⟨a,u,ys,p,B,l,d,rfl,hx,_,c0,c1,c2,hu,hl⟩:=Lies.get (Here.later H.out hbw) hlt
    have hst:=listL_step hx
    have hle:=listL_take xs (k+1)
    rw [hst] at hle
    have htx:(Ty.list (.mk u ys p)).length≤1000000:=by have:=HT.out;simp only [List.length_cons,List.length_append] at this hle;omega
    have hle2:(s :: Ty.listL (xs.take k)).length+(Ty.list (.mk u ys p)).length≤1000000:=by have:=HT.out;simp only [List.length_cons,List.length_append] at this hle ⊢;omega
    have C:=hid (IH.out _ (List.mem_of_getElem? hx) B l d wr htx hl)
    simp only [Ty.name,Ty.off] at C
    have HST:=hid hst
    clear hle hx hl hbel hbw hpk hst
    generalize hG:Ty.list (.mk u ys p)=g at *
    clear hG
    generalize hP:s :: Ty.listL (xs.take k)=P at *
    have HP:=hid hP
    clear hP
    go_wp2_with fail
    refine C.out.mono ?_
    rintro e w1 ⟨gb,gc,rfl,hown1,hb1⟩
    have hownk:=own_below hown hb1
    have hb2:=HBL.out.trans (hb1.mono (show w.heap.size+1≤wr.heap.size by omega))
    have HB1:=hid hb2
    have hsz1:=hb2.size
    have HC1:=hid (hown1.cells (g:=gb) rfl)
    have HL1:=hid hown1.1
    clear hb1 hb2 hown hown1
    go_wp2_with (at_builtin;refine wpList_append_own _ rfl _ _ 26 rfl (w.heap.size+1) 9 i0 _ 1 16 Tryz.underlying26 hi0 hz0 hz1 hz2 rfl (by omega) _ P.length _ rfl hownk ⟨gb,0,none⟩ g.length gc (g.map boxS) rfl HL1.out HC1.out (by intro x hx;simp only [List.mem_map] at hx;obtain ⟨y,_,rfl⟩:=hx;rfl) (by unfold maxLen;omega) (by omega) (by omega) ?_;intro v' w2 hown2 hgrow2 hnil2;have HO2:=hid (And.intro hown2 (Below.grown HB1.out hgrow2 (by omega) (own_base hownk)));clear hown2 hgrow2 hnil2)
    go_roundw
    case rel =>
      obtain ⟨ho2,hb3⟩:=HO2.out
      refine ⟨k+1,by omega,by go_num,?_,hb3⟩
      rw [HST.out,←List.cons_append,HP.out,List.length_append,List.map_append]
      exact ho2
    case measure=>simp [intOf];omega
  have y0:(m:Int)≤k:=by omega
  rw [List.take_of_length_le (by omega:xs.length≤k)] at hown
  rw [←HD.out] at hown
  have hne:(Ty.list (.mk s xs o)).length≠0:=by rw [HD.out];simp
  rcases hown.2 with ⟨rfl,h0⟩ | ⟨gb,cap,cur,rfl,hrest⟩
  · exact absurd h0 hne
  have HOO:=hid (own_wide hown (Nat.le_succ _))
  clear hbel hbw hpk hlen hown hrest hne
  go_wp2_with fail
  go_ret
  exact ⟨gb,cap,rfl,HOO.out,HBX.out⟩
theorem all_on {l:List ByteArray} {k:Nat} {s:ByteArray} (hs:l[k]?=some s):(l.drop k).all (fun s=>Nm.isB s.data.toList)=(Nm.isB s.data.toList&&(l.drop (k+1)).all fun s=>Nm.isB s.data.toList):=by
  obtain ⟨h1,e1⟩:=List.getElem?_eq_some_iff.1 hs
  rw [List.drop_eq_getElem_cons h1,e1,List.all_cons]
theorem ref_right_any (t:Ty) (A:Option Addr) (m c:Nat) (w:World) (hs:t.list.length≤1000000) (hz:∀ s∈t.list,s.size≤9223372036854775807) (h:Here w A m t.args) :
    Calls Tryz.prog 66 #[.agg #[.string t.name,.slice A m c,.int .i64 t.off]] w (EqvPost w t.right):=by
  have hb:Below w.heap.size w (w.alloc (.cells #[.string t.name,.slice A m c,.int .i64 t.off] 29)):=(Below.refl _ _).alloc (Nat.le_refl _) _
  have C:=hid (ref_list_any t A m c _ hs (h.later hb))
  have HB:=hid hb
  have HR:=hid (show t.right=(t.list.drop 0).all (fun s=>Nm.isB s.data.toList) from rfl)
  have HZ:=hid hz
  clear hb h hz
  generalize hG:t.list=l at *
  clear hG
  go_enter Tryz.func66,Tryz.ntmps66
  go_wp2_with fail
  refine C.out.mono ?_
  rintro e w1 ⟨gb,gc,rfl,hown1,hb1⟩
  obtain ⟨A',c',he,hsl⟩:=sl_of_own (ps:=l) rfl hown1
  obtain ⟨rfl,rfl⟩:A'=some ⟨gb,0,none⟩∧c'=gc:=by injection he with e1 e2 e3;exact ⟨e1.symm,e3.symm⟩
  have HSL:=hid hsl
  have HB1:=hid (HB.out.trans (hb1.mono HB.out.size))
  clear hb1 hown1 he hsl
  go_wp2_with fail
  go_loopw [4] (fun i wr=>∃ k:Nat,k≤l.length∧i=.int .i64 k∧t.right=(l.drop k).all (fun s=>Nm.isB s.data.toList)∧wr=w1) (fun i _=>l.length-(intOf i).toNat)
  case atStart=>exact ⟨0,by omega,rfl,HR.out,rfl⟩
  obtain ⟨k,hk,rfl,hr,rfl⟩:=hrel
  by_cases hlt:k<l.length
  · have z0:(0:Int)≤k:=by omega
    have z1:(k:Int)<l.length:=by omega
    obtain ⟨a,p,hae,hp,hc⟩:=HSL.out.get hlt
    obtain rfl:=Option.some.inj hae
    rw [show (⟨gb,0,none⟩:Addr).add k=⟨gb,k,none⟩ by unfold Addr.add;split<;>simp_all] at hc
    have hps:=HZ.out p (List.mem_of_getElem? hp)
    have hst:=hr.trans (all_on hp)
    have HST:=hid hst
    clear hr hp hst hae
    cases hb:Nm.isB p.data.toList
    · have HS2:=hid (HST.out.trans (by rw [hb];rfl:_=false))
      go_wp2_with fail
      refine (nm_ref_is_any p hps _).mono ?_
      rintro e w2 ⟨rfl,rfl⟩
      go_wp2_with fail
      go_ret
      exact ⟨ret_bool (by rw [HS2.out]),HB1.out⟩
    have HS2:=hid (HST.out.trans (by rw [hb];rfl:_=(l.drop (k+1)).all fun s=>Nm.isB s.data.toList))
    go_wp2_with fail
    refine (nm_ref_is_any p hps _).mono ?_
    rintro e w2 ⟨rfl,rfl⟩
    go_wp2_with fail
    go_roundw
    case rel=>exact ⟨k+1,by omega,by go_num,HS2.out,by trivial⟩
    case measure=>simp [intOf];omega
  have y0:(l.length:Int)≤k:=by omega
  rw [List.drop_eq_nil_of_le (by omega),List.all_nil] at hr
  have HS2:=hid hr
  clear hr
  go_wp2_with fail
  go_ret
  exact ⟨ret_bool (by rw [HS2.out]),HB1.out⟩
