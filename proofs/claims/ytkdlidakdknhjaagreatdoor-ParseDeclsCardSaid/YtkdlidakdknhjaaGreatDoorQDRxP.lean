/- Types that are read from tokens: they are right, and no larger than the tokens are wide. No program, no condition.
Expressions that are read from tokens: they are right, and no larger than the tokens are wide. No program, no condition. -/
import Derived.Test.YtkdlidakdknhjaaGreatDoorQDLxF
namespace Go.Proofs.YtkdlidakdknhjaaGreatDoor.Rd
def wd:List Tk→Nat
  | []=>0
  | t :: r=>t.s.size+1+wd r
theorem wd_append:∀ a b:List Tk,wd (a++b)=wd a+wd b
  | [],b=>by simp [wd]
  | t :: a,b=>by simp only [List.cons_append,wd,wd_append a b];omega
theorem wd_tk:∀ ts:List Lx.Tok,wd (ts.map tk)=Lx.wide ts
  | []=>rfl
  | t :: r=>by
    have h:(tk t).s.size=t.text.length:=by rw [Lib.size_eq];simp [tk]
    simp only [List.map_cons,wd,Lx.wide,wd_tk r,h]
theorem wd_full {s:ByteArray} {ts:List Lx.Tok} (hl:left s 0=.ok ts):wd (full ts s.size)≤2*s.size+1:=by
  have hl2:Lx.lex s.data.toList 0=.ok ts:=by unfold left at hl;rwa [List.drop_zero] at hl
  have h:=(Lx.lex_right hl2).2
  have hsz:s.data.toList.length=s.size:=(Lib.size_eq s).symm
  unfold full
  rw [wd_append,wd_tk]
  simp only [wd]
  have:(⟨#[]⟩:ByteArray).size=0:=rfl
  omega
theorem isT_wd {c:UInt8} {l:List Tk} (h:isT [c] l=true):wd l=wd l.tail+2:=by
  obtain ⟨t,r,rfl,_,hs⟩:=isT_cons h
  have h1:t.s.size=1:=by rw [Lib.size_eq,hs];rfl
  show t.s.size+1+wd r=wd r+2
  omega
theorem must_got {s:List UInt8} {l q:List Tk} {u:Unit} (h:must s l=.ok u q):isT s l=true∧q=l.tail:=by
  unfold must at h
  split at h
  · rename_i hh
    injection h with _ h2
    exact ⟨hh,h2.symm⟩
  cases h
theorem name_got {l r:List Tk} {t:Tk} (h:name l=.ok t r):l=t :: r∧nameB t=true:=by
  cases l with
  | nil=>cases h
  | cons x q =>
    rw [name] at h
    split at h
    · rename_i hh
      injection h with h1 h2
      subst h1 h2
      exact ⟨rfl,hh⟩
    cases h
theorem nameB_size {t:Tk} (h:nameB t=true):1≤t.s.size:=by
  rw [Lib.size_eq]
  unfold nameB at h
  cases hl:t.s.data.toList with
  | nil=>rw [hl] at h;exact absurd h (by decide)
  | cons a r=>simp
theorem bind_got {α β:Type} {g:Got α} {f:α→List Tk→Got β} {v:β} {q:List Tk} (h:Got.bind g f=.ok v q):∃ u r,g=.ok u r∧f u r=.ok v q:=by
  cases g with
  | ok u r=>exact ⟨u,r,rfl,h⟩
  | bad r=>cases h
theorem rightL_iff:∀ xs:List Ty,((Ty.listL xs).all fun s=>Nm.isB s.data.toList)=true ↔ ∀ x∈xs,x.right=true
  | []=>by simp [Ty.listL]
  | x :: xs=>by
    rw [Ty.rightL_cons,Bool.and_eq_true,rightL_iff xs]
    simp
def TyGood (l:List Tk) (t:Ty) (q:List Tk):Prop:=t.right=true∧wd q+4*Ty.wt t≤wd l+2
def TysGood (l:List Tk) (us:List Ty) (q:List Tk):Prop:=(∀ u∈us,u.right=true)∧wd q+4*Ty.wtL us≤wd l
theorem targsG_good {many:List Tk→Got (List Ty)} (hm:∀ l ts q,many l=.ok ts q→(∀ u∈ts,u.right=true)∧wd q+4*Ty.wtL ts≤wd l+2) {l q:List Tk} {ts:List Ty} (h:targsG many l=.ok ts q):TysGood l ts q:=by
  unfold targsG at h
  split at h
  · rename_i hT
    obtain ⟨us,r,h1,h2⟩:=bind_got h
    obtain ⟨_,r2,h3,h4⟩:=bind_got h2
    obtain ⟨h5,rfl⟩:=must_got h3
    injection h4 with h6 h7
    subst h6 h7
    obtain ⟨k1,k2⟩:=hm _ _ _ h1
    have k3:=isT_wd hT
    have k4:=isT_wd h5
    exact ⟨k1,by omega⟩
  injection h with h6 h7
  subst h6 h7
  exact ⟨fun u hu=>by (cases hu),by simp [Ty.wtL]⟩
theorem tyF_good (n:Nat):(∀ l t q,tyF n l=.ok t q→TyGood l t q)∧∀ acc l ts q,moreF n acc l=.ok ts q→∃ us,ts=acc++us∧TysGood l us q:=by
  induction n with
  | zero=>exact ⟨fun l t q h=>by (rw [tyF] at h;cases h),fun acc l ts q h=>by (rw [moreF] at h;cases h)⟩
  | succ n ih =>
    have hmany:∀ l ts q,manyF n l=.ok ts q→(∀ u∈ts,u.right=true)∧wd q+4*Ty.wtL ts≤wd l+2:=by
      intro l ts q h
      obtain ⟨u,r,h1,h2⟩:=bind_got h
      obtain ⟨g1,g2⟩:=ih.1 _ _ _ h1
      obtain ⟨us,rfl,g3,g4⟩:=ih.2 _ _ _ _ h2
      refine ⟨fun x hx=>?_,?_⟩
      · rcases List.mem_cons.1 hx with rfl | hx
        · exact g1
        exact g3 x hx
      show wd q+4*(Ty.wt u+Ty.wtL us)≤wd l+2
      omega
    refine ⟨fun l t q h=>?_,fun acc l ts q h=>?_⟩
    · rw [tyF_succ] at h
      obtain ⟨nm,r,h1,h2⟩:=bind_got h
      obtain ⟨ts,r2,h3,h4⟩:=bind_got h2
      injection h4 with h5 h6
      subst h5 h6
      obtain ⟨rfl,hn⟩:=name_got h1
      obtain ⟨g1,g2⟩:=targsG_good hmany h3
      have hz:=nameB_size hn
      refine ⟨?_,?_⟩
      · rw [Ty.right_mk,Bool.and_eq_true]
        exact ⟨hn,(rightL_iff ts).2 g1⟩
      rw [Ty.wt]
      show wd r2+4*(1+nm.s.size / 50+Ty.wtL ts)≤nm.s.size+1+wd r+2
      omega
    rw [moreF_succ] at h
    split at h
    · rename_i hT
      obtain ⟨u,r,h1,h2⟩:=bind_got h
      obtain ⟨g1,g2⟩:=ih.1 _ _ _ h1
      obtain ⟨us,rfl,g3,g4⟩:=ih.2 _ _ _ _ h2
      have k:=isT_wd hT
      refine ⟨u :: us,by simp,fun x hx=>?_,?_⟩
      · rcases List.mem_cons.1 hx with rfl | hx
        · exact g1
        exact g3 x hx
      show wd q+4*(Ty.wt u+Ty.wtL us)≤wd l
      omega
    injection h with h5 h6
    subst h5 h6
    exact ⟨[],by simp,fun u hu=>by (cases hu),by simp [Ty.wtL]⟩
def ExGood (l:List Tk) (e:Ex) (q:List Tk):Prop:=e.right=true∧wd q+4*e.wt≤wd l+2
def ExsGood (l:List Tk) (us:List Ex) (q:List Tk):Prop:=(∀ u∈us,u.right=true)∧wd q+4*Ex.wtL us≤wd l
theorem none_right:tyNone.right=false:=by decide
theorem wt_tyNone:Ty.wt tyNone=1:=by decide
theorem rightX {xs:List Ex} (h:∀ x∈xs,x.right=true):Ex.rightL xs=true:=by
  rw [Ex.rightL_all,List.all_eq_true]
  exact h
theorem exVar_right {s:ByteArray} {o:Int} (h:Nm.isB s.data.toList=true):(exVar s o).right=true:=by
  simp [exVar,Ex.right,Ex.rightL,Ex.fit,Ex.typed,none_right,h]
  decide
theorem exLit_right {t:Ty} {xs:List Ex} (h:t.right=true) (hx:∀ x∈xs,x.right=true):(exLit t xs).right=true:=by
  simp [exLit,Ex.right,rightX hx,Ex.fit,Ex.typed,h]
  rfl
theorem exField_right {s:ByteArray} {e:Ex} {o:Int} (h:Nm.isB s.data.toList=true) (he:e.right=true):(exField s e o).right=true:=by
  simp [exField,Ex.right,Ex.rightL,he,Ex.fit,Ex.typed,none_right,h]
  decide
theorem exCall_right {s:ByteArray} {ts:List Ty} {e:Ex} {xs:List Ex} {o:Int} (h:Nm.isB s.data.toList=true) (ht:∀ t∈ts,t.right=true) (he:e.right=true) (hx:∀ x∈xs,x.right=true):(exCall s ts (e :: xs) o).right=true:=by
  have h1:(ts.all fun u=>u.right)=true:=List.all_eq_true.2 ht
  simp [exCall,Ex.right,Ex.rightL,he,rightX hx,Ex.fit,Ex.typed,none_right,h]
  exact ⟨ht,by decide⟩
theorem exAssert_right {t:Ty} {e:Ex} {o:Int} (h:t.right=true) (he:e.right=true):(exAssert t e o).right=true:=by
  simp [exAssert,Ex.right,Ex.rightL,he,Ex.fit,Ex.typed,h]
  rfl
theorem argsG_good {many:List Tk→Got (List Ex)} (hm:∀ l xs q,many l=.ok xs q→(∀ u∈xs,u.right=true)∧wd q+4*Ex.wtL xs≤wd l+2) {c:UInt8} {l q:List Tk} {xs:List Ex} (h:argsG many [c] l=.ok xs q):ExsGood l xs q:=by
  unfold argsG at h
  split at h
  · rename_i hT
    injection h with h6 h7
    subst h6 h7
    have k:=isT_wd hT
    exact ⟨fun u hu=>by (cases hu),by simp only [Ex.wtL];omega⟩
  obtain ⟨us,r,h1,h2⟩:=bind_got h
  obtain ⟨_,r2,h3,h4⟩:=bind_got h2
  obtain ⟨h5,rfl⟩:=must_got h3
  injection h4 with h6 h7
  subst h6 h7
  obtain ⟨k1,k2⟩:=hm _ _ _ h1
  have k4:=isT_wd h5
  exact ⟨k1,by omega⟩
theorem targsF_good {n:Nat} {l q:List Tk} {ts:List Ty} (h:targsF n l=.ok ts q):TysGood l ts q:=targsG_good (fun l ts q h=>by
  obtain ⟨u,r,h1,h2⟩:=bind_got h
  obtain ⟨g1,g2⟩:=(tyF_good n).1 _ _ _ h1
  obtain ⟨us,rfl,g3,g4⟩:=(tyF_good n).2 _ _ _ _ h2
  refine ⟨fun x hx=>?_,?_⟩
  · rcases List.mem_cons.1 hx with rfl | hx
    · exact g1
    exact g3 x hx
  show wd q+4*(Ty.wt u+Ty.wtL us)≤wd l+2
  omega) h
theorem firstG_good {n:Nat} {many:List Tk→Got (List Ex)} (hm:∀ l xs q,many l=.ok xs q→(∀ u∈xs,u.right=true)∧wd q+4*Ex.wtL xs≤wd l+2) {l q:List Tk} {e:Ex} (h:firstG n many l=.ok e q):ExGood l e q:=by
  unfold firstG at h
  obtain ⟨t,r,h1,h2⟩:=bind_got h
  obtain ⟨g1,g2⟩:=(tyF_good n).1 _ _ _ h1
  split at h2
  · rename_i hc
    injection h2 with h3 h4
    subst h3 h4
    obtain ⟨s,ts,o⟩:=t
    rw [Ty.right_mk,Bool.and_eq_true] at g1
    refine ⟨exVar_right g1.1,?_⟩
    have hw:Ty.wt (.mk s ts o)=1+s.size / 50+Ty.wtL ts:=by rw [Ty.wt]
    rw [hw] at g2
    show wd r+4*(s.size / 50+Ty.wt tyNone+0+0)≤wd l+2
    rw [wt_tyNone]
    omega
  obtain ⟨_,r2,h3,h4⟩:=bind_got h2
  obtain ⟨h5,rfl⟩:=must_got h3
  obtain ⟨xs,r3,h6,h7⟩:=bind_got h4
  injection h7 with h8 h9
  subst h8 h9
  obtain ⟨k1,k2⟩:=argsG_good hm h6
  have k3:=isT_wd h5
  refine ⟨exLit_right g1 k1,?_⟩
  show wd r3+4*(0 / 50+Ty.wt t+0+Ex.wtL xs)≤wd l+2
  omega
theorem restG_good {n:Nat} {many:List Tk→Got (List Ex)} (hm:∀ l xs q,many l=.ok xs q→(∀ u∈xs,u.right=true)∧wd q+4*Ex.wtL xs≤wd l+2) {e f:Ex} {l q:List Tk} (he:e.right=true) (h:restG n many e l=.ok f q):f.right=true∧wd q+4*f.wt≤wd l+2+4*e.wt:=by
  unfold restG at h
  split at h
  · rename_i hT
    obtain ⟨t,r,h1,h2⟩:=bind_got h
    obtain ⟨_,r2,h3,h4⟩:=bind_got h2
    obtain ⟨h5,rfl⟩:=must_got h3
    injection h4 with h6 h7
    subst h6 h7
    obtain ⟨g1,g2⟩:=(tyF_good n).1 _ _ _ h1
    have k1:=isT_wd hT
    have k2:=isT_wd h5
    refine ⟨exAssert_right g1 he,?_⟩
    show wd r.tail+4*(0 / 50+Ty.wt t+0+(e.wt+0))≤wd l+2+4*e.wt
    omega
  obtain ⟨nm,r,h1,h2⟩:=bind_got h
  obtain ⟨rfl,hn⟩:=name_got h1
  have hz:=nameB_size hn
  obtain ⟨ts,r2,h3,h4⟩:=bind_got h2
  obtain ⟨g1,g2⟩:=targsF_good h3
  have hwl:wd (nm :: r)=nm.s.size+1+wd r:=rfl
  split at h4
  · injection h4 with h6 h7
    subst h6 h7
    refine ⟨exField_right hn he,?_⟩
    show wd r2+4*(nm.s.size / 50+Ty.wt tyNone+0+(e.wt+0))≤wd (nm :: r)+2+4*e.wt
    rw [wt_tyNone]
    omega
  obtain ⟨_,r3,h5,h6⟩:=bind_got h4
  obtain ⟨h7,rfl⟩:=must_got h5
  obtain ⟨xs,r4,h8,h9⟩:=bind_got h6
  injection h9 with h10 h11
  subst h10 h11
  obtain ⟨k1,k2⟩:=argsG_good hm h8
  have k3:=isT_wd h7
  refine ⟨exCall_right hn g1 he k1,?_⟩
  show wd r4+4*(nm.s.size / 50+Ty.wt tyNone+Ty.wtL ts+(e.wt+Ex.wtL xs))≤wd (nm :: r)+2+4*e.wt
  rw [wt_tyNone]
  omega
theorem exF_good (n:Nat):(∀ l e q,exF n l=.ok e q→ExGood l e q)∧(∀ acc l xs q,moreX n acc l=.ok xs q→∃ us,xs=acc++us∧ExsGood l us q)∧∀ e l f q,e.right=true→restsF n e l=.ok f q→f.right=true∧wd q+4*f.wt≤wd l+4*e.wt:=by
  induction n with
  | zero=>exact ⟨fun l e q h=>by (rw [exF] at h;cases h),fun acc l xs q h=>by (rw [moreX] at h;cases h),fun e l f q _ h=>by (rw [restsF] at h;cases h)⟩
  | succ n ih =>
    have hmany:∀ l xs q,manyX n l=.ok xs q→(∀ u∈xs,u.right=true)∧wd q+4*Ex.wtL xs≤wd l+2:=by
      intro l xs q h
      obtain ⟨u,r,h1,h2⟩:=bind_got h
      obtain ⟨g1,g2⟩:=ih.1 _ _ _ h1
      obtain ⟨us,rfl,g3,g4⟩:=ih.2.1 _ _ _ _ h2
      refine ⟨fun x hx=>?_,?_⟩
      · rcases List.mem_cons.1 hx with rfl | hx
        · exact g1
        exact g3 x hx
      show wd q+4*(u.wt+Ex.wtL us)≤wd l+2
      omega
    refine ⟨fun l e q h=>?_,fun acc l xs q h=>?_,fun e l f q he h=>?_⟩
    · rw [exF_succ] at h
      obtain ⟨u,r,h1,h2⟩:=bind_got h
      obtain ⟨g1,g2⟩:=firstG_good hmany h1
      obtain ⟨g3,g4⟩:=ih.2.2 _ _ _ _ g1 h2
      exact ⟨g3,by omega⟩
    · rw [moreX_succ] at h
      split at h
      · rename_i hT
        obtain ⟨u,r,h1,h2⟩:=bind_got h
        obtain ⟨g1,g2⟩:=ih.1 _ _ _ h1
        obtain ⟨us,rfl,g3,g4⟩:=ih.2.1 _ _ _ _ h2
        have k:=isT_wd hT
        refine ⟨u :: us,by simp,fun x hx=>?_,?_⟩
        · rcases List.mem_cons.1 hx with rfl | hx
          · exact g1
          exact g3 x hx
        show wd q+4*(u.wt+Ex.wtL us)≤wd l
        omega
      injection h with h5 h6
      subst h5 h6
      exact ⟨[],by simp,fun u hu=>by (cases hu),by simp [Ex.wtL]⟩
    rw [restsF_succ] at h
    split at h
    · rename_i hT
      obtain ⟨u,r,h1,h2⟩:=bind_got h
      obtain ⟨g1,g2⟩:=restG_good hmany he h1
      obtain ⟨g3,g4⟩:=ih.2.2 _ _ _ _ g1 h2
      have k:=isT_wd hT
      exact ⟨g3,by omega⟩
    injection h with h5 h6
    subst h5 h6
    exact ⟨he,by omega⟩
