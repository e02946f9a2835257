/- What is read as a signature, a declaration or a program is right, and no larger than the tokens are wide. No program, no condition. -/
import Derived.Test.YtkdlidakdknhjaaGreatDoorQDPbR
import Derived.Test.YtkdlidakdknhjaaGreatDoorQDRxP
namespace Go.Proofs.YtkdlidakdknhjaaGreatDoor.Rd
theorem isT_wds {s:List UInt8} {l:List Tk} (h:isT s l=true):wd l=wd l.tail+(s.length+1):=by
  obtain ⟨t,r,rfl,_,hs⟩:=isT_cons h
  have h1:t.s.size=s.length:=by rw [Lib.size_eq,hs]
  show t.s.size+1+wd r=wd r+(s.length+1)
  omega
theorem must_wd {s:List UInt8} {l q:List Tk} {u:Unit} (h:must s l=.ok u q):wd l=wd q+(s.length+1):=by
  obtain ⟨h1,rfl⟩:=must_got h
  exact isT_wds h1
theorem tyA_good {l q:List Tk} {t:Ty} (h:tyA l=.ok t q):t.right=true∧wd q+3*t.wt≤wd l+1:=by
  obtain ⟨h1,h2⟩:=(tyF_good _).1 _ _ _ h
  have h3:=Ty.wt_pos t
  exact ⟨h1,by omega⟩
theorem exA_good {l q:List Tk} {t:Ex} (h:exA l=.ok t q):t.right=true∧wd q+3*t.wt≤wd l+1:=by
  obtain ⟨h1,h2⟩:=(exF_good _).1 _ _ _ h
  have h3:=Ex.wt_pos t
  exact ⟨h1,by omega⟩
def ItemGood {α:Type} (r:α→Bool) (g:α→Nat) (item:List Tk→Got α):Prop:=∀ l u q,item l=.ok u q→r u=true∧wd q+3*g u≤wd l+2
theorem moreG_good {α:Type} {r:α→Bool} {g:α→Nat} {item:List Tk→Got α} (hi:ItemGood r g item):∀ (n:Nat) (acc:List α) (l:List Tk) (us:List α) (q:List Tk),moreG item n acc l=.ok us q →
    ∃ vs,us=acc++vs∧vs.all r=true∧wd q+3*sumBy g vs≤wd l
  | 0,acc,l,us,q,h=>by rw [moreG] at h;cases h
  | n+1,acc,l,us,q,h=>by
    rw [moreG] at h
    split at h
    · rename_i hT
      obtain ⟨u,p,h1,h2⟩:=bind_got h
      obtain ⟨k1,k2⟩:=hi _ _ _ h1
      obtain ⟨vs,rfl,k3,k4⟩:=moreG_good hi n _ _ _ _ h2
      have k5:=isT_wd hT
      refine ⟨u :: vs,by simp,by rw [List.all_cons,k1,k3];rfl,?_⟩
      show wd q+3*(g u+sumBy g vs)≤wd l
      omega
    injection h with h5 h6
    subst h5 h6
    exact ⟨[],by simp,rfl,by show wd l+3*0≤wd l;omega⟩
theorem listG_good {α:Type} {r:α→Bool} {g:α→Nat} {item:List Tk→Got α} (hi:ItemGood r g item) {c:UInt8} {l q:List Tk} {us:List α} (h:listG item [c] l=.ok us q):us.all r=true∧wd q+3*sumBy g us≤wd l:=by
  obtain ⟨u,p,h1,h2⟩:=bind_got h
  obtain ⟨vs,p2,h3,h4⟩:=bind_got h2
  obtain ⟨_,p3,h5,h6⟩:=bind_got h4
  injection h6 with h7 h8
  subst h7 h8
  obtain ⟨k1,k2⟩:=hi _ _ _ h1
  obtain ⟨ws,rfl,k3,k4⟩:=moreG_good hi _ _ _ _ _ h3
  have k5:=must_wd h5
  simp only [List.length_cons,List.length_nil] at k5
  refine ⟨by rw [List.singleton_append,List.all_cons,k1,k3];rfl,?_⟩
  show wd p3+3*(g u+sumBy g ws)≤wd l
  omega
theorem bracketsG_good {α:Type} {r:α→Bool} {g:α→Nat} {item:List Tk→Got α} (hi:ItemGood r g item) {l q:List Tk} {us:List α} (h:bracketsG item l=.ok us q):us.all r=true∧wd q+3*sumBy g us≤wd l:=by
  unfold bracketsG at h
  split at h
  · rename_i hT
    obtain ⟨k1,k2⟩:=listG_good hi h
    have k3:=isT_wd hT
    exact ⟨k1,by omega⟩
  injection h with h5 h6
  subst h5 h6
  exact ⟨rfl,by show wd l+3*0≤wd l;omega⟩
theorem itemsG_good {α:Type} {r:α→Bool} {g:α→Nat} {item:List Tk→Got α} (hi:ItemGood r g item):∀ (n:Nat) (acc:List α) (l:List Tk) (us:List α) (q:List Tk),itemsG item n acc l=.ok us q →
    ∃ vs,us=acc++vs∧vs.all r=true∧wd q+3*sumBy g vs+2≤wd l
  | 0,acc,l,us,q,h=>by rw [itemsG] at h;cases h
  | n+1,acc,l,us,q,h=>by
    rw [itemsG] at h
    split at h
    · rename_i hT
      have k5:=isT_wd hT
      injection h with h5 h6
      subst h5 h6
      exact ⟨[],by simp,rfl,by show wd l.tail+3*0+2≤wd l;omega⟩
    obtain ⟨u,p,h1,h2⟩:=bind_got h
    obtain ⟨_,p2,h3,h4⟩:=bind_got h2
    obtain ⟨k1,k2⟩:=hi _ _ _ h1
    obtain ⟨vs,rfl,k3,k4⟩:=itemsG_good hi n _ _ _ _ h4
    have k5:=must_wd h3
    simp only [List.length_cons,List.length_nil] at k5
    refine ⟨u :: vs,by simp,by rw [List.all_cons,k1,k3];rfl,?_⟩
    show wd q+3*(g u+sumBy g vs)+2≤wd l
    omega
theorem blockG_good {α:Type} {r:α→Bool} {g:α→Nat} {item:List Tk→Got α} (hi:ItemGood r g item) {l q:List Tk} {us:List α} (h:blockG item l=.ok us q):us.all r=true∧wd q+3*sumBy g us+4≤wd l:=by
  obtain ⟨_,p,h1,h2⟩:=bind_got h
  obtain ⟨vs,rfl,k3,k4⟩:=itemsG_good hi _ _ _ _ _ h2
  have k5:=must_wd h1
  simp only [List.length_cons,List.length_nil] at k5
  exact ⟨k3,by omega⟩
theorem name_wd {l q:List Tk} {t:Tk} (h:name l=.ok t q):Nm.isB t.s.data.toList=true∧1≤t.s.size∧wd l=t.s.size+1+wd q:=by
  obtain ⟨rfl,h2⟩:=name_got h
  exact ⟨h2,nameB_size h2,rfl⟩
theorem varF_got {l q:List Tk} {s:ByteArray} (h:varF l=.ok s q):Nm.isB s.data.toList=true∧1≤s.size∧wd l=s.size+1+wd q:=by
  obtain ⟨t,p,h1,h2⟩:=bind_got h
  injection h2 with h3 h4
  subst h3 h4
  exact name_wd h1
theorem varF_good:ItemGood (fun s=>Nm.isB s.data.toList) Dc.vwt varF:=fun l s q h=>by
  obtain ⟨h1,h2,h3⟩:=varF_got h
  refine ⟨h1,?_⟩
  unfold Dc.vwt
  omega
theorem foF_good:ItemGood Fo.right Fo.wt foF:=fun l f q h=>by
  obtain ⟨t,p,h1,h2⟩:=bind_got h
  obtain ⟨u,p2,h3,h4⟩:=bind_got h2
  injection h4 with h5 h6
  subst h5 h6
  obtain ⟨k1,k2,k3⟩:=name_wd h1
  obtain ⟨k4,k5⟩:=tyA_good h3
  refine ⟨by show (Nm.isB t.s.data.toList&&u.right)=true;rw [k1,k4];rfl,?_⟩
  show wd p2+3*(1+t.s.size / 50+u.wt)≤wd l+2
  omega
theorem paramsF_good {l q:List Tk} {us:List Fo} (h:paramsF l=.ok us q):us.all Fo.right=true∧wd q+3*sumBy Fo.wt us+2≤wd l:=by
  obtain ⟨_,p,h1,h2⟩:=bind_got h
  have k5:=must_wd h1
  simp only [List.length_cons,List.length_nil] at k5
  split at h2
  · rename_i hT
    have k6:=isT_wd hT
    injection h2 with h5 h6
    subst h5 h6
    exact ⟨rfl,by show wd p.tail+3*0+2≤wd l;omega⟩
  obtain ⟨k1,k2⟩:=listG_good foF_good h2
  exact ⟨k1,by omega⟩
theorem sgF_got {l q:List Tk} {s:Sg} (h:sgF l=.ok s q):s.right=true∧wd q+3*s.wt+3≤wd l:=by
  obtain ⟨t,p,h1,h2⟩:=bind_got h
  obtain ⟨fs,p2,h3,h4⟩:=bind_got h2
  obtain ⟨ps,p3,h5,h6⟩:=bind_got h4
  obtain ⟨u,p4,h7,h8⟩:=bind_got h6
  injection h8 with h9 h10
  subst h9 h10
  obtain ⟨k1,k2,k3⟩:=name_wd h1
  obtain ⟨k4,k5⟩:=bracketsG_good foF_good h3
  obtain ⟨k6,k7⟩:=paramsF_good h5
  obtain ⟨k8,k9⟩:=tyA_good h7
  refine ⟨by show (Nm.isB t.s.data.toList&&fs.all Fo.right&&ps.all Fo.right&&u.right)=true;rw [k1,k4,k6,k8];rfl,?_⟩
  show wd p4+3*(t.s.size / 50+sumBy Fo.wt fs+sumBy Fo.wt ps+u.wt)+3≤wd l
  omega
theorem sgF_good:ItemGood Sg.right Sg.wt sgF:=fun l s q h=>by
  obtain ⟨h1,h2⟩:=sgF_got h
  exact ⟨h1,by omega⟩
theorem sgNone_wt:Sg.none?.wt=1:=by decide
theorem exNone_wt:Ex.none?.wt=1:=by decide
theorem sgNone_same:Sg.sameX false Sg.none? Sg.none?=true:=by decide
theorem exNone_same:Ex.none?.same Ex.none?=true:=by decide
theorem dcStruct_right {t:Tk} {fs ms:List Fo} (h1:Nm.isB t.s.data.toList=true) (h2:fs.all Fo.right=true) (h3:ms.all Fo.right=true):Dc.right { dcStruct ms with name:=t.s,off:=t.o,fs:=fs }=true:=by
  show (Nm.isB t.s.data.toList&&fs.all Fo.right&&ms.all Fo.right&&true&&true&&(true&&true&&Sg.sameX false Sg.none? Sg.none?&&Ex.none?.same Ex.none?&&((true&&true) || (false&&(ms.length==0)))))=true
  rw [h1,h2,h3,sgNone_same,exNone_same]
  rfl
theorem dcInter_right {t:Tk} {fs:List Fo} {gs:List Sg} (h1:Nm.isB t.s.data.toList=true) (h2:fs.all Fo.right=true) (h3:gs.all Sg.right=true):Dc.right { dcInter gs with name:=t.s,off:=t.o,fs:=fs }=true:=by
  show (Nm.isB t.s.data.toList&&fs.all Fo.right&&true&&gs.all Sg.right&&true&&(true&&true&&Sg.sameX false Sg.none? Sg.none?&&Ex.none?.same Ex.none?&&((false&&(gs.length==0)) || (true&&true))))=true
  rw [h1,h2,h3,sgNone_same,exNone_same]
  rfl
theorem dcInter_wt {s:ByteArray} {o:Int} {fs:List Fo} {gs:List Sg}:Dc.wt { dcInter gs with name:=s,off:=o,fs:=fs }=1+s.size / 50+sumBy Fo.wt fs+sumBy Sg.wt gs+2:=by
  show 1+s.size / 50+(⟨#[]⟩:ByteArray).size / 50+sumBy Fo.wt fs+sumBy Fo.wt []+sumBy Sg.wt gs+sumBy Dc.vwt []+Sg.none?.wt+Ex.none?.wt=_
  rw [sgNone_wt,exNone_wt,show (⟨#[]⟩:ByteArray).size=0 from rfl,show sumBy Fo.wt []=0 from rfl,show sumBy Dc.vwt []=0 from rfl]
  omega
theorem dcStruct_wt {s:ByteArray} {o:Int} {fs ms:List Fo}:Dc.wt { dcStruct ms with name:=s,off:=o,fs:=fs }=1+s.size / 50+sumBy Fo.wt fs+sumBy Fo.wt ms+2:=by
  show 1+s.size / 50+(⟨#[]⟩:ByteArray).size / 50+sumBy Fo.wt fs+sumBy Fo.wt ms+sumBy Sg.wt []+sumBy Dc.vwt []+Sg.none?.wt+Ex.none?.wt=_
  rw [sgNone_wt,exNone_wt,show (⟨#[]⟩:ByteArray).size=0 from rfl,show sumBy Sg.wt []=0 from rfl,show sumBy Dc.vwt []=0 from rfl]
  omega
theorem typedR_good {l q:List Tk} {d:Dc} (h:typedR l=.ok d q):d.right=true∧wd q+3*d.wt≤wd l:=by
  obtain ⟨_,p0,h0,h⟩:=bind_got h
  have k0:=must_wd h0
  obtain ⟨t,p,h1,h2⟩:=bind_got h
  obtain ⟨fs,p2,h3,h4⟩:=bind_got h2
  obtain ⟨d0,p3,h5,h6⟩:=bind_got h4
  obtain ⟨_,p4,h7,h8⟩:=bind_got h6
  injection h8 with h9 h10
  subst h9 h10
  obtain ⟨k1,k2,k3⟩:=name_wd h1
  obtain ⟨k4,k5⟩:=bracketsG_good foF_good h3
  have k6:=must_wd h7
  simp only [List.length_cons,List.length_nil] at k6
  unfold bodyR at h5
  split at h5
  · rename_i hT
    have k7:=isT_wds hT
    obtain ⟨gs,p5,h11,h12⟩:=bind_got h5
    injection h12 with h13 h14
    subst h13 h14
    obtain ⟨k8,k9⟩:=blockG_good sgF_good h11
    refine ⟨dcInter_right k1 k4 k8,?_⟩
    have e1:wInter.length=9:=rfl
    rw [dcInter_wt]
    omega
  obtain ⟨_,p5,h11,h12⟩:=bind_got h5
  obtain ⟨ms,p6,h13,h14⟩:=bind_got h12
  injection h14 with h15 h16
  subst h15 h16
  have k7:=must_wd h11
  obtain ⟨k8,k9⟩:=blockG_good foF_good h13
  refine ⟨dcStruct_right k1 k4 k8,?_⟩
  have e1:wStruct.length=6:=rfl
  rw [dcStruct_wt]
  omega
def wds:List (List UInt8)→Nat
  | []=>0
  | s :: r=>s.length+1+wds r
theorem allF_wd {q:List Tk} {u:Unit}:∀ {ss:List (List UInt8)} {l:List Tk},allF ss l=.ok u q→wd l=wd q+wds ss
  | [],l,h=>by
    injection h with _ h2
    subst h2
    rfl
  | s :: r,l,h=>by
    obtain ⟨_,p,h1,h2⟩:=bind_got h
    have k1:=must_wd h1
    have k2:=allF_wd h2
    simp only [wds]
    omega
theorem methodR_good {l q:List Tk} {d:Dc} (h:methodR l=.ok d q):d.right=true∧wd q+3*d.wt≤wd l:=by
  obtain ⟨_,p0,h0,h⟩:=bind_got h
  have k0:=must_wd h0
  have e0:wFunc.length=4:=rfl
  obtain ⟨_,p1,h1,h⟩:=bind_got h
  obtain ⟨rc,p2,h2,h⟩:=bind_got h
  obtain ⟨t,p3,h3,h⟩:=bind_got h
  obtain ⟨vs,p4,h4,h⟩:=bind_got h
  obtain ⟨_,p5,h5,h⟩:=bind_got h
  obtain ⟨s,p6,h6,h⟩:=bind_got h
  obtain ⟨_,p7,h7,h⟩:=bind_got h
  obtain ⟨e,p8,h8,h⟩:=bind_got h
  obtain ⟨_,p9,h9,h⟩:=bind_got h
  injection h with h10 h11
  subst h10 h11
  have k1:=must_wd h1
  simp only [List.length_cons,List.length_nil] at k1
  obtain ⟨a1,a2,a3⟩:=varF_got h2
  obtain ⟨b1,b2,b3⟩:=name_wd h3
  obtain ⟨c1,c2⟩:=bracketsG_good varF_good h4
  have k5:=must_wd h5
  simp only [List.length_cons,List.length_nil] at k5
  obtain ⟨d1,d2⟩:=sgF_got h6
  have k7:=allF_wd h7
  obtain ⟨e1,e2⟩:=exA_good h8
  have k9:=allF_wd h9
  refine ⟨?_,?_⟩
  · show (Nm.isB t.s.data.toList&&true&&true&&true&&vs.all (fun s=>Nm.isB s.data.toList)&&(Nm.isB rc.data.toList&&true&&s.right&&e.right))=true
    rw [a1,b1,c1,d1,e1]
    rfl
  show wd p9+3*(1+t.s.size / 50+rc.size / 50+0+0+0+sumBy Dc.vwt vs+s.wt+e.wt)≤wd l
  omega
theorem declR_good {l q:List Tk} {d:Dc} (h:declR l=.ok d q):d.right=true∧wd q+3*d.wt≤wd l:=by
  unfold declR at h
  split at h
  · exact methodR_good h
  exact typedR_good h
theorem whole_good {α:Type} {f:List Tk→Got α} {r:α→Bool} {g:α→Nat} {c:Nat} (hf:∀ l u q,f l=.ok u q→r u=true∧wd q+3*g u+c≤wd l) {s:ByteArray} {t:α} (h:wholeO f s=.good t):r t=true∧3*g t+c≤2*s.size+1:=by
  unfold wholeO at h
  cases hl:left s 0 with
  | bad i=>rw [hl] at h;cases h
  | ok ts =>
    rw [hl] at h
    simp only at h
    cases hg:f (full ts s.size) with
    | bad q=>rw [hg] at h;cases h
    | ok u q =>
      rw [hg] at h
      unfold endO at h
      simp only at h
      split at h
      · injection h with h
        subst h
        obtain ⟨h1,h2⟩:=hf _ _ _ hg
        have h3:=wd_full hl
        exact ⟨h1,by omega⟩
      cases h
theorem dcO_good {s:ByteArray} (hs:s.size≤2000) {t:Dc} (h:dcO s=.good t):t.right=true∧t.wt≤1990:=by
  obtain ⟨h1,h2⟩:=whole_good (f:=declR) (c:=0) (fun _ _ _=>declR_good) (s:=s) (by rw [←dcO_eq];exact h)
  exact ⟨h1,by omega⟩
