/- Layer 8's reference in plain words, and that it reads what the program reads: no token that is no end has an empty text.
Tokens that are alike, but for their offsets, are read as the same; and so is what is ahead of an end, if a declaration follows there instead. No program, no condition. -/
import Derived.Test.YtjplpblehccigaaGreatDoorQBPaJ
namespace Go.Proofs.YtjplpblehccigaaGreatDoor.Rd

/-- Every token has a text,but for the end. -/
def Full (l:List Tk):Prop:=∀ t∈l,t.k≠3→t.s.data.toList≠[]
theorem Full.suffix {l q:List Tk} (h:Full l) (hq:q <:+ l):Full q:=fun t ht=>h t (hq.subset ht)
theorem Full.tail {l:List Tk} (h:Full l):Full l.tail:=h.suffix (List.tail_suffix l)
theorem Full.isT {l:List Tk} (h:Full l):isT [] l=false:=by
  cases l with
  | nil=>rfl
  | cons t r =>
    have h1:=h t (List.mem_cons_self ..)
    show (!(t.k == 3)&&(t.s.data.toList == []))=false
    by_cases hk:t.k=3
    · rw [hk]; rfl
    have h2:=h1 hk
    rw [Bool.and_eq_false_iff]
    exact .inr (by simpa using h2)
theorem must_no {s:List UInt8} {l:List Tk} (h:isT s l=false):must s l=.bad l:=by rw [must,h]; rfl
theorem must_yes {s:List UInt8} {l:List Tk} (h:isT s l=true):must s l=.ok () l.tail:=by rw [must,h]; rfl
theorem isT_one {s t:List UInt8} {l:List Tk} (h:isT s l=true) (hne:s≠t):isT t l=false:=by
  obtain ⟨a,r,rfl,hk,hs⟩:=isT_cons h
  show (!(a.k == 3)&&(a.s.data.toList == t))=false
  rw [hs,Bool.and_eq_false_iff]
  exact .inr (by simpa using hne)
theorem bind_congr {α β:Type} {l:List Tk} {g:Got α} (he:Got.Ends l g) {f f':α→List Tk→Got β} (h:∀ u q,q <:+ l→f u q=f' u q):Got.bind g f=Got.bind g f':=by
  cases g with
  | ok u q=>exact h u q he
  | bad q=>rfl

/-! ### the reference -/
def bodyR (l:List Tk):Got Dc:=if isT wInter l then interF l.tail else Got.bind (must wStruct l) fun _ q=>structF q
def typeDeclR (l:List Tk):Got Dc:=Got.bind (name l) fun t q=>Got.bind (bracketsG foF q) fun fs q=>Got.bind (bodyR q) fun d q=>Got.bind (must [59] q) fun _ q=>.ok { d with name:=t.s,off:=t.o,fs:=fs } q
def typedR (l:List Tk):Got Dc:=Got.bind (must wType l) fun _ q=>typeDeclR q
def methodR (l:List Tk):Got Dc:=Got.bind (must wFunc l) fun _ q=>methodF q
def declR (l:List Tk):Got Dc:=if isT wFunc l then methodR l else typedR l
/-- Declarations,up to what is neither a type's nor a method's. -/
def declsR:Nat→List Dc→List Tk→Got (List Dc)
  | 0,_,l=>.bad l
  | n+1,acc,l=>if isT wType l then Got.bind (typedR l) fun d q=>declsR n (acc++[d]) q else if isT wFunc l&&!isT wMain l.tail then Got.bind (methodR l) fun d q=>declsR n (acc++[d]) q else .ok acc l
def progR (l:List Tk):Got Pg:=Got.bind (allF [wPackage,wMain,[59]] l) fun _ q=>Got.bind (declsR (q.length+1) [] q) fun ds q=>Got.bind (allF [wFunc,wMain,[40],[41],[123],[95],[61]] q) fun _ q =>
  Got.bind (exA q) fun e q=>Got.bind (must [125] q) fun _ q=>.ok ⟨ds,e⟩ q

theorem body_eq {l:List Tk} (h:Full l):chooseF wStruct structF wInter interF l=bodyR l:=by
  unfold chooseF bodyR
  cases hs:isT wStruct l
  · cases hi:isT wInter l
    · simp only [Bool.false_eq_true,if_false]
      rw [must_no h.isT,must_no hs]
      rfl
    rfl
  rw [isT_one hs (by decide),must_yes hs]
  rfl
theorem typeDecl_eq {l:List Tk} (h:Full l):typeDeclF l=typeDeclR l :=
  bind_congr (Less.ends (name_less l)) fun _ _ h1=>bind_congr (bracketsG_ends foF_less _) fun _ _ h2=>by rw [body_eq (h.suffix (h2.trans h1))]
theorem decl_eq {l:List Tk} (h:Full l):declF l=declR l:=by
  unfold declF declR chooseF
  cases ht:isT wType l
  · cases hf:isT wFunc l
    · simp only [Bool.false_eq_true,if_false]
      rw [typedR,must_no h.isT,must_no ht]
      rfl
    simp only [Bool.false_eq_true,if_false,if_true]
    rw [methodR,must_yes hf]
    rfl
  rw [isT_one ht (by decide),typedR,must_yes ht,if_pos rfl,bind_ok,typeDecl_eq h.tail]
  rfl
theorem typeDecl_kind {l q:List Tk} {d:Dc} (h:Full l) (hd:typeDeclF l=.ok d q):d.kind≠0:=by
  rw [typeDecl_eq h] at hd
  unfold typeDeclR at hd
  cases h1:name l with
  | bad r=>rw [h1] at hd; cases hd
  | ok t r =>
    rw [h1,bind_ok] at hd
    cases h2:bracketsG foF r with
    | bad r2=>rw [h2] at hd; cases hd
    | ok fs r2 =>
      rw [h2,bind_ok] at hd
      cases h3:bodyR r2 with
      | bad r3=>rw [h3] at hd; cases hd
      | ok d0 r3 =>
        rw [h3,bind_ok] at hd
        cases h4:must [59] r3 with
        | bad r4=>rw [h4] at hd; cases hd
        | ok u r4 =>
          rw [h4,bind_ok] at hd
          cases hd
          show d0.kind≠0
          unfold bodyR at h3
          split at h3
          · unfold interF at h3
            cases h5:blockG sgF r2.tail with
            | bad r5=>rw [h5] at h3; cases h3
            | ok gs r5=>rw [h5,bind_ok] at h3; cases h3; exact (by decide:(2:Int)≠0)
          cases h6:must wStruct r2 with
          | bad r6=>rw [h6] at h3; cases h3
          | ok u6 r6 =>
            rw [h6,bind_ok] at h3
            unfold structF at h3
            cases h5:blockG foF r6 with
            | bad r5=>rw [h5] at h3; cases h3
            | ok ms r5=>rw [h5,bind_ok] at h3; cases h3; exact (by decide:(1:Int)≠0)
/-- Where a bind ends well,each part does. -/
theorem bind_inv {α β:Type} {g:Got α} {f:α→List Tk→Got β} {v:β} {q:List Tk} (h:Got.bind g f=.ok v q):∃ u r,g=.ok u r∧f u r=.ok v q:=by
  cases g with
  | ok u r=>exact ⟨u,r,rfl,h⟩
  | bad r=>cases h
theorem method_kind {l q:List Tk} {d:Dc} (hd:methodF l=.ok d q):d.kind=3:=by
  unfold methodF at hd
  obtain ⟨_,_,_,hd⟩:=bind_inv hd
  obtain ⟨_,_,_,hd⟩:=bind_inv hd
  obtain ⟨_,_,_,hd⟩:=bind_inv hd
  obtain ⟨_,_,_,hd⟩:=bind_inv hd
  obtain ⟨_,_,_,hd⟩:=bind_inv hd
  obtain ⟨_,_,_,hd⟩:=bind_inv hd
  obtain ⟨_,_,_,hd⟩:=bind_inv hd
  obtain ⟨_,_,_,hd⟩:=bind_inv hd
  obtain ⟨_,_,_,hd⟩:=bind_inv hd
  cases hd
  rfl
theorem decls_eq {β:Type} (F:List Dc→List Tk→Got β):∀ (n:Nat) (acc:List Dc) (l:List Tk),Full l→l.length < n →
    Got.bind (declsF n acc l) F=Got.bind (declsR n acc l) fun ds q=>Got.bind (must wFunc q) fun _ q=>Got.bind (must wMain q) fun _ q=>F ds q
  | 0,_,l,_,h=>by omega
  | n+1,acc,l,hl,hn=>by
    rw [declsF,declsR,declOrMainF,chooseF]
    cases ht:isT wType l
    · cases hf:isT wFunc l
      · simp only [Bool.false_eq_true,if_false,Bool.false_and]
        rw [must_no hl.isT,bind_ok,must_no hf]
        rfl
      simp only [Bool.false_eq_true,if_false,if_true,Bool.true_and]
      obtain ⟨t,r,rfl,-,-⟩:=isT_cons hf
      show Got.bind (Got.bind (methodOrMainF r) _) F=_
      rw [show (t :: r).tail=r from rfl,methodOrMainF]
      cases hm:isT wMain r
      · simp only [Bool.false_eq_true,if_false,Bool.not_false,if_true]
        rw [methodR,must_yes hf,bind_ok,bind_bind,bind_bind]
        show Got.bind (methodF r) _=Got.bind (methodF r) _
        have hend:=methodF_ends r
        cases hg:methodF r with
        | bad q=>rfl
        | ok d q =>
          rw [hg] at hend
          have hk:=method_kind hg
          rw [bind_ok,bind_ok,if_neg (by omega)]
          exact decls_eq F n _ q (hl.tail.suffix hend) (by have:=(show q <:+ r from hend).length_le; simp only [List.length_cons] at hn; omega)
      simp only [if_true,Bool.not_true,Bool.false_eq_true,if_false]
      rw [bind_ok,if_pos (show Dc.none?.kind=0 from rfl),bind_ok,bind_ok,must_yes hf,bind_ok]
      show _=Got.bind (must wMain r) _
      rw [must_yes hm]
      rfl
    simp only [if_true]
    rw [typedR,must_yes ht,bind_ok,bind_bind,bind_bind,←typeDecl_eq hl.tail]
    obtain ⟨t,r,rfl,-,-⟩:=isT_cons ht
    show Got.bind (typeDeclF r) _=Got.bind (typeDeclF r) _
    have hend:=typeDeclF_ends r
    cases hg:typeDeclF r with
    | bad q=>rfl
    | ok d q =>
      rw [hg] at hend
      have hk:=typeDecl_kind hl.tail hg
      rw [bind_ok,bind_ok,if_neg hk]
      exact decls_eq F n _ q (hl.tail.suffix hend) (by have:=(show q <:+ r from hend).length_le; simp only [List.length_cons] at hn; omega)
theorem prog_eq {l:List Tk} (h:Full l):progF l=progR l :=
  bind_congr (allF_ends _ l) fun _ q hq=>by
    rw [decls_eq _ (q.length+1) [] q (h.suffix hq) (Nat.lt_succ_self _)]
    refine congrArg _ (funext fun ds=>funext fun r=>?_)
    show _=Got.bind (Got.bind (must wFunc r) _) _
    rw [bind_bind]
    refine congrArg _ (funext fun _=>funext fun r2=>?_)
    show _=Got.bind (Got.bind (must wMain r2) _) _
    rw [bind_bind]
theorem full_full {s:ByteArray} {ts:List Lx.Tok} (hl:left s 0=.ok ts):Full (full ts s.size):=by
  have hl2:Lx.lex s.data.toList 0=.ok ts:=by unfold left at hl; rwa [List.drop_zero] at hl
  intro t ht hk
  rw [full,List.mem_append,List.mem_map,List.mem_singleton] at ht
  rcases ht with ⟨x,hx,rfl⟩ | rfl
  · show x.text.toArray.toList≠[]
    rw [List.toList_toArray]
    rcases (Lx.lex_right hl2).1 x hx with ⟨_,h⟩ | ⟨_,c,h,_⟩
    · rintro h2
      rw [h2] at h
      simp at h
    rw [h]; simp
  exact absurd rfl hk
/-- What the program reads of a text is what the reference reads. -/
theorem pgO_eq (s:ByteArray):pgO s=wholeO progR s:=by
  unfold pgO wholeO
  cases hl:left s 0 with
  | bad i=>rfl
  | ok ts=>show endO _=endO _; rw [prog_eq (full_full hl)]
theorem dcO_eq (s:ByteArray):dcO s=wholeO declR s:=by
  unfold dcO wholeO
  cases hl:left s 0 with
  | bad i=>rfl
  | ok ts=>show endO _=endO _; rw [decl_eq (full_full hl)]
end Go.Proofs.YtjplpblehccigaaGreatDoor.Rd

namespace Go.Proofs.YtjplpblehccigaaGreatDoor.Rd

/-- An end,or a declaration's word: no type,expression or sign of a list goes on with it. -/
def Stopper (z:List Tk):Prop:=∃ x r,z=x :: r∧((x.k=3∧x.s.data.toList=[])∨(x.k≠3∧(x.s.data.toList=wType∨x.s.data.toList=wFunc)))
/-- Alike,token by token,up to where the one ends in z and the other in y. -/
inductive Alk (z y:List Tk):List Tk→List Tk→Prop
  | cons {t u:Tk} {r q:List Tk}:t.k≠3→t.k=u.k→t.s.data.toList=u.s.data.toList→Alk z y r q→Alk z y (t :: r) (u :: q)
  | stop:Stopper z→Stopper y→Alk z y z y
/-- What is read from both: related,with alike tokens behind it,or a stop in both. -/
def GR {α β:Type} (z y:List Tk) (R:α→β→Prop):Got α→Got β→Prop
  | .ok u q,.ok v r=>R u v∧Alk z y q r
  | .bad q,.bad r=>Alk z y q r
  | _,_=>False
inductive AllR {α β:Type} (R:α→β→Prop):List α→List β→Prop
  | nil:AllR R [] []
  | cons {a:α} {b:β} {xs:List α} {ys:List β}:R a b→AllR R xs ys→AllR R (a :: xs) (b :: ys)
theorem AllR.snoc {α β:Type} {R:α→β→Prop} {xs:List α} {ys:List β} (h:AllR R xs ys) {a:α} {b:β} (hab:R a b):AllR R (xs++[a]) (ys++[b]):=by
  induction h with
  | nil=>exact .cons hab .nil
  | cons h1 _ ih=>exact .cons h1 ih
theorem AllR.isEmpty {α β:Type} {R:α→β→Prop} {xs:List α} {ys:List β} (h:AllR R xs ys):xs.isEmpty=ys.isEmpty:=by cases h <;> rfl
theorem AllR.len {α β:Type} {R:α→β→Prop} {xs:List α} {ys:List β} (h:AllR R xs ys):xs.length=ys.length:=by
  induction h with
  | nil=>rfl
  | cons _ _ ih=>simp [ih]
theorem AllR.sameBy {α:Type} {p:α→α→Bool} {xs ys:List α} (h:AllR (fun a b=>p a b=true) xs ys):sameBy p xs ys=true:=by
  induction h with
  | nil=>rfl
  | cons h1 _ ih=>rw [Go.Proofs.YtjplpblehccigaaGreatDoor.sameBy,h1,ih]; rfl
theorem Stopper.isT {s:List UInt8} (h1:s≠wType) (h2:s≠wFunc) {z:List Tk} (h:Stopper z):isT s z=false:=by
  obtain ⟨x,r,rfl,⟨h,-⟩ | ⟨-,h⟩⟩:=h
  · rw [Rd.isT,h]; rfl
  rw [Rd.isT,Bool.and_eq_false_iff]
  refine .inr ?_
  rcases h with h | h
  · rw [h]; simpa using fun e:wType=s=>h1 e.symm
  rw [h]; simpa using fun e:wFunc=s=>h2 e.symm
theorem Stopper.name {z:List Tk} (h:Stopper z):name z=.bad z:=by
  obtain ⟨x,r,rfl,⟨-,h⟩ | ⟨-,h⟩⟩:=h
  · rw [Rd.name,nameB,h,if_neg (by decide)]
  rw [Rd.name,nameB]
  rcases h with h | h
  · rw [h,if_neg (by decide)]
  rw [h,if_neg (by decide)]
variable {z y:List Tk}
theorem Alk.isT {s:List UInt8} (h1:s≠wType) (h2:s≠wFunc) {l r:List Tk} (h:Alk z y l r):isT s l=isT s r:=by
  cases h with
  | cons _ hk hs _=>rw [Rd.isT,Rd.isT,hk,hs]
  | stop hz hy=>rw [hz.isT h1 h2,hy.isT h1 h2]
theorem Alk.next {l r:List Tk} (h:Alk z y l r) (hs:(∃ s,Rd.isT s l=true)∧kind z=3∨(∃ s,Rd.isT s r=true)∧kind y=3):Alk z y l.tail r.tail∧l.tail.length+1=l.length∧r.tail.length+1=r.length:=by
  cases h with
  | cons _ _ _ ht=>exact ⟨ht,rfl,rfl⟩
  | stop hz hy =>
    rcases hs with ⟨⟨s,hs⟩,hk⟩ | ⟨⟨s,hs⟩,hk⟩
    · obtain ⟨t,q,rfl,h3,-⟩:=isT_cons hs
      exact absurd hk h3
    obtain ⟨t,q,rfl,h3,-⟩:=isT_cons hs
    exact absurd hk h3
theorem Alk.tail {s:List UInt8} (h1:s≠wType) (h2:s≠wFunc) {l r:List Tk} (h:Alk z y l r) (hs:Rd.isT s l=true):Alk z y l.tail r.tail∧l.tail.length+1=l.length∧r.tail.length+1=r.length:=by
  cases h with
  | cons _ _ _ ht=>exact ⟨ht,rfl,rfl⟩
  | stop hz _=>rw [hz.isT h1 h2] at hs; cases hs
theorem GR.bind {α β γ δ:Type} {R:α→β→Prop} {S:γ→δ→Prop} {l l':List Tk} {g:Got α} {g':Got β} {f:α→List Tk→Got γ} {f':β→List Tk→Got δ} (hE:Got.Ends l g) (hE':Got.Ends l' g') (hg:GR z y R g g')
    (hf:∀ u v q q',q.length≤l.length→q'.length≤l'.length→R u v→Alk z y q q'→GR z y S (f u q) (f' v q')):GR z y S (Got.bind g f) (Got.bind g' f'):=by
  cases g with
  | ok u q =>
    cases g' with
    | ok v q'=>exact hf u v q q' hE.length_le hE'.length_le hg.1 hg.2
    | bad q'=>exact hg.elim
  | bad q =>
    cases g' with
    | ok v q'=>exact hg.elim
    | bad q'=>exact hg
theorem GR.bindL {α β γ δ:Type} {R:α→β→Prop} {S:γ→δ→Prop} {l l':List Tk} {g:Got α} {g':Got β} {f:α→List Tk→Got γ} {f':β→List Tk→Got δ} (hE:Got.Less l g) (hE':Got.Less l' g') (hg:GR z y R g g')
    (hf:∀ u v q q',q.length < l.length→q'.length < l'.length→R u v→Alk z y q q'→GR z y S (f u q) (f' v q')):GR z y S (Got.bind g f) (Got.bind g' f'):=by
  cases g with
  | ok u q =>
    cases g' with
    | ok v q'=>exact hf u v q q' hE.2 hE'.2 hg.1 hg.2
    | bad q'=>exact hg.elim
  | bad q =>
    cases g' with
    | ok v q'=>exact hg.elim
    | bad q'=>exact hg
theorem GR.ifT {α β:Type} {R:α→β→Prop} {s:List UInt8} {l l':List Tk} {a b:Got α} {a' b':Got β} (h:Alk z y l l') (h1:s≠wType) (h2:s≠wFunc)
    (ha:l.tail.length+1=l.length→l'.tail.length+1=l'.length→Alk z y l.tail l'.tail→GR z y R a a') (hb:GR z y R b b'):GR z y R (if isT s l then a else b) (if isT s l' then a' else b'):=by
  rw [←h.isT h1 h2]
  split
  · rename_i hT
    obtain ⟨k1,k2,k3⟩:=h.tail h1 h2 hT
    exact ha k2 k3 k1
  exact hb
theorem must_alk {s:List UInt8} {l l':List Tk} (h:Alk z y l l') (h1:s≠wType) (h2:s≠wFunc):GR z y (fun _ _=>True) (must s l) (must s l'):=by
  unfold must
  exact GR.ifT h h1 h2 (fun _ _ ht=>⟨trivial,ht⟩) h
theorem name_alk {l l':List Tk} (h:Alk z y l l'):GR z y (fun t u=>t.s.data.toList=u.s.data.toList) (name l) (name l'):=by
  cases h with
  | cons h3 hk hs ht =>
    rw [name,name,nameB,nameB,hs]
    split
    · exact ⟨hs,ht⟩
    exact .cons h3 hk hs ht
  | stop hz hy =>
    rw [hz.name,hy.name]
    exact .stop hz hy

/-! ### types -/
def TR (t u:Ty):Prop:=Ty.cmp t u=0
theorem cmpL_of {ts us:List Ty} (h:AllR TR ts us):Ty.cmpL ts us=0:=by
  induction h with
  | nil=>rfl
  | cons h1 _ ih=>rw [Ty.cmpL,if_pos (show Ty.cmp _ _=0 from h1)]; exact ih
theorem sameT_of {ts us:List Ty} (h:AllR TR ts us):Ex.sameT ts us=true:=by
  induction h with
  | nil=>rfl
  | cons h1 _ ih=>rw [Ex.sameT,show Ty.cmp _ _=0 from h1,ih]; rfl
theorem tr_mk {s s':ByteArray} {ts ts':List Ty} {o o':Int} (hs:s.data.toList=s'.data.toList) (ht:AllR TR ts ts'):TR (.mk s ts o) (.mk s' ts' o'):=by
  unfold TR
  rw [Ty.cmp,if_pos hs]
  exact cmpL_of ht
theorem tr_none:TR tyNone tyNone:=by show Ty.cmp tyNone tyNone=0; decide
theorem tr_args {t u:Ty} (h:TR t u):t.args.isEmpty=u.args.isEmpty:=by
  obtain ⟨s,xs,o⟩:=t
  obtain ⟨s',ys,o'⟩:=u
  unfold TR at h
  rw [Ty.cmp] at h
  split at h
  · cases xs <;> cases ys <;> first | rfl | (rw [Ty.cmpL] at h; omega)
  rename_i hn
  exact absurd ((Nm.cmp_zero _ _).1 h) hn
theorem tr_name {t u:Ty} (h:TR t u):t.name.data.toList=u.name.data.toList:=by
  obtain ⟨s,xs,o⟩:=t
  obtain ⟨s',ys,o'⟩:=u
  unfold TR at h
  rw [Ty.cmp] at h
  split at h
  · rename_i hh; exact hh
  rename_i hn
  exact absurd ((Nm.cmp_zero _ _).1 h) hn
theorem targsG_alk {many many':List Tk→Got (List Ty)} {l l':List Tk} (hE:∀ l,Got.Ends l (many l)) (hE':∀ l,Got.Ends l (many' l)) (h:Alk z y l l')
    (hm:∀ q q',q.length+1=l.length→q'.length+1=l'.length→Alk z y q q'→GR z y (AllR TR) (many q) (many' q')):GR z y (AllR TR) (targsG many l) (targsG many' l'):=by
  unfold targsG
  exact GR.ifT h (by decide) (by decide) (fun k1 k2 ht=>GR.bind (hE _) (hE' _) (hm _ _ k1 k2 ht) fun u v q q' _ _ hu hq=>GR.bind (Less.ends (must_less _ _)) (Less.ends (must_less _ _)) (must_alk hq (by decide) (by decide)) fun _ _ _ _ _ _ _ hq=>⟨hu,hq⟩) ⟨.nil,h⟩
theorem tyF_alk (n:Nat):(∀ (m:Nat) (l l':List Tk),l.length < n→l'.length < m→Alk z y l l'→GR z y TR (tyF n l) (tyF m l')) ∧
    ∀ (m:Nat) (acc acc':List Ty) (l l':List Tk),l.length < n→l'.length < m→AllR TR acc acc'→Alk z y l l'→GR z y (AllR TR) (moreF n acc l) (moreF m acc' l'):=by
  induction n with
  | zero=>exact ⟨fun m l l' h=>by omega,fun m acc acc' l l' h=>by omega⟩
  | succ n ih =>
    refine ⟨fun m l l' h h' ha=>?_,fun m acc acc' l l' h h' hc ha=>?_⟩
    · obtain ⟨m,rfl⟩:∃ k,m=k+1:=⟨m - 1,by omega⟩
      rw [tyF_succ,tyF_succ]
      refine GR.bindL (name_less l) (name_less l') (name_alk ha) fun t u r r' k1 k2 hs hr=>?_
      refine GR.bind (targsF_ends n r) (targsF_ends m r') (targsG_alk (fun l=>ends_bind (Less.ends (tyF_less n l)) fun _ _ _=>moreF_ends n _ _) (fun l=>ends_bind (Less.ends (tyF_less m l)) fun _ _ _=>moreF_ends m _ _) hr fun q q' k3 k4 hq=>?_) fun ts us q q' _ _ ht hq=>⟨tr_mk hs ht,hq⟩
      exact GR.bindL (tyF_less n q) (tyF_less m q') (ih.1 m q q' (by omega) (by omega) hq) fun a b x x' k5 k6 hab hx=>ih.2 m [a] [b] x x' (by omega) (by omega) (.cons hab .nil) hx
    obtain ⟨m,rfl⟩:∃ k,m=k+1:=⟨m - 1,by omega⟩
    rw [moreF_succ,moreF_succ]
    exact GR.ifT ha (by decide) (by decide) (fun k1 k2 ht=>GR.bindL (tyF_less n _) (tyF_less m _) (ih.1 m _ _ (by omega) (by omega) ht) fun a b x x' k5 k6 hab hx=>ih.2 m _ _ x x' (by omega) (by omega) (hc.snoc hab) hx) ⟨hc,ha⟩
theorem targsF_alk {n m:Nat} {l l':List Tk} (h:l.length≤n) (h':l'.length≤m) (ha:Alk z y l l'):GR z y (AllR TR) (targsF n l) (targsF m l') :=
  targsG_alk (fun l=>ends_bind (Less.ends (tyF_less n l)) fun _ _ _=>moreF_ends n _ _) (fun l=>ends_bind (Less.ends (tyF_less m l)) fun _ _ _=>moreF_ends m _ _) ha fun q q' k3 k4 hq =>
    GR.bindL (tyF_less n q) (tyF_less m q') ((tyF_alk n).1 m q q' (by omega) (by omega) hq) fun a b x x' k5 k6 hab hx=>(tyF_alk n).2 m [a] [b] x x' (by omega) (by omega) (.cons hab .nil) hx
theorem tyA_alk {l l':List Tk} (h:Alk z y l l'):GR z y TR (tyA l) (tyA l'):=(tyF_alk _).1 _ _ _ (by omega) (by omega) h

/-! ### expressions -/
def XR (a b:Ex):Prop:=a.same b=true
theorem sameL_of {xs ys:List Ex} (h:AllR XR xs ys):Ex.sameL xs ys=true:=by
  induction h with
  | nil=>simp only [Ex.sameL]
  | cons h1 _ ih=>rw [Ex.sameL,show Ex.same _ _=true from h1,ih]; rfl
theorem xr_mk {k:Int} {s s':ByteArray} {t t':Ty} {ts ts':List Ty} {xs xs':List Ex} {o o':Int} (hs:s.data.toList=s'.data.toList) (ht:TR t t') (hts:AllR TR ts ts') (hx:AllR XR xs xs'):XR (.mk k s t ts xs o) (.mk k s' t' ts' xs' o'):=by
  unfold XR
  rw [Ex.same,hs,show Ty.cmp t t'=0 from ht,sameT_of hts,sameL_of hx]
  simp
theorem argsG_alk {many many':List Tk→Got (List Ex)} {e:List UInt8} {l l':List Tk} (h1:e≠wType) (h2:e≠wFunc) (hE:∀ l,Got.Ends l (many l)) (hE':∀ l,Got.Ends l (many' l)) (h:Alk z y l l') (hm:GR z y (AllR XR) (many l) (many' l')) :
    GR z y (AllR XR) (argsG many e l) (argsG many' e l'):=by
  unfold argsG
  exact GR.ifT h h1 h2 (fun _ _ ht=>⟨.nil,ht⟩) (GR.bind (hE _) (hE' _) hm fun u v q q' _ _ hu hq=>GR.bind (Less.ends (must_less _ _)) (Less.ends (must_less _ _)) (must_alk hq h1 h2) fun _ _ _ _ _ _ _ hq=>⟨hu,hq⟩)
theorem exF_alk (n:Nat):(∀ (m:Nat) (l l':List Tk),2 * l.length+2≤n→2 * l'.length+2≤m→Alk z y l l'→GR z y XR (exF n l) (exF m l')) ∧
    (∀ (m:Nat) (acc acc':List Ex) (l l':List Tk),2 * l.length+2≤n→2 * l'.length+2≤m→AllR XR acc acc'→Alk z y l l'→GR z y (AllR XR) (moreX n acc l) (moreX m acc' l')) ∧
    ∀ (m:Nat) (e e':Ex) (l l':List Tk),2 * l.length+2≤n→2 * l'.length+2≤m→XR e e'→Alk z y l l'→GR z y XR (restsF n e l) (restsF m e' l'):=by
  induction n with
  | zero=>exact ⟨fun m l l' h=>by omega,fun m acc acc' l l' h=>by omega,fun m e e' l l' h=>by omega⟩
  | succ n ih =>
    have hmany:∀ (m:Nat) (l l':List Tk),2 * l.length+2≤n→2 * l'.length+2≤m→Alk z y l l'→GR z y (AllR XR) (manyX n l) (manyX m l'):=fun m l l' h h' ha =>
      GR.bindL (exF_less n l) (exF_less m l') (ih.1 m l l' h h' ha) fun a b x x' k5 k6 hab hx=>ih.2.1 m [a] [b] x x' (by omega) (by omega) (.cons hab .nil) hx
    refine ⟨fun m l l' h h' ha=>?_,fun m acc acc' l l' h h' hc ha=>?_,fun m e e' l l' h h' hc ha=>?_⟩
    · obtain ⟨m,rfl⟩:∃ k,m=k+1:=⟨m - 1,by omega⟩
      rw [exF_succ,exF_succ]
      refine GR.bindL (firstF_less n l) (firstF_less m l') ?_ fun a b x x' k5 k6 hab hx=>ih.2.2 m a b x x' (by omega) (by omega) hab hx
      unfold firstF firstG
      refine GR.bindL (tyF_less n l) (tyF_less m l') ((tyF_alk n).1 m l l' (by omega) (by omega) ha) fun t u q q' k1 k2 htu hq=>?_
      rw [tr_args htu,hq.isT (s:=[123]) (by decide) (by decide)]
      split
      · exact ⟨xr_mk (tr_name htu) tr_none .nil .nil,hq⟩
      refine GR.bindL (must_less _ _) (must_less _ _) (must_alk hq (by decide) (by decide)) fun _ _ q q' k3 k4 _ hq=>?_
      exact GR.bind (argsF_ends n _ _) (argsF_ends m _ _) (argsG_alk (by decide) (by decide) (manyX_ends n) (manyX_ends m) hq (hmany m _ _ (by omega) (by omega) hq)) fun xs ys q q' _ _ hxs hq=>⟨xr_mk rfl htu .nil hxs,hq⟩
    · obtain ⟨m,rfl⟩:∃ k,m=k+1:=⟨m - 1,by omega⟩
      rw [moreX_succ,moreX_succ]
      exact GR.ifT ha (by decide) (by decide) (fun k1 k2 ht=>GR.bindL (exF_less n _) (exF_less m _) (ih.1 m _ _ (by omega) (by omega) ht) fun a b x x' k5 k6 hab hx=>ih.2.1 m _ _ x x' (by omega) (by omega) (hc.snoc hab) hx) ⟨hc,ha⟩
    obtain ⟨m,rfl⟩:∃ k,m=k+1:=⟨m - 1,by omega⟩
    rw [restsF_succ,restsF_succ]
    refine GR.ifT ha (by decide) (by decide) (fun k1 k2 ht=>GR.bindL (restF_less n _ _) (restF_less m _ _) ?_ fun a b x x' k5 k6 hab hx=>ih.2.2 m a b x x' (by omega) (by omega) hab hx) ⟨hc,ha⟩
    unfold restF restG
    refine GR.ifT ht (by decide) (by decide) (fun k3 k4 ht2=>?_) ?_
    · refine GR.bindL (tyF_less n _) (tyF_less m _) ((tyF_alk n).1 m _ _ (by omega) (by omega) ht2) fun t u q q' k5 k6 htu hq=>?_
      exact GR.bind (Less.ends (must_less _ _)) (Less.ends (must_less _ _)) (must_alk hq (by decide) (by decide)) fun _ _ _ _ _ _ _ hq=>⟨xr_mk rfl htu .nil (.cons hc .nil),hq⟩
    refine GR.bindL (name_less _) (name_less _) (name_alk ht) fun t u q q' k5 k6 hs hq=>?_
    refine GR.bind (targsF_ends n _) (targsF_ends m _) (targsF_alk (by omega) (by omega) hq) fun ts us q q' k7 k8 hts hq=>?_
    rw [hts.isEmpty,hq.isT (s:=[40]) (by decide) (by decide)]
    split
    · exact ⟨xr_mk hs tr_none .nil (.cons hc .nil),hq⟩
    refine GR.bindL (must_less _ _) (must_less _ _) (must_alk hq (by decide) (by decide)) fun _ _ q q' k9 k10 _ hq=>?_
    exact GR.bind (argsF_ends n _ _) (argsF_ends m _ _) (argsG_alk (by decide) (by decide) (manyX_ends n) (manyX_ends m) hq (hmany m _ _ (by omega) (by omega) hq)) fun xs ys q q' _ _ hxs hq=>⟨xr_mk hs tr_none hts (.cons hc hxs),hq⟩
theorem exA_alk {l l':List Tk} (h:Alk z y l l'):GR z y XR (exA l) (exA l'):=(exF_alk _).1 _ _ _ (Nat.le_refl _) (Nat.le_refl _) h

/-! ### declarations -/
def ItemR {α:Type} (p:α→α→Bool) (item:List Tk→Got α):Prop:=(∀ l,Got.Less l (item l))∧∀ {z y l l':List Tk},Alk z y l l'→GR z y (fun a b=>p a b=true) (item l) (item l')
theorem moreG_alk {α:Type} {p:α→α→Bool} {item:List Tk→Got α} (hi:ItemR p item):∀ (n m:Nat) (acc acc':List α) (l l':List Tk),l.length < n→l'.length < m→AllR (fun a b=>p a b=true) acc acc'→Alk z y l l' →
    GR z y (AllR fun a b=>p a b=true) (moreG item n acc l) (moreG item m acc' l')
  | 0,m,acc,acc',l,l',h,_,_,_=>by omega
  | n+1,0,acc,acc',l,l',_,h,_,_=>by omega
  | n+1,m+1,acc,acc',l,l',h,h',hc,ha=>by
    rw [moreG,moreG]
    exact GR.ifT ha (by decide) (by decide) (fun k1 k2 ht=>GR.bindL (hi.1 _) (hi.1 _) (hi.2 ht) fun a b x x' k5 k6 hab hx=>moreG_alk hi n m _ _ x x' (by omega) (by omega) (hc.snoc hab) hx) ⟨hc,ha⟩
theorem listG_alk {α:Type} {p:α→α→Bool} {item:List Tk→Got α} (hi:ItemR p item) {s:List UInt8} (h1:s≠wType) (h2:s≠wFunc) {l l':List Tk} (h:Alk z y l l'):GR z y (AllR fun a b=>p a b=true) (listG item s l) (listG item s l') :=
  GR.bind (Less.ends (hi.1 _)) (Less.ends (hi.1 _)) (hi.2 h) fun a b q q' _ _ hab hq=>GR.bind (moreG_ends hi.1 _ _ _) (moreG_ends hi.1 _ _ _) (moreG_alk hi _ _ [a] [b] q q' (Nat.lt_succ_self _) (Nat.lt_succ_self _) (.cons hab .nil) hq) fun _ _ _ _ _ _ hu hq =>
    GR.bind (Less.ends (must_less _ _)) (Less.ends (must_less _ _)) (must_alk hq h1 h2) fun _ _ _ _ _ _ _ hq=>⟨hu,hq⟩
theorem bracketsG_alk {α:Type} {p:α→α→Bool} {item:List Tk→Got α} (hi:ItemR p item) {l l':List Tk} (h:Alk z y l l'):GR z y (AllR fun a b=>p a b=true) (bracketsG item l) (bracketsG item l'):=by
  unfold bracketsG
  exact GR.ifT h (by decide) (by decide) (fun _ _ ht=>listG_alk hi (by decide) (by decide) ht) ⟨.nil,h⟩
theorem itemsG_alk {α:Type} {p:α→α→Bool} {item:List Tk→Got α} (hi:ItemR p item):∀ (n m:Nat) (acc acc':List α) (l l':List Tk),l.length < n→l'.length < m→AllR (fun a b=>p a b=true) acc acc'→Alk z y l l' →
    GR z y (AllR fun a b=>p a b=true) (itemsG item n acc l) (itemsG item m acc' l')
  | 0,m,acc,acc',l,l',h,_,_,_=>by omega
  | n+1,0,acc,acc',l,l',_,h,_,_=>by omega
  | n+1,m+1,acc,acc',l,l',h,h',hc,ha=>by
    rw [itemsG,itemsG]
    exact GR.ifT ha (by decide) (by decide) (fun k1 k2 ht=>⟨hc,ht⟩) (GR.bindL (hi.1 _) (hi.1 _) (hi.2 ha) fun a b x x' k5 k6 hab hx =>
      GR.bind (Less.ends (must_less _ _)) (Less.ends (must_less _ _)) (must_alk hx (by decide) (by decide)) fun _ _ q q' k7 k8 _ hq=>itemsG_alk hi n m _ _ q q' (by omega) (by omega) (hc.snoc hab) hq)
theorem blockG_alk {α:Type} {p:α→α→Bool} {item:List Tk→Got α} (hi:ItemR p item) {l l':List Tk} (h:Alk z y l l'):GR z y (AllR fun a b=>p a b=true) (blockG item l) (blockG item l') :=
  GR.bind (Less.ends (must_less _ _)) (Less.ends (must_less _ _)) (must_alk h (by decide) (by decide)) fun _ _ q q' _ _ _ hq=>itemsG_alk hi _ _ [] [] q q' (Nat.lt_succ_self _) (Nat.lt_succ_self _) .nil hq
theorem bytesEq_of {a b:ByteArray} (h:a.data.toList=b.data.toList):bytesEq a b=true:=by rw [bytesEq,h]; simp
theorem varF_alk:ItemR bytesEq varF:=⟨varF_less,fun h=>GR.bind (Less.ends (name_less _)) (Less.ends (name_less _)) (name_alk h) fun _ _ _ _ _ _ hs hq=>⟨bytesEq_of hs,hq⟩⟩
theorem foF_alk:ItemR (Fo.sameX false) foF:=⟨foF_less,fun h=>GR.bind (Less.ends (name_less _)) (Less.ends (name_less _)) (name_alk h) fun t u _ _ _ _ hs hq=>GR.bind (Less.ends (tyA_less _)) (Less.ends (tyA_less _)) (tyA_alk hq) fun a b _ _ _ _ hab hq =>
  ⟨by show (bytesEq t.s u.s&&(Ty.cmp a b == 0)&&true)=true; rw [bytesEq_of hs,show Ty.cmp a b=0 from hab]; rfl,hq⟩⟩
theorem paramsF_alk {l l':List Tk} (h:Alk z y l l'):GR z y (AllR fun a b=>Fo.sameX false a b=true) (paramsF l) (paramsF l') :=
  GR.bind (Less.ends (must_less _ _)) (Less.ends (must_less _ _)) (must_alk h (by decide) (by decide)) fun _ _ _ _ _ _ _ hq=>GR.ifT hq (by decide) (by decide) (fun _ _ ht=>⟨.nil,ht⟩) (listG_alk foF_alk (by decide) (by decide) hq)
theorem sgF_alk:ItemR (Sg.sameX false) sgF:=⟨sgF_less,fun h=>GR.bind (Less.ends (name_less _)) (Less.ends (name_less _)) (name_alk h) fun t u _ _ _ _ hs hq=>GR.bind (bracketsG_ends foF_less _) (bracketsG_ends foF_less _) (bracketsG_alk foF_alk hq) fun fs fs' _ _ _ _ hf hq =>
  GR.bind (Less.ends (paramsF_less _)) (Less.ends (paramsF_less _)) (paramsF_alk hq) fun ps ps' _ _ _ _ hp hq=>GR.bind (Less.ends (tyA_less _)) (Less.ends (tyA_less _)) (tyA_alk hq) fun a b _ _ _ _ hab hq =>
  ⟨by show (bytesEq t.s u.s&&sameBy (Fo.sameX false) fs fs'&&sameBy (Fo.sameX false) ps ps'&&(Ty.cmp a b == 0)&&true)=true; rw [bytesEq_of hs,hf.sameBy,hp.sameBy,show Ty.cmp a b=0 from hab]; rfl,hq⟩⟩
theorem allF_alk:∀ {ss:List (List UInt8)},(∀ s∈ss,s≠wType∧s≠wFunc)→∀ {l l':List Tk},Alk z y l l'→GR z y (fun _ _=>True) (allF ss l) (allF ss l')
  | [],_,_,_,h=>⟨trivial,h⟩
  | s :: r,hs,_,_,h=>GR.bind (Less.ends (must_less _ _)) (Less.ends (must_less _ _)) (must_alk h (hs s (by simp)).1 (hs s (by simp)).2) fun _ _ _ _ _ _ _ hq=>allF_alk (fun s h=>hs s (by simp [h])) hq
/-- Where the second ends in an end,what is next there is next in the first. -/
theorem must_yes_alk {s:List UInt8} {l l':List Tk} (hy:kind y=3) (h:Alk z y l l') (hs:isT s l'=true):isT s l=true:=by
  cases h with
  | cons _ hk hs' _=>rwa [Rd.isT,hk,hs']
  | stop _ _ =>
    obtain ⟨t,q,rfl,h3,-⟩:=isT_cons hs
    exact absurd hy h3
theorem Alk.isT' {s:List UInt8} (hz:kind z=3) (hy:kind y=3) {l r:List Tk} (h:Alk z y l r):Rd.isT s l=Rd.isT s r:=by
  cases h with
  | cons _ hk hs _=>rw [Rd.isT,Rd.isT,hk,hs]
  | stop hz' hy' =>
    obtain ⟨x,r,rfl,-⟩:=hz'
    obtain ⟨x',r',rfl,-⟩:=hy'
    rw [Rd.isT,Rd.isT,show x.k=3 from hz,show x'.k=3 from hy]
    rfl
def DR (a b:Dc):Prop:=Dc.sameX false a b=true
theorem dr_of {k:Int} {s s' rc rc':ByteArray} {fs fs' ms ms':List Fo} {gs gs':List Sg} {vs vs':List ByteArray} {sg sg':Sg} {e e':Ex} {o o':Int} (h1:bytesEq s s'=true) (h2:bytesEq rc rc'=true) (h3:sameBy (Fo.sameX false) fs fs'=true)
    (h4:sameBy (Fo.sameX false) ms ms'=true) (h5:sameBy (Sg.sameX false) gs gs'=true) (h6:sameBy bytesEq vs vs'=true) (h7:Sg.sameX false sg sg'=true) (h8:e.same e'=true):DR ⟨k,s,fs,ms,gs,rc,vs,sg,e,o⟩ ⟨k,s',fs',ms',gs',rc',vs',sg',e',o'⟩:=by
  show ((k == k)&&bytesEq s s'&&bytesEq rc rc'&&sameBy (Fo.sameX false) fs fs'&&sameBy (Fo.sameX false) ms ms'&&sameBy (Sg.sameX false) gs gs'&&sameBy bytesEq vs vs'&&Sg.sameX false sg sg'&&e.same e'&&true)=true
  rw [h1,h2,h3,h4,h5,h6,h7,h8]
  simp
theorem sg_none_same:Sg.sameX false Sg.none? Sg.none?=true:=by decide
theorem ex_none_same:Ex.none?.same Ex.none?=true:=by decide
theorem bodyR_alk {t u:Tk} {fs fs':List Fo} (hs:t.s.data.toList=u.s.data.toList) (hf:AllR (fun a b=>Fo.sameX false a b=true) fs fs') {l l':List Tk} (h:Alk z y l l') :
    GR z y (fun d d'=>DR { d with name:=t.s,off:=t.o,fs:=fs } { d' with name:=u.s,off:=u.o,fs:=fs' }) (bodyR l) (bodyR l'):=by
  unfold bodyR
  refine GR.ifT h (by decide) (by decide) (fun _ _ ht=>?_) ?_
  · exact GR.bind (Less.ends (blockG_less sgF_less _)) (Less.ends (blockG_less sgF_less _)) (blockG_alk sgF_alk ht) fun gs gs' _ _ _ _ hg hq=>⟨dr_of (bytesEq_of hs) rfl hf.sameBy rfl hg.sameBy rfl sg_none_same ex_none_same,hq⟩
  exact GR.bind (Less.ends (must_less _ _)) (Less.ends (must_less _ _)) (must_alk h (by decide) (by decide)) fun _ _ _ _ _ _ _ hq =>
    GR.bind (Less.ends (blockG_less foF_less _)) (Less.ends (blockG_less foF_less _)) (blockG_alk foF_alk hq) fun ms ms' _ _ _ _ hg hq=>⟨dr_of (bytesEq_of hs) rfl hf.sameBy hg.sameBy rfl rfl sg_none_same ex_none_same,hq⟩
theorem bodyR_ends (l:List Tk):Got.Ends l (bodyR l):=by
  unfold bodyR
  split
  · rename_i h
    exact Less.ends (less_isT h (interF_ends _))
  exact ends_bind (Less.ends (must_less _ _)) fun _ _ _=>structF_ends _
theorem typeDeclR_alk {l l':List Tk} (h:Alk z y l l'):GR z y DR (typeDeclR l) (typeDeclR l') :=
  GR.bind (Less.ends (name_less _)) (Less.ends (name_less _)) (name_alk h) fun t u _ _ _ _ hs hq=>GR.bind (bracketsG_ends foF_less _) (bracketsG_ends foF_less _) (bracketsG_alk foF_alk hq) fun fs fs' _ _ _ _ hf hq =>
  GR.bind (bodyR_ends _) (bodyR_ends _) (bodyR_alk hs hf hq) fun d d' _ _ _ _ hd hq=>GR.bind (Less.ends (must_less _ _)) (Less.ends (must_less _ _)) (must_alk hq (by decide) (by decide)) fun _ _ _ _ _ _ _ hq=>⟨hd,hq⟩
theorem methodF_alk {l l':List Tk} (h:Alk z y l l'):GR z y DR (methodF l) (methodF l') :=
  GR.bind (Less.ends (must_less _ _)) (Less.ends (must_less _ _)) (must_alk h (by decide) (by decide)) fun _ _ _ _ _ _ _ hq =>
  GR.bind (Less.ends (varF_less _)) (Less.ends (varF_less _)) (varF_alk.2 hq) fun rc rc' _ _ _ _ hr hq =>
  GR.bind (Less.ends (name_less _)) (Less.ends (name_less _)) (name_alk hq) fun t u _ _ _ _ hs hq =>
  GR.bind (bracketsG_ends varF_less _) (bracketsG_ends varF_less _) (bracketsG_alk varF_alk hq) fun vs vs' _ _ _ _ hv hq =>
  GR.bind (Less.ends (must_less _ _)) (Less.ends (must_less _ _)) (must_alk hq (by decide) (by decide)) fun _ _ _ _ _ _ _ hq =>
  GR.bind (Less.ends (sgF_less _)) (Less.ends (sgF_less _)) (sgF_alk.2 hq) fun s s' _ _ _ _ hsg hq =>
  GR.bind (allF_ends _ _) (allF_ends _ _) (allF_alk (by decide) hq) fun _ _ _ _ _ _ _ hq =>
  GR.bind (Less.ends (exA_less _)) (Less.ends (exA_less _)) (exA_alk hq) fun e e' _ _ _ _ he hq =>
  GR.bind (allF_ends _ _) (allF_ends _ _) (allF_alk (by decide) hq) fun _ _ _ _ _ _ _ hq=>⟨dr_of (bytesEq_of hs) hr rfl rfl rfl hv.sameBy hsg he,hq⟩
/-- Where the first word is there,the declarations are the same. -/
theorem typedR_alk {l l':List Tk} (hy:kind y=3) (h:Alk z y l l') (ht:isT wType l'=true):GR z y DR (typedR l) (typedR l'):=by
  rw [typedR,typedR,must_yes ht,must_yes (must_yes_alk hy h ht),bind_ok,bind_ok]
  exact typeDeclR_alk (h.next (.inr ⟨⟨_,ht⟩,hy⟩)).1
theorem methodR_alk {l l':List Tk} (hy:kind y=3) (h:Alk z y l l') (ht:isT wFunc l'=true):GR z y DR (methodR l) (methodR l'):=by
  rw [methodR,methodR,must_yes ht,must_yes (must_yes_alk hy h ht),bind_ok,bind_ok]
  exact methodF_alk (h.next (.inr ⟨⟨_,ht⟩,hy⟩)).1
theorem typedR_less (l:List Tk):Got.Less l (typedR l):=less_bind (must_less _ _) fun _ _ _=>ends_bind (Less.ends (name_less _)) fun _ _ _=>ends_bind (bracketsG_ends foF_less _) fun _ _ _=>ends_bind (bodyR_ends _) fun _ _ _=>ends_bind (Less.ends (must_less _ _)) fun _ _ _=>ends_self _ _
theorem methodR_less (l:List Tk):Got.Less l (methodR l):=less_bind (must_less _ _) fun _ _ _=>methodF_ends _
/-! ### programs -/
theorem must_alk' {s:List UInt8} {l l':List Tk} (hz:kind z=3) (hy:kind y=3) (h:Alk z y l l'):GR z y (fun _ _=>True) (must s l) (must s l'):=by
  unfold must
  rw [←h.isT' hz hy]
  split
  · rename_i hT
    exact ⟨trivial,(h.next (.inl ⟨⟨_,hT⟩,hz⟩)).1⟩
  exact h
theorem allF_alk' (hz:kind z=3) (hy:kind y=3):∀ {ss:List (List UInt8)} {l l':List Tk},Alk z y l l'→GR z y (fun _ _=>True) (allF ss l) (allF ss l')
  | [],_,_,h=>⟨trivial,h⟩
  | _ :: _,_,_,h=>GR.bind (Less.ends (must_less _ _)) (Less.ends (must_less _ _)) (must_alk' hz hy h) fun _ _ _ _ _ _ _ hq=>allF_alk' hz hy hq
theorem declsR_ends:∀ (n:Nat) (acc:List Dc) (l:List Tk),Got.Ends l (declsR n acc l)
  | 0,_,l=>ends_bad l
  | n+1,acc,l=>by
    rw [declsR]
    split
    · exact ends_bind (Less.ends (typedR_less l)) fun _ _ _=>declsR_ends n _ _
    split
    · exact ends_bind (Less.ends (methodR_less l)) fun _ _ _=>declsR_ends n _ _
    exact ends_self _ _
theorem declsR_alk (hz:kind z=3) (hy:kind y=3):∀ (n m:Nat) (acc acc':List Dc) (l l':List Tk),l.length < n→l'.length < m→AllR DR acc acc'→Alk z y l l'→GR z y (AllR DR) (declsR n acc l) (declsR m acc' l')
  | 0,m,acc,acc',l,l',h,_,_,_=>by omega
  | n+1,0,acc,acc',l,l',_,h,_,_=>by omega
  | n+1,m+1,acc,acc',l,l',h,h',hc,ha=>by
    rw [declsR,declsR]
    rw [ha.isT' hz hy (s:=wType)]
    split
    · rename_i hT
      exact GR.bindL (typedR_less _) (typedR_less _) (typedR_alk hy ha hT) fun a b x x' k5 k6 hab hx=>declsR_alk hz hy n m _ _ x x' (by omega) (by omega) (hc.snoc hab) hx
    rw [ha.isT' hz hy (s:=wFunc)]
    by_cases hT:isT wFunc l'=true
    · rw [(ha.next (.inr ⟨⟨_,hT⟩,hy⟩)).1.isT (s:=wMain) (by decide) (by decide),hT]
      split
      · exact GR.bindL (methodR_less _) (methodR_less _) (methodR_alk hy ha hT) fun a b x x' k5 k6 hab hx=>declsR_alk hz hy n m _ _ x x' (by omega) (by omega) (hc.snoc hab) hx
      exact ⟨hc,ha⟩
    rw [Bool.not_eq_true] at hT
    rw [hT,Bool.false_and,Bool.false_and,if_neg (by decide),if_neg (by decide)]
    exact ⟨hc,ha⟩
theorem progR_alk (hz:kind z=3) (hy:kind y=3) {l l':List Tk} (h:Alk z y l l'):GR z y (fun p q:Pg=>Pg.sameX false p q=true) (progR l) (progR l') :=
  GR.bind (allF_ends _ _) (allF_ends _ _) (allF_alk' hz hy h) fun _ _ _ _ _ _ _ hq =>
  GR.bind (declsR_ends _ _ _) (declsR_ends _ _ _) (declsR_alk hz hy _ _ [] [] _ _ (Nat.lt_succ_self _) (Nat.lt_succ_self _) .nil hq) fun ds ds' _ _ _ _ hd hq =>
  GR.bind (allF_ends _ _) (allF_ends _ _) (allF_alk' hz hy hq) fun _ _ _ _ _ _ _ hq =>
  GR.bind (Less.ends (exA_less _)) (Less.ends (exA_less _)) (exA_alk hq) fun e e' _ _ _ _ he hq =>
  GR.bind (Less.ends (must_less _ _)) (Less.ends (must_less _ _)) (must_alk hq (by decide) (by decide)) fun _ _ _ _ _ _ _ hq =>
  ⟨by show (sameBy (Dc.sameX false) ds ds'&&e.same e'&&true)=true; rw [AllR.sameBy hd,show e.same e'=true from he]; rfl,hq⟩
/-- Where the second has come to its end,so has the first. -/
theorem Alk.at_end {l l':List Tk} (h:Alk z y l l') (hk:kind l'=3):l=z∧l'=y:=by
  cases h with
  | cons h3 hk' _ _=>exact absurd (hk'.trans hk) h3
  | stop _ _=>exact ⟨rfl,rfl⟩
end Go.Proofs.YtjplpblehccigaaGreatDoor.Rd
