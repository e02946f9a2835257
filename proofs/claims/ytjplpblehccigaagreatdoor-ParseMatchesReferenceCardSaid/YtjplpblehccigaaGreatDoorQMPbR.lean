/- Layer 8's reference in plain words, and that it reads what the program reads: no token that is no end has an empty text.
Tokens that are alike, but for their offsets, are read as the same; and so is what is ahead of an end, if a declaration follows there instead. No program, no condition. -/
import Derived.Test.YtjplpblehccigaaGreatDoorQMPaJ
namespace Go.Proofs.YtjplpblehccigaaGreatDoor.Rd
def Full (l:List Tk):Prop:=∀ t∈l,t.k≠3→t.s.data.toList≠[]
theorem Full.suffix {l q:List Tk} (h:Full l) (hq:q <:+ l):Full q:=fun t ht=>h t (hq.subset ht)
theorem Full.tail {l:List Tk} (h:Full l):Full l.tail:=h.suffix (List.tail_suffix l)
theorem Full.isT {l:List Tk} (h:Full l):isT [] l=false:=by
  cases l with
  | nil=>rfl
  | cons t r =>
    have h1:=h t (List.mem_cons_self ..)
    show (!(t.k==3)&&(t.s.data.toList==[]))=false
    by_cases hk:t.k=3
    · rw [hk];rfl
    have h2:=h1 hk
    rw [Bool.and_eq_false_iff]
    exact .inr (by simpa using h2)
theorem must_no {s:List UInt8} {l:List Tk} (h:isT s l=false):must s l=.bad l:=by rw [must,h];rfl
theorem must_yes {s:List UInt8} {l:List Tk} (h:isT s l=true):must s l=.ok () l.tail:=by rw [must,h];rfl
theorem isT_one {s t:List UInt8} {l:List Tk} (h:isT s l=true) (hne:s≠t):isT t l=false:=by
  obtain ⟨a,r,rfl,hk,hs⟩:=isT_cons h
  show (!(a.k==3)&&(a.s.data.toList==t))=false
  rw [hs,Bool.and_eq_false_iff]
  exact .inr (by simpa using hne)
theorem bind_congr {α β:Type} {l:List Tk} {g:Got α} (he:Got.Ends l g) {f f':α→List Tk→Got β} (h:∀ u q,q <:+ l→f u q=f' u q):Got.bind g f=Got.bind g f':=by
  cases g with
  | ok u q=>exact h u q he
  | bad q=>rfl
def bodyR (l:List Tk):Got Dc:=if isT wInter l then interF l.tail else Got.bind (must wStruct l) fun _ q=>structF q
def typeDeclR (l:List Tk):Got Dc:=Got.bind (name l) fun t q=>Got.bind (bracketsG foF q) fun fs q=>Got.bind (bodyR q) fun d q=>Got.bind (must [59] q) fun _ q=>.ok { d with name:=t.s,off:=t.o,fs:=fs } q
def typedR (l:List Tk):Got Dc:=Got.bind (must wType l) fun _ q=>typeDeclR q
def methodR (l:List Tk):Got Dc:=Got.bind (must wFunc l) fun _ q=>methodF q
def declsR:Nat→List Dc→List Tk→Got (List Dc)
  | 0,_,l=>.bad l
  | n+1,acc,l=>if isT wType l then Got.bind (typedR l) fun d q=>declsR n (acc++[d]) q else if isT wFunc l&&!isT wMain l.tail then Got.bind (methodR l) fun d q=>declsR n (acc++[d]) q else .ok acc l
def progR (l:List Tk):Got Pg:=Got.bind (allF [wPackage,wMain,[59]] l) fun _ q=>Got.bind (declsR (q.length+1) [] q) fun ds q=>Got.bind (allF [wFunc,wMain,[40],[41],[123],[95],[61]] q) fun _ q =>
  Got.bind (exA q) fun e q=>Got.bind (must [125] q) fun _ q=>.ok ⟨ds,e⟩ q
theorem body_eq {l:List Tk} (h:Full l):chooseF wStruct structF wInter interF l=bodyR l:=by
  unfold chooseF bodyR
  cases hs:isT wStruct l
  · cases hi:isT wInter l
    · simp only [Bool.false_eq_true,if_false]
      rw [must_no h.isT,must_no hs]
      rfl
    rfl
  rw [isT_one hs (by decide),must_yes hs]
  rfl
theorem typeDecl_eq {l:List Tk} (h:Full l):typeDeclF l=typeDeclR l :=
  bind_congr (Less.ends (name_less l)) fun _ _ h1=>bind_congr (bracketsG_ends foF_less _) fun _ _ h2=>by rw [body_eq (h.suffix (h2.trans h1))]
theorem typeDecl_kind {l q:List Tk} {d:Dc} (h:Full l) (hd:typeDeclF l=.ok d q):d.kind≠0:=by
  rw [typeDecl_eq h] at hd
  unfold typeDeclR at hd
  cases h1:name l with
  | bad r=>rw [h1] at hd;cases hd
  | ok t r =>
    rw [h1,bind_ok] at hd
    cases h2:bracketsG foF r with
    | bad r2=>rw [h2] at hd;cases hd
    | ok fs r2 =>
      rw [h2,bind_ok] at hd
      cases h3:bodyR r2 with
      | bad r3=>rw [h3] at hd;cases hd
      | ok d0 r3 =>
        rw [h3,bind_ok] at hd
        cases h4:must [59] r3 with
        | bad r4=>rw [h4] at hd;cases hd
        | ok u r4 =>
          rw [h4,bind_ok] at hd
          cases hd
          show d0.kind≠0
          unfold bodyR at h3
          split at h3
          · unfold interF at h3
            cases h5:blockG sgF r2.tail with
            | bad r5=>rw [h5] at h3;cases h3
            | ok gs r5=>rw [h5,bind_ok] at h3;cases h3;exact (by decide:(2:Int)≠0)
          cases h6:must wStruct r2 with
          | bad r6=>rw [h6] at h3;cases h3
          | ok u6 r6 =>
            rw [h6,bind_ok] at h3
            unfold structF at h3
            cases h5:blockG foF r6 with
            | bad r5=>rw [h5] at h3;cases h3
            | ok ms r5=>rw [h5,bind_ok] at h3;cases h3;exact (by decide:(1:Int)≠0)
theorem bind_inv {α β:Type} {g:Got α} {f:α→List Tk→Got β} {v:β} {q:List Tk} (h:Got.bind g f=.ok v q):∃ u r,g=.ok u r∧f u r=.ok v q:=by
  cases g with
  | ok u r=>exact ⟨u,r,rfl,h⟩
  | bad r=>cases h
theorem method_kind {l q:List Tk} {d:Dc} (hd:methodF l=.ok d q):d.kind=3:=by
  unfold methodF at hd
  obtain ⟨_,_,_,hd⟩:=bind_inv hd
  obtain ⟨_,_,_,hd⟩:=bind_inv hd
  obtain ⟨_,_,_,hd⟩:=bind_inv hd
  obtain ⟨_,_,_,hd⟩:=bind_inv hd
  obtain ⟨_,_,_,hd⟩:=bind_inv hd
  obtain ⟨_,_,_,hd⟩:=bind_inv hd
  obtain ⟨_,_,_,hd⟩:=bind_inv hd
  obtain ⟨_,_,_,hd⟩:=bind_inv hd
  obtain ⟨_,_,_,hd⟩:=bind_inv hd
  cases hd
  rfl
theorem decls_eq {β:Type} (F:List Dc→List Tk→Got β):∀ (n:Nat) (acc:List Dc) (l:List Tk),Full l→l.length<n →
    Got.bind (declsF n acc l) F=Got.bind (declsR n acc l) fun ds q=>Got.bind (must wFunc q) fun _ q=>Got.bind (must wMain q) fun _ q=>F ds q
  | 0,_,l,_,h=>by omega
  | n+1,acc,l,hl,hn=>by
    rw [declsF,declsR,declOrMainF,chooseF]
    cases ht:isT wType l
    · cases hf:isT wFunc l
      · simp only [Bool.false_eq_true,if_false,Bool.false_and]
        rw [must_no hl.isT,bind_ok,must_no hf]
        rfl
      simp only [Bool.false_eq_true,if_false,if_true,Bool.true_and]
      obtain ⟨t,r,rfl,-,-⟩:=isT_cons hf
      show Got.bind (Got.bind (methodOrMainF r) _) F=_
      rw [show (t :: r).tail=r from rfl,methodOrMainF]
      cases hm:isT wMain r
      · simp only [Bool.false_eq_true,if_false,Bool.not_false,if_true]
        rw [methodR,must_yes hf,bind_ok,bind_bind,bind_bind]
        show Got.bind (methodF r) _=Got.bind (methodF r) _
        have hend:=methodF_ends r
        cases hg:methodF r with
        | bad q=>rfl
        | ok d q =>
          rw [hg] at hend
          have hk:=method_kind hg
          rw [bind_ok,bind_ok,if_neg (by omega)]
          exact decls_eq F n _ q (hl.tail.suffix hend) (by have:=(show q <:+ r from hend).length_le;simp only [List.length_cons] at hn;omega)
      simp only [if_true,Bool.not_true,Bool.false_eq_true,if_false]
      rw [bind_ok,if_pos (show Dc.none?.kind=0 from rfl),bind_ok,bind_ok,must_yes hf,bind_ok]
      show _=Got.bind (must wMain r) _
      rw [must_yes hm]
      rfl
    simp only [if_true]
    rw [typedR,must_yes ht,bind_ok,bind_bind,bind_bind,←typeDecl_eq hl.tail]
    obtain ⟨t,r,rfl,-,-⟩:=isT_cons ht
    show Got.bind (typeDeclF r) _=Got.bind (typeDeclF r) _
    have hend:=typeDeclF_ends r
    cases hg:typeDeclF r with
    | bad q=>rfl
    | ok d q =>
      rw [hg] at hend
      have hk:=typeDecl_kind hl.tail hg
      rw [bind_ok,bind_ok,if_neg hk]
      exact decls_eq F n _ q (hl.tail.suffix hend) (by have:=(show q <:+ r from hend).length_le;simp only [List.length_cons] at hn;omega)
theorem prog_eq {l:List Tk} (h:Full l):progF l=progR l :=
  bind_congr (allF_ends _ l) fun _ q hq=>by
    rw [decls_eq _ (q.length+1) [] q (h.suffix hq) (Nat.lt_succ_self _)]
    refine congrArg _ (funext fun ds=>funext fun r=>?_)
    show _=Got.bind (Got.bind (must wFunc r) _) _
    rw [bind_bind]
    refine congrArg _ (funext fun _=>funext fun r2=>?_)
    show _=Got.bind (Got.bind (must wMain r2) _) _
    rw [bind_bind]
theorem full_full {s:ByteArray} {ts:List Lx.Tok} (hl:left s 0=.ok ts):Full (full ts s.size):=by
  have hl2:Lx.lex s.data.toList 0=.ok ts:=by unfold left at hl;rwa [List.drop_zero] at hl
  intro t ht hk
  rw [full,List.mem_append,List.mem_map,List.mem_singleton] at ht
  rcases ht with ⟨x,hx,rfl⟩ | rfl
  · show x.text.toArray.toList≠[]
    rw [List.toList_toArray]
    rcases (Lx.lex_right hl2).1 x hx with ⟨_,h⟩ | ⟨_,c,h,_⟩
    · rintro h2
      rw [h2] at h
      simp at h
    rw [h];simp
  exact absurd rfl hk
theorem pgO_eq (s:ByteArray):pgO s=wholeO progR s:=by
  unfold pgO wholeO
  cases hl:left s 0 with
  | bad i=>rfl
  | ok ts=>show endO _=endO _;rw [prog_eq (full_full hl)]
variable {z y:List Tk}
def TR (t u:Ty):Prop:=Ty.cmp t u=0
theorem bodyR_ends (l:List Tk):Got.Ends l (bodyR l):=by
  unfold bodyR
  split
  · rename_i h
    exact Less.ends (less_isT h (interF_ends _))
  exact ends_bind (Less.ends (must_less _ _)) fun _ _ _=>structF_ends _
theorem typedR_less (l:List Tk):Got.Less l (typedR l):=less_bind (must_less _ _) fun _ _ _=>ends_bind (Less.ends (name_less _)) fun _ _ _=>ends_bind (bracketsG_ends foF_less _) fun _ _ _=>ends_bind (bodyR_ends _) fun _ _ _=>ends_bind (Less.ends (must_less _ _)) fun _ _ _=>ends_self _ _
theorem methodR_less (l:List Tk):Got.Less l (methodR l):=less_bind (must_less _ _) fun _ _ _=>methodF_ends _
