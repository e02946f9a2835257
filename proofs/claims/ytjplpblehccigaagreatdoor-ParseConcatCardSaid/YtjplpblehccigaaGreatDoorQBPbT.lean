/- The tokens of joined texts, and of texts with line feeds between them; a program of declarations' texts, one behind the other. No program, no condition. -/
import Derived.Test.YtjplpblehccigaaGreatDoorQBPbR
import Derived.Test.YtjplpblehccigaaGreatDoorQBRbP
import Derived.Test.YtjplpblehccigaaGreatDoorQBRxP
namespace Go.Proofs.YtjplpblehccigaaGreatDoor.Rd

theorem takeWhile_stop {p:UInt8→Bool} {x:UInt8} (hx:p x=false) (b:List UInt8):∀ a:List UInt8,(a++x :: b).takeWhile p=a.takeWhile p
  | []=>by simp [hx]
  | c :: a=>by
    simp only [List.cons_append,List.takeWhile_cons]
    split
    · rw [takeWhile_stop hx b a]
    rfl
/-- A text has its tokens whatever stands behind a line feed. -/
theorem lex_line (b:List UInt8):∀ (n:Nat) (a:List UInt8) (i:Nat) (ts:List Lx.Tok),a.length≤n→Lx.lex a i=.ok ts→Lx.lex (a++10 :: b) i=(Lx.lex b (i+a.length+1)).app ts
  | n,[],i,ts,_,h=>by
    rw [Lx.lex_nil] at h
    injection h with h
    subst h
    rw [List.nil_append,Lx.lex_cons,if_pos (by decide),Lx.Res.app_nil]
    rfl
  | 0,c :: r,i,ts,hn,h=>by simp at hn
  | n+1,c :: r,i,ts,hn,h=>by
    have hr:r.length≤n:=by simpa using hn
    have hd:∀ p:UInt8→Bool,(r++10 :: b).drop (r.takeWhile p).length=r.drop (r.takeWhile p).length++10 :: b:=fun p=>List.drop_append_of_le_length (Lx.takeWhile_le p r)
    have hh:((r++10 :: b).head?=some 47)=(r.head?=some 47):=by cases r <;> simp
    have key:∀ (p:UInt8→Bool) (us:List Lx.Tok),Lx.lex (r.drop (r.takeWhile p).length) (i+1+(r.takeWhile p).length)=.ok us →
        Lx.lex (r.drop (r.takeWhile p).length++10 :: b) (i+1+(r.takeWhile p).length)=(Lx.lex b (i+(c :: r).length+1)).app us:=by
      intro p us hu
      have hle:=Lx.takeWhile_le p r
      rw [lex_line b n _ _ us (by rw [List.length_drop]; omega) hu,List.length_drop,List.length_cons,show i+1+(r.takeWhile p).length+(r.length - (r.takeWhile p).length)+1=i+(r.length+1)+1 by omega]
    rw [List.cons_append,Lx.lex_cons,takeWhile_stop (p:=Lx.inLine) (by decide),takeWhile_stop (p:=Lx.good) (by decide),hd,hd]
    rw [Lx.lex_cons] at h
    by_cases h4:Lx.cl c=4
    · rw [if_pos h4] at h ⊢
      rw [lex_line b n r _ ts hr h,List.length_cons,show i+1+r.length+1=i+(r.length+1)+1 by omega]
    rw [if_neg h4] at h ⊢
    by_cases h47:c=47∧r.head?=some 47
    · rw [if_pos h47] at h
      rw [if_pos (show c=47∧(r++10 :: b).head?=some 47 from ⟨h47.1,by rw [hh]; exact h47.2⟩)]
      exact key _ _ h
    rw [if_neg h47] at h
    rw [if_neg (show ¬(c=47∧(r++10 :: b).head?=some 47) from fun e=>h47 ⟨e.1,by rw [←hh]; exact e.2⟩)]
    by_cases h1:Lx.cl c=1
    · rw [if_pos h1] at h ⊢
      cases hx:Lx.lex (r.drop (r.takeWhile Lx.good).length) (i+1+(r.takeWhile Lx.good).length) with
      | bad j=>rw [hx] at h; cases h
      | ok us =>
        rw [hx] at h
        have h:Lx.Res.ok ([⟨1,c :: r.takeWhile Lx.good,i⟩]++us)=.ok ts:=h
        injection h with h
        rw [key _ _ hx,Lx.Res.app_app,h]
    rw [if_neg h1] at h ⊢
    by_cases hs:Lx.sgn c=true
    · rw [if_pos hs] at h ⊢
      cases hx:Lx.lex r (i+1) with
      | bad j=>rw [hx] at h; cases h
      | ok us =>
        rw [hx] at h
        have h:Lx.Res.ok ([⟨2,[c],i⟩]++us)=.ok ts:=h
        injection h with h
        rw [lex_line b n r _ us hr hx,Lx.Res.app_app,h,List.length_cons,show i+1+r.length+1=i+(r.length+1)+1 by omega]
    rw [if_neg hs] at h
    cases h
theorem alike_text:∀ {a b:List Lx.Tok},Lx.alike a b→a.map Lx.Tok.text=b.map Lx.Tok.text
  | [],[],_=>rfl
  | _ :: _,_ :: _,⟨h1,h2⟩=>by rw [List.map_cons,List.map_cons,h1.2,alike_text h2]
  | [],_ :: _,h=>h.elim
  | _ :: _,[],h=>h.elim
theorem lexes_line {a:List UInt8} {ts:List Lx.Tok} (h:Lx.lex a 0=.ok ts):Lexes false (a++[10]) (ts.map Lx.Tok.text):=by
  intro r i _
  have hn:=Lx.lex_near a 0 i
  rw [h] at hn
  cases hx:Lx.lex a i with
  | bad j=>rw [hx] at hn; exact hn.elim
  | ok us =>
    rw [hx] at hn
    refine ⟨us,?_,(alike_text hn).symm,(Lx.lex_right hx).1⟩
    rw [List.append_assoc,List.singleton_append,lex_line r _ a i us (Nat.le_refl _) hx,List.length_append,List.length_singleton,Nat.add_assoc]
theorem tk_text (t:Lx.Tok):(tk t).s.data.toList=t.text:=by simp [tk]
/-- What a text says of the kind of its token. -/
theorem right_kind {t u:Lx.Tok} (ht:t.right) (hu:u.right) (h:t.text=u.text):t.kind=u.kind∧t.kind≠3:=by
  rcases ht with ⟨k1,c,r,e1,hc,-⟩ | ⟨k1,c,e1,hc⟩
  · rcases hu with ⟨k2,_⟩ | ⟨k2,c2,e2,hc2⟩
    · exact ⟨k1.trans k2.symm,by omega⟩
    rw [e1,e2] at h
    injection h with h _
    subst h
    exact absurd hc (Lx.cl_sgn hc2).2.1
  rcases hu with ⟨k2,c2,r,e2,hc2,-⟩ | ⟨k2,_⟩
  · rw [e1,e2] at h
    injection h with h _
    subst h
    exact absurd hc2 (Lx.cl_sgn hc).2.1
  exact ⟨k1.trans k2.symm,by omega⟩
theorem right_no3 {t:Lx.Tok} (ht:t.right):t.kind≠3:=(right_kind ht ht rfl).2
theorem alk_map {z y:List Tk} (hz:Stopper z) (hy:Stopper y):∀ {ts us:List Lx.Tok},(∀ t∈ts,t.right)→(∀ t∈us,t.right)→ts.map Lx.Tok.text=us.map Lx.Tok.text→Alk z y (ts.map tk++z) (us.map tk++y)
  | [],[],_,_,_=>.stop hz hy
  | [],_ :: _,_,_,h=>by cases h
  | _ :: _,[],_,_,h=>by cases h
  | t :: ts,u :: us,h1,h2,h=>by
    rw [List.map_cons,List.map_cons] at h
    injection h with h3 h4
    obtain ⟨k1,k2⟩:=right_kind (h1 t (by simp)) (h2 u (by simp)) h3
    exact .cons k2 k1 (by rw [tk_text,tk_text,h3]) (alk_map hz hy (fun x hx=>h1 x (by simp [hx])) (fun x hx=>h2 x (by simp [hx])) h4)
theorem stopper_end (n:Int):Stopper [⟨3,⟨#[]⟩,n⟩]:=⟨_,_,rfl,.inl ⟨rfl,rfl⟩⟩
theorem left_lex {s:ByteArray} {ts:List Lx.Tok}:left s 0=.ok ts ↔ Lx.lex s.data.toList 0=.ok ts:=by unfold left; rw [List.drop_zero]

/-! ### the joined text -/
theorem lexes_join:∀ (ts:List Lx.Tok),(∀ t∈ts,t.right)→Lexes true (Lx.joinL ts) (ts.map Lx.Tok.text)
  | [],_=>lexes_nil.weak
  | [t],h=>by
    rcases h t (by simp) with ⟨hk,c,r,ht,hc,hr⟩ | ⟨hk,c,ht,hc⟩
    · show Lexes true t.text [t.text]
      rw [ht]
      exact lexes_word hc hr
    show Lexes true t.text [t.text]
    rw [ht]
    exact (lexes_sign hc).weak
  | t :: u :: l,h=>by
    have ih:=lexes_join (u :: l) (fun x hx=>h x (by simp only [List.mem_cons] at hx ⊢; exact .inr hx))
    have h32:=Lexes.cat (lexes_blank (c:=32) (by decide)) ih (fun hc=>by cases hc)
    have hcut:Cut ([32]++Lx.joinL (u :: l)):=⟨32,Lx.joinL (u :: l),rfl,by decide⟩
    rcases h t (by simp) with ⟨hk,c,r,ht,hc,hr⟩ | ⟨hk,c,ht,hc⟩
    · show Lexes true (t.text++([32]++Lx.joinL (u :: l))) ([t.text]++([]++(u :: l).map Lx.Tok.text))
      rw [ht]
      exact Lexes.cat (lexes_word hc hr) h32 (fun _=>hcut)
    show Lexes true (t.text++([32]++Lx.joinL (u :: l))) ([t.text]++([]++(u :: l).map Lx.Tok.text))
    rw [ht]
    exact Lexes.cat (lexes_sign hc) h32 (fun hc=>by cases hc)
/-- A space and a comment up to the end of the text. -/
def endText:List UInt8:=[32,47,47,32,101,110,100]
theorem lex_endText (i:Nat):Lx.lex endText i=.ok []:=by
  unfold endText
  rw [Lx.lex_cons,if_pos (by decide),Lx.lex_cons,if_neg (by decide),if_pos ⟨rfl,rfl⟩]
  rfl
theorem lex_joinE (ts:List Lx.Tok) (h:∀ t∈ts,t.right):∃ us,Lx.lex (Lx.joinL ts++endText) 0=.ok us∧us.map Lx.Tok.text=ts.map Lx.Tok.text∧∀ t∈us,t.right:=by
  obtain ⟨us,h1,h2,h3⟩:=lexes_join ts h endText 0 (fun _ c hc=>by
    simp only [endText,List.head?_cons,Option.some.injEq] at hc
    subst hc
    decide)
  rw [lex_endText] at h1
  exact ⟨us,by rw [h1]; show Lx.Res.ok (us++[])=_; rw [List.append_nil],h2,h3⟩
/-- A text and the text of its tokens are read ls the same program,or neither is one. -/
theorem prog_join {s a:ByteArray} {ts:List Lx.Tok} (hl:left s 0=.ok ts) (ha:a.data.toList=Lx.joinL ts++endText) :
    (∃ p q,pgO s=.good p∧pgO a=.good q∧Pg.sameX false p q=true)∨(∃ i j,pgO s=.err 2 i∧pgO a=.err 2 j):=by
  have hr:=(Lx.lex_right (left_lex.1 hl)).1
  obtain ⟨us,h1,h2,h3⟩:=lex_joinE ts hr
  rw [←ha] at h1
  have hla:left a 0=.ok us:=left_lex.2 h1
  have hA:Alk _ _ (full ts s.size) (full us a.size):=alk_map (stopper_end _) (stopper_end _) hr h3 h2.symm
  have hG:=progR_alk rfl rfl hA
  have ep:pgO s=endO (progR (full ts s.size)):=by rw [pgO_eq]; unfold wholeO; rw [hl]
  have eq:pgO a=endO (progR (full us a.size)):=by rw [pgO_eq]; unfold wholeO; rw [hla]
  rw [ep,eq]
  cases hp:progR (full ts s.size) with
  | ok p x =>
    cases hq:progR (full us a.size) with
    | ok q x' =>
      rw [hp,hq] at hG
      have hk:kind x=kind x':=by
        cases hG.2 with
        | cons _ hk _ _=>exact hk
        | stop _ _=>rfl
      show (∃ p' q',(if kind x=3 then Out.good p else .err 2 (off x))=.good p'∧(if kind x'=3 then Out.good q else .err 2 (off x'))=.good q'∧_)∨∃ i j,(if kind x=3 then Out.good p else .err 2 (off x))=.err 2 i∧(if kind x'=3 then Out.good q else .err 2 (off x'))=.err 2 j
      rw [hk]
      split
      · exact .inl ⟨p,q,rfl,rfl,hG.1⟩
      exact .inr ⟨off x,off x',rfl,rfl⟩
    | bad x'=>rw [hp,hq] at hG; exact hG.elim
  | bad x =>
    cases hq:progR (full us a.size) with
    | ok q x'=>rw [hp,hq] at hG; exact hG.elim
    | bad x'=>exact .inr ⟨off x,off x',rfl,rfl⟩

/-! ### declarations,one behind the other -/
/-- The texts of the tokens of a text. -/
def texts (a:ByteArray):List (List UInt8):=match Lx.lex a.data.toList 0 with
  | .ok ts=>ts.map Lx.Tok.text
  | .bad _=>[]
/-- Of a declaration's text: its tokens,and what is read. -/
theorem dc_got {a:ByteArray} {d:Dc} (h:dcO a=.good d):∃ us q,Lx.lex a.data.toList 0=.ok us∧(∀ t∈us,t.right)∧texts a=us.map Lx.Tok.text∧declR (us.map tk++[⟨3,⟨#[]⟩,a.size⟩])=.ok d q∧kind q=3:=by
  rw [dcO_eq] at h
  unfold wholeO at h
  cases hl:left a 0 with
  | bad i=>rw [hl] at h; cases h
  | ok us =>
    rw [hl] at h
    have h:endO (declR (full us a.size))=.good d:=h
    have hx:=left_lex.1 hl
    cases hp:declR (full us a.size) with
    | bad x=>rw [hp] at h; cases h
    | ok d' q =>
      rw [hp] at h
      have h:(if kind q=3 then Out.good d' else .err 2 (off q))=.good d:=h
      split at h
      · injection h with h
        subst h
        exact ⟨us,q,hx,(Lx.lex_right hx).1,by rw [texts,hx],hp,by assumption⟩
      cases h
theorem decl_head {l:List Tk} {d:Dc} {q:List Tk} (h:declR l=.ok d q):(isT wFunc l=true∧methodR l=.ok d q)∨(isT wType l=true∧typedR l=.ok d q):=by
  unfold declR at h
  split at h
  · rename_i hT
    exact .inl ⟨hT,h⟩
  obtain ⟨_,_,h1,_⟩:=bind_got h
  exact .inr ⟨(must_got h1).1,h⟩
theorem isT_stopper {s:List UInt8} (hs:s=wType∨s=wFunc) {l:List Tk} (h:isT s l=true):Stopper l:=by
  obtain ⟨t,r,rfl,hk,hs'⟩:=isT_cons h
  exact ⟨t,r,rfl,.inr ⟨hk,by rw [hs']; exact hs⟩⟩
theorem declsR_concat {z:List Tk} (hz1:isT wFunc z=true) (hz2:isT wMain z.tail=true):∀ (ls:List ByteArray) (ds:List Dc),AllR (fun a d=>dcO a=.good d) ls ds→∀ (n:Nat) (acc:List Dc) (ts:List Lx.Tok),(∀ t∈ts,t.right) →
    ts.map Lx.Tok.text=ls.flatMap texts→(ts.map tk++z).length < n→∃ es,declsR n acc (ts.map tk++z)=.ok (acc++es) z∧AllR DR es ds∧Stopper (ts.map tk++z)
  | _,_,.nil,0,acc,ts,_,_,hn=>by omega
  | _,_,.nil,n+1,acc,ts,_,h,_=>by
    cases ts with
    | cons t r=>cases h
    | nil =>
      refine ⟨[],?_,.nil,isT_stopper (.inr rfl) hz1⟩
      show declsR (n+1) acc z=_
      rw [declsR,isT_one hz1 (by decide),hz1,hz2,List.append_nil]
      rfl
  | _,_,.cons _ _,0,acc,ts,_,_,hn=>by omega
  | a :: ls,d :: ds,.cons hd hr,n+1,acc,ts,ht,h,hn=>by
    obtain ⟨us,q,hx,hu,htx,hg,hk⟩:=dc_got hd
    rw [List.flatMap_cons,htx,List.map_eq_append_iff] at h
    obtain ⟨t1,t2,rfl,h1,h2⟩:=h
    have hr1:∀ t∈t1,t.right:=fun t h=>ht t (List.mem_append.2 (.inl h))
    have hr2:∀ t∈t2,t.right:=fun t h=>ht t (List.mem_append.2 (.inr h))
    have hw:∀ m acc,(t2.map tk++z).length < m→∃ es,declsR m acc (t2.map tk++z)=.ok (acc++es) z∧AllR DR es ds∧Stopper (t2.map tk++z):=fun m acc hm=>declsR_concat hz1 hz2 ls ds hr m acc t2 hr2 h2 hm
    obtain ⟨_,_,_,hst⟩:=hw _ [] (Nat.lt_succ_self _)
    have hA:Alk (t2.map tk++z) [⟨3,⟨#[]⟩,(a.size:Int)⟩] (t1.map tk++(t2.map tk++z)) (us.map tk++[⟨3,⟨#[]⟩,(a.size:Int)⟩]):=alk_map hst (stopper_end _) hr1 hu h1
    have he:(t1++t2).map tk++z=t1.map tk++(t2.map tk++z):=by rw [List.map_append,List.append_assoc]
    have hlen:(t2.map tk++z).length < n∨t1=[]:=by
      cases t1 with
      | nil=>exact .inr rfl
      | cons t r=>left; simp only [List.length_append,List.length_map,List.length_cons] at hn ⊢; omega
    have hne:t1≠[]:=by
      rintro rfl
      have hus:us=[]:=by cases us with
        | nil=>rfl
        | cons _ _=>cases h1
      subst hus
      rcases decl_head hg with ⟨h,_⟩ | ⟨h,_⟩
      · cases h
      cases h
    have hlen:=hlen.resolve_right hne
    have done:∀ (g:Got Dc),GR (t2.map tk++z) [⟨3,⟨#[]⟩,(a.size:Int)⟩] DR g (.ok d q)→∃ d',g=.ok d' (t2.map tk++z)∧DR d' d:=by
      intro g hg
      cases g with
      | bad x=>exact hg.elim
      | ok d' x=>exact ⟨d',by rw [(hg.2.at_end hk).1],hg.1⟩
    rw [he]
    rcases decl_head hg with ⟨hT,hm⟩ | ⟨hT,hm⟩
    · have hT1:=must_yes_alk rfl hA hT
      have hG:=methodR_alk rfl hA hT
      rw [hm] at hG
      obtain ⟨d',e',hdd⟩:=done _ hG
      have h40:isT [40] (us.map tk++([⟨3,⟨#[]⟩,(a.size:Int)⟩]:List Tk)).tail=true:=by
        rw [methodR,must_yes hT,bind_ok] at hm
        obtain ⟨u1,p1,hm1,hm2⟩:=bind_got hm
        exact (must_got hm1).1
      have hA2:=(Alk.next hA (Or.inr ⟨⟨wFunc,hT⟩,rfl⟩)).1
      have h41:isT wMain (t1.map tk++(t2.map tk++z)).tail=false:=isT_one (s:=[40]) (t:=wMain) (must_yes_alk rfl hA2 h40) (by decide)
      obtain ⟨es,g1,g2,g3⟩:=hw n (acc++[d']) hlen
      refine ⟨d' :: es,?_,.cons hdd g2,isT_stopper (.inr rfl) hT1⟩
      rw [declsR,isT_one hT1 (by decide),hT1,h41,if_neg (by decide),if_pos (by rfl),e',bind_ok,g1,List.append_assoc]
      rfl
    have hT1:=must_yes_alk rfl hA hT
    have hG:=typedR_alk rfl hA hT
    rw [hm] at hG
    obtain ⟨d',e',hdd⟩:=done _ hG
    obtain ⟨es,g1,g2,g3⟩:=hw n (acc++[d']) hlen
    refine ⟨d' :: es,?_,.cons hdd g2,isT_stopper (.inl rfl) hT1⟩
    rw [declsR,hT1,if_pos rfl,e',bind_ok,g1,List.append_assoc]
    rfl
def pkgText:List UInt8:=[112,97,99,107,97,103,101,32,109,97,105,110,59]
def finText:List UInt8:=[102,117,110,99,32,109,97,105,110,40,41,32,123,32,95,32,61,32,120,32,125]
def catText (ls:List ByteArray):List UInt8:=pkgText++ls.flatMap fun a=>10 :: (a.data.toList++[10])
theorem lexes_pkg:Lexes false pkgText [wPackage,wMain,[59]] :=
  Lexes.cat (lexes_word (c:=112) (r:=[97,99,107,97,103,101]) (by decide) (by decide)) (Lexes.cat (lexes_blank (c:=32) (by decide)) (Lexes.cat (lexes_word (c:=109) (r:=[97,105,110]) (by decide) (by decide)) (lexes_sign (c:=59) (by decide)) (fun _=>⟨_,_,rfl,by decide⟩)) (fun h=>by cases h)) (fun _=>⟨_,_,rfl,by decide⟩)
theorem lexes_fin:Lexes false finText [wFunc,wMain,[40],[41],[123],[95],[61],[120],[125]] :=
  Lexes.cat (lexes_word (c:=102) (r:=[117,110,99]) (by decide) (by decide)) (Lexes.cat (lexes_blank (c:=32) (by decide)) (Lexes.cat (lexes_word (c:=109) (r:=[97,105,110]) (by decide) (by decide)) (Lexes.cat (lexes_sign (c:=40) (by decide)) (Lexes.cat (lexes_sign (c:=41) (by decide))
    (Lexes.cat (lexes_blank (c:=32) (by decide)) (Lexes.cat (lexes_sign (c:=123) (by decide)) (Lexes.cat (lexes_blank (c:=32) (by decide)) (Lexes.cat (lexes_sign (c:=95) (by decide)) (Lexes.cat (lexes_blank (c:=32) (by decide)) (Lexes.cat (lexes_sign (c:=61) (by decide))
    (Lexes.cat (lexes_blank (c:=32) (by decide)) (Lexes.cat (lexes_word (c:=120) (r:=[]) (by decide) (by decide)) (Lexes.cat (lexes_blank (c:=32) (by decide)) (lexes_sign (c:=125) (by decide))
    (fun h=>by cases h)) (fun _=>⟨_,_,rfl,by decide⟩)) (fun h=>by cases h)) (fun h=>by cases h)) (fun h=>by cases h)) (fun h=>by cases h)) (fun h=>by cases h)) (fun h=>by cases h)) (fun h=>by cases h)) (fun h=>by cases h)) (fun h=>by cases h)) (fun _=>⟨_,_,rfl,by decide⟩)) (fun h=>by cases h)) (fun _=>⟨_,_,rfl,by decide⟩)
theorem lexes_cat:∀ (ls:List ByteArray) (ds:List Dc),AllR (fun a d=>dcO a=.good d) ls ds→Lexes false (ls.flatMap fun a=>10 :: (a.data.toList++[10])) (ls.flatMap texts)
  | _,_,.nil=>lexes_nil
  | a :: ls,d :: ds,.cons hd hr=>by
    obtain ⟨us,q,hx,hu,htx,hg,hk⟩:=dc_got hd
    rw [List.flatMap_cons,List.flatMap_cons,htx]
    exact Lexes.cat (Lexes.cat (lexes_blank (c:=10) (by decide)) (lexes_line hx) (fun h=>by cases h)) (lexes_cat ls ds hr) (fun h=>by cases h)
theorem isT_of {s:List UInt8} {t:Lx.Tok} (ht:t.right) (h:t.text=s) (r:List Tk):isT s (tk t :: r)=true:=by
  show (!(t.kind == 3)&&((tk t).s.data.toList == s))=true
  rw [tk_text,h,Bool.and_eq_true]
  exact ⟨by simpa using right_no3 ht,by simp⟩
theorem allF_map (z:List Tk):∀ (ws:List (List UInt8)) (ts:List Lx.Tok),(∀ t∈ts,t.right)→ts.map Lx.Tok.text=ws→allF ws (ts.map tk++z)=.ok () z
  | [],[],_,_=>rfl
  | [],_ :: _,_,h=>by cases h
  | _ :: _,[],_,h=>by cases h
  | w :: ws,t :: ts,ht,h=>by
    rw [List.map_cons] at h
    injection h with h1 h2
    rw [allF,List.map_cons,List.cons_append,must_yes (isT_of (ht t (by simp)) h1 _),bind_ok]
    exact allF_map z ws ts (fun x hx=>ht x (by simp [hx])) h2
theorem exA_var {v:Tk} {q:List Tk} (hv:nameB v=true) (h1:isT [91] q=false) (h2:isT [123] q=false) (h3:isT [46] q=false):exA (v :: q)=.ok (exVar v.s v.o) q:=by
  unfold exA
  rw [show 2 * (v :: q).length+2=(2 * q.length+2)+1+1 by simp only [List.length_cons]; omega,exF_succ,firstF,firstG,tyF_succ,name,if_pos hv,bind_ok,targsF,targsG,h1,if_neg (by decide),bind_ok,bind_ok]
  show Got.bind (if (true&&!isT [123] q)=true then _ else _) _=_
  rw [h2,if_pos (by rfl),bind_ok,restsF_succ,h3,if_neg (by decide)]
  rfl
/-- Texts of declarations,one behind the other,are a program with these declarations. -/
theorem prog_concat {ls:List ByteArray} {ds:List Dc} (h:AllR (fun a d=>dcO a=.good d) ls ds) {s:ByteArray} (hs:s.data.toList=catText ls++finText) :
    ∃ es o,pgO s=.good ⟨es,exVar ⟨#[120]⟩ o⟩∧AllR DR es ds:=by
  obtain ⟨ts,h1,h2,h3⟩:=Lexes.cat (Lexes.cat lexes_pkg (lexes_cat ls ds h) (fun h=>by cases h)) lexes_fin (fun h=>by cases h) [] 0 (fun h=>by cases h)
  rw [List.append_nil,Lx.lex_nil] at h1
  have h1:Lx.lex (catText ls++finText) 0=.ok (ts++[]):=h1
  rw [List.append_nil,←hs] at h1
  have hl:left s 0=.ok ts:=left_lex.2 h1
  rw [List.map_eq_append_iff] at h2
  obtain ⟨t12,t3,rfl,h4,h5⟩:=h2
  rw [List.map_eq_append_iff] at h4
  obtain ⟨t1,t2,rfl,h6,h7⟩:=h4
  rw [show ([wFunc,wMain,[40],[41],[123],[95],[61],[120],[125]]:List (List UInt8))=[wFunc,wMain,[40],[41],[123],[95],[61]]++[[120],[125]] from rfl,List.map_eq_append_iff] at h5
  obtain ⟨t4,t5,rfl,h8,h9⟩:=h5
  have r1:∀ t∈t1,t.right:=fun t ht=>h3 t (by simp [ht])
  have r2:∀ t∈t2,t.right:=fun t ht=>h3 t (by simp [ht])
  have r4:∀ t∈t4,t.right:=fun t ht=>h3 t (by simp [ht])
  have r5:∀ t∈t5,t.right:=fun t ht=>h3 t (by simp [ht])
  obtain ⟨v,c,rfl,hv,hc⟩:∃ v c,t5=[v,c]∧v.text=[120]∧c.text=[125]:=by
    cases t5 with
    | nil=>cases h9
    | cons v t5 =>
      cases t5 with
      | nil=>simp at h9
      | cons c t6 =>
        rw [List.map_cons,List.map_cons] at h9
        rw [List.cons.injEq,List.cons.injEq,List.map_eq_nil_iff] at h9
        obtain ⟨e1,e2,rfl⟩:=h9
        exact ⟨v,c,rfl,e1,e2⟩
  obtain ⟨f,m,tr,rfl,hf,hm⟩:∃ f m tr,t4=f :: m :: tr∧f.text=wFunc∧m.text=wMain:=by
    cases t4 with
    | nil=>cases h8
    | cons f t4 =>
      cases t4 with
      | nil=>simp at h8
      | cons m tr =>
        rw [List.map_cons,List.map_cons] at h8
        rw [List.cons.injEq,List.cons.injEq] at h8
        obtain ⟨e1,e2,-⟩:=h8
        exact ⟨f,m,tr,rfl,e1,e2⟩
  generalize hE:([⟨3,⟨#[]⟩,(s.size:Int)⟩]:List Tk)=E
  have hfull:full (t1++t2++(f :: m :: tr++[v,c])) s.size=t1.map tk++(t2.map tk++((f :: m :: tr).map tk++(tk v :: tk c :: E))):=by
    rw [full,←hE]
    simp only [List.map_append,List.append_assoc,List.map_cons,List.map_nil,List.cons_append,List.nil_append]
  obtain ⟨es,g1,g2,-⟩:=declsR_concat (z:=(f :: m :: tr).map tk++(tk v :: tk c :: E)) (isT_of (r4 f (by simp)) hf _) (isT_of (r4 m (by simp)) hm _) ls ds h _ [] t2 r2 h7 (Nat.lt_succ_self _)
  have hb:nameB (tk v)=true:=by rw [nameB,tk_text,hv]; decide
  have hcc:isT [125] (tk c :: E)=true:=isT_of (r5 c (by simp)) hc _
  have hp:progR (full (t1++t2++(f :: m :: tr++[v,c])) s.size)=.ok ⟨es,exVar (tk v).s (tk v).o⟩ E:=by
    rw [hfull,progR,allF_map _ _ t1 r1 h6,bind_ok,g1,bind_ok,allF_map _ _ (f :: m :: tr) r4 h8,bind_ok,exA_var hb (isT_one hcc (by decide)) (isT_one hcc (by decide)) (isT_one hcc (by decide)),bind_ok,must_yes hcc,bind_ok]
    rfl
  refine ⟨es,(tk v).o,?_,g2⟩
  rw [pgO_eq]
  unfold wholeO
  rw [hl]
  show endO (progR (full (t1++t2++(f :: m :: tr++[v,c])) s.size))=_
  rw [hp,←hE,show (tk v).s=(⟨#[120]⟩:ByteArray) by show (⟨v.text.toArray⟩:ByteArray)=_; rw [hv]]
  rfl
theorem dr_all {es ds:List Dc} (h:AllR DR es ds):sameBy (Dc.sameX false) es ds=true:=AllR.sameBy h
end Go.Proofs.YtjplpblehccigaaGreatDoor.Rd
