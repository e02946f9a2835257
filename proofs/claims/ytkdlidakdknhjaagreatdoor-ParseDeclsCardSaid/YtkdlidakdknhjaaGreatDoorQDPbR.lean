/- Layer 8's reference in plain words, and that it reads what the program reads: no token that is no end has an empty text.
Tokens that are alike, but for their offsets, are read as the same; and so is what is ahead of an end, if a declaration follows there instead. No program, no condition. -/
import Derived.Test.YtkdlidakdknhjaaGreatDoorQDPaJ
namespace Go.Proofs.YtkdlidakdknhjaaGreatDoor.Rd
def Full (l:List Tk):Prop:=∀ t∈l,t.k≠3→t.s.data.toList≠[]
theorem Full.suffix {l q:List Tk} (h:Full l) (hq:q <:+ l):Full q:=fun t ht=>h t (hq.subset ht)
theorem Full.tail {l:List Tk} (h:Full l):Full l.tail:=h.suffix (List.tail_suffix l)
theorem Full.isT {l:List Tk} (h:Full l):isT [] l=false:=by
  cases l with
  | nil=>rfl
  | cons t r =>
    have h1:=h t (List.mem_cons_self ..)
    show (!(t.k==3)&&(t.s.data.toList==[]))=false
    by_cases hk:t.k=3
    · rw [hk];rfl
    have h2:=h1 hk
    rw [Bool.and_eq_false_iff]
    exact .inr (by simpa using h2)
theorem must_no {s:List UInt8} {l:List Tk} (h:isT s l=false):must s l=.bad l:=by rw [must,h];rfl
theorem must_yes {s:List UInt8} {l:List Tk} (h:isT s l=true):must s l=.ok () l.tail:=by rw [must,h];rfl
theorem isT_one {s t:List UInt8} {l:List Tk} (h:isT s l=true) (hne:s≠t):isT t l=false:=by
  obtain ⟨a,r,rfl,hk,hs⟩:=isT_cons h
  show (!(a.k==3)&&(a.s.data.toList==t))=false
  rw [hs,Bool.and_eq_false_iff]
  exact .inr (by simpa using hne)
theorem bind_congr {α β:Type} {l:List Tk} {g:Got α} (he:Got.Ends l g) {f f':α→List Tk→Got β} (h:∀ u q,q <:+ l→f u q=f' u q):Got.bind g f=Got.bind g f':=by
  cases g with
  | ok u q=>exact h u q he
  | bad q=>rfl
def bodyR (l:List Tk):Got Dc:=if isT wInter l then interF l.tail else Got.bind (must wStruct l) fun _ q=>structF q
def typeDeclR (l:List Tk):Got Dc:=Got.bind (name l) fun t q=>Got.bind (bracketsG foF q) fun fs q=>Got.bind (bodyR q) fun d q=>Got.bind (must [59] q) fun _ q=>.ok { d with name:=t.s,off:=t.o,fs:=fs } q
def typedR (l:List Tk):Got Dc:=Got.bind (must wType l) fun _ q=>typeDeclR q
def methodR (l:List Tk):Got Dc:=Got.bind (must wFunc l) fun _ q=>methodF q
def declR (l:List Tk):Got Dc:=if isT wFunc l then methodR l else typedR l
theorem body_eq {l:List Tk} (h:Full l):chooseF wStruct structF wInter interF l=bodyR l:=by
  unfold chooseF bodyR
  cases hs:isT wStruct l
  · cases hi:isT wInter l
    · simp only [Bool.false_eq_true,if_false]
      rw [must_no h.isT,must_no hs]
      rfl
    rfl
  rw [isT_one hs (by decide),must_yes hs]
  rfl
theorem typeDecl_eq {l:List Tk} (h:Full l):typeDeclF l=typeDeclR l :=
  bind_congr (Less.ends (name_less l)) fun _ _ h1=>bind_congr (bracketsG_ends foF_less _) fun _ _ h2=>by rw [body_eq (h.suffix (h2.trans h1))]
theorem decl_eq {l:List Tk} (h:Full l):declF l=declR l:=by
  unfold declF declR chooseF
  cases ht:isT wType l
  · cases hf:isT wFunc l
    · simp only [Bool.false_eq_true,if_false]
      rw [typedR,must_no h.isT,must_no ht]
      rfl
    simp only [Bool.false_eq_true,if_false,if_true]
    rw [methodR,must_yes hf]
    rfl
  rw [isT_one ht (by decide),typedR,must_yes ht,if_pos rfl,bind_ok,typeDecl_eq h.tail]
  rfl
theorem full_full {s:ByteArray} {ts:List Lx.Tok} (hl:left s 0=.ok ts):Full (full ts s.size):=by
  have hl2:Lx.lex s.data.toList 0=.ok ts:=by unfold left at hl;rwa [List.drop_zero] at hl
  intro t ht hk
  rw [full,List.mem_append,List.mem_map,List.mem_singleton] at ht
  rcases ht with ⟨x,hx,rfl⟩ | rfl
  · show x.text.toArray.toList≠[]
    rw [List.toList_toArray]
    rcases (Lx.lex_right hl2).1 x hx with ⟨_,h⟩ | ⟨_,c,h,_⟩
    · rintro h2
      rw [h2] at h
      simp at h
    rw [h];simp
  exact absurd rfl hk
theorem dcO_eq (s:ByteArray):dcO s=wholeO declR s:=by
  unfold dcO wholeO
  cases hl:left s 0 with
  | bad i=>rfl
  | ok ts=>show endO _=endO _;rw [decl_eq (full_full hl)]
variable {z y:List Tk}
def TR (t u:Ty):Prop:=Ty.cmp t u=0
