/- The plain words of layer 3 on lists of bytes: the tokens of a text; they do not hang on what stands in front; those of a joined text are the same. No condition.
The walks of the small functions of layer 3's reference, and of layer 1's classes: what each returns in the plain words of LxPure. No condition beyond the sizes that each names.
Slices of tokens: what one is in memory; the walks of plain, and of the reference's Same, Alike and Join.
Reading types and expressions from tokens, in plain words: what is read, or where it stops. No program, no condition. -/
import Derived.Test.YtkdlidakdknhjaaGreatDoorQDEfC
import Derived.WalkSpells
import Derived.WalkLawsBesides
import Derived.OwnWalk
import Derived.Laws.AppendOwn
import Derived.Laws.OwnMore
import Derived.Laws.NewBlocks
import Derived.Outline
import Derived.Deep.AppendLies
import Derived.Laws.Rows
set_option maxHeartbeats 1000000
open Go.Lib (hid)
namespace Go.Proofs.YtkdlidakdknhjaaGreatDoor.Lx
def cls (c:Int):Int :=
  if (65≤c∧c≤90)∨(97≤c∧c≤122) then 1
  else if 48≤c∧c≤57 then 2
  else if c=95 then 3
  else if c=9∨c=10∨c=13∨c=32 then 4 else 0
def cl (c:UInt8):Int:=cls c.toNat
def good (c:UInt8):Bool:=decide (0<cl c)&&decide (cl c<4)
def signs:List UInt8:=[40,41,91,93,123,125,46,44,59,61,95]
def sgn (c:UInt8):Bool:=signs.any (·==c)
def inLine (c:UInt8):Bool:=!(c==10)
structure Tok where
  kind:Int
  text:List UInt8
  off:Nat
inductive Res where
  | bad (n:Nat)
  | ok (l:List Tok)
def Res.app (out:List Tok):Res→Res
  | .bad n=>.bad n
  | .ok l=>.ok (out++l)
theorem Res.app_nil (r:Res):r.app []=r:=by cases r<;>rfl
theorem Res.app_app (a b:List Tok) (r:Res):(r.app b).app a=r.app (a++b):=by cases r<;>simp [Res.app]
def lexL:Nat→List UInt8→Nat→Res
  | 0,_,_=>.ok []
  | _+1,[],_=>.ok []
  | n+1,c :: r,i =>
    if cl c=4 then lexL n r (i+1)
    else if c=47∧r.head?=some 47 then lexL n (r.drop (r.takeWhile inLine).length) (i+1+(r.takeWhile inLine).length)
    else if cl c=1 then (lexL n (r.drop (r.takeWhile good).length) (i+1+(r.takeWhile good).length)).app [⟨1,c :: r.takeWhile good,i⟩]
    else if sgn c=true then (lexL n r (i+1)).app [⟨2,[c],i⟩]
    else .bad i
theorem lexL_fuel:∀ (n m:Nat) (l:List UInt8) (i:Nat),l.length≤n→l.length≤m→lexL n l i=lexL m l i
  | 0,0,_,_,_,_=>rfl
  | 0,m+1,l,i,h,_=>by
    obtain rfl:l=[]:=List.eq_nil_of_length_eq_zero (by omega)
    rfl
  | n+1,0,l,i,_,h=>by
    obtain rfl:l=[]:=List.eq_nil_of_length_eq_zero (by omega)
    rfl
  | n+1,m+1,[],i,_,_=>rfl
  | n+1,m+1,c :: r,i,h1,h2=>by
    have h1':r.length≤n:=by simp at h1;omega
    have h2':r.length≤m:=by simp at h2;omega
    unfold lexL
    rw [lexL_fuel n m r (i+1) h1' h2',lexL_fuel n m _ (i+1+(r.takeWhile inLine).length) (by rw [List.length_drop];omega) (by rw [List.length_drop];omega),
      lexL_fuel n m _ (i+1+(r.takeWhile good).length) (by rw [List.length_drop];omega) (by rw [List.length_drop];omega)]
def lex (l:List UInt8) (i:Nat):Res:=lexL l.length l i
theorem lex_eq {n:Nat} {l:List UInt8} (i:Nat) (h:l.length≤n):lexL n l i=lex l i:=lexL_fuel _ _ _ _ h (Nat.le_refl _)
theorem lex_nil (i:Nat):lex [] i=.ok []:=rfl
theorem lex_cons (c:UInt8) (r:List UInt8) (i:Nat):lex (c :: r) i =
    if cl c=4 then lex r (i+1)
    else if c=47∧r.head?=some 47 then lex (r.drop (r.takeWhile inLine).length) (i+1+(r.takeWhile inLine).length)
    else if cl c=1 then (lex (r.drop (r.takeWhile good).length) (i+1+(r.takeWhile good).length)).app [⟨1,c :: r.takeWhile good,i⟩]
    else if sgn c=true then (lex r (i+1)).app [⟨2,[c],i⟩]
    else .bad i:=by
  show lexL (r.length+1) (c :: r) i=_
  unfold lexL
  rw [lex_eq (n:=r.length) (i+1) (Nat.le_refl _),lex_eq (n:=r.length) _ (by rw [List.length_drop];omega),lex_eq (n:=r.length) _ (by rw [List.length_drop];omega)]
def Tok.same (a b:Tok):Prop:=a.kind=b.kind∧a.text=b.text
def Tok.right (t:Tok):Prop:=(t.kind=1∧∃ c r,t.text=c :: r∧cl c=1∧r.all good=true)∨(t.kind=2∧∃ c,t.text=[c]∧sgn c=true)
theorem all_takeWhile (p:UInt8→Bool):∀ l:List UInt8,(l.takeWhile p).all p=true
  | []=>rfl
  | c :: l=>by
    simp only [List.takeWhile_cons]
    split
    · rename_i h
      simp only [List.all_cons,h,all_takeWhile p l,Bool.and_self]
    rfl
def wide:List Tok→Nat
  | []=>0
  | t :: l=>t.text.length+1+wide l
theorem takeWhile_le (p:UInt8→Bool):∀ l:List UInt8,(l.takeWhile p).length≤l.length
  | []=>Nat.le_refl _
  | c :: l=>by
    have:=takeWhile_le p l
    simp only [List.takeWhile_cons]
    split<;>simp<;>omega
theorem lexL_right:∀ (n:Nat) (l:List UInt8) (i:Nat) (ts:List Tok),lexL n l i=.ok ts→(∀ t∈ts,t.right)∧wide ts≤2*l.length
  | 0,_,_,ts,h=>by
    have:ts=[]:=by simpa [lexL] using h.symm
    subst this
    exact ⟨by simp,by simp [wide]⟩
  | _+1,[],_,ts,h=>by
    have:ts=[]:=by simpa [lexL] using h.symm
    subst this
    exact ⟨by simp,by simp [wide]⟩
  | n+1,c :: r,i,ts,h=>by
    have hg:=takeWhile_le good r
    unfold lexL at h
    split at h
    · obtain ⟨h1,h2⟩:=lexL_right n _ _ _ h
      exact ⟨h1,by simp;omega⟩
    split at h
    · obtain ⟨h1,h2⟩:=lexL_right n _ _ _ h
      exact ⟨h1,by rw [List.length_drop] at h2;simp;omega⟩
    split at h
    · rename_i hc
      cases hr:lexL n (r.drop (r.takeWhile good).length) (i+1+(r.takeWhile good).length) with
      | bad k=>rw [hr] at h;cases h
      | ok us =>
        rw [hr] at h
        simp only [Res.app,Res.ok.injEq] at h
        obtain ⟨h1,h2⟩:=lexL_right n _ _ _ hr
        subst h
        refine ⟨fun t ht=>?_,?_⟩
        · simp only [List.cons_append,List.nil_append,List.mem_cons] at ht
          rcases ht with rfl | ht
          · exact .inl ⟨rfl,c,_,rfl,hc,all_takeWhile _ _⟩
          exact h1 t ht
        rw [List.length_drop] at h2
        simp only [List.cons_append,List.nil_append,wide,List.length_cons]
        omega
    split at h
    · rename_i hc
      cases hr:lexL n r (i+1) with
      | bad k=>rw [hr] at h;cases h
      | ok us =>
        rw [hr] at h
        simp only [Res.app,Res.ok.injEq] at h
        obtain ⟨h1,h2⟩:=lexL_right n _ _ _ hr
        subst h
        refine ⟨fun t ht=>?_,?_⟩
        · simp only [List.cons_append,List.nil_append,List.mem_cons] at ht
          rcases ht with rfl | ht
          · exact .inr ⟨rfl,c,rfl,hc⟩
          exact h1 t ht
        simp only [List.cons_append,List.nil_append,wide,List.length_cons,List.length_nil]
        omega
    cases h
theorem lex_right {l:List UInt8} {i:Nat} {ts:List Tok} (h:lex l i=.ok ts):(∀ t∈ts,t.right)∧wide ts≤2*l.length:=lexL_right _ _ _ _ h
theorem cl_sgn {c:UInt8} (h:sgn c=true):cl c≠4∧cl c≠1∧c≠47:=by
  simp only [sgn,signs,List.any_cons,List.any_nil,Bool.or_eq_true,beq_iff_eq,Bool.or_false] at h
  rcases h with h | h | h | h | h | h | h | h | h | h | h
  all_goals (subst h;refine ⟨?_,?_,?_⟩<;>decide)
theorem cl_word {c:UInt8} (h:cl c=1):c≠47:=by
  rintro rfl
  exact absurd h (by decide)
end Go.Proofs.YtkdlidakdknhjaaGreatDoor.Lx
namespace Go.Proofs.YtkdlidakdknhjaaGreatDoor
open Go.RowKit
theorem ref_class_any (c:Int) (h0:0≤c) (h1:c≤255) (w:World) :
    Calls Tryz.prog 64 #[.int .u8 c] w fun e w'=>e=.returned (.int .i64 (Lx.cls c))∧w=w':=by
  go_enter Tryz.func64,Tryz.ntmps64
  go_wp2
  all_goals
    go_ret
    refine ⟨ret_int ?_,rfl⟩
    try simp only [beq_iff_eq,beq_eq_false_iff_ne,ne_eq] at *
    unfold Lx.cls
    first | (exfalso;omega) | rfl | (repeat (first | rw [if_pos (by omega)] | rw [if_neg (by omega)]))
def signS:ByteArray:=⟨#[40,41,91,93,123,125,46,44,59,61,95]⟩
def NotYet (c:Int) (k:Nat):Prop:=∀ x∈Lx.signs.take k,(x.toNat:Int)≠c
def sgnI (c:Int):Bool:=Lx.signs.any fun x=>(x.toNat:Int)==c
theorem sgnI_hit {c:Int} {k:Nat} {x:UInt8} (hx:Lx.signs[k]?=some x) (h:(x.toNat:Int)=c):sgnI c=true:=by
  rw [sgnI,List.any_eq_true]
  exact ⟨x,List.mem_of_getElem? hx,by simpa using h⟩
theorem sgnI_none {c:Int} (h:NotYet c 11):sgnI c=false:=by
  rw [sgnI,List.any_eq_false]
  intro x hx
  simpa using h x hx
theorem notYet_step {c:Int} {k:Nat} {x:UInt8} (hx:Lx.signs[k]?=some x) (h:NotYet c k) (hne:(x.toNat:Int)≠c):NotYet c (k+1):=by
  intro y hy
  rw [List.take_add_one,hx] at hy
  simp only [Option.toList_some,List.mem_append,List.mem_singleton] at hy
  rcases hy with hy | rfl
  · exact h y hy
  exact hne
theorem ref_sign_any (c:Int) (w:World) :
    Calls Tryz.prog 100 #[.int .u8 c] w fun e w'=>e=.returned (.bool (sgnI c))∧w=w':=by
  go_enter Tryz.func100,Tryz.ntmps100
  go_wp2_with fail
  obtain ⟨S,hS⟩:∃ S,S=signS:=⟨_,rfl⟩
  have hz:S.size=11:=by rw [hS];rfl
  have hx:∀ (k:Nat) (hk:k<S.size),Lx.signs[k]?=some S[k]:=by
    subst hS
    intro k hk
    have:k<11:=hk
    match k,this with
    | 0,_=>rfl
    | 1,_=>rfl
    | 2,_=>rfl
    | 3,_=>rfl
    | 4,_=>rfl
    | 5,_=>rfl
    | 6,_=>rfl
    | 7,_=>rfl
    | 8,_=>rfl
    | 9,_=>rfl
    | 10,_=>rfl
  have HX:=hid hx
  have HZ:=hid hz
  have zz:(S.size:Int)≤11:=by omega
  rw [show (⟨#[40,41,91,93,123,125,46,44,59,61,95]⟩:ByteArray)=S from hS.symm]
  have HS:=hid hS
  clear hx hz hS
  go_loop [4] (fun i=>∃ k:Nat,k≤S.size∧i=.int .i64 k∧NotYet c k) (fun i=>S.size-(intOf i).toNat)
  case atStart=>exact ⟨0,by omega,rfl,fun x hx=>by simp at hx⟩
  obtain ⟨k,hk,rfl,hn⟩:=hrel
  by_cases hlt:k<S.size
  · have z1:(k:Int)<S.size:=by omega
    have hsk:=HX.out k hlt
    by_cases he:(S[k].toNat:Int)=c
    · have E:=hid (sgnI_hit hsk he)
      have he':((S[k].toNat:Int)==c)=true:=by simpa using he
      clear hsk he hn
      go_wp2_with fail
      go_ret
      exact ⟨ret_bool E.out.symm,rfl⟩
    have HN:=hid (notYet_step hsk hn he)
    have he':((S[k].toNat:Int)==c)=false:=by simpa using he
    clear hsk he hn
    go_wp2_with fail
    go_round
    case rel=>exact ⟨k+1,by omega,by go_num,HN.out⟩
    case measure=>simp [intOf];omega
  have z1:(S.size:Int)≤k:=by omega
  have hk11:k=11:=by have:=HZ.out;omega
  rw [hk11] at hn
  have E:=hid (sgnI_none hn)
  clear hn hk11
  go_wp2_with fail
  go_ret
  exact ⟨ret_bool E.out.symm,rfl⟩
theorem eq10 (c:UInt8):(c=10)=((c.toNat:Int)=10):=by
  apply propext
  constructor
  · rintro rfl;rfl
  intro h
  apply UInt8.toNat_inj.1
  have:(10:UInt8).toNat=10:=rfl
  omega
open Go.RowKit
structure Tk where
  k:Int
  s:ByteArray
  o:Int
structure TS (w:World) (A:Option Addr) (n:Nat) (ts:List Tk):Prop where
  len:ts.length=n
  at_:∀ j t,ts[j]?=some t→∃ a,A=some a∧a.block<w.heap.size∧w.cell? (a.add (j*3))=some (.int .i64 t.k)∧w.cell? ⟨(a.add (j*3)).block,(a.add (j*3)).off+1,none⟩=some (.string t.s)∧w.cell? ⟨(a.add (j*3)).block,(a.add (j*3)).off+2,none⟩=some (.int .i64 t.o)
theorem TS.later {w w':World} {A:Option Addr} {n:Nat} {ts:List Tk} (h:TS w A n ts) (hb:Below w.heap.size w w'):TS w' A n ts :=
  ⟨h.len,fun j t hj=>by
    obtain ⟨a,e,h1,h2,h3,h4⟩:=h.at_ j t hj
    exact ⟨a,e,Nat.lt_of_lt_of_le h1 hb.size,(hb.cell (by rw [block_of_add];exact h1)).trans h2,(hb.cell (by show (a.add (j*3)).block<_;rw [block_of_add];exact h1)).trans h3,(hb.cell (by show (a.add (j*3)).block<_;rw [block_of_add];exact h1)).trans h4⟩⟩
theorem TS.get {w:World} {A:Option Addr} {n:Nat} {ts:List Tk} (h:TS w A n ts) {k:Nat} (hk:k<n) :
    ∃ a t,A=some a∧ts[k]?=some t∧w.cell? (a.add (k*3))=some (.int .i64 t.k)∧w.cell? ⟨(a.add (k*3)).block,(a.add (k*3)).off+1,none⟩=some (.string t.s)∧w.cell? ⟨(a.add (k*3)).block,(a.add (k*3)).off+2,none⟩=some (.int .i64 t.o):=by
  have hl:k<ts.length:=by rw [h.len];exact hk
  obtain ⟨a,e,_,h2⟩:=h.at_ k _ (List.getElem?_eq_getElem hl)
  exact ⟨a,_,e,List.getElem?_eq_getElem hl,h2⟩
def cells3 (t:Tk):List Value:=[.int .i64 t.k,.string t.s,.int .i64 t.o]
theorem lx_cells3_at:∀ (ts:List Tk) (j:Nat) (t:Tk),ts[j]?=some t→(ts.flatMap cells3)[j*3]?=some (.int .i64 t.k)∧(ts.flatMap cells3)[j*3+1]?=some (.string t.s)∧(ts.flatMap cells3)[j*3+2]?=some (.int .i64 t.o)
  | [],j,t,h=>by simp at h
  | x :: ts,0,t,h=>by
    obtain rfl:x=t:=by simpa using h
    simp [cells3]
  | x :: ts,j+1,t,h=>by
    have:=lx_cells3_at ts j t (by simpa using h)
    rw [List.flatMap_cons]
    have e:(cells3 x).length=3:=rfl
    rw [show (j+1)*3=3+j*3 by omega,show 3+j*3+1=3+(j*3+1) by omega,show 3+j*3+2=3+(j*3+2) by omega]
    rw [List.getElem?_append_right (by omega),List.getElem?_append_right (by omega),List.getElem?_append_right (by omega),e]
    simpa using this
theorem ts_of_own {w:World} {base n:Nat} {e:TypeId} {v:Value} {ts:List Tk} (hl:ts.length=n) (h:w.ownsRow base e 3 v n (ts.flatMap cells3)):∃ A c,v=.slice A n c∧TS w A n ts:=by
  rcases h.2 with ⟨rfl,h0⟩ | ⟨g,cap,cur,hv,hb,hg,hn,hc,hs,ht⟩
  · subst h0
    exact ⟨none,0,rfl,hl,fun j t hj=>by
      have:j<ts.length:=(List.getElem?_eq_some_iff.1 hj).1
      omega⟩
  refine ⟨some ⟨g,0,none⟩,cap,hv,hl,fun j t hj=>⟨_,rfl,?_,?_⟩⟩
  · rcases Nat.lt_or_ge g w.heap.size with h1 | h1
    · exact h1
    rw [Array.getElem?_eq_none h1] at hg;cases hg
  have hcell:∀ i u,(ts.flatMap cells3)[i]?=some u→w.cell? ⟨g,i,none⟩=some u:=fun i u hu=>by
    rw [cell_of_row w g i cur e (0,0) hg]
    rw [←ht,List.getElem?_take] at hu
    split at hu
    · simpa using hu
    cases hu
  obtain ⟨h1,h2,h3⟩:=lx_cells3_at ts j t hj
  have ha:(⟨g,0,none⟩:Addr).add (j*3)=⟨g,j*3,none⟩:=by unfold Addr.add;split<;>simp_all
  rw [ha]
  exact ⟨hcell _ _ h1,hcell _ _ h2,hcell _ _ h3⟩
theorem infoTok:(Tryz.prog.info? 111).map (fun i=>(i.zero,i.size,i.bytes))=some (some (.agg #[.int .i64 0,.string ⟨#[]⟩,.int .i64 0]),3,32):=by kernel_rfl
inductive Got (α:Type) where
  | ok (v:α) (l:List Tk)
  | bad (l:List Tk)
namespace Rd
def Got.bind {α β:Type} (g:Got α) (f:α→List Tk→Got β):Got β:=match g with
  | .ok v l=>f v l
  | .bad l=>.bad l
theorem bind_ok {α β:Type} (v:α) (l:List Tk) (f:α→List Tk→Got β):Got.bind (.ok v l) f=f v l:=rfl
theorem bind_bind {α β γ:Type} (g:Got α) (f:α→List Tk→Got β) (h:β→List Tk→Got γ):Got.bind (Got.bind g f) h=Got.bind g fun v l=>Got.bind (f v l) h:=by cases g<;>rfl
def isT (s:List UInt8):List Tk→Bool
  | []=>false
  | t :: _=>!(t.k==3)&&(t.s.data.toList==s)
def off:List Tk→Int
  | []=>0
  | t :: _=>t.o
def must (s:List UInt8) (l:List Tk):Got Unit:=if isT s l then .ok () l.tail else .bad l
def nameB (t:Tk):Bool:=Nm.isB t.s.data.toList
def name:List Tk→Got Tk
  | []=>.bad []
  | t :: r=>if nameB t then .ok t r else .bad (t :: r)
def targsG (many:List Tk→Got (List Ty)) (l:List Tk):Got (List Ty) :=
  if isT [91] l then Got.bind (many l.tail) fun ts q=>Got.bind (must [93] q) fun _ q=>.ok ts q else .ok [] l
def argsG (many:List Tk→Got (List Ex)) (e:List UInt8) (l:List Tk):Got (List Ex) :=
  if isT e l then .ok [] l.tail else Got.bind (many l) fun xs q=>Got.bind (must e q) fun _ q=>.ok xs q
mutual
def tyF:Nat→List Tk→Got Ty
  | 0,l=>.bad l
  | n+1,l=>Got.bind (name l) fun t r=>Got.bind (targsG (fun l=>Got.bind (tyF n l) fun u q=>moreF n [u] q) r) fun ts q=>.ok (.mk t.s ts t.o) q
def moreF:Nat→List Ty→List Tk→Got (List Ty)
  | 0,_,l=>.bad l
  | n+1,acc,l=>if isT [44] l then Got.bind (tyF n l.tail) fun u q=>moreF n (acc++[u]) q else .ok acc l
end
def manyF (n:Nat) (l:List Tk):Got (List Ty):=Got.bind (tyF n l) fun u q=>moreF n [u] q
def targsF (n:Nat) (l:List Tk):Got (List Ty):=targsG (manyF n) l
theorem tyF_succ (n:Nat) (l:List Tk):tyF (n+1) l=Got.bind (name l) fun t r=>Got.bind (targsF n r) fun ts q=>.ok (.mk t.s ts t.o) q:=by rw [tyF];rfl
theorem moreF_succ (n:Nat) (acc:List Ty) (l:List Tk):moreF (n+1) acc l=if isT [44] l then Got.bind (tyF n l.tail) fun u q=>moreF n (acc++[u]) q else .ok acc l:=by rw [moreF]
def tyNone:Ty:=.mk ⟨#[]⟩ [] 0
def exVar (s:ByteArray) (o:Int):Ex:=.mk 1 s tyNone [] [] o
def exLit (t:Ty) (xs:List Ex):Ex:=.mk 3 ⟨#[]⟩ t [] xs t.off
def exField (s:ByteArray) (e:Ex) (o:Int):Ex:=.mk 4 s tyNone [] [e] o
def exCall (s:ByteArray) (ts:List Ty) (xs:List Ex) (o:Int):Ex:=.mk 2 s tyNone ts xs o
def exAssert (t:Ty) (e:Ex) (o:Int):Ex:=.mk 5 ⟨#[]⟩ t [] [e] o
def firstG (n:Nat) (many:List Tk→Got (List Ex)) (l:List Tk):Got Ex :=
  Got.bind (tyF n l) fun t q=>if t.args.isEmpty&&!isT [123] q then .ok (exVar t.name t.off) q else Got.bind (must [123] q) fun _ q=>Got.bind (argsG many [125] q) fun xs q=>.ok (exLit t xs) q
def restG (n:Nat) (many:List Tk→Got (List Ex)) (e:Ex) (l:List Tk):Got Ex :=
  if isT [40] l then Got.bind (tyF n l.tail) fun t q=>Got.bind (must [41] q) fun _ q=>.ok (exAssert t e (off l)) q
  else Got.bind (name l) fun s q=>Got.bind (targsF n q) fun ts q=>if ts.isEmpty&&!isT [40] q then .ok (exField s.s e s.o) q
    else Got.bind (must [40] q) fun _ q=>Got.bind (argsG many [41] q) fun xs q=>.ok (exCall s.s ts (e :: xs) s.o) q
mutual
def exF:Nat→List Tk→Got Ex
  | 0,l=>.bad l
  | n+1,l=>Got.bind (firstG n (fun l=>Got.bind (exF n l) fun u q=>moreX n [u] q) l) fun e q=>restsF n e q
def moreX:Nat→List Ex→List Tk→Got (List Ex)
  | 0,_,l=>.bad l
  | n+1,acc,l=>if isT [44] l then Got.bind (exF n l.tail) fun u q=>moreX n (acc++[u]) q else .ok acc l
def restsF:Nat→Ex→List Tk→Got Ex
  | 0,_,l=>.bad l
  | n+1,e,l=>if isT [46] l then Got.bind (restG n (fun l=>Got.bind (exF n l) fun u q=>moreX n [u] q) e l.tail) fun e q=>restsF n e q else .ok e l
end
def manyX (n:Nat) (l:List Tk):Got (List Ex):=Got.bind (exF n l) fun u q=>moreX n [u] q
def argsF (n:Nat) (e:List UInt8) (l:List Tk):Got (List Ex):=argsG (manyX n) e l
def firstF (n:Nat) (l:List Tk):Got Ex:=firstG n (manyX n) l
def restF (n:Nat) (e:Ex) (l:List Tk):Got Ex:=restG n (manyX n) e l
theorem exF_succ (n:Nat) (l:List Tk):exF (n+1) l=Got.bind (firstF n l) fun e q=>restsF n e q:=by rw [exF];rfl
theorem moreX_succ (n:Nat) (acc:List Ex) (l:List Tk):moreX (n+1) acc l=if isT [44] l then Got.bind (exF n l.tail) fun u q=>moreX n (acc++[u]) q else .ok acc l:=by rw [moreX]
theorem restsF_succ (n:Nat) (e:Ex) (l:List Tk):restsF (n+1) e l=if isT [46] l then Got.bind (restF n e l.tail) fun e q=>restsF n e q else .ok e l:=by rw [restsF];rfl
def Got.Ends {α:Type} (l:List Tk):Got α→Prop
  | .ok _ q=>q <:+ l
  | .bad q=>q <:+ l
def Got.Less {α:Type} (l:List Tk):Got α→Prop
  | .ok _ q=>q <:+ l∧q.length<l.length
  | .bad q=>q <:+ l
theorem Less.ends {α:Type} {l:List Tk} {g:Got α} (h:Got.Less l g):Got.Ends l g:=by cases g<;>first | exact h.1 | exact h
theorem ends_bind {α β:Type} {l:List Tk} {g:Got α} {f:α→List Tk→Got β} (h:Got.Ends l g) (hf:∀ v q,g=.ok v q→Got.Ends q (f v q)):Got.Ends l (Got.bind g f):=by
  cases g with
  | ok v q =>
    have h1:=hf v q rfl
    rw [bind_ok]
    cases hh:f v q<;>rw [hh] at h1
    · exact List.IsSuffix.trans h1 h
    exact List.IsSuffix.trans h1 h
  | bad q=>exact h
theorem less_bind {α β:Type} {l:List Tk} {g:Got α} {f:α→List Tk→Got β} (h:Got.Less l g) (hf:∀ v q,g=.ok v q→Got.Ends q (f v q)):Got.Less l (Got.bind g f):=by
  cases g with
  | ok v q =>
    have h1:=hf v q rfl
    rw [bind_ok]
    cases hh:f v q<;>rw [hh] at h1
    · exact ⟨List.IsSuffix.trans h1 h.1,Nat.lt_of_le_of_lt h1.length_le h.2⟩
    exact List.IsSuffix.trans h1 h.1
  | bad q=>exact h
theorem isT_cons {s:List UInt8} {l:List Tk} (h:isT s l=true):∃ t r,l=t :: r∧t.k≠3∧t.s.data.toList=s:=by
  cases l with
  | nil=>cases h
  | cons t r =>
    rw [isT,Bool.and_eq_true] at h
    exact ⟨t,r,rfl,by simpa using h.1,by simpa using h.2⟩
theorem ends_self {α:Type} (v:α) (l:List Tk):Got.Ends l (.ok v l):=List.suffix_refl l
theorem ends_bad {α:Type} (l:List Tk):Got.Ends (α:=α) l (.bad l):=List.suffix_refl l
theorem less_bad {α:Type} (l:List Tk):Got.Less (α:=α) l (.bad l):=List.suffix_refl l
theorem less_tail {α:Type} {l:List Tk} {g:Got α} (hl:l≠[]) (h:Got.Ends l.tail g):Got.Less l g:=by
  cases l with
  | nil=>exact absurd rfl hl
  | cons t r =>
    cases g
    · exact ⟨List.IsSuffix.trans h (List.suffix_cons t r),Nat.lt_succ_of_le h.length_le⟩
    exact List.IsSuffix.trans h (List.suffix_cons t r)
theorem less_isT {α:Type} {s:List UInt8} {l:List Tk} {g:Got α} (hl:isT s l=true) (h:Got.Ends l.tail g):Got.Less l g:=less_tail (by obtain ⟨t,r,rfl,_⟩:=isT_cons hl;simp) h
theorem must_less (s:List UInt8) (l:List Tk):Got.Less l (must s l):=by
  unfold must
  split
  · rename_i h
    exact less_isT h (ends_self _ _)
  exact less_bad l
theorem name_less (l:List Tk):Got.Less l (name l):=by
  cases l with
  | nil=>exact less_bad []
  | cons t r =>
    rw [name]
    split
    · exact ⟨List.suffix_cons t r,Nat.lt_succ_self _⟩
    exact less_bad _
theorem targsG_ends {many:List Tk→Got (List Ty)} (hm:∀ l,Got.Ends l (many l)) (l:List Tk):Got.Ends l (targsG many l):=by
  unfold targsG
  split
  · rename_i h
    exact Less.ends (less_isT h (ends_bind (hm _) fun v q _=>ends_bind (Less.ends (must_less _ _)) fun _ _ _=>ends_self _ _))
  exact ends_self _ _
theorem tyF_both (n:Nat):(∀ l,Got.Less l (tyF n l))∧∀ acc l,Got.Ends l (moreF n acc l):=by
  induction n with
  | zero=>exact ⟨fun l=>by rw [tyF];exact less_bad l,fun acc l=>by rw [moreF];exact ends_bad l⟩
  | succ n ih =>
    refine ⟨fun l=>?_,fun acc l=>?_⟩
    · rw [tyF_succ]
      exact less_bind (name_less l) fun t r _=>ends_bind (targsG_ends (fun l=>ends_bind (Less.ends (ih.1 l)) fun _ _ _=>ih.2 _ _) r) fun _ _ _=>ends_self _ _
    rw [moreF_succ]
    split
    · rename_i h
      exact Less.ends (less_isT h (ends_bind (Less.ends (ih.1 _)) fun _ _ _=>ih.2 _ _))
    exact ends_self _ _
theorem tyF_less (n:Nat) (l:List Tk):Got.Less l (tyF n l):=(tyF_both n).1 l
theorem moreF_ends (n:Nat) (acc:List Ty) (l:List Tk):Got.Ends l (moreF n acc l):=(tyF_both n).2 acc l
theorem targsF_ends (n:Nat) (l:List Tk):Got.Ends l (targsF n l):=targsG_ends (fun l=>ends_bind (Less.ends (tyF_less n l)) fun _ _ _=>moreF_ends n _ _) l
theorem argsG_less {many:List Tk→Got (List Ex)} (hm:∀ l,Got.Ends l (many l)) (e:List UInt8) (l:List Tk):Got.Ends l (argsG many e l):=by
  unfold argsG
  split
  · rename_i h
    exact Less.ends (less_isT h (ends_self _ _))
  exact ends_bind (hm _) fun v q _=>ends_bind (Less.ends (must_less _ _)) fun _ _ _=>ends_self _ _
theorem firstG_less {many:List Tk→Got (List Ex)} (hm:∀ l,Got.Ends l (many l)) (n:Nat) (l:List Tk):Got.Less l (firstG n many l):=by
  unfold firstG
  refine less_bind (tyF_less n l) fun t q _=>?_
  split
  · exact ends_self _ _
  exact ends_bind (Less.ends (must_less _ _)) fun _ _ _=>ends_bind (argsG_less hm _ _) fun _ _ _=>ends_self _ _
theorem restG_less {many:List Tk→Got (List Ex)} (hm:∀ l,Got.Ends l (many l)) (n:Nat) (e:Ex) (l:List Tk):Got.Less l (restG n many e l):=by
  unfold restG
  split
  · rename_i h
    exact less_isT h (ends_bind (Less.ends (tyF_less n _)) fun _ _ _=>ends_bind (Less.ends (must_less _ _)) fun _ _ _=>ends_self _ _)
  refine less_bind (name_less l) fun s q _=>ends_bind (targsF_ends n _) fun ts q _=>?_
  split
  · exact ends_self _ _
  exact ends_bind (Less.ends (must_less _ _)) fun _ _ _=>ends_bind (argsG_less hm _ _) fun _ _ _=>ends_self _ _
theorem exF_all (n:Nat):(∀ l,Got.Less l (exF n l))∧(∀ acc l,Got.Ends l (moreX n acc l))∧∀ e l,Got.Ends l (restsF n e l):=by
  induction n with
  | zero=>exact ⟨fun l=>by rw [exF];exact less_bad l,fun acc l=>by rw [moreX];exact ends_bad l,fun acc l=>by rw [restsF];exact ends_bad l⟩
  | succ n ih =>
    have hm:∀ l,Got.Ends l (manyX n l):=fun l=>ends_bind (Less.ends (ih.1 l)) fun _ _ _=>ih.2.1 _ _
    refine ⟨fun l=>?_,fun acc l=>?_,fun e l=>?_⟩
    · rw [exF_succ]
      exact less_bind (firstG_less hm n l) fun _ _ _=>ih.2.2 _ _
    · rw [moreX_succ]
      split
      · rename_i h
        exact Less.ends (less_isT h (ends_bind (Less.ends (ih.1 _)) fun _ _ _=>ih.2.1 _ _))
      exact ends_self _ _
    rw [restsF_succ]
    split
    · rename_i h
      exact Less.ends (less_isT h (ends_bind (Less.ends (restG_less hm n e _)) fun _ _ _=>ih.2.2 _ _))
    exact ends_self _ _
theorem exF_less (n:Nat) (l:List Tk):Got.Less l (exF n l):=(exF_all n).1 l
theorem moreX_ends (n:Nat) (acc:List Ex) (l:List Tk):Got.Ends l (moreX n acc l):=(exF_all n).2.1 acc l
theorem manyX_ends (n:Nat) (l:List Tk):Got.Ends l (manyX n l):=ends_bind (Less.ends (exF_less n l)) fun _ _ _=>moreX_ends n _ _
theorem argsF_ends (n:Nat) (e:List UInt8) (l:List Tk):Got.Ends l (argsF n e l):=argsG_less (manyX_ends n) e l
theorem firstF_less (n:Nat) (l:List Tk):Got.Less l (firstF n l):=firstG_less (manyX_ends n) n l
theorem restF_less (n:Nat) (e:Ex) (l:List Tk):Got.Less l (restF n e l):=restG_less (manyX_ends n) n e l
