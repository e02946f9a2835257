/- The texts of types and expressions are read as themselves: their tokens, and what reading these gives. No program, no condition. -/
import Derived.Test.YtjplpblehccigaaGreatDoorQBRdP
import Derived.BigQuiet
import Derived.Deep.QuietTactic
import Derived.Laws.StructEq
import Derived.Lib.SmallJoins
namespace Go.Proofs.YtjplpblehccigaaGreatDoor.Rd

/-! ### the tokens of a text,piece by piece -/
def NoWord (r:List UInt8):Prop:=∀ c,r.head?=some c→Lx.good c=false
/-- A text has these tokens whatever stands behind it (c: but a byte of a name). -/
def Lexes (c:Bool) (s:List UInt8) (ws:List (List UInt8)):Prop:=∀ (r:List UInt8) (i:Nat),(c=true→NoWord r)→∃ ts,Lx.lex (s++r) i=(Lx.lex r (i+s.length)).app ts∧ts.map Lx.Tok.text=ws∧∀ t∈ts,t.right
/-- A text begins with a byte of no name. -/
def Cut (s:List UInt8):Prop:=∃ x q,s=x :: q∧Lx.good x=false
theorem Lexes.cat {c1 c2:Bool} {s1 s2:List UInt8} {w1 w2:List (List UInt8)} (h1:Lexes c1 s1 w1) (h2:Lexes c2 s2 w2) (hn:c1=true→Cut s2):Lexes c2 (s1++s2) (w1++w2):=by
  intro r i hr
  obtain ⟨t1,e1,m1,r1⟩:=h1 (s2++r) i (fun hc=>by
    obtain ⟨x,q,rfl,hx⟩:=hn hc
    intro c hc
    simp only [List.cons_append,List.head?_cons,Option.some.injEq] at hc
    rw [←hc]
    exact hx)
  obtain ⟨t2,e2,m2,r2⟩:=h2 r (i+s1.length) hr
  refine ⟨t1++t2,?_,by rw [List.map_append,m1,m2],fun t ht=>?_⟩
  · rw [List.append_assoc,e1,e2,Lx.Res.app_app,List.length_append,Nat.add_assoc]
  rcases List.mem_append.1 ht with h | h
  · exact r1 t h
  exact r2 t h
theorem Lexes.weak {c:Bool} {s:List UInt8} {w:List (List UInt8)} (h:Lexes false s w):Lexes c s w:=fun r i _=>h r i (fun h=>by cases h)
theorem lexes_nil:Lexes false [] []:=fun r i _=>⟨[],by rw [Lx.Res.app_nil]; rfl,rfl,fun t h=>by cases h⟩
theorem lexes_word {c:UInt8} {r:List UInt8} (hc:Lx.cl c=1) (hr:r.all Lx.good=true):Lexes true (c :: r) [c :: r]:=by
  intro q i hq
  have hw:(r++q).takeWhile Lx.good=r:=Lx.takeWhile_all q hr (hq rfl)
  refine ⟨[⟨1,c :: r,i⟩],?_,rfl,fun t ht=>?_⟩
  · rw [List.cons_append,Lx.lex_cons,if_neg (by rw [hc]; decide),if_neg (fun h=>Lx.cl_word hc h.1),if_pos hc,hw,List.drop_left,List.length_cons,show i+(r.length+1)=i+1+r.length by omega]
  rw [List.mem_singleton.1 ht]
  exact .inl ⟨rfl,c,r,rfl,hc,hr⟩
theorem lexes_sign {c:UInt8} (hc:Lx.sgn c=true):Lexes false [c] [[c]]:=by
  intro q i _
  obtain ⟨h4,h1,h47⟩:=Lx.cl_sgn hc
  refine ⟨[⟨2,[c],i⟩],?_,rfl,fun t ht=>?_⟩
  · rw [List.cons_append,Lx.lex_cons,if_neg h4,if_neg (fun h=>h47 h.1),if_neg h1,if_pos hc]
    rfl
  rw [List.mem_singleton.1 ht]
  exact .inr ⟨rfl,c,rfl,hc⟩
theorem lexes_blank {c:UInt8} (hc:Lx.cl c=4):Lexes false [c] []:=by
  intro q i _
  refine ⟨[],?_,rfl,fun t ht=>by cases ht⟩
  rw [List.cons_append,Lx.lex_cons,if_pos hc,Lx.Res.app_nil]
  rfl
/-! ### the tokens of a type -/
/-! ### the tokens of an expression -/
end Go.Proofs.YtjplpblehccigaaGreatDoor.Rd
