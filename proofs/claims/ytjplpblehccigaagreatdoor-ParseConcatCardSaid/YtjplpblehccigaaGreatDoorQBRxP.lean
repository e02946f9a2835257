/- Types that are read from tokens: they are right, and no larger than the tokens are wide. No program, no condition.
Expressions that are read from tokens: they are right, and no larger than the tokens are wide. No program, no condition. -/
import Derived.Test.YtjplpblehccigaaGreatDoorQBRdP
import Derived.BigQuiet
import Derived.Deep.QuietTactic
import Derived.Laws.StructEq
import Derived.Lib.SmallJoins
namespace Go.Proofs.YtjplpblehccigaaGreatDoor.Rd

/-- How wide tokens are: a text and one more,each. -/
def wd:List Tk→Nat
  | []=>0
  | t :: r=>t.s.size+1+wd r
/-- A token with a sign of one byte is two wide. -/
theorem isT_wd {c:UInt8} {l:List Tk} (h:isT [c] l=true):wd l=wd l.tail+2:=by
  obtain ⟨t,r,rfl,_,hs⟩:=isT_cons h
  have h1:t.s.size=1:=by rw [Lib.size_eq,hs]; rfl
  show t.s.size+1+wd r=wd r+2
  omega
theorem must_got {s:List UInt8} {l q:List Tk} {u:Unit} (h:must s l=.ok u q):isT s l=true∧q=l.tail:=by
  unfold must at h
  split at h
  · rename_i hh
    injection h with _ h2
    exact ⟨hh,h2.symm⟩
  cases h
theorem name_got {l r:List Tk} {t:Tk} (h:name l=.ok t r):l=t :: r∧nameB t=true:=by
  cases l with
  | nil=>cases h
  | cons x q =>
    rw [name] at h
    split at h
    · rename_i hh
      injection h with h1 h2
      subst h1 h2
      exact ⟨rfl,hh⟩
    cases h
theorem nameB_size {t:Tk} (h:nameB t=true):1≤t.s.size:=by
  rw [Lib.size_eq]
  unfold nameB at h
  cases hl:t.s.data.toList with
  | nil=>rw [hl] at h; exact absurd h (by decide)
  | cons a r=>simp
theorem bind_got {α β:Type} {g:Got α} {f:α→List Tk→Got β} {v:β} {q:List Tk} (h:Got.bind g f=.ok v q):∃ u r,g=.ok u r∧f u r=.ok v q:=by
  cases g with
  | ok u r=>exact ⟨u,r,rfl,h⟩
  | bad r=>cases h
theorem rightL_iff:∀ xs:List Ty,((Ty.listL xs).all fun s=>Nm.isB s.data.toList)=true ↔ ∀ x∈xs,x.right=true
  | []=>by simp [Ty.listL]
  | x :: xs=>by
    rw [Ty.rightL_cons,Bool.and_eq_true,rightL_iff xs]
    simp
def TyGood (l:List Tk) (t:Ty) (q:List Tk):Prop:=t.right=true∧wd q+4 * Ty.wt t≤wd l+2
def TysGood (l:List Tk) (us:List Ty) (q:List Tk):Prop:=(∀ u∈us,u.right=true)∧wd q+4 * Ty.wtL us≤wd l
theorem targsG_good {many:List Tk→Got (List Ty)} (hm:∀ l ts q,many l=.ok ts q→(∀ u∈ts,u.right=true)∧wd q+4 * Ty.wtL ts≤wd l+2) {l q:List Tk} {ts:List Ty} (h:targsG many l=.ok ts q):TysGood l ts q:=by
  unfold targsG at h
  split at h
  · rename_i hT
    obtain ⟨us,r,h1,h2⟩:=bind_got h
    obtain ⟨_,r2,h3,h4⟩:=bind_got h2
    obtain ⟨h5,rfl⟩:=must_got h3
    injection h4 with h6 h7
    subst h6 h7
    obtain ⟨k1,k2⟩:=hm _ _ _ h1
    have k3:=isT_wd hT
    have k4:=isT_wd h5
    exact ⟨k1,by omega⟩
  injection h with h6 h7
  subst h6 h7
  exact ⟨fun u hu=>by (cases hu),by simp [Ty.wtL]⟩
theorem tyF_good (n:Nat):(∀ l t q,tyF n l=.ok t q→TyGood l t q)∧∀ acc l ts q,moreF n acc l=.ok ts q→∃ us,ts=acc++us∧TysGood l us q:=by
  induction n with
  | zero=>exact ⟨fun l t q h=>by (rw [tyF] at h; cases h),fun acc l ts q h=>by (rw [moreF] at h; cases h)⟩
  | succ n ih =>
    have hmany:∀ l ts q,manyF n l=.ok ts q→(∀ u∈ts,u.right=true)∧wd q+4 * Ty.wtL ts≤wd l+2:=by
      intro l ts q h
      obtain ⟨u,r,h1,h2⟩:=bind_got h
      obtain ⟨g1,g2⟩:=ih.1 _ _ _ h1
      obtain ⟨us,rfl,g3,g4⟩:=ih.2 _ _ _ _ h2
      refine ⟨fun x hx=>?_,?_⟩
      · rcases List.mem_cons.1 hx with rfl | hx
        · exact g1
        exact g3 x hx
      show wd q+4 * (Ty.wt u+Ty.wtL us)≤wd l+2
      omega
    refine ⟨fun l t q h=>?_,fun acc l ts q h=>?_⟩
    · rw [tyF_succ] at h
      obtain ⟨nm,r,h1,h2⟩:=bind_got h
      obtain ⟨ts,r2,h3,h4⟩:=bind_got h2
      injection h4 with h5 h6
      subst h5 h6
      obtain ⟨rfl,hn⟩:=name_got h1
      obtain ⟨g1,g2⟩:=targsG_good hmany h3
      have hz:=nameB_size hn
      refine ⟨?_,?_⟩
      · rw [Ty.right_mk,Bool.and_eq_true]
        exact ⟨hn,(rightL_iff ts).2 g1⟩
      rw [Ty.wt]
      show wd r2+4 * (1+nm.s.size / 50+Ty.wtL ts)≤nm.s.size+1+wd r+2
      omega
    rw [moreF_succ] at h
    split at h
    · rename_i hT
      obtain ⟨u,r,h1,h2⟩:=bind_got h
      obtain ⟨g1,g2⟩:=ih.1 _ _ _ h1
      obtain ⟨us,rfl,g3,g4⟩:=ih.2 _ _ _ _ h2
      have k:=isT_wd hT
      refine ⟨u :: us,by simp,fun x hx=>?_,?_⟩
      · rcases List.mem_cons.1 hx with rfl | hx
        · exact g1
        exact g3 x hx
      show wd q+4 * (Ty.wt u+Ty.wtL us)≤wd l
      omega
    injection h with h5 h6
    subst h5 h6
    exact ⟨[],by simp,fun u hu=>by (cases hu),by simp [Ty.wtL]⟩
end Go.Proofs.YtjplpblehccigaaGreatDoor.Rd
namespace Go.Proofs.YtjplpblehccigaaGreatDoor.Rd

end Go.Proofs.YtjplpblehccigaaGreatDoor.Rd
