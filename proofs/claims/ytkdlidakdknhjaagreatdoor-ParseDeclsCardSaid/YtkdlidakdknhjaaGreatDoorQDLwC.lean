/- What the walks of the laws of layer 3 ask of package lex: the contract of each of its functions, as one statement. No condition.
The walks of package lex's small functions: the size of a comment and of a word, and what a text begins with. No condition beyond the sizes that each names.
The walk of package lex's first: what a text begins with at each offset, in the plain words of LxPure.
The walk of lex.Tokens: it returns the tokens of the text in the plain words of LxPure, or its one error. -/
import Derived.Test.YtkdlidakdknhjaaGreatDoorQDLxF
import Derived.Test.YtkdlidakdknhjaaGreatDoorShelf
import Derived.Lib.IndexAny
import Derived.WalkMore
set_option maxRecDepth 100000
set_option maxHeartbeats 4000000
open Go.Lib (hid)
namespace Go.Proofs.YtkdlidakdknhjaaGreatDoor
open Go.RowKit
def LexPost (w:World) (s:ByteArray) (e:Ending) (w':World):Prop :=
  Below w.heap.size w w'∧match left s 0 with
    | .bad i=>e=.returned (.tuple #[.slice none 0 0,faultV 1 i])
    | .ok ts=>∃ A c,e=.returned (.tuple #[.slice A (ts.length+1) c,.nilIface])∧TS w' A (ts.length+1) (full ts s.size)
open Go.RowKit
theorem name_class_any (c:Int) (h0:0≤c) (h1:c≤255) (w:World) :
    Calls Tryz.prog 67 #[.int .u8 c] w fun e w'=>e=.returned (.int .i64 (Lx.cls c))∧w=w':=by
  go_enter Tryz.func67,Tryz.ntmps67
  go_wp2
  all_goals
    go_ret
    refine ⟨ret_int ?_,rfl⟩
    try simp only [beq_iff_eq,beq_eq_false_iff_ne,ne_eq] at *
    unfold Lx.cls
    first | (exfalso;omega) | rfl | (repeat (first | rw [if_pos (by omega)] | rw [if_neg (by omega)]))
theorem cls_five (c:Int):Lx.cls c=0∨Lx.cls c=1∨Lx.cls c=2∨Lx.cls c=3∨Lx.cls c=4:=by
  unfold Lx.cls
  repeat' split
  all_goals simp
def goodI (c:Int):Bool:=decide (0<Lx.cls c)&&decide (Lx.cls c<4)
theorem good_int (c:UInt8):Lx.good c=goodI c.toNat:=rfl
theorem lex_within_any (c:Int) (h0:0≤c) (h1:c≤255) (w:World) :
    Calls Tryz.prog 144 #[.int .u8 c] w fun e w'=>e=.returned (.bool (goodI c))∧w=w':=by
  have E:goodI c=(decide (0<Lx.cls c)&&decide (Lx.cls c<4)):=rfl
  have EE:=hid E
  clear E
  rcases cls_five c with h | h | h | h | h
  all_goals
    have H:=hid h
    clear h
    go_enter Tryz.func144,Tryz.ntmps144
    go_wp2_with fail
    refine (name_class_any c h0 h1 _).mono ?_
    rintro e w' ⟨rfl,rfl⟩
    rw [H.out]
    go_wp2_with fail
    go_ret
    exact ⟨ret_bool (by rw [EE.out,H.out];rfl),rfl⟩
theorem word_size_any (s:ByteArray) (h1:1≤s.size) (hs:s.size≤65536) (w:World) :
    Calls Tryz.prog 123 #[.string s] w fun e w'=>e=.returned (.int .i64 (runEnd Lx.good s.data.toList 1:Nat))∧w=w':=by
  go_enter Tryz.func123,Tryz.ntmps123
  go_wp2_with fail
  go_loop [3] (fun v=>∃ m:Nat,1≤m∧m≤s.size∧v=.int .i64 m∧runEnd Lx.good s.data.toList m=runEnd Lx.good s.data.toList 1) (fun v=>s.size-(intOf v).toNat)
  case atStart=>exact ⟨1,by omega,by omega,rfl,rfl⟩
  obtain ⟨m,hm1,hm2,rfl,hm⟩:=hrel
  by_cases hml:m<s.size
  · have y1:(m:Int)<s.size:=by omega
    have c1:(s[m].toNat:Int)≤255:=by have:=s[m].toNat_lt;omega
    have c0:(0:Int)≤(s[m].toNat:Int):=by omega
    cases hg:goodI s[m].toNat
    · have HM:=hid (hm.symm.trans (run_off (p:=Lx.good) hml (by rw [good_int,hg])))
      clear hm
      go_wp2_with (go_at_call 144;refine (lex_within_any _ (by omega) (by omega) _).mono ?_;rintro e w' ⟨rfl,rfl⟩)
      go_ret
      exact ⟨ret_int (by rw [HM.out]),rfl⟩
    have HM:=hid ((run_on (p:=Lx.good) hml (by rw [good_int,hg])).symm.trans hm)
    clear hm
    go_wp2_with (go_at_call 144;refine (lex_within_any _ (by omega) (by omega) _).mono ?_;rintro e w' ⟨rfl,rfl⟩)
    go_round
    case rel=>exact ⟨m+1,by omega,by omega,by go_num,HM.out⟩
    case measure=>simp [intOf];omega
  have y1:(s.size:Int)≤m:=by omega
  have HM:=hid (hm.symm.trans (run_end (p:=Lx.good) (s:=s) (k:=m) (by omega)))
  clear hm
  go_wp2_with fail
  go_ret
  exact ⟨ret_int (by rw [HM.out]),rfl⟩
theorem idx10:∀ l:List UInt8,Lib.indexByte l 10=if (l.takeWhile Lx.inLine).length=l.length then -1 else ((l.takeWhile Lx.inLine).length:Int)
  | []=>rfl
  | c :: l=>by
    have ih:=idx10 l
    have hle:=Lx.takeWhile_le Lx.inLine l
    unfold Lib.indexByte
    by_cases hc:c=10
    · subst hc
      have e:Lx.inLine 10=false:=by decide
      simp [e]
    have e:Lx.inLine c=true:=by simp [Lx.inLine,hc]
    have e2:(c==10)=false:=by simpa using hc
    simp only [e2,List.takeWhile_cons,e,if_true,List.length_cons,Bool.false_eq_true,if_false]
    by_cases h:(l.takeWhile Lx.inLine).length=l.length
    · rw [ih,if_pos h]
      simp [h]
    rw [ih,if_neg h]
    have h2:(((l.takeWhile Lx.inLine).length:Int)==-1)=false:=beq_eq_false_iff_ne.2 (by omega)
    rw [h2]
    simp only [Bool.false_eq_true,if_false]
    rw [if_neg (by omega)]
    omega
theorem comment_size_any (s:ByteArray) (w:World) :
    Calls Tryz.prog 122 #[.string s] w fun e w'=>e=.returned (.int .i64 ((s.data.toList.takeWhile Lx.inLine).length:Nat))∧w=w':=by
  have hi:=idx10 s.data.toList
  have hle:=Lx.takeWhile_le Lx.inLine s.data.toList
  rw [←Lib.size_eq] at hi hle
  generalize (s.data.toList.takeWhile Lx.inLine).length=n at hi hle ⊢
  by_cases h:n=s.size
  · rw [if_pos h] at hi
    have HI:=hid hi
    have H:=hid h
    clear hi hle h
    go_enter Tryz.func122,Tryz.ntmps122
    go_wp2_with fail
    refine (Tryz.strings_Index_one s 10 _).mono ?_
    rintro e w' ⟨rfl,hw⟩
    rw [HI.out]
    subst hw
    go_wp2_with fail
    go_ret
    exact ⟨ret_int (by rw [H.out]),rfl⟩
  rw [if_neg h] at hi
  have HI:=hid hi
  have z:(0:Int)≤n:=by omega
  clear hi h
  go_enter Tryz.func122,Tryz.ntmps122
  go_wp2_with fail
  refine (Tryz.strings_Index_one s 10 _).mono ?_
  rintro e w' ⟨rfl,hw⟩
  rw [HI.out]
  subst hw
  go_wp2_with fail
  go_ret
  exact ⟨rfl,rfl⟩
open Go.RowKit
def comB (l:List UInt8):Bool:=Lib.hasPrefix l [47,47]
theorem comB_cons (c:UInt8) (r:List UInt8):comB (c :: r)=true ↔ c=47∧r.head?=some 47:=by
  cases r with
  | nil=>simp [comB,Lib.hasPrefix,List.isPrefixOf]
  | cons d r => 
    simp only [comB,Lib.hasPrefix,List.isPrefixOf,Bool.and_true,Bool.and_eq_true,beq_iff_eq,List.head?_cons,Option.some.injEq]
    constructor
    · rintro ⟨h1,h2⟩;exact ⟨h1.symm,h2.symm⟩
    rintro ⟨h1,h2⟩;exact ⟨h1.symm,h2.symm⟩
theorem pre_comment (s:ByteArray) (w:World) :
    Calls Tryz.prog 121 #[.string s,.string ⟨#[47,47]⟩] w fun e w'=>e=.returned (.bool (comB s.data.toList))∧w=w' :=
  (Tryz.strings_HasPrefix s ⟨#[47,47]⟩ w).mono fun _ _ ⟨he,hw⟩=>⟨he,hw.symm⟩
def SgnPost (c:Int) (w:World) (e:Ending) (w':World):Prop:=∃ i:Int,e=.returned (.int .i64 i)∧(sgnI c=true→0≤i)∧(sgnI c=false→i<0)∧w=w'
theorem index_sign (c:UInt8) (w:World) :
    Calls Tryz.prog 124 #[.string ⟨#[40,41,91,93,123,125,46,44,59,61,95]⟩,.int .u8 c.toNat] w (SgnPost c.toNat w):=by
  refine (Tryz.strings_IndexByte ⟨#[40,41,91,93,123,125,46,44,59,61,95]⟩ c.toNat w).mono fun e w' ⟨he,hw⟩=>?_
  have hc:((c.toNat:Int)).toNat.toUInt8=c:=by simp
  rw [hc] at he
  have h1:sgnI c.toNat=decide (0≤Lib.indexByte Lx.signs c):=by
    rw [←Lib.contains_iff_indexByte,sgnI_sgn,Lx.sgn,List.contains_eq_any_beq]
    congr 1
    funext x
    rw [Bool.eq_iff_iff]
    simp only [beq_iff_eq]
    exact ⟨fun h=>h.symm,fun h=>h.symm⟩
  refine ⟨_,he,fun h=>?_,fun h=>?_,hw.symm⟩
  · rw [h1] at h
    exact of_decide_eq_true h
  rw [h1] at h
  have:=of_decide_eq_false h
  show Lib.indexByte Lx.signs c<0
  omega
def fstP (s:ByteArray) (c:UInt8):Int × Nat :=
  if Lx.cls c.toNat=4 then (4,1)
  else if comB s.data.toList=true then (4,(s.data.toList.takeWhile Lx.inLine).length)
  else if Lx.cls c.toNat=1 then (1,runEnd Lx.good s.data.toList 1)
  else if sgnI c.toNat=true then (2,1) else (0,0)
theorem first_any (s:ByteArray) (h1:0<s.size) (hs:s.size≤65536) (w:World) :
    Calls Tryz.prog 88 #[.string s] w fun e w'=>e=.returned (.tuple #[.int .i64 (fstP s s[0]).1,.int .i64 (fstP s s[0]).2])∧w=w':=by
  have b0:(0:Int)≤(s[0].toNat:Int):=by omega
  have b1:(s[0].toNat:Int)≤255:=by have:=s[0].toNat_lt;omega
  by_cases h4:Lx.cls s[0].toNat=4
  · have E:=hid (show fstP s s[0]=(4,1) by unfold fstP;rw [if_pos h4])
    have e4:(Lx.cls s[0].toNat==4)=true:=by simp [h4]
    clear h4
    go_enter Tryz.func88,Tryz.ntmps88
    go_wp2_with (go_at_call 67;refine (name_class_any _ (by omega) (by omega) _).mono ?_;rintro e w' ⟨rfl,rfl⟩)
    go_ret2
    exact ⟨by rw [E.out];rfl,rfl⟩
  have e4:(Lx.cls s[0].toNat==4)=false:=by simp [h4]
  cases hc:comB s.data.toList
  · by_cases h5:Lx.cls s[0].toNat=1
    · have E:=hid (show fstP s s[0]=(1,runEnd Lx.good s.data.toList 1) by unfold fstP;rw [if_neg h4,hc,if_neg (by decide),if_pos h5])
      have e1:(Lx.cls s[0].toNat==1)=true:=by simp [h5]
      clear h4 h5
      go_enter Tryz.func88,Tryz.ntmps88
      go_wp2_with (first | (go_at_call 67;refine (name_class_any _ (by omega) (by omega) _).mono ?_;rintro e w' ⟨rfl,rfl⟩) | (go_at_call 121;refine (pre_comment _ _).mono ?_;rintro e w' ⟨rfl,rfl⟩) | (go_at_call 123;refine (word_size_any _ (by omega) (by omega) _).mono ?_;rintro e w' ⟨rfl,rfl⟩))
      go_ret2
      exact ⟨by rw [E.out];rfl,rfl⟩
    have e1:(Lx.cls s[0].toNat==1)=false:=by simp [h5]
    cases hsg:sgnI s[0].toNat
    · have E:=hid (show fstP s s[0]=(0,0) by unfold fstP;rw [if_neg h4,hc,if_neg (by decide),if_neg h5,hsg,if_neg (by decide)])
      have HS:=hid hsg
      clear h4 h5 hsg
      go_enter Tryz.func88,Tryz.ntmps88
      go_wp2_with (first | (go_at_call 67;refine (name_class_any _ (by omega) (by omega) _).mono ?_;rintro e w' ⟨rfl,rfl⟩) | (go_at_call 121;refine (pre_comment _ _).mono ?_;rintro e w' ⟨rfl,rfl⟩) | (go_at_call 124;refine (index_sign _ _).mono ?_;rintro e w' ⟨i,rfl,hi1,hi2,rfl⟩;have zi:=hi2 HS.out;clear hi1 hi2))
      go_ret2
      exact ⟨by rw [E.out];rfl,rfl⟩
    have E:=hid (show fstP s s[0]=(2,1) by unfold fstP;rw [if_neg h4,hc,if_neg (by decide),if_neg h5,hsg,if_pos rfl])
    have HS:=hid hsg
    clear h4 h5 hsg
    go_enter Tryz.func88,Tryz.ntmps88
    go_wp2_with (first | (go_at_call 67;refine (name_class_any _ (by omega) (by omega) _).mono ?_;rintro e w' ⟨rfl,rfl⟩) | (go_at_call 121;refine (pre_comment _ _).mono ?_;rintro e w' ⟨rfl,rfl⟩) | (go_at_call 124;refine (index_sign _ _).mono ?_;rintro e w' ⟨i,rfl,hi1,hi2,rfl⟩;have zi:=hi1 HS.out;clear hi1 hi2))
    go_ret2
    exact ⟨by rw [E.out];rfl,rfl⟩
  have E:=hid (show fstP s s[0]=(4,(s.data.toList.takeWhile Lx.inLine).length) by unfold fstP;rw [if_neg h4,hc,if_pos rfl])
  clear h4
  go_enter Tryz.func88,Tryz.ntmps88
  go_wp2_with (first | (go_at_call 67;refine (name_class_any _ (by omega) (by omega) _).mono ?_;rintro e w' ⟨rfl,rfl⟩) | (go_at_call 121;refine (pre_comment _ _).mono ?_;rintro e w' ⟨rfl,rfl⟩) | (go_at_call 122;refine (comment_size_any _ _).mono ?_;rintro e w' ⟨rfl,rfl⟩))
  go_ret2
  exact ⟨by rw [E.out];rfl,rfl⟩
open Go.RowKit
theorem extract_end (s:ByteArray) (k:Nat):(s.extract k s.size).data.toList=s.data.toList.drop k∧(s.extract k s.size).size=s.size-k:=by
  have h1:(s.extract k s.size).data.toList=s.data.toList.drop k:=by
    rw [Lib.extract_data,List.take_of_length_le]
    rw [List.length_drop,←Lib.size_eq]
    omega
  refine ⟨h1,?_⟩
  rw [Lib.size_eq,h1,List.length_drop,←Lib.size_eq]
theorem run_drop (p:UInt8→Bool) (l:List UInt8) (k j:Nat):k+runEnd p (l.drop k) j=runEnd p l (k+j):=by
  unfold runEnd
  rw [List.drop_drop]
  omega
def Step (s:ByteArray) (k:Nat) (q:Int) (n:Nat):Prop :=
  (q=4∧1≤n∧k+n≤s.size∧left s k=left s (k+n))∨(q=1∧1≤n∧k+n≤s.size∧left s k=(left s (k+n)).app [⟨q,(s.data.toList.drop k).take n,k⟩])
    ∨ (q=2∧1≤n∧k+n≤s.size∧left s k=(left s (k+n)).app [⟨q,(s.data.toList.drop k).take n,k⟩])∨(q=0∧n=0∧left s k=.bad k)
theorem run_le (p:UInt8→Bool) (l:List UInt8) (k:Nat) (h:k≤l.length):k≤runEnd p l k∧runEnd p l k≤l.length:=by
  unfold runEnd
  have:=Lx.takeWhile_le p (l.drop k)
  rw [List.length_drop] at this
  omega
theorem step_of (s:ByteArray) (k:Nat) (h:k<s.size) (u:ByteArray) (hu:u.data.toList=s.data.toList.drop k):Step s k (fstP u s[k]).1 (fstP u s[k]).2:=by
  have hz:=Lib.size_eq s
  unfold fstP
  rw [hu]
  split
  · rename_i h4
    exact .inl ⟨rfl,Nat.le_refl _,h,left_blank h h4⟩
  rename_i h4
  split
  · rename_i hc
    rw [at_drop h,comB_cons] at hc
    obtain ⟨hc1,hc2⟩:=hc
    obtain ⟨h2,h3⟩:=(head_drop 47).1 hc2
    have e:((s.data.toList.drop k).takeWhile Lx.inLine).length=((s.data.toList.drop (k+1)).takeWhile Lx.inLine).length+1:=by
      rw [at_drop h,List.takeWhile_cons,hc1]
      simp [show Lx.inLine 47=true by decide]
    have hr:runEnd Lx.inLine s.data.toList (k+1)=k+((s.data.toList.drop k).takeWhile Lx.inLine).length:=by
      rw [e]
      unfold runEnd
      omega
    have hb:=run_le Lx.inLine s.data.toList (k+1) (by omega)
    refine .inl ⟨rfl,by rw [e];omega,by rw [←hr];omega,left_comment h h4 hc1 h2 h3 hr⟩
  rename_i hc
  split
  · rename_i h1
    have hr:=run_drop Lx.good s.data.toList k 1
    have hb:=run_le Lx.good s.data.toList (k+1) (by omega)
    have hw:=left_word h h1 hr.symm
    generalize runEnd Lx.good (s.data.toList.drop k) 1=m at *
    refine .inr (.inl ⟨rfl,?_,?_,?_⟩)
    · show 1≤m;omega
    · show k+m≤s.size;omega
    rw [show k+m-k=m by omega] at hw
    exact hw
  rename_i h1
  split
  · rename_i hs
    exact .inr (.inr (.inl ⟨rfl,Nat.le_refl _,h,left_sign h hs⟩))
  rename_i hs
  refine .inr (.inr (.inr ⟨rfl,rfl,left_bad h h4 ?_ h1 (by simpa using hs)⟩))
  rintro ⟨hc1,hc2⟩
  exact hc (by rw [at_drop h,comB_cons];exact ⟨hc1,(head_drop 47).2 hc2⟩)
def FirstPost (s:ByteArray) (k:Nat) (w:World) (e:Ending) (w':World):Prop:=∃ (q:Int) (n:Nat),e=.returned (.tuple #[.int .i64 q,.int .i64 n])∧Step s k q n∧w=w'
theorem first_at (s:ByteArray) (k:Nat) (h:k<s.size) (hs:s.size≤65536) (w:World) :
    Calls Tryz.prog 88 #[.string (s.extract k s.size)] w (FirstPost s k w):=by
  obtain ⟨hu,hz⟩:=extract_end s k
  generalize s.extract k s.size=u at hu hz ⊢
  have h1:0<u.size:=by omega
  have hc:u[0]=s[k]:=by
    have h2:u.data.toList[0]?=(s.data.toList.drop k)[0]?:=by rw [hu]
    rw [at_drop h,←List.drop_zero (l:=u.data.toList),at_drop h1] at h2
    simpa using h2
  refine (first_any u h1 (by omega) w).mono fun e w' ⟨he,hw⟩=>⟨_,_,he,?_,hw⟩
  rw [hc]
  exact step_of s k h u hu
theorem infoLexT:(Tryz.prog.info? 150).map (fun i=>(i.zero,i.size,i.bytes))=some (some (.agg #[.int .i64 0,.string ⟨#[]⟩,.int .i64 0]),3,32):=by kernel_rfl
def LexRel (W wr:World) (s:ByteArray) (v:Value) (k:Nat):Prop :=
  Below W.heap.size W wr∧∃ out:List Lx.Tok,wr.ownsRow W.heap.size 150 3 v out.length ((out.map tk).flatMap cells3)∧out.length≤k∧left s 0=(left s k).app out
theorem lex_rel {W w1:World} {s:ByteArray} {v':Value} {k m:Nat} {q:Int} {out:List Lx.Tok} (hb:Below W.heap.size W w1)
    (ho:w1.ownsRow W.heap.size 150 3 v' (out.length+1) ((out.map tk).flatMap cells3++cells3 ⟨q,s.extract k (k+m),k⟩)) (hl:out.length≤k) (hr:left s 0=(left s k).app out)
    (hm:1≤m) (h:left s k=(left s (k+m)).app [⟨q,(s.data.toList.drop k).take m,k⟩]):LexRel W w1 s v' (k+m):=by
  refine ⟨hb,out++[⟨q,(s.data.toList.drop k).take m,k⟩],?_,by simp;omega,by rw [hr,h,Lx.Res.app_app]⟩
  rw [extract_tok,show k+m-k=m by omega] at ho
  simpa [tk] using ho
theorem lex_tokens_any (s:ByteArray) (w:World) (hs:s.size≤65536) :
    Calls Tryz.prog 45 #[.string s] w (LexPost w s):=by
  have h0:LexRel w w s (.slice none 0 0) 0:=⟨Below.refl _ _,[],World.ownsRow_nil _ _ _ _,Nat.zero_le _,(Lx.Res.app_nil _).symm⟩
  have H0:=hid h0
  have zs:(s.size:Int)≤65536:=by omega
  obtain ⟨i0,hi0,hz0,hz1,hz2⟩:=info_parts infoLexT
  clear h0
  go_enter Tryz.func45,Tryz.ntmps45
  go_wp2_with fail
  go_step3
  go_wp2_with fail
  go_step3
  go_wp2_with fail
  go_loopw [4,5] (fun v i wr=>∃ k:Nat,k≤s.size∧i=.int .i64 k∧LexRel w wr s v k) (fun _ i _=>s.size-(intOf i).toNat)
  case atStart=>exact ⟨0,by omega,rfl,H0.out⟩
  obtain ⟨k,hk,rfl,hrel⟩:=hrel
  have HR:=hid hrel
  clear hrel
  by_cases hlt:k<s.size
  · have z0:(0:Int)≤k:=by omega
    have z1:(k:Int)<s.size:=by omega
    go_wp2_with fail
    refine (first_at s k hlt hs _).mono ?_
    rintro e w' ⟨q,n,rfl,hst,rfl⟩
    rcases hst with ⟨rfl,hn,hkn,hl⟩ | ⟨rfl,hn,hkn,hl⟩ | ⟨rfl,hn,hkn,hl⟩ | ⟨rfl,rfl,hl⟩
    · have HL:=hid hl
      have zn:(1:Int)≤n:=by omega
      have zk:(k:Int)+n≤s.size:=by omega
      clear hl
      go_wp2_with fail
      go_roundw
      case rel =>
        obtain ⟨hb,out,ho,hlo,hr⟩:=HR.out
        exact ⟨k+n,by omega,by go_num,hb,out,ho,by omega,hr.trans (by rw [HL.out])⟩
      case measure=>simp [intOf];omega
    · have HL:=hid hl
      have zn:(1:Int)≤n:=by omega
      have zk:(k:Int)+n≤s.size:=by omega
      clear hl
      obtain ⟨hb,out,ho,hlo,hr⟩:=HR.out
      have HBB:=hid hb
      have hsz2:=hb.size
      have HRR:=hid hr
      clear hb hr
      go_wp2_with (at_builtin;refine wpList_append_own _ rfl _ _ 96 rfl w.heap.size 150 i0 _ 3 32 Tryz.underlying96 hi0 hz0 hz1 hz2 rfl (by omega) _ out.length _ rfl (ho.alloc _) ⟨_,0,none⟩ 1 1 (cells3 ⟨1,s.extract k (k+n),k⟩) rfl rfl (World.news_of_block (cs:=#[.int .i64 1,.string (s.extract k (k+n)),.int .i64 k]) (t:=150) (fr:=(0,0)) (heap_alloc_new _ _)) (by simp [cells3,Value.oneCell']) (by unfold maxLen;omega) (by omega) (by simp;omega) ?_;intro v' w1 hown1 hgrow1 hnil1;have HO:=hid (And.intro (Below.grown (HBB.out.alloc hsz2 _) hgrow1 (by simp;omega) (own_base ho)) hown1);clear hown1 hgrow1 hnil1)
      go_roundw
      case rel=>exact ⟨k+n,by omega,by go_num,lex_rel HO.out.1 HO.out.2 hlo HRR.out (by omega) HL.out⟩
      case measure=>simp [intOf];omega
    · have HL:=hid hl
      have zn:(1:Int)≤n:=by omega
      have zk:(k:Int)+n≤s.size:=by omega
      clear hl
      obtain ⟨hb,out,ho,hlo,hr⟩:=HR.out
      have HBB:=hid hb
      have hsz2:=hb.size
      have HRR:=hid hr
      clear hb hr
      go_wp2_with (at_builtin;refine wpList_append_own _ rfl _ _ 96 rfl w.heap.size 150 i0 _ 3 32 Tryz.underlying96 hi0 hz0 hz1 hz2 rfl (by omega) _ out.length _ rfl (ho.alloc _) ⟨_,0,none⟩ 1 1 (cells3 ⟨2,s.extract k (k+n),k⟩) rfl rfl (World.news_of_block (cs:=#[.int .i64 2,.string (s.extract k (k+n)),.int .i64 k]) (t:=150) (fr:=(0,0)) (heap_alloc_new _ _)) (by simp [cells3,Value.oneCell']) (by unfold maxLen;omega) (by omega) (by simp;omega) ?_;intro v' w1 hown1 hgrow1 hnil1;have HO:=hid (And.intro (Below.grown (HBB.out.alloc hsz2 _) hgrow1 (by simp;omega) (own_base ho)) hown1);clear hown1 hgrow1 hnil1)
      go_roundw
      case rel=>exact ⟨k+n,by omega,by go_num,lex_rel HO.out.1 HO.out.2 hlo HRR.out (by omega) HL.out⟩
      case measure=>simp [intOf];omega
    obtain ⟨hb,out,ho,hlo,hr⟩:=HR.out
    rw [hl] at hr
    have HQ:=hid hr
    have HBB:=hid hb
    clear hb hr hl ho HR
    go_wp2_with fail
    refine (new_any 1 (k:Int) _).mono ?_
    rintro e w' ⟨rfl,rfl⟩
    unfold faultV
    go_wp2_with fail
    go_ret2
    refine ⟨HBB.out,?_⟩
    rw [HQ.out]
    rfl
  have z1:(s.size:Int)≤k:=by omega
  have hks:k=s.size:=by omega
  obtain ⟨hb,out,ho,hlo,hr⟩:=HR.out
  rw [left_end (i:=k) (by omega)] at hr
  have HQ:=hid hr
  have HBB:=hid hb
  have hsz2:=hb.size
  have HK:=hid hks
  clear hr hb HR hks
  go_wp2_with (at_builtin;refine wpList_append_own _ rfl _ _ 96 rfl w.heap.size 150 i0 _ 3 32 Tryz.underlying96 hi0 hz0 hz1 hz2 rfl (by omega) _ out.length _ rfl (ho.alloc _) ⟨_,0,none⟩ 1 1 (cells3 ⟨3,⟨#[]⟩,k⟩) rfl rfl (World.news_of_block (cs:=#[.int .i64 3,.string ⟨#[]⟩,.int .i64 k]) (t:=150) (fr:=(0,0)) (heap_alloc_new _ _)) (by simp [cells3,Value.oneCell']) (by unfold maxLen;omega) (by omega) (by simp;omega) ?_;intro v' w1 hown1 hgrow1 hnil1;have hB1:=Below.grown (HBB.out.alloc hsz2 _) hgrow1 (by simp;omega) (own_base ho);obtain ⟨A',c',rfl,hts⟩:=ts_of_own (ts:=full out k) (n:=out.length+1) (by simp [full]) (by rw [full_cells];exact hown1);have HT:=hid hts;have HB1:=hid hB1;clear hB1 hown1 hgrow1 hnil1 hts)
  go_ret2
  refine ⟨HB1.out,?_⟩
  rw [HQ.out]
  simp only [Lx.Res.app,List.append_nil]
  refine ⟨A',c',rfl,?_⟩
  rw [←HK.out]
  exact HT.out
