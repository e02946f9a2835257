/- The walks of the reference's Alike, Same and Join.
The walks of the reference's Same, at two slices that read alike, and Join.
The walk of the reference's Tokens: it returns the tokens of the text in the plain words of LxPure.
The walk of the reference's Tokens. -/
import Derived.Test.YtkdlidakdknhjaaGreatDoorQDRdP
import Derived.Deep.QuietTactic
import Derived.BigQuiet
import Derived.Lib.SmallJoins
import Derived.Laws.StructEq
set_option maxRecDepth 100000
set_option maxHeartbeats 4000000
open Go.Lib (hid)
namespace Go.Proofs.YtkdlidakdknhjaaGreatDoor
open Go.RowKit
def sameT (x y:Tk):Bool:=(x.k==y.k)&&(x.s.toList==y.s.toList)
open Go.RowKit
open Go.RowKit
def tk (t:Lx.Tok):Tk:=⟨t.kind,⟨t.text.toArray⟩,t.off⟩
def full (ts:List Lx.Tok) (n:Nat):List Tk:=ts.map tk++[⟨3,⟨#[]⟩,n⟩]
def runEnd (p:UInt8→Bool) (l:List UInt8) (k:Nat):Nat:=k+((l.drop k).takeWhile p).length
theorem at_drop {s:ByteArray} {k:Nat} (hk:k<s.size):s.data.toList.drop k=s[k] :: s.data.toList.drop (k+1):=by
  have hl:k<s.data.toList.length:=by rw [←Lib.size_eq];exact hk
  exact List.drop_eq_getElem_cons hl
theorem at_end {s:ByteArray} {k:Nat} (hk:s.size≤k):s.data.toList.drop k=[]:=List.drop_eq_nil_of_le (by rw [←Lib.size_eq];omega)
theorem run_on {p:UInt8→Bool} {s:ByteArray} {k:Nat} (hk:k<s.size) (h:p s[k]=true):runEnd p s.data.toList k=runEnd p s.data.toList (k+1):=by
  unfold runEnd
  rw [at_drop hk,List.takeWhile_cons,h]
  simp only [if_true,List.length_cons]
  omega
theorem run_off {p:UInt8→Bool} {s:ByteArray} {k:Nat} (hk:k<s.size) (h:p s[k]=false):runEnd p s.data.toList k=k:=by
  unfold runEnd
  rw [at_drop hk,List.takeWhile_cons,h]
  simp
theorem run_end {p:UInt8→Bool} {s:ByteArray} {k:Nat} (hk:s.size≤k):runEnd p s.data.toList k=k:=by
  unfold runEnd
  rw [at_end hk]
  simp
theorem take_run (p:UInt8→Bool):∀ l:List UInt8,l.take (l.takeWhile p).length=l.takeWhile p
  | []=>rfl
  | c :: l=>by
    simp only [List.takeWhile_cons]
    split
    · simp [take_run p l]
    rfl
theorem word_text {s:ByteArray} {i k:Nat} (hi:i<s.size) (hk:runEnd Lx.good s.data.toList (i+1)=k):(s.data.toList.drop i).take (k-i)=s[i] :: (s.data.toList.drop (i+1)).takeWhile Lx.good:=by
  unfold runEnd at hk
  rw [at_drop hi,show k-i=((s.data.toList.drop (i+1)).takeWhile Lx.good).length+1 by omega,List.take_succ_cons,take_run]
theorem drop_run {p:UInt8→Bool} {s:ByteArray} {i k:Nat} (hk:runEnd p s.data.toList (i+1)=k):(s.data.toList.drop (i+1)).drop ((s.data.toList.drop (i+1)).takeWhile p).length=s.data.toList.drop k∧i+1+((s.data.toList.drop (i+1)).takeWhile p).length=k:=by
  unfold runEnd at hk
  rw [List.drop_drop,hk]
  exact ⟨rfl,rfl⟩
def left (s:ByteArray) (i:Nat):Lx.Res:=Lx.lex (s.data.toList.drop i) i
theorem left_blank {s:ByteArray} {i:Nat} (hi:i<s.size) (h4:Lx.cls s[i].toNat=4):left s i=left s (i+1):=by
  unfold left
  rw [at_drop hi,Lx.lex_cons,if_pos (show Lx.cl s[i]=4 from h4)]
theorem head_drop {s:ByteArray} {i:Nat} (c:UInt8):(s.data.toList.drop (i+1)).head?=some c ↔ ∃ h:i+1<s.size,s[i+1]=c:=by
  by_cases h:i+1<s.size
  · rw [at_drop h,List.head?_cons,Option.some.injEq]
    exact ⟨fun e=>⟨h,e⟩,fun ⟨_,e⟩=>e⟩
  rw [at_end (by omega)]
  simp only [List.head?_nil,reduceCtorEq,false_iff]
  rintro ⟨h2,_⟩
  exact h h2
theorem left_comment {s:ByteArray} {i k:Nat} (hi:i<s.size) (h4:Lx.cls s[i].toNat≠4) (h1:s[i]=47) (h2:i+1<s.size) (h3:s[i+1]=47) (hk:runEnd Lx.inLine s.data.toList (i+1)=k):left s i=left s k:=by
  unfold left
  rw [at_drop hi,Lx.lex_cons,if_neg (show ¬ Lx.cl s[i]=4 from h4),if_pos ⟨h1,(head_drop 47).2 ⟨h2,h3⟩⟩,(drop_run hk).1,(drop_run hk).2]
theorem left_word {s:ByteArray} {i k:Nat} (hi:i<s.size) (h1:Lx.cls s[i].toNat=1) (hk:runEnd Lx.good s.data.toList (i+1)=k) :
    left s i=(left s k).app [⟨1,(s.data.toList.drop i).take (k-i),i⟩]:=by
  unfold left
  rw [word_text hi hk,at_drop hi,Lx.lex_cons,if_neg (show ¬ Lx.cl s[i]=4 by unfold Lx.cl;rw [h1];decide),if_neg (fun h=>Lx.cl_word h1 h.1),if_pos (show Lx.cl s[i]=1 from h1),(drop_run hk).1,(drop_run hk).2]
theorem sgnI_sgn (c:UInt8):sgnI c.toNat=Lx.sgn c:=by
  rw [Bool.eq_iff_iff]
  simp only [sgnI,Lx.sgn,List.any_eq_true,beq_iff_eq]
  constructor
  · rintro ⟨x,hx,h⟩
    exact ⟨x,hx,UInt8.toNat_inj.1 (by omega)⟩
  rintro ⟨x,hx,rfl⟩
  exact ⟨x,hx,rfl⟩
theorem left_sign {s:ByteArray} {i:Nat} (hi:i<s.size) (hs:sgnI s[i].toNat=true):left s i=(left s (i+1)).app [⟨2,(s.data.toList.drop i).take 1,i⟩]:=by
  rw [sgnI_sgn] at hs
  obtain ⟨h4,h1,h47⟩:=Lx.cl_sgn hs
  unfold left
  rw [at_drop hi,Lx.lex_cons,if_neg h4,if_neg (fun h=>h47 h.1),if_neg h1,if_pos hs]
  rfl
theorem left_bad {s:ByteArray} {i:Nat} (hi:i<s.size) (h4:Lx.cls s[i].toNat≠4) (hc:¬ (s[i]=47∧∃ h:i+1<s.size,s[i+1]=47)) (h1:Lx.cls s[i].toNat≠1) (hs:sgnI s[i].toNat=false):left s i=.bad i:=by
  rw [sgnI_sgn] at hs
  unfold left
  rw [at_drop hi,Lx.lex_cons,if_neg (show ¬ Lx.cl s[i]=4 from h4),if_neg (fun h=>hc ⟨h.1,(head_drop 47).1 h.2⟩),if_neg (show ¬ Lx.cl s[i]=1 from h1),if_neg (by rw [hs];decide)]
theorem left_end {s:ByteArray} {i:Nat} (hi:s.size≤i):left s i=.ok []:=by
  unfold left
  rw [at_end hi,Lx.lex_nil]
theorem inLine_int (c:UInt8):Lx.inLine c=!((c.toNat:Int)==10):=by
  rw [Bool.eq_iff_iff]
  simp only [Lx.inLine,Bool.not_eq_true',beq_eq_false_iff_ne,ne_eq,eq10]
theorem eq47 (c:UInt8):(c=47) ↔ ((c.toNat:Int)=47):=by
  constructor
  · rintro rfl;rfl
  intro h
  apply UInt8.toNat_inj.1
  have:(47:UInt8).toNat=47:=rfl
  omega
open Go.RowKit
theorem TS.setCell {w:World} {A:Option Addr} {n:Nat} {ts:List Tk} (h:TS w A n ts) {p:Addr} (u:Value) (hne:∀ a,A=some a→a.block≠p.block):TS (w.setCell p u) A n ts:=by
  refine ⟨h.len,fun j t hj=>?_⟩
  obtain ⟨a,e,h1,h2,h3,h4⟩:=h.at_ j t hj
  have hb:=hne a e
  have hd:∀ (q:Addr),q.block=a.block→(w.setCell p u).cell? q=w.cell? q:=fun q hq=>World.cell?_setCell_other _ _ _ _ (by rintro rfl;exact hb hq.symm)
  exact ⟨a,e,by simpa [World.setCell] using h1,(hd _ (block_of_add _ _)).trans h2,(hd ⟨(a.add (j*3)).block,(a.add (j*3)).off+1,none⟩ (block_of_add a (j*3))).trans h3,(hd ⟨(a.add (j*3)).block,(a.add (j*3)).off+2,none⟩ (block_of_add a (j*3))).trans h4⟩
theorem own_addr {w:World} {base n size c:Nat} {e:TypeId} {A:Option Addr} {xs:List Value} (h:w.ownsRow base e size (.slice A n c) n xs):∀ a,A=some a→base≤a.block:=by
  rintro a rfl
  exact own_base h a.block rfl
theorem full_cells (ts:List Lx.Tok) (n:Nat):(full ts n).flatMap cells3=(ts.map tk).flatMap cells3++cells3 ⟨3,⟨#[]⟩,n⟩:=by simp [full]
def TokPost (w:World) (s:ByteArray) (e:Ending) (w':World):Prop :=
  Below w.heap.size w w'∧match left s 0 with
    | .bad i=>e=.returned (.agg #[.slice none 0 0,.int .i64 i])
    | .ok ts=>∃ A c,e=.returned (.agg #[.slice A (ts.length+1) c,.int .i64 (-1)])∧TS w' A (ts.length+1) (full ts s.size)
def TokRel (W wr:World) (s:ByteArray) (v:Value) (k:Nat):Prop :=
  Below W.heap.size W wr∧∃ out:List Lx.Tok,wr.ownsRow W.heap.size 111 3 v out.length ((out.map tk).flatMap cells3)∧out.length≤k∧left s 0=(left s k).app out
theorem extract_tok (s:ByteArray) (k m:Nat):s.extract k m=⟨((s.data.toList.drop k).take (m-k)).toArray⟩:=by
  have h:=ret_str (a:=s.extract k m) (b:=⟨((s.data.toList.drop k).take (m-k)).toArray⟩) (by rw [Lib.extract_data])
  injection h with h
  injection h
theorem tok_rel {W w1:World} {s:ByteArray} {v':Value} {k m:Nat} {q:Int} {out:List Lx.Tok} (hb:Below W.heap.size W w1)
    (ho:w1.ownsRow W.heap.size 111 3 v' (out.length+1) ((out.map tk).flatMap cells3++cells3 ⟨q,s.extract k m,k⟩)) (hl:out.length≤k) (hr:left s 0=(left s k).app out)
    (hkm:k+1≤m) (_hm:m≤s.size) (h:left s k=(left s m).app [⟨q,(s.data.toList.drop k).take (m-k),k⟩]):TokRel W w1 s v' m:=by
  refine ⟨hb,out++[⟨q,(s.data.toList.drop k).take (m-k),k⟩],?_,by simp;omega,by rw [hr,h,Lx.Res.app_app]⟩
  rw [extract_tok] at ho
  simpa [tk] using ho
theorem ref_tokens_any (s:ByteArray) (hs:s.size≤65536) (w:World) :
    Calls Tryz.prog 51 #[.string s] w (TokPost w s):=by
  obtain ⟨W,hW⟩:∃ W,W=w.alloc (.cells #[.slice none 0 0,.int .i64 0] 108):=⟨_,rfl⟩
  have hwW:Below w.heap.size w W:=by rw [hW];exact (Below.refl _ _).alloc (Nat.le_refl _) _
  have hsz:w.heap.size<W.heap.size:=by rw [hW];simp
  have x0:W.cell? ⟨w.heap.size,0,none⟩=some (.slice none 0 0):=by rw [hW,World.cell?_alloc_at _ _ _ _ rfl];rfl
  have x1:W.cell? ⟨w.heap.size,1,none⟩=some (.int .i64 0):=by rw [hW,World.cell?_alloc_at _ _ _ _ rfl];rfl
  have f0:W.frozen? ⟨w.heap.size,0,none⟩=false:=by rw [hW];simp
  have f1:W.frozen? ⟨w.heap.size,1,none⟩=false:=by rw [hW];simp
  have h0:TokRel W W s (.slice none 0 0) 0:=⟨Below.refl _ _,[],World.ownsRow_nil _ _ _ _,Nat.zero_le _,(Lx.Res.app_nil _).symm⟩
  have HW:=hid hW
  have HwW:=hid hwW
  have H0:=hid h0
  have HX:=hid (And.intro x0 (And.intro x1 (And.intro f0 f1)))
  have zs:(s.size:Int)≤65536:=by omega
  obtain ⟨i0,hi0,hz0,hz1,hz2⟩:=info_parts infoTok
  clear hW hwW h0 x0 x1 f0 f1
  go_enter Tryz.func51,Tryz.ntmps51
  go_wp2_with fail
  rw [←HW.out]
  go_loopw [3,4] (fun v i wr=>∃ k:Nat,k≤s.size∧i=.int .i64 k∧TokRel W wr s v k) (fun _ i _=>s.size-(intOf i).toNat)
  case atStart=>exact ⟨0,by omega,rfl,H0.out⟩
  obtain ⟨k,hk,rfl,hrel⟩:=hrel
  have HR:=hid hrel
  clear hrel
  by_cases hlt:k<s.size
  · have z0:(0:Int)≤k:=by omega
    have z1:(k:Int)<s.size:=by omega
    have b1:(s[k].toNat:Int)≤255:=by have:=s[k].toNat_lt;omega
    have b0:(0:Int)≤(s[k].toNat:Int):=by omega
    by_cases h4:Lx.cls s[k].toNat=4
    · have e4:(Lx.cls s[k].toNat==4)=true:=by simp [h4]
      have HL:=hid (left_blank hlt h4)
      clear h4
      go_wp2_with (go_at_call 64;refine (ref_class_any _ (by omega) (by omega) _).mono ?_;rintro e w' ⟨rfl,rfl⟩)
      go_roundw
      case rel =>
        obtain ⟨hb,out,ho,hl,hr⟩:=HR.out
        exact ⟨k+1,by omega,by go_num,hb,out,ho,by omega,hr.trans (by rw [HL.out])⟩
      case measure=>simp [intOf];omega
    have e4:(Lx.cls s[k].toNat==4)=false:=by simp [h4]
    by_cases hcm:s[k]=47∧∃ h:k+1<s.size,s[k+1]=47
    · obtain ⟨hc1,hc2,hc3⟩:=hcm
      have e5:((s[k].toNat:Int)==47)=true:=by rw [(eq47 _).1 hc1];rfl
      have z2:(k:Int)+1<s.size:=by omega
      have e6:((s[k+1].toNat:Int)==47)=true:=by rw [(eq47 _).1 hc3];rfl
      have HL:=hid (fun m hm=>left_comment (k:=m) hlt h4 hc1 hc2 hc3 hm)
      clear h4 hc1 hc3
      go_wp2_with (go_at_call 64;refine (ref_class_any _ (by omega) (by omega) _).mono ?_;rintro e w' ⟨rfl,rfl⟩)
      go_loop [6] (fun v=>∃ m:Nat,k+1≤m∧m≤s.size∧v=.int .i64 m∧runEnd Lx.inLine s.data.toList m=runEnd Lx.inLine s.data.toList (k+1)) (fun v=>s.size-(intOf v).toNat)
      case atStart=>exact ⟨k+1,by omega,by omega,by go_num,rfl⟩
      obtain ⟨m,hm1,hm2,rfl,hm⟩:=hrel
      by_cases hml:m<s.size
      · have y1:(m:Int)<s.size:=by omega
        cases h10:((s[m].toNat:Int)==10)
        · have HM:=hid ((run_on (p:=Lx.inLine) hml (by rw [inLine_int,h10];rfl)).symm.trans hm)
          have h11:((s[m].toNat:Int) != 10)=true:=by rw [bne,h10];rfl
          clear hm
          go_wp2_with fail
          go_round
          case rel=>exact ⟨m+1,by omega,by omega,by go_num,HM.out⟩
          case measure=>simp [intOf];omega
        have HM:=hid (hm.symm.trans (run_off (p:=Lx.inLine) hml (by rw [inLine_int,h10];rfl)))
        have h11:((s[m].toNat:Int) != 10)=false:=by rw [bne,h10];rfl
        clear hm
        go_wp2_with fail
        go_roundw
        case rel =>
          obtain ⟨hb,out,ho,hl,hr⟩:=HR.out
          exact ⟨m,by omega,rfl,hb,out,ho,by omega,hr.trans (by rw [HL.out m HM.out])⟩
        case measure=>simp [intOf];omega
      have y1:(s.size:Int)≤m:=by omega
      have HM:=hid (hm.symm.trans (run_end (p:=Lx.inLine) (s:=s) (k:=m) (by omega)))
      clear hm
      go_wp2_with fail
      go_roundw
      case rel =>
        obtain ⟨hb,out,ho,hl,hr⟩:=HR.out
        exact ⟨m,by omega,rfl,hb,out,ho,by omega,hr.trans (by rw [HL.out m HM.out])⟩
      case measure=>simp [intOf];omega
    by_cases h1:Lx.cls s[k].toNat=1
    · have e1:(Lx.cls s[k].toNat==1)=true:=by simp [h1]
      have e5:((s[k].toNat:Int)==47)=false:=by
        rw [beq_eq_false_iff_ne]
        exact fun h=>Lx.cl_word h1 ((eq47 _).2 h)
      have HL:=hid (fun m hm=>left_word (k:=m) hlt h1 hm)
      clear h4 h1 hcm
      go_wp2_with (go_at_call 64;refine (ref_class_any _ (by omega) (by omega) _).mono ?_;rintro e w' ⟨rfl,rfl⟩)
      go_loop [6] (fun v=>∃ m:Nat,k+1≤m∧m≤s.size∧v=.int .i64 m∧runEnd Lx.good s.data.toList m=runEnd Lx.good s.data.toList (k+1)) (fun v=>s.size-(intOf v).toNat)
      case atStart=>exact ⟨k+1,by omega,by omega,by go_num,rfl⟩
      obtain ⟨m,hm1,hm2,rfl,hm⟩:=hrel
      by_cases hml:m<s.size
      · have y1:(m:Int)<s.size:=by omega
        have c1:(s[m].toNat:Int)≤255:=by have:=s[m].toNat_lt;omega
        have c0:(0:Int)≤(s[m].toNat:Int):=by omega
        by_cases g1:0<Lx.cls s[m].toNat
        · by_cases g2:Lx.cls s[m].toNat<4
          · have HM:=hid ((run_on (p:=Lx.good) hml (by simp [Lx.good,Lx.cl,g1,g2])).symm.trans hm)
            clear hm
            go_wp2_with (go_at_call 64;refine (ref_class_any _ (by omega) (by omega) _).mono ?_;rintro e w' ⟨rfl,rfl⟩)
            go_round
            case rel=>exact ⟨m+1,by omega,by omega,by go_num,HM.out⟩
            case measure=>simp [intOf];omega
          have HM:=hid (hm.symm.trans (run_off (p:=Lx.good) hml (by simp [Lx.good,Lx.cl,g2])))
          have g2':4≤Lx.cls s[m].toNat:=by omega
          clear hm g2
          obtain ⟨hb,out,ho,hl,hr⟩:=HR.out
          have HBB:=hid hb
          have hsz2:=hb.size
          have HRR:=hid hr
          clear hb hr
          go_wp2_with (first | (go_at_call 64;refine (ref_class_any _ (by omega) (by omega) _).mono ?_;rintro e w' ⟨rfl,rfl⟩) | (at_builtin;refine wpList_append_own _ rfl _ _ 58 rfl W.heap.size 111 i0 _ 3 32 Tryz.underlying58 hi0 hz0 hz1 hz2 rfl (by omega) _ out.length _ rfl (ho.alloc _) ⟨_,0,none⟩ 1 1 (cells3 ⟨1,s.extract k m,k⟩) rfl rfl (World.news_of_block (cs:=#[.int .i64 1,.string (s.extract k m),.int .i64 k]) (t:=111) (fr:=(0,0)) (heap_alloc_new _ _)) (by simp [cells3,Value.oneCell']) (by unfold maxLen;omega) (by omega) (by simp;omega) ?_;intro v' w1 hown1 hgrow1 hnil1;have HO:=hid (And.intro (Below.grown (HBB.out.alloc hsz2 _) hgrow1 (by simp;omega) (own_base ho)) hown1);clear hown1 hgrow1 hnil1))
          go_roundw
          case rel=>exact ⟨m,by omega,rfl,tok_rel HO.out.1 HO.out.2 hl HRR.out (by omega) (by omega) (HL.out m HM.out)⟩
          case measure=>simp [intOf];omega
        have HM:=hid (hm.symm.trans (run_off (p:=Lx.good) hml (by simp [Lx.good,Lx.cl,g1])))
        have g1':Lx.cls s[m].toNat≤0:=by omega
        clear hm g1
        obtain ⟨hb,out,ho,hl,hr⟩:=HR.out
        have HBB:=hid hb
        have hsz2:=hb.size
        have HRR:=hid hr
        clear hb hr
        go_wp2_with (first | (go_at_call 64;refine (ref_class_any _ (by omega) (by omega) _).mono ?_;rintro e w' ⟨rfl,rfl⟩) | (at_builtin;refine wpList_append_own _ rfl _ _ 58 rfl W.heap.size 111 i0 _ 3 32 Tryz.underlying58 hi0 hz0 hz1 hz2 rfl (by omega) _ out.length _ rfl (ho.alloc _) ⟨_,0,none⟩ 1 1 (cells3 ⟨1,s.extract k m,k⟩) rfl rfl (World.news_of_block (cs:=#[.int .i64 1,.string (s.extract k m),.int .i64 k]) (t:=111) (fr:=(0,0)) (heap_alloc_new _ _)) (by simp [cells3,Value.oneCell']) (by unfold maxLen;omega) (by omega) (by simp;omega) ?_;intro v' w1 hown1 hgrow1 hnil1;have HO:=hid (And.intro (Below.grown (HBB.out.alloc hsz2 _) hgrow1 (by simp;omega) (own_base ho)) hown1);clear hown1 hgrow1 hnil1))
        go_roundw
        case rel=>exact ⟨m,by omega,rfl,tok_rel HO.out.1 HO.out.2 hl HRR.out (by omega) (by omega) (HL.out m HM.out)⟩
        case measure=>simp [intOf];omega
      have y1:(s.size:Int)≤m:=by omega
      have HM:=hid (hm.symm.trans (run_end (p:=Lx.good) (s:=s) (k:=m) (by omega)))
      clear hm
      obtain ⟨hb,out,ho,hl,hr⟩:=HR.out
      have HBB:=hid hb
      have hsz2:=hb.size
      have HRR:=hid hr
      clear hb hr
      go_wp2_with (first | (go_at_call 64;refine (ref_class_any _ (by omega) (by omega) _).mono ?_;rintro e w' ⟨rfl,rfl⟩) | (at_builtin;refine wpList_append_own _ rfl _ _ 58 rfl W.heap.size 111 i0 _ 3 32 Tryz.underlying58 hi0 hz0 hz1 hz2 rfl (by omega) _ out.length _ rfl (ho.alloc _) ⟨_,0,none⟩ 1 1 (cells3 ⟨1,s.extract k m,k⟩) rfl rfl (World.news_of_block (cs:=#[.int .i64 1,.string (s.extract k m),.int .i64 k]) (t:=111) (fr:=(0,0)) (heap_alloc_new _ _)) (by simp [cells3,Value.oneCell']) (by unfold maxLen;omega) (by omega) (by simp;omega) ?_;intro v' w1 hown1 hgrow1 hnil1;have HO:=hid (And.intro (Below.grown (HBB.out.alloc hsz2 _) hgrow1 (by simp;omega) (own_base ho)) hown1);clear hown1 hgrow1 hnil1))
      go_roundw
      case rel=>exact ⟨m,by omega,rfl,tok_rel HO.out.1 HO.out.2 hl HRR.out (by omega) (by omega) (HL.out m HM.out)⟩
      case measure=>simp [intOf];omega
    have e1:(Lx.cls s[k].toNat==1)=false:=by simp [h1]
    cases hsg:sgnI s[k].toNat
    · have HL:=hid (left_bad hlt h4 hcm h1 hsg)
      have esg:(!sgnI s[k].toNat)=true:=by rw [hsg];rfl
      have hv:((s[k].toNat:Int)==47)=false∨(((s[k].toNat:Int)==47)=true∧(s.size:Int)≤k+1)∨(((s[k].toNat:Int)==47)=true∧∃ h:k+1<s.size,((s[k+1].toNat:Int)==47)=false):=by
        cases h:((s[k].toNat:Int)==47)
        · exact .inl rfl
        refine .inr ?_
        have h':s[k]=47:=(eq47 _).2 (by simpa using h)
        by_cases hz:k+1<s.size
        · refine .inr ⟨rfl,hz,?_⟩
          rw [beq_eq_false_iff_ne]
          exact fun h2=>hcm ⟨h',hz,(eq47 _).2 h2⟩
        exact .inl ⟨rfl,by omega⟩
      clear h4 h1 hcm
      rcases hv with e5 | ⟨e5,e6⟩ | ⟨e5,hz,e6⟩
      · obtain ⟨hb,out,ho,hl,hr⟩:=HR.out
        rw [HL.out] at hr
        have HQ:=hid hr
        have HBB:=hid hb
        obtain ⟨x0,x1,f0,f1⟩:=HX.out
        have y0:=(hb.cell (p:=⟨w.heap.size,0,none⟩) hsz).trans x0
        have y1:=(hb.cell (p:=⟨w.heap.size,1,none⟩) hsz).trans x1
        have g0:=(hb.frozen (p:=⟨w.heap.size,0,none⟩) hsz).trans f0
        have g1:=(hb.frozen (p:=⟨w.heap.size,1,none⟩) hsz).trans f1
        clear hb ho hr x0 x1 f0 f1
        go_wp2_with (first | (go_at_call 64;refine (ref_class_any _ (by omega) (by omega) _).mono ?_;rintro e w' ⟨rfl,rfl⟩) | (go_at_call 100;refine (ref_sign_any _ _).mono ?_;rintro e w' ⟨rfl,rfl⟩))
        refine bodyPost_ret (v:=.agg #[.slice none 0 0,.int .i64 k]) (by simp [results,Tryz.results51,go_sem,y0,y1]) rfl ?_
        refine ⟨Below.setCell (p:=⟨w.heap.size,1,none⟩) (Below.setCell (p:=⟨w.heap.size,0,none⟩) (HwW.out.trans (HBB.out.mono (by omega))) (Nat.le_refl _) _) (Nat.le_refl _) _,?_⟩
        rw [HQ.out]
        rfl
      · obtain ⟨hb,out,ho,hl,hr⟩:=HR.out
        rw [HL.out] at hr
        have HQ:=hid hr
        have HBB:=hid hb
        obtain ⟨x0,x1,f0,f1⟩:=HX.out
        have y0:=(hb.cell (p:=⟨w.heap.size,0,none⟩) hsz).trans x0
        have y1:=(hb.cell (p:=⟨w.heap.size,1,none⟩) hsz).trans x1
        have g0:=(hb.frozen (p:=⟨w.heap.size,0,none⟩) hsz).trans f0
        have g1:=(hb.frozen (p:=⟨w.heap.size,1,none⟩) hsz).trans f1
        clear hb ho hr x0 x1 f0 f1
        go_wp2_with (first | (go_at_call 64;refine (ref_class_any _ (by omega) (by omega) _).mono ?_;rintro e w' ⟨rfl,rfl⟩) | (go_at_call 100;refine (ref_sign_any _ _).mono ?_;rintro e w' ⟨rfl,rfl⟩))
        refine bodyPost_ret (v:=.agg #[.slice none 0 0,.int .i64 k]) (by simp [results,Tryz.results51,go_sem,y0,y1]) rfl ?_
        refine ⟨Below.setCell (p:=⟨w.heap.size,1,none⟩) (Below.setCell (p:=⟨w.heap.size,0,none⟩) (HwW.out.trans (HBB.out.mono (by omega))) (Nat.le_refl _) _) (Nat.le_refl _) _,?_⟩
        rw [HQ.out]
        rfl
      have z2:(k:Int)+1<s.size:=by omega
      obtain ⟨hb,out,ho,hl,hr⟩:=HR.out
      rw [HL.out] at hr
      have HQ:=hid hr
      have HBB:=hid hb
      obtain ⟨x0,x1,f0,f1⟩:=HX.out
      have y0:=(hb.cell (p:=⟨w.heap.size,0,none⟩) hsz).trans x0
      have y1:=(hb.cell (p:=⟨w.heap.size,1,none⟩) hsz).trans x1
      have g0:=(hb.frozen (p:=⟨w.heap.size,0,none⟩) hsz).trans f0
      have g1:=(hb.frozen (p:=⟨w.heap.size,1,none⟩) hsz).trans f1
      clear hb ho hr x0 x1 f0 f1
      go_wp2_with (first | (go_at_call 64;refine (ref_class_any _ (by omega) (by omega) _).mono ?_;rintro e w' ⟨rfl,rfl⟩) | (go_at_call 100;refine (ref_sign_any _ _).mono ?_;rintro e w' ⟨rfl,rfl⟩))
      refine bodyPost_ret (v:=.agg #[.slice none 0 0,.int .i64 k]) (by simp [results,Tryz.results51,go_sem,y0,y1]) rfl ?_
      refine ⟨Below.setCell (p:=⟨w.heap.size,1,none⟩) (Below.setCell (p:=⟨w.heap.size,0,none⟩) (HwW.out.trans (HBB.out.mono (by omega))) (Nat.le_refl _) _) (Nat.le_refl _) _,?_⟩
      rw [HQ.out]
      rfl
    have HL:=hid (left_sign hlt hsg)
    have e5:((s[k].toNat:Int)==47)=false:=by
      rw [beq_eq_false_iff_ne]
      rw [sgnI_sgn] at hsg
      exact fun h=>(Lx.cl_sgn hsg).2.2 ((eq47 _).2 h)
    clear h4 h1 hcm
    obtain ⟨hb,out,ho,hl,hr⟩:=HR.out
    have HBB:=hid hb
    have hsz2:=hb.size
    have HRR:=hid hr
    clear hb hr
    go_wp2_with (first | (go_at_call 64;refine (ref_class_any _ (by omega) (by omega) _).mono ?_;rintro e w' ⟨rfl,rfl⟩) | (go_at_call 100;refine (ref_sign_any _ _).mono ?_;rintro e w' ⟨rfl,rfl⟩) | (at_builtin;refine wpList_append_own _ rfl _ _ 58 rfl W.heap.size 111 i0 _ 3 32 Tryz.underlying58 hi0 hz0 hz1 hz2 rfl (by omega) _ out.length _ rfl (ho.alloc _) ⟨_,0,none⟩ 1 1 (cells3 ⟨2,s.extract k (k+1),k⟩) rfl rfl (World.news_of_block (cs:=#[.int .i64 2,.string (s.extract k (k+1)),.int .i64 k]) (t:=111) (fr:=(0,0)) (heap_alloc_new _ _)) (by simp [cells3,Value.oneCell']) (by unfold maxLen;omega) (by omega) (by simp;omega) ?_;intro v' w1 hown1 hgrow1 hnil1;have HO:=hid (And.intro (Below.grown (HBB.out.alloc hsz2 _) hgrow1 (by simp;omega) (own_base ho)) hown1);clear hown1 hgrow1 hnil1))
    go_roundw
    case rel=>exact ⟨k+1,by omega,by go_num,tok_rel HO.out.1 HO.out.2 hl HRR.out (by omega) (by omega) (by rw [show k+1-k=1 by omega];exact HL.out)⟩
    case measure=>simp [intOf];omega
  have z1:(s.size:Int)≤k:=by omega
  obtain ⟨hb,out,ho,hl,hr⟩:=HR.out
  rw [left_end (i:=k) (by omega)] at hr
  have HQ:=hid hr
  have HBB:=hid hb
  have hsz2:=hb.size
  clear hr hb HR
  go_wp2_with (at_builtin;refine wpList_append_own _ rfl _ _ 58 rfl W.heap.size 111 i0 _ 3 32 Tryz.underlying58 hi0 hz0 hz1 hz2 rfl (by omega) _ out.length _ rfl (ho.alloc _) ⟨_,0,none⟩ 1 1 (cells3 ⟨3,⟨#[]⟩,s.size⟩) rfl rfl (World.news_of_block (cs:=#[.int .i64 3,.string ⟨#[]⟩,.int .i64 s.size]) (t:=111) (fr:=(0,0)) (heap_alloc_new _ _)) (by simp [cells3,Value.oneCell']) (by unfold maxLen;omega) (by omega) (by simp;omega) ?_;intro v' w1 hown1 hgrow1 hnil1;have hB1:=Below.grown (HBB.out.alloc hsz2 _) hgrow1 (by simp;omega) (own_base ho);obtain ⟨x0,x1,f0,f1⟩:=HX.out;have y0:=(hB1.cell (p:=⟨w.heap.size,0,none⟩) hsz).trans x0;have y1:=(hB1.cell (p:=⟨w.heap.size,1,none⟩) hsz).trans x1;have g0:=(hB1.frozen (p:=⟨w.heap.size,0,none⟩) hsz).trans f0;have g1:=(hB1.frozen (p:=⟨w.heap.size,1,none⟩) hsz).trans f1;obtain ⟨A',c',rfl,hts⟩:=ts_of_own (ts:=full out s.size) (n:=out.length+1) (by simp [full]) (by rw [full_cells];exact hown1);have HT:=hid hts;have HA:=hid (own_addr hown1);have HB1:=hid hB1;clear x0 x1 f0 f1 hB1 hown1 hgrow1 hnil1 hts)
  refine bodyPost_ret (v:=.agg #[.slice A' (out.length+1) c',.int .i64 (-1)]) (by simp [results,Tryz.results51,go_sem,y0,y1]) rfl ?_
  refine ⟨Below.setCell (p:=⟨w.heap.size,1,none⟩) (Below.setCell (p:=⟨w.heap.size,0,none⟩) (HwW.out.trans (HB1.out.mono (by omega))) (Nat.le_refl _) _) (Nat.le_refl _) _,?_⟩
  rw [HQ.out]
  simp only [Lx.Res.app,List.append_nil]
  exact ⟨A',c',rfl,TS.setCell (TS.setCell HT.out _ (fun a ha=>by have:=HA.out a ha;simp only;omega)) _ (fun a ha=>by have:=HA.out a ha;simp only;omega)⟩
