/- The walks of name.Class, name.Reserved, name.Is and what they call, over the table of reserved words. No condition but the table.
The walks of the reference's Is and Compare, and of name.Compare. -/
import Derived.Test.YtkdlidakdknhjaaGreatDoorQDExA
import Derived.Test.YtkdlidakdknhjaaGreatDoorShelf
import Derived.WalkKit
import Derived.WalkSmall
import Derived.Lib.LaidTab
import Derived.WalkSpells
import Derived.WalkLawsBesides
import Derived.Deep.QuietTactic
import Derived.BigQuiet
set_option maxHeartbeats 1000000
open Go.Lib (hid)
namespace Go.Proofs.YtkdlidakdknhjaaGreatDoor
open Go.RowKit
theorem gRes : Tryz.prog.globalNamed "castings/name.reserved" = some 1 := by kernel_rfl
def resCells:Array Value:=(Nm.words.map fun l=>Value.string ⟨l.toArray⟩).toArray
def ResVar (w : World) : Prop := w.var? Tryz.prog "castings/name.reserved" = some resCells
theorem var_lt {w:World} {n:String} {g:Nat} {cs:Array Value} (hg:Tryz.prog.globalNamed n=some g) (h:w.var? Tryz.prog n=some cs):g<w.heap.size:=by
  unfold World.var? at h
  rw [hg] at h
  simp only [Option.bind_some] at h
  rcases Nat.lt_or_ge g w.heap.size with h1 | h1
  · exact h1
  rw [Array.getElem?_eq_none h1] at h
  cases h
theorem ResVar.later {w w':World} (h:ResVar w) (hb:Below w.heap.size w w'):ResVar w':=var?_below hb gRes (var_lt gRes h) h
theorem ResVar.block {w:World} (h:ResVar w):∃ t fr,w.heap[1]?=some (.cells resCells t fr):=by
  have h0:=h
  unfold ResVar World.var? at h0
  rw [gRes] at h0
  simp only [Option.bind_some] at h0
  cases hh:w.heap[1]? with
  | none=>rw [hh] at h0;cases h0
  | some o =>
    rw [hh] at h0
    cases o with
    | cells cs t fr=>simp only [Option.some.injEq] at h0;exact ⟨t,fr,by rw [h0]⟩
    | _=>cases h0
open Go.RowKit
theorem nm_class_any (c:Int) (h0:0≤c) (h1:c≤255) (w:World) :
    Calls Tryz.prog 67 #[.int .u8 c] w fun e w'=>e=.returned (.int .i64 (Nm.cls c))∧w=w':=by
  go_enter Tryz.func67,Tryz.ntmps67
  go_wp2
  all_goals
    go_ret
    refine ⟨ret_int ?_,rfl⟩
    try simp only [beq_iff_eq,beq_eq_false_iff_ne,ne_eq] at *
    unfold Nm.cls
    first | (exfalso;omega) | rfl | (repeat (first | rw [if_pos (by omega)] | rw [if_neg (by omega)]))
theorem nm_ref_class_any (c:Int) (h0:0≤c) (h1:c≤255) (w:World) :
    Calls Tryz.prog 64 #[.int .u8 c] w fun e w'=>e=.returned (.int .i64 (Nm.cls c))∧w=w':=by
  go_enter Tryz.func64,Tryz.ntmps64
  go_wp2
  all_goals
    go_ret
    refine ⟨ret_int ?_,rfl⟩
    try simp only [beq_iff_eq,beq_eq_false_iff_ne,ne_eq] at *
    unfold Nm.cls
    first | (exfalso;omega) | rfl | (repeat (first | rw [if_pos (by omega)] | rw [if_neg (by omega)]))
theorem nm_ref_reserved_any (s:ByteArray) (w:World) :
    Calls Tryz.prog 65 #[.string s] w fun e w'=>e=.returned (.bool (Nm.resB s.data.toList))∧w=w':=by
  go_enter Tryz.func65,Tryz.ntmps65
  go_wp2
  all_goals
    go_ret
    refine ⟨ret_bool ?_,rfl⟩
    rw [←Lib.toList_data]
    rw [Bool.eq_iff_iff]
    simp only [Nm.resB,Nm.words,List.any_cons,List.any_nil,Bool.or_eq_true,beq_iff_eq,Bool.false_eq_true,or_false] at *
    simp_all
theorem nm_within_any (c:Int) (h0:0≤c) (h1:c≤255) (w:World) :
    Calls Tryz.prog 70 #[.int .u8 c] w fun e w'=>e=.returned (.bool (Nm.goodB c))∧w=w':=by
  go_enter Tryz.func70,Tryz.ntmps70
  go_wp2_with (go_at_call 67;refine (nm_class_any c h0 h1 _).mono ?_;rintro e w' ⟨rfl,rfl⟩)
  all_goals
    go_ret
    refine ⟨ret_bool ?_,rfl⟩
    simp_all [Nm.goodB]
open Go.RowKit
def wd (k:Nat):List UInt8:=Nm.words.getD k []
theorem idxRes0 (w:World):(Instr.index 181 (.agg resCells) (.int .i64 ((0:Nat):Int))).run Tryz.prog w=.ok (.string ⟨(wd 0).toArray⟩) w:=by kernel_rfl
theorem idxRes1 (w:World):(Instr.index 181 (.agg resCells) (.int .i64 ((1:Nat):Int))).run Tryz.prog w=.ok (.string ⟨(wd 1).toArray⟩) w:=by kernel_rfl
theorem idxRes2 (w:World):(Instr.index 181 (.agg resCells) (.int .i64 ((2:Nat):Int))).run Tryz.prog w=.ok (.string ⟨(wd 2).toArray⟩) w:=by kernel_rfl
theorem idxRes3 (w:World):(Instr.index 181 (.agg resCells) (.int .i64 ((3:Nat):Int))).run Tryz.prog w=.ok (.string ⟨(wd 3).toArray⟩) w:=by kernel_rfl
theorem idxRes4 (w:World):(Instr.index 181 (.agg resCells) (.int .i64 ((4:Nat):Int))).run Tryz.prog w=.ok (.string ⟨(wd 4).toArray⟩) w:=by kernel_rfl
theorem idxRes5 (w:World):(Instr.index 181 (.agg resCells) (.int .i64 ((5:Nat):Int))).run Tryz.prog w=.ok (.string ⟨(wd 5).toArray⟩) w:=by kernel_rfl
theorem idxRes6 (w:World):(Instr.index 181 (.agg resCells) (.int .i64 ((6:Nat):Int))).run Tryz.prog w=.ok (.string ⟨(wd 6).toArray⟩) w:=by kernel_rfl
theorem idxRes (k:Nat) (hk:k<7) (w:World) :
    (Instr.index 181 (.agg resCells) (.int .i64 (k:Int))).run Tryz.prog w=.ok (.string ⟨(wd k).toArray⟩) w:=by
  have h:k=0∨k=1∨k=2∨k=3∨k=4∨k=5∨k=6:=by omega
  rcases h with rfl | rfl | rfl | rfl | rfl | rfl | rfl
  · exact idxRes0 w
  · exact idxRes1 w
  · exact idxRes2 w
  · exact idxRes3 w
  · exact idxRes4 w
  · exact idxRes5 w
  exact idxRes6 w
def NoneYet (l:List UInt8) (k:Nat):Prop:=(Nm.words.take k).any (fun w=>l==w)=false
theorem noneYet_zero (l:List UInt8):NoneYet l 0:=by simp [NoneYet]
theorem noneYet_succ {l:List UInt8} {k:Nat} (h:NoneYet l k) (hk:k<7) (he:¬ l=wd k):NoneYet l (k+1):=by
  unfold NoneYet at *
  have hl:k<Nm.words.length:=by simpa [Nm.words] using hk
  rw [List.take_succ_eq_append_getElem hl,List.any_append,h]
  have e:wd k=Nm.words[k]:=by simp [wd,List.getD,hl]
  rw [e] at he
  simp [he]
theorem noneYet_all {l:List UInt8} (h:NoneYet l 7):Nm.resB l=false:=by
  unfold NoneYet at h
  exact h
theorem resB_at {l:List UInt8} {k:Nat} (hk:k<7) (he:l=wd k):Nm.resB l=true:=by
  have hl:k<Nm.words.length:=by simpa [Nm.words] using hk
  unfold Nm.resB
  rw [List.any_eq_true]
  refine ⟨Nm.words[k],List.getElem_mem hl,?_⟩
  have e:wd k=Nm.words[k]:=by simp [wd,List.getD,hl]
  rw [he,e]
  simp
theorem nm_reserved_any (s:ByteArray) (w:World) (hE:ResVar w) :
    Calls Tryz.prog 68 #[.string s] w fun e w'=>e=.returned (.bool (Nm.resB s.data.toList))∧w=w':=by
  obtain ⟨tt,fr,hg⟩:=hE.block
  have hidx:=idxRes
  go_enter Tryz.func68,Tryz.ntmps68
  go_wp2_with (refine wpList_load_row rfl 181 _ rfl 1 rfl tt _ fr _ hg Tryz.underlying181 rfl (by kernel_rfl) ?_)
  go_loop [6] (fun i=>∃ k:Nat,k≤7∧i=.int .i64 k∧NoneYet s.toList k) (fun i=>7-(intOf i).toNat)
  case atStart=>exact ⟨0,by omega,rfl,noneYet_zero _⟩
  obtain ⟨k,hk,rfl,hn⟩:=hrel
  by_cases hlt:k<7
  · have hi:=fun wx=>hidx k hlt wx
    clear hidx
    by_cases he:s.toList=wd k
    · have HE:=hid he
      have hb:(s.toList==wd k)=true:=by rw [he];simp
      clear he
      go_wp2
      go_ret
      refine ⟨ret_bool ?_,rfl⟩
      rw [resB_at hlt (by rw [←Lib.toList_data];exact HE.out)]
    have hb:(s.toList==wd k)=false:=by simpa using he
    have HN:=hid (noneYet_succ hn hlt he)
    clear hn he
    go_wp2
    go_round
    case rel=>exact ⟨k+1,by omega,by go_num,HN.out⟩
    case measure=>simp [intOf];omega
  have hk7:k=7:=by omega
  have HN:=hid hn
  clear hn hidx
  subst hk7
  go_wp2
  go_ret
  refine ⟨ret_bool ?_,rfl⟩
  rw [←Lib.toList_data,noneYet_all HN.out]
open Go.RowKit Go.Lib
theorem wrong_pred (w:World):PredAt Tryz.prog 69 #[] encR Nm.wrongR w:=fun W r _=>by
  unfold FnGives
  by_cases h:128≤r
  · have e:Nm.wrongR r=true:=by simp [Nm.wrongR,h]
    have E:=hid e
    have z:(128:Int)≤(r:Int):=by omega
    clear e h
    go_enter Tryz.func69,Tryz.ntmps69
    go_wp2
    go_ret
    exact ⟨ret_bool E.out.symm,0,rfl⟩
  have hr:(0:Int)≤(r:Int)∧(r:Int)≤255:=by omega
  have e:Nm.wrongR r=!Nm.goodB r:=by simp [Nm.wrongR,h]
  have E:=hid e
  have z:(r:Int)<128:=by omega
  have zd:decide ((128:Int)≤(r:Int))=false:=by simpa using z
  clear e h
  obtain ⟨h0,h1⟩:=hr
  go_enter Tryz.func69,Tryz.ntmps69
  go_wp2_with (go_at_call 70;refine (nm_within_any (r:Int) h0 h1 _).mono ?_;rintro e w' ⟨rfl,rfl⟩)
  go_ret
  exact ⟨ret_bool E.out.symm,0,rfl⟩
theorem nm_is_any (s:ByteArray) (w:World) (hE:ResVar w) :
    Calls Tryz.prog 32 #[.string s] w fun e w'=>e=.returned (.bool (Nm.isB s.data.toList))∧Below w.heap.size w w':=by
  by_cases h0:s.size=0
  · have e1:s.toList=[]:=by rw [Lib.toList_data];have:=Lib.size_eq s;exact List.length_eq_zero_iff.1 (by omega)
    have e2:(!s.toList.isEmpty)=false:=by rw [e1];rfl
    have e3:s.data.toList=[]:=by rw [←Lib.toList_data];exact e1
    have E:=hid e3
    clear e3 h0
    go_enter Tryz.func32,Tryz.ntmps32
    go_wp2_with fail
    go_ret
    refine ⟨ret_bool ?_,Below.refl _ _⟩
    rw [E.out];rfl
  have hpos:0<s.size:=by omega
  clear h0
  have e2:s.toList.isEmpty=false:=by
    rw [Lib.toList_data];have:=Lib.size_eq s;cases hh:s.data.toList with
    | nil=>rw [hh,List.length_nil] at this;omega
    | cons=>rfl
  go_enter Tryz.func32,Tryz.ntmps32
  go_wp2_with fail
  have b0:(0:Int)≤(s[0].toNat:Int):=by omega
  have b1:(s[0].toNat:Int)≤255:=by have:=s[0].toNat_lt;omega
  refine (nm_class_any _ b0 b1 _).mono ?_
  rintro e w' ⟨rfl,rfl⟩
  clear b0 b1
  by_cases h1:Nm.cls (s[0].toNat:Int)=1
  · have c1:(Nm.cls (s[0].toNat:Int) != 1)=false:=by rw [h1];rfl
    have H1:=hid h1
    clear h1
    go_wp2_with fail
    refine (nm_reserved_any s _ hE).mono ?_
    rintro e w' ⟨rfl,rfl⟩
    cases hr:Nm.resB s.data.toList
    · have HR:=hid hr
      clear hr
      go_wp2_with fail
      refine (Tryz.strings_IndexFunc 69 #[] (enters_of Tryz.func69 (by kernel_rfl) rfl) Nm.wrongR s _ (wrong_pred _)).mono ?_
      rintro e w' ⟨rfl,hb⟩
      go_wp2
      go_ret
      refine ⟨ret_bool ?_,hb⟩
      exact Nm.isB_idx s hpos H1.out HR.out
    have HR:=hid hr
    clear hr
    go_wp2_with fail
    go_ret
    refine ⟨ret_bool ?_,Below.refl _ _⟩
    rw [Nm.isB_eq s hpos,HR.out];simp
  have c1:(Nm.cls (s[0].toNat:Int) != 1)=true:=by simpa using h1
  have H1:=hid h1
  clear h1
  go_wp2_with fail
  go_ret
  refine ⟨ret_bool ?_,Below.refl _ _⟩
  rw [Nm.isB_eq s hpos];simp [H1.out]
open Go.RowKit Go.Lib
theorem nm_ref_is_any (s:ByteArray) (hs:s.size≤9223372036854775807) (w:World) :
    Calls Tryz.prog 27 #[.string s] w fun e w'=>e=.returned (.bool (Nm.isB s.data.toList))∧w=w':=by
  by_cases h0:s.size=0
  · have e3:s.data.toList=[]:=by have:=Lib.size_eq s;exact List.length_eq_zero_iff.1 (by omega)
    have E:=hid e3
    have c0:((s.size:Int)==0)=true:=by simpa using h0
    clear e3 h0
    go_enter Tryz.func27,Tryz.ntmps27
    go_wp2_with fail
    go_ret
    refine ⟨ret_bool ?_,rfl⟩
    rw [E.out];rfl
  have hpos:0<s.size:=by omega
  have c0:((s.size:Int)==0)=false:=beq_eq_false_iff_ne.2 (by omega)
  clear h0
  have b0:(0:Int)≤(s[0].toNat:Int):=by omega
  have b1:(s[0].toNat:Int)≤255:=by have:=s[0].toNat_lt;omega
  go_enter Tryz.func27,Tryz.ntmps27
  go_wp2_with fail
  refine (nm_ref_class_any _ b0 b1 _).mono ?_
  rintro e w' ⟨rfl,rfl⟩
  clear b0 b1
  by_cases h1:Nm.cls (s[0].toNat:Int)=1
  · have c1:(Nm.cls (s[0].toNat:Int) != 1)=false:=by rw [h1];rfl
    have H1:=hid h1
    clear h1
    go_wp2_with fail
    go_loop [3] (fun i=>∃ k:Nat,k≤s.size∧i=.int .i64 k∧Nm.AllYet s.data.toList k) (fun i=>s.size-(intOf i).toNat)
    case atStart=>exact ⟨0,by omega,rfl,Nm.allYet_zero _⟩
    obtain ⟨k,hk,rfl,hn⟩:=hrel
    have HN:=hid hn
    clear hn
    by_cases hlt:k<s.size
    · have b0:(0:Int)≤(s[k].toNat:Int):=by omega
      have b1:(s[k].toNat:Int)≤255:=by have:=s[k].toNat_lt;omega
      go_wp2_with fail
      refine (nm_ref_class_any _ b0 b1 _).mono ?_
      rintro e w' ⟨rfl,rfl⟩
      clear b0 b1
      have hge:=Nm.goodB_eq (s[k].toNat:Int)
      cases d0:(Nm.cls (s[k].toNat:Int)==0)
      · cases d4:(Nm.cls (s[k].toNat:Int)==4)
        · rw [d0,d4] at hge
          have HG:=hid hge
          clear hge
          go_wp2_with fail
          go_round
          case rel=>exact ⟨k+1,by omega,by go_num,Nm.allYet_succ hlt HN.out HG.out⟩
          case measure=>simp [intOf];omega
        rw [d0,d4] at hge
        have HG:=hid hge
        clear hge
        go_wp2_with fail
        go_ret
        refine ⟨ret_bool ?_,rfl⟩
        rw [Nm.isB_eq s hpos,Nm.not_all hlt HG.out];simp
      rw [d0] at hge
      have HG:=hid hge
      clear hge
      go_wp2_with fail
      go_ret
      refine ⟨ret_bool ?_,rfl⟩
      rw [Nm.isB_eq s hpos,Nm.not_all hlt HG.out];simp
    have hks:k=s.size:=by omega
    subst hks
    go_wp2_with fail
    refine (nm_ref_reserved_any _ _).mono ?_
    rintro e w' ⟨rfl,rfl⟩
    go_wp2_with fail
    go_ret
    refine ⟨ret_bool ?_,rfl⟩
    rw [Nm.isB_eq s hpos,Nm.allYet_all HN.out,H1.out];simp
  have c1:(Nm.cls (s[0].toNat:Int) != 1)=true:=by simpa using h1
  have H1:=hid h1
  clear h1
  go_wp2_with fail
  go_ret
  refine ⟨ret_bool ?_,rfl⟩
  rw [Nm.isB_eq s hpos];simp [H1.out]
open Go.RowKit Go.Lib
def CmpYet (a b:List UInt8) (k:Nat):Prop:=compareBytes a b=compareBytes (a.drop k) (b.drop k)
theorem cmpYet_zero (a b:List UInt8):CmpYet a b 0:=rfl
theorem drop_at {s:ByteArray} {k:Nat} (hk:k<s.size):s.data.toList.drop k=s[k] :: s.data.toList.drop (k+1):=by
  have hl:k<s.data.toList.length:=by rw [←size_eq];exact hk
  exact List.drop_eq_getElem_cons hl
theorem drop_end {s:ByteArray} {k:Nat} (hk:s.size≤k):s.data.toList.drop k=[]:=List.drop_eq_nil_of_le (by rw [←size_eq];exact hk)
theorem lt_iff (x y:UInt8):(x<y)=((x.toNat:Int)<(y.toNat:Int)):=by
  apply propext
  rw [UInt8.lt_iff_toNat_lt]
  omega
theorem cmpYet_step {a b:ByteArray} {k:Nat} (h:CmpYet a.data.toList b.data.toList k) (ha:k<a.size) (hb:k<b.size) :
    compareBytes a.data.toList b.data.toList=if (a[k].toNat:Int)<(b[k].toNat:Int) then -1 else if (b[k].toNat:Int)<(a[k].toNat:Int) then 1 else compareBytes (a.data.toList.drop (k+1)) (b.data.toList.drop (k+1)):=by
  unfold CmpYet at h
  rw [h,drop_at ha,drop_at hb]
  rw [compareBytes]
  simp only [lt_iff]
theorem cmp_end {a b:ByteArray} {k:Nat} (h:CmpYet a.data.toList b.data.toList k) (ha:k≤a.size) (hb:k≤b.size) (hlt:¬ (k<a.size∧k<b.size)) :
    compareBytes a.data.toList b.data.toList=if a.size<b.size then -1 else if b.size<a.size then 1 else 0:=by
  unfold CmpYet at h
  rw [h]
  by_cases h1:a.size<b.size
  · rw [if_pos h1,drop_end (by omega),drop_at (show k<b.size by omega),compareBytes]
  rw [if_neg h1]
  by_cases h2:b.size<a.size
  · rw [if_pos h2,drop_end (show b.size≤k by omega),drop_at (show k<a.size by omega),compareBytes]
  rw [if_neg h2,drop_end (by omega),drop_end (by omega),compareBytes]
theorem nm_ref_compare_any (a b:ByteArray) (ha:a.size≤9223372036854775807) (hb:b.size≤9223372036854775807) (w:World) :
    Calls Tryz.prog 134 #[.string a,.string b] w fun e w'=>e=.returned (.int .i64 (compareBytes a.data.toList b.data.toList))∧Below w.heap.size w w':=by
  go_enter Tryz.func134,Tryz.ntmps134
  go_wp2_with fail
  go_loopw [5] (fun i wr=>∃ k:Nat,k≤a.size∧k≤b.size∧i=.int .i64 k∧CmpYet a.data.toList b.data.toList k∧Below w.heap.size w wr) (fun i _=>a.size-(intOf i).toNat)
  case atStart=>exact ⟨0,by omega,by omega,rfl,cmpYet_zero _ _,Below.refl _ _⟩
  obtain ⟨k,hka,hkb,rfl,hn,hbel⟩:=hrel
  have HB:=hid hbel
  clear hbel
  by_cases hlt:k<a.size∧k<b.size
  · obtain ⟨la,lb⟩:=hlt
    have hs:=cmpYet_step hn la lb
    have z1:(k:Int)<a.size:=by omega
    have z2:(k:Int)<b.size:=by omega
    have z3:(0:Int)≤(k:Int):=by omega
    have HS:=hid hs
    clear hs hn
    by_cases h1:(a[k].toNat:Int)<(b[k].toNat:Int)
    · have E:=hid (HS.out.trans (if_pos h1))
      clear HS
      go_wp2_with fail
      go_quiet (fail)
      go_wp2_with fail
      go_ret
      exact ⟨ret_int E.out.symm,below_drewN HB.out _⟩
    by_cases h2:(b[k].toNat:Int)<(a[k].toNat:Int)
    · have E:=hid ((HS.out.trans (if_neg h1)).trans (if_pos h2))
      clear HS
      go_wp2_with fail
      go_quiet (fail)
      go_wp2_with fail
      go_quiet (fail)
      go_wp2_with fail
      go_ret
      exact ⟨ret_int E.out.symm,below_drewN (below_drewN HB.out _) _⟩
    have E:=hid ((HS.out.trans (if_neg h1)).trans (if_neg h2))
    clear HS
    go_wp2_with fail
    go_quiet (fail)
    go_wp2_with fail
    go_quiet (fail)
    go_wp2_with fail
    go_roundw
    case rel=>exact ⟨k+1,by omega,by omega,by go_num,E.out,below_drewN HB.out _⟩
    case measure=>simp [intOf];omega
  have hs:=cmp_end hn hka hkb hlt
  clear hn
  by_cases h1:a.size<b.size
  · rw [if_pos h1] at hs
    have E:=hid hs
    have hk:k=a.size:=by omega
    subst hk
    clear hs hlt
    have z1:(a.size:Int)<b.size:=by omega
    go_wp2_with fail
    go_ret
    exact ⟨ret_int E.out.symm,HB.out⟩
  rw [if_neg h1] at hs
  by_cases h2:b.size<a.size
  · rw [if_pos h2] at hs
    have E:=hid hs
    have hk:k=b.size:=by omega
    subst hk
    clear hs hlt
    have z1:(b.size:Int)<a.size:=by omega
    go_wp2_with fail
    go_ret
    exact ⟨ret_int E.out.symm,HB.out⟩
  rw [if_neg h2] at hs
  have E:=hid hs
  have hk:k=a.size:=by omega
  subst hk
  clear hs hlt
  have z1:(a.size:Int)≤b.size:=by omega
  have z2:(b.size:Int)≤a.size:=by omega
  go_wp2_with fail
  go_ret
  exact ⟨ret_int E.out.symm,HB.out⟩
