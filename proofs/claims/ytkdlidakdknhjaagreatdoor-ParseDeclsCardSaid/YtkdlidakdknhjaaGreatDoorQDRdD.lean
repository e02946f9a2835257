/- A cursor over tokens in memory, and what reading by it does to the world; structs loaded and stored whole. No condition.
The walks of the small methods of read.Cursor: the next token, an error, whether a text is next, reading it, a name, the end. The condition: the cursor stands in tokens of a text.
The walks of the small methods of read.Cursor: whether it has an error, whether a text is next, reading it, a name, the end. The condition: the cursor stands in tokens of a text. -/
import Derived.Test.YtkdlidakdknhjaaGreatDoorQDExB
import Derived.Test.YtkdlidakdknhjaaGreatDoorQDNmR
import Derived.Test.YtkdlidakdknhjaaGreatDoorQDRdP
import Derived.Deep.AppendLies
import Derived.WalkKit
import Derived.WalkSmall
import Derived.WalkSpells
import Derived.WalkLawsBesides
import Derived.Outline
import Derived.Deep.QuietTactic
import Derived.BigQuiet
set_option maxRecDepth 100000
set_option maxHeartbeats 1000000
open Go.Lib (hid)
namespace Go.Proofs.YtkdlidakdknhjaaGreatDoor.Rd
open Go.RowKit
theorem gb_refl (w:World) (r:Option Nat):w.grownBy w r:=⟨rfl,rfl,rfl,Nat.le_refl _,fun _ _ _=>rfl⟩
theorem gb_trans {a b c:World} {r:Option Nat} (h:a.grownBy b r) (k:b.grownBy c r):a.grownBy c r :=
  ⟨k.os.trans h.os,k.tape.trans h.tape,k.output.trans h.output,Nat.le_trans h.size k.size,fun i hi hr=>(k.block i (Nat.lt_of_lt_of_le hi h.size) hr).trans (h.block i hi hr)⟩
theorem gb_of {a b:World} (r:Option Nat) (h:Below a.heap.size a b):a.grownBy b r:=⟨h.os,h.tape,h.output,h.size,fun i hi _=>h.block i hi⟩
theorem gb_cell {a b:World} {c:Nat} (h:a.grownBy b (some c)) {p:Addr} {v:Value} (hv:a.cell? p=some v) (hp:p.block≠c):b.cell? p=some v:=h.cell hv (by simpa using hp)
theorem gb_below {a b:World} {c:Nat} (h:a.grownBy b (some c)) (hc:c≤a.heap.size):Below c a b:=⟨h.os,h.tape,h.output,h.size,fun i hi=>h.block i (by omega) (by simpa using (by omega:i≠c))⟩
theorem gb_set (w:World) (c j:Nat) (u:Value):w.grownBy (w.setCell ⟨c,j,none⟩ u) (some c) :=
  ⟨by simp [World.setCell],by simp [World.setCell],by simp [World.setCell],by simp [World.setCell],fun k _ hr=>Below.heap_setCell _ _ _ _ (by simpa using hr)⟩
theorem gb_kept {a b:World} {c:Nat} (h:a.grownBy b (some c)) {S:Nat→Prop} (hS:∀ k,S k→k<a.heap.size∧k≠c):Kept a b S :=
  fun p hp=>⟨World.cell?_of_block (h.block _ (hS _ hp).1 (by simpa using (hS _ hp).2)),World.frozen?_of_block (h.block _ (hS _ hp).1 (by simpa using (hS _ hp).2))⟩
def Fr (lo:Nat) (w:World) (b:Nat):Prop:=lo≤b∧b<w.heap.size
theorem in_gb {a b:World} {c lo:Nat} (h:a.grownBy b (some c)) (hc:c<lo) {N:Prop} {d:Dat} {us:List Value} (hd:d.In a N (Fr lo a) us):d.In b N (Fr lo b) us :=
  Dat.In.keep id (gb_kept h fun k hk=>⟨hk.2,by have:=hk.1;omega⟩) (fun _ hk=>⟨hk.1,Nat.lt_of_lt_of_le hk.2 h.size⟩) d us hd
theorem row_gb {a b:World} {c lo z n:Nat} (h:a.grownBy b (some c)) (hc:c<lo) {N:Prop} {A:Option Addr} {ds:List Dat} (hd:Row a N (Fr lo a) z A n ds):Row b N (Fr lo b) z A n ds :=
  hd.keep id (gb_kept h fun k hk=>⟨hk.2,by have:=hk.1;omega⟩) (fun _ hk=>⟨hk.1,Nat.lt_of_lt_of_le hk.2 h.size⟩)
theorem boxd_gb {a b:World} {c k:Nat} (h:a.grownBy b (some c)) (hk:k≠c) {us:List Value} (hb:Boxd a k us):Boxd b k us:=fun j u hu=>gb_cell h (hb j u hu) hk
theorem built_gb {a b:World} {c lo k z:Nat} (h:a.grownBy b (some c)) (hc:c<lo) {N:Prop} {e:TypeId} {v:Value} {ds:List Dat} (hb:Built a N e z lo v k ds):Built b N e z lo v k ds:=by
  obtain ⟨cs,S,h1,h2,h3,h4⟩:=hb
  refine ⟨cs,S,h1.kept h ?_,Dat.Ins.keep id (gb_kept h fun i hi=>⟨(h4 i hi).2.1,by have:=(h4 i hi).1;omega⟩) (fun _ h=>h) ds cs h2,h3,fun i hi=>⟨(h4 i hi).1,Nat.lt_of_lt_of_le (h4 i hi).2.1 h.size,(h4 i hi).2.2⟩⟩
  by_cases ho:v.ownBlock=some c
  · exact absurd ((h1.lt c ho).1) (by omega)
  exact .inr ho
theorem res_gb {a b:World} {c:Nat} (h:a.grownBy b (some c)) (hc:1<c) (hr:ResVar a):ResVar b:=by
  have hl:=var_lt gRes hr
  unfold ResVar World.var? at hr ⊢
  rw [gRes] at hr ⊢
  simp only [Option.bind_some] at hr ⊢
  rw [h.block _ hl (by simpa using (by omega:1≠c))]
  exact hr
def Tidy (l:List Tk):Prop:=∃ ts e,l=ts++[e]∧e.k=3∧e.s.data.toList=[]∧∀ t∈ts,t.k=1∨(t.k=2∧Nm.isB t.s.data.toList=false)
theorem Tidy.ne {l:List Tk} (h:Tidy l):l≠[]:=by obtain ⟨ts,e,rfl,_⟩:=h;simp
theorem Tidy.tail {t:Tk} {r:List Tk} (h:Tidy (t :: r)) (hk:t.k≠3):Tidy r:=by
  obtain ⟨ts,e,h1,h2,h3,h4⟩:=h
  cases ts with
  | nil=>simp only [List.nil_append,List.cons.injEq] at h1;rw [h1.1] at hk;exact absurd h2 hk
  | cons a q =>
    simp only [List.cons_append,List.cons.injEq] at h1
    exact ⟨q,e,h1.2,h2,h3,fun t ht=>h4 t (List.mem_cons_of_mem _ ht)⟩
theorem isB_nil:Nm.isB []=false:=by decide
theorem Tidy.name {t:Tk} {r:List Tk} (h:Tidy (t :: r)) (hn:nameB t=true):t.k=1:=by
  obtain ⟨ts,e,h1,h2,h3,h4⟩:=h
  cases ts with
  | nil =>
    simp only [List.nil_append,List.cons.injEq] at h1
    rw [nameB,h1.1,h3,isB_nil] at hn
    cases hn
  | cons a q =>
    simp only [List.cons_append,List.cons.injEq] at h1
    rcases h4 a List.mem_cons_self with h5 | ⟨_,h5⟩
    · rw [h1.1];exact h5
    rw [nameB,h1.1,h5] at hn;cases hn
def errV (b:Bool) (l:List Tk):Value:=if b then faultV 2 (off l) else .nilIface
structure Cur (w:World) (c:Nat) (l:List Tk) (b:Bool):Prop where
  tidy:Tidy l
  mem:∃ A cap,w.cell? ⟨c,0,none⟩=some (.slice A l.length cap)∧l.length≤cap∧TS w A l.length l∧∀ a,A=some a→a.block<c
  err:w.cell? ⟨c,1,none⟩=some (errV b l)
  free:w.frozen? ⟨c,0,none⟩=false∧w.frozen? ⟨c,1,none⟩=false
  len:l.length≤100000
  small:∀ t∈l,t.s.size≤100000
  res:ResVar w
  low:1<c
theorem Cur.lt {w:World} {c:Nat} {l:List Tk} {b:Bool} (h:Cur w c l b):c<w.heap.size:=cell_lt h.err
theorem Cur.up {w w':World} {c:Nat} {l:List Tk} {b:Bool} (h:Cur w c l b) (hb:Below (c+1) w w'):Cur w' c l b:=by
  obtain ⟨A,cap,h1,h2,h3,h4⟩:=h.mem
  have hc:c<c+1:=Nat.lt_succ_self c
  refine ⟨h.tidy,⟨A,cap,(hb.cell (p:=⟨c,0,none⟩) hc).trans h1,h2,⟨h3.len,fun j t hj=>?_⟩,h4⟩,(hb.cell (p:=⟨c,1,none⟩) hc).trans h.err,⟨(hb.frozen (p:=⟨c,0,none⟩) hc).trans h.free.1,(hb.frozen (p:=⟨c,1,none⟩) hc).trans h.free.2⟩,h.len,h.small,var?_below hb gRes (Nat.lt_succ_of_lt h.low) h.res,h.low⟩
  obtain ⟨a,e,g1,g2,g3,g4⟩:=h3.at_ j t hj
  have ha:a.block<c+1:=Nat.lt_succ_of_lt (h4 a e)
  exact ⟨a,e,Nat.lt_of_lt_of_le g1 hb.size,(hb.cell (by rw [block_of_add];exact ha)).trans g2,(hb.cell (by show (a.add (j*3)).block<_;rw [block_of_add];exact ha)).trans g3,(hb.cell (by show (a.add (j*3)).block<_;rw [block_of_add];exact ha)).trans g4⟩
theorem Cur.later {w w':World} {c:Nat} {l:List Tk} {b:Bool} (h:Cur w c l b) (hb:Below w.heap.size w w'):Cur w' c l b:=h.up (hb.mono h.lt)
theorem Cur.head {w:World} {c:Nat} {l:List Tk} {b:Bool} (h:Cur w c l b):∃ t r a n cap,l=t :: r∧n=r.length∧w.cell? ⟨c,0,none⟩=some (.slice (some a) (n+1) cap)∧n+1≤cap∧CellsAt w a [.int .i64 t.k,.string t.s,.int .i64 t.o]:=by
  obtain ⟨A,cap,h1,h2,h3,h4⟩:=h.mem
  cases l with
  | nil=>exact absurd rfl h.tidy.ne
  | cons t r =>
    obtain ⟨a,rfl,h5,h6,h7,h8⟩:=h3.at_ 0 t rfl
    rw [Nat.zero_mul] at h6 h7 h8
    have e0:a.add 0=a:=by simp [Addr.add]
    rw [e0] at h6 h7 h8
    refine ⟨t,r,a,r.length,cap,rfl,rfl,h1,h2,fun j u hu=>?_⟩
    match j,hu with
    | 0,hu=>simp only [List.getElem?_cons_zero,Option.some.injEq] at hu;subst hu;rw [e0];exact h6
    | 1,hu=>simp only [List.getElem?_cons_succ,List.getElem?_cons_zero,Option.some.injEq] at hu;subst hu;simpa [Addr.add] using h7
    | 2,hu=>simp only [List.getElem?_cons_succ,List.getElem?_cons_zero,Option.some.injEq] at hu;subst hu;simpa [Addr.add] using h8
    | j+3,hu=>simp at hu
theorem Cur.fail {w:World} {c:Nat} {l:List Tk} {b:Bool} (h:Cur w c l b):Cur (w.setCell ⟨c,1,none⟩ (faultV 2 (off l))) c l true:=by
  obtain ⟨A,cap,h1,h2,h3,h4⟩:=h.mem
  refine ⟨h.tidy,⟨A,cap,(World.cell?_setCell_other _ _ _ _ (by simp)).trans h1,h2,?_,h4⟩,World.cell?_setCell_same _ _ _ h.err,⟨(World.frozen?_setCell _ _ _ _).trans h.free.1,(World.frozen?_setCell _ _ _ _).trans h.free.2⟩,h.len,h.small,res_gb (gb_set _ _ _ _) h.low h.res,h.low⟩
  refine ⟨h3.len,fun j t hj=>?_⟩
  obtain ⟨a,e,g1,g2,g3,g4⟩:=h3.at_ j t hj
  have hb:=Nat.ne_of_lt (h4 a e)
  have hd:∀ (q:Addr),q.block=a.block→(w.setCell ⟨c,1,none⟩ (faultV 2 (off l))).cell? q=w.cell? q:=fun q hq=>World.cell?_setCell_other _ _ _ _ (by rintro rfl;exact hb hq.symm)
  exact ⟨a,e,by simpa [World.setCell] using g1,(hd _ (block_of_add _ _)).trans g2,(hd ⟨(a.add (j*3)).block,(a.add (j*3)).off+1,none⟩ (block_of_add a (j*3))).trans g3,(hd ⟨(a.add (j*3)).block,(a.add (j*3)).off+2,none⟩ (block_of_add a (j*3))).trans g4⟩
theorem Cur.next {w:World} {c:Nat} {t:Tk} {r:List Tk} (h:Cur w c (t :: r) false) (hk:t.k≠3) {a:Addr} {n cap:Nat} (hn:n=r.length) (h1:w.cell? ⟨c,0,none⟩=some (.slice (some a) (n+1) cap)):Cur (w.setCell ⟨c,0,none⟩ (.slice (some (a.add 3)) n (cap-1))) c r false:=by
  subst hn
  obtain ⟨A,cap2,g1,h2,h3,h4⟩:=h.mem
  rw [h1] at g1
  simp only [Option.some.injEq,Value.slice.injEq] at g1
  obtain ⟨rfl,_,rfl⟩:=g1
  simp only [List.length_cons] at h2
  refine ⟨h.tidy.tail hk,⟨some (a.add 3),cap-1,World.cell?_setCell_same _ _ _ h1,by omega,?_,fun b hb=>by injection hb with hb;subst hb;rw [block_of_add];exact h4 a rfl⟩,(World.cell?_setCell_other _ _ _ _ (by simp)).trans h.err,⟨(World.frozen?_setCell _ _ _ _).trans h.free.1,(World.frozen?_setCell _ _ _ _).trans h.free.2⟩,by have:=h.len;simp only [List.length_cons] at this;omega,fun x hx=>h.small x (List.mem_cons_of_mem _ hx),res_gb (gb_set _ _ _ _) h.low h.res,h.low⟩
  refine ⟨rfl,fun j x hj=>?_⟩
  obtain ⟨a2,e,g1,g2,g3,g4⟩:=h3.at_ (j+1) x (by simpa using hj)
  injection e with e
  subst e
  have hb:=Nat.ne_of_lt (h4 a rfl)
  have hd:∀ (q:Addr),q.block=a.block→(w.setCell ⟨c,0,none⟩ (.slice (some (a.add 3)) r.length (cap-1))).cell? q=w.cell? q:=fun q hq=>World.cell?_setCell_other _ _ _ _ (by rintro rfl;exact hb hq.symm)
  have ea:(a.add 3).add (j*3)=a.add ((j+1)*3):=by rw [add_add];congr 1;omega
  refine ⟨a.add 3,rfl,by rw [block_of_add];simpa [World.setCell] using g1,?_,?_,?_⟩
  · rw [ea,hd _ (block_of_add _ _)];exact g2
  · rw [ea];exact (hd ⟨(a.add ((j+1)*3)).block,(a.add ((j+1)*3)).off+1,none⟩ (block_of_add _ _)).trans g3
  rw [ea];exact (hd ⟨(a.add ((j+1)*3)).block,(a.add ((j+1)*3)).off+2,none⟩ (block_of_add _ _)).trans g4
def stop {α:Type} (b:Bool) (l:List Tk) (g:Got α):Got α:=if b then .bad l else g
def Aft {α:Type} (w:World) (c:Nat) (v:α):Got α→Prop
  | .ok u q=>v=u∧Cur w c q false
  | .bad q=>Cur w c q true
theorem Aft.later {α:Type} {w w':World} {c:Nat} {v:α} {g:Got α} (h:Aft w c v g) (hb:Below w.heap.size w w'):Aft w' c v g:=by
  cases g with
  | ok u q=>exact ⟨h.1,h.2.later hb⟩
  | bad q=>exact Cur.later h hb
theorem Aft.up {α:Type} {w w':World} {c:Nat} {v:α} {g:Got α} (h:Aft w c v g) (hb:Below (c+1) w w'):Aft w' c v g:=by
  cases g with
  | ok u q=>exact ⟨h.1,h.2.up hb⟩
  | bad q=>exact Cur.up h hb
theorem gb_grown {w w3 w4 w5:World} {c:Nat} {row:Option Nat} (h:w.grownBy w3 (some c)) (h4:Below w3.heap.size w3 w4) (hg:w4.grownBy w5 row) (hr:∀ k,row=some k→w.heap.size≤k):w.grownBy w5 (some c):=by
  have h1:=gb_trans h (gb_of (some c) h4)
  exact ⟨hg.os.trans h1.os,hg.tape.trans h1.tape,hg.output.trans h1.output,Nat.le_trans h1.size hg.size,fun k hk hc=>(hg.block k (Nat.lt_of_lt_of_le hk h1.size) (fun e=>by have:=hr k e.symm;omega)).trans (h1.block k hk hc)⟩
theorem below_grown {w4 w5:World} {B:Nat} {row:Option Nat} (hB:B≤w4.heap.size) (hg:w4.grownBy w5 row) (hr:∀ k,row=some k→B≤k):Below B w4 w5:=(Below.refl _ _).grown hg hB hr
theorem built_one {w:World} {N:Prop} {T:TypeId} {z lo:Nat} {d:Dat} {us:List Value} (hd:d.In w N (Fr lo w) us) (hlo:lo≤w.heap.size) (hz:d.size=z):Built (w.alloc (.cells us.toArray T)) N T z lo (.slice (some ⟨w.heap.size,0,none⟩) 1 1) 1 [d]:=by
  have hl:us.length=z:=(Dat.In.len _ _ hd).trans hz
  refine ⟨us,Fr lo w,by have:=World.ownsRow_lit (base:=lo) (e:=T) (size:=z) w us.toArray 1 hlo (by unfold maxLen;omega) (by simpa using hl);simpa using this,?_,fun x hx=>by rw [List.mem_singleton.1 hx];exact hz,fun b hb=>⟨hb.1,by have:=hb.2;simp;omega,fun h=>?_⟩⟩
  · rw [Dat.Ins]
    refine ⟨us,[],by simp,hd.later ((Below.refl w.heap.size w).alloc (Nat.le_refl _) _) fun k hk=>hk.2,by rw [Dat.Ins]⟩
  have h2:some w.heap.size=some b:=h
  injection h2 with h2
  have:=hb.2
  omega
theorem built_more {lo:Nat} {w3 w5:World} {N:Prop} {T:TypeId} {z k:Nat} {ds:List Dat} {v:Value} {cs us:List Value} {S:Nat→Prop} {d:Dat} {gg cap:Nat} (hown:w3.ownsRow lo T z v k cs) (hrows:Dat.Ins w3 N S ds cs) (hzs:∀ x∈ds,x.size=z)
    (hS:∀ b,S b→lo≤b∧b<w3.heap.size∧v.ownBlock≠some b) {s2:Nat} (hd:d.In w3 N (Fr s2 w3) us) (h2:lo≤s2) (hv:∀ g,v.ownBlock=some g→g<s2) (hz:d.size=z)
    (hown2:w5.ownsRow lo T z (.slice (some ⟨gg,0,none⟩) (k+1) cap) (k+1) (cs++us)) (hgrow:(w3.alloc (.cells us.toArray T)).grownBy w5 v.ownBlock) (hat:v.ownBlock=some gg∨gg=w3.heap.size+1) :
    Built w5 N T z lo (.slice (some ⟨gg,0,none⟩) (k+1) cap) (k+1) (ds++[d]) :=
  Built.step hown hrows hzs hS (Below.refl _ _) hd (fun b hb=>⟨Nat.le_trans h2 hb.1,hb.2,fun h=>by have:=hv b h;have:=hb.1;omega⟩) hz hown2 hgrow hat
structure Flat (ty:TypeId) (z:Nat):Prop where
  size:(Tryz.prog.info? ty).map (·.size)=some z
  row:∃ d,Tryz.prog.underlying ty=some d∧d.isRow=true
theorem run_load (w:World) (p:Addr) (ty:TypeId) (cs:List Value) (d:TypeDesc) (hc:CellsAt w p cs) (hu:Tryz.prog.underlying ty=some d) (hd:d.isRow=true) (hi:(Tryz.prog.info? ty).map (·.size)=some cs.length) :
    (loadVar ty p).run Tryz.prog w=.ok (.agg cs.toArray) w:=by
  have hl:(loadCells p cs.length).run Tryz.prog w=.ok cs.toArray w:=run_loadCells_list (P:=Tryz.prog) w p cs hc
  cases hq:Tryz.prog.info? ty with
  | none=>simp [hq] at hi
  | some i =>
    have hs:i.size=cs.length:=by simpa [hq] using hi
    have hagg:(isAgg ty).run Tryz.prog w=.ok true w:=by
      unfold isAgg
      rw [Sem.run_bind,run_underlying hu w]
      cases d<;>simp_all
    simp [loadVar,Sem.run_bind,hagg,sizeOf,typeInfo,hq,hs,hl]
theorem loadOp {ty:TypeId} {z:Nat} (hf:Flat ty z) {ops:Array Oper} {rest:List Oper} {a:Act} {w:World} {Q:Exit→Act→World→Prop} {ps:String} {af:Array Edge} (i d:Nat) {p:Addr} {us:List Value} (hx:a.eval (.tmp i)=.pointer (some p)) (hc:CellsAt w p us) (hl:us.length=z)
    (h:wpList Tryz.prog ops Q rest (a.put (some d) (.agg us.toArray)) w) :
    wpList Tryz.prog ops Q ({ dst:=some d,op:=.load ty (.tmp i),type:=ty,pos:=ps,after:=af,guard:=none } :: rest) a w :=
  wpList_plain rfl fun _ hK=>by
    obtain ⟨dsc,h1,h2⟩:=hf.row
    unfold Oper.wp execOp
    simp only [hx,Instr.loadAt,Instr.sureAddr,Sem.run_bind,Sem.run_pure,Result.andThen_ok,run_load w p ty us _ hc h1 h2 (by rw [hl];exact hf.size)]
    exact hK _ _ h
theorem storeOp {ty:TypeId} {z:Nat} (hf:Flat ty z) {ops:Array Oper} {rest:List Oper} {a:Act} {w:World} {Q:Exit→Act→World→Prop} {ps:String} {af:Array Edge} (i j:Nat) {b o:Nat} {us:List Value} (hx:a.eval (.tmp i)=.pointer (some ⟨b,o,none⟩)) (hy:a.eval (.tmp j)=.agg us.toArray)
    (ht:w.there b o us.length) (h1:∀ u∈us,u.oneCell'=true) (hl:us.length=z) (h:wpList Tryz.prog ops Q rest (a.put none undef) (w.setCells b o us)) :
    wpList Tryz.prog ops Q ({ dst:=none,op:=.store ty (.tmp i) (.tmp j),type:=0,pos:=ps,after:=af,guard:=none } :: rest) a w :=
  wpList_store_mid rfl ty (.tmp i) (.tmp j) rfl b o us.toArray hx hy (by simpa using ht) (by rw [List.size_toArray,hl];exact hf.size) (all_oneCell_toArray h1) (by simpa using h)
theorem flatTk:Flat 150 3:=⟨by kernel_rfl,_,Tryz.underlying150,rfl⟩
theorem flatTy:Flat 29 3:=⟨by kernel_rfl,_,Tryz.underlying29,rfl⟩
theorem flatEx:Flat 34 8:=⟨by kernel_rfl,_,Tryz.underlying34,rfl⟩
theorem size_sets (b:Nat):∀ (vs:List Value) (o:Nat) (w:World),(w.setCells b o vs).heap.size=w.heap.size
  | [],_,_=>rfl
  | v :: r,o,w=>by rw [World.setCells,size_sets b r (o+1)];simp [World.setCell]
theorem below_sets {B g:Nat} (hg:B≤g):∀ (vs:List Value) (o:Nat) (w:World),Below B w (w.setCells g o vs)
  | [],_,_=>Below.refl _ _
  | v :: r,o,w=>((Below.refl B w).setCell (p:=⟨g,o,none⟩) hg v).trans (below_sets hg r (o+1) _)
theorem gb_sets (r:Option Nat) {w W:World} {g:Nat} (h:w.grownBy W r) (hg:w.heap.size≤g) (o:Nat) (vs:List Value):w.grownBy (W.setCells g o vs) r:=by
  have hb:=below_sets hg vs o W
  exact ⟨hb.os.trans h.os,hb.tape.trans h.tape,hb.output.trans h.output,Nat.le_trans h.size hb.size,fun k hk hr=>(hb.block k hk).trans (h.block k hk hr)⟩
theorem set_there {w:World} {k:Nat} {us:List Value} (h:w.there k 0 us.length):Boxd (w.setCells k 0 us) k us:=fun j u hu=>by
  have:=World.rangeAt_setCells_same w k 0 us h j u hu
  rwa [Nat.zero_add] at this
theorem there_new (w:World) (cs:Array Value) (T:TypeId):(w.alloc (.cells cs T)).there w.heap.size 0 cs.size:=fun j hj=>⟨by
  rw [Nat.zero_add,cell_of_row _ _ j _ _ (0,0) (heap_alloc_new _ _),Array.getElem?_eq_getElem hj]
  rfl,frozen_of_row (heap_alloc_new _ _) _⟩
theorem there_gb {w w':World} {b o n c:Nat} (h:w.there b o n) (hl:b<w.heap.size) (hc:b≠c) (hg:w.grownBy w' (some c)):w'.there b o n:=fun j hj=>by
  obtain ⟨h1,h2⟩:=h j hj
  have hk:=hg.block b hl (by simpa using hc)
  exact ⟨by rw [World.cell?_of_block (w:=w) hk];exact h1,(World.frozen?_of_block (w:=w) hk).trans h2⟩
theorem boxd_at0 {w:World} {b:Nat} {us:List Value} (h:Boxd w b us):CellsAt w ⟨b,0,none⟩ us:=fun j u hu=>by rw [add_zero_addr];exact h j u hu
theorem ex_one {w:World} {N:Prop} {S:Nat→Prop} {e:Ex} {us:List Value} (h:e.dat.In w N S us):∀ u∈us,u.oneCell'=true:=by
  obtain ⟨A,m,a,B,l,b,C,n,c,rfl,_⟩:=ex_open h
  intro u hu
  simp only [List.mem_cons,List.not_mem_nil,or_false] at hu
  rcases hu with rfl | rfl | rfl | rfl | rfl | rfl | rfl | rfl<;>rfl
open Go.RowKit
theorem run_cell {w:World} {b z:Nat} {ty:TypeId} {us:List Value} (hf:Flat ty z) (hc:Boxd w b us) (hl:us.length=z):(loadVar ty ⟨b,0,none⟩).run Tryz.prog w=.ok (.agg us.toArray) w:=by
  obtain ⟨d,h1,h2⟩:=hf.row
  exact run_load w _ ty us d (boxd_at0 hc) h1 h2 (by rw [hl];exact hf.size)
theorem run_addr (p:Addr) (w:World):(asAddr (.pointer (some p))).run Tryz.prog w=.ok p w:=rfl
theorem results_peek {w:World} {b:Nat} {us:List Value} (tmps:Array Value) (ht:tmps[2]?.getD undef=.pointer (some ⟨b,0,none⟩)) (hc:Boxd w b us) (hl:us.length=3):(results Tryz.f90 tmps).run Tryz.prog w=.ok (.agg us.toArray) w:=by
  have h:=run_cell flatTk hc hl
  have h2:=run_addr ⟨b,0,none⟩ w
  simp [results,Tryz.results90,ht,h,h2,Sem.run_bind,Result.andThen]
def PeekPost (w:World) (l:List Tk) (e:Ending) (w':World):Prop:=e=.returned (.agg #[.int .i64 (l.headD ⟨3,⟨#[]⟩,0⟩).k,.string (l.headD ⟨3,⟨#[]⟩,0⟩).s,.int .i64 (l.headD ⟨3,⟨#[]⟩,0⟩).o])∧Below w.heap.size w w'
theorem peek_any (c:Nat) (l:List Tk) (b:Bool) (w:World) (h:Cur w c l b):Calls Tryz.prog 90 #[.pointer (some ⟨c,0,none⟩)] w (PeekPost w l):=by
  obtain ⟨t,r,a,n,cap,rfl,hn,x0,hcap,hc⟩:=h.head
  have hlt:=h.lt
  have hb:Below w.heap.size w (w.alloc (.cells #[.int .i64 0,.string ⟨#[]⟩,.int .i64 0] 150)):=(Below.refl _ _).alloc (Nat.le_refl _) _
  have y0:=(hb.cell (p:=⟨c,0,none⟩) hlt).trans x0
  have HC:=hid (show CellsAt (w.alloc (.cells #[.int .i64 0,.string ⟨#[]⟩,.int .i64 0] 150)) a [.int .i64 t.k,.string t.s,.int .i64 t.o] from fun j u hu=>(hb.cell (cell_lt (hc j u hu))).trans (hc j u hu))
  have e0:(((n:Int)+1)==0)=false:=by simp;omega
  have hn2:n≤100000:=by have:=h.len;simp only [List.length_cons] at this;omega
  have HT:=hid (there_new w #[.int .i64 0,.string ⟨#[]⟩,.int .i64 0] 150)
  clear hc hb x0 h hn
  go_enter Tryz.func90,Tryz.ntmps90
  go_wp2_with (first | (refine loadOp flatTk 14 15 rfl HC.out rfl ?_) | (refine storeOp flatTk 2 15 (b:=w.heap.size) (o:=0) (us:=[.int .i64 t.k,.string t.s,.int .i64 t.o]) rfl rfl HT.out (by intro u hu;simp only [List.mem_cons,List.not_mem_nil,or_false] at hu;rcases hu with rfl | rfl | rfl<;>rfl) rfl ?_))
  have HB:=hid (show Below w.heap.size w ((w.alloc (.cells #[.int .i64 0,.string ⟨#[]⟩,.int .i64 0] 150)).setCells w.heap.size 0 [.int .i64 t.k,.string t.s,.int .i64 t.o]) from ((Below.refl _ _).alloc (Nat.le_refl _) _).trans (below_sets (Nat.le_refl _) _ _ _))
  exact bodyPost_ret (results_peek _ rfl (set_there (us:=[.int .i64 t.k,.string t.s,.int .i64 t.o]) HT.out) rfl) rfl ⟨rfl,HB.out⟩
theorem fieldTk0 (k o:Int) (s:ByteArray) (w:World):(Instr.field 150 (.agg #[.int .i64 k,.string s,.int .i64 o]) 0).run Tryz.prog w=.ok (.int .i64 k) w:=by kernel_rfl
theorem fieldTk2 (k o:Int) (s:ByteArray) (w:World):(Instr.field 150 (.agg #[.int .i64 k,.string s,.int .i64 o]) 2).run Tryz.prog w=.ok (.int .i64 o) w:=by kernel_rfl
theorem fail_any (c:Nat) (l:List Tk) (b:Bool) (w:World) (h:Cur w c l b):Calls Tryz.prog 91 #[.pointer (some ⟨c,0,none⟩)] w fun e w'=>e=.returned (.tuple #[])∧Cur w' c l true∧w.grownBy w' (some c):=by
  have H:=hid h
  have hlt:=h.lt
  obtain ⟨t,r,a,n,cap,rfl,-⟩:=h.head
  clear h
  go_enter Tryz.func91,Tryz.ntmps91
  go_wp2_with fail
  refine (peek_any c _ b w H.out).mono ?_
  rintro e w1 ⟨rfl,hb⟩
  have H1:=hid (H.out.later hb)
  have G1:=hid (gb_of (some c) hb)
  have x1:=H1.out.err
  have f1:=H1.out.free.2
  have g2:=fun w=>fieldTk2 t.k t.o t.s w
  clear hb
  go_wp2_with fail
  refine (new_any _ _ _).mono ?_
  rintro e w2 ⟨rfl,rfl⟩
  have HF:=hid H1.out.fail
  have HG:=hid (gb_trans G1.out (gb_set w1 c 1 (faultV 2 (off (t :: r)))))
  rw [faultV]
  go_wp2_with fail
  go_end0
  exact ⟨rfl,HF.out,HG.out⟩
open Go.RowKit
theorem failed_any (c:Nat) (l:List Tk) (b:Bool) (w:World) (h:Cur w c l b):Calls Tryz.prog 146 #[.pointer (some ⟨c,0,none⟩)] w fun e w'=>e=.returned (.bool b)∧w=w':=by
  have x1:=h.err
  clear h
  cases b
  · rw [errV,if_neg (by decide)] at x1
    go_enter Tryz.func146,Tryz.ntmps146
    go_wp2_with fail
    go_ret
    exact ⟨rfl,rfl⟩
  rw [errV,if_pos rfl,faultV] at x1
  go_enter Tryz.func146,Tryz.ntmps146
  go_wp2_with fail
  go_ret
  exact ⟨rfl,rfl⟩
def nextB (b:Bool) (s:List UInt8) (l:List Tk):Bool:=!b&&isT s l
theorem next_any (c:Nat) (l:List Tk) (b:Bool) (s:ByteArray) (w:World) (h:Cur w c l b):Calls Tryz.prog 125 #[.pointer (some ⟨c,0,none⟩),.string s] w fun e w'=>e=.returned (.bool (nextB b s.data.toList l))∧Below w.heap.size w w':=by
  have H:=hid h
  obtain ⟨t,r,a,n,cap,rfl,-⟩:=h.head
  clear h
  obtain ⟨q,hq⟩:∃ q:Bool,(t.s.data.toList==s.data.toList)=q:=⟨_,rfl⟩
  have e0:(t.s.toList==s.toList)=q:=by rw [←hq,Lib.toList_data,Lib.toList_data]
  have e1:nextB b s.data.toList (t :: r)=(!b&&(!(t.k==3)&&q)):=by rw [←hq];rfl
  have E:=hid e1
  clear e1 hq
  cases hk:(t.k==3)
  · have hk2:(t.k != 3)=true:=by rw [bne,hk];rfl
    cases b <;>
    ( go_enter Tryz.func125,Tryz.ntmps125
      go_wp2_with fail
      refine (peek_any c _ _ w H.out).mono ?_
      rintro e w1 ⟨rfl,hb⟩
      have B1:=hid (hb.alloc hb.size (.cells #[.int .i64 t.k,.string t.s,.int .i64 t.o] 150))
      have H1:=hid ((H.out.later hb).later ((Below.refl _ _).alloc (Nat.le_refl _) (.cells #[.int .i64 t.k,.string t.s,.int .i64 t.o] 150)))
      clear hb
      go_wp2_with fail
      refine (failed_any c _ _ _ H1.out).mono ?_
      rintro e w2 ⟨rfl,rfl⟩
      go_wp2_with fail
      go_ret
      exact ⟨by rw [E.out,hk];cases q<;>rfl,B1.out⟩ )
  have hk2:(t.k != 3)=false:=by rw [bne,hk];rfl
  cases b <;>
  ( go_enter Tryz.func125,Tryz.ntmps125
    go_wp2_with fail
    refine (peek_any c _ _ w H.out).mono ?_
    rintro e w1 ⟨rfl,hb⟩
    have B1:=hid (hb.alloc hb.size (.cells #[.int .i64 t.k,.string t.s,.int .i64 t.o] 150))
    have H1:=hid ((H.out.later hb).later ((Below.refl _ _).alloc (Nat.le_refl _) (.cells #[.int .i64 t.k,.string t.s,.int .i64 t.o] 150)))
    clear hb
    go_wp2_with fail
    refine (failed_any c _ _ _ H1.out).mono ?_
    rintro e w2 ⟨rfl,rfl⟩
    go_wp2_with fail
    go_ret
    exact ⟨by rw [E.out,hk];cases q<;>rfl,B1.out⟩ )
theorem nextB_cons {b:Bool} {s:List UInt8} {l:List Tk} (h:nextB b s l=true):b=false∧isT s l=true:=by
  unfold nextB at h
  cases b
  · exact ⟨rfl,by simpa using h⟩
  cases h
def takeL (b:Bool) (s:List UInt8) (l:List Tk):List Tk:=if nextB b s l then l.tail else l
def TakePost (c:Nat) (l:List Tk) (b:Bool) (s:List UInt8) (w:World) (e:Ending) (w':World):Prop:=e=.returned (.bool (nextB b s l))∧Cur w' c (takeL b s l) b∧w.grownBy w' (some c)
theorem take_any (c:Nat) (l:List Tk) (b:Bool) (s:ByteArray) (w:World) (h:Cur w c l b):Calls Tryz.prog 92 #[.pointer (some ⟨c,0,none⟩),.string s] w (TakePost c l b s.data.toList w):=by
  have H:=hid h
  cases hx:nextB b s.data.toList l
  · have HX:=hid hx
    clear h hx
    go_enter Tryz.func92,Tryz.ntmps92
    go_wp2_with fail
    refine (next_any c _ _ s w H.out).mono ?_
    rintro e w1 ⟨rfl,hb⟩
    rw [HX.out]
    have H1:=hid (H.out.later hb)
    have G1:=hid (gb_of (some c) hb)
    clear hb
    go_wp2_with fail
    go_ret
    exact ⟨by rw [HX.out];rfl,by rw [takeL,HX.out];exact H1.out,G1.out⟩
  have HX:=hid hx
  obtain ⟨rfl,hi⟩:=nextB_cons hx
  obtain ⟨t,r,rfl,hk,-⟩:=isT_cons hi
  have HK:=hid hk
  have htl:=h.tidy.tail hk
  clear h hx hi hk
  go_enter Tryz.func92,Tryz.ntmps92
  go_wp2_with fail
  refine (next_any c _ _ s w H.out).mono ?_
  rintro e w1 ⟨rfl,hb⟩
  rw [HX.out]
  have H1:=hid (H.out.later hb)
  have G1:=hid (gb_of (some c) hb)
  obtain ⟨t2,r2,a,n,cap,e0,hn,x0,hcap,-⟩:=H1.out.head
  injection e0 with e0 e1
  subst e0 e1
  have HN:=hid hn
  have f0:=H1.out.free.1
  have hn1:1≤n:=by
    cases r with
    | nil=>exact absurd rfl htl.ne
    | cons x r=>rw [HN.out];simp
  have hn2:n≤100000:=by have:=H.out.len;simp only [List.length_cons] at this;have:=HN.out;omega
  have hn3:1<cap:=by omega
  have hn4:¬ cap=1:=by omega
  have HNX:=hid (H1.out.next HK.out HN.out x0)
  have HG:=hid (gb_trans G1.out (gb_set w1 c 0 (.slice (some (a.add 3)) n (cap-1))))
  clear hb hn htl
  go_wp2_with fail
  go_ret
  exact ⟨by rw [HX.out];rfl,by rw [takeL,HX.out];exact HNX.out,HG.out⟩
theorem take_stop {b:Bool} {s:List UInt8} {l:List Tk} (h:nextB b s l=false):stop b l (must s l)=.bad l:=by
  cases b
  · have:isT s l=false:=by simpa [nextB] using h
    rw [stop,if_neg (by decide),must,this]
    rfl
  rfl
theorem take_go {b:Bool} {s:List UInt8} {l:List Tk} (h:nextB b s l=true):b=false∧takeL b s l=l.tail∧stop b l (must s l)=.ok () l.tail:=by
  obtain ⟨rfl,hi⟩:=nextB_cons h
  refine ⟨rfl,by rw [takeL,h];rfl,by rw [stop,if_neg (by decide),must,hi];rfl⟩
def MustPost (c:Nat) (l:List Tk) (b:Bool) (s:List UInt8) (w:World) (e:Ending) (w':World):Prop:=e=.returned (.tuple #[])∧Aft w' c () (stop b l (must s l))∧w.grownBy w' (some c)
theorem must_any (c:Nat) (l:List Tk) (b:Bool) (s:ByteArray) (w:World) (h:Cur w c l b):Calls Tryz.prog 86 #[.pointer (some ⟨c,0,none⟩),.string s] w (MustPost c l b s.data.toList w):=by
  have H:=hid h
  cases hx:nextB b s.data.toList l
  · have HX:=hid hx
    clear h hx
    go_enter Tryz.func86,Tryz.ntmps86
    go_wp2_with fail
    refine (take_any c _ _ s w H.out).mono ?_
    rintro e w1 ⟨rfl,hc,hg⟩
    rw [HX.out]
    have H1:=hid hc
    have G1:=hid hg
    clear hc hg
    go_wp2_with fail
    refine (fail_any c _ _ _ H1.out).mono ?_
    rintro e w2 ⟨rfl,hc,hg⟩
    have H2:=hid hc
    have G2:=hid (gb_trans G1.out hg)
    clear hc hg
    go_wp2_with fail
    go_end0
    refine ⟨rfl,?_,G2.out⟩
    rw [take_stop HX.out]
    have:=H2.out
    rw [takeL,HX.out] at this
    exact this
  have HX:=hid hx
  clear h hx
  go_enter Tryz.func86,Tryz.ntmps86
  go_wp2_with fail
  refine (take_any c _ _ s w H.out).mono ?_
  rintro e w1 ⟨rfl,hc,hg⟩
  rw [HX.out]
  have H1:=hid hc
  have G1:=hid hg
  clear hc hg
  go_wp2_with fail
  go_end0
  obtain ⟨rfl,e1,e2⟩:=take_go HX.out
  refine ⟨rfl,?_,G1.out⟩
  rw [e2]
  have:=H1.out
  rw [e1] at this
  exact ⟨rfl,this⟩
theorem below_drewN (B:Nat) (w:World) (n:Nat):Below B w (w.drewN n):=⟨rfl,rfl,rfl,Nat.le_refl _,fun _ _=>rfl⟩
def NamePost (c:Nat) (l:List Tk) (b:Bool) (w:World) (e:Ending) (w':World):Prop:=∃ t:Tk,e=.returned (.tuple #[.string t.s,.int .i64 t.o])∧t.s.size≤100000∧Aft w' c t (stop b l (name l))∧w.grownBy w' (some c)
theorem name_ok {t:Tk} {r:List Tk} (h:nameB t=true):stop false (t :: r) (name (t :: r))=.ok t r:=by rw [stop,if_neg (by decide),name,if_pos h]
theorem name_bad {t:Tk} {b:Bool} {r:List Tk} (h:b=true∨nameB t=false):stop b (t :: r) (name (t :: r))=.bad (t :: r):=by
  rcases h with rfl | h
  · rfl
  cases b
  · rw [stop,if_neg (by decide),name,if_neg (by rw [h];decide)]
  rfl
theorem next_self {t:Tk} {r:List Tk} {b:Bool} {w:World} {c:Nat} (h:Cur w c (t :: r) b) (hn:nameB t=true):nextB b t.s.data.toList (t :: r)=!b:=by
  have hk:=h.tidy.name hn
  unfold nextB
  rw [isT,hk]
  simp
def NameStrict (c:Nat) (l:List Tk) (b:Bool) (w:World) (e:Ending) (w':World):Prop:=∃ t:Tk,e=.returned (.tuple #[.string t.s,.int .i64 t.o])∧t.s.size≤100000∧Aft w' c t (stop b l (name l))∧w.grownBy w' (some c)∧∀ q,stop b l (name l)=.bad q→t=⟨0,⟨#[]⟩,0⟩
theorem name_strict (c:Nat) (l:List Tk) (b:Bool) (w:World) (h:Cur w c l b):Calls Tryz.prog 93 #[.pointer (some ⟨c,0,none⟩)] w (NameStrict c l b w):=by
  have H:=hid h
  obtain ⟨t,r,a,n,cap,rfl,-⟩:=h.head
  have ht:t.s.size≤100000:=h.small t List.mem_cons_self
  have HTS:=hid ht
  obtain ⟨q,hq⟩:∃ q:Bool,nameB t=q:=⟨_,rfl⟩
  have HQ:=hid hq
  have HIS:=hid (fun (W:World) (hE:ResVar W)=>show Calls Tryz.prog 32 #[.string t.s] W (fun e w'=>e=.returned (.bool q)∧Below W.heap.size W w') by rw [←hq];exact (nm_is_any t.s W hE).mono fun e w' h=>h)
  clear h ht hq
  go_enter Tryz.func93,Tryz.ntmps93
  go_wp2_with fail
  refine (peek_any c _ _ w H.out).mono ?_
  rintro e w1 ⟨rfl,hb⟩
  obtain ⟨W1,hW1⟩:∃ W,w1.alloc (.cells #[.int .i64 t.k,.string t.s,.int .i64 t.o] 150)=W:=⟨_,rfl⟩
  have B1:=hid (show Below w.heap.size w W1 from hW1▸hb.alloc hb.size _)
  have H1:=hid (H.out.later B1.out)
  have x1:W1.cell? ⟨w1.heap.size,1,none⟩=some (.string t.s):=by rw [←hW1,World.cell?_alloc_at _ _ _ _ rfl];rfl
  have x2:W1.cell? ⟨w1.heap.size,2,none⟩=some (.int .i64 t.o):=by rw [←hW1,World.cell?_alloc_at _ _ _ _ rfl];rfl
  have hlt1:w1.heap.size<W1.heap.size:=by rw [←hW1];simp
  have hcne:w1.heap.size≠c:=by have h1:=H.out.lt;have h2:=hb.size;omega
  have HW1:=hid hW1
  clear hb hW1
  go_wp2_with fail
  rw [HW1.out]
  refine (HIS.out W1 H1.out.res).mono ?_
  rintro e w2 ⟨rfl,hb⟩
  have y1:=(hb.cell (p:=⟨w1.heap.size,1,none⟩) hlt1).trans x1
  have y2:=(hb.cell (p:=⟨w1.heap.size,2,none⟩) hlt1).trans x2
  have B2:=hid (B1.out.trans (hb.mono B1.out.size))
  have H2:=hid (H1.out.later hb)
  have hlt2:w1.heap.size<w2.heap.size:=Nat.lt_of_lt_of_le hlt1 hb.size
  clear hb x1 x2 HIS H1 B1 HW1 hlt1
  cases q
  · go_wp2_with fail
    refine (fail_any c _ _ _ H2.out).mono ?_
    rintro e w3 ⟨rfl,hc,hg⟩
    have H3:=hid hc
    have z1:=gb_cell hg y1 hcne
    have z2:=gb_cell hg y2 hcne
    have G3:=hid (gb_trans (gb_of (some c) B2.out) hg)
    clear hc hg y1 y2
    go_wp2_with fail
    refine (take_any c _ _ t.s _ H3.out).mono ?_
    rintro e w4 ⟨rfl,hc,hg⟩
    rw [show nextB true t.s.data.toList (t :: r)=false from rfl]
    have H4:=hid hc
    have G4:=hid (gb_trans G3.out hg)
    clear hc hg z1 z2
    go_wp2_with fail
    go_ret2
    exact ⟨⟨0,⟨#[]⟩,0⟩,rfl,by show (0:Nat)≤100000;omega,by rw [name_bad (.inr HQ.out)];exact H4.out,G4.out,fun _ _=>rfl⟩
  go_wp2_with fail
  refine (take_any c _ _ t.s _ H2.out).mono ?_
  rintro e w3 ⟨rfl,hc,hg⟩
  rw [next_self H2.out HQ.out]
  rw [takeL,next_self H2.out HQ.out] at hc
  have H3:=hid hc
  have z1:=gb_cell hg y1 hcne
  have z2:=gb_cell hg y2 hcne
  have G3:=hid (gb_trans (gb_of (some c) B2.out) hg)
  clear hc hg y1 y2
  cases b
  · go_wp2_with fail
    go_quiet (fail)
    go_wp2_with fail
    go_ret2
    exact ⟨t,rfl,HTS.out,by rw [name_ok HQ.out];exact ⟨rfl,H3.out.later (below_drewN _ _ _)⟩,gb_trans G3.out (gb_of _ (below_drewN _ _ _)),fun q h=>by rw [name_ok HQ.out] at h;cases h⟩
  go_wp2_with fail
  go_ret2
  exact ⟨⟨0,⟨#[]⟩,0⟩,rfl,by show (0:Nat)≤100000;omega,by rw [name_bad (.inl rfl)];exact H3.out,G3.out,fun _ _=>rfl⟩
theorem name_any (c:Nat) (l:List Tk) (b:Bool) (w:World) (h:Cur w c l b):Calls Tryz.prog 93 #[.pointer (some ⟨c,0,none⟩)] w (NamePost c l b w) :=
  (name_strict c l b w h).mono fun _ _ ⟨t,h1,h2,h3,h4,_⟩=>⟨t,h1,h2,h3,h4⟩
def endV (b:Bool) (l:List Tk):Value:=if b || (l.headD ⟨3,⟨#[]⟩,0⟩).k != 3 then faultV 2 (off l) else .nilIface
theorem end_any (c:Nat) (l:List Tk) (b:Bool) (w:World) (h:Cur w c l b):Calls Tryz.prog 47 #[.pointer (some ⟨c,0,none⟩)] w fun e w'=>e=.returned (endV b l)∧w.grownBy w' (some c):=by
  have H:=hid h
  obtain ⟨t,r,a,n,cap,rfl,-⟩:=h.head
  clear h
  have g2:=fun w=>fieldTk0 t.k t.o t.s w
  cases hk:(t.k==3)
  · have hk2:(t.k != 3)=true:=by rw [bne,hk];rfl
    go_enter Tryz.func47,Tryz.ntmps47
    go_wp2_with fail
    refine (peek_any c _ _ w H.out).mono ?_
    rintro e w1 ⟨rfl,hb⟩
    have H1:=hid (H.out.later hb)
    have G1:=hid (gb_of (some c) hb)
    clear hb
    go_wp2_with fail
    refine (fail_any c _ _ _ H1.out).mono ?_
    rintro e w2 ⟨rfl,hc,hg⟩
    have x1:=hc.err
    rw [errV,if_pos rfl,faultV] at x1
    have G2:=hid (gb_trans G1.out hg)
    clear hc hg
    go_wp2_with fail
    go_ret
    exact ⟨by rw [endV];simp [hk2];rfl,G2.out⟩
  have hk2:(t.k != 3)=false:=by rw [bne,hk];rfl
  go_enter Tryz.func47,Tryz.ntmps47
  go_wp2_with fail
  refine (peek_any c _ _ w H.out).mono ?_
  rintro e w1 ⟨rfl,hb⟩
  have H1:=hid (H.out.later hb)
  have G1:=hid (gb_of (some c) hb)
  have x1:=H1.out.err
  clear hb
  cases b
  · rw [errV,if_neg (by decide)] at x1
    go_wp2_with fail
    go_ret
    exact ⟨by rw [endV];simp [hk2],G1.out⟩
  rw [errV,if_pos rfl,faultV] at x1
  go_wp2_with fail
  go_ret
  exact ⟨by rw [endV];simp [hk2];rfl,G1.out⟩
