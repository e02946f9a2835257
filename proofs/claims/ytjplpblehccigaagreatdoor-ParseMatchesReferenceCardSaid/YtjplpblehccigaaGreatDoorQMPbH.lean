/- The walk of Decl of layer 8's reference. The condition: the text is short.
The walk of words of layer 8's reference. The condition: the place stands in tokens of a text; the words lie in a block that is older than the call.
The walk of Program of layer 8's reference. The condition: the text is short. -/
import Derived.Test.YtjplpblehccigaaGreatDoorQMPbF
import Derived.Deep.CutBlock
set_option maxRecDepth 100000
set_option maxHeartbeats 32000000
open Go.Lib (hid)
namespace Go.Proofs.YtjplpblehccigaaGreatDoor.Rd
open Go.RowKit
structure Pq (V X:World) (z:Nat) (ps us:List Value):Prop where
  bel:Below V.heap.size V X
  big:V.heap.size+2≤X.heap.size
  box:Boxd X V.heap.size ps
  own:X.there V.heap.size 0 3
  sbox:Boxd X (V.heap.size+1) us
  sown:X.there (V.heap.size+1) 0 z
  pl:ps.length=3
  len:us.length=z
theorem Pq.up {V X Y:World} {z B:Nat} {ps us:List Value} (h:Pq V X z ps us) (hB:V.heap.size+2≤B) (hb:Below B X Y):Pq V Y z ps us :=
  ⟨h.bel.trans (hb.mono (by omega)),Nat.le_trans h.big hb.size,fun j u hu=>(hb.cell (p:=⟨V.heap.size,j,none⟩) (by show V.heap.size<B;omega)).trans (h.box j u hu),there_upB h.own (by omega) hb,
    fun j u hu=>(hb.cell (p:=⟨V.heap.size+1,j,none⟩) (by show V.heap.size+1<B;omega)).trans (h.sbox j u hu),there_upB h.sown (by omega) hb,h.pl,h.len⟩
theorem Pq.later {V X Y:World} {z:Nat} {ps us:List Value} (h:Pq V X z ps us) (hb:Below X.heap.size X Y):Pq V Y z ps us:=h.up h.big hb
theorem Pq.place {V X:World} {z:Nat} {ps us:List Value} (h:Pq V X z ps us) (ps':List Value) (hl:ps'.length=3):Pq V (X.setCells V.heap.size 0 ps') z ps' us :=
  ⟨h.bel.trans (below_sets (Nat.le_refl _) ps' 0 X),by rw [size_sets];exact h.big,set_there (us:=ps') (by rw [hl];exact h.own),World.there_setCells h.own _ _ _,boxd_gb (gb_sets1 X V.heap.size 0 ps') (by omega) h.sbox,World.there_setCells h.sown _ _ _,hl,h.len⟩
theorem Pq.whole {V X:World} {z:Nat} {ps us:List Value} (h:Pq V X z ps us) (us':List Value) (hl:us'.length=z):Pq V (X.setCells (V.heap.size+1) 0 us') z ps us' :=
  ⟨h.bel.trans (below_sets (by omega) us' 0 X),by rw [size_sets];exact h.big,boxd_gb (gb_sets1 X (V.heap.size+1) 0 us') (by omega) h.box,World.there_setCells h.own _ _ _,set_there (us:=us') (by rw [hl];exact h.sown),World.there_setCells h.sown _ _ _,h.pl,hl⟩
theorem Pq.three {V X:World} {z:Nat} {us:List Value} {v0 v1 v2:Value} (h:Pq V X z [v0,v1,v2] us):X.cell? ⟨V.heap.size,0,none⟩=some v0∧X.cell? ⟨V.heap.size,1,none⟩=some v1∧X.cell? ⟨V.heap.size,2,none⟩=some v2∧X.frozen? ⟨V.heap.size,0,none⟩=false∧X.frozen? ⟨V.heap.size,1,none⟩=false∧X.frozen? ⟨V.heap.size,2,none⟩=false:=Rd.three h.box h.own
open Go.RowKit
theorem ready_load8 {ty:TypeId} {z:Nat} (hf:Flat ty z) {ops:Array Oper} {o:Oper} {a:Act} {K:Act→World→Prop} {Q:Exit→Act→World→Prop} {E:Prop} (hgd:o.guard=none) (x:Operand) (ho:o.op=.load ty x) {w:World} {b off:Nat} {us:List Value}
    (hx:a.eval x=.pointer (some ⟨b,off,none⟩)) (hc:w.rangeAt b off us) (hl:us.length=z) (h:K (a.put o.dst (.agg us.toArray)) w):if Region.wanted o (yielded ops a.tmps)=true then Oper.wp Tryz.prog o a w K Q else E:=by
  have hw:Region.wanted o (yielded ops a.tmps)=true:=by simp [Region.wanted,hgd]
  rw [if_pos hw]
  obtain ⟨dsc,h1,h2⟩:=hf.row
  exact wp_load_mid ty x ho b off hx us dsc hc h1 h2 (by rw [hl];exact hf.size) h
def RWordsPost (A:Option Addr) (n cap:Nat) (L l:List Tk) (b:Bool) (ss:List ByteArray) (w:World) (e:Ending) (w':World):Prop:=∃ (p':Nat) (b':Bool),e=.returned (.agg #[.slice A n cap,.int .i64 p',.bool b'])∧RAft w' A n L p' b' () (stop b l (allF (ss.map fun s=>s.data.toList) l))∧Below w.heap.size w w'
theorem results_rwords {w:World} {b:Nat} {us:List Value} (tmps:Array Value) (ht:tmps[4]?.getD undef=.pointer (some ⟨b,0,none⟩)) (hc:Boxd w b us) (hl:us.length=3):(results Tryz.f53 tmps).run Tryz.prog w=.ok (.agg us.toArray) w:=by
  have h:=run_cell flatPl hc hl
  have h2:=run_addr ⟨b,0,none⟩ w
  simp [results,Tryz.results53,ht,h,h2,Sem.run_bind,Result.andThen]
theorem rwords_any8 (A:Option Addr) (n cap p:Nat) (L l:List Tk) (b:Bool) (g m cm:Nat) (ss:List ByteArray) (w:World) (h:Pl w A n L p l) (hs:∀ k s,ss[k]?=some s→w.cell? ⟨g,k,none⟩=some (.string s)) (hn:ss.length=m) (hm:m≤100) :
    Calls Tryz.prog 53 #[.agg #[.slice A n cap,.int .i64 p,.bool b],.slice (some ⟨g,0,none⟩) m cm] w (RWordsPost A n cap L l b ss w):=by
  obtain ⟨W,hW,hb,hz,hbx,ht1,ht2⟩:=two_pl w A n cap p b
  have HW:=hid hW
  have HK:=hid (show Pk w W [3] [.slice A n cap,.int .i64 (p:Int),.bool b] from ⟨hb,by simp;omega,hbx,ht1,fun i z hi=>by
    match i,hi with
    | 0,hi=>obtain rfl:=Option.some.inj hi;exact ht2
    | i+1,hi=>simp at hi,rfl⟩)
  have HP0:=hid h
  have HSS:=hid (fun (V:World) (hV:Below w.heap.size w V) (k:Nat) (s:ByteArray) (hk:ss[k]?=some s)=>(hV.cell (cell_lt (hs k s hk))).trans (hs k s hk))
  have HN:=hid hn
  have zm:(m:Int)≤100:=by omega
  clear h hs hn hW hb hz hbx ht1 ht2
  go_enter Tryz.func53,Tryz.ntmps53
  go_upto_region 1 with fail
  rw [HW.out]
  go_wp2_with fail
  go_loopw [5] (fun i wr=>∃ (k:Nat) (q:List Tk) (p6:Nat) (b6:Bool),k≤m∧i=.int .i64 k∧Pk w wr [3] [.slice A n cap,.int .i64 (p6:Int),.bool b6]∧Pl w A n L p6 q∧stop b l (allF (ss.map fun s=>s.data.toList) l)=stop b6 q (allF ((ss.drop k).map fun s=>s.data.toList) q)) (fun i _=>m-(intOf i).toNat)
  case atStart=>exact ⟨0,l,p,b,by omega,rfl,HK.out,HP0.out,rfl⟩
  obtain ⟨k,q,p6,b6,hk,rfl,hpk,hpl,he⟩:=hrel
  have HPK:=hid hpk
  have HPL:=hid hpl
  have HE:=hid he
  clear hpk hpl he
  have z0:(0:Int)≤k:=by omega
  by_cases hlt:k<m
  · have z1:(k:Int)<m:=by omega
    have hlk:k<ss.length:=by rw [HN.out];exact hlt
    obtain ⟨s,hsk⟩:∃ s,ss[k]?=some s:=⟨_,List.getElem?_eq_getElem hlk⟩
    have HSK:=hid hsk
    have HDR:=hid (show ss.drop k=s :: ss.drop (k+1) by
      rw [List.drop_eq_getElem_cons hlk]
      have:=List.getElem?_eq_getElem hlk
      rw [hsk] at this
      rw [←Option.some.inj this])
    have C5:=hid (rmust_any A n cap p6 L q b6 s wr.drew (HPL.out.later HPK.out.bel.drew))
    have SS:wr.cell? ⟨g,k,none⟩=some (.string s):=HSS.out wr HPK.out.bel k s hsk
    clear hsk hlk
    go_upto_region 4 with fail
    go_wp2_with fail
    refine wp_region_held_drew (S:=fun V=>V.cell? ⟨g,k,none⟩=some (.string s)) (by kernel_rfl) SS (fun hS=>?_)
    refine wpAnyH_take (i:=1) (v:=?_) rfl (by kernel_rfl) (by kernel_rfl) (by kernel_rfl) (fun _ _ _ h=>h) (Or.inl ⟨by rfl,?_⟩) (by assumption) ?_
    rotate_left
    · (intro V hV;go_simp;try with_reducible rfl)
    try simp only [Act.put,List.getElem_toArray,List.getElem_cons_zero,List.getElem_cons_succ,List.setIfInBounds_toArray,List.set_cons_zero,List.set_cons_succ]
    refine wpAnyH_take (i:=2) (v:=?_) rfl (by kernel_rfl) (by kernel_rfl) (by kernel_rfl) (fun _ _ _ h=>h) (Or.inl ⟨by rfl,?_⟩) (by assumption) ?_
    rotate_left
    · (intro V hV;go_simp;try with_reducible rfl)
    try simp only [Act.put,List.getElem_toArray,List.getElem_cons_zero,List.getElem_cons_succ,List.setIfInBounds_toArray,List.set_cons_zero,List.set_cons_succ]
    refine wpAnyH_take (i:=3) (v:=?_) rfl (by kernel_rfl) (by kernel_rfl) (by kernel_rfl) (fun _ _ _ h=>h) (Or.inl ⟨by rfl,?_⟩) (by assumption) ?_
    rotate_left
    · (intro V hV;go_simp;try with_reducible rfl)
    try simp only [Act.put,List.getElem_toArray,List.getElem_cons_zero,List.getElem_cons_succ,List.setIfInBounds_toArray,List.set_cons_zero,List.set_cons_succ]
    refine wpAnyH_take (i:=4) (v:=?_) rfl (by kernel_rfl) (by kernel_rfl) (by kernel_rfl) (fun _ _ _ h=>h) (Or.inl ⟨by rfl,?_⟩) (by assumption) ?_
    rotate_left
    · (intro V hV;have c0:V.cell? ⟨g,k,none⟩=_:=hV;go_simp;try with_reducible rfl)
    try simp only [Act.put,List.getElem_toArray,List.getElem_cons_zero,List.getElem_cons_succ,List.setIfInBounds_toArray,List.set_cons_zero,List.set_cons_succ]
    refine wpAnyH_ready (rs:=[0]) (by kernel_rfl) (by simp) ?_
    refine AllReadyH.cons rfl (fun K hK=>?_) AllReadyH.nil
    refine ready_load8 flatPl rfl (.tmp 2) rfl (b:=w.heap.size) (off:=0) (us:=[.slice A n cap,.int .i64 (p6:Int),.bool b6]) rfl (fun j u hu=>by rw [Nat.zero_add];exact HPK.out.box j u hu) rfl ?_
    refine hK.out _ _ hS (fun hS=>?_)
    clear hK K
    try simp only [Act.put,List.getElem_toArray,List.getElem_cons_zero,List.setIfInBounds_toArray,List.set_cons_zero,List.set_cons_succ]
    refine wpAnyH_ready (rs:=[5]) (by kernel_rfl) (by simp) ?_
    refine AllReadyH.cons rfl (fun K hK=>?_) AllReadyH.nil
    go_simp
    refine C5.out.mono ?_
    rintro e w7 ⟨p7,b7,rfl,hra,hb⟩
    have K7:=hid (HPK.out.later (show Below wr.heap.size wr w7 from (Below.refl _ _).drew.trans hb))
    have HRA:=hid hra
    have SS:w7.cell? ⟨g,k,none⟩=some (.string s):=HSS.out w7 K7.out.bel k s HSK.out
    refine hK.out _ _ SS (fun hS=>?_)
    clear hK K hra hb
    try simp only [Act.put,List.getElem_toArray,List.getElem_cons_zero,List.getElem_cons_succ,List.setIfInBounds_toArray,List.set_cons_zero,List.set_cons_succ]
    refine wpAnyH_ready (rs:=[6]) (by kernel_rfl) (by simp) ?_
    refine AllReadyH.cons rfl (fun K hK=>?_) AllReadyH.nil
    refine ready_store flatPl rfl (.tmp 2) (.tmp 17) rfl (b:=w.heap.size) (off:=0) (us:=[.slice A n cap,.int .i64 (p7:Int),.bool b7]) rfl rfl K7.out.own pl_one rfl ?_
    have K8:=hid (K7.out.place [.slice A n cap,.int .i64 (p7:Int),.bool b7] rfl)
    have SS:(w7.setCells w.heap.size 0 [.slice A n cap,.int .i64 (p7:Int),.bool b7]).cell? ⟨g,k,none⟩=some (.string s):=HSS.out _ K8.out.bel k s HSK.out
    refine hK.out _ _ SS (fun hS=>?_)
    clear hK K
    try simp only [Act.put,List.getElem_toArray,List.getElem_cons_zero,List.getElem_cons_succ]
    refine wpAnyH_done (by kernel_rfl) ?_ _
    clear hS SS
    go_wp2_with fail
    go_roundw
    case rel =>
      obtain ⟨q7,hq1,hq2,hq3⟩:=raft_step (Less.ends (must_less s.data.toList q)) HRA.out (fun _ q=>allF ((ss.drop (k+1)).map fun s=>s.data.toList) q)
      have he:=HE.out
      rw [HDR.out,List.map_cons,allF] at he
      exact ⟨k+1,q7,p7,b7,by omega,rfl,K8.out,HP0.out.move hq1 (Below.refl _ _),he.trans hq3⟩
    case measure =>
      show m-((k:Int)+1).toNat<m-(k:Int).toNat
      omega
  have hkk:k=m:=by omega
  subst hkk
  have HT:=hid (HPK.out.res 0 3 rfl)
  have HB:=hid (boxd_at0 HPK.out.box)
  go_wp2_with (first | (refine loadOp flatPl 2 18 rfl HB.out rfl ?_) | (refine storeOp flatPl 4 18 (b:=w.heap.size+1) (o:=0) (us:=[.slice A n cap,.int .i64 (p6:Int),.bool b6]) rfl rfl HT.out pl_one rfl ?_))
  refine bodyPost_ret (results_rwords _ rfl (show Boxd _ _ [.slice A n cap,.int .i64 (p6:Int),.bool b6] from set_there (us:=[.slice A n cap,.int .i64 (p6:Int),.bool b6]) HT.out) rfl) rfl ?_
  have hfin:=HPK.out.bel.trans (below_sets (show w.heap.size≤w.heap.size+1 by omega) [.slice A n cap,.int .i64 (p6:Int),.bool b6] 0 wr)
  refine ⟨p6,b6,rfl,?_,hfin⟩
  rw [HE.out,List.drop_eq_nil_of_le (by rw [HN.out];omega)]
  cases b6
  · exact ⟨rfl,rfl,HPL.out.later hfin⟩
  exact ⟨rfl,HPL.out.later hfin⟩
open Go.RowKit
theorem Pq.field {V X:World} {z:Nat} {ps us:List Value} (h:Pq V X z ps us) (j:Nat) (hj:j<z) (v:Value):Pq V (X.setCell ⟨V.heap.size+1,j,none⟩ v) z ps (us.set j v) :=
  ⟨h.bel.trans (below_sets (by omega) [v] j X),by have e:=size_sets (V.heap.size+1) [v] j X;rw [show (X.setCell ⟨V.heap.size+1,j,none⟩ v).heap.size=X.heap.size from e];exact h.big,boxd_gb (gb_set X (V.heap.size+1) j v) (by omega) h.box,World.there_setCells h.own (V.heap.size+1) j [v],boxd_two h.sbox (by rw [h.len];exact hj),World.there_setCells h.sown (V.heap.size+1) j [v],h.pl,by rw [List.length_set];exact h.len⟩
theorem Pq.sub {V:World} {z:Nat} {ps:List Value}:∀ (vs:List Value) (o:Nat) (X:World) (us:List Value),Pq V X z ps us→o+vs.length≤z→Pq V (X.setCells (V.heap.size+1) o vs) z ps (sets us o vs)
  | [],_,_,_,h,_=>h
  | v :: vs,o,X,us,h,hl=>Pq.sub vs (o+1) (X.setCell ⟨V.heap.size+1,o,none⟩ v) (us.set o v) (h.field o (by simp only [List.length_cons] at hl;omega) v) (by simp only [List.length_cons] at hl;omega)
def RPWholePost (s:ByteArray) (w:World) (e:Ending) (w':World):Prop:=∃ us,e=.returned (.tuple #[.agg us.toArray,.int .i64 (pgO s).code,.int .i64 (pgO s).at])∧((pgO s).val pgNone).dat.In w' False (Fr w.heap.size w') us∧Below w.heap.size w w'
theorem results_rwp {w:World} {b:Nat} {us:List Value} {v u:Value} (tmps:Array Value) (ht:tmps[2]?.getD undef=.pointer (some ⟨b,0,none⟩)) (hv:tmps[3]?.getD undef=v) (hu:tmps[4]?.getD undef=u) (hc:Boxd w b us) (hl:us.length=9):(results Tryz.f18 tmps).run Tryz.prog w=.ok (.tuple #[.agg us.toArray,v,u]) w:=by
  have h:=run_cell flatPg hc hl
  have h2:=run_addr ⟨b,0,none⟩ w
  simp [results,Tryz.results18,ht,hv,hu,h,h2,Sem.run_bind,Result.andThen]
theorem rpwhole_bad {s:ByteArray} {w w':World} {c a:Int} (h:pgO s=.err c a) (hb:Below w.heap.size w w'):RPWholePost s w (.returned (.tuple #[.agg ([.slice none 0 0,.int .i64 0,.string ⟨#[]⟩,.string ⟨#[]⟩,.slice none 0 0,.int .i64 0,.slice none 0 0,.slice none 0 0,.int .i64 0]:List Value).toArray,.int .i64 c,.int .i64 a])) w':=by
  unfold RPWholePost
  rw [h]
  exact ⟨_,rfl,pgNone_dat _ _ _,hb⟩
structure LpP (V X:World) (lo:Nat) (A:Option Addr) (n cap:Nat) (L:List Tk) (v:Value) (acc:List Dc) (q:List Tk) (p:Nat) (b:Bool):Prop where
  pq:Pq V X 9 [.slice A n cap,.int .i64 (p:Int),.bool b] [v,.int .i64 0,.string ⟨#[]⟩,.string ⟨#[]⟩,.slice none 0 0,.int .i64 0,.slice none 0 0,.slice none 0 0,.int .i64 0]
  pl:Pl V A n L p q
  row:Built X False 41 23 lo v acc.length (acc.map Dc.dat)
  big:V.heap.size+2≤lo∧lo≤X.heap.size
  few:(b=false→acc.length+q.length≤100001)∧acc.length≤100002
def pgRest (ds:List Dc) (q:List Tk):Got Pg:=Got.bind (allF [wFunc,wMain,[40],[41],[123],[95],[61]] q) fun _ q=>Got.bind (exA q) fun e q=>Got.bind (must [125] q) fun _ q=>.ok ⟨ds,e⟩ q
theorem decls_type {k:Nat} {acc:List Dc} {q:List Tk} (h:isT wType q=true):stop false q (Got.bind (declsR (k+1) acc q) pgRest)=stop false q (Got.bind (typedR q) fun d q=>Got.bind (declsR k (acc++[d]) q) pgRest):=by
  rw [declsR,h,if_pos rfl,bind_bind]
theorem decls_func {k:Nat} {acc:List Dc} {q:List Tk} (h:isT wType q=false) (hf:isT wFunc q=true) (hm:isT wMain q.tail=false):stop false q (Got.bind (declsR (k+1) acc q) pgRest)=stop false q (Got.bind (methodR q) fun d q=>Got.bind (declsR k (acc++[d]) q) pgRest):=by
  rw [declsR,h,hf,hm,if_neg (by decide),if_pos (by decide),bind_bind]
theorem decls_stop {k:Nat} {acc:List Dc} {q:List Tk} (h:isT wType q=false) (hf:(isT wFunc q&&!isT wMain q.tail)=false):stop false q (Got.bind (declsR (k+1) acc q) pgRest)=stop false q (pgRest acc q):=by
  rw [declsR,h,hf,if_neg (by decide),if_neg (by decide)]
  rfl
theorem row_lo {wr wx:World} {lo a z n:Nat} {A:Option Addr} {ds:List Dat} (h:Row wr False (Fr lo wr) z A n ds) (hk:∀ i,lo≤i→i<wr.heap.size→wx.heap[i]?=wr.heap[i]?) (ha:a≤lo) (hs:wr.heap.size≤wx.heap.size):Row wx False (Fr a wx) z A n ds :=
  h.keep id (fun _ hp=>⟨World.cell?_of_block (hk _ hp.1 hp.2),World.frozen?_of_block (hk _ hp.1 hp.2)⟩) fun _ hp=>⟨Nat.le_trans ha hp.1,Nat.lt_of_lt_of_le hp.2 hs⟩
theorem rprog8_any (s:ByteArray) (w:World) (hs:s.size≤40000):Calls Tryz.prog 18 #[.string s] w (RPWholePost s w):=by
  obtain ⟨W,hW⟩:∃ W,w.alloc (.cells #[.slice none 0 0,.int .i64 0,.string ⟨#[]⟩,.string ⟨#[]⟩,.slice none 0 0,.int .i64 0,.slice none 0 0,.slice none 0 0,.int .i64 0] 30)=W:=⟨_,rfl⟩
  have hb:Below w.heap.size w W:=hW▸(Below.refl _ _).alloc (Nat.le_refl _) _
  have HT:=hid (show W.there w.heap.size 0 9 from hW▸there_new w #[.slice none 0 0,.int .i64 0,.string ⟨#[]⟩,.string ⟨#[]⟩,.slice none 0 0,.int .i64 0,.slice none 0 0,.slice none 0 0,.int .i64 0] 30)
  have hz:W.heap.size=w.heap.size+1:=by rw [←hW];simp
  have HW:=hid hW
  have HB:=hid hb
  have C:=hid (begin_any s W hs)
  have HS:=hid hs
  have O0:=hid (show ∀ u∈([.slice none 0 0,.int .i64 0,.string ⟨#[]⟩,.string ⟨#[]⟩,.slice none 0 0,.int .i64 0,.slice none 0 0,.slice none 0 0,.int .i64 0]:List Value),u.oneCell'=true from (pg_ones (pgNone_dat w False (fun _=>False))).1)
  have OD0:=hid (show ∀ u∈([.int .i64 0,.string ⟨#[]⟩,.slice none 0 0,.slice none 0 0,.slice none 0 0,.string ⟨#[]⟩,.slice none 0 0,.string ⟨#[]⟩,.slice none 0 0,.slice none 0 0,.string ⟨#[]⟩,.slice none 0 0,.int .i64 0,.int .i64 0,.int .i64 0,.string ⟨#[]⟩,.string ⟨#[]⟩,.slice none 0 0,.int .i64 0,.slice none 0 0,.slice none 0 0,.int .i64 0,.int .i64 0]:List Value),u.oneCell'=true from fun u hu=>by simp only [List.mem_cons,List.not_mem_nil,or_false] at hu;rcases hu with rfl | rfl | rfl | rfl | rfl | rfl | rfl | rfl | rfl | rfl | rfl | rfl | rfl | rfl | rfl | rfl | rfl | rfl | rfl | rfl | rfl | rfl | rfl<;>rfl)
  clear hW hb hs
  go_enter Tryz.func18,Tryz.ntmps18
  go_wp2_with fail
  rw [HW.out]
  refine C.out.mono ?_
  rintro e V ⟨hb,hp⟩
  have hsV:=hb.size
  have HT1:=hid (there_below HT.out (by omega) hb)
  have HB1:=hid (HB.out.trans (hb.mono (by omega)))
  clear hb C HT HB
  cases hl:left s 0 with
  | bad i =>
    rw [hl] at hp
    obtain rfl:=hp
    obtain ⟨V1,hV1⟩:∃ X,V.alloc (.cells #[.slice none 0 0,.int .i64 0,.bool false] 92)=X:=⟨_,rfl⟩
    have hb1:Below V.heap.size V V1:=hV1▸(Below.refl _ _).alloc (Nat.le_refl _) _
    have HT2:=hid (there_below HT1.out (by omega) hb1)
    have HB2:=hid (HB1.out.trans (hb1.mono (by omega)))
    have HV1:=hid hV1
    have HLL:=hid (show pgO s=.err 1 i by unfold pgO wholeO;rw [hl])
    clear hV1 hb1 hl
    go_upto_region 3 with fail
    rw [HV1.out]
    go_wp2_with (refine storeOp flatPg 2 19 (b:=w.heap.size) (o:=0) (us:=[.slice none 0 0,.int .i64 0,.string ⟨#[]⟩,.string ⟨#[]⟩,.slice none 0 0,.int .i64 0,.slice none 0 0,.slice none 0 0,.int .i64 0]) rfl rfl HT2.out O0.out rfl ?_)
    refine bodyPost_ret (results_rwp _ rfl rfl rfl (set_there (us:=[.slice none 0 0,.int .i64 0,.string ⟨#[]⟩,.string ⟨#[]⟩,.slice none 0 0,.int .i64 0,.slice none 0 0,.slice none 0 0,.int .i64 0]) HT2.out) rfl) rfl ?_
    exact rpwhole_bad HLL.out (HB2.out.trans (below_sets (Nat.le_refl _) [.slice none 0 0,.int .i64 0,.string ⟨#[]⟩,.string ⟨#[]⟩,.slice none 0 0,.int .i64 0,.slice none 0 0,.slice none 0 0,.int .i64 0] _ _))
  | ok ts =>
    rw [hl] at hp
    obtain ⟨A,cap,rfl,hts⟩:=hp
    obtain ⟨V1,hV1⟩:∃ X,V.alloc (.cells #[.slice A (ts.length+1) cap,.int .i64 0,.bool false] 92)=X:=⟨_,rfl⟩
    have hb1:Below V.heap.size V V1:=hV1▸(Below.refl _ _).alloc (Nat.le_refl _) _
    have hs1:V1.heap.size=V.heap.size+1:=by rw [←hV1];simp
    obtain ⟨V0,hV0⟩:∃ X,V1.alloc (.cells #[.slice none 0 0,.int .i64 0,.string ⟨#[]⟩,.string ⟨#[]⟩,.slice none 0 0,.int .i64 0,.slice none 0 0,.slice none 0 0,.int .i64 0] 30)=X:=⟨_,rfl⟩
    have hb2:Below V1.heap.size V1 V0:=hV0▸(Below.refl _ _).alloc (Nat.le_refl _) _
    have hs2:V0.heap.size=V.heap.size+2:=by rw [←hV0];simp;omega
    have hb12:=hb1.trans (hb2.mono (by omega))
    have T4:=hid (show (V1.alloc (.cells #[.slice none 0 0,.int .i64 0,.string ⟨#[]⟩,.string ⟨#[]⟩,.slice none 0 0,.int .i64 0,.slice none 0 0,.slice none 0 0,.int .i64 0] 30)).there V1.heap.size 0 9 from there_new V1 #[.slice none 0 0,.int .i64 0,.string ⟨#[]⟩,.string ⟨#[]⟩,.slice none 0 0,.int .i64 0,.slice none 0 0,.slice none 0 0,.int .i64 0] 30)
    obtain ⟨V2,hV2⟩:∃ X,V0.setCells (V.heap.size+1) 0 [.slice none 0 0,.int .i64 0,.string ⟨#[]⟩,.string ⟨#[]⟩,.slice none 0 0,.int .i64 0,.slice none 0 0,.slice none 0 0,.int .i64 0]=X:=⟨_,rfl⟩
    have hbx:Boxd V1 V.heap.size [.slice A (ts.length+1) cap,.int .i64 0,.bool false]:=hV1▸Boxd.new V #[.slice A (ts.length+1) cap,.int .i64 0,.bool false] 92
    have hpt:V1.there V.heap.size 0 3:=hV1▸there_new V #[.slice A (ts.length+1) cap,.int .i64 0,.bool false] 92
    have HQ:=hid (show Pq V V2 9 [.slice A (ts.length+1) cap,.int .i64 (0:Int),.bool false] [.slice none 0 0,.int .i64 0,.string ⟨#[]⟩,.string ⟨#[]⟩,.slice none 0 0,.int .i64 0,.slice none 0 0,.slice none 0 0,.int .i64 0] from hV2▸Pq.whole (show Pq V V0 9 [.slice A (ts.length+1) cap,.int .i64 (0:Int),.bool false] [.slice none 0 0,.int .i64 0,.string ⟨#[]⟩,.string ⟨#[]⟩,.slice none 0 0,.int .i64 0,.slice none 0 0,.slice none 0 0,.int .i64 0] from ⟨hb12,by omega,hbx.later hb2,there_below hpt (by omega) hb2,hs1▸hV0▸Boxd.new V1 #[.slice none 0 0,.int .i64 0,.string ⟨#[]⟩,.string ⟨#[]⟩,.slice none 0 0,.int .i64 0,.slice none 0 0,.slice none 0 0,.int .i64 0] 30,hs1▸hV0▸there_new V1 #[.slice none 0 0,.int .i64 0,.string ⟨#[]⟩,.string ⟨#[]⟩,.slice none 0 0,.int .i64 0,.slice none 0 0,.slice none 0 0,.int .i64 0] 30,rfl,rfl⟩) [.slice none 0 0,.int .i64 0,.string ⟨#[]⟩,.string ⟨#[]⟩,.slice none 0 0,.int .i64 0,.slice none 0 0,.slice none 0 0,.int .i64 0] rfl)
    obtain ⟨f1,f2,f3⟩:=full_ok hl HS.out
    have hpl0:Pl V A (ts.length+1) (full ts s.size) 0 (full ts s.size):=⟨hts,rfl,f1,by have:=hts.len;omega,f3⟩
    have HPL0:=hid hpl0
    have HV1:=hid hV1
    have HV2:=hid hV2
    have HV0:=hid hV0
    have HS1:=hid hs1
    have HLL:=hid (show pgO s=endO (progR (full ts s.size)) by rw [pgO_eq];unfold wholeO;rw [hl])
    have hlt:w.heap.size<V.heap.size:=by omega
    generalize full ts s.size=L at *
    clear hV1 hb1 hV0 hV2 hb2 hs1 hs2 hb12 hbx hpt f1 f2 f3 hpl0 hts hl
    go_upto_region 4 with fail
    rw [HV1.out]
    go_upto_region 5 with (refine storeOp flatPg 8 22 (b:=V1.heap.size) (o:=0) (us:=[.slice none 0 0,.int .i64 0,.string ⟨#[]⟩,.string ⟨#[]⟩,.slice none 0 0,.int .i64 0,.slice none 0 0,.slice none 0 0,.int .i64 0]) rfl rfl T4.out O0.out rfl ?_)
    rw [HV0.out,HS1.out,HV2.out]
    clear HV0 HV1 HV2 HS1 T4
    have QV2:=HQ
    obtain ⟨X5,hX⟩:∃ X,V2.alloc (.cells ([⟨#[112,97,99,107,97,103,101]⟩,⟨#[109,97,105,110]⟩,⟨#[59]⟩].map Value.string).toArray 9)=X:=⟨_,rfl⟩
    have hbx:Below V2.heap.size V2 X5:=hX▸(Below.refl _ _).alloc (Nat.le_refl _) _
    have HX5:=hid (show V2.alloc (.cells #[.string ⟨#[112,97,99,107,97,103,101]⟩,.string ⟨#[109,97,105,110]⟩,.string ⟨#[59]⟩] 9)=X5 from hX)
    have QX5:=hid (QV2.out.later hbx)
    have hw:=rwords_any8 A (ts.length+1) cap 0 L L false V2.heap.size 3 3 [⟨#[112,97,99,107,97,103,101]⟩,⟨#[109,97,105,110]⟩,⟨#[59]⟩] X5 (HPL0.out.later QX5.out.bel) (hX▸(strs_new V2 V.heap.size [⟨#[112,97,99,107,97,103,101]⟩,⟨#[109,97,105,110]⟩,⟨#[59]⟩] (by have:=QV2.out.big;omega)).1) rfl (by decide)
    rw [show ((0:Nat):Int)=0 from rfl] at hw
    have C5:=hid hw
    obtain ⟨x0,x1,x2,-⟩:=QV2.out.three
    clear hX hbx hw
    go_wp2_with fail
    rw [HX5.out]
    refine C5.out.mono ?_
    rintro e w5 ⟨p5,b5,rfl,hra,hb⟩
    have KC:=QX5.out.later hb
    obtain ⟨V5,hV⟩:∃ X,w5.setCells V.heap.size 0 [.slice A (ts.length+1) cap,.int .i64 (p5:Int),.bool b5]=X:=⟨_,rfl⟩
    have QV5:=hid (show Pq V V5 9 [.slice A (ts.length+1) cap,.int .i64 (p5:Int),.bool b5] [.slice none 0 0,.int .i64 0,.string ⟨#[]⟩,.string ⟨#[]⟩,.slice none 0 0,.int .i64 0,.slice none 0 0,.slice none 0 0,.int .i64 0] from hV▸KC.place [.slice A (ts.length+1) cap,.int .i64 (p5:Int),.bool b5] rfl)
    have d2:Dk (V.heap.size+2) w5 V5:=hV▸dk_gb (gb_sets1 w5 V.heap.size 0 [.slice A (ts.length+1) cap,.int .i64 (p5:Int),.bool b5]) (by omega)
    have D1V5:=hid (((dk_below (lo:=V.heap.size+2) (show Below V2.heap.size V2 X5 from HX5.out▸(Below.refl _ _).alloc (Nat.le_refl _) _)).trans (dk_below hb)).trans d2)
    have HV5:=hid (show (((w5.setCell ⟨V.heap.size,0,none⟩ (.slice A (ts.length+1) cap)).setCell ⟨V.heap.size,1,none⟩ (.int .i64 (p5:Int))).setCell ⟨V.heap.size,2,none⟩ (.bool b5))=V5 from hV)
    obtain ⟨q5,hq1,hq2,hq3⟩:=raft_step (allF_ends [wPackage,wMain,[59]] L) (show RAft w5 A (ts.length+1) L p5 b5 () (stop false L (allF [wPackage,wMain,[59]] L)) from hra) (fun _ q=>Got.bind (declsR (q.length+1) [] q) pgRest)
    have HQ5:=hid (HPL0.out.move hq1 (Below.refl _ _))
    have E5:=hid (show progR L=stop b5 q5 (Got.bind (declsR (q5.length+1) [] q5) pgRest) from  hq3)
    obtain ⟨y0,y1,y2,f0,f1,f2⟩:=KC.three
    clear hra hb KC d2 hV hq1 hq2 hq3 C5 x0 x1 x2
    go_upto_block 0 with fail
    rw [HV5.out]
    clear y0 y1 y2 f0 f1 f2 HX5 QX5 HQ QV2 HV5 D1V5
    obtain ⟨lo,hlo⟩:∃ x,V5.heap.size=x:=⟨_,rfl⟩
    have HLO:=hid hlo
    have hlo2:V.heap.size+2≤lo:=hlo▸QV5.out.big
    clear hlo
    obtain ⟨i0,hi0,hz0,hz1,hz2⟩:=info_parts infoDcR
    go_cut [26] from 26 to 59 (fun _ wx=>∃ (B:Option Addr) (kc:Nat) (acc:List Dc) (q:List Tk) (p:Nat) (b:Bool),Pq V wx 9 [.slice A (ts.length+1) cap,.int .i64 (p:Int),.bool b] [.slice B acc.length kc,.int .i64 0,.string ⟨#[]⟩,.string ⟨#[]⟩,.slice none 0 0,.int .i64 0,.slice none 0 0,.slice none 0 0,.int .i64 0]∧Row wx False (Fr (V.heap.size+2) wx) 23 B acc.length (acc.map Dc.dat)∧Pl V A (ts.length+1) L p q∧progR L=stop b q (pgRest acc q))
    case first =>
      go_wp2_with fail
      go_loopw [] (fun wr=>∃ (v:Value) (acc:List Dc) (q:List Tk) (p':Nat) (b':Bool) (k:Nat),LpP V wr lo A (ts.length+1) cap L v acc q p' b'∧(b'=false→q.length<k)∧progR L=stop b' q (Got.bind (declsR k acc q) pgRest)) (fun wr=>200000-lenOf ((wr.cell? ⟨V.heap.size+1,0,none⟩).getD undef))
      case atStart=>exact ⟨.slice none 0 0,[],q5,p5,b5,q5.length+1,⟨QV5.out,HQ5.out,Built.nil _ _ _ _ _,⟨hlo2,by rw [HLO.out];exact Nat.le_refl _⟩,fun _=>by have:=pl_len HQ5.out;simp;omega,by simp⟩,fun _=>Nat.lt_succ_self _,E5.out⟩
      obtain ⟨v,acc,q,p6,b6,k0,hr,hk,he⟩:=hrel
      obtain ⟨B,kc,hv,hrow0,-⟩:=hr.row.row (by omega) (by have:=hr.few.2;omega)
      subst hv
      have HR:=hid hr
      have HK:=hid hk
      have HE:=hid he
      have QR:=hid hr.pq
      have hfew:=hr.few.2
      have hbig:=hr.big.2
      have HQR:=hid hr.pl
      have HRW0:=hid hrow0
      have HRW:=hid (hrow0.wide (S':=Fr (V.heap.size+2) wr) fun i hi=>⟨by have:=hi.1;omega,hi.2⟩)
      clear hr hk he hrow0 QV5 HQ5 E5 HLO
      obtain ⟨x0,x1,x2,-⟩:=QR.out.three
      cases b6
      · obtain ⟨k,hkk⟩:∃ k,k0=k+1:=⟨k0-1,by have:=HK.out rfl;omega⟩
        subst hkk
        have hlq:=HK.out rfl
        obtain ⟨W2,hW2⟩:∃ X,wr.alloc (.cells #[.int .i64 0,.string ⟨#[]⟩,.slice none 0 0,.slice none 0 0,.slice none 0 0,.string ⟨#[]⟩,.slice none 0 0,.string ⟨#[]⟩,.slice none 0 0,.slice none 0 0,.string ⟨#[]⟩,.slice none 0 0,.int .i64 0,.int .i64 0,.int .i64 0,.string ⟨#[]⟩,.string ⟨#[]⟩,.slice none 0 0,.int .i64 0,.slice none 0 0,.slice none 0 0,.int .i64 0,.int .i64 0] 41)=X:=⟨_,rfl⟩
        have hb2:Below wr.heap.size wr W2:=hW2▸(Below.refl _ _).alloc (Nat.le_refl _) _
        have hs2:W2.heap.size=wr.heap.size+1:=by rw [←hW2];simp
        obtain ⟨g,hg⟩:∃ g,wr.heap.size=g:=⟨_,rfl⟩
        have T2:=hid (show (wr.alloc (.cells #[.int .i64 0,.string ⟨#[]⟩,.slice none 0 0,.slice none 0 0,.slice none 0 0,.string ⟨#[]⟩,.slice none 0 0,.string ⟨#[]⟩,.slice none 0 0,.slice none 0 0,.string ⟨#[]⟩,.slice none 0 0,.int .i64 0,.int .i64 0,.int .i64 0,.string ⟨#[]⟩,.string ⟨#[]⟩,.slice none 0 0,.int .i64 0,.slice none 0 0,.slice none 0 0,.int .i64 0,.int .i64 0] 41)).there wr.heap.size 0 23 from there_new wr #[.int .i64 0,.string ⟨#[]⟩,.slice none 0 0,.slice none 0 0,.slice none 0 0,.string ⟨#[]⟩,.slice none 0 0,.string ⟨#[]⟩,.slice none 0 0,.slice none 0 0,.string ⟨#[]⟩,.slice none 0 0,.int .i64 0,.int .i64 0,.int .i64 0,.string ⟨#[]⟩,.string ⟨#[]⟩,.slice none 0 0,.int .i64 0,.slice none 0 0,.slice none 0 0,.int .i64 0,.int .i64 0] 41)
        obtain ⟨V3,hV3⟩:∃ X,W2.setCells g 0 [.int .i64 0,.string ⟨#[]⟩,.slice none 0 0,.slice none 0 0,.slice none 0 0,.string ⟨#[]⟩,.slice none 0 0,.string ⟨#[]⟩,.slice none 0 0,.slice none 0 0,.string ⟨#[]⟩,.slice none 0 0,.int .i64 0,.int .i64 0,.int .i64 0,.string ⟨#[]⟩,.string ⟨#[]⟩,.slice none 0 0,.int .i64 0,.slice none 0 0,.slice none 0 0,.int .i64 0,.int .i64 0]=X:=⟨_,rfl⟩
        have hb3:Below g wr V3:=hV3▸(hb2.mono (by omega)).trans (below_sets (Nat.le_refl _) _ _ _)
        have hs3:V3.heap.size=g+1:=by rw [←hV3,size_sets];omega
        have QV3:=hid (QR.out.up (B:=g) (by omega) hb3)
        have O3:=hid (show V3.there g 0 23 from hV3▸World.there_setCells (show W2.there g 0 23 from hg▸hW2▸T2.out) g 0 _)
        have KP3:=hid (show ∀ i,lo≤i→i<g→V3.heap[i]?=wr.heap[i]? from fun i _ h2=>hb3.block i h2)
        have R3:=hid (HQR.out.later QV3.out.bel)
        have HW2:=hid hW2
        have HG:=hid hg
        have HV3:=hid hV3
        have hgb:lo≤g:=by omega
        have C8:=hid (show Calls Tryz.prog 54 #[.agg #[.slice A (ts.length+1) cap,.int .i64 (p6:Int),.bool false],.string ⟨#[116,121,112,101]⟩] V3 (BoolPost (nextB false wType q) V3) from ris_any A (ts.length+1) cap p6 L q false ⟨#[116,121,112,101]⟩ V3 R3.out)
        clear hW2 hb2 hs2 hV3 hb3 hg
        go_upto_region 8 with (refine storeOp flatDc 9 29 (b:=wr.heap.size) (o:=0) (us:=[.int .i64 0,.string ⟨#[]⟩,.slice none 0 0,.slice none 0 0,.slice none 0 0,.string ⟨#[]⟩,.slice none 0 0,.string ⟨#[]⟩,.slice none 0 0,.slice none 0 0,.string ⟨#[]⟩,.slice none 0 0,.int .i64 0,.int .i64 0,.int .i64 0,.string ⟨#[]⟩,.string ⟨#[]⟩,.slice none 0 0,.int .i64 0,.slice none 0 0,.slice none 0 0,.int .i64 0,.int .i64 0]) rfl rfl T2.out OD0.out rfl ?_)
        rw [HW2.out,HG.out,HV3.out]
        clear x0 x1 x2 T2
        go_frame
        obtain ⟨x0,x1,x2,-⟩:=QV3.out.three
        go_wp2_with fail
        refine C8.out.mono ?_
        rintro e w8 ⟨rfl,hb⟩
        have Qw8:=hid (QV3.out.later hb)
        have O8:=hid (there_upB O3.out (by omega:g<V3.heap.size) hb)
        have KP8:=hid (show ∀ i,lo≤i→i<g→w8.heap[i]?=wr.heap[i]? from fun i h1 h2=>(hb.block i (by omega)).trans (KP3.out i h1 h2))
        have hs8:g+1≤w8.heap.size:=by have:=hb.size;omega
        have R8:=hid (R3.out.later hb)
        clear hb C8 x0 x1 x2 QV3 O3 KP3 R3 HW2 HV3
        cases hx:nextB false wType q
        · have HX:=hid (show isT wType q=false by simpa [nextB] using hx)
          clear hx
          go_upto_if 31 with fail
          obtain ⟨W10,hW10⟩:∃ X,w8.alloc (.cells #[.slice A (ts.length+1) cap,.int .i64 (p6:Int),.bool false] 92)=X:=⟨_,rfl⟩
          have hb10:Below w8.heap.size w8 W10:=hW10▸(Below.refl _ _).alloc (Nat.le_refl _) _
          have bx10:Boxd W10 w8.heap.size [.slice A (ts.length+1) cap,.int .i64 (p6:Int),.bool false]:=hW10▸Boxd.new w8 #[.slice A (ts.length+1) cap,.int .i64 (p6:Int),.bool false] 92
          have th10:W10.there w8.heap.size 0 3:=hW10▸there_new w8 #[.slice A (ts.length+1) cap,.int .i64 (p6:Int),.bool false] 92
          obtain ⟨V10,hV10⟩:∃ X,W10.setCell ⟨w8.heap.size,1,none⟩ (.int .i64 ((p6:Int)+1))=X:=⟨_,rfl⟩
          have hb11:Below w8.heap.size w8 V10:=hV10▸hb10.trans (below_sets (Nat.le_refl _) [_] 1 W10)
          have QV10:=hid (Qw8.out.later hb11)
          have X10:=hid (show Boxd V10 w8.heap.size [.slice A (ts.length+1) cap,.int .i64 ((p6:Int)+1:Int),.bool false] from hV10▸boxd_two bx10 (by simp))
          have O10:=hid (there_upB O8.out (by omega:g<w8.heap.size) hb11)
          have KP10:=hid (show ∀ i,lo≤i→i<g→V10.heap[i]?=wr.heap[i]? from fun i h1 h2=>(hb11.block i (by omega)).trans (KP8.out i h1 h2))
          have R10:=hid (R8.out.later hb11)
          have hs10:w8.heap.size<V10.heap.size:=cell_lt (X10.out 0 _ rfl)
          have HW10:=hid hW10
          have HV10:=hid hV10
          obtain ⟨t10,t11,t12,s10,s11,s12⟩:=Rd.three bx10 th10
          obtain ⟨x0,x1,x2,-⟩:=Qw8.out.three
          have yp:(p6:Int)≤100000:=by have:=HQR.out.lt;have:=HQR.out.len;omega
          have yp0:(0:Int)≤p6:=by omega
          clear hW10 hb10 bx10 th10 hV10 hb11
          go_upto_region 11 with fail
          rw [HW10.out]
          go_upto_region 12 with fail
          rw [HV10.out]
          clear t10 t11 t12 s10 s11 s12 x0 x1 x2 HW10 HV10
          obtain ⟨x0,x1,x2,-⟩:=QV10.out.three
          have CF:=hid (show Calls Tryz.prog 54 #[.agg #[.slice A (ts.length+1) cap,.int .i64 (p6:Int),.bool false],.string ⟨#[102,117,110,99]⟩] V10 (BoolPost (nextB false wFunc q) V10) from ris_any A (ts.length+1) cap p6 L q false ⟨#[102,117,110,99]⟩ V10 R10.out)
          go_wp2_with fail
          refine CF.out.mono ?_
          rintro e w11 ⟨rfl,hb⟩
          have Q11:=hid (QV10.out.later hb)
          have X11:=hid (X10.out.later hb)
          have O11:=hid (there_upB O10.out (by omega:g<V10.heap.size) hb)
          have KP11:=hid (show ∀ i,lo≤i→i<g→w11.heap[i]?=wr.heap[i]? from fun i h1 h2=>(hb.block i (by omega)).trans (KP10.out i h1 h2))
          have R11:=hid (R10.out.later hb)
          have hs11:w8.heap.size<w11.heap.size:=by have:=hb.size;omega
          skip
          clear hb CF x0 x1 x2 QV10 X10 O10 KP10 R10
          cases hf:nextB false wFunc q
          · have hf2:isT wFunc q=false:=by simpa [nextB] using hf
            have HEX:=hid (HE.out.trans (decls_stop (k:=k) (acc:=acc) HX.out (by rw [hf2];rfl)))
            clear hf hf2
            go_wp2_with fail
            go_meet
            exact ⟨B,kc,acc,q,p6,_,Q11.out,row_lo HRW0.out (fun i h1 h2=>KP11.out i h1 (by have:=HG.out;omega)) hlo2 (by have:=HG.out;omega),HQR.out,HEX.out⟩
          have HF:=hid (show isT wFunc q=true from (nextB_cons hf).2)
          obtain ⟨t1,r1,hqq,hk1,-⟩:=isT_cons HF.out
          have HPS:=hid ((show Pl V A (ts.length+1) L p6 (t1 :: r1) from hqq▸HQR.out).step hk1)
          have hqt:q.tail=r1:=by rw [hqq];rfl
          have CM:=hid (show Calls Tryz.prog 54 #[.agg #[.slice A (ts.length+1) cap,.int .i64 ((p6:Int)+1),.bool false],.string ⟨#[109,97,105,110]⟩] w11 (BoolPost (nextB false wMain q.tail) w11) from hqt▸ris_any A (ts.length+1) cap (p6+1) L r1 false ⟨#[109,97,105,110]⟩ w11 (HPS.out.later Q11.out.bel))
          obtain ⟨t10,t11,t12⟩:=X11.out.c3
          clear hf
          go_wp2_with fail
          refine CM.out.mono ?_
          rintro e w12 ⟨rfl,hb⟩
          have Q12:=hid (Q11.out.later hb)
          have O12:=hid (there_upB O11.out (by omega:g<w11.heap.size) hb)
          have KP12:=hid (show ∀ i,lo≤i→i<g→w12.heap[i]?=wr.heap[i]? from fun i h1 h2=>(hb.block i (by omega)).trans (KP11.out i h1 h2))
          have R12:=hid (R11.out.later hb)
          have hs12:g+1≤w12.heap.size:=by have:=hb.size;omega
          clear hb CM t10 t11 t12 Q11 X11 O11 KP11 R11
          cases hm:nextB false wMain q.tail
          · have HM:=hid (show isT wMain q.tail=false by simpa [nextB] using hm)
            clear hm
            go_upto_if 48 with fail
            have CD:=hid (rmethod_any A (ts.length+1) cap p6 L q false w12 R12.out)
            obtain ⟨x0,x1,x2,-⟩:=Q12.out.three
            go_wp2_with fail
            refine CD.out.mono ?_
            rintro e w9 ⟨d,us,p9,b9,rfl,hd,hra,hb⟩
            obtain ⟨u1,u2,u3,u4,u5,u6,u7,u8,u9,u10,u11,u12,u13,u14,u15,u16,u17,u18,u19,u20,u21,u22,u23,u24,u25,u26,u27,u28,u29,u30,rfl,-⟩:=dc_opens hd
            have KC:=Q12.out.later hb
            have O9:=there_upB O12.out (by omega:g<w12.heap.size) hb
            have hs9:=hb.size
            obtain ⟨V9,hV⟩:∃ X,(w9.setCells V.heap.size 0 [.slice A (ts.length+1) cap,.int .i64 (p9:Int),.bool b9]).setCells g 0 [.int .i64 d.kind,.string d.name,.slice u1 u2 u3,.slice u4 u5 u6,.slice u7 u8 u9,.string d.recv,.slice u10 u11 u12,.string d.sig.name,.slice u13 u14 u15,.slice u16 u17 u18,.string d.sig.res.name,.slice u19 u20 u21,.int .i64 d.sig.res.off,.int .i64 d.sig.off,.int .i64 d.body.kind,.string d.body.name,.string d.body.ty.name,.slice u22 u23 u24,.int .i64 d.body.ty.off,.slice u25 u26 u27,.slice u28 u29 u30,.int .i64 d.body.off,.int .i64 d.off]=X:=⟨_,rfl⟩
            have hsA:=gb_sets1 w9 V.heap.size 0 [.slice A (ts.length+1) cap,.int .i64 (p9:Int),.bool b9]
            have QV9:=hid (show Pq V V9 9 [.slice A (ts.length+1) cap,.int .i64 (p9:Int),.bool b9] [.slice B acc.length kc,.int .i64 0,.string ⟨#[]⟩,.string ⟨#[]⟩,.slice none 0 0,.int .i64 0,.slice none 0 0,.slice none 0 0,.int .i64 0] from hV▸(KC.place _ rfl).up (B:=g) (by omega) (below_sets (Nat.le_refl g) _ _ _))
            have T9:=hid (show (((w9.setCell ⟨V.heap.size,0,none⟩ (.slice A (ts.length+1) cap)).setCell ⟨V.heap.size,1,none⟩ (.int .i64 (p9:Int))).setCell ⟨V.heap.size,2,none⟩ (.bool b9)).there g 0 23 from there_gb O9 (by omega) (by omega) hsA)
            have XV9:=hid (show Boxd V9 g [.int .i64 d.kind,.string d.name,.slice u1 u2 u3,.slice u4 u5 u6,.slice u7 u8 u9,.string d.recv,.slice u10 u11 u12,.string d.sig.name,.slice u13 u14 u15,.slice u16 u17 u18,.string d.sig.res.name,.slice u19 u20 u21,.int .i64 d.sig.res.off,.int .i64 d.sig.off,.int .i64 d.body.kind,.string d.body.name,.string d.body.ty.name,.slice u22 u23 u24,.int .i64 d.body.ty.off,.slice u25 u26 u27,.slice u28 u29 u30,.int .i64 d.body.off,.int .i64 d.off] from hV▸set_there (us:=[.int .i64 d.kind,.string d.name,.slice u1 u2 u3,.slice u4 u5 u6,.slice u7 u8 u9,.string d.recv,.slice u10 u11 u12,.string d.sig.name,.slice u13 u14 u15,.slice u16 u17 u18,.string d.sig.res.name,.slice u19 u20 u21,.int .i64 d.sig.res.off,.int .i64 d.sig.off,.int .i64 d.body.kind,.string d.body.name,.string d.body.ty.name,.slice u22 u23 u24,.int .i64 d.body.ty.off,.slice u25 u26 u27,.slice u28 u29 u30,.int .i64 d.body.off,.int .i64 d.off]) T9.out)
            have KP9:=hid (show ∀ i,lo≤i→i<g→V9.heap[i]?=wr.heap[i]? from hV▸kp_step (kp_step (kp_step KP12.out (gb_of (some 0) hb) (by omega) (.inl (by omega))) hsA (by omega) (.inl (by omega))) (gb_sets1 _ g 0 _) (by rw [size_sets];omega) (.inr (Nat.le_refl _)))
            have D9:=hid (show d.dat.In V9 False (Fr (g+1) V9) [.int .i64 d.kind,.string d.name,.slice u1 u2 u3,.slice u4 u5 u6,.slice u7 u8 u9,.string d.recv,.slice u10 u11 u12,.string d.sig.name,.slice u13 u14 u15,.slice u16 u17 u18,.string d.sig.res.name,.slice u19 u20 u21,.int .i64 d.sig.res.off,.int .i64 d.sig.off,.int .i64 d.body.kind,.string d.body.name,.string d.body.ty.name,.slice u22 u23 u24,.int .i64 d.body.ty.off,.slice u25 u26 u27,.slice u28 u29 u30,.int .i64 d.body.off,.int .i64 d.off] from hV▸in_gb (gb_sets1 _ _ _ _) (by omega) (in_gb hsA (by omega) (hd.wide fun i hi=>⟨by have:=hi.1;omega,hi.2⟩)))
            have hz9:g+1≤V9.heap.size:=by rw [←hV,size_sets,size_sets];omega
            have OO:=hid (dc_one hd).1
            obtain ⟨q9,hq1,hq2,hq3,hq4⟩:=raft_less (methodR_less q) hra (fun d q=>Got.bind (declsR k (acc++[d]) q) pgRest)
            have HQ9:=hid (HPL0.out.move hq1 (Below.refl _ _))
            have HL9:=hid (And.intro hq2 hq3)
            have E9:=hid (show progR L=stop b9 q9 (Got.bind (declsR k (acc++[d]) q9) pgRest) from (HE.out.trans (decls_func HX.out HF.out HM.out)).trans hq4)
            have HV9:=hid (show (((w9.setCell ⟨V.heap.size,0,none⟩ (.slice A (ts.length+1) cap)).setCell ⟨V.heap.size,1,none⟩ (.int .i64 (p9:Int))).setCell ⟨V.heap.size,2,none⟩ (.bool b9)).setCells g 0 [.int .i64 d.kind,.string d.name,.slice u1 u2 u3,.slice u4 u5 u6,.slice u7 u8 u9,.string d.recv,.slice u10 u11 u12,.string d.sig.name,.slice u13 u14 u15,.slice u16 u17 u18,.string d.sig.res.name,.slice u19 u20 u21,.int .i64 d.sig.res.off,.int .i64 d.sig.off,.int .i64 d.body.kind,.string d.body.name,.string d.body.ty.name,.slice u22 u23 u24,.int .i64 d.body.ty.off,.slice u25 u26 u27,.slice u28 u29 u30,.int .i64 d.body.off,.int .i64 d.off]=V9 from hV)
            obtain ⟨y0,y1,y2,f0,f1,f2⟩:=KC.three
            clear hra hb hd KC O9 hV hsA hq1 hq2 hq3 hq4 CD x0 x1 x2
            go_upto_region 14 with (refine storeOp flatDc 9 53 (b:=g) (o:=0) (us:=[.int .i64 d.kind,.string d.name,.slice u1 u2 u3,.slice u4 u5 u6,.slice u7 u8 u9,.string d.recv,.slice u10 u11 u12,.string d.sig.name,.slice u13 u14 u15,.slice u16 u17 u18,.string d.sig.res.name,.slice u19 u20 u21,.int .i64 d.sig.res.off,.int .i64 d.sig.off,.int .i64 d.body.kind,.string d.body.name,.string d.body.ty.name,.slice u22 u23 u24,.int .i64 d.body.ty.off,.slice u25 u26 u27,.slice u28 u29 u30,.int .i64 d.body.off,.int .i64 d.off]) rfl rfl T9.out OO.out rfl ?_)
            rw [HV9.out]
            clear y0 y1 y2 f0 f1 f2 HV9 OO T9
            go_frame
            have HBX:=hid (boxd_at0 XV9.out)
            obtain ⟨cs,S,hown,hrows,hzs,hS,hol⟩:=built_far (V':=V9) HR.out.row (fun i h1 h2=>KP9.out i h1 (by have:=HG.out;omega))
            have hgw:=HG.out
            have HOW:=hid hown
            have HSTP:=hid (fun (gg cp:Nat) (w5:World) h1 h2 h3=>built_more (w5:=w5) (gg:=gg) (cap:=cp) (T:=41) hown hrows hzs (fun b hb=>⟨(hS b hb).1,by have:=(hS b hb).2.1;omega,(hS b hb).2.2⟩) D9.out (by omega) (fun g' hg'=>by have:=(hol g' hg').2;omega) (Dc.dat_size d) h1 h2 h3)
            have hol2:=fun g' hg'=>(hol g' hg').1
            have HOL:=hid hol2
            have hb5:lo≤(V9.alloc (.cells #[.int .i64 d.kind,.string d.name,.slice u1 u2 u3,.slice u4 u5 u6,.slice u7 u8 u9,.string d.recv,.slice u10 u11 u12,.string d.sig.name,.slice u13 u14 u15,.slice u16 u17 u18,.string d.sig.res.name,.slice u19 u20 u21,.int .i64 d.sig.res.off,.int .i64 d.sig.off,.int .i64 d.body.kind,.string d.body.name,.string d.body.ty.name,.slice u22 u23 u24,.int .i64 d.body.ty.off,.slice u25 u26 u27,.slice u28 u29 u30,.int .i64 d.body.off,.int .i64 d.off] 41)).heap.size:=by simp;omega
            have z3:=QV9.out.sbox 0 _ rfl
            clear hown hrows hzs hS hol hol2
            go_wp2_with (first | (refine loadOp flatDc 9 56 rfl HBX.out rfl ?_) | (at_builtin;refine wpList_append_lies _ rfl _ _ 22 rfl lo 41 i0 _ 23 392 Tryz.underlying22 hi0 hz0 hz1 hz2 rfl (by omega) _ acc.length cs rfl (HOW.out.alloc _) ⟨V9.heap.size,0,none⟩ 1 1 [.int .i64 d.kind,.string d.name,.slice u1 u2 u3,.slice u4 u5 u6,.slice u7 u8 u9,.string d.recv,.slice u10 u11 u12,.string d.sig.name,.slice u13 u14 u15,.slice u16 u17 u18,.string d.sig.res.name,.slice u19 u20 u21,.int .i64 d.sig.res.off,.int .i64 d.sig.off,.int .i64 d.body.kind,.string d.body.name,.string d.body.ty.name,.slice u22 u23 u24,.int .i64 d.body.ty.off,.slice u25 u26 u27,.slice u28 u29 u30,.int .i64 d.body.off,.int .i64 d.off] rfl rfl (World.news_of_block (cs:=#[.int .i64 d.kind,.string d.name,.slice u1 u2 u3,.slice u4 u5 u6,.slice u7 u8 u9,.string d.recv,.slice u10 u11 u12,.string d.sig.name,.slice u13 u14 u15,.slice u16 u17 u18,.string d.sig.res.name,.slice u19 u20 u21,.int .i64 d.sig.res.off,.int .i64 d.sig.off,.int .i64 d.body.kind,.string d.body.name,.string d.body.ty.name,.slice u22 u23 u24,.int .i64 d.body.ty.off,.slice u25 u26 u27,.slice u28 u29 u30,.int .i64 d.body.off,.int .i64 d.off]) (t:=41) (fr:=(0,0)) (heap_alloc_new _ _)) (by simp [Value.oneCell']) (by omega) (by unfold maxLen;omega) (by omega) hb5 _ rfl ?_;intro gg cp w6 hown6 hgrow6 hat6 hlt6;have HO6:=hid (And.intro hown6 (And.intro hgrow6 hat6));clear hown6 hgrow6 hat6 hlt6;have hb6:Below lo V9 w6:=(((Below.refl V9.heap.size V9).alloc (Nat.le_refl _) _).mono (by omega)).trans (below_grown hb5 HO6.out.2.1 HOL.out);have K6:=hid (QV9.out.up hlo2 hb6);have z6:=K6.out.sbox 0 _ rfl;have g6:w6.frozen? ⟨V.heap.size+1,0,none⟩=false:=by (have:=(K6.out.sown 0 (by decide)).2;rwa [Nat.zero_add] at this)))
            obtain ⟨V6,hV6⟩:∃ X,w6.setCell ⟨V.heap.size+1,0,none⟩ (.slice (some ⟨gg,0,none⟩) (acc.length+1) cp)=X:=⟨_,rfl⟩
            rw [hV6]
            have hg6:=gb_set w6 (V.heap.size+1) 0 (.slice (some ⟨gg,0,none⟩) (acc.length+1) cp)
            rw [hV6] at hg6
            have QV6:=hid (show Pq V V6 9 [.slice A (ts.length+1) cap,.int .i64 (p9:Int),.bool b9] [.slice (some ⟨gg,0,none⟩) (acc.length+1) cp,.int .i64 0,.string ⟨#[]⟩,.string ⟨#[]⟩,.slice none 0 0,.int .i64 0,.slice none 0 0,.slice none 0 0,.int .i64 0] from hV6▸K6.out.field 0 (by decide) _)
            have RW6:=hid (show Built V6 False 41 23 lo (.slice (some ⟨gg,0,none⟩) (acc.length+1) cp) (acc++[d]).length ((acc++[d]).map Dc.dat) from built_gb hg6 (by omega) (by
              have:=HSTP.out gg cp w6 HO6.out.1 HO6.out.2.1 (HO6.out.2.2.imp id fun h=>by simpa using h)
              rw [List.map_append,List.length_append]
              exact this))
            have hlq2:(acc++[d]).length=acc.length+1:=by simp
            have hs6:lo≤V6.heap.size:=by have h1:=hb6.size;have h2:=hg6.size;omega
            clear hV6 hg6 HO6 HSTP HOW HBX K6 z6 g6 hb6 z3
            go_roundw
            case rel =>
              refine ⟨_,acc++[d],q9,p9,b9,k,⟨QV6.out,HQ9.out,RW6.out,⟨hlo2,hs6⟩,fun h=>?_,?_⟩,fun h=>?_,E9.out⟩
              · have h1:=HL9.out.2 h
                have h2:=HR.out.few.1 rfl
                rw [hlq2]
                omega
              · have h2:=HR.out.few.1 rfl
                rw [hlq2]
                omega
              have h1:=HL9.out.2 h
              omega
            case measure =>
              have h1:=QV6.out.sbox 0 _ rfl
              have h2:=HR.out.pq.sbox 0 _ rfl
              rw [h1,h2]
              simp [lenOf]
              omega
          have HEX:=hid (HE.out.trans (decls_stop (k:=k) (acc:=acc) HX.out (by rw [HF.out,(nextB_cons hm).2];rfl)))
          clear hm
          go_wp2_with fail
          go_meet
          exact ⟨B,kc,acc,q,p6,_,Q12.out,row_lo HRW0.out (fun i h1 h2=>KP12.out i h1 (by have:=HG.out;omega)) hlo2 (by have:=HG.out;omega),HQR.out,HEX.out⟩
        have HX:=hid (nextB_cons hx).2
        clear hx
        go_upto_if 31 with fail
        have CD:=hid (rtyped_any A (ts.length+1) cap p6 L q false w8 R8.out)
        obtain ⟨x0,x1,x2,-⟩:=Qw8.out.three
        go_wp2_with fail
        refine CD.out.mono ?_
        rintro e w9 ⟨d,us,p9,b9,rfl,hd,hra,hb⟩
        obtain ⟨u1,u2,u3,u4,u5,u6,u7,u8,u9,u10,u11,u12,u13,u14,u15,u16,u17,u18,u19,u20,u21,u22,u23,u24,u25,u26,u27,u28,u29,u30,rfl,-⟩:=dc_opens hd
        have KC:=Qw8.out.later hb
        have O9:=there_upB O8.out (by omega:g<w8.heap.size) hb
        have hs9:=hb.size
        obtain ⟨V9,hV⟩:∃ X,(w9.setCells V.heap.size 0 [.slice A (ts.length+1) cap,.int .i64 (p9:Int),.bool b9]).setCells g 0 [.int .i64 d.kind,.string d.name,.slice u1 u2 u3,.slice u4 u5 u6,.slice u7 u8 u9,.string d.recv,.slice u10 u11 u12,.string d.sig.name,.slice u13 u14 u15,.slice u16 u17 u18,.string d.sig.res.name,.slice u19 u20 u21,.int .i64 d.sig.res.off,.int .i64 d.sig.off,.int .i64 d.body.kind,.string d.body.name,.string d.body.ty.name,.slice u22 u23 u24,.int .i64 d.body.ty.off,.slice u25 u26 u27,.slice u28 u29 u30,.int .i64 d.body.off,.int .i64 d.off]=X:=⟨_,rfl⟩
        have hsA:=gb_sets1 w9 V.heap.size 0 [.slice A (ts.length+1) cap,.int .i64 (p9:Int),.bool b9]
        have QV9:=hid (show Pq V V9 9 [.slice A (ts.length+1) cap,.int .i64 (p9:Int),.bool b9] [.slice B acc.length kc,.int .i64 0,.string ⟨#[]⟩,.string ⟨#[]⟩,.slice none 0 0,.int .i64 0,.slice none 0 0,.slice none 0 0,.int .i64 0] from hV▸(KC.place _ rfl).up (B:=g) (by omega) (below_sets (Nat.le_refl g) _ _ _))
        have T9:=hid (show (((w9.setCell ⟨V.heap.size,0,none⟩ (.slice A (ts.length+1) cap)).setCell ⟨V.heap.size,1,none⟩ (.int .i64 (p9:Int))).setCell ⟨V.heap.size,2,none⟩ (.bool b9)).there g 0 23 from there_gb O9 (by omega) (by omega) hsA)
        have XV9:=hid (show Boxd V9 g [.int .i64 d.kind,.string d.name,.slice u1 u2 u3,.slice u4 u5 u6,.slice u7 u8 u9,.string d.recv,.slice u10 u11 u12,.string d.sig.name,.slice u13 u14 u15,.slice u16 u17 u18,.string d.sig.res.name,.slice u19 u20 u21,.int .i64 d.sig.res.off,.int .i64 d.sig.off,.int .i64 d.body.kind,.string d.body.name,.string d.body.ty.name,.slice u22 u23 u24,.int .i64 d.body.ty.off,.slice u25 u26 u27,.slice u28 u29 u30,.int .i64 d.body.off,.int .i64 d.off] from hV▸set_there (us:=[.int .i64 d.kind,.string d.name,.slice u1 u2 u3,.slice u4 u5 u6,.slice u7 u8 u9,.string d.recv,.slice u10 u11 u12,.string d.sig.name,.slice u13 u14 u15,.slice u16 u17 u18,.string d.sig.res.name,.slice u19 u20 u21,.int .i64 d.sig.res.off,.int .i64 d.sig.off,.int .i64 d.body.kind,.string d.body.name,.string d.body.ty.name,.slice u22 u23 u24,.int .i64 d.body.ty.off,.slice u25 u26 u27,.slice u28 u29 u30,.int .i64 d.body.off,.int .i64 d.off]) T9.out)
        have KP9:=hid (show ∀ i,lo≤i→i<g→V9.heap[i]?=wr.heap[i]? from hV▸kp_step (kp_step (kp_step KP8.out (gb_of (some 0) hb) (by omega) (.inl (by omega))) hsA (by omega) (.inl (by omega))) (gb_sets1 _ g 0 _) (by rw [size_sets];omega) (.inr (Nat.le_refl _)))
        have D9:=hid (show d.dat.In V9 False (Fr (g+1) V9) [.int .i64 d.kind,.string d.name,.slice u1 u2 u3,.slice u4 u5 u6,.slice u7 u8 u9,.string d.recv,.slice u10 u11 u12,.string d.sig.name,.slice u13 u14 u15,.slice u16 u17 u18,.string d.sig.res.name,.slice u19 u20 u21,.int .i64 d.sig.res.off,.int .i64 d.sig.off,.int .i64 d.body.kind,.string d.body.name,.string d.body.ty.name,.slice u22 u23 u24,.int .i64 d.body.ty.off,.slice u25 u26 u27,.slice u28 u29 u30,.int .i64 d.body.off,.int .i64 d.off] from hV▸in_gb (gb_sets1 _ _ _ _) (by omega) (in_gb hsA (by omega) (hd.wide fun i hi=>⟨by have:=hi.1;omega,hi.2⟩)))
        have hz9:g+1≤V9.heap.size:=by rw [←hV,size_sets,size_sets];omega
        have OO:=hid (dc_one hd).1
        obtain ⟨q9,hq1,hq2,hq3,hq4⟩:=raft_less (typedR_less q) hra (fun d q=>Got.bind (declsR k (acc++[d]) q) pgRest)
        have HQ9:=hid (HPL0.out.move hq1 (Below.refl _ _))
        have HL9:=hid (And.intro hq2 hq3)
        have E9:=hid (show progR L=stop b9 q9 (Got.bind (declsR k (acc++[d]) q9) pgRest) from (HE.out.trans (decls_type HX.out)).trans hq4)
        have HV9:=hid (show (((w9.setCell ⟨V.heap.size,0,none⟩ (.slice A (ts.length+1) cap)).setCell ⟨V.heap.size,1,none⟩ (.int .i64 (p9:Int))).setCell ⟨V.heap.size,2,none⟩ (.bool b9)).setCells g 0 [.int .i64 d.kind,.string d.name,.slice u1 u2 u3,.slice u4 u5 u6,.slice u7 u8 u9,.string d.recv,.slice u10 u11 u12,.string d.sig.name,.slice u13 u14 u15,.slice u16 u17 u18,.string d.sig.res.name,.slice u19 u20 u21,.int .i64 d.sig.res.off,.int .i64 d.sig.off,.int .i64 d.body.kind,.string d.body.name,.string d.body.ty.name,.slice u22 u23 u24,.int .i64 d.body.ty.off,.slice u25 u26 u27,.slice u28 u29 u30,.int .i64 d.body.off,.int .i64 d.off]=V9 from hV)
        obtain ⟨y0,y1,y2,f0,f1,f2⟩:=KC.three
        clear hra hb hd KC O9 hV hsA hq1 hq2 hq3 hq4 CD x0 x1 x2
        go_upto_region 14 with (refine storeOp flatDc 9 36 (b:=g) (o:=0) (us:=[.int .i64 d.kind,.string d.name,.slice u1 u2 u3,.slice u4 u5 u6,.slice u7 u8 u9,.string d.recv,.slice u10 u11 u12,.string d.sig.name,.slice u13 u14 u15,.slice u16 u17 u18,.string d.sig.res.name,.slice u19 u20 u21,.int .i64 d.sig.res.off,.int .i64 d.sig.off,.int .i64 d.body.kind,.string d.body.name,.string d.body.ty.name,.slice u22 u23 u24,.int .i64 d.body.ty.off,.slice u25 u26 u27,.slice u28 u29 u30,.int .i64 d.body.off,.int .i64 d.off]) rfl rfl T9.out OO.out rfl ?_)
        rw [HV9.out]
        clear y0 y1 y2 f0 f1 f2 HV9 OO T9
        go_frame
        have HBX:=hid (boxd_at0 XV9.out)
        obtain ⟨cs,S,hown,hrows,hzs,hS,hol⟩:=built_far (V':=V9) HR.out.row (fun i h1 h2=>KP9.out i h1 (by have:=HG.out;omega))
        have hgw:=HG.out
        have HOW:=hid hown
        have HSTP:=hid (fun (gg cp:Nat) (w5:World) h1 h2 h3=>built_more (w5:=w5) (gg:=gg) (cap:=cp) (T:=41) hown hrows hzs (fun b hb=>⟨(hS b hb).1,by have:=(hS b hb).2.1;omega,(hS b hb).2.2⟩) D9.out (by omega) (fun g' hg'=>by have:=(hol g' hg').2;omega) (Dc.dat_size d) h1 h2 h3)
        have hol2:=fun g' hg'=>(hol g' hg').1
        have HOL:=hid hol2
        have hb5:lo≤(V9.alloc (.cells #[.int .i64 d.kind,.string d.name,.slice u1 u2 u3,.slice u4 u5 u6,.slice u7 u8 u9,.string d.recv,.slice u10 u11 u12,.string d.sig.name,.slice u13 u14 u15,.slice u16 u17 u18,.string d.sig.res.name,.slice u19 u20 u21,.int .i64 d.sig.res.off,.int .i64 d.sig.off,.int .i64 d.body.kind,.string d.body.name,.string d.body.ty.name,.slice u22 u23 u24,.int .i64 d.body.ty.off,.slice u25 u26 u27,.slice u28 u29 u30,.int .i64 d.body.off,.int .i64 d.off] 41)).heap.size:=by simp;omega
        have z3:=QV9.out.sbox 0 _ rfl
        clear hown hrows hzs hS hol hol2
        go_wp2_with (first | (refine loadOp flatDc 9 56 rfl HBX.out rfl ?_) | (at_builtin;refine wpList_append_lies _ rfl _ _ 22 rfl lo 41 i0 _ 23 392 Tryz.underlying22 hi0 hz0 hz1 hz2 rfl (by omega) _ acc.length cs rfl (HOW.out.alloc _) ⟨V9.heap.size,0,none⟩ 1 1 [.int .i64 d.kind,.string d.name,.slice u1 u2 u3,.slice u4 u5 u6,.slice u7 u8 u9,.string d.recv,.slice u10 u11 u12,.string d.sig.name,.slice u13 u14 u15,.slice u16 u17 u18,.string d.sig.res.name,.slice u19 u20 u21,.int .i64 d.sig.res.off,.int .i64 d.sig.off,.int .i64 d.body.kind,.string d.body.name,.string d.body.ty.name,.slice u22 u23 u24,.int .i64 d.body.ty.off,.slice u25 u26 u27,.slice u28 u29 u30,.int .i64 d.body.off,.int .i64 d.off] rfl rfl (World.news_of_block (cs:=#[.int .i64 d.kind,.string d.name,.slice u1 u2 u3,.slice u4 u5 u6,.slice u7 u8 u9,.string d.recv,.slice u10 u11 u12,.string d.sig.name,.slice u13 u14 u15,.slice u16 u17 u18,.string d.sig.res.name,.slice u19 u20 u21,.int .i64 d.sig.res.off,.int .i64 d.sig.off,.int .i64 d.body.kind,.string d.body.name,.string d.body.ty.name,.slice u22 u23 u24,.int .i64 d.body.ty.off,.slice u25 u26 u27,.slice u28 u29 u30,.int .i64 d.body.off,.int .i64 d.off]) (t:=41) (fr:=(0,0)) (heap_alloc_new _ _)) (by simp [Value.oneCell']) (by omega) (by unfold maxLen;omega) (by omega) hb5 _ rfl ?_;intro gg cp w6 hown6 hgrow6 hat6 hlt6;have HO6:=hid (And.intro hown6 (And.intro hgrow6 hat6));clear hown6 hgrow6 hat6 hlt6;have hb6:Below lo V9 w6:=(((Below.refl V9.heap.size V9).alloc (Nat.le_refl _) _).mono (by omega)).trans (below_grown hb5 HO6.out.2.1 HOL.out);have K6:=hid (QV9.out.up hlo2 hb6);have z6:=K6.out.sbox 0 _ rfl;have g6:w6.frozen? ⟨V.heap.size+1,0,none⟩=false:=by (have:=(K6.out.sown 0 (by decide)).2;rwa [Nat.zero_add] at this)))
        obtain ⟨V6,hV6⟩:∃ X,w6.setCell ⟨V.heap.size+1,0,none⟩ (.slice (some ⟨gg,0,none⟩) (acc.length+1) cp)=X:=⟨_,rfl⟩
        rw [hV6]
        have hg6:=gb_set w6 (V.heap.size+1) 0 (.slice (some ⟨gg,0,none⟩) (acc.length+1) cp)
        rw [hV6] at hg6
        have QV6:=hid (show Pq V V6 9 [.slice A (ts.length+1) cap,.int .i64 (p9:Int),.bool b9] [.slice (some ⟨gg,0,none⟩) (acc.length+1) cp,.int .i64 0,.string ⟨#[]⟩,.string ⟨#[]⟩,.slice none 0 0,.int .i64 0,.slice none 0 0,.slice none 0 0,.int .i64 0] from hV6▸K6.out.field 0 (by decide) _)
        have RW6:=hid (show Built V6 False 41 23 lo (.slice (some ⟨gg,0,none⟩) (acc.length+1) cp) (acc++[d]).length ((acc++[d]).map Dc.dat) from built_gb hg6 (by omega) (by
          have:=HSTP.out gg cp w6 HO6.out.1 HO6.out.2.1 (HO6.out.2.2.imp id fun h=>by simpa using h)
          rw [List.map_append,List.length_append]
          exact this))
        have hlq2:(acc++[d]).length=acc.length+1:=by simp
        have hs6:lo≤V6.heap.size:=by have h1:=hb6.size;have h2:=hg6.size;omega
        clear hV6 hg6 HO6 HSTP HOW HBX K6 z6 g6 hb6 z3
        go_roundw
        case rel =>
          refine ⟨_,acc++[d],q9,p9,b9,k,⟨QV6.out,HQ9.out,RW6.out,⟨hlo2,hs6⟩,fun h=>?_,?_⟩,fun h=>?_,E9.out⟩
          · have h1:=HL9.out.2 h
            have h2:=HR.out.few.1 rfl
            rw [hlq2]
            omega
          · have h2:=HR.out.few.1 rfl
            rw [hlq2]
            omega
          have h1:=HL9.out.2 h
          omega
        case measure =>
          have h1:=QV6.out.sbox 0 _ rfl
          have h2:=HR.out.pq.sbox 0 _ rfl
          rw [h1,h2]
          simp [lenOf]
          omega
      have HEX:=hid (show progR L=stop true q (pgRest acc q) from HE.out)
      go_wp2_with fail
      go_meet
      exact ⟨B,kc,acc,q,p6,_,QR.out,HRW.out,HQR.out,HEX.out⟩
    obtain ⟨B,kc,acc,q,p,b,hq,hrow,hpl,he⟩:=hcut
    have QVc:=hid hq
    have HRW:=hid hrow
    have HQR:=hid hpl
    have HE:=hid he
    clear hq hrow hpl he QV5 HQ5 E5 HLO
    obtain ⟨Vc,hVc⟩:∃ X,wc=X:=⟨_,rfl⟩
    rw [hVc] at QVc HRW ⊢
    clear hVc
    obtain ⟨X15,hX⟩:∃ X,Vc.alloc (.cells ([⟨#[102,117,110,99]⟩,⟨#[109,97,105,110]⟩,⟨#[40]⟩,⟨#[41]⟩,⟨#[123]⟩,⟨#[95]⟩,⟨#[61]⟩].map Value.string).toArray 9)=X:=⟨_,rfl⟩
    have hbx:Below Vc.heap.size Vc X15:=hX▸(Below.refl _ _).alloc (Nat.le_refl _) _
    have HX15:=hid (show Vc.alloc (.cells #[.string ⟨#[102,117,110,99]⟩,.string ⟨#[109,97,105,110]⟩,.string ⟨#[40]⟩,.string ⟨#[41]⟩,.string ⟨#[123]⟩,.string ⟨#[95]⟩,.string ⟨#[61]⟩] 9)=X15 from hX)
    have QX15:=hid (QVc.out.later hbx)
    have hw:=rwords_any8 A (ts.length+1) cap p L q b Vc.heap.size 7 7 [⟨#[102,117,110,99]⟩,⟨#[109,97,105,110]⟩,⟨#[40]⟩,⟨#[41]⟩,⟨#[123]⟩,⟨#[95]⟩,⟨#[61]⟩] X15 (HQR.out.later QX15.out.bel) (hX▸(strs_new Vc V.heap.size [⟨#[102,117,110,99]⟩,⟨#[109,97,105,110]⟩,⟨#[40]⟩,⟨#[41]⟩,⟨#[123]⟩,⟨#[95]⟩,⟨#[61]⟩] (by have:=QVc.out.big;omega)).1) rfl (by decide)
    have C15:=hid hw
    obtain ⟨x0,x1,x2,-⟩:=QVc.out.three
    clear hX hbx hw
    go_wp2_with fail
    rw [HX15.out]
    refine C15.out.mono ?_
    rintro e w15 ⟨p15,b15,rfl,hra,hb⟩
    have KC:=QX15.out.later hb
    obtain ⟨V15,hV⟩:∃ X,w15.setCells V.heap.size 0 [.slice A (ts.length+1) cap,.int .i64 (p15:Int),.bool b15]=X:=⟨_,rfl⟩
    have QV15:=hid (show Pq V V15 9 [.slice A (ts.length+1) cap,.int .i64 (p15:Int),.bool b15] [.slice B acc.length kc,.int .i64 0,.string ⟨#[]⟩,.string ⟨#[]⟩,.slice none 0 0,.int .i64 0,.slice none 0 0,.slice none 0 0,.int .i64 0] from hV▸KC.place [.slice A (ts.length+1) cap,.int .i64 (p15:Int),.bool b15] rfl)
    have d2:Dk (V.heap.size+2) w15 V15:=hV▸dk_gb (gb_sets1 w15 V.heap.size 0 [.slice A (ts.length+1) cap,.int .i64 (p15:Int),.bool b15]) (by omega)
    have D1V15:=hid (((dk_below (lo:=V.heap.size+2) (show Below Vc.heap.size Vc X15 from HX15.out▸(Below.refl _ _).alloc (Nat.le_refl _) _)).trans (dk_below hb)).trans d2)
    have HV15:=hid (show (((w15.setCell ⟨V.heap.size,0,none⟩ (.slice A (ts.length+1) cap)).setCell ⟨V.heap.size,1,none⟩ (.int .i64 (p15:Int))).setCell ⟨V.heap.size,2,none⟩ (.bool b15))=V15 from hV)
    obtain ⟨q15,hq1,hq2,hq3⟩:=raft_step (allF_ends [wFunc,wMain,[40],[41],[123],[95],[61]] q) (show RAft w15 A (ts.length+1) L p15 b15 () (stop b q (allF [wFunc,wMain,[40],[41],[123],[95],[61]] q)) from hra) (fun _ q=>Got.bind (exA q) (fun e q=>Got.bind (must [125] q) fun _ q=>.ok (⟨acc,e⟩:Pg) q))
    have HQ15:=hid (HPL0.out.move hq1 (Below.refl _ _))
    have E15:=hid (show progR L=stop b15 q15 (Got.bind (exA q15) (fun e q=>Got.bind (must [125] q) fun _ q=>.ok (⟨acc,e⟩:Pg) q)) from HE.out.trans hq3)
    obtain ⟨y0,y1,y2,f0,f1,f2⟩:=KC.three
    clear hra hb KC d2 hV hq1 hq2 hq3 C15 x0 x1 x2
    have HRW15:=hid (D1V15.out.row (Nat.le_refl _) HRW.out)
    go_upto_region 16 with fail
    rw [HV15.out]
    clear y0 y1 y2 f0 f1 f2 HX15 QX15 HV15 HRW QVc D1V15
    obtain ⟨x0,x1,x2,-⟩:=QV15.out.three
    go_upto_if 65 with fail
    go_cut [66] from 66 to 71 (fun _ wx=>∃ (e:Ex) (us:List Value) (q':List Tk) (p':Nat) (b':Bool),Pq V wx 9 [.slice A (ts.length+1) cap,.int .i64 (p':Int),.bool b'] (.slice B acc.length kc :: us)∧e.dat.In wx False (Fr (V.heap.size+2) wx) us∧Row wx False (Fr (V.heap.size+2) wx) 23 B acc.length (acc.map Dc.dat)∧Pl V A (ts.length+1) L p' q'∧progR L=stop b' q' (Got.bind (must [125] q') fun _ q=>.ok (⟨acc,e⟩:Pg) q))
    case first =>
      cases b15
      · have C12:=hid (rexpr_any (2*q15.length+2) A (ts.length+1) cap p15 L q15 V15 (HQ15.out.later QV15.out.bel) (Nat.le_refl _))
        go_wp2_with fail
        refine C12.out.mono ?_
        rintro e' w12 ⟨e,us,p12,b12,rfl,hd,hra,hb⟩
        obtain ⟨z1,z2,z3,z4,z5,z6,z7,z8,z9,rfl,-⟩:=ex_open hd
        have KC:=QV15.out.later hb
        obtain ⟨V12,hV⟩:∃ X,(w12.setCells V.heap.size 0 [.slice A (ts.length+1) cap,.int .i64 (p12:Int),.bool b12]).setCells (V.heap.size+1) 1 [.int .i64 e.kind,.string e.name,.string e.ty.name,.slice z1 z2 z3,.int .i64 e.ty.off,.slice z4 z5 z6,.slice z7 z8 z9,.int .i64 e.off]=X:=⟨_,rfl⟩
        have QV12:=hid (show Pq V V12 9 [.slice A (ts.length+1) cap,.int .i64 (p12:Int),.bool b12] [.slice B acc.length kc,.int .i64 e.kind,.string e.name,.string e.ty.name,.slice z1 z2 z3,.int .i64 e.ty.off,.slice z4 z5 z6,.slice z7 z8 z9,.int .i64 e.off] from hV▸Pq.sub [.int .i64 e.kind,.string e.name,.string e.ty.name,.slice z1 z2 z3,.int .i64 e.ty.off,.slice z4 z5 z6,.slice z7 z8 z9,.int .i64 e.off] 1 _ _ (KC.place [.slice A (ts.length+1) cap,.int .i64 (p12:Int),.bool b12] rfl) (Nat.le_of_ble_eq_true rfl))
        have d2:Dk (V.heap.size+2) w12 V12:=hV▸(dk_gb (gb_sets1 w12 V.heap.size 0 [.slice A (ts.length+1) cap,.int .i64 (p12:Int),.bool b12]) (by omega)).trans (dk_gb (gb_sets1 _ (V.heap.size+1) 1 _) (by omega))
        have D112:=hid ((dk_below hb).trans d2)
        have HEX12:=hid (show e.dat.In V12 False (Fr (V.heap.size+2) V12) [.int .i64 e.kind,.string e.name,.string e.ty.name,.slice z1 z2 z3,.int .i64 e.ty.off,.slice z4 z5 z6,.slice z7 z8 z9,.int .i64 e.off] from d2.dat QV15.out.big hd)
        have T12:=hid (show (((w12.setCell ⟨V.heap.size,0,none⟩ (.slice A (ts.length+1) cap)).setCell ⟨V.heap.size,1,none⟩ (.int .i64 (p12:Int))).setCell ⟨V.heap.size,2,none⟩ (.bool b12)).there (V.heap.size+1) 1 8 from there_sub (World.there_setCells KC.sown V.heap.size 0 [.slice A (ts.length+1) cap,.int .i64 (p12:Int),.bool b12]) (by decide))
        have O12:=hid (ex_one hd)
        have HV12:=hid (show (((w12.setCell ⟨V.heap.size,0,none⟩ (.slice A (ts.length+1) cap)).setCell ⟨V.heap.size,1,none⟩ (.int .i64 (p12:Int))).setCell ⟨V.heap.size,2,none⟩ (.bool b12)).setCells (V.heap.size+1) 1 [.int .i64 e.kind,.string e.name,.string e.ty.name,.slice z1 z2 z3,.int .i64 e.ty.off,.slice z4 z5 z6,.slice z7 z8 z9,.int .i64 e.off]=V12 from hV)
        obtain ⟨q12,hq1,hq2,-,hq3⟩:=raft_less (exA_less q15) (show RAft w12 A (ts.length+1) L p12 b12 e (stop false q15 (exA q15)) from hra) (fun e q=>Got.bind (must [125] q) fun _ q=>.ok (⟨acc,e⟩:Pg) q)
        have HQ12:=hid (HPL0.out.move hq1 (Below.refl _ _))
        have E12:=hid (E15.out.trans hq3)
        obtain ⟨y00,y01,y02,f0,f1,f2⟩:=KC.three
        clear hra hb hd KC d2 hV hq1 hq2 hq3 C12 x0 x1 x2
        go_wp2_with (refine storeOp flatEx 71 70 (b:=V.heap.size+1) (o:=1) (us:=[.int .i64 e.kind,.string e.name,.string e.ty.name,.slice z1 z2 z3,.int .i64 e.ty.off,.slice z4 z5 z6,.slice z7 z8 z9,.int .i64 e.off]) rfl rfl T12.out O12.out rfl ?_)
        go_meet
        rw [HV12.out]
        exact ⟨e,_,q12,p12,b12,QV12.out,HEX12.out,D112.out.row (Nat.le_refl _) HRW15.out,HQ12.out,E12.out⟩
      go_wp2_with fail
      go_meet
      exact ⟨Ex.none?,_,q15,p15,true,QV15.out,exNone_dat _ _ _,HRW15.out,HQ15.out,E15.out⟩
    obtain ⟨e,us,q13,p13,b13,hq13,hd13,hrow13,hpl13,he13⟩:=hcut
    have Q13:=hid hq13
    have HD13:=hid hd13
    have HRW13:=hid hrow13
    have HQ13:=hid hpl13
    have E13:=hid he13
    have HON:=hid (pg_one (A:=B) (n:=acc.length) (cap:=kc) hd13)
    have HLU:=hid (show (.slice B acc.length kc :: us:List Value).length=9 from hq13.len)
    obtain ⟨x0,x1,x2,-⟩:=hq13.three
    have C14:=hid (show Calls Tryz.prog 58 #[.agg #[.slice A (ts.length+1) cap,.int .i64 (p13:Int),.bool b13],.string ⟨#[125]⟩] wc (RMustPost A (ts.length+1) cap L q13 b13 [125] wc) from rmust_any A (ts.length+1) cap p13 L q13 b13 ⟨#[125]⟩ wc (hpl13.later hq13.bel))
    clear hq13 hd13 hrow13 hpl13 he13 QV15 HRW15 HQ15 E15
    go_wp2_with fail
    refine C14.out.mono ?_
    rintro e' w14 ⟨p14,b14,rfl,hra,hb⟩
    have KC:=Q13.out.later hb
    obtain ⟨V14,hV⟩:∃ X,w14.setCells V.heap.size 0 [.slice A (ts.length+1) cap,.int .i64 (p14:Int),.bool b14]=X:=⟨_,rfl⟩
    have Q14:=hid (show Pq V V14 9 [.slice A (ts.length+1) cap,.int .i64 (p14:Int),.bool b14] (.slice B acc.length kc :: us) from hV▸KC.place [.slice A (ts.length+1) cap,.int .i64 (p14:Int),.bool b14] rfl)
    have d2:Dk (V.heap.size+2) w14 V14:=hV▸dk_gb (gb_sets1 w14 V.heap.size 0 [.slice A (ts.length+1) cap,.int .i64 (p14:Int),.bool b14]) (by omega)
    have D114:=hid ((dk_below hb).trans d2)
    have HD14:=hid (D114.out.dat (Nat.le_refl _) HD13.out)
    have HRW14:=hid (D114.out.row (Nat.le_refl _) HRW13.out)
    have HV14:=hid (show (((w14.setCell ⟨V.heap.size,0,none⟩ (.slice A (ts.length+1) cap)).setCell ⟨V.heap.size,1,none⟩ (.int .i64 (p14:Int))).setCell ⟨V.heap.size,2,none⟩ (.bool b14))=V14 from hV)
    have hra2:=RAft.move HPL0.out hra Q14.out.bel
    have hra3:RAft V14 A (ts.length+1) L p14 b14 (⟨acc,e⟩:Pg) (progR L):=by
      rw [E13.out]
      cases b13
      · exact raft_ret hra2 (fun _=>(⟨acc,e⟩:Pg)) rfl
      exact ⟨hra2.1,hra2.2⟩
    obtain ⟨q,hplq,hend⟩:=raft_end hra3
    have HEND:=hid hend
    have C9:=hid (rfinish_any A (ts.length+1) cap p14 L q b14 V14 hplq)
    obtain ⟨y0,y1,y2,f0,f1,f2⟩:=KC.three
    clear hra hb KC d2 hV hra2 hra3 hplq hend C14 x0 x1 x2 Q13 HD13 HRW13
    go_upto_region 19 with fail
    rw [HV14.out]
    clear y0 y1 y2 f0 f1 f2 HV14
    have HT14:=hid (show V14.there w.heap.size 0 9 from there_upB HT1.out (by omega) Q14.out.bel)
    have HB14:=hid (HB1.out.trans (Q14.out.bel.mono (by omega)))
    obtain ⟨x0,x1,x2,-⟩:=Q14.out.three
    go_wp2_with fail
    refine C9.out.mono ?_
    rintro e' w9 ⟨rfl,hb⟩
    have Q9:=hid (Q14.out.later hb)
    have hbg:=Q14.out.big
    have HT9:=hid (there_upB HT14.out (by omega) hb)
    have HB9:=hid (HB14.out.trans (hb.mono (by omega)))
    have HD9:=hid ((dk_below (lo:=V.heap.size+2) hb).dat (Nat.le_refl _) HD14.out)
    have HRW9:=hid ((dk_below (lo:=V.heap.size+2) hb).row (Nat.le_refl _) HRW14.out)
    clear hb C9 x0 x1 x2 Q14 HT14 HB14 HD14 HRW14
    rcases HEND.out with ⟨h1,h2,h3⟩ | ⟨h1,h3⟩
    · rw [h1,h2]
      have H3:=hid (HLL.out.trans h3)
      clear h1 h2 h3 HEND
      have T9:=hid (show w9.there w.heap.size 0 (.slice B acc.length kc :: us:List Value).length by rw [HLU.out];exact HT9.out)
      go_wp2_with (first | (refine loadOp flatPg 8 84 rfl (boxd_at0 Q9.out.sbox) HLU.out ?_) | (refine storeOp flatPg 2 84 (b:=w.heap.size) (o:=0) (us:=.slice B acc.length kc :: us) rfl rfl T9.out HON.out HLU.out ?_))
      refine bodyPost_ret (results_rwp _ rfl rfl rfl (set_there (us:=.slice B acc.length kc :: us) T9.out) HLU.out) rfl ?_
      unfold RPWholePost
      rw [H3.out]
      exact ⟨_,rfl,Dat.In.wide (in_gb (gb_sets1 w9 w.heap.size 0 _) (by omega) (pgMkR HRW9.out HD9.out)) (fun b hb=>⟨by have:=hb.1;omega,hb.2⟩),HB9.out.trans (below_sets (Nat.le_refl _) _ _ _)⟩
    rw [h1]
    have H3:=hid (HLL.out.trans h3)
    obtain ⟨oo,ho⟩:∃ x,finO b14 q=x:=⟨_,rfl⟩
    rw [ho] at H3 ⊢
    clear h1 h3 HEND ho
    go_wp2_with (refine storeOp flatPg 2 81 (b:=w.heap.size) (o:=0) (us:=[.slice none 0 0,.int .i64 0,.string ⟨#[]⟩,.string ⟨#[]⟩,.slice none 0 0,.int .i64 0,.slice none 0 0,.slice none 0 0,.int .i64 0]) rfl rfl HT9.out O0.out rfl ?_)
    refine bodyPost_ret (results_rwp _ rfl rfl rfl (set_there (us:=[.slice none 0 0,.int .i64 0,.string ⟨#[]⟩,.string ⟨#[]⟩,.slice none 0 0,.int .i64 0,.slice none 0 0,.slice none 0 0,.int .i64 0]) HT9.out) rfl) rfl ?_
    exact rpwhole_bad H3.out (HB9.out.trans (below_sets (Nat.le_refl _) [.slice none 0 0,.int .i64 0,.string ⟨#[]⟩,.string ⟨#[]⟩,.slice none 0 0,.int .i64 0,.slice none 0 0,.slice none 0 0,.int .i64 0] _ _))
