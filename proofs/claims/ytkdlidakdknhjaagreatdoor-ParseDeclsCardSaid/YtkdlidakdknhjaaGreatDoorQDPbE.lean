/- The walk of typed of layer 8's reference. The condition: the place stands in tokens of a text. -/
import Derived.Test.YtkdlidakdknhjaaGreatDoorQDPbC
import Derived.Test.YtkdlidakdknhjaaGreatDoorQDPbR
set_option maxRecDepth 100000
set_option maxHeartbeats 16000000
open Go.Lib (hid)
namespace Go.Proofs.YtkdlidakdknhjaaGreatDoor.Rd
open Go.RowKit
theorem Pz.whole {w V:World} {z:Nat} {ps us:List Value} (h:Pz w V z ps us) (us':List Value) (hl:us'.length=z):Pz w (V.setCells (w.heap.size+3) 0 us') z ps us' :=
  ⟨h.pk.up (B:=w.heap.size+3) (by simp) (below_sets (Nat.le_refl _) us' 0 V),set_there (us:=us') (by rw [hl];exact h.own),World.there_setCells h.own (w.heap.size+3) 0 us',hl,by rw [size_sets];exact h.big⟩
def sets (us:List Value) (o:Nat):List Value→List Value
  | []=>us
  | v :: vs=>sets (us.set o v) (o+1) vs
theorem Pz.sub {w:World} {z:Nat} {ps:List Value}:∀ (vs:List Value) (o:Nat) (V:World) (us:List Value),Pz w V z ps us→o+vs.length≤z→Pz w (V.setCells (w.heap.size+3) o vs) z ps (sets us o vs)
  | [],_,_,_,h,_=>h
  | v :: vs,o,V,us,h,hl=>Pz.sub vs (o+1) (V.setCell ⟨w.heap.size+3,o,none⟩ v) (us.set o v) (h.field o (by simp only [List.length_cons] at hl;omega) v) (by simp only [List.length_cons] at hl;omega)
def RDcPost (A:Option Addr) (n cap:Nat) (L l:List Tk) (b:Bool) (g:List Tk→Got Dc) (w:World) (e:Ending) (w':World):Prop:=∃ (d:Dc) (us:List Value) (p':Nat) (b':Bool),e=.returned (.tuple #[.agg #[.slice A n cap,.int .i64 p',.bool b'],.agg us.toArray])∧d.dat.In w' False (Fr w.heap.size w') us∧RAft w' A n L p' b' d (stop b l (g l))∧Below w.heap.size w w'
theorem pl_len {w:World} {A:Option Addr} {n:Nat} {L:List Tk} {p:Nat} {q:List Tk} (h:Pl w A n L p q):q.length≤100000:=by
  have h1:=h.ts.len
  have h2:=h.len
  rw [←h.l_eq,List.length_drop]
  omega
theorem raft_less {α β:Type} {w:World} {A:Option Addr} {n:Nat} {L:List Tk} {p:Nat} {b':Bool} {t:α} {r:List Tk} {g:Got α} (he:Got.Less r g) (h:RAft w A n L p b' t (stop false r g)) (f:α→List Tk→Got β) :
    ∃ q,Pl w A n L p q∧q.length≤r.length∧(b'=false→q.length<r.length)∧stop false r (Got.bind g f)=stop b' q (f t q):=by
  cases g with
  | ok u q=>obtain ⟨rfl,rfl,h3⟩:=h;exact ⟨q,h3,(Less.ends (g:=Got.ok t q) he).length_le,fun _=>he.2,rfl⟩
  | bad q=>obtain ⟨rfl,h3⟩:=h;exact ⟨q,h3,(Less.ends (g:=Got.bad (α:=α) q) he).length_le,(fun h=>by cases h),rfl⟩
structure ItRel (w wr wx:World) (A:Option Addr) (n cap:Nat) (L:List Tk) (D:List Value) (g:Nat) (d:Dat) (us:List Value) (q0 q:List Tk) (p:Nat) (b:Bool):Prop where
  pz:Pz w wx 23 [.slice A n cap,.int .i64 (p:Int),.bool b] D
  box:Boxd wx g us
  dat:d.In wx False (Fr (g+1) wx) us
  keep:∀ i,w.heap.size+4≤i→i<g→wx.heap[i]?=wr.heap[i]?
  pl:Pl w A n L p q
  len:b=false→q.length<q0.length
  le:q.length≤q0.length
  big:g+1≤wx.heap.size
theorem items_end {α β:Type} {item:List Tk→Got α} {k0:Nat} {acc:List α} {q:List Tk} {b6:Bool} {F:List α→List Tk→Got β} (hk:b6=false→q.length<k0) (hc:(!b6&&!isT [125] q)=false) :
    stop b6 q (Got.bind (itemsG item k0 acc q) F)=stop b6 q (Got.bind (must [125] q) fun _ q=>F acc q):=by
  cases b6
  · have hi:isT [125] q=true:=by simpa using hc
    obtain ⟨k,rfl⟩:∃ k,k0=k+1:=⟨k0-1,by have:=hk rfl;omega⟩
    rw [itemsG,hi,if_pos rfl,bind_ok,must_yes hi,bind_ok]
  rfl
theorem items_step {α β:Type} {item:List Tk→Got α} {k:Nat} {acc:List α} {q:List Tk} {F:List α→List Tk→Got β} (hi:isT [125] q=false) :
    stop false q (Got.bind (itemsG item (k+1) acc q) F)=stop false q (Got.bind (item q) fun u q=>Got.bind (must [59] q) fun _ q=>Got.bind (itemsG item k (acc++[u]) q) F):=by
  rw [itemsG,hi,if_neg (by decide),bind_bind]
  refine congrArg _ (congrArg _ (funext fun u=>funext fun q=>?_))
  rw [bind_bind]
theorem row_on {wr wx:World} {lo a z n:Nat} {A:Option Addr} {ds:List Dat} (h:Row wr False (fun i=>a≤i∧i<lo) z A n ds) (hk:∀ i,a≤i→i<lo→wx.heap[i]?=wr.heap[i]?):Row wx False (fun i=>a≤i∧i<lo) z A n ds :=
  h.keep id (fun _ hp=>⟨World.cell?_of_block (hk _ hp.1 hp.2),World.frozen?_of_block (hk _ hp.1 hp.2)⟩) fun _ hp=>hp
theorem raft_false {α:Type} {w:World} {A:Option Addr} {n:Nat} {L:List Tk} {p:Nat} {b b':Bool} {t:α} {r:List Tk} {g:Got α} (h:RAft w A n L p b' t (stop b r g)) (hb:b'=false):b=false:=by
  cases b with
  | false=>rfl
  | true=>have h1:=h.1;rw [hb] at h1;cases h1
structure TyRel (w V:World) (A:Option Addr) (n cap:Nat) (L:List Tk) (nm:Tk) (fs:List Fo) (F:Option Addr) (cf:Nat) (kd:Int) (q:List Tk) (p:Nat) (b:Bool):Prop where
  pz:Pz w V 23 [.slice A n cap,.int .i64 (p:Int),.bool b] [.int .i64 kd,.string nm.s,.slice F fs.length cf,.slice none 0 0,.slice none 0 0,.string ⟨#[]⟩,.slice none 0 0,.string ⟨#[]⟩,.slice none 0 0,.slice none 0 0,.string ⟨#[]⟩,.slice none 0 0,.int .i64 0,.int .i64 0,.int .i64 0,.string ⟨#[]⟩,.string ⟨#[]⟩,.slice none 0 0,.int .i64 0,.slice none 0 0,.slice none 0 0,.int .i64 0,.int .i64 nm.o]
  fs:Row V False (Fr (w.heap.size+4) V) 5 F fs.length (fs.map Fo.dat)
  pl:Pl w A n L p q
structure LpS (w V:World) (lo:Nat) (A:Option Addr) (n cap:Nat) (L:List Tk) (nm:Tk) (fs:List Fo) (F:Option Addr) (cf:Nat) (v:Value) (acc:List Fo) (q:List Tk) (p:Nat) (b:Bool):Prop where
  pz:Pz w V 23 [.slice A n cap,.int .i64 (p:Int),.bool b] [.int .i64 1,.string nm.s,.slice F fs.length cf,v,.slice none 0 0,.string ⟨#[]⟩,.slice none 0 0,.string ⟨#[]⟩,.slice none 0 0,.slice none 0 0,.string ⟨#[]⟩,.slice none 0 0,.int .i64 0,.int .i64 0,.int .i64 0,.string ⟨#[]⟩,.string ⟨#[]⟩,.slice none 0 0,.int .i64 0,.slice none 0 0,.slice none 0 0,.int .i64 0,.int .i64 nm.o]
  fs:Row V False (fun i=>w.heap.size+4≤i∧i<lo) 5 F fs.length (fs.map Fo.dat)
  pl:Pl w A n L p q
  row:Built V False 89 5 lo v acc.length (acc.map Fo.dat)
  big:w.heap.size+4≤lo∧lo≤V.heap.size
  few:(b=false→acc.length+q.length≤100001)∧acc.length≤100002
structure LpI (w V:World) (lo:Nat) (A:Option Addr) (n cap:Nat) (L:List Tk) (nm:Tk) (fs:List Fo) (F:Option Addr) (cf:Nat) (v:Value) (acc:List Sg) (q:List Tk) (p:Nat) (b:Bool):Prop where
  pz:Pz w V 23 [.slice A n cap,.int .i64 (p:Int),.bool b] [.int .i64 2,.string nm.s,.slice F fs.length cf,.slice none 0 0,v,.string ⟨#[]⟩,.slice none 0 0,.string ⟨#[]⟩,.slice none 0 0,.slice none 0 0,.string ⟨#[]⟩,.slice none 0 0,.int .i64 0,.int .i64 0,.int .i64 0,.string ⟨#[]⟩,.string ⟨#[]⟩,.slice none 0 0,.int .i64 0,.slice none 0 0,.slice none 0 0,.int .i64 0,.int .i64 nm.o]
  fs:Row V False (fun i=>w.heap.size+4≤i∧i<lo) 5 F fs.length (fs.map Fo.dat)
  pl:Pl w A n L p q
  row:Built V False 31 7 lo v acc.length (acc.map Sg.dat)
  big:w.heap.size+4≤lo∧lo≤V.heap.size
  few:(b=false→acc.length+q.length≤100001)∧acc.length≤100002
theorem results_rtyped {w:World} {b b2:Nat} {us vs:List Value} (tmps:Array Value) (ht:tmps[2]?.getD undef=.pointer (some ⟨b,0,none⟩)) (ht2:tmps[3]?.getD undef=.pointer (some ⟨b2,0,none⟩)) (hc:Boxd w b us) (hl:us.length=3) (hc2:Boxd w b2 vs) (hl2:vs.length=23):(results Tryz.f18 tmps).run Tryz.prog w=.ok (.tuple #[.agg us.toArray,.agg vs.toArray]) w:=by
  have h:=run_cell flatPl hc hl
  have h2:=run_addr ⟨b,0,none⟩ w
  have h3:=run_cell flatDc hc2 hl2
  have h4:=run_addr ⟨b2,0,none⟩ w
  simp [results,Tryz.results18,ht,ht2,h,h2,h3,h4,Sem.run_bind,Result.andThen]
theorem rtyped_any (A:Option Addr) (n cap p:Nat) (L l:List Tk) (b:Bool) (w:World) (h:Pl w A n L p l) :
    Calls Tryz.prog 18 #[.agg #[.slice A n cap,.int .i64 p,.bool b]] w (RDcPost A n cap L l b typedR w):=by
  obtain ⟨W,hW,hb,hz,hbx,ht1,ht2⟩:=two_pl w A n cap p b
  obtain ⟨W1,hW1⟩:∃ X,W.alloc (.cells #[.int .i64 0,.string ⟨#[]⟩,.slice none 0 0,.slice none 0 0,.slice none 0 0,.string ⟨#[]⟩,.slice none 0 0,.string ⟨#[]⟩,.slice none 0 0,.slice none 0 0,.string ⟨#[]⟩,.slice none 0 0,.int .i64 0,.int .i64 0,.int .i64 0,.string ⟨#[]⟩,.string ⟨#[]⟩,.slice none 0 0,.int .i64 0,.slice none 0 0,.slice none 0 0,.int .i64 0,.int .i64 0] 36)=X:=⟨_,rfl⟩
  have hb1:Below W.heap.size W W1:=hW1▸(Below.refl _ _).alloc (Nat.le_refl _) _
  have hs1:W1.heap.size=w.heap.size+3:=by rw [←hW1];simp;omega
  obtain ⟨V0,hV0⟩:∃ X,W1.alloc (.cells #[.int .i64 0,.string ⟨#[]⟩,.slice none 0 0,.slice none 0 0,.slice none 0 0,.string ⟨#[]⟩,.slice none 0 0,.string ⟨#[]⟩,.slice none 0 0,.slice none 0 0,.string ⟨#[]⟩,.slice none 0 0,.int .i64 0,.int .i64 0,.int .i64 0,.string ⟨#[]⟩,.string ⟨#[]⟩,.slice none 0 0,.int .i64 0,.slice none 0 0,.slice none 0 0,.int .i64 0,.int .i64 0] 36)=X:=⟨_,rfl⟩
  have hb2:Below W1.heap.size W1 V0:=hV0▸(Below.refl _ _).alloc (Nat.le_refl _) _
  have hs2:V0.heap.size=w.heap.size+4:=by rw [←hV0];simp;omega
  have hbb:=hb1.trans (hb2.mono hb1.size)
  have t3:V0.there (w.heap.size+2) 0 23:=there_upB (B:=W1.heap.size) (hz▸hW1▸there_new W #[.int .i64 0,.string ⟨#[]⟩,.slice none 0 0,.slice none 0 0,.slice none 0 0,.string ⟨#[]⟩,.slice none 0 0,.string ⟨#[]⟩,.slice none 0 0,.slice none 0 0,.string ⟨#[]⟩,.slice none 0 0,.int .i64 0,.int .i64 0,.int .i64 0,.string ⟨#[]⟩,.string ⟨#[]⟩,.slice none 0 0,.int .i64 0,.slice none 0 0,.slice none 0 0,.int .i64 0,.int .i64 0] 36) (by omega) hb2
  have t4:V0.there (w.heap.size+3) 0 23:=hs1▸hV0▸there_new W1 #[.int .i64 0,.string ⟨#[]⟩,.slice none 0 0,.slice none 0 0,.slice none 0 0,.string ⟨#[]⟩,.slice none 0 0,.string ⟨#[]⟩,.slice none 0 0,.slice none 0 0,.string ⟨#[]⟩,.slice none 0 0,.int .i64 0,.int .i64 0,.int .i64 0,.string ⟨#[]⟩,.string ⟨#[]⟩,.slice none 0 0,.int .i64 0,.slice none 0 0,.slice none 0 0,.int .i64 0,.int .i64 0] 36
  have T4:=hid (show (W1.alloc (.cells #[.int .i64 0,.string ⟨#[]⟩,.slice none 0 0,.slice none 0 0,.slice none 0 0,.string ⟨#[]⟩,.slice none 0 0,.string ⟨#[]⟩,.slice none 0 0,.slice none 0 0,.string ⟨#[]⟩,.slice none 0 0,.int .i64 0,.int .i64 0,.int .i64 0,.string ⟨#[]⟩,.string ⟨#[]⟩,.slice none 0 0,.int .i64 0,.slice none 0 0,.slice none 0 0,.int .i64 0,.int .i64 0] 36)).there W1.heap.size 0 23 from there_new W1 #[.int .i64 0,.string ⟨#[]⟩,.slice none 0 0,.slice none 0 0,.slice none 0 0,.string ⟨#[]⟩,.slice none 0 0,.string ⟨#[]⟩,.slice none 0 0,.slice none 0 0,.string ⟨#[]⟩,.slice none 0 0,.int .i64 0,.int .i64 0,.int .i64 0,.string ⟨#[]⟩,.string ⟨#[]⟩,.slice none 0 0,.int .i64 0,.slice none 0 0,.slice none 0 0,.int .i64 0,.int .i64 0] 36)
  have hKV0:Pz w V0 23 [.slice A n cap,.int .i64 (p:Int),.bool b] [.int .i64 0,.string ⟨#[]⟩,.slice none 0 0,.slice none 0 0,.slice none 0 0,.string ⟨#[]⟩,.slice none 0 0,.string ⟨#[]⟩,.slice none 0 0,.slice none 0 0,.string ⟨#[]⟩,.slice none 0 0,.int .i64 0,.int .i64 0,.int .i64 0,.string ⟨#[]⟩,.string ⟨#[]⟩,.slice none 0 0,.int .i64 0,.slice none 0 0,.slice none 0 0,.int .i64 0,.int .i64 0]:=⟨⟨hb.trans (hbb.mono hb.size),by simp;omega,fun j u hu=>(hbb.cell (p:=⟨w.heap.size,j,none⟩) (by show w.heap.size<W.heap.size;omega)).trans (hbx j u hu),there_upB ht1 (by omega) hbb,fun i z hi=>by
    match i,hi with
    | 0,hi=>obtain rfl:=Option.some.inj hi;exact there_upB ht2 (by omega) hbb
    | 1,hi=>obtain rfl:=Option.some.inj hi;exact t3
    | i+2,hi=>simp at hi,rfl⟩,hs1▸hV0▸Boxd.new W1 #[.int .i64 0,.string ⟨#[]⟩,.slice none 0 0,.slice none 0 0,.slice none 0 0,.string ⟨#[]⟩,.slice none 0 0,.string ⟨#[]⟩,.slice none 0 0,.slice none 0 0,.string ⟨#[]⟩,.slice none 0 0,.int .i64 0,.int .i64 0,.int .i64 0,.string ⟨#[]⟩,.string ⟨#[]⟩,.slice none 0 0,.int .i64 0,.slice none 0 0,.slice none 0 0,.int .i64 0,.int .i64 0] 36,t4,rfl,by omega⟩
  obtain ⟨V,hV⟩:∃ X,V0.setCells (w.heap.size+3) 0 [.int .i64 1,.string ⟨#[]⟩,.slice none 0 0,.slice none 0 0,.slice none 0 0,.string ⟨#[]⟩,.slice none 0 0,.string ⟨#[]⟩,.slice none 0 0,.slice none 0 0,.string ⟨#[]⟩,.slice none 0 0,.int .i64 0,.int .i64 0,.int .i64 0,.string ⟨#[]⟩,.string ⟨#[]⟩,.slice none 0 0,.int .i64 0,.slice none 0 0,.slice none 0 0,.int .i64 0,.int .i64 0]=X:=⟨_,rfl⟩
  have HKV:=hid (show Pz w V 23 [.slice A n cap,.int .i64 (p:Int),.bool b] [.int .i64 1,.string ⟨#[]⟩,.slice none 0 0,.slice none 0 0,.slice none 0 0,.string ⟨#[]⟩,.slice none 0 0,.string ⟨#[]⟩,.slice none 0 0,.slice none 0 0,.string ⟨#[]⟩,.slice none 0 0,.int .i64 0,.int .i64 0,.int .i64 0,.string ⟨#[]⟩,.string ⟨#[]⟩,.slice none 0 0,.int .i64 0,.slice none 0 0,.slice none 0 0,.int .i64 0,.int .i64 0] from hV▸hKV0.whole [.int .i64 1,.string ⟨#[]⟩,.slice none 0 0,.slice none 0 0,.slice none 0 0,.string ⟨#[]⟩,.slice none 0 0,.string ⟨#[]⟩,.slice none 0 0,.slice none 0 0,.string ⟨#[]⟩,.slice none 0 0,.int .i64 0,.int .i64 0,.int .i64 0,.string ⟨#[]⟩,.string ⟨#[]⟩,.slice none 0 0,.int .i64 0,.slice none 0 0,.slice none 0 0,.int .i64 0,.int .i64 0] rfl)
  have HW:=hid hW
  have HW1:=hid hW1
  have HV0:=hid hV0
  have HV:=hid hV
  have HS1:=hid hs1
  have O4:=hid (show ∀ u∈([.int .i64 1,.string ⟨#[]⟩,.slice none 0 0,.slice none 0 0,.slice none 0 0,.string ⟨#[]⟩,.slice none 0 0,.string ⟨#[]⟩,.slice none 0 0,.slice none 0 0,.string ⟨#[]⟩,.slice none 0 0,.int .i64 0,.int .i64 0,.int .i64 0,.string ⟨#[]⟩,.string ⟨#[]⟩,.slice none 0 0,.int .i64 0,.slice none 0 0,.slice none 0 0,.int .i64 0,.int .i64 0]:List Value),u.oneCell'=true from fun u hu=>by simp only [List.mem_cons,List.not_mem_nil,or_false] at hu;rcases hu with rfl | rfl | rfl | rfl | rfl | rfl | rfl | rfl | rfl | rfl | rfl | rfl | rfl | rfl | rfl | rfl | rfl | rfl | rfl | rfl | rfl | rfl | rfl<;>rfl)
  have HP0:=hid h
  clear h hW hb hz hbx ht1 ht2 hW1 hV0 hV hb1 hb2 hs1 hs2 hbb t3 t4 hKV0
  go_enter Tryz.func18,Tryz.ntmps18
  go_upto_region 1 with fail
  rw [HW.out,HW1.out]
  go_upto_region 2 with (refine storeOp flatDc 4 7 (b:=W1.heap.size) (o:=0) (us:=[.int .i64 1,.string ⟨#[]⟩,.slice none 0 0,.slice none 0 0,.slice none 0 0,.string ⟨#[]⟩,.slice none 0 0,.string ⟨#[]⟩,.slice none 0 0,.slice none 0 0,.string ⟨#[]⟩,.slice none 0 0,.int .i64 0,.int .i64 0,.int .i64 0,.string ⟨#[]⟩,.string ⟨#[]⟩,.slice none 0 0,.int .i64 0,.slice none 0 0,.slice none 0 0,.int .i64 0,.int .i64 0]) rfl rfl T4.out O4.out rfl ?_)
  rw [HV0.out,HS1.out,HV.out]
  clear T4 O4
  have KV:=HKV
  obtain ⟨x0,x1,x2,-⟩:=KV.out.pk.three
  have C2:=hid (show Calls Tryz.prog 52 #[.agg #[.slice A n cap,.int .i64 (p:Int),.bool b],.string ⟨#[116,121,112,101]⟩] V (RMustPost A n cap L l b wType V) from rmust_any A n cap p L l b ⟨#[116,121,112,101]⟩ V (HP0.out.later KV.out.pk.bel))
  go_wp2_with fail
  refine C2.out.mono ?_
  rintro e w2 ⟨p2,b2,rfl,hra,hb⟩
  have KC:=KV.out.later hb
  obtain ⟨V2,hV⟩:∃ X,w2.setCells w.heap.size 0 [.slice A n cap,.int .i64 (p2:Int),.bool b2]=X:=⟨_,rfl⟩
  have KV2:=hid (show Pz w V2 23 [.slice A n cap,.int .i64 (p2:Int),.bool b2] [.int .i64 1,.string ⟨#[]⟩,.slice none 0 0,.slice none 0 0,.slice none 0 0,.string ⟨#[]⟩,.slice none 0 0,.string ⟨#[]⟩,.slice none 0 0,.slice none 0 0,.string ⟨#[]⟩,.slice none 0 0,.int .i64 0,.int .i64 0,.int .i64 0,.string ⟨#[]⟩,.string ⟨#[]⟩,.slice none 0 0,.int .i64 0,.slice none 0 0,.slice none 0 0,.int .i64 0,.int .i64 0] from hV▸(KC.place [.slice A n cap,.int .i64 (p2:Int),.bool b2] rfl))
  have d2:Dk (w.heap.size+4) w2 V2:=hV▸dk_gb (gb_sets1 w2 w.heap.size 0 [.slice A n cap,.int .i64 (p2:Int),.bool b2]) (by omega)
  have D2V2:=hid d2
  have D1V2:=hid ((dk_below hb).trans d2)
  have HV2:=hid (show ((w2.setCell ⟨w.heap.size,0,none⟩ (.slice A n cap)).setCell ⟨w.heap.size,1,none⟩ (.int .i64 (p2:Int))).setCell ⟨w.heap.size,2,none⟩ (.bool b2)=V2 from hV)
  obtain ⟨q2,hq1,hq2,hq3⟩:=raft_step (Less.ends (must_less wType l)) hra (fun _ q=>typeDeclR q)
  have HQ2:=hid (HP0.out.move hq1 (Below.refl _ _))
  have HL2:=hid hq2
  have HB2:=hid (raft_false hra)
  have E2:=hid (show stop b l (typedR l)=stop b2 q2 (typeDeclR q2) from hq3)
  obtain ⟨y0,y1,y2,f0,f1,f2⟩:=KC.pk.three
  clear hra hb KC d2 hV hq1 hq2 hq3 C2 x0 x1 x2
  go_upto_region 3 with fail
  rw [HV2.out]
  clear y0 y1 y2 f0 f1 f2 
  obtain ⟨x0,x1,x2,-⟩:=KV2.out.pk.three
  have C3:=hid (rname_any A n cap p2 L q2 b2 V2 (HQ2.out.later KV2.out.pk.bel))
  go_wp2_with fail
  refine C3.out.mono ?_
  rintro e w3 ⟨nm,p3,b3,rfl,hzn,hra,hb,-⟩
  rw [show (plV A n cap p3 b3).toArray=#[.slice A n cap,.int .i64 p3,.bool b3] from rfl]
  have KC:=KV2.out.later hb
  obtain ⟨V3,hV⟩:∃ X,((w3.setCells w.heap.size 0 [.slice A n cap,.int .i64 (p3:Int),.bool b3]).setCell ⟨w.heap.size+3,1,none⟩ (.string nm.s)).setCell ⟨w.heap.size+3,22,none⟩ (.int .i64 nm.o)=X:=⟨_,rfl⟩
  have KV3:=hid (show Pz w V3 23 [.slice A n cap,.int .i64 (p3:Int),.bool b3] [.int .i64 1,.string nm.s,.slice none 0 0,.slice none 0 0,.slice none 0 0,.string ⟨#[]⟩,.slice none 0 0,.string ⟨#[]⟩,.slice none 0 0,.slice none 0 0,.string ⟨#[]⟩,.slice none 0 0,.int .i64 0,.int .i64 0,.int .i64 0,.string ⟨#[]⟩,.string ⟨#[]⟩,.slice none 0 0,.int .i64 0,.slice none 0 0,.slice none 0 0,.int .i64 0,.int .i64 nm.o] from hV▸(((KC.place [.slice A n cap,.int .i64 (p3:Int),.bool b3] rfl).field 1 (by decide) (.string nm.s)).field 22 (by decide) (.int .i64 nm.o)))
  have d2:Dk (w.heap.size+4) w3 V3:=hV▸((dk_gb (gb_sets1 w3 w.heap.size 0 [.slice A n cap,.int .i64 (p3:Int),.bool b3]) (by omega)).trans (dk_gb (gb_set (w3.setCells w.heap.size 0 [.slice A n cap,.int .i64 (p3:Int),.bool b3]) (w.heap.size+3) 1 (.string nm.s)) (by omega))).trans (dk_gb (gb_set ((w3.setCells w.heap.size 0 [.slice A n cap,.int .i64 (p3:Int),.bool b3]).setCell ⟨w.heap.size+3,1,none⟩ (.string nm.s)) (w.heap.size+3) 22 (.int .i64 nm.o)) (by omega))
  have D2V3:=hid d2
  have D1V3:=hid ((dk_below hb).trans d2)
  have HV3:=hid (show ((((w3.setCell ⟨w.heap.size,0,none⟩ (.slice A n cap)).setCell ⟨w.heap.size,1,none⟩ (.int .i64 (p3:Int))).setCell ⟨w.heap.size,2,none⟩ (.bool b3)).setCell ⟨w.heap.size+3,1,none⟩ (.string nm.s)).setCell ⟨w.heap.size+3,22,none⟩ (.int .i64 nm.o)=V3 from hV)
  obtain ⟨q3,hq1,hq2,hq3⟩:=raft_step (Less.ends (name_less q2)) hra (fun t q=>Got.bind (bracketsG foF q) fun fs q=>Got.bind (bodyR q) fun d q=>Got.bind (must [59] q) fun _ q=>.ok { d with name:=t.s,off:=t.o,fs:=fs } q)
  have HQ3:=hid (HP0.out.move hq1 (Below.refl _ _))
  have E3:=hid (E2.out.trans hq3)
  have HNM:=hid (show nm.s.size≤9223372036854775807 by have:=hzn;omega)
  obtain ⟨y0,y1,y2,f0,f1,f2⟩:=KC.pk.three
  have z1:=KC.box 1 _ rfl
  have g1:w3.frozen? ⟨w.heap.size+3,1,none⟩=false:=by have:=(KC.own 1 (by decide)).2;rwa [Nat.zero_add] at this
  have z22:=KC.box 22 _ rfl
  have g22:w3.frozen? ⟨w.heap.size+3,22,none⟩=false:=by have:=(KC.own 22 (by decide)).2;rwa [Nat.zero_add] at this
  clear hzn hra hb KC d2 hV hq1 hq2 hq3 C3 x0 x1 x2
  go_upto_region 4 with fail
  rw [HV3.out]
  clear y0 y1 y2 f0 f1 f2 z1 g1 z22 g22
  obtain ⟨x0,x1,x2,-⟩:=KV3.out.pk.three
  have C4:=hid (rformals_any8 A n cap p3 L q3 b3 V3 (HQ3.out.later KV3.out.pk.bel))
  go_wp2_with fail
  refine C4.out.mono ?_
  rintro e w4 ⟨fs,F,cf,p4,b4,rfl,hrow,hlen,hra,hb⟩
  have KC:=KV3.out.later hb
  obtain ⟨V4,hV⟩:∃ X,(w4.setCells w.heap.size 0 [.slice A n cap,.int .i64 (p4:Int),.bool b4]).setCell ⟨w.heap.size+3,2,none⟩ (.slice F fs.length cf)=X:=⟨_,rfl⟩
  have KV4:=hid (show Pz w V4 23 [.slice A n cap,.int .i64 (p4:Int),.bool b4] [.int .i64 1,.string nm.s,.slice F fs.length cf,.slice none 0 0,.slice none 0 0,.string ⟨#[]⟩,.slice none 0 0,.string ⟨#[]⟩,.slice none 0 0,.slice none 0 0,.string ⟨#[]⟩,.slice none 0 0,.int .i64 0,.int .i64 0,.int .i64 0,.string ⟨#[]⟩,.string ⟨#[]⟩,.slice none 0 0,.int .i64 0,.slice none 0 0,.slice none 0 0,.int .i64 0,.int .i64 nm.o] from hV▸((KC.place [.slice A n cap,.int .i64 (p4:Int),.bool b4] rfl).field 2 (by decide) (.slice F fs.length cf)))
  have d2:Dk (w.heap.size+4) w4 V4:=hV▸(dk_gb (gb_sets1 w4 w.heap.size 0 [.slice A n cap,.int .i64 (p4:Int),.bool b4]) (by omega)).trans (dk_gb (gb_set (w4.setCells w.heap.size 0 [.slice A n cap,.int .i64 (p4:Int),.bool b4]) (w.heap.size+3) 2 (.slice F fs.length cf)) (by omega))
  have D2V4:=hid d2
  have D1V4:=hid ((dk_below hb).trans d2)
  have HV4:=hid (show (((w4.setCell ⟨w.heap.size,0,none⟩ (.slice A n cap)).setCell ⟨w.heap.size,1,none⟩ (.int .i64 (p4:Int))).setCell ⟨w.heap.size,2,none⟩ (.bool b4)).setCell ⟨w.heap.size+3,2,none⟩ (.slice F fs.length cf)=V4 from hV)
  have HFS:=hid (show Row V4 False (Fr (w.heap.size+4) V4) 5 F fs.length (fs.map Fo.dat) from d2.row KV3.out.big hrow)
  obtain ⟨q4,hq1,hq2,hq3⟩:=raft_step (bracketsG_ends foF_less q3) hra (fun fs q=>Got.bind (bodyR q) fun d q=>Got.bind (must [59] q) fun _ q=>.ok { d with name:=nm.s,off:=nm.o,fs:=fs } q)
  have HQ4:=hid (HP0.out.move hq1 (Below.refl _ _))
  have E4:=hid (show stop b l (typedR l)=stop b4 q4 (Got.bind (bodyR q4) fun d q=>Got.bind (must [59] q) fun _ q=>.ok { d with name:=nm.s,off:=nm.o,fs:=fs } q) from E3.out.trans hq3)
  obtain ⟨y0,y1,y2,f0,f1,f2⟩:=KC.pk.three
  have z2:=KC.box 2 _ rfl
  have g2:w4.frozen? ⟨w.heap.size+3,2,none⟩=false:=by have:=(KC.own 2 (by decide)).2;rwa [Nat.zero_add] at this
  clear hrow hlen hra hb KC d2 hV hq1 hq2 hq3 C4 x0 x1 x2
  go_upto_region 5 with fail
  rw [HV4.out]
  clear y0 y1 y2 f0 f1 f2 z2 g2
  have C5:=hid (show Calls Tryz.prog 16 #[.agg #[.slice A n cap,.int .i64 (p4:Int),.bool b4],.string ⟨#[105,110,116,101,114,102,97,99,101]⟩] V4 (BoolPost (nextB b4 wInter q4) V4) from ris_any A n cap p4 L q4 b4 ⟨#[105,110,116,101,114,102,97,99,101]⟩ V4 (HQ4.out.later KV4.out.pk.bel))
  go_cut [25] from 24 to 25 (fun s25 wx=>s25=.bool (nextB b4 wInter q4)∧Below V4.heap.size V4 wx)
  case first =>
    obtain ⟨x0,x1,x2,-⟩:=KV4.out.pk.three
    go_wp2_with fail
    refine C5.out.mono ?_
    rintro e w5 ⟨rfl,hb⟩
    have HB:=hid hb
    clear hb C5 x0 x1 x2
    go_wp2_with fail
    go_meet
    exact ⟨rfl,HB.out⟩
  obtain ⟨rfl,hb⟩:=hcut
  have K5:=hid (KV4.out.later hb)
  have HFS5:=hid ((dk_below hb).row (Nat.le_refl _) HFS.out)
  obtain ⟨cc,hcc⟩:∃ c,nextB b4 wInter q4=c:=⟨_,rfl⟩
  rw [hcc]
  have HCC:=hid hcc
  clear hcc hb C5
  go_upto_if 25 with fail
  go_cut [26] from 26 to 32 (fun _ wx=>∃ kd q p b',TyRel w wx A n cap L nm fs F cf kd q p b'∧((kd=1∧stop b l (typedR l)=stop b' q (Got.bind (blockG foF q) fun ms q=>Got.bind (must [59] q) fun _ q=>.ok ({ dcStruct ms with name:=nm.s,off:=nm.o,fs:=fs }:Dc) q))∨(kd=2∧stop b l (typedR l)=stop b' q (Got.bind (blockG sgF q) fun gs q=>Got.bind (must [59] q) fun _ q=>.ok ({ dcInter gs with name:=nm.s,off:=nm.o,fs:=fs }:Dc) q))))
  case first =>
   have hx:=HCC.out
   cases cc
   · have HX:=hid hx
     have KW:=K5
     obtain ⟨wd,hwd⟩:∃ X,X=wc:=⟨_,rfl⟩
     obtain ⟨x0,x1,x2,-⟩:=K5.out.pk.three
     have C7:=hid (show Calls Tryz.prog 52 #[.agg #[.slice A n cap,.int .i64 (p4:Int),.bool b4],.string ⟨#[115,116,114,117,99,116]⟩] wc (RMustPost A n cap L q4 b4 wStruct wc) from rmust_any A n cap p4 L q4 b4 ⟨#[115,116,114,117,99,116]⟩ wc (HQ4.out.later K5.out.pk.bel))
     clear hx hwd
     go_wp2_with fail
     refine C7.out.mono ?_
     rintro e w7 ⟨p7,b7,rfl,hra,hb⟩
     have KC:=K5.out.later hb
     obtain ⟨V7,hV⟩:∃ X,w7.setCells w.heap.size 0 [.slice A n cap,.int .i64 (p7:Int),.bool b7]=X:=⟨_,rfl⟩
     have KV7:=hid (show Pz w V7 23 [.slice A n cap,.int .i64 (p7:Int),.bool b7] [.int .i64 1,.string nm.s,.slice F fs.length cf,.slice none 0 0,.slice none 0 0,.string ⟨#[]⟩,.slice none 0 0,.string ⟨#[]⟩,.slice none 0 0,.slice none 0 0,.string ⟨#[]⟩,.slice none 0 0,.int .i64 0,.int .i64 0,.int .i64 0,.string ⟨#[]⟩,.string ⟨#[]⟩,.slice none 0 0,.int .i64 0,.slice none 0 0,.slice none 0 0,.int .i64 0,.int .i64 nm.o] from hV▸(KC.place [.slice A n cap,.int .i64 (p7:Int),.bool b7] rfl))
     have d2:Dk (w.heap.size+4) w7 V7:=hV▸dk_gb (gb_sets1 w7 w.heap.size 0 [.slice A n cap,.int .i64 (p7:Int),.bool b7]) (by omega)
     have D2V7:=hid d2
     have D1V7:=hid ((dk_below hb).trans d2)
     have HV7:=hid (show ((w7.setCell ⟨w.heap.size,0,none⟩ (.slice A n cap)).setCell ⟨w.heap.size,1,none⟩ (.int .i64 (p7:Int))).setCell ⟨w.heap.size,2,none⟩ (.bool b7)=V7 from hV)
     obtain ⟨q7,hq1,hq2,hq3⟩:=raft_step (Less.ends (must_less wStruct q4)) hra (fun _ q=>Got.bind (blockG foF q) fun ms q=>Got.bind (must [59] q) fun _ q=>.ok ({ dcStruct ms with name:=nm.s,off:=nm.o,fs:=fs }:Dc) q)
     have HQ7:=hid (HP0.out.move hq1 (Below.refl _ _))
     have E7:=hid (show stop b l (typedR l)=stop b7 q7 (Got.bind (blockG foF q7) fun ms q=>Got.bind (must [59] q) fun _ q=>.ok ({ dcStruct ms with name:=nm.s,off:=nm.o,fs:=fs }:Dc) q) from E4.out.trans ((by
       cases b4
       · have hi:isT wInter q4=false:=by simpa [nextB] using HX.out
         rw [bodyR,hi,if_neg (by decide)]
         unfold structF
         rw [bind_bind]
         refine congrArg _ (congrArg _ (funext fun _=>funext fun q=>?_))
         rw [bind_bind]
         rfl
       rfl:stop b4 q4 (Got.bind (bodyR q4) (fun d q=>Got.bind (must [59] q) fun _ q=>.ok { d with name:=nm.s,off:=nm.o,fs:=fs } q))=stop b4 q4 (Got.bind (must wStruct q4) (fun _ q=>Got.bind (blockG foF q) fun ms q=>Got.bind (must [59] q) fun _ q=>.ok ({ dcStruct ms with name:=nm.s,off:=nm.o,fs:=fs }:Dc) q))).trans hq3))
     obtain ⟨y0,y1,y2,f0,f1,f2⟩:=KC.pk.three
     clear hra hb KC d2 hV hq1 hq2 hq3 C7 x0 x1 x2
     go_wp2_with fail
     go_meet
     rw [HV7.out]
     exact ⟨1,q7,p7,b7,⟨KV7.out,D1V7.out.row (Nat.le_refl _) HFS5.out,HQ7.out⟩,.inl ⟨rfl,E7.out⟩⟩
   have HX:=hid hx
   obtain ⟨rfl,hi⟩:=nextB_cons hx
   have HI:=hid hi
   obtain ⟨t1,r1,rfl,hk1,-⟩:=isT_cons hi
   have HPS:=hid (HQ4.out.step hk1)
   obtain ⟨V6,hV6⟩:∃ X,wc.setCell ⟨w.heap.size+3,0,none⟩ (.int .i64 2)=X:=⟨_,rfl⟩
   have K6:=hid (show Pz w V6 23 [.slice A n cap,.int .i64 (p4:Int),.bool false] [.int .i64 2,.string nm.s,.slice F fs.length cf,.slice none 0 0,.slice none 0 0,.string ⟨#[]⟩,.slice none 0 0,.string ⟨#[]⟩,.slice none 0 0,.slice none 0 0,.string ⟨#[]⟩,.slice none 0 0,.int .i64 0,.int .i64 0,.int .i64 0,.string ⟨#[]⟩,.string ⟨#[]⟩,.slice none 0 0,.int .i64 0,.slice none 0 0,.slice none 0 0,.int .i64 0,.int .i64 nm.o] from hV6▸K5.out.field 0 (by decide) (.int .i64 2))
   have D6:=hid (show Dk (w.heap.size+4) wc V6 from hV6▸dk_gb (gb_set wc (w.heap.size+3) 0 (.int .i64 2)) (by omega))
   have HV6:=hid hV6
   have z0:=K5.out.box 0 _ rfl
   have g0:wc.frozen? ⟨w.heap.size+3,0,none⟩=false:=by have:=(K5.out.own 0 (by decide)).2;rwa [Nat.zero_add] at this
   have yp:(p4:Int)≤100000:=by have:=HQ4.out.lt;have:=HQ4.out.len;omega
   have yp0:(0:Int)≤p4:=by omega
   clear hx hi hk1 hV6
   go_upto_region 7 with fail
   rw [HV6.out]
   clear z0 g0
   obtain ⟨x0,x1,x2,f0,f1,f2⟩:=K6.out.pk.three
   go_wp2_with fail
   go_meet
   have d:=D6.out.trans (dk_gb (lo:=w.heap.size+4) (gb_set V6 w.heap.size 1 (.int .i64 ((p4:Int)+1))) (by omega))
   refine ⟨2,r1,p4+1,false,⟨K6.out.placeAt 1 (by omega) (.int .i64 ((p4:Int)+1)),d.row (Nat.le_refl _) HFS5.out,HPS.out⟩,.inr ⟨rfl,?_⟩⟩
   rw [E4.out,bodyR,HI.out,if_pos rfl]
   unfold interF
   show stop false _ (Got.bind (Got.bind (blockG sgF r1) _) _)=_
   rw [bind_bind]
   rfl
  obtain ⟨kd,q5,p5,b5,hrel0,hkd⟩:=hcut
  have HREL:=hid hrel0
  clear hrel0 K5 HFS5 KV4 HFS HQ4 E4 E3 E2 HCC
  rcases hkd with ⟨rfl,he⟩ | ⟨rfl,he⟩
  · have E5:=hid he
    have Kwc:=hid HREL.out.pz
    have HQ5:=hid HREL.out.pl
    have HF5:=hid HREL.out.fs
    clear he HREL
    obtain ⟨x0,x1,x2,-⟩:=Kwc.out.pk.three
    have C9:=hid (show Calls Tryz.prog 52 #[.agg #[.slice A n cap,.int .i64 (p5:Int),.bool b5],.string ⟨#[123]⟩] wc (RMustPost A n cap L q5 b5 [123] wc) from rmust_any A n cap p5 L q5 b5 ⟨#[123]⟩ wc (HQ5.out.later Kwc.out.pk.bel))
    go_wp2_with fail
    refine C9.out.mono ?_
    rintro e w9 ⟨p9,b9,rfl,hra,hb⟩
    have KC:=Kwc.out.later hb
    obtain ⟨V9,hV⟩:∃ X,w9.setCells w.heap.size 0 [.slice A n cap,.int .i64 (p9:Int),.bool b9]=X:=⟨_,rfl⟩
    have KV9:=hid (show Pz w V9 23 [.slice A n cap,.int .i64 (p9:Int),.bool b9] [.int .i64 1,.string nm.s,.slice F fs.length cf,.slice none 0 0,.slice none 0 0,.string ⟨#[]⟩,.slice none 0 0,.string ⟨#[]⟩,.slice none 0 0,.slice none 0 0,.string ⟨#[]⟩,.slice none 0 0,.int .i64 0,.int .i64 0,.int .i64 0,.string ⟨#[]⟩,.string ⟨#[]⟩,.slice none 0 0,.int .i64 0,.slice none 0 0,.slice none 0 0,.int .i64 0,.int .i64 nm.o] from hV▸(KC.place [.slice A n cap,.int .i64 (p9:Int),.bool b9] rfl))
    have d2:Dk (w.heap.size+4) w9 V9:=hV▸dk_gb (gb_sets1 w9 w.heap.size 0 [.slice A n cap,.int .i64 (p9:Int),.bool b9]) (by omega)
    have D2V9:=hid d2
    have D1V9:=hid ((dk_below hb).trans d2)
    have HV9:=hid (show ((w9.setCell ⟨w.heap.size,0,none⟩ (.slice A n cap)).setCell ⟨w.heap.size,1,none⟩ (.int .i64 (p9:Int))).setCell ⟨w.heap.size,2,none⟩ (.bool b9)=V9 from hV)
    obtain ⟨q9,hq1,hq2,hq3⟩:=raft_step (Less.ends (must_less [123] q5)) hra (fun _ q=>Got.bind (itemsG foF (q.length+1) [] q) (fun ms q=>Got.bind (must [59] q) fun _ q=>.ok ({ dcStruct ms with name:=nm.s,off:=nm.o,fs:=fs }:Dc) q))
    have HQ9:=hid (HP0.out.move hq1 (Below.refl _ _))
    have HL9:=hid hq2
    have HB9:=hid (raft_false hra)
    have E9:=hid (show stop b l (typedR l)=stop b9 q9 (Got.bind (itemsG foF (q9.length+1) [] q9) (fun ms q=>Got.bind (must [59] q) fun _ q=>.ok ({ dcStruct ms with name:=nm.s,off:=nm.o,fs:=fs }:Dc) q)) from E5.out.trans <| (by rw [blockG,bind_bind]:stop b5 q5 (Got.bind (blockG foF q5) (fun ms q=>Got.bind (must [59] q) fun _ q=>.ok ({ dcStruct ms with name:=nm.s,off:=nm.o,fs:=fs }:Dc) q))=stop b5 q5 (Got.bind (must [123] q5) fun _ q=>Got.bind (itemsG foF (q.length+1) [] q) (fun ms q=>Got.bind (must [59] q) fun _ q=>.ok ({ dcStruct ms with name:=nm.s,off:=nm.o,fs:=fs }:Dc) q))).trans hq3)
    obtain ⟨y0,y1,y2,f0,f1,f2⟩:=KC.pk.three
    clear hra hb KC d2 hV hq1 hq2 hq3 C9 x0 x1 x2
    go_wp2_with fail
    skip
    skip
    have HF9:=hid (D1V9.out.row (Nat.le_refl _) HF5.out)
    rw [HV9.out]
    clear y0 y1 y2 f0 f1 f2 HF5 HQ5 E5 Kwc HV9 D2V9
    obtain ⟨lo,hlo⟩:∃ x,V9.heap.size=x:=⟨_,rfl⟩
    have HLO:=hid hlo
    have hlo4:w.heap.size+4≤lo:=hlo▸KV9.out.big
    clear hlo
    obtain ⟨i0,hi0,hz0,hz1,hz2⟩:=info_parts infoPaR
    go_loopw [] (fun wr=>∃ (v:Value) (acc:List Fo) (q:List Tk) (p':Nat) (b':Bool) (k:Nat),LpS w wr lo A n cap L nm fs F cf v acc q p' b'∧(b'=false→q.length<k)∧stop b l (typedR l)=stop b' q (Got.bind (itemsG foF k acc q) (fun ms q=>Got.bind (must [59] q) fun _ q=>.ok ({ dcStruct ms with name:=nm.s,off:=nm.o,fs:=fs }:Dc) q))) (fun wr=>200000-lenOf ((wr.cell? ⟨w.heap.size+3,3,none⟩).getD undef))
    case atStart=>exact ⟨.slice none 0 0,[],q9,p9,b9,q9.length+1,⟨KV9.out,HLO.out▸HF9.out,HQ9.out,Built.nil _ _ _ _ _,⟨hlo4,by rw [HLO.out];exact Nat.le_refl _⟩,fun _=>by have:=pl_len HQ9.out;simp;omega,by simp⟩,fun _=>Nat.lt_succ_self _,E9.out⟩
    obtain ⟨v,acc,q,p6,b6,k0,hr,hk,he⟩:=hrel
    obtain ⟨B,kc,hv,-⟩:=hr.row.row (by omega) (by have:=hr.few.2;omega)
    subst hv
    have HR:=hid hr
    have HK:=hid hk
    have HE:=hid he
    have KR:=hid hr.pz
    have hfew:=hr.few.2
    have hbig:=hr.big.2
    clear hr hk he KV9 HF9 HQ9 E9 HL9 HB9 D1V9 HLO
    go_upto_region 10 with fail
    go_cut [42] from 35 to 42 (fun s42 wx=>s42=.bool (!b6&&!isT [125] q)∧Below wr.heap.size wr wx)
    case first =>
      obtain ⟨x0,x1,x2,-⟩:=KR.out.pk.three
      cases b6
      · have C1:=hid (show Calls Tryz.prog 16 #[.agg #[.slice A n cap,.int .i64 (p6:Int),.bool false],.string ⟨#[125]⟩] wr (BoolPost (nextB false [125] q) wr) from ris_any A n cap p6 L q false ⟨#[125]⟩ wr (HR.out.pl.later KR.out.pk.bel))
        go_wp2_with fail
        refine C1.out.mono ?_
        rintro e w1 ⟨rfl,hb⟩
        have HB:=hid hb
        clear hb C1 x0 x1 x2
        go_wp2_with fail
        go_meet
        exact ⟨by simp [nextB],HB.out⟩
      go_wp2_with fail
      go_meet
      exact ⟨rfl,Below.refl _ _⟩
    obtain ⟨rfl,hb⟩:=hcut
    have Kwc:=hid (KR.out.later hb)
    have HFc:=hid (row_on HR.out.fs fun i h1 h2=>hb.block i (Nat.lt_of_lt_of_le h2 hbig))
    have RWc:=hid (show Built wc False _ _ lo _ _ _ from HR.out.row.later hb)
    have hbigc:=Nat.le_trans hbig hb.size
    have HQR:=hid HR.out.pl
    obtain ⟨cc,hcc⟩:∃ c,(!b6&&!isT [125] q)=c:=⟨_,rfl⟩
    rw [hcc]
    have HCC:=hid hcc
    clear hcc hb KR
    go_upto_if 42 with fail
    cases cc
    · have HEX:=hid (items_end (item:=foF) (acc:=acc) (F:=fun ms q=>Got.bind (must [59] q) fun _ q=>.ok ({ dcStruct ms with name:=nm.s,off:=nm.o,fs:=fs }:Dc) q) HK.out HCC.out)
      obtain ⟨x0,x1,x2,-⟩:=Kwc.out.pk.three
      have C10:=hid (show Calls Tryz.prog 52 #[.agg #[.slice A n cap,.int .i64 (p6:Int),.bool b6],.string ⟨#[125]⟩] wc (RMustPost A n cap L q b6 [125] wc) from rmust_any A n cap p6 L q b6 ⟨#[125]⟩ wc (HQR.out.later Kwc.out.pk.bel))
      go_wp2_with fail
      refine C10.out.mono ?_
      rintro e w10 ⟨p10,b10,rfl,hra,hb⟩
      have KC:=Kwc.out.later hb
      obtain ⟨V10,hV⟩:∃ X,w10.setCells w.heap.size 0 [.slice A n cap,.int .i64 (p10:Int),.bool b10]=X:=⟨_,rfl⟩
      have KV10:=hid (show Pz w V10 23 [.slice A n cap,.int .i64 (p10:Int),.bool b10] [.int .i64 1,.string nm.s,.slice F fs.length cf,.slice B acc.length kc,.slice none 0 0,.string ⟨#[]⟩,.slice none 0 0,.string ⟨#[]⟩,.slice none 0 0,.slice none 0 0,.string ⟨#[]⟩,.slice none 0 0,.int .i64 0,.int .i64 0,.int .i64 0,.string ⟨#[]⟩,.string ⟨#[]⟩,.slice none 0 0,.int .i64 0,.slice none 0 0,.slice none 0 0,.int .i64 0,.int .i64 nm.o] from hV▸(KC.place [.slice A n cap,.int .i64 (p10:Int),.bool b10] rfl))
      have d2:Dk (w.heap.size+4) w10 V10:=hV▸dk_gb (gb_sets1 w10 w.heap.size 0 [.slice A n cap,.int .i64 (p10:Int),.bool b10]) (by omega)
      have D2V10:=hid d2
      have D1V10:=hid ((dk_below hb).trans d2)
      have HV10:=hid (show ((w10.setCell ⟨w.heap.size,0,none⟩ (.slice A n cap)).setCell ⟨w.heap.size,1,none⟩ (.int .i64 (p10:Int))).setCell ⟨w.heap.size,2,none⟩ (.bool b10)=V10 from hV)
      obtain ⟨q10,hq1,hq2,hq3⟩:=raft_step (Less.ends (must_less [125] q)) hra (fun _ q=>(fun ms q=>Got.bind (must [59] q) fun _ q=>.ok ({ dcStruct ms with name:=nm.s,off:=nm.o,fs:=fs }:Dc) q) acc q)
      have HQ10:=hid (HP0.out.move hq1 (Below.refl _ _))
      have HL10:=hid hq2
      have HB10:=hid (raft_false hra)
      have E10:=hid (show stop b l (typedR l)=stop b10 q10 ((fun ms q=>Got.bind (must [59] q) fun _ q=>.ok ({ dcStruct ms with name:=nm.s,off:=nm.o,fs:=fs }:Dc) q) acc q10) from HE.out.trans <| (show stop b6 q (Got.bind (itemsG foF k0 acc q) (fun ms q=>Got.bind (must [59] q) fun _ q=>.ok ({ dcStruct ms with name:=nm.s,off:=nm.o,fs:=fs }:Dc) q))=stop b6 q (Got.bind (must [125] q) fun _ q=>(fun ms q=>Got.bind (must [59] q) fun _ q=>.ok ({ dcStruct ms with name:=nm.s,off:=nm.o,fs:=fs }:Dc) q) acc q) from HEX.out).trans hq3)
      obtain ⟨y0,y1,y2,f0,f1,f2⟩:=KC.pk.three
      clear hra hb KC d2 hV hq1 hq2 hq3 C10 x0 x1 x2
      go_upto_region 22 with fail
      rw [HV10.out]
      clear y0 y1 y2 f0 f1 f2 
      have HF10:=hid (D1V10.out.row (Nat.le_refl _) (HFc.out.wide (S':=Fr (w.heap.size+4) wc) fun i hi=>⟨hi.1,by have:=hi.2;omega⟩))
      obtain ⟨B2,kc2,e2,hrow2,-⟩:=RWc.out.row (by omega) (by omega)
      simp only [Value.slice.injEq] at e2
      obtain ⟨rfl,-,rfl⟩:=e2
      have HRW10:=hid (D1V10.out.row (Nat.le_refl _) (hrow2.wide (S':=Fr (w.heap.size+4) wc) fun i hi=>⟨by have:=hi.1;omega,hi.2⟩))
      clear hrow2 RWc HFc
      have KD:=hid (KV10.out.up (B:=V10.heap.size) KV10.out.big (Below.refl V10.heap.size V10).drew)
      have OD:=hid (show ∀ u∈([.int .i64 1,.string nm.s,.slice F fs.length cf,.slice B acc.length kc,.slice none 0 0,.string ⟨#[]⟩,.slice none 0 0,.string ⟨#[]⟩,.slice none 0 0,.slice none 0 0,.string ⟨#[]⟩,.slice none 0 0,.int .i64 0,.int .i64 0,.int .i64 0,.string ⟨#[]⟩,.string ⟨#[]⟩,.slice none 0 0,.int .i64 0,.slice none 0 0,.slice none 0 0,.int .i64 0,.int .i64 nm.o]:List Value),u.oneCell'=true from fun u hu=>by simp only [List.mem_cons,List.not_mem_nil,or_false] at hu;rcases hu with rfl | rfl | rfl | rfl | rfl | rfl | rfl | rfl | rfl | rfl | rfl | rfl | rfl | rfl | rfl | rfl | rfl | rfl | rfl | rfl | rfl | rfl | rfl<;>rfl)
      have SS:(V10).rangeAt w.heap.size 0 [.slice A n cap,.int .i64 (p10:Int),.bool b10]∧(V10).rangeAt (w.heap.size+3) 0 [.int .i64 1,.string nm.s,.slice F fs.length cf,.slice B acc.length kc,.slice none 0 0,.string ⟨#[]⟩,.slice none 0 0,.string ⟨#[]⟩,.slice none 0 0,.slice none 0 0,.string ⟨#[]⟩,.slice none 0 0,.int .i64 0,.int .i64 0,.int .i64 0,.string ⟨#[]⟩,.string ⟨#[]⟩,.slice none 0 0,.int .i64 0,.slice none 0 0,.slice none 0 0,.int .i64 0,.int .i64 nm.o]:=⟨fun j u hu=>by rw [Nat.zero_add];exact KV10.out.pk.box j u hu,fun j u hu=>by rw [Nat.zero_add];exact KV10.out.box j u hu⟩
      go_wp2_with fail
      refine wp_region_held_drew (S:=fun V=>V.rangeAt w.heap.size 0 [.slice A n cap,.int .i64 (p10:Int),.bool b10]∧V.rangeAt (w.heap.size+3) 0 [.int .i64 1,.string nm.s,.slice F fs.length cf,.slice B acc.length kc,.slice none 0 0,.string ⟨#[]⟩,.slice none 0 0,.string ⟨#[]⟩,.slice none 0 0,.slice none 0 0,.string ⟨#[]⟩,.slice none 0 0,.int .i64 0,.int .i64 0,.int .i64 0,.string ⟨#[]⟩,.string ⟨#[]⟩,.slice none 0 0,.int .i64 0,.slice none 0 0,.slice none 0 0,.int .i64 0,.int .i64 nm.o]) (by kernel_rfl) SS (fun hS=>?_)
      clear SS
      refine wpAnyH_take (i:=0) (v:=.agg ([.slice A n cap,.int .i64 (p10:Int),.bool b10]:List Value).toArray) rfl (by kernel_rfl) (by kernel_rfl) (by kernel_rfl) (fun _ _ _ h=>h) (yieldsIf_load_mid rfl 60 (.tmp 1) rfl w.heap.size 0 rfl [.slice A n cap,.int .i64 (p10:Int),.bool b10] _ (fun V hV=>hV.1) Tryz.underlying60 rfl flatPl.size) (by assumption) ?_
      try simp only [Act.put,List.getElem_toArray,List.getElem_cons_zero,List.setIfInBounds_toArray,List.set_cons_zero,List.set_cons_succ]
      refine wpAnyH_take (i:=2) (v:=.agg ([.int .i64 1,.string nm.s,.slice F fs.length cf,.slice B acc.length kc,.slice none 0 0,.string ⟨#[]⟩,.slice none 0 0,.string ⟨#[]⟩,.slice none 0 0,.slice none 0 0,.string ⟨#[]⟩,.slice none 0 0,.int .i64 0,.int .i64 0,.int .i64 0,.string ⟨#[]⟩,.string ⟨#[]⟩,.slice none 0 0,.int .i64 0,.slice none 0 0,.slice none 0 0,.int .i64 0,.int .i64 nm.o]:List Value).toArray) rfl (by kernel_rfl) (by kernel_rfl) (by kernel_rfl) (fun _ _ _ h=>h) (yieldsIf_load_mid rfl 36 (.tmp 4) rfl (w.heap.size+3) 0 rfl [.int .i64 1,.string nm.s,.slice F fs.length cf,.slice B acc.length kc,.slice none 0 0,.string ⟨#[]⟩,.slice none 0 0,.string ⟨#[]⟩,.slice none 0 0,.slice none 0 0,.string ⟨#[]⟩,.slice none 0 0,.int .i64 0,.int .i64 0,.int .i64 0,.string ⟨#[]⟩,.string ⟨#[]⟩,.slice none 0 0,.int .i64 0,.slice none 0 0,.slice none 0 0,.int .i64 0,.int .i64 nm.o] _ (fun V hV=>hV.2) Tryz.underlying36 rfl flatDc.size) (by assumption) ?_
      try simp only [Act.put,List.getElem_toArray,List.getElem_cons_zero,List.getElem_cons_succ,List.setIfInBounds_toArray,List.set_cons_zero,List.set_cons_succ]
      have R0:=hid (HQ10.out.later KD.out.pk.bel)
      obtain ⟨X0,hX0⟩:∃ X,V10.drew=X:=⟨_,rfl⟩
      rw [hX0] at KD R0 hS ⊢
      have CC0:=hid (show Calls Tryz.prog 52 #[.agg #[.slice A n cap,.int .i64 (p10:Int),.bool b10],.string ⟨#[59]⟩] X0 (RMustPost A n cap L q10 b10 [59] X0) from rmust_any A n cap p10 L q10 b10 ⟨#[59]⟩ X0 R0.out)
      refine wpAnyH_ready (rs:=[1]) (by kernel_rfl) (by simp) ?_
      refine AllReadyH.cons rfl (fun K hK=>?_) AllReadyH.nil
      go_simp
      refine CC0.out.mono ?_
      rintro e Y0 ⟨pe0,be0,rfl,hra,hb⟩
      have KY0:=hid (KD.out.later hb)
      have SS:(Y0).rangeAt w.heap.size 0 [.slice A n cap,.int .i64 (p10:Int),.bool b10]∧(Y0).rangeAt (w.heap.size+3) 0 [.int .i64 1,.string nm.s,.slice F fs.length cf,.slice B acc.length kc,.slice none 0 0,.string ⟨#[]⟩,.slice none 0 0,.string ⟨#[]⟩,.slice none 0 0,.slice none 0 0,.string ⟨#[]⟩,.slice none 0 0,.int .i64 0,.int .i64 0,.int .i64 0,.string ⟨#[]⟩,.string ⟨#[]⟩,.slice none 0 0,.int .i64 0,.slice none 0 0,.slice none 0 0,.int .i64 0,.int .i64 nm.o]:=⟨fun j u hu=>by rw [Nat.zero_add];exact KY0.out.pk.box j u hu,fun j u hu=>by rw [Nat.zero_add];exact KY0.out.box j u hu⟩
      refine hK.out _ _ SS (fun hS=>?_)
      clear hK K SS
      try simp only [Act.put,List.getElem_toArray,List.getElem_cons_zero,List.getElem_cons_succ,List.setIfInBounds_toArray,List.set_cons_zero,List.set_cons_succ]
      have HRA:=hid hra
      have DK0:=hid (dk_below (lo:=w.heap.size+4) hb)
      clear hra hb
      have ht2:Y0.there (w.heap.size+1) 0 3:=KY0.out.pk.res 0 3 rfl
      have ht3:(Y0.setCells (w.heap.size+1) 0 [.slice A n cap,.int .i64 (pe0:Int),.bool be0]).there (w.heap.size+2) 0 23:=World.there_setCells (show Y0.there (w.heap.size+2) 0 23 from KY0.out.pk.res 1 23 rfl) _ _ _
      refine wpAnyH_ready (rs:=[3]) (by kernel_rfl) (by simp) ?_
      refine AllReadyH.cons rfl (fun K hK=>?_) AllReadyH.nil
      refine ready_store flatPl rfl (.tmp 2) (.tmp 87) rfl (b:=w.heap.size+1) (off:=0) (us:=[.slice A n cap,.int .i64 (pe0:Int),.bool be0]) rfl rfl ht2 pl_one rfl ?_
      have SS:(Y0.setCells (w.heap.size+1) 0 [.slice A n cap,.int .i64 (pe0:Int),.bool be0]).rangeAt w.heap.size 0 [.slice A n cap,.int .i64 (p10:Int),.bool b10]∧(Y0.setCells (w.heap.size+1) 0 [.slice A n cap,.int .i64 (pe0:Int),.bool be0]).rangeAt (w.heap.size+3) 0 [.int .i64 1,.string nm.s,.slice F fs.length cf,.slice B acc.length kc,.slice none 0 0,.string ⟨#[]⟩,.slice none 0 0,.string ⟨#[]⟩,.slice none 0 0,.slice none 0 0,.string ⟨#[]⟩,.slice none 0 0,.int .i64 0,.int .i64 0,.int .i64 0,.string ⟨#[]⟩,.string ⟨#[]⟩,.slice none 0 0,.int .i64 0,.slice none 0 0,.slice none 0 0,.int .i64 0,.int .i64 nm.o]:=⟨World.rangeAt_setCells_apart hS.1 _ _ _ (.inl (by omega)),World.rangeAt_setCells_apart hS.2 _ _ _ (.inl (by omega))⟩
      refine hK.out _ _ SS (fun hS=>?_)
      clear hK K SS
      try simp only [Act.put,List.getElem_toArray,List.getElem_cons_zero,List.getElem_cons_succ]
      refine wpAnyH_ready (rs:=[4]) (by kernel_rfl) (by simp) ?_
      refine AllReadyH.cons rfl (fun K hK=>?_) AllReadyH.nil
      refine ready_store flatDc rfl (.tmp 3) (.tmp 88) rfl (b:=w.heap.size+2) (off:=0) (us:=[.int .i64 1,.string nm.s,.slice F fs.length cf,.slice B acc.length kc,.slice none 0 0,.string ⟨#[]⟩,.slice none 0 0,.string ⟨#[]⟩,.slice none 0 0,.slice none 0 0,.string ⟨#[]⟩,.slice none 0 0,.int .i64 0,.int .i64 0,.int .i64 0,.string ⟨#[]⟩,.string ⟨#[]⟩,.slice none 0 0,.int .i64 0,.slice none 0 0,.slice none 0 0,.int .i64 0,.int .i64 nm.o]) rfl rfl ht3 OD.out rfl ?_
      have SS:((Y0.setCells (w.heap.size+1) 0 [.slice A n cap,.int .i64 (pe0:Int),.bool be0]).setCells (w.heap.size+2) 0 [.int .i64 1,.string nm.s,.slice F fs.length cf,.slice B acc.length kc,.slice none 0 0,.string ⟨#[]⟩,.slice none 0 0,.string ⟨#[]⟩,.slice none 0 0,.slice none 0 0,.string ⟨#[]⟩,.slice none 0 0,.int .i64 0,.int .i64 0,.int .i64 0,.string ⟨#[]⟩,.string ⟨#[]⟩,.slice none 0 0,.int .i64 0,.slice none 0 0,.slice none 0 0,.int .i64 0,.int .i64 nm.o]).rangeAt w.heap.size 0 [.slice A n cap,.int .i64 (p10:Int),.bool b10]∧((Y0.setCells (w.heap.size+1) 0 [.slice A n cap,.int .i64 (pe0:Int),.bool be0]).setCells (w.heap.size+2) 0 [.int .i64 1,.string nm.s,.slice F fs.length cf,.slice B acc.length kc,.slice none 0 0,.string ⟨#[]⟩,.slice none 0 0,.string ⟨#[]⟩,.slice none 0 0,.slice none 0 0,.string ⟨#[]⟩,.slice none 0 0,.int .i64 0,.int .i64 0,.int .i64 0,.string ⟨#[]⟩,.string ⟨#[]⟩,.slice none 0 0,.int .i64 0,.slice none 0 0,.slice none 0 0,.int .i64 0,.int .i64 nm.o]).rangeAt (w.heap.size+3) 0 [.int .i64 1,.string nm.s,.slice F fs.length cf,.slice B acc.length kc,.slice none 0 0,.string ⟨#[]⟩,.slice none 0 0,.string ⟨#[]⟩,.slice none 0 0,.slice none 0 0,.string ⟨#[]⟩,.slice none 0 0,.int .i64 0,.int .i64 0,.int .i64 0,.string ⟨#[]⟩,.string ⟨#[]⟩,.slice none 0 0,.int .i64 0,.slice none 0 0,.slice none 0 0,.int .i64 0,.int .i64 nm.o]:=⟨World.rangeAt_setCells_apart hS.1 _ _ _ (.inl (by omega)),World.rangeAt_setCells_apart hS.2 _ _ _ (.inl (by omega))⟩
      refine hK.out _ _ SS (fun hS=>?_)
      clear hK K SS
      try simp only [Act.put,List.getElem_toArray,List.getElem_cons_zero,List.getElem_cons_succ]
      refine wpAnyH_done (by kernel_rfl) ?_ _
      clear hS
      go_wp2_with fail
      have hg1:=gb_sets1 Y0 (w.heap.size+1) 0 [.slice A n cap,.int .i64 (pe0:Int),.bool be0]
      have hg2:=gb_sets1 (Y0.setCells (w.heap.size+1) 0 [.slice A n cap,.int .i64 (pe0:Int),.bool be0]) (w.heap.size+2) 0 [.int .i64 1,.string nm.s,.slice F fs.length cf,.slice B acc.length kc,.slice none 0 0,.string ⟨#[]⟩,.slice none 0 0,.string ⟨#[]⟩,.slice none 0 0,.slice none 0 0,.string ⟨#[]⟩,.slice none 0 0,.int .i64 0,.int .i64 0,.int .i64 0,.string ⟨#[]⟩,.string ⟨#[]⟩,.slice none 0 0,.int .i64 0,.slice none 0 0,.slice none 0 0,.int .i64 0,.int .i64 nm.o]
      have hfin:Below w.heap.size w ((Y0.setCells (w.heap.size+1) 0 [.slice A n cap,.int .i64 (pe0:Int),.bool be0]).setCells (w.heap.size+2) 0 [.int .i64 1,.string nm.s,.slice F fs.length cf,.slice B acc.length kc,.slice none 0 0,.string ⟨#[]⟩,.slice none 0 0,.string ⟨#[]⟩,.slice none 0 0,.slice none 0 0,.string ⟨#[]⟩,.slice none 0 0,.int .i64 0,.int .i64 0,.int .i64 0,.string ⟨#[]⟩,.string ⟨#[]⟩,.slice none 0 0,.int .i64 0,.slice none 0 0,.slice none 0 0,.int .i64 0,.int .i64 nm.o]):=(KY0.out.pk.bel.trans (below_sets (by omega) _ _ _)).trans (below_sets (by omega) _ _ _)
      have hdk:Dk (w.heap.size+4) V10 ((Y0.setCells (w.heap.size+1) 0 [.slice A n cap,.int .i64 (pe0:Int),.bool be0]).setCells (w.heap.size+2) 0 [.int .i64 1,.string nm.s,.slice F fs.length cf,.slice B acc.length kc,.slice none 0 0,.string ⟨#[]⟩,.slice none 0 0,.string ⟨#[]⟩,.slice none 0 0,.slice none 0 0,.string ⟨#[]⟩,.slice none 0 0,.int .i64 0,.int .i64 0,.int .i64 0,.string ⟨#[]⟩,.string ⟨#[]⟩,.slice none 0 0,.int .i64 0,.slice none 0 0,.slice none 0 0,.int .i64 0,.int .i64 nm.o]):=(((show Dk (w.heap.size+4) V10 X0 from hX0▸⟨Nat.le_refl _,fun _ _ _=>rfl⟩).trans DK0.out).trans (dk_gb hg1 (by omega))).trans (dk_gb hg2 (by omega))
      refine bodyPost_ret (results_rtyped _ rfl rfl (boxd_gb hg2 (by omega) (set_there (us:=[.slice A n cap,.int .i64 (pe0:Int),.bool be0]) ht2)) rfl (set_there (us:=[.int .i64 1,.string nm.s,.slice F fs.length cf,.slice B acc.length kc,.slice none 0 0,.string ⟨#[]⟩,.slice none 0 0,.string ⟨#[]⟩,.slice none 0 0,.slice none 0 0,.string ⟨#[]⟩,.slice none 0 0,.int .i64 0,.int .i64 0,.int .i64 0,.string ⟨#[]⟩,.string ⟨#[]⟩,.slice none 0 0,.int .i64 0,.slice none 0 0,.slice none 0 0,.int .i64 0,.int .i64 nm.o]) ht3) rfl) rfl ?_
      refine ⟨{ dcStruct acc with name:=nm.s,off:=nm.o,fs:=fs },_,pe0,be0,rfl,?_,?_,hfin⟩
      · refine Dat.In.wide (S:=Fr (w.heap.size+4) ((Y0.setCells (w.heap.size+1) 0 [.slice A n cap,.int .i64 (pe0:Int),.bool be0]).setCells (w.heap.size+2) 0 [.int .i64 1,.string nm.s,.slice F fs.length cf,.slice B acc.length kc,.slice none 0 0,.string ⟨#[]⟩,.slice none 0 0,.string ⟨#[]⟩,.slice none 0 0,.slice none 0 0,.string ⟨#[]⟩,.slice none 0 0,.int .i64 0,.int .i64 0,.int .i64 0,.string ⟨#[]⟩,.string ⟨#[]⟩,.slice none 0 0,.int .i64 0,.slice none 0 0,.slice none 0 0,.int .i64 0,.int .i64 nm.o])) ?_ fun i hi=>⟨by have:=hi.1;omega,hi.2⟩
        exact dcMkR (d:={ dcStruct acc with name:=nm.s,off:=nm.o,fs:=fs }) HNM.out (arr_of (hdk.row (Nat.le_refl _) HF10.out)) (arr_of (hdk.row (Nat.le_refl _) HRW10.out)) (arr_of (Row.nil _ _ _ _ _)) (by show (0:Nat)≤_;omega) (arr_of (Row.nil _ _ _ _ _)) (sgNone_dat _ _ _) (exNone_dat _ _ _)
      rw [E10.out]
      have hra:=RAft.move HP0.out HRA.out hfin
      cases b10
      · exact raft_ret hra (fun _=>({ dcStruct acc with name:=nm.s,off:=nm.o,fs:=fs }:Dc)) rfl
      exact ⟨hra.1,hra.2⟩
    obtain ⟨rfl,hi⟩:b6=false∧isT [125] q=false:=by have:=HCC.out;simpa using this
    have HI:=hid hi
    obtain ⟨k,hkk⟩:∃ k,k0=k+1:=⟨k0-1,by have:=HK.out rfl;omega⟩
    subst hkk
    have hlq:=HK.out rfl
    have E1:=hid (show stop b l (typedR l)=stop false q (Got.bind (foF q) (fun u q=>Got.bind (must [59] q) fun _ q=>Got.bind (itemsG foF k (acc++[u]) q) (fun ms q=>Got.bind (must [59] q) fun _ q=>.ok ({ dcStruct ms with name:=nm.s,off:=nm.o,fs:=fs }:Dc) q))) from HE.out.trans (items_step HI.out))
    have zk:=Kwc.out.box 0 _ rfl
    clear hi HE
    obtain ⟨W2,hW2⟩:∃ X,wc.alloc (.cells #[.string ⟨#[]⟩,.string ⟨#[]⟩,.slice none 0 0,.int .i64 0,.int .i64 0] 89)=X:=⟨_,rfl⟩
    have hb2:Below wc.heap.size wc W2:=hW2▸(Below.refl _ _).alloc (Nat.le_refl _) _
    have hs2:W2.heap.size=wc.heap.size+1:=by rw [←hW2];simp
    obtain ⟨g,hg⟩:∃ g,wc.heap.size=g:=⟨_,rfl⟩
    have K2:=hid (Kwc.out.later hb2)
    have X2:=hid (show Boxd W2 g [.string ⟨#[]⟩,.string ⟨#[]⟩,.slice none 0 0,.int .i64 0,.int .i64 0] from hg▸hW2▸Boxd.new wc #[.string ⟨#[]⟩,.string ⟨#[]⟩,.slice none 0 0,.int .i64 0,.int .i64 0] 89)
    have O2:=hid (show W2.there g 0 5 from hg▸hW2▸there_new wc #[.string ⟨#[]⟩,.string ⟨#[]⟩,.slice none 0 0,.int .i64 0,.int .i64 0] 89)
    have KP2:=hid (show ∀ i,w.heap.size+4≤i→i<g→W2.heap[i]?=wc.heap[i]? from fun i _ h2=>hb2.block i (by omega))
    have HW2:=hid hW2
    have HG:=hid hg
    have hgb:w.heap.size+4≤g:=by omega
    have hg2:W2.heap.size=g+1:=by omega
    have R2:=hid (HQR.out.later K2.out.pk.bel)
    clear hW2 hb2 hs2 hg
    go_upto_if 45 with fail
    go_upto_region 16 with fail
    rw [HW2.out,HG.out]
    clear zk
    obtain ⟨x0,x1,x2,-⟩:=K2.out.pk.three
    have C4:=hid (rname_any A n cap p6 L q false W2 R2.out)
    go_wp2_with fail
    refine C4.out.mono ?_
    rintro e w3 ⟨xm,p3,b3,rfl,hz,hra,hb,-⟩
    rw [show (plV A n cap p3 b3).toArray=#[.slice A n cap,.int .i64 p3,.bool b3] from rfl]
    have K3:=hid (K2.out.later hb)
    have X3:=X2.out.later hb
    have O3:=there_upB O2.out (by omega:g<W2.heap.size) hb
    have hs3:=hb.size
    obtain ⟨V3,hV3⟩:∃ X,((w3.setCells w.heap.size 0 [.slice A n cap,.int .i64 (p3:Int),.bool b3]).setCells g 0 [.string xm.s]).setCells g 4 [.int .i64 xm.o]=X:=⟨_,rfl⟩
    have hsA:=gb_sets1 w3 w.heap.size 0 [.slice A n cap,.int .i64 (p3:Int),.bool b3]
    have KV3:=hid (show Pz w V3 23 [.slice A n cap,.int .i64 (p3:Int),.bool b3] [.int .i64 1,.string nm.s,.slice F fs.length cf,.slice B acc.length kc,.slice none 0 0,.string ⟨#[]⟩,.slice none 0 0,.string ⟨#[]⟩,.slice none 0 0,.slice none 0 0,.string ⟨#[]⟩,.slice none 0 0,.int .i64 0,.int .i64 0,.int .i64 0,.string ⟨#[]⟩,.string ⟨#[]⟩,.slice none 0 0,.int .i64 0,.slice none 0 0,.slice none 0 0,.int .i64 0,.int .i64 nm.o] from hV3▸((K3.out.place _ rfl).up (B:=g) (by omega) (below_sets (Nat.le_refl g) _ _ _)).up (B:=g) (by omega) (below_sets (Nat.le_refl g) _ _ _))
    have XV3:=hid (show Boxd V3 g [.string xm.s,.string ⟨#[]⟩,.slice none 0 0,.int .i64 0,.int .i64 xm.o] from hV3▸boxd_two (boxd_two (boxd_gb hsA (by omega) X3) (by simp)) (by simp))
    have OV3:=hid (show V3.there g 0 5 from hV3▸World.there_setCells (World.there_setCells (there_gb O3 (by omega) (by omega) hsA) g 0 [.string xm.s]) g 4 [.int .i64 xm.o])
    have KP3:=hid (show ∀ i,w.heap.size+4≤i→i<g→V3.heap[i]?=wc.heap[i]? from hV3▸kp_step (kp_step (kp_step (kp_step KP2.out (gb_of (some 0) hb) (by omega) (.inl (by omega))) hsA (by omega) (.inl (by omega))) (gb_sets1 _ g 0 _) (by rw [size_sets];omega) (.inr (Nat.le_refl _))) (gb_sets1 _ g 4 _) (by rw [size_sets,size_sets];omega) (.inr (Nat.le_refl _)))
    have hz3:g+1≤V3.heap.size:=by rw [←hV3,size_sets,size_sets,size_sets];omega
    have HZ:=hid hz
    obtain ⟨q3,hq1,hq2,hq3,hq4⟩:=raft_less (name_less q) (show RAft w3 A n L p3 b3 xm (stop false q (name q)) from hra) (fun t q=>Got.bind (tyA q) fun u q=>(fun u q=>Got.bind (must [59] q) fun _ q=>Got.bind (itemsG foF k (acc++[u]) q) (fun ms q=>Got.bind (must [59] q) fun _ q=>.ok ({ dcStruct ms with name:=nm.s,off:=nm.o,fs:=fs }:Dc) q)) (Fo.mk t.s u t.o) q)
    have HQ3:=hid (HP0.out.move hq1 (Below.refl _ _))
    have HL3:=hid (And.intro hq2 hq3)
    have E3:=hid (show stop b l (typedR l)=stop b3 q3 (Got.bind (tyA q3) fun u q=>(fun u q=>Got.bind (must [59] q) fun _ q=>Got.bind (itemsG foF k (acc++[u]) q) (fun ms q=>Got.bind (must [59] q) fun _ q=>.ok ({ dcStruct ms with name:=nm.s,off:=nm.o,fs:=fs }:Dc) q)) (Fo.mk xm.s u xm.o) q) from E1.out.trans ((by rw [foF,bind_bind];refine congrArg _ (congrArg _ (funext fun t=>funext fun q=>?_));rw [bind_bind];rfl:stop false q (Got.bind (foF q) (fun u q=>Got.bind (must [59] q) fun _ q=>Got.bind (itemsG foF k (acc++[u]) q) (fun ms q=>Got.bind (must [59] q) fun _ q=>.ok ({ dcStruct ms with name:=nm.s,off:=nm.o,fs:=fs }:Dc) q)))=stop false q (Got.bind (name q) fun t q=>Got.bind (tyA q) fun u q=>(fun u q=>Got.bind (must [59] q) fun _ q=>Got.bind (itemsG foF k (acc++[u]) q) (fun ms q=>Got.bind (must [59] q) fun _ q=>.ok ({ dcStruct ms with name:=nm.s,off:=nm.o,fs:=fs }:Dc) q)) (Fo.mk t.s u t.o) q)).trans hq4))
    have HV3:=hid (show ((((w3.setCell ⟨w.heap.size,0,none⟩ (.slice A n cap)).setCell ⟨w.heap.size,1,none⟩ (.int .i64 (p3:Int))).setCell ⟨w.heap.size,2,none⟩ (.bool b3)).setCell ⟨g,0,none⟩ (.string xm.s)).setCell ⟨g,4,none⟩ (.int .i64 xm.o)=V3 from by rw [←hV3];rfl)
    obtain ⟨y0,y1,y2,f0,f1,f2⟩:=K3.out.pk.three
    have z0:=X3 0 _ rfl
    have z4:=X3 4 _ rfl
    have g0:w3.frozen? ⟨g,0,none⟩=false:=by have:=(O3 0 (by omega)).2;rwa [Nat.zero_add] at this
    have g4:w3.frozen? ⟨g,4,none⟩=false:=by have:=(O3 4 (by omega)).2;rwa [Nat.zero_add] at this
    clear hra hb hz X3 O3 hV3 hsA hq1 hq2 hq3 hq4 C4 x0 x1 x2
    go_upto_region 17 with fail
    rw [HV3.out]
    clear y0 y1 y2 f0 f1 f2 z0 z4 g0 g4 K3 X2 O2 K2 KP2 R2
    obtain ⟨x0,x1,x2,-⟩:=KV3.out.pk.three
    go_upto_if 69 with fail
    go_cut [70] from 70 to 75 (fun _ wx=>∃ x us q' p' b',ItRel w wc wx A n cap L [.int .i64 1,.string nm.s,.slice F fs.length cf,.slice B acc.length kc,.slice none 0 0,.string ⟨#[]⟩,.slice none 0 0,.string ⟨#[]⟩,.slice none 0 0,.slice none 0 0,.string ⟨#[]⟩,.slice none 0 0,.int .i64 0,.int .i64 0,.int .i64 0,.string ⟨#[]⟩,.string ⟨#[]⟩,.slice none 0 0,.int .i64 0,.slice none 0 0,.slice none 0 0,.int .i64 0,.int .i64 nm.o] g (Fo.dat x) us q q' p' b'∧stop b l (typedR l)=stop b' q' ((fun u q=>Got.bind (must [59] q) fun _ q=>Got.bind (itemsG foF k (acc++[u]) q) (fun ms q=>Got.bind (must [59] q) fun _ q=>.ok ({ dcStruct ms with name:=nm.s,off:=nm.o,fs:=fs }:Dc) q)) x q'))
    case first =>
      cases b3
      · have C6:=hid (rtype_any (2*q3.length+2) A n cap p3 L q3 V3 (HQ3.out.later KV3.out.pk.bel) (by omega))
        go_wp2_with fail
        refine C6.out.mono ?_
        rintro e w6 ⟨t,us,p6',b6',rfl,hd,hra,hb⟩
        obtain ⟨Y,m,kk,rfl,-⟩:=ty_open hd
        have K6:=KV3.out.later hb
        have X6:=XV3.out.later hb
        have O6:=there_upB OV3.out (by omega:g<V3.heap.size) hb
        have hs6:=hb.size
        obtain ⟨V6,hV6⟩:∃ X,(((w6.setCells w.heap.size 0 [.slice A n cap,.int .i64 (p6':Int),.bool b6']).setCells g 1 [.string t.name]).setCells g 2 [.slice Y m kk]).setCells g 3 [.int .i64 t.off]=X:=⟨_,rfl⟩
        have hsA:=gb_sets1 w6 w.heap.size 0 [.slice A n cap,.int .i64 (p6':Int),.bool b6']
        have KV6:=hid (show Pz w V6 23 [.slice A n cap,.int .i64 (p6':Int),.bool b6'] [.int .i64 1,.string nm.s,.slice F fs.length cf,.slice B acc.length kc,.slice none 0 0,.string ⟨#[]⟩,.slice none 0 0,.string ⟨#[]⟩,.slice none 0 0,.slice none 0 0,.string ⟨#[]⟩,.slice none 0 0,.int .i64 0,.int .i64 0,.int .i64 0,.string ⟨#[]⟩,.string ⟨#[]⟩,.slice none 0 0,.int .i64 0,.slice none 0 0,.slice none 0 0,.int .i64 0,.int .i64 nm.o] from hV6▸(((K6.place _ rfl).up (B:=g) (by omega) (below_sets (Nat.le_refl g) _ _ _)).up (B:=g) (by omega) (below_sets (Nat.le_refl g) _ _ _)).up (B:=g) (by omega) (below_sets (Nat.le_refl g) _ _ _))
        have XV6:=hid (show Boxd V6 g [.string xm.s,.string t.name,.slice Y m kk,.int .i64 t.off,.int .i64 xm.o] from hV6▸boxd_two (boxd_two (boxd_two (boxd_gb hsA (by omega) X6) (by simp)) (by simp)) (by simp))
        have KP6:=hid (show ∀ i,w.heap.size+4≤i→i<g→V6.heap[i]?=wc.heap[i]? from hV6▸kp_step (kp_step (kp_step (kp_step (kp_step KP3.out (gb_of (some 0) hb) (by omega) (.inl (by omega))) hsA (by omega) (.inl (by omega))) (gb_sets1 _ g 1 _) (by rw [size_sets];omega) (.inr (Nat.le_refl _))) (gb_sets1 _ g 2 _) (by rw [size_sets,size_sets];omega) (.inr (Nat.le_refl _))) (gb_sets1 _ g 3 _) (by rw [size_sets,size_sets,size_sets];omega) (.inr (Nat.le_refl _)))
        have D6:=hid (show t.dat.In V6 False (Fr (g+1) V6) [.string t.name,.slice Y m kk,.int .i64 t.off] from hV6▸in_gb (gb_sets1 _ _ _ _) (by omega) (in_gb (gb_sets1 _ _ _ _) (by omega) (in_gb (gb_sets1 _ _ _ _) (by omega) (in_gb hsA (by omega) (hd.wide fun i hi=>⟨by have:=hi.1;omega,hi.2⟩)))))
        have hz6:g+1≤V6.heap.size:=by rw [←hV6,size_sets,size_sets,size_sets,size_sets];omega
        obtain ⟨q6,hp1,hp2,hp3,hp4⟩:=raft_less (tyA_less q3) (show RAft w6 A n L p6' b6' t (stop false q3 (tyA q3)) from hra) (fun u q=>(fun u q=>Got.bind (must [59] q) fun _ q=>Got.bind (itemsG foF k (acc++[u]) q) (fun ms q=>Got.bind (must [59] q) fun _ q=>.ok ({ dcStruct ms with name:=nm.s,off:=nm.o,fs:=fs }:Dc) q)) (Fo.mk xm.s u xm.o) q)
        have HQ6:=hid (HP0.out.move hp1 (Below.refl _ _))
        have HEQ6:=hid (E3.out.trans hp4)
        have HQL:=hid (And.intro hp2 hp3)
        have HV6:=hid (show (((((w6.setCell ⟨w.heap.size,0,none⟩ (.slice A n cap)).setCell ⟨w.heap.size,1,none⟩ (.int .i64 (p6':Int))).setCell ⟨w.heap.size,2,none⟩ (.bool b6')).setCell ⟨g,1,none⟩ (.string t.name)).setCell ⟨g,2,none⟩ (.slice Y m kk)).setCell ⟨g,3,none⟩ (.int .i64 t.off)=V6 from by rw [←hV6];rfl)
        obtain ⟨y0,y1,y2,f0,f1,f2⟩:=K6.pk.three
        have z1:=X6 1 _ rfl
        have z2:=X6 2 _ rfl
        have z3:=X6 3 _ rfl
        have g1:w6.frozen? ⟨g,1,none⟩=false:=by have:=(O6 1 (by omega)).2;rwa [Nat.zero_add] at this
        have g2:w6.frozen? ⟨g,2,none⟩=false:=by have:=(O6 2 (by omega)).2;rwa [Nat.zero_add] at this
        have g3:w6.frozen? ⟨g,3,none⟩=false:=by have:=(O6 3 (by omega)).2;rwa [Nat.zero_add] at this
        clear hd hra hb K6 X6 O6 hV6 hsA hp1 hp2 hp3 hp4 C6 x0 x1 x2
        go_wp2_with fail
        go_meet
        rw [HV6.out]
        exact ⟨⟨xm.s,t,xm.o⟩,_,q6,p6',b6',⟨KV6.out,XV6.out,foMkR (by have:=HZ.out;omega) D6.out,KP6.out,HQ6.out,fun h=>by have:=HL3.out.2 (by first | trivial | rfl);have:=HQL.out.1;omega,by have:=HQL.out.1;have:=HL3.out.1;omega,hz6⟩,HEQ6.out⟩
      go_wp2_with fail
      go_meet
      exact ⟨⟨xm.s,.mk ⟨#[]⟩ [] 0,xm.o⟩,_,q3,p3,true,⟨KV3.out,XV3.out,foMkR (u:=.mk ⟨#[]⟩ [] 0) (by have:=HZ.out;omega) (ty_shut (t:=.mk ⟨#[]⟩ [] 0) (by show (0:Nat)≤_;omega) (lies_row.2 (Row.nil _ _ _ _ _))),KP3.out,HQ3.out,(fun h=>by cases h),HL3.out.1,hz3⟩,E3.out⟩
    obtain ⟨x,us,q6,p6',b6',hc,he6⟩:=hcut
    have HC:=hid hc
    have HE6:=hid he6
    obtain ⟨y1,y2,y3,rfl⟩:=fo_opens hc.dat
    clear HV3 KV3 XV3 OV3 KP3 HQ3 HL3 E3 x0 x1 x2 HZ
    skip
    have HBX:=hid (boxd_at0 hc.box)
    obtain ⟨cs,S,hown,hrows,hzs,hS,hol⟩:=built_far (V':=wc) RWc.out (fun i h1 h2=>hc.keep i (by omega) (by have:=HG.out;omega))
    have HFx:=hid (row_on HFc.out fun i h1 h2=>hc.keep i h1 (by have:=HG.out;omega))
    have hgx:=hc.big
    have hgw:=HG.out
    have HOW:=hid hown
    have HSTP:=hid (fun (gg cp:Nat) (w5:World) h1 h2 h3=>built_more (w5:=w5) (gg:=gg) (cap:=cp) (T:=89) hown hrows hzs (fun b hb=>⟨(hS b hb).1,by have:=(hS b hb).2.1;omega,(hS b hb).2.2⟩) hc.dat (by omega) (fun g' hg'=>by have:=(hol g' hg').2;omega) (Fo.dat_size x) h1 h2 h3)
    have hol2:=fun g' hg'=>(hol g' hg').1
    have HOL:=hid hol2
    have hb5:lo≤(wc.alloc (.cells #[.string x.name,.string x.ty.name,.slice y1 y2 y3,.int .i64 x.ty.off,.int .i64 x.off] 89)).heap.size:=by simp;omega
    have z3:=hc.pz.box 3 _ rfl
    clear hc hown hrows hzs hS hol hol2
    go_upto_region 20 with (first | (refine loadOp flatPa 6 78 rfl HBX.out rfl ?_) | (at_builtin;refine wpList_append_lies _ rfl _ _ 24 rfl lo 89 i0 _ 5 72 Tryz.underlying24 hi0 hz0 hz1 hz2 rfl (by omega) _ acc.length cs rfl (HOW.out.alloc _) ⟨wc.heap.size,0,none⟩ 1 1 [.string x.name,.string x.ty.name,.slice y1 y2 y3,.int .i64 x.ty.off,.int .i64 x.off] rfl rfl (World.news_of_block (cs:=#[.string x.name,.string x.ty.name,.slice y1 y2 y3,.int .i64 x.ty.off,.int .i64 x.off]) (t:=89) (fr:=(0,0)) (heap_alloc_new _ _)) (by simp [Value.oneCell']) (by omega) (by unfold maxLen;omega) (by omega) hb5 _ rfl ?_;intro gg cp w6 hown6 hgrow6 hat6 hlt6;have HO6:=hid (And.intro hown6 (And.intro hgrow6 hat6));clear hown6 hgrow6 hat6 hlt6;have hb6:Below lo wc w6:=(((Below.refl wc.heap.size wc).alloc (Nat.le_refl _) _).mono (by omega)).trans (below_grown hb5 HO6.out.2.1 HOL.out);have K6:=hid (HC.out.pz.up hlo4 hb6);have z6:=K6.out.box 3 _ rfl;have g6:w6.frozen? ⟨w.heap.size+3,3,none⟩=false:=by (have:=(K6.out.own 3 (by decide)).2;rwa [Nat.zero_add] at this)))
    obtain ⟨V6,hV6⟩:∃ X,w6.setCell ⟨w.heap.size+3,3,none⟩ (.slice (some ⟨gg,0,none⟩) (acc.length+1) cp)=X:=⟨_,rfl⟩
    rw [hV6]
    have hg6:=gb_set w6 (w.heap.size+3) 3 (.slice (some ⟨gg,0,none⟩) (acc.length+1) cp)
    rw [hV6] at hg6
    have KV6:=hid (show Pz w V6 23 [.slice A n cap,.int .i64 (p6':Int),.bool b6'] [.int .i64 1,.string nm.s,.slice F fs.length cf,.slice (some ⟨gg,0,none⟩) (acc.length+1) cp,.slice none 0 0,.string ⟨#[]⟩,.slice none 0 0,.string ⟨#[]⟩,.slice none 0 0,.slice none 0 0,.string ⟨#[]⟩,.slice none 0 0,.int .i64 0,.int .i64 0,.int .i64 0,.string ⟨#[]⟩,.string ⟨#[]⟩,.slice none 0 0,.int .i64 0,.slice none 0 0,.slice none 0 0,.int .i64 0,.int .i64 nm.o] from hV6▸K6.out.field 3 (by decide) _)
    have RW6:=hid (show Built V6 False 89 5 lo (.slice (some ⟨gg,0,none⟩) (acc.length+1) cp) (acc++[x]).length ((acc++[x]).map Fo.dat) from built_gb hg6 (by omega) (by
      have:=HSTP.out gg cp w6 HO6.out.1 HO6.out.2.1 (HO6.out.2.2.imp id fun h=>by simpa using h)
      rw [List.map_append,List.length_append]
      exact this))
    have HF6:=hid (row_on (row_on HFx.out fun i _ h2=>hb6.block i h2) fun i h1 _=>hg6.block i (by have:=hb6.size;omega) (by simpa using (by omega:i≠w.heap.size+3)))
    have hlq2:(acc++[x]).length=acc.length+1:=by simp
    have HQ6:=hid HC.out.pl
    have hs6:lo≤V6.heap.size:=by have h1:=hb6.size;have h2:=hg6.size;omega
    clear hV6 hg6 HO6 HSTP HOW HBX K6 z6 g6 hb6 z3
    obtain ⟨x0,x1,x2,-⟩:=KV6.out.pk.three
    have C11:=hid (show Calls Tryz.prog 52 #[.agg #[.slice A n cap,.int .i64 (p6':Int),.bool b6'],.string ⟨#[59]⟩] V6 (RMustPost A n cap L q6 b6' [59] V6) from rmust_any A n cap p6' L q6 b6' ⟨#[59]⟩ V6 (HQ6.out.later KV6.out.pk.bel))
    go_wp2_with fail
    refine C11.out.mono ?_
    rintro e w11 ⟨p11,b11,rfl,hra,hb⟩
    have KC:=KV6.out.later hb
    obtain ⟨V11,hV⟩:∃ X,w11.setCells w.heap.size 0 [.slice A n cap,.int .i64 (p11:Int),.bool b11]=X:=⟨_,rfl⟩
    have KV11:=hid (show Pz w V11 23 [.slice A n cap,.int .i64 (p11:Int),.bool b11] [.int .i64 1,.string nm.s,.slice F fs.length cf,.slice (some ⟨gg,0,none⟩) (acc.length+1) cp,.slice none 0 0,.string ⟨#[]⟩,.slice none 0 0,.string ⟨#[]⟩,.slice none 0 0,.slice none 0 0,.string ⟨#[]⟩,.slice none 0 0,.int .i64 0,.int .i64 0,.int .i64 0,.string ⟨#[]⟩,.string ⟨#[]⟩,.slice none 0 0,.int .i64 0,.slice none 0 0,.slice none 0 0,.int .i64 0,.int .i64 nm.o] from hV▸(KC.place [.slice A n cap,.int .i64 (p11:Int),.bool b11] rfl))
    have d2:Dk (w.heap.size+4) w11 V11:=hV▸dk_gb (gb_sets1 w11 w.heap.size 0 [.slice A n cap,.int .i64 (p11:Int),.bool b11]) (by omega)
    have D2V11:=hid d2
    have D1V11:=hid ((dk_below hb).trans d2)
    have HV11:=hid (show ((w11.setCell ⟨w.heap.size,0,none⟩ (.slice A n cap)).setCell ⟨w.heap.size,1,none⟩ (.int .i64 (p11:Int))).setCell ⟨w.heap.size,2,none⟩ (.bool b11)=V11 from hV)
    obtain ⟨q11,hq1,hq2,hq3⟩:=raft_step (Less.ends (must_less [59] q6)) hra (fun _ q=>Got.bind (itemsG foF k (acc++[x]) q) (fun ms q=>Got.bind (must [59] q) fun _ q=>.ok ({ dcStruct ms with name:=nm.s,off:=nm.o,fs:=fs }:Dc) q))
    have HQ11:=hid (HP0.out.move hq1 (Below.refl _ _))
    have RB11:=hid (show Built V11 False _ _ lo _ _ _ from hV▸built_gb (gb_sets1 w11 w.heap.size 0 _) (by omega) (RW6.out.later hb))
    have HL11:=hid hq2
    have HB11:=hid (raft_false hra)
    have E11:=hid (show stop b l (typedR l)=stop b11 q11 (Got.bind (itemsG foF k (acc++[x]) q11) (fun ms q=>Got.bind (must [59] q) fun _ q=>.ok ({ dcStruct ms with name:=nm.s,off:=nm.o,fs:=fs }:Dc) q)) from HE6.out.trans hq3)
    obtain ⟨y0,y1,y2,f0,f1,f2⟩:=KC.pk.three
    clear hra hb KC d2 hV hq1 hq2 hq3 C11 x0 x1 x2
    go_wp2_with fail
    skip
    skip
    rw [HV11.out]
    clear y0 y1 y2 f0 f1 f2
    go_roundw
    case rel =>
      refine ⟨_,acc++[x],q11,p11,b11,k,⟨KV11.out,row_on HF6.out fun i h1 h2=>D1V11.out.block i h1 (by omega),HQ11.out,RB11.out,⟨hlo4,by have:=D1V11.out.size;omega⟩,fun h=>?_,?_⟩,fun h=>?_,E11.out⟩
      · have h1:=HC.out.len (HB11.out h)
        have h2:=HR.out.few.1 rfl
        have h3:=HL11.out
        rw [hlq2]
        omega
      · have h2:=HR.out.few.1 rfl
        rw [hlq2]
        omega
      have h1:=HC.out.len (HB11.out h)
      have h3:=HL11.out
      omega
    case measure =>
      have h1:=KV11.out.box 3 _ rfl
      have h2:=HR.out.pz.box 3 _ rfl
      rw [h1,h2]
      simp [lenOf]
      omega
  have E5:=hid he
  have Kwc:=hid HREL.out.pz
  have HQ5:=hid HREL.out.pl
  have HF5:=hid HREL.out.fs
  clear he HREL
  obtain ⟨x0,x1,x2,-⟩:=Kwc.out.pk.three
  have C9:=hid (show Calls Tryz.prog 52 #[.agg #[.slice A n cap,.int .i64 (p5:Int),.bool b5],.string ⟨#[123]⟩] wc (RMustPost A n cap L q5 b5 [123] wc) from rmust_any A n cap p5 L q5 b5 ⟨#[123]⟩ wc (HQ5.out.later Kwc.out.pk.bel))
  go_wp2_with fail
  refine C9.out.mono ?_
  rintro e w9 ⟨p9,b9,rfl,hra,hb⟩
  have KC:=Kwc.out.later hb
  obtain ⟨V9,hV⟩:∃ X,w9.setCells w.heap.size 0 [.slice A n cap,.int .i64 (p9:Int),.bool b9]=X:=⟨_,rfl⟩
  have KV9:=hid (show Pz w V9 23 [.slice A n cap,.int .i64 (p9:Int),.bool b9] [.int .i64 2,.string nm.s,.slice F fs.length cf,.slice none 0 0,.slice none 0 0,.string ⟨#[]⟩,.slice none 0 0,.string ⟨#[]⟩,.slice none 0 0,.slice none 0 0,.string ⟨#[]⟩,.slice none 0 0,.int .i64 0,.int .i64 0,.int .i64 0,.string ⟨#[]⟩,.string ⟨#[]⟩,.slice none 0 0,.int .i64 0,.slice none 0 0,.slice none 0 0,.int .i64 0,.int .i64 nm.o] from hV▸(KC.place [.slice A n cap,.int .i64 (p9:Int),.bool b9] rfl))
  have d2:Dk (w.heap.size+4) w9 V9:=hV▸dk_gb (gb_sets1 w9 w.heap.size 0 [.slice A n cap,.int .i64 (p9:Int),.bool b9]) (by omega)
  have D2V9:=hid d2
  have D1V9:=hid ((dk_below hb).trans d2)
  have HV9:=hid (show ((w9.setCell ⟨w.heap.size,0,none⟩ (.slice A n cap)).setCell ⟨w.heap.size,1,none⟩ (.int .i64 (p9:Int))).setCell ⟨w.heap.size,2,none⟩ (.bool b9)=V9 from hV)
  obtain ⟨q9,hq1,hq2,hq3⟩:=raft_step (Less.ends (must_less [123] q5)) hra (fun _ q=>Got.bind (itemsG sgF (q.length+1) [] q) (fun gs q=>Got.bind (must [59] q) fun _ q=>.ok ({ dcInter gs with name:=nm.s,off:=nm.o,fs:=fs }:Dc) q))
  have HQ9:=hid (HP0.out.move hq1 (Below.refl _ _))
  have HL9:=hid hq2
  have HB9:=hid (raft_false hra)
  have E9:=hid (show stop b l (typedR l)=stop b9 q9 (Got.bind (itemsG sgF (q9.length+1) [] q9) (fun gs q=>Got.bind (must [59] q) fun _ q=>.ok ({ dcInter gs with name:=nm.s,off:=nm.o,fs:=fs }:Dc) q)) from E5.out.trans <| (by rw [blockG,bind_bind]:stop b5 q5 (Got.bind (blockG sgF q5) (fun gs q=>Got.bind (must [59] q) fun _ q=>.ok ({ dcInter gs with name:=nm.s,off:=nm.o,fs:=fs }:Dc) q))=stop b5 q5 (Got.bind (must [123] q5) fun _ q=>Got.bind (itemsG sgF (q.length+1) [] q) (fun gs q=>Got.bind (must [59] q) fun _ q=>.ok ({ dcInter gs with name:=nm.s,off:=nm.o,fs:=fs }:Dc) q))).trans hq3)
  obtain ⟨y0,y1,y2,f0,f1,f2⟩:=KC.pk.three
  clear hra hb KC d2 hV hq1 hq2 hq3 C9 x0 x1 x2
  go_wp2_with fail
  skip
  skip
  have HF9:=hid (D1V9.out.row (Nat.le_refl _) HF5.out)
  rw [HV9.out]
  clear y0 y1 y2 f0 f1 f2 HF5 HQ5 E5 Kwc HV9 D2V9
  obtain ⟨lo,hlo⟩:∃ x,V9.heap.size=x:=⟨_,rfl⟩
  have HLO:=hid hlo
  have hlo4:w.heap.size+4≤lo:=hlo▸KV9.out.big
  clear hlo
  obtain ⟨i0,hi0,hz0,hz1,hz2⟩:=info_parts infoSgR
  go_loopw [] (fun wr=>∃ (v:Value) (acc:List Sg) (q:List Tk) (p':Nat) (b':Bool) (k:Nat),LpI w wr lo A n cap L nm fs F cf v acc q p' b'∧(b'=false→q.length<k)∧stop b l (typedR l)=stop b' q (Got.bind (itemsG sgF k acc q) (fun gs q=>Got.bind (must [59] q) fun _ q=>.ok ({ dcInter gs with name:=nm.s,off:=nm.o,fs:=fs }:Dc) q))) (fun wr=>200000-lenOf ((wr.cell? ⟨w.heap.size+3,4,none⟩).getD undef))
  case atStart=>exact ⟨.slice none 0 0,[],q9,p9,b9,q9.length+1,⟨KV9.out,HLO.out▸HF9.out,HQ9.out,Built.nil _ _ _ _ _,⟨hlo4,by rw [HLO.out];exact Nat.le_refl _⟩,fun _=>by have:=pl_len HQ9.out;simp;omega,by simp⟩,fun _=>Nat.lt_succ_self _,E9.out⟩
  obtain ⟨v,acc,q,p6,b6,k0,hr,hk,he⟩:=hrel
  obtain ⟨B,kc,hv,-⟩:=hr.row.row (by omega) (by have:=hr.few.2;omega)
  subst hv
  have HR:=hid hr
  have HK:=hid hk
  have HE:=hid he
  have KR:=hid hr.pz
  have hfew:=hr.few.2
  have hbig:=hr.big.2
  clear hr hk he KV9 HF9 HQ9 E9 HL9 HB9 D1V9 HLO
  go_upto_region 10 with fail
  go_cut [42] from 35 to 42 (fun s42 wx=>s42=.bool (!b6&&!isT [125] q)∧Below wr.heap.size wr wx)
  case first =>
    obtain ⟨x0,x1,x2,-⟩:=KR.out.pk.three
    cases b6
    · have C1:=hid (show Calls Tryz.prog 16 #[.agg #[.slice A n cap,.int .i64 (p6:Int),.bool false],.string ⟨#[125]⟩] wr (BoolPost (nextB false [125] q) wr) from ris_any A n cap p6 L q false ⟨#[125]⟩ wr (HR.out.pl.later KR.out.pk.bel))
      go_wp2_with fail
      refine C1.out.mono ?_
      rintro e w1 ⟨rfl,hb⟩
      have HB:=hid hb
      clear hb C1 x0 x1 x2
      go_wp2_with fail
      go_meet
      exact ⟨by simp [nextB],HB.out⟩
    go_wp2_with fail
    go_meet
    exact ⟨rfl,Below.refl _ _⟩
  obtain ⟨rfl,hb⟩:=hcut
  have Kwc:=hid (KR.out.later hb)
  have HFc:=hid (row_on HR.out.fs fun i h1 h2=>hb.block i (Nat.lt_of_lt_of_le h2 hbig))
  have RWc:=hid (show Built wc False _ _ lo _ _ _ from HR.out.row.later hb)
  have hbigc:=Nat.le_trans hbig hb.size
  have HQR:=hid HR.out.pl
  obtain ⟨cc,hcc⟩:∃ c,(!b6&&!isT [125] q)=c:=⟨_,rfl⟩
  rw [hcc]
  have HCC:=hid hcc
  clear hcc hb KR
  go_upto_if 42 with fail
  cases cc
  · have HEX:=hid (items_end (item:=sgF) (acc:=acc) (F:=fun gs q=>Got.bind (must [59] q) fun _ q=>.ok ({ dcInter gs with name:=nm.s,off:=nm.o,fs:=fs }:Dc) q) HK.out HCC.out)
    obtain ⟨x0,x1,x2,-⟩:=Kwc.out.pk.three
    have C10:=hid (show Calls Tryz.prog 52 #[.agg #[.slice A n cap,.int .i64 (p6:Int),.bool b6],.string ⟨#[125]⟩] wc (RMustPost A n cap L q b6 [125] wc) from rmust_any A n cap p6 L q b6 ⟨#[125]⟩ wc (HQR.out.later Kwc.out.pk.bel))
    go_wp2_with fail
    refine C10.out.mono ?_
    rintro e w10 ⟨p10,b10,rfl,hra,hb⟩
    have KC:=Kwc.out.later hb
    obtain ⟨V10,hV⟩:∃ X,w10.setCells w.heap.size 0 [.slice A n cap,.int .i64 (p10:Int),.bool b10]=X:=⟨_,rfl⟩
    have KV10:=hid (show Pz w V10 23 [.slice A n cap,.int .i64 (p10:Int),.bool b10] [.int .i64 2,.string nm.s,.slice F fs.length cf,.slice none 0 0,.slice B acc.length kc,.string ⟨#[]⟩,.slice none 0 0,.string ⟨#[]⟩,.slice none 0 0,.slice none 0 0,.string ⟨#[]⟩,.slice none 0 0,.int .i64 0,.int .i64 0,.int .i64 0,.string ⟨#[]⟩,.string ⟨#[]⟩,.slice none 0 0,.int .i64 0,.slice none 0 0,.slice none 0 0,.int .i64 0,.int .i64 nm.o] from hV▸(KC.place [.slice A n cap,.int .i64 (p10:Int),.bool b10] rfl))
    have d2:Dk (w.heap.size+4) w10 V10:=hV▸dk_gb (gb_sets1 w10 w.heap.size 0 [.slice A n cap,.int .i64 (p10:Int),.bool b10]) (by omega)
    have D2V10:=hid d2
    have D1V10:=hid ((dk_below hb).trans d2)
    have HV10:=hid (show ((w10.setCell ⟨w.heap.size,0,none⟩ (.slice A n cap)).setCell ⟨w.heap.size,1,none⟩ (.int .i64 (p10:Int))).setCell ⟨w.heap.size,2,none⟩ (.bool b10)=V10 from hV)
    obtain ⟨q10,hq1,hq2,hq3⟩:=raft_step (Less.ends (must_less [125] q)) hra (fun _ q=>(fun gs q=>Got.bind (must [59] q) fun _ q=>.ok ({ dcInter gs with name:=nm.s,off:=nm.o,fs:=fs }:Dc) q) acc q)
    have HQ10:=hid (HP0.out.move hq1 (Below.refl _ _))
    have HL10:=hid hq2
    have HB10:=hid (raft_false hra)
    have E10:=hid (show stop b l (typedR l)=stop b10 q10 ((fun gs q=>Got.bind (must [59] q) fun _ q=>.ok ({ dcInter gs with name:=nm.s,off:=nm.o,fs:=fs }:Dc) q) acc q10) from HE.out.trans <| (show stop b6 q (Got.bind (itemsG sgF k0 acc q) (fun gs q=>Got.bind (must [59] q) fun _ q=>.ok ({ dcInter gs with name:=nm.s,off:=nm.o,fs:=fs }:Dc) q))=stop b6 q (Got.bind (must [125] q) fun _ q=>(fun gs q=>Got.bind (must [59] q) fun _ q=>.ok ({ dcInter gs with name:=nm.s,off:=nm.o,fs:=fs }:Dc) q) acc q) from HEX.out).trans hq3)
    obtain ⟨y0,y1,y2,f0,f1,f2⟩:=KC.pk.three
    clear hra hb KC d2 hV hq1 hq2 hq3 C10 x0 x1 x2
    go_upto_region 22 with fail
    rw [HV10.out]
    clear y0 y1 y2 f0 f1 f2 
    have HF10:=hid (D1V10.out.row (Nat.le_refl _) (HFc.out.wide (S':=Fr (w.heap.size+4) wc) fun i hi=>⟨hi.1,by have:=hi.2;omega⟩))
    obtain ⟨B2,kc2,e2,hrow2,-⟩:=RWc.out.row (by omega) (by omega)
    simp only [Value.slice.injEq] at e2
    obtain ⟨rfl,-,rfl⟩:=e2
    have HRW10:=hid (D1V10.out.row (Nat.le_refl _) (hrow2.wide (S':=Fr (w.heap.size+4) wc) fun i hi=>⟨by have:=hi.1;omega,hi.2⟩))
    clear hrow2 RWc HFc
    have KD:=hid (KV10.out.up (B:=V10.heap.size) KV10.out.big (Below.refl V10.heap.size V10).drew)
    have OD:=hid (show ∀ u∈([.int .i64 2,.string nm.s,.slice F fs.length cf,.slice none 0 0,.slice B acc.length kc,.string ⟨#[]⟩,.slice none 0 0,.string ⟨#[]⟩,.slice none 0 0,.slice none 0 0,.string ⟨#[]⟩,.slice none 0 0,.int .i64 0,.int .i64 0,.int .i64 0,.string ⟨#[]⟩,.string ⟨#[]⟩,.slice none 0 0,.int .i64 0,.slice none 0 0,.slice none 0 0,.int .i64 0,.int .i64 nm.o]:List Value),u.oneCell'=true from fun u hu=>by simp only [List.mem_cons,List.not_mem_nil,or_false] at hu;rcases hu with rfl | rfl | rfl | rfl | rfl | rfl | rfl | rfl | rfl | rfl | rfl | rfl | rfl | rfl | rfl | rfl | rfl | rfl | rfl | rfl | rfl | rfl | rfl<;>rfl)
    have SS:(V10).rangeAt w.heap.size 0 [.slice A n cap,.int .i64 (p10:Int),.bool b10]∧(V10).rangeAt (w.heap.size+3) 0 [.int .i64 2,.string nm.s,.slice F fs.length cf,.slice none 0 0,.slice B acc.length kc,.string ⟨#[]⟩,.slice none 0 0,.string ⟨#[]⟩,.slice none 0 0,.slice none 0 0,.string ⟨#[]⟩,.slice none 0 0,.int .i64 0,.int .i64 0,.int .i64 0,.string ⟨#[]⟩,.string ⟨#[]⟩,.slice none 0 0,.int .i64 0,.slice none 0 0,.slice none 0 0,.int .i64 0,.int .i64 nm.o]:=⟨fun j u hu=>by rw [Nat.zero_add];exact KV10.out.pk.box j u hu,fun j u hu=>by rw [Nat.zero_add];exact KV10.out.box j u hu⟩
    go_wp2_with fail
    refine wp_region_held_drew (S:=fun V=>V.rangeAt w.heap.size 0 [.slice A n cap,.int .i64 (p10:Int),.bool b10]∧V.rangeAt (w.heap.size+3) 0 [.int .i64 2,.string nm.s,.slice F fs.length cf,.slice none 0 0,.slice B acc.length kc,.string ⟨#[]⟩,.slice none 0 0,.string ⟨#[]⟩,.slice none 0 0,.slice none 0 0,.string ⟨#[]⟩,.slice none 0 0,.int .i64 0,.int .i64 0,.int .i64 0,.string ⟨#[]⟩,.string ⟨#[]⟩,.slice none 0 0,.int .i64 0,.slice none 0 0,.slice none 0 0,.int .i64 0,.int .i64 nm.o]) (by kernel_rfl) SS (fun hS=>?_)
    clear SS
    refine wpAnyH_take (i:=0) (v:=.agg ([.slice A n cap,.int .i64 (p10:Int),.bool b10]:List Value).toArray) rfl (by kernel_rfl) (by kernel_rfl) (by kernel_rfl) (fun _ _ _ h=>h) (yieldsIf_load_mid rfl 60 (.tmp 1) rfl w.heap.size 0 rfl [.slice A n cap,.int .i64 (p10:Int),.bool b10] _ (fun V hV=>hV.1) Tryz.underlying60 rfl flatPl.size) (by assumption) ?_
    try simp only [Act.put,List.getElem_toArray,List.getElem_cons_zero,List.setIfInBounds_toArray,List.set_cons_zero,List.set_cons_succ]
    refine wpAnyH_take (i:=2) (v:=.agg ([.int .i64 2,.string nm.s,.slice F fs.length cf,.slice none 0 0,.slice B acc.length kc,.string ⟨#[]⟩,.slice none 0 0,.string ⟨#[]⟩,.slice none 0 0,.slice none 0 0,.string ⟨#[]⟩,.slice none 0 0,.int .i64 0,.int .i64 0,.int .i64 0,.string ⟨#[]⟩,.string ⟨#[]⟩,.slice none 0 0,.int .i64 0,.slice none 0 0,.slice none 0 0,.int .i64 0,.int .i64 nm.o]:List Value).toArray) rfl (by kernel_rfl) (by kernel_rfl) (by kernel_rfl) (fun _ _ _ h=>h) (yieldsIf_load_mid rfl 36 (.tmp 4) rfl (w.heap.size+3) 0 rfl [.int .i64 2,.string nm.s,.slice F fs.length cf,.slice none 0 0,.slice B acc.length kc,.string ⟨#[]⟩,.slice none 0 0,.string ⟨#[]⟩,.slice none 0 0,.slice none 0 0,.string ⟨#[]⟩,.slice none 0 0,.int .i64 0,.int .i64 0,.int .i64 0,.string ⟨#[]⟩,.string ⟨#[]⟩,.slice none 0 0,.int .i64 0,.slice none 0 0,.slice none 0 0,.int .i64 0,.int .i64 nm.o] _ (fun V hV=>hV.2) Tryz.underlying36 rfl flatDc.size) (by assumption) ?_
    try simp only [Act.put,List.getElem_toArray,List.getElem_cons_zero,List.getElem_cons_succ,List.setIfInBounds_toArray,List.set_cons_zero,List.set_cons_succ]
    have R0:=hid (HQ10.out.later KD.out.pk.bel)
    obtain ⟨X0,hX0⟩:∃ X,V10.drew=X:=⟨_,rfl⟩
    rw [hX0] at KD R0 hS ⊢
    have CC0:=hid (show Calls Tryz.prog 52 #[.agg #[.slice A n cap,.int .i64 (p10:Int),.bool b10],.string ⟨#[59]⟩] X0 (RMustPost A n cap L q10 b10 [59] X0) from rmust_any A n cap p10 L q10 b10 ⟨#[59]⟩ X0 R0.out)
    refine wpAnyH_ready (rs:=[1]) (by kernel_rfl) (by simp) ?_
    refine AllReadyH.cons rfl (fun K hK=>?_) AllReadyH.nil
    go_simp
    refine CC0.out.mono ?_
    rintro e Y0 ⟨pe0,be0,rfl,hra,hb⟩
    have KY0:=hid (KD.out.later hb)
    have SS:(Y0).rangeAt w.heap.size 0 [.slice A n cap,.int .i64 (p10:Int),.bool b10]∧(Y0).rangeAt (w.heap.size+3) 0 [.int .i64 2,.string nm.s,.slice F fs.length cf,.slice none 0 0,.slice B acc.length kc,.string ⟨#[]⟩,.slice none 0 0,.string ⟨#[]⟩,.slice none 0 0,.slice none 0 0,.string ⟨#[]⟩,.slice none 0 0,.int .i64 0,.int .i64 0,.int .i64 0,.string ⟨#[]⟩,.string ⟨#[]⟩,.slice none 0 0,.int .i64 0,.slice none 0 0,.slice none 0 0,.int .i64 0,.int .i64 nm.o]:=⟨fun j u hu=>by rw [Nat.zero_add];exact KY0.out.pk.box j u hu,fun j u hu=>by rw [Nat.zero_add];exact KY0.out.box j u hu⟩
    refine hK.out _ _ SS (fun hS=>?_)
    clear hK K SS
    try simp only [Act.put,List.getElem_toArray,List.getElem_cons_zero,List.getElem_cons_succ,List.setIfInBounds_toArray,List.set_cons_zero,List.set_cons_succ]
    have HRA:=hid hra
    have DK0:=hid (dk_below (lo:=w.heap.size+4) hb)
    clear hra hb
    have ht2:Y0.there (w.heap.size+1) 0 3:=KY0.out.pk.res 0 3 rfl
    have ht3:(Y0.setCells (w.heap.size+1) 0 [.slice A n cap,.int .i64 (pe0:Int),.bool be0]).there (w.heap.size+2) 0 23:=World.there_setCells (show Y0.there (w.heap.size+2) 0 23 from KY0.out.pk.res 1 23 rfl) _ _ _
    refine wpAnyH_ready (rs:=[3]) (by kernel_rfl) (by simp) ?_
    refine AllReadyH.cons rfl (fun K hK=>?_) AllReadyH.nil
    refine ready_store flatPl rfl (.tmp 2) (.tmp 87) rfl (b:=w.heap.size+1) (off:=0) (us:=[.slice A n cap,.int .i64 (pe0:Int),.bool be0]) rfl rfl ht2 pl_one rfl ?_
    have SS:(Y0.setCells (w.heap.size+1) 0 [.slice A n cap,.int .i64 (pe0:Int),.bool be0]).rangeAt w.heap.size 0 [.slice A n cap,.int .i64 (p10:Int),.bool b10]∧(Y0.setCells (w.heap.size+1) 0 [.slice A n cap,.int .i64 (pe0:Int),.bool be0]).rangeAt (w.heap.size+3) 0 [.int .i64 2,.string nm.s,.slice F fs.length cf,.slice none 0 0,.slice B acc.length kc,.string ⟨#[]⟩,.slice none 0 0,.string ⟨#[]⟩,.slice none 0 0,.slice none 0 0,.string ⟨#[]⟩,.slice none 0 0,.int .i64 0,.int .i64 0,.int .i64 0,.string ⟨#[]⟩,.string ⟨#[]⟩,.slice none 0 0,.int .i64 0,.slice none 0 0,.slice none 0 0,.int .i64 0,.int .i64 nm.o]:=⟨World.rangeAt_setCells_apart hS.1 _ _ _ (.inl (by omega)),World.rangeAt_setCells_apart hS.2 _ _ _ (.inl (by omega))⟩
    refine hK.out _ _ SS (fun hS=>?_)
    clear hK K SS
    try simp only [Act.put,List.getElem_toArray,List.getElem_cons_zero,List.getElem_cons_succ]
    refine wpAnyH_ready (rs:=[4]) (by kernel_rfl) (by simp) ?_
    refine AllReadyH.cons rfl (fun K hK=>?_) AllReadyH.nil
    refine ready_store flatDc rfl (.tmp 3) (.tmp 88) rfl (b:=w.heap.size+2) (off:=0) (us:=[.int .i64 2,.string nm.s,.slice F fs.length cf,.slice none 0 0,.slice B acc.length kc,.string ⟨#[]⟩,.slice none 0 0,.string ⟨#[]⟩,.slice none 0 0,.slice none 0 0,.string ⟨#[]⟩,.slice none 0 0,.int .i64 0,.int .i64 0,.int .i64 0,.string ⟨#[]⟩,.string ⟨#[]⟩,.slice none 0 0,.int .i64 0,.slice none 0 0,.slice none 0 0,.int .i64 0,.int .i64 nm.o]) rfl rfl ht3 OD.out rfl ?_
    have SS:((Y0.setCells (w.heap.size+1) 0 [.slice A n cap,.int .i64 (pe0:Int),.bool be0]).setCells (w.heap.size+2) 0 [.int .i64 2,.string nm.s,.slice F fs.length cf,.slice none 0 0,.slice B acc.length kc,.string ⟨#[]⟩,.slice none 0 0,.string ⟨#[]⟩,.slice none 0 0,.slice none 0 0,.string ⟨#[]⟩,.slice none 0 0,.int .i64 0,.int .i64 0,.int .i64 0,.string ⟨#[]⟩,.string ⟨#[]⟩,.slice none 0 0,.int .i64 0,.slice none 0 0,.slice none 0 0,.int .i64 0,.int .i64 nm.o]).rangeAt w.heap.size 0 [.slice A n cap,.int .i64 (p10:Int),.bool b10]∧((Y0.setCells (w.heap.size+1) 0 [.slice A n cap,.int .i64 (pe0:Int),.bool be0]).setCells (w.heap.size+2) 0 [.int .i64 2,.string nm.s,.slice F fs.length cf,.slice none 0 0,.slice B acc.length kc,.string ⟨#[]⟩,.slice none 0 0,.string ⟨#[]⟩,.slice none 0 0,.slice none 0 0,.string ⟨#[]⟩,.slice none 0 0,.int .i64 0,.int .i64 0,.int .i64 0,.string ⟨#[]⟩,.string ⟨#[]⟩,.slice none 0 0,.int .i64 0,.slice none 0 0,.slice none 0 0,.int .i64 0,.int .i64 nm.o]).rangeAt (w.heap.size+3) 0 [.int .i64 2,.string nm.s,.slice F fs.length cf,.slice none 0 0,.slice B acc.length kc,.string ⟨#[]⟩,.slice none 0 0,.string ⟨#[]⟩,.slice none 0 0,.slice none 0 0,.string ⟨#[]⟩,.slice none 0 0,.int .i64 0,.int .i64 0,.int .i64 0,.string ⟨#[]⟩,.string ⟨#[]⟩,.slice none 0 0,.int .i64 0,.slice none 0 0,.slice none 0 0,.int .i64 0,.int .i64 nm.o]:=⟨World.rangeAt_setCells_apart hS.1 _ _ _ (.inl (by omega)),World.rangeAt_setCells_apart hS.2 _ _ _ (.inl (by omega))⟩
    refine hK.out _ _ SS (fun hS=>?_)
    clear hK K SS
    try simp only [Act.put,List.getElem_toArray,List.getElem_cons_zero,List.getElem_cons_succ]
    refine wpAnyH_done (by kernel_rfl) ?_ _
    clear hS
    go_wp2_with fail
    have hg1:=gb_sets1 Y0 (w.heap.size+1) 0 [.slice A n cap,.int .i64 (pe0:Int),.bool be0]
    have hg2:=gb_sets1 (Y0.setCells (w.heap.size+1) 0 [.slice A n cap,.int .i64 (pe0:Int),.bool be0]) (w.heap.size+2) 0 [.int .i64 2,.string nm.s,.slice F fs.length cf,.slice none 0 0,.slice B acc.length kc,.string ⟨#[]⟩,.slice none 0 0,.string ⟨#[]⟩,.slice none 0 0,.slice none 0 0,.string ⟨#[]⟩,.slice none 0 0,.int .i64 0,.int .i64 0,.int .i64 0,.string ⟨#[]⟩,.string ⟨#[]⟩,.slice none 0 0,.int .i64 0,.slice none 0 0,.slice none 0 0,.int .i64 0,.int .i64 nm.o]
    have hfin:Below w.heap.size w ((Y0.setCells (w.heap.size+1) 0 [.slice A n cap,.int .i64 (pe0:Int),.bool be0]).setCells (w.heap.size+2) 0 [.int .i64 2,.string nm.s,.slice F fs.length cf,.slice none 0 0,.slice B acc.length kc,.string ⟨#[]⟩,.slice none 0 0,.string ⟨#[]⟩,.slice none 0 0,.slice none 0 0,.string ⟨#[]⟩,.slice none 0 0,.int .i64 0,.int .i64 0,.int .i64 0,.string ⟨#[]⟩,.string ⟨#[]⟩,.slice none 0 0,.int .i64 0,.slice none 0 0,.slice none 0 0,.int .i64 0,.int .i64 nm.o]):=(KY0.out.pk.bel.trans (below_sets (by omega) _ _ _)).trans (below_sets (by omega) _ _ _)
    have hdk:Dk (w.heap.size+4) V10 ((Y0.setCells (w.heap.size+1) 0 [.slice A n cap,.int .i64 (pe0:Int),.bool be0]).setCells (w.heap.size+2) 0 [.int .i64 2,.string nm.s,.slice F fs.length cf,.slice none 0 0,.slice B acc.length kc,.string ⟨#[]⟩,.slice none 0 0,.string ⟨#[]⟩,.slice none 0 0,.slice none 0 0,.string ⟨#[]⟩,.slice none 0 0,.int .i64 0,.int .i64 0,.int .i64 0,.string ⟨#[]⟩,.string ⟨#[]⟩,.slice none 0 0,.int .i64 0,.slice none 0 0,.slice none 0 0,.int .i64 0,.int .i64 nm.o]):=(((show Dk (w.heap.size+4) V10 X0 from hX0▸⟨Nat.le_refl _,fun _ _ _=>rfl⟩).trans DK0.out).trans (dk_gb hg1 (by omega))).trans (dk_gb hg2 (by omega))
    refine bodyPost_ret (results_rtyped _ rfl rfl (boxd_gb hg2 (by omega) (set_there (us:=[.slice A n cap,.int .i64 (pe0:Int),.bool be0]) ht2)) rfl (set_there (us:=[.int .i64 2,.string nm.s,.slice F fs.length cf,.slice none 0 0,.slice B acc.length kc,.string ⟨#[]⟩,.slice none 0 0,.string ⟨#[]⟩,.slice none 0 0,.slice none 0 0,.string ⟨#[]⟩,.slice none 0 0,.int .i64 0,.int .i64 0,.int .i64 0,.string ⟨#[]⟩,.string ⟨#[]⟩,.slice none 0 0,.int .i64 0,.slice none 0 0,.slice none 0 0,.int .i64 0,.int .i64 nm.o]) ht3) rfl) rfl ?_
    refine ⟨{ dcInter acc with name:=nm.s,off:=nm.o,fs:=fs },_,pe0,be0,rfl,?_,?_,hfin⟩
    · refine Dat.In.wide (S:=Fr (w.heap.size+4) ((Y0.setCells (w.heap.size+1) 0 [.slice A n cap,.int .i64 (pe0:Int),.bool be0]).setCells (w.heap.size+2) 0 [.int .i64 2,.string nm.s,.slice F fs.length cf,.slice none 0 0,.slice B acc.length kc,.string ⟨#[]⟩,.slice none 0 0,.string ⟨#[]⟩,.slice none 0 0,.slice none 0 0,.string ⟨#[]⟩,.slice none 0 0,.int .i64 0,.int .i64 0,.int .i64 0,.string ⟨#[]⟩,.string ⟨#[]⟩,.slice none 0 0,.int .i64 0,.slice none 0 0,.slice none 0 0,.int .i64 0,.int .i64 nm.o])) ?_ fun i hi=>⟨by have:=hi.1;omega,hi.2⟩
      exact dcMkR (d:={ dcInter acc with name:=nm.s,off:=nm.o,fs:=fs }) HNM.out (arr_of (hdk.row (Nat.le_refl _) HF10.out)) (arr_of (Row.nil _ _ _ _ _)) (arr_of (hdk.row (Nat.le_refl _) HRW10.out)) (by show (0:Nat)≤_;omega) (arr_of (Row.nil _ _ _ _ _)) (sgNone_dat _ _ _) (exNone_dat _ _ _)
    rw [E10.out]
    have hra:=RAft.move HP0.out HRA.out hfin
    cases b10
    · exact raft_ret hra (fun _=>({ dcInter acc with name:=nm.s,off:=nm.o,fs:=fs }:Dc)) rfl
    exact ⟨hra.1,hra.2⟩
  obtain ⟨rfl,hi⟩:b6=false∧isT [125] q=false:=by have:=HCC.out;simpa using this
  have HI:=hid hi
  obtain ⟨k,hkk⟩:∃ k,k0=k+1:=⟨k0-1,by have:=HK.out rfl;omega⟩
  subst hkk
  have hlq:=HK.out rfl
  have E1:=hid (show stop b l (typedR l)=stop false q (Got.bind (sgF q) (fun u q=>Got.bind (must [59] q) fun _ q=>Got.bind (itemsG sgF k (acc++[u]) q) (fun gs q=>Got.bind (must [59] q) fun _ q=>.ok ({ dcInter gs with name:=nm.s,off:=nm.o,fs:=fs }:Dc) q))) from HE.out.trans (items_step HI.out))
  have zk:=Kwc.out.box 0 _ rfl
  clear hi HE
  obtain ⟨W2,hW2⟩:∃ X,wc.alloc (.cells #[.string ⟨#[]⟩,.slice none 0 0,.slice none 0 0,.string ⟨#[]⟩,.slice none 0 0,.int .i64 0,.int .i64 0] 31)=X:=⟨_,rfl⟩
  have hb2:Below wc.heap.size wc W2:=hW2▸(Below.refl _ _).alloc (Nat.le_refl _) _
  have hs2:W2.heap.size=wc.heap.size+1:=by rw [←hW2];simp
  obtain ⟨g,hg⟩:∃ g,wc.heap.size=g:=⟨_,rfl⟩
  have K2:=hid (Kwc.out.later hb2)
  have X2:=hid (show Boxd W2 g [.string ⟨#[]⟩,.slice none 0 0,.slice none 0 0,.string ⟨#[]⟩,.slice none 0 0,.int .i64 0,.int .i64 0] from hg▸hW2▸Boxd.new wc #[.string ⟨#[]⟩,.slice none 0 0,.slice none 0 0,.string ⟨#[]⟩,.slice none 0 0,.int .i64 0,.int .i64 0] 31)
  have O2:=hid (show W2.there g 0 7 from hg▸hW2▸there_new wc #[.string ⟨#[]⟩,.slice none 0 0,.slice none 0 0,.string ⟨#[]⟩,.slice none 0 0,.int .i64 0,.int .i64 0] 31)
  have KP2:=hid (show ∀ i,w.heap.size+4≤i→i<g→W2.heap[i]?=wc.heap[i]? from fun i _ h2=>hb2.block i (by omega))
  have HW2:=hid hW2
  have HG:=hid hg
  have hgb:w.heap.size+4≤g:=by omega
  have hg2:W2.heap.size=g+1:=by omega
  have R2:=hid (HQR.out.later K2.out.pk.bel)
  clear hW2 hb2 hs2 hg
  go_upto_if 45 with fail
  go_upto_region 13 with fail
  rw [HW2.out,HG.out]
  clear zk
  obtain ⟨x0,x1,x2,-⟩:=K2.out.pk.three
  have C4:=hid (rsig_any8 A n cap p6 L q false W2 R2.out)
  go_wp2_with fail
  refine C4.out.mono ?_
  rintro e w3 ⟨x,us,p6',b6',rfl,hd,hra,hb⟩
  obtain ⟨y1,y2,y3,y4,y5,y6,y7,y8,y9,rfl⟩:=sg_opens hd
  have K3:=hid (K2.out.later hb)
  have X3:=X2.out.later hb
  have O3:=there_upB O2.out (by omega:g<W2.heap.size) hb
  have hs3:=hb.size
  obtain ⟨V3,hV3⟩:∃ X,(w3.setCells w.heap.size 0 [.slice A n cap,.int .i64 (p6':Int),.bool b6']).setCells g 0 [.string x.name,.slice y1 y2 y3,.slice y4 y5 y6,.string x.res.name,.slice y7 y8 y9,.int .i64 x.res.off,.int .i64 x.off]=X:=⟨_,rfl⟩
  have hsA:=gb_sets1 w3 w.heap.size 0 [.slice A n cap,.int .i64 (p6':Int),.bool b6']
  have KV3:=hid (show Pz w V3 23 [.slice A n cap,.int .i64 (p6':Int),.bool b6'] [.int .i64 2,.string nm.s,.slice F fs.length cf,.slice none 0 0,.slice B acc.length kc,.string ⟨#[]⟩,.slice none 0 0,.string ⟨#[]⟩,.slice none 0 0,.slice none 0 0,.string ⟨#[]⟩,.slice none 0 0,.int .i64 0,.int .i64 0,.int .i64 0,.string ⟨#[]⟩,.string ⟨#[]⟩,.slice none 0 0,.int .i64 0,.slice none 0 0,.slice none 0 0,.int .i64 0,.int .i64 nm.o] from hV3▸(K3.out.place _ rfl).up (B:=g) (by omega) (below_sets (Nat.le_refl g) _ _ _))
  have T3:=hid (show (w3.setCells w.heap.size 0 [.slice A n cap,.int .i64 (p6':Int),.bool b6']).there g 0 7 from there_gb O3 (by omega) (by omega) hsA)
  have XV3:=hid (show Boxd V3 g [.string x.name,.slice y1 y2 y3,.slice y4 y5 y6,.string x.res.name,.slice y7 y8 y9,.int .i64 x.res.off,.int .i64 x.off] from hV3▸set_there (us:=[.string x.name,.slice y1 y2 y3,.slice y4 y5 y6,.string x.res.name,.slice y7 y8 y9,.int .i64 x.res.off,.int .i64 x.off]) T3.out)
  have KP3:=hid (show ∀ i,w.heap.size+4≤i→i<g→V3.heap[i]?=wc.heap[i]? from hV3▸kp_step (kp_step (kp_step KP2.out (gb_of (some 0) hb) (by omega) (.inl (by omega))) hsA (by omega) (.inl (by omega))) (gb_sets1 _ g 0 _) (by rw [size_sets];omega) (.inr (Nat.le_refl _)))
  have D3:=hid (show x.dat.In V3 False (Fr (g+1) V3) [.string x.name,.slice y1 y2 y3,.slice y4 y5 y6,.string x.res.name,.slice y7 y8 y9,.int .i64 x.res.off,.int .i64 x.off] from hV3▸in_gb (gb_sets1 _ _ _ _) (by omega) (in_gb hsA (by omega) (hd.wide fun i hi=>⟨by have:=hi.1;omega,hi.2⟩)))
  have hz3:g+1≤V3.heap.size:=by rw [←hV3,size_sets,size_sets];omega
  have O1:=hid (sg_one hd)
  obtain ⟨q6,hq1,hq2,hq3,hq4⟩:=raft_less (sgF_less q) hra (fun u q=>Got.bind (must [59] q) fun _ q=>Got.bind (itemsG sgF k (acc++[u]) q) (fun gs q=>Got.bind (must [59] q) fun _ q=>.ok ({ dcInter gs with name:=nm.s,off:=nm.o,fs:=fs }:Dc) q))
  have HQ6:=hid (HP0.out.move hq1 (Below.refl _ _))
  have HL3:=hid (And.intro hq2 hq3)
  have HE6:=hid (E1.out.trans hq4)
  have HV3:=hid hV3
  obtain ⟨y00,y01,y02,f0,f1,f2⟩:=K3.out.pk.three
  clear hra hb hd X3 O3 hV3 hsA hq1 hq2 hq3 hq4 C4 x0 x1 x2
  go_upto_region 14 with (refine storeOp flatSg 5 51 (b:=g) (o:=0) (us:=[.string x.name,.slice y1 y2 y3,.slice y4 y5 y6,.string x.res.name,.slice y7 y8 y9,.int .i64 x.res.off,.int .i64 x.off]) rfl rfl T3.out O1.out rfl ?_)
  replace HV3:=hid (show (((w3.setCell ⟨w.heap.size,0,none⟩ (.slice A n cap)).setCell ⟨w.heap.size,1,none⟩ (.int .i64 (p6':Int))).setCell ⟨w.heap.size,2,none⟩ (.bool b6')).setCells g 0 [.string x.name,.slice y1 y2 y3,.slice y4 y5 y6,.string x.res.name,.slice y7 y8 y9,.int .i64 x.res.off,.int .i64 x.off]=V3 from HV3.out)
  rw [HV3.out]
  clear y00 y01 y02 f0 f1 f2 K3 X2 O2 K2 KP2 R2 HV3 O1 T3
  have hc:ItRel w wc V3 A n cap L [.int .i64 2,.string nm.s,.slice F fs.length cf,.slice none 0 0,.slice B acc.length kc,.string ⟨#[]⟩,.slice none 0 0,.string ⟨#[]⟩,.slice none 0 0,.slice none 0 0,.string ⟨#[]⟩,.slice none 0 0,.int .i64 0,.int .i64 0,.int .i64 0,.string ⟨#[]⟩,.string ⟨#[]⟩,.slice none 0 0,.int .i64 0,.slice none 0 0,.slice none 0 0,.int .i64 0,.int .i64 nm.o] g (Sg.dat x) [.string x.name,.slice y1 y2 y3,.slice y4 y5 y6,.string x.res.name,.slice y7 y8 y9,.int .i64 x.res.off,.int .i64 x.off] q q6 p6' b6':=⟨KV3.out,XV3.out,D3.out,KP3.out,HQ6.out,fun h=>HL3.out.2 h,HL3.out.1,hz3⟩
  have HC:=hid hc
  clear KV3 XV3 D3 KP3 HQ6 HL3
  skip
  have HBX:=hid (boxd_at0 hc.box)
  obtain ⟨cs,S,hown,hrows,hzs,hS,hol⟩:=built_far (V':=V3) RWc.out (fun i h1 h2=>hc.keep i (by omega) (by have:=HG.out;omega))
  have HFx:=hid (row_on HFc.out fun i h1 h2=>hc.keep i h1 (by have:=HG.out;omega))
  have hgx:=hc.big
  have hgw:=HG.out
  have HOW:=hid hown
  have HSTP:=hid (fun (gg cp:Nat) (w5:World) h1 h2 h3=>built_more (w5:=w5) (gg:=gg) (cap:=cp) (T:=31) hown hrows hzs (fun b hb=>⟨(hS b hb).1,by have:=(hS b hb).2.1;omega,(hS b hb).2.2⟩) hc.dat (by omega) (fun g' hg'=>by have:=(hol g' hg').2;omega) (Sg.dat_size x) h1 h2 h3)
  have hol2:=fun g' hg'=>(hol g' hg').1
  have HOL:=hid hol2
  have hb5:lo≤(V3.alloc (.cells #[.string x.name,.slice y1 y2 y3,.slice y4 y5 y6,.string x.res.name,.slice y7 y8 y9,.int .i64 x.res.off,.int .i64 x.off] 31)).heap.size:=by simp;omega
  have z3:=hc.pz.box 4 _ rfl
  clear hc hown hrows hzs hS hol hol2
  go_upto_region 20 with (first | (refine loadOp flatSg 5 54 rfl HBX.out rfl ?_) | (at_builtin;refine wpList_append_lies _ rfl _ _ 25 rfl lo 31 i0 _ 7 120 Tryz.underlying25 hi0 hz0 hz1 hz2 rfl (by omega) _ acc.length cs rfl (HOW.out.alloc _) ⟨V3.heap.size,0,none⟩ 1 1 [.string x.name,.slice y1 y2 y3,.slice y4 y5 y6,.string x.res.name,.slice y7 y8 y9,.int .i64 x.res.off,.int .i64 x.off] rfl rfl (World.news_of_block (cs:=#[.string x.name,.slice y1 y2 y3,.slice y4 y5 y6,.string x.res.name,.slice y7 y8 y9,.int .i64 x.res.off,.int .i64 x.off]) (t:=31) (fr:=(0,0)) (heap_alloc_new _ _)) (by simp [Value.oneCell']) (by omega) (by unfold maxLen;omega) (by omega) hb5 _ rfl ?_;intro gg cp w6 hown6 hgrow6 hat6 hlt6;have HO6:=hid (And.intro hown6 (And.intro hgrow6 hat6));clear hown6 hgrow6 hat6 hlt6;have hb6:Below lo V3 w6:=(((Below.refl V3.heap.size V3).alloc (Nat.le_refl _) _).mono (by omega)).trans (below_grown hb5 HO6.out.2.1 HOL.out);have K6:=hid (HC.out.pz.up hlo4 hb6);have z6:=K6.out.box 4 _ rfl;have g6:w6.frozen? ⟨w.heap.size+3,4,none⟩=false:=by (have:=(K6.out.own 4 (by decide)).2;rwa [Nat.zero_add] at this)))
  obtain ⟨V6,hV6⟩:∃ X,w6.setCell ⟨w.heap.size+3,4,none⟩ (.slice (some ⟨gg,0,none⟩) (acc.length+1) cp)=X:=⟨_,rfl⟩
  rw [hV6]
  have hg6:=gb_set w6 (w.heap.size+3) 4 (.slice (some ⟨gg,0,none⟩) (acc.length+1) cp)
  rw [hV6] at hg6
  have KV6:=hid (show Pz w V6 23 [.slice A n cap,.int .i64 (p6':Int),.bool b6'] [.int .i64 2,.string nm.s,.slice F fs.length cf,.slice none 0 0,.slice (some ⟨gg,0,none⟩) (acc.length+1) cp,.string ⟨#[]⟩,.slice none 0 0,.string ⟨#[]⟩,.slice none 0 0,.slice none 0 0,.string ⟨#[]⟩,.slice none 0 0,.int .i64 0,.int .i64 0,.int .i64 0,.string ⟨#[]⟩,.string ⟨#[]⟩,.slice none 0 0,.int .i64 0,.slice none 0 0,.slice none 0 0,.int .i64 0,.int .i64 nm.o] from hV6▸K6.out.field 4 (by decide) _)
  have RW6:=hid (show Built V6 False 31 7 lo (.slice (some ⟨gg,0,none⟩) (acc.length+1) cp) (acc++[x]).length ((acc++[x]).map Sg.dat) from built_gb hg6 (by omega) (by
    have:=HSTP.out gg cp w6 HO6.out.1 HO6.out.2.1 (HO6.out.2.2.imp id fun h=>by simpa using h)
    rw [List.map_append,List.length_append]
    exact this))
  have HF6:=hid (row_on (row_on HFx.out fun i _ h2=>hb6.block i h2) fun i h1 _=>hg6.block i (by have:=hb6.size;omega) (by simpa using (by omega:i≠w.heap.size+3)))
  have hlq2:(acc++[x]).length=acc.length+1:=by simp
  have HQ6:=hid HC.out.pl
  have hs6:lo≤V6.heap.size:=by have h1:=hb6.size;have h2:=hg6.size;omega
  clear hV6 hg6 HO6 HSTP HOW HBX K6 z6 g6 hb6 z3
  obtain ⟨x0,x1,x2,-⟩:=KV6.out.pk.three
  have C11:=hid (show Calls Tryz.prog 52 #[.agg #[.slice A n cap,.int .i64 (p6':Int),.bool b6'],.string ⟨#[59]⟩] V6 (RMustPost A n cap L q6 b6' [59] V6) from rmust_any A n cap p6' L q6 b6' ⟨#[59]⟩ V6 (HQ6.out.later KV6.out.pk.bel))
  go_wp2_with fail
  refine C11.out.mono ?_
  rintro e w11 ⟨p11,b11,rfl,hra,hb⟩
  have KC:=KV6.out.later hb
  obtain ⟨V11,hV⟩:∃ X,w11.setCells w.heap.size 0 [.slice A n cap,.int .i64 (p11:Int),.bool b11]=X:=⟨_,rfl⟩
  have KV11:=hid (show Pz w V11 23 [.slice A n cap,.int .i64 (p11:Int),.bool b11] [.int .i64 2,.string nm.s,.slice F fs.length cf,.slice none 0 0,.slice (some ⟨gg,0,none⟩) (acc.length+1) cp,.string ⟨#[]⟩,.slice none 0 0,.string ⟨#[]⟩,.slice none 0 0,.slice none 0 0,.string ⟨#[]⟩,.slice none 0 0,.int .i64 0,.int .i64 0,.int .i64 0,.string ⟨#[]⟩,.string ⟨#[]⟩,.slice none 0 0,.int .i64 0,.slice none 0 0,.slice none 0 0,.int .i64 0,.int .i64 nm.o] from hV▸(KC.place [.slice A n cap,.int .i64 (p11:Int),.bool b11] rfl))
  have d2:Dk (w.heap.size+4) w11 V11:=hV▸dk_gb (gb_sets1 w11 w.heap.size 0 [.slice A n cap,.int .i64 (p11:Int),.bool b11]) (by omega)
  have D2V11:=hid d2
  have D1V11:=hid ((dk_below hb).trans d2)
  have HV11:=hid (show ((w11.setCell ⟨w.heap.size,0,none⟩ (.slice A n cap)).setCell ⟨w.heap.size,1,none⟩ (.int .i64 (p11:Int))).setCell ⟨w.heap.size,2,none⟩ (.bool b11)=V11 from hV)
  obtain ⟨q11,hq1,hq2,hq3⟩:=raft_step (Less.ends (must_less [59] q6)) hra (fun _ q=>Got.bind (itemsG sgF k (acc++[x]) q) (fun gs q=>Got.bind (must [59] q) fun _ q=>.ok ({ dcInter gs with name:=nm.s,off:=nm.o,fs:=fs }:Dc) q))
  have HQ11:=hid (HP0.out.move hq1 (Below.refl _ _))
  have RB11:=hid (show Built V11 False _ _ lo _ _ _ from hV▸built_gb (gb_sets1 w11 w.heap.size 0 _) (by omega) (RW6.out.later hb))
  have HL11:=hid hq2
  have HB11:=hid (raft_false hra)
  have E11:=hid (show stop b l (typedR l)=stop b11 q11 (Got.bind (itemsG sgF k (acc++[x]) q11) (fun gs q=>Got.bind (must [59] q) fun _ q=>.ok ({ dcInter gs with name:=nm.s,off:=nm.o,fs:=fs }:Dc) q)) from HE6.out.trans hq3)
  obtain ⟨y0,y1,y2,f0,f1,f2⟩:=KC.pk.three
  clear hra hb KC d2 hV hq1 hq2 hq3 C11 x0 x1 x2
  go_wp2_with fail
  skip
  skip
  rw [HV11.out]
  clear y0 y1 y2 f0 f1 f2
  go_roundw
  case rel =>
    refine ⟨_,acc++[x],q11,p11,b11,k,⟨KV11.out,row_on HF6.out fun i h1 h2=>D1V11.out.block i h1 (by omega),HQ11.out,RB11.out,⟨hlo4,by have:=D1V11.out.size;omega⟩,fun h=>?_,?_⟩,fun h=>?_,E11.out⟩
    · have h1:=HC.out.len (HB11.out h)
      have h2:=HR.out.few.1 rfl
      have h3:=HL11.out
      rw [hlq2]
      omega
    · have h2:=HR.out.few.1 rfl
      rw [hlq2]
      omega
    have h1:=HC.out.len (HB11.out h)
    have h3:=HL11.out
    omega
  case measure =>
    have h1:=KV11.out.box 4 _ rfl
    have h2:=HR.out.pz.box 4 _ rfl
    rw [h1,h2]
    simp [lenOf]
    omega
