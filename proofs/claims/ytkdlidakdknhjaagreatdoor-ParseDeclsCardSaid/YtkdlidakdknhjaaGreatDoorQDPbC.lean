/- The walk of sig of layer 8's reference. The condition: the place stands in tokens of a text. -/
import Derived.Test.YtkdlidakdknhjaaGreatDoorQDPaC
import Derived.Test.YtkdlidakdknhjaaGreatDoorQDPbB
import Derived.Test.YtkdlidakdknhjaaGreatDoorQDRfX
import Derived.Lib.IndexAny
import Derived.WalkMore
set_option maxRecDepth 100000
set_option maxHeartbeats 8000000
open Go.Lib (hid)
namespace Go.Proofs.YtkdlidakdknhjaaGreatDoor.Rd
open Go.RowKit
structure Pz (w V:World) (z:Nat) (ps us:List Value):Prop where
  pk:Pk w V [3,z] ps
  box:Boxd V (w.heap.size+3) us
  own:V.there (w.heap.size+3) 0 z
  len:us.length=z
  big:w.heap.size+4≤V.heap.size
theorem Pz.up {w V V':World} {z:Nat} {ps us:List Value} {B:Nat} (h:Pz w V z ps us) (hB:w.heap.size+4≤B) (hb:Below B V V'):Pz w V' z ps us :=
  ⟨h.pk.up (by simp;omega) hb,fun j u hu=>(hb.cell (p:=⟨w.heap.size+3,j,none⟩) (by show w.heap.size+3<B;omega)).trans (h.box j u hu),there_upB h.own (by omega) hb,h.len,Nat.le_trans h.big hb.size⟩
theorem Pz.later {w V V':World} {z:Nat} {ps us:List Value} (h:Pz w V z ps us) (hb:Below V.heap.size V V'):Pz w V' z ps us:=h.up h.big hb
theorem Pz.place {w V:World} {z:Nat} {ps us:List Value} (h:Pz w V z ps us) (ps':List Value) (hl:ps'.length=3):Pz w (V.setCells w.heap.size 0 ps') z ps' us :=
  ⟨h.pk.place ps' hl,boxd_gb (gb_sets1 V w.heap.size 0 ps') (by omega) h.box,World.there_setCells h.own _ _ _,h.len,by rw [size_sets];exact h.big⟩
theorem Pz.placeAt {w V:World} {z:Nat} {ps us:List Value} (h:Pz w V z ps us) (j:Nat) (hj:j<3) (v:Value):Pz w (V.setCell ⟨w.heap.size,j,none⟩ v) z (ps.set j v) us :=
  ⟨h.pk.placeAt j hj v,boxd_gb (gb_set V w.heap.size j v) (by omega) h.box,World.there_setCells h.own w.heap.size j [v],h.len,by have e:=size_sets w.heap.size [v] j V;rw [show (V.setCell ⟨w.heap.size,j,none⟩ v).heap.size=V.heap.size from e];exact h.big⟩
theorem Pz.field {w V:World} {z:Nat} {ps us:List Value} (h:Pz w V z ps us) (j:Nat) (hj:j<z) (v:Value):Pz w (V.setCell ⟨w.heap.size+3,j,none⟩ v) z ps (us.set j v) :=
  ⟨h.pk.up (B:=w.heap.size+3) (by simp) (below_sets (Nat.le_refl _) [v] j V),boxd_two h.box (by rw [h.len];exact hj),World.there_setCells h.own (w.heap.size+3) j [v],by rw [List.length_set];exact h.len,by have e:=size_sets (w.heap.size+3) [v] j V;rw [show (V.setCell ⟨w.heap.size+3,j,none⟩ v).heap.size=V.heap.size from e];exact h.big⟩
structure Dk (lo:Nat) (a b:World):Prop where
  size:a.heap.size≤b.heap.size
  block:∀ i,lo≤i→i<a.heap.size→b.heap[i]?=a.heap[i]?
theorem Dk.trans {lo:Nat} {a b c:World} (h:Dk lo a b) (k:Dk lo b c):Dk lo a c:=⟨Nat.le_trans h.size k.size,fun i h1 h2=>(k.block i h1 (Nat.lt_of_lt_of_le h2 h.size)).trans (h.block i h1 h2)⟩
theorem dk_gb {lo c:Nat} {a b:World} (h:a.grownBy b (some c)) (hc:c<lo):Dk lo a b:=⟨h.size,fun i h1 h2=>h.block i h2 (by simpa using (by omega:i≠c))⟩
theorem dk_below {lo:Nat} {a b:World} (h:Below a.heap.size a b):Dk lo a b:=⟨h.size,fun i _ h2=>h.block i h2⟩
theorem Dk.kept {lo l2:Nat} {a b:World} (h:Dk lo a b) (hl:lo≤l2):Kept a b (Fr l2 a):=fun _ hp=>⟨World.cell?_of_block (h.block _ (Nat.le_trans hl hp.1) hp.2),World.frozen?_of_block (h.block _ (Nat.le_trans hl hp.1) hp.2)⟩
theorem Dk.dat {lo l2:Nat} {a b:World} (h:Dk lo a b) (hl:lo≤l2) {d:Dat} {us:List Value} (hd:d.In a False (Fr l2 a) us):d.In b False (Fr lo b) us :=
  Dat.In.keep id (h.kept hl) (fun _ hk=>⟨Nat.le_trans hl hk.1,Nat.lt_of_lt_of_le hk.2 h.size⟩) d us hd
theorem Dk.row {lo l2 z n:Nat} {a b:World} (h:Dk lo a b) (hl:lo≤l2) {A:Option Addr} {ds:List Dat} (hd:Row a False (Fr l2 a) z A n ds):Row b False (Fr lo b) z A n ds :=
  hd.keep id (h.kept hl) fun _ hk=>⟨Nat.le_trans hl hk.1,Nat.lt_of_lt_of_le hk.2 h.size⟩
theorem raft_step {α β:Type} {w:World} {A:Option Addr} {n:Nat} {L:List Tk} {p:Nat} {b b':Bool} {t:α} {r:List Tk} {g:Got α} (he:Got.Ends r g) (h:RAft w A n L p b' t (stop b r g)) (f:α→List Tk→Got β) :
    ∃ q,Pl w A n L p q∧q.length≤r.length∧stop b r (Got.bind g f)=stop b' q (f t q):=by
  cases b with
  | true=>obtain ⟨rfl,h3⟩:=h;exact ⟨r,h3,Nat.le_refl _,rfl⟩
  | false =>
    cases g with
    | ok u q=>obtain ⟨rfl,rfl,h3⟩:=h;exact ⟨q,h3,he.length_le,rfl⟩
    | bad q=>obtain ⟨rfl,h3⟩:=h;exact ⟨q,h3,he.length_le,rfl⟩
def RSgPost (A:Option Addr) (n cap:Nat) (L l:List Tk) (b:Bool) (w:World) (e:Ending) (w':World):Prop:=∃ (sg:Sg) (us:List Value) (p':Nat) (b':Bool),e=.returned (.tuple #[.agg #[.slice A n cap,.int .i64 p',.bool b'],.agg us.toArray])∧sg.dat.In w' False (Fr w.heap.size w') us∧RAft w' A n L p' b' sg (stop b l (sgF l))∧Below w.heap.size w w'
structure SgRel (w V:World) (A:Option Addr) (n cap:Nat) (L:List Tk) (nm:Tk) (fs:List Fo) (F:Option Addr) (cf:Nat) (ps:List Fo) (P:Option Addr) (cp:Nat) (q:List Tk) (p:Nat) (b:Bool):Prop where
  pz:Pz w V 7 [.slice A n cap,.int .i64 (p:Int),.bool b] [.string nm.s,.slice F fs.length cf,.slice P ps.length cp,.string ⟨#[]⟩,.slice none 0 0,.int .i64 0,.int .i64 nm.o]
  fs:Row V False (Fr (w.heap.size+4) V) 5 F fs.length (fs.map Fo.dat)
  ps:Row V False (Fr (w.heap.size+4) V) 5 P ps.length (ps.map Fo.dat)
  pl:Pl w A n L p q
theorem results_rsig {w:World} {b b2:Nat} {us vs:List Value} (tmps:Array Value) (ht:tmps[2]?.getD undef=.pointer (some ⟨b,0,none⟩)) (ht2:tmps[3]?.getD undef=.pointer (some ⟨b2,0,none⟩)) (hc:Boxd w b us) (hl:us.length=3) (hc2:Boxd w b2 vs) (hl2:vs.length=7):(results Tryz.f54 tmps).run Tryz.prog w=.ok (.tuple #[.agg us.toArray,.agg vs.toArray]) w:=by
  have h:=run_cell flatPl hc hl
  have h2:=run_addr ⟨b,0,none⟩ w
  have h3:=run_cell flatSg hc2 hl2
  have h4:=run_addr ⟨b2,0,none⟩ w
  simp [results,Tryz.results54,ht,ht2,h,h2,h3,h4,Sem.run_bind,Result.andThen]
theorem rsig_any8 (A:Option Addr) (n cap p:Nat) (L l:List Tk) (b:Bool) (w:World) (h:Pl w A n L p l) :
    Calls Tryz.prog 54 #[.agg #[.slice A n cap,.int .i64 p,.bool b]] w (RSgPost A n cap L l b w):=by
  obtain ⟨W,hW,hb,hz,hbx,ht1,ht2⟩:=two_pl w A n cap p b
  obtain ⟨W1,hW1⟩:∃ X,W.alloc (.cells #[.string ⟨#[]⟩,.slice none 0 0,.slice none 0 0,.string ⟨#[]⟩,.slice none 0 0,.int .i64 0,.int .i64 0] 31)=X:=⟨_,rfl⟩
  have hb1:Below W.heap.size W W1:=hW1▸(Below.refl _ _).alloc (Nat.le_refl _) _
  have hs1:W1.heap.size=w.heap.size+3:=by rw [←hW1];simp;omega
  obtain ⟨V,hV⟩:∃ X,W1.alloc (.cells #[.string ⟨#[]⟩,.slice none 0 0,.slice none 0 0,.string ⟨#[]⟩,.slice none 0 0,.int .i64 0,.int .i64 0] 31)=X:=⟨_,rfl⟩
  have hb2:Below W1.heap.size W1 V:=hV▸(Below.refl _ _).alloc (Nat.le_refl _) _
  have hs2:V.heap.size=w.heap.size+4:=by rw [←hV];simp;omega
  have hbb:=hb1.trans (hb2.mono hb1.size)
  have t3:V.there (w.heap.size+2) 0 7:=there_upB (B:=W1.heap.size) (hz▸hW1▸there_new W #[.string ⟨#[]⟩,.slice none 0 0,.slice none 0 0,.string ⟨#[]⟩,.slice none 0 0,.int .i64 0,.int .i64 0] 31) (by omega) hb2
  have HKV:=hid (show Pz w V 7 [.slice A n cap,.int .i64 (p:Int),.bool b] [.string ⟨#[]⟩,.slice none 0 0,.slice none 0 0,.string ⟨#[]⟩,.slice none 0 0,.int .i64 0,.int .i64 0] from ⟨⟨hb.trans (hbb.mono hb.size),by simp;omega,hbx.later hbb,there_upB ht1 (by omega) hbb,(fun i z hi=>by
    match i,hi with
    | 0,hi=>obtain rfl:=Option.some.inj hi;exact there_upB ht2 (by omega) hbb
    | 1,hi=>obtain rfl:=Option.some.inj hi;exact t3
    | i+2,hi=>simp at hi),rfl⟩,hs1▸hV▸Boxd.new W1 #[.string ⟨#[]⟩,.slice none 0 0,.slice none 0 0,.string ⟨#[]⟩,.slice none 0 0,.int .i64 0,.int .i64 0] 31,hs1▸hV▸there_new W1 #[.string ⟨#[]⟩,.slice none 0 0,.slice none 0 0,.string ⟨#[]⟩,.slice none 0 0,.int .i64 0,.int .i64 0] 31,rfl,by omega⟩)
  have HW:=hid hW
  have HW1:=hid hW1
  have HV:=hid hV
  have HZ:=hid hz
  have HS1:=hid hs1
  have HS2:=hid hs2
  have HP0:=hid h
  have C2:=hid (rname_any A n cap p L l b V (h.later HKV.out.pk.bel))
  clear h hW hb hz hbx ht1 ht2 hW1 hV hb1 hb2 hs1 hs2 hbb t3
  go_enter Tryz.func54,Tryz.ntmps54
  go_upto_region 1 with fail
  rw [HW.out,HW1.out]
  go_upto_region 2 with fail
  rw [HV.out,HS1.out]
  obtain ⟨x0,x1,x2,-⟩:=HKV.out.pk.three
  go_wp2_with fail
  refine C2.out.mono ?_
  rintro e w2 ⟨nm,p2,b2,rfl,hzn,hra,hb,-⟩
  rw [show (plV A n cap p2 b2).toArray=#[.slice A n cap,.int .i64 p2,.bool b2] from rfl]
  have KC:=HKV.out.later hb
  obtain ⟨V2,hV⟩:∃ X,((w2.setCells w.heap.size 0 [.slice A n cap,.int .i64 (p2:Int),.bool b2]).setCell ⟨w.heap.size+3,0,none⟩ (.string nm.s)).setCell ⟨w.heap.size+3,6,none⟩ (.int .i64 nm.o)=X:=⟨_,rfl⟩
  have KV2:=hid (show Pz w V2 7 [.slice A n cap,.int .i64 (p2:Int),.bool b2] [.string nm.s,.slice none 0 0,.slice none 0 0,.string ⟨#[]⟩,.slice none 0 0,.int .i64 0,.int .i64 nm.o] from hV▸(((KC.place [.slice A n cap,.int .i64 (p2:Int),.bool b2] rfl).field 0 (by decide) (.string nm.s)).field 6 (by decide) (.int .i64 nm.o)))
  have d2:Dk (w.heap.size+4) w2 V2:=hV▸((dk_gb (gb_sets1 w2 w.heap.size 0 [.slice A n cap,.int .i64 (p2:Int),.bool b2]) (by omega)).trans (dk_gb (gb_set (w2.setCells w.heap.size 0 [.slice A n cap,.int .i64 (p2:Int),.bool b2]) (w.heap.size+3) 0 (.string nm.s)) (by omega))).trans (dk_gb (gb_set ((w2.setCells w.heap.size 0 [.slice A n cap,.int .i64 (p2:Int),.bool b2]).setCell ⟨w.heap.size+3,0,none⟩ (.string nm.s)) (w.heap.size+3) 6 (.int .i64 nm.o)) (by omega))
  have D2V2:=hid d2
  have D1V2:=hid ((dk_below hb).trans d2)
  have HV2:=hid (show ((((w2.setCell ⟨w.heap.size,0,none⟩ (.slice A n cap)).setCell ⟨w.heap.size,1,none⟩ (.int .i64 (p2:Int))).setCell ⟨w.heap.size,2,none⟩ (.bool b2)).setCell ⟨w.heap.size+3,0,none⟩ (.string nm.s)).setCell ⟨w.heap.size+3,6,none⟩ (.int .i64 nm.o)=V2 from hV)
  obtain ⟨q2,hq1,hq2,hq3⟩:=raft_step (Less.ends (name_less l)) hra (fun t q=>Got.bind (bracketsG foF q) fun fs q=>Got.bind (paramsF q) fun ps q=>Got.bind (tyA q) fun r q=>.ok (⟨t.s,fs,ps,r,t.o⟩:Sg) q)
  have HQ2:=hid (HP0.out.move hq1 (Below.refl _ _))
  have E2:=hid (show stop b l (sgF l)=_ from hq3)
  have HZN:=hid hzn
  obtain ⟨y0,y1,y2,f0,f1,f2⟩:=KC.pk.three
  have z0:=KC.box 0 _ rfl
  have g0:w2.frozen? ⟨w.heap.size+3,0,none⟩=false:=by have:=(KC.own 0 (by decide)).2;rwa [Nat.zero_add] at this
  have z6:=KC.box 6 _ rfl
  have g6:w2.frozen? ⟨w.heap.size+3,6,none⟩=false:=by have:=(KC.own 6 (by decide)).2;rwa [Nat.zero_add] at this
  clear hzn hra hb KC d2 hV hq1 hq2 hq3 C2 x0 x1 x2
  go_upto_region 3 with fail
  rw [HV2.out]
  clear y0 y1 y2 f0 f1 f2 z0 g0 z6 g6
  obtain ⟨x0,x1,x2,-⟩:=KV2.out.pk.three
  have C3:=hid (rformals_any8 A n cap p2 L q2 b2 V2 (HQ2.out.later KV2.out.pk.bel))
  go_wp2_with fail
  refine C3.out.mono ?_
  rintro e w3 ⟨fs,F,cf,p3,b3,rfl,hrow,hlen,hra,hb⟩
  have KC:=KV2.out.later hb
  obtain ⟨V3,hV⟩:∃ X,(w3.setCells w.heap.size 0 [.slice A n cap,.int .i64 (p3:Int),.bool b3]).setCell ⟨w.heap.size+3,1,none⟩ (.slice F fs.length cf)=X:=⟨_,rfl⟩
  have KV3:=hid (show Pz w V3 7 [.slice A n cap,.int .i64 (p3:Int),.bool b3] [.string nm.s,.slice F fs.length cf,.slice none 0 0,.string ⟨#[]⟩,.slice none 0 0,.int .i64 0,.int .i64 nm.o] from hV▸((KC.place [.slice A n cap,.int .i64 (p3:Int),.bool b3] rfl).field 1 (by decide) (.slice F fs.length cf)))
  have d2:Dk (w.heap.size+4) w3 V3:=hV▸(dk_gb (gb_sets1 w3 w.heap.size 0 [.slice A n cap,.int .i64 (p3:Int),.bool b3]) (by omega)).trans (dk_gb (gb_set (w3.setCells w.heap.size 0 [.slice A n cap,.int .i64 (p3:Int),.bool b3]) (w.heap.size+3) 1 (.slice F fs.length cf)) (by omega))
  have D2V3:=hid d2
  have D1V3:=hid ((dk_below hb).trans d2)
  have HV3:=hid (show (((w3.setCell ⟨w.heap.size,0,none⟩ (.slice A n cap)).setCell ⟨w.heap.size,1,none⟩ (.int .i64 (p3:Int))).setCell ⟨w.heap.size,2,none⟩ (.bool b3)).setCell ⟨w.heap.size+3,1,none⟩ (.slice F fs.length cf)=V3 from hV)
  have HFS:=hid (show Row V3 False (Fr (w.heap.size+4) V3) 5 F fs.length (fs.map Fo.dat) from d2.row KV2.out.big hrow)
  obtain ⟨q3,hq1,hq2,hq3⟩:=raft_step (bracketsG_ends foF_less q2) hra (fun fs q=>Got.bind (paramsF q) fun ps q=>Got.bind (tyA q) fun r q=>.ok (⟨nm.s,fs,ps,r,nm.o⟩:Sg) q)
  have HQ3:=hid (HP0.out.move hq1 (Below.refl _ _))
  have E3:=hid (E2.out.trans hq3)
  have HLF:=hid hlen
  obtain ⟨y0,y1,y2,f0,f1,f2⟩:=KC.pk.three
  have z1:=KC.box 1 _ rfl
  have g1:w3.frozen? ⟨w.heap.size+3,1,none⟩=false:=by have:=(KC.own 1 (by decide)).2;rwa [Nat.zero_add] at this
  clear hrow hlen hra hb KC d2 hV hq1 hq2 hq3 C3 x0 x1 x2
  go_upto_region 4 with fail
  rw [HV3.out]
  clear y0 y1 y2 f0 f1 f2 z1 g1
  obtain ⟨x0,x1,x2,-⟩:=KV3.out.pk.three
  have C4:=hid (show Calls Tryz.prog 52 #[.agg #[.slice A n cap,.int .i64 (p3:Int),.bool b3],.string ⟨#[40]⟩] V3 (RMustPost A n cap L q3 b3 [40] V3) from rmust_any A n cap p3 L q3 b3 ⟨#[40]⟩ V3 (HQ3.out.later KV3.out.pk.bel))
  go_wp2_with fail
  refine C4.out.mono ?_
  rintro e w4 ⟨p4,b4,rfl,hra,hb⟩
  have KC:=KV3.out.later hb
  obtain ⟨V4,hV⟩:∃ X,w4.setCells w.heap.size 0 [.slice A n cap,.int .i64 (p4:Int),.bool b4]=X:=⟨_,rfl⟩
  have KV4:=hid (show Pz w V4 7 [.slice A n cap,.int .i64 (p4:Int),.bool b4] [.string nm.s,.slice F fs.length cf,.slice none 0 0,.string ⟨#[]⟩,.slice none 0 0,.int .i64 0,.int .i64 nm.o] from hV▸(KC.place [.slice A n cap,.int .i64 (p4:Int),.bool b4] rfl))
  have d2:Dk (w.heap.size+4) w4 V4:=hV▸dk_gb (gb_sets1 w4 w.heap.size 0 [.slice A n cap,.int .i64 (p4:Int),.bool b4]) (by omega)
  have D2V4:=hid d2
  have D1V4:=hid ((dk_below hb).trans d2)
  have HV4:=hid (show ((w4.setCell ⟨w.heap.size,0,none⟩ (.slice A n cap)).setCell ⟨w.heap.size,1,none⟩ (.int .i64 (p4:Int))).setCell ⟨w.heap.size,2,none⟩ (.bool b4)=V4 from hV)
  have HFS4:=hid (D1V4.out.row (Nat.le_refl _) HFS.out)
  obtain ⟨q4,hq1,hq2,hq3⟩:=raft_step (Less.ends (must_less [40] q3)) hra (fun _ q=>Got.bind (if isT [41] q then .ok [] q.tail else listG foF [41] q) fun ps q=>Got.bind (tyA q) fun r q=>.ok (⟨nm.s,fs,ps,r,nm.o⟩:Sg) q)
  have HQ4:=hid (HP0.out.move hq1 (Below.refl _ _))
  have E4:=hid (show stop b l (sgF l)=_ from E3.out.trans ((by rw [paramsF,bind_bind]:stop b3 q3 (Got.bind (paramsF q3) (fun ps q=>Got.bind (tyA q) fun r q=>.ok (⟨nm.s,fs,ps,r,nm.o⟩:Sg) q))=stop b3 q3 (Got.bind (must [40] q3) (fun _ q=>Got.bind (if isT [41] q then .ok [] q.tail else listG foF [41] q) fun ps q=>Got.bind (tyA q) fun r q=>.ok (⟨nm.s,fs,ps,r,nm.o⟩:Sg) q))).trans hq3))
  obtain ⟨y0,y1,y2,f0,f1,f2⟩:=KC.pk.three
  clear hra hb KC d2 hV hq1 hq2 hq3 C4 x0 x1 x2
  go_upto_region 5 with fail
  rw [HV4.out]
  clear y0 y1 y2 f0 f1 f2 
  have C5:=hid (show Calls Tryz.prog 16 #[.agg #[.slice A n cap,.int .i64 (p4:Int),.bool b4],.string ⟨#[41]⟩] V4 (BoolPost (nextB b4 [41] q4) V4) from ris_any A n cap p4 L q4 b4 ⟨#[41]⟩ V4 (HQ4.out.later KV4.out.pk.bel))
  go_cut [23] from 22 to 23 (fun s23 wx=>s23=.bool (nextB b4 [41] q4)∧Below V4.heap.size V4 wx)
  case first =>
    obtain ⟨x0,x1,x2,-⟩:=KV4.out.pk.three
    go_wp2_with fail
    refine C5.out.mono ?_
    rintro e w5 ⟨rfl,hb⟩
    have HB:=hid hb
    clear hb C5 x0 x1 x2
    go_wp2_with fail
    go_meet
    exact ⟨rfl,HB.out⟩
  obtain ⟨rfl,hb⟩:=hcut
  have K5:=hid (KV4.out.later hb)
  have HFS5:=hid ((dk_below hb).row (Nat.le_refl _) HFS4.out)
  obtain ⟨cc,hcc⟩:∃ c,nextB b4 [41] q4=c:=⟨_,rfl⟩
  rw [hcc]
  have HCC:=hid hcc
  clear hcc hb C5
  go_upto_if 23 with fail
  go_cut [24] from 24 to 33 (fun _ wx=>∃ ps P cp q6 p6 b6,SgRel w wx A n cap L nm fs F cf ps P cp q6 p6 b6∧ps.length≤100003∧stop b l (sgF l)=stop b6 q6 (Got.bind (tyA q6) fun r q=>.ok (⟨nm.s,fs,ps,r,nm.o⟩:Sg) q))
  case first =>
   have hx:=HCC.out
   cases cc
   · have HX:=hid hx
     obtain ⟨x0,x1,x2,-⟩:=K5.out.pk.three
     have C7:=hid (show Calls Tryz.prog 101 #[.agg #[.slice A n cap,.int .i64 (p4:Int),.bool b4],.string ⟨#[41]⟩] wc (RParPost A n cap L q4 [41] b4 wc) from rpairs_any A n cap p4 L q4 b4 ⟨#[41]⟩ wc (HQ4.out.later K5.out.pk.bel))
     clear hx
     go_wp2_with fail
     refine C7.out.mono ?_
     rintro e w7 ⟨ps,P,cp,p7,b7,rfl,hrow,hlen,hra,hb⟩
     have KC:=K5.out.later hb
     obtain ⟨V7,hV⟩:∃ X,(w7.setCells w.heap.size 0 [.slice A n cap,.int .i64 (p7:Int),.bool b7]).setCell ⟨w.heap.size+3,2,none⟩ (.slice P ps.length cp)=X:=⟨_,rfl⟩
     have KV7:=hid (show Pz w V7 7 [.slice A n cap,.int .i64 (p7:Int),.bool b7] [.string nm.s,.slice F fs.length cf,.slice P ps.length cp,.string ⟨#[]⟩,.slice none 0 0,.int .i64 0,.int .i64 nm.o] from hV▸((KC.place [.slice A n cap,.int .i64 (p7:Int),.bool b7] rfl).field 2 (by decide) (.slice P ps.length cp)))
     have d2:Dk (w.heap.size+4) w7 V7:=hV▸(dk_gb (gb_sets1 w7 w.heap.size 0 [.slice A n cap,.int .i64 (p7:Int),.bool b7]) (by omega)).trans (dk_gb (gb_set (w7.setCells w.heap.size 0 [.slice A n cap,.int .i64 (p7:Int),.bool b7]) (w.heap.size+3) 2 (.slice P ps.length cp)) (by omega))
     have D2V7:=hid d2
     have D1V7:=hid ((dk_below hb).trans d2)
     have HV7:=hid (show (((w7.setCell ⟨w.heap.size,0,none⟩ (.slice A n cap)).setCell ⟨w.heap.size,1,none⟩ (.int .i64 (p7:Int))).setCell ⟨w.heap.size,2,none⟩ (.bool b7)).setCell ⟨w.heap.size+3,2,none⟩ (.slice P ps.length cp)=V7 from hV)
     have HPS7:=hid (show Row V7 False (Fr (w.heap.size+4) V7) 5 P ps.length (ps.map Fo.dat) from d2.row K5.out.big hrow)
     obtain ⟨q7,hq1,hq2,hq3⟩:=raft_step (Less.ends (listG_less foF_less [41] q4)) hra (fun ps q=>Got.bind (tyA q) fun r q=>.ok (⟨nm.s,fs,ps,r,nm.o⟩:Sg) q)
     have HQ7:=hid (HP0.out.move hq1 (Below.refl _ _))
     have E7:=hid (show stop b l (sgF l)=_ from E4.out.trans ((by
       cases b4
       · have hi:isT [41] q4=false:=by simpa [nextB] using HX.out
         rw [hi];rfl
       rfl:stop b4 q4 (Got.bind (if isT [41] q4 then .ok [] q4.tail else listG foF [41] q4) (fun ps q=>Got.bind (tyA q) fun r q=>.ok (⟨nm.s,fs,ps,r,nm.o⟩:Sg) q))=stop b4 q4 (Got.bind (listG foF [41] q4) (fun ps q=>Got.bind (tyA q) fun r q=>.ok (⟨nm.s,fs,ps,r,nm.o⟩:Sg) q))).trans hq3))
     have HLP:=hid hlen
     obtain ⟨y0,y1,y2,f0,f1,f2⟩:=KC.pk.three
     have z2:=KC.box 2 _ rfl
     have g2:w7.frozen? ⟨w.heap.size+3,2,none⟩=false:=by have:=(KC.own 2 (by decide)).2;rwa [Nat.zero_add] at this
     clear hrow hlen hra hb KC d2 hV hq1 hq2 hq3 C7 x0 x1 x2
     go_wp2_with fail
     go_meet
     rw [HV7.out]
     exact ⟨ps,P,cp,q7,p7,b7,⟨KV7.out,D1V7.out.row (Nat.le_refl _) HFS5.out,HPS7.out,HQ7.out⟩,HLP.out,E7.out⟩
   have HX:=hid hx
   obtain ⟨rfl,hi⟩:=nextB_cons hx
   have HI:=hid hi
   obtain ⟨t1,r1,rfl,hk1,-⟩:=isT_cons hi
   have HPS:=hid (HQ4.out.step hk1)
   obtain ⟨x0,x1,x2,f0,f1,f2⟩:=K5.out.pk.three
   have yp:(p4:Int)≤100000:=by have:=HQ4.out.lt;have:=HQ4.out.len;omega
   have yp0:(0:Int)≤p4:=by omega
   clear hx hi hk1
   go_wp2_with fail
   go_meet
   have d:=dk_gb (lo:=w.heap.size+4) (gb_set wc w.heap.size 1 (.int .i64 ((p4:Int)+1))) (by omega)
   refine ⟨[],none,0,r1,p4+1,false,⟨K5.out.placeAt 1 (by omega) (.int .i64 ((p4:Int)+1)),d.row (Nat.le_refl _) HFS5.out,Row.nil _ _ _ _ _,HPS.out⟩,by simp,?_⟩
   rw [E4.out,HI.out]
   rfl
  obtain ⟨ps,P,cp,q6,p6,b6,hsg,hlp,he6⟩:=hcut
  have HSG:=hid hsg
  have HLP:=hid hlp
  have E6:=hid he6
  have HNM:=hid (show nm.s.size≤9223372036854775807 by have:=HZN.out;omega)
  clear hsg hlp he6
  obtain ⟨x0,x1,x2,-⟩:=HSG.out.pz.pk.three
  go_upto_if 36 with fail
  go_cut [37] from 37 to 42 (fun _ wx=>∃ (sg:Sg) (us:List Value) (p6:Nat) (b6:Bool),Pz w wx 7 [.slice A n cap,.int .i64 (p6:Int),.bool b6] us∧sg.dat.In wx False (Fr (w.heap.size+4) wx) us∧RAft wx A n L p6 b6 sg (stop b l (sgF l)))
  case first =>
    cases b6
    · have C9:=hid (rtype_any (2*q6.length+2) A n cap p6 L q6 wc (HSG.out.pl.later HSG.out.pz.pk.bel) (by omega))
      go_wp2_with fail
      refine C9.out.mono ?_
      rintro e w9 ⟨r,us,p9,b9,rfl,hd,hra,hb⟩
      obtain ⟨Y,m,k,rfl,-⟩:=ty_open hd
      have KC:=HSG.out.pz.later hb
      obtain ⟨V9,hV⟩:∃ X,(((w9.setCells w.heap.size 0 [.slice A n cap,.int .i64 (p9:Int),.bool b9]).setCell ⟨w.heap.size+3,3,none⟩ (.string r.name)).setCell ⟨w.heap.size+3,4,none⟩ (.slice Y m k)).setCell ⟨w.heap.size+3,5,none⟩ (.int .i64 r.off)=X:=⟨_,rfl⟩
      have KV9:=hid (show Pz w V9 7 [.slice A n cap,.int .i64 (p9:Int),.bool b9] [.string nm.s,.slice F fs.length cf,.slice P ps.length cp,.string r.name,.slice Y m k,.int .i64 r.off,.int .i64 nm.o] from hV▸((((KC.place [.slice A n cap,.int .i64 (p9:Int),.bool b9] rfl).field 3 (by decide) (.string r.name)).field 4 (by decide) (.slice Y m k)).field 5 (by decide) (.int .i64 r.off)))
      have d2:Dk (w.heap.size+4) w9 V9:=hV▸(((dk_gb (gb_sets1 w9 w.heap.size 0 [.slice A n cap,.int .i64 (p9:Int),.bool b9]) (by omega)).trans (dk_gb (gb_set (w9.setCells w.heap.size 0 [.slice A n cap,.int .i64 (p9:Int),.bool b9]) (w.heap.size+3) 3 (.string r.name)) (by omega))).trans (dk_gb (gb_set ((w9.setCells w.heap.size 0 [.slice A n cap,.int .i64 (p9:Int),.bool b9]).setCell ⟨w.heap.size+3,3,none⟩ (.string r.name)) (w.heap.size+3) 4 (.slice Y m k)) (by omega))).trans (dk_gb (gb_set (((w9.setCells w.heap.size 0 [.slice A n cap,.int .i64 (p9:Int),.bool b9]).setCell ⟨w.heap.size+3,3,none⟩ (.string r.name)).setCell ⟨w.heap.size+3,4,none⟩ (.slice Y m k)) (w.heap.size+3) 5 (.int .i64 r.off)) (by omega))
      have D2V9:=hid d2
      have D1V9:=hid ((dk_below hb).trans d2)
      have HV9:=hid (show (((((w9.setCell ⟨w.heap.size,0,none⟩ (.slice A n cap)).setCell ⟨w.heap.size,1,none⟩ (.int .i64 (p9:Int))).setCell ⟨w.heap.size,2,none⟩ (.bool b9)).setCell ⟨w.heap.size+3,3,none⟩ (.string r.name)).setCell ⟨w.heap.size+3,4,none⟩ (.slice Y m k)).setCell ⟨w.heap.size+3,5,none⟩ (.int .i64 r.off)=V9 from hV)
      have HT9:=hid (show r.dat.In V9 False (Fr (w.heap.size+4) V9) [.string r.name,.slice Y m k,.int .i64 r.off] from d2.dat HSG.out.pz.big hd)
      have HRA:=hid (show RAft w9 A n L p9 b9 r (tyA q6) from hra)
      obtain ⟨y0,y1,y2,f0,f1,f2⟩:=KC.pk.three
      have z3:=KC.box 3 _ rfl
      have g3:w9.frozen? ⟨w.heap.size+3,3,none⟩=false:=by have:=(KC.own 3 (by decide)).2;rwa [Nat.zero_add] at this
      have z4:=KC.box 4 _ rfl
      have g4:w9.frozen? ⟨w.heap.size+3,4,none⟩=false:=by have:=(KC.own 4 (by decide)).2;rwa [Nat.zero_add] at this
      have z5:=KC.box 5 _ rfl
      have g5:w9.frozen? ⟨w.heap.size+3,5,none⟩=false:=by have:=(KC.own 5 (by decide)).2;rwa [Nat.zero_add] at this
      clear hd hra hb KC d2 hV C9 x0 x1 x2
      go_wp2_with fail
      go_meet
      rw [HV9.out]
      refine ⟨⟨nm.s,fs,ps,r,nm.o⟩,_,p9,b9,KV9.out,sgMkR HNM.out (D1V9.out.row (Nat.le_refl _) HSG.out.fs) (D1V9.out.row (Nat.le_refl _) HSG.out.ps) HT9.out,?_⟩
      rw [E6.out]
      exact raft_ret (RAft.move HP0.out HRA.out KV9.out.pk.bel) (fun r=>(⟨nm.s,fs,ps,r,nm.o⟩:Sg)) rfl
    go_wp2_with fail
    go_meet
    refine ⟨⟨nm.s,fs,ps,.mk ⟨#[]⟩ [] 0,nm.o⟩,_,p6,true,HSG.out.pz,sgMkR HNM.out HSG.out.fs HSG.out.ps (ty_shut (t:=.mk ⟨#[]⟩ [] 0) (by show (0:Nat)≤_;omega) (lies_row.2 (Row.nil _ _ _ _ _))),?_⟩
    rw [E6.out]
    exact ⟨rfl,HSG.out.pl.later HSG.out.pz.pk.bel⟩
  obtain ⟨sg,us,p9,b9,hz,hd,hra⟩:=hcut
  have HZZ:=hid hz
  have HDD:=hid hd
  have HRA:=hid hra
  clear hz hd hra x0 x1 x2
  have HL:=hid (show us.length=7 from HZZ.out.len)
  have HON:=hid (sg_one HDD.out)
  have SS:wc.rangeAt w.heap.size 0 [.slice A n cap,.int .i64 (p9:Int),.bool b9]∧wc.rangeAt (w.heap.size+3) 0 us:=⟨fun j u hu=>by rw [Nat.zero_add];exact HZZ.out.pk.box j u hu,fun j u hu=>by rw [Nat.zero_add];exact HZZ.out.box j u hu⟩
  go_wp2_with fail
  refine wp_region_held_drew (S:=fun V=>V.rangeAt w.heap.size 0 [.slice A n cap,.int .i64 (p9:Int),.bool b9]∧V.rangeAt (w.heap.size+3) 0 us) (by kernel_rfl) SS (fun hS=>?_)
  refine wpAnyH_take (i:=0) (v:=.agg ([.slice A n cap,.int .i64 (p9:Int),.bool b9]:List Value).toArray) rfl (by kernel_rfl) (by kernel_rfl) (by kernel_rfl) (fun _ _ _ h=>h) (yieldsIf_load_mid rfl 60 (.tmp 1) rfl w.heap.size 0 rfl [.slice A n cap,.int .i64 (p9:Int),.bool b9] _ (fun V hV=>hV.1) Tryz.underlying60 rfl flatPl.size) (by assumption) ?_
  try simp only [Act.put,List.getElem_toArray,List.getElem_cons_zero,List.setIfInBounds_toArray,List.set_cons_zero,List.set_cons_succ]
  refine wpAnyH_take (i:=1) (v:=.agg us.toArray) rfl (by kernel_rfl) (by kernel_rfl) (by kernel_rfl) (fun _ _ _ h=>h) (yieldsIf_load_mid rfl 31 (.tmp 4) rfl (w.heap.size+3) 0 rfl us _ (fun V hV=>hV.2) Tryz.underlying31 rfl (by rw [HL.out];exact flatSg.size)) (by assumption) ?_
  try simp only [Act.put,List.getElem_toArray,List.getElem_cons_zero,List.getElem_cons_succ,List.setIfInBounds_toArray,List.set_cons_zero,List.set_cons_succ]
  refine wpAnyH_ready (rs:=[2]) (by kernel_rfl) (by simp) ?_
  refine AllReadyH.cons rfl (fun K hK=>?_) AllReadyH.nil
  have ht2:wc.drew.there (w.heap.size+1) 0 3:=HZZ.out.pk.res 0 3 rfl
  refine ready_store flatPl rfl (.tmp 2) (.tmp 43) rfl (b:=w.heap.size+1) (off:=0) (us:=[.slice A n cap,.int .i64 (p9:Int),.bool b9]) rfl rfl ht2 pl_one rfl ?_
  have SS:(wc.drew.setCells (w.heap.size+1) 0 [.slice A n cap,.int .i64 (p9:Int),.bool b9]).rangeAt w.heap.size 0 [.slice A n cap,.int .i64 (p9:Int),.bool b9]∧(wc.drew.setCells (w.heap.size+1) 0 [.slice A n cap,.int .i64 (p9:Int),.bool b9]).rangeAt (w.heap.size+3) 0 us:=⟨World.rangeAt_setCells_apart hS.1 _ _ _ (.inl (by omega)),World.rangeAt_setCells_apart hS.2 _ _ _ (.inl (by omega))⟩
  refine hK.out _ _ SS (fun hS=>?_)
  clear hK K
  try simp only [Act.put,List.getElem_toArray,List.getElem_cons_zero,List.getElem_cons_succ]
  refine wpAnyH_ready (rs:=[3]) (by kernel_rfl) (by simp) ?_
  refine AllReadyH.cons rfl (fun K hK=>?_) AllReadyH.nil
  have ht3:(wc.drew.setCells (w.heap.size+1) 0 [.slice A n cap,.int .i64 (p9:Int),.bool b9]).there (w.heap.size+2) 0 us.length:=by rw [HL.out];exact World.there_setCells (show wc.drew.there (w.heap.size+2) 0 7 from HZZ.out.pk.res 1 7 rfl) _ _ _
  refine ready_store flatSg rfl (.tmp 3) (.tmp 44) rfl (b:=w.heap.size+2) (off:=0) (us:=us) rfl rfl ht3 HON.out HL.out ?_
  have SS:((wc.drew.setCells (w.heap.size+1) 0 [.slice A n cap,.int .i64 (p9:Int),.bool b9]).setCells (w.heap.size+2) 0 us).rangeAt w.heap.size 0 [.slice A n cap,.int .i64 (p9:Int),.bool b9]∧((wc.drew.setCells (w.heap.size+1) 0 [.slice A n cap,.int .i64 (p9:Int),.bool b9]).setCells (w.heap.size+2) 0 us).rangeAt (w.heap.size+3) 0 us:=⟨World.rangeAt_setCells_apart hS.1 _ _ _ (.inl (by omega)),World.rangeAt_setCells_apart hS.2 _ _ _ (.inl (by omega))⟩
  refine hK.out _ _ SS (fun hS=>?_)
  clear hK K
  try simp only [Act.put,List.getElem_toArray,List.getElem_cons_zero,List.getElem_cons_succ]
  refine wpAnyH_done (by kernel_rfl) ?_ _
  clear SS hS
  go_wp2_with fail
  have hg1:=gb_sets1 wc.drew (w.heap.size+1) 0 [.slice A n cap,.int .i64 (p9:Int),.bool b9]
  have hg2:=gb_sets1 (wc.drew.setCells (w.heap.size+1) 0 [.slice A n cap,.int .i64 (p9:Int),.bool b9]) (w.heap.size+2) 0 us
  have hfin:Below w.heap.size w ((wc.drew.setCells (w.heap.size+1) 0 [.slice A n cap,.int .i64 (p9:Int),.bool b9]).setCells (w.heap.size+2) 0 us):=(HZZ.out.pk.bel.drew.trans (below_sets (by omega) _ _ _)).trans (below_sets (by omega) _ _ _)
  refine bodyPost_ret (results_rsig _ rfl rfl (boxd_gb hg2 (by omega) (set_there (us:=[.slice A n cap,.int .i64 (p9:Int),.bool b9]) ht2)) rfl (set_there (us:=us) ht3) HL.out) rfl ?_
  refine ⟨sg,us,p9,b9,rfl,?_,RAft.move HP0.out HRA.out hfin,hfin⟩
  have d0:Dk (w.heap.size+4) wc wc.drew:=⟨Nat.le_refl _,fun _ _ _=>rfl⟩
  exact (((d0.trans (dk_gb hg1 (by omega))).trans (dk_gb hg2 (by omega))).dat (Nat.le_refl _) HDD.out).wide fun i hi=>⟨by have:=hi.1;omega,hi.2⟩
