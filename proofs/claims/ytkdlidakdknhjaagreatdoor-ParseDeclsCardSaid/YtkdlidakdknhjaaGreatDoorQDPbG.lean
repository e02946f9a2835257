/- The walk of Decl of layer 8's reference. The condition: the text is short. -/
import Derived.Test.YtkdlidakdknhjaaGreatDoorQDPbF
set_option maxRecDepth 100000
set_option maxHeartbeats 16000000
open Go.Lib (hid)
namespace Go.Proofs.YtkdlidakdknhjaaGreatDoor.Rd
open Go.RowKit
structure Pq (V X:World) (z:Nat) (ps us:List Value):Prop where
  bel:Below V.heap.size V X
  big:V.heap.size+2≤X.heap.size
  box:Boxd X V.heap.size ps
  own:X.there V.heap.size 0 3
  sbox:Boxd X (V.heap.size+1) us
  sown:X.there (V.heap.size+1) 0 z
  pl:ps.length=3
  len:us.length=z
theorem Pq.up {V X Y:World} {z B:Nat} {ps us:List Value} (h:Pq V X z ps us) (hB:V.heap.size+2≤B) (hb:Below B X Y):Pq V Y z ps us :=
  ⟨h.bel.trans (hb.mono (by omega)),Nat.le_trans h.big hb.size,fun j u hu=>(hb.cell (p:=⟨V.heap.size,j,none⟩) (by show V.heap.size<B;omega)).trans (h.box j u hu),there_upB h.own (by omega) hb,
    fun j u hu=>(hb.cell (p:=⟨V.heap.size+1,j,none⟩) (by show V.heap.size+1<B;omega)).trans (h.sbox j u hu),there_upB h.sown (by omega) hb,h.pl,h.len⟩
theorem Pq.later {V X Y:World} {z:Nat} {ps us:List Value} (h:Pq V X z ps us) (hb:Below X.heap.size X Y):Pq V Y z ps us:=h.up h.big hb
theorem Pq.place {V X:World} {z:Nat} {ps us:List Value} (h:Pq V X z ps us) (ps':List Value) (hl:ps'.length=3):Pq V (X.setCells V.heap.size 0 ps') z ps' us :=
  ⟨h.bel.trans (below_sets (Nat.le_refl _) ps' 0 X),by rw [size_sets];exact h.big,set_there (us:=ps') (by rw [hl];exact h.own),World.there_setCells h.own _ _ _,boxd_gb (gb_sets1 X V.heap.size 0 ps') (by omega) h.sbox,World.there_setCells h.sown _ _ _,hl,h.len⟩
theorem Pq.whole {V X:World} {z:Nat} {ps us:List Value} (h:Pq V X z ps us) (us':List Value) (hl:us'.length=z):Pq V (X.setCells (V.heap.size+1) 0 us') z ps us' :=
  ⟨h.bel.trans (below_sets (by omega) us' 0 X),by rw [size_sets];exact h.big,boxd_gb (gb_sets1 X (V.heap.size+1) 0 us') (by omega) h.box,World.there_setCells h.own _ _ _,set_there (us:=us') (by rw [hl];exact h.sown),World.there_setCells h.sown _ _ _,h.pl,hl⟩
theorem Pq.three {V X:World} {z:Nat} {us:List Value} {v0 v1 v2:Value} (h:Pq V X z [v0,v1,v2] us):X.cell? ⟨V.heap.size,0,none⟩=some v0∧X.cell? ⟨V.heap.size,1,none⟩=some v1∧X.cell? ⟨V.heap.size,2,none⟩=some v2∧X.frozen? ⟨V.heap.size,0,none⟩=false∧X.frozen? ⟨V.heap.size,1,none⟩=false∧X.frozen? ⟨V.heap.size,2,none⟩=false:=Rd.three h.box h.own
def RDWholePost (s:ByteArray) (w:World) (e:Ending) (w':World):Prop:=∃ us,e=.returned (.tuple #[.agg us.toArray,.int .i64 (dcO s).code,.int .i64 (dcO s).at])∧((dcO s).val Dc.none?).dat.In w' False (Fr w.heap.size w') us∧Below w.heap.size w w'
theorem results_rwd {w:World} {b:Nat} {us:List Value} {v u:Value} (tmps:Array Value) (ht:tmps[2]?.getD undef=.pointer (some ⟨b,0,none⟩)) (hv:tmps[3]?.getD undef=v) (hu:tmps[4]?.getD undef=u) (hc:Boxd w b us) (hl:us.length=23):(results Tryz.f6 tmps).run Tryz.prog w=.ok (.tuple #[.agg us.toArray,v,u]) w:=by
  have h:=run_cell flatDc hc hl
  have h2:=run_addr ⟨b,0,none⟩ w
  simp [results,Tryz.results6,ht,hv,hu,h,h2,Sem.run_bind,Result.andThen]
theorem rdwhole_bad {s:ByteArray} {w w':World} {c a:Int} (h:dcO s=.err c a) (hb:Below w.heap.size w w'):RDWholePost s w (.returned (.tuple #[.agg ([.int .i64 0,.string ⟨#[]⟩,.slice none 0 0,.slice none 0 0,.slice none 0 0,.string ⟨#[]⟩,.slice none 0 0,.string ⟨#[]⟩,.slice none 0 0,.slice none 0 0,.string ⟨#[]⟩,.slice none 0 0,.int .i64 0,.int .i64 0,.int .i64 0,.string ⟨#[]⟩,.string ⟨#[]⟩,.slice none 0 0,.int .i64 0,.slice none 0 0,.slice none 0 0,.int .i64 0,.int .i64 0]:List Value).toArray,.int .i64 c,.int .i64 a])) w':=by
  unfold RDWholePost
  rw [h]
  exact ⟨_,rfl,dcNone_dat _ _ _,hb⟩
theorem rdecl8_any (s:ByteArray) (w:World) (hs:s.size≤40000):Calls Tryz.prog 6 #[.string s] w (RDWholePost s w):=by
  obtain ⟨W,hW⟩:∃ W,w.alloc (.cells #[.int .i64 0,.string ⟨#[]⟩,.slice none 0 0,.slice none 0 0,.slice none 0 0,.string ⟨#[]⟩,.slice none 0 0,.string ⟨#[]⟩,.slice none 0 0,.slice none 0 0,.string ⟨#[]⟩,.slice none 0 0,.int .i64 0,.int .i64 0,.int .i64 0,.string ⟨#[]⟩,.string ⟨#[]⟩,.slice none 0 0,.int .i64 0,.slice none 0 0,.slice none 0 0,.int .i64 0,.int .i64 0] 36)=W:=⟨_,rfl⟩
  have hb:Below w.heap.size w W:=hW▸(Below.refl _ _).alloc (Nat.le_refl _) _
  have HT:=hid (show W.there w.heap.size 0 23 from hW▸there_new w #[.int .i64 0,.string ⟨#[]⟩,.slice none 0 0,.slice none 0 0,.slice none 0 0,.string ⟨#[]⟩,.slice none 0 0,.string ⟨#[]⟩,.slice none 0 0,.slice none 0 0,.string ⟨#[]⟩,.slice none 0 0,.int .i64 0,.int .i64 0,.int .i64 0,.string ⟨#[]⟩,.string ⟨#[]⟩,.slice none 0 0,.int .i64 0,.slice none 0 0,.slice none 0 0,.int .i64 0,.int .i64 0] 36)
  have hz:W.heap.size=w.heap.size+1:=by rw [←hW];simp
  have HW:=hid hW
  have HB:=hid hb
  have C:=hid (begin_any s W hs)
  have HS:=hid hs
  have O0:=hid (show ∀ u∈([.int .i64 0,.string ⟨#[]⟩,.slice none 0 0,.slice none 0 0,.slice none 0 0,.string ⟨#[]⟩,.slice none 0 0,.string ⟨#[]⟩,.slice none 0 0,.slice none 0 0,.string ⟨#[]⟩,.slice none 0 0,.int .i64 0,.int .i64 0,.int .i64 0,.string ⟨#[]⟩,.string ⟨#[]⟩,.slice none 0 0,.int .i64 0,.slice none 0 0,.slice none 0 0,.int .i64 0,.int .i64 0]:List Value),u.oneCell'=true from fun u hu=>by simp only [List.mem_cons,List.not_mem_nil,or_false] at hu;rcases hu with rfl | rfl | rfl | rfl | rfl | rfl | rfl | rfl | rfl | rfl | rfl | rfl | rfl | rfl | rfl | rfl | rfl | rfl | rfl | rfl | rfl | rfl | rfl<;>rfl)
  clear hW hb hs
  go_enter Tryz.func6,Tryz.ntmps6
  go_wp2_with fail
  rw [HW.out]
  refine C.out.mono ?_
  rintro e V ⟨hb,hp⟩
  have hsV:=hb.size
  have HT1:=hid (there_below HT.out (by omega) hb)
  have HB1:=hid (HB.out.trans (hb.mono (by omega)))
  clear hb C HT HB
  cases hl:left s 0 with
  | bad i =>
    rw [hl] at hp
    obtain rfl:=hp
    obtain ⟨V1,hV1⟩:∃ X,V.alloc (.cells #[.slice none 0 0,.int .i64 0,.bool false] 60)=X:=⟨_,rfl⟩
    have hb1:Below V.heap.size V V1:=hV1▸(Below.refl _ _).alloc (Nat.le_refl _) _
    have HT2:=hid (there_below HT1.out (by omega) hb1)
    have HB2:=hid (HB1.out.trans (hb1.mono (by omega)))
    have HV1:=hid hV1
    have HLL:=hid (show dcO s=.err 1 i by unfold dcO wholeO;rw [hl])
    clear hV1 hb1 hl
    go_upto_region 3 with fail
    rw [HV1.out]
    go_wp2_with (refine storeOp flatDc 2 17 (b:=w.heap.size) (o:=0) (us:=[.int .i64 0,.string ⟨#[]⟩,.slice none 0 0,.slice none 0 0,.slice none 0 0,.string ⟨#[]⟩,.slice none 0 0,.string ⟨#[]⟩,.slice none 0 0,.slice none 0 0,.string ⟨#[]⟩,.slice none 0 0,.int .i64 0,.int .i64 0,.int .i64 0,.string ⟨#[]⟩,.string ⟨#[]⟩,.slice none 0 0,.int .i64 0,.slice none 0 0,.slice none 0 0,.int .i64 0,.int .i64 0]) rfl rfl HT2.out O0.out rfl ?_)
    refine bodyPost_ret (results_rwd _ rfl rfl rfl (set_there (us:=[.int .i64 0,.string ⟨#[]⟩,.slice none 0 0,.slice none 0 0,.slice none 0 0,.string ⟨#[]⟩,.slice none 0 0,.string ⟨#[]⟩,.slice none 0 0,.slice none 0 0,.string ⟨#[]⟩,.slice none 0 0,.int .i64 0,.int .i64 0,.int .i64 0,.string ⟨#[]⟩,.string ⟨#[]⟩,.slice none 0 0,.int .i64 0,.slice none 0 0,.slice none 0 0,.int .i64 0,.int .i64 0]) HT2.out) rfl) rfl ?_
    exact rdwhole_bad HLL.out (HB2.out.trans (below_sets (Nat.le_refl _) [.int .i64 0,.string ⟨#[]⟩,.slice none 0 0,.slice none 0 0,.slice none 0 0,.string ⟨#[]⟩,.slice none 0 0,.string ⟨#[]⟩,.slice none 0 0,.slice none 0 0,.string ⟨#[]⟩,.slice none 0 0,.int .i64 0,.int .i64 0,.int .i64 0,.string ⟨#[]⟩,.string ⟨#[]⟩,.slice none 0 0,.int .i64 0,.slice none 0 0,.slice none 0 0,.int .i64 0,.int .i64 0] _ _))
  | ok ts =>
    rw [hl] at hp
    obtain ⟨A,cap,rfl,hts⟩:=hp
    obtain ⟨V1,hV1⟩:∃ X,V.alloc (.cells #[.slice A (ts.length+1) cap,.int .i64 0,.bool false] 60)=X:=⟨_,rfl⟩
    have hb1:Below V.heap.size V V1:=hV1▸(Below.refl _ _).alloc (Nat.le_refl _) _
    have hs1:V1.heap.size=V.heap.size+1:=by rw [←hV1];simp
    obtain ⟨V0,hV0⟩:∃ X,V1.alloc (.cells #[.int .i64 0,.string ⟨#[]⟩,.slice none 0 0,.slice none 0 0,.slice none 0 0,.string ⟨#[]⟩,.slice none 0 0,.string ⟨#[]⟩,.slice none 0 0,.slice none 0 0,.string ⟨#[]⟩,.slice none 0 0,.int .i64 0,.int .i64 0,.int .i64 0,.string ⟨#[]⟩,.string ⟨#[]⟩,.slice none 0 0,.int .i64 0,.slice none 0 0,.slice none 0 0,.int .i64 0,.int .i64 0] 36)=X:=⟨_,rfl⟩
    have hb2:Below V1.heap.size V1 V0:=hV0▸(Below.refl _ _).alloc (Nat.le_refl _) _
    have hs2:V0.heap.size=V.heap.size+2:=by rw [←hV0];simp;omega
    have hb12:=hb1.trans (hb2.mono (by omega))
    have T4:=hid (show (V1.alloc (.cells #[.int .i64 0,.string ⟨#[]⟩,.slice none 0 0,.slice none 0 0,.slice none 0 0,.string ⟨#[]⟩,.slice none 0 0,.string ⟨#[]⟩,.slice none 0 0,.slice none 0 0,.string ⟨#[]⟩,.slice none 0 0,.int .i64 0,.int .i64 0,.int .i64 0,.string ⟨#[]⟩,.string ⟨#[]⟩,.slice none 0 0,.int .i64 0,.slice none 0 0,.slice none 0 0,.int .i64 0,.int .i64 0] 36)).there V1.heap.size 0 23 from there_new V1 #[.int .i64 0,.string ⟨#[]⟩,.slice none 0 0,.slice none 0 0,.slice none 0 0,.string ⟨#[]⟩,.slice none 0 0,.string ⟨#[]⟩,.slice none 0 0,.slice none 0 0,.string ⟨#[]⟩,.slice none 0 0,.int .i64 0,.int .i64 0,.int .i64 0,.string ⟨#[]⟩,.string ⟨#[]⟩,.slice none 0 0,.int .i64 0,.slice none 0 0,.slice none 0 0,.int .i64 0,.int .i64 0] 36)
    obtain ⟨V2,hV2⟩:∃ X,V0.setCells (V.heap.size+1) 0 [.int .i64 0,.string ⟨#[]⟩,.slice none 0 0,.slice none 0 0,.slice none 0 0,.string ⟨#[]⟩,.slice none 0 0,.string ⟨#[]⟩,.slice none 0 0,.slice none 0 0,.string ⟨#[]⟩,.slice none 0 0,.int .i64 0,.int .i64 0,.int .i64 0,.string ⟨#[]⟩,.string ⟨#[]⟩,.slice none 0 0,.int .i64 0,.slice none 0 0,.slice none 0 0,.int .i64 0,.int .i64 0]=X:=⟨_,rfl⟩
    have hbx:Boxd V1 V.heap.size [.slice A (ts.length+1) cap,.int .i64 0,.bool false]:=hV1▸Boxd.new V #[.slice A (ts.length+1) cap,.int .i64 0,.bool false] 60
    have hpt:V1.there V.heap.size 0 3:=hV1▸there_new V #[.slice A (ts.length+1) cap,.int .i64 0,.bool false] 60
    have HQ:=hid (show Pq V V2 23 [.slice A (ts.length+1) cap,.int .i64 (0:Int),.bool false] [.int .i64 0,.string ⟨#[]⟩,.slice none 0 0,.slice none 0 0,.slice none 0 0,.string ⟨#[]⟩,.slice none 0 0,.string ⟨#[]⟩,.slice none 0 0,.slice none 0 0,.string ⟨#[]⟩,.slice none 0 0,.int .i64 0,.int .i64 0,.int .i64 0,.string ⟨#[]⟩,.string ⟨#[]⟩,.slice none 0 0,.int .i64 0,.slice none 0 0,.slice none 0 0,.int .i64 0,.int .i64 0] from hV2▸Pq.whole (show Pq V V0 23 [.slice A (ts.length+1) cap,.int .i64 (0:Int),.bool false] [.int .i64 0,.string ⟨#[]⟩,.slice none 0 0,.slice none 0 0,.slice none 0 0,.string ⟨#[]⟩,.slice none 0 0,.string ⟨#[]⟩,.slice none 0 0,.slice none 0 0,.string ⟨#[]⟩,.slice none 0 0,.int .i64 0,.int .i64 0,.int .i64 0,.string ⟨#[]⟩,.string ⟨#[]⟩,.slice none 0 0,.int .i64 0,.slice none 0 0,.slice none 0 0,.int .i64 0,.int .i64 0] from ⟨hb12,by omega,hbx.later hb2,there_below hpt (by omega) hb2,hs1▸hV0▸Boxd.new V1 #[.int .i64 0,.string ⟨#[]⟩,.slice none 0 0,.slice none 0 0,.slice none 0 0,.string ⟨#[]⟩,.slice none 0 0,.string ⟨#[]⟩,.slice none 0 0,.slice none 0 0,.string ⟨#[]⟩,.slice none 0 0,.int .i64 0,.int .i64 0,.int .i64 0,.string ⟨#[]⟩,.string ⟨#[]⟩,.slice none 0 0,.int .i64 0,.slice none 0 0,.slice none 0 0,.int .i64 0,.int .i64 0] 36,hs1▸hV0▸there_new V1 #[.int .i64 0,.string ⟨#[]⟩,.slice none 0 0,.slice none 0 0,.slice none 0 0,.string ⟨#[]⟩,.slice none 0 0,.string ⟨#[]⟩,.slice none 0 0,.slice none 0 0,.string ⟨#[]⟩,.slice none 0 0,.int .i64 0,.int .i64 0,.int .i64 0,.string ⟨#[]⟩,.string ⟨#[]⟩,.slice none 0 0,.int .i64 0,.slice none 0 0,.slice none 0 0,.int .i64 0,.int .i64 0] 36,rfl,rfl⟩) [.int .i64 0,.string ⟨#[]⟩,.slice none 0 0,.slice none 0 0,.slice none 0 0,.string ⟨#[]⟩,.slice none 0 0,.string ⟨#[]⟩,.slice none 0 0,.slice none 0 0,.string ⟨#[]⟩,.slice none 0 0,.int .i64 0,.int .i64 0,.int .i64 0,.string ⟨#[]⟩,.string ⟨#[]⟩,.slice none 0 0,.int .i64 0,.slice none 0 0,.slice none 0 0,.int .i64 0,.int .i64 0] rfl)
    obtain ⟨f1,f2,f3⟩:=full_ok hl HS.out
    have hpl0:Pl V A (ts.length+1) (full ts s.size) 0 (full ts s.size):=⟨hts,rfl,f1,by have:=hts.len;omega,f3⟩
    have HPL0:=hid hpl0
    have HV1:=hid hV1
    have HV2:=hid hV2
    have HV0:=hid hV0
    have HS1:=hid hs1
    have HLL:=hid (show dcO s=endO (declR (full ts s.size)) by rw [dcO_eq];unfold wholeO;rw [hl])
    have hlt:w.heap.size<V.heap.size:=by omega
    generalize full ts s.size=L at *
    clear hV1 hb1 hV0 hV2 hb2 hs1 hs2 hb12 hbx hpt f1 f2 f3 hpl0 hts hl
    go_upto_region 4 with fail
    rw [HV1.out]
    go_upto_region 5 with (refine storeOp flatDc 8 20 (b:=V1.heap.size) (o:=0) (us:=[.int .i64 0,.string ⟨#[]⟩,.slice none 0 0,.slice none 0 0,.slice none 0 0,.string ⟨#[]⟩,.slice none 0 0,.string ⟨#[]⟩,.slice none 0 0,.slice none 0 0,.string ⟨#[]⟩,.slice none 0 0,.int .i64 0,.int .i64 0,.int .i64 0,.string ⟨#[]⟩,.string ⟨#[]⟩,.slice none 0 0,.int .i64 0,.slice none 0 0,.slice none 0 0,.int .i64 0,.int .i64 0]) rfl rfl T4.out O0.out rfl ?_)
    rw [HV0.out,HS1.out,HV2.out]
    clear HV0 HV1 HV2 HS1 T4
    go_frame
    have hc5:=ris_any A (ts.length+1) cap 0 L L false ⟨#[102,117,110,99]⟩ V2 (HPL0.out.later HQ.out.bel)
    rw [show ((0:Nat):Int)=0 from rfl] at hc5
    have C5:=hid (show Calls Tryz.prog 16 #[.agg #[.slice A (ts.length+1) cap,.int .i64 0,.bool false],.string ⟨#[102,117,110,99]⟩] V2 (BoolPost (nextB false wFunc L) V2) from hc5)
    clear hc5
    go_cut [22] from 21 to 22 (fun s22 wx=>s22=.bool (nextB false wFunc L)∧Below V2.heap.size V2 wx)
    case first =>
      obtain ⟨x0,x1,x2,-⟩:=HQ.out.three
      go_wp2_with fail
      refine C5.out.mono ?_
      rintro e w5 ⟨rfl,hb⟩
      have HB:=hid hb
      clear hb C5 x0 x1 x2
      go_wp2_with fail
      go_meet
      exact ⟨rfl,HB.out⟩
    obtain ⟨rfl,hb⟩:=hcut
    have Q5:=hid (HQ.out.later hb)
    obtain ⟨cc,hcc⟩:∃ c,nextB false wFunc L=c:=⟨_,rfl⟩
    rw [hcc]
    have HCC:=hid hcc
    clear hcc hb C5 HQ
    go_upto_if 22 with fail
    go_cut [23] from 23 to 32 (fun _ wx=>∃ (d:Dc) (us:List Value) (p:Nat) (b:Bool),Pq V wx 23 [.slice A (ts.length+1) cap,.int .i64 (p:Int),.bool b] us∧d.dat.In wx False (Fr (V.heap.size+2) wx) us∧RAft wx A (ts.length+1) L p b d (declR L))
    case first =>
      have hx:=HCC.out
      have cf:=rmethod_any A (ts.length+1) cap 0 L L false wc (HPL0.out.later Q5.out.bel)
      have ct:=rtyped_any A (ts.length+1) cap 0 L L false wc (HPL0.out.later Q5.out.bel)
      rw [show ((0:Nat):Int)=0 from rfl] at cf ct
      have CF:=hid cf
      have CT:=hid ct
      clear cf ct
      obtain ⟨x0,x1,x2,-⟩:=Q5.out.three
      cases cc
      · have hdec:declR L=typedR L:=by
          have hi:isT wFunc L=false:=by simpa [nextB] using hx
          rw [declR,hi]
          rfl
        have HDE:=hid hdec
        clear hx hdec
        go_wp2_with fail
        refine CT.out.mono ?_
        rintro e w7 ⟨d,us,p7,b7,rfl,hd,hra,hb⟩
        have h23:=dc_one hd
        have KC:=Q5.out.later hb
        obtain ⟨V7,hV⟩:∃ X,(w7.setCells V.heap.size 0 [.slice A (ts.length+1) cap,.int .i64 (p7:Int),.bool b7]).setCells (V.heap.size+1) 0 us=X:=⟨_,rfl⟩
        have Q7:=hid (show Pq V V7 23 [.slice A (ts.length+1) cap,.int .i64 (p7:Int),.bool b7] us from hV▸(KC.place [.slice A (ts.length+1) cap,.int .i64 (p7:Int),.bool b7] rfl).whole us h23.2)
        have d2:Dk (V.heap.size+2) w7 V7:=hV▸(dk_gb (gb_sets1 w7 V.heap.size 0 [.slice A (ts.length+1) cap,.int .i64 (p7:Int),.bool b7]) (by omega)).trans (dk_gb (gb_sets1 _ (V.heap.size+1) 0 us) (by omega))
        have HD7:=hid (show d.dat.In V7 False (Fr (V.heap.size+2) V7) us from d2.dat Q5.out.big hd)
        have T7:=hid (show (((w7.setCell ⟨V.heap.size,0,none⟩ (.slice A (ts.length+1) cap)).setCell ⟨V.heap.size,1,none⟩ (.int .i64 (p7:Int))).setCell ⟨V.heap.size,2,none⟩ (.bool b7)).there (V.heap.size+1) 0 us.length from by rw [h23.2];exact World.there_setCells KC.sown V.heap.size 0 [.slice A (ts.length+1) cap,.int .i64 (p7:Int),.bool b7])
        have H23:=hid h23
        have HV7:=hid (show (((w7.setCell ⟨V.heap.size,0,none⟩ (.slice A (ts.length+1) cap)).setCell ⟨V.heap.size,1,none⟩ (.int .i64 (p7:Int))).setCell ⟨V.heap.size,2,none⟩ (.bool b7)).setCells (V.heap.size+1) 0 us=V7 from hV)
        have HRA:=hid (show RAft V7 A (ts.length+1) L p7 b7 d (declR L) from by rw [HDE.out];exact RAft.move HPL0.out hra Q7.out.bel)
        obtain ⟨y0,y1,y2,f0,f1,f2⟩:=KC.three
        clear hd hra hb h23 KC hV d2 CF CT x0 x1 x2 HDE
        go_wp2_with (refine storeOp flatDc 8 32 (b:=V.heap.size+1) (o:=0) (us:=us) rfl rfl T7.out H23.out.1 H23.out.2 ?_)
        go_meet
        rw [HV7.out]
        exact ⟨d,us,p7,b7,Q7.out,HD7.out,HRA.out⟩
      have hdec:declR L=methodR L:=by
        have hi:isT wFunc L=true:=by simpa [nextB] using hx
        rw [declR,hi]
        rfl
      have HDE:=hid hdec
      clear hx hdec
      go_wp2_with fail
      refine CF.out.mono ?_
      rintro e w7 ⟨d,us,p7,b7,rfl,hd,hra,hb⟩
      have h23:=dc_one hd
      have KC:=Q5.out.later hb
      obtain ⟨V7,hV⟩:∃ X,(w7.setCells V.heap.size 0 [.slice A (ts.length+1) cap,.int .i64 (p7:Int),.bool b7]).setCells (V.heap.size+1) 0 us=X:=⟨_,rfl⟩
      have Q7:=hid (show Pq V V7 23 [.slice A (ts.length+1) cap,.int .i64 (p7:Int),.bool b7] us from hV▸(KC.place [.slice A (ts.length+1) cap,.int .i64 (p7:Int),.bool b7] rfl).whole us h23.2)
      have d2:Dk (V.heap.size+2) w7 V7:=hV▸(dk_gb (gb_sets1 w7 V.heap.size 0 [.slice A (ts.length+1) cap,.int .i64 (p7:Int),.bool b7]) (by omega)).trans (dk_gb (gb_sets1 _ (V.heap.size+1) 0 us) (by omega))
      have HD7:=hid (show d.dat.In V7 False (Fr (V.heap.size+2) V7) us from d2.dat Q5.out.big hd)
      have T7:=hid (show (((w7.setCell ⟨V.heap.size,0,none⟩ (.slice A (ts.length+1) cap)).setCell ⟨V.heap.size,1,none⟩ (.int .i64 (p7:Int))).setCell ⟨V.heap.size,2,none⟩ (.bool b7)).there (V.heap.size+1) 0 us.length from by rw [h23.2];exact World.there_setCells KC.sown V.heap.size 0 [.slice A (ts.length+1) cap,.int .i64 (p7:Int),.bool b7])
      have H23:=hid h23
      have HV7:=hid (show (((w7.setCell ⟨V.heap.size,0,none⟩ (.slice A (ts.length+1) cap)).setCell ⟨V.heap.size,1,none⟩ (.int .i64 (p7:Int))).setCell ⟨V.heap.size,2,none⟩ (.bool b7)).setCells (V.heap.size+1) 0 us=V7 from hV)
      have HRA:=hid (show RAft V7 A (ts.length+1) L p7 b7 d (declR L) from by rw [HDE.out];exact RAft.move HPL0.out hra Q7.out.bel)
      obtain ⟨y0,y1,y2,f0,f1,f2⟩:=KC.three
      clear hd hra hb h23 KC hV d2 CF CT x0 x1 x2 HDE
      go_wp2_with (refine storeOp flatDc 8 27 (b:=V.heap.size+1) (o:=0) (us:=us) rfl rfl T7.out H23.out.1 H23.out.2 ?_)
      go_meet
      rw [HV7.out]
      exact ⟨d,us,p7,b7,Q7.out,HD7.out,HRA.out⟩
    obtain ⟨d,us,p8,b8,hq8,hd8,hra8⟩:=hcut
    obtain ⟨q,hpl8,hend⟩:=raft_end hra8
    have Q8:=hid hq8
    have HD8:=hid hd8
    have HEND:=hid hend
    have C9:=hid (rfinish_any A (ts.length+1) cap p8 L q b8 wc hpl8)
    have h23:=dc_one hd8
    have H23:=hid h23
    have HT8:=hid (show wc.there w.heap.size 0 23 from there_upB HT1.out (by omega) hq8.bel)
    have HB8:=hid (HB1.out.trans (hq8.bel.mono (by omega)))
    obtain ⟨x0,x1,x2,-⟩:=hq8.three
    clear hq8 hd8 hra8 hpl8 hend h23 Q5 HCC
    go_wp2_with fail
    refine C9.out.mono ?_
    rintro e w9 ⟨rfl,hb⟩
    have Q9:=hid (Q8.out.later hb)
    have hbg:=Q8.out.big
    have HT9:=hid (there_upB HT8.out (by omega) hb)
    have HB9:=hid (HB8.out.trans (hb.mono (by omega)))
    have HD9:=hid ((dk_below (lo:=V.heap.size+2) hb).dat (Nat.le_refl _) HD8.out)
    clear hb C9 x0 x1 x2 Q8 HT8 HB8 HD8
    rcases HEND.out with ⟨h1,h2,h3⟩ | ⟨h1,h3⟩
    · rw [h1,h2]
      have H3:=hid (HLL.out.trans h3)
      clear h1 h2 h3 HEND
      have T9:=hid (show w9.there w.heap.size 0 us.length by rw [H23.out.2];exact HT9.out)
      go_wp2_with (first | (refine loadOp flatDc 8 43 rfl (boxd_at0 Q9.out.sbox) H23.out.2 ?_) | (refine storeOp flatDc 2 43 (b:=w.heap.size) (o:=0) (us:=us) rfl rfl T9.out H23.out.1 H23.out.2 ?_))
      refine bodyPost_ret (results_rwd _ rfl rfl rfl (set_there (us:=us) T9.out) H23.out.2) rfl ?_
      unfold RDWholePost
      rw [H3.out]
      exact ⟨us,rfl,Dat.In.wide (in_gb (gb_sets1 w9 w.heap.size 0 us) (by omega) HD9.out) (fun b hb=>⟨by have:=hb.1;omega,hb.2⟩),HB9.out.trans (below_sets (Nat.le_refl _) us _ _)⟩
    rw [h1]
    have H3:=hid (HLL.out.trans h3)
    obtain ⟨oo,ho⟩:∃ x,finO b8 q=x:=⟨_,rfl⟩
    rw [ho] at H3 ⊢
    clear h1 h3 HEND ho
    go_wp2_with (refine storeOp flatDc 2 40 (b:=w.heap.size) (o:=0) (us:=[.int .i64 0,.string ⟨#[]⟩,.slice none 0 0,.slice none 0 0,.slice none 0 0,.string ⟨#[]⟩,.slice none 0 0,.string ⟨#[]⟩,.slice none 0 0,.slice none 0 0,.string ⟨#[]⟩,.slice none 0 0,.int .i64 0,.int .i64 0,.int .i64 0,.string ⟨#[]⟩,.string ⟨#[]⟩,.slice none 0 0,.int .i64 0,.slice none 0 0,.slice none 0 0,.int .i64 0,.int .i64 0]) rfl rfl HT9.out O0.out rfl ?_)
    refine bodyPost_ret (results_rwd _ rfl rfl rfl (set_there (us:=[.int .i64 0,.string ⟨#[]⟩,.slice none 0 0,.slice none 0 0,.slice none 0 0,.string ⟨#[]⟩,.slice none 0 0,.string ⟨#[]⟩,.slice none 0 0,.slice none 0 0,.string ⟨#[]⟩,.slice none 0 0,.int .i64 0,.int .i64 0,.int .i64 0,.string ⟨#[]⟩,.string ⟨#[]⟩,.slice none 0 0,.int .i64 0,.slice none 0 0,.slice none 0 0,.int .i64 0,.int .i64 0]) HT9.out) rfl) rfl ?_
    exact rdwhole_bad H3.out (HB9.out.trans (below_sets (Nat.le_refl _) [.int .i64 0,.string ⟨#[]⟩,.slice none 0 0,.slice none 0 0,.slice none 0 0,.string ⟨#[]⟩,.slice none 0 0,.string ⟨#[]⟩,.slice none 0 0,.slice none 0 0,.string ⟨#[]⟩,.slice none 0 0,.int .i64 0,.int .i64 0,.int .i64 0,.string ⟨#[]⟩,.string ⟨#[]⟩,.slice none 0 0,.int .i64 0,.slice none 0 0,.slice none 0 0,.int .i64 0,.int .i64 0] _ _))
