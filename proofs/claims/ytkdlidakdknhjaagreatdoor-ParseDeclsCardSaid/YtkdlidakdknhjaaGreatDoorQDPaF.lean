/- The walk of parse's method: it reads what the plain words say. The condition: the cursor stands in tokens of a text. -/
import Derived.Test.YtkdlidakdknhjaaGreatDoorQDPaE
set_option maxRecDepth 100000
set_option maxHeartbeats 16000000
open Go.Lib (hid)
namespace Go.Proofs.YtkdlidakdknhjaaGreatDoor.Rd
open Go.RowKit
theorem strs_two {w:World} {c:Nat} (a b:ByteArray) (hc:c<w.heap.size):Sts (w.alloc (.cells #[.string a,.string b] 9)) w.heap.size c [a,b]:=⟨fun k s hk=>by
  have h:=Boxd.new w #[.string a,.string b] 9
  match k,hk with
  | 0,hk=>obtain rfl:=Option.some.inj hk;exact h 0 _ rfl
  | 1,hk=>obtain rfl:=Option.some.inj hk;exact h 1 _ rfl
  | k+2,hk=>simp at hk,by omega⟩
theorem there_sub {w:World} {b n o m:Nat} (h:w.there b 0 n) (hm:o+m≤n):w.there b o m:=fun j hj=>by
  have:=h (o+j) (by omega)
  rwa [Nat.zero_add] at this
theorem results_method {w:World} {b:Nat} {us:List Value} (tmps:Array Value) (ht:tmps[2]?.getD undef=.pointer (some ⟨b,0,none⟩)) (hc:Boxd w b us) (hl:us.length=23):(results Tryz.f50 tmps).run Tryz.prog w=.ok (.agg us.toArray) w:=by
  have h:=run_cell flatDc hc hl
  have h2:=run_addr ⟨b,0,none⟩ w
  simp [results,Tryz.results50,ht,h,h2,Sem.run_bind,Result.andThen]
theorem dcMet_dat {w:World} {N:Prop} {S:Nat→Prop} {rc nm:ByteArray} {vs:List ByteArray} {s:Sg} {e:Ex} {o:Int} {V:Option Addr} {cv:Nat} {u5 u6:List Value} (h1:nm.size≤9223372036854775807) (h2:rc.size≤9223372036854775807) (h3:Row w N S 1 V vs.length (vs.map Dat.str)) (h4:s.dat.In w N S u5) (h5:e.dat.In w N S u6) :
    (⟨3,nm,[],[],[],rc,vs,s,e,o⟩:Dc).dat.In w N S (.int .i64 3 :: .string nm :: ([.slice none 0 0]++([.slice none 0 0]++([.slice none 0 0]++(.string rc :: ([.slice V vs.length cv]++(u5++(u6++[.int .i64 o])))))))) :=
  dcMkR (d:=⟨3,nm,[],[],[],rc,vs,s,e,o⟩) h1 (arr_of (Row.nil _ _ _ _ _)) (arr_of (Row.nil _ _ _ _ _)) (arr_of (Row.nil _ _ _ _ _)) h2 (arr_of h3) h4 h5
theorem method_any (p c:Nat) (l:List Tk) (b:Bool) (w:World) (h:Cur w c l b) (hp:Ps w p c):Calls Tryz.prog 50 #[.pointer (some ⟨p,0,none⟩)] w (ItRet Dc.dat c l b w (methodF l)):=by
  have hlt:=h.lt
  have hpl:=hp.lt
  obtain ⟨W0,hW0⟩:∃ W,w.alloc (.cells #[.int .i64 0,.string ⟨#[]⟩,.slice none 0 0,.slice none 0 0,.slice none 0 0,.string ⟨#[]⟩,.slice none 0 0,.string ⟨#[]⟩,.slice none 0 0,.slice none 0 0,.string ⟨#[]⟩,.slice none 0 0,.int .i64 0,.int .i64 0,.int .i64 0,.string ⟨#[]⟩,.string ⟨#[]⟩,.slice none 0 0,.int .i64 0,.slice none 0 0,.slice none 0 0,.int .i64 0,.int .i64 0] 36)=W:=⟨_,rfl⟩
  have hb0:Below w.heap.size w W0:=hW0▸(Below.refl _ _).alloc (Nat.le_refl _) _
  have hs0:W0.heap.size=w.heap.size+1:=by rw [←hW0];simp
  have t00:W0.there w.heap.size 0 23:=hW0▸there_new w #[.int .i64 0,.string ⟨#[]⟩,.slice none 0 0,.slice none 0 0,.slice none 0 0,.string ⟨#[]⟩,.slice none 0 0,.string ⟨#[]⟩,.slice none 0 0,.slice none 0 0,.string ⟨#[]⟩,.slice none 0 0,.int .i64 0,.int .i64 0,.int .i64 0,.string ⟨#[]⟩,.string ⟨#[]⟩,.slice none 0 0,.int .i64 0,.slice none 0 0,.slice none 0 0,.int .i64 0,.int .i64 0] 36
  obtain ⟨W1,hW1,hb1,bx1,th1,th10⟩:=putD W0 (us:=[.int .i64 3,.string ⟨#[]⟩,.slice none 0 0,.slice none 0 0,.slice none 0 0,.string ⟨#[]⟩,.slice none 0 0,.string ⟨#[]⟩,.slice none 0 0,.slice none 0 0,.string ⟨#[]⟩,.slice none 0 0,.int .i64 0,.int .i64 0,.int .i64 0,.string ⟨#[]⟩,.string ⟨#[]⟩,.slice none 0 0,.int .i64 0,.slice none 0 0,.slice none 0 0,.int .i64 0,.int .i64 0]) rfl
  rw [hs0] at bx1 th1
  have hall:=hb0.trans (hb1.mono hb0.size)
  have hs1:w.heap.size+2≤W1.heap.size:=by
    obtain ⟨v,hv⟩:=Option.isSome_iff_exists.1 (th1 0 (by omega)).1
    have:=cell_lt hv
    exact this
  have B0:=hid (show Bx2 w W1 c 23 [.int .i64 3,.string ⟨#[]⟩,.slice none 0 0,.slice none 0 0,.slice none 0 0,.string ⟨#[]⟩,.slice none 0 0,.string ⟨#[]⟩,.slice none 0 0,.slice none 0 0,.string ⟨#[]⟩,.slice none 0 0,.int .i64 0,.int .i64 0,.int .i64 0,.string ⟨#[]⟩,.string ⟨#[]⟩,.slice none 0 0,.int .i64 0,.slice none 0 0,.slice none 0 0,.int .i64 0,.int .i64 0] from ⟨gb_of _ hall,hs1,there_up t00 (by omega) hb1,bx1,th1,rfl,hlt⟩)
  have P0:=hid (hp.later hall)
  have HW0:=hid hW0
  have HW1:=hid hW1
  have T10:=hid th10
  have O10:=hid (show ∀ u∈([.int .i64 3,.string ⟨#[]⟩,.slice none 0 0,.slice none 0 0,.slice none 0 0,.string ⟨#[]⟩,.slice none 0 0,.string ⟨#[]⟩,.slice none 0 0,.slice none 0 0,.string ⟨#[]⟩,.slice none 0 0,.int .i64 0,.int .i64 0,.int .i64 0,.string ⟨#[]⟩,.string ⟨#[]⟩,.slice none 0 0,.int .i64 0,.slice none 0 0,.slice none 0 0,.int .i64 0,.int .i64 0]:List Value),u.oneCell'=true from fun u hu=>by simp only [List.mem_cons,List.not_mem_nil,or_false] at hu;rcases hu with rfl | rfl | rfl | rfl | rfl | rfl | rfl | rfl | rfl | rfl | rfl | rfl | rfl | rfl | rfl | rfl | rfl | rfl | rfl | rfl | rfl | rfl | rfl<;>rfl)
  have C1:=hid (show Calls Tryz.prog 86 #[.pointer (some ⟨c,0,none⟩),.string ⟨#[40]⟩] W1 (MustPost c l b [40] W1) from must_any c l b ⟨#[40]⟩ W1 (h.later hall))
  have hs00:=hid hs0
  clear h hp hW0 hW1 hb0 hb1 bx1 th1 th10 t00 hall hs0
  go_enter Tryz.func50,Tryz.ntmps50
  go_upto_region 1 with fail
  rw [HW0.out]
  go_upto_region 2 with (refine storeOp flatDc 3 4 (b:=W0.heap.size) (o:=0) (us:=[.int .i64 3,.string ⟨#[]⟩,.slice none 0 0,.slice none 0 0,.slice none 0 0,.string ⟨#[]⟩,.slice none 0 0,.string ⟨#[]⟩,.slice none 0 0,.slice none 0 0,.string ⟨#[]⟩,.slice none 0 0,.int .i64 0,.int .i64 0,.int .i64 0,.string ⟨#[]⟩,.string ⟨#[]⟩,.slice none 0 0,.int .i64 0,.slice none 0 0,.slice none 0 0,.int .i64 0,.int .i64 0]) rfl rfl T10.out O10.out rfl ?_;rw [HW1.out])
  rw [hs00.out]
  clear T10 O10
  have x0:=P0.out.at_
  go_wp2_with fail
  refine C1.out.mono ?_
  rintro e w1 ⟨rfl,ha,hg⟩
  obtain ⟨q1,d1,hcur,-,-,heq⟩:=aft_next2 (must_less [40] l) ha (fun _ q=>Got.bind (varF q) fun rc q=>Got.bind (name q) fun t q=>Got.bind (bracketsG varF q) fun vs q=>Got.bind (must [41] q) fun _ q=>Got.bind (sgF q) fun s q=>Got.bind (allF [[123],wReturn] q) fun _ q=>Got.bind (exA q) fun e q=>Got.bind (allF [[125],[59]] q) fun _ q=>Got.ok (⟨3,t.s,[],[],[],rc,vs,s,e,t.o⟩:Dc) q)
  have E1:=hid (show stop b l (methodF l)=_ from heq.trans (stop_if _ _ _))
  have B1:=hid (B0.out.step hg)
  have P1:=hid (P0.out.gb hg)
  have C2:=hid (variable_any p c q1 d1 w1 hcur P1.out)
  clear ha hg hcur heq x0 C1 B0 P0
  go_wp2_with fail
  refine C2.out.mono ?_
  rintro e w2 ⟨rc,rfl,hz,ha,hg⟩
  obtain ⟨q2,d2,hcur,-,-,heq⟩:=aft_next2 (varF_less q1) ha (fun rc q=>Got.bind (name q) fun t q=>Got.bind (bracketsG varF q) fun vs q=>Got.bind (must [41] q) fun _ q=>Got.bind (sgF q) fun s q=>Got.bind (allF [[123],wReturn] q) fun _ q=>Got.bind (exA q) fun e q=>Got.bind (allF [[125],[59]] q) fun _ q=>Got.ok (⟨3,t.s,[],[],[],rc,vs,s,e,t.o⟩:Dc) q)
  have E2:=hid (E1.out.trans (heq.trans (stop_if _ _ _)))
  have HZ2:=hid hz
  have B2:=hid (B1.out.step hg)
  obtain ⟨V2,hV2⟩:∃ X,w2.setCells (w.heap.size+1) 5 [.string rc]=X:=⟨_,rfl⟩
  have BV2:=hid (show Bx2 w V2 c 23 [.int .i64 3,.string ⟨#[]⟩,.slice none 0 0,.slice none 0 0,.slice none 0 0,.string rc,.slice none 0 0,.string ⟨#[]⟩,.slice none 0 0,.slice none 0 0,.string ⟨#[]⟩,.slice none 0 0,.int .i64 0,.int .i64 0,.int .i64 0,.string ⟨#[]⟩,.string ⟨#[]⟩,.slice none 0 0,.int .i64 0,.slice none 0 0,.slice none 0 0,.int .i64 0,.int .i64 0] from hV2▸B2.out.field 5 (by omega) (.string rc))
  have P2:=hid (show Ps V2 p c from hV2▸(P1.out.gb hg).set (by omega) _ _)
  have C3:=hid (name_any c q2 d2 V2 (hV2▸hcur.set (by omega) _ _))
  have HV2:=hid (show w2.setCell ⟨w.heap.size+1,5,none⟩ (.string rc)=V2 from hV2)
  have z5:=B2.out.box 5 _ rfl
  have g5:=B2.out.free 5 (by omega)
  clear hz ha hg hcur heq hV2 C2 B1 P1
  go_upto_region 4 with fail
  rw [HV2.out]
  clear z5 g5 B2
  have x0:=P2.out.at_
  go_wp2_with fail
  refine C3.out.mono ?_
  rintro e w3 ⟨nm,rfl,hz,ha,hg⟩
  obtain ⟨q3,d3,hcur,-,-,heq⟩:=aft_next2 (name_less q2) ha (fun t q=>Got.bind (bracketsG varF q) fun vs q=>Got.bind (must [41] q) fun _ q=>Got.bind (sgF q) fun s q=>Got.bind (allF [[123],wReturn] q) fun _ q=>Got.bind (exA q) fun e q=>Got.bind (allF [[125],[59]] q) fun _ q=>Got.ok (⟨3,t.s,[],[],[],rc,vs,s,e,t.o⟩:Dc) q)
  have E3:=hid (E2.out.trans (heq.trans (stop_if _ _ _)))
  have HZ3:=hid hz
  have B3:=hid (BV2.out.step hg)
  obtain ⟨V3,hV3⟩:∃ X,(w3.setCells (w.heap.size+1) 1 [.string nm.s]).setCells (w.heap.size+1) 22 [.int .i64 nm.o]=X:=⟨_,rfl⟩
  have BV3:=hid (show Bx2 w V3 c 23 [.int .i64 3,.string nm.s,.slice none 0 0,.slice none 0 0,.slice none 0 0,.string rc,.slice none 0 0,.string ⟨#[]⟩,.slice none 0 0,.slice none 0 0,.string ⟨#[]⟩,.slice none 0 0,.int .i64 0,.int .i64 0,.int .i64 0,.string ⟨#[]⟩,.string ⟨#[]⟩,.slice none 0 0,.int .i64 0,.slice none 0 0,.slice none 0 0,.int .i64 0,.int .i64 nm.o] from hV3▸(B3.out.field 1 (by omega) (.string nm.s)).field 22 (by omega) (.int .i64 nm.o))
  have P3:=hid (show Ps V3 p c from hV3▸((P2.out.gb hg).set (by omega) _ _).set (by omega) _ _)
  have C4:=hid (bracketsSt_any p c q3 d3 V3 (hV3▸(hcur.set (by omega) _ _).set (by omega) _ _) P3.out)
  have HV3:=hid (show (w3.setCell ⟨w.heap.size+1,1,none⟩ (.string nm.s)).setCell ⟨w.heap.size+1,22,none⟩ (.int .i64 nm.o)=V3 from hV3)
  have z1:=B3.out.box 1 _ rfl
  have z22:=B3.out.box 22 _ rfl
  have g1:=B3.out.free 1 (by omega)
  have g22:=B3.out.free 22 (by omega)
  clear hz ha hg hcur heq hV3 C3 BV2 P2 x0
  go_upto_region 5 with fail
  rw [HV3.out]
  clear z1 z22 g1 g22 B3
  go_wp2_with fail
  refine C4.out.mono ?_
  rintro e w4 ⟨vs,V,cv,rfl,hr,ha,hg⟩
  obtain ⟨q4,d4,hcur,-,-,heq⟩:=aft_next3 (bracketsG_ends varF_less q3) ha (fun vs q=>Got.bind (must [41] q) fun _ q=>Got.bind (sgF q) fun s q=>Got.bind (allF [[123],wReturn] q) fun _ q=>Got.bind (exA q) fun e q=>Got.bind (allF [[125],[59]] q) fun _ q=>Got.ok (⟨3,nm.s,[],[],[],rc,vs,s,e,nm.o⟩:Dc) q)
  have E4:=hid (E3.out.trans (heq.trans (stop_if _ _ _)))
  have B4:=hid (BV3.out.step hg)
  have hs3:=BV3.out.big
  obtain ⟨V4,hV4⟩:∃ X,w4.setCells (w.heap.size+1) 6 [.slice V vs.length cv]=X:=⟨_,rfl⟩
  have BV4:=hid (show Bx2 w V4 c 23 [.int .i64 3,.string nm.s,.slice none 0 0,.slice none 0 0,.slice none 0 0,.string rc,.slice V vs.length cv,.string ⟨#[]⟩,.slice none 0 0,.slice none 0 0,.string ⟨#[]⟩,.slice none 0 0,.int .i64 0,.int .i64 0,.int .i64 0,.string ⟨#[]⟩,.string ⟨#[]⟩,.slice none 0 0,.int .i64 0,.slice none 0 0,.slice none 0 0,.int .i64 0,.int .i64 nm.o] from hV4▸B4.out.field 6 (by omega) (.slice V vs.length cv))
  have P4:=hid (show Ps V4 p c from hV4▸(P3.out.gb hg).set (by omega) _ _)
  have R4:=hid (show Row V4 False (Fr (w.heap.size+2) V4) 1 V vs.length (vs.map Dat.str) from hV4▸row_gb (gb_sets1 _ _ _ _) (by omega) (hr.wide fun i hi=>⟨Nat.le_trans hs3 hi.1,hi.2⟩))
  have C5:=hid (show Calls Tryz.prog 86 #[.pointer (some ⟨c,0,none⟩),.string ⟨#[41]⟩] V4 (MustPost c q4 d4 [41] V4) from must_any c q4 d4 ⟨#[41]⟩ V4 (hV4▸hcur.set (by omega) _ _))
  have HV4:=hid (show w4.setCell ⟨w.heap.size+1,6,none⟩ (.slice V vs.length cv)=V4 from hV4)
  have z6:=B4.out.box 6 _ rfl
  have g6:=B4.out.free 6 (by omega)
  clear hr ha hg hcur heq hV4 C4 BV3 P3
  go_upto_region 6 with fail
  rw [HV4.out]
  clear z6 g6 B4
  have x0:=P4.out.at_
  go_wp2_with fail
  refine C5.out.mono ?_
  rintro e w5 ⟨rfl,ha,hg⟩
  obtain ⟨q5,d5,hcur,-,-,heq⟩:=aft_next2 (must_less [41] q4) ha (fun _ q=>Got.bind (sgF q) fun s q=>Got.bind (allF [[123],wReturn] q) fun _ q=>Got.bind (exA q) fun e q=>Got.bind (allF [[125],[59]] q) fun _ q=>Got.ok (⟨3,nm.s,[],[],[],rc,vs,s,e,nm.o⟩:Dc) q)
  have E5:=hid (E4.out.trans (heq.trans (stop_if _ _ _)))
  have B5:=hid (BV4.out.step hg)
  have P5:=hid (P4.out.gb hg)
  have R5:=hid (row_gb hg (by omega) R4.out)
  have C6:=hid (sig_any p c q5 d5 w5 hcur P5.out)
  clear ha hg hcur heq x0 C5 BV4 P4 R4
  go_wp2_with fail
  refine C6.out.mono ?_
  rintro e w6 ⟨s,us,rfl,hd,ha,hg⟩
  obtain ⟨F2,nf2,cf2,P2',np2,cp2,A2,m2,a2,rfl⟩:=sg_opens hd
  obtain ⟨q6,d6,hcur,-,-,heq⟩:=aft_next2 (sgF_less q5) ha (fun s q=>Got.bind (allF [[123],wReturn] q) fun _ q=>Got.bind (exA q) fun e q=>Got.bind (allF [[125],[59]] q) fun _ q=>Got.ok (⟨3,nm.s,[],[],[],rc,vs,s,e,nm.o⟩:Dc) q)
  have E6:=hid (E5.out.trans (heq.trans (stop_if _ _ _)))
  have B6:=hid (B5.out.step hg)
  have hs5:=B5.out.big
  obtain ⟨V6,hV6⟩:∃ X,w6.setCells (w.heap.size+1) 7 [.string s.name,.slice F2 nf2 cf2,.slice P2' np2 cp2,.string s.res.name,.slice A2 m2 a2,.int .i64 s.res.off,.int .i64 s.off]=X:=⟨_,rfl⟩
  have BV6:=hid (show Bx2 w V6 c 23 [.int .i64 3,.string nm.s,.slice none 0 0,.slice none 0 0,.slice none 0 0,.string rc,.slice V vs.length cv,.string s.name,.slice F2 nf2 cf2,.slice P2' np2 cp2,.string s.res.name,.slice A2 m2 a2,.int .i64 s.res.off,.int .i64 s.off,.int .i64 0,.string ⟨#[]⟩,.string ⟨#[]⟩,.slice none 0 0,.int .i64 0,.slice none 0 0,.slice none 0 0,.int .i64 0,.int .i64 nm.o] from hV6▸((((((((B6.out).field 7 (by omega) (.string s.name)).field 8 (by omega) (.slice F2 nf2 cf2)).field 9 (by omega) (.slice P2' np2 cp2)).field 10 (by omega) (.string s.res.name)).field 11 (by omega) (.slice A2 m2 a2)).field 12 (by omega) (.int .i64 s.res.off)).field 13 (by omega) (.int .i64 s.off)))
  have P6:=hid (show Ps V6 p c from hV6▸(P5.out.gb hg).set (by omega) _ _)
  have R6:=hid (show Row V6 False (Fr (w.heap.size+2) V6) 1 V vs.length (vs.map Dat.str) from hV6▸row_gb (gb_sets1 _ _ _ _) (by omega) (row_gb hg (by omega) R5.out))
  have D6:=hid (show s.dat.In V6 False (Fr (w.heap.size+2) V6) [.string s.name,.slice F2 nf2 cf2,.slice P2' np2 cp2,.string s.res.name,.slice A2 m2 a2,.int .i64 s.res.off,.int .i64 s.off] from hV6▸in_gb (gb_sets1 _ _ _ _) (by omega) (hd.wide fun i hi=>⟨Nat.le_trans hs5 hi.1,hi.2⟩))
  have O6:=hid (sg_one hd)
  have T6:=hid (there_sub B6.out.own (show 7+7≤23 by omega))
  have hcu:=show Cur V6 c q6 d6 from hV6▸hcur.set (by omega) _ _
  have HV6:=hid hV6
  clear hd ha hg hcur heq hV6 C6 B5 P5 R5
  go_upto_region 8 with (refine storeOp flatSg 35 34 (b:=w.heap.size+1) (o:=7) (us:=[.string s.name,.slice F2 nf2 cf2,.slice P2' np2 cp2,.string s.res.name,.slice A2 m2 a2,.int .i64 s.res.off,.int .i64 s.off]) rfl rfl T6.out O6.out rfl ?_;rw [HV6.out])
  clear T6 O6 B6
  obtain ⟨V7,hV7⟩:∃ X,V6.alloc (.cells #[.string ⟨#[123]⟩,.string ⟨#[114,101,116,117,114,110]⟩] 9)=X:=⟨_,rfl⟩
  have hb7:Below V6.heap.size V6 V7:=hV7▸(Below.refl _ _).alloc (Nat.le_refl _) _
  have hz6:=BV6.out.big
  have B7:=hid (BV6.out.step (gb_of (some c) hb7))
  have P7:=hid (P6.out.later hb7)
  have R7:=hid (row_gb (gb_of (some 0) hb7) (by omega) R6.out)
  have D7:=hid (in_gb (gb_of (some 0) hb7) (by omega) D6.out)
  have C7:=hid (mustAll_any p c V6.heap.size 2 2 [⟨#[123]⟩,⟨#[114,101,116,117,114,110]⟩] q6 d6 V7 (hcu.later hb7) P7.out (hV7▸strs_two _ _ (by omega)) rfl (by omega))
  have HV7:=hid hV7
  clear hcu hV7 hb7 BV6 P6 R6 D6
  go_wp2_with fail
  rw [HV7.out]
  refine C7.out.mono ?_
  rintro e w7 ⟨rfl,ha,hg⟩
  obtain ⟨q7,d7,hcur,-,-,heq⟩:=aft_next3 (allF_ends [[123],wReturn] q6) ha (fun _ q=>Got.bind (exA q) fun e q=>Got.bind (allF [[125],[59]] q) fun _ q=>Got.ok (⟨3,nm.s,[],[],[],rc,vs,s,e,nm.o⟩:Dc) q)
  have E7:=hid (E6.out.trans (heq.trans (stop_if _ _ _)))
  have B8:=hid (B7.out.step hg)
  have P8:=hid (P7.out.gb hg)
  have R8:=hid (row_gb hg (by omega) R7.out)
  have D8:=hid (in_gb hg (by omega) D7.out)
  have C8:=hid (expr_any (2*q7.length+2) c q7 d7 w7 hcur (fun _=>by omega))
  clear ha hg hcur heq C7 B7 P7 R7 D7 HV7
  have x0:=P8.out.at_
  go_wp2_with fail
  refine C8.out.mono ?_
  rintro e w8 ⟨e0,us,rfl,hd,ha,hg⟩
  obtain ⟨A3,m3,a3,B3,l3,b3,C3',n3,c3,rfl,-⟩:=ex_open hd
  obtain ⟨q8,d8,hcur,-,-,heq⟩:=aft_next2 (exA_less q7) ha (fun e q=>Got.bind (allF [[125],[59]] q) fun _ q=>Got.ok (⟨3,nm.s,[],[],[],rc,vs,s,e,nm.o⟩:Dc) q)
  have E8:=hid (E7.out.trans (heq.trans (stop_if _ _ _)))
  have B9:=hid (B8.out.step hg)
  have hs8:=B8.out.big
  obtain ⟨V9,hV9⟩:∃ X,w8.setCells (w.heap.size+1) 14 [.int .i64 e0.kind,.string e0.name,.string e0.ty.name,.slice A3 m3 a3,.int .i64 e0.ty.off,.slice B3 l3 b3,.slice C3' n3 c3,.int .i64 e0.off]=X:=⟨_,rfl⟩
  have BV9:=hid (show Bx2 w V9 c 23 [.int .i64 3,.string nm.s,.slice none 0 0,.slice none 0 0,.slice none 0 0,.string rc,.slice V vs.length cv,.string s.name,.slice F2 nf2 cf2,.slice P2' np2 cp2,.string s.res.name,.slice A2 m2 a2,.int .i64 s.res.off,.int .i64 s.off,.int .i64 e0.kind,.string e0.name,.string e0.ty.name,.slice A3 m3 a3,.int .i64 e0.ty.off,.slice B3 l3 b3,.slice C3' n3 c3,.int .i64 e0.off,.int .i64 nm.o] from hV9▸(((((((((B9.out).field 14 (by omega) (.int .i64 e0.kind)).field 15 (by omega) (.string e0.name)).field 16 (by omega) (.string e0.ty.name)).field 17 (by omega) (.slice A3 m3 a3)).field 18 (by omega) (.int .i64 e0.ty.off)).field 19 (by omega) (.slice B3 l3 b3)).field 20 (by omega) (.slice C3' n3 c3)).field 21 (by omega) (.int .i64 e0.off)))
  have P9:=hid (show Ps V9 p c from hV9▸(P8.out.gb hg).set (by omega) _ _)
  have R9:=hid (show Row V9 False (Fr (w.heap.size+2) V9) 1 V vs.length (vs.map Dat.str) from hV9▸row_gb (gb_sets1 _ _ _ _) (by omega) (row_gb hg (by omega) R8.out))
  have D9:=hid (show s.dat.In V9 False (Fr (w.heap.size+2) V9) [.string s.name,.slice F2 nf2 cf2,.slice P2' np2 cp2,.string s.res.name,.slice A2 m2 a2,.int .i64 s.res.off,.int .i64 s.off] from hV9▸in_gb (gb_sets1 _ _ _ _) (by omega) (in_gb hg (by omega) D8.out))
  have X9:=hid (show e0.dat.In V9 False (Fr (w.heap.size+2) V9) [.int .i64 e0.kind,.string e0.name,.string e0.ty.name,.slice A3 m3 a3,.int .i64 e0.ty.off,.slice B3 l3 b3,.slice C3' n3 c3,.int .i64 e0.off] from hV9▸in_gb (gb_sets1 _ _ _ _) (by omega) (hd.wide fun i hi=>⟨Nat.le_trans hs8 hi.1,hi.2⟩))
  have O9:=hid (ex_one hd)
  have T9:=hid (there_sub B9.out.own (show 14+8≤23 by omega))
  have hcu:=show Cur V9 c q8 d8 from hV9▸hcur.set (by omega) _ _
  have HV9:=hid hV9
  clear hd ha hg hcur heq hV9 C8 B8 P8 R8 D8 x0
  go_upto_region 10 with (refine storeOp flatEx 44 43 (b:=w.heap.size+1) (o:=14) (us:=[.int .i64 e0.kind,.string e0.name,.string e0.ty.name,.slice A3 m3 a3,.int .i64 e0.ty.off,.slice B3 l3 b3,.slice C3' n3 c3,.int .i64 e0.off]) rfl rfl T9.out O9.out rfl ?_;rw [HV9.out])
  clear T9 O9 B9
  obtain ⟨V10,hV10⟩:∃ X,V9.alloc (.cells #[.string ⟨#[125]⟩,.string ⟨#[59]⟩] 9)=X:=⟨_,rfl⟩
  have hb10:Below V9.heap.size V9 V10:=hV10▸(Below.refl _ _).alloc (Nat.le_refl _) _
  have hz9:=BV9.out.big
  have B10:=hid (BV9.out.step (gb_of (some c) hb10))
  have P10:=hid (P9.out.later hb10)
  have R10:=hid (row_gb (gb_of (some 0) hb10) (by omega) R9.out)
  have D10:=hid (in_gb (gb_of (some 0) hb10) (by omega) D9.out)
  have X10:=hid (in_gb (gb_of (some 0) hb10) (by omega) X9.out)
  have C10:=hid (mustAll_any p c V9.heap.size 2 2 [⟨#[125]⟩,⟨#[59]⟩] q8 d8 V10 (hcu.later hb10) P10.out (hV10▸strs_two _ _ (by omega)) rfl (by omega))
  have HV10:=hid hV10
  clear hcu hV10 hb10 BV9 P9 R9 D9 X9
  go_wp2_with fail
  rw [HV10.out]
  refine C10.out.mono ?_
  rintro e w9 ⟨rfl,ha,hg⟩
  have HA:=hid ha
  have B11:=hid (B10.out.step hg)
  have R11:=row_gb hg (by omega) R10.out
  have D11:=in_gb hg (by omega) D10.out
  have X11:=in_gb hg (by omega) X10.out
  have HIN:=hid (show (⟨3,nm.s,[],[],[],rc,vs,s,e0,nm.o⟩:Dc).dat.In w9 False (Fr (w.heap.size+2) w9) [.int .i64 3,.string nm.s,.slice none 0 0,.slice none 0 0,.slice none 0 0,.string rc,.slice V vs.length cv,.string s.name,.slice F2 nf2 cf2,.slice P2' np2 cp2,.string s.res.name,.slice A2 m2 a2,.int .i64 s.res.off,.int .i64 s.off,.int .i64 e0.kind,.string e0.name,.string e0.ty.name,.slice A3 m3 a3,.int .i64 e0.ty.off,.slice B3 l3 b3,.slice C3' n3 c3,.int .i64 e0.off,.int .i64 nm.o] from dcMet_dat (cv:=cv) (by have:=HZ3.out;omega) (by have:=HZ2.out;omega) R11 D11 X11)
  have HX:=hid (boxd_at0 B11.out.box)
  have HRES:=hid B11.out.res
  clear ha hg C10 R11 D11 X11 B10 P10 R10 D10 X10 HV10
  go_wp2_with (first | (refine loadOp flatDc 3 48 rfl HX.out rfl ?_) | (refine storeOp flatDc 2 48 (b:=w.heap.size) (o:=0) (us:=[.int .i64 3,.string nm.s,.slice none 0 0,.slice none 0 0,.slice none 0 0,.string rc,.slice V vs.length cv,.string s.name,.slice F2 nf2 cf2,.slice P2' np2 cp2,.string s.res.name,.slice A2 m2 a2,.int .i64 s.res.off,.int .i64 s.off,.int .i64 e0.kind,.string e0.name,.string e0.ty.name,.slice A3 m3 a3,.int .i64 e0.ty.off,.slice B3 l3 b3,.slice C3' n3 c3,.int .i64 e0.off,.int .i64 nm.o]) rfl rfl HRES.out (dc_one HIN.out).1 rfl ?_))
  refine bodyPost_ret (results_method _ rfl (set_there (us:=[.int .i64 3,.string nm.s,.slice none 0 0,.slice none 0 0,.slice none 0 0,.string rc,.slice V vs.length cv,.string s.name,.slice F2 nf2 cf2,.slice P2' np2 cp2,.string s.res.name,.slice A2 m2 a2,.int .i64 s.res.off,.int .i64 s.off,.int .i64 e0.kind,.string e0.name,.string e0.ty.name,.slice A3 m3 a3,.int .i64 e0.ty.off,.slice B3 l3 b3,.slice C3' n3 c3,.int .i64 e0.off,.int .i64 nm.o]) HRES.out) rfl) rfl ?_
  refine ⟨_,_,rfl,(in_gb (gb_sets1 _ _ _ _) (by omega) HIN.out).wide fun i hi=>⟨by have:=hi.1;omega,hi.2⟩,?_,gb_sets (some c) B11.out.gb (Nat.le_refl _) _ _⟩
  rw [E8.out,stop_bind]
  exact (aft_ret HA.out (fun _=>(⟨3,nm.s,[],[],[],rc,vs,s,e0,nm.o⟩:Dc)) rfl).set hlt _ _
