/- The helper told of layer 8's laws, and their look at fixed examples. The conditions: the table of words, the variable of package errors. -/
import Derived.Test.YtkdlidakdknhjaaGreatDoorQDPaJ
set_option maxRecDepth 100000
set_option maxHeartbeats 16000000
open Go.Lib (hid)
namespace Go.Proofs.YtkdlidakdknhjaaGreatDoor.Rd
open Go.RowKit
theorem told8_nil (a:Int) (w:World):Calls Tryz.prog 8 #[.nilIface,.int .i64 0,.int .i64 a] w (BoolPost true w):=by
  go_enter Tryz.func8,Tryz.ntmps8
  go_wp2_with fail
  go_ret
  exact ⟨rfl,Below.refl _ _⟩
theorem told8_fault (c a:Int) (w:World) (hc:c=1∨c=2) (hE:ErrVar w):Calls Tryz.prog 8 #[faultV c a,.int .i64 c,.int .i64 a] w (BoolPost true w):=by
  have e0:(c==0)=false:=by rcases hc with rfl | rfl<;>rfl
  have C:=hid (code_fault c a w hE)
  have D:=hid (fun w hE=>at_fault c a w hE)
  have HE:=hid hE
  unfold faultV at *
  clear hc hE
  go_enter Tryz.func8,Tryz.ntmps8
  go_wp2_with fail
  refine C.out.mono ?_
  rintro e w1 ⟨rfl,hb1⟩
  have HE1:=hid (HE.out.later hb1)
  have HB1:=hid hb1
  clear hb1
  go_wp2_with fail
  refine (D.out _ HE1.out).mono ?_
  rintro e w2 ⟨rfl,hb2⟩
  have HB2:=hid (HB1.out.trans (hb2.mono HB1.out.size))
  clear hb2
  go_wp2_with fail
  go_ret
  exact ⟨ret_bool (by simp),HB2.out⟩
theorem told8_out {α:Type} (o:Out α) (w:World) (ho:∀ c a,o=.err c a→c=1∨c=2) (hE:ErrVar w):Calls Tryz.prog 8 #[o.errV,.int .i64 o.code,.int .i64 o.at] w (BoolPost true w):=by
  cases o with
  | good v=>exact told8_nil 0 w
  | err c a=>exact told8_fault c a w (ho c a rfl) hE
def aw8a:ByteArray:=⟨#[112,97,99,107,97,103,101,32,109,97,105,110,59,32,116,121,112,101,32,84,91,97,32,65,110,121,93,32,115,116,114,117,99,116,32,123,32,102,32,97,59,32,125,59,32,102,117,110,99,32,40,120,32,84,91,97,93,41,32,109,40,121,32,84,91,97,93,41,32,97,32,123,32,114,101,116,117,114,110,32,120,46,102,32,125,59,32,102,117,110,99,32,109,97,105,110,40,41,32,123,32,95,32,61,32,84,91,84,93,123,125,32,125]⟩
def aw8b:ByteArray:=⟨#[112,97,99,107,97,103,101,32,109,97,105,110]⟩
def aw8c:ByteArray:=⟨#[116,121,112,101,32,73,32,105,110,116,101,114,102,97,99,101,32,123,32,109,40,41,32,73,59,32,125,59]⟩
def aw8d:ByteArray:=⟨#[120]⟩
def awD0:Dc:={ dcStruct [⟨⟨#[102]⟩,(.mk ⟨#[97]⟩ [] 39:Ty),37⟩] with name:=⟨#[84]⟩,off:=19,fs:=[⟨⟨#[97]⟩,(.mk ⟨#[65,110,121]⟩ [] 23:Ty),21⟩] }
def awD1:Dc:=⟨3,⟨#[84]⟩,[],[],[],⟨#[120]⟩,[⟨#[97]⟩],⟨⟨#[109]⟩,[],[⟨⟨#[121]⟩,(.mk ⟨#[84]⟩ [(.mk ⟨#[97]⟩ [] 65:Ty)] 63:Ty),61⟩],(.mk ⟨#[97]⟩ [] 69:Ty),59⟩,exField ⟨#[102]⟩ (exVar ⟨#[120]⟩ 80) 82,53⟩
def awD3:Dc:={ dcInter [⟨⟨#[109]⟩,[],[],(.mk ⟨#[73]⟩ [] 23:Ty),19⟩] with name:=⟨#[73]⟩,off:=5,fs:=[] }
def awMain:Ex:=exLit (.mk ⟨#[84]⟩ [(.mk ⟨#[84]⟩ [] 107:Ty)] 105:Ty) []
theorem aw8_left1:left aw8a 0=.ok [⟨1,[112,97,99,107,97,103,101],0⟩,⟨1,[109,97,105,110],8⟩,⟨2,[59],12⟩,⟨1,[116,121,112,101],14⟩,⟨1,[84],19⟩,⟨2,[91],20⟩,⟨1,[97],21⟩,⟨1,[65,110,121],23⟩,⟨2,[93],26⟩,⟨1,[115,116,114,117,99,116],28⟩,⟨2,[123],35⟩,⟨1,[102],37⟩,⟨1,[97],39⟩,⟨2,[59],40⟩,⟨2,[125],42⟩,⟨2,[59],43⟩,⟨1,[102,117,110,99],45⟩,⟨2,[40],50⟩,⟨1,[120],51⟩,⟨1,[84],53⟩,⟨2,[91],54⟩,⟨1,[97],55⟩,⟨2,[93],56⟩,⟨2,[41],57⟩,⟨1,[109],59⟩,⟨2,[40],60⟩,⟨1,[121],61⟩,⟨1,[84],63⟩,⟨2,[91],64⟩,⟨1,[97],65⟩,⟨2,[93],66⟩,⟨2,[41],67⟩,⟨1,[97],69⟩,⟨2,[123],71⟩,⟨1,[114,101,116,117,114,110],73⟩,⟨1,[120],80⟩,⟨2,[46],81⟩,⟨1,[102],82⟩,⟨2,[125],84⟩,⟨2,[59],85⟩,⟨1,[102,117,110,99],87⟩,⟨1,[109,97,105,110],92⟩,⟨2,[40],96⟩,⟨2,[41],97⟩,⟨2,[123],99⟩,⟨2,[95],101⟩,⟨2,[61],103⟩,⟨1,[84],105⟩,⟨2,[91],106⟩,⟨1,[84],107⟩,⟨2,[93],108⟩,⟨2,[123],109⟩,⟨2,[125],110⟩,⟨2,[125],112⟩]:=by unfold left;rw [List.drop_zero];rfl
theorem aw8_left2:left aw8b 0=.ok [⟨1,[112,97,99,107,97,103,101],0⟩,⟨1,[109,97,105,110],8⟩]:=by unfold left;rw [List.drop_zero];rfl
theorem aw8_left3:left aw8c 0=.ok [⟨1,[116,121,112,101],0⟩,⟨1,[73],5⟩,⟨1,[105,110,116,101,114,102,97,99,101],7⟩,⟨2,[123],17⟩,⟨1,[109],19⟩,⟨2,[40],20⟩,⟨2,[41],21⟩,⟨1,[73],23⟩,⟨2,[59],24⟩,⟨2,[125],26⟩,⟨2,[59],27⟩]:=by unfold left;rw [List.drop_zero];rfl
theorem aw8_left4:left aw8d 0=.ok [⟨1,[120],0⟩]:=by unfold left;rw [List.drop_zero];rfl
theorem aw8_o1:pgO aw8a=.good ⟨[awD0,awD1],awMain⟩:=by unfold pgO wholeO;rw [aw8_left1];kernel_rfl
theorem aw8_o2:pgO aw8b=.err 2 12:=by unfold pgO wholeO;rw [aw8_left2];kernel_rfl
theorem aw8_o3:dcO aw8c=.good awD3:=by unfold dcO wholeO;rw [aw8_left3];kernel_rfl
theorem aw8_o4:(pgO aw8d).ok=false:=by unfold pgO wholeO;rw [aw8_left4];kernel_rfl
structure Aw8 (W:World) (b1 b5:Nat) (D:Addr) (c1:Nat) (G:Addr) (c5:Nat):Prop where
  k1:W.cell? ⟨b1,0,none⟩=some (.slice (some D) 2 c1)
  e0:W.cell? ((D.add 0).add 22)=some (.int .i64 19)
  e1:W.cell? (D.add 23)=some (.int .i64 3)
  e2:W.cell? ((D.add 23).add 5)=some (.string ⟨#[120]⟩)
  k5:W.cell? ⟨b5,4,none⟩=some (.slice (some G) 1 c5)
  s0:W.cell? ((G.add 0).add 6)=some (.int .i64 19)
  err:ErrVar W
theorem Aw8.later {W W':World} {b1 b5 c1 c5:Nat} {D G:Addr} (h:Aw8 W b1 b5 D c1 G c5) (hb:Below W.heap.size W W'):Aw8 W' b1 b5 D c1 G c5 :=
  ⟨(hb.cell (cell_lt h.k1)).trans h.k1,(hb.cell (cell_lt h.e0)).trans h.e0,(hb.cell (cell_lt h.e1)).trans h.e1,(hb.cell (cell_lt h.e2)).trans h.e2,(hb.cell (cell_lt h.k5)).trans h.k5,(hb.cell (cell_lt h.s0)).trans h.s0,h.err.later hb⟩
theorem Aw8.flat {W:World} {b1 b5 c1 c5:Nat} {D G:Addr} (h:Aw8 W b1 b5 D c1 G c5):W.cell? ⟨D.block,D.off+22,none⟩=some (.int .i64 19)∧W.cell? ⟨D.block,D.off+23,none⟩=some (.int .i64 3)∧W.cell? ⟨D.block,D.off+23+5,none⟩=some (.string ⟨#[120]⟩)∧W.cell? ⟨D.block,D.off+28,none⟩=some (.string ⟨#[120]⟩)∧W.cell? ⟨G.block,G.off+6,none⟩=some (.int .i64 19):=by
  exact ⟨h.e0,h.e1,h.e2,h.e2,h.s0⟩
theorem awake8_any (w:World) (hR:ResVar w) (hE:ErrVar w):Calls Tryz.prog 4 #[] w (BoolPost true w):=by
  have C1:=hid (show Calls Tryz.prog 11 #[.string aw8a] w (fun e w'=>∃ us,e=.returned (.tuple #[.agg us.toArray,.nilIface])∧(⟨[awD0,awD1],awMain⟩:Pg).dat.In w' False (Fr w.heap.size w') us∧Below w.heap.size w w') from
    (paProgram_any aw8a w (by decide) hR).mono fun e w' h=>by
      obtain ⟨us,h1,h2,h3⟩:=h
      rw [aw8_o1] at h1 h2
      exact ⟨us,h1,h2,h3⟩)
  unfold aw8a at C1
  have HR:=hid hR
  have HE:=hid hE
  clear hR hE
  go_enter Tryz.func4,Tryz.ntmps4
  go_wp2_with fail
  refine C1.out.mono ?_
  rintro e w1 ⟨us,rfl,hd,hb⟩
  have h9:=pg_ones hd
  obtain ⟨A1,n1,c1,bv,hus,hrow,-⟩:=pg_open hd
  obtain ⟨D,x0,v0,hA0,hx0,-,-,hd0,hc0⟩:=dat_at (k:=0) hrow (by have:=hrow.len;rw [List.length_map] at this;rw [←this];decide)
  obtain ⟨D',x1,v1,hA1,hx1,-,-,hd1,hc1⟩:=dat_at (k:=1) hrow (by have:=hrow.len;rw [List.length_map] at this;rw [←this];decide)
  obtain rfl:n1=2:=by have:=hrow.len;rw [List.length_map] at this;rw [←this];rfl
  subst hA0
  obtain rfl:D=D':=Option.some.inj hA1
  obtain rfl:awD0=x0:=Option.some.inj hx0
  obtain rfl:awD1=x1:=Option.some.inj hx1
  have he0:w1.cell? ((D.add 0).add 22)=some (.int .i64 19):=by
    obtain ⟨F,nf,cf,M,nm,cm,G,ng,cg,V,nv,cv,F2,nf2,cf2,P2,np2,cp2,A2,m2,a2,A3,m3,a3,B3,l3,b3,C3,n3,c3,rfl,-⟩:=dc_opens hd0
    have h:=hc0 22 _ rfl
    rw [Nat.zero_mul] at h
    exact h
  have he1:w1.cell? (D.add 23)=some (.int .i64 3)∧w1.cell? ((D.add 23).add 5)=some (.string ⟨#[120]⟩):=by
    obtain ⟨F,nf,cf,M,nm,cm,G,ng,cg,V,nv,cv,F2,nf2,cf2,P2,np2,cp2,A2,m2,a2,A3,m3,a3,B3,l3,b3,C3,n3,c3,rfl,-⟩:=dc_opens hd1
    have h:=hc1 0 _ rfl
    rw [Nat.one_mul,show (D.add 23).add 0=D.add 23 by simp [Addr.add]] at h
    have h5:=hc1 5 _ rfl
    rw [Nat.one_mul] at h5
    exact ⟨h,h5⟩
  obtain ⟨W1,hW1,hb1,bx1,th1⟩:=putProgram w1 h9.2
  have hall:=hb.trans (hb1.mono hb.size)
  have HK1:=hid (show W1.cell? ⟨w1.heap.size,0,none⟩=some (.slice (some D) 2 c1) from bx1 0 _ (by rw [hus];rfl))
  have HE01:=hid (And.intro ((hb1.cell (cell_lt he0)).trans he0) (And.intro ((hb1.cell (cell_lt he1.1)).trans he1.1) ((hb1.cell (cell_lt he1.2)).trans he1.2)))
  have HR1:=hid (HR.out.later hall)
  have HE1:=hid (HE.out.later hall)
  have HB1:=hid hall
  have HV1:=hid hW1
  have TH1:=hid th1
  have HL1:=hid h9
  have C2:=hid (show Calls Tryz.prog 11 #[.string aw8b] W1 (fun e w'=>∃ us,e=.returned (.tuple #[.agg us.toArray,faultV 2 12])∧pgNone.dat.In w' False (Fr W1.heap.size w') us∧Below W1.heap.size W1 w') from
    (paProgram_any aw8b W1 (by decide) HR1.out).mono fun e w' h=>by
      obtain ⟨us,h1,h2,h3⟩:=h
      rw [aw8_o2] at h1 h2
      exact ⟨us,h1,h2,h3⟩)
  unfold aw8b faultV at C2
  clear hd hrow hd0 hd1 hc0 hc1 he0 he1 hx0 hx1 hA1 hb hb1 hW1 C1 HR HE h9 bx1 th1 hall hus
  go_upto_region 2 with (refine storeOp flatPg 1 11 (b:=w1.heap.size) (o:=0) (us:=us) rfl rfl TH1.out HL1.out.1 HL1.out.2 ?_;rw [HV1.out])
  go_wp2_with fail
  refine C2.out.mono ?_
  rintro e w2 ⟨us2,rfl,hd,hb⟩
  have h9:=pg_ones hd
  obtain ⟨W2,hW2,hb2,bx2,th2⟩:=putProgram w2 h9.2
  have hall:=hb.trans (hb2.mono hb.size)
  have HK2:=hid ((hall.cell (cell_lt HK1.out)).trans HK1.out)
  have HE02:=hid (And.intro ((hall.cell (cell_lt HE01.out.1)).trans HE01.out.1) (And.intro ((hall.cell (cell_lt HE01.out.2.1)).trans HE01.out.2.1) ((hall.cell (cell_lt HE01.out.2.2)).trans HE01.out.2.2)))
  have HR2:=hid (HR1.out.later hall)
  have HE2:=hid (HE1.out.later hall)
  have HB2:=hid (HB1.out.trans (hall.mono HB1.out.size))
  have HV2:=hid hW2
  have TH2:=hid th2
  have HL2:=hid h9
  have C3:=hid (show Calls Tryz.prog 5 #[.string aw8c] W2 (fun e w'=>∃ us,e=.returned (.tuple #[.agg us.toArray,.nilIface])∧awD3.dat.In w' False (Fr W2.heap.size w') us∧Below W2.heap.size W2 w') from
    (paDecl_any aw8c W2 (by decide) HR2.out).mono fun e w' h=>by
      obtain ⟨us,h1,h2,h3⟩:=h
      rw [aw8_o3] at h1 h2
      exact ⟨us,h1,h2,h3⟩)
  unfold aw8c at C3
  clear hd hb hb2 hall hW2 C2 HK1 HE01 HR1 HE1 HB1 HV1 TH1 HL1 h9 bx2 th2
  go_upto_region 3 with (refine storeOp flatPg 3 15 (b:=w2.heap.size) (o:=0) (us:=us2) rfl rfl TH2.out HL2.out.1 HL2.out.2 ?_;rw [HV2.out])
  go_wp2_with fail
  refine C3.out.mono ?_
  rintro e w3 ⟨us3,rfl,hd,hb⟩
  have h9:=dc_one hd
  obtain ⟨F,nf,cf,P,np,cp,G0,ng,cg,V,nv,cv,sv,bv,hus,-,-,-,hgs,-⟩:=dc_open hd
  obtain ⟨G,x0,v0,hA0,hx0,-,-,hd0,hc0⟩:=dat_at (k:=0) hgs (by have:=hgs.len;rw [List.length_map] at this;rw [←this];decide)
  obtain rfl:ng=1:=by have:=hgs.len;rw [List.length_map] at this;rw [←this];rfl
  subst hA0
  obtain rfl:(⟨⟨#[109]⟩,[],[],.mk ⟨#[73]⟩ [] 23,19⟩:Sg)=x0:=Option.some.inj hx0
  have hs0:w3.cell? ((G.add 0).add 6)=some (.int .i64 19):=by
    obtain ⟨y1,y2,y3,y4,y5,y6,y7,y8,y9,rfl⟩:=sg_opens hd0
    have h:=hc0 6 _ rfl
    rw [Nat.zero_mul] at h
    exact h
  obtain ⟨W3,hW3,hb3,bx3,th3⟩:=putDecl w3 h9.2
  have hall:=hb.trans (hb3.mono hb.size)
  have HAW:=hid (show Aw8 W3 w1.heap.size w3.heap.size D c1 G cg from ⟨(hall.cell (cell_lt HK2.out)).trans HK2.out,(hall.cell (cell_lt HE02.out.1)).trans HE02.out.1,(hall.cell (cell_lt HE02.out.2.1)).trans HE02.out.2.1,(hall.cell (cell_lt HE02.out.2.2)).trans HE02.out.2.2,bx3 4 _ (by rw [hus];rfl),(hb3.cell (cell_lt hs0)).trans hs0,HE2.out.later hall⟩)
  have HR3:=hid (HR2.out.later hall)
  have HB3:=hid (HB2.out.trans (hall.mono HB2.out.size))
  have HV3:=hid hW3
  have TH3:=hid th3
  have HL3:=hid h9
  have C4:=hid (show Calls Tryz.prog 12 #[.string aw8d] W3 (fun e w'=>∃ us:List Value,e=.returned (.tuple #[.agg us.toArray,.bool false])∧(∀ u∈us,u.oneCell'=true)∧us.length=9∧Below W3.heap.size W3 w') from
    (paTree_any aw8d W3 (by decide) HR3.out).mono fun e w' h=>by
      obtain ⟨us,h1,h2,h3⟩:=h
      rw [aw8_o4] at h1
      exact ⟨us,h1,(pg_ones h2).1,(pg_ones h2).2,h3⟩)
  unfold aw8d at C4
  clear hd hb hb3 hall hW3 C3 HK2 HE02 HR2 HE2 HB2 HV2 TH2 HL2 h9 bx3 th3 hgs hd0 hc0 hs0 hus hx0
  go_upto_region 4 with (refine storeOp flatDc 5 19 (b:=w3.heap.size) (o:=0) (us:=us3) rfl rfl TH3.out HL3.out.1 HL3.out.2 ?_;rw [HV3.out])
  go_wp2_with fail
  refine C4.out.mono ?_
  rintro e w4 ⟨us4,rfl,h41,h42,hb⟩
  obtain ⟨W4,hW4,hb4,-,th4⟩:=putProgram w4 h42
  have hall:=hb.trans (hb4.mono hb.size)
  have HA4:=hid (HAW.out.later hall)
  have HB4:=hid (HB3.out.trans (hall.mono HB3.out.size))
  have HV4:=hid hW4
  have TH4:=hid th4
  have HL4:=hid (And.intro h41 h42)
  have C7:=hid (told8_fault 2 12 W4 (.inr rfl) HA4.out.err)
  unfold faultV at C7
  clear hb hb4 hall hW4 C4 HAW HR3 HB3 HV3 TH3 HL3 th4 h41 h42
  go_upto_region 5 with (refine storeOp flatPg 7 23 (b:=w4.heap.size) (o:=0) (us:=us4) rfl rfl TH4.out HL4.out.1 HL4.out.2 ?_;rw [HV4.out])
  have x1:=HA4.out.k1
  have x5:=HA4.out.k5
  obtain ⟨y0,y1,y2,y3,y5⟩:=HA4.out.flat
  clear HV4 TH4 HL4
  go_wp2_with fail
  refine C7.out.mono ?_
  rintro e w5 ⟨rfl,hb⟩
  have HA5:=hid (HA4.out.later hb)
  have HB5:=hid (HB4.out.trans (hb.mono HB4.out.size))
  clear hb C7 x1 x5 y0 y1 y2 y3 y5 HA4
  have x5:=HA5.out.k5
  obtain ⟨-,-,-,-,y5⟩:=HA5.out.flat
  go_wp2_with fail
  go_ret
  exact ⟨rfl,HB5.out⟩
