/- The blocks of the reference's Expr, and what reading behind a bracket gives. No condition.
Within a round of the reference's Expr: the four blocks, the row of the one kid, the next expression. No condition.
The walk of Expr of layer 7's reference. The condition: the place stands in tokens of a text. -/
import Derived.Test.YtkdlidakdknhjaaGreatDoorQDRfE
import Derived.Test.YtkdlidakdknhjaaGreatDoorQDRxP
import Derived.Lib.IndexAny
import Derived.WalkMore
set_option maxRecDepth 100000
set_option maxHeartbeats 8000000
open Go.Lib (hid)
namespace Go.Proofs.YtkdlidakdknhjaaGreatDoor.Rd
open Go.RowKit
theorem boxd_cell {w:World} {b j:Nat} {us:List Value} {v:Value} (h:Boxd w b us) (hj:j<us.length):Boxd (w.setCell ⟨b,j,none⟩ v) b (us.set j v):=fun k u hu=>by
  by_cases e:k=j
  · subst e
    have h1:=h k us[k] (List.getElem?_eq_getElem hj)
    rw [List.getElem?_set_self hj] at hu
    obtain rfl:=Option.some.inj hu
    exact World.cell?_setCell_same _ _ _ h1
  rw [List.getElem?_set_ne (fun e2=>e e2.symm)] at hu
  exact (World.cell?_setCell_other _ _ _ _ (by intro e2;exact e (by injection e2 with _ h2 _;exact_mod_cast h2.symm))).trans (h k u hu)
structure X4 (w W:World) (ps us:List Value):Prop where
  bel:Below w.heap.size w W
  big:w.heap.size+4≤W.heap.size
  box:Boxd W w.heap.size ps
  own:W.there w.heap.size 0 3
  res1:W.there (w.heap.size+1) 0 3
  res2:W.there (w.heap.size+2) 0 8
  ex:Boxd W (w.heap.size+3) us
  exo:W.there (w.heap.size+3) 0 8
  pl:ps.length=3
  el:us.length=8
theorem X4.later {w W W':World} {ps us:List Value} (h:X4 w W ps us) (hb:Below W.heap.size W W'):X4 w W' ps us:=by
  have hs:=h.big
  exact ⟨h.bel.trans (hb.mono h.bel.size),Nat.le_trans hs hb.size,h.box.later hb,there_below h.own (by omega) hb,there_below h.res1 (by omega) hb,there_below h.res2 (by omega) hb,h.ex.later hb,there_below h.exo (by omega) hb,h.pl,h.el⟩
theorem X4.place {w W:World} {ps us:List Value} (h:X4 w W ps us) (ps':List Value) (hl:ps'.length=3):X4 w (W.setCells w.heap.size 0 ps') ps' us:=by
  have g1:=gb_sets1 W w.heap.size 0 ps'
  exact ⟨h.bel.trans (below_sets (Nat.le_refl _) ps' 0 W),by rw [size_sets];exact h.big,set_there (us:=ps') (by rw [hl];exact h.own),World.there_setCells h.own _ _ _,World.there_setCells h.res1 _ _ _,World.there_setCells h.res2 _ _ _,boxd_gb g1 (by omega) h.ex,World.there_setCells h.exo _ _ _,hl,h.el⟩
theorem X4.placeAt {w W:World} {ps us:List Value} (h:X4 w W ps us) (j:Nat) (hj:j<3) (v:Value):X4 w (W.setCell ⟨w.heap.size,j,none⟩ v) (ps.set j v) us:=by
  have g1:W.grownBy (W.setCells w.heap.size j [v]) (some w.heap.size):=gb_sets1 W w.heap.size j [v]
  have hz:(W.setCell ⟨w.heap.size,j,none⟩ v).heap.size=W.heap.size:=size_sets w.heap.size [v] j W
  exact ⟨h.bel.trans (below_sets (Nat.le_refl _) [v] j W),by rw [hz];exact h.big,boxd_cell h.box (by rw [h.pl];exact hj),World.there_setCells h.own w.heap.size j [v],World.there_setCells h.res1 w.heap.size j [v],World.there_setCells h.res2 w.heap.size j [v],boxd_gb g1 (by omega) h.ex,World.there_setCells h.exo w.heap.size j [v],by rw [List.length_set];exact h.pl,h.el⟩
theorem X4.field {w W:World} {ps us:List Value} (h:X4 w W ps us) (j:Nat) (hj:j<8) (v:Value):X4 w (W.setCell ⟨w.heap.size+3,j,none⟩ v) ps (us.set j v):=by
  have g1:W.grownBy (W.setCells (w.heap.size+3) j [v]) (some (w.heap.size+3)):=gb_sets1 W (w.heap.size+3) j [v]
  have hz:(W.setCell ⟨w.heap.size+3,j,none⟩ v).heap.size=W.heap.size:=size_sets (w.heap.size+3) [v] j W
  exact ⟨h.bel.trans (below_sets (by omega) [v] j W),by rw [hz];exact h.big,boxd_gb g1 (by omega) h.box,World.there_setCells h.own (w.heap.size+3) j [v],World.there_setCells h.res1 (w.heap.size+3) j [v],World.there_setCells h.res2 (w.heap.size+3) j [v],boxd_cell h.ex (by rw [h.el];exact hj),World.there_setCells h.exo (w.heap.size+3) j [v],h.pl,by rw [List.length_set];exact h.el⟩
theorem X4.whole {w W:World} {ps us:List Value} (h:X4 w W ps us) (us':List Value) (hl:us'.length=8):X4 w (W.setCells (w.heap.size+3) 0 us') ps us':=by
  have g1:=gb_sets1 W (w.heap.size+3) 0 us'
  exact ⟨h.bel.trans (below_sets (by omega) us' 0 W),by rw [size_sets];exact h.big,boxd_gb g1 (by omega) h.box,World.there_setCells h.own _ _ _,World.there_setCells h.res1 _ _ _,World.there_setCells h.res2 _ _ _,set_there (us:=us') (by rw [hl];exact h.exo),World.there_setCells h.exo _ _ _,h.pl,hl⟩
theorem X4.far {w W:World} {ps us:List Value} (h:X4 w W ps us) (g j:Nat) (hg:w.heap.size+4≤g) (vs:List Value):X4 w (W.setCells g j vs) ps us:=by
  have g1:=gb_sets1 W g j vs
  exact ⟨h.bel.trans (below_sets (by omega) vs j W),by rw [size_sets];exact h.big,boxd_gb g1 (by omega) h.box,World.there_setCells h.own _ _ _,World.there_setCells h.res1 _ _ _,World.there_setCells h.res2 _ _ _,boxd_gb g1 (by omega) h.ex,World.there_setCells h.exo _ _ _,h.pl,h.el⟩
theorem targsF_some {n:Nat} {l q:List Tk} {ts:List Ty} (h:targsF n l=.ok ts q) (hT:isT [91] l=true):ts.isEmpty=false:=by
  unfold targsF targsG at h
  rw [if_pos hT] at h
  obtain ⟨us,r,h1,h2⟩:=bind_got h
  obtain ⟨_,r2,h3,h4⟩:=bind_got h2
  injection h4 with h6 h7
  subst h6 h7
  obtain ⟨u,r3,h5,h6⟩:=bind_got h1
  obtain ⟨vs,rfl,-⟩:=(tyF_good n).2 _ _ _ _ h6
  rfl
theorem targsF_none {n:Nat} {l:List Tk} (hT:isT [91] l=false):targsF n l=.ok [] l:=by
  unfold targsF targsG
  rw [hT]
  rfl
theorem firstF_lit {M:Nat} {l:List Tk} (nm:Tk) (r:List Tk) (hn:name l=.ok nm r) (hT:(isT [91] r || isT [123] r)=true) :
    firstF (M+1) l=Got.bind (targsF M r) fun ts q=>Got.bind (must [123] q) fun _ q=>Got.bind (argsF (M+1) [125] q) fun xs q=>.ok (exLit (.mk nm.s ts nm.o) xs) q:=by
  unfold firstF firstG
  rw [tyF_succ,hn,bind_ok,bind_bind]
  cases hg:targsF M r with
  | bad q=>rfl
  | ok ts q =>
    rw [bind_ok,bind_ok,bind_ok]
    have hc:((Ty.mk nm.s ts nm.o).args.isEmpty&&!isT [123] q)=false:=by
      show (ts.isEmpty&&!isT [123] q)=false
      cases h9:isT [91] r
      · rw [h9,Bool.false_or] at hT
        rw [targsF_none h9] at hg
        injection hg with h1 h2
        subst h1 h2
        rw [hT]
        rfl
      rw [targsF_some hg h9]
      rfl
    rw [hc]
    rfl
theorem firstF_var {M:Nat} {l:List Tk} (nm:Tk) (r:List Tk) (hn:name l=.ok nm r) (h9:isT [91] r=false) (h1:isT [123] r=false) :
    firstF (M+1) l=.ok (exVar nm.s nm.o) r:=by
  unfold firstF firstG
  rw [tyF_succ,hn,bind_ok,targsF_none h9,bind_ok,bind_ok]
  show (if (([]:List Ty).isEmpty&&!isT [123] r)=true then _ else _)=_
  rw [h1]
  rfl
theorem firstF_bad {M:Nat} {l q:List Tk} (hn:name l=.bad q):firstF (M+1) l=.bad q:=by
  unfold firstF firstG
  rw [tyF_succ,hn]
  rfl
theorem restF_assert {M:Nat} {e:Ex} {l:List Tk} (h:isT [40] l=true):restF M e l=Got.bind (tyF M l.tail) fun t q=>Got.bind (must [41] q) fun _ q=>.ok (exAssert t e (off l)) q:=by
  unfold restF restG
  rw [h]
  rfl
theorem restF_bad {M:Nat} {e:Ex} {l q:List Tk} (h:isT [40] l=false) (hn:name l=.bad q):restF M e l=.bad q:=by
  unfold restF restG
  rw [h,hn]
  rfl
theorem restF_field {M:Nat} {e:Ex} {l r:List Tk} {nm:Tk} (h:isT [40] l=false) (hn:name l=.ok nm r) (h9:isT [91] r=false) (h1:isT [40] r=false):restF M e l=.ok (exField nm.s e nm.o) r:=by
  unfold restF restG
  rw [h,hn,if_neg (by decide),bind_ok,targsF_none h9,bind_ok]
  show (if (([]:List Ty).isEmpty&&!isT [40] r)=true then _ else _)=_
  rw [h1]
  rfl
theorem restF_call {M:Nat} {e:Ex} {l r:List Tk} {nm:Tk} (h:isT [40] l=false) (hn:name l=.ok nm r) (hT:(isT [91] r || isT [40] r)=true) :
    restF M e l=Got.bind (targsF M r) fun ts q=>Got.bind (must [40] q) fun _ q=>Got.bind (argsF M [41] q) fun xs q=>.ok (exCall nm.s ts (e :: xs) nm.o) q:=by
  unfold restF restG
  rw [h,hn,if_neg (by decide),bind_ok]
  cases hg:targsF M r with
  | bad q=>rfl
  | ok ts q =>
    rw [bind_ok,bind_ok]
    have hc:(ts.isEmpty&&!isT [40] q)=false:=by
      cases h9:isT [91] r
      · rw [h9,Bool.false_or] at hT
        rw [targsF_none h9] at hg
        injection hg with h1 h2
        subst h1 h2
        rw [hT]
        rfl
      rw [targsF_some hg h9]
      rfl
    rw [hc]
    rfl
open Go.RowKit
structure NX (w W:World) (x:Ex) (g:Nat) (ps us vs:List Value):Prop where
  x4:X4 w W ps us
  dat:x.dat.In W False (fun k=>w.heap.size+4≤k∧k<g) us
  own:W.ownsRow g 34 8 (.slice (some ⟨g,0,none⟩) 1 1) 1 us
  nx:Boxd W (g+1) vs
  nxo:W.there (g+1) 0 8
  low:w.heap.size+4≤g
  big:g+2≤W.heap.size
  nl:vs.length=8
theorem NX.grow {w W W':World} {x:Ex} {g c:Nat} {ps ps' us vs:List Value} (h:NX w W x g ps us vs) (hg:W.grownBy W' (some c)) (hc:c<w.heap.size+4) (h4:X4 w W' ps' us):NX w W' x g ps' us vs:=by
  have h1:=h.low
  have h2:=h.big
  exact ⟨h4,Dat.In.keep id (gb_kept hg fun k hk=>⟨by omega,by omega⟩) (fun _ h=>h) _ _ h.dat,h.own.kept hg (.inr fun e=>by
    have e2:some g=some c:=e
    injection e2 with e2
    omega),boxd_gb hg (by omega) h.nx,there_gb h.nxo (by omega) (by omega) hg,h.low,Nat.le_trans h.big hg.size,h.nl⟩
theorem NX.later {w W W':World} {x:Ex} {g:Nat} {ps us vs:List Value} (h:NX w W x g ps us vs) (hb:Below W.heap.size W W'):NX w W' x g ps us vs:=h.grow (gb_of (some 0) hb) (by omega) (h.x4.later hb)
theorem NX.place {w W:World} {x:Ex} {g:Nat} {ps us vs:List Value} (h:NX w W x g ps us vs) (ps':List Value) (hl:ps'.length=3):NX w (W.setCells w.heap.size 0 ps') x g ps' us vs:=h.grow (gb_sets1 _ _ _ _) (by omega) (h.x4.place ps' hl)
theorem NX.placeAt {w W:World} {x:Ex} {g:Nat} {ps us vs:List Value} (h:NX w W x g ps us vs) (j:Nat) (hj:j<3) (v:Value):NX w (W.setCell ⟨w.heap.size,j,none⟩ v) x g (ps.set j v) us vs:=h.grow (gb_set _ _ _ _) (by omega) (h.x4.placeAt j hj v)
theorem NX.put {w W:World} {x:Ex} {g:Nat} {ps us vs:List Value} (h:NX w W x g ps us vs) (j:Nat) (ys vs':List Value) (hx:Boxd (W.setCells (g+1) j ys) (g+1) vs') (hl:vs'.length=8):NX w (W.setCells (g+1) j ys) x g ps us vs':=by
  have h1:=h.low
  have h2:=h.big
  have hg:=gb_sets1 W (g+1) j ys
  exact ⟨h.x4.far (g+1) j (by omega) ys,Dat.In.keep id (gb_kept hg fun k hk=>⟨by omega,by omega⟩) (fun _ h=>h) _ _ h.dat,h.own.kept hg (.inr fun e=>by
    have e2:some g=some (g+1):=e
    injection e2 with e2
    omega),hx,World.there_setCells h.nxo _ _ _,h.low,Nat.le_trans h.big hg.size,hl⟩
theorem NX.field {w W:World} {x:Ex} {g:Nat} {ps us vs:List Value} (h:NX w W x g ps us vs) (j:Nat) (hj:j<8) (v:Value):NX w (W.setCell ⟨g+1,j,none⟩ v) x g ps us (vs.set j v) :=
  h.put j [v] (vs.set j v) (boxd_cell h.nx (by rw [h.nl];exact hj)) (by rw [List.length_set];exact h.nl)
theorem NX.free {w W:World} {x:Ex} {g:Nat} {ps us vs:List Value} (h:NX w W x g ps us vs) (j:Nat) (hj:j<8):W.frozen? ⟨g+1,j,none⟩=false:=by
  have:=(h.nxo j hj).2
  rwa [Nat.zero_add] at this
theorem NX.new {w W:World} {x:Ex} {ps:List Value} {v0 v1 v2 v3 v4 v5 v6 v7:Value} (h:X4 w W ps [v0,v1,v2,v3,v4,v5,v6,v7]) (hd:x.dat.In W False (Fr (w.heap.size+4) W) [v0,v1,v2,v3,v4,v5,v6,v7]) :
    ∃ W',(W.alloc (.cells #[v0,v1,v2,v3,v4,v5,v6,v7] 34)).alloc (.cells #[.int .i64 0,.string ⟨#[]⟩,.string ⟨#[]⟩,.slice none 0 0,.int .i64 0,.slice none 0 0,.slice (some ⟨W.heap.size,0,none⟩) 1 1,.int .i64 0] 34)=W'∧W'.heap.size=W.heap.size+2
      ∧ NX w W' x W.heap.size ps [v0,v1,v2,v3,v4,v5,v6,v7] [.int .i64 0,.string ⟨#[]⟩,.string ⟨#[]⟩,.slice none 0 0,.int .i64 0,.slice none 0 0,.slice (some ⟨W.heap.size,0,none⟩) 1 1,.int .i64 0]:=by
  have hlow:=h.big
  obtain ⟨W1,h1⟩:∃ X,W.alloc (.cells #[v0,v1,v2,v3,v4,v5,v6,v7] 34)=X:=⟨_,rfl⟩
  have hb1:Below W.heap.size W W1:=h1▸(Below.refl _ _).alloc (Nat.le_refl _) _
  have hz1:W1.heap.size=W.heap.size+1:=by rw [←h1];simp
  have ho1:W1.ownsRow W.heap.size 34 8 (.slice (some ⟨W.heap.size,0,none⟩) 1 1) 1 [v0,v1,v2,v3,v4,v5,v6,v7]:=h1▸World.ownsRow_lit (base:=W.heap.size) (e:=34) (size:=8) W #[v0,v1,v2,v3,v4,v5,v6,v7] 1 (by omega) (by unfold maxLen;omega) rfl
  rw [h1]
  obtain ⟨vs,hvs⟩:∃ vs:List Value,[.int .i64 0,.string ⟨#[]⟩,.string ⟨#[]⟩,.slice none 0 0,.int .i64 0,.slice none 0 0,.slice (some ⟨W.heap.size,0,none⟩) 1 1,.int .i64 0]=vs:=⟨_,rfl⟩
  have hl:vs.length=8:=by rw [←hvs];rfl
  rw [show (#[.int .i64 0,.string ⟨#[]⟩,.string ⟨#[]⟩,.slice none 0 0,.int .i64 0,.slice none 0 0,.slice (some ⟨W.heap.size,0,none⟩) 1 1,.int .i64 0]:Array Value)=vs.toArray by rw [←hvs],hvs]
  obtain ⟨W2,h2⟩:∃ X,W1.alloc (.cells vs.toArray 34)=X:=⟨_,rfl⟩
  have hb2:Below W1.heap.size W1 W2:=h2▸(Below.refl _ _).alloc (Nat.le_refl _) _
  have hz2:W2.heap.size=W.heap.size+2:=by rw [←h2];simp;omega
  rw [h2]
  refine ⟨W2,rfl,hz2,(h.later hb1).later hb2,?_,ho1.kept (gb_of (some 0) hb2) (.inr fun e=>?_),?_,?_,by omega,by omega,hl⟩
  · exact Dat.In.keep id (gb_kept (gb_of (some 0) hb2) fun k hk=>⟨by omega,by omega⟩) (fun _ h=>h) _ _ (Dat.In.keep id (gb_kept (gb_of (some 0) hb1) fun k hk=>⟨hk.2,by have:=hk.1;omega⟩) (fun k hk=>hk) _ _ hd)
  · have e2:some W.heap.size=some 0:=e
    injection e2 with e2
    omega
  · have:=Boxd.new W1 vs.toArray 34
    rw [h2,hz1] at this
    exact this
  have:=there_new W1 vs.toArray 34
  rw [h2,hz1] at this
  simpa [hl] using this
theorem NX.one {w W:World} {x:Ex} {g:Nat} {ps us vs:List Value} (h:NX w W x g ps us vs):Row W False (Fr (w.heap.size+4) W) 8 (some ⟨g,0,none⟩) 1 (Ex.dats [x]):=by
  have h1:=h.low
  have h2:=h.big
  obtain ⟨A,cp,e,hr,-⟩:=row_of_own (S':=Fr (w.heap.size+4) W) h.own (show Dat.Ins W False (fun k=>w.heap.size+4≤k∧k<g) [x.dat] us by rw [Dat.Ins];exact ⟨us,[],by simp,h.dat,by rw [Dat.Ins]⟩) (fun d hd=>by rw [List.mem_singleton.1 hd];exact Ex.dat_size x) (by omega) (fun k hk=>⟨hk.1,by omega⟩) (fun i hi=>⟨by have:=(h.own.lt i hi).1;omega,(h.own.lt i hi).2⟩) (by omega)
  simp only [Value.slice.injEq] at e
  obtain ⟨rfl,-,-⟩:=e
  rw [Ex.dats_map]
  exact hr
theorem NX.shut {w W:World} {x y:Ex} {g:Nat} {ps us vs:List Value} (h:NX w W x g ps us vs) (hd:y.dat.In W False (Fr (w.heap.size+4) W) vs):X4 w (W.setCells (w.heap.size+3) 0 vs) ps vs∧y.dat.In (W.setCells (w.heap.size+3) 0 vs) False (Fr (w.heap.size+4) (W.setCells (w.heap.size+3) 0 vs)) vs :=
  ⟨h.x4.whole vs h.nl,in_gb (gb_sets1 _ _ _ _) (by omega) hd⟩
structure AX (w W:World) (xs:List Ex) (g n:Nat) (A:Option Addr) (ps us vs:List Value):Prop where
  x4:X4 w W ps us
  nx:Boxd W (g+1) vs
  nxo:W.there (g+1) 0 8
  row:Row W False (fun k=>Fr (w.heap.size+4) W k∧k≠g+1) 8 A n (Ex.dats xs)
  low:w.heap.size+4≤g
  big:g+2≤W.heap.size
  nl:vs.length=8
theorem NX.app {w W W':World} {x:Ex} {g:Nat} {ps us vs cs:List Value} {xs:List Ex} {v':Value} {lo:Nat} (h:NX w W x g ps us vs) (hlo:g+2≤lo) (hcs:Dat.Ins W False (Fr lo W) (Ex.dats xs) cs) (hx:xs.length≤100002) (hA:Appd W W' g 34 8 1 xs.length (.slice (some ⟨g,0,none⟩) 1 1) v' us cs) :
    ∃ A c,v'=.slice A (1+xs.length) c∧1+xs.length≤c∧AX w W' (x :: xs) g (1+xs.length) A ps us vs∧W.grownBy W' (some g):=by
  have hg:W.grownBy W' (some g):=hA.grow
  have h1:=h.low
  have h2:=h.big
  have hs:=hg.size
  have hd:x.dat.In W' False (fun k=>w.heap.size+4≤k∧k<W'.heap.size∧k≠g+1) us:=Dat.In.keep id (gb_kept hg fun k hk=>⟨by omega,by omega⟩) (fun k hk=>⟨hk.1,by omega,by omega⟩) _ _ h.dat
  have hc9:Dat.Ins W' False (fun k=>w.heap.size+4≤k∧k<W'.heap.size∧k≠g+1) (Ex.dats xs) cs:=Dat.Ins.keep id (gb_kept hg fun k hk=>⟨hk.2,by have:=hk.1;omega⟩) (fun k hk=>⟨by have:=hk.1;omega,Nat.lt_of_lt_of_le hk.2 hs,by have:=hk.1;omega⟩) _ _ hcs
  obtain ⟨A9,c9,e,hrow,hle⟩:=row_of_own (S':=fun k=>Fr (w.heap.size+4) W' k∧k≠g+1) hA.own (show Dat.Ins W' False (fun k=>w.heap.size+4≤k∧k<W'.heap.size∧k≠g+1) (Ex.dats (x :: xs)) (us++cs) by rw [Ex.dats,Dat.Ins];exact ⟨us,cs,rfl,hd,hc9⟩)
    (fun d hd=>by rw [Ex.dats_map,List.mem_map] at hd;obtain ⟨y,_,rfl⟩:=hd;exact Ex.dat_size y) (by omega) (fun k hk=>⟨⟨hk.1,hk.2.1⟩,hk.2.2⟩) (fun i hi=>⟨⟨by have:=(hA.own.lt i hi).1;omega,(hA.own.lt i hi).2⟩,fun e=>by
      rcases hA.at_ with h5 | h5
      · rw [hi] at h5
        have e2:some i=some g:=h5
        injection e2 with e2
        omega
      rw [hi] at h5
      injection h5 with h5
      omega⟩) (by omega)
  have hb:=h.x4.big
  refine ⟨A9,c9,e,hle,⟨⟨h.x4.bel.trans (Below.mono (⟨hg.os,hg.tape,hg.output,hg.size,fun k hk=>hg.block k (by omega) (by simpa using (by omega:k≠g))⟩:Below g W W') (by omega)),Nat.le_trans hb hs,boxd_gb hg (by omega) h.x4.box,there_gb h.x4.own (by omega) (by omega) hg,there_gb h.x4.res1 (by omega) (by omega) hg,there_gb h.x4.res2 (by omega) (by omega) hg,boxd_gb hg (by omega) h.x4.ex,there_gb h.x4.exo (by omega) (by omega) hg,h.x4.pl,h.x4.el⟩,boxd_gb hg (by omega) h.nx,there_gb h.nxo (by omega) (by omega) hg,hrow,h1,by omega,h.nl⟩,hg⟩
theorem AX.free {w W:World} {xs:List Ex} {g n:Nat} {A:Option Addr} {ps us vs:List Value} (h:AX w W xs g n A ps us vs) (j:Nat) (hj:j<8):W.frozen? ⟨g+1,j,none⟩=false:=by
  have:=(h.nxo j hj).2
  rwa [Nat.zero_add] at this
theorem AX.field {w W:World} {xs:List Ex} {g n:Nat} {A:Option Addr} {ps us vs:List Value} (h:AX w W xs g n A ps us vs) (j:Nat) (hj:j<8) (v:Value):AX w (W.setCell ⟨g+1,j,none⟩ v) xs g n A ps us (vs.set j v):=by
  have h1:=h.low
  have hg:=gb_set W (g+1) j v
  exact ⟨h.x4.far (g+1) j (by omega) [v],boxd_cell h.nx (by rw [h.nl];exact hj),World.there_setCells h.nxo (g+1) j [v],h.row.keep id (gb_kept hg fun k hk=>⟨hk.1.2,hk.2⟩) (fun k hk=>⟨⟨hk.1.1,Nat.lt_of_lt_of_le hk.1.2 hg.size⟩,hk.2⟩),h1,Nat.le_trans h.big hg.size,by rw [List.length_set];exact h.nl⟩
structure KRel (w W:World) (A:Option Addr) (n cap:Nat) (L l r:List Tk) (M k g:Nat) (us:List Value) (y:Ex) (vs:List Value) (q:List Tk) (p:Nat) (b:Bool):Prop where
  x4:X4 w W [.slice A n cap,.int .i64 p,.bool b] us
  nx:Boxd W (g+1) vs
  nl:vs.length=8
  dat:y.dat.In W False (Fr (w.heap.size+4) W) vs
  pl:Pl w A n L p q
  len:q.length≤r.length
  eq:exF (M+1) l=if b then .bad q else restsF k y q
theorem pl_lt {w w2:World} {A:Option Addr} {n p p2:Nat} {L q q2:List Tk} (h:Pl w A n L p q) (h2:Pl w2 A n L p2 q2) (hl:q2.length<q.length):p<p2∧p2≤100000:=by
  have e1:=congrArg List.length h.l_eq
  have e2:=congrArg List.length h2.l_eq
  rw [List.length_drop] at e1 e2
  have:=h2.lt
  have:=h2.len
  omega
theorem assert_next {k:Nat} {x:Ex} {l:List Tk} {X:Got Ex} (e:X=Got.bind (restF k x l) fun e q=>restsF k e q) (h:isT [40] l=true):X=Got.bind (tyF k l.tail) fun t q=>Got.bind (must [41] q) fun _ q=>restsF k (exAssert t x (off l)) q:=by
  rw [e,restF_assert h,bind_bind]
  exact congrArg _ (funext fun t=>funext fun q=>bind_bind _ _ _)
theorem call_next {k:Nat} {x:Ex} {l r:List Tk} {nm:Tk} {X:Got Ex} (e:X=Got.bind (restF k x l) fun e q=>restsF k e q) (h:isT [40] l=false) (hn:name l=.ok nm r) (hT:(isT [91] r || isT [40] r)=true) :
    X=Got.bind (targsF k r) fun ts q=>Got.bind (must [40] q) fun _ q=>Got.bind (argsF k [41] q) fun xs q=>restsF k (exCall nm.s ts (x :: xs) nm.o) q:=by
  rw [e,restF_call h hn hT,bind_bind]
  refine congrArg _ (funext fun t=>funext fun q=>(bind_bind _ _ _).trans ?_)
  exact congrArg _ (funext fun t=>funext fun q=>bind_bind _ _ _)
open Go.RowKit
theorem results_rexpr {w:World} {b c:Nat} {us vs:List Value} (tmps:Array Value) (ht:tmps[2]?.getD undef=.pointer (some ⟨b,0,none⟩)) (ht2:tmps[3]?.getD undef=.pointer (some ⟨c,0,none⟩)) (hc:Boxd w b us) (hl:us.length=3) (hc2:Boxd w c vs) (hl2:vs.length=8):(results Tryz.f55 tmps).run Tryz.prog w=.ok (.tuple #[.agg us.toArray,.agg vs.toArray]) w:=by
  have h:=run_cell flatPl hc hl
  have h2:=run_addr ⟨b,0,none⟩ w
  have h3:=run_cell flatEx hc2 hl2
  have h4:=run_addr ⟨c,0,none⟩ w
  simp [results,Tryz.results55,ht,ht2,h,h2,h3,h4,Sem.run_bind,Result.andThen]
theorem there_free8 {w:World} {b:Nat} (h:w.there b 0 8) (j:Nat) (hj:j<8):w.frozen? ⟨b,j,none⟩=false:=by
  have:=(h j hj).2
  rwa [Nat.zero_add] at this
theorem X4.new (w:World) (A:Option Addr) (n cap p:Nat):∃ W,(((w.alloc (.cells #[.slice A n cap,.int .i64 p,.bool false] 60)).alloc (.cells #[.slice none 0 0,.int .i64 0,.bool false] 60)).alloc (.cells #[.int .i64 0,.string ⟨#[]⟩,.string ⟨#[]⟩,.slice none 0 0,.int .i64 0,.slice none 0 0,.slice none 0 0,.int .i64 0] 34)).alloc (.cells #[.int .i64 1,.string ⟨#[]⟩,.string ⟨#[]⟩,.slice none 0 0,.int .i64 0,.slice none 0 0,.slice none 0 0,.int .i64 0] 34)=W
    ∧ X4 w W [.slice A n cap,.int .i64 p,.bool false] [.int .i64 1,.string ⟨#[]⟩,.string ⟨#[]⟩,.slice none 0 0,.int .i64 0,.slice none 0 0,.slice none 0 0,.int .i64 0]:=by
  obtain ⟨W2,h2,hb,hz,hbx,ht1,ht2⟩:=two_pl w A n cap p false
  rw [h2]
  obtain ⟨W3,h3⟩:∃ W3,W2.alloc (.cells #[.int .i64 0,.string ⟨#[]⟩,.string ⟨#[]⟩,.slice none 0 0,.int .i64 0,.slice none 0 0,.slice none 0 0,.int .i64 0] 34)=W3:=⟨_,rfl⟩
  have hb3:Below W2.heap.size W2 W3:=h3▸(Below.refl _ _).alloc (Nat.le_refl _) _
  have hz3:W3.heap.size=w.heap.size+3:=by rw [←h3];simp [hz]
  have t3:W3.there (w.heap.size+2) 0 8:=hz▸h3▸there_new W2 #[.int .i64 0,.string ⟨#[]⟩,.string ⟨#[]⟩,.slice none 0 0,.int .i64 0,.slice none 0 0,.slice none 0 0,.int .i64 0] 34
  rw [h3]
  obtain ⟨W4,h4⟩:∃ W4,W3.alloc (.cells #[.int .i64 1,.string ⟨#[]⟩,.string ⟨#[]⟩,.slice none 0 0,.int .i64 0,.slice none 0 0,.slice none 0 0,.int .i64 0] 34)=W4:=⟨_,rfl⟩
  have hb4:Below W3.heap.size W3 W4:=h4▸(Below.refl _ _).alloc (Nat.le_refl _) _
  have t4:W4.there (w.heap.size+3) 0 8:=hz3▸h4▸there_new W3 #[.int .i64 1,.string ⟨#[]⟩,.string ⟨#[]⟩,.slice none 0 0,.int .i64 0,.slice none 0 0,.slice none 0 0,.int .i64 0] 34
  have b4:Boxd W4 (w.heap.size+3) [.int .i64 1,.string ⟨#[]⟩,.string ⟨#[]⟩,.slice none 0 0,.int .i64 0,.slice none 0 0,.slice none 0 0,.int .i64 0]:=hz3▸h4▸Boxd.new W3 #[.int .i64 1,.string ⟨#[]⟩,.string ⟨#[]⟩,.slice none 0 0,.int .i64 0,.slice none 0 0,.slice none 0 0,.int .i64 0] 34
  refine ⟨W4,h4,(hb.trans (hb3.mono (by omega))).trans (hb4.mono (by omega)),by rw [←h4];simp;omega,(hbx.later hb3).later hb4,there_below (there_below ht1 (by omega) hb3) (by omega) hb4,there_below (there_below ht2 (by omega) hb3) (by omega) hb4,there_below t3 (by omega) hb4,b4,t4,rfl,rfl⟩
structure JRel (w wr:World) (A:Option Addr) (n cap:Nat) (L l:List Tk) (M m:Nat) (e:Ex) (us:List Value) (q:List Tk) (p:Nat) (b:Bool):Prop where
  x4:X4 w wr [.slice A n cap,.int .i64 p,.bool b] us
  pl:Pl w A n L p q
  dat:e.dat.In wr False (Fr (w.heap.size+4) wr) us
  fuel:b=false→2*q.length+3≤m
  less:m≤M
  eq:exF (M+1) l=if b then .bad q else restsF m e q
theorem rstop_bind {α β:Type} (b:Bool) (q:List Tk) (g:Got α) (f:α→List Tk→Got β):(if b then .bad q else Got.bind g f)=Got.bind (stop b q g) f:=by cases b<;>rfl
theorem rstop_ends {α:Type} (b:Bool) {q:List Tk} {g:Got α} (h:Got.Ends q g):Got.Ends q (stop b q g):=by
  cases b
  · exact h
  exact ends_bad q
theorem raft_next2 {α β:Type} {w:World} {A:Option Addr} {n:Nat} {L:List Tk} {p:Nat} {b:Bool} {t:α} {r:List Tk} {g:Got α} (he:Got.Ends r g) (h:RAft w A n L p b t g) (f:α→List Tk→Got β) :
    ∃ q,Pl w A n L p q∧q.length≤r.length∧True∧Got.bind g f=if b then .bad q else f t q:=by
  cases g with
  | ok u q=>obtain ⟨rfl,rfl,h3⟩:=h;exact ⟨q,h3,he.length_le,trivial,rfl⟩
  | bad q=>obtain ⟨rfl,h3⟩:=h;exact ⟨q,h3,he.length_le,trivial,rfl⟩
theorem rexpr_step (M:Nat) (ih:∀ m,m≤M→RExAt m):RExAt (M+1):=by
  intro A n cap p L l w h hf
  obtain ⟨W,hW,h4⟩:=X4.new w A n cap p
  have HW:=hid hW
  have H4:=hid h4
  have HP0:=hid h
  have HF:=hid hf
  have IH:=hid ih
  have HNE:=hid h.tidy.ne
  obtain ⟨x0,x1,x2,-⟩:=three h4.box h4.own
  have CN:=hid (rname_any A n cap p L l false W (h.later h4.bel))
  clear h hW h4 hf ih
  go_enter Tryz.func55,Tryz.ntmps55
  go_upto_region 2 with fail
  rw [HW.out]
  go_wp2_with fail
  refine CN.out.mono ?_
  rintro e V ⟨nm,p1,b1,rfl,hz,hra,hb,hbad⟩
  rw [show (plV A n cap p1 b1).toArray=#[.slice A n cap,.int .i64 p1,.bool b1] from rfl]
  have H4V:=hid (H4.out.later hb)
  obtain ⟨V1,hV1⟩:∃ X,((V.setCells w.heap.size 0 [.slice A n cap,.int .i64 p1,.bool b1]).setCell ⟨w.heap.size+3,1,none⟩ (.string nm.s)).setCell ⟨w.heap.size+3,7,none⟩ (.int .i64 nm.o)=X:=⟨_,rfl⟩
  have H41:=hid (show X4 w V1 [.slice A n cap,.int .i64 p1,.bool b1] [.int .i64 1,.string nm.s,.string ⟨#[]⟩,.slice none 0 0,.int .i64 0,.slice none 0 0,.slice none 0 0,.int .i64 nm.o] from hV1▸((H4V.out.place [.slice A n cap,.int .i64 p1,.bool b1] rfl).field 1 (by omega) (.string nm.s)).field 7 (by omega) (.int .i64 nm.o))
  have HZ:=hid hz
  have HRA:=hid (show RAft V A n L p1 b1 nm (name l) from hra)
  obtain ⟨y0,y1,y2,f0,f1,f2⟩:=three H4V.out.box H4V.out.own
  have z1:=H4V.out.ex 1 _ rfl
  have z7:=H4V.out.ex 7 _ rfl
  have g1:=there_free8 H4V.out.exo 1 (by omega)
  have g7:=there_free8 H4V.out.exo 7 (by omega)
  have HV1:=hid (show ((((V.setCell ⟨w.heap.size,0,none⟩ (.slice A n cap)).setCell ⟨w.heap.size,1,none⟩ (.int .i64 p1)).setCell ⟨w.heap.size,2,none⟩ (.bool b1)).setCell ⟨w.heap.size+3,1,none⟩ (.string nm.s)).setCell ⟨w.heap.size+3,7,none⟩ (.int .i64 nm.o)=V1 from by rw [←hV1];rfl)
  clear hra hb hz x0 x1 x2 hV1 hbad
  go_upto_region 3 with fail
  rw [HV1.out]
  clear y0 y1 y2 f0 f1 f2 z1 z7 g1 g7
  obtain ⟨q1,hq1⟩:∃ q,Pl V A n L p1 q∧((b1=true∧name l=.bad q)∨(b1=false∧name l=.ok nm q)):=by
    have h:=HRA.out
    cases hn:name l with
    | ok u r=>rw [hn] at h;obtain ⟨rfl,rfl,h3⟩:=h;exact ⟨r,h3,.inr ⟨rfl,rfl⟩⟩
    | bad r=>rw [hn] at h;exact ⟨r,h.2,.inl ⟨h.1,rfl⟩⟩
  have HQ1:=hid (HP0.out.move hq1.1 (Below.refl _ _))
  have HN:=hid hq1.2
  clear hq1 HRA
  obtain ⟨x0,x1,x2,-⟩:=three H41.out.box H41.out.own
  have C3:=hid (show Calls Tryz.prog 16 #[.agg #[.slice A n cap,.int .i64 p1,.bool b1],.string ⟨#[91]⟩] V1 (BoolPost (nextB b1 [91] q1) V1) from ris_any A n cap p1 L q1 b1 ⟨#[91]⟩ V1 (HQ1.out.later H41.out.bel))
  clear C3
  go_cut [21] from 16 to 21 (fun s21 wx=>s21=.bool (nextB b1 [91] q1 || nextB b1 [123] q1)∧Below V1.heap.size V1 wx)
  case first =>
    have C3:=hid (show Calls Tryz.prog 16 #[.agg #[.slice A n cap,.int .i64 p1,.bool b1],.string ⟨#[91]⟩] V1 (BoolPost (nextB b1 [91] q1) V1) from ris_any A n cap p1 L q1 b1 ⟨#[91]⟩ V1 (HQ1.out.later H41.out.bel))
    go_wp2_with fail
    refine C3.out.mono ?_
    rintro e V2 ⟨rfl,hb2⟩
    have H42:=hid (H41.out.later hb2)
    have HB2:=hid hb2
    clear C3 hb2 x0 x1 x2
    obtain ⟨c1,hc1⟩:∃ c,nextB b1 [91] q1=c:=⟨_,rfl⟩
    rw [hc1]
    have HC1:=hid hc1
    clear hc1
    cases c1
    · obtain ⟨x0,x1,x2,-⟩:=three H42.out.box H42.out.own
      have C4:=hid (show Calls Tryz.prog 16 #[.agg #[.slice A n cap,.int .i64 p1,.bool b1],.string ⟨#[123]⟩] V2 (BoolPost (nextB b1 [123] q1) V2) from ris_any A n cap p1 L q1 b1 ⟨#[123]⟩ V2 (HQ1.out.later H42.out.bel))
      go_wp2_with fail
      refine C4.out.mono ?_
      rintro e V3 ⟨rfl,hb3⟩
      have HB3:=hid (HB2.out.trans (hb3.mono HB2.out.size))
      clear C4 hb3 x0 x1 x2
      go_wp2_with fail
      go_meet
      exact ⟨by rw [HC1.out];rfl,HB3.out⟩
    go_wp2_with fail
    go_meet
    exact ⟨by rw [HC1.out];rfl,HB2.out⟩
  obtain ⟨rfl,hbc⟩:=hcut
  have H42:=hid (H41.out.later hbc)
  obtain ⟨M',rfl⟩:∃ M',M=M'+1:=⟨M-1,by have:=HF.out;have:=List.length_pos_iff.2 HNE.out;omega⟩
  obtain ⟨cc,hcc⟩:∃ c,(nextB b1 [91] q1 || nextB b1 [123] q1)=c:=⟨_,rfl⟩
  rw [hcc]
  have HCC:=hid hcc
  clear hcc hbc x0 x1 x2
  go_upto_if 21 with fail
  go_cut [30] from 22 to 44 (fun _ wx=>∃ e us q p b,JRel w wx A n cap L l (M'+1) (M'+1) e us q p b)
  case first =>
    cases cc
    · go_wp2_with fail
      go_meet
      refine ⟨exVar nm.s nm.o,_,q1,p1,b1,H42.out,HQ1.out,?_,?_,Nat.le_refl _,?_⟩
      · exact exVar_in (by have:=HZ.out;omega)
      · intro hb
        rcases HN.out with ⟨h1,-⟩ | ⟨-,h2⟩
        · rw [hb] at h1;cases h1
        have h3:=(name_got h2).1
        have h4:=HF.out
        rw [h3] at h4
        simp only [List.length_cons] at h4
        omega
      rcases HN.out with ⟨rfl,h2⟩ | ⟨rfl,h2⟩
      · rw [exF_succ,firstF_bad h2];rfl
      have h3:=HCC.out
      rw [Bool.or_eq_false_iff] at h3
      rw [exF_succ,firstF_var nm q1 h2 (by simpa [nextB] using h3.1) (by simpa [nextB] using h3.2)]
      rfl
    obtain ⟨rfl,hn⟩:b1=false∧name l=.ok nm q1:=by
      rcases HN.out with ⟨rfl,-⟩ | h
      · have h3:=HCC.out;cases h3
      exact h
    have hlen:2*q1.length+3≤M'+1:=by
      have h3:=(name_got hn).1
      have h4:=HF.out
      rw [h3] at h4
      simp only [List.length_cons] at h4
      omega
    have HLIT:=hid (firstF_lit (M:=M') nm q1 hn (by have h3:=HCC.out;simpa [nextB] using h3))
    have HBIG:=H42.out.big
    obtain ⟨V5,hV5⟩:∃ X,wc.setCells (w.heap.size+3) 0 [.int .i64 3,.string ⟨#[]⟩,.string nm.s,.slice none 0 0,.int .i64 nm.o,.slice none 0 0,.slice none 0 0,.int .i64 nm.o]=X:=⟨_,rfl⟩
    have H5:=hid (show X4 w V5 [.slice A n cap,.int .i64 p1,.bool false] [.int .i64 3,.string ⟨#[]⟩,.string nm.s,.slice none 0 0,.int .i64 nm.o,.slice none 0 0,.slice none 0 0,.int .i64 nm.o] from hV5▸H42.out.whole [.int .i64 3,.string ⟨#[]⟩,.string nm.s,.slice none 0 0,.int .i64 nm.o,.slice none 0 0,.slice none 0 0,.int .i64 nm.o] rfl)
    have HV5:=hid hV5
    have e1:=H42.out.ex 1 _ rfl
    have e7:=H42.out.ex 7 _ rfl
    clear hV5 hn
    go_upto_region 5 with (refine storeOp flatEx 4 29 (b:=w.heap.size+3) (o:=0) (us:=[.int .i64 3,.string ⟨#[]⟩,.string nm.s,.slice none 0 0,.int .i64 nm.o,.slice none 0 0,.slice none 0 0,.int .i64 nm.o]) rfl rfl H42.out.exo (ex8_one rfl rfl rfl rfl rfl rfl rfl rfl) rfl ?_)
    rw [HV5.out]
    clear e1 e7
    obtain ⟨x0,x1,x2,-⟩:=three H5.out.box H5.out.own
    have C5:=hid (rtargs_any M' (fun m hm=>rtype_any m) A n cap p1 L q1 V5 (HQ1.out.later H5.out.bel) (by omega))
    go_wp2_with fail
    refine C5.out.mono ?_
    rintro e V6 ⟨ts,B,k,p2,b2,rfl,hrow,hra,hb⟩
    have H6:=hid (H5.out.later hb)
    obtain ⟨V7,hV7⟩:∃ X,(V6.setCells w.heap.size 0 [.slice A n cap,.int .i64 p2,.bool b2]).setCell ⟨w.heap.size+3,3,none⟩ (.slice B ts.length k)=X:=⟨_,rfl⟩
    have H7:=hid (show X4 w V7 [.slice A n cap,.int .i64 p2,.bool b2] [.int .i64 3,.string ⟨#[]⟩,.string nm.s,.slice B ts.length k,.int .i64 nm.o,.slice none 0 0,.slice none 0 0,.int .i64 nm.o] from hV7▸(H6.out.place [.slice A n cap,.int .i64 p2,.bool b2] rfl).field 3 (by omega) (.slice B ts.length k))
    have hs5:=H5.out.big
    have HROW:=hid (show Row V7 False (Fr V5.heap.size V7) 3 B ts.length (Ty.dats ts) from hV7▸row_gb (gb_set _ _ _ _) (by omega) (row_gb (gb_sets1 _ _ _ _) (by omega) hrow))
    have hs6:=hb.size
    have hs7:V6.heap.size≤V7.heap.size:=hV7▸Nat.le_trans (gb_sets1 V6 w.heap.size 0 _).size (gb_set _ _ _ _).size
    obtain ⟨q2,hp2,hql2,-,heq2⟩:=raft_next2 (targsF_ends M' q1) hra (fun ts q=>Got.bind (must [123] q) fun _ q=>Got.bind (argsF (M'+1) [125] q) fun xs q=>.ok (exLit (.mk nm.s ts nm.o) xs) q)
    have HQ2:=hid (HP0.out.move hp2 (Below.refl _ _))
    have HEQ2:=hid (HLIT.out.trans heq2)
    obtain ⟨y0,y1,y2,f0,f1,f2⟩:=three H6.out.box H6.out.own
    have z3:=H6.out.ex 3 _ rfl
    have g3:=there_free8 H6.out.exo 3 (by omega)
    have HV7:=hid (show (((V6.setCell ⟨w.heap.size,0,none⟩ (.slice A n cap)).setCell ⟨w.heap.size,1,none⟩ (.int .i64 p2)).setCell ⟨w.heap.size,2,none⟩ (.bool b2)).setCell ⟨w.heap.size+3,3,none⟩ (.slice B ts.length k)=V7 from by rw [←hV7];rfl)
    clear hrow hra hb hV7 C5 x0 x1 x2 hp2 heq2
    go_upto_region 6 with fail
    rw [HV7.out]
    clear y0 y1 y2 f0 f1 f2 z3 g3
    obtain ⟨x0,x1,x2,-⟩:=three H7.out.box H7.out.own
    have C6:=hid (show Calls Tryz.prog 52 #[.agg #[.slice A n cap,.int .i64 p2,.bool b2],.string ⟨#[123]⟩] V7 (RMustPost A n cap L q2 b2 [123] V7) from rmust_any A n cap p2 L q2 b2 ⟨#[123]⟩ V7 (HQ2.out.later H7.out.bel))
    go_wp2_with fail
    refine C6.out.mono ?_
    rintro e V8 ⟨p3,b3,rfl,hra,hb⟩
    have H8:=hid (H7.out.later hb)
    obtain ⟨V9,hV9⟩:∃ X,V8.setCells w.heap.size 0 [.slice A n cap,.int .i64 p3,.bool b3]=X:=⟨_,rfl⟩
    have H9:=hid (show X4 w V9 [.slice A n cap,.int .i64 p3,.bool b3] [.int .i64 3,.string ⟨#[]⟩,.string nm.s,.slice B ts.length k,.int .i64 nm.o,.slice none 0 0,.slice none 0 0,.int .i64 nm.o] from hV9▸H8.out.place [.slice A n cap,.int .i64 p3,.bool b3] rfl)
    have HROW9:=hid (show Row V9 False (Fr V5.heap.size V9) 3 B ts.length (Ty.dats ts) from hV9▸row_gb (gb_sets1 _ _ _ _) (by omega) (row_gb (gb_of (some 0) hb) (by omega) HROW.out))
    have hs8:=hb.size
    have hs9:V8.heap.size≤V9.heap.size:=hV9▸(gb_sets1 V8 w.heap.size 0 _).size
    obtain ⟨q3,hp3,hql3,-,heq3⟩:=raft_next2 (rstop_ends b2 (Less.ends (must_less [123] q2))) hra (fun _ q=>Got.bind (argsF (M'+1) [125] q) fun xs q=>.ok (exLit (.mk nm.s ts nm.o) xs) q)
    have HQ3:=hid (HP0.out.move hp3 (Below.refl _ _))
    have HEQ3:=hid ((HEQ2.out.trans (rstop_bind b2 q2 _ _)).trans heq3)
    obtain ⟨y0,y1,y2,f0,f1,f2⟩:=three H8.out.box H8.out.own
    have HV9:=hid (show ((V8.setCell ⟨w.heap.size,0,none⟩ (.slice A n cap)).setCell ⟨w.heap.size,1,none⟩ (.int .i64 p3)).setCell ⟨w.heap.size,2,none⟩ (.bool b3)=V9 from by rw [←hV9];rfl)
    clear hra hb hV9 C6 x0 x1 x2 hp3 heq3
    go_upto_region 7 with fail
    rw [HV9.out]
    clear y0 y1 y2 f0 f1 f2
    obtain ⟨x0,x1,x2,-⟩:=three H9.out.box H9.out.own
    have C7:=hid (show Calls Tryz.prog 103 #[.agg #[.slice A n cap,.int .i64 p3,.bool b3],.string ⟨#[125]⟩] V9 (RExsPost A n cap L q3 [125] b3 (M'+1) V9) from rargs_any (M'+1) IH.out A n cap p3 L q3 b3 ⟨#[125]⟩ V9 (HQ3.out.later H9.out.bel) (fun _=>by omega))
    go_wp2_with fail
    refine C7.out.mono ?_
    rintro e V10 ⟨xs,B2,k2,p4,b4,rfl,hrow,hk2,-,hra,hb⟩
    have H10:=hid (H9.out.later hb)
    obtain ⟨V11,hV11⟩:∃ X,(V10.setCells w.heap.size 0 [.slice A n cap,.int .i64 p4,.bool b4]).setCell ⟨w.heap.size+3,6,none⟩ (.slice B2 xs.length k2)=X:=⟨_,rfl⟩
    have H11:=hid (show X4 w V11 [.slice A n cap,.int .i64 p4,.bool b4] [.int .i64 3,.string ⟨#[]⟩,.string nm.s,.slice B ts.length k,.int .i64 nm.o,.slice none 0 0,.slice B2 xs.length k2,.int .i64 nm.o] from hV11▸(H10.out.place [.slice A n cap,.int .i64 p4,.bool b4] rfl).field 6 (by omega) (.slice B2 xs.length k2))
    have hb9:=H9.out.big
    have HROWT:=hid (show Row V11 False (Fr V5.heap.size V11) 3 B ts.length (Ty.dats ts) from hV11▸row_gb (gb_set _ _ _ _) (by omega) (row_gb (gb_sets1 _ _ _ _) (by omega) (row_gb (gb_of (some 0) hb) (by omega) HROW9.out)))
    have HROWX:=hid (show Row V11 False (Fr V9.heap.size V11) 8 B2 xs.length (Ex.dats xs) from hV11▸row_gb (gb_set _ _ _ _) (by omega) (row_gb (gb_sets1 _ _ _ _) (by omega) hrow))
    obtain ⟨q4,hp4,hql4,-,heq4⟩:=raft_next2 (rstop_ends b3 (argsF_ends (M'+1) [125] q3)) hra (fun xs q=>Got.ok (exLit (.mk nm.s ts nm.o) xs) q)
    have HQ4:=hid (HP0.out.move hp4 (Below.refl _ _))
    have HEQ4:=hid ((HEQ3.out.trans (rstop_bind b3 q3 _ _)).trans heq4)
    obtain ⟨y0,y1,y2,f0,f1,f2⟩:=three H10.out.box H10.out.own
    have z6:=H10.out.ex 6 _ rfl
    have g6:=there_free8 H10.out.exo 6 (by omega)
    have HK2:=hid hk2
    clear hrow hra hb C7 x0 x1 x2 hp4 heq4
    have HV11:=hid hV11
    clear hV11
    go_wp2_with fail
    go_meet
    rw [show (((V10.setCell ⟨w.heap.size,0,none⟩ (.slice A n cap)).setCell ⟨w.heap.size,1,none⟩ (.int .i64 p4)).setCell ⟨w.heap.size,2,none⟩ (.bool b4)).setCell ⟨w.heap.size+3,6,none⟩ (.slice B2 xs.length k2)=V11 from HV11.out]
    refine ⟨exLit (.mk nm.s ts nm.o) xs,_,q4,p4,b4,H11.out,HQ4.out,?_,fun _=>by omega,Nat.le_refl _,?_⟩
    · exact ex_shut (e:=exLit (.mk nm.s ts nm.o) xs) (by show (0:Nat)≤_;omega) (by show nm.s.size≤_;have:=HZ.out;omega) (lies_row.2 (HROWT.out.wide fun i hi=>⟨by have:=hi.1;omega,hi.2⟩)) (lies_row.2 (Row.nil _ _ _ _ _)) (HROWX.out.wide fun i hi=>⟨by have:=hi.1;omega,hi.2⟩) HK2.out
    rw [exF_succ,HEQ4.out]
    cases b4<;>rfl
  obtain ⟨e0,us0,q0,p0,b0,hj0⟩:=hcut
  have HJ0:=hid hj0
  clear hj0 HCC
  go_wp2_with fail
  go_loopw [46] (fun _ wr=>∃ m e us q p b,JRel w wr A n cap L l (M'+1) m e us q p b) (fun _ wr=>200000-(intOf ((wr.cell? ⟨w.heap.size,1,none⟩).getD .nilIface)).toNat)
  case atStart=>exact ⟨_,_,_,_,_,_,HJ0.out⟩
  obtain ⟨m,x,us,q,p',b',hr⟩:=hrel
  have HR:=hid hr
  obtain ⟨x0,x1,x2,-⟩:=three hr.x4.box hr.x4.own
  have C8:=hid (show Calls Tryz.prog 16 #[.agg #[.slice A n cap,.int .i64 p',.bool b'],.string ⟨#[46]⟩] wr (BoolPost (nextB b' [46] q) wr) from ris_any A n cap p' L q b' ⟨#[46]⟩ wr (hr.pl.later hr.x4.bel))
  clear hr
  go_wp2_with fail
  refine C8.out.mono ?_
  rintro e V8 ⟨rfl,hb⟩
  have H8:=hid (HR.out.x4.later hb)
  have HD8:=hid (in_gb (gb_of (some 0) hb) (by omega) HR.out.dat)
  have hbig8:=H8.out.big
  clear hb C8 x0 x1 x2
  cases hx:nextB b' [46] q
  · have HX:=hid hx
    have HL:=hid (show us.length=8 from H8.out.el)
    have HON:=hid (ex_one HD8.out)
    clear hx
    go_upto_region 28 with fail
    have SS:V8.rangeAt w.heap.size 0 [.slice A n cap,.int .i64 p',.bool b']∧V8.rangeAt (w.heap.size+3) 0 us:=⟨fun j u hu=>by rw [Nat.zero_add];exact H8.out.box j u hu,fun j u hu=>by rw [Nat.zero_add];exact H8.out.ex j u hu⟩
    go_wp2_with fail
    refine wp_region_held_drew (S:=fun V=>V.rangeAt w.heap.size 0 [.slice A n cap,.int .i64 p',.bool b']∧V.rangeAt (w.heap.size+3) 0 us) (by kernel_rfl) SS (fun hS=>?_)
    refine wpAnyH_take (i:=0) (v:=.agg ([.slice A n cap,.int .i64 p',.bool b']:List Value).toArray) rfl (by kernel_rfl) (by kernel_rfl) (by kernel_rfl) (fun _ _ _ h=>h) (yieldsIf_load_mid rfl 60 (.tmp 1) rfl w.heap.size 0 rfl [.slice A n cap,.int .i64 p',.bool b'] _ (fun V hV=>hV.1) Tryz.underlying60 rfl flatPl.size) (by assumption) ?_
    try simp only [Act.put,List.getElem_toArray,List.getElem_cons_zero,List.setIfInBounds_toArray,List.set_cons_zero,List.set_cons_succ]
    refine wpAnyH_take (i:=1) (v:=.agg us.toArray) rfl (by kernel_rfl) (by kernel_rfl) (by kernel_rfl) (fun _ _ _ h=>h) (yieldsIf_load_mid rfl 34 (.tmp 4) rfl (w.heap.size+3) 0 rfl us _ (fun V hV=>hV.2) Tryz.underlying34 rfl (by rw [HL.out];exact flatEx.size)) (by assumption) ?_
    try simp only [Act.put,List.getElem_toArray,List.getElem_cons_zero,List.getElem_cons_succ,List.setIfInBounds_toArray,List.set_cons_zero,List.set_cons_succ]
    refine wpAnyH_ready (rs:=[2]) (by kernel_rfl) (by simp) ?_
    refine AllReadyH.cons rfl (fun K hK=>?_) AllReadyH.nil
    refine ready_store flatPl rfl (.tmp 2) (.tmp 113) rfl (b:=w.heap.size+1) (off:=0) (us:=[.slice A n cap,.int .i64 p',.bool b']) rfl rfl (show V8.drew.there (w.heap.size+1) 0 3 from H8.out.res1) pl_one rfl ?_
    have SS:(V8.drew.setCells (w.heap.size+1) 0 [.slice A n cap,.int .i64 p',.bool b']).rangeAt w.heap.size 0 [.slice A n cap,.int .i64 p',.bool b']∧(V8.drew.setCells (w.heap.size+1) 0 [.slice A n cap,.int .i64 p',.bool b']).rangeAt (w.heap.size+3) 0 us:=⟨World.rangeAt_setCells_apart hS.1 _ _ _ (.inl (by omega)),World.rangeAt_setCells_apart hS.2 _ _ _ (.inl (by omega))⟩
    refine hK.out _ _ SS (fun hS=>?_)
    clear hK K
    try simp only [Act.put,List.getElem_toArray,List.getElem_cons_zero,List.getElem_cons_succ]
    refine wpAnyH_ready (rs:=[3]) (by kernel_rfl) (by simp) ?_
    refine AllReadyH.cons rfl (fun K hK=>?_) AllReadyH.nil
    have ht3:(V8.drew.setCells (w.heap.size+1) 0 [.slice A n cap,.int .i64 p',.bool b']).there (w.heap.size+2) 0 us.length:=by rw [HL.out];exact World.there_setCells (show V8.drew.there (w.heap.size+2) 0 8 from H8.out.res2) _ _ _
    refine ready_store flatEx rfl (.tmp 3) (.tmp 114) rfl (b:=w.heap.size+2) (off:=0) (us:=us) rfl rfl ht3 HON.out HL.out ?_
    have SS:((V8.drew.setCells (w.heap.size+1) 0 [.slice A n cap,.int .i64 p',.bool b']).setCells (w.heap.size+2) 0 us).rangeAt w.heap.size 0 [.slice A n cap,.int .i64 p',.bool b']∧((V8.drew.setCells (w.heap.size+1) 0 [.slice A n cap,.int .i64 p',.bool b']).setCells (w.heap.size+2) 0 us).rangeAt (w.heap.size+3) 0 us:=⟨World.rangeAt_setCells_apart hS.1 _ _ _ (.inl (by omega)),World.rangeAt_setCells_apart hS.2 _ _ _ (.inl (by omega))⟩
    refine hK.out _ _ SS (fun hS=>?_)
    clear hK K
    try simp only [Act.put,List.getElem_toArray,List.getElem_cons_zero,List.getElem_cons_succ]
    refine wpAnyH_done (by kernel_rfl) ?_ _
    clear SS hS
    go_wp2_with fail
    have hr1:V8.drew.there (w.heap.size+1) 0 3:=H8.out.res1
    have hg1:=gb_sets1 V8.drew (w.heap.size+1) 0 [.slice A n cap,.int .i64 p',.bool b']
    have hg2:=gb_sets1 (V8.drew.setCells (w.heap.size+1) 0 [.slice A n cap,.int .i64 p',.bool b']) (w.heap.size+2) 0 us
    have hfin:Below w.heap.size w ((V8.drew.setCells (w.heap.size+1) 0 [.slice A n cap,.int .i64 p',.bool b']).setCells (w.heap.size+2) 0 us):=(H8.out.bel.drew.trans (below_sets (by omega) _ _ _)).trans (below_sets (by omega) _ _ _)
    refine bodyPost_ret (results_rexpr _ rfl rfl (boxd_gb hg2 (by omega) (set_there (us:=[.slice A n cap,.int .i64 p',.bool b']) hr1)) rfl (set_there (us:=us) ht3) HL.out) rfl ?_
    refine ⟨x,us,p',b',rfl,?_,?_,hfin⟩
    · have hd0:x.dat.In V8.drew False (Fr (w.heap.size+4) V8.drew) us:=Dat.In.keep (w:=V8) (w':=V8.drew) (N:=False) (N':=False) (S:=Fr (w.heap.size+4) V8) (S':=Fr (w.heap.size+4) V8.drew) (fun h=>h) (fun _ _=>⟨rfl,rfl⟩) (fun _ h=>h) _ us HD8.out
      exact Dat.In.wide (in_gb hg2 (by omega) (in_gb hg1 (by omega) hd0)) fun i hi=>⟨by have:=hi.1;omega,hi.2⟩
    have hpl:=HP0.out.move HR.out.pl hfin
    rw [HR.out.eq]
    cases b'
    · obtain ⟨k,rfl⟩:∃ k,m=k+1:=⟨m-1,by have:=HR.out.fuel rfl;omega⟩
      have hi:isT [46] q=false:=by simpa [nextB] using HX.out
      rw [if_neg (by decide),restsF_succ,hi]
      exact ⟨rfl,rfl,hpl⟩
    exact ⟨rfl,hpl⟩
  obtain ⟨rfl,hi⟩:=nextB_cons hx
  have HI:=hid hi
  obtain ⟨t1,r1,rfl,hk1,-⟩:=isT_cons hi
  obtain ⟨k,rfl⟩:∃ k,m=k+1:=⟨m-1,by have:=HR.out.fuel rfl;omega⟩
  have HPQ:=hid HR.out.pl
  have HRB:=hid HR.out.x4
  have HLS:=hid HR.out.less
  have HEQ:=hid (show exF (M'+1+1) l=Got.bind (restF k x r1) fun e q=>restsF k e q by
    rw [HR.out.eq,if_neg (by decide),restsF_succ,hi,if_pos rfl];rfl)
  have HFU:=hid (show 2*r1.length+4≤k by have:=HR.out.fuel rfl;simp only [List.length_cons] at this;omega)
  obtain ⟨a1,a2,a3,a4,a5,a6,a7,a8,a9,rfl,-⟩:=ex_open HD8.out
  obtain ⟨pp,hpp⟩:∃ pp,p'+1=pp:=⟨_,rfl⟩
  have HPP:=hid hpp
  have HP1:=hid (show Pl w A n L pp r1 from hpp▸HR.out.pl.step hk1)
  have yp:(p':Int)≤100000:=by have:=HR.out.pl.lt;have:=HR.out.pl.len;omega
  have yp0:(0:Int)≤p':=by omega
  obtain ⟨x0,x1,x2,f0,f1,f2⟩:=three H8.out.box H8.out.own
  obtain ⟨V9,hV9⟩:∃ X,V8.setCell ⟨w.heap.size,1,none⟩ (.int .i64 (pp:Int))=X:=⟨_,rfl⟩
  have H9:=hid (show X4 w V9 [.slice A n cap,.int .i64 (pp:Int),.bool false] [.int .i64 x.kind,.string x.name,.string x.ty.name,.slice a1 a2 a3,.int .i64 x.ty.off,.slice a4 a5 a6,.slice a7 a8 a9,.int .i64 x.off] from hV9▸H8.out.placeAt 1 (by omega) (.int .i64 (pp:Int)))
  have HD9:=hid (in_gb (show V8.grownBy V9 (some w.heap.size) from hV9▸gb_set _ _ _ _) (by omega) HD8.out)
  have HV9:=hid (show V8.setCell ⟨w.heap.size,1,none⟩ (.int .i64 ((p':Int)+1))=V9 from by rw [←hV9,←hpp];rfl)
  clear hx hi hk1 HR HD8 hV9 hpp
  go_upto_region 10 with fail
  rw [HV9.out]
  clear x0 x1 x2 f0 f1 f2 H8
  obtain ⟨V10,hV10,hz10,hn10⟩:=NX.new H9.out HD9.out
  obtain ⟨g,hg⟩:∃ g,V9.heap.size=g:=⟨_,rfl⟩
  rw [hg] at hn10 hz10
  have HV10:=hid hV10
  have N10:=hid hn10
  have HG:=hid hg
  have HXB:=hid (boxd_at0 H9.out.ex)
  clear hV10 hn10 hg
  go_upto_region 11 with (refine loadOp flatEx 4 51 rfl HXB.out rfl ?_)
  rw [HV10.out,HG.out]
  clear HXB HV10 HD9 H9
  have hlow:=N10.out.low
  obtain ⟨x0,x1,x2,-⟩:=three N10.out.x4.box N10.out.x4.own
  have C11:=hid (show Calls Tryz.prog 16 #[.agg #[.slice A n cap,.int .i64 (pp:Int),.bool false],.string ⟨#[40]⟩] V10 (BoolPost (nextB false [40] r1) V10) from ris_any A n cap pp L r1 false ⟨#[40]⟩ V10 (HP1.out.later N10.out.x4.bel))
  go_wp2_with fail
  refine C11.out.mono ?_
  rintro e V11 ⟨rfl,hb⟩
  have N11:=hid (N10.out.later hb)
  clear hb C11 x0 x1 x2
  have ypp:(pp:Int)≤100000:=by have:=HP1.out.lt;have:=HP1.out.len;omega
  have ypp0:(0:Int)≤pp:=by omega
  have ypp1:(pp:Int)<n:=by have:=HP1.out.lt;omega
  cases hy:nextB false [40] r1
  · have HI2:=hid (show isT [40] r1=false by simpa [nextB] using hy)
    have z0:=N11.out.nx 0 _ rfl
    have g0:=N11.out.free 0 (by omega)
    obtain ⟨V12,hV12⟩:∃ X,V11.setCell ⟨g+1,0,none⟩ (.int .i64 4)=X:=⟨_,rfl⟩
    have N12:=hid (show NX w V12 x g [.slice A n cap,.int .i64 (pp:Int),.bool false] [.int .i64 x.kind,.string x.name,.string x.ty.name,.slice a1 a2 a3,.int .i64 x.ty.off,.slice a4 a5 a6,.slice a7 a8 a9,.int .i64 x.off] [.int .i64 4,.string ⟨#[]⟩,.string ⟨#[]⟩,.slice none 0 0,.int .i64 0,.slice none 0 0,.slice (some ⟨g,0,none⟩) 1 1,.int .i64 0] from hV12▸N11.out.field 0 (by omega) (.int .i64 4))
    have HV12:=hid hV12
    clear hV12 hy N10 N11
    go_upto_region 19 with fail
    rw [HV12.out]
    clear z0 g0
    obtain ⟨x0,x1,x2,-⟩:=three N12.out.x4.box N12.out.x4.own
    have C13:=hid (rname_any A n cap pp L r1 false V12 (HP1.out.later N12.out.x4.bel))
    go_wp2_with fail
    refine C13.out.mono ?_
    rintro e V13 ⟨nx,p4,b4,rfl,hz,hra,hb,-⟩
    rw [show (plV A n cap p4 b4).toArray=#[.slice A n cap,.int .i64 p4,.bool b4] from rfl]
    have N13:=hid (N12.out.later hb)
    obtain ⟨V14,hV14⟩:∃ X,((V13.setCells w.heap.size 0 [.slice A n cap,.int .i64 (p4:Int),.bool b4]).setCell ⟨g+1,1,none⟩ (.string nx.s)).setCell ⟨g+1,7,none⟩ (.int .i64 nx.o)=X:=⟨_,rfl⟩
    have N14:=hid (show NX w V14 x g [.slice A n cap,.int .i64 (p4:Int),.bool b4] [.int .i64 x.kind,.string x.name,.string x.ty.name,.slice a1 a2 a3,.int .i64 x.ty.off,.slice a4 a5 a6,.slice a7 a8 a9,.int .i64 x.off] [.int .i64 4,.string nx.s,.string ⟨#[]⟩,.slice none 0 0,.int .i64 0,.slice none 0 0,.slice (some ⟨g,0,none⟩) 1 1,.int .i64 nx.o] from hV14▸((N13.out.place [.slice A n cap,.int .i64 (p4:Int),.bool b4] rfl).field 1 (by omega) (.string nx.s)).field 7 (by omega) (.int .i64 nx.o))
    have HZ2:=hid hz
    obtain ⟨q4,hq4⟩:∃ q,Pl V13 A n L p4 q∧q.length≤r1.length∧((b4=true∧name r1=.bad q)∨(b4=false∧name r1=.ok nx q)):=by
      have h:=(show RAft V13 A n L p4 b4 nx (name r1) from hra)
      have hl:Got.Ends r1 (name r1):=Less.ends (name_less r1)
      cases hn:name r1 with
      | ok u r=>rw [hn] at h hl;obtain ⟨rfl,rfl,h3⟩:=h;exact ⟨r,h3,hl.length_le,.inr ⟨rfl,rfl⟩⟩
      | bad r=>rw [hn] at h hl;exact ⟨r,h.2,hl.length_le,.inl ⟨h.1,rfl⟩⟩
    have HQ4:=hid (HP1.out.move hq4.1 (Below.refl _ _))
    have HN4:=hid hq4.2.2
    have hql4:=hq4.2.1
    have HV14:=hid (show ((((V13.setCell ⟨w.heap.size,0,none⟩ (.slice A n cap)).setCell ⟨w.heap.size,1,none⟩ (.int .i64 (p4:Int))).setCell ⟨w.heap.size,2,none⟩ (.bool b4)).setCell ⟨g+1,1,none⟩ (.string nx.s)).setCell ⟨g+1,7,none⟩ (.int .i64 nx.o)=V14 from by rw [←hV14];rfl)
    obtain ⟨y0,y1,y2,f0,f1,f2⟩:=three N13.out.x4.box N13.out.x4.own
    have z1:=N13.out.nx 1 _ rfl
    have z7:=N13.out.nx 7 _ rfl
    have g1:=N13.out.free 1 (by omega)
    have g7:=N13.out.free 7 (by omega)
    clear hb hra hz hV14 hq4 C13 x0 x1 x2
    go_upto_region 20 with fail
    rw [HV14.out]
    clear y0 y1 y2 f0 f1 f2 z1 z7 g1 g7 N13 N12
    obtain ⟨x0,x1,x2,-⟩:=three N14.out.x4.box N14.out.x4.own
    go_cut [92] from 87 to 92 (fun s92 wx=>s92=.bool (nextB b4 [91] q4 || nextB b4 [40] q4)∧Below V14.heap.size V14 wx)
    case first =>
      have C3:=hid (show Calls Tryz.prog 16 #[.agg #[.slice A n cap,.int .i64 (p4:Int),.bool b4],.string ⟨#[91]⟩] V14 (BoolPost (nextB b4 [91] q4) V14) from ris_any A n cap p4 L q4 b4 ⟨#[91]⟩ V14 (HQ4.out.later N14.out.x4.bel))
      go_wp2_with fail
      refine C3.out.mono ?_
      rintro e V2 ⟨rfl,hb2⟩
      have N2:=hid (N14.out.later hb2)
      have HB2:=hid hb2
      clear C3 hb2 x0 x1 x2
      obtain ⟨c1,hc1⟩:∃ c,nextB b4 [91] q4=c:=⟨_,rfl⟩
      rw [hc1]
      have HC1:=hid hc1
      clear hc1
      cases c1
      · obtain ⟨x0,x1,x2,-⟩:=three N2.out.x4.box N2.out.x4.own
        have C4:=hid (show Calls Tryz.prog 16 #[.agg #[.slice A n cap,.int .i64 (p4:Int),.bool b4],.string ⟨#[40]⟩] V2 (BoolPost (nextB b4 [40] q4) V2) from ris_any A n cap p4 L q4 b4 ⟨#[40]⟩ V2 (HQ4.out.later N2.out.x4.bel))
        go_wp2_with fail
        refine C4.out.mono ?_
        rintro e V3 ⟨rfl,hb3⟩
        have HB3:=hid (HB2.out.trans (hb3.mono HB2.out.size))
        clear C4 hb3 x0 x1 x2
        go_wp2_with fail
        go_meet
        exact ⟨by rw [HC1.out];rfl,HB3.out⟩
      go_wp2_with fail
      go_meet
      exact ⟨by rw [HC1.out];rfl,HB2.out⟩
    obtain ⟨rfl,hbc⟩:=hcut
    have N15:=hid (N14.out.later hbc)
    obtain ⟨cd,hcd⟩:∃ c,(nextB b4 [91] q4 || nextB b4 [40] q4)=c:=⟨_,rfl⟩
    rw [hcd]
    have HCD:=hid hcd
    clear hcd hbc x0 x1 x2 N14
    go_upto_if 92 with fail
    go_cut [94] from 93 to 111 (fun _ wx=>∃ y vs q p b,KRel w wx A n cap L l r1 (M'+1) k g [.int .i64 x.kind,.string x.name,.string x.ty.name,.slice a1 a2 a3,.int .i64 x.ty.off,.slice a4 a5 a6,.slice a7 a8 a9,.int .i64 x.off] y vs q p b)
    case first =>
      cases cd
      · go_wp2_with fail
        go_meet
        refine ⟨exField nx.s x nx.o,_,q4,p4,b4,N15.out.x4,N15.out.nx,N15.out.nl,?_,HQ4.out,hql4,?_⟩
        · exact ex_shut (e:=exField nx.s x nx.o) (by show nx.s.size≤_;have:=HZ2.out;omega) (by show (0:Nat)≤_;omega) (lies_row.2 (Row.nil _ _ _ _ _)) (lies_row.2 (Row.nil _ _ _ _ _)) N15.out.one (Nat.le_refl _)
        rcases HN4.out with ⟨rfl,h2⟩ | ⟨rfl,h2⟩
        · rw [HEQ.out,restF_bad HI2.out h2];rfl
        have h3:=HCD.out
        rw [Bool.or_eq_false_iff] at h3
        rw [HEQ.out,restF_field HI2.out h2 (by simpa [nextB] using h3.1) (by simpa [nextB] using h3.2)]
        rfl
      obtain ⟨rfl,hn⟩:b4=false∧name r1=.ok nx q4:=by
        rcases HN4.out with ⟨rfl,-⟩ | h
        · have h3:=HCD.out;cases h3
        exact h
      have HNX:=hid (call_next HEQ.out HI2.out hn (by have h3:=HCD.out;simpa [nextB] using h3))
      have z0:=N15.out.nx 0 _ rfl
      have g0:=N15.out.free 0 (by omega)
      obtain ⟨V16,hV16⟩:∃ X,wc.setCell ⟨g+1,0,none⟩ (.int .i64 2)=X:=⟨_,rfl⟩
      have N16:=hid (show NX w V16 x g [.slice A n cap,.int .i64 (p4:Int),.bool false] [.int .i64 x.kind,.string x.name,.string x.ty.name,.slice a1 a2 a3,.int .i64 x.ty.off,.slice a4 a5 a6,.slice a7 a8 a9,.int .i64 x.off] [.int .i64 2,.string nx.s,.string ⟨#[]⟩,.slice none 0 0,.int .i64 0,.slice none 0 0,.slice (some ⟨g,0,none⟩) 1 1,.int .i64 nx.o] from hV16▸N15.out.field 0 (by omega) (.int .i64 2))
      have HV16:=hid hV16
      clear hV16 hn
      go_upto_region 22 with fail
      rw [HV16.out]
      clear z0 g0 N15
      obtain ⟨x0,x1,x2,-⟩:=three N16.out.x4.box N16.out.x4.own
      have C22:=hid (rtargs_any k (fun m hm=>rtype_any m) A n cap p4 L q4 V16 (HQ4.out.later N16.out.x4.bel) (by have:=HFU.out;omega))
      go_wp2_with fail
      refine C22.out.mono ?_
      rintro e V17 ⟨ts,B,kk,p5,b5,rfl,hrow,hra,hb⟩
      have N17:=hid (N16.out.later hb)
      have hb16:=N16.out.big
      obtain ⟨V18,hV18⟩:∃ X,(V17.setCells w.heap.size 0 [.slice A n cap,.int .i64 (p5:Int),.bool b5]).setCell ⟨g+1,5,none⟩ (.slice B ts.length kk)=X:=⟨_,rfl⟩
      have N18:=hid (show NX w V18 x g [.slice A n cap,.int .i64 (p5:Int),.bool b5] [.int .i64 x.kind,.string x.name,.string x.ty.name,.slice a1 a2 a3,.int .i64 x.ty.off,.slice a4 a5 a6,.slice a7 a8 a9,.int .i64 x.off] [.int .i64 2,.string nx.s,.string ⟨#[]⟩,.slice none 0 0,.int .i64 0,.slice B ts.length kk,.slice (some ⟨g,0,none⟩) 1 1,.int .i64 nx.o] from hV18▸(N17.out.place [.slice A n cap,.int .i64 (p5:Int),.bool b5] rfl).field 5 (by omega) (.slice B ts.length kk))
      have HROW:=hid (show Row V18 False (Fr (g+2) V18) 3 B ts.length (Ty.dats ts) from hV18▸row_gb (gb_set _ _ _ _) (by omega) (row_gb (gb_sets1 _ _ _ _) (by omega) (hrow.wide fun i hi=>⟨by have:=hi.1;omega,hi.2⟩)))
      obtain ⟨q5,hp5,hql5,-,heq5⟩:=raft_next2 (targsF_ends k q4) hra (fun ts q=>Got.bind (must [40] q) fun _ q=>Got.bind (argsF k [41] q) fun xs q=>restsF k (exCall nx.s ts (x :: xs) nx.o) q)
      have HQ5:=hid (HP1.out.move hp5 (Below.refl _ _))
      have HEQ5:=hid (HNX.out.trans heq5)
      have HV18:=hid (show (((V17.setCell ⟨w.heap.size,0,none⟩ (.slice A n cap)).setCell ⟨w.heap.size,1,none⟩ (.int .i64 (p5:Int))).setCell ⟨w.heap.size,2,none⟩ (.bool b5)).setCell ⟨g+1,5,none⟩ (.slice B ts.length kk)=V18 from by rw [←hV18];rfl)
      obtain ⟨y0,y1,y2,f0,f1,f2⟩:=three N17.out.x4.box N17.out.x4.own
      have z5:=N17.out.nx 5 _ rfl
      have g5:=N17.out.free 5 (by omega)
      clear hb hra hrow hV18 C22 x0 x1 x2 hp5 heq5
      go_upto_region 23 with fail
      rw [HV18.out]
      clear y0 y1 y2 f0 f1 f2 z5 g5 N17 N16
      obtain ⟨x0,x1,x2,-⟩:=three N18.out.x4.box N18.out.x4.own
      have C23:=hid (show Calls Tryz.prog 52 #[.agg #[.slice A n cap,.int .i64 (p5:Int),.bool b5],.string ⟨#[40]⟩] V18 (RMustPost A n cap L q5 b5 [40] V18) from rmust_any A n cap p5 L q5 b5 ⟨#[40]⟩ V18 (HQ5.out.later N18.out.x4.bel))
      go_wp2_with fail
      refine C23.out.mono ?_
      rintro e V19 ⟨p6,b6,rfl,hra,hb⟩
      have N19:=hid (N18.out.later hb)
      obtain ⟨V20,hV20⟩:∃ X,V19.setCells w.heap.size 0 [.slice A n cap,.int .i64 (p6:Int),.bool b6]=X:=⟨_,rfl⟩
      have N20:=hid (show NX w V20 x g [.slice A n cap,.int .i64 (p6:Int),.bool b6] [.int .i64 x.kind,.string x.name,.string x.ty.name,.slice a1 a2 a3,.int .i64 x.ty.off,.slice a4 a5 a6,.slice a7 a8 a9,.int .i64 x.off] [.int .i64 2,.string nx.s,.string ⟨#[]⟩,.slice none 0 0,.int .i64 0,.slice B ts.length kk,.slice (some ⟨g,0,none⟩) 1 1,.int .i64 nx.o] from hV20▸N19.out.place [.slice A n cap,.int .i64 (p6:Int),.bool b6] rfl)
      have hb18:=N18.out.big
      have HROW9:=hid (show Row V20 False (Fr (g+2) V20) 3 B ts.length (Ty.dats ts) from hV20▸row_gb (gb_sets1 _ _ _ _) (by omega) (row_gb (gb_of (some 0) hb) (by omega) HROW.out))
      obtain ⟨q6,hp6,hql6,-,heq6⟩:=raft_next2 (rstop_ends b5 (Less.ends (must_less [40] q5))) hra (fun _ q=>Got.bind (argsF k [41] q) fun xs q=>restsF k (exCall nx.s ts (x :: xs) nx.o) q)
      have HQ6:=hid (HP1.out.move hp6 (Below.refl _ _))
      have HEQ6:=hid ((HEQ5.out.trans (rstop_bind b5 q5 _ _)).trans heq6)
      have HV20:=hid (show ((V19.setCell ⟨w.heap.size,0,none⟩ (.slice A n cap)).setCell ⟨w.heap.size,1,none⟩ (.int .i64 (p6:Int))).setCell ⟨w.heap.size,2,none⟩ (.bool b6)=V20 from by rw [←hV20];rfl)
      obtain ⟨y0,y1,y2,f0,f1,f2⟩:=three N19.out.x4.box N19.out.x4.own
      clear hb hra hV20 C23 x0 x1 x2 hp6 heq6
      go_upto_region 24 with fail
      rw [HV20.out]
      clear y0 y1 y2 f0 f1 f2 N19 N18
      obtain ⟨x0,x1,x2,-⟩:=three N20.out.x4.box N20.out.x4.own
      have C25:=hid (show Calls Tryz.prog 103 #[.agg #[.slice A n cap,.int .i64 (p6:Int),.bool b6],.string ⟨#[41]⟩] V20 (RExsPost A n cap L q6 [41] b6 k V20) from rargs_any k (fun m hm=>IH.out m (by have:=HLS.out;omega)) A n cap p6 L q6 b6 ⟨#[41]⟩ V20 (HQ6.out.later N20.out.x4.bel) (fun _=>by have:=HFU.out;omega))
      go_upto_region 25 with fail
      go_wp2_with fail
      refine C25.out.mono ?_
      rintro e V21 ⟨xs,B2,k2,p7,b7,rfl,hrow,hk2,hxl,hra,hb⟩
      have N21:=hid (N20.out.later hb)
      have hb20:=N20.out.big
      obtain ⟨V22,hV22⟩:∃ X,V21.setCells w.heap.size 0 [.slice A n cap,.int .i64 (p7:Int),.bool b7]=X:=⟨_,rfl⟩
      have N22:=hid (show NX w V22 x g [.slice A n cap,.int .i64 (p7:Int),.bool b7] [.int .i64 x.kind,.string x.name,.string x.ty.name,.slice a1 a2 a3,.int .i64 x.ty.off,.slice a4 a5 a6,.slice a7 a8 a9,.int .i64 x.off] [.int .i64 2,.string nx.s,.string ⟨#[]⟩,.slice none 0 0,.int .i64 0,.slice B ts.length kk,.slice (some ⟨g,0,none⟩) 1 1,.int .i64 nx.o] from hV22▸N21.out.place [.slice A n cap,.int .i64 (p7:Int),.bool b7] rfl)
      have HROWT:=hid (show Row V22 False (Fr (g+2) V22) 3 B ts.length (Ty.dats ts) from hV22▸row_gb (gb_sets1 _ _ _ _) (by omega) (row_gb (gb_of (some 0) hb) (by omega) HROW9.out))
      have hrow2:Row V22 False (Fr (g+2) V22) 8 B2 xs.length (Ex.dats xs):=hV22▸row_gb (gb_sets1 _ _ _ _) (by omega) (hrow.wide fun i hi=>⟨by have:=hi.1;omega,hi.2⟩)
      obtain ⟨cs,hcs,hlc2,hcc⟩:=row_flat hrow2 (fun d hd=>by rw [Ex.dats_map,List.mem_map] at hd;obtain ⟨y,_,rfl⟩:=hd;exact Ex.dat_size y)
      have HCS:=hid hcs
      have HLC:=hid hlc2
      have HCC:=hid hcc
      have HON:=hid (ins_cells (fun d hd u hu=>by rw [Ex.dats_map,List.mem_map] at hd;obtain ⟨y,_,rfl⟩:=hd;exact ex_one hu) hcs)
      have HSM:=hid (row_some hrow2)
      obtain ⟨q7,hp7,hql7,-,heq7⟩:=raft_next2 (rstop_ends b6 (argsF_ends k [41] q6)) hra (fun xs q=>restsF k (exCall nx.s ts (x :: xs) nx.o) q)
      have HQ7:=hid (HP1.out.move hp7 (Below.refl _ _))
      have HEQ7:=hid ((HEQ6.out.trans (rstop_bind b6 q6 _ _)).trans heq7)
      have HV22:=hid (show ((V21.setCell ⟨w.heap.size,0,none⟩ (.slice A n cap)).setCell ⟨w.heap.size,1,none⟩ (.int .i64 (p7:Int))).setCell ⟨w.heap.size,2,none⟩ (.bool b7)=V22 from by rw [←hV22];rfl)
      have hbase:g≤V22.heap.size:=by have:=N22.out.big;omega
      obtain ⟨y0,y1,y2,f0,f1,f2⟩:=three N21.out.x4.box N21.out.x4.own
      clear hb hra hrow hrow2 hV22 hcs hlc2 hcc C25 x0 x1 x2 hp7 heq7
      go_upto_region 26 with fail
      rw [HV22.out]
      clear y0 y1 y2 f0 f1 f2 N21 N20
      have z6:=N22.out.nx 6 _ rfl
      go_wp2_with (first | (at_builtin;refine wpList_append_row slEx rfl _ _ rfl rfl rfl N22.out.own hbase HLC.out HCC.out HON.out HSM.out (by omega) (by omega) ?_;intro v9 w9 hA9;have HA9:=hid hA9;obtain ⟨A9,c9,rfl,hc9,hax,hg9⟩:=N22.out.app (Nat.le_refl _) HCS.out hxl hA9;have HAX:=hid hax;have HC9:=hid hc9;have HG9:=hid hg9;have u6:=hax.nx 6 _ rfl;have g6:=hax.free 6 (by omega);clear hA9 hax hc9 hg9 z6) | fail)
      go_meet
      have hax2:=HAX.out.field 6 (by omega) (.slice A9 (1+xs.length) c9)
      have hrt:Row (w9.setCell ⟨g+1,6,none⟩ (.slice A9 (1+xs.length) c9)) False (Fr (g+2) (w9.setCell ⟨g+1,6,none⟩ (.slice A9 (1+xs.length) c9))) 3 B ts.length (Ty.dats ts):=row_gb (gb_set _ _ _ _) (by omega) (row_gb HG9.out (by omega) HROWT.out)
      refine ⟨exCall nx.s ts (x :: xs) nx.o,_,q7,p7,b7,hax2.x4,hax2.nx,hax2.nl,?_,HQ7.out,by omega,HEQ7.out⟩
      exact ex_shut (e:=exCall nx.s ts (x :: xs) nx.o) (by show nx.s.size≤_;have:=HZ2.out;omega) (by show (0:Nat)≤_;omega) (lies_row.2 (Row.nil _ _ _ _ _)) (lies_row.2 (hrt.wide fun i hi=>⟨by have:=hi.1;omega,hi.2⟩)) (hax2.row.wide fun i hi=>hi.1) HC9.out
    obtain ⟨y,vs,q5,p5,b5,hkr⟩:=hcut
    have HKR:=hid hkr
    have HXN:=hid (boxd_at0 hkr.nx)
    have HON:=hid (ex_one hkr.dat)
    have HEXO:=hid (show wc.there (w.heap.size+3) 0 vs.length by rw [hkr.nl];exact hkr.x4.exo)
    clear hkr
    go_wp2_with (first | (refine loadOp flatEx 5 112 rfl HXN.out HKR.out.nl ?_) | (refine storeOp flatEx 4 112 (b:=w.heap.size+3) (o:=0) (us:=vs) rfl rfl HEXO.out HON.out HKR.out.nl ?_))
    have hdy:=in_gb (gb_sets1 _ (w.heap.size+3) 0 vs) (show w.heap.size+3<w.heap.size+4 by omega) HKR.out.dat
    have hx4:=HKR.out.x4.whole vs HKR.out.nl
    go_roundw
    case rel =>
      (repeat apply Exists.intro)
      exact ⟨⟨k,_,_,_,_,_,(show JRel w _ A n cap L l (M'+1) k y vs q5 p5 b5 from ⟨hx4,HKR.out.pl,hdy,fun _=>by have:=HFU.out;have:=HKR.out.len;omega,by have:=HLS.out;omega,HKR.out.eq⟩)⟩,rfl⟩
    case measure =>
      have h1:=pl_lt HPQ.out HKR.out.pl (by have:=HKR.out.len;simp only [List.length_cons];omega)
      have h2:=HRB.out.box 1 _ rfl
      have h3:=hx4.box 1 _ rfl
      rw [h2,h3]
      simp [intOf]
      omega
  obtain ⟨-,hi2⟩:=nextB_cons hy
  have z0:=N11.out.nx 0 _ rfl
  have g0:=N11.out.free 0 (by omega)
  obtain ⟨V12,hV12⟩:∃ X,V11.setCell ⟨g+1,0,none⟩ (.int .i64 5)=X:=⟨_,rfl⟩
  have N12:=hid (show NX w V12 x g [.slice A n cap,.int .i64 (pp:Int),.bool false] [.int .i64 x.kind,.string x.name,.string x.ty.name,.slice a1 a2 a3,.int .i64 x.ty.off,.slice a4 a5 a6,.slice a7 a8 a9,.int .i64 x.off] [.int .i64 5,.string ⟨#[]⟩,.string ⟨#[]⟩,.slice none 0 0,.int .i64 0,.slice none 0 0,.slice (some ⟨g,0,none⟩) 1 1,.int .i64 0] from hV12▸N11.out.field 0 (by omega) (.int .i64 5))
  have HV12:=hid hV12
  clear hV12 hy N10 N11
  go_upto_region 13 with fail
  rw [HV12.out]
  clear z0 g0
  obtain ⟨aa,t2,r2,rfl,rfl,k0,k1,k2⟩:=(HP1.out.later N12.out.x4.bel).at
  have HI2:=hid hi2
  have hk3:t2.k≠3:=by
    obtain ⟨t',r',e,hk,-⟩:=isT_cons hi2
    injection e with e1 e2
    rw [e1]
    exact hk
  obtain ⟨p3,hp3⟩:∃ p3,pp+1=p3:=⟨_,rfl⟩
  have HP2:=hid (show Pl w (some aa) n L p3 r2 from hp3▸HP1.out.step hk3)
  have HP3:=hid hp3
  clear hi2 hk3 hp3
  obtain ⟨x0,x1,x2,-⟩:=three N12.out.x4.box N12.out.x4.own
  have z7:=N12.out.nx 7 _ rfl
  have g7:=N12.out.free 7 (by omega)
  obtain ⟨V13,hV13⟩:∃ X,V12.setCell ⟨g+1,7,none⟩ (.int .i64 t2.o)=X:=⟨_,rfl⟩
  have N13:=hid (show NX w V13 x g [.slice (some aa) n cap,.int .i64 (pp:Int),.bool false] [.int .i64 x.kind,.string x.name,.string x.ty.name,.slice a1 a2 a3,.int .i64 x.ty.off,.slice a4 a5 a6,.slice a7 a8 a9,.int .i64 x.off] [.int .i64 5,.string ⟨#[]⟩,.string ⟨#[]⟩,.slice none 0 0,.int .i64 0,.slice none 0 0,.slice (some ⟨g,0,none⟩) 1 1,.int .i64 t2.o] from hV13▸N12.out.field 7 (by omega) (.int .i64 t2.o))
  have HV13:=hid hV13
  clear hV13
  go_upto_region 14 with fail
  rw [HV13.out]
  clear x0 x1 x2 z7 g7 k0 k1 k2
  obtain ⟨x0,x1,x2,f0,f1,f2⟩:=three N13.out.x4.box N13.out.x4.own
  obtain ⟨V14,hV14⟩:∃ X,V13.setCell ⟨w.heap.size,1,none⟩ (.int .i64 (p3:Int))=X:=⟨_,rfl⟩
  have N14:=hid (show NX w V14 x g [.slice (some aa) n cap,.int .i64 (p3:Int),.bool false] [.int .i64 x.kind,.string x.name,.string x.ty.name,.slice a1 a2 a3,.int .i64 x.ty.off,.slice a4 a5 a6,.slice a7 a8 a9,.int .i64 x.off] [.int .i64 5,.string ⟨#[]⟩,.string ⟨#[]⟩,.slice none 0 0,.int .i64 0,.slice none 0 0,.slice (some ⟨g,0,none⟩) 1 1,.int .i64 t2.o] from hV14▸N13.out.placeAt 1 (by omega) (.int .i64 (p3:Int)))
  have HV14:=hid (show V13.setCell ⟨w.heap.size,1,none⟩ (.int .i64 ((pp:Int)+1))=V14 from by rw [←hV14,←HP3.out];rfl)
  clear hV14 N12 N13
  go_upto_region 15 with fail
  rw [HV14.out]
  clear x0 x1 x2 f0 f1 f2
  obtain ⟨x0,x1,x2,-⟩:=three N14.out.x4.box N14.out.x4.own
  have C15:=hid (rtype_any k (some aa) n cap p3 L r2 V14 (HP2.out.later N14.out.x4.bel) (by have:=HFU.out;simp only [List.length_cons] at this;omega))
  go_wp2_with fail
  refine C15.out.mono ?_
  rintro e V15 ⟨t,ts0,p4,b4,rfl,hd,hra,hb⟩
  obtain ⟨B,m2,c2,rfl,hz,hl⟩:=ty_open hd
  have N15:=hid (N14.out.later hb)
  have hb14:=N14.out.big
  obtain ⟨V16,hV16⟩:∃ X,(((V15.setCells w.heap.size 0 [.slice (some aa) n cap,.int .i64 (p4:Int),.bool b4]).setCell ⟨g+1,2,none⟩ (.string t.name)).setCell ⟨g+1,3,none⟩ (.slice B m2 c2)).setCell ⟨g+1,4,none⟩ (.int .i64 t.off)=X:=⟨_,rfl⟩
  have N16:=hid (show NX w V16 x g [.slice (some aa) n cap,.int .i64 (p4:Int),.bool b4] [.int .i64 x.kind,.string x.name,.string x.ty.name,.slice a1 a2 a3,.int .i64 x.ty.off,.slice a4 a5 a6,.slice a7 a8 a9,.int .i64 x.off] [.int .i64 5,.string ⟨#[]⟩,.string t.name,.slice B m2 c2,.int .i64 t.off,.slice none 0 0,.slice (some ⟨g,0,none⟩) 1 1,.int .i64 t2.o] from hV16▸(((N15.out.place [.slice (some aa) n cap,.int .i64 (p4:Int),.bool b4] rfl).field 2 (by omega) (.string t.name)).field 3 (by omega) (.slice B m2 c2)).field 4 (by omega) (.int .i64 t.off))
  have HROW:=hid (show Row V16 False (Fr (g+2) V16) 3 B m2 (Ty.dats t.args) from hV16▸row_gb (gb_set _ _ _ _) (by omega) (row_gb (gb_set _ _ _ _) (by omega) (row_gb (gb_set _ _ _ _) (by omega) (row_gb (gb_sets1 _ _ _ _) (by omega) ((lies_row.1 hl).wide fun i hi=>⟨by have:=hi.1;omega,hi.2⟩)))))
  obtain ⟨q4,hp4,hql4,-,heq4⟩:=raft_next2 (Less.ends (tyF_less k r2)) hra (fun t q=>Got.bind (must [41] q) fun _ q=>restsF k (exAssert t x (off (t2 :: r2))) q)
  have HQ4:=hid (HP1.out.move hp4 (Below.refl _ _))
  have HEQ4:=hid ((assert_next HEQ.out HI2.out).trans heq4)
  have HZ2:=hid hz
  have HV16:=hid (show (((((V15.setCell ⟨w.heap.size,0,none⟩ (.slice (some aa) n cap)).setCell ⟨w.heap.size,1,none⟩ (.int .i64 (p4:Int))).setCell ⟨w.heap.size,2,none⟩ (.bool b4)).setCell ⟨g+1,2,none⟩ (.string t.name)).setCell ⟨g+1,3,none⟩ (.slice B m2 c2)).setCell ⟨g+1,4,none⟩ (.int .i64 t.off)=V16 from by rw [←hV16];rfl)
  obtain ⟨y0,y1,y2,f0,f1,f2⟩:=three N15.out.x4.box N15.out.x4.own
  have z2:=N15.out.nx 2 _ rfl
  have z3:=N15.out.nx 3 _ rfl
  have z4:=N15.out.nx 4 _ rfl
  have g2:=N15.out.free 2 (by omega)
  have g3:=N15.out.free 3 (by omega)
  have g4:=N15.out.free 4 (by omega)
  clear hb hd hra hl hz hV16 C15 x0 x1 x2 hp4 heq4
  go_upto_region 16 with fail
  rw [HV16.out]
  clear y0 y1 y2 f0 f1 f2 z2 z3 z4 g2 g3 g4 N15 N14
  obtain ⟨x0,x1,x2,-⟩:=three N16.out.x4.box N16.out.x4.own
  have C16:=hid (show Calls Tryz.prog 52 #[.agg #[.slice (some aa) n cap,.int .i64 (p4:Int),.bool b4],.string ⟨#[41]⟩] V16 (RMustPost (some aa) n cap L q4 b4 [41] V16) from rmust_any (some aa) n cap p4 L q4 b4 ⟨#[41]⟩ V16 (HQ4.out.later N16.out.x4.bel))
  go_wp2_with fail
  refine C16.out.mono ?_
  rintro e V17 ⟨p5,b5,rfl,hra,hb⟩
  have N17:=hid (N16.out.later hb)
  obtain ⟨V18,hV18⟩:∃ X,V17.setCells w.heap.size 0 [.slice (some aa) n cap,.int .i64 (p5:Int),.bool b5]=X:=⟨_,rfl⟩
  have N18:=hid (show NX w V18 x g [.slice (some aa) n cap,.int .i64 (p5:Int),.bool b5] [.int .i64 x.kind,.string x.name,.string x.ty.name,.slice a1 a2 a3,.int .i64 x.ty.off,.slice a4 a5 a6,.slice a7 a8 a9,.int .i64 x.off] [.int .i64 5,.string ⟨#[]⟩,.string t.name,.slice B m2 c2,.int .i64 t.off,.slice none 0 0,.slice (some ⟨g,0,none⟩) 1 1,.int .i64 t2.o] from hV18▸N17.out.place [.slice (some aa) n cap,.int .i64 (p5:Int),.bool b5] rfl)
  have hb16:=N16.out.big
  have HROW8:=hid (show Row V18 False (Fr (g+2) V18) 3 B m2 (Ty.dats t.args) from hV18▸row_gb (gb_sets1 _ _ _ _) (by omega) (row_gb (gb_of (some 0) hb) (by omega) HROW.out))
  obtain ⟨q5,hp5,hql5,-,heq5⟩:=raft_next2 (rstop_ends b4 (Less.ends (must_less [41] q4))) hra (fun _ q=>restsF k (exAssert t x (off (t2 :: r2))) q)
  have HQ5:=hid (HP1.out.move hp5 (Below.refl _ _))
  have HEQ5:=hid ((HEQ4.out.trans (rstop_bind b4 q4 _ _)).trans heq5)
  have HV18:=hid (show ((V17.setCell ⟨w.heap.size,0,none⟩ (.slice (some aa) n cap)).setCell ⟨w.heap.size,1,none⟩ (.int .i64 (p5:Int))).setCell ⟨w.heap.size,2,none⟩ (.bool b5)=V18 from by rw [←hV18];rfl)
  obtain ⟨y0,y1,y2,f0,f1,f2⟩:=three N17.out.x4.box N17.out.x4.own
  clear hb hra hV18 C16 x0 x1 x2 hp5 heq5
  go_upto_region 17 with fail
  rw [HV18.out]
  clear y0 y1 y2 f0 f1 f2 N17 N16
  obtain ⟨hx4,hdy⟩:=N18.out.shut (y:=exAssert t x (off (t2 :: r2))) (ex_shut (e:=exAssert t x (off (t2 :: r2))) (by show (0:Nat)≤_;omega) (by show t.name.size≤_;exact HZ2.out) (lies_row.2 (HROW8.out.wide fun i hi=>⟨by have:=hi.1;omega,hi.2⟩)) (lies_row.2 (Row.nil _ _ _ _ _)) N18.out.one (Nat.le_refl _))
  have HX4:=hid hx4
  have HDY:=hid hdy
  have HNX:=hid (boxd_at0 N18.out.nx)
  clear hx4 hdy
  go_wp2_with (first | (refine loadOp flatEx 5 77 rfl HNX.out rfl ?_) | (refine storeOp flatEx 4 77 (b:=w.heap.size+3) (o:=0) (us:=[.int .i64 5,.string ⟨#[]⟩,.string t.name,.slice B m2 c2,.int .i64 t.off,.slice none 0 0,.slice (some ⟨g,0,none⟩) 1 1,.int .i64 t2.o]) rfl rfl N18.out.x4.exo (ex8_one rfl rfl rfl rfl rfl rfl rfl rfl) rfl ?_))
  go_roundw
  case rel =>
    (repeat apply Exists.intro)
    exact ⟨⟨k,_,_,_,_,_,(show JRel w _ (some aa) n cap L l (M'+1) k (exAssert t x (off (t2 :: r2))) [.int .i64 5,.string ⟨#[]⟩,.string t.name,.slice B m2 c2,.int .i64 t.off,.slice none 0 0,.slice (some ⟨g,0,none⟩) 1 1,.int .i64 t2.o] q5 p5 b5 from ⟨HX4.out,HQ5.out,HDY.out,fun _=>by have:=HFU.out;simp only [List.length_cons] at this;omega,by have:=HLS.out;omega,HEQ5.out⟩)⟩,rfl⟩
  case measure =>
    have h1:=pl_lt HPQ.out HQ5.out (by simp only [List.length_cons];omega)
    have h2:=HRB.out.box 1 _ rfl
    have h3:=HX4.out.box 1 _ rfl
    rw [h2,h3]
    simp [intOf]
    omega
theorem rexpr_all (M:Nat):∀ m,m≤M→RExAt m:=by
  induction M with
  | zero=>intro m hm A n cap p L l w h hf;exfalso;omega
  | succ M ih =>
    intro m hm
    rcases Nat.lt_or_ge m (M+1) with h | h
    · exact ih m (by omega)
    obtain rfl:m=M+1:=by omega
    exact rexpr_step M ih
theorem rexpr_any (M:Nat):RExAt M:=rexpr_all M M (Nat.le_refl _)
