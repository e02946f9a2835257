/- The walks of bind.Alike, bind.Apply and bind.Bound. The condition: few parts. -/
import Derived.Test.YtjhlehdjdaphcaaDoorQMBdK
namespace Go.Proofs.YtjhlehdjdaphcaaDoor
open Go.RowKit

theorem bcanon_d (s : Sg) (us : List Value) (w : World) (hw : s.wt ≤ 1000) (hE : PowVar w) (h : s.dat.H w us) : Calls Tryd.prog 37 #[.agg us.toArray] w (DPost w s.canon.dat) := by
  have hn : s.name.size ≤ 9223372036854775807 := by obtain ⟨_, _, _, _, _, _, _, _, _, _, hn, _⟩ := sg_open h; exact hn
  have h1 := Sg.len_f s
  have h2 := Sg.len_p s
  exact (bcanon_any s us w hw hE h).mono fun e w' hp => hp.post hn ⟨by simp [Sg.canon, Sg.bare, Sg.subst]; omega, by simp [Sg.canon, Sg.bare, Sg.subst]; omega⟩
theorem none_dat {w : World} {S : Nat → Prop} : Sg.none?.dat.In w False S [.string ⟨#[]⟩, .slice none 0 0, .slice none 0 0, .string ⟨#[]⟩, .slice none 0 0, .int .i64 0, .int .i64 0] :=
  sg_shut (s := Sg.none?) (nf := 0) (np := 0) (m := 0) (by simp [Sg.none?, ByteArray.size]) (Row.nil _ _ _ _ _) (Row.nil _ _ _ _ _) (by simp [Sg.none?, Ty.name, ByteArray.size]) (LiesN.nil _ _ _ _)
end Go.Proofs.YtjhlehdjdaphcaaDoor
