/- Package types does what the laws ask of it. No condition. -/
import Derived.Test.YtioamnaknjhbpaaDoorTwB
import Derived.Test.YtioamnaknjhbpaaDoorTwC
import Derived.Test.YtioamnaknjhbpaaDoorTwD
import Derived.Test.YtioamnaknjhbpaaDoorTwF
import Derived.Test.YtioamnaknjhbpaaDoorTwR
import Derived.Test.YtioamnaknjhbpaaDoorTwK
namespace Go.Proofs.YtioamnaknjhbpaaDoor
open Go.RowKit

theorem typesOk : TypesOk where
  cmp := fun t u A B m l c d w ht hu h1 h2 => cmp_any t u A B m l c d w (name_le ht) (name_le hu) h1 h2
  same := fun t u A B m l c d w ht hu h1 h2 => same_any t u A B m l c d w h1 h2
  text := fun t A m c w ht h => text_any t A m c w ht.text h
  depth := fun t A m c w ht h => depth_any t A m c w (by have := ht.depth; omega) h
  size := fun t A m c w ht h => size_any t A m c w (by have := ht.list; omega) h
  right := fun t A m c w hE ht h => right_any t A m c w hE ht h
  subst := fun ns us N U nl ul nc uc t A m c w hus ht hnl hul hF h hN hU => subst_any ns us N U nl ul nc uc t A m c w hus ht hul hF h hN hU
  all := fun xs ns us A N U m c nl ul nc uc w hus hxs hm hnl hul hF h hN hU => all_any xs ns us A N U m c nl ul nc uc w hus hxs hm hul hF h hN hU
  clone := fun t A m c w ht h => clone_any t (by have := ht.list; omega) A m c w (name_le ht) h
  names := fun t A m c w ht h => (namesOk t A m c w ht h).mono fun _ _ h => h.fn
end Go.Proofs.YtioamnaknjhbpaaDoor
