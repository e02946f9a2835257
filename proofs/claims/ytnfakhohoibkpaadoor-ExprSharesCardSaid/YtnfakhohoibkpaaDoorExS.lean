/- Which value stands for a name, found from left to right; what replacing gives then. No program, no condition. -/
import Derived.Test.YtnfakhohoibkpaaDoorExA
namespace Go.Proofs.YtnfakhohoibkpaaDoor
namespace Ex

def pickAt (s : ByteArray) (ns : List ByteArray) (es : List Ex) (j : Nat) : Prop := pick s ns es = pick s (ns.drop j) (es.drop j)
theorem pickAt_zero (s : ByteArray) (ns : List ByteArray) (es : List Ex) : pickAt s ns es 0 := by unfold pickAt; simp
theorem pick_drop {s n : ByteArray} {ns : List ByteArray} {es : List Ex} {j : Nat} (hn : ns[j]? = some n) : pick s (ns.drop j) (es.drop j) = if n.data.toList = s.data.toList then es[j]? else pick s (ns.drop (j + 1)) (es.drop (j + 1)) := by
  rw [drop_at hn, pick, List.head?_drop, List.tail_drop]
theorem pick_on {s n : ByteArray} {ns : List ByteArray} {es : List Ex} {j : Nat} (h : pickAt s ns es j) (hn : ns[j]? = some n) (hne : n.data.toList ≠ s.data.toList) : pickAt s ns es (j + 1) := by
  unfold pickAt at h ⊢
  rw [h, pick_drop hn, if_neg hne]
theorem pick_hit {s n : ByteArray} {ns : List ByteArray} {es : List Ex} {j : Nat} (h : pickAt s ns es j) (hn : ns[j]? = some n) (he : n.data.toList = s.data.toList) : pick s ns es = es[j]? := by
  unfold pickAt at h
  rw [h, pick_drop hn, if_pos he]
theorem pick_end {s : ByteArray} {ns : List ByteArray} {es : List Ex} {j : Nat} (h : pickAt s ns es j) (hj : ns.length ≤ j) : pick s ns es = none := by
  unfold pickAt at h
  rw [h, List.drop_eq_nil_of_le hj]
  simp only [pick]
theorem repl_some {s : ByteArray} {ns : List ByteArray} {es : List Ex} {t : Ty} {ts : List Ty} {xs : List Ex} {o : Int} {v : Ex} (h : pick s ns es = some v) : repl ns es (mk 1 s t ts xs o) = v := by
  rw [repl, if_pos rfl, h]
theorem repl_else {k : Int} {s : ByteArray} {ns : List ByteArray} {es : List Ex} {t : Ty} {ts : List Ty} {xs : List Ex} {o : Int} (h : k ≠ 1 ∨ pick s ns es = none) : repl ns es (mk k s t ts xs o) = mk k s t ts (xs.map (repl ns es)) o := by
  rw [repl]
  by_cases hk : k = 1
  · rw [if_pos hk]
    rcases h with h | h
    · exact absurd hk h
    · rw [h, replL_map]
  · rw [if_neg hk, replL_map]
end Ex
end Go.Proofs.YtnfakhohoibkpaaDoor
