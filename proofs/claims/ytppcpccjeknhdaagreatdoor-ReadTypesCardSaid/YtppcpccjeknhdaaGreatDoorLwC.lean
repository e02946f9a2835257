/- The walk of lex.Tokens: it returns the tokens of the text in the plain words of LxPure, or its one error. -/
import Derived.Test.YtppcpccjeknhdaaGreatDoorLwB
import Derived.Test.YtppcpccjeknhdaaGreatDoorLxL
import Derived.WalkMore
namespace Go.Proofs.YtppcpccjeknhdaaGreatDoor
open Go.RowKit

theorem extract_end (s : ByteArray) (k : Nat) : (s.extract k s.size).data.toList = s.data.toList.drop k ∧ (s.extract k s.size).size = s.size - k := by
  have h1 : (s.extract k s.size).data.toList = s.data.toList.drop k := by
    rw [Lib.extract_data, List.take_of_length_le]
    rw [List.length_drop, ← Lib.size_eq]
    omega
  refine ⟨h1, ?_⟩
  rw [Lib.size_eq, h1, List.length_drop, ← Lib.size_eq]

theorem run_drop (p : UInt8 → Bool) (l : List UInt8) (k j : Nat) : k + runEnd p (l.drop k) j = runEnd p l (k + j) := by
  unfold runEnd
  rw [List.drop_drop]
  omega

/-- One round's yield: a gap, a token or an error. -/
def Step (s : ByteArray) (k : Nat) (q : Int) (n : Nat) : Prop :=
  (q = 4 ∧ 1 ≤ n ∧ k + n ≤ s.size ∧ left s k = left s (k + n)) ∨ (q = 1 ∧ 1 ≤ n ∧ k + n ≤ s.size ∧ left s k = (left s (k + n)).app [⟨q, (s.data.toList.drop k).take n, k⟩])
    ∨ (q = 2 ∧ 1 ≤ n ∧ k + n ≤ s.size ∧ left s k = (left s (k + n)).app [⟨q, (s.data.toList.drop k).take n, k⟩]) ∨ (q = 0 ∧ n = 0 ∧ left s k = .bad k)

theorem run_le (p : UInt8 → Bool) (l : List UInt8) (k : Nat) (h : k ≤ l.length) : k ≤ runEnd p l k ∧ runEnd p l k ≤ l.length := by
  unfold runEnd
  have := Lx.takeWhile_le p (l.drop k)
  rw [List.length_drop] at this
  omega

theorem step_of (s : ByteArray) (k : Nat) (h : k < s.size) (u : ByteArray) (hu : u.data.toList = s.data.toList.drop k) : Step s k (fstP u s[k]).1 (fstP u s[k]).2 := by
  have hz := Lib.size_eq s
  unfold fstP
  rw [hu]
  split
  · rename_i h4
    exact .inl ⟨rfl, Nat.le_refl _, h, left_blank h h4⟩
  · rename_i h4
    split
    · rename_i hc
      rw [at_drop h, comB_cons] at hc
      obtain ⟨hc1, hc2⟩ := hc
      obtain ⟨h2, h3⟩ := (head_drop 47).1 hc2
      have e : ((s.data.toList.drop k).takeWhile Lx.inLine).length = ((s.data.toList.drop (k + 1)).takeWhile Lx.inLine).length + 1 := by
        rw [at_drop h, List.takeWhile_cons, hc1]
        simp [show Lx.inLine 47 = true by decide]
      have hr : runEnd Lx.inLine s.data.toList (k + 1) = k + ((s.data.toList.drop k).takeWhile Lx.inLine).length := by
        rw [e]
        unfold runEnd
        omega
      have hb := run_le Lx.inLine s.data.toList (k + 1) (by omega)
      refine .inl ⟨rfl, by rw [e]; omega, by rw [← hr]; omega, left_comment h h4 hc1 h2 h3 hr⟩
    · rename_i hc
      split
      · rename_i h1
        have hr := run_drop Lx.good s.data.toList k 1
        have hb := run_le Lx.good s.data.toList (k + 1) (by omega)
        have hw := left_word h h1 hr.symm
        generalize runEnd Lx.good (s.data.toList.drop k) 1 = m at *
        refine .inr (.inl ⟨rfl, ?_, ?_, ?_⟩)
        · show 1 ≤ m; omega
        · show k + m ≤ s.size; omega
        · rw [show k + m - k = m by omega] at hw
          exact hw
      · rename_i h1
        split
        · rename_i hs
          exact .inr (.inr (.inl ⟨rfl, Nat.le_refl _, h, left_sign h hs⟩))
        · rename_i hs
          refine .inr (.inr (.inr ⟨rfl, rfl, left_bad h h4 ?_ h1 (by simpa using hs)⟩))
          rintro ⟨hc1, hc2⟩
          exact hc (by rw [at_drop h, comB_cons]; exact ⟨hc1, (head_drop 47).2 hc2⟩)

/-- What first returns at an offset. -/
def FirstPost (s : ByteArray) (k : Nat) (w : World) (e : Ending) (w' : World) : Prop := ∃ (q : Int) (n : Nat), e = .returned (.tuple #[.int .i64 q, .int .i64 n]) ∧ Step s k q n ∧ w = w'
theorem first_at (s : ByteArray) (k : Nat) (h : k < s.size) (hs : s.size ≤ 65536) (w : World) :
    Calls Tryz.prog 133 #[.string (s.extract k s.size)] w (FirstPost s k w) := by
  obtain ⟨hu, hz⟩ := extract_end s k
  generalize s.extract k s.size = u at hu hz ⊢
  have h1 : 0 < u.size := by omega
  have hc : u[0] = s[k] := by
    have h2 : u.data.toList[0]? = (s.data.toList.drop k)[0]? := by rw [hu]
    rw [at_drop h, ← List.drop_zero (l := u.data.toList), at_drop h1] at h2
    simpa using h2
  refine (first_any u h1 (by omega) w).mono fun e w' ⟨he, hw⟩ => ⟨_, _, he, ?_, hw⟩
  rw [hc]
  exact step_of s k h u hu

theorem infoLexT : (Tryz.prog.info? 180).map (fun i => (i.zero, i.size, i.bytes)) = some (some (.agg #[.int .i64 0, .string ⟨#[]⟩, .int .i64 0]), 3, 32) := by kernel_rfl

/-- What holds at a round's head. -/
def LexRel (W wr : World) (s : ByteArray) (v : Value) (k : Nat) : Prop :=
  Below W.heap.size W wr ∧ ∃ out : List Lx.Tok, wr.ownsRow W.heap.size 180 3 v out.length ((out.map tk).flatMap cells3) ∧ out.length ≤ k ∧ left s 0 = (left s k).app out
theorem lex_rel {W w1 : World} {s : ByteArray} {v' : Value} {k m : Nat} {q : Int} {out : List Lx.Tok} (hb : Below W.heap.size W w1)
    (ho : w1.ownsRow W.heap.size 180 3 v' (out.length + 1) ((out.map tk).flatMap cells3 ++ cells3 ⟨q, s.extract k (k + m), k⟩)) (hl : out.length ≤ k) (hr : left s 0 = (left s k).app out)
    (hm : 1 ≤ m) (h : left s k = (left s (k + m)).app [⟨q, (s.data.toList.drop k).take m, k⟩]) : LexRel W w1 s v' (k + m) := by
  refine ⟨hb, out ++ [⟨q, (s.data.toList.drop k).take m, k⟩], ?_, by simp; omega, by rw [hr, h, Lx.Res.app_app]⟩
  rw [extract_tok, show k + m - k = m by omega] at ho
  simpa [tk] using ho

set_option maxRecDepth 100000 in
set_option maxHeartbeats 4000000 in
theorem lex_tokens_any (s : ByteArray) (w : World) (hs : s.size ≤ 65536) :
    Calls Tryz.prog 53 #[.string s] w (LexPost w s) := by
  have h0 : LexRel w w s (.slice none 0 0) 0 := ⟨Below.refl _ _, [], World.ownsRow_nil _ _ _ _, Nat.zero_le _, (Lx.Res.app_nil _).symm⟩
  have H0 := Lib.hid h0
  have zs : (s.size : Int) ≤ 65536 := by omega
  obtain ⟨i0, hi0, hz0, hz1, hz2⟩ := info_parts infoLexT
  clear h0
  go_enter Tryz.func53, Tryz.ntmps53
  go_wp2_with fail
  go_step3
  go_wp2_with fail
  go_step3
  go_wp2_with fail
  go_loopw [4, 5] (fun v i wr => ∃ k : Nat, k ≤ s.size ∧ i = .int .i64 k ∧ LexRel w wr s v k) (fun _ i _ => s.size - (intOf i).toNat)
  case atStart => exact ⟨0, by omega, rfl, H0.out⟩
  case round =>
    obtain ⟨k, hk, rfl, hrel⟩ := hrel
    have HR := Lib.hid hrel
    clear hrel
    by_cases hlt : k < s.size
    · have z0 : (0 : Int) ≤ k := by omega
      have z1 : (k : Int) < s.size := by omega
      go_wp2_with fail
      refine (first_at s k hlt hs _).mono ?_
      rintro e w' ⟨q, n, rfl, hst, rfl⟩
      rcases hst with ⟨rfl, hn, hkn, hl⟩ | ⟨rfl, hn, hkn, hl⟩ | ⟨rfl, hn, hkn, hl⟩ | ⟨rfl, rfl, hl⟩
      · have HL := Lib.hid hl
        have zn : (1 : Int) ≤ n := by omega
        have zk : (k : Int) + n ≤ s.size := by omega
        clear hl
        go_wp2_with fail
        go_roundw
        case rel =>
          obtain ⟨hb, out, ho, hlo, hr⟩ := HR.out
          exact ⟨k + n, by omega, by go_num, hb, out, ho, by omega, hr.trans (by rw [HL.out])⟩
        case measure => simp [intOf]; omega
      · have HL := Lib.hid hl
        have zn : (1 : Int) ≤ n := by omega
        have zk : (k : Int) + n ≤ s.size := by omega
        clear hl
        obtain ⟨hb, out, ho, hlo, hr⟩ := HR.out
        have HBB := Lib.hid hb
        have hsz2 := hb.size
        have HRR := Lib.hid hr
        clear hb hr
        go_wp2_with (at_builtin; refine wpList_append_own _ rfl _ _ 89 rfl w.heap.size 180 i0 _ 3 32 Tryz.underlying89 hi0 hz0 hz1 hz2 rfl (by omega) _ out.length _ rfl (ho.alloc _) ⟨_, 0, none⟩ 1 1 (cells3 ⟨1, s.extract k (k + n), k⟩) rfl rfl (World.news_of_block (cs := #[.int .i64 1, .string (s.extract k (k + n)), .int .i64 k]) (t := 180) (fr := (0, 0)) (heap_alloc_new _ _)) (by simp [cells3, Value.oneCell']) (by unfold maxLen; omega) (by omega) (by simp; omega) ?_; intro v' w1 hown1 hgrow1 hnil1; have HO := Lib.hid (And.intro (Below.grown (HBB.out.alloc hsz2 _) hgrow1 (by simp; omega) (own_base ho)) hown1); clear hown1 hgrow1 hnil1)
        go_roundw
        case rel => exact ⟨k + n, by omega, by go_num, lex_rel HO.out.1 HO.out.2 hlo HRR.out (by omega) HL.out⟩
        case measure => simp [intOf]; omega
      · have HL := Lib.hid hl
        have zn : (1 : Int) ≤ n := by omega
        have zk : (k : Int) + n ≤ s.size := by omega
        clear hl
        obtain ⟨hb, out, ho, hlo, hr⟩ := HR.out
        have HBB := Lib.hid hb
        have hsz2 := hb.size
        have HRR := Lib.hid hr
        clear hb hr
        go_wp2_with (at_builtin; refine wpList_append_own _ rfl _ _ 89 rfl w.heap.size 180 i0 _ 3 32 Tryz.underlying89 hi0 hz0 hz1 hz2 rfl (by omega) _ out.length _ rfl (ho.alloc _) ⟨_, 0, none⟩ 1 1 (cells3 ⟨2, s.extract k (k + n), k⟩) rfl rfl (World.news_of_block (cs := #[.int .i64 2, .string (s.extract k (k + n)), .int .i64 k]) (t := 180) (fr := (0, 0)) (heap_alloc_new _ _)) (by simp [cells3, Value.oneCell']) (by unfold maxLen; omega) (by omega) (by simp; omega) ?_; intro v' w1 hown1 hgrow1 hnil1; have HO := Lib.hid (And.intro (Below.grown (HBB.out.alloc hsz2 _) hgrow1 (by simp; omega) (own_base ho)) hown1); clear hown1 hgrow1 hnil1)
        go_roundw
        case rel => exact ⟨k + n, by omega, by go_num, lex_rel HO.out.1 HO.out.2 hlo HRR.out (by omega) HL.out⟩
        case measure => simp [intOf]; omega
      · obtain ⟨hb, out, ho, hlo, hr⟩ := HR.out
        rw [hl] at hr
        have HQ := Lib.hid hr
        have HBB := Lib.hid hb
        clear hb hr hl ho HR
        go_wp2_with fail
        refine (new_any 1 (k : Int) _).mono ?_
        rintro e w' ⟨rfl, rfl⟩
        unfold faultV
        go_wp2_with fail
        go_ret2
        refine ⟨HBB.out, ?_⟩
        rw [HQ.out]
        rfl
    · have z1 : (s.size : Int) ≤ k := by omega
      have hks : k = s.size := by omega
      obtain ⟨hb, out, ho, hlo, hr⟩ := HR.out
      rw [left_end (i := k) (by omega)] at hr
      have HQ := Lib.hid hr
      have HBB := Lib.hid hb
      have hsz2 := hb.size
      have HK := Lib.hid hks
      clear hr hb HR hks
      go_wp2_with (at_builtin; refine wpList_append_own _ rfl _ _ 89 rfl w.heap.size 180 i0 _ 3 32 Tryz.underlying89 hi0 hz0 hz1 hz2 rfl (by omega) _ out.length _ rfl (ho.alloc _) ⟨_, 0, none⟩ 1 1 (cells3 ⟨3, ⟨#[]⟩, k⟩) rfl rfl (World.news_of_block (cs := #[.int .i64 3, .string ⟨#[]⟩, .int .i64 k]) (t := 180) (fr := (0, 0)) (heap_alloc_new _ _)) (by simp [cells3, Value.oneCell']) (by unfold maxLen; omega) (by omega) (by simp; omega) ?_; intro v' w1 hown1 hgrow1 hnil1; have hB1 := Below.grown (HBB.out.alloc hsz2 _) hgrow1 (by simp; omega) (own_base ho); obtain ⟨A', c', rfl, hts⟩ := ts_of_own (ts := full out k) (n := out.length + 1) (by simp [full]) (by rw [full_cells]; exact hown1); have HT := Lib.hid hts; have HB1 := Lib.hid hB1; clear hB1 hown1 hgrow1 hnil1 hts)
      go_ret2
      refine ⟨HB1.out, ?_⟩
      rw [HQ.out]
      simp only [Lx.Res.app, List.append_nil]
      refine ⟨A', c', rfl, ?_⟩
      rw [← HK.out]
      exact HT.out
end Go.Proofs.YtppcpccjeknhdaaGreatDoor
