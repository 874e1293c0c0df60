/-
  pids.candidates, its iterator.
-/
import Derived.Test.YtjbhliabmaipbaaPiG
import Derived.RangeFuncWrites
namespace Go.Proofs.Ytjbhliabmaipbaa
open Go.RowKit Go.Shelf
attribute [local go_sem] Oper.semAt_some
set_option linter.unusedVariables false
set_option linter.unusedSimpArgs false

theorem cands_any (a : Int) (w : World) :
    Calls Try.prog 21 #[.int .i64 a] w fun e w' => ∃ g, e = .returned (.func (.func 29) #[] #[.pointer (some ⟨g, 0, none⟩)]) ∧ Boxed w' g 3 (.int .i64 a) ∧ w.heap.size ≤ g ∧ Below w.heap.size w w' := by
  have k0 := Boxed.new w 3 (.int .i64 a)
  have B0 := (Below.refl w.heap.size w).alloc (Nat.le_refl _) (.cells #[.int .i64 a] 3)
  go_enter Try.func21, Try.ntmps21
  go_wp2
  go_ret
  exact ⟨_, rfl, k0, Nat.le_refl _, B0⟩
set_option maxRecDepth 100000 in
set_option maxHeartbeats 2000000 in
theorem cands_seq (n : Nat) (hn : 1 ≤ n) (n₀ g a : Nat) (ha : a ≤ 20) (w : World) (hg : Boxed w g 3 (.int .i64 (a : Int))) (hgn : g < n₀) (hn₀ : n₀ ≤ w.heap.size) :
    SeqStopsK Fence.wide n Try.prog 29 #[.pointer (some ⟨g, 0, none⟩)] (fun x : Fin 20 => #[.int .i64 ((cand a x.val : Nat) : Int)]) (Below n₀) (fun xs => xs.map (·.val) = List.range 20) (fun pre => ∃ k, k < 20 ∧ pre.map (·.val) = List.range (k + 1)) 20 w := by
  intro lp J Jx W hW hJ hJx hY h0
  have hgW := boxed_below hg hW (by omega)
  have hnW : n₀ ≤ W.heap.size := Nat.le_trans hn₀ hW.size
  refine callsIn_of_wp Try.func29 rfl trivial ?_ rfl
  simp only [Try.ntmps29, List.size_toArray, List.length_cons, List.length_nil, Nat.reduceAdd, Nat.reduceSub, Array.replicate_succ, Array.replicate_zero, List.push_toArray, List.append_toArray, List.nil_append, List.cons_append]
  gi_wp2
  gi_loopw [4] (fun i wr => ∃ (k : Nat) (pre : List (Fin 20)), k ≤ 20 ∧ i = .int .i64 k ∧ pre.map (·.val) = List.range k ∧ J pre wr ∧ Below n₀ W wr) (fun i _ => 20 - (intOf i).toNat)
  case atStart => exact ⟨0, [], Nat.zero_le _, rfl, rfl, h0, Below.refl _ _⟩
  case round =>
    obtain ⟨k, pre, hk, rfl, hpm, hJs, hB⟩ := hrel
    by_cases hlt : k < 20
    · have hlt' : (k : Int) < 20 := by omega
      have hlen : pre.length < 20 := by
        have := congrArg List.length hpm
        simp at this; omega
      have hmap : (pre ++ [(⟨k, hlt⟩ : Fin 20)]).map (·.val) = List.range (k + 1) := by rw [List.map_append, hpm, ← rangeF_push]; rfl
      have HMP := Lib.hid hmap
      clear hmap hpm
      obtain ⟨fn, tmps, assign, body, hy, hRd⟩ := hY pre ⟨k, hlt⟩ wr hJs hlen
      simp only at hy
      have hc := (boxed_below hgW hB hgn).cell
      have ec : ((cand a k : Nat) : Int) = ((a : Int) + (k : Int)) % 20 + 1 := by unfold cand; omega
      rw [ec] at hy
      clear ec
      gi_wp2
      refine hRd.mono ?_
      rintro e W3 h3
      rcases h3 with ⟨rfl, hJ3, hb3⟩ | ⟨rfl, hJx3⟩
      · gi_wp2
        exact ⟨⟨k + 1, pre ++ [⟨k, hlt⟩], by omega, by go_num, HMP.out, hJ3, hB.trans hb3⟩, by simp [intOf]; omega⟩
      · gi_wp2
        refine bodyPost_ret (results_none rfl _ _ _) rfl ?_
        exact ⟨⟨_, rfl⟩, .inr ⟨_, ⟨k, hlt, HMP.out⟩, hJx3⟩⟩
    · obtain rfl : k = 20 := by omega
      gi_wp2
      go_end0
      exact ⟨⟨_, rfl⟩, .inl ⟨pre, hpm, hJs⟩⟩
end Go.Proofs.Ytjbhliabmaipbaa
