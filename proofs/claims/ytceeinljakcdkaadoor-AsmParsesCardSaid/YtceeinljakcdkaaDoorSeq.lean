/-
  insn.Codes: the function over which one ranges hands over the table's codes and names, row by row.
-/
import Derived.Test.YtceeinljakcdkaaDoorKinds
import Derived.RangeFuncNested
import Derived.RangeFuncBound
import Derived.RangeFuncCalls
import Derived.RangeFuncLeaves
import Derived.Shelf.Abstract
import Derived.Shelf.RegionOpen
import Derived.OwnWalkIn
import Derived.TacticsInMore
import Derived.LoopNIn
import Derived.LoopIn
namespace Go.Proofs.YtceeinljakcdkaaDoor
open Go.RowKit Go.Shelf
attribute [local go_sem] Oper.semAt_some

theorem range_push (k : Nat) : List.range k ++ [k] = List.range (k + 1) := (List.range_succ).symm

theorem seq_two {e : Ending} {P Q : Prop} (h : (e = .returned (.bool true) ∧ P) ∨ (e = .returned (.bool false) ∧ Q)) : ∃ g : Bool, e = .returned (.bool g) ∧ ((g = true ∧ P) ∨ (g = false ∧ Q)) := by
  rcases h with ⟨e, p⟩ | ⟨e, q⟩
  · exact ⟨true, e, .inl ⟨rfl, p⟩⟩
  · exact ⟨false, e, .inr ⟨rfl, q⟩⟩

set_option maxRecDepth 100000 in
set_option maxHeartbeats 2000000 in
theorem seq_in (n : Nat) (hn : 1 ≤ n) (l n₀ : Nat) (h0n : 0 < n₀) (J Jx : List Nat → World → Prop)
    (hY : ∀ pre x W, J pre W → pre.length < 41 → x < 41 → YieldAt Fence.wide (n - 1) Tryd.prog l #[.int .u16 (kC x), .string (kN x)] W fun e W' =>
      (e = .returned (.bool true) ∧ J (pre ++ [x]) W' ∧ Below n₀ W W') ∨ (e = .returned (.bool false) ∧ Jx (pre ++ [x]) W'))
    (hD : ∀ pre W, J pre W → J pre W.drew)
    (W : World) (hK : Kinds W) (h0 : J [] W) :
    CallsIn Fence.wide n Tryd.prog 65 #[.func (.yield l) #[] #[]] W fun e W' => (∃ v, e = .returned v) ∧
      ((∃ ys, ys = List.range 41 ∧ J ys W') ∨ (∃ pre, (∃ k, k ≤ 41 ∧ pre = List.range k) ∧ Jx pre W')) := by
  refine callsIn_of_wp Tryd.func65 rfl trivial ?_ rfl
  simp only [Tryd.ntmps65, List.size_toArray, List.length_cons, List.length_nil, Nat.reduceAdd, Nat.reduceSub, Array.replicate_succ, Array.replicate_zero, List.push_toArray, List.append_toArray, List.nil_append, List.cons_append]
  gi_wp2
  gi_loopw [3] (fun i wr => ∃ k : Nat, k ≤ 41 ∧ i = .int .i64 k ∧ J (List.range k) wr ∧ Below n₀ W wr)
    (fun i _ => 41 - (intOf i).toNat)
  case atStart => exact ⟨0, Nat.zero_le _, rfl, h0, Below.refl _ _⟩
  case round =>
    obtain ⟨k, hk, rfl, hJs, hnx⟩ := hrel
    by_cases hlt : k < 41
    · obtain ⟨c1, c2, _⟩ := (hK.below hnx h0n).drew k hlt
      obtain ⟨fn, tmps, assign, body, hy, hR⟩ := hY _ k wr.drew (hD _ _ hJs) (by simp; exact hlt) hlt
      have hlt' : (k : Int) < 41 := by omega
      gi_wp2
      gi_region_with (refine hR.mono ?_; intro e W3 h3; obtain ⟨g, rfl, hg⟩ := seq_two h3; clear h3)
      all_goals (rcases hg with ⟨rfl, hJ3, hk3⟩ | ⟨rfl, h4⟩)
      all_goals gi_wp2
      all_goals (try (refine bodyPost_ret (results_none rfl _ _ _) rfl ?_; exact ⟨⟨_, rfl⟩, .inr ⟨_, ⟨k + 1, by omega, range_push k⟩, h4⟩⟩))
      all_goals exact ⟨⟨k + 1, by omega, by go_num, by rw [← range_push]; exact hJ3, hnx.drew.trans hk3⟩, by simp [intOf]; omega⟩
    · obtain rfl : k = 41 := by omega
      gi_wp2
      go_end0
      exact ⟨⟨_, rfl⟩, .inl ⟨_, rfl, hJs⟩⟩

/-- insn.Codes hands back a value that goes through the table's rows. -/
theorem seq_stops (n : Nat) (hn : 1 ≤ n) (n₀ : Nat) (h0n : 0 < n₀) (w : World) (hn₀ : n₀ ≤ w.heap.size) (hK : Kinds w) :
    SeqStopsK Fence.wide n Tryd.prog 65 #[] (fun x : Nat => #[Value.int .u16 (kC x), Value.string (kN x)]) (Below n₀) (fun ys => ys = List.range 41) (fun pre => ∃ k, k ≤ 41 ∧ pre = List.range k) 41 w :=
  fun l J Jx W hW hJ _ hY h0 =>
    seq_in n hn l n₀ h0n J Jx (fun pre x W1 h1 h2 _ => hY pre x W1 h1 h2) (fun pre W1 h => hJ pre W1 _ none h ⟨rfl, rfl, rfl, Nat.le_refl _, fun _ _ _ => rfl⟩ (fun r e => by cases e)) W (hK.below (hW.mono hn₀) h0n) h0
/-- .. where the rounds may know that what they are handed is one of the table's rows. -/
theorem seq_stops41 (n : Nat) (hn : 1 ≤ n) (n₀ : Nat) (h0n : 0 < n₀) (w : World) (hn₀ : n₀ ≤ w.heap.size) (hK : Kinds w) :
    SeqStopsK Fence.wide n Tryd.prog 65 #[] (fun x : Fin 41 => #[Value.int .u16 (kC x), Value.string (kN x)]) (Below n₀) (fun ys => ys.map (·.val) = List.range 41) (fun _ => True) 41 w :=
  fun l J Jx W hW hJ _ hY h0 => by
    refine (seq_in n hn l n₀ h0n (fun pre W => ∃ p : List (Fin 41), p.map (·.val) = pre ∧ J p W) (fun pre W => ∃ p : List (Fin 41), p.map (·.val) = pre ∧ Jx p W) ?_ ?_ W (hK.below (hW.mono hn₀) h0n) ⟨[], rfl, h0⟩).mono ?_
    · rintro pre x W1 ⟨p, rfl, hj⟩ hl hx
      refine (hY p ⟨x, hx⟩ W1 hj (by simpa using hl)).mono ?_
      rintro e W2 (⟨he, hj2, hb⟩ | ⟨he, hj2⟩)
      · exact .inl ⟨he, ⟨p ++ [⟨x, hx⟩], by simp, hj2⟩, hb⟩
      · exact .inr ⟨he, ⟨p ++ [⟨x, hx⟩], by simp, hj2⟩⟩
    · rintro pre W1 ⟨p, hp, hj⟩
      exact ⟨p, hp, hJ p W1 _ none hj ⟨rfl, rfl, rfl, Nat.le_refl _, fun _ _ _ => rfl⟩ (fun r e => by cases e)⟩
    · rintro e W1 ⟨hv, ⟨ys, rfl, p, hp, hj⟩ | ⟨pre, _, p, _, hj⟩⟩
      · exact ⟨hv, .inl ⟨p, hp, hj⟩⟩
      · exact ⟨hv, .inr ⟨p, trivial, hj⟩⟩
end Go.Proofs.YtceeinljakcdkaaDoor
