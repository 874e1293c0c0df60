/-
  slices.Chunk over instructions, one at a time.
-/
import Derived.Test.YtndmlbepjcagiaaDoorSeq
import Derived.BigQuiet
namespace Go.Proofs.YtndmlbepjcagiaaDoor
open Go.RowKit Go.Shelf
attribute [local go_sem] Oper.semAt_some

/-- What a round keeps: what lay below n₀, and the two boxes. -/
def KeepC (n₀ B1 B2 : Nat) (W W' : World) : Prop := Below n₀ W W' ∧ W'.heap[B1]? = W.heap[B1]? ∧ W'.heap[B2]? = W.heap[B2]?
theorem keepC_refl (n₀ B1 B2 : Nat) (W : World) : KeepC n₀ B1 B2 W W := ⟨Below.refl _ _, rfl, rfl⟩
theorem keepC_t {n₀ B1 B2 : Nat} {A B C : World} (h : KeepC n₀ B1 B2 A B) (k : KeepC n₀ B1 B2 B C) : KeepC n₀ B1 B2 A C := ⟨h.1.trans k.1, k.2.1.trans h.2.1, k.2.2.trans h.2.2⟩
theorem keepC_b {n₀ B1 B2 : Nat} {w : World} (hn : n₀ ≤ w.heap.size) (h1 : B1 < w.heap.size) (h2 : B2 < w.heap.size) (W : World) (l : Nat) (o o' : Obj) (hl : w.heap.size ≤ l) (h : W.heap[l]? = some o) (a : o.isCells = false) (b : o.isWalk = false) : KeepC n₀ B1 B2 W (W.putObj l o') :=
  ⟨belowK_b hn W l o o' hl h a b, World.putObj_heap_other (by omega), World.putObj_heap_other (by omega)⟩
theorem keepC_drew {n₀ B1 B2 : Nat} {W W' : World} (h : KeepC n₀ B1 B2 W W') : KeepC n₀ B1 B2 W W'.drew := ⟨h.1.drew, h.2.1, h.2.2⟩
theorem keepC_drewN {n₀ B1 B2 : Nat} {W W' : World} (h : KeepC n₀ B1 B2 W W') (k : Nat) : KeepC n₀ B1 B2 W (W'.drewN k) := ⟨⟨h.1.os, h.1.tape, h.1.output, h.1.size, h.1.block⟩, h.2.1, h.2.2⟩

set_option maxRecDepth 100000 in
set_option maxHeartbeats 4000000 in
theorem chunkI_in (n : Nat) (hn : 1 ≤ n) (l n₀ B1 B2 b off m cap : Nat) (hcap : m ≤ cap) (hm : m ≤ 300) (J Jx : List Nat → World → Prop)
    (hY : ∀ pre x W, J pre W → pre.length < m → x < m → YieldAt Fence.wide (n - 1) Tryd.prog l #[.slice (some ⟨b, off + x * 4, none⟩) 1 1] W fun e W' =>
      (e = .returned (.bool true) ∧ J (pre ++ [x]) W' ∧ KeepC n₀ B1 B2 W W') ∨ (e = .returned (.bool false) ∧ Jx (pre ++ [x]) W'))
    (hD : ∀ pre W k, J pre W → J pre (W.drewN k))
    (W : World) (b1 : Boxed W B1 37 (.slice (some ⟨b, off, none⟩) m cap)) (b2 : Boxed W B2 3 (.int .i64 1)) (h0 : J [] W) :
    CallsIn Fence.wide n Tryd.prog 51 #[.func (.yield l) #[] #[], .pointer (some ⟨B1, 0, none⟩), .pointer (some ⟨B2, 0, none⟩)] W fun e W' => (∃ v, e = .returned v) ∧
      ((∃ ys, ys = List.range m ∧ J ys W') ∨ (∃ pre, (∃ k, k ≤ m ∧ pre = List.range k) ∧ Jx pre W')) := by
  refine callsIn_of_wp Tryd.func51 rfl trivial ?_ rfl
  simp only [Tryd.ntmps51, List.size_toArray, List.length_cons, List.length_nil, Nat.reduceAdd, Nat.reduceSub, Array.replicate_succ, Array.replicate_zero, List.push_toArray, List.append_toArray, List.nil_append, List.cons_append]
  have q1 := b1.cell
  have q2 := b2.cell
  gi_wp2
  gi_loopw [4] (fun i wr => ∃ k : Nat, k ≤ m ∧ i = .int .i64 k ∧ J (List.range k) wr ∧ KeepC n₀ B1 B2 W wr) (fun i _ => m - (intOf i).toNat)
  case atStart => exact ⟨0, Nat.zero_le _, rfl, h0, keepC_refl _ _ _ _⟩
  case round =>
    obtain ⟨k, hk, rfl, hJs, hnx⟩ := hrel
    have r1 : Boxed wr B1 37 (.slice (some ⟨b, off, none⟩) m cap) := hnx.2.1.trans b1
    have r2 : Boxed wr B2 3 (.int .i64 1) := hnx.2.2.trans b2
    have p1 := r1.cell
    have p2 := r2.cell
    by_cases hlt : k < m
    · have hlt' : (k : Int) < m := by omega
      have hm' : (m : Int) ≤ 300 := by omega
      have hc' : (m : Int) ≤ cap := by omega
      have hkc : ¬ cap = k := by omega
      gi_wp2
      refine wpIn_wide.2 ?_
      go_quiet (fail)
      obtain ⟨fn, tmps, assign, body, hy, hR⟩ := hY _ k (wr.drewN nq) (hD _ _ _ hJs) (by simp; exact hlt) hlt
      gi_wp2
      refine hR.mono ?_
      rintro e W3 (⟨rfl, hJ3, hk3⟩ | ⟨rfl, hJx3⟩)
      · have hk4 : KeepC n₀ B1 B2 W W3 := keepC_t (keepC_drewN hnx nq) hk3
        have s2 : Boxed W3 B2 3 (.int .i64 1) := hk4.2.2.trans b2
        have s3 := s2.cell
        gi_wp2
        go_roundw
        case rel => exact ⟨k + 1, by omega, by go_num, by rw [← range_push]; exact hJ3, hk4⟩
        case measure => simp [intOf]; omega
      · gi_wp2
        refine bodyPost_ret (results_none rfl _ _ _) rfl ?_
        exact ⟨⟨_, rfl⟩, .inr ⟨_, ⟨k + 1, by omega, range_push k⟩, hJx3⟩⟩
    · obtain rfl : k = m := by omega
      gi_wp2
      go_end0
      exact ⟨⟨_, rfl⟩, .inl ⟨_, rfl, hJs⟩⟩

set_option maxRecDepth 100000 in
set_option maxHeartbeats 1000000 in
/-- .. of nothing: no round. -/
theorem chunkI_nil (n : Nat) (l B1 B2 cap : Nat) (A : Option Addr) (J : List Nat → World → Prop) (W : World) (b1 : Boxed W B1 37 (.slice A 0 cap)) (h0 : J [] W) :
    CallsIn Fence.wide n Tryd.prog 51 #[.func (.yield l) #[] #[], .pointer (some ⟨B1, 0, none⟩), .pointer (some ⟨B2, 0, none⟩)] W fun e W' => (∃ v, e = .returned v) ∧ J [] W' := by
  refine callsIn_of_wp Tryd.func51 rfl trivial ?_ rfl
  simp only [Tryd.ntmps51, List.size_toArray, List.length_cons, List.length_nil, Nat.reduceAdd, Nat.reduceSub, Array.replicate_succ, Array.replicate_zero, List.push_toArray, List.append_toArray, List.nil_append, List.cons_append]
  have q1 := b1.cell
  gi_wp2
  gi_loopw [4] (fun i wr => i = .int .i64 0 ∧ J [] wr ∧ wr = W) (fun _ _ => 0)
  case atStart => exact ⟨rfl, h0, rfl⟩
  case round =>
    obtain ⟨rfl, hJs, rfl⟩ := hrel
    gi_wp2
    go_end0
    exact ⟨⟨_, rfl⟩, hJs⟩

/-- slices.Chunk hands back a value that goes through the pieces, in order. -/
theorem chunkI_stops (n : Nat) (hn : 1 ≤ n) (n₀ B1 B2 m cap : Nat) (A : Option Addr) (hcap : m ≤ cap) (hm : m ≤ 300) (w : World) (hB1 : B1 < w.heap.size) (hB2 : B2 < w.heap.size)
    (hA : 0 < m → ∃ b off, A = some ⟨b, off, none⟩)
    (b1 : Boxed w B1 37 (.slice A m cap)) (b2 : Boxed w B2 3 (.int .i64 1)) :
    SeqStopsK Fence.wide n Tryd.prog 51 #[.pointer (some ⟨B1, 0, none⟩), .pointer (some ⟨B2, 0, none⟩)] (fun x : Fin m => #[Value.slice (A.map fun p => ⟨p.block, p.off + x.val * 4, none⟩) 1 1]) (KeepC n₀ B1 B2) (fun ys => ys.map (·.val) = List.range m) (fun _ => True) m w :=
  fun l J Jx W hW hJ _ hY h0 => by
    have c1 : Boxed W B1 _ _ := (hW.block B1 hB1).trans b1
    have c2 : Boxed W B2 _ _ := (hW.block B2 hB2).trans b2
    rcases Nat.eq_zero_or_pos m with rfl | hp
    · exact (chunkI_nil n l B1 B2 cap A (fun pre W => ∃ p : List (Fin 0), p.map (·.val) = pre ∧ J p W) W c1 ⟨[], rfl, h0⟩).mono fun e W' ⟨he, p, hp, hj⟩ => ⟨he, .inl ⟨p, by simpa using hp, hj⟩⟩
    · obtain ⟨b, off, rfl⟩ := hA hp
      refine (chunkI_in n hn l n₀ B1 B2 b off m cap hcap hm (fun pre W => ∃ p : List (Fin m), p.map (·.val) = pre ∧ J p W) (fun pre W => ∃ p : List (Fin m), p.map (·.val) = pre ∧ Jx p W) ?_ ?_ W c1 c2 ⟨[], rfl, h0⟩).mono ?_
      · rintro pre x W1 ⟨p, rfl, hj⟩ hl hx
        refine (hY p ⟨x, hx⟩ W1 hj (by simpa using hl)).mono ?_
        rintro e W2 (⟨he, hj2, hb⟩ | ⟨he, hj2⟩)
        · exact .inl ⟨he, ⟨p ++ [⟨x, hx⟩], by simp, hj2⟩, hb⟩
        · exact .inr ⟨he, ⟨p ++ [⟨x, hx⟩], by simp, hj2⟩⟩
      · rintro pre W1 k ⟨p, hp, hj⟩
        exact ⟨p, hp, hJ p W1 _ none hj ⟨rfl, rfl, rfl, Nat.le_refl _, fun _ _ _ => rfl⟩ (fun r e => by cases e)⟩
      · rintro e W1 ⟨hv, ⟨ys, rfl, p, hp, hj⟩ | ⟨pre, _, p, _, hj⟩⟩
        · exact ⟨hv, .inl ⟨p, hp, hj⟩⟩
        · exact ⟨hv, .inr ⟨p, trivial, hj⟩⟩

set_option maxHeartbeats 1000000 in
theorem chunkI_any (A : Option Addr) (m cap : Nat) (w : World) :
    Calls Tryd.prog 47 #[.slice A m cap, .int .i64 1] w fun e w' => e = .returned (.func (.func 51) #[] #[.pointer (some ⟨w.heap.size, 0, none⟩), .pointer (some ⟨w.heap.size + 1, 0, none⟩)]) ∧
      w' = (w.alloc (.cells #[.slice A m cap] 37)).alloc (.cells #[.int .i64 1] 3) := by
  go_enter Tryd.func47, Tryd.ntmps47
  go_wp2
  go_ret
  exact ⟨rfl, rfl⟩
end Go.Proofs.YtndmlbepjcagiaaDoor
