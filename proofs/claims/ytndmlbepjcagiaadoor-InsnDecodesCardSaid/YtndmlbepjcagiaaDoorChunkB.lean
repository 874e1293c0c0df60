/-
  slices.Chunk over bytes, eight at a time.
-/
import Derived.Test.YtndmlbepjcagiaaDoorChunkI
import Derived.BigQuiet
namespace Go.Proofs.YtndmlbepjcagiaaDoor
open Go.RowKit Go.Shelf
attribute [local go_sem] Oper.semAt_some

set_option maxRecDepth 100000 in
set_option maxHeartbeats 4000000 in
theorem chunkB_in (n : Nat) (hn : 1 ≤ n) (l n₀ B1 B2 b off m L cap : Nat) (hL : L = m * 8) (hcap : L ≤ cap) (hm : m ≤ 300) (J Jx : List Nat → World → Prop)
    (hY : ∀ pre x W, J pre W → pre.length < m → x < m → YieldAt Fence.wide (n - 1) Tryd.prog l #[.slice (some ⟨b, off + x * 8, none⟩) 8 8] W fun e W' =>
      (e = .returned (.bool true) ∧ J (pre ++ [x]) W' ∧ KeepC n₀ B1 B2 W W') ∨ (e = .returned (.bool false) ∧ Jx (pre ++ [x]) W'))
    (hD : ∀ pre W k, J pre W → J pre (W.drewN k))
    (W : World) (b1 : Boxed W B1 39 (.slice (some ⟨b, off, none⟩) L cap)) (b2 : Boxed W B2 3 (.int .i64 8)) (h0 : J [] W) :
    CallsIn Fence.wide n Tryd.prog 52 #[.func (.yield l) #[] #[], .pointer (some ⟨B1, 0, none⟩), .pointer (some ⟨B2, 0, none⟩)] W fun e W' => (∃ v, e = .returned v) ∧
      ((∃ ys, ys = List.range m ∧ J ys W') ∨ (∃ pre, (∃ k, k ≤ m ∧ pre = List.range k) ∧ Jx pre W')) := by
  refine callsIn_of_wp Tryd.func52 rfl trivial ?_ rfl
  simp only [Tryd.ntmps52, List.size_toArray, List.length_cons, List.length_nil, Nat.reduceAdd, Nat.reduceSub, Array.replicate_succ, Array.replicate_zero, List.push_toArray, List.append_toArray, List.nil_append, List.cons_append]
  have q1 := b1.cell
  have q2 := b2.cell
  gi_wp2
  gi_loopw [4] (fun i wr => ∃ k q : Nat, k ≤ m ∧ q = 8 * k ∧ i = .int .i64 q ∧ J (List.range k) wr ∧ KeepC n₀ B1 B2 W wr) (fun i _ => L - (intOf i).toNat)
  case atStart => exact ⟨0, 0, Nat.zero_le _, rfl, rfl, h0, keepC_refl _ _ _ _⟩
  case round =>
    obtain ⟨k, q, hk, hq, rfl, hJs, hnx⟩ := hrel
    have r1 : Boxed wr B1 39 (.slice (some ⟨b, off, none⟩) L cap) := hnx.2.1.trans b1
    have r2 : Boxed wr B2 3 (.int .i64 8) := hnx.2.2.trans b2
    have p1 := r1.cell
    have p2 := r2.cell
    by_cases hlt : k < m
    · have hlt' : (q : Int) < L := by omega
      have hm' : (L : Int) ≤ 2400 := by omega
      have hc' : (L : Int) ≤ cap := by omega
      have hkc : ¬ cap = q := by omega
      have h8 : (8 : Int) ≤ ((L - q : Nat) : Int) := by omega
      have h9 : (q : Int) + 8 ≤ L := by omega
      have HQ := Lib.hid hq
      have HL := Lib.hid hL
      clear hq hL
      gi_wp2
      refine wpIn_wide.2 ?_
      go_quiet (fail)
      obtain ⟨fn, tmps, assign, body, hy, hR⟩ := hY _ k (wr.drewN nq) (hD _ _ _ hJs) (by simp; exact hlt) hlt
      rw [show k * 8 = q by have := HQ.out; omega] at hy
      gi_wp2
      refine hR.mono ?_
      rintro e W3 (⟨rfl, hJ3, hk3⟩ | ⟨rfl, hJx3⟩)
      · have hk4 : KeepC n₀ B1 B2 W W3 := keepC_t (keepC_drewN hnx nq) hk3
        have s2 : Boxed W3 B2 3 (.int .i64 8) := hk4.2.2.trans b2
        have s3 := s2.cell
        gi_wp2
        go_roundw
        case rel => exact ⟨k + 1, q + 8, by omega, by have := HQ.out; omega, by go_num, by rw [← range_push]; exact hJ3, hk4⟩
        case measure => simp [intOf]; omega
      · gi_wp2
        refine bodyPost_ret (results_none rfl _ _ _) rfl ?_
        exact ⟨⟨_, rfl⟩, .inr ⟨_, ⟨k + 1, by omega, range_push k⟩, hJx3⟩⟩
    · obtain rfl : k = m := by omega
      obtain rfl : q = L := by omega
      gi_wp2
      go_end0
      exact ⟨⟨_, rfl⟩, .inl ⟨_, rfl, hJs⟩⟩

set_option maxRecDepth 100000 in
set_option maxHeartbeats 1000000 in
/-- .. of nothing: no round. -/
theorem chunkB_nil (n : Nat) (l B1 B2 cap : Nat) (A : Option Addr) (J : List Nat → World → Prop) (W : World) (b1 : Boxed W B1 39 (.slice A 0 cap)) (h0 : J [] W) :
    CallsIn Fence.wide n Tryd.prog 52 #[.func (.yield l) #[] #[], .pointer (some ⟨B1, 0, none⟩), .pointer (some ⟨B2, 0, none⟩)] W fun e W' => (∃ v, e = .returned v) ∧ J [] W' := by
  refine callsIn_of_wp Tryd.func52 rfl trivial ?_ rfl
  simp only [Tryd.ntmps52, List.size_toArray, List.length_cons, List.length_nil, Nat.reduceAdd, Nat.reduceSub, Array.replicate_succ, Array.replicate_zero, List.push_toArray, List.append_toArray, List.nil_append, List.cons_append]
  have q1 := b1.cell
  gi_wp2
  gi_loopw [4] (fun i wr => i = .int .i64 0 ∧ J [] wr ∧ wr = W) (fun _ _ => 0)
  case atStart => exact ⟨rfl, h0, rfl⟩
  case round =>
    obtain ⟨rfl, hJs, rfl⟩ := hrel
    gi_wp2
    go_end0
    exact ⟨⟨_, rfl⟩, hJs⟩

/-- slices.Chunk hands back a value that goes through the pieces, in order. -/
theorem chunkB_stops (n : Nat) (hn : 1 ≤ n) (n₀ B1 B2 m L cap : Nat) (A : Option Addr) (hL : L = m * 8) (hcap : L ≤ cap) (hm : m ≤ 300) (w : World) (hB1 : B1 < w.heap.size) (hB2 : B2 < w.heap.size)
    (hA : 0 < m → ∃ b off, A = some ⟨b, off, none⟩)
    (b1 : Boxed w B1 39 (.slice A L cap)) (b2 : Boxed w B2 3 (.int .i64 8)) :
    SeqStopsK Fence.wide n Tryd.prog 52 #[.pointer (some ⟨B1, 0, none⟩), .pointer (some ⟨B2, 0, none⟩)] (fun x : Fin m => #[Value.slice (A.map fun p => ⟨p.block, p.off + x.val * 8, none⟩) 8 8]) (KeepC n₀ B1 B2) (fun ys => ys.map (·.val) = List.range m) (fun _ => True) m w :=
  fun l J Jx W hW hJ _ hY h0 => by
    have c1 : Boxed W B1 _ _ := (hW.block B1 hB1).trans b1
    have c2 : Boxed W B2 _ _ := (hW.block B2 hB2).trans b2
    rcases Nat.eq_zero_or_pos m with rfl | hp
    · obtain rfl : L = 0 := by omega
      exact (chunkB_nil n l B1 B2 cap A (fun pre W => ∃ p : List (Fin 0), p.map (·.val) = pre ∧ J p W) W c1 ⟨[], rfl, h0⟩).mono fun e W' ⟨he, p, hp, hj⟩ => ⟨he, .inl ⟨p, by simpa using hp, hj⟩⟩
    · obtain ⟨b, off, rfl⟩ := hA hp
      refine (chunkB_in n hn l n₀ B1 B2 b off m L cap hL hcap hm (fun pre W => ∃ p : List (Fin m), p.map (·.val) = pre ∧ J p W) (fun pre W => ∃ p : List (Fin m), p.map (·.val) = pre ∧ Jx p W) ?_ ?_ W c1 c2 ⟨[], rfl, h0⟩).mono ?_
      · rintro pre x W1 ⟨p, rfl, hj⟩ hl hx
        refine (hY p ⟨x, hx⟩ W1 hj (by simpa using hl)).mono ?_
        rintro e W2 (⟨he, hj2, hb⟩ | ⟨he, hj2⟩)
        · exact .inl ⟨he, ⟨p ++ [⟨x, hx⟩], by simp, hj2⟩, hb⟩
        · exact .inr ⟨he, ⟨p ++ [⟨x, hx⟩], by simp, hj2⟩⟩
      · rintro pre W1 k ⟨p, hp, hj⟩
        exact ⟨p, hp, hJ p W1 _ none hj ⟨rfl, rfl, rfl, Nat.le_refl _, fun _ _ _ => rfl⟩ (fun r e => by cases e)⟩
      · rintro e W1 ⟨hv, ⟨ys, rfl, p, hp, hj⟩ | ⟨pre, _, p, _, hj⟩⟩
        · exact ⟨hv, .inl ⟨p, hp, hj⟩⟩
        · exact ⟨hv, .inr ⟨p, trivial, hj⟩⟩

set_option maxHeartbeats 1000000 in
theorem chunkB_any (A : Option Addr) (m cap : Nat) (w : World) :
    Calls Tryd.prog 49 #[.slice A m cap, .int .i64 8] w fun e w' => e = .returned (.func (.func 52) #[] #[.pointer (some ⟨w.heap.size, 0, none⟩), .pointer (some ⟨w.heap.size + 1, 0, none⟩)]) ∧
      w' = (w.alloc (.cells #[.slice A m cap] 39)).alloc (.cells #[.int .i64 8] 3) := by
  go_enter Tryd.func49, Tryd.ntmps49
  go_wp2
  go_ret
  exact ⟨rfl, rfl⟩
end Go.Proofs.YtndmlbepjcagiaaDoor
