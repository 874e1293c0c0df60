/-
  insn.Name, insn.Code: the name of a code, the code of a name, as the table has them.
-/
import Derived.Test.YtceeinljakcdkaaDoorName1
namespace Go.Proofs.YtceeinljakcdkaaDoor
open Go.RowKit Go.Shelf
attribute [local go_sem] Oper.semAt_some

set_option maxRecDepth 100000 in
set_option maxHeartbeats 4000000 in
theorem code_in (s : ByteArray) (w : World) (hK : Kinds w) :
    CallsIn Fence.wide 6 Tryd.prog 41 #[.string s] w fun e w' => e = .returned (.tuple #[.int .u16 (codeOf s).1, .bool (codeOf s).2]) ∧ Below w.heap.size w w' := by
  refine callsIn_of_wp_marks Tryd.func41 rfl trivial ?_ rfl
  simp only [Tryd.ntmps41, List.size_toArray, List.length_cons, List.length_nil, Nat.reduceAdd, Nat.reduceSub, Array.replicate_succ, Array.replicate_zero, List.push_toArray, List.append_toArray, List.nil_append, List.cons_append]
  gi_wp2_with (refine ⟨trivial, ?_⟩; gi_at_call 53; refine (codes_in _ _).mono ?_; rintro e w' ⟨rfl, rfl⟩)
  have b0 := Boxed.new w 9 (.string s)
  have b1 := Boxed.new (w.alloc (.cells #[.string s] 9)) 29 (.int .u16 0)
  have b2 := Boxed.new ((w.alloc (.cells #[.string s] 9)).alloc (.cells #[.int .u16 0] 29)) 4 (.bool false)
  simp only [World.size_alloc] at b1 b2
  have hB0 : Below w.heap.size w (((w.alloc (.cells #[.string s] 9)).alloc (.cells #[.int .u16 0] 29)).alloc (.cells #[.bool false] 4)) :=
    (((Below.refl _ w).alloc (Nat.le_refl _) _).alloc (by simp) _).alloc (by simp; omega) _
  have hpos := hK.pos
  refine wpIn_rangeFunc_ownG rfl (by omega) (gf := 65) (lb := #[]) rfl trivial (enters_of Tryd.func65 (by kernel_rfl) rfl)
    (seq_stops 5 (by omega) w.heap.size hpos _ hB0.size (hK.below hB0 hpos)) belowK_t (belowK_b hB0.size) (Below.refl _ _) (fun _ => rfl)
    (fun pre W => ((∀ i ∈ pre, ((kN i).toList == s.toList) = false) ∧ W.cell? ⟨w.heap.size, 0, none⟩ = some (.string s) ∧ W.cell? ⟨w.heap.size + 1, 0, none⟩ = some (.int .u16 0) ∧ W.frozen? ⟨w.heap.size + 1, 0, none⟩ = false ∧
      W.cell? ⟨w.heap.size + 1 + 1, 0, none⟩ = some (.bool false) ∧ W.frozen? ⟨w.heap.size + 1 + 1, 0, none⟩ = false) ∧ Below w.heap.size w W)
    (fun cd pre W => (cd = .ret ∧ ∃ ini last, pre = ini ++ [last] ∧ (∀ i ∈ ini, ((kN i).toList == s.toList) = false) ∧ ((kN last).toList == s.toList) = true ∧ W.cell? ⟨w.heap.size + 1, 0, none⟩ = some (.int .u16 (kC last)) ∧ W.cell? ⟨w.heap.size + 1 + 1, 0, none⟩ = some (.bool true)) ∧ Below w.heap.size w W)
    (OwnFrom.and (Own.from (fun s' A B row hs hg hr => ⟨hs.1, cell_kept hs.2.1 hg hr, cell_kept hs.2.2.1 hg hr, (frozen_kept hs.2.2.1 hg hr).trans hs.2.2.2.1, cell_kept hs.2.2.2.2.1 hg hr, (frozen_kept hs.2.2.2.2.1 hg hr).trans hs.2.2.2.2.2⟩) _) (ownFrom_below (Nat.le_refl _) hB0.size))
    (fun cd => OwnFrom.and (Own.from (fun s' A B row hs hg hr => by obtain ⟨hc, ini, last, e1, e2, e3, e4, e5⟩ := hs; exact ⟨hc, ini, last, e1, e2, e3, cell_kept e4 hg hr, cell_kept e5 hg hr⟩) _) (ownFrom_below (Nat.le_refl _) hB0.size))
    ⟨⟨by simp, ((b0.alloc _).alloc _).cell, (b1.alloc _).cell, (b1.alloc _).frozen, b2.cell, b2.frozen⟩, hB0⟩
    (fun x => { tmps := #[.string s, .pointer (some ⟨w.heap.size, 0, none⟩), .pointer (some ⟨w.heap.size + 1, 0, none⟩), .pointer (some ⟨w.heap.size + 1 + 1, 0, none⟩), .int .u16 (kC x), .string (kN x), .func (.func 65) #[] #[], .int .u16 (kC x), .string (kN x), undef, undef, undef, undef], defers := [] }) ?assign ?body ?done ?stop
  case assign =>
    intro l x W K hK
    gi_wp2
    exact hK
  case body =>
    rintro l pre x W ⟨⟨hp, hc0, hc1, hf1, hc2, hf2⟩, hB⟩ _
    cases hx : ((kN x).toList == s.toList)
    · gi_wp2
      exact ⟨KeepsFrom.refl _ _, Below.refl _ _, ⟨fun i hi => (List.mem_append.1 hi).elim (hp i) (fun e => by simp at e; subst e; exact hx), hc0, hc1, hf1, hc2, hf2⟩, hB⟩
    · gi_wp2
      obtain ⟨q1, q2⟩ := set_two (.int .u16 (kC x)) (.bool true) (by omega) hc1 hc2
      exact ⟨keeps_two _ _ _ _ _ _, ⟨rfl, pre, x, rfl, hp, hx, q1, q2⟩, below_two hB (by omega) (by omega) _ _⟩
  case done =>
    rintro D ys W hD rfl ⟨⟨hne, hc0, hc1, hf1, hc2, hf2⟩, hB⟩ hK
    gi_wp2
    obtain ⟨q1, q2⟩ := set_two (.int .u16 0) (.bool false) (by omega : w.heap.size + 1 ≠ w.heap.size + 1 + 1) hc1 hc2
    have hK' := two_same (p := ⟨w.heap.size + 1, 0, none⟩) (q := ⟨w.heap.size + 1 + 1, 0, none⟩) (u := .int .u16 0) (v := .bool false) hK
    obtain ⟨r1, r2⟩ := kept_two hK' q1 q2
    have hn : codeOf s = (0, false) := by simp only [codeOf, rowN, find_none hne]
    refine ⟨by simp, .inl ⟨_, _, rfl, run_takeDeferred hK', ?_⟩⟩
    refine ⟨.tuple #[.int .u16 0, .bool false], ?_, by rw [hn], (below_two hB (by omega) (by omega) _ _).trans (belowK_b (w := w) (Nat.le_refl _) _ D _ _ (by simp at hD; omega) hK' rfl rfl)⟩
    simp [results, Tryd.f41, go_sem, r1, r2]
  case stop =>
    rintro D cd pre W hD ⟨k, hk, rfl⟩ ⟨⟨rfl, ini, last, e1, e2, e3, hc1, hc2⟩, hB⟩ hK
    gi_wp2
    obtain ⟨r1, r2⟩ := kept_two hK hc1 hc2
    have hn : codeOf s = (kC last, true) := by simp only [codeOf, rowN, find_first hk e1 e2 e3]
    refine ⟨by simp, .inl ⟨_, _, rfl, run_takeDeferred hK, ?_⟩⟩
    refine ⟨.tuple #[.int .u16 (kC last), .bool true], ?_, by rw [hn], hB.trans (belowK_b (w := w) (Nat.le_refl _) W D _ _ (by simp at hD; omega) hK rfl rfl)⟩
    simp [results, Tryd.f41, go_sem, r1, r2]

/-- Code. -/
theorem code_any (s : ByteArray) (w : World) (hK : Kinds w) :
    Calls Tryd.prog 41 #[.string s] w fun e w' => e = .returned (.tuple #[.int .u16 (codeOf s).1, .bool (codeOf s).2]) ∧ Below w.heap.size w w' := callsIn_wide.1 (code_in s w hK)
end Go.Proofs.YtceeinljakcdkaaDoor
