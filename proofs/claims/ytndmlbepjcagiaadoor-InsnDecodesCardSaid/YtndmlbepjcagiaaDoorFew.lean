/-
  few: a row of instructions in memory of its own; slices.Equal on instructions.
-/
import Derived.Test.YtndmlbepjcagiaaDoorAll
import Derived.Test.YtndmlbepjcagiaaDoorIMath
import Derived.Lib.Hide
namespace Go.Proofs.YtndmlbepjcagiaaDoor
open Go.RowKit

theorem cel_flat_len (f : Nat → Ins) (m : Nat) : ((List.range m).flatMap fun k => celI (f k)).length = m * 4 := by
  induction m with
  | zero => rfl
  | succ m ih => rw [List.range_succ, List.flatMap_append, List.length_append, ih]; simp [celI]; omega
theorem cel_flat_get (f : Nat → Ins) (m k : Nat) (hk : k < m) : ((List.range m).flatMap fun k => celI (f k))[k * 4]? = some (.int .u16 (f k).1) ∧ ((List.range m).flatMap fun k => celI (f k))[k * 4 + 1]? = some (.int .u8 (f k).2.1) ∧
    ((List.range m).flatMap fun k => celI (f k))[k * 4 + 2]? = some (.int .u8 (f k).2.2.1) ∧ ((List.range m).flatMap fun k => celI (f k))[k * 4 + 3]? = some (.int .u32 (f k).2.2.2) := by
  induction m with
  | zero => omega
  | succ m ih =>
    have hl := cel_flat_len f m
    rw [List.range_succ, List.flatMap_append]
    rcases Nat.lt_or_ge k m with h | h
    · obtain ⟨a, b, c, d⟩ := ih h
      rw [List.getElem?_append_left (by omega), List.getElem?_append_left (by omega), List.getElem?_append_left (by omega), List.getElem?_append_left (by omega)]
      exact ⟨a, b, c, d⟩
    · obtain rfl : k = m := by omega
      rw [List.getElem?_append_right (by omega), List.getElem?_append_right (by omega), List.getElem?_append_right (by omega), List.getElem?_append_right (by omega), hl]
      simp [celI]
/-- The call's own instructions, as they are read. -/
theorem ri_of_own {w : World} {base m c : Nat} {A : Option Addr} {f : Nat → Ins} (h : w.ownsRow base 48 4 (.slice A m c) m ((List.range m).flatMap fun k => celI (f k))) (hf : ∀ k, k < m → insO (f k)) : Ri w w.heap.size A m f ∧ m ≤ c := by
  refine ⟨fun k hk => ?_, ?_⟩
  · obtain ⟨g, c', hv, hg, hcs⟩ := own_head h (by omega)
    injection hv with hA _ _
    obtain ⟨a, b, cc, d⟩ := cel_flat_get f m k hk
    refine ⟨g, 0, hA, hg, ⟨?_, ?_, ?_, ?_⟩, hf k hk⟩
    · rw [Nat.zero_add]; exact hcs _ _ a
    · rw [Nat.zero_add]; exact hcs _ _ b
    · rw [Nat.zero_add]; exact hcs _ _ cc
    · rw [Nat.zero_add]; exact hcs _ _ d
  · rcases h.2 with ⟨hv, h0⟩ | ⟨g, cap, cur, hv, _, _, hnc, _⟩
    · omega
    · injection hv with _ _ h3
      omega

/-- Appending what came in to an empty slice of the call's own. -/
theorem run_few {w : World} (ty : TypeId) (g : Nat) (hg : w.heap[g]? = some (.cells #[] 48 (0, 0))) (A : Option Addr) (B m c : Nat) (f : Nat → Ins) (hA : Ri w B A m f) (hm : m ≤ 300) :
    ∃ A'' c'' w', (Builtin.append_ #[37, 37] ty #[.slice (some ⟨g, 0, none⟩) 0 0, .slice A m c]).run Tryd.prog w = .ok (.slice A'' m c'') w' ∧ w'.ownsRow g 48 4 (.slice A'' m c'') m ((List.range m).flatMap fun k => celI (f k)) ∧ Below g w w' := by
  obtain ⟨i, hi, hz, hs1, hb1⟩ := info_parts insn_info
  have hown : w.ownsRow g 48 4 (.slice (some ⟨g, 0, none⟩) 0 0) 0 [] := ⟨rfl, .inr ⟨g, 0, #[], rfl, Nat.le_refl _, hg, Nat.le_refl _, by simp [maxLen], rfl, rfl⟩⟩
  have hlt : g < w.heap.size := (Array.getElem?_eq_some_iff.1 hg).1
  rcases Nat.eq_zero_or_pos m with rfl | hp
  · refine ⟨some ⟨g, 0, none⟩, 0, w, ?_, hown, Below.refl _ _⟩
    cases A <;> simp [Builtin.append_, run_underlying Tryd.underlying37, sizeOf, typeInfo, hi, Builtin.lenOf, Builtin.firstCells, storeCells, loadCells, loadCellsFrom]
  · obtain ⟨b, off, rfl, _⟩ := hA 0 hp
    have hcell : ∀ j u, ((List.range m).flatMap fun k => celI (f k))[j]? = some u → w.cell? ((⟨b, off, none⟩ : Addr).add j) = some u := by
      intro j u hj
      have hl := cel_flat_len f m
      have hjl : j < m * 4 := by
        rcases Nat.lt_or_ge j (m * 4) with h | h
        · exact h
        · rw [List.getElem?_eq_none (by omega)] at hj; cases hj
      have ea : (⟨b, off, none⟩ : Addr).add j = ⟨b, off + j, none⟩ := by
        unfold Addr.add
        by_cases h0 : j = 0 <;> simp [h0]
      obtain ⟨b', off', e, _, ⟨c0, c1, c2, c3⟩, _⟩ := hA (j / 4) (by omega)
      cases e
      obtain ⟨a0, a1, a2, a3⟩ := cel_flat_get f m (j / 4) (by omega)
      rw [ea]
      have hd : j = j / 4 * 4 ∨ j = j / 4 * 4 + 1 ∨ j = j / 4 * 4 + 2 ∨ j = j / 4 * 4 + 3 := by omega
      rcases hd with h | h | h | h
      · rw [h, a0] at hj; rw [h, ← hj]; exact c0
      · rw [h, a1] at hj; rw [h, ← hj, ← Nat.add_assoc]; exact c1
      · rw [h, a2] at hj; rw [h, ← hj, ← Nat.add_assoc]; exact c2
      · rw [h, a3] at hj; rw [h, ← hj, ← Nat.add_assoc]; exact c3
    obtain ⟨v', w', hrun, h2, h3, _, _⟩ := run_append_own_at (P := Tryd.prog) w g 37 ty 48 i _ 4 8 Tryd.underlying37 hi hz hs1 hb1 rfl (by decide) _ 0 [] hown ⟨b, off, none⟩ m c ((List.range m).flatMap fun k => celI (f k)) (cel_flat_len f m) hcell
      (by intro u hu; obtain ⟨k, _, hk⟩ := List.mem_flatMap.1 hu; exact cel_one _ u hk) (by simp only [maxLen]; omega) (by omega) (Nat.le_of_lt hlt)
    rw [Nat.zero_add] at h2
    obtain ⟨A'', c'', rfl⟩ := own_slice h2
    exact ⟨A'', c'', w', hrun, by simpa using h2, (Below.refl _ _).grown h3 (Nat.le_of_lt hlt) fun k hk => (hown.lt k hk).1⟩
theorem wpList_few {w : World} {ops : Array Oper} {rest : List Oper} {o : Oper} {a : Act} {Q : Exit → Act → World → Prop} (hgd : o.guard = none) (s x : Operand)
    (ho : o.op = .call { callee := .builtin .append, args := #[s, x], argTypes := #[37, 37] })
    (g : Nat) (hs : a.eval s = .slice (some ⟨g, 0, none⟩) 0 0) (hg : w.heap[g]? = some (.cells #[] 48 (0, 0))) (A : Option Addr) (B m c : Nat) (f : Nat → Ins) (hx : a.eval x = .slice A m c) (hA : Ri w B A m f) (hm : m ≤ 300)
    (h : ∀ A'' c'' w', w'.ownsRow g 48 4 (.slice A'' m c'') m ((List.range m).flatMap fun k => celI (f k)) → Below g w w' → wpList Tryd.prog ops Q rest (a.put o.dst (.slice A'' m c'')) w') :
    wpList Tryd.prog ops Q (o :: rest) a w := by
  refine wpList_plain hgd fun K hK => ?_
  obtain ⟨A'', c'', w', hrun, h1, h2⟩ := run_few o.type g hg A B m c f hA hm
  unfold Oper.wp execOp
  simp only [ho, resolve, invoke, builtin, Sem.run_bind, Sem.run_pure, Result.andThen_ok, List.map_toArray, List.map_cons, List.map_nil, hs, hx, hrun]
  exact hK _ _ (h A'' c'' w' h1 h2)

theorem Ri.short {w : World} {B n m : Nat} {A : Option Addr} {f : Nat → Ins} (h : Ri w B A n f) (hm : m ≤ n) : Ri w B A m f := fun k hk => h k (by omega)

set_option maxRecDepth 100000 in
set_option maxHeartbeats 1000000 in
theorem few_any (A : Option Addr) (n c : Nat) (f : Nat → Ins) (w : World) (hA : Ri w w.heap.size A n f) (hc : n ≤ c) (m : Nat) (hm : m = min n 256) :
    Calls Tryd.prog 17 #[.slice A n c] w fun e w' => ∃ A' c', e = .returned (.slice A' m c') ∧ w'.ownsRow w.heap.size 48 4 (.slice A' m c') m ((List.range m).flatMap fun k => celI (f k)) ∧ Below w.heap.size w w' := by
  have hb := (Below.refl w.heap.size w).alloc (Nat.le_refl _) (.cells #[] 48)
  have hA1 := (hA.short (m := m) (by omega)).below hb (Nat.le_refl _)
  have hg := heap_alloc_new w (.cells #[] 48)
  have h300 : m ≤ 300 := by omega
  rcases Nat.lt_or_ge 256 n with h | h
  · have h' : (256 : Int) < n := by omega
    have hx := Lib.hid (show (Value.slice A 256 c) = .slice A m c by rw [show m = 256 by omega])
    clear hm
    go_enter Tryd.func17, Tryd.ntmps17
    go_wp2_with (at_builtin; refine wpList_few rfl (.tmp 3) (.tmp 8) rfl w.heap.size rfl hg A w.heap.size m c f (Eq.trans rfl hx.out) hA1 h300 ?_; intro A2 c2 w2 ho hb2)
    go_ret
    exact ⟨A2, c2, rfl, ho, hb.trans hb2⟩
  · obtain rfl : m = n := by omega
    have h' : (m : Int) ≤ 256 := by omega
    clear hm
    go_enter Tryd.func17, Tryd.ntmps17
    go_wp2_with (at_builtin; with_reducible refine wpList_few rfl (.tmp 3) (.tmp 8) rfl w.heap.size rfl hg A w.heap.size m c f rfl hA1 h300 ?_; intro A2 c2 w2 ho hb2)
    go_ret
    exact ⟨A2, c2, rfl, ho, hb.trans hb2⟩

set_option maxHeartbeats 1000000 in
theorem seq_true (A A' : Option Addr) (n c c' B B' : Nat) (f f' : Nat → Ins) (w : World) (h : Ri w B A n f) (h' : Ri w B' A' n f') (hff : ∀ k, k < n → f' k = f k) (hn : n ≤ 300) :
    Calls Tryd.prog 30 #[.slice A n c, .slice A' n c'] w fun e w' => e = .returned (.bool true) ∧ Below w.heap.size w w' := by
  go_enter Tryd.func30, Tryd.ntmps30
  go_wp2
  go_loopw [13] (fun i wr => ∃ k : Nat, k ≤ n ∧ ∃ q, wr = w.drewN q ∧ i = .int .i64 k) (fun i _ => n - (intOf i).toNat)
  case atStart => exact ⟨0, Nat.zero_le _, 0, rfl, rfl⟩
  case round =>
    obtain ⟨k, hk, q, rfl, rfl⟩ := hrel
    by_cases hlt : k < n
    · obtain ⟨b, off, rfl, _, ⟨p0, p1, p2, p3⟩, _⟩ := h k hlt
      obtain ⟨b', off', rfl, _, ⟨r0, r1, r2, r3⟩, _⟩ := h' k hlt
      rw [hff k hlt] at r0 r1 r2 r3
      have hlt' : (k : Int) < n := by omega
      go_wp2
      go_quiet (fail)
      go_wp2
      go_roundw
      case rel => exact ⟨k + 1, by omega, q + nq, rfl, by go_num⟩
      case measure => simp [intOf]; omega
    · go_wp2
      go_ret
      exact ⟨rfl, below_drewN (Below.refl _ _) q⟩
end Go.Proofs.YtndmlbepjcagiaaDoor
