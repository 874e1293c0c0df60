/-
  action.CombineSeq, Combine; slices.Values: a slice of words told one by one; the law's own iterator, that counts.
-/
import Derived.Test.YteogdmliimfkbaaDoorActL
namespace Go.Proofs.YteogdmliimfkbaaDoor
open Go.RowKit Go.Shelf
attribute [local go_sem] Oper.semAt_some
set_option linter.unusedVariables false

/-- The slice at A reads as these words; they lie below block B. -/
def Ru (w : World) (B : Nat) (A : Option Addr) (l : List Int) : Prop := (∀ x ∈ l, 0 ≤ x ∧ x < 4294967296) ∧ ∀ k, k < l.length → ∃ b off, A = some ⟨b, off, none⟩ ∧ b < B ∧ w.cell? ⟨b, off + k, none⟩ = some (.int .u32 (l.getD k 0))
section
variable {w w' : World} {B B' n : Nat} {A : Option Addr} {l : List Int} {g : Option Nat} {n₀ : Nat}
theorem Ru.below (h : Ru w B A l) (hb : Below B' w w') (hB : B ≤ B') : Ru w' B A l := ⟨h.1, fun k hk => by
  obtain ⟨b, off, e, h1, c⟩ := h.2 k hk
  exact ⟨b, off, e, h1, (hb.cell (p := ⟨b, off + k, none⟩) (Nat.lt_of_lt_of_le h1 hB)).trans c⟩⟩
theorem Ru.more (h : Ru w B A l) (hB : B ≤ B') : Ru w B' A l := ⟨h.1, fun k hk => by
  obtain ⟨b, off, e, h1, c⟩ := h.2 k hk
  exact ⟨b, off, e, by omega, c⟩⟩
theorem Ru.at_ (h : Ru w B A l) (k : Nat) (hk : k < l.length) : 0 ≤ l.getD k 0 ∧ l.getD k 0 < 4294967296 := by
  have e : l.getD k 0 = l[k] := by simp [List.getD, hk]
  rw [e]; exact h.1 _ (List.getElem_mem hk)
theorem cell_of_heap {w w' : World} {b o : Nat} (h : w'.heap[b]? = w.heap[b]?) : w'.cell? ⟨b, o, none⟩ = w.cell? ⟨b, o, none⟩ := by simp [World.cell?, h]
theorem Ru.butO (h : Ru w B A l) (hb : ButO g n₀ w w') (hB : B ≤ n₀) (hg : ∀ r, g = some r → B ≤ r) : Ru w' B A l := ⟨h.1, fun k hk => by
  obtain ⟨b, off, e, h1, c⟩ := h.2 k hk
  exact ⟨b, off, e, h1, (cell_of_heap (hb.block b (by omega) (fun e => by have := hg b e; omega))).trans c⟩⟩
theorem ButO.grown' (h : ButO g n₀ w w') : ∀ {W : World}, Below n₀ w' W → ButO g n₀ w W := fun hb => h.below hb
theorem take_snoc' (l : List Int) (k : Nat) (h : k < l.length) : l.take (k + 1) = l.take k ++ [l.getD k 0] := by
  rw [List.take_succ_eq_append_getElem h]; simp [List.getD, h]
end

set_option maxHeartbeats 1000000 in
theorem values_any (A : Option Addr) (m c : Nat) (w : World) :
    Calls Tryd.prog 26 #[.slice A m c] w fun e w' => e = .returned (.func (.func 28) #[] #[.pointer (some ⟨w.heap.size, 0, none⟩)]) ∧ w' = w.alloc (.cells #[.slice A m c] 22) := by
  go_enter Tryd.func26, Tryd.ntmps26
  go_wp2
  go_ret
  exact ⟨rfl, rfl⟩

set_option maxRecDepth 100000 in
set_option maxHeartbeats 4000000 in
theorem values_seq (n : Nat) (hn : 1 ≤ n) (n₀ Bl m c : Nat) (A : Option Addr) (l : List Int) (w : World) (hR : Ru w n₀ A l) (bl : Boxed w Bl 22 (.slice A m c)) (hm : m = l.length) (hmc : m ≤ c) (h6 : m ≤ 1000000) (hBl : Bl < n₀) :
    SeqO Fence.wide n Tryd.prog 28 #[.pointer (some ⟨Bl, 0, none⟩)] (fun x : W32 => #[.int .u32 x.1]) n₀ (fun xs => xs.map (·.1) = l) m none (fun _ => True) w := by
  intro lp J W hW hJ hY h0
  have HM := Lib.hid hm
  clear hm
  have blW : Boxed W Bl 22 (.slice A m c) := boxed_below bl hW hBl
  have RW := hR.below hW (Nat.le_refl _)
  have hc0 := blW.cell
  refine callsIn_of_wp Tryd.func28 rfl trivial ?_ rfl
  simp only [Tryd.ntmps28, List.size_toArray, List.length_cons, List.length_nil, Nat.reduceAdd, Nat.reduceSub, Array.replicate_succ, Array.replicate_zero, List.push_toArray, List.append_toArray, List.nil_append, List.cons_append]
  gi_wp2
  clear hc0
  gi_loopw [7] (fun i wr => ∃ (k : Nat) (pre : List W32), k ≤ m ∧ i = .int .i64 k ∧ pre.length = k ∧ pre.map (·.1) = l.take k ∧ J pre wr ∧ Below n₀ W wr) (fun i _ => m - (intOf i).toNat)
  case atStart => exact ⟨0, [], Nat.zero_le _, rfl, rfl, rfl, h0, Below.refl _ _⟩
  case round =>
    obtain ⟨k, pre, hk, rfl, hpl, hpm, hJs, hB⟩ := hrel
    have HP := Lib.hid hpm
    have HL := Lib.hid hpl
    clear hpm hpl
    by_cases hlt : k < m
    · have hlt' : (k : Int) < m := by omega
      have hkl : k < l.length := by have := HM.out; omega
      obtain ⟨b, off, rfl, hb, hc⟩ := (RW.below hB (Nat.le_refl _)).2 k hkl
      have hx := RW.at_ k hkl
      have ht := Lib.hid (take_snoc' l k hkl)
      generalize l.getD k 0 = x at hc hx ht
      obtain ⟨fn, tmps, assign, body, hy, hRd⟩ := hY pre ⟨x, hx⟩ wr hJs hB.size (by have := HL.out; omega)
      simp only at hy
      gi_wp2
      refine hRd.mono ?_
      rintro e W3 ⟨rfl, hJ3, hb3⟩
      gi_wp2
      refine ⟨⟨k + 1, pre ++ [⟨x, hx⟩], by omega, by go_num, ?_, ?_, hJ3, hB.trans hb3⟩, by simp [intOf]; omega⟩
      · rw [List.length_append, HL.out]; rfl
      · rw [ht.out, List.map_append, HP.out]; rfl
    · obtain rfl : k = m := by omega
      gi_wp2
      go_end0
      refine ⟨⟨_, rfl⟩, pre, ?_, hJs, trivial⟩
      rw [HP.out, HM.out, List.take_length]
end Go.Proofs.YteogdmliimfkbaaDoor
