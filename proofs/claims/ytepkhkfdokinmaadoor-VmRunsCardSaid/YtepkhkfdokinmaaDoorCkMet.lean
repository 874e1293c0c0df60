/-
  A map from ints to ints of the call's own, as a function: plain lemmas, and the law of an entry of a composite.
  check.met: the function over which one ranges hands over the places that are reached, each with the greatest number of steps up to it.
-/
import Derived.Test.YtepkhkfdokinmaaDoorGF
import Derived.Maps.OwnIn
import Derived.RangeFuncWrites
import Derived.Test.YtepkhkfdokinmaaDoorCkNext
namespace Go.Proofs.YtepkhkfdokinmaaDoor
open Go.RowKit Go.Maps

/-- The map reads as g: nought where there is nothing. -/
structure Tab (D : DataW Unit) (g : Nat → Nat) : Prop where
  map : IsMap D
  at_ : ∀ p : Nat, D.atKey (.int .i64 p) (.lit (.int .i64 0)) = .lit (.int .i64 ((g p : Nat) : Int))
  has : ∀ p : Nat, Maps.has D (.int .i64 p) = decide (g p ≠ 0)
theorem Tab.empty : Tab (.map []) (fun _ => 0) := ⟨⟨[], rfl⟩, fun _ => rfl, fun _ => rfl⟩
theorem key_ne {p x : Nat} (h : x ≠ p) : (Lit.int .i64 (x : Int)) ≠ .int .i64 (p : Int) := by
  intro e
  injection e with _ e
  omega
theorem Tab.put {D : DataW Unit} {g : Nat → Nat} (h : Tab D g) (p : Nat) {v : Nat} (hv : v ≠ 0) : Tab (D.put (.int .i64 p) (.lit (.int .i64 (v : Int)))) (fun x => if x = p then v else g x) := by
  refine ⟨h.map.put _ _, fun x => ?_, fun x => ?_⟩
  · by_cases hx : x = p
    · subst hx
      simp only [if_pos]
      exact atKey_put_same h.map (show WideAt.IsKeyLit (.int .i64 (x : Int)) from trivial) _ _
    · rw [if_neg hx, atKey_put_other (key_ne hx)]
      exact h.at_ x
  · by_cases hx : x = p
    · subst hx
      simp only [if_pos]
      rw [has_put_same h.map (show WideAt.IsKeyLit (.int .i64 (x : Int)) from trivial)]
      simp [hv]
    · rw [if_neg hx, has_put_other (key_ne hx)]
      exact h.has x
theorem Tab.upd {D : DataW Unit} {g : Nat → Nat} (h : Tab D g) (p : Nat) {v : Nat} (hv : v ≠ 0) {c : Nat} (hc : c = max (g p) v) : Tab (D.put (.int .i64 p) (.lit (.int .i64 (c : Int)))) (updI g p v) := by
  have := h.put p (v := c) (by omega)
  have e : (fun x => if x = p then c else g x) = updI g p v := by
    funext x
    unfold updI
    split
    · rename_i hx; subst hx; exact hc
    · rfl
  rwa [e] at this

/-- What a round keeps: what lay below n₀; every map; every block of instructions. -/
def KeepP (n₀ : Nat) (W W' : World) : Prop := Below n₀ W W' ∧ ∀ (k : Nat) (o : Obj), W.heap[k]? = some o → (o.isWalk = true ∨ ∃ cs fz, o = .cells cs 54 fz) → W'.heap[k]? = some o
theorem keepP_refl (n₀ : Nat) (W : World) : KeepP n₀ W W := ⟨Below.refl _ _, fun _ _ h _ => h⟩
theorem keepP_t {n₀ : Nat} {A B C : World} (h : KeepP n₀ A B) (k : KeepP n₀ B C) : KeepP n₀ A C := ⟨h.1.trans k.1, fun j o hj ho => k.2 j o (h.2 j o hj ho) ho⟩
theorem keepP_b {n₀ : Nat} {w : World} (hn : n₀ ≤ w.heap.size) (W : World) (l : Nat) (o o' : Obj) (hl : w.heap.size ≤ l) (h : W.heap[l]? = some o) (a : o.isCells = false) (b : o.isWalk = false) : KeepP n₀ W (W.putObj l o') := by
  refine ⟨belowK_b hn W l o o' hl h a b, fun j o2 hj ho => ?_⟩
  have hne : j ≠ l := by
    rintro rfl
    rw [h] at hj
    cases hj
    rcases ho with ho | ⟨cs, fz, rfl⟩
    · rw [b] at ho; cases ho
    · cases a
  exact (World.putObj_heap_other hne).trans hj
theorem keepP_below {n₀ : Nat} {W W' : World} (h : Below W.heap.size W W') (hn : n₀ ≤ W.heap.size) : KeepP n₀ W W' := ⟨h.mono hn, fun j _ hj _ => (h.block j (Array.getElem?_eq_some_iff.1 hj).1).trans hj⟩

open Go.RowKit Go.Shelf Go.Maps
attribute [local go_sem] Oper.semAt_some

theorem foldl_take {l : List Nat} {k x : Nat} (h : k < l.length) : (l.take (k + 1)).foldl max x = max ((l.take k).foldl max x) (l.getD k 0) := by
  rw [List.take_add_one, List.foldl_append]
  simp [List.getD, h]

set_option maxHeartbeats 1000000 in
theorem great_any (A : Option Addr) (n c B x : Nat) (l : List Nat) (w : World) (h : Rn w B A l) (hn : n = l.length) (h300 : n ≤ 1000) :
    Calls Tryd.prog 50 #[.int .i64 x, .slice A n c] w fun e w' => e = .returned (.int .i64 ((l.foldl max x : Nat) : Int)) ∧ w' = w := by
  have HL := Lib.hid hn
  clear hn
  go_enter Tryd.func50, Tryd.ntmps50
  go_wp2
  go_loopw [0, 9] (fun m i wr => ∃ k : Nat, k ≤ n ∧ i = .int .i64 k ∧ m = .int .i64 (((l.take k).foldl max x : Nat) : Int) ∧ wr = w) (fun _ i _ => n - (intOf i).toNat)
  case atStart => exact ⟨0, Nat.zero_le _, rfl, rfl, rfl⟩
  case round =>
    obtain ⟨k, hk, rfl, rfl, rfl⟩ := hrel
    by_cases hlt : k < n
    · have hkl : k < l.length := by rw [← HL.out]; exact hlt
      obtain ⟨b, off, rfl, _, c0⟩ := h k hkl
      have hf := Lib.hid (foldl_take (x := x) hkl)
      obtain ⟨y, hy⟩ : ∃ y, l.getD k 0 = y := ⟨_, rfl⟩
      obtain ⟨z, hz⟩ : ∃ z, (l.take k).foldl max x = z := ⟨_, rfl⟩
      rw [hy] at c0 hf
      rw [hz] at hf ⊢
      have hlt' : (k : Int) < n := by omega
      clear hy hz
      by_cases hyz : z < y
      · have hyz' : (z : Int) < y := by omega
        go_wp2
        go_roundw
        case rel => exact ⟨k + 1, by omega, by go_num, by rw [hf.out, show max z y = y by omega], trivial⟩
        case measure => simp [intOf]; omega
      · have hyz' : ¬ (z : Int) < y := by omega
        go_wp2
        go_roundw
        case rel => exact ⟨k + 1, by omega, by go_num, by rw [hf.out, show max z y = z by omega], trivial⟩
        case measure => simp [intOf]; omega
    · obtain rfl : k = n := by omega
      have ht : l.take k = l := List.take_of_length_le (by rw [← HL.out]; exact Nat.le_refl _)
      rw [ht]
      go_wp2
      go_ret
      exact ⟨rfl, rfl⟩
theorem great_one (g x y : Nat) (w : World) (c0 : w.cell? ⟨g, 0, none⟩ = some (.int .i64 (y : Int))) :
    Calls Tryd.prog 50 #[.int .i64 x, .slice (some ⟨g, 0, none⟩) 1 1] w fun e w' => e = .returned (.int .i64 ((max x y : Nat) : Int)) ∧ w' = w :=
  great_any (some ⟨g, 0, none⟩) 1 1 (g + 1) x [y] w (fun k hk => by
    obtain rfl : k = 0 := by simpa using hk
    exact ⟨g, 0, rfl, by omega, by simpa using c0⟩) rfl (by omega)

set_option maxHeartbeats 1000000 in
theorem met_any (A : Option Addr) (m cap : Nat) (w : World) :
    Calls Tryd.prog 49 #[.slice A m cap] w fun e w' => e = .returned (.func (.func 69) #[] #[.pointer (some ⟨w.heap.size, 0, none⟩)]) ∧ w' = w.alloc (.cells #[.slice A m cap] 28) := by
  go_enter Tryd.func49, Tryd.ntmps49
  go_wp2
  go_ret
  exact ⟨rfl, rfl⟩
end Go.Proofs.YtepkhkfdokinmaaDoor
