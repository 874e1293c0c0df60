/-
  Rows of instructions: a copy that can be played in time, the same ones, whether one of them has no form.
-/
import Derived.Test.YtceeinljakcdkaaDoorForm1
import Derived.Test.YtceeinljakcdkaaDoorIns
import Derived.BigQuiet
namespace Go.Proofs.YtceeinljakcdkaaDoor
open Go.RowKit

set_option maxRecDepth 100000 in
set_option maxHeartbeats 1000000 in
theorem few8_any (A : Option Addr) (n c : Nat) (f : Nat → Ins) (w : World) (hA : Ri w w.heap.size A n f) (hc : n ≤ c) (m : Nat) (hm : m = min n 256) :
    Calls Tryd.prog 8 #[.slice A n c] w fun e w' => ∃ A' c', e = .returned (.slice A' m c') ∧ w'.ownsRow w.heap.size 32 4 (.slice A' m c') m ((List.range m).flatMap fun k => celI (f k)) ∧ Below w.heap.size w w' := by
  have hb := (Below.refl w.heap.size w).alloc (Nat.le_refl _) (.cells #[] 32)
  have hA1 := (hA.short (m := m) (by omega)).below hb (Nat.le_refl _)
  have hg := heap_alloc_new w (.cells #[] 32)
  have h300 : m ≤ 300 := by omega
  rcases Nat.lt_or_ge 256 n with h | h
  · have h' : (256 : Int) < n := by omega
    have hx := Lib.hid (show (Value.slice A 256 c) = .slice A m c by rw [show m = 256 by omega])
    clear hm
    go_enter Tryd.func8, Tryd.ntmps8
    go_wp2_with (at_builtin; refine wpList_few rfl (.tmp 3) (.tmp 8) rfl w.heap.size rfl hg A w.heap.size m c f (Eq.trans rfl hx.out) hA1 h300 ?_; intro A2 c2 w2 ho hb2)
    go_ret
    exact ⟨A2, c2, rfl, ho, hb.trans hb2⟩
  · obtain rfl : m = n := by omega
    have h' : (m : Int) ≤ 256 := by omega
    clear hm
    go_enter Tryd.func8, Tryd.ntmps8
    go_wp2_with (at_builtin; with_reducible refine wpList_few rfl (.tmp 3) (.tmp 8) rfl w.heap.size rfl hg A w.heap.size m c f rfl hA1 h300 ?_; intro A2 c2 w2 ho hb2)
    go_ret
    exact ⟨A2, c2, rfl, ho, hb.trans hb2⟩
set_option maxHeartbeats 1000000 in
theorem equalI_true (A A' : Option Addr) (n c c' B B' : Nat) (f f' : Nat → Ins) (w : World) (h : Ri w B A n f) (h' : Ri w B' A' n f') (hff : ∀ k, k < n → f' k = f k) (hn : n ≤ 300) :
    Calls Tryd.prog 20 #[.slice A n c, .slice A' n c'] w fun e w' => e = .returned (.bool true) ∧ Below w.heap.size w w' := by
  go_enter Tryd.func20, Tryd.ntmps20
  go_wp2
  go_loopw [13] (fun i wr => ∃ k : Nat, k ≤ n ∧ ∃ q, wr = w.drewN q ∧ i = .int .i64 k) (fun i _ => n - (intOf i).toNat)
  case atStart => exact ⟨0, Nat.zero_le _, 0, rfl, rfl⟩
  case round =>
    obtain ⟨k, hk, q, rfl, rfl⟩ := hrel
    by_cases hlt : k < n
    · obtain ⟨b, off, rfl, _, ⟨p0, p1, p2, p3⟩, _⟩ := h k hlt
      obtain ⟨b', off', rfl, _, ⟨r0, r1, r2, r3⟩, _⟩ := h' k hlt
      rw [hff k hlt] at r0 r1 r2 r3
      have hlt' : (k : Int) < n := by omega
      go_wp2
      go_quiet (fail)
      go_wp2
      go_roundw
      case rel => exact ⟨k + 1, by omega, q + nq, rfl, by go_num⟩
      case measure => simp [intOf]; omega
    · go_wp2
      go_ret
      exact ⟨rfl, below_drewN (Below.refl _ _) q⟩
theorem bad_any (q : Ins) (w : World) (hK : Kinds w) : Calls Tryd.prog 23 #[valI q] w fun e w' => e = .returned (.bool (decide (formOf q.1 < 0))) ∧ Below w.heap.size w w' := by
  have hF := fun w hK => form_any q.1 w hK
  obtain ⟨c, a, b, k⟩ := q
  simp only [valI, insV] at hF ⊢
  go_enter Tryd.func23, Tryd.ntmps23
  go_wp2_with (go_at_call 24; refine (hF _ (hK.alloc _)).mono ?_; rintro e w' ⟨rfl, rfl⟩)
  go_ret
  exact ⟨rfl, (Below.refl _ _).alloc (Nat.le_refl _) _⟩
/-- One of the first n has no form. -/
def badP (f : Nat → Ins) (n : Nat) : Prop := ∃ k, k < n ∧ formOf (f k).1 < 0
def idxV (f : Nat → Ins) (n : Nat) (r : Int) : Prop := 0 ≤ r ↔ badP f n
def badV (f : Nat → Ins) (n : Nat) (r : Bool) : Prop := r = true ↔ badP f n
def okTo (f : Nat → Ins) (n : Nat) : Prop := ¬ badP f n
theorem okTo_succ {f : Nat → Ins} {n : Nat} (h : okTo f n) (h1 : ¬ formOf (f n).1 < 0) : okTo f (n + 1) := by
  rintro ⟨k, hk, hb⟩
  rcases Nat.lt_or_ge k n with h2 | h2
  · exact h ⟨k, h2, hb⟩
  · rw [show k = n by omega] at hb; exact h1 hb
set_option maxHeartbeats 2000000 in
theorem indexF_any (A : Option Addr) (n c : Nat) (f : Nat → Ins) (hn : n ≤ 300) (w : World) (hK : Kinds w) (hA : Ri w w.heap.size A n f) :
    Calls Tryd.prog 50 #[.slice A n c, .func (.func 23) #[] #[]] w fun e w' => (∃ r : Int, e = .returned (.int .i64 r) ∧ idxV f n r) ∧ Below w.heap.size w w' := by
  have hpos := hK.pos
  go_enter Tryd.func50, Tryd.ntmps50
  go_wp2
  go_loopw [8] (fun i wr => ∃ k : Nat, k ≤ n ∧ i = .int .i64 k ∧ okTo f k ∧ Below w.heap.size w wr) (fun i _ => n - (intOf i).toNat)
  case atStart => exact ⟨0, Nat.zero_le _, rfl, fun ⟨j, hj, _⟩ => absurd hj (by omega), Below.refl _ _⟩
  case round =>
    obtain ⟨k, hk, rfl, hall, hb⟩ := hrel
    by_cases hlt : k < n
    · obtain ⟨b, off, rfl, _, ⟨p0, p1, p2, p3⟩, _⟩ := (hA.below hb (Nat.le_refl _)) k hlt
      have hlt' : (k : Int) < n := by omega
      have hbad := bad_any (f k) wr (hK.below hb hpos)
      have HF := Lib.hid hall
      obtain ⟨bb, hbb⟩ : ∃ bb, decide (formOf (f k).1 < 0) = bb := ⟨_, rfl⟩
      rw [hbb] at hbad
      have HB := Lib.hid hbb
      simp only [valI, insV] at hbad
      clear hbb hall
      cases bb with
      | true =>
        go_wp2_with (go_at_call 23; refine hbad.mono ?_; rintro e w1 ⟨rfl, hb1⟩)
        go_ret
        exact ⟨⟨k, rfl, ⟨fun _ => ⟨k, hlt, of_decide_eq_true HB.out⟩, fun _ => by omega⟩⟩, hb.trans (hb1.mono hb.size)⟩
      | false =>
        go_wp2_with (go_at_call 23; refine hbad.mono ?_; rintro e w1 ⟨rfl, hb1⟩)
        go_roundw
        case rel => exact ⟨k + 1, by omega, by go_num, okTo_succ HF.out (of_decide_eq_false HB.out), hb.trans (hb1.mono hb.size)⟩
        case measure => simp [intOf]; omega
    · obtain rfl : k = n := by omega
      go_wp2
      go_ret
      exact ⟨⟨-1, rfl, ⟨fun h => absurd h (by omega), fun h => absurd h hall⟩⟩, hb⟩
theorem containsF_any (A : Option Addr) (n c : Nat) (f : Nat → Ins) (hn : n ≤ 300) (w : World) (hK : Kinds w) (hA : Ri w w.heap.size A n f) :
    Calls Tryd.prog 22 #[.slice A n c, .func (.func 23) #[] #[]] w fun e w' => (∃ r : Bool, e = .returned (.bool r) ∧ badV f n r) ∧ Below w.heap.size w w' := by
  have hI := indexF_any A n c f hn w hK hA
  go_enter Tryd.func22, Tryd.ntmps22
  go_wp2_with (go_at_call 50; refine hI.mono ?_; rintro e w1 ⟨⟨r, rfl, hr⟩, hb1⟩)
  go_ret
  refine ⟨⟨decide (0 ≤ r), rfl, ?_⟩, hb1⟩
  unfold badV
  rw [decide_eq_true_eq]
  exact hr
end Go.Proofs.YtceeinljakcdkaaDoor
