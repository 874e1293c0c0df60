/-
  The reference's text; what Print answers, by the text.
-/
import Derived.Test.YtceeinljakcdkaaDoorAsmRl
import Derived.Test.YtceeinljakcdkaaDoorAsmBk
namespace Go.Proofs.YtceeinljakcdkaaDoor
open Go.RowKit Go.Shelf

theorem prL_all {f : Nat → Ins} : ∀ {n : Nat}, (∀ k, k < n → hasL (f k) = true) → ∃ t, prL f n = some t := by
  intro n
  induction n with
  | zero => exact fun _ => ⟨[], rfl⟩
  | succ n ih =>
    intro h
    obtain ⟨t, ht⟩ := ih (fun k hk => h k (by omega))
    simp only [prL, ht, h n (by omega), if_true]
    exact ⟨_, rfl⟩
theorem prV_all {f : Nat → Ins} {n : Nat} (h : ∀ k, k < n → hasL (f k) = true) : prV f n = if 255 < n ∨ 8192 < (textF f n).length then ([], 3) else (textF f n, 0) := by
  obtain ⟨t, ht⟩ := prL_all h
  have h8 : 8192 < t.length ↔ 8192 < (textF f n).length := by
    constructor
    · intro h1
      refine Nat.lt_of_not_le fun h2 => ?_
      have := text_prL h h2
      rw [ht] at this
      injection this with this
      subst this
      omega
    · intro h1
      refine Nat.lt_of_not_le fun h2 => ?_
      have := (prL_text ht h2).2
      rw [← this] at h1
      omega
  unfold prV
  rw [ht]
  simp only
  by_cases h1 : 255 < n ∨ 8192 < t.length
  · rw [if_pos h1, if_pos (h1.imp id h8.1)]
  · rw [if_neg h1, if_neg (fun h2 => h1 (h2.imp id h8.2))]
    rw [(prL_text ht (by omega)).2]
theorem prV_no {f : Nat → Ins} {n k : Nat} (hk : k < n) (h : hasL (f k) = false) : prV f n = ([], 2) := by
  have h0 : prL f (k + 1) = none := by
    simp only [prL]
    cases prL f k with
    | none => rfl
    | some t => simp [h]
  have := prL_none h0 (n - (k + 1))
  rw [show k + 1 + (n - (k + 1)) = n by omega] at this
  rw [prV, this]
theorem lnB_len {q : Ins} (hq : insO q) : (lnB q).length ≤ 128 := by
  have := line_len hq
  simp [lnB]
  omega
theorem textF_zero (f : Nat → Ins) : textF f 0 = [] := rfl
theorem hasL_form {q : Ins} (h : hasL q = true) : 0 ≤ formOf q.1 := by
  rw [hasL, name_form] at h
  simp at h
  exact h.1
set_option maxRecDepth 100000 in
set_option maxHeartbeats 8000000 in
theorem rtext_any (A : Option Addr) (n c : Nat) (f : Nat → Ins) (hn : n ≤ 300) (hF : ∀ k, k < n → 0 ≤ formOf (f k).1) (w : World) (hA : Ri w w.heap.size A n f) :
    Calls Tryd.prog 14 #[.slice A n c] w fun e w' => e = .returned (.string (bs (textF f n))) ∧ Below w.heap.size w w' := by
  go_enter Tryd.func14, Tryd.ntmps14
  go_wp2
  go_loopw [3, 8] (fun s i wr => ∃ (k : Nat) (t : ByteArray), k ≤ n ∧ i = .int .i64 k ∧ s = .string t ∧ t = bs (textF f k) ∧ t.size ≤ 128 * k ∧ Below w.heap.size w wr) (fun _ i _ => n - (intOf i).toNat)
  case atStart => exact ⟨0, bs [], Nat.zero_le _, rfl, rfl, rfl, by rw [bs_size]; simp, Below.refl _ _⟩
  case round =>
    obtain ⟨k, t, hk, rfl, rfl, ht, htl, hb⟩ := hrel
    by_cases hlt : k < n
    · obtain ⟨b, off, rfl, hbl, ⟨p0, p1, p2, p3⟩, hq⟩ := (hA.below hb (Nat.le_refl _)) k hlt
      have hlt' : (k : Int) < n := by omega
      have hline := fun w => rline_any (f k) hq (hF k hlt) w
      have hll := lnB_len hq
      obtain ⟨s1, e1, z1, r1⟩ := cat Tryd.prog (bs (lineB (f k))) ⟨#[10]⟩ (by rw [bs_size]; simp only [lnB, List.length_append, List.length_singleton] at hll; show _ + 1 ≤ _; omega)
      have z1' : s1.size ≤ 128 := by
        rw [z1, bs_size]
        simp only [lnB, List.length_append, List.length_singleton] at hll
        exact hll
      obtain ⟨s2, e2, z2, r2⟩ := cat Tryd.prog t s1 (by omega)
      have hs2 : s2 = bs (textF f (k + 1)) := by
        refine bs_eq2 ?_
        rw [e2, e1, textF_succ, ht, bs_list, bs_list]
        rfl
      have z2' : s2.size ≤ 128 * (k + 1) := by omega
      obtain ⟨q, hqe⟩ : ∃ q, f k = q := ⟨_, rfl⟩
      rw [hqe] at p0 p1 p2 p3 hline r1
      obtain ⟨c0, a0, b0, d0⟩ := q
      simp only [valI, insV] at hline p0 p1 p2 p3
      generalize bs (lineB (c0, a0, b0, d0)) = L at hline r1
      have HS := Lib.hid hs2
      have HZ := Lib.hid z2'
      have hbx : Below wr.heap.size wr (wr.alloc (.cells #[.int .u16 c0, .int .u8 a0, .int .u8 b0, .int .u32 d0] 32)) := (Below.refl _ wr).alloc (Nat.le_refl _) _
      clear hqe hq hll e1 z1 z1' e2 z2 hs2 z2' ht htl
      go_wp2_with (go_at_call 12; refine (hline _).mono ?_; rintro e w1 ⟨rfl, hb1⟩; refine Hid.out ?_)
      refine Lib.hid ?_
      have hB1 : Below w.heap.size w w1 := hb.trans ((hbx.trans (hb1.mono (by simp))).mono hb.size)
      clear hline hb1 p0 p1 p2 p3 hbx
      go_wp2
      go_roundw
      case rel => exact ⟨k + 1, s2, by omega, by go_num, rfl, HS.out, HZ.out, hB1⟩
      case measure => simp [intOf]; omega
    · obtain rfl : k = n := by omega
      have HT := Lib.hid ht
      clear ht
      go_wp2
      go_ret
      exact ⟨by rw [← HT.out]; rfl, hb⟩
end Go.Proofs.YtceeinljakcdkaaDoor
