/-
  octet.digit and octet.Add: the bytes of a sum, as many as the longer one has.
-/
import Derived.Test.YtabccpoolakfiaaLaws
namespace Go.Proofs.Ytabccpoolakfiaa
open Go.RowKit

/-- What is carried to place i. -/
def car (a b : List Int) : Nat → Int
  | 0 => 0
  | i + 1 => (car a b i + (a.getD i 0 + b.getD i 0)) / 256
/-- The sum's byte at place i. -/
def sumAt (a b : List Int) (i : Nat) : Int := (car a b i + (a.getD i 0 + b.getD i 0)) % 256
def addL (a b : List Int) (n : Nat) : List Int := (List.range n).map (sumAt a b)

theorem car_bd {a b : List Int} (ha : Byt a) (hb : Byt b) (i : Nat) : 0 ≤ car a b i ∧ car a b i ≤ 1 := by
  induction i with
  | zero => simp [car]
  | succ i ih =>
    have h1 := ha.at_ i
    have h2 := hb.at_ i
    simp only [car]
    omega
theorem sumAt_bd (a b : List Int) (i : Nat) : 0 ≤ sumAt a b i ∧ sumAt a b i ≤ 255 := by unfold sumAt; omega
theorem addL_length (a b : List Int) (n : Nat) : (addL a b n).length = n := by simp [addL]
theorem addL_succ (a b : List Int) (n : Nat) : addL a b (n + 1) = addL a b n ++ [sumAt a b n] := by simp [addL, List.range_succ]
theorem addL_byt (a b : List Int) (n : Nat) : Byt (addL a b n) := by
  intro z hz
  simp only [addL, List.mem_map] at hz
  obtain ⟨k, _, rfl⟩ := hz
  exact sumAt_bd a b k
theorem add_step (a b : List Int) (n k : Nat) (hk : k < n) :
    (addL a b k ++ List.replicate (n - k) 0).set k (sumAt a b k) = addL a b (k + 1) ++ List.replicate (n - (k + 1)) 0 := by
  rw [List.set_append_right _ _ (by rw [addL_length]; omega), addL_succ, addL_length]
  obtain ⟨m, hm⟩ : ∃ m, n - k = m + 1 := ⟨n - k - 1, by omega⟩
  rw [hm, show n - (k + 1) = m by omega, show k - k = 0 by omega, List.replicate_succ]
  simp
theorem add_len (a b : List Int) (n k : Nat) (hk : k ≤ n) : (addL a b k ++ List.replicate (n - k) 0).length = n := by simp [addL_length]; omega
theorem add_end (a b : List Int) (n : Nat) : addL a b n ++ List.replicate (n - n) 0 = addL a b n := by simp

theorem add_num (c x y : Int) (c0 : 0 ≤ c) (c1 : c ≤ 1) (x0 : 0 ≤ x) (x1 : x ≤ 255) (y0 : 0 ≤ y) (y1 : y ≤ 255) :
    IntKind.u16.wrap (c + IntKind.u16.wrap (IntKind.u16.wrap x + IntKind.u16.wrap y)) = c + (x + y) := by
  simp only [IntKind.wrap_u16]
  omega

set_option maxHeartbeats 400000 in
theorem digit_any (A : Option Addr) (n c : Nat) (l : List Int) (k : Nat) (B : Nat) (w : World) (hr : Rd w B A n l) :
    Calls Try.prog 32 #[.slice A n c, .int .i64 k] w fun e w' => e = .returned (.int .u8 (l.getD k 0)) ∧ w = w' := by
  by_cases hlt : k < n
  · obtain ⟨b, off, rfl, hb, hc⟩ := hr.at_ hlt
    have hlt' : (k : Int) < n := by omega
    go_enter Try.func32, Try.ntmps32
    go_wp2
    go_ret
    exact ⟨rfl, rfl⟩
  · have hd : l.getD k 0 = 0 := by have := hr.len; simp [List.getD, show l.length ≤ k by omega]
    have hlt' : (n : Int) ≤ k := by omega
    rw [hd]
    clear hd
    go_enter Try.func32, Try.ntmps32
    go_wp2
    go_ret
    exact ⟨rfl, rfl⟩

set_option maxHeartbeats 1000000 in
theorem add_any (A A' : Option Addr) (n c m c' : Nat) (l l' : List Int) (w : World) (hr : Rd w w.heap.size A n l) (hr' : Rd w w.heap.size A' m l') (hn : n ≤ 1000000) (hm : m ≤ 1000000) :
    Calls Try.prog 16 #[.slice A n c, .slice A' m c'] w fun e w' =>
      e = .returned (.slice (some ⟨w.heap.size, 0, none⟩) (max n m) (max n m)) ∧ Wh w' w.heap.size (addL l l' (max n m)) ∧ Below w.heap.size w w' := by
  obtain ⟨N, hN⟩ : ∃ N, N = max n m := ⟨_, rfl⟩
  have hN1 : N ≤ 1000000 := by omega
  rw [← hN]
  have hcases : (n < m ∧ N = m) ∨ (¬ n < m ∧ N = n) := by omega
  clear hN
  rcases hcases with ⟨hnm, rfl⟩ | ⟨hnm, rfl⟩
  all_goals
    go_enter Try.func16, Try.ntmps16
    go_wp2_with (first
      | (at_make; refine wpList_make_bytes rfl (.tmp 14) (.tmp 14) rfl _ _ N rfl rfl rfl rfl (by omega) ?_; intro w1 hw1 hb1))
    have hst : List.replicate N (0 : Int) = addL l l' 0 ++ List.replicate (N - 0) 0 := by simp [addL]
    rw [hst] at hw1
    clear hst
    go_loopw [7, 17] (fun cy i wr => ∃ k : Nat, k ≤ N ∧ i = .int .i64 k ∧ cy = .int .u16 (car l l' k) ∧ Wh wr w.heap.size (addL l l' k ++ List.replicate (N - k) 0) ∧ Below w.heap.size w wr) (fun _ i _ => N - (intOf i).toNat)
    case atStart => exact ⟨0, Nat.zero_le _, rfl, rfl, hw1, hb1⟩
    case round =>
      obtain ⟨k, hk, rfl, rfl, hwr, hbr⟩ := hrel
      by_cases hlt : k < N
      · have hc := hwr.cell (k := k) (by rw [add_len l l' N k hk]; omega)
        have hf := hwr.frozen k
        obtain ⟨hcb0, hcb1⟩ := car_bd hr.byt hr'.byt k
        obtain ⟨hd0, hd1⟩ := hr.byt.at_ k
        obtain ⟨he0, he1⟩ := hr'.byt.at_ k
        go_wp2_with (first
          | (go_at_call 32; ((with_reducible refine (digit_any A _ c l k _ _ (hr.below hbr)).mono ?_); rintro e w' ⟨rfl, rfl⟩))
          | (go_at_call 32; ((with_reducible refine (digit_any A' _ c' l' k _ _ (hr'.below hbr)).mono ?_); rintro e w' ⟨rfl, rfl⟩)))
        go_roundw
        case rel =>
          have hnum := add_num (car l l' k) (l.getD k 0) (l'.getD k 0) hcb0 hcb1 hd0 hd1 he0 he1
          have h := hwr.set_ k (sumAt l l' k) (sumAt_bd l l' k)
          rw [add_step l l' N k hlt] at h
          simp only [List.getD_eq_getElem?_getD] at hnum
          rw [hnum]
          exact ⟨k + 1, by omega, by go_num, by simp only [car, List.getD_eq_getElem?_getD], (by simpa only [sumAt, List.getD_eq_getElem?_getD] using h), hbr.setCell (by simp) _⟩
        case measure => simp [intOf]; omega
      · go_wp2
        go_ret
        obtain rfl : k = N := by omega
        rw [add_end] at hwr
        exact ⟨rfl, hwr, hbr⟩
end Go.Proofs.Ytabccpoolakfiaa
