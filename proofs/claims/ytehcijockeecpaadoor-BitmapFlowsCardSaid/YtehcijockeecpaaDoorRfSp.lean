/-
  The reference's split: a name at its first dot.
-/
import Derived.Test.YtehcijockeecpaaDoorHH
namespace Go.Proofs.YtehcijockeecpaaDoor
open Go.RowKit
set_option linter.unusedVariables false

theorem ext_pre (pre post : List UInt8) : (⟨(pre ++ 46 :: post).toArray⟩ : ByteArray).extract 0 pre.length = ⟨pre.toArray⟩ := by
  apply ByteArray.ext
  rw [ByteArray.data_extract]
  apply Array.ext'
  simp
theorem ext_post (pre post : List UInt8) : (⟨(pre ++ 46 :: post).toArray⟩ : ByteArray).extract (pre.length + 1) (pre.length + post.length + 1) = ⟨post.toArray⟩ := by
  apply ByteArray.ext
  rw [ByteArray.data_extract]
  apply Array.ext'
  have e : pre ++ 46 :: post = (pre ++ [46]) ++ post := by simp
  rw [e]
  simp only [List.extract_toArray, List.extract_eq_take_drop]
  rw [List.drop_append_of_le_length (by simp)]
  simp

set_option maxHeartbeats 1000000 in
theorem split_no (s : List UInt8) (h : ∀ b ∈ s, b ≠ 46) (hl : s.length < 1000) (w : World) :
    Calls Tryd.prog 41 #[.string ⟨s.toArray⟩] w fun e w' => e = .returned (.tuple #[.string ⟨s.toArray⟩, .string ⟨#[]⟩]) ∧ Below w.heap.size w w' := by
  obtain ⟨n, hn⟩ : ∃ n, s.length = n := ⟨_, rfl⟩
  go_enter Tryd.func41, Tryd.ntmps41
  go_wp2
  go_loopw [4] (fun i wr => ∃ k : Nat, k ≤ s.length ∧ i = .int .i64 k ∧ wr = w) (fun i _ => n - (intOf i).toNat)
  case atStart => exact ⟨0, Nat.zero_le _, rfl, rfl⟩
  case round =>
    obtain ⟨k, hk, rfl, rfl⟩ := hrel
    by_cases hkk : k < s.length
    · have hkn : (k : Int) < s.length := by omega
      have hsz : k < (⟨s.toArray⟩ : ByteArray).size := by
        show k < s.toArray.size
        simpa using hkk
      have hq : (((((⟨s.toArray⟩ : ByteArray)[k]'hsz).toNat : Nat) : Int) == 46) = false := by
        have e : ((⟨s.toArray⟩ : ByteArray)[k]'hsz) = s[k] := by
          show (s.toArray[k]'_) = _
          simp
        rw [e]
        have hne := h _ (List.getElem_mem hkk)
        rw [beq_eq_false_iff_ne]
        intro hc
        exact hne (UInt8.toNat_inj.1 (by have : s[k].toNat = 46 := by omega
                                         rw [this]; rfl))
      go_wp2
      exact ⟨⟨k + 1, by omega, by first | rfl | go_num, trivial⟩, by simp [intOf]; omega⟩
    · obtain rfl : k = s.length := by omega
      have hkn : ¬ (s.length : Int) < s.length := by omega
      go_wp2
      go_ret2
      exact ⟨rfl, Below.refl _ _⟩

set_option maxHeartbeats 1000000 in
theorem split_at (pre post : List UInt8) (h : ∀ b ∈ pre, b ≠ 46) (hl : pre.length + post.length < 1000) (w : World) :
    Calls Tryd.prog 41 #[.string ⟨(pre ++ 46 :: post).toArray⟩] w fun e w' => e = .returned (.tuple #[.string ⟨pre.toArray⟩, .string ⟨post.toArray⟩]) ∧ Below w.heap.size w w' := by
  obtain ⟨n, hn⟩ : ∃ n, (pre ++ 46 :: post).length = n := ⟨_, rfl⟩
  have hn' : n = pre.length + post.length + 1 := by rw [← hn]; simp; omega
  go_enter Tryd.func41, Tryd.ntmps41
  go_wp2
  go_loopw [4] (fun i wr => ∃ k : Nat, k ≤ pre.length ∧ i = .int .i64 k ∧ wr = w) (fun i _ => n - (intOf i).toNat)
  case atStart => exact ⟨0, Nat.zero_le _, rfl, rfl⟩
  case round =>
    obtain ⟨k, hk, rfl, rfl⟩ := hrel
    have hkn : (k : Int) < n := by omega
    have hsz : k < (⟨(pre ++ 46 :: post).toArray⟩ : ByteArray).size := by
      show k < (pre ++ 46 :: post).toArray.size
      simp; omega
    by_cases hkk : k < pre.length
    · have hq : (((((⟨(pre ++ 46 :: post).toArray⟩ : ByteArray)[k]'hsz).toNat : Nat) : Int) == 46) = false := by
        have e : ((⟨(pre ++ 46 :: post).toArray⟩ : ByteArray)[k]'hsz) = pre[k] := by
          show ((pre ++ 46 :: post).toArray[k]'_) = _
          simp [List.getElem_append_left hkk]
        rw [e]
        have hne := h _ (List.getElem_mem hkk)
        rw [beq_eq_false_iff_ne]
        intro hc
        exact hne (UInt8.toNat_inj.1 (by have : pre[k].toNat = 46 := by omega
                                         rw [this]; rfl))
      go_wp2
      exact ⟨⟨k + 1, by omega, by first | rfl | go_num, trivial⟩, by simp [intOf]; omega⟩
    · obtain rfl : k = pre.length := by omega
      have hq : (((((⟨(pre ++ 46 :: post).toArray⟩ : ByteArray)[pre.length]'hsz).toNat : Nat) : Int) == 46) = true := by
        have e : ((⟨(pre ++ 46 :: post).toArray⟩ : ByteArray)[pre.length]'hsz) = 46 := by
          show ((pre ++ 46 :: post).toArray[pre.length]'_) = _
          simp
        rw [e]
        rfl
      have hz : (⟨(pre ++ 46 :: post).toArray⟩ : ByteArray).size = pre.length + post.length + 1 := by
        show (pre ++ 46 :: post).toArray.size = _
        simp; omega
      go_wp2
      go_region
      rw [ext_pre, ext_post]
      go_wp2
      go_ret2
      exact ⟨rfl, (Below.refl _ _).drew⟩

/-- What stands ahead of a name's first dot, and behind it. -/
def headOf (s : List UInt8) : List UInt8 := s.takeWhile (fun b => b != 46)
def tailOf (s : List UInt8) : List UInt8 := (s.dropWhile (fun b => b != 46)).tail
theorem head_no (s : List UInt8) : ∀ b ∈ headOf s, b ≠ 46 := by
  induction s with
  | nil => intro b hb; simp [headOf] at hb
  | cons x s ih =>
    intro b hb
    unfold headOf at hb
    rw [List.takeWhile_cons] at hb
    by_cases hx : x = 46
    · subst hx; simp at hb
    · rw [if_pos (by simpa using hx)] at hb
      rcases List.mem_cons.1 hb with rfl | hb
      · exact hx
      · exact ih b hb
theorem head_tail (s : List UInt8) : (headOf s = s ∧ tailOf s = []) ∨ s = headOf s ++ 46 :: tailOf s := by
  induction s with
  | nil => exact .inl ⟨rfl, rfl⟩
  | cons x s ih =>
    unfold headOf tailOf
    rw [List.takeWhile_cons, List.dropWhile_cons]
    by_cases hx : x = 46
    · subst hx
      right
      simp
    · rw [if_pos (by simpa using hx), if_pos (by simpa using hx)]
      rcases ih with ⟨h1, h2⟩ | h
      · left
        exact ⟨by rw [show s.takeWhile (fun b => b != 46) = s from h1], h2⟩
      · right
        rw [List.cons_append]
        exact congrArg (x :: ·) h
theorem split_any (s : List UInt8) (hl : s.length < 1000) (w : World) :
    Calls Tryd.prog 41 #[.string ⟨s.toArray⟩] w fun e w' => e = .returned (.tuple #[.string ⟨(headOf s).toArray⟩, .string ⟨(tailOf s).toArray⟩]) ∧ Below w.heap.size w w' := by
  have hn := head_no s
  rcases head_tail s with ⟨h1, h2⟩ | h
  · rw [h1, h2]
    rw [h1] at hn
    exact split_no s hn hl w
  · have hlen := congrArg List.length h
    simp at hlen
    have hs := split_at (headOf s) (tailOf s) hn (by omega) w
    rw [← h] at hs
    exact hs
end Go.Proofs.YtehcijockeecpaaDoor
