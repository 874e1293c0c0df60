/-
  The reference's Add and Low.
-/
import Derived.Test.YtabccpoolakfiaaApp
import Derived.Test.YtabccpoolakfiaaSumMath
namespace Go.Proofs.Ytabccpoolakfiaa
open Go.RowKit

theorem built_one (w : World) (z : Int) (h0 : 0 ≤ z) (h1 : z ≤ 255) : Rd (w.alloc (.cells #[.int .u8 z] 5)) (w.heap.size + 1) (some ⟨w.heap.size, 0, none⟩) 1 [z] :=
  (Wh.new w [z] (by intro y hy; simp at hy; subst hy; exact ⟨h0, h1⟩)).rd

theorem Rd.lt_of {w : World} {B n k : Nat} {A : Option Addr} {l : List Int} (h : Rd w B A n l) (hk : k < l.length) : (k : Int) < n := by have := h.len; omega
theorem Rd.ge_of {w : World} {B n k : Nat} {A : Option Addr} {l : List Int} (h : Rd w B A n l) (hk : ¬ k < l.length) : (n : Int) ≤ k := by have := h.len; omega
theorem Rd.at' {w : World} {B n k : Nat} {A : Option Addr} {l : List Int} (h : Rd w B A n l) (hk : k < l.length) : ∃ b off, A = some ⟨b, off, none⟩ ∧ b < B ∧ w.cell? ⟨b, off + k, none⟩ = some (.int .u8 (l.getD k 0)) :=
  h.at_ (by have := h.len; omega)

theorem getD_out {l : List Int} {k : Nat} (h : ¬ k < l.length) : l.getD k 0 = 0 := by simp [List.getD, show l.length ≤ k by omega]
theorem ra_step (l l' : List Int) (k : Nat) (q z z' s : Int) (hq : q = car l l' k) (hz : z = l.getD k 0) (hz' : z' = l'.getD k 0) (hs : s = q + z + z') :
    s / 256 = car l l' (k + 1) ∧ addL l l' k ++ [s % 256] = addL l l' (k + 1) := by
  have e : s = car l l' k + (l.getD k 0 + l'.getD k 0) := by rw [← hq, ← hz, ← hz']; omega
  exact ⟨by rw [e]; rfl, by rw [e, addL_succ]; rfl⟩

set_option maxHeartbeats 4000000 in
theorem refadd_any (A A' : Option Addr) (n c m c' B B' : Nat) (l l' : List Int) (w : World) (hr : Rd w B A n l) (hr' : Rd w B' A' m l') (hB : B ≤ w.heap.size) (hB' : B' ≤ w.heap.size) (hn : n ≤ 100000) (hm : m ≤ 100000) :
    Calls Try.prog 17 #[.slice A n c, .slice A' m c'] w fun e w' =>
      ∃ A1 c1, e = .returned (.slice A1 (max n m) c1) ∧ Rd w' w'.heap.size A1 (max n m) (addL l l' (max n m)) ∧ Below w.heap.size w w' := by
  obtain ⟨N, hN⟩ : ∃ N, N = max n m := ⟨_, rfl⟩
  rw [← hN]
  have hcases : (n < m ∧ N = m) ∨ (¬ n < m ∧ N = n) := by omega
  clear hN
  rcases hcases with ⟨hnm, rfl⟩ | ⟨hnm, rfl⟩
  all_goals
    go_enter Try.func17, Try.ntmps17
    go_wp2_with fail
    go_loopw [6, 7, 8] (fun v cy i wr => ∃ (k : Nat) (A1 : Option Addr) (c1 : Nat), k ≤ N ∧ i = .int .i64 k ∧ cy = .int .i64 (car l l' k) ∧ v = .slice A1 k c1 ∧ Ow wr w.heap.size A1 k c1 (addL l l' k) ∧ Below w.heap.size w wr) (fun _ _ i _ => N - (intOf i).toNat)
    case atStart => exact ⟨0, none, 0, Nat.zero_le _, rfl, rfl, rfl, Ow.nil _ _, Below.refl _ _⟩
    case round =>
      obtain ⟨k, A1, c1, hk, rfl, rfl, rfl, hown, hbr⟩ := hrel
      obtain ⟨hcb0, hcb1⟩ := car_bd hr.byt hr'.byt k
      obtain ⟨q, hq⟩ : ∃ q, q = car l l' k := ⟨_, rfl⟩
      obtain ⟨z, hz⟩ : ∃ z, z = l.getD k 0 := ⟨_, rfl⟩
      obtain ⟨z', hz'⟩ : ∃ z', z' = l'.getD k 0 := ⟨_, rfl⟩
      obtain ⟨hd0, hd1⟩ := hr.byt.at_ k
      obtain ⟨he0, he1⟩ := hr'.byt.at_ k
      by_cases hlt : k < N
      · by_cases hx : k < l.length
        · by_cases hy : k < l'.length
          · first
            | (exfalso; have h1 := hr.len; have h2 := hr'.len; omega)
            | (obtain ⟨b, off, rfl, _, ca⟩ := (hr.below (hbr.mono hB)).at' hx
               have hx1 := hr.lt_of hx
               obtain ⟨b', off', rfl, _, cb⟩ := (hr'.below (hbr.mono hB')).at' hy
               have hy1 := hr'.lt_of hy
               clear hx hy
               rw [← hq] at hcb0 hcb1
               rw [← hz] at ca hd0 hd1
               rw [← hz'] at cb he0 he1
               rw [← hq]
               have R := Lib.hid (ra_step l l' k q z z' (q + z + z') hq hz hz' (by omega))
               clear hq hz hz'
               go_wp2_with (first
                 | (at_builtin; refine wpList_append_bytes rfl (.tmp 44) (.tmp 48) rfl w.heap.size A1 k c1 _ rfl (hown.alloc _) (wr.heap.size + 1) _ 1 1 [(q + z + z') % 256] rfl (built_one wr _ (by omega) (by omega)) (by omega) (by have := hbr.size; simp; omega) ?_; intro A2 c2 w2 hown2 hb2))
               go_roundw
               case rel =>
                 rw [R.out.2] at hown2
                 exact ⟨k + 1, A2, c2, by omega, by go_num, by rw [R.out.1], rfl, hown2, (hbr.alloc hbr.size _).trans hb2⟩
               case measure => simp [intOf]; omega)
          · first
            | (exfalso; have h1 := hr.len; have h2 := hr'.len; omega)
            | (obtain ⟨b, off, rfl, _, ca⟩ := (hr.below (hbr.mono hB)).at' hx
               have hx1 := hr.lt_of hx
               have hy1 := hr'.ge_of hy
               have hy0 : l'.getD k 0 = 0 := getD_out hy
               clear hx hy
               rw [← hq] at hcb0 hcb1
               rw [← hz] at ca hd0 hd1
               rw [← hz'] at hy0 he0 he1
               rw [← hq]
               have R := Lib.hid (ra_step l l' k q z z' (q + z) hq hz hz' (by omega))
               clear hq hz hz' hy0
               go_wp2_with (first
                 | (at_builtin; refine wpList_append_bytes rfl (.tmp 44) (.tmp 48) rfl w.heap.size A1 k c1 _ rfl (hown.alloc _) (wr.heap.size + 1) _ 1 1 [(q + z) % 256] rfl (built_one wr _ (by omega) (by omega)) (by omega) (by have := hbr.size; simp; omega) ?_; intro A2 c2 w2 hown2 hb2))
               go_roundw
               case rel =>
                 rw [R.out.2] at hown2
                 exact ⟨k + 1, A2, c2, by omega, by go_num, by rw [R.out.1], rfl, hown2, (hbr.alloc hbr.size _).trans hb2⟩
               case measure => simp [intOf]; omega)
        · by_cases hy : k < l'.length
          · first
            | (exfalso; have h1 := hr.len; have h2 := hr'.len; omega)
            | (have hx1 := hr.ge_of hx
               have hx0 : l.getD k 0 = 0 := getD_out hx
               obtain ⟨b', off', rfl, _, cb⟩ := (hr'.below (hbr.mono hB')).at' hy
               have hy1 := hr'.lt_of hy
               clear hx hy
               rw [← hq] at hcb0 hcb1
               rw [← hz] at hx0 hd0 hd1
               rw [← hz'] at cb he0 he1
               rw [← hq]
               have R := Lib.hid (ra_step l l' k q z z' (q + z') hq hz hz' (by omega))
               clear hq hz hz' hx0
               go_wp2_with (first
                 | (at_builtin; refine wpList_append_bytes rfl (.tmp 44) (.tmp 48) rfl w.heap.size A1 k c1 _ rfl (hown.alloc _) (wr.heap.size + 1) _ 1 1 [(q + z') % 256] rfl (built_one wr _ (by omega) (by omega)) (by omega) (by have := hbr.size; simp; omega) ?_; intro A2 c2 w2 hown2 hb2))
               go_roundw
               case rel =>
                 rw [R.out.2] at hown2
                 exact ⟨k + 1, A2, c2, by omega, by go_num, by rw [R.out.1], rfl, hown2, (hbr.alloc hbr.size _).trans hb2⟩
               case measure => simp [intOf]; omega)
          · exfalso
            have h1 := hr.len
            have h2 := hr'.len
            omega
      · go_wp2
        go_ret
        obtain rfl : k = N := by omega
        exact ⟨A1, c1, rfl, hown.rd, hbr⟩
end Go.Proofs.Ytabccpoolakfiaa
