/-
  DataBack: the walk.
-/
import Derived.Test.YtpehbpjgbjlbjaaDatL
import Derived.Test.YtpehbpjgbjlbjaaEqual
namespace Go.Proofs.Ytpehbpjgbjlbjaa
open Go.RowKit

/-- What Decode answers of bytes. -/
def decD (l : List Int) : Dat := if l.length = 64 then joinD (wordsB l) else dat0
def decE (l : List Int) : Int := if l.length = 64 then 0 else if l.length < 64 then 7 else 3
theorem decode_any (A : Option Addr) (n c : Nat) (l : List Int) (w : World) (hr : Rd w w.heap.size A n l) :
    Calls Try.prog 8 #[.slice A n c] w fun e w' => e = .returned (.tuple #[datV (decD l), .int .i64 (decE l)]) ∧ Below w.heap.size w w' := by
  have hl := hr.len
  unfold decD decE
  rw [hl]
  rcases Nat.lt_trichotomy n 64 with h | h | h
  · rw [if_neg (by omega), if_neg (by omega), if_pos h]
    exact decode_short A n c w h
  · subst h
    exact decode_ok A c l w hr
  · rw [if_neg (by omega), if_neg (by omega), if_neg (by omega)]
    exact decode_long A n c w h
theorem decD_ok {l : List Int} (hb : Byt l) : DatOk (decD l) := by
  unfold decD
  split
  · exact join_ok _ (wordsB_bd hb)
  · exact dat0_ok
theorem decE_zero {l : List Int} (h : l.length = 64) : decE l = 0 := by simp [decE, h]
theorem decE_not {l : List Int} (h : l.length ≠ 64) : (decE l == 0) = false ∧ (decE l != 0) = true := by
  unfold decE
  rw [if_neg h]
  split <;> exact ⟨rfl, rfl⟩
theorem decD_not {l : List Int} (h : l.length ≠ 64) : decD l = dat0 := by simp [decD, h]

theorem dat_neq_self (d : Dat) : (!decide (d = d)) = false := by simp
theorem dat_eql_self (d : Dat) : decide (d = d) = true := by simp

set_option maxHeartbeats 4000000 in
theorem back_small (d : Dat) (hd : DatOk d) (A : Option Addr) (n c : Nat) (l : List Int) (w : World) (hr : Rd w w.heap.size A n l) (hn : n ≤ 1000) :
    Calls Try.prog 5 #[datV d, .slice A n c] w fun e w' => e = .returned (.bool true) ∧ Below w.heap.size w w' := by
  have E := fun w => encode_any d hd w
  have hn' : (n : Int) ≤ 1000 := by omega
  have hn'' : ¬ (1000 : Int) < n := by omega
  have hl := Lib.hid hr.len
  have hby := Lib.hid hr.byt
  have d1 := dat_one d
  rw [datV_eq d]
  go_enter Try.func5, Try.ntmps5
  go_wp2_with fail
  refine (dwakes_any _).mono ?_
  rintro e w1 ⟨rfl, b1⟩
  have k1 : Blk w1 w.heap.size (datC d) 26 := (Blk.new w (datC d) 26).below b1 (by simp)
  have B1 : Below w.heap.size w w1 := ((Below.refl _ w).alloc (Nat.le_refl _) _).trans (b1.mono (by simp))
  have z1 := k1.lt
  clear b1
  go_wp2_with (refine wpList_load_at (by rfl) 26 (.tmp 2) rfl w.heap.size rfl 26 (datC d) _ k1 Try.underlying26 rfl dat_info ?_)
  refine (E _).mono ?_
  rintro e w2 ⟨g, rfl, hg, h2, b2⟩
  have k2 := k1.below b2 k1.lt
  have B2 := B1.trans (b2.mono B1.size)
  have r2 := h2.rd.more h2.lt
  rw [datB_len] at r2
  go_wp2_with fail
  refine (decode_any _ 64 64 _ w2 r2).mono ?_
  rintro e w3 ⟨rfl, b3⟩
  rw [show decD (datB d) = d by rw [decD, if_pos (datB_len d), dat_back d hd], decE_zero (datB_len d)]
  have k3 := k2.below b3 k2.lt
  have B3 := B2.trans (b3.mono B2.size)
  have z3 := k3.lt
  clear b2 b3 k1 k2 B1 B2 r2 h2 hg z1
  unfold datV
  go_wp2_with (first
    | (refine wpList_store_blk rfl 26 (.tmp 5) (.tmp 17) rfl w3.heap.size _ (datC d) 26 rfl rfl (Blk.new_ w3 _ _ rfl) rfl dat_info d1 ?_
       intro w4 k4 n4
       have z4 := n4.size
       simp only [World.size_alloc] at z4
       have k4' := n4.blk (k3.alloc _) (by omega)
       have B4 : Below w.heap.size w w4 := (B3.alloc (by omega) _).trans (n4.below _ (by omega) (by simp; omega))
       clear n4)
    | (refine wpList_load_at (by rfl) 26 (.tmp 5) rfl w3.heap.size rfl 26 (datC d) _ k4 Try.underlying26 rfl dat_info ?_)
    | (refine wpList_load_at (by rfl) 26 (.tmp 2) rfl w.heap.size rfl 26 (datC d) _ k4' Try.underlying26 rfl dat_info ?_)
    | (refine wpList_neq_dat (by rfl) (.tmp 22) (.tmp 23) rfl d d rfl rfl _ (dat_neq_self d) ?_))
  refine (decode_any A n c l w4 ((hr.below B4).more B4.size)).mono ?_
  rintro e w5 ⟨rfl, b5⟩
  have B5 := B4.trans (b5.mono B4.size)
  have z5 := B5.size
  obtain ⟨D, hD⟩ : ∃ D, decD l = D := ⟨_, rfl⟩
  obtain ⟨E0, hE⟩ : ∃ E0, decE l = E0 := ⟨_, rfl⟩
  have hDok : DatOk D := hD ▸ decD_ok hby.out
  rw [hD, hE]
  have d2 := dat_one D
  clear k4 k4' k3 B3 B4 b5 d1
  by_cases h64 : n = 64
  · have e0 : E0 = 0 := by rw [← hE]; exact decE_zero (by rw [hl.out]; exact h64)
    have hb := dat_forth l (by rw [hl.out]; exact h64) hby.out
    have hD' : D = joinD (wordsB l) := by rw [← hD, decD, if_pos (by rw [hl.out]; exact h64)]
    rw [← hD'] at hb
    have HB := Lib.hid hb
    clear hD hE hD' hb
    subst e0
    subst h64
    have E2 := fun w => encode_any D hDok w
    unfold datV
    unfold datV at E2
    go_wp2_with (first
      | (refine wpList_store_blk rfl 26 (.tmp 7) (.tmp 29) rfl w5.heap.size _ (datC D) 26 rfl rfl (Blk.new_ w5 _ _ rfl) rfl dat_info d2 ?_
         intro w6 k6 n6
         have z6 := n6.size
         simp only [World.size_alloc] at z6
         have B6 : Below w.heap.size w w6 := (B5.alloc (by omega) _).trans (n6.below _ (by omega) (by simp; omega))
         clear n6)
      | (refine wpList_load_at (by rfl) 26 (.tmp 7) rfl w5.heap.size rfl 26 (datC D) _ k6 Try.underlying26 rfl dat_info ?_))
    refine (E2 _).mono ?_
    rintro e w7 ⟨g7, rfl, hg7, h7, b7⟩
    have B7 := B6.trans (b7.mono B6.size)
    have r7 := h7.rd.more h7.lt
    rw [HB.out, hl.out] at r7
    go_wp2_with fail
    refine (equal_any _ A 64 64 64 c _ _ l l w7 r7 (hr.below B7)).mono ?_
    rintro e w8 ⟨rfl, rfl⟩
    go_wp2_with fail
    go_ret
    exact ⟨by simp, B7⟩
  · obtain ⟨e1, e2⟩ := decE_not (l := l) (by rw [hl.out]; exact h64)
    have hD' : D = dat0 := by rw [← hD]; exact decD_not (by rw [hl.out]; exact h64)
    rw [hE] at e1 e2
    clear hD hE
    subst hD'
    have h64' : ((n : Int) == 64) = false := by simp; omega
    have h64'' : ((n : Int) != 64) = true := by simp; omega
    unfold datV
    go_wp2_with (first
      | (refine wpList_store_blk rfl 26 (.tmp 7) (.tmp 29) rfl w5.heap.size _ (datC dat0) 26 rfl rfl (Blk.new_ w5 _ _ rfl) rfl dat_info d2 ?_
         intro w6 k6 n6
         have z6 := n6.size
         simp only [World.size_alloc] at z6
         have B6 : Below w.heap.size w w6 := (B5.alloc (by omega) _).trans (n6.below _ (by omega) (by simp; omega))
         clear n6)
      | (refine wpList_load_at (by rfl) 26 (.tmp 7) rfl w5.heap.size rfl 26 (datC dat0) _ k6 Try.underlying26 rfl dat_info ?_)
      | (refine wpList_eql_dat (by rfl) (.tmp 37) (.tmp 38) rfl dat0 dat0 rfl rfl _ (dat_eql_self dat0) ?_))
    go_ret
    exact ⟨rfl, B6⟩

set_option maxHeartbeats 1000000 in
theorem back_big (d : Dat) (A : Option Addr) (n c : Nat) (w : World) (hn : 1000 < n) :
    Calls Try.prog 5 #[datV d, .slice A n c] w fun e w' => e = .returned (.bool true) ∧ Below w.heap.size w w' := by
  have hn' : (1000 : Int) < n := by omega
  rw [datV_eq d]
  go_enter Try.func5, Try.ntmps5
  go_wp2_with fail
  refine (dwakes_any _).mono ?_
  rintro e w1 ⟨rfl, b1⟩
  go_wp2_with fail
  go_ret
  exact ⟨rfl, ((Below.refl _ w).alloc (Nat.le_refl _) _).trans (b1.mono (by simp))⟩

theorem back_walk (d : Dat) (hd : DatOk d) (A : Option Addr) (n c : Nat) (l : List Int) (w : World) (hr : Rd w w.heap.size A n l) :
    Calls Try.prog 5 #[datV d, .slice A n c] w fun e w' => e = .returned (.bool true) ∧ Below w.heap.size w w' := by
  by_cases hn : n ≤ 1000
  · exact back_small d hd A n c l w hr hn
  · exact back_big d A n c w (by omega)
end Go.Proofs.Ytpehbpjgbjlbjaa
