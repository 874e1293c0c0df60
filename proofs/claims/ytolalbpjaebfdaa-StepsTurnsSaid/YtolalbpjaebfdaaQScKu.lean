/-
  The reference: putLock.
-/
import Derived.Test.YtolalbpjaebfdaaQScK
import Derived.BigQuiet
import Derived.Deep.MidRow
namespace Go.Proofs.Ytolalbpjaebfdaa
open Go.RowKit Go.Shelf
set_option linter.unusedVariables false
set_option linter.unusedSimpArgs false
def numK (x : Kw) : Int := x.1.n
theorem num_K (x : Kw) (w : World) : Calls Try.prog 57 #[kwV x] w fun e w' => e = .returned (.int .i64 (numK x)) ∧ Below w.heap.size w w' := by
  have k1 := Blk.new w (kwC x) 48
  have B0 := (Below.refl w.heap.size w).alloc (Nat.le_refl _) (.cells (kwC x) 48)
  have q0 : (w.alloc (.cells (kwC x) 48)).cell? ⟨w.heap.size, 0, none⟩ = some (.int .i64 (numK x)) := k1.cell 0
  clear k1
  generalize numK x = z at *
  unfold kwV
  go_enter Try.func57, Try.ntmps57
  go_wp2
  go_ret
  exact ⟨rfl, B0⟩
theorem place1_K (x : Kw) (n : Int) (g : Nat) (w : World) (hg : Blk w g #[.func (.func 57) #[] #[]] 79) : Calls Try.prog 93 #[kwV x, .int .i64 n, .pointer (some ⟨g, 0, none⟩)] w fun e w' => e = .returned (.int .i64 (cmpZ (numK x) n)) ∧ Below w.heap.size w w' := by
  have k1 := Blk.new w (kwC x) 48
  have B0 := (Below.refl w.heap.size w).alloc (Nat.le_refl _) (.cells (kwC x) 48)
  have q0 : (w.alloc (.cells (kwC x) 48)).cell? ⟨g, 0, none⟩ = some (.func (.func 57) #[] #[]) := (hg.alloc _).cell 0
  have ec := enters_of Try.func57 (by kernel_rfl) rfl
  have NU := num_K x (w.alloc (.cells (kwC x) 48))
  unfold kwV at *
  go_enter Try.func93, Try.ntmps93
  go_wp2_with (first
    | (refine wpList_load_row rfl 48 (.tmp 3) rfl w.heap.size rfl 48 (kwC x) (0, 0) _ k1.blk Try.underlying48 rfl (kw_inf x) ?_)
    | (refine NU.mono ?_
       clear NU
       rintro e w1 ⟨rfl, b1⟩)
    | (refine (compare_tk _ _ _).mono ?_; rintro e w' ⟨rfl, rfl⟩))
  go_ret
  exact ⟨rfl, B0.trans (b1.mono B0.size)⟩
def numsK (L : List Kw) : List Int := L.map numK
theorem nums_getDK {L : List Kw} {k : Nat} (hk : k < L.length) : (numsK L).getD k 0 = numK (L.getD k kw0) := by simp [numsK, List.getD, hk]
set_option maxRecDepth 100000 in
set_option maxHeartbeats 4000000 in
theorem bsf_K (A : Option Addr) (m c : Nat) (L : List Kw) (n : Int) (g : Nat) (w : World) (hP : RsK w w.heap.size A L) (hg : Blk w g #[.func (.func 57) #[] #[]] 79) (hm : m = L.length) (h6 : m ≤ 1000000) (hu : (numsK L).Pairwise (· < ·)) :
    Calls Try.prog 92 #[.slice A m c, .int .i64 n, .func (.func 93) #[] #[.pointer (some ⟨g, 0, none⟩)]] w fun e w' => e = .returned (.tuple #[.int .i64 (lessP (numsK L) n), .bool ((numsK L).contains n)]) ∧ Below w.heap.size w w' := by
  have HM := Lib.hid hm
  have HU := Lib.hid hu
  have hli : (numsK L).length = m := by rw [hm]; simp [numsK]
  have HLI := Lib.hid hli
  clear hm hu hli
  have ec := enters_of Try.func93 (by kernel_rfl) rfl
  obtain ⟨R, hR⟩ : ∃ R, lessP (numsK L) n = R := ⟨_, rfl⟩
  obtain ⟨CT, hCT⟩ : ∃ R, (numsK L).contains n = R := ⟨_, rfl⟩
  rw [hR, hCT]
  have HR := Lib.hid hR
  have HC := Lib.hid hCT
  clear hR hCT
  go_enter Try.func92, Try.ntmps92
  go_wp2_with fail
  go_loopw [9, 10] (fun iv jv wr' => ∃ (i j : Nat) (wr : World), wr = wr' ∧ i ≤ j ∧ j ≤ m ∧ iv = .int .i64 i ∧ jv = .int .i64 j ∧ Hid (∀ k, k < i → (numsK L).getD k 0 < n) ∧ Hid (∀ k, j ≤ k → k < m → n ≤ (numsK L).getD k 0) ∧ Below w.heap.size w wr) (fun iv jv _ => (intOf jv).toNat - (intOf iv).toNat)
  case atStart => exact ⟨0, m, _, rfl, Nat.zero_le _, Nat.le_refl _, rfl, rfl, Lib.hid (fun k hk => absurd hk (Nat.not_lt_zero k)), Lib.hid (fun k h1 h2 => absurd h1 (by omega)), Below.refl _ _⟩
  case round =>
    obtain ⟨i, j, wr, hwr, hij, hjm, rfl, rfl, H1, H2, hB⟩ := hrel
    subst hwr
    by_cases hlt : i < j
    · have hlt' : (i : Int) < (j : Int) := by omega
      obtain ⟨h, hh⟩ : ∃ h : Nat, h = (i + j) / 2 := ⟨_, rfl⟩
      have hb1 : i ≤ h := by omega
      have hb2 : h < j := by omega
      have HH := Lib.hid hh
      clear hh
      have hmid : ((i : Int) + (j : Int)) / 2 = (h : Int) := by have := HH.out; omega
      have hlm : (h : Int) < (m : Int) := by omega
      have hhl : h < L.length := by have := HM.out; omega
      obtain ⟨b, off, rfl, hb, hc⟩ := (hP.below hB (Nat.le_refl _)) h hhl
      have hgd := nums_getDK hhl
      have HGD := Lib.hid hgd
      clear hgd
      generalize L.getD h kw0 = x at hc HGD
      have PL := Lib.hid (place1_K x n g wr (hg.below hB hg.lt))
      unfold kwV at PL
      by_cases hx : numK x < n
      · have hcv : cmpZ (numK x) n = -1 := by unfold cmpZ; rw [if_pos hx]
        rw [hcv] at PL
        have HX := Lib.hid hx
        clear hcv hx
        go_wp2_with (first
          | (refine wpList_load_mid rfl 48 (.tmp 27) rfl b (off + h * 3) rfl (kwC x).toList _ hc Try.underlying48 rfl (kw_infL x) ?_)
          | (refine PL.out.mono ?_
             clear PL
             rintro e w1 ⟨rfl, bb⟩
             go_wp2_with fail))
        go_roundw
        case rel =>
          refine ⟨h + 1, j, _, rfl, by omega, hjm, by go_num, rfl, Lib.hid (fun k hk => ?_), H2, hB.trans (bb.mono hB.size)⟩
          rcases Nat.lt_succ_iff_lt_or_eq.1 hk with h3 | rfl
          · have := up_getD HU.out h3 (by rw [HLI.out]; omega)
            have h4 := HGD.out
            have h5 := HX.out
            omega
          · have h4 := HGD.out
            have h5 := HX.out
            omega
        case measure => simp [intOf]; omega
      · have hcv : ¬ cmpZ (numK x) n < 0 := by unfold cmpZ; rw [if_neg hx]; split <;> omega
        have hcd : decide (cmpZ (numK x) n < 0) = false := decide_eq_false hcv
        generalize cmpZ (numK x) n = cz at PL hcd
        have HX := Lib.hid hx
        clear hcv hx
        go_wp2_with (first
          | (refine wpList_load_mid rfl 48 (.tmp 27) rfl b (off + h * 3) rfl (kwC x).toList _ hc Try.underlying48 rfl (kw_infL x) ?_)
          | (refine PL.out.mono ?_
             clear PL
             rintro e w1 ⟨rfl, bb⟩
             go_wp2_with fail))
        go_roundw
        case rel =>
          refine ⟨i, h, _, rfl, hb1, by omega, rfl, rfl, H1, Lib.hid (fun k h3 h4 => ?_), hB.trans (bb.mono hB.size)⟩
          have h5 := HGD.out
          have h6 := HX.out
          rcases Nat.lt_or_ge h k with h7 | h7
          · have := up_getD HU.out h7 (by rw [HLI.out]; omega)
            omega
          · obtain rfl : k = h := by omega
            omega
        case measure => simp [intOf]; omega
    · obtain rfl : i = j := by omega
      have hl0 : lessP (numsK L) n = i := less_at (by rw [HLI.out]; exact hjm) H1.out (fun k h1 h2 => H2.out k h1 (by rw [← HLI.out]; exact h2))
      have HL0 := Lib.hid hl0
      clear hl0
      by_cases him : i < m
      · have him' : (i : Int) < (m : Int) := by omega
        have hil : i < L.length := by have := HM.out; omega
        obtain ⟨b, off, rfl, hb, hc⟩ := (hP.below hB (Nat.le_refl _)) i hil
        have hgd := nums_getDK hil
        have HGD := Lib.hid hgd
        clear hgd
        generalize L.getD i kw0 = x at hc HGD
        have PL := Lib.hid (place1_K x n g wr (hg.below hB hg.lt))
        unfold kwV at PL
        have hct : (numsK L).contains n = (cmpZ (numK x) n == 0) := by
          have h5 := HGD.out
          have h2 := H2.out i (Nat.le_refl _) him
          rw [h5] at h2
          unfold cmpZ
          rw [if_neg (by omega)]
          by_cases hx : n < numK x
          · rw [if_pos hx]
            have hn : n ∉ numsK L := fun hmem => by
              obtain ⟨k, hk, e⟩ := List.getElem_of_mem hmem
              have e2 : (numsK L).getD k 0 = n := by simpa [List.getD, hk] using e
              rw [HLI.out] at hk
              rcases Nat.lt_trichotomy k i with h3 | h3 | h3
              · have := H1.out k h3; omega
              · rw [h3, h5] at e2; omega
              · have := up_getD HU.out h3 (by rw [HLI.out]; exact hk); omega
            simpa using hn
          · rw [if_neg hx]
            have e : n = (numsK L).getD i 0 := by omega
            have hmem : n ∈ numsK L := by
              rw [e]
              have hk : i < (numsK L).length := by rw [HLI.out]; exact him
              rw [show (numsK L).getD i 0 = (numsK L)[i] by simp [List.getD, hk]]
              exact List.getElem_mem hk
            simpa using hmem
        generalize cmpZ (numK x) n = cz at PL hct
        have HCT := Lib.hid hct
        clear hct
        go_wp2_with (first
          | (refine wpListG_load_mid (by rfl) 48 (.tmp 43) rfl b (off + i * 3) rfl (kwC x).toList _ hc Try.underlying48 rfl (kw_infL x) ?_)
          | (refine PL.out.mono ?_
             clear PL
             rintro e w1 ⟨rfl, bb⟩
             go_wp2_with fail))
        refine bodyPost_ret (results_tmp2 rfl _ _ _) rfl ?_
        exact ⟨by rw [← HR.out, HL0.out, ← HC.out, HCT.out]; cases (cz == 0) <;> rfl, hB.trans (bb.mono hB.size)⟩
      · have him' : decide ((i : Int) < (m : Int)) = false := by simp; omega
        have hct : (numsK L).contains n = false := by
          have hn : n ∉ numsK L := fun hmem => by
            obtain ⟨k, hk, e⟩ := List.getElem_of_mem hmem
            have e2 : (numsK L).getD k 0 = n := by simpa [List.getD, hk] using e
            rw [HLI.out] at hk
            have := H1.out k (by omega)
            omega
          simpa using hn
        have HCT := Lib.hid hct
        clear hct
        go_wp2_with fail
        refine bodyPost_ret (results_tmp2 rfl _ _ _) rfl ?_
        exact ⟨by rw [← HR.out, HL0.out, ← HC.out, HCT.out]; rfl, hB⟩
set_option maxRecDepth 100000 in
theorem place_K (A : Option Addr) (m c : Nat) (L : List Kw) (n : Int) (w : World) (hP : RsK w w.heap.size A L) (hm : m = L.length) (h6 : m ≤ 1000000) (hu : (numsK L).Pairwise (· < ·)) :
    Calls Try.prog 78 #[.slice A m c, .int .i64 n, .func (.func 57) #[] #[]] w fun e w' => e = .returned (.tuple #[.int .i64 (lessP (numsK L) n), .bool ((numsK L).contains n)]) ∧ Below w.heap.size w w' := by
  have k1 := Blk.new w #[.func (.func 57) #[] #[]] 79
  have B0 := (Below.refl w.heap.size w).alloc (Nat.le_refl _) (.cells #[.func (.func 57) #[] #[]] 79)
  have BS := Lib.hid (bsf_K A m c L n w.heap.size _ ((hP.below B0 (Nat.le_refl _)).more B0.size) k1 hm h6 hu)
  generalize lessP (numsK L) n = k at BS ⊢
  generalize (numsK L).contains n = ct at BS ⊢
  clear hm hu k1
  go_enter Try.func78, Try.ntmps78
  go_wp2_with (first | (refine BS.out.mono ?_; rintro e w1 ⟨rfl, bb⟩))
  refine bodyPost_ret (results_tmp2 rfl _ _ _) rfl ?_
  exact ⟨rfl, B0.trans (bb.mono B0.size)⟩
set_option maxRecDepth 100000 in
set_option maxHeartbeats 4000000 in
theorem rise_K (A : Option Addr) (m c : Nat) (L : List Kw) (t : Int) (w : World) (hP : RsK w w.heap.size A L) (hm : m = L.length) (h6 : m ≤ 1000000) :
    Calls Try.prog 56 #[.slice A m c, .int .i64 t, .func (.func 57) #[] #[]] w fun e w' => e = .returned (.bool (riseT t 0 (numsK L))) ∧ Below w.heap.size w w' := by
  have B0 := Below.refl w.heap.size w
  have ec := enters_of Try.func57 (by kernel_rfl) rfl
  have HM := Lib.hid hm
  clear hm
  obtain ⟨E, hE⟩ : ∃ E, riseT t 0 (numsK L) = E := ⟨_, rfl⟩
  rw [hE]
  go_enter Try.func56, Try.ntmps56
  go_wp2_with fail
  go_loopw [7, 12] (fun p i wr' => ∃ (k : Nat) (p0 : Int) (wr : World), wr = wr' ∧ k ≤ m ∧ i = .int .i64 k ∧ p = .int .i64 p0 ∧ Hid (E = riseT t p0 (numsK (L.drop k))) ∧ Below w.heap.size w wr) (fun _ i _ => m - (intOf i).toNat)
  case atStart => exact ⟨0, 0, _, rfl, Nat.zero_le _, rfl, rfl, Lib.hid (by rw [List.drop_zero, hE]), B0⟩
  case round =>
    clear B0 hE
    obtain ⟨k, p0, wr, hwr, hk, rfl, rfl, HI, hB⟩ := hrel
    subst hwr
    by_cases hlt : k < m
    · have hlt' : (k : Int) < (m : Int) := by omega
      have hkl : k < L.length := by have := HM.out; omega
      obtain ⟨b, off, rfl, hb, hc⟩ := (hP.below hB (Nat.le_refl _)) k hkl
      have hst : numsK (L.drop k) = numK (L.getD k kw0) :: numsK (L.drop (k + 1)) := by
        rw [List.drop_eq_getElem_cons hkl, show L.getD k kw0 = L[k] by simp [List.getD, hkl]]
        rfl
      have hI := HI.out
      rw [hst, riseT] at hI
      clear hst HI
      generalize L.getD k kw0 = x at hc hI
      have hs3 : (kwC x).size = 3 := kw_size x
      have NU := Lib.hid (fun V => num_K x V)
      generalize numK x = z at NU hI
      unfold kwV at NU
      cases h1 : decide (p0 < z)
      · rw [h1, Bool.false_and] at hI
        have h1' : decide (z ≤ p0) = true := by simp at h1 ⊢; omega
        have HI := Lib.hid hI
        clear hI h1
        go_wp2_with (first
          | (refine wpList_load_mid rfl 48 (.tmp 14) rfl b (off + k * 3) rfl (kwC x).toList _ hc Try.underlying48 rfl (kw_infL x) ?_)
          | (refine wpList_store_blk rfl 48 (.tmp 9) (.tmp 15) rfl wr.heap.size (kwC kw0) (kwC x) 48 rfl rfl (Blk.new _ _ _) rfl (kw_inf x) (kw_one x) ?_
             intro w1 h1 n1
             have bb : Below wr.heap.size wr w1 := ((Below.refl _ wr).alloc (Nat.le_refl _) _).trans (n1.below _ (Nat.le_refl _) (by simp))
             have hB1 := hB.trans (bb.mono hB.size)
             clear bb n1 hc)
          | (refine wpList_load_row rfl 48 (.tmp 9) rfl wr.heap.size rfl 48 (kwC x) (0, 0) _ h1.blk Try.underlying48 rfl (kw_inf x) ?_)
          | (refine (NU.out _).mono ?_
             rintro e w2 ⟨rfl, bb⟩
             have hB2 := hB1.trans (bb.mono hB1.size)
             clear bb))
        go_ret
        exact ⟨by rw [HI.out]; rfl, hB2⟩
      · rw [h1, Bool.true_and] at hI
        have h1' : decide (z ≤ p0) = false := by simp at h1 ⊢; omega
        cases h2 : decide (z ≤ t)
        · rw [h2, Bool.false_and] at hI
          have h2' : decide (t < z) = true := by simp at h2 ⊢; omega
          have HI := Lib.hid hI
          clear hI h1 h2
          go_wp2_with (first
            | (refine wpList_load_mid rfl 48 (.tmp 14) rfl b (off + k * 3) rfl (kwC x).toList _ hc Try.underlying48 rfl (kw_infL x) ?_)
            | (refine wpList_store_blk rfl 48 (.tmp 9) (.tmp 15) rfl wr.heap.size (kwC kw0) (kwC x) 48 rfl rfl (Blk.new _ _ _) rfl (kw_inf x) (kw_one x) ?_
               intro w1 h1 n1
               have bb : Below wr.heap.size wr w1 := ((Below.refl _ wr).alloc (Nat.le_refl _) _).trans (n1.below _ (Nat.le_refl _) (by simp))
               have hB1 := hB.trans (bb.mono hB.size)
               clear bb n1 hc)
            | (refine wpList_load_row rfl 48 (.tmp 9) rfl wr.heap.size rfl 48 (kwC x) (0, 0) _ h1.blk Try.underlying48 rfl (kw_inf x) ?_)
            | (refine wpListG_load (by rfl) 48 (.tmp 9) rfl wr.heap.size rfl 48 (kwC x) _ h12 Try.underlying48 rfl (kw_inf x) ?_)
            | (refine (NU.out _).mono ?_
               rintro e w2 ⟨rfl, bb⟩
               have h12 := h1.below bb h1.lt
               have hB2 := hB1.trans (bb.mono hB1.size)
               clear bb h1 hB1)
            | (refine (NU.out _).mono ?_
               rintro e w3 ⟨rfl, bb⟩
               have h13 := h12.below bb h12.lt
               have hB3 := hB2.trans (bb.mono hB2.size)
               clear bb h12 hB2))
          go_ret
          exact ⟨by rw [HI.out]; rfl, hB3⟩
        · rw [h2, Bool.true_and] at hI
          have h2' : decide (t < z) = false := by simp at h2 ⊢; omega
          have HI := Lib.hid hI
          clear hI h1 h2
          go_wp2_with (first
            | (refine wpList_load_mid rfl 48 (.tmp 14) rfl b (off + k * 3) rfl (kwC x).toList _ hc Try.underlying48 rfl (kw_infL x) ?_)
            | (refine wpList_store_blk rfl 48 (.tmp 9) (.tmp 15) rfl wr.heap.size (kwC kw0) (kwC x) 48 rfl rfl (Blk.new _ _ _) rfl (kw_inf x) (kw_one x) ?_
               intro w1 h1 n1
               have bb : Below wr.heap.size wr w1 := ((Below.refl _ wr).alloc (Nat.le_refl _) _).trans (n1.below _ (Nat.le_refl _) (by simp))
               have hB1 := hB.trans (bb.mono hB.size)
               clear bb n1 hc)
            | (refine wpList_load_row rfl 48 (.tmp 9) rfl wr.heap.size rfl 48 (kwC x) (0, 0) _ h1.blk Try.underlying48 rfl (kw_inf x) ?_)
            | (refine wpListG_load (by rfl) 48 (.tmp 9) rfl wr.heap.size rfl 48 (kwC x) _ h12 Try.underlying48 rfl (kw_inf x) ?_)
            | (refine wpList_load_row rfl 48 (.tmp 9) rfl wr.heap.size rfl 48 (kwC x) (0, 0) _ h13.blk Try.underlying48 rfl (kw_inf x) ?_)
            | (refine (NU.out _).mono ?_
               rintro e w2 ⟨rfl, bb⟩
               have h12 := h1.below bb h1.lt
               have hB2 := hB1.trans (bb.mono hB1.size)
               clear bb h1 hB1)
            | (refine (NU.out _).mono ?_
               rintro e w3 ⟨rfl, bb⟩
               have h13 := h12.below bb h12.lt
               have hB3 := hB2.trans (bb.mono hB2.size)
               clear bb h12 hB2)
            | (refine (NU.out _).mono ?_
               rintro e w4 ⟨rfl, bb⟩
               have hB4 := hB3.trans (bb.mono hB3.size)
               clear bb h13 hB3))
          go_roundw
          case rel => exact ⟨k + 1, z, _, rfl, by omega, by go_num, rfl, HI, hB4⟩
          case measure => simp [intOf]; omega
    · obtain rfl : k = m := by omega
      have hI := HI.out
      rw [List.drop_of_length_le (by have := HM.out; omega)] at hI
      have HI := Lib.hid hI
      clear hI
      go_wp2_with fail
      go_ret
      exact ⟨by rw [HI.out]; rfl, hB⟩
end Go.Proofs.Ytolalbpjaebfdaa
namespace Go.Proofs.Ytolalbpjaebfdaa
open Go.RowKit Go.Shelf
set_option linter.unusedVariables false
set_option linter.unusedSimpArgs false
def putG {α : Type} (num : α → Int) (x : α) : Bool → List α → List α
  | put, [] => if put = true then [] else [x]
  | put, y :: l => (if (!put && decide (num x ≤ num y)) = true then [x] else []) ++ ((if (num y != num x) = true then [y] else []) ++ putG num x (put || decide (num x ≤ num y)) l)
end Go.Proofs.Ytolalbpjaebfdaa
