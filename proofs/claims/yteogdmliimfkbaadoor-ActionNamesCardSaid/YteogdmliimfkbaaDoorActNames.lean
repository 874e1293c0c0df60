/-
  ActionNames: the actions' names: the walk.
-/
import Derived.Test.YteogdmliimfkbaaDoorActBack
import Derived.Test.YteogdmliimfkbaaDoorActO
namespace Go.Proofs.YteogdmliimfkbaaDoor
open Go.RowKit
set_option linter.unusedVariables false

theorem nAt_list (k : Nat) : (nAt k).toList = nL.getD k [] := by unfold nAt; rw [ByteArray.toList_mk]
theorem nAt_inj (i j : Nat) (hi : i < 8) (hj : j < 8) (h : (nAt i).toList = (nAt j).toList) : i = j := by
  have : ∀ i, i < 8 → ∀ j, j < 8 → nL.getD i [] = nL.getD j [] → i = j := by decide
  rw [nAt_list, nAt_list] at h
  exact this i hi j hj h
theorem actN_lt {s : ByteArray} {k : Nat} (e : actN s = some k) : k < 8 := by
  have := List.mem_of_find?_eq_some e
  simpa using this
theorem actN_iff (s : ByteArray) (k : Nat) (hk : k < 8) : actN s = some k ↔ ((nAt k).toList == s.toList) = true := by
  constructor
  · intro e
    exact List.find?_some (p := fun i => (nAt i).toList == s.toList) e
  · intro e
    refine find_at hk (fun i hi => ?_) e
    have e1 : (nAt k).toList = s.toList := by simpa using e
    have : (nAt i).toList ≠ s.toList := fun e' => by have := nAt_inj i k (by omega) hk (e'.trans e1.symm); omega
    simpa using this
/-- The action of that name among the first k. -/
def nK (s : ByteArray) (k : Nat) : Nat × Bool := match actN s with | some j => if j < k then (j, true) else (0, false) | none => (0, false)
theorem nK_zero (s : ByteArray) : nK s 0 = (0, false) := by unfold nK; cases actN s <;> simp
theorem nK_8 (s : ByteArray) : nK s 8 = ((actN s).getD 0, (actN s).isSome) := by
  unfold nK
  cases e : actN s with
  | none => rfl
  | some j => simp [actN_lt e]
theorem nK_yes (s : ByteArray) (k : Nat) (hk : k < 8) (e : ((nAt k).toList == s.toList) = true) : nK s (k + 1) = (k, true) := by
  unfold nK
  rw [(actN_iff s k hk).2 e]
  simp
theorem nK_no (s : ByteArray) (k : Nat) (hk : k < 8) (e : ((nAt k).toList == s.toList) = false) : nK s (k + 1) = nK s k := by
  have h1 : actN s ≠ some k := fun e' => by rw [(actN_iff s k hk).1 e'] at e; cases e
  unfold nK
  cases e2 : actN s with
  | none => rfl
  | some j =>
    have : j ≠ k := fun e3 => h1 (by rw [e2, e3])
    by_cases hj : j < k
    · simp [hj, show j < k + 1 by omega]
    · simp [hj, show ¬ j < k + 1 by omega]
theorem nAt_ne (k : Nat) (hk : k < 8) : (nAt k).toList.isEmpty = false := by
  have : ∀ k, k < 8 → (nL.getD k []).isEmpty = false := by decide
  rw [nAt_list]
  exact this k hk

set_option maxRecDepth 100000 in
set_option maxHeartbeats 8000000 in
theorem actionNames_any (A A1 : Option Addr) (n c n1 c1 : Nat) (f : Nat → Int) (f1 : Nat → ByteArray) (w : World) (hK : Acts w) (hR : Nums w w.heap.size A n f) (hn : n ≤ 9223372036854775807) (hV : Txts w w.heap.size A1 n1 f1) (hn1 : n1 ≤ 9223372036854775807) :
    Calls Tryd.prog 4 #[.slice A n c, .slice A1 n1 c1] w fun e w' => e = .returned (.bool true) ∧ Below w.heap.size w w' := by
  have hpos := hK.pos
  go_enter Tryd.func4, Tryd.ntmps4
  go_wp2_with fail
  refine (wakes_any _ hK).mono ?_
  rintro e w1 ⟨rfl, b1⟩
  have K1 := hK.below b1 hpos
  have R1 := hR.below b1 (Nat.le_refl _)
  have V1 := hV.below b1 (Nat.le_refl _)
  clear hR hV
  go_wp2_with fail
  go_loopw [20] (fun i wr => ∃ k : Nat, k ≤ n ∧ k ≤ 20 ∧ i = .int .i64 k ∧ wr = w1) (fun i _ => n - (intOf i).toNat)
  case atStart => exact ⟨0, Nat.zero_le _, Nat.zero_le _, rfl, rfl⟩
  case round =>
    obtain ⟨k, hk, hk20, rfl, rfl⟩ := hrel
    by_cases hrun : k < n ∧ k ≠ 20
    · obtain ⟨hlt, h20⟩ := hrun
      have hlt' : (k : Int) < n := by omega
      have h20' : ((k : Int) == 20) = false := by simp; omega
      obtain ⟨b, off, rfl, hb, hc⟩ := R1 k hlt
      generalize f k = a at hc
      have hk' : k + 1 ≤ 20 := by omega
      clear h20
      by_cases ha : a < 0 ∨ 7 < a
      · go_wp2_with fail
        refine (name_no a ha _).mono ?_
        rintro e w5 ⟨rfl, rfl⟩
        go_wp2_with fail
        refine (nameR_no a ha _).mono ?_
        rintro e w6 ⟨rfl, rfl⟩
        go_wp2_with fail
        go_roundw
        case rel => exact ⟨k + 1, by omega, hk', by go_num, trivial⟩
        case measure => simp [intOf]; omega
      · obtain ⟨q, rfl⟩ : ∃ q : Nat, a = q := ⟨a.toNat, by omega⟩
        have hq : q < 8 := by omega
        have hne := nAt_ne q hq
        go_wp2_with fail
        refine (name_yes q hq _ K1).mono ?_
        rintro e w5 ⟨rfl, rfl⟩
        go_wp2_with fail
        refine (nameR_yes q hq _).mono ?_
        rintro e w6 ⟨rfl, rfl⟩
        generalize nAt q = s at hne ⊢
        go_wp2_with fail
        go_roundw
        case rel => exact ⟨k + 1, by omega, hk', by go_num, trivial⟩
        case measure => simp [intOf]; omega
    · have h2 : (((k : Int) == 20) = true ∧ k < n) ∨ k = n := by simp; omega
      clear hrun hk20
      rcases h2 with ⟨h20, hlt⟩ | rfl
      all_goals
        first
          | (obtain ⟨b, off, rfl, hb, hc⟩ := R1 k hlt; have hlt' : (k : Int) < n := by omega
             clear R1 hk
             go_wp2_with fail)
          | (clear R1 hk
             go_wp2_with fail)
        obtain ⟨wo, hwo⟩ : ∃ wo : World, wo = wr := ⟨_, rfl⟩
        rw [← hwo] at V1 K1 b1 ⊢
        clear hwo
        go_loopw [45] (fun i wq => ∃ j : Nat, j ≤ n1 ∧ j ≤ 20 ∧ i = .int .i64 j ∧ wq = wo) (fun i _ => n1 - (intOf i).toNat)
        case atStart => exact ⟨0, Nat.zero_le _, Nat.zero_le _, rfl, rfl⟩
        case round =>
          obtain ⟨j, hj, hj20, rfl, rfl⟩ := hrel
          by_cases hrun : j < n1 ∧ j ≠ 20
          · obtain ⟨hlt1, h20⟩ := hrun
            have hl1 : (j : Int) < n1 := by omega
            have h20' : ((j : Int) == 20) = false := by simp; omega
            obtain ⟨b', off', rfl, hb', hc', hs'⟩ := V1 j hlt1
            generalize f1 j = s at hc' hs'
            unfold maxLen at hs'
            have hj' : j + 1 ≤ 20 := by omega
            clear h20
            by_cases h : s.size ≤ 20
            all_goals
              first
                | (have hi : (s.size : Int) ≤ 20 := by omega
                   go_wp2_with fail)
                | (have hi : (20 : Int) < s.size := by omega
                   go_wp2_with fail
                   generalize s.extract 0 20 = s)
              obtain ⟨wi, hwi⟩ : ∃ wi : World, wi = wr := ⟨_, rfl⟩
              rw [← hwi] at V1 K1 b1 ⊢
              have HWI := Lib.hid hwi
              clear hwi
              go_loopw [11, 12, 57] (fun a b i wq => ∃ q : Nat, q ≤ 8 ∧ i = .int .i64 q ∧ a = .int .i64 ((nK s q).1 : Nat) ∧ b = .bool (nK s q).2 ∧ wq = wi) (fun _ _ i _ => 8 - (intOf i).toNat)
              case atStart => exact ⟨0, Nat.zero_le _, rfl, by rw [nK_zero]; rfl, by rw [nK_zero], rfl⟩
              case round =>
                obtain ⟨q, hq, rfl, rfl, rfl, rfl⟩ := hrel
                by_cases hq8 : q < 8
                · have hq' : (q : Int) < 8 := by omega
                  cases hqs : ((nAt q).toList == s.toList)
                  · have HN := Lib.hid (nK_no s q hq8 hqs)
                    generalize nK s q = N at *
                    go_wp2_with fail
                    refine (nameR_yes q hq8 _).mono ?_
                    rintro e w6 ⟨rfl, rfl⟩
                    go_wp2_with fail
                    go_roundw
                    case rel => exact ⟨q + 1, by omega, by go_num, by rw [HN.out], by rw [HN.out], trivial⟩
                    case measure => simp [intOf]; omega
                  · have HN := Lib.hid (nK_yes s q hq8 hqs)
                    generalize nK s q = N at *
                    go_wp2_with fail
                    refine (nameR_yes q hq8 _).mono ?_
                    rintro e w6 ⟨rfl, rfl⟩
                    go_wp2_with fail
                    go_roundw
                    case rel => exact ⟨q + 1, by omega, by go_num, by rw [HN.out], by rw [HN.out], trivial⟩
                    case measure => simp [intOf]; omega
                · obtain rfl : q = 8 := by omega
                  have hA := action_any s wr K1
                  rw [nK_8] at *
                  generalize (actN s).getD 0 = N0 at *
                  generalize (actN s).isSome = N1 at *
                  go_wp2_with fail
                  refine hA.mono ?_
                  rintro e w6 ⟨rfl, rfl⟩
                  go_wp2_with fail
                  go_roundw
                  case rel => exact ⟨j + 1, by omega, hj', by go_num, HWI.out⟩
                  case measure => simp [intOf]; omega
          · have h2 : (((j : Int) == 20) = true ∧ j < n1) ∨ j = n1 := by simp; omega
            clear hrun hj hj20
            rcases h2 with ⟨h21, hlt1⟩ | rfl
            · obtain ⟨b', off', rfl, hb', hc', hs'⟩ := V1 j hlt1
              have hl1 : (j : Int) < n1 := by omega
              clear V1
              go_wp2_with fail
              go_ret
              exact ⟨rfl, b1⟩
            · clear V1
              go_wp2_with fail
              go_ret
              exact ⟨rfl, b1⟩
end Go.Proofs.YteogdmliimfkbaaDoor
