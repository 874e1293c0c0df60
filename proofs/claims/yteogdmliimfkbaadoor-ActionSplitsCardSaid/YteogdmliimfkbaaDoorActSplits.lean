/-
  ActionSplits: what words say, and which verdicts are words: the walk.
-/
import Derived.Test.YteogdmliimfkbaaDoorActBack
import Derived.Test.YteogdmliimfkbaaDoorActO
namespace Go.Proofs.YteogdmliimfkbaaDoor
open Go.RowKit
set_option linter.unusedVariables false

set_option maxRecDepth 100000 in
set_option maxHeartbeats 8000000 in
theorem actionSplits_any (A A1 : Option Addr) (n c n1 c1 : Nat) (z : List Int) (f1 : Nat → Int × Int) (w : World) (hK : Acts w) (hR : Ru w w.heap.size A z) (hn : n = z.length) (hnc : n ≤ c) (hV : Vers w w.heap.size A1 n1 f1) (hn1 : n1 ≤ 9223372036854775807) :
    Calls Tryd.prog 3 #[.slice A n c, .slice A1 n1 c1] w fun e w' => e = .returned (.bool true) ∧ Below w.heap.size w w' := by
  have hpos := hK.pos
  have HN := Lib.hid hn
  clear hn
  go_enter Tryd.func3, Tryd.ntmps3
  go_wp2_with fail
  refine (wakes_any _ hK).mono ?_
  rintro e w1 ⟨rfl, b1⟩
  have K1 := hK.below b1 hpos
  obtain ⟨m, hm⟩ : ∃ m, m = min n 40 := ⟨_, rfl⟩
  have HF := few_any A n c z w1 ((hR.below b1 (Nat.le_refl _)).more b1.size) HN.out hnc m hm
  have hm40 : m ≤ 40 := by omega
  clear hm
  go_wp2_with fail
  refine HF.mono ?_
  rintro e w2 ⟨A', c', rfl, ho, b2⟩
  have hl2 : ∀ y ∈ z.take m, 0 ≤ y ∧ y < 4294967296 := fun y hy => hR.1 y (List.mem_of_mem_take hy)
  obtain ⟨R2, hmc, hml⟩ := ru_of_own ho hl2
  have K2 := K1.below b2 K1.pos
  have B2 := b1.trans (b2.mono b1.size)
  generalize z.take m = L at R2 hml hl2 ho
  have HL := Lib.hid hml
  clear hml ho HF b1 b2 K1
  go_wp2_with fail
  go_loopw [16] (fun i wr => ∃ k : Nat, k ≤ m ∧ i = .int .i64 k ∧ Below w2.heap.size w2 wr) (fun i _ => m - (intOf i).toNat)
  case atStart => exact ⟨0, Nat.zero_le _, rfl, Below.refl _ _⟩
  case round =>
    obtain ⟨k, hk, rfl, hB⟩ := hrel
    have Kr := K2.below hB K2.pos
    have Rr := R2.below hB (Nat.le_refl _)
    have hsr := hB.size
    by_cases hlt : k < m
    · have hlt' : (k : Int) < m := by omega
      have hkl : k < L.length := by have := HL.out; omega
      obtain ⟨b, off, rfl, hb, hc⟩ := Rr.2 k hkl
      have hy := Rr.at_ k hkl
      generalize L.getD k 0 = y at hc hy
      go_wp2_with fail
      refine (split_any y hy.1 hy.2 _ Kr).mono ?_
      rintro e w5 ⟨rfl, b5⟩
      go_wp2_with fail
      refine (splitR_any y hy.1 hy.2 _).mono ?_
      rintro e w6 ⟨rfl, b6⟩
      have K6 := (Kr.below b5 Kr.pos).below b6 (Kr.below b5 Kr.pos).pos
      go_wp2_with fail
      refine (known_any y hy.1 hy.2 _ K6).mono ?_
      rintro e w7 ⟨rfl, rfl⟩
      go_wp2_with fail
      refine (knownR_any y hy.1 hy.2 _).mono ?_
      rintro e w8 ⟨rfl, rfl⟩
      go_wp2_with fail
      go_roundw
      case rel => exact ⟨k + 1, by omega, by go_num, hB.trans ((b5.trans (b6.mono b5.size)).mono hsr)⟩
      case measure => simp [intOf]; omega
    · obtain rfl : k = m := by omega
      clear Rr hlt
      have Br := B2.trans (hB.mono B2.size)
      have hVr := hV.below Br (Nat.le_refl _)
      clear hB hsr K2 B2 R2
      go_wp2_with fail
      obtain ⟨wo, hwo⟩ : ∃ wo : World, wo = wr := ⟨_, rfl⟩
      rw [← hwo] at Kr Br hVr ⊢
      clear hwo
      go_loopw [35] (fun i wr => ∃ k : Nat, k ≤ n1 ∧ k ≤ 20 ∧ i = .int .i64 k ∧ Below wo.heap.size wo wr) (fun i _ => n1 - (intOf i).toNat)
      case atStart => exact ⟨0, Nat.zero_le _, Nat.zero_le _, rfl, Below.refl _ _⟩
      case round =>
        obtain ⟨j, hj, hj20, rfl, hB⟩ := hrel
        have Kj := Kr.below hB Kr.pos
        have Bj := Br.trans (hB.mono Br.size)
        have hsj := hB.size
        by_cases hlt : j < n1
        · have hlt' : (j : Int) < n1 := by omega
          obtain ⟨b, off, rfl, hb, ⟨c0, cc1⟩, d0, d1⟩ := (hVr.below hB Br.size) j hlt
          generalize f1 j = q at c0 cc1 d0 d1
          obtain ⟨a, d⟩ := q
          simp only at c0 cc1 d0 d1
          by_cases h20 : j = 20
          · subst h20
            go_wp2_with fail
            go_ret
            exact ⟨rfl, Bj.alloc (Nat.le_trans Br.size hsj) _⟩
          · have h20' : ((j : Int) == 20) = false := by simp; omega
            have hj' : j + 1 ≤ 20 := by omega
            clear h20
            by_cases ha : a < 0 ∨ 7 < a
            · go_wp2_with fail
              refine (join_no a d ha _).mono ?_
              rintro e w5 ⟨rfl, b5⟩
              have V5 := (Blk.new wr #[.int .i64 a, .int .u16 d] 29).below b5 (by simp)
              have B5 : Below wo.heap.size wo w5 := (hB.alloc hsj _).trans (b5.mono (by simp; omega))
              have q0 := V5.cell 0
              simp only [List.getElem?_toArray, List.getElem?_cons_zero] at q0
              by_cases ha0 : a < 0
              · have t0 : decide (a < 0) = true := by simpa using ha0
                clear ha
                go_wp2_with fail
                go_roundw
                case rel => exact ⟨j + 1, by omega, hj', by go_num, B5⟩
                case measure => simp [intOf]; omega
              · have t0 : decide (a < 0) = false := by simpa using ha0
                have t1 : decide (7 < a) = true := by simpa using ha.resolve_left ha0
                clear ha
                go_wp2_with fail
                go_roundw
                case rel => exact ⟨j + 1, by omega, hj', by go_num, B5⟩
                case measure => simp [intOf]; omega
            · obtain ⟨k, rfl⟩ : ∃ k : Nat, a = k := ⟨a.toNat, by omega⟩
              have hk : k < 8 := by omega
              have t0 : decide ((k : Int) < 0) = false := by simp
              have t1 : decide (7 < (k : Int)) = false := by simp; omega
              have hbd := hAt_bd k
              go_wp2_with fail
              refine (join_yes k d hk d0 d1 _ (Kj.alloc _)).mono ?_
              rintro e w5 ⟨rfl, b5⟩
              have V5 := (Blk.new wr #[.int .i64 k, .int .u16 d] 29).below b5 (by simp)
              have B5 : Below wo.heap.size wo w5 := (hB.alloc hsj _).trans (b5.mono (by simp; omega))
              have q0 := V5.cell 0
              have q1 := V5.cell 1
              simp only [List.getElem?_toArray, List.getElem?_cons_zero, List.getElem?_cons_succ] at q0 q1
              go_wp2_with fail
              go_quiet ((go_at_call 15; exact Calls.quiet_of_same (half_any k hk _)))
              go_wp2_with fail
              go_roundw
              case rel => exact ⟨j + 1, by omega, hj', by go_num, below_drewN B5 _⟩
              case measure => simp [intOf]; omega
        · obtain rfl : j = n1 := by omega
          go_wp2_with fail
          go_ret
          exact ⟨rfl, Bj⟩
end Go.Proofs.YteogdmliimfkbaaDoor
