/-
  The reference: Free, Take.
-/
import Derived.Test.YtjbhliabmaipbaaPiRg
namespace Go.Proofs.Ytjbhliabmaipbaa
open Go.RowKit Go.Shelf
set_option linter.unusedVariables false
set_option linter.unusedSimpArgs false

def rfreeV (a : Int) (l : List Int) (x : Int) : Int × List Int × Int := if l.contains x then (a, l.filter (fun y => y != x), 0) else (0, [], 4)
theorem filter_take {l : List Int} {k : Nat} (f : Int → Bool) (h : k < l.length) : (l.take (k + 1)).filter f = if f (l.getD k 0) then (l.take k).filter f ++ [l.getD k 0] else (l.take k).filter f := by
  have e : l.getD k 0 = l[k] := by simp [List.getD, h]
  rw [List.take_succ_eq_append_getElem h, List.filter_append, e]
  by_cases hf : f l[k] = true
  · rw [if_pos hf, List.filter_cons_of_pos hf]; rfl
  · rw [if_neg hf, List.filter_cons_of_neg hf]; simp
theorem pd_set1 (a : Int) (A A' : Option Addr) (m c m' c' : Nat) : (pdC a A m c).setIfInBounds 1 (.slice A' m' c') = pdC a A' m' c' := rfl
set_option maxRecDepth 100000 in
set_option maxHeartbeats 8000000 in
theorem rfree_pid (a : Int) (A : Option Addr) (m c : Nat) (l : List Int) (x : Int) (w : World) (hA : Ri7 w w.heap.size A l) (hm : m = l.length) (h6 : m ≤ 100000) :
    Calls Try.prog 13 #[pdV a A m c, .int .i64 x] w fun e w' => ∃ A' m' c' a' l' er, e = .returned (.tuple #[pdV a' A' m' c', .int .i64 er]) ∧ Zo w' w.heap.size A' m' c' l' ∧ rfreeV a l x = (a', l', er) ∧ Below w.heap.size w w' := by
  have k1 := (Blk.new w (pdC a A m c) 24).alloc (.cells (pdC 0 none 0 0) 24)
  have k2 := Blk.new_ (w.alloc (.cells (pdC a A m c) 24)) (pdC 0 none 0 0) 24 (n := w.heap.size + 1) (by simp)
  have B0 := ((Below.refl w.heap.size w).alloc (Nat.le_refl _) (.cells (pdC a A m c) 24)).alloc (by simp) (.cells (pdC 0 none 0 0) 24)
  have CK := rhas_pid a A m c l x _ ((hA.below B0 (Nat.le_refl _)).more B0.size) hm (by omega)
  obtain ⟨ct, hct⟩ : ∃ ct, l.contains x = ct := ⟨_, rfl⟩
  rw [hct] at CK
  have HM := Lib.hid hm
  have HC := Lib.hid hct
  clear hm hct
  unfold pdV at CK ⊢
  go_enter Try.func13, Try.ntmps13
  go_wp2_with (refine wpList_load_row rfl 24 (.tmp 2) rfl w.heap.size rfl 24 (pdC a A m c) (0, 0) _ k1.blk Try.underlying24 rfl (pd_inf a A m c) ?_)
  refine CK.mono ?_
  rintro e w1 ⟨rfl, bb⟩
  have k11 := k1.below bb k1.lt
  have k21 := k2.below bb k2.lt
  have b1 := B0.trans (bb.mono B0.size)
  clear CK k1 k2 B0 bb
  cases ct
  · go_wp2_with (refine wpList_store_blk rfl 24 (.tmp 4) (.tmp 13) rfl (w.heap.size + 1) (pdC 0 none 0 0) (pdC 0 none 0 0) 24 rfl rfl k21 rfl (pd_inf _ _ _ _) (pd_one _ _ _ _) ?_; intro w5 h5 n5)
    refine bodyPost_ret (results_row_tmp rfl _ _ (w.heap.size + 1) 24 (pdC 0 none 0 0) (0, 0) _ rfl h5.blk Try.underlying24 rfl (pd_inf _ _ _ _) _ rfl) rfl ?_
    refine ⟨none, 0, 0, 0, [], 4, rfl, zo_nil _ _, ?_, b1.trans (n5.below _ (by omega) b1.size)⟩
    unfold rfreeV
    rw [HC.out]; rfl
  · have q0 : w1.cell? ⟨w.heap.size, 0, none⟩ = some (.int .i64 a) := k11.cell 0
    go_wp2_with (first
      | (refine wpList_store_blk rfl 24 (.tmp 6) (.tmp 16) rfl w1.heap.size (pdC 0 none 0 0) (pdC a none 0 0) 24 rfl rfl (Blk.new _ _ _) rfl (pd_inf _ _ _ _) (pd_one _ _ _ _) ?_
         intro w2 k32 n2
         have bb : Below w1.heap.size w1 w2 := new_blk n2
         have k12 := k11.below bb k11.lt
         have k22 := k21.below bb k21.lt
         have b2 := b1.trans (bb.mono b1.size)
         have hs0 : w.heap.size + 1 < w1.heap.size := k21.lt
         have q1 : w2.cell? ⟨w.heap.size, 1, none⟩ = some (.slice A m c) := k12.cell 1
         clear n2))
    have HS := Lib.hid (show w1.heap.size < w2.heap.size from k32.lt)
    have HS0 := Lib.hid hs0
    clear hs0 bb k11 k21 b1 q0
    go_loopw [20] (fun i wr' => ∃ (k : Nat) (wr : World) (A5 : Option Addr) (m5 c5 : Nat), wr = wr' ∧ k ≤ m ∧ i = .int .i64 k ∧ Blk wr w1.heap.size (pdC a A5 m5 c5) 24 ∧ Blk wr (w.heap.size + 1) (pdC 0 none 0 0) 24 ∧ Hid (Zo wr w2.heap.size A5 m5 c5 ((l.take k).filter (fun y => y != x))) ∧ Below w.heap.size w wr ∧ w2.heap.size ≤ wr.heap.size) (fun i _ => m - (intOf i).toNat)
    case atStart => exact ⟨0, _, none, 0, 0, rfl, Nat.zero_le _, rfl, k32, k22, Lib.hid (by simpa using zo_nil _ _), b2, Nat.le_refl _⟩
    case round =>
      clear k32 k22 b2 k12 q1
      obtain ⟨k, wr, A5, m5, c5, hwr, hk, rfl, k3, k2, HZ, hB, hsr⟩ := hrel
      subst hwr
      by_cases hlt : k < m
      · have hlt' : (k : Int) < (m : Int) := by omega
        have hkl : k < l.length := by have := HM.out; omega
        obtain ⟨b, off, rfl, hb, hc⟩ := hA.below hB (Nat.le_refl _) k hkl
        have hft := filter_take (fun y => y != x) hkl
        generalize l.getD k 0 = y at hc hft
        have hle : ((l.take k).filter (fun y => y != x)).length ≤ k := Nat.le_trans (List.length_filter_le _ _) (by rw [List.length_take]; omega)
        cases hyx : (y != x)
        · rw [if_neg (by rw [hyx]; decide)] at hft
          have HF := Lib.hid hft
          clear hft hle hkl
          go_wp2_with fail
          go_roundw
          case rel => exact ⟨k + 1, _, A5, m5, c5, rfl, by omega, by go_num, k3, k2, Lib.hid (by rw [HF.out]; exact HZ.out), hB, hsr⟩
          case measure => simp [intOf]; omega
        · rw [if_pos (by rw [hyx])] at hft
          have HF := Lib.hid hft
          have hm5 := HZ.out.len
          have HM5 := Lib.hid (show m5 + 1 ≤ 1000000 by omega)
          have q1 : wr.cell? ⟨w1.heap.size, 1, none⟩ = some (.slice A5 m5 c5) := k3.cell 1
          have ba : Below wr.heap.size wr (wr.alloc (.cells #[.int .i64 y] 3)) := (Below.refl _ _).alloc (Nat.le_refl _) _
          have hnb : (wr.alloc (.cells #[.int .i64 y] 3)).cell? ⟨wr.heap.size, 0, none⟩ = some (.int .i64 y) := (Blk.new wr #[.int .i64 y] 3).cell 0
          have z1 := HZ.out.below ba (Nat.le_refl _)
          have k31 := k3.below ba k3.lt
          have k21 := k2.below ba k2.lt
          have hB1 := hB.trans (ba.mono hB.size)
          have hs1 : w2.heap.size ≤ (wr.alloc (.cells #[.int .i64 y] 3)).heap.size := Nat.le_trans hsr ba.size
          clear hft hle hkl hm5 ba
          go_wp2_with (first
            | (refine wpList_app1Z rfl (.tmp 28) (.tmp 30) rfl w2.heap.size A5 m5 c5 _ rfl z1 wr.heap.size y rfl hnb HM5.out hs1 ?_
               intro A6 c6 V2 z2 bb
               have k32 := k31.below bb HS.out
               have k22 := k21.below bb (by have := HS.out; have := HS0.out; omega)
               have hB2 := hB1.trans (bb.mono (by have := HS.out; have := HS0.out; omega))
               have hs2 := Nat.le_trans hs1 bb.size
               have q2 : V2.cell? ⟨w1.heap.size, 1, none⟩ = some (.slice A5 m5 c5) := k32.cell 1
               have f2 := k32.frozen 1
               clear bb))
          have k33 : Blk (V2.setCell ⟨w1.heap.size, 1, none⟩ (.slice A6 (m5 + 1) c6)) w1.heap.size (pdC a A6 (m5 + 1) c6) 24 := k32.set_ 1 (.slice A6 (m5 + 1) c6)
          have k23 := k22.far (p := ⟨w1.heap.size, 1, none⟩) (by have := HS0.out; simp; omega) (.slice A6 (m5 + 1) c6)
          have z3 := zo_far z2 (p := ⟨w1.heap.size, 1, none⟩) HS.out (.slice A6 (m5 + 1) c6)
          have hB3 := hB2.setCell (p := ⟨w1.heap.size, 1, none⟩) (by have := HS0.out; simp; omega) (.slice A6 (m5 + 1) c6)
          go_roundw
          case rel => exact ⟨k + 1, _, A6, m5 + 1, c6, rfl, by omega, by go_num, k33, k23, Lib.hid (by rw [HF.out]; exact z3), hB3, by simpa [World.setCell] using hs2⟩
          case measure => simp [intOf]; omega
      · obtain rfl : k = m := by omega
        have hz := HZ.out
        rw [HM.out, List.take_length] at hz
        have HZ2 := Lib.hid hz
        clear hz HZ
        go_wp2_with (first
          | (refine wpList_load_row rfl 24 (.tmp 6) rfl w1.heap.size rfl 24 (pdC a A5 m5 c5) (0, 0) _ k3.blk Try.underlying24 rfl (pd_inf _ _ _ _) ?_)
          | (refine wpList_store_blk rfl 24 (.tmp 4) (.tmp 34) rfl (w.heap.size + 1) (pdC 0 none 0 0) (pdC a A5 m5 c5) 24 rfl rfl k2 rfl (pd_inf _ _ _ _) (pd_one _ _ _ _) ?_; intro w5 h5 n5))
        refine bodyPost_ret (results_row_tmp rfl _ _ (w.heap.size + 1) 24 (pdC a A5 m5 c5) (0, 0) _ rfl h5.blk Try.underlying24 rfl (pd_inf _ _ _ _) _ rfl) rfl ?_
        have z5 := own_but HZ2.out n5 (zo_apart HZ2.out (by have := HS.out; have := HS0.out; omega))
        refine ⟨A5, m5, c5, a, _, 0, rfl, z5.down (by have := HS.out; have := HS0.out; omega), ?_, hB.trans (n5.below _ (by omega) hB.size)⟩
        unfold rfreeV
        rw [HC.out]; rfl
theorem rfree_eq {a : Int} {l : List Int} {x : Int} (h : Ids a l) : rfreeV a l x = freeV a l x := by
  unfold rfreeV freeV
  rw [if_pos (ids_iff.2 h)]
  by_cases hx : l.contains x = true
  · rw [if_pos hx, if_pos hx, delP_eq h.up (by simpa using hx)]
  · rw [if_neg hx, if_neg hx]
end Go.Proofs.Ytjbhliabmaipbaa
