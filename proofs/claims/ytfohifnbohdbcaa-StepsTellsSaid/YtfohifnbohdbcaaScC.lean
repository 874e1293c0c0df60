/-
  steps.owners, queues.
-/
import Derived.Test.YtfohifnbohdbcaaScS
import Derived.Test.YtfohifnbohdbcaaPlN
namespace Go.Proofs.Ytfohifnbohdbcaa
open Go.RowKit Go.Shelf
attribute [local go_sem] Oper.semAt_some
set_option linter.unusedVariables false
set_option linter.unusedSimpArgs false

/-- A lock's Owner is there, not over, and not in its Queue. -/
def ownB (R : List Rn) (x : Kw) : Bool := livesB R x.1.o && !(x.1.q.contains x.1.o)
set_option maxRecDepth 100000 in
set_option maxHeartbeats 8000000 in
theorem owners_sc (A : Option Addr) (m c : Nat) (R : List Rn) (A2 : Option Addr) (m2 c2 : Nat) (L : List Kw) (w : World) (h : Sc w w.heap.size A m c R A2 m2 c2 L) (hu : UpR R) :
    Calls Try.prog 60 #[scV A m c A2 m2 c2] w fun e w' => e = .returned (.bool (L.all (ownB R))) ∧ Below w.heap.size w w' := by
  have k1 := Blk.new w (scC A m c A2 m2 c2) 25
  have B0 := (Below.refl w.heap.size w).alloc (Nat.le_refl _) (.cells (scC A m c A2 m2 c2) 25)
  have q0 : (w.alloc (.cells (scC A m c A2 m2 c2) 25)).cell? ⟨w.heap.size, 1, none⟩ = some (.slice A2 m2 c2) := k1.cell 1
  have HM := Lib.hid h.len2
  have HL := Lib.hid h.lim2
  have HS := Lib.hid h
  have LV := Lib.hid (fun (id : Int) (V : World) (hV : Below w.heap.size w V) => lives_sc id (h.on hV) hu)
  obtain ⟨E, hE⟩ : ∃ E, L.all (ownB R) = E := ⟨_, rfl⟩
  rw [hE]
  have HE := Lib.hid hE
  have hm6 : m2 ≤ 100000 := h.lim2
  clear hE h hu
  unfold scV at *
  go_enter Try.func60, Try.ntmps60
  go_wp2_with fail
  clear q0
  go_loopw [8] (fun i wr' => ∃ (k : Nat) (wr : World), wr = wr' ∧ k ≤ m2 ∧ i = .int .i64 k ∧ Hid (E = (L.drop k).all (ownB R)) ∧ Below w.heap.size w wr ∧ Blk wr w.heap.size (scC A m c A2 m2 c2) 25) (fun i _ => m2 - (intOf i).toNat)
  case atStart => exact ⟨0, _, rfl, Nat.zero_le _, rfl, Lib.hid (by rw [List.drop_zero, HE.out]), B0, k1⟩
  case round =>
    clear B0 HE k1
    obtain ⟨k, wr, hwr, hk, rfl, HI, hB, kB⟩ := hrel
    subst hwr
    by_cases hlt : k < m2
    · have hlt' : (k : Int) < (m2 : Int) := by omega
      have hkl : k < L.length := by have := HM.out; omega
      obtain ⟨b, off, rfl, hb, hc⟩ := (HS.out.ks.below hB (Nat.le_refl _)) k hkl
      have hq := HS.out.q' hkl
      have hI := HI.out
      rw [List.drop_eq_getElem_cons hkl, List.all_cons, show L[k] = L.getD k kw0 by simp [List.getD, hkl]] at hI
      clear HI hkl
      generalize L.getD k kw0 = x at hc hI hq
      have HQ := Lib.hid hq
      clear hq
      unfold ownB at hI
      have hs3 : (kwC x).size = 3 := kw_size x
      cases h1 : livesB R x.1.o
      · rw [h1, Bool.false_and, Bool.false_and] at hI
        have HI := Lib.hid hI
        clear hI
        go_wp2_with (first
          | (refine wpList_load_mid rfl 48 (.tmp 10) rfl b (off + k * 3) rfl (kwC x).toList _ hc Try.underlying48 rfl (kw_infL x) ?_)
          | (refine wpList_store_blk rfl 48 (.tmp 4) (.tmp 11) rfl wr.heap.size (kwC kw0) (kwC x) 48 rfl rfl (Blk.new _ _ _) rfl (kw_inf x) (kw_one x) ?_
             intro w1 k2 n1
             have bb : Below wr.heap.size wr w1 := ((Below.refl _ wr).alloc (Nat.le_refl _) _).trans (n1.below _ (Nat.le_refl _) (by simp))
             have hB1 := hB.trans (bb.mono hB.size)
             have kB1 := kB.below bb kB.lt
             have q41 : w1.cell? ⟨wr.heap.size, 1, none⟩ = some (.int .i64 x.1.o) := k2.cell 1
             have CL := LV.out x.1.o w1 hB1
             rw [h1] at CL
             clear bb n1 hc)
          | (refine wpList_load_row rfl 25 (.tmp 1) rfl w.heap.size rfl 25 (scC (some ⟨_, _, none⟩) _ _ _ _ _) (0, 0) _ kB1.blk Try.underlying25 rfl (sc_inf _ _ _ _ _ _) ?_)
          | (refine wpList_load_row rfl 25 (.tmp 1) rfl w.heap.size rfl 25 (scC A _ _ _ _ _) (0, 0) _ kB1.blk Try.underlying25 rfl (sc_inf _ _ _ _ _ _) ?_)
          | (refine CL.mono ?_
             clear CL
             rintro e w2 ⟨rfl, bb⟩
             have hB2 := hB1.trans (bb.mono hB1.size)
             clear bb))
        go_ret
        exact ⟨by rw [HI.out]; rfl, hB2⟩
      · rw [h1, Bool.true_and] at hI
        obtain ⟨qc, hqc⟩ : ∃ qc, x.1.q.contains x.1.o = qc := ⟨_, rfl⟩
        rw [hqc] at hI
        have HQC := Lib.hid hqc
        clear hqc
        cases qc
        · rw [Bool.not_false, Bool.true_and] at hI
          have HI := Lib.hid hI
          clear hI
          go_wp2_with (first
            | (refine wpList_load_mid rfl 48 (.tmp 10) rfl b (off + k * 3) rfl (kwC x).toList _ hc Try.underlying48 rfl (kw_infL x) ?_)
            | (refine wpList_store_blk rfl 48 (.tmp 4) (.tmp 11) rfl wr.heap.size (kwC kw0) (kwC x) 48 rfl rfl (Blk.new _ _ _) rfl (kw_inf x) (kw_one x) ?_
               intro w1 k2 n1
               have bb : Below wr.heap.size wr w1 := ((Below.refl _ wr).alloc (Nat.le_refl _) _).trans (n1.below _ (Nat.le_refl _) (by simp))
               have hB1 := hB.trans (bb.mono hB.size)
               have kB1 := kB.below bb kB.lt
               have q41 : w1.cell? ⟨wr.heap.size, 1, none⟩ = some (.int .i64 x.1.o) := k2.cell 1
               have CL := LV.out x.1.o w1 hB1
               rw [h1] at CL
               clear bb n1 hc)
            | (refine wpList_load_row rfl 25 (.tmp 1) rfl w.heap.size rfl 25 (scC A _ _ _ _ _) (0, 0) _ kB1.blk Try.underlying25 rfl (sc_inf _ _ _ _ _ _) ?_)
            | (refine CL.mono ?_
               clear CL
               rintro e w2 ⟨rfl, bb⟩
               have hB2 := hB1.trans (bb.mono hB1.size)
               have kB2 := kB1.below bb kB1.lt
               have k22 := k2.below bb k2.lt
               have q41 : w2.cell? ⟨wr.heap.size, 1, none⟩ = some (.int .i64 x.1.o) := k22.cell 1
               have q42 : w2.cell? ⟨wr.heap.size, 2, none⟩ = some (.slice x.2.1 x.1.q.length x.2.2) := k22.cell 2
               have CQ := containsZ_any x.2.1 x.1.q.length x.2.2 x.1.q x.1.o w2 ((HQ.out.ri.below hB2 (Nat.le_refl _)).more hB2.size) rfl HQ.out.le HQ.out.l
               rw [HQC.out] at CQ
               clear bb k2 k22 kB1 hB1)
            | (refine CQ.mono ?_
               clear CQ
               rintro e w3 ⟨rfl, bb⟩
               have hB3 := hB2.trans (bb.mono hB2.size)
               have kB3 := kB2.below bb kB2.lt
               clear bb))
          go_roundw
          case rel => exact ⟨k + 1, _, rfl, by omega, by go_num, HI, hB3, kB3⟩
          case measure => simp [intOf]; omega
        · rw [Bool.not_true, Bool.false_and] at hI
          have HI := Lib.hid hI
          clear hI
          go_wp2_with (first
            | (refine wpList_load_mid rfl 48 (.tmp 10) rfl b (off + k * 3) rfl (kwC x).toList _ hc Try.underlying48 rfl (kw_infL x) ?_)
            | (refine wpList_store_blk rfl 48 (.tmp 4) (.tmp 11) rfl wr.heap.size (kwC kw0) (kwC x) 48 rfl rfl (Blk.new _ _ _) rfl (kw_inf x) (kw_one x) ?_
               intro w1 k2 n1
               have bb : Below wr.heap.size wr w1 := ((Below.refl _ wr).alloc (Nat.le_refl _) _).trans (n1.below _ (Nat.le_refl _) (by simp))
               have hB1 := hB.trans (bb.mono hB.size)
               have kB1 := kB.below bb kB.lt
               have q41 : w1.cell? ⟨wr.heap.size, 1, none⟩ = some (.int .i64 x.1.o) := k2.cell 1
               have CL := LV.out x.1.o w1 hB1
               rw [h1] at CL
               clear bb n1 hc)
            | (refine wpList_load_row rfl 25 (.tmp 1) rfl w.heap.size rfl 25 (scC A _ _ _ _ _) (0, 0) _ kB1.blk Try.underlying25 rfl (sc_inf _ _ _ _ _ _) ?_)
            | (refine CL.mono ?_
               clear CL
               rintro e w2 ⟨rfl, bb⟩
               have hB2 := hB1.trans (bb.mono hB1.size)
               have k22 := k2.below bb k2.lt
               have q41 : w2.cell? ⟨wr.heap.size, 1, none⟩ = some (.int .i64 x.1.o) := k22.cell 1
               have q42 : w2.cell? ⟨wr.heap.size, 2, none⟩ = some (.slice x.2.1 x.1.q.length x.2.2) := k22.cell 2
               have CQ := containsZ_any x.2.1 x.1.q.length x.2.2 x.1.q x.1.o w2 ((HQ.out.ri.below hB2 (Nat.le_refl _)).more hB2.size) rfl HQ.out.le HQ.out.l
               rw [HQC.out] at CQ
               clear bb k2 k22 kB1 hB1)
            | (refine CQ.mono ?_
               clear CQ
               rintro e w3 ⟨rfl, bb⟩
               have hB3 := hB2.trans (bb.mono hB2.size)
               clear bb))
          go_ret
          exact ⟨by rw [HI.out]; rfl, hB3⟩
    · obtain rfl : k = m2 := by omega
      have hI := HI.out
      rw [List.drop_of_length_le (by have := HM.out; omega)] at hI
      have HI := Lib.hid hI
      clear hI
      go_wp2_with fail
      go_ret
      exact ⟨by rw [HI.out]; rfl, hB⟩
end Go.Proofs.Ytfohifnbohdbcaa
