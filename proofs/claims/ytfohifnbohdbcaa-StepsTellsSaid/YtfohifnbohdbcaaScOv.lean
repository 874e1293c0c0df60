/-
  law13.over.
-/
import Derived.Test.YtfohifnbohdbcaaScWk
namespace Go.Proofs.Ytfohifnbohdbcaa
open Go.RowKit Go.Shelf
set_option linter.unusedVariables false
set_option linter.unusedSimpArgs false

/-- A schedule that reads so, whatever its size. -/
structure ScW (w : World) (B : Nat) (A : Option Addr) (m c : Nat) (R : List Rn) (A2 : Option Addr) (m2 c2 : Nat) (L : List Kw) : Prop where
  rs : RsR w B A R
  ks : RsK w B A2 L
  q : ∀ x ∈ L, Ri7 w B x.2.1 x.1.q ∧ x.1.q.length ≤ x.2.2
  len : m = R.length
  len2 : m2 = L.length
  lim2 : m2 ≤ maxLen
theorem ScW.below {w w' : World} {B B' m c m2 c2 : Nat} {A A2 : Option Addr} {R : List Rn} {L : List Kw} (h : ScW w B A m c R A2 m2 c2 L) (hb : Below B' w w') (hB : B ≤ B') : ScW w' B A m c R A2 m2 c2 L := ⟨h.rs.below hb hB, h.ks.below hb hB, fun x hx => ⟨(h.q x hx).1.below hb hB, (h.q x hx).2⟩, h.len, h.len2, h.lim2⟩
theorem ScW.more {w : World} {B B' m c m2 c2 : Nat} {A A2 : Option Addr} {R : List Rn} {L : List Kw} (h : ScW w B A m c R A2 m2 c2 L) (hB : B ≤ B') : ScW w B' A m c R A2 m2 c2 L := ⟨h.rs.more hB, h.ks.more hB, fun x hx => ⟨(h.q x hx).1.more hB, (h.q x hx).2⟩, h.len, h.len2, h.lim2⟩
theorem ScW.on {w w' : World} {m c m2 c2 : Nat} {A A2 : Option Addr} {R : List Rn} {L : List Kw} (h : ScW w w.heap.size A m c R A2 m2 c2 L) (hb : Below w.heap.size w w') : ScW w' w'.heap.size A m c R A2 m2 c2 L := (h.below hb (Nat.le_refl _)).more hb.size
/-- More than is gone through. -/
def longQ (x : Kw) : Bool := decide (100 < x.1.q.length)
def overS (R : List Rn) (L : List Kw) : Bool := decide (100 < R.length) || (decide (100 < L.length) || L.any longQ)
theorem over_sc0 {w : World} {B m c m2 c2 : Nat} {A A2 : Option Addr} {R : List Rn} {L : List Kw} (h : ScW w B A m c R A2 m2 c2 L) (ho : overS R L = false) : Sc w B A m c R A2 m2 c2 L := by
  unfold overS at ho
  simp only [Bool.or_eq_false_iff, decide_eq_false_iff_not] at ho
  obtain ⟨h1, h2, h3⟩ := ho
  refine ⟨h.rs, h.ks, fun x hx => ⟨(h.q x hx).1, (h.q x hx).2, ?_⟩, h.len, h.len2, by have := h.len; omega, by have := h.len2; omega⟩
  have := List.any_eq_false.1 h3 x hx
  unfold longQ at this
  simp only [decide_eq_true_iff] at this
  omega
set_option maxRecDepth 100000 in
set_option maxHeartbeats 8000000 in
theorem over_sc (A : Option Addr) (m c : Nat) (R : List Rn) (A2 : Option Addr) (m2 c2 : Nat) (L : List Kw) (w : World) (h : ScW w w.heap.size A m c R A2 m2 c2 L) :
    Calls Try.prog 9 #[scV A m c A2 m2 c2] w fun e w' => e = .returned (.bool (overS R L)) ∧ Below w.heap.size w w' := by
  have k1 := Blk.new w (scC A m c A2 m2 c2) 25
  have B0 := (Below.refl w.heap.size w).alloc (Nat.le_refl _) (.cells (scC A m c A2 m2 c2) 25)
  have q0 : (w.alloc (.cells (scC A m c A2 m2 c2) 25)).cell? ⟨w.heap.size, 0, none⟩ = some (.slice A m c) := k1.cell 0
  have q1 : (w.alloc (.cells (scC A m c A2 m2 c2) 25)).cell? ⟨w.heap.size, 1, none⟩ = some (.slice A2 m2 c2) := k1.cell 1
  have HM1 := Lib.hid h.len
  have HM := Lib.hid h.len2
  have HS := Lib.hid h
  obtain ⟨E, hE⟩ : ∃ E, overS R L = E := ⟨_, rfl⟩
  rw [hE]
  have HE := Lib.hid hE
  clear hE h
  unfold scV at *
  by_cases h1 : 100 < m
  · have h1' : (100 : Int) < (m : Int) := by omega
    have HR := Lib.hid (show E = true by rw [← HE.out]; unfold overS; rw [decide_eq_true (by have := HM1.out; omega), Bool.true_or])
    go_enter Try.func9, Try.ntmps9
    go_wp2_with fail
    go_ret
    exact ⟨by rw [HR.out]; rfl, B0⟩
  · have h1' : ¬ (100 : Int) < (m : Int) := by omega
    by_cases h2 : 100 < m2
    · have h2' : (100 : Int) < (m2 : Int) := by omega
      have HR := Lib.hid (show E = true by rw [← HE.out]; unfold overS; rw [decide_eq_true (p := 100 < L.length) (by have := HM.out; omega), Bool.true_or, Bool.or_true])
      go_enter Try.func9, Try.ntmps9
      go_wp2_with fail
      go_ret
      exact ⟨by rw [HR.out]; rfl, B0⟩
    · have h2' : ¬ (100 : Int) < (m2 : Int) := by omega
      have HR := Lib.hid (show E = L.any longQ by rw [← HE.out]; unfold overS; rw [decide_eq_false (by have := HM1.out; omega), decide_eq_false (p := 100 < L.length) (by have := HM.out; omega), Bool.false_or, Bool.false_or])
      have hm6 : m2 ≤ 100000 := by omega
      clear HE
      go_enter Try.func9, Try.ntmps9
      go_wp2_with fail
      clear q0 q1
      go_loopw [18] (fun i wr' => ∃ (k : Nat) (wr : World), wr = wr' ∧ k ≤ m2 ∧ i = .int .i64 k ∧ Hid (E = (L.drop k).any longQ) ∧ Below w.heap.size w wr) (fun i _ => m2 - (intOf i).toNat)
      case atStart => exact ⟨0, _, rfl, Nat.zero_le _, rfl, Lib.hid (by rw [List.drop_zero, HR.out]), B0⟩
      case round =>
        clear B0 HR k1
        obtain ⟨k, wr, hwr, hk, rfl, HI, hB⟩ := hrel
        subst hwr
        by_cases hlt : k < m2
        · have hlt' : (k : Int) < (m2 : Int) := by omega
          have hkl : k < L.length := by have := HM.out; omega
          obtain ⟨b, off, rfl, hb, hc⟩ := (HS.out.ks.below hB (Nat.le_refl _)) k hkl
          have hI := HI.out
          rw [List.drop_eq_getElem_cons hkl, List.any_cons, show L[k] = L.getD k kw0 by simp [List.getD, hkl]] at hI
          clear HI hkl
          generalize L.getD k kw0 = x at hc hI
          unfold longQ at hI
          have hs3 : (kwC x).size = 3 := kw_size x
          by_cases h3 : 100 < x.1.q.length
          · have h3' : (100 : Int) < (x.1.q.length : Int) := by omega
            rw [decide_eq_true h3, Bool.true_or] at hI
            have HI := Lib.hid hI
            clear hI
            go_wp2_with (first
              | (refine wpList_load_mid rfl 48 (.tmp 20) rfl b (off + k * 3) rfl (kwC x).toList _ hc Try.underlying48 rfl (kw_infL x) ?_)
              | (refine wpList_store_blk rfl 48 (.tmp 4) (.tmp 21) rfl wr.heap.size (kwC kw0) (kwC x) 48 rfl rfl (Blk.new _ _ _) rfl (kw_inf x) (kw_one x) ?_
                 intro w1 k2 n1
                 have bb : Below wr.heap.size wr w1 := ((Below.refl _ wr).alloc (Nat.le_refl _) _).trans (n1.below _ (Nat.le_refl _) (by simp))
                 have hB1 := hB.trans (bb.mono hB.size)
                 have q42 : w1.cell? ⟨wr.heap.size, 2, none⟩ = some (.slice x.2.1 x.1.q.length x.2.2) := k2.cell 2
                 clear bb n1 hc k2))
            go_ret
            exact ⟨by rw [HI.out]; rfl, hB1⟩
          · have h3' : ¬ (100 : Int) < (x.1.q.length : Int) := by omega
            rw [decide_eq_false h3, Bool.false_or] at hI
            have HI := Lib.hid hI
            clear hI
            go_wp2_with (first
              | (refine wpList_load_mid rfl 48 (.tmp 20) rfl b (off + k * 3) rfl (kwC x).toList _ hc Try.underlying48 rfl (kw_infL x) ?_)
              | (refine wpList_store_blk rfl 48 (.tmp 4) (.tmp 21) rfl wr.heap.size (kwC kw0) (kwC x) 48 rfl rfl (Blk.new _ _ _) rfl (kw_inf x) (kw_one x) ?_
                 intro w1 k2 n1
                 have bb : Below wr.heap.size wr w1 := ((Below.refl _ wr).alloc (Nat.le_refl _) _).trans (n1.below _ (Nat.le_refl _) (by simp))
                 have hB1 := hB.trans (bb.mono hB.size)
                 have q42 : w1.cell? ⟨wr.heap.size, 2, none⟩ = some (.slice x.2.1 x.1.q.length x.2.2) := k2.cell 2
                 clear bb n1 hc k2))
            go_roundw
            case rel => exact ⟨k + 1, _, rfl, by omega, by go_num, HI, hB1⟩
            case measure => simp [intOf]; omega
        · obtain rfl : k = m2 := by omega
          have hI := HI.out
          rw [List.drop_of_length_le (by have := HM.out; omega)] at hI
          have HI := Lib.hid hI
          clear hI
          go_wp2_with fail
          go_ret
          exact ⟨by rw [HI.out]; rfl, hB⟩
end Go.Proofs.Ytfohifnbohdbcaa
