/-
  The reference's Allows and Bits.
-/
import Derived.Test.YtehcijockeecpaaDoorRfFl
import Derived.Test.YtehcijockeecpaaDoorHD
import Derived.Test.YtehcijockeecpaaDoorHL
namespace Go.Proofs.YtehcijockeecpaaDoor
open Go.RowKit
set_option linter.unusedVariables false
set_option linter.unusedSimpArgs false

theorem sure_iff {o : Ab} {x : Int} : o = sureA x ↔ o.k = true ∧ o.v = x := by
  obtain ⟨k, v⟩ := o
  simp [sureA]
set_option maxRecDepth 100000 in
set_option maxHeartbeats 2000000 in
theorem rallows_any (A : Option Addr) (m cap : Nat) (f : Nat → Ins) (nr arch : Int) (hnr : U32 nr) (har : U32 arch) (w : World) (hA : Ri w w.heap.size A m f) (hcap : m ≤ cap) (hM : May f m) :
    Calls Tryd.prog 10 #[.slice A m cap, .int .u32 nr, .int .u32 arch] w fun e w' => e = .returned (.bool (alwI f m nr arch)) ∧ Below w.heap.size w w' := by
  have FL := rflow_any A m cap f nr arch hnr har w hA hcap hM
  unfold alwI
  obtain ⟨o, ho⟩ : ∃ o, (floS alI hdI nr arch f m m).2.b = o := ⟨_, rfl⟩
  rw [ho] at FL ⊢
  clear ho
  unfold abV at FL
  cases hk : o.k
  · have hb : decide (o = sureA 2147418112) = false := by simp [sure_iff, hk]
    rw [hb]
    have HK := Lib.hid hk
    clear hb hk
    go_enter Tryd.func10, Tryd.ntmps10
    go_wp2_with fail
    refine FL.mono ?_
    rintro e w1 ⟨g, rfl, _, b1⟩
    clear FL
    go_wp2_with (refine wpList_store_blk rfl 27 (.tmp 8) (.tmp 15) rfl w1.heap.size (abA ab0) (abA o) 27 rfl rfl (Blk.new_ _ _ _ rfl) rfl (abA_inf _) (abA_one _) ?_
                 intro w2 hw2 hn2
                 have b2 : Below w.heap.size w w2 := (b1.alloc b1.size _).trans (hn2.below _ b1.size (by have := b1.size; simp; omega))
                 have c0 := hw2.cell 0
                 have c1 := hw2.cell 1
                 simp only [abA, List.getElem?_toArray, List.getElem?_cons_zero, List.getElem?_cons_succ] at c0 c1
                 rw [HK.out] at c0
                 clear hn2 hw2)
    go_ret
    exact ⟨rfl, b2⟩
  · by_cases hv : o.v = 2147418112
    · have hb : decide (o = sureA 2147418112) = true := by simp [sure_iff, hk, hv]
      rw [hb]
      have HK := Lib.hid hk
      have HV := Lib.hid hv
      clear hb hk hv
      go_enter Tryd.func10, Tryd.ntmps10
      go_wp2_with fail
      refine FL.mono ?_
      rintro e w1 ⟨g, rfl, _, b1⟩
      clear FL
      go_wp2_with (refine wpList_store_blk rfl 27 (.tmp 8) (.tmp 15) rfl w1.heap.size (abA ab0) (abA o) 27 rfl rfl (Blk.new_ _ _ _ rfl) rfl (abA_inf _) (abA_one _) ?_
                   intro w2 hw2 hn2
                   have b2 : Below w.heap.size w w2 := (b1.alloc b1.size _).trans (hn2.below _ b1.size (by have := b1.size; simp; omega))
                   have c0 := hw2.cell 0
                   have c1 := hw2.cell 1
                   simp only [abA, List.getElem?_toArray, List.getElem?_cons_zero, List.getElem?_cons_succ] at c0 c1
                   rw [HK.out] at c0
                   rw [HV.out] at c1
                   clear hn2 hw2)
      go_ret
      exact ⟨rfl, b2⟩
    · have hb : decide (o = sureA 2147418112) = false := by simp [sure_iff, hv]
      rw [hb]
      have HK := Lib.hid hk
      have hv' : (o.v == 2147418112) = false := by simpa using hv
      clear hb hk hv
      go_enter Tryd.func10, Tryd.ntmps10
      go_wp2_with fail
      refine FL.mono ?_
      rintro e w1 ⟨g, rfl, _, b1⟩
      clear FL
      go_wp2_with (refine wpList_store_blk rfl 27 (.tmp 8) (.tmp 15) rfl w1.heap.size (abA ab0) (abA o) 27 rfl rfl (Blk.new_ _ _ _ rfl) rfl (abA_inf _) (abA_one _) ?_
                   intro w2 hw2 hn2
                   have b2 : Below w.heap.size w w2 := (b1.alloc b1.size _).trans (hn2.below _ b1.size (by have := b1.size; simp; omega))
                   have c0 := hw2.cell 0
                   have c1 := hw2.cell 1
                   simp only [abA, List.getElem?_toArray, List.getElem?_cons_zero, List.getElem?_cons_succ] at c0 c1
                   rw [HK.out] at c0
                   clear hn2 hw2)
      go_ret
      exact ⟨rfl, b2⟩
theorem bit_step {al : Nat → Bool} {j : Nat} {out : Int} (h : out * 2 ^ (j + 1) + bitS al (j + 1) = bitS al 64) : (2 * out + if al j then 1 else 0) * 2 ^ j + bitS al j = bitS al 64 := by
  rw [← h]
  have h2 : (2 : Int) ^ (j + 1) = 2 * 2 ^ j := by rw [Int.pow_succ, Int.mul_comm]
  have e : bitS al (j + 1) = bitS al j + (if al j then 1 else 0) * 2 ^ j := by
    have e0 : bitS al (j + 1) = if al j then bitS al j + 2 ^ j else bitS al j := rfl
    rw [e0]
    split <;> simp
  rw [e, h2]
  generalize (2 : Int) ^ j = p
  generalize (if al j = true then (1 : Int) else 0) = c
  rw [Int.add_mul, Int.mul_assoc, Int.mul_left_comm]
  omega
theorem bit_small {al : Nat → Bool} {j : Nat} {out : Int} (h0 : 0 ≤ out) (h : out * 2 ^ (j + 1) + bitS al (j + 1) = bitS al 64) : 2 * out < 18446744073709551616 := by
  have hb := bitS_bd al 64
  have hb2 := bitS_bd al (j + 1)
  have h2 : (2 : Int) ^ (j + 1) = 2 * 2 ^ j := by rw [Int.pow_succ, Int.mul_comm]
  have h64 : (2 : Int) ^ 64 = 18446744073709551616 := by decide
  have hp : (1 : Int) ≤ 2 ^ j := by
    have : (0 : Int) < 2 ^ j := Int.pow_pos (by omega)
    omega
  rw [h2] at h
  rw [h64] at hb
  have hm : out * 2 ≤ out * (2 * 2 ^ j) := Int.mul_le_mul_of_nonneg_left (by omega) h0
  omega
set_option maxRecDepth 100000 in
set_option maxHeartbeats 2000000 in
theorem rbits_ok (A : Option Addr) (m cap : Nat) (f : Nat → Ins) (arch : Int) (har : U32 arch) (w : World) (hK : Kinds w) (hA : Ri w w.heap.size A m f) (hcap : m ≤ cap) (hM : May f m) :
    Calls Tryd.prog 12 #[.slice A m cap, .int .u32 arch] w fun e w' => e = .returned (.tuple #[.int .u64 (bitS (fun k => alwI f m (k : Int) arch) 64), .int .i64 0]) ∧ Below w.heap.size w w' := by
  have AL := fun (k : Nat) (hk : k < 64) V (hV : Below w.heap.size w V) => rallows_any A m cap f (k : Int) arch (by unfold U32; omega) har V ((hA.below hV (Nat.le_refl _)).more hV.size) hcap hM
  have CH := rcheck_any A m cap f w hA
  rw [chk_may hM] at CH
  generalize hal : (fun k : Nat => alwI f m (k : Int) arch) = al
  have AL' : ∀ (k : Nat) (hk : k < 64) V (hV : Below w.heap.size w V), Calls Tryd.prog 10 #[.slice A m cap, .int .u32 (k : Int), .int .u32 arch] V fun e w' => e = .returned (.bool (al k)) ∧ Below V.heap.size V w' := fun k hk V hV => by
    rw [← hal]; exact AL k hk V hV
  clear AL hal hM hcap hA
  go_enter Tryd.func12, Tryd.ntmps12
  go_wp2_with fail
  refine CH.mono ?_
  rintro e w1 ⟨rfl, b1⟩
  clear CH
  go_wp2_with fail
  go_loopw [8, 9] (fun o i wr => ∃ (j : Nat) (out : Int), j ≤ 64 ∧ i = .int .i64 ((j : Int) - 1) ∧ o = .int .u64 out ∧ 0 ≤ out ∧ out * 2 ^ j + bitS al j = bitS al 64 ∧ Below w.heap.size w wr) (fun _ i _ => (intOf i + 1).toNat)
  case atStart => exact ⟨64, 0, by omega, rfl, rfl, by omega, by simp, b1⟩
  case round =>
    clear b1
    obtain ⟨j, out, hj, rfl, rfl, h0, hinv, hB⟩ := hrel
    cases j with
    | zero =>
      have hfin : out = bitS al 64 := by rw [← hinv]; simp [bitS]
      have HF := Lib.hid hfin
      clear hinv hfin
      have e0 : ((0 : Nat) : Int) - 1 = -1 := by omega
      rw [e0]
      clear e0
      go_wp2_with fail
      go_ret2
      exact ⟨by rw [HF.out]; rfl, hB⟩
    | succ j =>
      have hst := Lib.hid (bit_step hinv)
      have hsm := bit_small h0 hinv
      have C := AL' j (by omega) _ hB
      have e1 : ((j + 1 : Nat) : Int) - 1 = (j : Int) := by omega
      rw [e1]
      have hj' : (j : Int) < 64 := by omega
      have hw2 : IntKind.u64.wrap (2 * out) = 2 * out := by rw [IntKind.wrap_u64]; omega
      have hw3 : IntKind.u64.wrap (2 * out + 1) = 2 * out + 1 := by rw [IntKind.wrap_u64]; omega
      clear hinv e1
      cases hx : al j
      · rw [hx] at C hst
        clear hx
        go_wp2_with fail
        refine C.mono ?_
        rintro e w2 ⟨rfl, b2⟩
        have B2 := hB.trans (b2.mono hB.size)
        clear C b2 hB
        go_wp2_with fail
        go_roundw
        case rel => exact ⟨j, 2 * out, by omega, by go_num, rfl, by omega, by simpa using hst.out, B2⟩
        case measure => simp [intOf]
      · rw [hx] at C hst
        clear hx
        go_wp2_with fail
        refine C.mono ?_
        rintro e w2 ⟨rfl, b2⟩
        have B2 := hB.trans (b2.mono hB.size)
        clear C b2 hB
        go_wp2_with fail
        go_roundw
        case rel => exact ⟨j, 2 * out + 1, by omega, by go_num, rfl, by omega, by simpa using hst.out, B2⟩
        case measure => simp [intOf]
theorem rbits_no (A : Option Addr) (m cap : Nat) (f : Nat → Ins) (arch : Int) (w : World) (hA : Ri w w.heap.size A m f) (r1 r2 : Int) (hr : chkI f m = (r1, r2)) (h0 : ¬ r2 = 0) :
    Calls Tryd.prog 12 #[.slice A m cap, .int .u32 arch] w fun e w' => e = .returned (.tuple #[.int .u64 0, .int .i64 r2]) ∧ Below w.heap.size w w' := by
  have CH := rcheck_any A m cap f w hA
  rw [hr] at CH
  have hne : (r2 != 0) = true := by simpa using h0
  clear hr h0
  go_enter Tryd.func12, Tryd.ntmps12
  go_wp2_with fail
  refine CH.mono ?_
  rintro e w1 ⟨rfl, b1⟩
  go_wp2_with fail
  go_ret2
  exact ⟨rfl, b1⟩
end Go.Proofs.YtehcijockeecpaaDoor
