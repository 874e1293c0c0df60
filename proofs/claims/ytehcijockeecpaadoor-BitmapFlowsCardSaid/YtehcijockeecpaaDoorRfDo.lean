/-
  The reference's Do at every code. (gen8/gendoany.py)
-/
import Derived.Test.YtehcijockeecpaaDoorRfF0
import Derived.Test.YtehcijockeecpaaDoorRfD1
import Derived.Test.YtehcijockeecpaaDoorRfD2
import Derived.Test.YtehcijockeecpaaDoorRfD3
import Derived.Test.YtehcijockeecpaaDoorRfD4
import Derived.Test.YtehcijockeecpaaDoorRfD5
import Derived.Test.YtehcijockeecpaaDoorRfD6
import Derived.Test.YtehcijockeecpaaDoorRfD7
import Derived.Test.YtehcijockeecpaaDoorRfD8
import Derived.Test.YtehcijockeecpaaDoorRfD9
import Derived.Test.YtehcijockeecpaaDoorRfD10
namespace Go.Proofs.YtehcijockeecpaaDoor
open Go.RowKit
set_option linter.unusedVariables false
set_option linter.unusedSimpArgs false

/-- What Do answers of an instruction. -/
def DoS (q : Ins) (i : Nat) (s : StS) (nr arch : Int) (w : World) : Prop :=
  Calls Tryd.prog 27 #[valI q, .int .i64 i, stV s, .int .u32 nr, .int .u32 arch] w fun e w' => ∃ P R, e = .returned (.agg (nxC P (behS alI nr arch q s) R)) ∧ PL w' P ((plcR hdI q i s).map fun n : Nat => (n : Int)) ∧ RL w' R (rtsR q s) ∧ Below w.heap.size w w'
theorem do_fit {c y z k : Int} {i : Nat} {s : StS} {nr arch : Int} {w : World} {T : StS} {PS : List Int} {RS : List Ab}
    (h : Calls Tryd.prog 27 #[insV c y z k, .int .i64 i, stV s, .int .u32 nr, .int .u32 arch] w fun e w' => ∃ P R, e = .returned (.agg (nxC P T R)) ∧ PL w' P PS ∧ RL w' R RS ∧ Below w.heap.size w w')
    (hT : behS alI nr arch (c, y, z, k) s = T) (hP : ((plcR hdI (c, y, z, k) i s).map fun n : Nat => (n : Int)) = PS) (hR : rtsR (c, y, z, k) s = RS) : DoS (c, y, z, k) i s nr arch w := by
  subst hT hP hR
  exact h
theorem aluc_4 : AluC 4 ⟨#[97, 100, 100, 46, 107]⟩ ⟨#[97, 100, 100]⟩ #[107] := by
  have N := fun V => refname_any 4 V (by decide)
  rw [show nameOf 4 = (⟨#[97, 100, 100, 46, 107]⟩, true) by kernel_rfl] at N
  have SP := fun V => split_any [97, 100, 100, 46, 107] (by decide) V
  rw [show headOf [97, 100, 100, 46, 107] = [97, 100, 100] by decide, show tailOf [97, 100, 100, 46, 107] = [107] by decide] at SP
  refine ⟨by decide, by decide, N, SP, ?_, ?_, ?_, ?_, ?_, ?_, ?_, ?_, ?_, ?_, ?_, ?_, ?_, ?_⟩ <;> (rw [ByteArray.toList_mk]; decide)
theorem aluc_20 : AluC 20 ⟨#[115, 117, 98, 46, 107]⟩ ⟨#[115, 117, 98]⟩ #[107] := by
  have N := fun V => refname_any 20 V (by decide)
  rw [show nameOf 20 = (⟨#[115, 117, 98, 46, 107]⟩, true) by kernel_rfl] at N
  have SP := fun V => split_any [115, 117, 98, 46, 107] (by decide) V
  rw [show headOf [115, 117, 98, 46, 107] = [115, 117, 98] by decide, show tailOf [115, 117, 98, 46, 107] = [107] by decide] at SP
  refine ⟨by decide, by decide, N, SP, ?_, ?_, ?_, ?_, ?_, ?_, ?_, ?_, ?_, ?_, ?_, ?_, ?_, ?_⟩ <;> (rw [ByteArray.toList_mk]; decide)
theorem aluc_36 : AluC 36 ⟨#[109, 117, 108, 46, 107]⟩ ⟨#[109, 117, 108]⟩ #[107] := by
  have N := fun V => refname_any 36 V (by decide)
  rw [show nameOf 36 = (⟨#[109, 117, 108, 46, 107]⟩, true) by kernel_rfl] at N
  have SP := fun V => split_any [109, 117, 108, 46, 107] (by decide) V
  rw [show headOf [109, 117, 108, 46, 107] = [109, 117, 108] by decide, show tailOf [109, 117, 108, 46, 107] = [107] by decide] at SP
  refine ⟨by decide, by decide, N, SP, ?_, ?_, ?_, ?_, ?_, ?_, ?_, ?_, ?_, ?_, ?_, ?_, ?_, ?_⟩ <;> (rw [ByteArray.toList_mk]; decide)
theorem aluc_68 : AluC 68 ⟨#[111, 114, 46, 107]⟩ ⟨#[111, 114]⟩ #[107] := by
  have N := fun V => refname_any 68 V (by decide)
  rw [show nameOf 68 = (⟨#[111, 114, 46, 107]⟩, true) by kernel_rfl] at N
  have SP := fun V => split_any [111, 114, 46, 107] (by decide) V
  rw [show headOf [111, 114, 46, 107] = [111, 114] by decide, show tailOf [111, 114, 46, 107] = [107] by decide] at SP
  refine ⟨by decide, by decide, N, SP, ?_, ?_, ?_, ?_, ?_, ?_, ?_, ?_, ?_, ?_, ?_, ?_, ?_, ?_⟩ <;> (rw [ByteArray.toList_mk]; decide)
theorem aluc_84 : AluC 84 ⟨#[97, 110, 100, 46, 107]⟩ ⟨#[97, 110, 100]⟩ #[107] := by
  have N := fun V => refname_any 84 V (by decide)
  rw [show nameOf 84 = (⟨#[97, 110, 100, 46, 107]⟩, true) by kernel_rfl] at N
  have SP := fun V => split_any [97, 110, 100, 46, 107] (by decide) V
  rw [show headOf [97, 110, 100, 46, 107] = [97, 110, 100] by decide, show tailOf [97, 110, 100, 46, 107] = [107] by decide] at SP
  refine ⟨by decide, by decide, N, SP, ?_, ?_, ?_, ?_, ?_, ?_, ?_, ?_, ?_, ?_, ?_, ?_, ?_, ?_⟩ <;> (rw [ByteArray.toList_mk]; decide)
theorem aluc_100 : AluC 100 ⟨#[108, 115, 104, 46, 107]⟩ ⟨#[108, 115, 104]⟩ #[107] := by
  have N := fun V => refname_any 100 V (by decide)
  rw [show nameOf 100 = (⟨#[108, 115, 104, 46, 107]⟩, true) by kernel_rfl] at N
  have SP := fun V => split_any [108, 115, 104, 46, 107] (by decide) V
  rw [show headOf [108, 115, 104, 46, 107] = [108, 115, 104] by decide, show tailOf [108, 115, 104, 46, 107] = [107] by decide] at SP
  refine ⟨by decide, by decide, N, SP, ?_, ?_, ?_, ?_, ?_, ?_, ?_, ?_, ?_, ?_, ?_, ?_, ?_, ?_⟩ <;> (rw [ByteArray.toList_mk]; decide)
theorem aluc_116 : AluC 116 ⟨#[114, 115, 104, 46, 107]⟩ ⟨#[114, 115, 104]⟩ #[107] := by
  have N := fun V => refname_any 116 V (by decide)
  rw [show nameOf 116 = (⟨#[114, 115, 104, 46, 107]⟩, true) by kernel_rfl] at N
  have SP := fun V => split_any [114, 115, 104, 46, 107] (by decide) V
  rw [show headOf [114, 115, 104, 46, 107] = [114, 115, 104] by decide, show tailOf [114, 115, 104, 46, 107] = [107] by decide] at SP
  refine ⟨by decide, by decide, N, SP, ?_, ?_, ?_, ?_, ?_, ?_, ?_, ?_, ?_, ?_, ?_, ?_, ?_, ?_⟩ <;> (rw [ByteArray.toList_mk]; decide)
theorem aluc_164 : AluC 164 ⟨#[120, 111, 114, 46, 107]⟩ ⟨#[120, 111, 114]⟩ #[107] := by
  have N := fun V => refname_any 164 V (by decide)
  rw [show nameOf 164 = (⟨#[120, 111, 114, 46, 107]⟩, true) by kernel_rfl] at N
  have SP := fun V => split_any [120, 111, 114, 46, 107] (by decide) V
  rw [show headOf [120, 111, 114, 46, 107] = [120, 111, 114] by decide, show tailOf [120, 111, 114, 46, 107] = [107] by decide] at SP
  refine ⟨by decide, by decide, N, SP, ?_, ?_, ?_, ?_, ?_, ?_, ?_, ?_, ?_, ?_, ?_, ?_, ?_, ?_⟩ <;> (rw [ByteArray.toList_mk]; decide)
theorem aluc_12 : AluC 12 ⟨#[97, 100, 100, 46, 120]⟩ ⟨#[97, 100, 100]⟩ #[120] := by
  have N := fun V => refname_any 12 V (by decide)
  rw [show nameOf 12 = (⟨#[97, 100, 100, 46, 120]⟩, true) by kernel_rfl] at N
  have SP := fun V => split_any [97, 100, 100, 46, 120] (by decide) V
  rw [show headOf [97, 100, 100, 46, 120] = [97, 100, 100] by decide, show tailOf [97, 100, 100, 46, 120] = [120] by decide] at SP
  refine ⟨by decide, by decide, N, SP, ?_, ?_, ?_, ?_, ?_, ?_, ?_, ?_, ?_, ?_, ?_, ?_, ?_, ?_⟩ <;> (rw [ByteArray.toList_mk]; decide)
theorem aluc_28 : AluC 28 ⟨#[115, 117, 98, 46, 120]⟩ ⟨#[115, 117, 98]⟩ #[120] := by
  have N := fun V => refname_any 28 V (by decide)
  rw [show nameOf 28 = (⟨#[115, 117, 98, 46, 120]⟩, true) by kernel_rfl] at N
  have SP := fun V => split_any [115, 117, 98, 46, 120] (by decide) V
  rw [show headOf [115, 117, 98, 46, 120] = [115, 117, 98] by decide, show tailOf [115, 117, 98, 46, 120] = [120] by decide] at SP
  refine ⟨by decide, by decide, N, SP, ?_, ?_, ?_, ?_, ?_, ?_, ?_, ?_, ?_, ?_, ?_, ?_, ?_, ?_⟩ <;> (rw [ByteArray.toList_mk]; decide)
theorem aluc_44 : AluC 44 ⟨#[109, 117, 108, 46, 120]⟩ ⟨#[109, 117, 108]⟩ #[120] := by
  have N := fun V => refname_any 44 V (by decide)
  rw [show nameOf 44 = (⟨#[109, 117, 108, 46, 120]⟩, true) by kernel_rfl] at N
  have SP := fun V => split_any [109, 117, 108, 46, 120] (by decide) V
  rw [show headOf [109, 117, 108, 46, 120] = [109, 117, 108] by decide, show tailOf [109, 117, 108, 46, 120] = [120] by decide] at SP
  refine ⟨by decide, by decide, N, SP, ?_, ?_, ?_, ?_, ?_, ?_, ?_, ?_, ?_, ?_, ?_, ?_, ?_, ?_⟩ <;> (rw [ByteArray.toList_mk]; decide)
theorem aluc_76 : AluC 76 ⟨#[111, 114, 46, 120]⟩ ⟨#[111, 114]⟩ #[120] := by
  have N := fun V => refname_any 76 V (by decide)
  rw [show nameOf 76 = (⟨#[111, 114, 46, 120]⟩, true) by kernel_rfl] at N
  have SP := fun V => split_any [111, 114, 46, 120] (by decide) V
  rw [show headOf [111, 114, 46, 120] = [111, 114] by decide, show tailOf [111, 114, 46, 120] = [120] by decide] at SP
  refine ⟨by decide, by decide, N, SP, ?_, ?_, ?_, ?_, ?_, ?_, ?_, ?_, ?_, ?_, ?_, ?_, ?_, ?_⟩ <;> (rw [ByteArray.toList_mk]; decide)
theorem aluc_92 : AluC 92 ⟨#[97, 110, 100, 46, 120]⟩ ⟨#[97, 110, 100]⟩ #[120] := by
  have N := fun V => refname_any 92 V (by decide)
  rw [show nameOf 92 = (⟨#[97, 110, 100, 46, 120]⟩, true) by kernel_rfl] at N
  have SP := fun V => split_any [97, 110, 100, 46, 120] (by decide) V
  rw [show headOf [97, 110, 100, 46, 120] = [97, 110, 100] by decide, show tailOf [97, 110, 100, 46, 120] = [120] by decide] at SP
  refine ⟨by decide, by decide, N, SP, ?_, ?_, ?_, ?_, ?_, ?_, ?_, ?_, ?_, ?_, ?_, ?_, ?_, ?_⟩ <;> (rw [ByteArray.toList_mk]; decide)
theorem aluc_108 : AluC 108 ⟨#[108, 115, 104, 46, 120]⟩ ⟨#[108, 115, 104]⟩ #[120] := by
  have N := fun V => refname_any 108 V (by decide)
  rw [show nameOf 108 = (⟨#[108, 115, 104, 46, 120]⟩, true) by kernel_rfl] at N
  have SP := fun V => split_any [108, 115, 104, 46, 120] (by decide) V
  rw [show headOf [108, 115, 104, 46, 120] = [108, 115, 104] by decide, show tailOf [108, 115, 104, 46, 120] = [120] by decide] at SP
  refine ⟨by decide, by decide, N, SP, ?_, ?_, ?_, ?_, ?_, ?_, ?_, ?_, ?_, ?_, ?_, ?_, ?_, ?_⟩ <;> (rw [ByteArray.toList_mk]; decide)
theorem aluc_124 : AluC 124 ⟨#[114, 115, 104, 46, 120]⟩ ⟨#[114, 115, 104]⟩ #[120] := by
  have N := fun V => refname_any 124 V (by decide)
  rw [show nameOf 124 = (⟨#[114, 115, 104, 46, 120]⟩, true) by kernel_rfl] at N
  have SP := fun V => split_any [114, 115, 104, 46, 120] (by decide) V
  rw [show headOf [114, 115, 104, 46, 120] = [114, 115, 104] by decide, show tailOf [114, 115, 104, 46, 120] = [120] by decide] at SP
  refine ⟨by decide, by decide, N, SP, ?_, ?_, ?_, ?_, ?_, ?_, ?_, ?_, ?_, ?_, ?_, ?_, ?_, ?_⟩ <;> (rw [ByteArray.toList_mk]; decide)
theorem aluc_172 : AluC 172 ⟨#[120, 111, 114, 46, 120]⟩ ⟨#[120, 111, 114]⟩ #[120] := by
  have N := fun V => refname_any 172 V (by decide)
  rw [show nameOf 172 = (⟨#[120, 111, 114, 46, 120]⟩, true) by kernel_rfl] at N
  have SP := fun V => split_any [120, 111, 114, 46, 120] (by decide) V
  rw [show headOf [120, 111, 114, 46, 120] = [120, 111, 114] by decide, show tailOf [120, 111, 114, 46, 120] = [120] by decide] at SP
  refine ⟨by decide, by decide, N, SP, ?_, ?_, ?_, ?_, ?_, ?_, ?_, ?_, ?_, ?_, ?_, ?_, ?_, ?_⟩ <;> (rw [ByteArray.toList_mk]; decide)

set_option maxHeartbeats 4000000 in
theorem do_any (q : Ins) (i : Nat) (hi : i < 64) (hq : insO q) (hr : rowC q.1 ≠ none) (hm : formOf q.1 = 3 → q.2.2.2 < 16) (hd0 : q.1 = 52 → ¬ q.2.2.2 = 0) (hj : q.1 = 5 → q.2.2.2 < 64) (s : StS) (hs : StOk s) (nr arch : Int) (w : World) : DoS q i s nr arch w := by
  have hc := row_list hr
  obtain ⟨c, y, z, k⟩ := q
  simp only at hc hr hm hd0 hj
  simp only [List.mem_cons, List.not_mem_nil, or_false] at hc
  rcases hc with rfl | rfl | rfl | rfl | rfl | rfl | rfl | rfl | rfl | rfl | rfl | rfl | rfl | rfl | rfl | rfl | rfl | rfl | rfl | rfl | rfl | rfl | rfl | rfl | rfl | rfl | rfl | rfl | rfl | rfl | rfl | rfl | rfl | rfl | rfl | rfl | rfl | rfl | rfl | rfl | rfl
  · exact do_fit (do_0 y z k i hi hq s hs nr arch w) (by simp [behS]) (by simp [plcR, othA, form_at_0]) (by simp [rtsR, endE, ed0])
  · exact do_fit (do_1 y z k i hi hq s hs nr arch w) (by simp [behS]) (by simp [plcR, othA, form_at_1]) (by simp [rtsR, endE, ed0])
  · have h16 := hm (by rw [form_at_2])
    have k0 := hq.k0
    simp only at h16 k0
    exact do_fit (do_2 y z k i hi hq s hs nr arch w k.toNat (by omega) (by omega)) (by simp [behS]) (by simp [plcR, othA, form_at_2]) (by simp [rtsR, endE, ed0])
  · have h16 := hm (by rw [form_at_3])
    have k0 := hq.k0
    simp only at h16 k0
    exact do_fit (do_3 y z k i hi hq s hs nr arch w k.toNat (by omega) (by omega)) (by simp [behS]) (by simp [plcR, othA, form_at_3]) (by simp [rtsR, endE, ed0])
  · cases hk : s.a.k with
    | false => exact do_fit (do_Kn 4 _ _ aluc_4 y z k i hi hq s hs nr arch w hk) (by simp [behS, workA, hk]) (by simp [plcR, othA, form_at_4]) (by simp [rtsR, endE, ed0])
    | true => exact do_fit (do_Ky 4 _ _ aluc_4 y z k i hi hq s hs nr arch w hk (by simp [aluB, alI, opK])) (by simp [behS, workA, othA, form_at_4, hk, sureA, aluV, alI, opK]) (by simp [plcR, othA, form_at_4]) (by simp [rtsR, endE, ed0])
  · have h5 := hj rfl
    have k0 := hq.k0
    simp only at h5 k0
    exact do_fit (do_5 y z k i hi hq s hs nr arch w ⟨k0, h5⟩) (by simp [behS]) (by simp [plcR, Int.toNat_of_nonneg k0]) (by simp [rtsR, endE, ed0])
  · exact do_fit (do_6 y z k i hi hq s hs nr arch w) (by simp [behS]) (by simp [plcR, othA, form_at_6]) (by simp [rtsR, endE, ed0])
  · exact do_fit (do_7 y z k i hi hq s hs nr arch w) (by simp [behS]) (by simp [plcR, othA, form_at_7]) (by simp [rtsR, endE, ed0])
  · cases hk : s.a.k with
    | false => exact do_fit (do_Xn 12 _ _ aluc_12 y z k i hi hq s hs nr arch w hk) (by simp [behS, workA, hk]) (by simp [plcR, othA, form_at_12]) (by simp [rtsR, endE, ed0])
    | true =>
      cases hx : s.x.k with
      | false => exact do_fit (do_Xxn 12 _ _ aluc_12 y z k i hi hq s hs nr arch w hk hx) (by simp [behS, workA, othA, form_at_12, hk, hx]) (by simp [plcR, othA, form_at_12]) (by simp [rtsR, endE, ed0])
      | true => exact do_fit (do_Xy 12 _ _ aluc_12 y z k i hi hq s hs nr arch w hk hx (by simp [aluB, alI, opK])) (by simp [behS, workA, othA, form_at_12, hk, hx, sureA, aluV, alI, opK]) (by simp [plcR, othA, form_at_12]) (by simp [rtsR, endE, ed0])
  · cases hk : s.a.k with
    | false => exact do_fit (do_Kn 20 _ _ aluc_20 y z k i hi hq s hs nr arch w hk) (by simp [behS, workA, hk]) (by simp [plcR, othA, form_at_20]) (by simp [rtsR, endE, ed0])
    | true => exact do_fit (do_Ky 20 _ _ aluc_20 y z k i hi hq s hs nr arch w hk (by simp [aluB, alI, opK])) (by simp [behS, workA, othA, form_at_20, hk, sureA, aluV, alI, opK]) (by simp [plcR, othA, form_at_20]) (by simp [rtsR, endE, ed0])
  · have y0 := hq.a0
    have z0 := hq.b0
    simp only at y0 z0
    cases hk : s.a.k with
    | false => exact do_fit (do_21n y z k i hi hq s hs nr arch w hk) (by simp [behS]) (by simp [plcR, othA, form_at_21, Int.toNat_of_nonneg y0, Int.toNat_of_nonneg z0, hk]) (by simp [rtsR, endE, ed0])
    | true =>
      cases hv : hdI 21 s.a.v k with
      | false => exact do_fit (do_21yf y z k i hi hq s hs nr arch w hk hv) (by simp [behS]) (by simp [plcR, othA, form_at_21, Int.toNat_of_nonneg y0, Int.toNat_of_nonneg z0, hk, sureA, hv]) (by simp [rtsR, endE, ed0])
      | true => exact do_fit (do_21yt y z k i hi hq s hs nr arch w hk hv) (by simp [behS]) (by simp [plcR, othA, form_at_21, Int.toNat_of_nonneg y0, Int.toNat_of_nonneg z0, hk, sureA, hv]) (by simp [rtsR, endE, ed0])
  · exact do_fit (do_22 y z k i hi hq s hs nr arch w) (by simp [behS]) (by simp [plcR, othA, form_at_22]) (by simp [rtsR, endE, ed0])
  · cases hk : s.a.k with
    | false => exact do_fit (do_Xn 28 _ _ aluc_28 y z k i hi hq s hs nr arch w hk) (by simp [behS, workA, hk]) (by simp [plcR, othA, form_at_28]) (by simp [rtsR, endE, ed0])
    | true =>
      cases hx : s.x.k with
      | false => exact do_fit (do_Xxn 28 _ _ aluc_28 y z k i hi hq s hs nr arch w hk hx) (by simp [behS, workA, othA, form_at_28, hk, hx]) (by simp [plcR, othA, form_at_28]) (by simp [rtsR, endE, ed0])
      | true => exact do_fit (do_Xy 28 _ _ aluc_28 y z k i hi hq s hs nr arch w hk hx (by simp [aluB, alI, opK])) (by simp [behS, workA, othA, form_at_28, hk, hx, sureA, aluV, alI, opK]) (by simp [plcR, othA, form_at_28]) (by simp [rtsR, endE, ed0])
  · have y0 := hq.a0
    have z0 := hq.b0
    simp only at y0 z0
    cases hk : s.a.k with
    | false => exact do_fit (do_29n y z k i hi hq s hs nr arch w hk) (by simp [behS]) (by simp [plcR, othA, form_at_29, Int.toNat_of_nonneg y0, Int.toNat_of_nonneg z0, hk]) (by simp [rtsR, endE, ed0])
    | true =>
      cases hx : s.x.k with
      | false => exact do_fit (do_29xn y z k i hi hq s hs nr arch w hk hx) (by simp [behS]) (by simp [plcR, othA, form_at_29, Int.toNat_of_nonneg y0, Int.toNat_of_nonneg z0, hk, hx]) (by simp [rtsR, endE, ed0])
      | true =>
        cases hv : hdI 29 s.a.v s.x.v with
        | false => exact do_fit (do_29yf y z k i hi hq s hs nr arch w hk hx hv) (by simp [behS]) (by simp [plcR, othA, form_at_29, Int.toNat_of_nonneg y0, Int.toNat_of_nonneg z0, hk, hx, hv]) (by simp [rtsR, endE, ed0])
        | true => exact do_fit (do_29yt y z k i hi hq s hs nr arch w hk hx hv) (by simp [behS]) (by simp [plcR, othA, form_at_29, Int.toNat_of_nonneg y0, Int.toNat_of_nonneg z0, hk, hx, hv]) (by simp [rtsR, endE, ed0])
  · by_cases h0 : k = 0
    · exact do_fit (do_32a y z k i hi hq s hs nr arch w h0) (by simp [behS, seenA, h0]) (by simp [plcR, othA, form_at_32]) (by simp [rtsR, endE, ed0])
    · by_cases h4 : k = 4
      · exact do_fit (do_32b y z k i hi hq s hs nr arch w h4) (by simp [behS, seenA, h4]) (by simp [plcR, othA, form_at_32]) (by simp [rtsR, endE, ed0])
      · exact do_fit (do_32c y z k i hi hq s hs nr arch w ⟨h0, h4⟩) (by simp [behS, seenA, h0, h4]) (by simp [plcR, othA, form_at_32]) (by simp [rtsR, endE, ed0])
  · cases hk : s.a.k with
    | false => exact do_fit (do_Kn 36 _ _ aluc_36 y z k i hi hq s hs nr arch w hk) (by simp [behS, workA, hk]) (by simp [plcR, othA, form_at_36]) (by simp [rtsR, endE, ed0])
    | true => exact do_fit (do_Ky 36 _ _ aluc_36 y z k i hi hq s hs nr arch w hk (by simp [aluB, alI, opK])) (by simp [behS, workA, othA, form_at_36, hk, sureA, aluV, alI, opK]) (by simp [plcR, othA, form_at_36]) (by simp [rtsR, endE, ed0])
  · have y0 := hq.a0
    have z0 := hq.b0
    simp only at y0 z0
    cases hk : s.a.k with
    | false => exact do_fit (do_37n y z k i hi hq s hs nr arch w hk) (by simp [behS]) (by simp [plcR, othA, form_at_37, Int.toNat_of_nonneg y0, Int.toNat_of_nonneg z0, hk]) (by simp [rtsR, endE, ed0])
    | true =>
      cases hv : hdI 37 s.a.v k with
      | false => exact do_fit (do_37yf y z k i hi hq s hs nr arch w hk hv) (by simp [behS]) (by simp [plcR, othA, form_at_37, Int.toNat_of_nonneg y0, Int.toNat_of_nonneg z0, hk, sureA, hv]) (by simp [rtsR, endE, ed0])
      | true => exact do_fit (do_37yt y z k i hi hq s hs nr arch w hk hv) (by simp [behS]) (by simp [plcR, othA, form_at_37, Int.toNat_of_nonneg y0, Int.toNat_of_nonneg z0, hk, sureA, hv]) (by simp [rtsR, endE, ed0])
  · cases hk : s.a.k with
    | false => exact do_fit (do_Xn 44 _ _ aluc_44 y z k i hi hq s hs nr arch w hk) (by simp [behS, workA, hk]) (by simp [plcR, othA, form_at_44]) (by simp [rtsR, endE, ed0])
    | true =>
      cases hx : s.x.k with
      | false => exact do_fit (do_Xxn 44 _ _ aluc_44 y z k i hi hq s hs nr arch w hk hx) (by simp [behS, workA, othA, form_at_44, hk, hx]) (by simp [plcR, othA, form_at_44]) (by simp [rtsR, endE, ed0])
      | true => exact do_fit (do_Xy 44 _ _ aluc_44 y z k i hi hq s hs nr arch w hk hx (by simp [aluB, alI, opK])) (by simp [behS, workA, othA, form_at_44, hk, hx, sureA, aluV, alI, opK]) (by simp [plcR, othA, form_at_44]) (by simp [rtsR, endE, ed0])
  · have y0 := hq.a0
    have z0 := hq.b0
    simp only at y0 z0
    cases hk : s.a.k with
    | false => exact do_fit (do_45n y z k i hi hq s hs nr arch w hk) (by simp [behS]) (by simp [plcR, othA, form_at_45, Int.toNat_of_nonneg y0, Int.toNat_of_nonneg z0, hk]) (by simp [rtsR, endE, ed0])
    | true =>
      cases hx : s.x.k with
      | false => exact do_fit (do_45xn y z k i hi hq s hs nr arch w hk hx) (by simp [behS]) (by simp [plcR, othA, form_at_45, Int.toNat_of_nonneg y0, Int.toNat_of_nonneg z0, hk, hx]) (by simp [rtsR, endE, ed0])
      | true =>
        cases hv : hdI 45 s.a.v s.x.v with
        | false => exact do_fit (do_45yf y z k i hi hq s hs nr arch w hk hx hv) (by simp [behS]) (by simp [plcR, othA, form_at_45, Int.toNat_of_nonneg y0, Int.toNat_of_nonneg z0, hk, hx, hv]) (by simp [rtsR, endE, ed0])
        | true => exact do_fit (do_45yt y z k i hi hq s hs nr arch w hk hx hv) (by simp [behS]) (by simp [plcR, othA, form_at_45, Int.toNat_of_nonneg y0, Int.toNat_of_nonneg z0, hk, hx, hv]) (by simp [rtsR, endE, ed0])
  · have hz := hd0 rfl

    cases hk : s.a.k with
    | false => exact do_fit (do_52n y z k i hi hq s hs nr arch w hk hz) (by simp [behS, workA, hk]) (by simp [plcR, othA, form_at_52]) (by simp [rtsR, endE, ed0])
    | true => exact do_fit (do_52y y z k i hi hq s hs nr arch w hk hz (by simp [aluB, alI, opK, hz])) (by simp [behS, workA, othA, form_at_52, hk, sureA, aluV, alI, opK, hz]) (by simp [plcR, othA, form_at_52]) (by simp [rtsR, endE, ed0])
  · have y0 := hq.a0
    have z0 := hq.b0
    simp only at y0 z0
    cases hk : s.a.k with
    | false => exact do_fit (do_53n y z k i hi hq s hs nr arch w hk) (by simp [behS]) (by simp [plcR, othA, form_at_53, Int.toNat_of_nonneg y0, Int.toNat_of_nonneg z0, hk]) (by simp [rtsR, endE, ed0])
    | true =>
      cases hv : hdI 53 s.a.v k with
      | false => exact do_fit (do_53yf y z k i hi hq s hs nr arch w hk hv) (by simp [behS]) (by simp [plcR, othA, form_at_53, Int.toNat_of_nonneg y0, Int.toNat_of_nonneg z0, hk, sureA, hv]) (by simp [rtsR, endE, ed0])
      | true => exact do_fit (do_53yt y z k i hi hq s hs nr arch w hk hv) (by simp [behS]) (by simp [plcR, othA, form_at_53, Int.toNat_of_nonneg y0, Int.toNat_of_nonneg z0, hk, sureA, hv]) (by simp [rtsR, endE, ed0])
  · cases hx : s.x.k with
    | false =>
      have hn : ¬ s.x = sureA 0 := fun e => by rw [e] at hx; cases hx
      cases hk : s.a.k with
      | false => exact do_fit (do_60un y z k i hi hq s hs nr arch w hk hx) (by simp [behS, workA, hk]) (by simp [plcR, othA, form_at_60, hn]) (by simp [rtsR, endE, ed0, hx])
      | true => exact do_fit (do_60uy y z k i hi hq s hs nr arch w hk hx) (by simp [behS, workA, othA, form_at_60, hk, hx]) (by simp [plcR, othA, form_at_60, hn]) (by simp [rtsR, endE, ed0, hx])
    | true =>
      by_cases hz : s.x.v = 0
      · have hn : s.x = sureA 0 := by cases hh : s.x; rw [hh] at hx hz; simp only at hx hz; subst hx hz; rfl
        cases hk : s.a.k with
        | false => exact do_fit (do_60zn y z k i hi hq s hs nr arch w hk hx hz) (by simp [behS, workA, hk]) (by simp [plcR, othA, form_at_60, hn]) (by simp [rtsR, endE, ed0, hn, sureA])
        | true => exact do_fit (do_60zy y z k i hi hq s hs nr arch w hk hx hz) (by simp [behS, workA, othA, form_at_60, hk, hn, sureA, alI, opK]) (by simp [plcR, othA, form_at_60, hn]) (by simp [rtsR, endE, ed0, hn, sureA])
      · have hn : ¬ s.x = sureA 0 := fun e => hz (by rw [e]; rfl)
        cases hk : s.a.k with
        | false => exact do_fit (do_60n y z k i hi hq s hs nr arch w hk hx hz) (by simp [behS, workA, hk]) (by simp [plcR, othA, form_at_60, hn]) (by simp [rtsR, endE, ed0, hn, hx])
        | true => exact do_fit (do_60y y z k i hi hq s hs nr arch w hk hx hz (by simp [aluB, alI, opK, hz])) (by simp [behS, workA, othA, form_at_60, hk, hx, sureA, aluV, alI, opK, hz]) (by simp [plcR, othA, form_at_60, hn]) (by simp [rtsR, endE, ed0, hn, hx])
  · have y0 := hq.a0
    have z0 := hq.b0
    simp only at y0 z0
    cases hk : s.a.k with
    | false => exact do_fit (do_61n y z k i hi hq s hs nr arch w hk) (by simp [behS]) (by simp [plcR, othA, form_at_61, Int.toNat_of_nonneg y0, Int.toNat_of_nonneg z0, hk]) (by simp [rtsR, endE, ed0])
    | true =>
      cases hx : s.x.k with
      | false => exact do_fit (do_61xn y z k i hi hq s hs nr arch w hk hx) (by simp [behS]) (by simp [plcR, othA, form_at_61, Int.toNat_of_nonneg y0, Int.toNat_of_nonneg z0, hk, hx]) (by simp [rtsR, endE, ed0])
      | true =>
        cases hv : hdI 61 s.a.v s.x.v with
        | false => exact do_fit (do_61yf y z k i hi hq s hs nr arch w hk hx hv) (by simp [behS]) (by simp [plcR, othA, form_at_61, Int.toNat_of_nonneg y0, Int.toNat_of_nonneg z0, hk, hx, hv]) (by simp [rtsR, endE, ed0])
        | true => exact do_fit (do_61yt y z k i hi hq s hs nr arch w hk hx hv) (by simp [behS]) (by simp [plcR, othA, form_at_61, Int.toNat_of_nonneg y0, Int.toNat_of_nonneg z0, hk, hx, hv]) (by simp [rtsR, endE, ed0])
  · cases hk : s.a.k with
    | false => exact do_fit (do_Kn 68 _ _ aluc_68 y z k i hi hq s hs nr arch w hk) (by simp [behS, workA, hk]) (by simp [plcR, othA, form_at_68]) (by simp [rtsR, endE, ed0])
    | true => exact do_fit (do_Ky 68 _ _ aluc_68 y z k i hi hq s hs nr arch w hk (by simp [aluB, alI, opK])) (by simp [behS, workA, othA, form_at_68, hk, sureA, aluV, alI, opK]) (by simp [plcR, othA, form_at_68]) (by simp [rtsR, endE, ed0])
  · have y0 := hq.a0
    have z0 := hq.b0
    simp only at y0 z0
    cases hk : s.a.k with
    | false => exact do_fit (do_69n y z k i hi hq s hs nr arch w hk) (by simp [behS]) (by simp [plcR, othA, form_at_69, Int.toNat_of_nonneg y0, Int.toNat_of_nonneg z0, hk]) (by simp [rtsR, endE, ed0])
    | true =>
      cases hv : hdI 69 s.a.v k with
      | false => exact do_fit (do_69yf y z k i hi hq s hs nr arch w hk hv) (by simp [behS]) (by simp [plcR, othA, form_at_69, Int.toNat_of_nonneg y0, Int.toNat_of_nonneg z0, hk, sureA, hv]) (by simp [rtsR, endE, ed0])
      | true => exact do_fit (do_69yt y z k i hi hq s hs nr arch w hk hv) (by simp [behS]) (by simp [plcR, othA, form_at_69, Int.toNat_of_nonneg y0, Int.toNat_of_nonneg z0, hk, sureA, hv]) (by simp [rtsR, endE, ed0])
  · cases hk : s.a.k with
    | false => exact do_fit (do_Xn 76 _ _ aluc_76 y z k i hi hq s hs nr arch w hk) (by simp [behS, workA, hk]) (by simp [plcR, othA, form_at_76]) (by simp [rtsR, endE, ed0])
    | true =>
      cases hx : s.x.k with
      | false => exact do_fit (do_Xxn 76 _ _ aluc_76 y z k i hi hq s hs nr arch w hk hx) (by simp [behS, workA, othA, form_at_76, hk, hx]) (by simp [plcR, othA, form_at_76]) (by simp [rtsR, endE, ed0])
      | true => exact do_fit (do_Xy 76 _ _ aluc_76 y z k i hi hq s hs nr arch w hk hx (by simp [aluB, alI, opK])) (by simp [behS, workA, othA, form_at_76, hk, hx, sureA, aluV, alI, opK]) (by simp [plcR, othA, form_at_76]) (by simp [rtsR, endE, ed0])
  · have y0 := hq.a0
    have z0 := hq.b0
    simp only at y0 z0
    cases hk : s.a.k with
    | false => exact do_fit (do_77n y z k i hi hq s hs nr arch w hk) (by simp [behS]) (by simp [plcR, othA, form_at_77, Int.toNat_of_nonneg y0, Int.toNat_of_nonneg z0, hk]) (by simp [rtsR, endE, ed0])
    | true =>
      cases hx : s.x.k with
      | false => exact do_fit (do_77xn y z k i hi hq s hs nr arch w hk hx) (by simp [behS]) (by simp [plcR, othA, form_at_77, Int.toNat_of_nonneg y0, Int.toNat_of_nonneg z0, hk, hx]) (by simp [rtsR, endE, ed0])
      | true =>
        cases hv : hdI 77 s.a.v s.x.v with
        | false => exact do_fit (do_77yf y z k i hi hq s hs nr arch w hk hx hv) (by simp [behS]) (by simp [plcR, othA, form_at_77, Int.toNat_of_nonneg y0, Int.toNat_of_nonneg z0, hk, hx, hv]) (by simp [rtsR, endE, ed0])
        | true => exact do_fit (do_77yt y z k i hi hq s hs nr arch w hk hx hv) (by simp [behS]) (by simp [plcR, othA, form_at_77, Int.toNat_of_nonneg y0, Int.toNat_of_nonneg z0, hk, hx, hv]) (by simp [rtsR, endE, ed0])
  · cases hk : s.a.k with
    | false => exact do_fit (do_Kn 84 _ _ aluc_84 y z k i hi hq s hs nr arch w hk) (by simp [behS, workA, hk]) (by simp [plcR, othA, form_at_84]) (by simp [rtsR, endE, ed0])
    | true => exact do_fit (do_Ky 84 _ _ aluc_84 y z k i hi hq s hs nr arch w hk (by simp [aluB, alI, opK])) (by simp [behS, workA, othA, form_at_84, hk, sureA, aluV, alI, opK]) (by simp [plcR, othA, form_at_84]) (by simp [rtsR, endE, ed0])
  · cases hk : s.a.k with
    | false => exact do_fit (do_Xn 92 _ _ aluc_92 y z k i hi hq s hs nr arch w hk) (by simp [behS, workA, hk]) (by simp [plcR, othA, form_at_92]) (by simp [rtsR, endE, ed0])
    | true =>
      cases hx : s.x.k with
      | false => exact do_fit (do_Xxn 92 _ _ aluc_92 y z k i hi hq s hs nr arch w hk hx) (by simp [behS, workA, othA, form_at_92, hk, hx]) (by simp [plcR, othA, form_at_92]) (by simp [rtsR, endE, ed0])
      | true => exact do_fit (do_Xy 92 _ _ aluc_92 y z k i hi hq s hs nr arch w hk hx (by simp [aluB, alI, opK])) (by simp [behS, workA, othA, form_at_92, hk, hx, sureA, aluV, alI, opK]) (by simp [plcR, othA, form_at_92]) (by simp [rtsR, endE, ed0])
  · have h16 := hm (by rw [form_at_96])
    have k0 := hq.k0
    simp only at h16 k0
    exact do_fit (do_96 y z k i hi hq s hs nr arch w k.toNat (by omega) (by omega) _ rfl) (by simp [behS]) (by simp [plcR, othA, form_at_96]) (by simp [rtsR, endE, ed0])
  · have h16 := hm (by rw [form_at_97])
    have k0 := hq.k0
    simp only at h16 k0
    exact do_fit (do_97 y z k i hi hq s hs nr arch w k.toNat (by omega) (by omega) _ rfl) (by simp [behS]) (by simp [plcR, othA, form_at_97]) (by simp [rtsR, endE, ed0])
  · cases hk : s.a.k with
    | false => exact do_fit (do_Kn 100 _ _ aluc_100 y z k i hi hq s hs nr arch w hk) (by simp [behS, workA, hk]) (by simp [plcR, othA, form_at_100]) (by simp [rtsR, endE, ed0])
    | true => exact do_fit (do_Ky 100 _ _ aluc_100 y z k i hi hq s hs nr arch w hk (by simp [aluB, alI, opK])) (by simp [behS, workA, othA, form_at_100, hk, sureA, aluV, alI, opK]) (by simp [plcR, othA, form_at_100]) (by simp [rtsR, endE, ed0])
  · cases hk : s.a.k with
    | false => exact do_fit (do_Xn 108 _ _ aluc_108 y z k i hi hq s hs nr arch w hk) (by simp [behS, workA, hk]) (by simp [plcR, othA, form_at_108]) (by simp [rtsR, endE, ed0])
    | true =>
      cases hx : s.x.k with
      | false => exact do_fit (do_Xxn 108 _ _ aluc_108 y z k i hi hq s hs nr arch w hk hx) (by simp [behS, workA, othA, form_at_108, hk, hx]) (by simp [plcR, othA, form_at_108]) (by simp [rtsR, endE, ed0])
      | true => exact do_fit (do_Xy 108 _ _ aluc_108 y z k i hi hq s hs nr arch w hk hx (by simp [aluB, alI, opK])) (by simp [behS, workA, othA, form_at_108, hk, hx, sureA, aluV, alI, opK]) (by simp [plcR, othA, form_at_108]) (by simp [rtsR, endE, ed0])
  · cases hk : s.a.k with
    | false => exact do_fit (do_Kn 116 _ _ aluc_116 y z k i hi hq s hs nr arch w hk) (by simp [behS, workA, hk]) (by simp [plcR, othA, form_at_116]) (by simp [rtsR, endE, ed0])
    | true => exact do_fit (do_Ky 116 _ _ aluc_116 y z k i hi hq s hs nr arch w hk (by simp [aluB, alI, opK])) (by simp [behS, workA, othA, form_at_116, hk, sureA, aluV, alI, opK]) (by simp [plcR, othA, form_at_116]) (by simp [rtsR, endE, ed0])
  · cases hk : s.a.k with
    | false => exact do_fit (do_Xn 124 _ _ aluc_124 y z k i hi hq s hs nr arch w hk) (by simp [behS, workA, hk]) (by simp [plcR, othA, form_at_124]) (by simp [rtsR, endE, ed0])
    | true =>
      cases hx : s.x.k with
      | false => exact do_fit (do_Xxn 124 _ _ aluc_124 y z k i hi hq s hs nr arch w hk hx) (by simp [behS, workA, othA, form_at_124, hk, hx]) (by simp [plcR, othA, form_at_124]) (by simp [rtsR, endE, ed0])
      | true => exact do_fit (do_Xy 124 _ _ aluc_124 y z k i hi hq s hs nr arch w hk hx (by simp [aluB, alI, opK])) (by simp [behS, workA, othA, form_at_124, hk, hx, sureA, aluV, alI, opK]) (by simp [plcR, othA, form_at_124]) (by simp [rtsR, endE, ed0])
  · exact do_fit (do_128 y z k i hi hq s hs nr arch w) (by simp [behS]) (by simp [plcR, othA, form_at_128]) (by simp [rtsR, endE, ed0])
  · exact do_fit (do_129 y z k i hi hq s hs nr arch w) (by simp [behS]) (by simp [plcR, othA, form_at_129]) (by simp [rtsR, endE, ed0])
  · cases hk : s.a.k with
    | false => exact do_fit (do_132n y z k i hi hq s hs nr arch w hk) (by simp [behS, workA, hk]) (by simp [plcR, othA, form_at_132]) (by simp [rtsR, endE, ed0])
    | true => exact do_fit (do_132y y z k i hi hq s hs nr arch w hk) (by simp [behS, workA, othA, hk, alI, opK]) (by simp [plcR, othA, form_at_132]) (by simp [rtsR, endE, ed0])
  · exact do_fit (do_135 y z k i hi hq s hs nr arch w) (by simp [behS]) (by simp [plcR, othA, form_at_135]) (by simp [rtsR, endE, ed0])
  · cases hk : s.a.k with
    | false => exact do_fit (do_Kn 164 _ _ aluc_164 y z k i hi hq s hs nr arch w hk) (by simp [behS, workA, hk]) (by simp [plcR, othA, form_at_164]) (by simp [rtsR, endE, ed0])
    | true => exact do_fit (do_Ky 164 _ _ aluc_164 y z k i hi hq s hs nr arch w hk (by simp [aluB, alI, opK])) (by simp [behS, workA, othA, form_at_164, hk, sureA, aluV, alI, opK]) (by simp [plcR, othA, form_at_164]) (by simp [rtsR, endE, ed0])
  · cases hk : s.a.k with
    | false => exact do_fit (do_Xn 172 _ _ aluc_172 y z k i hi hq s hs nr arch w hk) (by simp [behS, workA, hk]) (by simp [plcR, othA, form_at_172]) (by simp [rtsR, endE, ed0])
    | true =>
      cases hx : s.x.k with
      | false => exact do_fit (do_Xxn 172 _ _ aluc_172 y z k i hi hq s hs nr arch w hk hx) (by simp [behS, workA, othA, form_at_172, hk, hx]) (by simp [plcR, othA, form_at_172]) (by simp [rtsR, endE, ed0])
      | true => exact do_fit (do_Xy 172 _ _ aluc_172 y z k i hi hq s hs nr arch w hk hx (by simp [aluB, alI, opK])) (by simp [behS, workA, othA, form_at_172, hk, hx, sureA, aluV, alI, opK]) (by simp [plcR, othA, form_at_172]) (by simp [rtsR, endE, ed0])
end Go.Proofs.YtehcijockeecpaaDoor
