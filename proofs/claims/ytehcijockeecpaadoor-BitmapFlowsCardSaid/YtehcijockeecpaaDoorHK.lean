/-
  Named, Named1, Named2, Named3, Named4, Named5, NamedEnd: in one file.
-/
import Derived.Test.YtehcijockeecpaaDoorHE
import Derived.Test.YtehcijockeecpaaDoorHI
/-
  The reference's answers on codes: sided, named, Name, Form.
-/
namespace Go.Proofs.YtehcijockeecpaaDoor
open Go.RowKit

/-- The names of reckonings, by the code's high half byte. -/
def sideL : List (List UInt8) := [[97, 100, 100], [115, 117, 98], [109, 117, 108], [100, 105, 118], [111, 114], [97, 110, 100], [108, 115, 104], [114, 115, 104], [], [], [120, 111, 114], [], [], [], [], []]
def side (h : Int) : ByteArray := ⟨(sideL.getD h.toNat []).toArray⟩

theorem half_cases {c : Int} (h0 : 0 ≤ c) (h1 : c ≤ 255) : c / 16 = 0 ∨ c / 16 = 1 ∨ c / 16 = 2 ∨ c / 16 = 3 ∨ c / 16 = 4 ∨ c / 16 = 5 ∨ c / 16 = 6 ∨ c / 16 = 7 ∨ c / 16 = 8 ∨ c / 16 = 9 ∨ c / 16 = 10 ∨ c / 16 = 11 ∨ c / 16 = 12 ∨ c / 16 = 13 ∨ c / 16 = 14 ∨ c / 16 = 15 := by omega

/-- named's answer. -/
def NamedAt (c : Int) (w : World) : Prop := Calls Tryd.prog 55 #[.int .u16 c] w fun e w' => e = .returned (.tuple #[.string (nameOf c).1, .int .i64 (formOf c)]) ∧ Below w.heap.size w w'

set_option maxRecDepth 100000 in
set_option maxHeartbeats 4000000 in
theorem sided_any (c : Int) (w : World) (h0 : 0 ≤ c) (h1 : c ≤ 255) : Calls Tryd.prog 64 #[.int .u16 c] w fun e w' => e = .returned (.string (side (c / 16))) ∧ w' = w := by
  rcases half_cases h0 h1 with h | h | h | h | h | h | h | h | h | h | h | h | h | h | h | h
  · have hi : ∀ w, (Instr.index 109 (.agg #[.string ⟨#[97, 100, 100]⟩, .string ⟨#[115, 117, 98]⟩, .string ⟨#[109, 117, 108]⟩, .string ⟨#[100, 105, 118]⟩, .string ⟨#[111, 114]⟩, .string ⟨#[97, 110, 100]⟩, .string ⟨#[108, 115, 104]⟩, .string ⟨#[114, 115, 104]⟩, .string ⟨#[]⟩, .string ⟨#[]⟩, .string ⟨#[120, 111, 114]⟩, .string ⟨#[]⟩, .string ⟨#[]⟩, .string ⟨#[]⟩, .string ⟨#[]⟩, .string ⟨#[]⟩]) (.int .u16 0)).run Tryd.prog w = .ok (.string ⟨#[97, 100, 100]⟩) w := fun _ => by kernel_rfl
    rw [h]
    go_enter Tryd.func64, Tryd.ntmps64
    go_wp2
    go_ret
    exact ⟨rfl, rfl⟩
  · have hi : ∀ w, (Instr.index 109 (.agg #[.string ⟨#[97, 100, 100]⟩, .string ⟨#[115, 117, 98]⟩, .string ⟨#[109, 117, 108]⟩, .string ⟨#[100, 105, 118]⟩, .string ⟨#[111, 114]⟩, .string ⟨#[97, 110, 100]⟩, .string ⟨#[108, 115, 104]⟩, .string ⟨#[114, 115, 104]⟩, .string ⟨#[]⟩, .string ⟨#[]⟩, .string ⟨#[120, 111, 114]⟩, .string ⟨#[]⟩, .string ⟨#[]⟩, .string ⟨#[]⟩, .string ⟨#[]⟩, .string ⟨#[]⟩]) (.int .u16 1)).run Tryd.prog w = .ok (.string ⟨#[115, 117, 98]⟩) w := fun _ => by kernel_rfl
    rw [h]
    go_enter Tryd.func64, Tryd.ntmps64
    go_wp2
    go_ret
    exact ⟨rfl, rfl⟩
  · have hi : ∀ w, (Instr.index 109 (.agg #[.string ⟨#[97, 100, 100]⟩, .string ⟨#[115, 117, 98]⟩, .string ⟨#[109, 117, 108]⟩, .string ⟨#[100, 105, 118]⟩, .string ⟨#[111, 114]⟩, .string ⟨#[97, 110, 100]⟩, .string ⟨#[108, 115, 104]⟩, .string ⟨#[114, 115, 104]⟩, .string ⟨#[]⟩, .string ⟨#[]⟩, .string ⟨#[120, 111, 114]⟩, .string ⟨#[]⟩, .string ⟨#[]⟩, .string ⟨#[]⟩, .string ⟨#[]⟩, .string ⟨#[]⟩]) (.int .u16 2)).run Tryd.prog w = .ok (.string ⟨#[109, 117, 108]⟩) w := fun _ => by kernel_rfl
    rw [h]
    go_enter Tryd.func64, Tryd.ntmps64
    go_wp2
    go_ret
    exact ⟨rfl, rfl⟩
  · have hi : ∀ w, (Instr.index 109 (.agg #[.string ⟨#[97, 100, 100]⟩, .string ⟨#[115, 117, 98]⟩, .string ⟨#[109, 117, 108]⟩, .string ⟨#[100, 105, 118]⟩, .string ⟨#[111, 114]⟩, .string ⟨#[97, 110, 100]⟩, .string ⟨#[108, 115, 104]⟩, .string ⟨#[114, 115, 104]⟩, .string ⟨#[]⟩, .string ⟨#[]⟩, .string ⟨#[120, 111, 114]⟩, .string ⟨#[]⟩, .string ⟨#[]⟩, .string ⟨#[]⟩, .string ⟨#[]⟩, .string ⟨#[]⟩]) (.int .u16 3)).run Tryd.prog w = .ok (.string ⟨#[100, 105, 118]⟩) w := fun _ => by kernel_rfl
    rw [h]
    go_enter Tryd.func64, Tryd.ntmps64
    go_wp2
    go_ret
    exact ⟨rfl, rfl⟩
  · have hi : ∀ w, (Instr.index 109 (.agg #[.string ⟨#[97, 100, 100]⟩, .string ⟨#[115, 117, 98]⟩, .string ⟨#[109, 117, 108]⟩, .string ⟨#[100, 105, 118]⟩, .string ⟨#[111, 114]⟩, .string ⟨#[97, 110, 100]⟩, .string ⟨#[108, 115, 104]⟩, .string ⟨#[114, 115, 104]⟩, .string ⟨#[]⟩, .string ⟨#[]⟩, .string ⟨#[120, 111, 114]⟩, .string ⟨#[]⟩, .string ⟨#[]⟩, .string ⟨#[]⟩, .string ⟨#[]⟩, .string ⟨#[]⟩]) (.int .u16 4)).run Tryd.prog w = .ok (.string ⟨#[111, 114]⟩) w := fun _ => by kernel_rfl
    rw [h]
    go_enter Tryd.func64, Tryd.ntmps64
    go_wp2
    go_ret
    exact ⟨rfl, rfl⟩
  · have hi : ∀ w, (Instr.index 109 (.agg #[.string ⟨#[97, 100, 100]⟩, .string ⟨#[115, 117, 98]⟩, .string ⟨#[109, 117, 108]⟩, .string ⟨#[100, 105, 118]⟩, .string ⟨#[111, 114]⟩, .string ⟨#[97, 110, 100]⟩, .string ⟨#[108, 115, 104]⟩, .string ⟨#[114, 115, 104]⟩, .string ⟨#[]⟩, .string ⟨#[]⟩, .string ⟨#[120, 111, 114]⟩, .string ⟨#[]⟩, .string ⟨#[]⟩, .string ⟨#[]⟩, .string ⟨#[]⟩, .string ⟨#[]⟩]) (.int .u16 5)).run Tryd.prog w = .ok (.string ⟨#[97, 110, 100]⟩) w := fun _ => by kernel_rfl
    rw [h]
    go_enter Tryd.func64, Tryd.ntmps64
    go_wp2
    go_ret
    exact ⟨rfl, rfl⟩
  · have hi : ∀ w, (Instr.index 109 (.agg #[.string ⟨#[97, 100, 100]⟩, .string ⟨#[115, 117, 98]⟩, .string ⟨#[109, 117, 108]⟩, .string ⟨#[100, 105, 118]⟩, .string ⟨#[111, 114]⟩, .string ⟨#[97, 110, 100]⟩, .string ⟨#[108, 115, 104]⟩, .string ⟨#[114, 115, 104]⟩, .string ⟨#[]⟩, .string ⟨#[]⟩, .string ⟨#[120, 111, 114]⟩, .string ⟨#[]⟩, .string ⟨#[]⟩, .string ⟨#[]⟩, .string ⟨#[]⟩, .string ⟨#[]⟩]) (.int .u16 6)).run Tryd.prog w = .ok (.string ⟨#[108, 115, 104]⟩) w := fun _ => by kernel_rfl
    rw [h]
    go_enter Tryd.func64, Tryd.ntmps64
    go_wp2
    go_ret
    exact ⟨rfl, rfl⟩
  · have hi : ∀ w, (Instr.index 109 (.agg #[.string ⟨#[97, 100, 100]⟩, .string ⟨#[115, 117, 98]⟩, .string ⟨#[109, 117, 108]⟩, .string ⟨#[100, 105, 118]⟩, .string ⟨#[111, 114]⟩, .string ⟨#[97, 110, 100]⟩, .string ⟨#[108, 115, 104]⟩, .string ⟨#[114, 115, 104]⟩, .string ⟨#[]⟩, .string ⟨#[]⟩, .string ⟨#[120, 111, 114]⟩, .string ⟨#[]⟩, .string ⟨#[]⟩, .string ⟨#[]⟩, .string ⟨#[]⟩, .string ⟨#[]⟩]) (.int .u16 7)).run Tryd.prog w = .ok (.string ⟨#[114, 115, 104]⟩) w := fun _ => by kernel_rfl
    rw [h]
    go_enter Tryd.func64, Tryd.ntmps64
    go_wp2
    go_ret
    exact ⟨rfl, rfl⟩
  · have hi : ∀ w, (Instr.index 109 (.agg #[.string ⟨#[97, 100, 100]⟩, .string ⟨#[115, 117, 98]⟩, .string ⟨#[109, 117, 108]⟩, .string ⟨#[100, 105, 118]⟩, .string ⟨#[111, 114]⟩, .string ⟨#[97, 110, 100]⟩, .string ⟨#[108, 115, 104]⟩, .string ⟨#[114, 115, 104]⟩, .string ⟨#[]⟩, .string ⟨#[]⟩, .string ⟨#[120, 111, 114]⟩, .string ⟨#[]⟩, .string ⟨#[]⟩, .string ⟨#[]⟩, .string ⟨#[]⟩, .string ⟨#[]⟩]) (.int .u16 8)).run Tryd.prog w = .ok (.string ⟨#[]⟩) w := fun _ => by kernel_rfl
    rw [h]
    go_enter Tryd.func64, Tryd.ntmps64
    go_wp2
    go_ret
    exact ⟨rfl, rfl⟩
  · have hi : ∀ w, (Instr.index 109 (.agg #[.string ⟨#[97, 100, 100]⟩, .string ⟨#[115, 117, 98]⟩, .string ⟨#[109, 117, 108]⟩, .string ⟨#[100, 105, 118]⟩, .string ⟨#[111, 114]⟩, .string ⟨#[97, 110, 100]⟩, .string ⟨#[108, 115, 104]⟩, .string ⟨#[114, 115, 104]⟩, .string ⟨#[]⟩, .string ⟨#[]⟩, .string ⟨#[120, 111, 114]⟩, .string ⟨#[]⟩, .string ⟨#[]⟩, .string ⟨#[]⟩, .string ⟨#[]⟩, .string ⟨#[]⟩]) (.int .u16 9)).run Tryd.prog w = .ok (.string ⟨#[]⟩) w := fun _ => by kernel_rfl
    rw [h]
    go_enter Tryd.func64, Tryd.ntmps64
    go_wp2
    go_ret
    exact ⟨rfl, rfl⟩
  · have hi : ∀ w, (Instr.index 109 (.agg #[.string ⟨#[97, 100, 100]⟩, .string ⟨#[115, 117, 98]⟩, .string ⟨#[109, 117, 108]⟩, .string ⟨#[100, 105, 118]⟩, .string ⟨#[111, 114]⟩, .string ⟨#[97, 110, 100]⟩, .string ⟨#[108, 115, 104]⟩, .string ⟨#[114, 115, 104]⟩, .string ⟨#[]⟩, .string ⟨#[]⟩, .string ⟨#[120, 111, 114]⟩, .string ⟨#[]⟩, .string ⟨#[]⟩, .string ⟨#[]⟩, .string ⟨#[]⟩, .string ⟨#[]⟩]) (.int .u16 10)).run Tryd.prog w = .ok (.string ⟨#[120, 111, 114]⟩) w := fun _ => by kernel_rfl
    rw [h]
    go_enter Tryd.func64, Tryd.ntmps64
    go_wp2
    go_ret
    exact ⟨rfl, rfl⟩
  · have hi : ∀ w, (Instr.index 109 (.agg #[.string ⟨#[97, 100, 100]⟩, .string ⟨#[115, 117, 98]⟩, .string ⟨#[109, 117, 108]⟩, .string ⟨#[100, 105, 118]⟩, .string ⟨#[111, 114]⟩, .string ⟨#[97, 110, 100]⟩, .string ⟨#[108, 115, 104]⟩, .string ⟨#[114, 115, 104]⟩, .string ⟨#[]⟩, .string ⟨#[]⟩, .string ⟨#[120, 111, 114]⟩, .string ⟨#[]⟩, .string ⟨#[]⟩, .string ⟨#[]⟩, .string ⟨#[]⟩, .string ⟨#[]⟩]) (.int .u16 11)).run Tryd.prog w = .ok (.string ⟨#[]⟩) w := fun _ => by kernel_rfl
    rw [h]
    go_enter Tryd.func64, Tryd.ntmps64
    go_wp2
    go_ret
    exact ⟨rfl, rfl⟩
  · have hi : ∀ w, (Instr.index 109 (.agg #[.string ⟨#[97, 100, 100]⟩, .string ⟨#[115, 117, 98]⟩, .string ⟨#[109, 117, 108]⟩, .string ⟨#[100, 105, 118]⟩, .string ⟨#[111, 114]⟩, .string ⟨#[97, 110, 100]⟩, .string ⟨#[108, 115, 104]⟩, .string ⟨#[114, 115, 104]⟩, .string ⟨#[]⟩, .string ⟨#[]⟩, .string ⟨#[120, 111, 114]⟩, .string ⟨#[]⟩, .string ⟨#[]⟩, .string ⟨#[]⟩, .string ⟨#[]⟩, .string ⟨#[]⟩]) (.int .u16 12)).run Tryd.prog w = .ok (.string ⟨#[]⟩) w := fun _ => by kernel_rfl
    rw [h]
    go_enter Tryd.func64, Tryd.ntmps64
    go_wp2
    go_ret
    exact ⟨rfl, rfl⟩
  · have hi : ∀ w, (Instr.index 109 (.agg #[.string ⟨#[97, 100, 100]⟩, .string ⟨#[115, 117, 98]⟩, .string ⟨#[109, 117, 108]⟩, .string ⟨#[100, 105, 118]⟩, .string ⟨#[111, 114]⟩, .string ⟨#[97, 110, 100]⟩, .string ⟨#[108, 115, 104]⟩, .string ⟨#[114, 115, 104]⟩, .string ⟨#[]⟩, .string ⟨#[]⟩, .string ⟨#[120, 111, 114]⟩, .string ⟨#[]⟩, .string ⟨#[]⟩, .string ⟨#[]⟩, .string ⟨#[]⟩, .string ⟨#[]⟩]) (.int .u16 13)).run Tryd.prog w = .ok (.string ⟨#[]⟩) w := fun _ => by kernel_rfl
    rw [h]
    go_enter Tryd.func64, Tryd.ntmps64
    go_wp2
    go_ret
    exact ⟨rfl, rfl⟩
  · have hi : ∀ w, (Instr.index 109 (.agg #[.string ⟨#[97, 100, 100]⟩, .string ⟨#[115, 117, 98]⟩, .string ⟨#[109, 117, 108]⟩, .string ⟨#[100, 105, 118]⟩, .string ⟨#[111, 114]⟩, .string ⟨#[97, 110, 100]⟩, .string ⟨#[108, 115, 104]⟩, .string ⟨#[114, 115, 104]⟩, .string ⟨#[]⟩, .string ⟨#[]⟩, .string ⟨#[120, 111, 114]⟩, .string ⟨#[]⟩, .string ⟨#[]⟩, .string ⟨#[]⟩, .string ⟨#[]⟩, .string ⟨#[]⟩]) (.int .u16 14)).run Tryd.prog w = .ok (.string ⟨#[]⟩) w := fun _ => by kernel_rfl
    rw [h]
    go_enter Tryd.func64, Tryd.ntmps64
    go_wp2
    go_ret
    exact ⟨rfl, rfl⟩
  · have hi : ∀ w, (Instr.index 109 (.agg #[.string ⟨#[97, 100, 100]⟩, .string ⟨#[115, 117, 98]⟩, .string ⟨#[109, 117, 108]⟩, .string ⟨#[100, 105, 118]⟩, .string ⟨#[111, 114]⟩, .string ⟨#[97, 110, 100]⟩, .string ⟨#[108, 115, 104]⟩, .string ⟨#[114, 115, 104]⟩, .string ⟨#[]⟩, .string ⟨#[]⟩, .string ⟨#[120, 111, 114]⟩, .string ⟨#[]⟩, .string ⟨#[]⟩, .string ⟨#[]⟩, .string ⟨#[]⟩, .string ⟨#[]⟩]) (.int .u16 15)).run Tryd.prog w = .ok (.string ⟨#[]⟩) w := fun _ => by kernel_rfl
    rw [h]
    go_enter Tryd.func64, Tryd.ntmps64
    go_wp2
    go_ret
    exact ⟨rfl, rfl⟩
end Go.Proofs.YtehcijockeecpaaDoor

/-
  The reference's answers on codes: named, some of its cases.
-/
namespace Go.Proofs.YtehcijockeecpaaDoor
open Go.RowKit

set_option maxRecDepth 100000 in
set_option maxHeartbeats 4000000 in
theorem named_l32 (w : World) : NamedAt 32 w := by
  unfold NamedAt
  go_enter Tryd.func55, Tryd.ntmps55
  go_wp2_with fail
  go_ret2
  exact ⟨rfl, Below.refl _ _⟩

set_option maxRecDepth 100000 in
set_option maxHeartbeats 4000000 in
theorem named_l128 (w : World) : NamedAt 128 w := by
  unfold NamedAt
  go_enter Tryd.func55, Tryd.ntmps55
  go_wp2_with fail
  go_ret2
  exact ⟨rfl, Below.refl _ _⟩

set_option maxRecDepth 100000 in
set_option maxHeartbeats 4000000 in
theorem named_l129 (w : World) : NamedAt 129 w := by
  unfold NamedAt
  go_enter Tryd.func55, Tryd.ntmps55
  go_wp2_with fail
  go_ret2
  exact ⟨rfl, Below.refl _ _⟩

set_option maxRecDepth 100000 in
set_option maxHeartbeats 4000000 in
theorem named_l22 (w : World) : NamedAt 22 w := by
  unfold NamedAt
  go_enter Tryd.func55, Tryd.ntmps55
  go_wp2_with fail
  go_ret2
  exact ⟨rfl, Below.refl _ _⟩

set_option maxRecDepth 100000 in
set_option maxHeartbeats 4000000 in
theorem named_l132 (w : World) : NamedAt 132 w := by
  unfold NamedAt
  go_enter Tryd.func55, Tryd.ntmps55
  go_wp2_with fail
  go_ret2
  exact ⟨rfl, Below.refl _ _⟩

set_option maxRecDepth 100000 in
set_option maxHeartbeats 4000000 in
theorem named_l7 (w : World) : NamedAt 7 w := by
  unfold NamedAt
  go_enter Tryd.func55, Tryd.ntmps55
  go_wp2_with fail
  go_ret2
  exact ⟨rfl, Below.refl _ _⟩

set_option maxRecDepth 100000 in
set_option maxHeartbeats 4000000 in
theorem named_l135 (w : World) : NamedAt 135 w := by
  unfold NamedAt
  go_enter Tryd.func55, Tryd.ntmps55
  go_wp2_with fail
  go_ret2
  exact ⟨rfl, Below.refl _ _⟩

set_option maxRecDepth 100000 in
set_option maxHeartbeats 4000000 in
theorem named_l6 (w : World) : NamedAt 6 w := by
  unfold NamedAt
  go_enter Tryd.func55, Tryd.ntmps55
  go_wp2_with fail
  go_ret2
  exact ⟨rfl, Below.refl _ _⟩

set_option maxRecDepth 100000 in
set_option maxHeartbeats 4000000 in
theorem named_l0 (w : World) : NamedAt 0 w := by
  unfold NamedAt
  go_enter Tryd.func55, Tryd.ntmps55
  go_wp2_with fail
  go_ret2
  exact ⟨rfl, Below.refl _ _⟩

set_option maxRecDepth 100000 in
set_option maxHeartbeats 4000000 in
theorem named_l1 (w : World) : NamedAt 1 w := by
  unfold NamedAt
  go_enter Tryd.func55, Tryd.ntmps55
  go_wp2_with fail
  go_ret2
  exact ⟨rfl, Below.refl _ _⟩

set_option maxRecDepth 100000 in
set_option maxHeartbeats 4000000 in
theorem named_l96 (w : World) : NamedAt 96 w := by
  unfold NamedAt
  go_enter Tryd.func55, Tryd.ntmps55
  go_wp2_with fail
  go_ret2
  exact ⟨rfl, Below.refl _ _⟩

set_option maxRecDepth 100000 in
set_option maxHeartbeats 4000000 in
theorem named_l97 (w : World) : NamedAt 97 w := by
  unfold NamedAt
  go_enter Tryd.func55, Tryd.ntmps55
  go_wp2_with fail
  go_ret2
  exact ⟨rfl, Below.refl _ _⟩

set_option maxRecDepth 100000 in
set_option maxHeartbeats 4000000 in
theorem named_l2 (w : World) : NamedAt 2 w := by
  unfold NamedAt
  go_enter Tryd.func55, Tryd.ntmps55
  go_wp2_with fail
  go_ret2
  exact ⟨rfl, Below.refl _ _⟩

set_option maxRecDepth 100000 in
set_option maxHeartbeats 4000000 in
theorem named_l3 (w : World) : NamedAt 3 w := by
  unfold NamedAt
  go_enter Tryd.func55, Tryd.ntmps55
  go_wp2_with fail
  go_ret2
  exact ⟨rfl, Below.refl _ _⟩

set_option maxRecDepth 100000 in
set_option maxHeartbeats 4000000 in
theorem named_l5 (w : World) : NamedAt 5 w := by
  unfold NamedAt
  go_enter Tryd.func55, Tryd.ntmps55
  go_wp2_with fail
  go_ret2
  exact ⟨rfl, Below.refl _ _⟩

set_option maxRecDepth 100000 in
set_option maxHeartbeats 4000000 in
theorem named_c4 (w : World) : NamedAt 4 w := by
  have hs : ∀ w, Calls Tryd.prog 64 #[.int .u16 4] w fun e w' => e = .returned (.string ⟨#[97, 100, 100]⟩) ∧ w' = w := fun w => sided_any 4 w (by decide) (by decide)
  unfold NamedAt
  go_enter Tryd.func55, Tryd.ntmps55
  go_wp2_with fail
  refine (hs _).mono ?_
  rintro e w1 ⟨rfl, rfl⟩
  go_wp2_with fail
  go_ret2
  exact ⟨rfl, (Below.refl _ _)⟩

set_option maxRecDepth 100000 in
set_option maxHeartbeats 4000000 in
theorem named_c12 (w : World) : NamedAt 12 w := by
  have hs : ∀ w, Calls Tryd.prog 64 #[.int .u16 12] w fun e w' => e = .returned (.string ⟨#[97, 100, 100]⟩) ∧ w' = w := fun w => sided_any 12 w (by decide) (by decide)
  unfold NamedAt
  go_enter Tryd.func55, Tryd.ntmps55
  go_wp2_with fail
  refine (hs _).mono ?_
  rintro e w1 ⟨rfl, rfl⟩
  go_wp2_with fail
  go_ret2
  exact ⟨rfl, (Below.refl _ _)⟩

set_option maxRecDepth 100000 in
set_option maxHeartbeats 4000000 in
theorem named_c13 (w : World) : NamedAt 13 w := by
  have hs : ∀ w, Calls Tryd.prog 64 #[.int .u16 13] w fun e w' => e = .returned (.string ⟨#[97, 100, 100]⟩) ∧ w' = w := fun w => sided_any 13 w (by decide) (by decide)
  unfold NamedAt
  go_enter Tryd.func55, Tryd.ntmps55
  go_wp2_with fail
  refine (hs _).mono ?_
  rintro e w1 ⟨rfl, rfl⟩
  go_wp2_with fail
  go_ret2
  exact ⟨rfl, (Below.refl _ _).alloc (Nat.le_refl _) _⟩

set_option maxRecDepth 100000 in
set_option maxHeartbeats 4000000 in
theorem named_c20 (w : World) : NamedAt 20 w := by
  have hs : ∀ w, Calls Tryd.prog 64 #[.int .u16 20] w fun e w' => e = .returned (.string ⟨#[115, 117, 98]⟩) ∧ w' = w := fun w => sided_any 20 w (by decide) (by decide)
  unfold NamedAt
  go_enter Tryd.func55, Tryd.ntmps55
  go_wp2_with fail
  refine (hs _).mono ?_
  rintro e w1 ⟨rfl, rfl⟩
  go_wp2_with fail
  go_ret2
  exact ⟨rfl, (Below.refl _ _)⟩
end Go.Proofs.YtehcijockeecpaaDoor

/-
  The reference's answers on codes: named, some of its cases.
-/
namespace Go.Proofs.YtehcijockeecpaaDoor
open Go.RowKit

set_option maxRecDepth 100000 in
set_option maxHeartbeats 4000000 in
theorem named_c21 (w : World) : NamedAt 21 w := by
  have hs : ∀ w, Calls Tryd.prog 64 #[.int .u16 21] w fun e w' => e = .returned (.string ⟨#[115, 117, 98]⟩) ∧ w' = w := fun w => sided_any 21 w (by decide) (by decide)
  unfold NamedAt
  go_enter Tryd.func55, Tryd.ntmps55
  go_wp2_with fail
  refine (hs _).mono ?_
  rintro e w1 ⟨rfl, rfl⟩
  go_wp2_with fail
  go_ret2
  exact ⟨rfl, (Below.refl _ _).alloc (Nat.le_refl _) _⟩

set_option maxRecDepth 100000 in
set_option maxHeartbeats 4000000 in
theorem named_c28 (w : World) : NamedAt 28 w := by
  have hs : ∀ w, Calls Tryd.prog 64 #[.int .u16 28] w fun e w' => e = .returned (.string ⟨#[115, 117, 98]⟩) ∧ w' = w := fun w => sided_any 28 w (by decide) (by decide)
  unfold NamedAt
  go_enter Tryd.func55, Tryd.ntmps55
  go_wp2_with fail
  refine (hs _).mono ?_
  rintro e w1 ⟨rfl, rfl⟩
  go_wp2_with fail
  go_ret2
  exact ⟨rfl, (Below.refl _ _)⟩

set_option maxRecDepth 100000 in
set_option maxHeartbeats 4000000 in
theorem named_c29 (w : World) : NamedAt 29 w := by
  have hs : ∀ w, Calls Tryd.prog 64 #[.int .u16 29] w fun e w' => e = .returned (.string ⟨#[115, 117, 98]⟩) ∧ w' = w := fun w => sided_any 29 w (by decide) (by decide)
  unfold NamedAt
  go_enter Tryd.func55, Tryd.ntmps55
  go_wp2_with fail
  refine (hs _).mono ?_
  rintro e w1 ⟨rfl, rfl⟩
  go_wp2_with fail
  go_ret2
  exact ⟨rfl, (Below.refl _ _).alloc (Nat.le_refl _) _⟩

set_option maxRecDepth 100000 in
set_option maxHeartbeats 4000000 in
theorem named_c36 (w : World) : NamedAt 36 w := by
  have hs : ∀ w, Calls Tryd.prog 64 #[.int .u16 36] w fun e w' => e = .returned (.string ⟨#[109, 117, 108]⟩) ∧ w' = w := fun w => sided_any 36 w (by decide) (by decide)
  unfold NamedAt
  go_enter Tryd.func55, Tryd.ntmps55
  go_wp2_with fail
  refine (hs _).mono ?_
  rintro e w1 ⟨rfl, rfl⟩
  go_wp2_with fail
  go_ret2
  exact ⟨rfl, (Below.refl _ _)⟩

set_option maxRecDepth 100000 in
set_option maxHeartbeats 4000000 in
theorem named_c37 (w : World) : NamedAt 37 w := by
  have hs : ∀ w, Calls Tryd.prog 64 #[.int .u16 37] w fun e w' => e = .returned (.string ⟨#[109, 117, 108]⟩) ∧ w' = w := fun w => sided_any 37 w (by decide) (by decide)
  unfold NamedAt
  go_enter Tryd.func55, Tryd.ntmps55
  go_wp2_with fail
  refine (hs _).mono ?_
  rintro e w1 ⟨rfl, rfl⟩
  go_wp2_with fail
  go_ret2
  exact ⟨rfl, (Below.refl _ _).alloc (Nat.le_refl _) _⟩

set_option maxRecDepth 100000 in
set_option maxHeartbeats 4000000 in
theorem named_c44 (w : World) : NamedAt 44 w := by
  have hs : ∀ w, Calls Tryd.prog 64 #[.int .u16 44] w fun e w' => e = .returned (.string ⟨#[109, 117, 108]⟩) ∧ w' = w := fun w => sided_any 44 w (by decide) (by decide)
  unfold NamedAt
  go_enter Tryd.func55, Tryd.ntmps55
  go_wp2_with fail
  refine (hs _).mono ?_
  rintro e w1 ⟨rfl, rfl⟩
  go_wp2_with fail
  go_ret2
  exact ⟨rfl, (Below.refl _ _)⟩

set_option maxRecDepth 100000 in
set_option maxHeartbeats 4000000 in
theorem named_c45 (w : World) : NamedAt 45 w := by
  have hs : ∀ w, Calls Tryd.prog 64 #[.int .u16 45] w fun e w' => e = .returned (.string ⟨#[109, 117, 108]⟩) ∧ w' = w := fun w => sided_any 45 w (by decide) (by decide)
  unfold NamedAt
  go_enter Tryd.func55, Tryd.ntmps55
  go_wp2_with fail
  refine (hs _).mono ?_
  rintro e w1 ⟨rfl, rfl⟩
  go_wp2_with fail
  go_ret2
  exact ⟨rfl, (Below.refl _ _).alloc (Nat.le_refl _) _⟩

set_option maxRecDepth 100000 in
set_option maxHeartbeats 4000000 in
theorem named_c52 (w : World) : NamedAt 52 w := by
  have hs : ∀ w, Calls Tryd.prog 64 #[.int .u16 52] w fun e w' => e = .returned (.string ⟨#[100, 105, 118]⟩) ∧ w' = w := fun w => sided_any 52 w (by decide) (by decide)
  unfold NamedAt
  go_enter Tryd.func55, Tryd.ntmps55
  go_wp2_with fail
  refine (hs _).mono ?_
  rintro e w1 ⟨rfl, rfl⟩
  go_wp2_with fail
  go_ret2
  exact ⟨rfl, (Below.refl _ _)⟩

set_option maxRecDepth 100000 in
set_option maxHeartbeats 4000000 in
theorem named_c53 (w : World) : NamedAt 53 w := by
  have hs : ∀ w, Calls Tryd.prog 64 #[.int .u16 53] w fun e w' => e = .returned (.string ⟨#[100, 105, 118]⟩) ∧ w' = w := fun w => sided_any 53 w (by decide) (by decide)
  unfold NamedAt
  go_enter Tryd.func55, Tryd.ntmps55
  go_wp2_with fail
  refine (hs _).mono ?_
  rintro e w1 ⟨rfl, rfl⟩
  go_wp2_with fail
  go_ret2
  exact ⟨rfl, (Below.refl _ _).alloc (Nat.le_refl _) _⟩

set_option maxRecDepth 100000 in
set_option maxHeartbeats 4000000 in
theorem named_c60 (w : World) : NamedAt 60 w := by
  have hs : ∀ w, Calls Tryd.prog 64 #[.int .u16 60] w fun e w' => e = .returned (.string ⟨#[100, 105, 118]⟩) ∧ w' = w := fun w => sided_any 60 w (by decide) (by decide)
  unfold NamedAt
  go_enter Tryd.func55, Tryd.ntmps55
  go_wp2_with fail
  refine (hs _).mono ?_
  rintro e w1 ⟨rfl, rfl⟩
  go_wp2_with fail
  go_ret2
  exact ⟨rfl, (Below.refl _ _)⟩

set_option maxRecDepth 100000 in
set_option maxHeartbeats 4000000 in
theorem named_c61 (w : World) : NamedAt 61 w := by
  have hs : ∀ w, Calls Tryd.prog 64 #[.int .u16 61] w fun e w' => e = .returned (.string ⟨#[100, 105, 118]⟩) ∧ w' = w := fun w => sided_any 61 w (by decide) (by decide)
  unfold NamedAt
  go_enter Tryd.func55, Tryd.ntmps55
  go_wp2_with fail
  refine (hs _).mono ?_
  rintro e w1 ⟨rfl, rfl⟩
  go_wp2_with fail
  go_ret2
  exact ⟨rfl, (Below.refl _ _).alloc (Nat.le_refl _) _⟩

set_option maxRecDepth 100000 in
set_option maxHeartbeats 4000000 in
theorem named_c68 (w : World) : NamedAt 68 w := by
  have hs : ∀ w, Calls Tryd.prog 64 #[.int .u16 68] w fun e w' => e = .returned (.string ⟨#[111, 114]⟩) ∧ w' = w := fun w => sided_any 68 w (by decide) (by decide)
  unfold NamedAt
  go_enter Tryd.func55, Tryd.ntmps55
  go_wp2_with fail
  refine (hs _).mono ?_
  rintro e w1 ⟨rfl, rfl⟩
  go_wp2_with fail
  go_ret2
  exact ⟨rfl, (Below.refl _ _)⟩

set_option maxRecDepth 100000 in
set_option maxHeartbeats 4000000 in
theorem named_c69 (w : World) : NamedAt 69 w := by
  have hs : ∀ w, Calls Tryd.prog 64 #[.int .u16 69] w fun e w' => e = .returned (.string ⟨#[111, 114]⟩) ∧ w' = w := fun w => sided_any 69 w (by decide) (by decide)
  unfold NamedAt
  go_enter Tryd.func55, Tryd.ntmps55
  go_wp2_with fail
  refine (hs _).mono ?_
  rintro e w1 ⟨rfl, rfl⟩
  go_wp2_with fail
  go_ret2
  exact ⟨rfl, (Below.refl _ _).alloc (Nat.le_refl _) _⟩

set_option maxRecDepth 100000 in
set_option maxHeartbeats 4000000 in
theorem named_c76 (w : World) : NamedAt 76 w := by
  have hs : ∀ w, Calls Tryd.prog 64 #[.int .u16 76] w fun e w' => e = .returned (.string ⟨#[111, 114]⟩) ∧ w' = w := fun w => sided_any 76 w (by decide) (by decide)
  unfold NamedAt
  go_enter Tryd.func55, Tryd.ntmps55
  go_wp2_with fail
  refine (hs _).mono ?_
  rintro e w1 ⟨rfl, rfl⟩
  go_wp2_with fail
  go_ret2
  exact ⟨rfl, (Below.refl _ _)⟩

set_option maxRecDepth 100000 in
set_option maxHeartbeats 4000000 in
theorem named_c77 (w : World) : NamedAt 77 w := by
  have hs : ∀ w, Calls Tryd.prog 64 #[.int .u16 77] w fun e w' => e = .returned (.string ⟨#[111, 114]⟩) ∧ w' = w := fun w => sided_any 77 w (by decide) (by decide)
  unfold NamedAt
  go_enter Tryd.func55, Tryd.ntmps55
  go_wp2_with fail
  refine (hs _).mono ?_
  rintro e w1 ⟨rfl, rfl⟩
  go_wp2_with fail
  go_ret2
  exact ⟨rfl, (Below.refl _ _).alloc (Nat.le_refl _) _⟩

set_option maxRecDepth 100000 in
set_option maxHeartbeats 4000000 in
theorem named_c84 (w : World) : NamedAt 84 w := by
  have hs : ∀ w, Calls Tryd.prog 64 #[.int .u16 84] w fun e w' => e = .returned (.string ⟨#[97, 110, 100]⟩) ∧ w' = w := fun w => sided_any 84 w (by decide) (by decide)
  unfold NamedAt
  go_enter Tryd.func55, Tryd.ntmps55
  go_wp2_with fail
  refine (hs _).mono ?_
  rintro e w1 ⟨rfl, rfl⟩
  go_wp2_with fail
  go_ret2
  exact ⟨rfl, (Below.refl _ _)⟩

set_option maxRecDepth 100000 in
set_option maxHeartbeats 4000000 in
theorem named_c85 (w : World) : NamedAt 85 w := by
  have hs : ∀ w, Calls Tryd.prog 64 #[.int .u16 85] w fun e w' => e = .returned (.string ⟨#[97, 110, 100]⟩) ∧ w' = w := fun w => sided_any 85 w (by decide) (by decide)
  unfold NamedAt
  go_enter Tryd.func55, Tryd.ntmps55
  go_wp2_with fail
  refine (hs _).mono ?_
  rintro e w1 ⟨rfl, rfl⟩
  go_wp2_with fail
  go_ret2
  exact ⟨rfl, (Below.refl _ _).alloc (Nat.le_refl _) _⟩

set_option maxRecDepth 100000 in
set_option maxHeartbeats 4000000 in
theorem named_c92 (w : World) : NamedAt 92 w := by
  have hs : ∀ w, Calls Tryd.prog 64 #[.int .u16 92] w fun e w' => e = .returned (.string ⟨#[97, 110, 100]⟩) ∧ w' = w := fun w => sided_any 92 w (by decide) (by decide)
  unfold NamedAt
  go_enter Tryd.func55, Tryd.ntmps55
  go_wp2_with fail
  refine (hs _).mono ?_
  rintro e w1 ⟨rfl, rfl⟩
  go_wp2_with fail
  go_ret2
  exact ⟨rfl, (Below.refl _ _)⟩

set_option maxRecDepth 100000 in
set_option maxHeartbeats 4000000 in
theorem named_c93 (w : World) : NamedAt 93 w := by
  have hs : ∀ w, Calls Tryd.prog 64 #[.int .u16 93] w fun e w' => e = .returned (.string ⟨#[97, 110, 100]⟩) ∧ w' = w := fun w => sided_any 93 w (by decide) (by decide)
  unfold NamedAt
  go_enter Tryd.func55, Tryd.ntmps55
  go_wp2_with fail
  refine (hs _).mono ?_
  rintro e w1 ⟨rfl, rfl⟩
  go_wp2_with fail
  go_ret2
  exact ⟨rfl, (Below.refl _ _).alloc (Nat.le_refl _) _⟩
end Go.Proofs.YtehcijockeecpaaDoor

/-
  The reference's answers on codes: named, some of its cases.
-/
namespace Go.Proofs.YtehcijockeecpaaDoor
open Go.RowKit

set_option maxRecDepth 100000 in
set_option maxHeartbeats 4000000 in
theorem named_c100 (w : World) : NamedAt 100 w := by
  have hs : ∀ w, Calls Tryd.prog 64 #[.int .u16 100] w fun e w' => e = .returned (.string ⟨#[108, 115, 104]⟩) ∧ w' = w := fun w => sided_any 100 w (by decide) (by decide)
  unfold NamedAt
  go_enter Tryd.func55, Tryd.ntmps55
  go_wp2_with fail
  refine (hs _).mono ?_
  rintro e w1 ⟨rfl, rfl⟩
  go_wp2_with fail
  go_ret2
  exact ⟨rfl, (Below.refl _ _)⟩

set_option maxRecDepth 100000 in
set_option maxHeartbeats 4000000 in
theorem named_c101 (w : World) : NamedAt 101 w := by
  have hs : ∀ w, Calls Tryd.prog 64 #[.int .u16 101] w fun e w' => e = .returned (.string ⟨#[108, 115, 104]⟩) ∧ w' = w := fun w => sided_any 101 w (by decide) (by decide)
  unfold NamedAt
  go_enter Tryd.func55, Tryd.ntmps55
  go_wp2_with fail
  refine (hs _).mono ?_
  rintro e w1 ⟨rfl, rfl⟩
  go_wp2_with fail
  go_ret2
  exact ⟨rfl, (Below.refl _ _).alloc (Nat.le_refl _) _⟩

set_option maxRecDepth 100000 in
set_option maxHeartbeats 4000000 in
theorem named_c108 (w : World) : NamedAt 108 w := by
  have hs : ∀ w, Calls Tryd.prog 64 #[.int .u16 108] w fun e w' => e = .returned (.string ⟨#[108, 115, 104]⟩) ∧ w' = w := fun w => sided_any 108 w (by decide) (by decide)
  unfold NamedAt
  go_enter Tryd.func55, Tryd.ntmps55
  go_wp2_with fail
  refine (hs _).mono ?_
  rintro e w1 ⟨rfl, rfl⟩
  go_wp2_with fail
  go_ret2
  exact ⟨rfl, (Below.refl _ _)⟩

set_option maxRecDepth 100000 in
set_option maxHeartbeats 4000000 in
theorem named_c109 (w : World) : NamedAt 109 w := by
  have hs : ∀ w, Calls Tryd.prog 64 #[.int .u16 109] w fun e w' => e = .returned (.string ⟨#[108, 115, 104]⟩) ∧ w' = w := fun w => sided_any 109 w (by decide) (by decide)
  unfold NamedAt
  go_enter Tryd.func55, Tryd.ntmps55
  go_wp2_with fail
  refine (hs _).mono ?_
  rintro e w1 ⟨rfl, rfl⟩
  go_wp2_with fail
  go_ret2
  exact ⟨rfl, (Below.refl _ _).alloc (Nat.le_refl _) _⟩

set_option maxRecDepth 100000 in
set_option maxHeartbeats 4000000 in
theorem named_c116 (w : World) : NamedAt 116 w := by
  have hs : ∀ w, Calls Tryd.prog 64 #[.int .u16 116] w fun e w' => e = .returned (.string ⟨#[114, 115, 104]⟩) ∧ w' = w := fun w => sided_any 116 w (by decide) (by decide)
  unfold NamedAt
  go_enter Tryd.func55, Tryd.ntmps55
  go_wp2_with fail
  refine (hs _).mono ?_
  rintro e w1 ⟨rfl, rfl⟩
  go_wp2_with fail
  go_ret2
  exact ⟨rfl, (Below.refl _ _)⟩

set_option maxRecDepth 100000 in
set_option maxHeartbeats 4000000 in
theorem named_c117 (w : World) : NamedAt 117 w := by
  have hs : ∀ w, Calls Tryd.prog 64 #[.int .u16 117] w fun e w' => e = .returned (.string ⟨#[114, 115, 104]⟩) ∧ w' = w := fun w => sided_any 117 w (by decide) (by decide)
  unfold NamedAt
  go_enter Tryd.func55, Tryd.ntmps55
  go_wp2_with fail
  refine (hs _).mono ?_
  rintro e w1 ⟨rfl, rfl⟩
  go_wp2_with fail
  go_ret2
  exact ⟨rfl, (Below.refl _ _).alloc (Nat.le_refl _) _⟩

set_option maxRecDepth 100000 in
set_option maxHeartbeats 4000000 in
theorem named_c124 (w : World) : NamedAt 124 w := by
  have hs : ∀ w, Calls Tryd.prog 64 #[.int .u16 124] w fun e w' => e = .returned (.string ⟨#[114, 115, 104]⟩) ∧ w' = w := fun w => sided_any 124 w (by decide) (by decide)
  unfold NamedAt
  go_enter Tryd.func55, Tryd.ntmps55
  go_wp2_with fail
  refine (hs _).mono ?_
  rintro e w1 ⟨rfl, rfl⟩
  go_wp2_with fail
  go_ret2
  exact ⟨rfl, (Below.refl _ _)⟩

set_option maxRecDepth 100000 in
set_option maxHeartbeats 4000000 in
theorem named_c125 (w : World) : NamedAt 125 w := by
  have hs : ∀ w, Calls Tryd.prog 64 #[.int .u16 125] w fun e w' => e = .returned (.string ⟨#[114, 115, 104]⟩) ∧ w' = w := fun w => sided_any 125 w (by decide) (by decide)
  unfold NamedAt
  go_enter Tryd.func55, Tryd.ntmps55
  go_wp2_with fail
  refine (hs _).mono ?_
  rintro e w1 ⟨rfl, rfl⟩
  go_wp2_with fail
  go_ret2
  exact ⟨rfl, (Below.refl _ _).alloc (Nat.le_refl _) _⟩

set_option maxRecDepth 100000 in
set_option maxHeartbeats 4000000 in
theorem named_c133 (w : World) : NamedAt 133 w := by
  have hs : ∀ w, Calls Tryd.prog 64 #[.int .u16 133] w fun e w' => e = .returned (.string ⟨#[]⟩) ∧ w' = w := fun w => sided_any 133 w (by decide) (by decide)
  unfold NamedAt
  go_enter Tryd.func55, Tryd.ntmps55
  go_wp2_with fail
  refine (hs _).mono ?_
  rintro e w1 ⟨rfl, rfl⟩
  go_wp2_with fail
  go_ret2
  exact ⟨rfl, (Below.refl _ _).alloc (Nat.le_refl _) _⟩

set_option maxRecDepth 100000 in
set_option maxHeartbeats 4000000 in
theorem named_c140 (w : World) : NamedAt 140 w := by
  have hs : ∀ w, Calls Tryd.prog 64 #[.int .u16 140] w fun e w' => e = .returned (.string ⟨#[]⟩) ∧ w' = w := fun w => sided_any 140 w (by decide) (by decide)
  unfold NamedAt
  go_enter Tryd.func55, Tryd.ntmps55
  go_wp2_with fail
  refine (hs _).mono ?_
  rintro e w1 ⟨rfl, rfl⟩
  go_wp2_with fail
  go_ret2
  exact ⟨rfl, (Below.refl _ _).alloc (Nat.le_refl _) _⟩

set_option maxRecDepth 100000 in
set_option maxHeartbeats 4000000 in
theorem named_c141 (w : World) : NamedAt 141 w := by
  have hs : ∀ w, Calls Tryd.prog 64 #[.int .u16 141] w fun e w' => e = .returned (.string ⟨#[]⟩) ∧ w' = w := fun w => sided_any 141 w (by decide) (by decide)
  unfold NamedAt
  go_enter Tryd.func55, Tryd.ntmps55
  go_wp2_with fail
  refine (hs _).mono ?_
  rintro e w1 ⟨rfl, rfl⟩
  go_wp2_with fail
  go_ret2
  exact ⟨rfl, (Below.refl _ _).alloc (Nat.le_refl _) _⟩

set_option maxRecDepth 100000 in
set_option maxHeartbeats 4000000 in
theorem named_c148 (w : World) : NamedAt 148 w := by
  have hs : ∀ w, Calls Tryd.prog 64 #[.int .u16 148] w fun e w' => e = .returned (.string ⟨#[]⟩) ∧ w' = w := fun w => sided_any 148 w (by decide) (by decide)
  unfold NamedAt
  go_enter Tryd.func55, Tryd.ntmps55
  go_wp2_with fail
  refine (hs _).mono ?_
  rintro e w1 ⟨rfl, rfl⟩
  go_wp2_with fail
  go_ret2
  exact ⟨rfl, (Below.refl _ _).alloc (Nat.le_refl _) _⟩

set_option maxRecDepth 100000 in
set_option maxHeartbeats 4000000 in
theorem named_c149 (w : World) : NamedAt 149 w := by
  have hs : ∀ w, Calls Tryd.prog 64 #[.int .u16 149] w fun e w' => e = .returned (.string ⟨#[]⟩) ∧ w' = w := fun w => sided_any 149 w (by decide) (by decide)
  unfold NamedAt
  go_enter Tryd.func55, Tryd.ntmps55
  go_wp2_with fail
  refine (hs _).mono ?_
  rintro e w1 ⟨rfl, rfl⟩
  go_wp2_with fail
  go_ret2
  exact ⟨rfl, (Below.refl _ _).alloc (Nat.le_refl _) _⟩

set_option maxRecDepth 100000 in
set_option maxHeartbeats 4000000 in
theorem named_c156 (w : World) : NamedAt 156 w := by
  have hs : ∀ w, Calls Tryd.prog 64 #[.int .u16 156] w fun e w' => e = .returned (.string ⟨#[]⟩) ∧ w' = w := fun w => sided_any 156 w (by decide) (by decide)
  unfold NamedAt
  go_enter Tryd.func55, Tryd.ntmps55
  go_wp2_with fail
  refine (hs _).mono ?_
  rintro e w1 ⟨rfl, rfl⟩
  go_wp2_with fail
  go_ret2
  exact ⟨rfl, (Below.refl _ _).alloc (Nat.le_refl _) _⟩

set_option maxRecDepth 100000 in
set_option maxHeartbeats 4000000 in
theorem named_c157 (w : World) : NamedAt 157 w := by
  have hs : ∀ w, Calls Tryd.prog 64 #[.int .u16 157] w fun e w' => e = .returned (.string ⟨#[]⟩) ∧ w' = w := fun w => sided_any 157 w (by decide) (by decide)
  unfold NamedAt
  go_enter Tryd.func55, Tryd.ntmps55
  go_wp2_with fail
  refine (hs _).mono ?_
  rintro e w1 ⟨rfl, rfl⟩
  go_wp2_with fail
  go_ret2
  exact ⟨rfl, (Below.refl _ _).alloc (Nat.le_refl _) _⟩

set_option maxRecDepth 100000 in
set_option maxHeartbeats 4000000 in
theorem named_c164 (w : World) : NamedAt 164 w := by
  have hs : ∀ w, Calls Tryd.prog 64 #[.int .u16 164] w fun e w' => e = .returned (.string ⟨#[120, 111, 114]⟩) ∧ w' = w := fun w => sided_any 164 w (by decide) (by decide)
  unfold NamedAt
  go_enter Tryd.func55, Tryd.ntmps55
  go_wp2_with fail
  refine (hs _).mono ?_
  rintro e w1 ⟨rfl, rfl⟩
  go_wp2_with fail
  go_ret2
  exact ⟨rfl, (Below.refl _ _)⟩

set_option maxRecDepth 100000 in
set_option maxHeartbeats 4000000 in
theorem named_c165 (w : World) : NamedAt 165 w := by
  have hs : ∀ w, Calls Tryd.prog 64 #[.int .u16 165] w fun e w' => e = .returned (.string ⟨#[120, 111, 114]⟩) ∧ w' = w := fun w => sided_any 165 w (by decide) (by decide)
  unfold NamedAt
  go_enter Tryd.func55, Tryd.ntmps55
  go_wp2_with fail
  refine (hs _).mono ?_
  rintro e w1 ⟨rfl, rfl⟩
  go_wp2_with fail
  go_ret2
  exact ⟨rfl, (Below.refl _ _).alloc (Nat.le_refl _) _⟩

set_option maxRecDepth 100000 in
set_option maxHeartbeats 4000000 in
theorem named_c172 (w : World) : NamedAt 172 w := by
  have hs : ∀ w, Calls Tryd.prog 64 #[.int .u16 172] w fun e w' => e = .returned (.string ⟨#[120, 111, 114]⟩) ∧ w' = w := fun w => sided_any 172 w (by decide) (by decide)
  unfold NamedAt
  go_enter Tryd.func55, Tryd.ntmps55
  go_wp2_with fail
  refine (hs _).mono ?_
  rintro e w1 ⟨rfl, rfl⟩
  go_wp2_with fail
  go_ret2
  exact ⟨rfl, (Below.refl _ _)⟩

set_option maxRecDepth 100000 in
set_option maxHeartbeats 4000000 in
theorem named_c173 (w : World) : NamedAt 173 w := by
  have hs : ∀ w, Calls Tryd.prog 64 #[.int .u16 173] w fun e w' => e = .returned (.string ⟨#[120, 111, 114]⟩) ∧ w' = w := fun w => sided_any 173 w (by decide) (by decide)
  unfold NamedAt
  go_enter Tryd.func55, Tryd.ntmps55
  go_wp2_with fail
  refine (hs _).mono ?_
  rintro e w1 ⟨rfl, rfl⟩
  go_wp2_with fail
  go_ret2
  exact ⟨rfl, (Below.refl _ _).alloc (Nat.le_refl _) _⟩
end Go.Proofs.YtehcijockeecpaaDoor

/-
  The reference's answers on codes: named, some of its cases.
-/
namespace Go.Proofs.YtehcijockeecpaaDoor
open Go.RowKit

set_option maxRecDepth 100000 in
set_option maxHeartbeats 4000000 in
theorem named_c180 (w : World) : NamedAt 180 w := by
  have hs : ∀ w, Calls Tryd.prog 64 #[.int .u16 180] w fun e w' => e = .returned (.string ⟨#[]⟩) ∧ w' = w := fun w => sided_any 180 w (by decide) (by decide)
  unfold NamedAt
  go_enter Tryd.func55, Tryd.ntmps55
  go_wp2_with fail
  refine (hs _).mono ?_
  rintro e w1 ⟨rfl, rfl⟩
  go_wp2_with fail
  go_ret2
  exact ⟨rfl, (Below.refl _ _).alloc (Nat.le_refl _) _⟩

set_option maxRecDepth 100000 in
set_option maxHeartbeats 4000000 in
theorem named_c181 (w : World) : NamedAt 181 w := by
  have hs : ∀ w, Calls Tryd.prog 64 #[.int .u16 181] w fun e w' => e = .returned (.string ⟨#[]⟩) ∧ w' = w := fun w => sided_any 181 w (by decide) (by decide)
  unfold NamedAt
  go_enter Tryd.func55, Tryd.ntmps55
  go_wp2_with fail
  refine (hs _).mono ?_
  rintro e w1 ⟨rfl, rfl⟩
  go_wp2_with fail
  go_ret2
  exact ⟨rfl, (Below.refl _ _).alloc (Nat.le_refl _) _⟩

set_option maxRecDepth 100000 in
set_option maxHeartbeats 4000000 in
theorem named_c188 (w : World) : NamedAt 188 w := by
  have hs : ∀ w, Calls Tryd.prog 64 #[.int .u16 188] w fun e w' => e = .returned (.string ⟨#[]⟩) ∧ w' = w := fun w => sided_any 188 w (by decide) (by decide)
  unfold NamedAt
  go_enter Tryd.func55, Tryd.ntmps55
  go_wp2_with fail
  refine (hs _).mono ?_
  rintro e w1 ⟨rfl, rfl⟩
  go_wp2_with fail
  go_ret2
  exact ⟨rfl, (Below.refl _ _).alloc (Nat.le_refl _) _⟩

set_option maxRecDepth 100000 in
set_option maxHeartbeats 4000000 in
theorem named_c189 (w : World) : NamedAt 189 w := by
  have hs : ∀ w, Calls Tryd.prog 64 #[.int .u16 189] w fun e w' => e = .returned (.string ⟨#[]⟩) ∧ w' = w := fun w => sided_any 189 w (by decide) (by decide)
  unfold NamedAt
  go_enter Tryd.func55, Tryd.ntmps55
  go_wp2_with fail
  refine (hs _).mono ?_
  rintro e w1 ⟨rfl, rfl⟩
  go_wp2_with fail
  go_ret2
  exact ⟨rfl, (Below.refl _ _).alloc (Nat.le_refl _) _⟩

set_option maxRecDepth 100000 in
set_option maxHeartbeats 4000000 in
theorem named_c196 (w : World) : NamedAt 196 w := by
  have hs : ∀ w, Calls Tryd.prog 64 #[.int .u16 196] w fun e w' => e = .returned (.string ⟨#[]⟩) ∧ w' = w := fun w => sided_any 196 w (by decide) (by decide)
  unfold NamedAt
  go_enter Tryd.func55, Tryd.ntmps55
  go_wp2_with fail
  refine (hs _).mono ?_
  rintro e w1 ⟨rfl, rfl⟩
  go_wp2_with fail
  go_ret2
  exact ⟨rfl, (Below.refl _ _).alloc (Nat.le_refl _) _⟩

set_option maxRecDepth 100000 in
set_option maxHeartbeats 4000000 in
theorem named_c197 (w : World) : NamedAt 197 w := by
  have hs : ∀ w, Calls Tryd.prog 64 #[.int .u16 197] w fun e w' => e = .returned (.string ⟨#[]⟩) ∧ w' = w := fun w => sided_any 197 w (by decide) (by decide)
  unfold NamedAt
  go_enter Tryd.func55, Tryd.ntmps55
  go_wp2_with fail
  refine (hs _).mono ?_
  rintro e w1 ⟨rfl, rfl⟩
  go_wp2_with fail
  go_ret2
  exact ⟨rfl, (Below.refl _ _).alloc (Nat.le_refl _) _⟩

set_option maxRecDepth 100000 in
set_option maxHeartbeats 4000000 in
theorem named_c204 (w : World) : NamedAt 204 w := by
  have hs : ∀ w, Calls Tryd.prog 64 #[.int .u16 204] w fun e w' => e = .returned (.string ⟨#[]⟩) ∧ w' = w := fun w => sided_any 204 w (by decide) (by decide)
  unfold NamedAt
  go_enter Tryd.func55, Tryd.ntmps55
  go_wp2_with fail
  refine (hs _).mono ?_
  rintro e w1 ⟨rfl, rfl⟩
  go_wp2_with fail
  go_ret2
  exact ⟨rfl, (Below.refl _ _).alloc (Nat.le_refl _) _⟩

set_option maxRecDepth 100000 in
set_option maxHeartbeats 4000000 in
theorem named_c205 (w : World) : NamedAt 205 w := by
  have hs : ∀ w, Calls Tryd.prog 64 #[.int .u16 205] w fun e w' => e = .returned (.string ⟨#[]⟩) ∧ w' = w := fun w => sided_any 205 w (by decide) (by decide)
  unfold NamedAt
  go_enter Tryd.func55, Tryd.ntmps55
  go_wp2_with fail
  refine (hs _).mono ?_
  rintro e w1 ⟨rfl, rfl⟩
  go_wp2_with fail
  go_ret2
  exact ⟨rfl, (Below.refl _ _).alloc (Nat.le_refl _) _⟩

set_option maxRecDepth 100000 in
set_option maxHeartbeats 4000000 in
theorem named_c212 (w : World) : NamedAt 212 w := by
  have hs : ∀ w, Calls Tryd.prog 64 #[.int .u16 212] w fun e w' => e = .returned (.string ⟨#[]⟩) ∧ w' = w := fun w => sided_any 212 w (by decide) (by decide)
  unfold NamedAt
  go_enter Tryd.func55, Tryd.ntmps55
  go_wp2_with fail
  refine (hs _).mono ?_
  rintro e w1 ⟨rfl, rfl⟩
  go_wp2_with fail
  go_ret2
  exact ⟨rfl, (Below.refl _ _).alloc (Nat.le_refl _) _⟩

set_option maxRecDepth 100000 in
set_option maxHeartbeats 4000000 in
theorem named_c213 (w : World) : NamedAt 213 w := by
  have hs : ∀ w, Calls Tryd.prog 64 #[.int .u16 213] w fun e w' => e = .returned (.string ⟨#[]⟩) ∧ w' = w := fun w => sided_any 213 w (by decide) (by decide)
  unfold NamedAt
  go_enter Tryd.func55, Tryd.ntmps55
  go_wp2_with fail
  refine (hs _).mono ?_
  rintro e w1 ⟨rfl, rfl⟩
  go_wp2_with fail
  go_ret2
  exact ⟨rfl, (Below.refl _ _).alloc (Nat.le_refl _) _⟩

set_option maxRecDepth 100000 in
set_option maxHeartbeats 4000000 in
theorem named_c220 (w : World) : NamedAt 220 w := by
  have hs : ∀ w, Calls Tryd.prog 64 #[.int .u16 220] w fun e w' => e = .returned (.string ⟨#[]⟩) ∧ w' = w := fun w => sided_any 220 w (by decide) (by decide)
  unfold NamedAt
  go_enter Tryd.func55, Tryd.ntmps55
  go_wp2_with fail
  refine (hs _).mono ?_
  rintro e w1 ⟨rfl, rfl⟩
  go_wp2_with fail
  go_ret2
  exact ⟨rfl, (Below.refl _ _).alloc (Nat.le_refl _) _⟩

set_option maxRecDepth 100000 in
set_option maxHeartbeats 4000000 in
theorem named_c221 (w : World) : NamedAt 221 w := by
  have hs : ∀ w, Calls Tryd.prog 64 #[.int .u16 221] w fun e w' => e = .returned (.string ⟨#[]⟩) ∧ w' = w := fun w => sided_any 221 w (by decide) (by decide)
  unfold NamedAt
  go_enter Tryd.func55, Tryd.ntmps55
  go_wp2_with fail
  refine (hs _).mono ?_
  rintro e w1 ⟨rfl, rfl⟩
  go_wp2_with fail
  go_ret2
  exact ⟨rfl, (Below.refl _ _).alloc (Nat.le_refl _) _⟩

set_option maxRecDepth 100000 in
set_option maxHeartbeats 4000000 in
theorem named_c228 (w : World) : NamedAt 228 w := by
  have hs : ∀ w, Calls Tryd.prog 64 #[.int .u16 228] w fun e w' => e = .returned (.string ⟨#[]⟩) ∧ w' = w := fun w => sided_any 228 w (by decide) (by decide)
  unfold NamedAt
  go_enter Tryd.func55, Tryd.ntmps55
  go_wp2_with fail
  refine (hs _).mono ?_
  rintro e w1 ⟨rfl, rfl⟩
  go_wp2_with fail
  go_ret2
  exact ⟨rfl, (Below.refl _ _).alloc (Nat.le_refl _) _⟩

set_option maxRecDepth 100000 in
set_option maxHeartbeats 4000000 in
theorem named_c229 (w : World) : NamedAt 229 w := by
  have hs : ∀ w, Calls Tryd.prog 64 #[.int .u16 229] w fun e w' => e = .returned (.string ⟨#[]⟩) ∧ w' = w := fun w => sided_any 229 w (by decide) (by decide)
  unfold NamedAt
  go_enter Tryd.func55, Tryd.ntmps55
  go_wp2_with fail
  refine (hs _).mono ?_
  rintro e w1 ⟨rfl, rfl⟩
  go_wp2_with fail
  go_ret2
  exact ⟨rfl, (Below.refl _ _).alloc (Nat.le_refl _) _⟩

set_option maxRecDepth 100000 in
set_option maxHeartbeats 4000000 in
theorem named_c236 (w : World) : NamedAt 236 w := by
  have hs : ∀ w, Calls Tryd.prog 64 #[.int .u16 236] w fun e w' => e = .returned (.string ⟨#[]⟩) ∧ w' = w := fun w => sided_any 236 w (by decide) (by decide)
  unfold NamedAt
  go_enter Tryd.func55, Tryd.ntmps55
  go_wp2_with fail
  refine (hs _).mono ?_
  rintro e w1 ⟨rfl, rfl⟩
  go_wp2_with fail
  go_ret2
  exact ⟨rfl, (Below.refl _ _).alloc (Nat.le_refl _) _⟩

set_option maxRecDepth 100000 in
set_option maxHeartbeats 4000000 in
theorem named_c237 (w : World) : NamedAt 237 w := by
  have hs : ∀ w, Calls Tryd.prog 64 #[.int .u16 237] w fun e w' => e = .returned (.string ⟨#[]⟩) ∧ w' = w := fun w => sided_any 237 w (by decide) (by decide)
  unfold NamedAt
  go_enter Tryd.func55, Tryd.ntmps55
  go_wp2_with fail
  refine (hs _).mono ?_
  rintro e w1 ⟨rfl, rfl⟩
  go_wp2_with fail
  go_ret2
  exact ⟨rfl, (Below.refl _ _).alloc (Nat.le_refl _) _⟩

set_option maxRecDepth 100000 in
set_option maxHeartbeats 4000000 in
theorem named_c244 (w : World) : NamedAt 244 w := by
  have hs : ∀ w, Calls Tryd.prog 64 #[.int .u16 244] w fun e w' => e = .returned (.string ⟨#[]⟩) ∧ w' = w := fun w => sided_any 244 w (by decide) (by decide)
  unfold NamedAt
  go_enter Tryd.func55, Tryd.ntmps55
  go_wp2_with fail
  refine (hs _).mono ?_
  rintro e w1 ⟨rfl, rfl⟩
  go_wp2_with fail
  go_ret2
  exact ⟨rfl, (Below.refl _ _).alloc (Nat.le_refl _) _⟩

set_option maxRecDepth 100000 in
set_option maxHeartbeats 4000000 in
theorem named_c245 (w : World) : NamedAt 245 w := by
  have hs : ∀ w, Calls Tryd.prog 64 #[.int .u16 245] w fun e w' => e = .returned (.string ⟨#[]⟩) ∧ w' = w := fun w => sided_any 245 w (by decide) (by decide)
  unfold NamedAt
  go_enter Tryd.func55, Tryd.ntmps55
  go_wp2_with fail
  refine (hs _).mono ?_
  rintro e w1 ⟨rfl, rfl⟩
  go_wp2_with fail
  go_ret2
  exact ⟨rfl, (Below.refl _ _).alloc (Nat.le_refl _) _⟩

set_option maxRecDepth 100000 in
set_option maxHeartbeats 4000000 in
theorem named_c252 (w : World) : NamedAt 252 w := by
  have hs : ∀ w, Calls Tryd.prog 64 #[.int .u16 252] w fun e w' => e = .returned (.string ⟨#[]⟩) ∧ w' = w := fun w => sided_any 252 w (by decide) (by decide)
  unfold NamedAt
  go_enter Tryd.func55, Tryd.ntmps55
  go_wp2_with fail
  refine (hs _).mono ?_
  rintro e w1 ⟨rfl, rfl⟩
  go_wp2_with fail
  go_ret2
  exact ⟨rfl, (Below.refl _ _).alloc (Nat.le_refl _) _⟩
end Go.Proofs.YtehcijockeecpaaDoor

/-
  The reference's answers on codes: named, some of its cases.
-/
namespace Go.Proofs.YtehcijockeecpaaDoor
open Go.RowKit

set_option maxRecDepth 100000 in
set_option maxHeartbeats 4000000 in
theorem named_c253 (w : World) : NamedAt 253 w := by
  have hs : ∀ w, Calls Tryd.prog 64 #[.int .u16 253] w fun e w' => e = .returned (.string ⟨#[]⟩) ∧ w' = w := fun w => sided_any 253 w (by decide) (by decide)
  unfold NamedAt
  go_enter Tryd.func55, Tryd.ntmps55
  go_wp2_with fail
  refine (hs _).mono ?_
  rintro e w1 ⟨rfl, rfl⟩
  go_wp2_with fail
  go_ret2
  exact ⟨rfl, (Below.refl _ _).alloc (Nat.le_refl _) _⟩
end Go.Proofs.YtehcijockeecpaaDoor

/-
  The reference's answers on codes: named at every code; Name, Form.
-/
namespace Go.Proofs.YtehcijockeecpaaDoor
open Go.RowKit

theorem row_other (n : Nat) (hn : n < 256) (h : (n % 16 != 4 && n % 16 != 12 && n % 16 != 5 && n % 16 != 13 && !([32, 128, 129, 22, 132, 7, 135, 6, 0, 1, 96, 97, 2, 3, 5] : List Nat).contains n) = true) : rowC (n : Int) = none := by
  have hall : ((List.range 256).all fun n => (!(n % 16 != 4 && n % 16 != 12 && n % 16 != 5 && n % 16 != 13 && !([32, 128, 129, 22, 132, 7, 135, 6, 0, 1, 96, 97, 2, 3, 5] : List Nat).contains n)) || (rowC (n : Int)).isNone) = true := by decide +kernel
  have := List.all_eq_true.1 hall n (List.mem_range.2 hn)
  rw [h] at this
  simpa using this
theorem row_big (c : Int) (h : 255 < c) : rowC c = none := by
  refine find_none fun i hi => ?_
  have hall : ((List.range 41).all fun i => decide (kC i ≤ 255)) = true := by decide
  have := List.all_eq_true.1 hall i hi
  simp only [decide_eq_true_eq] at this
  simp only [beq_eq_false_iff_ne, ne_eq]
  omega

set_option maxRecDepth 100000 in
set_option maxHeartbeats 4000000 in
theorem named_other (c : Int) (w : World) (h0 : 0 ≤ c) (h1 : c ≤ 255) (r4 : ¬ c % 16 = 4) (r12 : ¬ c % 16 = 12) (r5 : ¬ c % 16 = 5) (r13 : ¬ c % 16 = 13) (n1 : c ≠ 32) (n2 : c ≠ 128) (n3 : c ≠ 129) (n4 : c ≠ 22) (n6 : c ≠ 7) (n7 : c ≠ 135) (n8 : c ≠ 6) (n9 : c ≠ 0) (n10 : c ≠ 1)
    (n11 : c ≠ 96) (n12 : c ≠ 97) (n13 : c ≠ 2) (n14 : c ≠ 3) : NamedAt c w := by
  have hr : rowC c = none := by
    obtain ⟨n, rfl⟩ := Int.eq_ofNat_of_zero_le h0
    refine row_other n (by omega) ?_
    simp
    omega
  have e1 : nameOf c = (⟨#[]⟩, false) := by simp only [nameOf, hr]
  have e2 : formOf c = -1 := by simp only [formOf, hr]
  have n5 : c ≠ 132 := by omega
  have n15 : c ≠ 5 := by omega
  have s4 : (c % 16 == 4) = false := by simpa using r4
  have s5 : (c % 16 == 5) = false := by simpa using r5
  have s12 : (c % 16 == 12) = false := by simpa using r12
  have s13 : (c % 16 == 13) = false := by simpa using r13
  unfold NamedAt
  rw [e1, e2]
  go_enter Tryd.func55, Tryd.ntmps55
  go_wp2_with fail
  refine (sided_any c w h0 h1).mono ?_
  rintro e w1 ⟨rfl, rfl⟩
  go_wp2_with fail
  go_ret2
  exact ⟨rfl, (Below.refl _ _).alloc (Nat.le_refl _) _⟩

theorem named_any (c : Int) (w : World) (h0 : 0 ≤ c) (h1 : c ≤ 255) : NamedAt c w := by
  rcases half_cases h0 h1 with h | h | h | h | h | h | h | h | h | h | h | h | h | h | h | h
  · by_cases r4 : c % 16 = 4
    · obtain rfl : c = 4 := by omega
      exact named_c4 w
    by_cases r12 : c % 16 = 12
    · obtain rfl : c = 12 := by omega
      exact named_c12 w
    by_cases r5 : c % 16 = 5
    · obtain rfl : c = 5 := by omega
      exact named_l5 w
    by_cases r13 : c % 16 = 13
    · obtain rfl : c = 13 := by omega
      exact named_c13 w
    by_cases e0 : c = 0
    · subst e0
      exact named_l0 w
    by_cases e1 : c = 1
    · subst e1
      exact named_l1 w
    by_cases e2 : c = 2
    · subst e2
      exact named_l2 w
    by_cases e3 : c = 3
    · subst e3
      exact named_l3 w
    by_cases e6 : c = 6
    · subst e6
      exact named_l6 w
    by_cases e7 : c = 7
    · subst e7
      exact named_l7 w
    exact named_other c w h0 h1 r4 r12 r5 r13 (by omega) (by omega) (by omega) (by omega) (by omega) (by omega) (by omega) (by omega) (by omega) (by omega) (by omega) (by omega) (by omega)
  · by_cases r4 : c % 16 = 4
    · obtain rfl : c = 20 := by omega
      exact named_c20 w
    by_cases r12 : c % 16 = 12
    · obtain rfl : c = 28 := by omega
      exact named_c28 w
    by_cases r5 : c % 16 = 5
    · obtain rfl : c = 21 := by omega
      exact named_c21 w
    by_cases r13 : c % 16 = 13
    · obtain rfl : c = 29 := by omega
      exact named_c29 w
    by_cases e22 : c = 22
    · subst e22
      exact named_l22 w
    exact named_other c w h0 h1 r4 r12 r5 r13 (by omega) (by omega) (by omega) (by omega) (by omega) (by omega) (by omega) (by omega) (by omega) (by omega) (by omega) (by omega) (by omega)
  · by_cases r4 : c % 16 = 4
    · obtain rfl : c = 36 := by omega
      exact named_c36 w
    by_cases r12 : c % 16 = 12
    · obtain rfl : c = 44 := by omega
      exact named_c44 w
    by_cases r5 : c % 16 = 5
    · obtain rfl : c = 37 := by omega
      exact named_c37 w
    by_cases r13 : c % 16 = 13
    · obtain rfl : c = 45 := by omega
      exact named_c45 w
    by_cases e32 : c = 32
    · subst e32
      exact named_l32 w
    exact named_other c w h0 h1 r4 r12 r5 r13 (by omega) (by omega) (by omega) (by omega) (by omega) (by omega) (by omega) (by omega) (by omega) (by omega) (by omega) (by omega) (by omega)
  · by_cases r4 : c % 16 = 4
    · obtain rfl : c = 52 := by omega
      exact named_c52 w
    by_cases r12 : c % 16 = 12
    · obtain rfl : c = 60 := by omega
      exact named_c60 w
    by_cases r5 : c % 16 = 5
    · obtain rfl : c = 53 := by omega
      exact named_c53 w
    by_cases r13 : c % 16 = 13
    · obtain rfl : c = 61 := by omega
      exact named_c61 w
    exact named_other c w h0 h1 r4 r12 r5 r13 (by omega) (by omega) (by omega) (by omega) (by omega) (by omega) (by omega) (by omega) (by omega) (by omega) (by omega) (by omega) (by omega)
  · by_cases r4 : c % 16 = 4
    · obtain rfl : c = 68 := by omega
      exact named_c68 w
    by_cases r12 : c % 16 = 12
    · obtain rfl : c = 76 := by omega
      exact named_c76 w
    by_cases r5 : c % 16 = 5
    · obtain rfl : c = 69 := by omega
      exact named_c69 w
    by_cases r13 : c % 16 = 13
    · obtain rfl : c = 77 := by omega
      exact named_c77 w
    exact named_other c w h0 h1 r4 r12 r5 r13 (by omega) (by omega) (by omega) (by omega) (by omega) (by omega) (by omega) (by omega) (by omega) (by omega) (by omega) (by omega) (by omega)
  · by_cases r4 : c % 16 = 4
    · obtain rfl : c = 84 := by omega
      exact named_c84 w
    by_cases r12 : c % 16 = 12
    · obtain rfl : c = 92 := by omega
      exact named_c92 w
    by_cases r5 : c % 16 = 5
    · obtain rfl : c = 85 := by omega
      exact named_c85 w
    by_cases r13 : c % 16 = 13
    · obtain rfl : c = 93 := by omega
      exact named_c93 w
    exact named_other c w h0 h1 r4 r12 r5 r13 (by omega) (by omega) (by omega) (by omega) (by omega) (by omega) (by omega) (by omega) (by omega) (by omega) (by omega) (by omega) (by omega)
  · by_cases r4 : c % 16 = 4
    · obtain rfl : c = 100 := by omega
      exact named_c100 w
    by_cases r12 : c % 16 = 12
    · obtain rfl : c = 108 := by omega
      exact named_c108 w
    by_cases r5 : c % 16 = 5
    · obtain rfl : c = 101 := by omega
      exact named_c101 w
    by_cases r13 : c % 16 = 13
    · obtain rfl : c = 109 := by omega
      exact named_c109 w
    by_cases e96 : c = 96
    · subst e96
      exact named_l96 w
    by_cases e97 : c = 97
    · subst e97
      exact named_l97 w
    exact named_other c w h0 h1 r4 r12 r5 r13 (by omega) (by omega) (by omega) (by omega) (by omega) (by omega) (by omega) (by omega) (by omega) (by omega) (by omega) (by omega) (by omega)
  · by_cases r4 : c % 16 = 4
    · obtain rfl : c = 116 := by omega
      exact named_c116 w
    by_cases r12 : c % 16 = 12
    · obtain rfl : c = 124 := by omega
      exact named_c124 w
    by_cases r5 : c % 16 = 5
    · obtain rfl : c = 117 := by omega
      exact named_c117 w
    by_cases r13 : c % 16 = 13
    · obtain rfl : c = 125 := by omega
      exact named_c125 w
    exact named_other c w h0 h1 r4 r12 r5 r13 (by omega) (by omega) (by omega) (by omega) (by omega) (by omega) (by omega) (by omega) (by omega) (by omega) (by omega) (by omega) (by omega)
  · by_cases r4 : c % 16 = 4
    · obtain rfl : c = 132 := by omega
      exact named_l132 w
    by_cases r12 : c % 16 = 12
    · obtain rfl : c = 140 := by omega
      exact named_c140 w
    by_cases r5 : c % 16 = 5
    · obtain rfl : c = 133 := by omega
      exact named_c133 w
    by_cases r13 : c % 16 = 13
    · obtain rfl : c = 141 := by omega
      exact named_c141 w
    by_cases e128 : c = 128
    · subst e128
      exact named_l128 w
    by_cases e129 : c = 129
    · subst e129
      exact named_l129 w
    by_cases e135 : c = 135
    · subst e135
      exact named_l135 w
    exact named_other c w h0 h1 r4 r12 r5 r13 (by omega) (by omega) (by omega) (by omega) (by omega) (by omega) (by omega) (by omega) (by omega) (by omega) (by omega) (by omega) (by omega)
  · by_cases r4 : c % 16 = 4
    · obtain rfl : c = 148 := by omega
      exact named_c148 w
    by_cases r12 : c % 16 = 12
    · obtain rfl : c = 156 := by omega
      exact named_c156 w
    by_cases r5 : c % 16 = 5
    · obtain rfl : c = 149 := by omega
      exact named_c149 w
    by_cases r13 : c % 16 = 13
    · obtain rfl : c = 157 := by omega
      exact named_c157 w
    exact named_other c w h0 h1 r4 r12 r5 r13 (by omega) (by omega) (by omega) (by omega) (by omega) (by omega) (by omega) (by omega) (by omega) (by omega) (by omega) (by omega) (by omega)
  · by_cases r4 : c % 16 = 4
    · obtain rfl : c = 164 := by omega
      exact named_c164 w
    by_cases r12 : c % 16 = 12
    · obtain rfl : c = 172 := by omega
      exact named_c172 w
    by_cases r5 : c % 16 = 5
    · obtain rfl : c = 165 := by omega
      exact named_c165 w
    by_cases r13 : c % 16 = 13
    · obtain rfl : c = 173 := by omega
      exact named_c173 w
    exact named_other c w h0 h1 r4 r12 r5 r13 (by omega) (by omega) (by omega) (by omega) (by omega) (by omega) (by omega) (by omega) (by omega) (by omega) (by omega) (by omega) (by omega)
  · by_cases r4 : c % 16 = 4
    · obtain rfl : c = 180 := by omega
      exact named_c180 w
    by_cases r12 : c % 16 = 12
    · obtain rfl : c = 188 := by omega
      exact named_c188 w
    by_cases r5 : c % 16 = 5
    · obtain rfl : c = 181 := by omega
      exact named_c181 w
    by_cases r13 : c % 16 = 13
    · obtain rfl : c = 189 := by omega
      exact named_c189 w
    exact named_other c w h0 h1 r4 r12 r5 r13 (by omega) (by omega) (by omega) (by omega) (by omega) (by omega) (by omega) (by omega) (by omega) (by omega) (by omega) (by omega) (by omega)
  · by_cases r4 : c % 16 = 4
    · obtain rfl : c = 196 := by omega
      exact named_c196 w
    by_cases r12 : c % 16 = 12
    · obtain rfl : c = 204 := by omega
      exact named_c204 w
    by_cases r5 : c % 16 = 5
    · obtain rfl : c = 197 := by omega
      exact named_c197 w
    by_cases r13 : c % 16 = 13
    · obtain rfl : c = 205 := by omega
      exact named_c205 w
    exact named_other c w h0 h1 r4 r12 r5 r13 (by omega) (by omega) (by omega) (by omega) (by omega) (by omega) (by omega) (by omega) (by omega) (by omega) (by omega) (by omega) (by omega)
  · by_cases r4 : c % 16 = 4
    · obtain rfl : c = 212 := by omega
      exact named_c212 w
    by_cases r12 : c % 16 = 12
    · obtain rfl : c = 220 := by omega
      exact named_c220 w
    by_cases r5 : c % 16 = 5
    · obtain rfl : c = 213 := by omega
      exact named_c213 w
    by_cases r13 : c % 16 = 13
    · obtain rfl : c = 221 := by omega
      exact named_c221 w
    exact named_other c w h0 h1 r4 r12 r5 r13 (by omega) (by omega) (by omega) (by omega) (by omega) (by omega) (by omega) (by omega) (by omega) (by omega) (by omega) (by omega) (by omega)
  · by_cases r4 : c % 16 = 4
    · obtain rfl : c = 228 := by omega
      exact named_c228 w
    by_cases r12 : c % 16 = 12
    · obtain rfl : c = 236 := by omega
      exact named_c236 w
    by_cases r5 : c % 16 = 5
    · obtain rfl : c = 229 := by omega
      exact named_c229 w
    by_cases r13 : c % 16 = 13
    · obtain rfl : c = 237 := by omega
      exact named_c237 w
    exact named_other c w h0 h1 r4 r12 r5 r13 (by omega) (by omega) (by omega) (by omega) (by omega) (by omega) (by omega) (by omega) (by omega) (by omega) (by omega) (by omega) (by omega)
  · by_cases r4 : c % 16 = 4
    · obtain rfl : c = 244 := by omega
      exact named_c244 w
    by_cases r12 : c % 16 = 12
    · obtain rfl : c = 252 := by omega
      exact named_c252 w
    by_cases r5 : c % 16 = 5
    · obtain rfl : c = 245 := by omega
      exact named_c245 w
    by_cases r13 : c % 16 = 13
    · obtain rfl : c = 253 := by omega
      exact named_c253 w
    exact named_other c w h0 h1 r4 r12 r5 r13 (by omega) (by omega) (by omega) (by omega) (by omega) (by omega) (by omega) (by omega) (by omega) (by omega) (by omega) (by omega) (by omega)

theorem kN_some {i : Nat} (hi : i < 41) : (kN i).toList.isEmpty = false := by
  have hall : ((List.range 41).all fun i => !(kAt i).2.1.isEmpty) = true := by decide
  have := List.all_eq_true.1 hall i (List.mem_range.2 hi)
  simpa [kN] using this

set_option maxHeartbeats 1000000 in
theorem refname_any (c : Int) (w : World) (h0 : 0 ≤ c) :
    Calls Tryd.prog 39 #[.int .u16 c] w fun e w' => e = .returned (.tuple #[.string (nameOf c).1, .bool (nameOf c).2]) ∧ Below w.heap.size w w' := by
  by_cases hb : 255 < c
  · have e1 : nameOf c = (⟨#[]⟩, false) := by simp only [nameOf, row_big c hb]
    rw [e1]
    go_enter Tryd.func39, Tryd.ntmps39
    go_wp2
    go_ret2
    exact ⟨rfl, Below.refl _ _⟩
  · have hn := named_any c w h0 (by omega)
    unfold NamedAt at hn
    cases hr : rowC c with
    | none =>
      have e1 : nameOf c = (⟨#[]⟩, false) := by simp only [nameOf, hr]
      rw [e1] at hn ⊢
      go_enter Tryd.func39, Tryd.ntmps39
      go_wp2_with fail
      refine hn.mono ?_
      rintro e w1 ⟨rfl, hb1⟩
      go_wp2_with fail
      go_ret2
      exact ⟨rfl, hb1⟩
    | some i =>
      obtain ⟨hi, _⟩ := rowC_some hr
      have e1 : nameOf c = (kN i, true) := by simp only [nameOf, hr]
      have hs := kN_some hi
      rw [e1] at hn ⊢
      go_enter Tryd.func39, Tryd.ntmps39
      go_wp2_with fail
      refine hn.mono ?_
      rintro e w1 ⟨rfl, hb1⟩
      go_wp2_with fail
      go_ret2
      exact ⟨rfl, hb1⟩

set_option maxHeartbeats 1000000 in
theorem refform_any (c : Int) (w : World) (h0 : 0 ≤ c) :
    Calls Tryd.prog 40 #[.int .u16 c] w fun e w' => e = .returned (.int .i64 (formOf c)) ∧ Below w.heap.size w w' := by
  by_cases hb : 255 < c
  · have e1 : formOf c = -1 := by simp only [formOf, row_big c hb]
    rw [e1]
    go_enter Tryd.func40, Tryd.ntmps40
    go_wp2
    go_ret
    exact ⟨rfl, Below.refl _ _⟩
  · have hn := named_any c w h0 (by omega)
    unfold NamedAt at hn
    go_enter Tryd.func40, Tryd.ntmps40
    go_wp2_with fail
    refine hn.mono ?_
    rintro e w1 ⟨rfl, hb1⟩
    go_wp2_with fail
    go_ret
    exact ⟨rfl, hb1⟩
end Go.Proofs.YtehcijockeecpaaDoor
