/-
  A call's data: data.halves, data.holds.
-/
import Derived.Test.YtpeofpilfpjjpaaGreatDoorDatN
namespace Go.Proofs.YtpeofpilfpjjpaaGreatDoor
open Go.RowKit

set_option maxHeartbeats 400000 in
theorem halves_any (x : Int) (h : U64 x) (w : World) :
    Calls Tryz.prog 168 #[.int .u64 x] w fun e w' => e = .returned (.tuple #[.int .u32 (lo x), .int .u32 (hi x)]) ∧ w = w' := by
  obtain ⟨h0, h1⟩ := h
  go_enter Tryz.func168, Tryz.ntmps168
  go_wp2
  go_ret2
  exact ⟨rfl, rfl⟩

/-- Is there a word at an offset? -/
def rightB (o : Int) : Bool := decide (o % 4 = 0 ∧ o ≤ 60)
set_option maxHeartbeats 400000 in
theorem holds_any (o : Int) (ho : U32 o) (w : World) :
    Calls Tryz.prog 162 #[.int .u32 o] w fun e w' => e = .returned (.bool (rightB o)) ∧ w = w' := by
  obtain ⟨h0, h1⟩ := ho
  by_cases h4 : o % 4 = 0
  · by_cases h6 : o ≤ 60
    · have e : rightB o = true := by unfold rightB; simp [h4, h6]
      rw [e]
      clear e
      go_enter Tryz.func162, Tryz.ntmps162
      go_wp2
      go_ret
      exact ⟨rfl, rfl⟩
    · have e : rightB o = false := by unfold rightB; simp [h6]
      rw [e]
      clear e
      go_enter Tryz.func162, Tryz.ntmps162
      go_wp2
      go_ret
      exact ⟨rfl, rfl⟩
  · have e : rightB o = false := by unfold rightB; simp [h4]
    rw [e]
    clear e
    go_enter Tryz.func162, Tryz.ntmps162
    go_wp2
    go_ret
    exact ⟨rfl, rfl⟩
theorem dat_info : (Tryz.prog.info? 64).map (·.size) = some 9 := by kernel_rfl
theorem dat_one (d : Dat) : (datC d).all (·.oneCell') = true := by simp [datC, Value.oneCell']
end Go.Proofs.YtpeofpilfpjjpaaGreatDoor
