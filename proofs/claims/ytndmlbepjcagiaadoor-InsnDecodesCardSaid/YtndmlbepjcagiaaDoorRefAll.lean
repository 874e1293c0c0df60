/-
  The reference's AllBytes.
-/
import Derived.Test.YtndmlbepjcagiaaDoorRefBytes
namespace Go.Proofs.YtndmlbepjcagiaaDoor
open Go.RowKit

theorem flat_next (g : Nat → List Int) (k : Nat) : ((List.range k).flatMap g) ++ g k = (List.range (k + 1)).flatMap g := by simp [List.range_succ]

set_option maxHeartbeats 4000000 in
theorem refall_any (A : Option Addr) (m cap : Nat) (f : Nat → Ins) (w : World) (hA : Ri w w.heap.size A m f) (hm : m ≤ 300) :
    Calls Tryd.prog 20 #[.slice A m cap] w fun e w' =>
      ∃ A' c', e = .returned (.slice A' (8 * m) c') ∧ Ow w' w.heap.size A' (8 * m) c' ((List.range m).flatMap fun k => bytI (f k)) ∧ Below w.heap.size w w' := by
  go_enter Tryd.func20, Tryd.ntmps20
  go_wp2_with fail
  go_loopw [3, 8] (fun v i wr => ∃ (k : Nat) (A1 : Option Addr) (c1 : Nat), k ≤ m ∧ i = .int .i64 k ∧ v = .slice A1 (8 * k) c1 ∧ Ow wr w.heap.size A1 (8 * k) c1 ((List.range k).flatMap fun k => bytI (f k)) ∧ Below w.heap.size w wr) (fun _ i _ => m - (intOf i).toNat)
  case atStart => exact ⟨0, none, 0, Nat.zero_le _, rfl, rfl, Ow.nil _ _, Below.refl _ _⟩
  case round =>
    obtain ⟨k, A1, c1, hk, rfl, rfl, hown, hbr⟩ := hrel
    by_cases hlt : k < m
    · have hlt' : (k : Int) < m := by omega
      have hst := Lib.hid (flat_next (fun k => bytI (f k)) k)
      obtain ⟨b, off, rfl, _, ⟨p0, p1, p2, p3⟩, ho⟩ := (hA.below hbr (Nat.le_refl _)) k hlt
      obtain ⟨⟨x, y, z, u⟩, hf⟩ : ∃ q : Ins, f k = q := ⟨_, rfl⟩
      have hby : bytI (f k) = insB x y z u := by rw [hf]; rfl
      have HB := Lib.hid hby
      rw [hf] at p0 p1 p2 p3 ho
      have ho' : InsOk x y z u := ho
      simp only at p0 p1 p2 p3
      clear hby hf ho
      have hs := hbr.size
      go_wp2_with fail
      refine (refbytes_any x y z u _ ho').mono ?_
      rintro e w3 ⟨A2, c2, rfl, h2, b2⟩
      have o3 := (hown.alloc (.cells #[.int .u16 x, .int .u8 y, .int .u8 z, .int .u32 u] 48)).below b2 (Nat.le_refl _)
      have B3 : Below w.heap.size w w3 := (hbr.alloc hs (.cells #[.int .u16 x, .int .u8 y, .int .u8 z, .int .u32 u] 48)).trans (b2.mono (by simp; omega))
      have hs3 := B3.size
      clear p0 p1 p2 p3 b2
      go_wp2_with (at_builtin; refine wpList_append_bytes rfl (.tmp 12) (.tmp 14) rfl w.heap.size A1 (8 * k) c1 _ rfl o3 w3.heap.size A2 8 c2 (insB x y z u) rfl h2 (by omega) hs3 ?_; intro A4 c4 w4 o4 b4)
      refine ⟨⟨k + 1, A4, c4, by omega, by go_num, rfl, ?_, B3.trans b4⟩, by simp [intOf]; omega⟩
      rw [← hst.out, HB.out]
      exact o4
    · obtain rfl : k = m := by omega
      go_wp2
      go_ret
      exact ⟨A1, c1, rfl, hown, hbr⟩
end Go.Proofs.YtndmlbepjcagiaaDoor
