/-
  asm.Parse at every text; the layer does something.
-/
import Derived.Test.YtceeinljakcdkaaDoorAsmLine
import Derived.Test.YtceeinljakcdkaaDoorAsmPar
namespace Go.Proofs.YtceeinljakcdkaaDoor
open Go.RowKit Go.Shelf

theorem parse_any (s : ByteArray) (w : World) (hT : T8 w) : Calls Tryd.prog 15 #[.string s] w fun e w' => ∃ A c, e = .returned (.tuple #[.slice A (parseB s.data.toList).1.length c, .int .i64 ((parseB s.data.toList).2.1 : Nat), .int .i64 (parseB s.data.toList).2.2]) ∧ Below w.heap.size w w' ∧
    w'.ownsRow w.heap.size 32 4 (.slice A (parseB s.data.toList).1.length c) (parseB s.data.toList).1.length (celA (parseB s.data.toList).1) := by
  by_cases hs : s.size ≤ 8192
  · exact callsIn_wide.1 (par_in s hs w hT)
  · have e : parseB s.data.toList = ([], 0, 3) := by
      unfold parseB
      rw [if_pos (by rw [← Lib.size_eq]; omega)]
    rw [e]
    refine (par_long s (by omega) w).mono ?_
    rintro e w' ⟨rfl, hb⟩
    exact ⟨none, 0, rfl, hb, World.ownsRow_nil _ _ _ _⟩
theorem wk1 : parseB [108, 100, 46, 105, 109, 109, 32, 49, 10, 114, 101, 116, 46, 97, 10] = ([(0, 0, 0, 1), (22, 0, 0, 0)], 0, 0) := by decide +kernel
theorem wk2 : parseB [114, 101, 116, 46, 97, 10, 114, 101, 116, 46, 107, 10] = ([], 6, 180) := by decide +kernel
theorem wk3 : hasL (21, 1, 0, 7) = true ∧ lineB (21, 1, 0, 7) = [106, 101, 113, 46, 107, 32, 55, 32, 49, 32, 48] := by decide +kernel
theorem wk_eq : (bs [106, 101, 113, 46, 107, 32, 55, 32, 49, 32, 48]).toList = [106, 101, 113, 46, 107, 32, 55, 32, 49, 32, 48] := by rw [ByteArray.toList_eq, bs_list]
set_option maxRecDepth 100000 in
set_option maxHeartbeats 4000000 in
theorem wakes8_any (w : World) (hT : T8 w) : Calls Tryd.prog 7 #[] w fun e w' => e = .returned (.bool true) ∧ Below w.heap.size w w' := by
  have h1 : ∀ w, T8 w → Calls Tryd.prog 10 #[.agg #[.int .u16 21, .int .u8 1, .int .u8 0, .int .u32 7]] w fun e w' => e = .returned (.tuple #[.string (bs [106, 101, 113, 46, 107, 32, 55, 32, 49, 32, 48]), .int .i64 0]) ∧ Below w.heap.size w w' := fun w hT => by
    have := line_any (21, 1, 0, 7) ⟨by decide, by decide, by decide, by decide, by decide, by decide, by decide, by decide⟩ w hT
    simp only [lineS, lineE, wk3.1, wk3.2, if_true] at this
    exact this
  have h2 : ∀ w, T8 w → Calls Tryd.prog 15 #[.string ⟨#[108, 100, 46, 105, 109, 109, 32, 49, 10, 114, 101, 116, 46, 97, 10]⟩] w fun e w' => (∃ A c, e = .returned (.tuple #[.slice A 2 c, .int .i64 0, .int .i64 0])) ∧ Below w.heap.size w w' := fun w hT => by
    refine (parse_any _ w hT).mono ?_
    simp only [wk1]
    rintro e w' ⟨A, c, rfl, hb, _⟩
    exact ⟨⟨A, c, rfl⟩, hb⟩
  have h3 : ∀ w, T8 w → Calls Tryd.prog 15 #[.string ⟨#[114, 101, 116, 46, 97, 10, 114, 101, 116, 46, 107, 10]⟩] w fun e w' => (∃ A c, e = .returned (.tuple #[.slice A 0 c, .int .i64 6, .int .i64 180])) ∧ Below w.heap.size w w' := fun w hT => by
    refine (parse_any _ w hT).mono ?_
    simp only [wk2]
    rintro e w' ⟨A, c, rfl, hb, _⟩
    exact ⟨⟨A, c, rfl⟩, hb⟩
  have heq := wk_eq
  go_enter Tryd.func7, Tryd.ntmps7
  go_wp2_with (go_at_call 10; refine (h1 _ hT).mono ?_; rintro e w1 ⟨rfl, hb1⟩; refine Hid.out ?_)
  refine Lib.hid ?_
  have hT1 := hT.new hb1
  go_wp2_with (go_at_call 15; refine (h2 _ hT1).mono ?_; rintro e w2 ⟨⟨A2, c2, rfl⟩, hb2⟩; refine Hid.out ?_)
  refine Lib.hid ?_
  have hT2 := hT1.new hb2
  go_wp2_with (go_at_call 15; refine (h3 _ hT2).mono ?_; rintro e w3 ⟨⟨A3, c3, rfl⟩, hb3⟩)
  go_ret
  exact ⟨rfl, hb1.trans ((hb2.trans (hb3.mono hb2.size)).mono hb1.size)⟩
end Go.Proofs.YtceeinljakcdkaaDoor
