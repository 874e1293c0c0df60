/-
  The reference's Bytes and AllBytes of instructions.
-/
import Derived.Test.YtndmlbepjcagiaaDoorRefBare
import Derived.Test.YtndmlbepjcagiaaDoorLow
import Derived.Test.YtndmlbepjcagiaaDoorStep
import Derived.Test.YtndmlbepjcagiaaDoorFew
namespace Go.Proofs.YtndmlbepjcagiaaDoor
open Go.RowKit

/-- What is known at each point of the statement that draws its order. -/
theorem rbS_step {w V V' : World} {c a b k : Int} (h : V.cell? ⟨w.heap.size, 0, none⟩ = some (.int .u16 c) ∧ V.cell? ⟨w.heap.size, 1, none⟩ = some (.int .u8 a) ∧ V.cell? ⟨w.heap.size, 2, none⟩ = some (.int .u8 b) ∧ V.cell? ⟨w.heap.size, 3, none⟩ = some (.int .u32 k) ∧ Below w.heap.size w V) {B : Nat} (hb : Below B V V') (hB : w.heap.size < B) :
    V'.cell? ⟨w.heap.size, 0, none⟩ = some (.int .u16 c) ∧ V'.cell? ⟨w.heap.size, 1, none⟩ = some (.int .u8 a) ∧ V'.cell? ⟨w.heap.size, 2, none⟩ = some (.int .u8 b) ∧ V'.cell? ⟨w.heap.size, 3, none⟩ = some (.int .u32 k) ∧ Below w.heap.size w V' :=
  ⟨(hb.cell (p := ⟨w.heap.size, 0, none⟩) hB).trans h.1, (hb.cell (p := ⟨w.heap.size, 1, none⟩) hB).trans h.2.1, (hb.cell (p := ⟨w.heap.size, 2, none⟩) hB).trans h.2.2.1, (hb.cell (p := ⟨w.heap.size, 3, none⟩) hB).trans h.2.2.2.1, h.2.2.2.2.trans (hb.mono (by omega))⟩
theorem rbS_call {w V V' : World} {c a b k : Int} (h : V.cell? ⟨w.heap.size, 0, none⟩ = some (.int .u16 c) ∧ V.cell? ⟨w.heap.size, 1, none⟩ = some (.int .u8 a) ∧ V.cell? ⟨w.heap.size, 2, none⟩ = some (.int .u8 b) ∧ V.cell? ⟨w.heap.size, 3, none⟩ = some (.int .u32 k) ∧ Below w.heap.size w V) (hb : Below V.heap.size V V') :
    V'.cell? ⟨w.heap.size, 0, none⟩ = some (.int .u16 c) ∧ V'.cell? ⟨w.heap.size, 1, none⟩ = some (.int .u8 a) ∧ V'.cell? ⟨w.heap.size, 2, none⟩ = some (.int .u8 b) ∧ V'.cell? ⟨w.heap.size, 3, none⟩ = some (.int .u32 k) ∧ Below w.heap.size w V' := rbS_step h hb (World.block_lt_of_cell? V _ h.1)
theorem rbS_alloc {w V : World} {c a b k : Int} {o : Obj} (h : V.cell? ⟨w.heap.size, 0, none⟩ = some (.int .u16 c) ∧ V.cell? ⟨w.heap.size, 1, none⟩ = some (.int .u8 a) ∧ V.cell? ⟨w.heap.size, 2, none⟩ = some (.int .u8 b) ∧ V.cell? ⟨w.heap.size, 3, none⟩ = some (.int .u32 k) ∧ Below w.heap.size w V) :
    (V.alloc o).cell? ⟨w.heap.size, 0, none⟩ = some (.int .u16 c) ∧ (V.alloc o).cell? ⟨w.heap.size, 1, none⟩ = some (.int .u8 a) ∧ (V.alloc o).cell? ⟨w.heap.size, 2, none⟩ = some (.int .u8 b) ∧ (V.alloc o).cell? ⟨w.heap.size, 3, none⟩ = some (.int .u32 k) ∧ Below w.heap.size w (V.alloc o) := rbS_call h ((Below.refl _ _).alloc (Nat.le_refl _) o)

theorem rb_id {p : Prop} (h : p) : p := h
theorem rb_last {w w' : World} {base n c : Nat} {A : Option Addr} {l : List Int} (h : Ow w base A (n + 1) c l) (hb : Below w.heap.size w w') : base ≤ w'.heap.size := by
  obtain ⟨g, _, h1, h2⟩ := h.head (by omega)
  have := hb.size
  omega
theorem rb_le {V V' : World} {o : Obj} (h : Below V.heap.size V V') : V.heap.size ≤ (V'.alloc o).heap.size := Nat.le_trans h.size (by simp)
set_option maxHeartbeats 4000000 in
theorem refbytes_any (c a b k : Int) (w : World) (h : InsOk c a b k) :
    Calls Tryd.prog 23 #[insV c a b k] w fun e w' =>
      ∃ A1 c1, e = .returned (.slice A1 8 c1) ∧ Rd w' w'.heap.size A1 8 (insB c a b k) ∧ Below w.heap.size w w' := by
  obtain ⟨c0, c1, a0, a1', b0, b1, k0, k1⟩ := h
  have K0 := Blk.new w (insC c a b k) 48
  have S0 : (w.alloc (.cells (insC c a b k) 48)).drew.cell? ⟨w.heap.size, 0, none⟩ = some (.int .u16 c) ∧ (w.alloc (.cells (insC c a b k) 48)).drew.cell? ⟨w.heap.size, 1, none⟩ = some (.int .u8 a) ∧ (w.alloc (.cells (insC c a b k) 48)).drew.cell? ⟨w.heap.size, 2, none⟩ = some (.int .u8 b) ∧ (w.alloc (.cells (insC c a b k) 48)).drew.cell? ⟨w.heap.size, 3, none⟩ = some (.int .u32 k) ∧ Below w.heap.size w (w.alloc (.cells (insC c a b k) 48)).drew :=
    ⟨K0.drew.cell 0, K0.drew.cell 1, K0.drew.cell 2, K0.drew.cell 3, ((Below.refl _ _).alloc (Nat.le_refl _) _).drew⟩
  have HS := Lib.hid S0
  clear S0
  have e1 : IntKind.u64.wrap c = c := by rw [IntKind.wrap_u64]; omega
  have q1 : w.heap.size < (w.alloc (.cells (insC c a b k) 48)).drew.heap.size := by simp
  have q2 : w.heap.size < ((w.alloc (.cells (insC c a b k) 48)).alloc (.cells #[.int .u8 a, .int .u8 b] 5)).drew.heap.size := by simp; omega
  have hB := built_two (w.alloc (.cells (insC c a b k) 48)) a b a0 a1' b0 b1
  simp only [World.size_alloc] at hB
  have HB := Lib.hid hB.drew
  clear hB
  unfold insV
  go_enter Tryd.func23, Tryd.ntmps23
  go_wp2_with fail
  go_region_held3 (fun V => V.cell? ⟨w.heap.size, 0, none⟩ = some (.int .u16 c) ∧ V.cell? ⟨w.heap.size, 1, none⟩ = some (.int .u8 a) ∧ V.cell? ⟨w.heap.size, 2, none⟩ = some (.int .u8 b) ∧ V.cell? ⟨w.heap.size, 3, none⟩ = some (.int .u32 k) ∧ Below w.heap.size w V)
    (first | exact HS.out | assumption | exact rbS_alloc (by assumption) | exact rbS_call (by assumption) (by assumption) | exact rbS_step (by assumption) (by assumption) q1 | exact rbS_step (by assumption) (by assumption) q2)
    (first
      | (go_at_call 37; ((with_reducible refine (low2_own c _).mono ?_); rintro e wL ⟨A1, a1, rfl, oL, bL⟩))
      | (refine step_append_bytes rfl (.tmp 7) (.tmp 12) rfl _ A1 2 a1 (low c 2) rfl (oL.alloc (.cells #[.int .u8 a, .int .u8 b] 5)) (wL.heap.size + 1) (some ⟨wL.heap.size, 0, none⟩) 2 2 [a, b] rfl (built_two wL a b a0 a1' b0 b1) (by omega) (rb_le bL) ?_; intro A2 c2 w2 ow2 hb2)
      | (refine step_append_bytes rfl (.tmp 7) (.tmp 12) rfl _ A1 2 a1 (low c 2) rfl oL (w.heap.size + 1 + 1) (some ⟨w.heap.size + 1, 0, none⟩) 2 2 [a, b] rfl (HB.out.below (bL.mono (by simp))) (by omega) bL.size ?_; intro A2 c2 w2 ow2 hb2))
  all_goals
    obtain ⟨_, _, _, x3, BB⟩ := rb_id (by assumption : w2.cell? ⟨w.heap.size, 0, none⟩ = some (.int .u16 c) ∧ w2.cell? ⟨w.heap.size, 1, none⟩ = some (.int .u8 a) ∧ w2.cell? ⟨w.heap.size, 2, none⟩ = some (.int .u8 b) ∧ w2.cell? ⟨w.heap.size, 3, none⟩ = some (.int .u32 k) ∧ Below w.heap.size w w2)
    have e2 : IntKind.u64.wrap k = k := by rw [IntKind.wrap_u64]; omega
    have hz := hb2.size
    clear oL bL hb2 q1 q2 HB HS K0 e1
    go_wp2_with fail
    refine (low4_any k _).mono ?_
    rintro e w3 ⟨A3, a3, rfl, h3, b3⟩
    have o3 := ow2.below b3 (Nat.le_refl _)
    have hz3 := b3.size
    have BC := BB.trans (b3.mono BB.size)
    have hlast := rb_last ow2 b3
    go_wp2_with (at_builtin; refine wpList_append_bytes rfl (.tmp 14) (.tmp 18) rfl _ A2 4 c2 (low c 2 ++ [a, b]) rfl o3 w3.heap.size A3 4 a3 (low k 4) rfl h3 (by omega) hlast ?_; intro A4 c4 w4 o4 b4)
    go_ret
    refine ⟨A4, c4, rfl, ?_, BC.trans (b4.mono ?_)⟩
    · have := o4.rd
      exact this
    · simp
      first | done | omega
end Go.Proofs.YtndmlbepjcagiaaDoor
