/-
  insn.Encode: the bytes of an instruction, in a new block.
-/
import Derived.Test.YtndmlbepjcagiaaDoorForm
import Derived.Test.YtndmlbepjcagiaaDoorPut
import Derived.Test.YtndmlbepjcagiaaDoorStep
namespace Go.Proofs.YtndmlbepjcagiaaDoor
open Go.RowKit

/-- The bytes of an instruction. -/
def insB (c a b k : Int) : List Int := low c 2 ++ [a, b] ++ low k 4
/-- Its numbers are as wide as their kinds. -/
structure InsOk (c a b k : Int) : Prop where
  c0 : 0 ≤ c
  c1 : c ≤ 65535
  a0 : 0 ≤ a
  a1 : a ≤ 255
  b0 : 0 ≤ b
  b1 : b ≤ 255
  k0 : 0 ≤ k
  k1 : k ≤ 4294967295

/-- What is known at each point of the statement that draws its order: the three cells that are still to be read, and what lay before. -/
abbrev EncS (w V : World) (a b k : Int) : Prop := V.cell? ⟨w.heap.size, 1, none⟩ = some (.int .u8 a) ∧ V.cell? ⟨w.heap.size, 2, none⟩ = some (.int .u8 b) ∧ V.cell? ⟨w.heap.size, 3, none⟩ = some (.int .u32 k) ∧ Below w.heap.size w V
theorem encS_step {w V V' : World} {a b k : Int} {B : Nat} (h : EncS w V a b k) (hb : Below B V V') (hB : w.heap.size < B) : EncS w V' a b k :=
  ⟨(hb.cell (p := ⟨w.heap.size, 1, none⟩) hB).trans h.1, (hb.cell (p := ⟨w.heap.size, 2, none⟩) hB).trans h.2.1, (hb.cell (p := ⟨w.heap.size, 3, none⟩) hB).trans h.2.2.1, h.2.2.2.trans (hb.mono (by omega))⟩
theorem encS_lt {w V : World} {a b k : Int} (h : EncS w V a b k) : w.heap.size < V.heap.size := World.block_lt_of_cell? V _ h.1
theorem encS_alloc {w V : World} {a b k : Int} (h : EncS w V a b k) (o : Obj) : EncS w (V.alloc o) a b k := encS_step h ((Below.refl _ _).alloc (Nat.le_refl _) o) (encS_lt h)

set_option maxHeartbeats 4000000 in
theorem enc_any (c a b k : Int) (w : World) (h : InsOk c a b k) :
    Calls Tryd.prog 22 #[insV c a b k] w fun e w' =>
      ∃ g, e = .returned (.slice (some ⟨g, 0, none⟩) 8 8) ∧ w.heap.size ≤ g ∧ Wh w' g (insB c a b k) ∧ Below w.heap.size w w' := by
  obtain ⟨c0, c1, a0, a1, b0, b1, k0, k1⟩ := h
  unfold insV
  go_enter Tryd.func22, Tryd.ntmps22
  go_wp2_with (go_at_call 35; refine (put16_any none 0 0 [] c c0 c1 _ Rd.nil (by omega)).mono ?_; rintro e w1 ⟨rfl, h1, hb1⟩)
  have hB0 : Below w.heap.size w w1 := ((Below.refl _ w).alloc (Nat.le_refl _) (.cells #[.int .u16 c, .int .u8 a, .int .u8 b, .int .u32 k] 48)).trans (hb1.mono (by simp))
  simp only [World.size_alloc, List.nil_append] at h1 hb1
  have hlt := h1.lt
  have hS : EncS w w1 a b k := ⟨(hb1.cell (p := ⟨w.heap.size, 1, none⟩) (by simp)).trans (by simp), (hb1.cell (p := ⟨w.heap.size, 2, none⟩) (by simp)).trans (by simp), (hb1.cell (p := ⟨w.heap.size, 3, none⟩) (by simp)).trans (by simp), hB0⟩
  have ow1 := h1.ow (base := w.heap.size + 1) (n := 2) (by omega) (by simp [low_length]) (by omega)
  have hs1 : w.heap.size + 1 ≤ (w1.drew.alloc (.cells #[.int .u8 a, .int .u8 b] 5)).heap.size := by simp; omega
  have hS0 : EncS w w1.drew a b k := encS_step (B := w1.heap.size) hS (Below.refl _ _).drew (by omega)
  go_region_held3 (fun V => V.cell? ⟨w.heap.size, 1, none⟩ = some (.int .u8 a) ∧ V.cell? ⟨w.heap.size, 2, none⟩ = some (.int .u8 b) ∧ V.cell? ⟨w.heap.size, 3, none⟩ = some (.int .u32 k) ∧ Below w.heap.size w V)
    (first | exact hS0 | assumption | exact encS_alloc (by assumption) _ | exact encS_step (by assumption) (by assumption) (by omega) | exact encS_step (by assumption) (by assumption) (encS_lt (by assumption)))
    (first
      | (refine step_append_bytes rfl (.tmp 7) (.tmp 12) rfl (w.heap.size + 1) (some ⟨w.heap.size + 1, 0, none⟩) 2 2 (low c 2) rfl (ow1.drew.alloc (.cells #[.int .u8 a, .int .u8 b] 5)) (w1.drew.heap.size + 1) (some ⟨w1.drew.heap.size, 0, none⟩) 2 2 [a, b] rfl (built_two w1.drew a b a0 a1 b0 b1) (by omega) hs1 ?_; intro A2 c2 w2 ow2 hb2)
      | (go_at_call 36; refine (put32_any A2 (2 + 2) c2 _ k k0 k1 _ ow2.rd (by omega)).mono ?_; rintro e w3 ⟨rfl, h3, hb3⟩))
  go_wp2
  go_ret
  have hq : EncS w w3 a b k := by assumption
  exact ⟨_, rfl, by have := hb2.size; simp at this; omega, h3, hq.2.2.2⟩
end Go.Proofs.YtndmlbepjcagiaaDoor
