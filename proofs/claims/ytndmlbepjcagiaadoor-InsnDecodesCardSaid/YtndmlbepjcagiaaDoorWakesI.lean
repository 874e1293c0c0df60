/-
  The layer is awake: wicketgatelaw02.wakes.
-/
import Derived.Test.YtndmlbepjcagiaaDoorEnc
import Derived.Laws.Strings
namespace Go.Proofs.YtndmlbepjcagiaaDoor
open Go.RowKit

theorem rowN_eq (s : ByteArray) : rowN s = (List.range 41).find? fun i => (kAt i).2.1 == s.data.toList := by
  unfold rowN kN
  simp only [ByteArray.toList_mk, ByteArray.toList_eq s]
theorem name_20 : nameOf 32 = (⟨#[108, 100, 46, 97, 98, 115]⟩, true) := by rfl
theorem code_xor : codeOf ⟨#[120, 111, 114, 46, 120]⟩ = (172, true) := by
  unfold codeOf
  rw [rowN_eq]
  rfl
theorem form_94 : formOf 148 = -1 := by rfl
theorem ld_abs : ((ByteArray.mk #[108, 100, 46, 97, 98, 115]).toList == (ByteArray.mk #[108, 100, 46, 97, 98, 115]).toList) = true := by simp

set_option maxHeartbeats 4000000 in
theorem wakes_any (w : World) (hK : Kinds w) : Calls Tryd.prog 8 #[] w fun e w' => e = .returned (.bool true) ∧ Below w.heap.size w w' := by
  have hN := fun w hK => name_any 32 w hK
  have hC := fun w hK => code_any ⟨#[120, 111, 114, 46, 120]⟩ w hK
  have hF := fun w hK => form_any 148 w hK
  rw [name_20] at hN
  rw [code_xor] at hC
  rw [form_94] at hF
  have hpos := hK.pos
  have hE : InsOk 21 1 2 16909060 := by constructor <;> omega
  go_enter Tryd.func8, Tryd.ntmps8
  go_wp2_with fail
  refine (enc_any 21 1 2 16909060 w hE).mono ?_
  rintro e w1 ⟨g, rfl, hg, h1, hb1⟩
  go_wp2_with fail
  refine (hN _ (hK.below hb1 hpos)).mono ?_
  rintro e w2 ⟨rfl, hb2⟩
  have hb2' := hb1.trans (hb2.mono hb1.size)
  go_wp2_with fail
  refine (hC _ (hK.below hb2' hpos)).mono ?_
  rintro e w3 ⟨rfl, hb3⟩
  have hb3' := hb2'.trans (hb3.mono hb2'.size)
  have q0 := (hb3.cell (p := ⟨g, 0, none⟩) (Nat.lt_of_lt_of_le h1.lt hb2.size)).trans ((hb2.cell (p := ⟨g, 0, none⟩) h1.lt).trans (h1.cell (k := 0) (by decide)))
  have q4 := (hb3.cell (p := ⟨g, 4, none⟩) (Nat.lt_of_lt_of_le h1.lt hb2.size)).trans ((hb2.cell (p := ⟨g, 4, none⟩) h1.lt).trans (h1.cell (k := 4) (by decide)))
  have e0 : (insB 21 1 2 16909060).getD 0 0 = 21 := by decide
  have e4 : (insB 21 1 2 16909060).getD 4 0 = 4 := by decide
  rw [e0] at q0
  rw [e4] at q4
  have hla := ld_abs
  go_wp2_with fail
  refine (hF _ (hK.below hb3' hpos)).mono ?_
  rintro e w4 ⟨rfl, rfl⟩
  go_wp2_with fail
  go_ret
  exact ⟨rfl, hb3'⟩
end Go.Proofs.YtndmlbepjcagiaaDoor
