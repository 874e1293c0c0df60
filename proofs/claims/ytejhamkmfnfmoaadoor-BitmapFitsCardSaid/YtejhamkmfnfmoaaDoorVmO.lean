/-
  Machines that came in, as they are opened.
-/
import Derived.Test.YtejhamkmfnfmoaaDoorVmS
import Derived.Test.YtejhamkmfnfmoaaDoorHM
namespace Go.Proofs.YtejhamkmfnfmoaaDoor
open Go.RowKit Go.ChangeShapes Go.WideShapes

theorem four_parts {α : Type} {l : List α} (h : l.length = 19) : l = l.take 1 ++ ((l.drop 1).take 1 ++ ((l.drop 2).take 1 ++ (l.drop 3).take 16)) := by
  have e3 : (l.drop 3).take 16 = l.drop 3 := List.take_of_length_le (by rw [List.length_drop]; omega)
  have e2 : (l.drop 2).take 1 ++ l.drop 3 = l.drop 2 := by
    have := List.take_append_drop 1 (l.drop 2)
    rwa [List.drop_drop] at this
  have e1 : (l.drop 1).take 1 ++ l.drop 2 = l.drop 1 := by
    have := List.take_append_drop 1 (l.drop 1)
    rwa [List.drop_drop] at this
  rw [e3, e2, e1, List.take_append_drop]
section
variable {H : Type} {enc : TypeId × Value → H} {w : World} {base : Nat} {spare : Nat → Bool} {held : Bool}
set_option maxRecDepth 100000 in
theorem open_vm {r : Reach} {b0 : Nat} {v : Value} {x : DataW H} {p : List MemPlace} (hv : Value.okWide Tryd.prog w r b0 25 v) (h : DataW.Trod enc Tryd.prog w base spare held 25 v x p) :
    ∃ (pc a x : Int) (mem : List Int), U32 a ∧ U32 x ∧ mem.length = 16 ∧ U32s mem ∧ v = .agg (mcC pc a x mem) := by
  obtain ⟨cs, rfl, hsz⟩ := okWide_struct Tryd.underlying25 hv
  rw [show Tryd.prog.cellsOf 25 = 19 by kernel_rfl] at hsz
  obtain ⟨fuel, hf⟩ := h
  obtain ⟨_, n, hall⟩ := trod_fields Tryd.underlying25 hf
  have h32 : Tryd.prog.cellsOf 22 = 1 := by kernel_rfl
  have hi : Tryd.prog.cellsOf 3 = 1 := by kernel_rfl
  have h16 : Tryd.prog.cellsOf 23 = 16 := by kernel_rfl
  simp only [List.mem_cons, List.not_mem_nil, or_false, forall_eq_or_imp, forall_eq, Value.cells, h32, hi, h16, List.drop_zero] at hall
  obtain ⟨⟨y0, t0⟩, ⟨y1, t1⟩, ⟨y2, t2⟩, ⟨y3, t3⟩⟩ := hall
  obtain ⟨pc, e0, _, w0⟩ := DataW.trod_int Tryd.underlying3 t0
  obtain ⟨a, e1, _, w1⟩ := DataW.trod_int Tryd.underlying22 t1
  obtain ⟨x, e2, _, w2⟩ := DataW.trod_int Tryd.underlying22 t2
  have hl : cs.toList.length = 19 := by simpa using hsz
  obtain ⟨zs, hz, e3, w3⟩ := ints_of_array Tryd.underlying23 Tryd.underlying22 h32 (by rw [List.length_take, List.length_drop]; omega) t3
  refine ⟨pc, a, x, zs, wf_U32 w1, wf_U32 w2, hz, fun z hz => wf_U32 (w3 z hz), ?_⟩
  congr 1
  apply Array.ext'
  rw [four_parts hl, e0, e1, e2, e3]
  simp [mcC, arrC]
end
end Go.Proofs.YtejhamkmfnfmoaaDoor
