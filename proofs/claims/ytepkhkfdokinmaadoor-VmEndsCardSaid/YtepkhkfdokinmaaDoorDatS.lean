/-
  Opening an api.Data by value.
-/
import Derived.Test.YtepkhkfdokinmaaDoorOpenA
import Derived.Test.YtepkhkfdokinmaaDoorDat
namespace Go.Proofs.YtepkhkfdokinmaaDoor
open Go.RowKit Go.ChangeShapes Go.WideShapes

theorem wf_U32 {z : Int} (h : (Lit.int .u32 z).wf = true) : U32 z := by
  simp [Lit.wf, IntKind.min, IntKind.max, IntKind.signed, IntKind.bits] at h
  unfold U32
  omega
theorem wf_U64 {z : Int} (h : (Lit.int .u64 z).wf = true) : U64 z := by
  simp [Lit.wf, IntKind.min, IntKind.max, IntKind.signed, IntKind.bits] at h
  unfold U64
  omega
section
variable {H : Type} {enc : TypeId × Value → H} {w : World} {base : Nat} {spare : Nat → Bool} {held : Bool}
theorem nine {α : Type} {cs : Array α} (h : cs.size = 9) : ∃ a b c d e f g i j, cs = #[a, b, c, d, e, f, g, i, j] := by
  obtain ⟨l⟩ := cs
  match l, h with
  | [a, b, c, d, e, f, g, i, j], _ => exact ⟨a, b, c, d, e, f, g, i, j, rfl⟩
theorem two_ {α : Type} {cs : Array α} (h : cs.size = 2) : ∃ a b, cs = #[a, b] := by
  obtain ⟨l⟩ := cs
  match l, h with
  | [a, b], _ => exact ⟨a, b, rfl⟩
theorem six_ {α : Type} {l : List α} (h : l.length = 6) : ∃ a b c d e f, l = [a, b, c, d, e, f] := by
  match l, h with
  | [a, b, c, d, e, f], _ => exact ⟨a, b, c, d, e, f, rfl⟩
set_option maxRecDepth 100000 in
theorem open_dat {r : Reach} {b0 : Nat} {v : Value} {x : DataW H} {p : List MemPlace} (hv : Value.okWide Tryd.prog w r b0 32 v) (h : DataW.Trod enc Tryd.prog w base spare held 32 v x p) : ∃ d, DatOk d ∧ v = datV d := by
  obtain ⟨cs, rfl, hsz⟩ := okWide_struct Tryd.underlying32 hv
  rw [show Tryd.prog.cellsOf 32 = 9 by kernel_rfl] at hsz
  obtain ⟨c0, c1, c2, c3, c4, c5, c6, c7, c8, rfl⟩ := nine hsz
  obtain ⟨fuel, hf⟩ := h
  obtain ⟨_, n, hall⟩ := trod_fields Tryd.underlying32 hf
  have h32 : Tryd.prog.cellsOf 23 = 1 := by kernel_rfl
  have h64 : Tryd.prog.cellsOf 29 = 1 := by kernel_rfl
  have h6 : Tryd.prog.cellsOf 30 = 6 := by kernel_rfl
  simp only [List.mem_cons, List.not_mem_nil, or_false, forall_eq_or_imp, forall_eq, Value.cells, h32, h64, h6, List.drop_zero, List.drop_succ_cons, List.take_succ_cons, List.take_zero] at hall
  obtain ⟨⟨y0, t0⟩, ⟨y1, t1⟩, ⟨y2, t2⟩, ⟨y3, t3⟩⟩ := hall
  obtain ⟨nr, e0, _, w0⟩ := DataW.trod_int Tryd.underlying23 t0
  obtain ⟨ar, e1, _, w1⟩ := DataW.trod_int Tryd.underlying23 t1
  obtain ⟨ip, e2, _, w2⟩ := DataW.trod_int Tryd.underlying29 t2
  obtain ⟨zs, hz, e3, w3⟩ := ints_of_array Tryd.underlying30 Tryd.underlying29 h64 rfl t3
  obtain ⟨a0, a1, a2, a3, a4, a5, rfl⟩ := six_ hz
  simp only [List.cons.injEq, and_true, List.map_cons, List.map_nil] at e0 e1 e2 e3
  obtain ⟨rfl, rfl, rfl, rfl, rfl, rfl⟩ := e3
  subst e0 e1 e2
  simp only [List.mem_cons, List.not_mem_nil, or_false, forall_eq_or_imp, forall_eq] at w3
  obtain ⟨q0, q1, q2, q3, q4, q5⟩ := w3
  exact ⟨⟨nr, ar, ip, a0, a1, a2, a3, a4, a5⟩, ⟨wf_U32 w0, wf_U32 w1, wf_U64 w2, wf_U64 q0, wf_U64 q1, wf_U64 q2, wf_U64 q3, wf_U64 q4, wf_U64 q5⟩, rfl⟩
end
end Go.Proofs.YtepkhkfdokinmaaDoor
