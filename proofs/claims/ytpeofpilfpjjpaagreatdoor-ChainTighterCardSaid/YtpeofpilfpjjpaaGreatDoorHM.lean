/-
  OpenA, DatS: in one file.
-/
import Derived.Test.YtpeofpilfpjjpaaGreatDoorRows
import Derived.WalkKit
import Derived.OpenShut
import Derived.Lib.SmallJoins
import Derived.Test.YtpeofpilfpjjpaaGreatDoorDat
/-
  Opening arrays of numbers and structs by value, field by field. Plain lemmas on readings.
-/
namespace Go.Proofs.YtpeofpilfpjjpaaGreatDoor
open Go.RowKit Go.ChangeShapes Go.WideShapes

section
variable {H : Type} {enc : TypeId × Value → H} {P : Program} {w : World} {base : Nat} {spare : Nat → Bool} {held : Bool}

theorem mapM_each {α β : Type} {f : α → Option β} : ∀ {l : List α} {xs : List β}, l.mapM f = some xs → ∀ a ∈ l, ∃ b, f a = some b
  | [], _, _, a, ha => by cases ha
  | a :: l, xs, h, b, hb => by
    rw [List.mapM_cons] at h
    simp only [bind, Option.bind_eq_some_iff, pure, Option.some.injEq] at h
    obtain ⟨y, hy, ys, hys, rfl⟩ := h
    rcases List.mem_cons.1 hb with rfl | hb
    · exact ⟨y, hy⟩
    · exact mapM_each hys b hb
theorem trod_fields {t : TypeId} {fs : Array Field} {fuel : Nat} {cs : List Value} {x : DataW H × List MemPlace} (hs : P.underlying t = some (.struct fs)) (h : DataW.trod enc P w base spare held fuel t cs = some x) :
    cs.length = P.cellsOf t ∧ ∃ n, ∀ f ∈ fs.toList, ∃ y, DataW.trod enc P w base spare held n f.type ((cs.drop f.offset).take (P.cellsOf f.type)) = some y := by
  cases fuel with
  | zero => simp [DataW.trod] at h
  | succ n =>
    unfold DataW.trod at h
    rw [hs] at h
    simp only at h
    split at h
    · rename_i hl
      simp only [Option.map_eq_some_iff] at h
      obtain ⟨xs, hxs, _⟩ := h
      exact ⟨hl, n, mapM_each hxs⟩
    · cases h
theorem trod_items {t e : TypeId} {m fuel : Nat} {cs : List Value} {x : DataW H × List MemPlace} (hs : P.underlying t = some (.array m e)) (h : DataW.trod enc P w base spare held fuel t cs = some x) :
    cs.length = P.cellsOf t ∧ ∃ n, ∀ i, i < m → ∃ y, DataW.trod enc P w base spare held n e ((cs.drop (i * P.cellsOf e)).take (P.cellsOf e)) = some y := by
  cases fuel with
  | zero => simp [DataW.trod] at h
  | succ n =>
    unfold DataW.trod at h
    rw [hs] at h
    simp only at h
    split at h
    · rename_i hl
      simp only [Option.map_eq_some_iff] at h
      obtain ⟨xs, hxs, _⟩ := h
      exact ⟨hl, n, fun i hi => mapM_each hxs i (List.mem_range.2 hi)⟩
    · cases h
theorem ints_of_cells {kd : IntKind} : ∀ {cs : List Value}, (∀ i, i < cs.length → ∃ z, cs[i]? = some (.int kd z) ∧ (Lit.int kd z).wf = true) → ∃ zs : List Int, zs.length = cs.length ∧ cs = zs.map (Value.int kd) ∧ ∀ z ∈ zs, (Lit.int kd z).wf = true
  | [], _ => ⟨[], rfl, rfl, by intro z hz; cases hz⟩
  | c :: cs, hi => by
    obtain ⟨z, ez, hw⟩ := hi 0 (by simp)
    obtain ⟨zs, h1, h2, h3⟩ := ints_of_cells (cs := cs) (fun i hlt => by
      obtain ⟨z, ez, hw⟩ := hi (i + 1) (by simp; omega)
      exact ⟨z, by simpa using ez, hw⟩)
    simp only [List.getElem?_cons_zero, Option.some.injEq] at ez
    subst ez
    refine ⟨z :: zs, by simp [h1], by rw [h2]; rfl, fun y hy => ?_⟩
    rcases List.mem_cons.1 hy with rfl | hy
    · exact hw
    · exact h3 y hy
/-- The numbers of an array. -/
theorem ints_of_array {t e : TypeId} {kd : IntKind} {m fuel : Nat} {cs : List Value} {x : DataW H × List MemPlace} (hs : P.underlying t = some (.array m e)) (he : P.underlying e = some (.int kd)) (hc : P.cellsOf e = 1) (hl : cs.length = m)
    (h : DataW.trod enc P w base spare held fuel t cs = some x) : ∃ zs : List Int, zs.length = m ∧ cs = zs.map (Value.int kd) ∧ ∀ z ∈ zs, (Lit.int kd z).wf = true := by
  obtain ⟨_, n, hi⟩ := trod_items hs h
  rw [hc] at hi
  subst hl
  refine ints_of_cells fun i hlt => ?_
  obtain ⟨y, hy⟩ := hi i hlt
  obtain ⟨z, ez, _, hw⟩ := DataW.trod_int he hy
  rw [Nat.mul_one] at ez
  have : ((cs.drop i).take 1)[0]? = some (.int kd z) := by rw [ez]; rfl
  exact ⟨z, by simpa using this, hw⟩
theorem okWide_array {t e : TypeId} {m : Nat} {r : Reach} {b0 : Nat} {v : Value} (hs : P.underlying t = some (.array m e)) (h : Value.okWide P w r b0 t v) : ∃ cs, v = .agg cs ∧ cs.size = P.cellsOf t := by
  simp only [Value.okWide, hs] at h
  obtain ⟨cs, h1, h2, _⟩ := h
  exact ⟨cs, h1, h2⟩
end
end Go.Proofs.YtpeofpilfpjjpaaGreatDoor

/-
  Opening an api.Data by value.
-/
namespace Go.Proofs.YtpeofpilfpjjpaaGreatDoor
open Go.RowKit Go.ChangeShapes Go.WideShapes

theorem wf_U32 {z : Int} (h : (Lit.int .u32 z).wf = true) : U32 z := by
  simp [Lit.wf, IntKind.min, IntKind.max, IntKind.signed, IntKind.bits] at h
  unfold U32
  omega
theorem wf_U64 {z : Int} (h : (Lit.int .u64 z).wf = true) : U64 z := by
  simp [Lit.wf, IntKind.min, IntKind.max, IntKind.signed, IntKind.bits] at h
  unfold U64
  omega
section
variable {H : Type} {enc : TypeId × Value → H} {w : World} {base : Nat} {spare : Nat → Bool} {held : Bool}
theorem nine {α : Type} {cs : Array α} (h : cs.size = 9) : ∃ a b c d e f g i j, cs = #[a, b, c, d, e, f, g, i, j] := by
  obtain ⟨l⟩ := cs
  match l, h with
  | [a, b, c, d, e, f, g, i, j], _ => exact ⟨a, b, c, d, e, f, g, i, j, rfl⟩
theorem two_ {α : Type} {cs : Array α} (h : cs.size = 2) : ∃ a b, cs = #[a, b] := by
  obtain ⟨l⟩ := cs
  match l, h with
  | [a, b], _ => exact ⟨a, b, rfl⟩
theorem six_ {α : Type} {l : List α} (h : l.length = 6) : ∃ a b c d e f, l = [a, b, c, d, e, f] := by
  match l, h with
  | [a, b, c, d, e, f], _ => exact ⟨a, b, c, d, e, f, rfl⟩
set_option maxRecDepth 100000 in
theorem open_dat {r : Reach} {b0 : Nat} {v : Value} {x : DataW H} {p : List MemPlace} (hv : Value.okWide Tryz.prog w r b0 64 v) (h : DataW.Trod enc Tryz.prog w base spare held 64 v x p) : ∃ d, DatOk d ∧ v = datV d := by
  obtain ⟨cs, rfl, hsz⟩ := okWide_struct Tryz.underlying64 hv
  rw [show Tryz.prog.cellsOf 64 = 9 by kernel_rfl] at hsz
  obtain ⟨c0, c1, c2, c3, c4, c5, c6, c7, c8, rfl⟩ := nine hsz
  obtain ⟨fuel, hf⟩ := h
  obtain ⟨_, n, hall⟩ := trod_fields Tryz.underlying64 hf
  have h32 : Tryz.prog.cellsOf 61 = 1 := by kernel_rfl
  have h64 : Tryz.prog.cellsOf 44 = 1 := by kernel_rfl
  have h6 : Tryz.prog.cellsOf 62 = 6 := by kernel_rfl
  simp only [List.mem_cons, List.not_mem_nil, or_false, forall_eq_or_imp, forall_eq, Value.cells, h32, h64, h6, List.drop_zero, List.drop_succ_cons, List.take_succ_cons, List.take_zero] at hall
  obtain ⟨⟨y0, t0⟩, ⟨y1, t1⟩, ⟨y2, t2⟩, ⟨y3, t3⟩⟩ := hall
  obtain ⟨nr, e0, _, w0⟩ := DataW.trod_int Tryz.underlying61 t0
  obtain ⟨ar, e1, _, w1⟩ := DataW.trod_int Tryz.underlying61 t1
  obtain ⟨ip, e2, _, w2⟩ := DataW.trod_int Tryz.underlying44 t2
  obtain ⟨zs, hz, e3, w3⟩ := ints_of_array Tryz.underlying62 Tryz.underlying44 h64 rfl t3
  obtain ⟨a0, a1, a2, a3, a4, a5, rfl⟩ := six_ hz
  simp only [List.cons.injEq, and_true, List.map_cons, List.map_nil] at e0 e1 e2 e3
  obtain ⟨rfl, rfl, rfl, rfl, rfl, rfl⟩ := e3
  subst e0 e1 e2
  simp only [List.mem_cons, List.not_mem_nil, or_false, forall_eq_or_imp, forall_eq] at w3
  obtain ⟨q0, q1, q2, q3, q4, q5⟩ := w3
  exact ⟨⟨nr, ar, ip, a0, a1, a2, a3, a4, a5⟩, ⟨wf_U32 w0, wf_U32 w1, wf_U64 w2, wf_U64 q0, wf_U64 q1, wf_U64 q2, wf_U64 q3, wf_U64 q4, wf_U64 q5⟩, rfl⟩
end
end Go.Proofs.YtpeofpilfpjjpaaGreatDoor
