/-
  States that came in, as they are opened.
-/
import Derived.Test.YtejhamkmfnfmoaaDoorHA
import Derived.Test.YtejhamkmfnfmoaaDoorHM
namespace Go.Proofs.YtejhamkmfnfmoaaDoor
open Go.RowKit Go.ChangeShapes Go.WideShapes

theorem pairs_cells : ∀ (n : Nat) (cs : List Value), cs.length = n * 2 → (∀ i, i < n → ∃ (k : Bool) (v : Int), (cs.drop (i * 2)).take 2 = [.bool k, .int .u32 v]) → ∃ m : List Ab, m.length = n ∧ cs = abC m
  | 0, cs, hl, _ => ⟨[], rfl, List.length_eq_zero_iff.1 (by simpa using hl)⟩
  | n + 1, cs, hl, h => by
    obtain ⟨k, v, e⟩ := h 0 (by omega)
    obtain ⟨m, hm, em⟩ := pairs_cells n (cs.drop 2) (by rw [List.length_drop]; omega) fun i hi => by
      obtain ⟨k', v', e'⟩ := h (i + 1) (by omega)
      exact ⟨k', v', by rw [List.drop_drop]; rw [show 2 + i * 2 = (i + 1) * 2 by omega]; exact e'⟩
    refine ⟨⟨k, v⟩ :: m, by simp [hm], ?_⟩
    have e0 : cs = cs.take 2 ++ cs.drop 2 := (List.take_append_drop 2 cs).symm
    rw [Nat.zero_mul, List.drop_zero] at e
    rw [e0, e, em]
    rfl
theorem four_st {α : Type} {l : List α} (h : l.length = 37) : l = l.take 1 ++ ((l.drop 1).take 2 ++ ((l.drop 3).take 2 ++ (l.drop 5).take 32)) := by
  have e3 : (l.drop 5).take 32 = l.drop 5 := List.take_of_length_le (by rw [List.length_drop]; omega)
  have e2 : (l.drop 3).take 2 ++ l.drop 5 = l.drop 3 := by
    have := List.take_append_drop 2 (l.drop 3)
    rwa [List.drop_drop] at this
  have e1 : (l.drop 1).take 2 ++ l.drop 3 = l.drop 1 := by
    have := List.take_append_drop 2 (l.drop 1)
    rwa [List.drop_drop] at this
  rw [e3, e2, e1, List.take_append_drop]
section
variable {H : Type} {enc : TypeId × Value → H} {w : World} {base : Nat} {spare : Nat → Bool} {held : Bool}
theorem trod_abs {fuel : Nat} {cs : List Value} {x : DataW H × List MemPlace} (hl : cs.length = 2) (h : DataW.trod enc Tryd.prog w base spare held fuel 27 cs = some x) : ∃ (k : Bool) (v : Int), cs = [.bool k, .int .u32 v] := by
  obtain ⟨_, n, hall⟩ := trod_fields Tryd.underlying27 h
  have hb : Tryd.prog.cellsOf 4 = 1 := by kernel_rfl
  have h32 : Tryd.prog.cellsOf 22 = 1 := by kernel_rfl
  simp only [List.mem_cons, List.not_mem_nil, or_false, forall_eq_or_imp, forall_eq, hb, h32, List.drop_zero] at hall
  obtain ⟨⟨y0, t0⟩, ⟨y1, t1⟩⟩ := hall
  obtain ⟨k, e0, _⟩ := DataW.trod_bool Tryd.underlying4 t0
  obtain ⟨v, e1, _, _⟩ := DataW.trod_int Tryd.underlying22 t1
  refine ⟨k, v, ?_⟩
  match cs, hl with
  | [c0, c1], _ =>
    simp at e0 e1
    rw [e0, e1]
set_option maxRecDepth 100000 in
theorem open_state {r : Reach} {b0 : Nat} {v : Value} {x : DataW H} {p : List MemPlace} (hv : Value.okWide Tryd.prog w r b0 30 v) (h : DataW.Trod enc Tryd.prog w base spare held 30 v x p) :
    ∃ s : StS, s.m.length = 16 ∧ v = stV s := by
  obtain ⟨cs, rfl, hsz⟩ := okWide_struct Tryd.underlying30 hv
  rw [show Tryd.prog.cellsOf 30 = 37 by kernel_rfl] at hsz
  obtain ⟨fuel, hf⟩ := h
  obtain ⟨_, n, hall⟩ := trod_fields Tryd.underlying30 hf
  have hb : Tryd.prog.cellsOf 4 = 1 := by kernel_rfl
  have ha : Tryd.prog.cellsOf 27 = 2 := by kernel_rfl
  have h16 : Tryd.prog.cellsOf 28 = 32 := by kernel_rfl
  simp only [List.mem_cons, List.not_mem_nil, or_false, forall_eq_or_imp, forall_eq, Value.cells, hb, ha, h16, List.drop_zero] at hall
  obtain ⟨⟨y0, t0⟩, ⟨y1, t1⟩, ⟨y2, t2⟩, ⟨y3, t3⟩⟩ := hall
  have hl : cs.toList.length = 37 := by simpa using hsz
  obtain ⟨r0, e0, _⟩ := DataW.trod_bool Tryd.underlying4 t0
  obtain ⟨ak, av, e1⟩ := trod_abs (by rw [List.length_take, List.length_drop]; omega) t1
  obtain ⟨xk, xv, e2⟩ := trod_abs (by rw [List.length_take, List.length_drop]; omega) t2
  obtain ⟨_, n', hit⟩ := trod_items Tryd.underlying28 t3
  rw [ha] at hit
  have hl3 : ((cs.toList.drop 5).take 32).length = 16 * 2 := by rw [List.length_take, List.length_drop]; omega
  obtain ⟨m, hm, e3⟩ := pairs_cells 16 ((cs.toList.drop 5).take 32) hl3 fun i hi => by
    obtain ⟨y, hy⟩ := hit i hi
    exact trod_abs (by rw [List.length_take, List.length_drop]; omega) hy
  refine ⟨⟨r0, ⟨ak, av⟩, ⟨xk, xv⟩, m⟩, hm, ?_⟩
  unfold stV
  congr 1
  apply Array.ext'
  rw [four_st hl, e0, e1, e2, e3]
  rfl
end
end Go.Proofs.YtejhamkmfnfmoaaDoor
