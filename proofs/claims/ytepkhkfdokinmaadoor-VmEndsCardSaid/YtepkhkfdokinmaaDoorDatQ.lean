/-
  Comparing words and data: '==' and '!=' of [16]uint32 and of api.Data; an index into words.
-/
import Derived.Test.YtepkhkfdokinmaaDoorDatW
import Derived.Test.YtepkhkfdokinmaaDoorDatJ
import Derived.ChangeKeysEq
namespace Go.Proofs.YtepkhkfdokinmaaDoor
open Go.RowKit

theorem eqItems_ints {P : Program} {e : TypeId} {kd : IntKind} (he : P.underlying e = some (.int kd)) (hp : P.plainKey e = true) (d : Nat) (w : World) (l l' : List Int) : ∀ is : List Nat, (∀ i ∈ is, i < l.length ∧ i < l'.length) →
    (Op.eqItems (d + 1) e 1 (l.map (Value.int kd)).toArray (l'.map (Value.int kd)).toArray is).run P w = .ok (is.all fun i => l.getD i 0 == l'.getD i 0) w
  | [], _ => by simp [Op.eqItems]
  | i :: is, h => by
    obtain ⟨h1, h2⟩ := h i (by simp)
    have ih := eqItems_ints he hp d w l l' is (fun j hj => h j (by simp [hj]))
    have g1 : (l.map (Value.int kd)).toArray[i]? = some (.int kd (l.getD i 0)) := by simp [List.getD, h1]
    have g2 : (l'.map (Value.int kd)).toArray[i]? = some (.int kd (l'.getD i 0)) := by simp [List.getD, h2]
    simp only [Op.eqItems, Sem.run_bind, Nat.mul_one, run_part_plain w hp g1, run_part_plain w hp g2, Result.andThen_ok, run_equalIn_int w d e kd kd _ _ he, List.all_cons]
    cases hq : (l.getD i 0 == l'.getD i 0)
    · simp
    · simp only [Bool.not_true, Bool.false_eq_true, if_false, Bool.true_and]
      exact ih
theorem all_getD (l l' : List Int) (n : Nat) (h : l.length = n) (h' : l'.length = n) : ((List.range n).all fun i => l.getD i 0 == l'.getD i 0) = decide (l = l') := by
  rw [Bool.eq_iff_iff]
  simp only [List.all_eq_true, List.mem_range, beq_iff_eq, decide_eq_true_eq]
  refine ⟨fun hh => ?_, fun e i _ => by rw [e]⟩
  apply List.ext_getElem (by omega)
  intro i h1 h2
  have := hh i (by omega)
  simpa [List.getD, h1, h2] using this

theorem run_eql_arr (l l' : List Int) (h : l.length = 16) (h' : l'.length = 16) (w : World) : (binOp .eql 33 (arrV l) (arrV l')).run Tryd.prog w = .ok (.bool (decide (l = l'))) w := by
  obtain ⟨i, hi, _, hs, _⟩ := info_parts (show (Tryd.prog.info? 23).map (fun i => (i.zero, i.size, i.bytes)) = some (some (.int .u32 0), 1, 4) by kernel_rfl)
  have hc : Tryd.prog.cellsOf 23 = 1 := by simp [Program.cellsOf, hi, hs]
  unfold arrV arrC
  rw [run_eql_struct, run_equalIn_array w 9999 _ _ Tryd.underlying33 hi, hc, eqItems_ints Tryd.underlying23 (by kernel_rfl) 9998 w l l' _ (by intro i hi; simp at hi; omega), all_getD l l' 16 h h']
  rfl

theorem run_eql_args (l l' : List Int) (h : l.length = 6) (h' : l'.length = 6) (d : Nat) (w : World) : (Op.equalIn (d + 2) 30 (.agg (l.map (Value.int .u64)).toArray) (.agg (l'.map (Value.int .u64)).toArray)).run Tryd.prog w = .ok (decide (l = l')) w := by
  obtain ⟨i, hi, _, hs, _⟩ := info_parts (show (Tryd.prog.info? 29).map (fun i => (i.zero, i.size, i.bytes)) = some (some (.int .u64 0), 1, 8) by kernel_rfl)
  have hc : Tryd.prog.cellsOf 29 = 1 := by simp [Program.cellsOf, hi, hs]
  rw [run_equalIn_array w (d + 1) _ _ Tryd.underlying30 hi, hc, eqItems_ints Tryd.underlying29 (by kernel_rfl) d w l l' _ (by intro i hi; simp at hi; omega), all_getD l l' 6 h h']
theorem dat_fields : (Tryd.prog.fieldsOf 32).toList = [⟨"Nr", 23, 0, false, "", "", 0⟩, ⟨"Arch", 23, 1, false, "", "", 4⟩, ⟨"Ip", 29, 2, false, "", "", 8⟩, ⟨"Args", 30, 3, false, "", "", 16⟩] := by kernel_rfl
deriving instance DecidableEq for Dat
def datEq (d d' : Dat) : Bool := decide (d.nr = d'.nr) && (decide (d.ar = d'.ar) && (decide (d.ip = d'.ip) && decide (argL d = argL d')))
theorem datEq_iff (d d' : Dat) : datEq d d' = decide (d = d') := by
  cases d
  cases d'
  simp [datEq, argL]
theorem run_eql_dat (d d' : Dat) (w : World) : (Op.equalIn 10000 32 (datV d) (datV d')).run Tryd.prog w = .ok (decide (d = d')) w := by
  obtain ⟨i, hi, _, hs, _⟩ := info_parts (show (Tryd.prog.info? 30).map (fun i => (i.zero, i.size, i.bytes)) = some (some (.agg #[.int .u64 0, .int .u64 0, .int .u64 0, .int .u64 0, .int .u64 0, .int .u64 0]), 6, 48) by kernel_rfl)
  have hp : ∀ x : Dat, (part 30 (datC x) 3).run Tryd.prog w = .ok (.agg ((argL x).map (Value.int .u64)).toArray) w := by
    intro x
    simp [part, isAgg, run_underlying Tryd.underlying30, sizeOf, typeInfo, hi, hs, datC, argL]
  have p32 : ∀ (x : Dat) (k : Nat) (v : Value), (datC x)[k]? = some v → (part 23 (datC x) k).run Tryd.prog w = .ok v w := fun x k v h => run_part_plain w (by kernel_rfl) h
  have p64 : ∀ (x : Dat) (k : Nat) (v : Value), (datC x)[k]? = some v → (part 29 (datC x) k).run Tryd.prog w = .ok v w := fun x k v h => run_part_plain w (by kernel_rfl) h
  unfold datV
  rw [run_equalIn_struct w 9999 32 _ _ (by kernel_rfl) (by kernel_rfl), dat_fields, ← datEq_iff]
  have g1 := p32 d 0 (.int .u32 d.nr) rfl
  have g1' := p32 d' 0 (.int .u32 d'.nr) rfl
  have g2 := p32 d 1 (.int .u32 d.ar) rfl
  have g2' := p32 d' 1 (.int .u32 d'.ar) rfl
  have g3 := p64 d 2 (.int .u64 d.ip) rfl
  have g3' := p64 d' 2 (.int .u64 d'.ip) rfl
  have hA := run_eql_args (argL d) (argL d') rfl rfl 9997 w
  have hN := run_equalIn_int w 9998 23 .u32 .u32 d.nr d'.nr Tryd.underlying23
  have hR := run_equalIn_int w 9998 23 .u32 .u32 d.ar d'.ar Tryd.underlying23
  have hI := run_equalIn_int w 9998 29 .u64 .u64 d.ip d'.ip Tryd.underlying29
  unfold datEq
  simp only [Nat.reduceAdd] at hA hN hR hI
  simp [Op.eqFields, g1, g1', g2, g2', g3, g3', hp, hA, hN, hR, hI]
  by_cases e1 : d.nr = d'.nr <;> by_cases e2 : d.ar = d'.ar <;> by_cases e3 : d.ip = d'.ip <;> by_cases e4 : argL d = argL d' <;> simp [e1, e2, e3, e4]
end Go.Proofs.YtepkhkfdokinmaaDoor
