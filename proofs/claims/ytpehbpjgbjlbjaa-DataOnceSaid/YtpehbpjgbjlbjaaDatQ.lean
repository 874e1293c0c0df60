/-
  Comparing words and data: '==' and '!=' of [16]uint32 and of api.Data; an index into words.
-/
import Derived.Test.YtpehbpjgbjlbjaaDatW
import Derived.Test.YtpehbpjgbjlbjaaDatJ
import Derived.ChangeKeysEq
namespace Go.Proofs.Ytpehbpjgbjlbjaa
open Go.RowKit

theorem eqItems_ints {P : Program} {e : TypeId} {kd : IntKind} (he : P.underlying e = some (.int kd)) (hp : P.plainKey e = true) (d : Nat) (w : World) (l l' : List Int) : ∀ is : List Nat, (∀ i ∈ is, i < l.length ∧ i < l'.length) →
    (Op.eqItems (d + 1) e 1 (l.map (Value.int kd)).toArray (l'.map (Value.int kd)).toArray is).run P w = .ok (is.all fun i => l.getD i 0 == l'.getD i 0) w
  | [], _ => by simp [Op.eqItems]
  | i :: is, h => by
    obtain ⟨h1, h2⟩ := h i (by simp)
    have ih := eqItems_ints he hp d w l l' is (fun j hj => h j (by simp [hj]))
    have g1 : (l.map (Value.int kd)).toArray[i]? = some (.int kd (l.getD i 0)) := by simp [List.getD, h1]
    have g2 : (l'.map (Value.int kd)).toArray[i]? = some (.int kd (l'.getD i 0)) := by simp [List.getD, h2]
    simp only [Op.eqItems, Sem.run_bind, Nat.mul_one, run_part_plain w hp g1, run_part_plain w hp g2, Result.andThen_ok, run_equalIn_int w d e kd kd _ _ he, List.all_cons]
    cases hq : (l.getD i 0 == l'.getD i 0)
    · simp
    · simp only [Bool.not_true, Bool.false_eq_true, if_false, Bool.true_and]
      exact ih
theorem all_getD (l l' : List Int) (n : Nat) (h : l.length = n) (h' : l'.length = n) : ((List.range n).all fun i => l.getD i 0 == l'.getD i 0) = decide (l = l') := by
  rw [Bool.eq_iff_iff]
  simp only [List.all_eq_true, List.mem_range, beq_iff_eq, decide_eq_true_eq]
  refine ⟨fun hh => ?_, fun e i _ => by rw [e]⟩
  apply List.ext_getElem (by omega)
  intro i h1 h2
  have := hh i (by omega)
  simpa [List.getD, h1, h2] using this

theorem run_eql_arr (l l' : List Int) (h : l.length = 16) (h' : l'.length = 16) (w : World) : (binOp .eql 38 (arrV l) (arrV l')).run Try.prog w = .ok (.bool (decide (l = l'))) w := by
  obtain ⟨i, hi, _, hs, _⟩ := info_parts (show (Try.prog.info? 22).map (fun i => (i.zero, i.size, i.bytes)) = some (some (.int .u32 0), 1, 4) by kernel_rfl)
  have hc : Try.prog.cellsOf 22 = 1 := by simp [Program.cellsOf, hi, hs]
  unfold arrV arrC
  rw [run_eql_struct, run_equalIn_array w 9999 _ _ Try.underlying38 hi, hc, eqItems_ints Try.underlying22 (by kernel_rfl) 9998 w l l' _ (by intro i hi; simp at hi; omega), all_getD l l' 16 h h']
  rfl

theorem run_eql_args (l l' : List Int) (h : l.length = 6) (h' : l'.length = 6) (d : Nat) (w : World) : (Op.equalIn (d + 2) 24 (.agg (l.map (Value.int .u64)).toArray) (.agg (l'.map (Value.int .u64)).toArray)).run Try.prog w = .ok (decide (l = l')) w := by
  obtain ⟨i, hi, _, hs, _⟩ := info_parts (show (Try.prog.info? 23).map (fun i => (i.zero, i.size, i.bytes)) = some (some (.int .u64 0), 1, 8) by kernel_rfl)
  have hc : Try.prog.cellsOf 23 = 1 := by simp [Program.cellsOf, hi, hs]
  rw [run_equalIn_array w (d + 1) _ _ Try.underlying24 hi, hc, eqItems_ints Try.underlying23 (by kernel_rfl) d w l l' _ (by intro i hi; simp at hi; omega), all_getD l l' 6 h h']
theorem dat_fields : (Try.prog.fieldsOf 26).toList = [⟨"Nr", 22, 0, false, "", "", 0⟩, ⟨"Arch", 22, 1, false, "", "", 4⟩, ⟨"Ip", 23, 2, false, "", "", 8⟩, ⟨"Args", 24, 3, false, "", "", 16⟩] := by kernel_rfl
deriving instance DecidableEq for Dat
def datEq (d d' : Dat) : Bool := decide (d.nr = d'.nr) && (decide (d.ar = d'.ar) && (decide (d.ip = d'.ip) && decide (argL d = argL d')))
theorem datEq_iff (d d' : Dat) : datEq d d' = decide (d = d') := by
  cases d
  cases d'
  simp [datEq, argL]
theorem run_eql_dat (d d' : Dat) (w : World) : (Op.equalIn 10000 26 (datV d) (datV d')).run Try.prog w = .ok (decide (d = d')) w := by
  obtain ⟨i, hi, _, hs, _⟩ := info_parts (show (Try.prog.info? 24).map (fun i => (i.zero, i.size, i.bytes)) = some (some (.agg #[.int .u64 0, .int .u64 0, .int .u64 0, .int .u64 0, .int .u64 0, .int .u64 0]), 6, 48) by kernel_rfl)
  have hp : ∀ x : Dat, (part 24 (datC x) 3).run Try.prog w = .ok (.agg ((argL x).map (Value.int .u64)).toArray) w := by
    intro x
    simp [part, isAgg, run_underlying Try.underlying24, sizeOf, typeInfo, hi, hs, datC, argL]
  have p32 : ∀ (x : Dat) (k : Nat) (v : Value), (datC x)[k]? = some v → (part 22 (datC x) k).run Try.prog w = .ok v w := fun x k v h => run_part_plain w (by kernel_rfl) h
  have p64 : ∀ (x : Dat) (k : Nat) (v : Value), (datC x)[k]? = some v → (part 23 (datC x) k).run Try.prog w = .ok v w := fun x k v h => run_part_plain w (by kernel_rfl) h
  unfold datV
  rw [run_equalIn_struct w 9999 26 _ _ (by kernel_rfl) (by kernel_rfl), dat_fields, ← datEq_iff]
  have g1 := p32 d 0 (.int .u32 d.nr) rfl
  have g1' := p32 d' 0 (.int .u32 d'.nr) rfl
  have g2 := p32 d 1 (.int .u32 d.ar) rfl
  have g2' := p32 d' 1 (.int .u32 d'.ar) rfl
  have g3 := p64 d 2 (.int .u64 d.ip) rfl
  have g3' := p64 d' 2 (.int .u64 d'.ip) rfl
  have hA := run_eql_args (argL d) (argL d') rfl rfl 9997 w
  have hN := run_equalIn_int w 9998 22 .u32 .u32 d.nr d'.nr Try.underlying22
  have hR := run_equalIn_int w 9998 22 .u32 .u32 d.ar d'.ar Try.underlying22
  have hI := run_equalIn_int w 9998 23 .u64 .u64 d.ip d'.ip Try.underlying23
  unfold datEq
  simp only [Nat.reduceAdd] at hA hN hR hI
  simp [Op.eqFields, g1, g1', g2, g2', g3, g3', hp, hA, hN, hR, hI]
  by_cases e1 : d.nr = d'.nr <;> by_cases e2 : d.ar = d'.ar <;> by_cases e3 : d.ip = d'.ip <;> by_cases e4 : argL d = argL d' <;> simp [e1, e2, e3, e4]
end Go.Proofs.Ytpehbpjgbjlbjaa
