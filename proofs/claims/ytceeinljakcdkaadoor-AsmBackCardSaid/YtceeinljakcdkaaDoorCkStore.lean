/-
  Storing an instruction into the call's own row.
-/
import Derived.Test.YtceeinljakcdkaaDoorChkS
import Derived.Laws.CopyRow
namespace Go.Proofs.YtceeinljakcdkaaDoor
open Go.RowKit

/-- The cells of the first m of them. -/
def flatI (f : Nat → Ins) (m : Nat) : List Value := (List.range m).flatMap fun k => celI (f k)
theorem flatI_succ (f : Nat → Ins) (m : Nat) : flatI f (m + 1) = flatI f m ++ celI (f m) := by simp [flatI, List.range_succ]
theorem flatI_len (f : Nat → Ins) (m : Nat) : (flatI f m).length = m * 4 := cel_flat_len f m
theorem flatI_congr {f f' : Nat → Ins} {m : Nat} (h : ∀ k, k < m → f k = f' k) : flatI f m = flatI f' m := by
  induction m with
  | zero => rfl
  | succ m ih => rw [flatI_succ, flatI_succ, ih fun k hk => h k (by omega), h m (by omega)]
theorem flatI_put (f : Nat → Ins) (q : Ins) {k m : Nat} (hk : k < m) : flatI (putI f k q) m = (flatI f m).take (k * 4) ++ celI q ++ (flatI f m).drop (k * 4 + 4) := by
  induction m with
  | zero => omega
  | succ m ih =>
    have hl := flatI_len f m
    rw [flatI_succ, flatI_succ]
    rcases Nat.lt_or_ge k m with h | h
    · rw [ih h, List.take_append_of_le_length (by omega), List.drop_append_of_le_length (by omega)]
      have : putI f k q m = f m := by unfold putI; rw [if_neg (by omega)]
      rw [this]
      simp
    · obtain rfl : k = m := by omega
      have e1 : flatI (putI f k q) k = flatI f k := flatI_congr fun j hj => by unfold putI; rw [if_neg (by omega)]
      have e2 : putI f k q k = q := by unfold putI; rw [if_pos rfl]
      rw [e1, e2, ← hl, List.take_left]
      rw [List.drop_eq_nil_of_le (by simp [celI])]
      simp
theorem celI_len (q : Ins) : (celI q).length = 4 := rfl
theorem flat_in {cur F : List Value} {m k : Nat} (q : Ins) (hF : cur.take (m * 4) = F) (hl : F.length = m * 4) (hk : k < m) :
    (cur.take (k * 4) ++ celI q ++ cur.drop (k * 4 + 4)).take (m * 4) = F.take (k * 4) ++ celI q ++ F.drop (k * 4 + 4) := by
  have e : cur = F ++ cur.drop (m * 4) := by rw [← hF, List.take_append_drop]
  obtain ⟨R, hR⟩ : ∃ R, cur.drop (m * 4) = R := ⟨_, rfl⟩
  rw [hR] at e
  subst e
  clear hF hR
  have e1 : (F ++ R).take (k * 4) = F.take (k * 4) := List.take_append_of_le_length (by omega)
  have e2 : (F ++ R).drop (k * 4 + 4) = F.drop (k * 4 + 4) ++ R := List.drop_append_of_le_length (by omega)
  rw [e1, e2, ← List.append_assoc]
  exact List.take_left' (by rw [List.length_append, List.length_append, List.length_take, List.length_drop, celI_len]; omega)

theorem store_ins {w : World} {base m c g k : Nat} {f : Nat → Ins} (ho : w.ownsRow base 32 4 (.slice (some ⟨g, 0, none⟩) m c) m (flatI f m)) (hk : k < m) (q : Ins) :
    ∃ w', (storeVar 32 ⟨g, k * 4, none⟩ (.agg #[.int .u16 q.1, .int .u8 q.2.1, .int .u8 q.2.2.1, .int .u32 q.2.2.2])).run Tryd.prog w = .ok () w' ∧ w'.ownsRow base 32 4 (.slice (some ⟨g, 0, none⟩) m c) m (flatI (putI f k q) m) ∧ Below base w w' := by
  rcases ho.2 with ⟨hv, _⟩ | ⟨g', cap, cur, hv, hg, hh, h1, h2, h3, h4⟩
  · cases hv
  · have hv' := hv
    injection hv' with e3 _ e5
    injection e3 with e3
    injection e3 with e3
    subst e3 e5
    have hs := run_storeCells_at (P := Tryd.prog) g (k * 4) 32 (celI q) 0 cur w hh (by rw [celI_len]; omega) (cel_one q)
    rw [Nat.add_zero, celI_len] at hs
    refine ⟨w.setRow g (cur.toList.take (k * 4) ++ celI q ++ cur.toList.drop (k * 4 + 4)).toArray, ?_, ⟨?_, .inr ⟨g, c, _, rfl, hg, setRow_heap w g cur _ _ _ hh, h1, h2, ?_, ?_⟩⟩, ?_⟩
    · have hi := insn_info
      cases hq : Tryd.prog.info? 32 with
      | none => simp [hq] at hi
      | some i =>
        have hs' : i.size = 4 := by simp [hq] at hi; exact hi.2.1
        show (storeVar 32 ⟨g, k * 4, none⟩ (.agg (celI q).toArray)).run Tryd.prog w = _
        simp [storeVar, sizeOf, typeInfo, hq, Value.cells, hs', celI_len, hs]
    · exact flatI_len _ _
    · simp only [List.size_toArray, List.length_append, List.length_take, List.length_drop, Array.length_toList, celI_len]
      omega
    · show (cur.toList.take (k * 4) ++ celI q ++ cur.toList.drop (k * 4 + 4)).take (m * 4) = _
      rw [flatI_put f q hk]
      exact flat_in q h4 (flatI_len f m) hk
    · exact (Below.refl base w).grown (row := some g) ⟨rfl, rfl, rfl, by simp [World.setRow], fun j _ hj => by have hne : ¬ g = j := fun e => hj (by rw [e]); simp [World.setRow, Array.getElem?_modify, hne]⟩ (by have := (Array.getElem?_eq_some_iff.1 hh).1; omega) (fun j hj => by cases hj; exact hg)

theorem wpList_store_ins {ops : Array Oper} {rest : List Oper} {o : Oper} {a : Act} {w : World} {Q : Exit → Act → World → Prop} (hgd : o.guard = none) (x y : Operand) (ho : o.op = .store 32 x y)
    (base m c g k off : Nat) (f : Nat → Ins) (q : Ins) (hx : a.eval x = .pointer (some ⟨g, off, none⟩)) (hoff : off = k * 4) (hy : a.eval y = .agg #[.int .u16 q.1, .int .u8 q.2.1, .int .u8 q.2.2.1, .int .u32 q.2.2.2])
    (hown : w.ownsRow base 32 4 (.slice (some ⟨g, 0, none⟩) m c) m (flatI f m)) (hk : k < m)
    (h : ∀ w', w'.ownsRow base 32 4 (.slice (some ⟨g, 0, none⟩) m c) m (flatI (putI f k q) m) → Below base w w' → wpList Tryd.prog ops Q rest (a.put o.dst undef) w') : wpList Tryd.prog ops Q (o :: rest) a w := by
  refine wpList_plain hgd fun K hK => ?_
  subst hoff
  obtain ⟨w', hrun, h1, h2⟩ := store_ins hown hk q
  unfold Oper.wp execOp
  simp only [ho, hx, hy, Instr.storeAt, Instr.sureAddr, Sem.run_bind, Sem.run_pure, Result.andThen_ok, hrun]
  exact hK _ _ (h w' h1 h2)
end Go.Proofs.YtceeinljakcdkaaDoor
