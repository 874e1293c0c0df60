/-
  A region whose middle operations are not wanted.
-/
import Derived.Test.YtehcijockeecpaaDoorHF
namespace Go.Proofs.YtehcijockeecpaaDoor
open Go.RowKit
set_option linter.unusedVariables false

theorem wpList_skips {P : Program} {ops : Array Oper} {Q : Exit → Act → World → Prop} {a : Act} {w : World} {rest : List Oper} : ∀ (l : List Oper), (∀ o ∈ l, Region.wanted o (yielded ops a.tmps) = false ∧ a.put o.dst undef = a) → wpList P ops Q rest a w → wpList P ops Q (l ++ rest) a w
  | [], _, h => h
  | o :: l, hl, h => by
    have h1 := hl o (by simp)
    rw [List.cons_append]
    refine wpList_skip h1.1 ?_
    rw [h1.2]
    exact wpList_skips l (fun o' ho' => hl o' (by simp [ho'])) h
theorem wpList_move {P : Program} {ops : Array Oper} {Q : Exit → Act → World → Prop} {a : Act} {w : World} {rest : List Oper} {o : Oper} {x : Operand} (hg : o.guard = none) (ho : o.op = .move x) (h : wpList P ops Q rest (a.put o.dst (a.eval x)) w) : wpList P ops Q (o :: rest) a w := by
  refine wpList_plain hg fun K hK => ?_
  unfold Oper.wp execOp
  simp only [ho, Sem.run_pure]
  exact hK _ _ h
theorem wpList_pick {P : Program} {ops : Array Oper} {Q : Exit → Act → World → Prop} {a : Act} {w : World} {rest : List Oper} {o : Oper} {c x y : Operand} {b : Bool} (hg : o.guard = none) (ho : o.op = .pick c x y) (hc : a.eval c = .bool b) (h : wpList P ops Q rest (a.put o.dst (if b then a.eval x else a.eval y)) w) : wpList P ops Q (o :: rest) a w := by
  refine wpList_plain hg fun K hK => ?_
  unfold Oper.wp execOp
  cases b <;> simp [ho, hc] <;> exact hK _ _ h
theorem put_undef {F : Act} {o : Oper} {d : Nat} (h1 : o.dst = some d) (h2 : F.tmps[d]? = some undef) : F.put o.dst undef = F := by
  rw [h1]
  unfold Act.put
  obtain ⟨t, ds⟩ := F
  simp only at h2 ⊢
  congr 1
  apply Array.ext'
  rw [Array.toList_setIfInBounds]
  apply List.ext_getElem?
  intro i
  rw [List.getElem?_set]
  split
  · rename_i e
    subst e
    rw [← Array.getElem?_toList] at h2
    rw [h2]
    split
    · rfl
    · rename_i h; rw [List.getElem?_eq_none (by omega)] at h2; cases h2
  · rfl
/-- 'x && (y || z)', x not so. -/
theorem region_andor {P : Program} {id : Nat} {Q : Exit → Act → World → Prop} {a F F2 : Act} {w : World} {o0 o1 o2 o3 o4 o5 o6 o7 o8 o9 o10 o11 : Oper} {d3 d4 d5 d6 d7 d8 d9 d10 : Nat} {x y c1 c2 : Operand}
    (g0 : o0.guard = none) (g1 : o1.guard = none) (g2 : o2.guard = none) (g3 : o11.guard = none)
    (p0 : o0.op = .move x) (p2 : o2.op = .move y) (p3 : o11.op = .pick c1 c2 (.const (.bool false)))
    (hF : ((a.put o0.dst (a.eval x)).put o1.dst (.bool false)).put o2.dst (.bool false) = F) (hF2 : F.put o11.dst (.bool false) = F2)
    (h1 : ∀ K : Act → World → Prop, K ((a.put o0.dst (a.eval x)).put o1.dst (.bool false)) w → o1.wp P (a.put o0.dst (a.eval x)) w K Q)
    (hy : ((a.put o0.dst (a.eval x)).put o1.dst (.bool false)).eval y = .bool false)
    (w3 : Region.wanted o3 (yielded (List.toArray [o0, o1, o2, o3, o4, o5, o6, o7, o8, o9, o10, o11]) F.tmps) = false) (e3 : o3.dst = some d3) (s3 : F.tmps[d3]? = some undef)
    (w4 : Region.wanted o4 (yielded (List.toArray [o0, o1, o2, o3, o4, o5, o6, o7, o8, o9, o10, o11]) F.tmps) = false) (e4 : o4.dst = some d4) (s4 : F.tmps[d4]? = some undef)
    (w5 : Region.wanted o5 (yielded (List.toArray [o0, o1, o2, o3, o4, o5, o6, o7, o8, o9, o10, o11]) F.tmps) = false) (e5 : o5.dst = some d5) (s5 : F.tmps[d5]? = some undef)
    (w6 : Region.wanted o6 (yielded (List.toArray [o0, o1, o2, o3, o4, o5, o6, o7, o8, o9, o10, o11]) F.tmps) = false) (e6 : o6.dst = some d6) (s6 : F.tmps[d6]? = some undef)
    (w7 : Region.wanted o7 (yielded (List.toArray [o0, o1, o2, o3, o4, o5, o6, o7, o8, o9, o10, o11]) F.tmps) = false) (e7 : o7.dst = some d7) (s7 : F.tmps[d7]? = some undef)
    (w8 : Region.wanted o8 (yielded (List.toArray [o0, o1, o2, o3, o4, o5, o6, o7, o8, o9, o10, o11]) F.tmps) = false) (e8 : o8.dst = some d8) (s8 : F.tmps[d8]? = some undef)
    (w9 : Region.wanted o9 (yielded (List.toArray [o0, o1, o2, o3, o4, o5, o6, o7, o8, o9, o10, o11]) F.tmps) = false) (e9 : o9.dst = some d9) (s9 : F.tmps[d9]? = some undef)
    (w10 : Region.wanted o10 (yielded (List.toArray [o0, o1, o2, o3, o4, o5, o6, o7, o8, o9, o10, o11]) F.tmps) = false) (e10 : o10.dst = some d10) (s10 : F.tmps[d10]? = some undef)
    (hc : F.eval c1 = .bool false)
    (h : Q .normal F2 w) :
    (Code.region id (List.toArray [o0, o1, o2, o3, o4, o5, o6, o7, o8, o9, o10, o11]) false).wp P Q a w := by
  refine wp_region_lit (wpList_move g0 p0 (wpList_plain g1 fun K hK => h1 K (hK _ _ (wpList_move g2 p2 ?_))))
  rw [hy, hF]
  refine wpList_skips [o3, o4, o5, o6, o7, o8, o9, o10] ?_ (wpList_pick g3 p3 hc (wpList_nil (by rw [← hF2] at h; simpa [Act.eval] using h)))
  intro o ho
  simp only [List.mem_cons, List.not_mem_nil, or_false] at ho
  rcases ho with rfl | rfl | rfl | rfl | rfl | rfl | rfl | rfl
  · exact ⟨w3, put_undef e3 s3⟩
  · exact ⟨w4, put_undef e4 s4⟩
  · exact ⟨w5, put_undef e5 s5⟩
  · exact ⟨w6, put_undef e6 s6⟩
  · exact ⟨w7, put_undef e7 s7⟩
  · exact ⟨w8, put_undef e8 s8⟩
  · exact ⟨w9, put_undef e9 s9⟩
  · exact ⟨w10, put_undef e10 s10⟩
end Go.Proofs.YtehcijockeecpaaDoor
