/-
  Laws for append on bytes of the call's own.
-/
import Derived.Test.YtndmlbepjcagiaaDoorLaws
import Derived.Maps.AppendAt
import Derived.RegionTactic
namespace Go.Proofs.YtndmlbepjcagiaaDoor
open Go.RowKit

/-- The call's own bytes l, from block 'base' on. -/
structure Ow (w : World) (base : Nat) (A : Option Addr) (n c : Nat) (l : List Int) : Prop where
  own : w.ownsRow base 5 1 (.slice A n c) n (bv l)
  byt : Byt l
section
variable {w w' : World} {base n c : Nat} {A : Option Addr} {l : List Int}
theorem Ow.len (h : Ow w base A n c l) : l.length = n := by
  have := h.own.1
  rw [bv_length] at this
  omega
theorem Ow.rd (h : Ow w base A n c l) : Rd w w.heap.size A n l := by
  refine ⟨h.len, h.byt, fun hn => ?_⟩
  rcases h.own.2 with ⟨_, h0⟩ | ⟨g, cap, cur, hv, _, hh, hnc, _, hsz, ht⟩
  · omega
  · injection hv with hA
    subst hA
    have hg : g < w.heap.size := by
      rcases Nat.lt_or_ge g w.heap.size with h1 | h1
      · exact h1
      · rw [Array.getElem?_eq_none h1] at hh; cases hh
    refine ⟨g, 0, rfl, hg, fun k hk => ?_⟩
    have hkl : k < l.length := by rw [h.len]; exact hk
    have e : cur[k]? = some (.int .u8 (l.getD k 0)) := by
      have h1 : (cur.toList.take (n * 1))[k]? = (bv l)[k]? := by rw [ht]
      rw [List.getElem?_take, if_pos (by omega)] at h1
      rw [← Array.getElem?_toList, h1]
      simp [bv, List.getD, hkl]
    rw [Nat.zero_add]
    simpa [World.cell?, hh] using e
theorem Ow.cap (h : Ow w base A n c l) : n ≤ c := by
  rcases h.own.2 with ⟨hv, h0⟩ | ⟨g, cap, cur, hv, _, _, hnc, _⟩
  · omega
  · injection hv with _ _ h3
    omega
theorem Ow.head (h : Ow w base A n c l) (hn : 0 < n) : ∃ g, A = some ⟨g, 0, none⟩ ∧ base ≤ g ∧ g < w.heap.size := by
  rcases h.own.2 with ⟨hv, h0⟩ | ⟨g, cap, cur, hv, hb, hh, hnc, _⟩
  · omega
  · injection hv with h1
    refine ⟨g, h1, hb, ?_⟩
    rcases Nat.lt_or_ge g w.heap.size with h1 | h1
    · exact h1
    · rw [Array.getElem?_eq_none h1] at hh; cases hh
theorem Ow.nil (w : World) (base : Nat) : Ow w base none 0 0 [] := ⟨World.ownsRow_nil w base _ _, by intro z hz; cases hz⟩
theorem Ow.empty (w : World) (base : Nat) (hb : base ≤ w.heap.size) : Ow (w.alloc (.cells #[] 5)) base (some ⟨w.heap.size, 0, none⟩) 0 0 [] :=
  ⟨World.ownsRow_made w #[] 0 hb (by simp [maxLen]) (by simp), by intro z hz; cases hz⟩
theorem Ow.alloc (h : Ow w base A n c l) (o : Obj) : Ow (w.alloc o) base A n c l := ⟨h.own.alloc o, h.byt⟩
theorem Ow.drew (h : Ow w base A n c l) : Ow w.drew base A n c l := ⟨h.own.drew, h.byt⟩
end

theorem run_app_nil {w : World} {base : Nat} {A : Option Addr} {n c c' : Nat} {l : List Int} (ty : TypeId) (h : Ow w base A n c l) :
    (Builtin.append_ #[39, 39] ty #[.slice A n c, .slice none 0 c']).run Tryd.prog w = .ok (.slice A n c) w := by
  obtain ⟨i, hi, _, _, _⟩ := u8_parts
  have hc : (A = none ∧ n = 0 ∧ c = 0) ∨ ∃ g, A = some ⟨g, 0, none⟩ ∧ n ≤ c := by
    rcases h.own.2 with ⟨hv, h0⟩ | ⟨g, cap, cur, hv, _, _, hnc, _⟩
    · injection hv with h1 h2 h3
      exact .inl ⟨h1, h2, h3⟩
    · injection hv with h1 _ h3
      subst h1
      subst h3
      exact .inr ⟨g, rfl, hnc⟩
  rcases hc with ⟨rfl, rfl, rfl⟩ | ⟨g, rfl, hnc⟩
  · simp [Builtin.append_, run_underlying Tryd.underlying39, sizeOf, typeInfo, hi, Builtin.lenOf, Builtin.firstCells]
  · simp [Builtin.append_, run_underlying Tryd.underlying39, sizeOf, typeInfo, hi, Builtin.lenOf, Builtin.firstCells, hnc, storeCells]

/-- 'append(v, x...)', v the call's own, x whatever bytes. -/
theorem wpList_append_bytes {w : World} {ops : Array Oper} {rest : List Oper} {o : Oper} {a : Act} {Q : Exit → Act → World → Prop} (hgd : o.guard = none) (s x : Operand)
    (ho : o.op = .call { callee := .builtin .append, args := #[s, x], argTypes := #[39, 39] })
    (base : Nat) (A : Option Addr) (n c : Nat) (l : List Int) (hs : a.eval s = .slice A n c) (hown : Ow w base A n c l)
    (B : Nat) (A' : Option Addr) (m c' : Nat) (l' : List Int) (hx : a.eval x = .slice A' m c') (hr : Rd w B A' m l') (hsz : n + m ≤ 1000000) (hbase : base ≤ w.heap.size)
    (h : ∀ A'' c'' w', Ow w' base A'' (n + m) c'' (l ++ l') → Below base w w' → wpList Tryd.prog ops Q rest (a.put o.dst (.slice A'' (n + m) c'')) w') :
    wpList Tryd.prog ops Q (o :: rest) a w := by
  have hbyt := hown.byt.append hr.byt
  have none_case : A' = none → wpList Tryd.prog ops Q (o :: rest) a w := by
    rintro rfl
    have hm : m = 0 := by
      rcases Nat.eq_zero_or_pos m with h0 | h0
      · exact h0
      · obtain ⟨b, off, e, _⟩ := hr.cells h0
        cases e
    subst hm
    obtain rfl : l' = [] := List.eq_nil_of_length_eq_zero hr.len
    refine wpList_plain hgd fun K hK => ?_
    have hrun := run_app_nil (c' := c') o.type hown
    unfold Oper.wp execOp
    simp only [ho, resolve, invoke, builtin, Sem.run_bind, Sem.run_pure, Result.andThen_ok, List.map_toArray, List.map_cons, List.map_nil, hs, hx, hrun]
    refine hK _ _ ?_
    have := h A c w (by simpa using hown) (Below.refl _ _)
    simpa using this
  rcases A' with _ | ad
  · exact none_case rfl
  · obtain ⟨i, hi, hz, hs1, hb1⟩ := u8_parts
    refine wpList_append_own_at w hgd s x 39 ho base 5 i (.int .u8 0) 1 1 Tryd.underlying39 hi hz hs1 hb1 rfl (by decide) _ n (bv l) hs hown.own ad m c' (bv l') hx
      (by rw [bv_length, hr.len, Nat.mul_one]) ?_ ?_ (by simp only [maxLen]; omega) (by omega) hbase (fun v' w' h1 h2 _ h4 => ?_)
    · intro j u hj
      have hjl : j < l'.length := by
        rcases Nat.lt_or_ge j l'.length with h | h
        · exact h
        · rw [List.getElem?_eq_none (by rw [bv_length]; exact h)] at hj; cases hj
      have hlen := hr.len
      obtain ⟨b, off, e, _, hc⟩ := hr.cells (by omega)
      obtain rfl := Option.some.inj e
      have ea : (⟨b, off, none⟩ : Addr).add j = ⟨b, off + j, none⟩ := by
        unfold Addr.add
        by_cases h0 : j = 0 <;> simp [h0]
      rw [ea, hc j (by omega), ← hj]
      simp [bv, List.getD, hjl]
    · intro u hu
      simp only [bv, List.mem_map] at hu
      obtain ⟨z, _, rfl⟩ := hu
      rfl
    · have hv : ∃ A'' c'', v' = .slice A'' (n + m) c'' := by
        rcases h1.2 with ⟨e, h0⟩ | ⟨g, cap, cur, e, _⟩
        · exact ⟨none, 0, by rw [e, h0]⟩
        · exact ⟨_, _, e⟩
      obtain ⟨A'', c'', rfl⟩ := hv
      refine h A'' c'' w' ⟨by rw [bv_append]; exact h1, hbyt⟩ ((Below.refl _ _).grown h2 hbase fun k hk => ?_)
      exact (hown.own.lt k hk).1
end Go.Proofs.YtndmlbepjcagiaaDoor
