/-
  Appending bytes as one step of a region that draws its order; a block that is known whole, as the call's own bytes; a slice of bytes written out.
-/
import Derived.Test.YtndmlbepjcagiaaDoorApp
import Derived.Deep.RegionHeld3
import Derived.Deep.RegionLaw
import Derived.BigRegion
namespace Go.Proofs.YtndmlbepjcagiaaDoor
open Go.RowKit

theorem run_append_bytes {w : World} (ty : TypeId) (base : Nat) (A : Option Addr) (n c : Nat) (l : List Int) (hown : Ow w base A n c l)
    (B : Nat) (A' : Option Addr) (m c' : Nat) (l' : List Int) (hr : Rd w B A' m l') (hsz : n + m ≤ 1000000) (hbase : base ≤ w.heap.size) :
    ∃ A'' c'' w', (Builtin.append_ #[39, 39] ty #[.slice A n c, .slice A' m c']).run Tryd.prog w = .ok (.slice A'' (n + m) c'') w' ∧ Ow w' base A'' (n + m) c'' (l ++ l') ∧ Below base w w' := by
  have hbyt := hown.byt.append hr.byt
  rcases A' with _ | ad
  · have hm : m = 0 := by
      rcases Nat.eq_zero_or_pos m with h0 | h0
      · exact h0
      · obtain ⟨b, off, e, _⟩ := hr.cells h0
        cases e
    subst hm
    obtain rfl : l' = [] := List.eq_nil_of_length_eq_zero hr.len
    exact ⟨A, c, w, run_app_nil ty hown, by simpa using hown, Below.refl _ _⟩
  · obtain ⟨i, hi, hz, hs1, hb1⟩ := u8_parts
    obtain ⟨v', w', hrun, h1, h2, _, _⟩ := run_append_own_at (P := Tryd.prog) w base 39 ty 5 i (.int .u8 0) 1 1 Tryd.underlying39 hi hz hs1 hb1 rfl (by decide) _ n (bv l) hown.own ad m c' (bv l')
      (by rw [bv_length, hr.len, Nat.mul_one]) (by
        intro j u hj
        have hjl : j < l'.length := by
          rcases Nat.lt_or_ge j l'.length with h | h
          · exact h
          · rw [List.getElem?_eq_none (by rw [bv_length]; exact h)] at hj; cases hj
        have hlen := hr.len
        obtain ⟨b, off, e, _, hc⟩ := hr.cells (by omega)
        obtain rfl := Option.some.inj e
        have ea : (⟨b, off, none⟩ : Addr).add j = ⟨b, off + j, none⟩ := by
          unfold Addr.add
          by_cases h0 : j = 0 <;> simp [h0]
        rw [ea, hc j (by omega), ← hj]
        simp [bv, List.getD, hjl]) (by
        intro u hu
        simp only [bv, List.mem_map] at hu
        obtain ⟨z, _, rfl⟩ := hu
        rfl) (by simp only [maxLen]; omega) (by omega) hbase
    have hv : ∃ A'' c'', v' = .slice A'' (n + m) c'' := by
      rcases h1.2 with ⟨e, h0⟩ | ⟨g, cap, cur, e, _⟩
      · exact ⟨none, 0, by rw [e, h0]⟩
      · exact ⟨_, _, e⟩
    obtain ⟨A'', c'', rfl⟩ := hv
    exact ⟨A'', c'', w', hrun, ⟨by rw [bv_append]; exact h1, hbyt⟩, (Below.refl _ _).grown h2 hbase fun k hk => (hown.own.lt k hk).1⟩

/-- At the operation. -/
theorem wp_append_bytes {w : World} {o : Oper} {a : Act} {K : Act → World → Prop} {Q : Exit → Act → World → Prop} (s x : Operand)
    (ho : o.op = .call { callee := .builtin .append, args := #[s, x], argTypes := #[39, 39] })
    (base : Nat) (A : Option Addr) (n c : Nat) (l : List Int) (hs : a.eval s = .slice A n c) (hown : Ow w base A n c l)
    (B : Nat) (A' : Option Addr) (m c' : Nat) (l' : List Int) (hx : a.eval x = .slice A' m c') (hr : Rd w B A' m l') (hsz : n + m ≤ 1000000) (hbase : base ≤ w.heap.size)
    (h : ∀ A'' c'' w', Ow w' base A'' (n + m) c'' (l ++ l') → Below base w w' → K (a.put o.dst (.slice A'' (n + m) c'')) w') : o.wp Tryd.prog a w K Q := by
  obtain ⟨A'', c'', w', hrun, h1, h2⟩ := run_append_bytes o.type base A n c l hown B A' m c' l' hr hsz hbase
  unfold Oper.wp execOp
  simp only [ho, resolve, invoke, builtin, Sem.run_bind, Sem.run_pure, Result.andThen_ok, List.map_toArray, List.map_cons, List.map_nil, hs, hx, hrun]
  exact h A'' c'' w' h1 h2

/-- At a step of a region that draws its order. -/
theorem step_append_bytes {w : World} {ops : Array Oper} {o : Oper} {a : Act} {K : Act → World → Prop} {Q : Exit → Act → World → Prop} {E : Prop} (hgd : o.guard = none) (s x : Operand)
    (ho : o.op = .call { callee := .builtin .append, args := #[s, x], argTypes := #[39, 39] })
    (base : Nat) (A : Option Addr) (n c : Nat) (l : List Int) (hs : a.eval s = .slice A n c) (hown : Ow w base A n c l)
    (B : Nat) (A' : Option Addr) (m c' : Nat) (l' : List Int) (hx : a.eval x = .slice A' m c') (hr : Rd w B A' m l') (hsz : n + m ≤ 1000000) (hbase : base ≤ w.heap.size)
    (h : ∀ A'' c'' w', Ow w' base A'' (n + m) c'' (l ++ l') → Below base w w' → K (a.put o.dst (.slice A'' (n + m) c'')) w') :
    if Region.wanted o (yielded ops a.tmps) = true then Oper.wp Tryd.prog o a w K Q else E := by
  have hw : Region.wanted o (yielded ops a.tmps) = true := by simp [Region.wanted, hgd]
  rw [if_pos hw]
  exact wp_append_bytes s x ho base A n c l hs hown B A' m c' l' hx hr hsz hbase h

/-- A block that is known whole, the call's own. -/
theorem Wh.ow {w : World} {g base n : Nat} {l : List Int} (h : Wh w g l) (hb : base ≤ g) (hn : l.length = n) (hn1 : n ≤ 1000000) : Ow w base (some ⟨g, 0, none⟩) n n l :=
  ⟨⟨by rw [bv_length]; omega, .inr ⟨g, n, (bv l).toArray, rfl, hb, h.blk, Nat.le_refl _, by simp only [maxLen]; omega, by simp [bv_length, hn], by simp only [Nat.mul_one]; exact List.take_of_length_le (by rw [bv_length]; omega)⟩⟩, h.byt⟩
theorem Ow.below {w w' : World} {base n c B : Nat} {A : Option Addr} {l : List Int} (h : Ow w base A n c l) (hb : Below B w w') (hB : w.heap.size ≤ B) : Ow w' base A n c l := by
  refine ⟨⟨h.own.1, ?_⟩, h.byt⟩
  rcases h.own.2 with h0 | ⟨g, cap, cur, hv, hg, hh, r⟩
  · exact .inl h0
  · have hlt : g < w.heap.size := by
      rcases Nat.lt_or_ge g w.heap.size with h1 | h1
      · exact h1
      · rw [Array.getElem?_eq_none h1] at hh; cases hh
    exact .inr ⟨g, cap, cur, hv, hg, (hb.block g (by omega)).trans hh, r⟩
theorem built_two (w : World) (y z : Int) (h0 : 0 ≤ y) (h1 : y ≤ 255) (h2 : 0 ≤ z) (h3 : z ≤ 255) : Rd (w.alloc (.cells #[.int .u8 y, .int .u8 z] 5)) (w.heap.size + 1) (some ⟨w.heap.size, 0, none⟩) 2 [y, z] :=
  (Wh.new w [y, z] (by intro u hu; simp at hu; rcases hu with rfl | rfl <;> omega)).rd
end Go.Proofs.YtndmlbepjcagiaaDoor
