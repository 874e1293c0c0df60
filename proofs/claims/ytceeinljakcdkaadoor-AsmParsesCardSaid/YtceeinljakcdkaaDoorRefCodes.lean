/-
  The reference's Codes and ByName.
-/
import Derived.Test.YtceeinljakcdkaaDoorNamedEnd
import Derived.Test.YtceeinljakcdkaaDoorOwnH
import Derived.Maps.AppendAt
namespace Go.Proofs.YtceeinljakcdkaaDoor
open Go.RowKit

/-- The first m rows of the table, cell by cell. -/
def kCells (m : Nat) : List Value := (List.range m).flatMap fun i => [.int .u16 (kC i), .string (kN i), .int .i64 (kF i)]
theorem kCells_succ (m : Nat) : kCells (m + 1) = kCells m ++ [.int .u16 (kC m), .string (kN m), .int .i64 (kF m)] := by simp [kCells, List.range_succ]
theorem kCells_length (m : Nat) : (kCells m).length = m * 3 := by
  induction m with
  | zero => rfl
  | succ m ih => rw [kCells_succ, List.length_append, ih]; simp; omega
theorem kCells_get (m i : Nat) (hi : i < m) : (kCells m)[i * 3]? = some (.int .u16 (kC i)) ∧ (kCells m)[i * 3 + 1]? = some (.string (kN i)) ∧ (kCells m)[i * 3 + 2]? = some (.int .i64 (kF i)) := by
  induction m with
  | zero => omega
  | succ m ih =>
    have hl := kCells_length m
    rw [kCells_succ]
    rcases Nat.lt_or_ge i m with h | h
    · obtain ⟨a, b, c⟩ := ih h
      rw [List.getElem?_append_left (by omega), List.getElem?_append_left (by omega), List.getElem?_append_left (by omega)]
      exact ⟨a, b, c⟩
    · obtain rfl : i = m := by omega
      rw [List.getElem?_append_right (by omega), List.getElem?_append_right (by omega), List.getElem?_append_right (by omega), hl]
      simp
/-- How many of the codes lie below k. -/
def cnt (k : Nat) : Nat := ((List.range 41).filter fun i => decide (kC i < k)).length
theorem cnt_step (k : Nat) (hk : k < 256) : match rowC (k : Int) with | none => cnt (k + 1) = cnt k | some i => cnt k = i ∧ cnt (k + 1) = i + 1 := by
  have hall : ((List.range 256).all fun k => match rowC (k : Int) with | none => cnt (k + 1) == cnt k | some i => cnt k == i && cnt (k + 1) == i + 1) = true := by decide +kernel
  have := List.all_eq_true.1 hall k (List.mem_range.2 hk)
  split <;> split at this <;> simp_all
theorem cnt_zero : cnt 0 = 0 := by decide
theorem cnt_end : cnt 256 = 41 := by decide +kernel

theorem code_info : (Tryd.prog.info? 109).map (fun i => (i.zero, i.size, i.bytes)) = some (some (.agg #[.int .u16 0, .string ⟨#[]⟩, .int .i64 0]), 3, 32) := by kernel_rfl

set_option maxHeartbeats 4000000 in
theorem refcodes_any (w : World) : Calls Tryd.prog 61 #[] w fun e w' =>
      ∃ v, e = .returned v ∧ w'.ownsRow w.heap.size 109 3 v 41 (kCells 41) ∧ Below w.heap.size w w' := by
  obtain ⟨i0, hi, hz0, hz1, hz2⟩ := info_parts code_info
  go_enter Tryd.func61, Tryd.ntmps61
  go_wp2
  go_loopw [1, 5] (fun v i wr => ∃ k : Nat, k ≤ 256 ∧ i = .int .u16 k ∧ wr.ownsRow w.heap.size 109 3 v (cnt k) (kCells (cnt k)) ∧ Below w.heap.size w wr) (fun _ i _ => 256 - (intOf i).toNat)
  case atStart => exact ⟨0, Nat.zero_le _, rfl, by rw [cnt_zero]; exact World.ownsRow_nil _ _ _ _, Below.refl _ _⟩
  case round =>
    obtain ⟨k, hk, rfl, hrow, hb⟩ := hrel
    by_cases hlt : k < 256
    · have hn := named_any k wr (by omega) (by omega)
      have hc := cnt_step k hlt
      have hlt' : (k : Int) < 256 := by omega
      unfold NamedAt at hn
      cases hr : rowC (k : Int) with
      | none =>
        have e1 : nameOf k = (⟨#[]⟩, false) := by simp only [nameOf, hr]
        rw [hr] at hc
        rw [e1] at hn
        go_wp2_with fail
        refine hn.mono ?_
        rintro e w1 ⟨rfl, hb1⟩
        go_wp2_with fail
        go_roundw
        case rel => exact ⟨k + 1, by omega, by go_num, by rw [hc]; exact ownsRow_below hrow hb1 (Nat.le_refl _), hb.trans (hb1.mono hb.size)⟩
        case measure => simp [intOf]; omega
      | some i =>
        obtain ⟨hi41, hki⟩ := rowC_some hr
        have e1 : nameOf k = (kN i, true) := by simp only [nameOf, hr]
        have e2 : formOf k = kF i := by simp only [formOf, hr]
        have hs := kN_some hi41
        rw [hr] at hc
        obtain ⟨hc1, hc2⟩ := hc
        rw [e1, e2] at hn
        rw [hc1] at hrow
        go_wp2_with fail
        refine hn.mono ?_
        rintro e w1 ⟨rfl, hb1⟩
        have hrow1 := ownsRow_below hrow hb1 (Nat.le_refl _)
        have hb1' := hb.trans (hb1.mono hb.size)
        have hsz := hb1'.size
        go_wp2_with (at_builtin; refine wpList_append_own _ rfl (.tmp 15) (.tmp 20) 106 rfl w.heap.size 109 i0 _ 3 32 Tryd.underlying106 hi hz0 hz1 hz2 rfl (by decide) u1 i _ rfl (hrow1.alloc _) ⟨w1.heap.size, 0, none⟩ 1 1 [.int .u16 k, .string (kN i), .int .i64 (kF i)] rfl rfl (news_new w1 #[.int .u16 k, .string (kN i), .int .i64 (kF i)] _) (by simp [Value.oneCell']) (by simp only [maxLen]; omega) (by omega) (by simp; omega) ?_; intro v' w2 hown' hgrow _)
        go_roundw
        case rel =>
          exact ⟨k + 1, by omega, by go_num, by rw [hc2, kCells_succ, hki]; exact hown', (hb1'.alloc hb1'.size _).grown hgrow (by simp; omega) (fun j hj => (hrow1.lt j hj).1)⟩
        case measure => simp [intOf]; omega
    · obtain rfl : k = 256 := by omega
      go_wp2
      go_ret
      rw [cnt_end] at hrow
      exact ⟨_, rfl, hrow, hb⟩

/-- A slice of the table's rows that the call made, as it is read. -/
theorem codes_rd {w : World} {base : Nat} {v : Value} (h : w.ownsRow base 109 3 v 41 (kCells 41)) :
    ∃ g c, v = .slice (some ⟨g, 0, none⟩) 41 c ∧ g < w.heap.size ∧ ∀ i, i < 41 → w.cell? ⟨g, i * 3, none⟩ = some (.int .u16 (kC i)) ∧ w.cell? ⟨g, i * 3 + 1, none⟩ = some (.string (kN i)) ∧ w.cell? ⟨g, i * 3 + 2, none⟩ = some (.int .i64 (kF i)) := by
  rcases h.2 with ⟨_, h0⟩ | ⟨g, cap, cur, hv, _, hh, hnc, _, hsz, ht⟩
  · omega
  · have hg : g < w.heap.size := by
      rcases Nat.lt_or_ge g w.heap.size with h1 | h1
      · exact h1
      · rw [Array.getElem?_eq_none h1] at hh; cases hh
    refine ⟨g, cap, hv, hg, fun i hi => ?_⟩
    obtain ⟨a, b, c⟩ := kCells_get 41 i hi
    have key : ∀ j u, j < 123 → (kCells 41)[j]? = some u → w.cell? ⟨g, j, none⟩ = some u := by
      intro j u hj hu
      have h1 : (cur.toList.take (41 * 3))[j]? = (kCells 41)[j]? := by rw [ht]
      rw [List.getElem?_take, if_pos (by omega), hu] at h1
      simpa [World.cell?, hh] using h1
    exact ⟨key _ _ (by omega) a, key _ _ (by omega) b, key _ _ (by omega) c⟩

set_option maxHeartbeats 4000000 in
theorem byname_any (s : ByteArray) (w : World) : Calls Tryd.prog 45 #[.string s] w fun e w' => e = .returned (.tuple #[.int .u16 (codeOf s).1, .bool (codeOf s).2]) ∧ Below w.heap.size w w' := by
  go_enter Tryd.func45, Tryd.ntmps45
  go_wp2_with fail
  refine (refcodes_any w).mono ?_
  rintro e w1 ⟨v, rfl, hown, hb1⟩
  obtain ⟨g, c, rfl, hg, hcs⟩ := codes_rd hown
  go_wp2_with fail
  go_loopw [8] (fun i wr => ∃ k : Nat, k ≤ 41 ∧ i = .int .i64 k ∧ (∀ j ∈ List.range k, ((kN j).toList == s.toList) = false) ∧ Below w1.heap.size w1 wr) (fun i _ => 41 - (intOf i).toNat)
  case atStart => exact ⟨0, Nat.zero_le _, rfl, by simp, Below.refl _ _⟩
  case round =>
    obtain ⟨k, hk, rfl, hp, hb⟩ := hrel
    by_cases hlt : k < 41
    · obtain ⟨q1, q2, q3⟩ := hcs k hlt
      have c1 := (hb.cell (p := ⟨g, k * 3, none⟩) hg).trans q1
      have c2 := (hb.cell (p := ⟨g, k * 3 + 1, none⟩) hg).trans q2
      have c3 := (hb.cell (p := ⟨g, k * 3 + 2, none⟩) hg).trans q3
      have hlt' : (k : Int) < 41 := by omega
      have hsz := hb.size
      cases hx : ((kN k).toList == s.toList)
      · go_wp2
        go_roundw
        case rel => exact ⟨k + 1, by omega, by go_num, fun j hj => by rw [← range_push] at hj; exact (List.mem_append.1 hj).elim (hp j) (fun e => by simp at e; subst e; exact hx), hb.alloc hb.size _⟩
        case measure => simp [intOf]; omega
      · go_wp2
        have hf : codeOf s = (kC k, true) := by simp only [codeOf, rowN, find_first (k := k + 1) (by omega) (range_push k).symm hp hx]
        rw [hf]
        go_ret2
        exact ⟨rfl, hb1.trans ((hb.alloc hb.size _).mono hb1.size)⟩
    · obtain rfl : k = 41 := by omega
      go_wp2
      have hf : codeOf s = (0, false) := by simp only [codeOf, rowN, find_none hp]
      rw [hf]
      go_ret2
      exact ⟨rfl, hb1.trans (hb.mono hb1.size)⟩
end Go.Proofs.YtceeinljakcdkaaDoor
