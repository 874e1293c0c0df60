/-
  The reference's Live.
-/
import Derived.Test.YtlelhhgggnjndaaGreatQTkRc
import Derived.Test.YtlelhhgggnjndaaGreatQPiT
namespace Go.Proofs.YtlelhhgggnjndaaGreat
open Go.RowKit Go.Shelf
attribute [local go_sem] Oper.semAt_some
set_option linter.unusedVariables false
set_option linter.unusedSimpArgs false
def woutF (l : List Int) (n : Int) : List Int := l.filter fun x => x != n
theorem woutF_take {l : List Int} {k : Nat} (hk : k < l.length) (n : Int) : woutF (l.take (k + 1)) n = woutF (l.take k) n ++ if (l.getD k 0 != n) = true then [l.getD k 0] else [] := by
  have e : l.getD k 0 = l[k] := by simp [List.getD, hk]
  rw [e, List.take_succ_eq_append_getElem hk]
  unfold woutF
  rw [List.filter_append, List.filter_cons]
  cases (l[k] != n) <;> simp
set_option maxRecDepth 100000 in
set_option maxHeartbeats 8000000 in
theorem without_in (A : Option Addr) (m c : Nat) (l : List Int) (n : Int) (w : World) (hA : Ri7 w w.heap.size A l) (hm : m = l.length) (h6 : m ≤ 1000000) :
    CallsIn Fence.wide 6 Tryz.prog 104 #[.slice A m c, .int .i64 n] w fun e w' => ∃ G gm gc, e = .returned (.slice G gm gc) ∧ Zo w' w.heap.size G gm gc (woutF l n) ∧ Below w.heap.size w w' := by
  have B0 := Below.refl w.heap.size w
  have HM := Lib.hid hm
  clear hm
  obtain ⟨i0, hi, hz0, hz1, hz2⟩ := info_parts zint_info
  refine callsIn_of_wp_marks Tryz.func104 rfl trivial ?_ rfl
  simp only [Tryz.ntmps104, List.size_toArray, List.length_cons, List.length_nil, Nat.reduceAdd, Nat.reduceSub, Array.replicate_succ, Array.replicate_zero, List.push_toArray, List.append_toArray, List.nil_append, List.cons_append]
  gi_wp2
  gi_loopw [5, 10] (fun q i wr => ∃ (k : Nat) (G : Option Addr) (gm gc : Nat), k ≤ m ∧ i = .int .i64 k ∧ q = .slice G gm gc ∧ Hid (Zo wr w.heap.size G gm gc (woutF (l.take k) n)) ∧ Hid (Below w.heap.size w wr) ∧ w.heap.size ≤ wr.heap.size) (fun _ i _ => m - (intOf i).toNat)
  case atStart => exact ⟨0, none, 0, 0, Nat.zero_le _, rfl, rfl, Lib.hid (zo_nil _ _), Lib.hid B0, Nat.le_refl _⟩
  case round =>
    clear B0
    obtain ⟨k, G, gm, gc, hk, rfl, rfl, HZ, HB, hsz⟩ := hrel
    obtain ⟨wq, rfl⟩ : ∃ wq : World, wq = wr := ⟨_, rfl⟩
    have hgm : gm ≤ 1000000 := by
      have := HZ.out.len
      have h1 : (woutF (l.take k) n).length ≤ (l.take k).length := List.length_filter_le _ _
      rw [List.length_take] at h1
      omega
    by_cases hlt : k < m
    · have hlt' : (k : Int) < m := by omega
      have hkl : k < l.length := by have := HM.out; omega
      have zg := HZ.out
      obtain ⟨b, off, rfl, hb, hc⟩ := hA.below HB.out (Nat.le_refl _) k hkl
      have HTK := Lib.hid (woutF_take hkl n)
      generalize l.getD k 0 = x at hc HTK
      have ba : Below wq.heap.size wq (wq.alloc (.cells #[.int .i64 x] 3)) := (Below.refl _ _).alloc (Nat.le_refl _) _
      have zg1 := zg.below ba (Nat.le_refl _)
      cases hq : (x != n)
      · gi_wp2
        refine ⟨⟨k + 1, G, gm, gc, by omega, by go_num, rfl, Lib.hid ?_, HB, hsz⟩, by simp [intOf]; omega⟩
        rw [HTK.out, hq, if_neg (by simp), List.append_nil]
        exact zg
      · gi_wp2_with (first
          | (gi_at_builtin; refine wpListIn_append_own _ rfl _ _ 22 rfl w.heap.size 3 i0 _ 1 8 Tryz.underlying22 hi hz0 hz1 hz2 rfl (by decide) _ _ _ rfl zg1 ⟨wq.heap.size, 0, none⟩ 1 1 [.int .i64 x] rfl rfl (cell_one_new _ _ _) (by simp [Value.oneCell']) (by simp only [maxLen]; omega) (by omega) (by simp; omega) ?_
             intro v' w3 hown' hgrow _
             obtain ⟨A2, c2, rfl⟩ := own_slice hown'))
        have hsa : (wq.alloc (.cells #[.int .i64 x] 3)).heap.size = wq.heap.size + 1 := by simp
        have hB1 : Below w.heap.size w w3 := (HB.out.trans (ba.mono (by omega))).grown hgrow (by rw [hsa]; omega) (fun r e => by have := (zg1.lt r e).1; omega)
        have hs3g : wq.heap.size + 1 ≤ w3.heap.size := by have := hgrow.size; rw [hsa] at this; exact this
        have zz : Zo w3 w.heap.size A2 (gm + 1) c2 (woutF (l.take (k + 1)) n) := by
          unfold Zo
          rw [HTK.out, hq, if_pos rfl, List.map_append]
          exact hown'
        exact ⟨⟨k + 1, A2, gm + 1, c2, by omega, by go_num, rfl, Lib.hid zz, Lib.hid hB1, by omega⟩, by simp [intOf]; omega⟩
    · obtain rfl : k = m := by omega
      have zg := HZ.out
      rw [List.take_of_length_le (by have := HM.out; omega)] at zg
      gi_wp2
      refine ⟨_, results_tmp1 rfl _ _, ?_⟩
      exact ⟨G, gm, gc, rfl, zg, HB.out⟩
theorem without_rf (A : Option Addr) (m c : Nat) (l : List Int) (n : Int) (w : World) (hA : Ri7 w w.heap.size A l) (hm : m = l.length) (h6 : m ≤ 1000000) :
    Calls Tryz.prog 104 #[.slice A m c, .int .i64 n] w fun e w' => ∃ G gm gc, e = .returned (.slice G gm gc) ∧ Zo w' w.heap.size G gm gc (woutF l n) ∧ Below w.heap.size w w' :=
  (callsIn_wide (n := 6)).1 (without_in A m c l n w hA hm h6)
end Go.Proofs.YtlelhhgggnjndaaGreat
namespace Go.Proofs.YtlelhhgggnjndaaGreat
open Go.RowKit Go.Shelf
attribute [local go_sem] Oper.semAt_some
set_option linter.unusedVariables false
set_option linter.unusedSimpArgs false
def withG (n : Int) : Bool → List Int → List Int
  | done, [] => if done then [] else [n]
  | done, x :: l => (if !done && decide (n ≤ x) then [n] else []) ++ ((if x != n then [x] else []) ++ withG n (done || decide (n ≤ x)) l)
set_option maxRecDepth 100000 in
set_option maxHeartbeats 8000000 in
theorem with_in (A : Option Addr) (m c : Nat) (l : List Int) (n : Int) (w : World) (hA : Ri7 w w.heap.size A l) (hm : m = l.length) (h6 : m ≤ 100000) :
    CallsIn Fence.wide 6 Tryz.prog 49 #[.slice A m c, .int .i64 n] w fun e w' => ∃ G gm gc, e = .returned (.slice G gm gc) ∧ Zo w' w.heap.size G gm gc (withG n false l) ∧ Below w.heap.size w w' := by
  have B0 := Below.refl w.heap.size w
  have HM := Lib.hid hm
  clear hm
  obtain ⟨i0, hi, hz0, hz1, hz2⟩ := info_parts zint_info
  refine callsIn_of_wp_marks Tryz.func49 rfl trivial ?_ rfl
  simp only [Tryz.ntmps49, List.size_toArray, List.length_cons, List.length_nil, Nat.reduceAdd, Nat.reduceSub, Array.replicate_succ, Array.replicate_zero, List.push_toArray, List.append_toArray, List.nil_append, List.cons_append]
  gi_wp2
  gi_loopw [5, 6, 11] (fun q d i wr => ∃ (k : Nat) (G : Option Addr) (gm gc : Nat) (o : List Int) (dn : Bool), k ≤ m ∧ i = .int .i64 k ∧ d = .bool dn ∧ q = .slice G gm gc ∧ Hid (Zo wr w.heap.size G gm gc o) ∧ Hid (o ++ withG n dn (l.drop k) = withG n false l) ∧ gm ≤ 2 * k ∧ Hid (Below w.heap.size w wr) ∧ w.heap.size ≤ wr.heap.size) (fun _ _ i _ => m - (intOf i).toNat)
  case atStart => exact ⟨0, none, 0, 0, [], false, Nat.zero_le _, rfl, rfl, rfl, Lib.hid (zo_nil _ _), Lib.hid (by simp), by omega, Lib.hid B0, Nat.le_refl _⟩
  case round =>
    clear B0
    obtain ⟨k, G, gm, gc, o, dn, hk, rfl, rfl, rfl, HZ, HI0, hgk, HB, hsz⟩ := hrel
    obtain ⟨wq, rfl⟩ : ∃ wq : World, wq = wr := ⟨_, rfl⟩
    have HL := Lib.hid hgk
    have hgm : gm ≤ 200000 := by omega
    by_cases hlt : k < m
    · have hlt' : (k : Int) < m := by omega
      have hkl : k < l.length := by have := HM.out; omega
      obtain ⟨b, off, rfl, hb, hc⟩ := hA.below HB.out (Nat.le_refl _) k hkl
      have he : l.getD k 0 = l[k] := by simp [List.getD, hkl]
      have hi0 := HI0.out
      rw [List.drop_eq_getElem_cons hkl, ← he] at hi0
      have HI := Lib.hid hi0
      clear hi0 he HI0
      generalize l.getD k 0 = x at hc HI
      cases h1 : decide (n ≤ x) <;> cases h2 : (x != n) <;> cases dn
      · gi_wp2
        refine ⟨⟨k + 1, G, gm, gc, (o), false, by omega, by go_num, rfl, rfl, Lib.hid HZ.out, Lib.hid ?_, by have := HL.out; omega, Lib.hid HB.out, by omega⟩, by simp [intOf]; omega⟩
        rw [← HI.out, withG, h1, h2]
        simp
      · gi_wp2
        refine ⟨⟨k + 1, G, gm, gc, (o), true, by omega, by go_num, rfl, rfl, Lib.hid HZ.out, Lib.hid ?_, by have := HL.out; omega, Lib.hid HB.out, by omega⟩, by simp [intOf]; omega⟩
        rw [← HI.out, withG, h1, h2]
        simp
      · have ba1 : Below wq.heap.size wq (wq.alloc (.cells #[.int .i64 x] 3)) := (Below.refl _ _).alloc (Nat.le_refl _) _
        have zg1 := HZ.out.below ba1 (Nat.le_refl _)
        gi_wp2_with (first
          | (gi_at_builtin; refine wpListIn_append_own _ rfl _ _ 22 rfl w.heap.size 3 i0 _ 1 8 Tryz.underlying22 hi hz0 hz1 hz2 rfl (by decide) _ _ _ rfl zg1 ⟨wq.heap.size, 0, none⟩ 1 1 [.int .i64 x] rfl rfl (cell_one_new _ _ _) (by simp [Value.oneCell']) (by simp only [maxLen]; omega) (by omega) (by simp; omega) ?_
             intro v1 w1 hown1 hgrow1 _
             obtain ⟨A1, c1, rfl⟩ := own_slice hown1
             have zz1 : Zo w1 w.heap.size A1 (gm + 1) c1 (o ++ [x]) := by
               unfold Zo
               rw [List.map_append]
               exact hown1
             have hsa1 : (wq.alloc (.cells #[.int .i64 x] 3)).heap.size = wq.heap.size + 1 := by simp
             have hB1 : Below w.heap.size w w1 := (HB.out.trans (ba1.mono (by omega))).grown hgrow1 (by rw [hsa1]; omega) (fun r e => by have := (zg1.lt r e).1; omega)
             have hsz1 := hB1.size))
        refine ⟨⟨k + 1, A1, gm + 1, c1, (o ++ [x]), false, by omega, by go_num, rfl, rfl, Lib.hid zz1, Lib.hid ?_, by have := HL.out; omega, Lib.hid hB1, by omega⟩, by simp [intOf]; omega⟩
        rw [← HI.out, withG, h1, h2]
        simp
      · have ba1 : Below wq.heap.size wq (wq.alloc (.cells #[.int .i64 x] 3)) := (Below.refl _ _).alloc (Nat.le_refl _) _
        have zg1 := HZ.out.below ba1 (Nat.le_refl _)
        gi_wp2_with (first
          | (gi_at_builtin; refine wpListIn_append_own _ rfl _ _ 22 rfl w.heap.size 3 i0 _ 1 8 Tryz.underlying22 hi hz0 hz1 hz2 rfl (by decide) _ _ _ rfl zg1 ⟨wq.heap.size, 0, none⟩ 1 1 [.int .i64 x] rfl rfl (cell_one_new _ _ _) (by simp [Value.oneCell']) (by simp only [maxLen]; omega) (by omega) (by simp; omega) ?_
             intro v1 w1 hown1 hgrow1 _
             obtain ⟨A1, c1, rfl⟩ := own_slice hown1
             have zz1 : Zo w1 w.heap.size A1 (gm + 1) c1 (o ++ [x]) := by
               unfold Zo
               rw [List.map_append]
               exact hown1
             have hsa1 : (wq.alloc (.cells #[.int .i64 x] 3)).heap.size = wq.heap.size + 1 := by simp
             have hB1 : Below w.heap.size w w1 := (HB.out.trans (ba1.mono (by omega))).grown hgrow1 (by rw [hsa1]; omega) (fun r e => by have := (zg1.lt r e).1; omega)
             have hsz1 := hB1.size))
        refine ⟨⟨k + 1, A1, gm + 1, c1, (o ++ [x]), true, by omega, by go_num, rfl, rfl, Lib.hid zz1, Lib.hid ?_, by have := HL.out; omega, Lib.hid hB1, by omega⟩, by simp [intOf]; omega⟩
        rw [← HI.out, withG, h1, h2]
        simp
      · have ba1 : Below wq.heap.size wq (wq.alloc (.cells #[.int .i64 n] 3)) := (Below.refl _ _).alloc (Nat.le_refl _) _
        have zg1 := HZ.out.below ba1 (Nat.le_refl _)
        gi_wp2_with (first
          | (gi_at_builtin; refine wpListIn_append_own _ rfl _ _ 22 rfl w.heap.size 3 i0 _ 1 8 Tryz.underlying22 hi hz0 hz1 hz2 rfl (by decide) _ _ _ rfl zg1 ⟨wq.heap.size, 0, none⟩ 1 1 [.int .i64 n] rfl rfl (cell_one_new _ _ _) (by simp [Value.oneCell']) (by simp only [maxLen]; omega) (by omega) (by simp; omega) ?_
             intro v1 w1 hown1 hgrow1 _
             obtain ⟨A1, c1, rfl⟩ := own_slice hown1
             have zz1 : Zo w1 w.heap.size A1 (gm + 1) c1 (o ++ [n]) := by
               unfold Zo
               rw [List.map_append]
               exact hown1
             have hsa1 : (wq.alloc (.cells #[.int .i64 n] 3)).heap.size = wq.heap.size + 1 := by simp
             have hB1 : Below w.heap.size w w1 := (HB.out.trans (ba1.mono (by omega))).grown hgrow1 (by rw [hsa1]; omega) (fun r e => by have := (zg1.lt r e).1; omega)
             have hsz1 := hB1.size))
        refine ⟨⟨k + 1, A1, gm + 1, c1, (o ++ [n]), true, by omega, by go_num, rfl, rfl, Lib.hid zz1, Lib.hid ?_, by have := HL.out; omega, Lib.hid hB1, by omega⟩, by simp [intOf]; omega⟩
        rw [← HI.out, withG, h1, h2]
        simp
      · gi_wp2
        refine ⟨⟨k + 1, G, gm, gc, (o), true, by omega, by go_num, rfl, rfl, Lib.hid HZ.out, Lib.hid ?_, by have := HL.out; omega, Lib.hid HB.out, by omega⟩, by simp [intOf]; omega⟩
        rw [← HI.out, withG, h1, h2]
        simp
      · have ba1 : Below wq.heap.size wq (wq.alloc (.cells #[.int .i64 n] 3)) := (Below.refl _ _).alloc (Nat.le_refl _) _
        have zg1 := HZ.out.below ba1 (Nat.le_refl _)
        gi_wp2_with (first
          | (gi_at_builtin; refine wpListIn_append_own _ rfl _ _ 22 rfl w.heap.size 3 i0 _ 1 8 Tryz.underlying22 hi hz0 hz1 hz2 rfl (by decide) _ _ _ rfl zg1 ⟨wq.heap.size, 0, none⟩ 1 1 [.int .i64 n] rfl rfl (cell_one_new _ _ _) (by simp [Value.oneCell']) (by simp only [maxLen]; omega) (by omega) (by simp; omega) ?_
             intro v1 w1 hown1 hgrow1 _
             obtain ⟨A1, c1, rfl⟩ := own_slice hown1
             have zz1 : Zo w1 w.heap.size A1 (gm + 1) c1 (o ++ [n]) := by
               unfold Zo
               rw [List.map_append]
               exact hown1
             have hsa1 : (wq.alloc (.cells #[.int .i64 n] 3)).heap.size = wq.heap.size + 1 := by simp
             have hB1 : Below w.heap.size w w1 := (HB.out.trans (ba1.mono (by omega))).grown hgrow1 (by rw [hsa1]; omega) (fun r e => by have := (zg1.lt r e).1; omega)
             have hsz1 := hB1.size
             have ba2 : Below w1.heap.size w1 (w1.alloc (.cells #[.int .i64 x] 3)) := (Below.refl _ _).alloc (Nat.le_refl _) _
             have zg2 := zz1.below ba2 (Nat.le_refl _))
          | (gi_at_builtin; refine wpListIn_append_own _ rfl _ _ 22 rfl w.heap.size 3 i0 _ 1 8 Tryz.underlying22 hi hz0 hz1 hz2 rfl (by decide) _ _ _ rfl zg2 ⟨w1.heap.size, 0, none⟩ 1 1 [.int .i64 x] rfl rfl (cell_one_new _ _ _) (by simp [Value.oneCell']) (by simp only [maxLen]; omega) (by omega) (by simp; omega) ?_
             intro v2 w2 hown2 hgrow2 _
             obtain ⟨A2, c2, rfl⟩ := own_slice hown2
             have zz2 : Zo w2 w.heap.size A2 (gm + 1 + 1) c2 ((o ++ [n]) ++ [x]) := by
               unfold Zo
               rw [List.map_append]
               exact hown2
             have hsa2 : (w1.alloc (.cells #[.int .i64 x] 3)).heap.size = w1.heap.size + 1 := by simp
             have hB2 : Below w.heap.size w w2 := (hB1.trans (ba2.mono (by omega))).grown hgrow2 (by rw [hsa2]; omega) (fun r e => by have := (zg2.lt r e).1; omega)
             have hsz2 := hB2.size))
        refine ⟨⟨k + 1, A2, gm + 1 + 1, c2, (o ++ [n] ++ [x]), true, by omega, by go_num, rfl, rfl, Lib.hid zz2, Lib.hid ?_, by have := HL.out; omega, Lib.hid hB2, by omega⟩, by simp [intOf]; omega⟩
        rw [← HI.out, withG, h1, h2]
        simp
      · have ba1 : Below wq.heap.size wq (wq.alloc (.cells #[.int .i64 x] 3)) := (Below.refl _ _).alloc (Nat.le_refl _) _
        have zg1 := HZ.out.below ba1 (Nat.le_refl _)
        gi_wp2_with (first
          | (gi_at_builtin; refine wpListIn_append_own _ rfl _ _ 22 rfl w.heap.size 3 i0 _ 1 8 Tryz.underlying22 hi hz0 hz1 hz2 rfl (by decide) _ _ _ rfl zg1 ⟨wq.heap.size, 0, none⟩ 1 1 [.int .i64 x] rfl rfl (cell_one_new _ _ _) (by simp [Value.oneCell']) (by simp only [maxLen]; omega) (by omega) (by simp; omega) ?_
             intro v1 w1 hown1 hgrow1 _
             obtain ⟨A1, c1, rfl⟩ := own_slice hown1
             have zz1 : Zo w1 w.heap.size A1 (gm + 1) c1 (o ++ [x]) := by
               unfold Zo
               rw [List.map_append]
               exact hown1
             have hsa1 : (wq.alloc (.cells #[.int .i64 x] 3)).heap.size = wq.heap.size + 1 := by simp
             have hB1 : Below w.heap.size w w1 := (HB.out.trans (ba1.mono (by omega))).grown hgrow1 (by rw [hsa1]; omega) (fun r e => by have := (zg1.lt r e).1; omega)
             have hsz1 := hB1.size))
        refine ⟨⟨k + 1, A1, gm + 1, c1, (o ++ [x]), true, by omega, by go_num, rfl, rfl, Lib.hid zz1, Lib.hid ?_, by have := HL.out; omega, Lib.hid hB1, by omega⟩, by simp [intOf]; omega⟩
        rw [← HI.out, withG, h1, h2]
        simp
    · obtain rfl : k = m := by omega
      have hi0 := HI0.out
      rw [HM.out, List.drop_length] at hi0
      have HI := Lib.hid hi0
      clear hi0 HI0
      cases dn
      · have ba : Below wq.heap.size wq (wq.alloc (.cells #[.int .i64 n] 3)) := (Below.refl _ _).alloc (Nat.le_refl _) _
        have zg1 := HZ.out.below ba (Nat.le_refl _)
        gi_wp2_with (first
          | (gi_at_builtin; refine wpListIn_append_own _ rfl _ _ 22 rfl w.heap.size 3 i0 _ 1 8 Tryz.underlying22 hi hz0 hz1 hz2 rfl (by decide) _ _ _ rfl zg1 ⟨wq.heap.size, 0, none⟩ 1 1 [.int .i64 n] rfl rfl (cell_one_new _ _ _) (by simp [Value.oneCell']) (by simp only [maxLen]; omega) (by omega) (by simp; omega) ?_
             intro v' w3 hown' hgrow _
             obtain ⟨A2, c2, rfl⟩ := own_slice hown'))
        have hsa : (wq.alloc (.cells #[.int .i64 n] 3)).heap.size = wq.heap.size + 1 := by simp
        have hB1 : Below w.heap.size w w3 := (HB.out.trans (ba.mono (by omega))).grown hgrow (by rw [hsa]; omega) (fun r e => by have := (zg1.lt r e).1; omega)
        have zz : Zo w3 w.heap.size A2 (gm + 1) c2 (withG n false l) := by
          unfold Zo
          rw [← HI.out, show withG n false [] = [n] from rfl, List.map_append]
          exact hown'
        refine ⟨_, results_tmp1 rfl _ _, ?_⟩
        exact ⟨A2, gm + 1, c2, rfl, zz, hB1⟩
      · have zg := HZ.out
        rw [show o = withG n false l by rw [← HI.out, show withG n true [] = [] from rfl, List.append_nil]] at zg
        gi_wp2
        refine ⟨_, results_tmp1 rfl _ _, ?_⟩
        exact ⟨G, gm, gc, rfl, zg, HB.out⟩
theorem with_rf (A : Option Addr) (m c : Nat) (l : List Int) (n : Int) (w : World) (hA : Ri7 w w.heap.size A l) (hm : m = l.length) (h6 : m ≤ 100000) :
    Calls Tryz.prog 49 #[.slice A m c, .int .i64 n] w fun e w' => ∃ G gm gc, e = .returned (.slice G gm gc) ∧ Zo w' w.heap.size G gm gc (withG n false l) ∧ Below w.heap.size w w' :=
  (callsIn_wide (n := 6)).1 (with_in A m c l n w hA hm h6)
end Go.Proofs.YtlelhhgggnjndaaGreat
namespace Go.Proofs.YtlelhhgggnjndaaGreat
open Go.RowKit Go.Shelf
attribute [local go_sem] Oper.semAt_some
set_option linter.unusedVariables false
set_option linter.unusedSimpArgs false
def tidF (L : List Pw) : List Int := (thrF 0 L).map Prod.snd
end Go.Proofs.YtlelhhgggnjndaaGreat
namespace Go.Proofs.YtlelhhgggnjndaaGreat
open Go.RowKit Go.Shelf
set_option linter.unusedVariables false
set_option linter.unusedSimpArgs false
def withs (o : List Int) : List Int → List Int
  | [] => o
  | t :: l => withs (withG t false o) l
theorem withs_app : ∀ (l l2 o : List Int), withs o (l ++ l2) = withs (withs o l) l2
  | [], l2, o => rfl
  | t :: l, l2, o => withs_app l l2 (withG t false o)
theorem withG_len (n : Int) : ∀ (l : List Int) (d : Bool), (withG n d l).length ≤ l.length + (if d then 0 else 1)
  | [], d => by cases d <;> simp [withG]
  | x :: l, d => by
    unfold withG
    have h := withG_len n l (d || decide (n ≤ x))
    simp only [List.length_append, List.length_cons]
    obtain ⟨e, he⟩ : ∃ e, (if (x != n) = true then [x] else []) = e := ⟨_, rfl⟩
    have h1 : e.length ≤ 1 := by rw [← he]; split <;> simp
    rw [he]
    cases d
    · by_cases hn : n ≤ x
      · simp [hn] at h ⊢; omega
      · simp [hn] at h ⊢; omega
    · simp at h ⊢; omega
theorem tidF_snd : ∀ (L : List Pw) (k j : Nat), (thrF k L).map Prod.snd = (thrF j L).map Prod.snd
  | [], _, _ => rfl
  | x :: L, k, j => by
    rw [thrF, thrF, List.map_append, List.map_append, tidF_snd L (k + 1) (j + 1)]
    congr 1
    simp [List.map_map, Function.comp_def]
theorem tidF_cons (x : Pw) (L : List Pw) : tidF (x :: L) = x.1.t ++ tidF L := by
  unfold tidF
  rw [thrF, List.map_append, tidF_snd L (0 + 1) 0]
  congr 1
  simp [List.map_map, Function.comp_def]
theorem tidF_drop {L : List Pw} {k : Nat} (h : k < L.length) : tidF (L.drop k) = (L.getD k pw0).1.t ++ tidF (L.drop (k + 1)) := by
  rw [List.drop_eq_getElem_cons h, tidF_cons]
  simp [List.getD, h]
set_option maxRecDepth 100000 in
set_option maxHeartbeats 8000000 in
theorem rlive_tk (a : Int) (Ua : Option Addr) (um uc : Nat) (A : Option Addr) (m c : Nat) (L : List Pw) (w : World) (hP : Ps w w.heap.size A L) (hm : m = L.length) (h6 : m ≤ 1000000) (hN : (tidF L).length ≤ 1000) :
    Calls Tryz.prog 18 #[tkV a Ua um uc A m c] w fun e w' => ∃ G gm gc, e = .returned (.slice G gm gc) ∧ Zo w' w.heap.size G gm gc (withs [] (tidF L)) ∧ Below w.heap.size w w' := by
  have k1 := Blk.new w (tkC a Ua um uc A m c) 27
  have B0 := (Below.refl w.heap.size w).alloc (Nat.le_refl _) (.cells (tkC a Ua um uc A m c) 27)
  have q2 : (w.alloc (.cells (tkC a Ua um uc A m c) 27)).cell? ⟨w.heap.size, 2, none⟩ = some (.slice A m c) := k1.cell 2
  have HM := Lib.hid hm
  clear hm
  obtain ⟨E, hE⟩ : ∃ E, withs [] (tidF L) = E := ⟨_, rfl⟩
  rw [hE]
  have HE := Lib.hid (show E = withs [] (tidF (L.drop 0)) by rw [List.drop_zero, hE])
  have HN := Lib.hid (show ([] : List Int).length + (tidF (L.drop 0)).length ≤ 1000 by simpa using hN)
  clear hE hN
  unfold tkV
  go_enter Tryz.func18, Tryz.ntmps18
  go_wp2_with fail
  clear q2 k1
  go_loopw [3, 11] (fun q i wr' => ∃ (k : Nat) (G : Option Addr) (gm gc : Nat) (o : List Int) (wr : World), wr = wr' ∧ k ≤ m ∧ i = .int .i64 k ∧ q = .slice G gm gc ∧ Hid (Zo wr w.heap.size G gm gc o) ∧ Hid (E = withs o (tidF (L.drop k))) ∧ Hid (o.length + (tidF (L.drop k)).length ≤ 1000) ∧ Below w.heap.size w wr) (fun _ i _ => m - (intOf i).toNat)
  case atStart => exact ⟨0, none, 0, 0, [], _, rfl, Nat.zero_le _, rfl, rfl, Lib.hid (zo_nil _ _), HE, HN, B0⟩
  case round =>
    clear B0 HE HN
    obtain ⟨k, G, gm, gc, o, wr, hwr, hk, rfl, rfl, HZ, HI0, HL0, hB⟩ := hrel
    subst hwr
    by_cases hlt : k < m
    · have hlt' : (k : Int) < (m : Int) := by omega
      have hkl : k < L.length := by have := HM.out; omega
      obtain ⟨b, off, rfl, hb, hc⟩ := (hP.below hB (Nat.le_refl _)).at_ k hkl
      have hT := hP.at' hkl
      have hi := HI0.out
      have hl := HL0.out
      rw [tidF_drop hkl] at hi hl
      clear HI0 HL0
      generalize L.getD k pw0 = x at hc hi hl hT
      obtain ⟨R, hR⟩ : ∃ R, tidF (L.drop (k + 1)) = R := ⟨_, rfl⟩
      rw [hR] at hi hl
      have HR := Lib.hid hR
      have HI := Lib.hid (show E = withs o (x.1.t.drop 0 ++ R) by rw [List.drop_zero]; exact hi)
      have HL := Lib.hid (show o.length + (x.1.t.drop 0 ++ R).length ≤ 1000 by rw [List.drop_zero]; exact hl)
      clear hR hi hl
      have hs3 : (prC x).size = 3 := pr_size x
      go_wp2_with (first
        | (refine wpList_load_mid rfl 49 (.tmp 13) rfl b (off + k * 3) rfl (prC x).toList _ hc Tryz.underlying49 rfl (pr_infL x) ?_)
        | (refine wpList_store_blk rfl 49 (.tmp 5) (.tmp 14) rfl wr.heap.size (prC pw0) (prC x) 49 rfl rfl (Blk.new _ _ _) rfl (pr_inf x) (pr_one x) ?_
           intro W1 k4 n4
           have bb : Below wr.heap.size wr W1 := ((Below.refl _ wr).alloc (Nat.le_refl _) _).trans (n4.below _ (Nat.le_refl _) (by simp))
           have q2 : W1.cell? ⟨wr.heap.size, 2, none⟩ = some (.slice x.2.1 x.1.t.length x.2.2) := k4.cell 2
           have B1 := hB.trans (bb.mono hB.size)
           have HZ1 := Lib.hid (HZ.out.below bb (Nat.le_refl _))
           clear n4 bb HZ))
      have HT := Lib.hid hT.ri
      have hN6 := hT.l
      clear hT
      clear q2 k4 hc
      obtain ⟨N, hN⟩ : ∃ N, x.1.t.length = N := ⟨_, rfl⟩
      obtain ⟨XA, hXA⟩ : ∃ a, x.2.1 = a := ⟨_, rfl⟩
      have HNN := Lib.hid hN
      have HXA := Lib.hid hXA
      simp only [hN, hXA]
      rw [hN] at hN6
      clear hN hXA
      have hsW := B1.size
      go_loopw [3, 18] (fun q i wr' => ∃ (u : Nat) (G : Option Addr) (gm gc : Nat) (o : List Int) (wz : World), wz = wr' ∧ u ≤ N ∧ i = .int .i64 u ∧ q = .slice G gm gc ∧ Hid (Zo wz w.heap.size G gm gc o) ∧ Hid (E = withs o (x.1.t.drop u ++ R)) ∧ Hid (o.length + (x.1.t.drop u ++ R).length ≤ 1000) ∧ Below w.heap.size w wz) (fun _ i _ => N - (intOf i).toNat)
      case atStart => exact ⟨0, G, gm, gc, o, _, rfl, Nat.zero_le _, rfl, rfl, HZ1, HI, HL, B1⟩
      case round =>
        clear HZ1 HI HL B1 hsW hB hs3
        obtain ⟨u, G, gm, gc, o, wz, hwz, hu, rfl, rfl, HZ, HI, HL, hBz⟩ := hrel
        subst hwz
        by_cases hun : u < N
        · have hun' : (u : Int) < (N : Int) := by omega
          have hul : u < x.1.t.length := by have := HNN.out; omega
          obtain ⟨bq, oq, hAq, hbq, hcq⟩ := (HT.out.below hBz (Nat.le_refl _)) u hul
          obtain rfl : XA = some ⟨bq, oq, none⟩ := HXA.out.symm.trans hAq
          have hi := HI.out
          have hl := HL.out
          rw [List.drop_eq_getElem_cons hul, show x.1.t[u] = x.1.t.getD u 0 by simp [List.getD, hul], List.cons_append] at hi hl
          clear HI HL
          generalize x.1.t.getD u 0 = t at hcq hi hl
          have HI := Lib.hid (show E = withs (withG t false o) (x.1.t.drop (u + 1) ++ R) from hi)
          have HL := Lib.hid (show (withG t false o).length + (x.1.t.drop (u + 1) ++ R).length ≤ 1000 by
            have h1 := withG_len t o false
            simp only [List.length_cons] at hl
            simp only [Bool.false_eq_true, if_false] at h1
            omega)
          have hW := Lib.hid (with_rf G gm gc o t wz HZ.out.ri HZ.out.len (by have := HZ.out.len; simp only [List.length_cons] at hl; omega))
          clear hi hl
          go_wp2_with (first
            | (refine hW.out.mono ?_
               clear hW
               rintro e W2 ⟨G2, gm2, gc2, rfl, z2, b2⟩
               have B2 := hBz.trans (b2.mono hBz.size)
               have HZ2 := Lib.hid (z2.down hBz.size)
               clear z2 b2 HZ))
          go_roundw
          case rel => exact ⟨u + 1, G2, gm2, gc2, _, _, rfl, by omega, by go_num, rfl, HZ2, HI, HL, B2⟩
          case measure => simp [intOf]; omega
        · obtain rfl : N = u := by omega
          have hi := HI.out
          have hl := HL.out
          rw [List.drop_of_length_le (by have := HNN.out; omega), List.nil_append] at hi hl
          have HI1 := Lib.hid (show E = withs o (tidF (L.drop (k + 1))) by rw [HR.out]; exact hi)
          have HL1 := Lib.hid (show o.length + (tidF (L.drop (k + 1))).length ≤ 1000 by rw [HR.out]; exact hl)
          clear hi hl HI HL
          go_wp2_with fail
          go_roundw
          case rel => exact ⟨k + 1, G, gm, gc, o, _, rfl, by omega, by go_num, rfl, HZ, HI1, HL1, hBz⟩
          case measure => simp [intOf]; omega
    · obtain rfl : k = m := by omega
      have hi := HI0.out
      rw [List.drop_of_length_le (by have := HM.out; omega)] at hi
      have HI := Lib.hid (show E = o from hi)
      clear hi HI0
      go_wp2_with fail
      go_ret
      exact ⟨G, gm, gc, rfl, by rw [HI.out]; exact HZ.out, hB⟩
end Go.Proofs.YtlelhhgggnjndaaGreat
