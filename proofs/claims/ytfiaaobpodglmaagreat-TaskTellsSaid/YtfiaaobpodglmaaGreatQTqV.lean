/-
  The reference's Live.
-/
import Derived.Test.YtfiaaobpodglmaaGreatQTkRc
import Derived.Test.YtfiaaobpodglmaaGreatQPiT
namespace Go.Proofs.YtfiaaobpodglmaaGreat
open Go.RowKit Go.Shelf
attribute [local go_sem] Oper.semAt_some
set_option linter.unusedVariables false
set_option linter.unusedSimpArgs false
def withG (n : Int) : Bool → List Int → List Int
  | done, [] => if done then [] else [n]
  | done, x :: l => (if !done && decide (n ≤ x) then [n] else []) ++ ((if x != n then [x] else []) ++ withG n (done || decide (n ≤ x)) l)
set_option maxRecDepth 100000 in
set_option maxHeartbeats 8000000 in
theorem with_in (A : Option Addr) (m c : Nat) (l : List Int) (n : Int) (w : World) (hA : Ri7 w w.heap.size A l) (hm : m = l.length) (h6 : m ≤ 100000) :
    CallsIn Fence.wide 6 Tryz.prog 49 #[.slice A m c, .int .i64 n] w fun e w' => ∃ G gm gc, e = .returned (.slice G gm gc) ∧ Zo w' w.heap.size G gm gc (withG n false l) ∧ Below w.heap.size w w' := by
  have B0 := Below.refl w.heap.size w
  have HM := Lib.hid hm
  clear hm
  obtain ⟨i0, hi, hz0, hz1, hz2⟩ := info_parts zint_info
  refine callsIn_of_wp_marks Tryz.func49 rfl trivial ?_ rfl
  simp only [Tryz.ntmps49, List.size_toArray, List.length_cons, List.length_nil, Nat.reduceAdd, Nat.reduceSub, Array.replicate_succ, Array.replicate_zero, List.push_toArray, List.append_toArray, List.nil_append, List.cons_append]
  gi_wp2
  gi_loopw [5, 6, 11] (fun q d i wr => ∃ (k : Nat) (G : Option Addr) (gm gc : Nat) (o : List Int) (dn : Bool), k ≤ m ∧ i = .int .i64 k ∧ d = .bool dn ∧ q = .slice G gm gc ∧ Hid (Zo wr w.heap.size G gm gc o) ∧ Hid (o ++ withG n dn (l.drop k) = withG n false l) ∧ gm ≤ 2 * k ∧ Hid (Below w.heap.size w wr) ∧ w.heap.size ≤ wr.heap.size) (fun _ _ i _ => m - (intOf i).toNat)
  case atStart => exact ⟨0, none, 0, 0, [], false, Nat.zero_le _, rfl, rfl, rfl, Lib.hid (zo_nil _ _), Lib.hid (by simp), by omega, Lib.hid B0, Nat.le_refl _⟩
  case round =>
    clear B0
    obtain ⟨k, G, gm, gc, o, dn, hk, rfl, rfl, rfl, HZ, HI0, hgk, HB, hsz⟩ := hrel
    obtain ⟨wq, rfl⟩ : ∃ wq : World, wq = wr := ⟨_, rfl⟩
    have HL := Lib.hid hgk
    have hgm : gm ≤ 200000 := by omega
    by_cases hlt : k < m
    · have hlt' : (k : Int) < m := by omega
      have hkl : k < l.length := by have := HM.out; omega
      obtain ⟨b, off, rfl, hb, hc⟩ := hA.below HB.out (Nat.le_refl _) k hkl
      have he : l.getD k 0 = l[k] := by simp [List.getD, hkl]
      have hi0 := HI0.out
      rw [List.drop_eq_getElem_cons hkl, ← he] at hi0
      have HI := Lib.hid hi0
      clear hi0 he HI0
      generalize l.getD k 0 = x at hc HI
      cases h1 : decide (n ≤ x) <;> cases h2 : (x != n) <;> cases dn
      · gi_wp2
        refine ⟨⟨k + 1, G, gm, gc, (o), false, by omega, by go_num, rfl, rfl, Lib.hid HZ.out, Lib.hid ?_, by have := HL.out; omega, Lib.hid HB.out, by omega⟩, by simp [intOf]; omega⟩
        rw [← HI.out, withG, h1, h2]
        simp
      · gi_wp2
        refine ⟨⟨k + 1, G, gm, gc, (o), true, by omega, by go_num, rfl, rfl, Lib.hid HZ.out, Lib.hid ?_, by have := HL.out; omega, Lib.hid HB.out, by omega⟩, by simp [intOf]; omega⟩
        rw [← HI.out, withG, h1, h2]
        simp
      · have ba1 : Below wq.heap.size wq (wq.alloc (.cells #[.int .i64 x] 3)) := (Below.refl _ _).alloc (Nat.le_refl _) _
        have zg1 := HZ.out.below ba1 (Nat.le_refl _)
        gi_wp2_with (first
          | (gi_at_builtin; refine wpListIn_append_own _ rfl _ _ 22 rfl w.heap.size 3 i0 _ 1 8 Tryz.underlying22 hi hz0 hz1 hz2 rfl (by decide) _ _ _ rfl zg1 ⟨wq.heap.size, 0, none⟩ 1 1 [.int .i64 x] rfl rfl (cell_one_new _ _ _) (by simp [Value.oneCell']) (by simp only [maxLen]; omega) (by omega) (by simp; omega) ?_
             intro v1 w1 hown1 hgrow1 _
             obtain ⟨A1, c1, rfl⟩ := own_slice hown1
             have zz1 : Zo w1 w.heap.size A1 (gm + 1) c1 (o ++ [x]) := by
               unfold Zo
               rw [List.map_append]
               exact hown1
             have hsa1 : (wq.alloc (.cells #[.int .i64 x] 3)).heap.size = wq.heap.size + 1 := by simp
             have hB1 : Below w.heap.size w w1 := (HB.out.trans (ba1.mono (by omega))).grown hgrow1 (by rw [hsa1]; omega) (fun r e => by have := (zg1.lt r e).1; omega)
             have hsz1 := hB1.size))
        refine ⟨⟨k + 1, A1, gm + 1, c1, (o ++ [x]), false, by omega, by go_num, rfl, rfl, Lib.hid zz1, Lib.hid ?_, by have := HL.out; omega, Lib.hid hB1, by omega⟩, by simp [intOf]; omega⟩
        rw [← HI.out, withG, h1, h2]
        simp
      · have ba1 : Below wq.heap.size wq (wq.alloc (.cells #[.int .i64 x] 3)) := (Below.refl _ _).alloc (Nat.le_refl _) _
        have zg1 := HZ.out.below ba1 (Nat.le_refl _)
        gi_wp2_with (first
          | (gi_at_builtin; refine wpListIn_append_own _ rfl _ _ 22 rfl w.heap.size 3 i0 _ 1 8 Tryz.underlying22 hi hz0 hz1 hz2 rfl (by decide) _ _ _ rfl zg1 ⟨wq.heap.size, 0, none⟩ 1 1 [.int .i64 x] rfl rfl (cell_one_new _ _ _) (by simp [Value.oneCell']) (by simp only [maxLen]; omega) (by omega) (by simp; omega) ?_
             intro v1 w1 hown1 hgrow1 _
             obtain ⟨A1, c1, rfl⟩ := own_slice hown1
             have zz1 : Zo w1 w.heap.size A1 (gm + 1) c1 (o ++ [x]) := by
               unfold Zo
               rw [List.map_append]
               exact hown1
             have hsa1 : (wq.alloc (.cells #[.int .i64 x] 3)).heap.size = wq.heap.size + 1 := by simp
             have hB1 : Below w.heap.size w w1 := (HB.out.trans (ba1.mono (by omega))).grown hgrow1 (by rw [hsa1]; omega) (fun r e => by have := (zg1.lt r e).1; omega)
             have hsz1 := hB1.size))
        refine ⟨⟨k + 1, A1, gm + 1, c1, (o ++ [x]), true, by omega, by go_num, rfl, rfl, Lib.hid zz1, Lib.hid ?_, by have := HL.out; omega, Lib.hid hB1, by omega⟩, by simp [intOf]; omega⟩
        rw [← HI.out, withG, h1, h2]
        simp
      · have ba1 : Below wq.heap.size wq (wq.alloc (.cells #[.int .i64 n] 3)) := (Below.refl _ _).alloc (Nat.le_refl _) _
        have zg1 := HZ.out.below ba1 (Nat.le_refl _)
        gi_wp2_with (first
          | (gi_at_builtin; refine wpListIn_append_own _ rfl _ _ 22 rfl w.heap.size 3 i0 _ 1 8 Tryz.underlying22 hi hz0 hz1 hz2 rfl (by decide) _ _ _ rfl zg1 ⟨wq.heap.size, 0, none⟩ 1 1 [.int .i64 n] rfl rfl (cell_one_new _ _ _) (by simp [Value.oneCell']) (by simp only [maxLen]; omega) (by omega) (by simp; omega) ?_
             intro v1 w1 hown1 hgrow1 _
             obtain ⟨A1, c1, rfl⟩ := own_slice hown1
             have zz1 : Zo w1 w.heap.size A1 (gm + 1) c1 (o ++ [n]) := by
               unfold Zo
               rw [List.map_append]
               exact hown1
             have hsa1 : (wq.alloc (.cells #[.int .i64 n] 3)).heap.size = wq.heap.size + 1 := by simp
             have hB1 : Below w.heap.size w w1 := (HB.out.trans (ba1.mono (by omega))).grown hgrow1 (by rw [hsa1]; omega) (fun r e => by have := (zg1.lt r e).1; omega)
             have hsz1 := hB1.size))
        refine ⟨⟨k + 1, A1, gm + 1, c1, (o ++ [n]), true, by omega, by go_num, rfl, rfl, Lib.hid zz1, Lib.hid ?_, by have := HL.out; omega, Lib.hid hB1, by omega⟩, by simp [intOf]; omega⟩
        rw [← HI.out, withG, h1, h2]
        simp
      · gi_wp2
        refine ⟨⟨k + 1, G, gm, gc, (o), true, by omega, by go_num, rfl, rfl, Lib.hid HZ.out, Lib.hid ?_, by have := HL.out; omega, Lib.hid HB.out, by omega⟩, by simp [intOf]; omega⟩
        rw [← HI.out, withG, h1, h2]
        simp
      · have ba1 : Below wq.heap.size wq (wq.alloc (.cells #[.int .i64 n] 3)) := (Below.refl _ _).alloc (Nat.le_refl _) _
        have zg1 := HZ.out.below ba1 (Nat.le_refl _)
        gi_wp2_with (first
          | (gi_at_builtin; refine wpListIn_append_own _ rfl _ _ 22 rfl w.heap.size 3 i0 _ 1 8 Tryz.underlying22 hi hz0 hz1 hz2 rfl (by decide) _ _ _ rfl zg1 ⟨wq.heap.size, 0, none⟩ 1 1 [.int .i64 n] rfl rfl (cell_one_new _ _ _) (by simp [Value.oneCell']) (by simp only [maxLen]; omega) (by omega) (by simp; omega) ?_
             intro v1 w1 hown1 hgrow1 _
             obtain ⟨A1, c1, rfl⟩ := own_slice hown1
             have zz1 : Zo w1 w.heap.size A1 (gm + 1) c1 (o ++ [n]) := by
               unfold Zo
               rw [List.map_append]
               exact hown1
             have hsa1 : (wq.alloc (.cells #[.int .i64 n] 3)).heap.size = wq.heap.size + 1 := by simp
             have hB1 : Below w.heap.size w w1 := (HB.out.trans (ba1.mono (by omega))).grown hgrow1 (by rw [hsa1]; omega) (fun r e => by have := (zg1.lt r e).1; omega)
             have hsz1 := hB1.size
             have ba2 : Below w1.heap.size w1 (w1.alloc (.cells #[.int .i64 x] 3)) := (Below.refl _ _).alloc (Nat.le_refl _) _
             have zg2 := zz1.below ba2 (Nat.le_refl _))
          | (gi_at_builtin; refine wpListIn_append_own _ rfl _ _ 22 rfl w.heap.size 3 i0 _ 1 8 Tryz.underlying22 hi hz0 hz1 hz2 rfl (by decide) _ _ _ rfl zg2 ⟨w1.heap.size, 0, none⟩ 1 1 [.int .i64 x] rfl rfl (cell_one_new _ _ _) (by simp [Value.oneCell']) (by simp only [maxLen]; omega) (by omega) (by simp; omega) ?_
             intro v2 w2 hown2 hgrow2 _
             obtain ⟨A2, c2, rfl⟩ := own_slice hown2
             have zz2 : Zo w2 w.heap.size A2 (gm + 1 + 1) c2 ((o ++ [n]) ++ [x]) := by
               unfold Zo
               rw [List.map_append]
               exact hown2
             have hsa2 : (w1.alloc (.cells #[.int .i64 x] 3)).heap.size = w1.heap.size + 1 := by simp
             have hB2 : Below w.heap.size w w2 := (hB1.trans (ba2.mono (by omega))).grown hgrow2 (by rw [hsa2]; omega) (fun r e => by have := (zg2.lt r e).1; omega)
             have hsz2 := hB2.size))
        refine ⟨⟨k + 1, A2, gm + 1 + 1, c2, (o ++ [n] ++ [x]), true, by omega, by go_num, rfl, rfl, Lib.hid zz2, Lib.hid ?_, by have := HL.out; omega, Lib.hid hB2, by omega⟩, by simp [intOf]; omega⟩
        rw [← HI.out, withG, h1, h2]
        simp
      · have ba1 : Below wq.heap.size wq (wq.alloc (.cells #[.int .i64 x] 3)) := (Below.refl _ _).alloc (Nat.le_refl _) _
        have zg1 := HZ.out.below ba1 (Nat.le_refl _)
        gi_wp2_with (first
          | (gi_at_builtin; refine wpListIn_append_own _ rfl _ _ 22 rfl w.heap.size 3 i0 _ 1 8 Tryz.underlying22 hi hz0 hz1 hz2 rfl (by decide) _ _ _ rfl zg1 ⟨wq.heap.size, 0, none⟩ 1 1 [.int .i64 x] rfl rfl (cell_one_new _ _ _) (by simp [Value.oneCell']) (by simp only [maxLen]; omega) (by omega) (by simp; omega) ?_
             intro v1 w1 hown1 hgrow1 _
             obtain ⟨A1, c1, rfl⟩ := own_slice hown1
             have zz1 : Zo w1 w.heap.size A1 (gm + 1) c1 (o ++ [x]) := by
               unfold Zo
               rw [List.map_append]
               exact hown1
             have hsa1 : (wq.alloc (.cells #[.int .i64 x] 3)).heap.size = wq.heap.size + 1 := by simp
             have hB1 : Below w.heap.size w w1 := (HB.out.trans (ba1.mono (by omega))).grown hgrow1 (by rw [hsa1]; omega) (fun r e => by have := (zg1.lt r e).1; omega)
             have hsz1 := hB1.size))
        refine ⟨⟨k + 1, A1, gm + 1, c1, (o ++ [x]), true, by omega, by go_num, rfl, rfl, Lib.hid zz1, Lib.hid ?_, by have := HL.out; omega, Lib.hid hB1, by omega⟩, by simp [intOf]; omega⟩
        rw [← HI.out, withG, h1, h2]
        simp
    · obtain rfl : k = m := by omega
      have hi0 := HI0.out
      rw [HM.out, List.drop_length] at hi0
      have HI := Lib.hid hi0
      clear hi0 HI0
      cases dn
      · have ba : Below wq.heap.size wq (wq.alloc (.cells #[.int .i64 n] 3)) := (Below.refl _ _).alloc (Nat.le_refl _) _
        have zg1 := HZ.out.below ba (Nat.le_refl _)
        gi_wp2_with (first
          | (gi_at_builtin; refine wpListIn_append_own _ rfl _ _ 22 rfl w.heap.size 3 i0 _ 1 8 Tryz.underlying22 hi hz0 hz1 hz2 rfl (by decide) _ _ _ rfl zg1 ⟨wq.heap.size, 0, none⟩ 1 1 [.int .i64 n] rfl rfl (cell_one_new _ _ _) (by simp [Value.oneCell']) (by simp only [maxLen]; omega) (by omega) (by simp; omega) ?_
             intro v' w3 hown' hgrow _
             obtain ⟨A2, c2, rfl⟩ := own_slice hown'))
        have hsa : (wq.alloc (.cells #[.int .i64 n] 3)).heap.size = wq.heap.size + 1 := by simp
        have hB1 : Below w.heap.size w w3 := (HB.out.trans (ba.mono (by omega))).grown hgrow (by rw [hsa]; omega) (fun r e => by have := (zg1.lt r e).1; omega)
        have zz : Zo w3 w.heap.size A2 (gm + 1) c2 (withG n false l) := by
          unfold Zo
          rw [← HI.out, show withG n false [] = [n] from rfl, List.map_append]
          exact hown'
        refine ⟨_, results_tmp1 rfl _ _, ?_⟩
        exact ⟨A2, gm + 1, c2, rfl, zz, hB1⟩
      · have zg := HZ.out
        rw [show o = withG n false l by rw [← HI.out, show withG n true [] = [] from rfl, List.append_nil]] at zg
        gi_wp2
        refine ⟨_, results_tmp1 rfl _ _, ?_⟩
        exact ⟨G, gm, gc, rfl, zg, HB.out⟩
theorem with_rf (A : Option Addr) (m c : Nat) (l : List Int) (n : Int) (w : World) (hA : Ri7 w w.heap.size A l) (hm : m = l.length) (h6 : m ≤ 100000) :
    Calls Tryz.prog 49 #[.slice A m c, .int .i64 n] w fun e w' => ∃ G gm gc, e = .returned (.slice G gm gc) ∧ Zo w' w.heap.size G gm gc (withG n false l) ∧ Below w.heap.size w w' :=
  (callsIn_wide (n := 6)).1 (with_in A m c l n w hA hm h6)
end Go.Proofs.YtfiaaobpodglmaaGreat
namespace Go.Proofs.YtfiaaobpodglmaaGreat
open Go.RowKit Go.Shelf
set_option linter.unusedVariables false
set_option linter.unusedSimpArgs false
theorem compact_le (l : List Int) : (Lib.compact l).length ≤ l.length := by
  unfold Lib.compact Lib.compactUpTo
  rw [List.length_map]
  exact Nat.le_trans (List.length_filter_le _ _) (by simp)
theorem compact_any (A : Option Addr) (m c : Nat) (l : List Int) (base : Nat) (w : World) (ho : Zo w base A m c l) (h6 : m ≤ 1000000) :
    Calls Tryz.prog 55 #[.slice A m c] w fun e w' => e = .returned (.slice A (Lib.compact l).length c) ∧ Zo w' base A (Lib.compact l).length c (Lib.compact l) ∧ w.grownBy w' (Value.slice A m c).ownBlock := by
  have hl := ho.len
  have hcl : (Lib.compact l).length ≤ l.length := compact_le l
  rcases ho.form with ⟨rfl, rfl, rfl, rfl⟩ | ⟨g, rfl, hbg, hlt, cur, hh, h1, h2, h3, h4⟩
  · refine Calls.mono (Any.slices_Compact_int_empty Tryz.lays2_20 none 0 w : Calls Tryz.prog 55 _ w _) ?_
    rintro e w' ⟨rfl, rfl⟩
    exact ⟨rfl, ho, ⟨rfl, rfl, rfl, Nat.le_refl _, fun _ _ _ => rfl⟩⟩
  · have hH : Go.Sort.Holds (Value.int .i64) w g 0 l.toArray := fun j hj => by
      have hj' : j < m := by rw [hl]; simpa using hj
      rw [Nat.zero_add]
      refine ⟨?_, by simp [World.frozen?, hh]⟩
      simp only [World.cell?, hh, zo_cells h4 hl hj']
      have hj2 : j < l.length := by omega
      simp [List.getD, hj2]
    have h := Any.slices_Compact_int Tryz.lays2_20 g 0 c l w hH (by omega) (by omega)
    rw [← hl] at h
    refine Calls.mono (h : Calls Tryz.prog 55 _ w _) ?_
    rintro e w' ⟨rfl, n, rfl⟩
    generalize hR : (Lib.compact l ++ List.replicate (m - (Lib.compact l).length) 0) = R
    have hRl : R.length = m := by rw [← hR]; simp; omega
    refine ⟨rfl, ?_, ?_⟩
    · have hh' : (Go.Sort.putRow (Value.int .i64) (Go.Sort.ahead w n) g 0 R.toArray).heap[g]? = some (.cells (Go.Sort.putCells (Value.int .i64) 0 R.toArray cur) 3 (0, 0)) := by
        simp [Go.Sort.putRow, Go.Sort.mapBlock, Go.Sort.ahead, Array.getElem?_modify, hh, Go.Sort.onCells]
      refine zo_of_cells hbg hh' (by omega) h2 (by simp [Go.Sort.putCells, h3]) rfl fun j hj => ?_
      have hjl : j < R.length := by omega
      have hjc : j < cur.size := by omega
      simp only [Go.Sort.putCells]
      rw [Array.getElem?_mapIdx, Array.getElem?_eq_getElem hjc]
      simp only [Option.map_some, Nat.sub_zero, Nat.zero_le, true_and, Nat.zero_add]
      rw [if_pos (by simpa using hjl)]
      congr 2
      rw [getElem!_pos _ j (by simpa using hjl)]
      subst hR
      simp [List.getD, hj, List.getElem_append_left]
    · refine ⟨rfl, rfl, rfl, by simp [Go.Sort.putRow, Go.Sort.mapBlock, Go.Sort.ahead], fun k hk hne => ?_⟩
      have hne : g ≠ k := fun e => hne (by rw [e]; rfl)
      simp [Go.Sort.putRow, Go.Sort.mapBlock, Go.Sort.ahead, Array.getElem?_modify, hne]
end Go.Proofs.YtfiaaobpodglmaaGreat
namespace Go.Proofs.YtfiaaobpodglmaaGreat
open Go.RowKit Go.Shelf
attribute [local go_sem] Oper.semAt_some
set_option linter.unusedVariables false
set_option linter.unusedSimpArgs false
def tidF (L : List Pw) : List Int := (thrF 0 L).map Prod.snd
def liveF (L : List Pw) : List Int := Lib.compact (sortZ (tidF L))
set_option maxRecDepth 100000 in
set_option maxHeartbeats 8000000 in
theorem live_in (a : Int) (Ua : Option Addr) (um uc : Nat) (A : Option Addr) (m c : Nat) (L : List Pw) (w : World) (hP : Ps w w.heap.size A L) (hm : m = L.length) (h6 : m ≤ 1000000) (hN : (thrF 0 L).length ≤ 1000000) :
    CallsIn Fence.wide 6 Tryz.prog 17 #[tkV a Ua um uc A m c] w fun e w' => ∃ G gm gc, e = .returned (.slice G gm gc) ∧ Zo w' w.heap.size G gm gc (liveF L) ∧ Below w.heap.size w w' := by
  have k1 := (Blk.new w (tkC a Ua um uc A m c) 27).alloc (.cells #[.slice none 0 0] 22)
  have k3 := Blk.new_ (w.alloc (.cells (tkC a Ua um uc A m c) 27)) #[.slice none 0 0] 22 (n := w.heap.size + 1) (by simp)
  have B0 := ((Below.refl w.heap.size w).alloc (Nat.le_refl _) (.cells (tkC a Ua um uc A m c) 27)).alloc (by simp) (.cells #[.slice none 0 0] 22)
  have hs0 : ((w.alloc (.cells (tkC a Ua um uc A m c) 27)).alloc (.cells #[.slice none 0 0] 22)).heap.size = w.heap.size + 1 + 1 := by simp
  have R0 : IdR (w.heap.size + 1) [] ((w.alloc (.cells (tkC a Ua um uc A m c) 27)).alloc (.cells #[.slice none 0 0] 22)) := ⟨none, 0, 0, k3, zo_nil _ _⟩
  have TH := fun V => callsIn_wide (n := 5) |>.2 (threads_any a Ua um uc A m c V)
  have HM := Lib.hid hm
  clear hm k3
  unfold tkV at TH ⊢
  have HTH := Lib.hid TH
  clear TH
  obtain ⟨i0, hi, hz0, hz1, hz2⟩ := info_parts zint_info
  refine callsIn_of_wp_marks Tryz.func17 rfl trivial ?_ rfl
  simp only [Tryz.ntmps17, List.size_toArray, List.length_cons, List.length_nil, Nat.reduceAdd, Nat.reduceSub, Array.replicate_succ, Array.replicate_zero, List.push_toArray, List.append_toArray, List.nil_append, List.cons_append]
  gi_wp2_with (refine wpListIn_load_row rfl 27 (.tmp 1) rfl w.heap.size rfl 27 (tkC a Ua um uc A m c) (0, 0) _ k1.blk Tryz.underlying27 rfl (tk_inf a Ua um uc A m c) ?_)
  generalize (w.alloc (.cells (tkC a Ua um uc A m c) 27)).alloc (.cells #[.slice none 0 0] 22) = wq at k1 B0 hs0 R0 ⊢
  refine ⟨trivial, (HTH.out _).mono ?_⟩
  rintro e w1 ⟨rfl, rfl⟩
  gi_wp2
  have ba : Below wq.heap.size wq (wq.alloc (.cells (tkC a Ua um uc A m c) 27)) := (Below.refl _ _).alloc (Nat.le_refl _) _
  have kT := Blk.new wq (tkC a Ua um uc A m c) 27
  have k1 := k1.below ba k1.lt
  have R1 := R0.below ba
  have B1 := B0.trans (ba.mono B0.size)
  have hs2 : (wq.alloc (.cells (tkC a Ua um uc A m c) 27)).heap.size = wq.heap.size + 1 := by simp
  generalize wq.alloc (.cells (tkC a Ua um uc A m c) 27) = w2 at kT k1 R1 B1 hs2 ⊢
  rw [hs0] at kT hs2
  have hbs : w.heap.size ≤ w.heap.size + 1 + 1 := by omega
  clear ba HTH R0 B0
  have hseq := threads_seq 5 (by omega) w.heap.size (w.heap.size + 1 + 1) m c a Ua um uc A L w2 (hP.below B1 (Nat.le_refl _)) kT HM.out h6 hbs (by omega)
  refine wpIn_rangeFunc_ownG rfl (by omega) (gf := 86) (lb := #[.pointer (some ⟨w.heap.size + 1 + 1, 0, none⟩)]) rfl trivial (enters_of Tryz.func86 (by kernel_rfl) rfl) hseq (fun h k => h.trans k) (fun W l o o' hl h hc hw => ⟨(belowK_b (w := w2) (Nat.le_refl _) W l o o' hl h hc hw).mono (by omega), World.putObj_heap_other (by omega)⟩) (Below.refl _ _) (fun _ => rfl)
    (fun pre W => IdR (w.heap.size + 1) (pre.map Prod.snd) W ∧ (Blk W (w.heap.size + 1 + 1) (tkC a Ua um uc A m c) 27 ∧ (Below w.heap.size w W ∧ w2.heap.size ≤ W.heap.size))) (fun _ _ _ => False) ?hI ?hIx ⟨R1, kT, B1, Nat.le_refl _⟩
    (fun x => { tmps := #[.agg (tkC a Ua um uc A m c), .pointer (some ⟨w.heap.size, 0, none⟩), .slice none 0 0, .pointer (some ⟨w.heap.size + 1, 0, none⟩), undef, .int .i64 x.2, .agg (tkC a Ua um uc A m c), .func (.func 86) #[] #[.pointer (some ⟨w.heap.size + 1 + 1, 0, none⟩)], .int .i64 x.1, .int .i64 x.2, undef, undef, undef, undef, undef, undef, undef, undef], defers := [] })
    ?assign ?body ?done ?stop
  case hI => exact OwnFrom.and (Own.from (I := fun (pre : List (Nat × Int)) W => IdR (w.heap.size + 1) (pre.map Prod.snd) W) (fun s A B row hs hg hr => hs.own hg hr) _) (OwnFrom.and (Own.from (I := fun (pre : List (Nat × Int)) W => Blk W (w.heap.size + 1 + 1) (tkC a Ua um uc A m c) 27) (fun s A B row hs hg hr => blk_own hs hg hr) _) (OwnFrom.and (ownFrom_below (by omega) B1.size) (Own.from (fun s A B row hs hg hr => Nat.le_trans hs hg.size) _)))
  case hIx => exact fun cd => Own.from (fun s A B row hs hg hr => hs) _
  case assign =>
    intro l x W K hK
    gi_wp2
    exact hK
  case body =>
    rintro lp pre ⟨xa, xt⟩ W ⟨hR, kq, hB, hsW⟩ hpl
    simp only
    obtain ⟨G, gm, gc, kg, zg⟩ := hR.r
    have hlg := zg.len
    rw [List.length_map] at hlg
    have hgm : gm ≤ 1000000 := by omega
    have q30 : W.cell? ⟨w.heap.size + 1, 0, none⟩ = some (.slice G gm gc) := kg.cell 0
    have ba : Below W.heap.size W (W.alloc (.cells #[.int .i64 xt] 3)) := (Below.refl _ _).alloc (Nat.le_refl _) _
    have zg1 := zg.below ba (Nat.le_refl _)
    have hbs3 := hB.size
    clear hlg hseq kT k1 R1 B1 hP
    gi_wp2_with (first
      | (gi_at_builtin; refine wpListIn_append_own _ rfl _ _ 22 rfl (w.heap.size + 1 + 1) 3 i0 _ 1 8 Tryz.underlying22 hi hz0 hz1 hz2 rfl (by decide) _ _ _ rfl zg1 ⟨W.heap.size, 0, none⟩ 1 1 [.int .i64 xt] rfl rfl (cell_one_new _ _ _) (by simp [Value.oneCell']) (by simp only [maxLen]; omega) (by omega) (by simp; omega) ?_
         intro v' w3 hown' hgrow _
         obtain ⟨A2, c2, rfl⟩ := own_slice hown'
         have kg2 := kg.below ba kg.lt
         have kg3 : Blk w3 (w.heap.size + 1) #[.slice G gm gc] 22 := ⟨(hgrow.block _ kg2.lt (fun e => by have := (zg1.lt _ e.symm).1; omega)).trans kg2.blk⟩
         have q33 : w3.cell? ⟨w.heap.size + 1, 0, none⟩ = some (.slice G gm gc) := kg3.cell 0
         have f33 := kg3.frozen 0))
    have bS : But (w.heap.size + 1) w3 (w3.setCell ⟨w.heap.size + 1, 0, none⟩ (.slice A2 (gm + 1) c2)) := (But.refl _ w3).setCell (p := ⟨w.heap.size + 1, 0, none⟩) (.inl rfl) _
    have hsa : (W.alloc (.cells #[.int .i64 xt] 3)).heap.size = W.heap.size + 1 := by simp
    have hs3g : W.heap.size + 1 ≤ w3.heap.size := by have := hgrow.size; rw [hsa] at this; exact this
    have B3 : Below w.heap.size w w3 := (hB.trans (ba.mono hB.size)).grown hgrow (by rw [hsa]; omega) (fun r e => by have := (zg1.lt r e).1; omega)
    have B4 := B3.trans (bS.below _ (by omega) B3.size)
    have kg4 := kg3.set_ 0 (.slice A2 (gm + 1) c2)
    have zz : Zo w3 (w.heap.size + 1 + 1) A2 (gm + 1) c2 ((pre ++ [(xa, xt)]).map Prod.snd) := by
      unfold Zo
      rw [List.map_append, List.map_append]
      exact hown'
    have z4 := own_but zz bS (fun e => by have := (zz.lt _ e.symm).1; omega)
    have hrow : ∀ r, (Value.slice G gm gc).ownBlock = some r → ∃ cs, (W.alloc (.cells #[.int .i64 xt] 3)).heap[r]? = some (.cells cs 3 (0, 0)) := fun r e => by
      rcases zg1.form with ⟨rfl, _, _, _⟩ | ⟨g9, rfl, _, _, cur, hh, _⟩
      · cases e
      · have e9 : some g9 = some r := e
        cases e9
        exact ⟨cur, hh⟩
    have kp : KeepsFrom (w.heap.size + 1 + 1 + 1) W (w3.setCell ⟨w.heap.size + 1, 0, none⟩ (.slice A2 (gm + 1) c2)) := ((keeps_grownT (grown_of_belowT ba) (fun r e => by cases e)).trans (keeps_grownT hgrow hrow)).trans (keeps_butT bS kg3)
    have bW : Below w.heap.size W (w3.setCell ⟨w.heap.size + 1, 0, none⟩ (.slice A2 (gm + 1) c2)) := ((ba.mono hbs3).grown hgrow (by rw [hsa]; omega) (fun r e => by have := (zg1.lt r e).1; omega)).trans (bS.below _ (by omega) (by omega))
    have kq1 := kq.below ba kq.lt
    have hqr : some (w.heap.size + 1 + 1) ≠ (Value.slice G gm gc).ownBlock := fun e => by
      obtain ⟨cs, hcs⟩ := hrow _ e.symm
      have := kq1.blk
      rw [hcs] at this
      have h9 : (3 : TypeId) = 27 := by injection this with this; injection this
      exact absurd h9 (by decide)
    have kq3 : Blk w3 (w.heap.size + 1 + 1) (tkC a Ua um uc A m c) 27 := ⟨(hgrow.block _ kq1.lt hqr).trans kq1.blk⟩
    have kq9 := bS.blk7 kq3 (by omega)
    exact ⟨by rw [hs2]; exact kp, ⟨bW, kq9.blk.trans kq.blk.symm⟩, ⟨A2, gm + 1, c2, kg4, z4⟩, kq9, B4, by have := bS.size; omega⟩
  case done =>
    rintro D xs W hD hS ⟨hR, kq, hB, hsW⟩ hK
    obtain ⟨G, gm, gc, kg, zg⟩ := hR.r
    rw [hS] at zg
    have hlg := zg.len
    rw [List.length_map] at hlg
    have hgm6 : gm ≤ 1000000 := by omega
    have q3 : W.cell? ⟨w.heap.size + 1, 0, none⟩ = some (.slice G gm gc) := kg.cell 0
    have hso := callsIn_wide (n := 5) |>.2 (sort_any G gm gc _ _ W zg hgm6)
    have HKD := Lib.hid hK
    clear hlg hseq hR kT k1 R1 B1 hK hS hN hP
    gi_wp2
    refine ⟨trivial, hso.mono ?_⟩
    rintro e V ⟨rfl, zv, hgr⟩
    have kgv : Blk V (w.heap.size + 1) #[.slice G gm gc] 22 := ⟨(hgr.block _ kg.lt (fun e => by have := (zg.lt _ e.symm).1; omega)).trans kg.blk⟩
    have q3v : V.cell? ⟨w.heap.size + 1, 0, none⟩ = some (.slice G gm gc) := kgv.cell 0
    have bv : Below w.heap.size w V := hB.grown hgr (by omega) (fun r e => by have := (zg.lt r e).1; omega)
    have hco := callsIn_wide (n := 5) |>.2 (compact_any G gm gc _ _ V zv hgm6)
    have hVs := hgr.size
    have hne : some D ≠ (Value.slice G gm gc).ownBlock := fun e => by
      rcases zg.form with ⟨rfl, _, _, _⟩ | ⟨g9, rfl, _, _, cur, hh, _⟩
      · cases e
      · have e9 : some D = some g9 := e
        cases e9
        have := HKD.out
        rw [hh] at this
        cases this
    have hDW : D < W.heap.size := (Array.getElem?_eq_some_iff.1 HKD.out).1
    have hKV : V.heap[D]? = some (.deferred (some [])) := (hgr.block D hDW hne).trans HKD.out
    have HKV := Lib.hid hKV
    clear hso q3 kg hKV
    gi_wp2
    refine ⟨trivial, hco.mono ?_⟩
    clear hco
    rintro e X ⟨rfl, zx, hgx⟩
    have bx : Below w.heap.size w X := bv.grown hgx (by omega) (fun r e => by have := (zv.lt r e).1; omega)
    have hKX : X.heap[D]? = some (.deferred (some [])) := (hgx.block D (by omega) hne).trans HKV.out
    have HKX := Lib.hid hKX
    clear hKX
    gi_wp2
    have hg3 := grownBy_putObj' X D (.deferred none)
    have hr3 : ∀ r, some D = some r → ∃ o : Obj, X.heap[r]? = some o ∧ o.isCells = false := fun r e => by cases e; exact ⟨_, HKX.out, rfl⟩
    refine ⟨by simp, .inl ⟨_, _, rfl, run_takeDeferred HKX.out, ?_⟩⟩
    exact ⟨_, results_tmp1 rfl _ _, _, _, _, rfl, (zo_own zx hg3 hr3).down (by omega), bx.trans (belowK_b (w := w) (Nat.le_refl _) X D _ _ (by omega) HKX.out rfl rfl)⟩
  case stop =>
    rintro D cd pre W hD _ hF
    exact hF.elim
theorem live_any (a : Int) (Ua : Option Addr) (um uc : Nat) (A : Option Addr) (m c : Nat) (L : List Pw) (w : World) (hP : Ps w w.heap.size A L) (hm : m = L.length) (h6 : m ≤ 1000000) (hN : (thrF 0 L).length ≤ 1000000) :
    Calls Tryz.prog 17 #[tkV a Ua um uc A m c] w fun e w' => ∃ G gm gc, e = .returned (.slice G gm gc) ∧ Zo w' w.heap.size G gm gc (liveF L) ∧ Below w.heap.size w w' :=
  (callsIn_wide (n := 6)).1 (live_in a Ua um uc A m c L w hP hm h6 hN)
end Go.Proofs.YtfiaaobpodglmaaGreat
namespace Go.Proofs.YtfiaaobpodglmaaGreat
open Go.RowKit Go.Shelf
set_option linter.unusedVariables false
set_option linter.unusedSimpArgs false
def withs (o : List Int) : List Int → List Int
  | [] => o
  | t :: l => withs (withG t false o) l
theorem withs_app : ∀ (l l2 o : List Int), withs o (l ++ l2) = withs (withs o l) l2
  | [], l2, o => rfl
  | t :: l, l2, o => withs_app l l2 (withG t false o)
theorem withG_len (n : Int) : ∀ (l : List Int) (d : Bool), (withG n d l).length ≤ l.length + (if d then 0 else 1)
  | [], d => by cases d <;> simp [withG]
  | x :: l, d => by
    unfold withG
    have h := withG_len n l (d || decide (n ≤ x))
    simp only [List.length_append, List.length_cons]
    obtain ⟨e, he⟩ : ∃ e, (if (x != n) = true then [x] else []) = e := ⟨_, rfl⟩
    have h1 : e.length ≤ 1 := by rw [← he]; split <;> simp
    rw [he]
    cases d
    · by_cases hn : n ≤ x
      · simp [hn] at h ⊢; omega
      · simp [hn] at h ⊢; omega
    · simp at h ⊢; omega
theorem tidF_snd : ∀ (L : List Pw) (k j : Nat), (thrF k L).map Prod.snd = (thrF j L).map Prod.snd
  | [], _, _ => rfl
  | x :: L, k, j => by
    rw [thrF, thrF, List.map_append, List.map_append, tidF_snd L (k + 1) (j + 1)]
    congr 1
    simp [List.map_map, Function.comp_def]
theorem tidF_cons (x : Pw) (L : List Pw) : tidF (x :: L) = x.1.t ++ tidF L := by
  unfold tidF
  rw [thrF, List.map_append, tidF_snd L (0 + 1) 0]
  congr 1
  simp [List.map_map, Function.comp_def]
theorem tidF_drop {L : List Pw} {k : Nat} (h : k < L.length) : tidF (L.drop k) = (L.getD k pw0).1.t ++ tidF (L.drop (k + 1)) := by
  rw [List.drop_eq_getElem_cons h, tidF_cons]
  simp [List.getD, h]
set_option maxRecDepth 100000 in
set_option maxHeartbeats 8000000 in
theorem rlive_tk (a : Int) (Ua : Option Addr) (um uc : Nat) (A : Option Addr) (m c : Nat) (L : List Pw) (w : World) (hP : Ps w w.heap.size A L) (hm : m = L.length) (h6 : m ≤ 1000000) (hN : (tidF L).length ≤ 1000) :
    Calls Tryz.prog 18 #[tkV a Ua um uc A m c] w fun e w' => ∃ G gm gc, e = .returned (.slice G gm gc) ∧ Zo w' w.heap.size G gm gc (withs [] (tidF L)) ∧ Below w.heap.size w w' := by
  have k1 := Blk.new w (tkC a Ua um uc A m c) 27
  have B0 := (Below.refl w.heap.size w).alloc (Nat.le_refl _) (.cells (tkC a Ua um uc A m c) 27)
  have q2 : (w.alloc (.cells (tkC a Ua um uc A m c) 27)).cell? ⟨w.heap.size, 2, none⟩ = some (.slice A m c) := k1.cell 2
  have HM := Lib.hid hm
  clear hm
  obtain ⟨E, hE⟩ : ∃ E, withs [] (tidF L) = E := ⟨_, rfl⟩
  rw [hE]
  have HE := Lib.hid (show E = withs [] (tidF (L.drop 0)) by rw [List.drop_zero, hE])
  have HN := Lib.hid (show ([] : List Int).length + (tidF (L.drop 0)).length ≤ 1000 by simpa using hN)
  clear hE hN
  unfold tkV
  go_enter Tryz.func18, Tryz.ntmps18
  go_wp2_with fail
  clear q2 k1
  go_loopw [3, 11] (fun q i wr' => ∃ (k : Nat) (G : Option Addr) (gm gc : Nat) (o : List Int) (wr : World), wr = wr' ∧ k ≤ m ∧ i = .int .i64 k ∧ q = .slice G gm gc ∧ Hid (Zo wr w.heap.size G gm gc o) ∧ Hid (E = withs o (tidF (L.drop k))) ∧ Hid (o.length + (tidF (L.drop k)).length ≤ 1000) ∧ Below w.heap.size w wr) (fun _ i _ => m - (intOf i).toNat)
  case atStart => exact ⟨0, none, 0, 0, [], _, rfl, Nat.zero_le _, rfl, rfl, Lib.hid (zo_nil _ _), HE, HN, B0⟩
  case round =>
    clear B0 HE HN
    obtain ⟨k, G, gm, gc, o, wr, hwr, hk, rfl, rfl, HZ, HI0, HL0, hB⟩ := hrel
    subst hwr
    by_cases hlt : k < m
    · have hlt' : (k : Int) < (m : Int) := by omega
      have hkl : k < L.length := by have := HM.out; omega
      obtain ⟨b, off, rfl, hb, hc⟩ := (hP.below hB (Nat.le_refl _)).at_ k hkl
      have hT := hP.at' hkl
      have hi := HI0.out
      have hl := HL0.out
      rw [tidF_drop hkl] at hi hl
      clear HI0 HL0
      generalize L.getD k pw0 = x at hc hi hl hT
      obtain ⟨R, hR⟩ : ∃ R, tidF (L.drop (k + 1)) = R := ⟨_, rfl⟩
      rw [hR] at hi hl
      have HR := Lib.hid hR
      have HI := Lib.hid (show E = withs o (x.1.t.drop 0 ++ R) by rw [List.drop_zero]; exact hi)
      have HL := Lib.hid (show o.length + (x.1.t.drop 0 ++ R).length ≤ 1000 by rw [List.drop_zero]; exact hl)
      clear hR hi hl
      have hs3 : (prC x).size = 3 := pr_size x
      go_wp2_with (first
        | (refine wpList_load_mid rfl 49 (.tmp 13) rfl b (off + k * 3) rfl (prC x).toList _ hc Tryz.underlying49 rfl (pr_infL x) ?_)
        | (refine wpList_store_blk rfl 49 (.tmp 5) (.tmp 14) rfl wr.heap.size (prC pw0) (prC x) 49 rfl rfl (Blk.new _ _ _) rfl (pr_inf x) (pr_one x) ?_
           intro W1 k4 n4
           have bb : Below wr.heap.size wr W1 := ((Below.refl _ wr).alloc (Nat.le_refl _) _).trans (n4.below _ (Nat.le_refl _) (by simp))
           have q2 : W1.cell? ⟨wr.heap.size, 2, none⟩ = some (.slice x.2.1 x.1.t.length x.2.2) := k4.cell 2
           have B1 := hB.trans (bb.mono hB.size)
           have HZ1 := Lib.hid (HZ.out.below bb (Nat.le_refl _))
           clear n4 bb HZ))
      have HT := Lib.hid hT.ri
      have hN6 := hT.l
      clear hT
      clear q2 k4 hc
      obtain ⟨N, hN⟩ : ∃ N, x.1.t.length = N := ⟨_, rfl⟩
      obtain ⟨XA, hXA⟩ : ∃ a, x.2.1 = a := ⟨_, rfl⟩
      have HNN := Lib.hid hN
      have HXA := Lib.hid hXA
      simp only [hN, hXA]
      rw [hN] at hN6
      clear hN hXA
      have hsW := B1.size
      go_loopw [3, 18] (fun q i wr' => ∃ (u : Nat) (G : Option Addr) (gm gc : Nat) (o : List Int) (wz : World), wz = wr' ∧ u ≤ N ∧ i = .int .i64 u ∧ q = .slice G gm gc ∧ Hid (Zo wz w.heap.size G gm gc o) ∧ Hid (E = withs o (x.1.t.drop u ++ R)) ∧ Hid (o.length + (x.1.t.drop u ++ R).length ≤ 1000) ∧ Below w.heap.size w wz) (fun _ i _ => N - (intOf i).toNat)
      case atStart => exact ⟨0, G, gm, gc, o, _, rfl, Nat.zero_le _, rfl, rfl, HZ1, HI, HL, B1⟩
      case round =>
        clear HZ1 HI HL B1 hsW hB hs3
        obtain ⟨u, G, gm, gc, o, wz, hwz, hu, rfl, rfl, HZ, HI, HL, hBz⟩ := hrel
        subst hwz
        by_cases hun : u < N
        · have hun' : (u : Int) < (N : Int) := by omega
          have hul : u < x.1.t.length := by have := HNN.out; omega
          obtain ⟨bq, oq, hAq, hbq, hcq⟩ := (HT.out.below hBz (Nat.le_refl _)) u hul
          obtain rfl : XA = some ⟨bq, oq, none⟩ := HXA.out.symm.trans hAq
          have hi := HI.out
          have hl := HL.out
          rw [List.drop_eq_getElem_cons hul, show x.1.t[u] = x.1.t.getD u 0 by simp [List.getD, hul], List.cons_append] at hi hl
          clear HI HL
          generalize x.1.t.getD u 0 = t at hcq hi hl
          have HI := Lib.hid (show E = withs (withG t false o) (x.1.t.drop (u + 1) ++ R) from hi)
          have HL := Lib.hid (show (withG t false o).length + (x.1.t.drop (u + 1) ++ R).length ≤ 1000 by
            have h1 := withG_len t o false
            simp only [List.length_cons] at hl
            simp only [Bool.false_eq_true, if_false] at h1
            omega)
          have hW := Lib.hid (with_rf G gm gc o t wz HZ.out.ri HZ.out.len (by have := HZ.out.len; simp only [List.length_cons] at hl; omega))
          clear hi hl
          go_wp2_with (first
            | (refine hW.out.mono ?_
               clear hW
               rintro e W2 ⟨G2, gm2, gc2, rfl, z2, b2⟩
               have B2 := hBz.trans (b2.mono hBz.size)
               have HZ2 := Lib.hid (z2.down hBz.size)
               clear z2 b2 HZ))
          go_roundw
          case rel => exact ⟨u + 1, G2, gm2, gc2, _, _, rfl, by omega, by go_num, rfl, HZ2, HI, HL, B2⟩
          case measure => simp [intOf]; omega
        · obtain rfl : N = u := by omega
          have hi := HI.out
          have hl := HL.out
          rw [List.drop_of_length_le (by have := HNN.out; omega), List.nil_append] at hi hl
          have HI1 := Lib.hid (show E = withs o (tidF (L.drop (k + 1))) by rw [HR.out]; exact hi)
          have HL1 := Lib.hid (show o.length + (tidF (L.drop (k + 1))).length ≤ 1000 by rw [HR.out]; exact hl)
          clear hi hl HI HL
          go_wp2_with fail
          go_roundw
          case rel => exact ⟨k + 1, G, gm, gc, o, _, rfl, by omega, by go_num, rfl, HZ, HI1, HL1, hBz⟩
          case measure => simp [intOf]; omega
    · obtain rfl : k = m := by omega
      have hi := HI0.out
      rw [List.drop_of_length_le (by have := HM.out; omega)] at hi
      have HI := Lib.hid (show E = o from hi)
      clear hi HI0
      go_wp2_with fail
      go_ret
      exact ⟨G, gm, gc, rfl, by rw [HI.out]; exact HZ.out, hB⟩
end Go.Proofs.YtfiaaobpodglmaaGreat
