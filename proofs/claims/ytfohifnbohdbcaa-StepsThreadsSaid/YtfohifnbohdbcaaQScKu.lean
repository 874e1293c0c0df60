/-
  The reference: putLock.
-/
import Derived.Test.YtfohifnbohdbcaaQScKp
import Derived.BigQuiet
import Derived.Deep.MidRow
namespace Go.Proofs.Ytfohifnbohdbcaa
open Go.RowKit Go.Shelf
set_option linter.unusedVariables false
set_option linter.unusedSimpArgs false
def putG {α : Type} (num : α → Int) (x : α) : Bool → List α → List α
  | put, [] => if put = true then [] else [x]
  | put, y :: l => (if (!put && decide (num x ≤ num y)) = true then [x] else []) ++ ((if (num y != num x) = true then [y] else []) ++ putG num x (put || decide (num x ≤ num y)) l)
set_option maxRecDepth 100000 in
set_option maxHeartbeats 8000000 in
theorem put_K (A : Option Addr) (m c : Nat) (L : List Kw) (x : Kw) (w : World) (hA : RsK w w.heap.size A L) (hm : m = L.length) (h6 : m ≤ 100000) :
    Calls Try.prog 45 #[.slice A m c, .agg (kwC x)] w fun e w' => ∃ G gm gc, e = .returned (.slice G gm gc) ∧ RoK w' w.heap.size G gm gc (putG numK x (x.1.o == 0) L) ∧ Below w.heap.size w w' := by
  have k3 := Blk.new w (kwC x) 48
  have B0 := (Below.refl w.heap.size w).alloc (Nat.le_refl _) (.cells (kwC x) 48)
  have hg3 : w.heap.size < (w.alloc (.cells (kwC x) 48)).heap.size := k3.lt
  have qo : (w.alloc (.cells (kwC x) 48)).cell? ⟨w.heap.size, 1, none⟩ = some (.int .i64 x.1.o) := k3.cell 1
  have HM := Lib.hid hm
  have HA := Lib.hid hA
  clear hm hA
  go_enter Try.func45, Try.ntmps45
  go_wp2_with fail
  clear qo
  go_loopw [5, 6, 7] (fun ov pv iv wr' => ∃ (k : Nat) (wr : World) (G : Option Addr) (gm gc : Nat) (pt : Bool) (pre : List Kw), wr = wr' ∧ k ≤ m ∧ ov = .slice G gm gc ∧ pv = .bool pt ∧ iv = .int .i64 k ∧ Hid (RoK wr (w.heap.size + 1) G gm gc pre) ∧ Hid (pre ++ putG numK x pt (L.drop k) = putG numK x (x.1.o == 0) L) ∧ gm ≤ 2 * k ∧ Blk wr w.heap.size (kwC x) 48 ∧ Below w.heap.size w wr) (fun _ _ iv _ => m - (intOf iv).toNat)
  case atStart => exact ⟨0, _, none, 0, 0, _, [], rfl, Nat.zero_le _, rfl, rfl, rfl, Lib.hid (ro_nilK _ _), Lib.hid (by rw [List.drop_zero, List.nil_append]), Nat.zero_le _, k3, B0⟩
  case round =>
    clear k3 B0 hg3
    obtain ⟨k, wr, G, gm, gc, pt, pre, hwr, hk, rfl, rfl, rfl, HZ, HP, hgm, k3, hB⟩ := hrel
    subst hwr
    by_cases hlt : k < m
    · have hlt' : (k : Int) < (m : Int) := by omega
      have hkl : k < L.length := by have := HM.out; omega
      obtain ⟨b, off, rfl, hb, hc⟩ := (HA.out.below hB (Nat.le_refl _)) k hkl
      have hP := HP.out
      rw [List.drop_eq_getElem_cons hkl, show L[k] = L.getD k kw0 by simp [List.getD, hkl], putG] at hP
      have HPT := Lib.hid hP
      have hy0 : wr.cell? ⟨b, off + k * 3, none⟩ = some (.int .i64 (numK (L.getD k kw0))) := hc 0 _ rfl
      have hx0 : wr.cell? ⟨w.heap.size, 0, none⟩ = some (.int .i64 (numK x)) := k3.cell 0
      generalize L.getD k kw0 = y at hc HPT hy0
      clear HP hP hkl
      have hsz : w.heap.size + 1 ≤ wr.heap.size := k3.lt
      have Z := HZ.out
      clear HZ
      cases pt
      · cases hle : decide (numK x ≤ numK y)
        · cases hne : (numK y != numK x)
          · have HN := Lib.hid (show pre ++ putG numK x false (L.drop (k + 1)) = putG numK x (x.1.o == 0) L by
              rw [← HPT.out, hne, hle]
              simp)
            clear HPT
            go_wp2_with fail
            go_quiet (fail)
            have bq : Below wr.heap.size wr (wr.drewN nq) := below_drewN (Below.refl _ _) nq
            have bb : Below (w.heap.size + 1) wr (wr.drewN nq) := bq.mono hsz
            replace Z := Z.below bq (Nat.le_refl _)
            clear bq
            replace hc := range_below3 hc bb (by omega)
            replace hy0 := (bb.cell (p := ⟨b, off + k * 3, none⟩) (by show b < _; omega)).trans hy0
            replace hx0 := (bb.cell (p := ⟨w.heap.size, 0, none⟩) (Nat.lt_succ_self _)).trans hx0
            replace k3 := k3.below bb (Nat.lt_succ_self _)
            replace hB := hB.trans (bb.mono (Nat.le_succ _))
            replace hsz := Nat.le_trans hsz bb.size
            clear bb
            generalize wr.drewN nq = w1 at Z hc hy0 hx0 k3 hB hsz ⊢
            go_wp2_with fail
            go_quiet (fail)
            have bq : Below w1.heap.size w1 (w1.drewN nq) := below_drewN (Below.refl _ _) nq
            have bb : Below (w.heap.size + 1) w1 (w1.drewN nq) := bq.mono hsz
            replace Z := Z.below bq (Nat.le_refl _)
            clear bq
            replace hc := range_below3 hc bb (by omega)
            replace hy0 := (bb.cell (p := ⟨b, off + k * 3, none⟩) (by show b < _; omega)).trans hy0
            replace hx0 := (bb.cell (p := ⟨w.heap.size, 0, none⟩) (Nat.lt_succ_self _)).trans hx0
            replace k3 := k3.below bb (Nat.lt_succ_self _)
            replace hB := hB.trans (bb.mono (Nat.le_succ _))
            replace hsz := Nat.le_trans hsz bb.size
            clear bb
            generalize w1.drewN nq = w2 at Z hc hy0 hx0 k3 hB hsz ⊢
            go_wp2_with fail
            go_roundw
            case rel => exact ⟨k + 1, _, G, gm, gc, false, pre, rfl, by omega, rfl, rfl, by go_num, Lib.hid Z, HN, by omega, k3, hB⟩
            case measure => simp [intOf]; omega
          · have HN := Lib.hid (show (pre ++ [y]) ++ putG numK x false (L.drop (k + 1)) = putG numK x (x.1.o == 0) L by
              rw [← HPT.out, hne, hle]
              simp)
            clear HPT
            go_wp2_with fail
            go_quiet (fail)
            have bq : Below wr.heap.size wr (wr.drewN nq) := below_drewN (Below.refl _ _) nq
            have bb : Below (w.heap.size + 1) wr (wr.drewN nq) := bq.mono hsz
            replace Z := Z.below bq (Nat.le_refl _)
            clear bq
            replace hc := range_below3 hc bb (by omega)
            replace hy0 := (bb.cell (p := ⟨b, off + k * 3, none⟩) (by show b < _; omega)).trans hy0
            replace hx0 := (bb.cell (p := ⟨w.heap.size, 0, none⟩) (Nat.lt_succ_self _)).trans hx0
            replace k3 := k3.below bb (Nat.lt_succ_self _)
            replace hB := hB.trans (bb.mono (Nat.le_succ _))
            replace hsz := Nat.le_trans hsz bb.size
            clear bb
            generalize wr.drewN nq = w1 at Z hc hy0 hx0 k3 hB hsz ⊢
            go_wp2_with fail
            go_quiet (fail)
            have bq : Below w1.heap.size w1 (w1.drewN nq) := below_drewN (Below.refl _ _) nq
            have bb : Below (w.heap.size + 1) w1 (w1.drewN nq) := bq.mono hsz
            replace Z := Z.below bq (Nat.le_refl _)
            clear bq
            replace hc := range_below3 hc bb (by omega)
            replace hy0 := (bb.cell (p := ⟨b, off + k * 3, none⟩) (by show b < _; omega)).trans hy0
            replace hx0 := (bb.cell (p := ⟨w.heap.size, 0, none⟩) (Nat.lt_succ_self _)).trans hx0
            replace k3 := k3.below bb (Nat.lt_succ_self _)
            replace hB := hB.trans (bb.mono (Nat.le_succ _))
            replace hsz := Nat.le_trans hsz bb.size
            clear bb
            generalize w1.drewN nq = w2 at Z hc hy0 hx0 k3 hB hsz ⊢
            have hcy : World.rangeAt w2 b (off + k * 3) [.int .i64 y.1.n, .int .i64 y.1.o, .slice y.2.1 y.1.q.length y.2.2] := hc
            go_wp2_with (first
              | (refine wpList_load_mid rfl 48 (.tmp 44) rfl b (off + k * 3) rfl _ _ hcy Try.underlying48 rfl (kw_infL y) ?_)
              | (at_builtin; (change wpList Try.prog _ _ _ _ (w2.alloc (.cells (kwC y) 48))); (refine wpList_app1K rfl (.tmp 41) (.tmp 46) rfl (w.heap.size + 1) _ gm _ pre rfl (Z.below ((Below.refl _ w2).alloc (Nat.le_refl _) _) (Nat.le_refl _)) y w2.heap.size rfl (Blk.new w2 (kwC y) 48).blk (by omega) (Nat.le_trans hsz (by simp)) ?_)
                 intro A3 c3 w3 z3 hgr3 b3
                 have bb : Below (w.heap.size + 1) w2 (w3) := ((Below.refl (w.heap.size + 1) w2).alloc hsz (.cells (kwC y) 48)).trans b3
                 clear Z hgr3 b3
                 have Z := z3
                 replace hc := range_below3 hc bb (by omega)
                 replace hy0 := (bb.cell (p := ⟨b, off + k * 3, none⟩) (by show b < _; omega)).trans hy0
                 replace hx0 := (bb.cell (p := ⟨w.heap.size, 0, none⟩) (Nat.lt_succ_self _)).trans hx0
                 replace k3 := k3.below bb (Nat.lt_succ_self _)
                 replace hB := hB.trans (bb.mono (Nat.le_succ _))
                 replace hsz := Nat.le_trans hsz bb.size
                 clear bb))
            go_roundw
            case rel => exact ⟨k + 1, _, A3, (gm + 1), c3, false, (pre ++ [y]), rfl, by omega, rfl, rfl, by go_num, Lib.hid Z, HN, by omega, k3, hB⟩
            case measure => simp [intOf]; omega
        · cases hne : (numK y != numK x)
          · have HN := Lib.hid (show (pre ++ [x]) ++ putG numK x true (L.drop (k + 1)) = putG numK x (x.1.o == 0) L by
              rw [← HPT.out, hne, hle]
              simp)
            clear HPT
            go_wp2_with fail
            go_quiet (fail)
            have bq : Below wr.heap.size wr (wr.drewN nq) := below_drewN (Below.refl _ _) nq
            have bb : Below (w.heap.size + 1) wr (wr.drewN nq) := bq.mono hsz
            replace Z := Z.below bq (Nat.le_refl _)
            clear bq
            replace hc := range_below3 hc bb (by omega)
            replace hy0 := (bb.cell (p := ⟨b, off + k * 3, none⟩) (by show b < _; omega)).trans hy0
            replace hx0 := (bb.cell (p := ⟨w.heap.size, 0, none⟩) (Nat.lt_succ_self _)).trans hx0
            replace k3 := k3.below bb (Nat.lt_succ_self _)
            replace hB := hB.trans (bb.mono (Nat.le_succ _))
            replace hsz := Nat.le_trans hsz bb.size
            clear bb
            generalize wr.drewN nq = w1 at Z hc hy0 hx0 k3 hB hsz ⊢
            go_wp2_with (first
              | (refine wpList_load_row rfl 48 (.tmp 3) rfl w.heap.size rfl 48 #[.int .i64 x.1.n, .int .i64 x.1.o, .slice x.2.1 x.1.q.length x.2.2] (0, 0) _ k3.blk Try.underlying48 rfl (kw_inf x) ?_)
              | (at_builtin; (change wpList Try.prog _ _ _ _ (w1.alloc (.cells (kwC x) 48))); (refine wpList_app1K rfl (.tmp 29) (.tmp 31) rfl (w.heap.size + 1) _ gm _ pre rfl (Z.below ((Below.refl _ w1).alloc (Nat.le_refl _) _) (Nat.le_refl _)) x w1.heap.size rfl (Blk.new w1 (kwC x) 48).blk (by omega) (Nat.le_trans hsz (by simp)) ?_)
                 intro A2 c2 w2 z2 hgr2 b2
                 have bb : Below (w.heap.size + 1) w1 (w2) := ((Below.refl (w.heap.size + 1) w1).alloc hsz (.cells (kwC x) 48)).trans b2
                 clear Z hgr2 b2
                 have Z := z2
                 replace hc := range_below3 hc bb (by omega)
                 replace hy0 := (bb.cell (p := ⟨b, off + k * 3, none⟩) (by show b < _; omega)).trans hy0
                 replace hx0 := (bb.cell (p := ⟨w.heap.size, 0, none⟩) (Nat.lt_succ_self _)).trans hx0
                 replace k3 := k3.below bb (Nat.lt_succ_self _)
                 replace hB := hB.trans (bb.mono (Nat.le_succ _))
                 replace hsz := Nat.le_trans hsz bb.size
                 clear bb))
            go_quiet (fail)
            have bq : Below w2.heap.size w2 (w2.drewN nq) := below_drewN (Below.refl _ _) nq
            have bb : Below (w.heap.size + 1) w2 (w2.drewN nq) := bq.mono hsz
            replace Z := Z.below bq (Nat.le_refl _)
            clear bq
            replace hc := range_below3 hc bb (by omega)
            replace hy0 := (bb.cell (p := ⟨b, off + k * 3, none⟩) (by show b < _; omega)).trans hy0
            replace hx0 := (bb.cell (p := ⟨w.heap.size, 0, none⟩) (Nat.lt_succ_self _)).trans hx0
            replace k3 := k3.below bb (Nat.lt_succ_self _)
            replace hB := hB.trans (bb.mono (Nat.le_succ _))
            replace hsz := Nat.le_trans hsz bb.size
            clear bb
            generalize w2.drewN nq = w3 at Z hc hy0 hx0 k3 hB hsz ⊢
            go_wp2_with fail
            go_roundw
            case rel => exact ⟨k + 1, _, A2, (gm + 1), c2, true, (pre ++ [x]), rfl, by omega, rfl, rfl, by go_num, Lib.hid Z, HN, by omega, k3, hB⟩
            case measure => simp [intOf]; omega
          · have HN := Lib.hid (show ((pre ++ [x]) ++ [y]) ++ putG numK x true (L.drop (k + 1)) = putG numK x (x.1.o == 0) L by
              rw [← HPT.out, hne, hle]
              simp)
            clear HPT
            go_wp2_with fail
            go_quiet (fail)
            have bq : Below wr.heap.size wr (wr.drewN nq) := below_drewN (Below.refl _ _) nq
            have bb : Below (w.heap.size + 1) wr (wr.drewN nq) := bq.mono hsz
            replace Z := Z.below bq (Nat.le_refl _)
            clear bq
            replace hc := range_below3 hc bb (by omega)
            replace hy0 := (bb.cell (p := ⟨b, off + k * 3, none⟩) (by show b < _; omega)).trans hy0
            replace hx0 := (bb.cell (p := ⟨w.heap.size, 0, none⟩) (Nat.lt_succ_self _)).trans hx0
            replace k3 := k3.below bb (Nat.lt_succ_self _)
            replace hB := hB.trans (bb.mono (Nat.le_succ _))
            replace hsz := Nat.le_trans hsz bb.size
            clear bb
            generalize wr.drewN nq = w1 at Z hc hy0 hx0 k3 hB hsz ⊢
            go_wp2_with (first
              | (refine wpList_load_row rfl 48 (.tmp 3) rfl w.heap.size rfl 48 #[.int .i64 x.1.n, .int .i64 x.1.o, .slice x.2.1 x.1.q.length x.2.2] (0, 0) _ k3.blk Try.underlying48 rfl (kw_inf x) ?_)
              | (at_builtin; (change wpList Try.prog _ _ _ _ (w1.alloc (.cells (kwC x) 48))); (refine wpList_app1K rfl (.tmp 29) (.tmp 31) rfl (w.heap.size + 1) _ gm _ pre rfl (Z.below ((Below.refl _ w1).alloc (Nat.le_refl _) _) (Nat.le_refl _)) x w1.heap.size rfl (Blk.new w1 (kwC x) 48).blk (by omega) (Nat.le_trans hsz (by simp)) ?_)
                 intro A2 c2 w2 z2 hgr2 b2
                 have bb : Below (w.heap.size + 1) w1 (w2) := ((Below.refl (w.heap.size + 1) w1).alloc hsz (.cells (kwC x) 48)).trans b2
                 clear Z hgr2 b2
                 have Z := z2
                 replace hc := range_below3 hc bb (by omega)
                 replace hy0 := (bb.cell (p := ⟨b, off + k * 3, none⟩) (by show b < _; omega)).trans hy0
                 replace hx0 := (bb.cell (p := ⟨w.heap.size, 0, none⟩) (Nat.lt_succ_self _)).trans hx0
                 replace k3 := k3.below bb (Nat.lt_succ_self _)
                 replace hB := hB.trans (bb.mono (Nat.le_succ _))
                 replace hsz := Nat.le_trans hsz bb.size
                 clear bb))
            go_quiet (fail)
            have bq : Below w2.heap.size w2 (w2.drewN nq) := below_drewN (Below.refl _ _) nq
            have bb : Below (w.heap.size + 1) w2 (w2.drewN nq) := bq.mono hsz
            replace Z := Z.below bq (Nat.le_refl _)
            clear bq
            replace hc := range_below3 hc bb (by omega)
            replace hy0 := (bb.cell (p := ⟨b, off + k * 3, none⟩) (by show b < _; omega)).trans hy0
            replace hx0 := (bb.cell (p := ⟨w.heap.size, 0, none⟩) (Nat.lt_succ_self _)).trans hx0
            replace k3 := k3.below bb (Nat.lt_succ_self _)
            replace hB := hB.trans (bb.mono (Nat.le_succ _))
            replace hsz := Nat.le_trans hsz bb.size
            clear bb
            generalize w2.drewN nq = w3 at Z hc hy0 hx0 k3 hB hsz ⊢
            have hcy : World.rangeAt w3 b (off + k * 3) [.int .i64 y.1.n, .int .i64 y.1.o, .slice y.2.1 y.1.q.length y.2.2] := hc
            go_wp2_with (first
              | (refine wpList_load_mid rfl 48 (.tmp 44) rfl b (off + k * 3) rfl _ _ hcy Try.underlying48 rfl (kw_infL y) ?_)
              | (at_builtin; (change wpList Try.prog _ _ _ _ (w3.alloc (.cells (kwC y) 48))); (refine wpList_app1K rfl (.tmp 41) (.tmp 46) rfl (w.heap.size + 1) _ (gm + 1) _ (pre ++ [x]) rfl (Z.below ((Below.refl _ w3).alloc (Nat.le_refl _) _) (Nat.le_refl _)) y w3.heap.size rfl (Blk.new w3 (kwC y) 48).blk (by omega) (Nat.le_trans hsz (by simp)) ?_)
                 intro A4 c4 w4 z4 hgr4 b4
                 have bb : Below (w.heap.size + 1) w3 (w4) := ((Below.refl (w.heap.size + 1) w3).alloc hsz (.cells (kwC y) 48)).trans b4
                 clear Z hgr4 b4
                 have Z := z4
                 replace hc := range_below3 hc bb (by omega)
                 replace hy0 := (bb.cell (p := ⟨b, off + k * 3, none⟩) (by show b < _; omega)).trans hy0
                 replace hx0 := (bb.cell (p := ⟨w.heap.size, 0, none⟩) (Nat.lt_succ_self _)).trans hx0
                 replace k3 := k3.below bb (Nat.lt_succ_self _)
                 replace hB := hB.trans (bb.mono (Nat.le_succ _))
                 replace hsz := Nat.le_trans hsz bb.size
                 clear bb))
            go_roundw
            case rel => exact ⟨k + 1, _, A4, ((gm + 1) + 1), c4, true, ((pre ++ [x]) ++ [y]), rfl, by omega, rfl, rfl, by go_num, Lib.hid Z, HN, by omega, k3, hB⟩
            case measure => simp [intOf]; omega
      · cases hne : (numK y != numK x)
        · have HN := Lib.hid (show pre ++ putG numK x true (L.drop (k + 1)) = putG numK x (x.1.o == 0) L by
            rw [← HPT.out, hne]
            simp)
          clear HPT
          go_wp2_with fail
          go_quiet (fail)
          have bq : Below wr.heap.size wr (wr.drewN nq) := below_drewN (Below.refl _ _) nq
          have bb : Below (w.heap.size + 1) wr (wr.drewN nq) := bq.mono hsz
          replace Z := Z.below bq (Nat.le_refl _)
          clear bq
          replace hc := range_below3 hc bb (by omega)
          replace hy0 := (bb.cell (p := ⟨b, off + k * 3, none⟩) (by show b < _; omega)).trans hy0
          replace hx0 := (bb.cell (p := ⟨w.heap.size, 0, none⟩) (Nat.lt_succ_self _)).trans hx0
          replace k3 := k3.below bb (Nat.lt_succ_self _)
          replace hB := hB.trans (bb.mono (Nat.le_succ _))
          replace hsz := Nat.le_trans hsz bb.size
          clear bb
          generalize wr.drewN nq = w1 at Z hc hy0 hx0 k3 hB hsz ⊢
          go_wp2_with fail
          go_quiet (fail)
          have bq : Below w1.heap.size w1 (w1.drewN nq) := below_drewN (Below.refl _ _) nq
          have bb : Below (w.heap.size + 1) w1 (w1.drewN nq) := bq.mono hsz
          replace Z := Z.below bq (Nat.le_refl _)
          clear bq
          replace hc := range_below3 hc bb (by omega)
          replace hy0 := (bb.cell (p := ⟨b, off + k * 3, none⟩) (by show b < _; omega)).trans hy0
          replace hx0 := (bb.cell (p := ⟨w.heap.size, 0, none⟩) (Nat.lt_succ_self _)).trans hx0
          replace k3 := k3.below bb (Nat.lt_succ_self _)
          replace hB := hB.trans (bb.mono (Nat.le_succ _))
          replace hsz := Nat.le_trans hsz bb.size
          clear bb
          generalize w1.drewN nq = w2 at Z hc hy0 hx0 k3 hB hsz ⊢
          go_wp2_with fail
          go_roundw
          case rel => exact ⟨k + 1, _, G, gm, gc, true, pre, rfl, by omega, rfl, rfl, by go_num, Lib.hid Z, HN, by omega, k3, hB⟩
          case measure => simp [intOf]; omega
        · have HN := Lib.hid (show (pre ++ [y]) ++ putG numK x true (L.drop (k + 1)) = putG numK x (x.1.o == 0) L by
            rw [← HPT.out, hne]
            simp)
          clear HPT
          go_wp2_with fail
          go_quiet (fail)
          have bq : Below wr.heap.size wr (wr.drewN nq) := below_drewN (Below.refl _ _) nq
          have bb : Below (w.heap.size + 1) wr (wr.drewN nq) := bq.mono hsz
          replace Z := Z.below bq (Nat.le_refl _)
          clear bq
          replace hc := range_below3 hc bb (by omega)
          replace hy0 := (bb.cell (p := ⟨b, off + k * 3, none⟩) (by show b < _; omega)).trans hy0
          replace hx0 := (bb.cell (p := ⟨w.heap.size, 0, none⟩) (Nat.lt_succ_self _)).trans hx0
          replace k3 := k3.below bb (Nat.lt_succ_self _)
          replace hB := hB.trans (bb.mono (Nat.le_succ _))
          replace hsz := Nat.le_trans hsz bb.size
          clear bb
          generalize wr.drewN nq = w1 at Z hc hy0 hx0 k3 hB hsz ⊢
          go_wp2_with fail
          go_quiet (fail)
          have bq : Below w1.heap.size w1 (w1.drewN nq) := below_drewN (Below.refl _ _) nq
          have bb : Below (w.heap.size + 1) w1 (w1.drewN nq) := bq.mono hsz
          replace Z := Z.below bq (Nat.le_refl _)
          clear bq
          replace hc := range_below3 hc bb (by omega)
          replace hy0 := (bb.cell (p := ⟨b, off + k * 3, none⟩) (by show b < _; omega)).trans hy0
          replace hx0 := (bb.cell (p := ⟨w.heap.size, 0, none⟩) (Nat.lt_succ_self _)).trans hx0
          replace k3 := k3.below bb (Nat.lt_succ_self _)
          replace hB := hB.trans (bb.mono (Nat.le_succ _))
          replace hsz := Nat.le_trans hsz bb.size
          clear bb
          generalize w1.drewN nq = w2 at Z hc hy0 hx0 k3 hB hsz ⊢
          have hcy : World.rangeAt w2 b (off + k * 3) [.int .i64 y.1.n, .int .i64 y.1.o, .slice y.2.1 y.1.q.length y.2.2] := hc
          go_wp2_with (first
            | (refine wpList_load_mid rfl 48 (.tmp 44) rfl b (off + k * 3) rfl _ _ hcy Try.underlying48 rfl (kw_infL y) ?_)
            | (at_builtin; (change wpList Try.prog _ _ _ _ (w2.alloc (.cells (kwC y) 48))); (refine wpList_app1K rfl (.tmp 41) (.tmp 46) rfl (w.heap.size + 1) _ gm _ pre rfl (Z.below ((Below.refl _ w2).alloc (Nat.le_refl _) _) (Nat.le_refl _)) y w2.heap.size rfl (Blk.new w2 (kwC y) 48).blk (by omega) (Nat.le_trans hsz (by simp)) ?_)
               intro A3 c3 w3 z3 hgr3 b3
               have bb : Below (w.heap.size + 1) w2 (w3) := ((Below.refl (w.heap.size + 1) w2).alloc hsz (.cells (kwC y) 48)).trans b3
               clear Z hgr3 b3
               have Z := z3
               replace hc := range_below3 hc bb (by omega)
               replace hy0 := (bb.cell (p := ⟨b, off + k * 3, none⟩) (by show b < _; omega)).trans hy0
               replace hx0 := (bb.cell (p := ⟨w.heap.size, 0, none⟩) (Nat.lt_succ_self _)).trans hx0
               replace k3 := k3.below bb (Nat.lt_succ_self _)
               replace hB := hB.trans (bb.mono (Nat.le_succ _))
               replace hsz := Nat.le_trans hsz bb.size
               clear bb))
          go_roundw
          case rel => exact ⟨k + 1, _, A3, (gm + 1), c3, true, (pre ++ [y]), rfl, by omega, rfl, rfl, by go_num, Lib.hid Z, HN, by omega, k3, hB⟩
          case measure => simp [intOf]; omega
    · have hkm : m = k := by omega
      subst hkm
      have hP := HP.out
      rw [List.drop_of_length_le (by have := HM.out; omega), putG] at hP
      have hZ := HZ.out
      cases pt
      · rw [if_neg (by simp)] at hP
        go_wp2_with (first
          | (refine wpList_load_row rfl 48 (.tmp 3) rfl w.heap.size rfl 48 #[.int .i64 x.1.n, .int .i64 x.1.o, .slice x.2.1 x.1.q.length x.2.2] (0, 0) _ k3.blk Try.underlying48 rfl (kw_inf x) ?_)
          | (at_builtin; (change wpList Try.prog _ _ _ _ (wr.alloc (.cells (kwC x) 48))); (refine wpList_app1K rfl (.tmp 50) (.tmp 52) rfl (w.heap.size + 1) G gm gc pre rfl (hZ.below ((Below.refl _ wr).alloc (Nat.le_refl _) _) (Nat.le_refl _)) x wr.heap.size rfl (Blk.new wr (kwC x) 48).blk (by omega) (Nat.le_trans k3.lt (by simp)) ?_)
             intro A6 c6 w6 rl6 hgr b6))
        go_ret
        exact ⟨A6, gm + 1, c6, rfl, by rw [← hP]; exact rl6.down (by omega), (hB.trans (((Below.refl _ wr).alloc (Nat.le_refl _) (.cells (kwC x) 48)).mono hB.size)).trans (b6.mono (by omega))⟩
      · rw [if_pos rfl, List.append_nil] at hP
        go_wp2_with fail
        go_ret
        exact ⟨G, gm, gc, rfl, by rw [← hP]; exact hZ.down (by omega), hB⟩
end Go.Proofs.Ytfohifnbohdbcaa
