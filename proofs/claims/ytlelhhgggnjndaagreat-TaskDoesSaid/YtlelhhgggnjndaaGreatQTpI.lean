/-
  slices.Insert at processes.
-/
import Derived.Test.YtlelhhgggnjndaaGreatQPiRg
import Derived.Test.YtlelhhgggnjndaaGreatQShift
import Derived.Shelf.Spec.SlicesInsertGrow
import Derived.Laws.CopyRow
import Derived.Lib.Overlaps
namespace Go.Proofs.YtlelhhgggnjndaaGreat
open Go.RowKit Go.Shelf
set_option linter.unusedVariables false
set_option linter.unusedSimpArgs false
theorem run_copyP (w : World) (ty : TypeId) (g o dLen dCap : Nat) (a : Addr) (sLen sCap : Nat) (cur : Array Value) (cs : List Value)
    (hg : w.heap[g]? = some (.cells cur 49 (0, 0))) (hn : cs.length = Nat.min sLen dLen * 3)
    (hsrc : ∀ j v, cs[j]? = some v → w.cell? (a.add j) = some v) (hfit : o + cs.length ≤ cur.size) (h1 : ∀ v ∈ cs, v.oneCell' = true) :
    (Builtin.copy_ #[25, 25] ty #[.slice (some ⟨g, o, none⟩) dLen dCap, .slice (some a) sLen sCap]).run Tryz.prog w =
      .ok (goInt (Nat.min sLen dLen)) (w.setRow g (cur.toList.take o ++ cs ++ cur.toList.drop (o + cs.length)).toArray) := by
  have hl := run_loadCells_list (P := Tryz.prog) w a cs hsrc
  have hst := run_storeCells_at Tryz.prog g o 49 cs 0 cur w hg (by simpa using hfit) h1
  obtain ⟨i, hi, hz, hs1, hb1⟩ := info_parts pr_info3
  rw [hn] at hl
  simp [Builtin.copy_, run_underlying Tryz.underlying25, Builtin.lenOf, Builtin.firstCells, sizeOf, typeInfo, hi, hs1, hl, hst, hn]
theorem flatP_ins (k : Nat) (x : Pw) (L : List Pw) : flatP (insL k x L) = (flatP L).take (k * 3) ++ (prC x).toList ++ (flatP L).drop (k * 3) := by
  unfold insL
  rw [flatP_append, flatP_cons, flatP_take, flatP_drop, List.append_assoc]
set_option maxRecDepth 100000 in
set_option maxHeartbeats 4000000 in
theorem ins_endP (base : Nat) (A : Option Addr) (m c : Nat) (L : List Pw) (x : Pw) (gb : Nat) (w : World) (h : RoP w base A m c L) (hb : w.heap[gb]? = some (.cells (prC x) 49 (0, 0))) (h6 : m + 1 ≤ 100000) (hbase : base ≤ w.heap.size) :
    Calls Tryz.prog 62 #[.slice A m c, .int .i64 m, .slice (some ⟨gb, 0, none⟩) 1 1] w fun e w' => ∃ A' c', e = .returned (.slice A' (m + 1) c') ∧ RoP w' base A' (m + 1) c' (insL m x L) ∧ w.grownBy w' (Value.slice A m c).ownBlock ∧ Below base w w' := by
  have hcap := h.cap
  have HM := Lib.hid h.len
  obtain ⟨mv, hmv⟩ : ∃ mv : Nat, mv = 1 := ⟨1, rfl⟩
  rw [← hmv]
  have hz1 : ¬ ((mv : Int) = 0) := by omega
  have hmm : ((m : Int) == (m : Int)) = true := by simp
  have hz0 : ((mv : Int) == 0) = false := by simp; omega
  have HV := Lib.hid hmv
  clear hmv
  have insE : insL m x L = L ++ [x] := by rw [HM.out]; exact insL_end
  rcases h.form with ⟨rfl, rfl, rfl, rfl⟩ | ⟨g, rfl, hbg, hlt, cur, hh, h1, h2, h3, h4⟩
  · clear hcap HM hmm
    go_enter Tryz.func62, Tryz.ntmps62
    go_wp2_with (at_builtin; refine wpList_app1P rfl (.tmp 23) (.tmp 24) rfl base none 0 0 [] rfl h x gb (by rw [HV.out]; rfl) hb (by omega) hbase (fun A' c' w' q1 q2 q3 => ?_))
    all_goals
      go_ret
      have e1 := HV.out
      subst e1
      exact ⟨A', c', rfl, by first | exact q1 | (rw [insE]; exact q1), q2, q3⟩
  · go_enter Tryz.func62, Tryz.ntmps62
    go_wp2_with (at_builtin; refine wpList_app1P rfl (.tmp 23) (.tmp 24) rfl base (some ⟨g, 0, none⟩) m c L rfl h x gb (by rw [HV.out]; rfl) hb (by omega) hbase (fun A' c' w' q1 q2 q3 => ?_))
    all_goals
      go_ret
      have e1 := HV.out
      subst e1
      exact ⟨A', c', rfl, by first | exact q1 | (rw [insE]; exact q1), q2, q3⟩
theorem sizeOf_ofP {P : Program} {t : TypeId} {z : Value} {n b : Nat} (h : (P.info? t).map (fun i => (i.zero, i.size, i.bytes)) = some (some z, n, b)) (w : World) : (Go.sizeOf t).run P w = .ok n w := by
  obtain ⟨i, hi, hz, hs1, hb1⟩ := info_parts h
  simp [Go.sizeOf, typeInfo, hi, hs1]
set_option maxRecDepth 100000 in
set_option maxHeartbeats 4000000 in
theorem ins_shiftP (base g m c k : Nat) (L : List Pw) (x : Pw) (gb : Nat) (w : World) (h : RoP w base (some ⟨g, 0, none⟩) m c L) (hb : w.heap[gb]? = some (.cells (prC x) 49 (0, 0))) (hgb : gb ≠ g) (h6 : m + 1 ≤ 100000) (hbase : base ≤ w.heap.size) (hk : k < m) (hroom : m + 1 ≤ c) :
    Calls Tryz.prog 62 #[.slice (some ⟨g, 0, none⟩) m c, .int .i64 k, .slice (some ⟨gb, 0, none⟩) 1 1] w fun e w' => ∃ A' c', e = .returned (.slice A' (m + 1) c') ∧ RoP w' base A' (m + 1) c' (insL k x L) ∧ w.grownBy w' (some g) ∧ Below base w w' := by
  have HM := Lib.hid h.len
  obtain ⟨cur, hh, h1, h2, h3, h4, hbg⟩ : ∃ cur : Array Value, w.heap[g]? = some (.cells cur 49 (0, 0)) ∧ m ≤ c ∧ c ≤ maxLen ∧ cur.size = c * 3 ∧ cur.toList.take (m * 3) = flatP L ∧ base ≤ g := by
    rcases h.form with ⟨e, _⟩ | ⟨g', e, q1, q2, cur, q3, q4, q5, q6, q7⟩
    · cases e
    · cases e; exact ⟨cur, q3, q4, q5, q6, q7, q1⟩
  have hfl : (flatP L).length = m * 3 := by rw [flatP_len, ← HM.out]
  have hdl : (flatP (L.drop k)).length = (m - k) * 3 := by rw [flatP_len, List.length_drop, ← HM.out]
  have hcc : c ≤ 9223372036854775807 := by simp only [maxLen] at h2; omega
  have hcp1 : ∀ ty dc sc, (Builtin.copy_ #[25, 25] ty #[.slice (some ⟨g, (k + 1) * 3, none⟩) (m - k) dc, .slice (some ⟨g, k * 3, none⟩) (m + 1 - k) sc]).run Tryz.prog w.drew = .ok (goInt (m - k : Nat)) (w.drew.setRow g (cur.toList.take ((k + 1) * 3) ++ flatP (L.drop k) ++ cur.toList.drop ((k + 1) * 3 + (flatP (L.drop k)).length)).toArray) := fun ty dc sc => by
    have hmin : Nat.min (m + 1 - k) (m - k) = m - k := by simp only [Nat.min_def]; split <;> omega
    have := run_copyP w.drew ty g ((k + 1) * 3) (m - k) dc ⟨g, k * 3, none⟩ (m + 1 - k) sc cur (flatP (L.drop k)) hh (by rw [hdl, hmin]) (fun j v hj => by
        rw [r_add]
        rw [← flatP_drop, List.getElem?_drop, ← h4] at hj
        have hj2 : cur[k * 3 + j]? = some v := by
          rw [List.getElem?_take] at hj
          split at hj
          · simpa using hj
          · cases hj
        simp only [World.cell?, World.drew, hh]
        exact hj2) (by rw [hdl, h3]; omega) (flatP_one _)
    rw [hmin] at this
    exact this
  obtain ⟨C1, hC1⟩ : ∃ C1 : Array Value, C1 = (cur.toList.take ((k + 1) * 3) ++ flatP (L.drop k) ++ cur.toList.drop ((k + 1) * 3 + (flatP (L.drop k)).length)).toArray := ⟨_, rfl⟩
  have hx7 : (prC x).toList.length = 3 := rfl
  have hsc := shift_cells (cur := cur.toList) (F := flatP L) (X := (prC x).toList) (a := k * 3) (n := m * 3) (t := 3) hfl h4 hx7 (by omega) (by rw [Array.length_toList, h3]; omega)
  simp only [flatP_drop] at hsc
  rw [show k * 3 + 3 = (k + 1) * 3 by omega] at hsc
  rw [← hC1] at hcp1
  have eC1 : C1.toList = cur.toList.take ((k + 1) * 3) ++ flatP (L.drop k) ++ cur.toList.drop ((k + 1) * 3 + (flatP (L.drop k)).length) := by rw [hC1]
  rw [← eC1] at hsc
  have hl1 : C1.size = c * 3 := by
    rw [← Array.length_toList, eC1]
    simp only [List.length_append, List.length_take, List.length_drop, Array.length_toList, h3, hdl]; omega
  have hhd : w.drew.heap[g]? = some (.cells cur 49 (0, 0)) := hh
  have hg1 : (w.drew.setRow g C1).heap[g]? = some (.cells C1 49 (0, 0)) := setRow_heap w.drew g cur C1 _ _ hhd
  have hb1 : (w.drew.setRow g C1).heap[gb]? = some (.cells (prC x) 49 (0, 0)) := (setRow_other w.drew g gb C1 hgb).trans hb
  obtain ⟨C2, hC2⟩ : ∃ C2 : Array Value, C2 = (C1.toList.take (k * 3) ++ (prC x).toList ++ C1.toList.drop (k * 3 + (prC x).toList.length)).toArray := ⟨_, rfl⟩
  have eC2 : C2.toList = C1.toList.take (k * 3) ++ (prC x).toList ++ C1.toList.drop (k * 3 + (prC x).toList.length) := by rw [hC2]
  rw [← eC2] at hsc
  obtain ⟨mv, hmv⟩ : ∃ mv : Nat, mv = 1 := ⟨1, rfl⟩
  have hcp2 : ∀ ty dc, (Builtin.copy_ #[25, 25] ty #[.slice (some ⟨g, k * 3, none⟩) (m + 1 - k) dc, .slice (some ⟨gb, 0, none⟩) 1 1]).run Tryz.prog (w.drew.setRow g C1) = .ok (goInt (1 : Nat)) ((w.drew.setRow g C1).setRow g C2) := fun ty dc => by
    have hmin : Nat.min 1 (m + 1 - k) = 1 := by simp only [Nat.min_def]; split <;> omega
    have := run_copyP (w.drew.setRow g C1) ty g (k * 3) (m + 1 - k) dc ⟨gb, 0, none⟩ 1 1 C1 (prC x).toList hg1 (by rw [hx7, hmin]) (fun j v hj => by
        rw [r_add, Nat.zero_add]
        simp only [World.cell?, hb1]
        rw [← Array.getElem?_toList]
        exact hj) (by rw [hx7, hl1]; omega) (pr_oneL x)
    rw [hmin, ← hC2] at this
    exact this
  have hW2 : (w.drew.setRow g C1).setRow g C2 = w.drew.setRow g C2 := setRow_setRow _ _ _ _
  rw [hW2] at hcp2
  have hov : ∀ lb cb, (callFunc 94 #[.slice (some ⟨gb, 0, none⟩) 1 1, .slice (some ⟨g, (k + 1) * 3, none⟩) lb cb]).run Tryz.prog w = .ok (.value (.bool false)) w := fun lb cb => by
    rw [run_callFunc_extern Tryz.func94 (by kernel_rfl) (by kernel_rfl) (by kernel_rfl) (e := Extern.SlicesOverlaps.overlaps #[25, 25] #[4]) (by kernel_rfl),
      Lib.run_overlaps_apart w 25 4 49 Tryz.underlying25 3 (sizeOf_ofP pr_info3) ⟨gb, 0, none⟩ ⟨g, (k + 1) * 3, none⟩ 1 1 lb cb hgb 49 49 3 (c * 3) (by simp [World.shape?, hb]; rfl) (by simp [World.shape?, hh, h3]) (by omega) (by simp [World.frozen?, hb]) (by simp [World.frozen?, hb])]
    rfl
  have hnot : ¬ ((k : Int) = (m : Int)) := by omega
  have hw1 : IntKind.i64.wrap ((k : Int) + 1) = (k : Int) + 1 := by rw [IntKind.wrap_i64]; omega
  have hp1 : (0 : Int) ≤ (k : Int) + 1 := by omega
  have hin : k ≤ m := by omega
  have htn : ((k : Int) + 1).toNat = k + 1 := by omega
  have hp2 : ¬ (c = k + 1) := by omega
  have hp3 : (k : Int) ≤ (m : Int) + 1 := by omega
  have hp4 : ¬ (c = k) := by omega
  have hp5 : ¬ ((c : Int) < (m : Int) + 1) := by omega
  have mixed : Tryz.prog.follows .mixedOrders = true := by kernel_rfl
  have HSC := Lib.hid hsc
  have HC2 := Lib.hid (And.intro hC1 hC2)
  have hm' := HM.out
  clear hsc eC1 eC2 hC1 hC2 hm'
  go_enter Tryz.func62, Tryz.ntmps62
  go_wp2_with (simp only [hov])
  go_region_law_o (refine step_copy_runI rfl _ _ 25 25 rfl (.slice (some ⟨g, (k + 1) * 3, none⟩) (m - k) (c - (k + 1))) (.slice (some ⟨g, k * 3, none⟩) (m + 1 - k) (c - k)) (by simp [Act.eval, Act.put]) (by simp [Act.eval, Act.put]) (hcp1 _ _ _) ?_)
  go_wp2_with (at_builtin; refine wpList_copy_runI _ rfl _ _ 25 25 rfl _ _ rfl rfl (hcp2 _ _) ?_)
  go_ret
  have hgr : w.grownBy (w.drew.setRow g C2) (some g) := ⟨rfl, rfl, rfl, by simp, fun j hj hne => (setRow_other w.drew g j C2 (fun e => hne (by rw [e]))).trans rfl⟩
  have hgW : (w.drew.setRow g C2).heap[g]? = some (.cells C2 49 (0, 0)) := setRow_heap w.drew g cur C2 _ _ hhd
  have hsC := HSC.out
  refine ⟨some ⟨g, 0, none⟩, c, rfl, ?_, hgr, (Below.refl _ _).grown hgr hbase fun j e => by cases e; exact hbg⟩
  refine ro_blockP hbg hgW hroom h2 ?_ ?_ (by rw [insL_len, ← HM.out])
  · rw [← Array.length_toList, hsC.2, Array.length_toList, h3]
  · rw [show (m + 1) * 3 = m * 3 + 3 by omega, hsC.1, flatP_ins, flatP_drop]
set_option maxRecDepth 100000 in
set_option maxHeartbeats 4000000 in
theorem ins_growP (base g m c k : Nat) (L : List Pw) (x : Pw) (gb : Nat) (w : World) (h : RoP w base (some ⟨g, 0, none⟩) m c L) (hb : w.heap[gb]? = some (.cells (prC x) 49 (0, 0))) (h6 : m + 1 ≤ 100000) (hbase : base ≤ w.heap.size) (hk : k < m) (hroom : c < m + 1) :
    Calls Tryz.prog 62 #[.slice (some ⟨g, 0, none⟩) m c, .int .i64 k, .slice (some ⟨gb, 0, none⟩) 1 1] w fun e w' => ∃ A' c', e = .returned (.slice A' (m + 1) c') ∧ RoP w' base A' (m + 1) c' (insL k x L) ∧ w.grownBy w' (some g) ∧ Below base w w' := by
  have HM := Lib.hid h.len
  obtain ⟨cur, hh, h1, h2, h3, h4, hbg, hgl⟩ : ∃ cur : Array Value, w.heap[g]? = some (.cells cur 49 (0, 0)) ∧ m ≤ c ∧ c ≤ maxLen ∧ cur.size = c * 3 ∧ cur.toList.take (m * 3) = flatP L ∧ base ≤ g ∧ g < w.heap.size := by
    rcases h.form with ⟨e, _⟩ | ⟨g', e, q1, q2, cur, q3, q4, q5, q6, q7⟩
    · cases e
    · cases e; exact ⟨cur, q3, q4, q5, q6, q7, q1, q2⟩
  obtain ⟨i0, hi0, hz0, hzs, hzb⟩ := info_parts pr_info3
  have hfl : (flatP L).length = m * 3 := by rw [flatP_len, ← HM.out]
  have hdl : (flatP (L.drop k)).length = (m - k) * 3 := by rw [flatP_len, List.length_drop, ← HM.out]
  have htl : (flatP (L.take k)).length = k * 3 := by rw [flatP_len, List.length_take, ← HM.out, Nat.min_eq_left (by omega)]
  have hread : ∀ j v, (flatP L)[j]? = some v → w.cell? ⟨g, j, none⟩ = some v := fun j v hj => by
    rw [← h4, List.getElem?_take] at hj
    split at hj
    · simp only [World.cell?, hh]; simpa using hj
    · cases hj
  have hold : (Builtin.firstCells i0.size k (.slice (some ⟨g, 0, none⟩) k c)).run Tryz.prog w.drew = .ok (flatP (L.take k)).toArray w.drew := by
    rw [hzs]
    exact run_firstCells_some w.drew 3 k ⟨g, 0, none⟩ k c (flatP (L.take k)) (by rw [htl]) (fun j v hj => by
      rw [r_add, Nat.zero_add]
      rw [← flatP_take, List.getElem?_take] at hj
      split at hj
      · exact hread j v hj
      · cases hj)
  obtain ⟨G, hG⟩ : ∃ G, G = grownCap w (m + 1) c 49 := ⟨_, rfl⟩
  obtain ⟨ROW, hROW⟩ : ∃ ROW : Array Value, ROW = (flatP (L.take k)).toArray ++ Builtin.zeroCells (prV pw0).cells (m + 1 - k) ++ Builtin.zeroCells (prV pw0).cells (G - (m + 1)) := ⟨_, rfl⟩
  obtain ⟨W1, hW1⟩ : ∃ W1, W1 = w.drew.alloc (.cells ROW 49) := ⟨_, rfl⟩
  have hkk : (m : Int) + 1 - (k : Int) = ((m + 1 - k : Nat) : Int) := by omega
  have hik : k + (m + 1 - k) = m + 1 := by omega
  have hrz : ∀ ty, (Builtin.append_ #[25, 3] ty #[.slice (some ⟨g, 0, none⟩) k c, .int .i64 ((m : Int) + 1 - (k : Int))]).run Tryz.prog w = .ok (.slice (some ⟨w.heap.size, 0, none⟩) (m + 1) G) W1 := fun ty => by
    have h := Lib.run_append_grow_zeros w 25 3 ty 49 i0 _ .i64 .i64 Tryz.underlying25 Tryz.underlying3 hi0 hz0 (some ⟨g, 0, none⟩) k c (flatP (L.take k)) hold (m + 1 - k) (by omega) (by rw [hzs]; decide) (by omega) (by omega) (by rw [hzb]; omega) (by rw [hzb, hik]; exact growslice_fits hroom (by omega))
    rw [hik, ← hG, ← hROW, ← hW1] at h
    rw [hkk]
    exact h
  have hGn : m + 1 ≤ G := by rw [hG]; exact grownCap_ge w _ _ _
  have hGm : G ≤ maxLen := by rw [hG]; exact grownCap_le_maxLen w (m + 1) c 49 (by unfold maxLen; omega)
  have hG63 : G ≤ 9223372036854775807 := by unfold maxLen at hGm; omega
  have hzc : ∀ t, (Builtin.zeroCells (prV pw0).cells t).size = t * 3 := fun t => by simp [Builtin.zeroCells, Value.cells, prV, prC]
  obtain ⟨Z, hZ, hZl⟩ : ∃ Z : List Value, ROW.toList = flatP (L.take k) ++ Z ∧ Z.length = (G - k) * 3 := ⟨(Builtin.zeroCells (prV pw0).cells (m + 1 - k)).toList ++ (Builtin.zeroCells (prV pw0).cells (G - (m + 1))).toList, by rw [hROW]; simp, by rw [List.length_append, Array.length_toList, Array.length_toList, hzc, hzc]; omega⟩
  have hRs : ROW.size = G * 3 := by rw [← Array.length_toList, hZ, List.length_append, htl, hZl]; omega
  have hg1 : W1.heap[w.heap.size]? = some (.cells ROW 49 (0, 0)) := by rw [hW1]; exact heap_alloc_new w.drew _
  have ho1 : ∀ j, j < w.heap.size → W1.heap[j]? = w.heap[j]? := fun j hj => by rw [hW1]; exact Below.heap_alloc w.drew _ j hj
  have hs1 : W1.heap.size = w.heap.size + 1 := by rw [hW1]; simp
  have hgr1 : w.grownBy W1 (some g) := by rw [hW1]; exact ⟨rfl, rfl, rfl, by simp, fun j hj _ => Below.heap_alloc w.drew _ j hj⟩
  have hgbl : gb < w.heap.size := (Array.getElem?_eq_some_iff.1 hb).1
  have hx7 : (prC x).toList.length = 3 := rfl
  obtain ⟨C1, hC1⟩ : ∃ C1 : Array Value, C1 = (ROW.toList.take (k * 3) ++ (prC x).toList ++ ROW.toList.drop (k * 3 + (prC x).toList.length)).toArray := ⟨_, rfl⟩
  have eC1 : C1.toList = ROW.toList.take (k * 3) ++ (prC x).toList ++ ROW.toList.drop (k * 3 + (prC x).toList.length) := by rw [hC1]
  have hl1 : C1.size = G * 3 := by
    rw [← Array.length_toList, eC1]
    simp only [List.length_append, List.length_take, List.length_drop, Array.length_toList, hRs, hx7]; omega
  have hcp1 : ∀ ty dc, (Builtin.copy_ #[25, 25] ty #[.slice (some ⟨w.heap.size, k * 3, none⟩) (m + 1 - k) dc, .slice (some ⟨gb, 0, none⟩) 1 1]).run Tryz.prog W1 = .ok (goInt (1 : Nat)) (W1.setRow w.heap.size C1) := fun ty dc => by
    have hmin : Nat.min 1 (m + 1 - k) = 1 := by simp only [Nat.min_def]; split <;> omega
    have := run_copyP W1 ty w.heap.size (k * 3) (m + 1 - k) dc ⟨gb, 0, none⟩ 1 1 ROW (prC x).toList hg1 (by rw [hx7, hmin]) (fun j v hj => by
        rw [r_add, Nat.zero_add]
        simp only [World.cell?, ho1 gb hgbl, hb]
        rw [← Array.getElem?_toList]
        exact hj) (by rw [hx7, hRs]; omega) (pr_oneL x)
    rw [hmin, ← hC1] at this
    exact this
  obtain ⟨W2, hW2⟩ : ∃ W2, W2 = W1.setRow w.heap.size C1 := ⟨_, rfl⟩
  rw [← hW2] at hcp1
  have hg2 : W2.heap[w.heap.size]? = some (.cells C1 49 (0, 0)) := by rw [hW2]; exact setRow_heap W1 _ ROW C1 _ _ hg1
  have ho2 : ∀ j, j < w.heap.size → W2.heap[j]? = w.heap[j]? := fun j hj => by rw [hW2, setRow_other W1 _ j C1 (by omega)]; exact ho1 j hj
  obtain ⟨C2, hC2⟩ : ∃ C2 : Array Value, C2 = (C1.toList.take ((k + 1) * 3) ++ flatP (L.drop k) ++ C1.toList.drop ((k + 1) * 3 + (flatP (L.drop k)).length)).toArray := ⟨_, rfl⟩
  have eC2 : C2.toList = C1.toList.take ((k + 1) * 3) ++ flatP (L.drop k) ++ C1.toList.drop ((k + 1) * 3 + (flatP (L.drop k)).length) := by rw [hC2]
  have hcp2 : ∀ ty dc sc, (Builtin.copy_ #[25, 25] ty #[.slice (some ⟨w.heap.size, (k + 1) * 3, none⟩) (m - k) dc, .slice (some ⟨g, k * 3, none⟩) (m - k) sc]).run Tryz.prog W2.drew = .ok (goInt (m - k : Nat)) (W2.drew.setRow w.heap.size C2) := fun ty dc sc => by
    have hmin : Nat.min (m - k) (m - k) = m - k := by simp only [Nat.min_def]; split <;> omega
    have := run_copyP W2.drew ty w.heap.size ((k + 1) * 3) (m - k) dc ⟨g, k * 3, none⟩ (m - k) sc C1 (flatP (L.drop k)) hg2 (by rw [hdl, hmin]) (fun j v hj => by
        rw [r_add]
        rw [← flatP_drop, List.getElem?_drop] at hj
        have := hread _ v hj
        simp only [World.cell?, World.drew, ho2 g hgl] at this ⊢
        exact this) (by rw [hdl, hl1]; omega) (flatP_one _)
    rw [hmin, ← hC2] at this
    exact this
  have hsc := grow_cells (F := flatP L) (X := (prC x).toList) (Z := Z) (a := k * 3) (n := m * 3) (t := 3) hfl hx7 (by omega) (by rw [hZl]; omega)
  simp only [flatP_drop, flatP_take] at hsc
  rw [← hZ, ← eC1, show k * 3 + 3 = (k + 1) * 3 by omega, ← eC2] at hsc
  have hnot : ¬ ((k : Int) = (m : Int)) := by omega
  have hw1 : IntKind.i64.wrap ((k : Int) + 1) = (k : Int) + 1 := by rw [IntKind.wrap_i64]; omega
  have hp1 : (0 : Int) ≤ (k : Int) + 1 := by omega
  have hin : k ≤ m := by omega
  have htn : ((k : Int) + 1).toNat = k + 1 := by omega
  have hp2 : ¬ (G = k + 1) := by omega
  have hp3 : (k : Int) ≤ (m : Int) := by omega
  have hp4 : ¬ (c = k) := by omega
  have hp5 : (c : Int) < (m : Int) + 1 := by omega
  have hp6 : ¬ (G = k) := by omega
  have hp7 : (k : Int) ≤ (c : Int) := by omega
  have mixed : Tryz.prog.follows .mixedOrders = true := by kernel_rfl
  have HSC := Lib.hid hsc
  have HG2 := Lib.hid (show w.grownBy (W2.drew.setRow w.heap.size C2) (some g) from ⟨by rw [hW2, hW1]; rfl, by rw [hW2, hW1]; rfl, by rw [hW2, hW1]; rfl, by rw [setRow_size, hW2]; show w.heap.size ≤ (W1.setRow w.heap.size C1).heap.size; rw [setRow_size, hs1]; omega, fun j hj _ => (setRow_other W2.drew _ j C2 (by omega)).trans (ho2 j hj)⟩)
  clear hsc eC1 eC2 hC1 hC2 hkk hik hold hROW hG hZ hi0 hz0 hzs hzb hgr1 hW1 hW2 hg1 hs1
  go_enter Tryz.func62, Tryz.ntmps62
  go_wp2_with (first
    | (at_builtin; refine Lib.wpList_append_run _ rfl _ _ _ _ rfl _ _ rfl rfl _ _ (hrz _) ?_)
    | (at_builtin; refine wpList_copy_runI _ rfl _ _ 25 25 rfl _ _ rfl rfl (hcp1 _ _) ?_))
  go_region_law_o (refine step_copy_runI rfl _ _ 25 25 rfl (.slice (some ⟨w.heap.size, (k + 1) * 3, none⟩) (m - k) (G - (k + 1))) (.slice (some ⟨g, k * 3, none⟩) (m - k) (c - k)) (by simp [Act.eval, Act.put]) (by simp [Act.eval, Act.put]) (hcp2 _ _ _) ?_)
  go_wp2_with fail
  go_ret
  have hgr : w.grownBy (W2.drew.setRow w.heap.size C2) (some g) := HG2.out
  have hgW : (W2.drew.setRow w.heap.size C2).heap[w.heap.size]? = some (.cells C2 49 (0, 0)) := setRow_heap W2.drew _ C1 C2 _ _ hg2
  have hsC := HSC.out
  refine ⟨some ⟨w.heap.size, 0, none⟩, G, rfl, ?_, hgr, (Below.refl _ _).grown hgr hbase fun j e => by cases e; exact hbg⟩
  refine ro_blockP hbase hgW hGn hGm ?_ ?_ (by rw [insL_len, ← HM.out])
  · rw [← Array.length_toList, hsC.2, hZl]; omega
  · rw [show (m + 1) * 3 = m * 3 + 3 by omega, hsC.1, flatP_ins, flatP_drop, flatP_take]
theorem insert_P (base : Nat) (A : Option Addr) (m c k : Nat) (L : List Pw) (x : Pw) (gb : Nat) (w : World) (h : RoP w base A m c L) (hb : w.heap[gb]? = some (.cells (prC x) 49 (0, 0))) (hgb : ∀ g, (Value.slice A m c).ownBlock = some g → gb ≠ g) (h6 : m + 1 ≤ 100000) (hbase : base ≤ w.heap.size) (hk : k ≤ m) :
    Calls Tryz.prog 62 #[.slice A m c, .int .i64 k, .slice (some ⟨gb, 0, none⟩) 1 1] w fun e w' => ∃ A' c', e = .returned (.slice A' (m + 1) c') ∧ RoP w' base A' (m + 1) c' (insL k x L) ∧ w.grownBy w' (Value.slice A m c).ownBlock ∧ Below base w w' := by
  rcases Nat.lt_or_ge k m with hlt | hge
  · have hm := h.len
    obtain ⟨g, rfl, _⟩ := h.at0 (by omega)
    have eo : (Value.slice (some ⟨g, 0, none⟩) m c).ownBlock = some g := rfl
    rw [eo]
    rcases Nat.lt_or_ge c (m + 1) with h1 | h1
    · exact ins_growP base g m c k L x gb w h hb h6 hbase hlt h1
    · exact ins_shiftP base g m c k L x gb w h hb (hgb g rfl) h6 hbase hlt h1
  · obtain rfl : k = m := by omega
    exact ins_endP base A k c L x gb w h hb h6 hbase
end Go.Proofs.YtlelhhgggnjndaaGreat
