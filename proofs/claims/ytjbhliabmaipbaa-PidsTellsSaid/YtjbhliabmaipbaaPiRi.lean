/-
  The reference: Take.
-/
import Derived.Test.YtjbhliabmaipbaaPiRh
namespace Go.Proofs.Ytjbhliabmaipbaa
open Go.RowKit Go.Shelf
set_option linter.unusedVariables false
set_option linter.unusedSimpArgs false

theorem results_row_tmp2 {P : Program} {fn : Func} {p u v : Tmp} {ty : TypeId} (h : fn.results = #[.cell p ty, .tmp u, .tmp v]) (tmps : Array Value) (w : World) (g : Nat) (t : TypeId) (cs : Array Value) (d : TypeDesc)
    (hp : tmps.getD p undef = .pointer (some ⟨g, 0, none⟩)) (hg : Blk w g cs t)
    (hu : P.underlying ty = some d) (hd : (match d with | .struct _ | .array _ _ => true | _ => false) = true) (hi : (P.info? ty).map (·.size) = some cs.size) (x y : Value) (hx : tmps.getD u undef = x) (hy : tmps.getD v undef = y) :
    (results fn tmps).run P w = .ok (.tuple #[.agg cs, x, y]) w := by
  subst hx hy
  have hp' : tmps[p]?.getD undef = .pointer (some ⟨g, 0, none⟩) := by simpa using hp
  simp [results, h, hp', asAddr, run_loadVar_row w g t ty cs (0, 0) d hg.blk hu hd hi]
def rowT (j : Nat) (f : Int → Bool) : List Int := ((List.range j).map fun (k : Nat) => (k : Int) + 1).filter f
theorem rowT_succ (j : Nat) (f : Int → Bool) : rowT (j + 1) f = if f ((j : Int) + 1) then rowT j f ++ [(j : Int) + 1] else rowT j f := by
  unfold rowT
  rw [List.range_succ, List.map_append, List.filter_append]
  simp only [List.map_cons, List.map_nil]
  by_cases hf : f ((j : Int) + 1) = true
  · rw [if_pos hf, List.filter_cons_of_pos hf]; rfl
  · rw [if_neg hf, List.filter_cons_of_neg hf]; simp
theorem rowT_len (j : Nat) (f : Int → Bool) : (rowT j f).length ≤ j := Nat.le_trans (List.length_filter_le _ _) (by simp)
theorem next_here {a k : Nat} {l : List Int} (hk : k < 20) (h : l.contains ((cand a k : Nat) : Int) = false) (hp : ∀ j, j < k → l.contains ((cand a j : Nat) : Int) = true) : nextP a l = some k := by
  unfold nextP
  rw [List.find?_range_eq_some]
  exact ⟨by rw [h]; rfl, by simpa using hk, fun j hj => by rw [hp j hj]; rfl⟩
theorem next_no {a : Nat} {l : List Int} (hp : ∀ j, j < 20 → l.contains ((cand a j : Nat) : Int) = true) : nextP a l = none := by
  unfold nextP
  rw [List.find?_eq_none]
  intro j hj
  rw [hp j (List.mem_range.1 hj)]
  decide
set_option maxRecDepth 100000 in
set_option maxHeartbeats 16000000 in
theorem rtake_pid (an : Nat) (A : Option Addr) (m c : Nat) (l : List Int) (w : World) (hA : Ri7 w w.heap.size A l) (hm : m = l.length) (h6 : m ≤ 100000) (hI : Ids (an : Int) l) :
    Calls Try.prog 11 #[pdV an A m c] w fun e w' => ∃ A' m' c' a' l' id er, e = .returned (.tuple #[pdV a' A' m' c', .int .i64 id, .int .i64 er]) ∧ Zo w' w.heap.size A' m' c' l' ∧ takeV an l = (a', l', id, er) ∧ Below w.heap.size w w' := by
  have k1 := (Blk.new w (pdC an A m c) 24).alloc (.cells (pdC 0 none 0 0) 24)
  have k2 := Blk.new_ (w.alloc (.cells (pdC an A m c) 24)) (pdC 0 none 0 0) 24 (n := w.heap.size + 1) (by simp)
  have B0 := ((Below.refl w.heap.size w).alloc (Nat.le_refl _) (.cells (pdC an A m c) 24)).alloc (by simp) (.cells (pdC 0 none 0 0) 24)
  have HM := Lib.hid hm
  have HT := Lib.hid (show takeV (an : Int) l = (match nextP an l with | some i => (((cand an i : Nat) : Int), insP l ((cand an i : Nat) : Int), ((cand an i : Nat) : Int), 0) | none => (0, [], 0, 24)) by
    unfold takeV
    rw [if_pos (ids_iff.2 hI)]
    rfl)
  have ha : an ≤ 20 := by have := hI.a1; omega
  clear hm
  unfold pdV
  go_enter Try.func11, Try.ntmps11
  go_wp2_with fail
  show Code.wp _ _ _ _ ((w.alloc (.cells (pdC an A m c) 24)).alloc (.cells (pdC 0 none 0 0) 24))
  generalize (w.alloc (.cells (pdC an A m c) 24)).alloc (.cells (pdC 0 none 0 0) 24) = w0 at k1 k2 B0 ⊢
  go_loopw [9] (fun i wr' => ∃ (k : Nat) (wr : World), wr = wr' ∧ k ≤ 20 ∧ i = .int .i64 k ∧ Hid (∀ j, j < k → l.contains ((cand an j : Nat) : Int) = true) ∧ Blk wr w.heap.size (pdC an A m c) 24 ∧ Blk wr (w.heap.size + 1) (pdC 0 none 0 0) 24 ∧ Below w.heap.size w wr) (fun i _ => 20 - (intOf i).toNat)
  case atStart => exact ⟨0, _, rfl, Nat.zero_le _, rfl, Lib.hid (fun j hj => absurd hj (Nat.not_lt_zero j)), k1, k2, B0⟩
  case round =>
    clear k1 k2 B0
    obtain ⟨k, wr, hwr, hk, rfl, hall, k1, k2, hB⟩ := hrel
    subst hwr
    by_cases hlt : k < 20
    · have hlt' : (k : Int) < 20 := by omega
      have q0 : wr.cell? ⟨w.heap.size, 0, none⟩ = some (.int .i64 an) := k1.cell 0
      have ec : ((an : Int) + (k : Int)) % 20 + 1 = ((cand an k : Nat) : Int) := by unfold cand; omega
      have HLT := Lib.hid hlt
      obtain ⟨ct, hct⟩ : ∃ ct, l.contains ((cand an k : Nat) : Int) = ct := ⟨_, rfl⟩
      have CK := rhas_pid an A m c l ((cand an k : Nat) : Int) wr ((hA.below hB (Nat.le_refl _)).more hB.size) HM.out (by omega)
      rw [hct] at CK
      have HC := Lib.hid hct
      generalize hcv : ((cand an k : Nat) : Int) = cv at CK ec
      have HCV := Lib.hid hcv
      clear hct hcv
      unfold pdV at CK
      go_wp2_with (refine wpList_load_row rfl 24 (.tmp 1) rfl w.heap.size rfl 24 (pdC an A m c) (0, 0) _ k1.blk Try.underlying24 rfl (pd_inf _ _ _ _) ?_)
      refine CK.mono ?_
      rintro e w1 ⟨rfl, bb⟩
      have k11 := k1.below bb k1.lt
      have k21 := k2.below bb k2.lt
      have b1 := hB.trans (bb.mono hB.size)
      clear CK k1 k2 hB bb q0 ec
      cases ct
      · have hnx : nextP an l = some k := next_here HLT.out HC.out hall.out
        have hrt := ref_taken hI hnx
        rw [HCV.out] at hrt
        have HNX := Lib.hid hnx
        have HRT := Lib.hid hrt
        clear hnx hrt
        go_wp2_with (first
          | (refine wpList_store_blk rfl 24 (.tmp 7) (.tmp 22) rfl w1.heap.size (pdC 0 none 0 0) (pdC cv none 0 0) 24 rfl rfl (Blk.new _ _ _) rfl (pd_inf _ _ _ _) (pd_one _ _ _ _) ?_
             intro w2 k32 n2
             have bb : Below w1.heap.size w1 w2 := new_blk n2
             have k12 := k11.below bb k11.lt
             have k22 := k21.below bb k21.lt
             have b2 := b1.trans (bb.mono b1.size)
             have hs0 : w.heap.size + 1 < w1.heap.size := k21.lt
             clear n2))
        have HS := Lib.hid (show w1.heap.size < w2.heap.size from k32.lt)
        have HS0 := Lib.hid hs0
        clear hs0 bb k11 k21 b1
        go_loopw [8] (fun i wr' => ∃ (j : Nat) (wr : World) (A5 : Option Addr) (m5 c5 : Nat), wr = wr' ∧ j ≤ 20 ∧ i = .int .i64 ((j : Int) + 1) ∧ Blk wr w1.heap.size (pdC cv A5 m5 c5) 24 ∧ Blk wr w.heap.size (pdC an A m c) 24 ∧ Blk wr (w.heap.size + 1) (pdC 0 none 0 0) 24 ∧ Hid (Zo wr w2.heap.size A5 m5 c5 (rowT j (fun y => y == cv || l.contains y))) ∧ Below w.heap.size w wr ∧ w2.heap.size ≤ wr.heap.size) (fun i _ => 21 - (intOf i).toNat)
        case atStart => exact ⟨0, _, none, 0, 0, rfl, Nat.zero_le _, rfl, k32, k12, k22, Lib.hid (zo_nil _ _), b2, Nat.le_refl _⟩
        case round =>
          clear k32 k22 b2 k12
          obtain ⟨j, wr, A5, m5, c5, hwr, hj, rfl, k3, k1, k2, HZ, hB, hsr⟩ := hrel
          subst hwr
          by_cases hjt : j < 20
          · have hjt' : (j : Int) + 1 ≤ 20 := by omega
            have HJ := Lib.hid hjt
            have hft := rowT_succ j (fun y => y == cv || l.contains y)
            have hle := rowT_len j (fun y => y == cv || l.contains y)
            have hm5 := HZ.out.len
            have HM5 := Lib.hid (show m5 + 1 ≤ 1000000 by omega)
            clear hle hm5 hjt
            cases hxc : ((j : Int) + 1 == cv)
            · obtain ⟨ct, hct⟩ : ∃ ct, l.contains ((j : Int) + 1) = ct := ⟨_, rfl⟩
              have CK := rhas_pid an A m c l ((j : Int) + 1) wr ((hA.below hB (Nat.le_refl _)).more hB.size) HM.out (by omega)
              rw [hct] at CK
              simp only [hxc, hct, Bool.false_or] at hft
              clear hct
              unfold pdV at CK
              cases ct
              · rw [if_neg (by decide)] at hft
                have HF := Lib.hid hft
                clear hft
                go_wp2_with (refine wpListG_load (by rfl) 24 (.tmp 1) rfl w.heap.size rfl 24 (pdC an A m c) _ k1 Try.underlying24 rfl (pd_inf _ _ _ _) ?_)
                refine CK.mono ?_
                rintro e V1 ⟨rfl, bb⟩
                have k3a := k3.below bb k3.lt
                have k2a := k2.below bb k2.lt
                have k1a := k1.below bb k1.lt
                have HZa := HZ.out.below bb (Nat.le_refl _)
                have hBa := hB.trans (bb.mono hB.size)
                have hsra := Nat.le_trans hsr bb.size
                clear CK bb
                go_wp2_with fail
                go_roundw
                case rel => exact ⟨j + 1, _, A5, m5, c5, rfl, by have := HJ.out; omega, by go_num, k3a, k1a, k2a, Lib.hid (by rw [HF.out]; exact HZa), hBa, hsra⟩
                case measure => have := HJ.out; simp [intOf]; omega
              · first | rw [if_pos rfl] at hft | rw [if_pos trivial] at hft
                have HF := Lib.hid hft
                clear hft
                go_wp2_with (refine wpListG_load (by rfl) 24 (.tmp 1) rfl w.heap.size rfl 24 (pdC an A m c) _ k1 Try.underlying24 rfl (pd_inf _ _ _ _) ?_)
                refine CK.mono ?_
                rintro e V1 ⟨rfl, bb⟩
                have k3a := k3.below bb k3.lt
                have k2a := k2.below bb k2.lt
                have k1a := k1.below bb k1.lt
                have HZa := HZ.out.below bb (Nat.le_refl _)
                have hBa := hB.trans (bb.mono hB.size)
                have hsra := Nat.le_trans hsr bb.size
                clear CK bb
                have q1 : V1.cell? ⟨w1.heap.size, 1, none⟩ = some (.slice A5 m5 c5) := k3a.cell 1
                have ba : Below V1.heap.size V1 (V1.alloc (.cells #[.int .i64 ((j : Int) + 1)] 3)) := (Below.refl _ _).alloc (Nat.le_refl _) _
                have hnb : (V1.alloc (.cells #[.int .i64 ((j : Int) + 1)] 3)).cell? ⟨V1.heap.size, 0, none⟩ = some (.int .i64 ((j : Int) + 1)) := (Blk.new V1 #[.int .i64 ((j : Int) + 1)] 3).cell 0
                have z1 := HZa.below ba (Nat.le_refl _)
                have k31 := k3a.below ba k3a.lt
                have k21 := k2a.below ba k2a.lt
                have k11 := k1a.below ba k1a.lt
                have hB1 := hBa.trans (ba.mono hBa.size)
                have hs1 : w2.heap.size ≤ (V1.alloc (.cells #[.int .i64 ((j : Int) + 1)] 3)).heap.size := Nat.le_trans hsra ba.size
                clear ba
                go_wp2_with (first
                  | (refine wpList_app1Z rfl (.tmp 36) (.tmp 38) rfl w2.heap.size A5 m5 c5 _ rfl z1 V1.heap.size ((j : Int) + 1) rfl hnb HM5.out hs1 ?_
                     intro A6 c6 V2 z2 bb
                     have k32 := k31.below bb HS.out
                     have k22 := k21.below bb (by have := HS.out; have := HS0.out; omega)
                     have k12 := k11.below bb (by have := HS.out; have := HS0.out; omega)
                     have hB2 := hB1.trans (bb.mono (by have := HS.out; have := HS0.out; omega))
                     have hs2 := Nat.le_trans hs1 bb.size
                     have q2 : V2.cell? ⟨w1.heap.size, 1, none⟩ = some (.slice A5 m5 c5) := k32.cell 1
                     have f2 := k32.frozen 1
                     clear bb))
                have k33 : Blk (V2.setCell ⟨w1.heap.size, 1, none⟩ (.slice A6 (m5 + 1) c6)) w1.heap.size (pdC cv A6 (m5 + 1) c6) 24 := k32.set_ 1 (.slice A6 (m5 + 1) c6)
                have k23 := k22.far (p := ⟨w1.heap.size, 1, none⟩) (by have := HS0.out; simp; omega) (.slice A6 (m5 + 1) c6)
                have k13 := k12.far (p := ⟨w1.heap.size, 1, none⟩) (by have := HS0.out; simp; omega) (.slice A6 (m5 + 1) c6)
                have z3 := zo_far z2 (p := ⟨w1.heap.size, 1, none⟩) HS.out (.slice A6 (m5 + 1) c6)
                have hB3 := hB2.setCell (p := ⟨w1.heap.size, 1, none⟩) (by have := HS0.out; simp; omega) (.slice A6 (m5 + 1) c6)
                go_roundw
                case rel => exact ⟨j + 1, _, A6, m5 + 1, c6, rfl, by have := HJ.out; omega, by go_num, k33, k13, k23, Lib.hid (by rw [HF.out]; exact z3), hB3, by simpa [World.setCell] using hs2⟩
                case measure => have := HJ.out; simp [intOf]; omega
            · simp only [hxc, Bool.true_or] at hft
              first | rw [if_pos rfl] at hft | rw [if_pos trivial] at hft
              have HF := Lib.hid hft
              clear hft
              have q1 : wr.cell? ⟨w1.heap.size, 1, none⟩ = some (.slice A5 m5 c5) := k3.cell 1
              have ba : Below wr.heap.size wr (wr.alloc (.cells #[.int .i64 ((j : Int) + 1)] 3)) := (Below.refl _ _).alloc (Nat.le_refl _) _
              have hnb : (wr.alloc (.cells #[.int .i64 ((j : Int) + 1)] 3)).cell? ⟨wr.heap.size, 0, none⟩ = some (.int .i64 ((j : Int) + 1)) := (Blk.new wr #[.int .i64 ((j : Int) + 1)] 3).cell 0
              have z1 := HZ.out.below ba (Nat.le_refl _)
              have k31 := k3.below ba k3.lt
              have k21 := k2.below ba k2.lt
              have k11 := k1.below ba k1.lt
              have hB1 := hB.trans (ba.mono hB.size)
              have hs1 : w2.heap.size ≤ (wr.alloc (.cells #[.int .i64 ((j : Int) + 1)] 3)).heap.size := Nat.le_trans hsr ba.size
              clear ba
              go_wp2_with (first
                | (refine wpList_app1Z rfl (.tmp 36) (.tmp 38) rfl w2.heap.size A5 m5 c5 _ rfl z1 wr.heap.size ((j : Int) + 1) rfl hnb HM5.out hs1 ?_
                   intro A6 c6 V2 z2 bb
                   have k32 := k31.below bb HS.out
                   have k22 := k21.below bb (by have := HS.out; have := HS0.out; omega)
                   have k12 := k11.below bb (by have := HS.out; have := HS0.out; omega)
                   have hB2 := hB1.trans (bb.mono (by have := HS.out; have := HS0.out; omega))
                   have hs2 := Nat.le_trans hs1 bb.size
                   have q2 : V2.cell? ⟨w1.heap.size, 1, none⟩ = some (.slice A5 m5 c5) := k32.cell 1
                   have f2 := k32.frozen 1
                   clear bb))
              have k33 : Blk (V2.setCell ⟨w1.heap.size, 1, none⟩ (.slice A6 (m5 + 1) c6)) w1.heap.size (pdC cv A6 (m5 + 1) c6) 24 := k32.set_ 1 (.slice A6 (m5 + 1) c6)
              have k23 := k22.far (p := ⟨w1.heap.size, 1, none⟩) (by have := HS0.out; simp; omega) (.slice A6 (m5 + 1) c6)
              have k13 := k12.far (p := ⟨w1.heap.size, 1, none⟩) (by have := HS0.out; simp; omega) (.slice A6 (m5 + 1) c6)
              have z3 := zo_far z2 (p := ⟨w1.heap.size, 1, none⟩) HS.out (.slice A6 (m5 + 1) c6)
              have hB3 := hB2.setCell (p := ⟨w1.heap.size, 1, none⟩) (by have := HS0.out; simp; omega) (.slice A6 (m5 + 1) c6)
              go_roundw
              case rel => exact ⟨j + 1, _, A6, m5 + 1, c6, rfl, by have := HJ.out; omega, by go_num, k33, k13, k23, Lib.hid (by rw [HF.out]; exact z3), hB3, by simpa [World.setCell] using hs2⟩
              case measure => have := HJ.out; simp [intOf]; omega
          · obtain rfl : j = 20 := by omega
            have hz := HZ.out
            rw [show rowT 20 (fun y => y == cv || l.contains y) = all20.filter (fun y => y == cv || l.contains y) from rfl, HRT.out] at hz
            have HZ2 := Lib.hid hz
            clear hz HZ
            go_wp2_with (first
              | (refine wpList_load_row rfl 24 (.tmp 7) rfl w1.heap.size rfl 24 (pdC cv A5 m5 c5) (0, 0) _ k3.blk Try.underlying24 rfl (pd_inf _ _ _ _) ?_)
              | (refine wpList_store_blk rfl 24 (.tmp 2) (.tmp 41) rfl (w.heap.size + 1) (pdC 0 none 0 0) (pdC cv A5 m5 c5) 24 rfl rfl k2 rfl (pd_inf _ _ _ _) (pd_one _ _ _ _) ?_; intro w5 h5 n5))
            refine bodyPost_ret (results_row_tmp2 rfl _ _ (w.heap.size + 1) 24 (pdC cv A5 m5 c5) _ rfl h5 Try.underlying24 rfl (pd_inf _ _ _ _) _ _ rfl rfl) rfl ?_
            have z5 := own_but HZ2.out n5 (zo_apart HZ2.out (by have := HS.out; have := HS0.out; omega))
            refine ⟨A5, m5, c5, cv, insP l cv, cv, 0, rfl, z5.down (by have := HS.out; have := HS0.out; omega), ?_, hB.trans (n5.below _ (by omega) hB.size)⟩
            rw [HT.out, HNX.out, ← HCV.out]
      · have hall' : ∀ j, j < k + 1 → l.contains ((cand an j : Nat) : Int) = true := fun j hj => by
          rcases Nat.lt_succ_iff_lt_or_eq.1 hj with h | rfl
          · exact hall.out j h
          · exact HC.out
        have HA := Lib.hid hall'
        clear hall'
        go_wp2_with fail
        go_roundw
        case rel => exact ⟨k + 1, _, rfl, by have := HLT.out; omega, by go_num, HA, k11, k21, b1⟩
        case measure => have := HLT.out; simp [intOf]; omega
    · obtain rfl : k = 20 := by omega
      have hnx := next_no hall.out
      have HNX := Lib.hid hnx
      clear hnx
      go_wp2_with (refine wpList_store_blk rfl 24 (.tmp 2) (.tmp 44) rfl (w.heap.size + 1) (pdC 0 none 0 0) (pdC 0 none 0 0) 24 rfl rfl k2 rfl (pd_inf _ _ _ _) (pd_one _ _ _ _) ?_; intro w5 h5 n5)
      refine bodyPost_ret (results_row_tmp2 rfl _ _ (w.heap.size + 1) 24 (pdC 0 none 0 0) _ rfl h5 Try.underlying24 rfl (pd_inf _ _ _ _) _ _ rfl rfl) rfl ?_
      refine ⟨none, 0, 0, 0, [], 0, 24, rfl, zo_nil _ _, ?_, hB.trans (n5.below _ (by omega) hB.size)⟩
      rw [HT.out, HNX.out]
end Go.Proofs.Ytjbhliabmaipbaa
