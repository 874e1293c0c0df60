/-
  The reference's Copy.
-/
import Derived.Test.YtlelhhgggnjndaaGreatQPiRh
import Derived.Test.YtlelhhgggnjndaaGreatQTpM
import Derived.Test.YtlelhhgggnjndaaGreatQPiRg
namespace Go.Proofs.YtlelhhgggnjndaaGreat
open Go.RowKit Go.Shelf
set_option linter.unusedVariables false
set_option linter.unusedSimpArgs false
theorem results_row_tmp2 {P : Program} {fn : Func} {p u v : Tmp} {ty : TypeId} (h : fn.results = #[.cell p ty, .tmp u, .tmp v]) (tmps : Array Value) (w : World) (g : Nat) (t : TypeId) (cs : Array Value) (d : TypeDesc)
    (hp : tmps.getD p undef = .pointer (some ⟨g, 0, none⟩)) (hg : Blk w g cs t)
    (hu : P.underlying ty = some d) (hd : (match d with | .struct _ | .array _ _ => true | _ => false) = true) (hi : (P.info? ty).map (·.size) = some cs.size) (x y : Value) (hx : tmps.getD u undef = x) (hy : tmps.getD v undef = y) :
    (results fn tmps).run P w = .ok (.tuple #[.agg cs, x, y]) w := by
  subst hx hy
  have hp' : tmps[p]?.getD undef = .pointer (some ⟨g, 0, none⟩) := by simpa using hp
  simp [results, h, hp', asAddr, run_loadVar_row w g t ty cs (0, 0) d hg.blk hu hd hi]
def rowT (j : Nat) (f : Int → Bool) : List Int := ((List.range j).map fun (k : Nat) => (k : Int) + 1).filter f
theorem rowT_succ (j : Nat) (f : Int → Bool) : rowT (j + 1) f = if f ((j : Int) + 1) then rowT j f ++ [(j : Int) + 1] else rowT j f := by
  unfold rowT
  rw [List.range_succ, List.map_append, List.filter_append]
  simp only [List.map_cons, List.map_nil]
  by_cases hf : f ((j : Int) + 1) = true
  · rw [if_pos hf, List.filter_cons_of_pos hf]; rfl
  · rw [if_neg hf, List.filter_cons_of_neg hf]; simp
theorem rowT_len (j : Nat) (f : Int → Bool) : (rowT j f).length ≤ j := Nat.le_trans (List.length_filter_le _ _) (by simp)
theorem next_here {a k : Nat} {l : List Int} (hk : k < 20) (h : l.contains ((cand a k : Nat) : Int) = false) (hp : ∀ j, j < k → l.contains ((cand a j : Nat) : Int) = true) : nextP a l = some k := by
  unfold nextP
  rw [List.find?_range_eq_some]
  exact ⟨by rw [h]; rfl, by simpa using hk, fun j hj => by rw [hp j hj]; rfl⟩
theorem next_no {a : Nat} {l : List Int} (hp : ∀ j, j < 20 → l.contains ((cand a j : Nat) : Int) = true) : nextP a l = none := by
  unfold nextP
  rw [List.find?_eq_none]
  intro j hj
  rw [hp j (List.mem_range.1 hj)]
  decide
set_option maxRecDepth 100000 in
set_option maxHeartbeats 16000000 in
theorem rtake_pid (an : Nat) (A : Option Addr) (m c : Nat) (l : List Int) (w : World) (hA : Ri7 w w.heap.size A l) (hm : m = l.length) (h6 : m ≤ 100000) (hI : Ids (an : Int) l) :
    Calls Tryz.prog 78 #[pdV an A m c] w fun e w' => ∃ A' m' c' a' l' id er, e = .returned (.tuple #[pdV a' A' m' c', .int .i64 id, .int .i64 er]) ∧ Zo w' w.heap.size A' m' c' l' ∧ takeV an l = (a', l', id, er) ∧ Below w.heap.size w w' := by
  have k1 := (Blk.new w (pdC an A m c) 24).alloc (.cells (pdC 0 none 0 0) 24)
  have k2 := Blk.new_ (w.alloc (.cells (pdC an A m c) 24)) (pdC 0 none 0 0) 24 (n := w.heap.size + 1) (by simp)
  have B0 := ((Below.refl w.heap.size w).alloc (Nat.le_refl _) (.cells (pdC an A m c) 24)).alloc (by simp) (.cells (pdC 0 none 0 0) 24)
  have HM := Lib.hid hm
  have HT := Lib.hid (show takeV (an : Int) l = (match nextP an l with | some i => (((cand an i : Nat) : Int), insP l ((cand an i : Nat) : Int), ((cand an i : Nat) : Int), 0) | none => (0, [], 0, 24)) by
    unfold takeV
    rw [if_pos (ids_iff.2 hI)]
    rfl)
  have ha : an ≤ 20 := by have := hI.a1; omega
  clear hm
  unfold pdV
  go_enter Tryz.func78, Tryz.ntmps78
  go_wp2_with fail
  show Code.wp _ _ _ _ ((w.alloc (.cells (pdC an A m c) 24)).alloc (.cells (pdC 0 none 0 0) 24))
  generalize (w.alloc (.cells (pdC an A m c) 24)).alloc (.cells (pdC 0 none 0 0) 24) = w0 at k1 k2 B0 ⊢
  go_loopw [9] (fun i wr' => ∃ (k : Nat) (wr : World), wr = wr' ∧ k ≤ 20 ∧ i = .int .i64 k ∧ Hid (∀ j, j < k → l.contains ((cand an j : Nat) : Int) = true) ∧ Blk wr w.heap.size (pdC an A m c) 24 ∧ Blk wr (w.heap.size + 1) (pdC 0 none 0 0) 24 ∧ Below w.heap.size w wr) (fun i _ => 20 - (intOf i).toNat)
  case atStart => exact ⟨0, _, rfl, Nat.zero_le _, rfl, Lib.hid (fun j hj => absurd hj (Nat.not_lt_zero j)), k1, k2, B0⟩
  case round =>
    clear k1 k2 B0
    obtain ⟨k, wr, hwr, hk, rfl, hall, k1, k2, hB⟩ := hrel
    subst hwr
    by_cases hlt : k < 20
    · have hlt' : (k : Int) < 20 := by omega
      have q0 : wr.cell? ⟨w.heap.size, 0, none⟩ = some (.int .i64 an) := k1.cell 0
      have ec : ((an : Int) + (k : Int)) % 20 + 1 = ((cand an k : Nat) : Int) := by unfold cand; omega
      have HLT := Lib.hid hlt
      obtain ⟨ct, hct⟩ : ∃ ct, l.contains ((cand an k : Nat) : Int) = ct := ⟨_, rfl⟩
      have CK := rhas_pid an A m c l ((cand an k : Nat) : Int) wr ((hA.below hB (Nat.le_refl _)).more hB.size) HM.out (by omega)
      rw [hct] at CK
      have HC := Lib.hid hct
      generalize hcv : ((cand an k : Nat) : Int) = cv at CK ec
      have HCV := Lib.hid hcv
      clear hct hcv
      unfold pdV at CK
      go_wp2_with (refine wpList_load_row rfl 24 (.tmp 1) rfl w.heap.size rfl 24 (pdC an A m c) (0, 0) _ k1.blk Tryz.underlying24 rfl (pd_inf _ _ _ _) ?_)
      refine CK.mono ?_
      rintro e w1 ⟨rfl, bb⟩
      have k11 := k1.below bb k1.lt
      have k21 := k2.below bb k2.lt
      have b1 := hB.trans (bb.mono hB.size)
      clear CK k1 k2 hB bb q0 ec
      cases ct
      · have hnx : nextP an l = some k := next_here HLT.out HC.out hall.out
        have hrt := ref_taken hI hnx
        rw [HCV.out] at hrt
        have HNX := Lib.hid hnx
        have HRT := Lib.hid hrt
        clear hnx hrt
        go_wp2_with (first
          | (refine wpList_store_blk rfl 24 (.tmp 7) (.tmp 22) rfl w1.heap.size (pdC 0 none 0 0) (pdC cv none 0 0) 24 rfl rfl (Blk.new _ _ _) rfl (pd_inf _ _ _ _) (pd_one _ _ _ _) ?_
             intro w2 k32 n2
             have bb : Below w1.heap.size w1 w2 := new_blk n2
             have k12 := k11.below bb k11.lt
             have k22 := k21.below bb k21.lt
             have b2 := b1.trans (bb.mono b1.size)
             have hs0 : w.heap.size + 1 < w1.heap.size := k21.lt
             clear n2))
        have HS := Lib.hid (show w1.heap.size < w2.heap.size from k32.lt)
        have HS0 := Lib.hid hs0
        clear hs0 bb k11 k21 b1
        go_loopw [8] (fun i wr' => ∃ (j : Nat) (wr : World) (A5 : Option Addr) (m5 c5 : Nat), wr = wr' ∧ j ≤ 20 ∧ i = .int .i64 ((j : Int) + 1) ∧ Blk wr w1.heap.size (pdC cv A5 m5 c5) 24 ∧ Blk wr w.heap.size (pdC an A m c) 24 ∧ Blk wr (w.heap.size + 1) (pdC 0 none 0 0) 24 ∧ Hid (Zo wr w2.heap.size A5 m5 c5 (rowT j (fun y => y == cv || l.contains y))) ∧ Below w.heap.size w wr ∧ w2.heap.size ≤ wr.heap.size) (fun i _ => 21 - (intOf i).toNat)
        case atStart => exact ⟨0, _, none, 0, 0, rfl, Nat.zero_le _, rfl, k32, k12, k22, Lib.hid (zo_nil _ _), b2, Nat.le_refl _⟩
        case round =>
          clear k32 k22 b2 k12
          obtain ⟨j, wr, A5, m5, c5, hwr, hj, rfl, k3, k1, k2, HZ, hB, hsr⟩ := hrel
          subst hwr
          by_cases hjt : j < 20
          · have hjt' : (j : Int) + 1 ≤ 20 := by omega
            have HJ := Lib.hid hjt
            have hft := rowT_succ j (fun y => y == cv || l.contains y)
            have hle := rowT_len j (fun y => y == cv || l.contains y)
            have hm5 := HZ.out.len
            have HM5 := Lib.hid (show m5 + 1 ≤ 1000000 by omega)
            clear hle hm5 hjt
            cases hxc : ((j : Int) + 1 == cv)
            · obtain ⟨ct, hct⟩ : ∃ ct, l.contains ((j : Int) + 1) = ct := ⟨_, rfl⟩
              have CK := rhas_pid an A m c l ((j : Int) + 1) wr ((hA.below hB (Nat.le_refl _)).more hB.size) HM.out (by omega)
              rw [hct] at CK
              simp only [hxc, hct, Bool.false_or] at hft
              clear hct
              unfold pdV at CK
              cases ct
              · rw [if_neg (by decide)] at hft
                have HF := Lib.hid hft
                clear hft
                go_wp2_with (refine wpListG_load (by rfl) 24 (.tmp 1) rfl w.heap.size rfl 24 (pdC an A m c) _ k1 Tryz.underlying24 rfl (pd_inf _ _ _ _) ?_)
                refine CK.mono ?_
                rintro e V1 ⟨rfl, bb⟩
                have k3a := k3.below bb k3.lt
                have k2a := k2.below bb k2.lt
                have k1a := k1.below bb k1.lt
                have HZa := HZ.out.below bb (Nat.le_refl _)
                have hBa := hB.trans (bb.mono hB.size)
                have hsra := Nat.le_trans hsr bb.size
                clear CK bb
                go_wp2_with fail
                go_roundw
                case rel => exact ⟨j + 1, _, A5, m5, c5, rfl, by have := HJ.out; omega, by go_num, k3a, k1a, k2a, Lib.hid (by rw [HF.out]; exact HZa), hBa, hsra⟩
                case measure => have := HJ.out; simp [intOf]; omega
              · first | rw [if_pos rfl] at hft | rw [if_pos trivial] at hft
                have HF := Lib.hid hft
                clear hft
                go_wp2_with (refine wpListG_load (by rfl) 24 (.tmp 1) rfl w.heap.size rfl 24 (pdC an A m c) _ k1 Tryz.underlying24 rfl (pd_inf _ _ _ _) ?_)
                refine CK.mono ?_
                rintro e V1 ⟨rfl, bb⟩
                have k3a := k3.below bb k3.lt
                have k2a := k2.below bb k2.lt
                have k1a := k1.below bb k1.lt
                have HZa := HZ.out.below bb (Nat.le_refl _)
                have hBa := hB.trans (bb.mono hB.size)
                have hsra := Nat.le_trans hsr bb.size
                clear CK bb
                have q1 : V1.cell? ⟨w1.heap.size, 1, none⟩ = some (.slice A5 m5 c5) := k3a.cell 1
                have ba : Below V1.heap.size V1 (V1.alloc (.cells #[.int .i64 ((j : Int) + 1)] 3)) := (Below.refl _ _).alloc (Nat.le_refl _) _
                have hnb : (V1.alloc (.cells #[.int .i64 ((j : Int) + 1)] 3)).cell? ⟨V1.heap.size, 0, none⟩ = some (.int .i64 ((j : Int) + 1)) := (Blk.new V1 #[.int .i64 ((j : Int) + 1)] 3).cell 0
                have z1 := HZa.below ba (Nat.le_refl _)
                have k31 := k3a.below ba k3a.lt
                have k21 := k2a.below ba k2a.lt
                have k11 := k1a.below ba k1a.lt
                have hB1 := hBa.trans (ba.mono hBa.size)
                have hs1 : w2.heap.size ≤ (V1.alloc (.cells #[.int .i64 ((j : Int) + 1)] 3)).heap.size := Nat.le_trans hsra ba.size
                clear ba
                go_wp2_with (first
                  | (refine wpList_app1Z rfl (.tmp 36) (.tmp 38) rfl w2.heap.size A5 m5 c5 _ rfl z1 V1.heap.size ((j : Int) + 1) rfl hnb HM5.out hs1 ?_
                     intro A6 c6 V2 z2 bb
                     have k32 := k31.below bb HS.out
                     have k22 := k21.below bb (by have := HS.out; have := HS0.out; omega)
                     have k12 := k11.below bb (by have := HS.out; have := HS0.out; omega)
                     have hB2 := hB1.trans (bb.mono (by have := HS.out; have := HS0.out; omega))
                     have hs2 := Nat.le_trans hs1 bb.size
                     have q2 : V2.cell? ⟨w1.heap.size, 1, none⟩ = some (.slice A5 m5 c5) := k32.cell 1
                     have f2 := k32.frozen 1
                     clear bb))
                have k33 : Blk (V2.setCell ⟨w1.heap.size, 1, none⟩ (.slice A6 (m5 + 1) c6)) w1.heap.size (pdC cv A6 (m5 + 1) c6) 24 := k32.set_ 1 (.slice A6 (m5 + 1) c6)
                have k23 := k22.far (p := ⟨w1.heap.size, 1, none⟩) (by have := HS0.out; simp; omega) (.slice A6 (m5 + 1) c6)
                have k13 := k12.far (p := ⟨w1.heap.size, 1, none⟩) (by have := HS0.out; simp; omega) (.slice A6 (m5 + 1) c6)
                have z3 := zo_far z2 (p := ⟨w1.heap.size, 1, none⟩) HS.out (.slice A6 (m5 + 1) c6)
                have hB3 := hB2.setCell (p := ⟨w1.heap.size, 1, none⟩) (by have := HS0.out; simp; omega) (.slice A6 (m5 + 1) c6)
                go_roundw
                case rel => exact ⟨j + 1, _, A6, m5 + 1, c6, rfl, by have := HJ.out; omega, by go_num, k33, k13, k23, Lib.hid (by rw [HF.out]; exact z3), hB3, by simpa [World.setCell] using hs2⟩
                case measure => have := HJ.out; simp [intOf]; omega
            · simp only [hxc, Bool.true_or] at hft
              first | rw [if_pos rfl] at hft | rw [if_pos trivial] at hft
              have HF := Lib.hid hft
              clear hft
              have q1 : wr.cell? ⟨w1.heap.size, 1, none⟩ = some (.slice A5 m5 c5) := k3.cell 1
              have ba : Below wr.heap.size wr (wr.alloc (.cells #[.int .i64 ((j : Int) + 1)] 3)) := (Below.refl _ _).alloc (Nat.le_refl _) _
              have hnb : (wr.alloc (.cells #[.int .i64 ((j : Int) + 1)] 3)).cell? ⟨wr.heap.size, 0, none⟩ = some (.int .i64 ((j : Int) + 1)) := (Blk.new wr #[.int .i64 ((j : Int) + 1)] 3).cell 0
              have z1 := HZ.out.below ba (Nat.le_refl _)
              have k31 := k3.below ba k3.lt
              have k21 := k2.below ba k2.lt
              have k11 := k1.below ba k1.lt
              have hB1 := hB.trans (ba.mono hB.size)
              have hs1 : w2.heap.size ≤ (wr.alloc (.cells #[.int .i64 ((j : Int) + 1)] 3)).heap.size := Nat.le_trans hsr ba.size
              clear ba
              go_wp2_with (first
                | (refine wpList_app1Z rfl (.tmp 36) (.tmp 38) rfl w2.heap.size A5 m5 c5 _ rfl z1 wr.heap.size ((j : Int) + 1) rfl hnb HM5.out hs1 ?_
                   intro A6 c6 V2 z2 bb
                   have k32 := k31.below bb HS.out
                   have k22 := k21.below bb (by have := HS.out; have := HS0.out; omega)
                   have k12 := k11.below bb (by have := HS.out; have := HS0.out; omega)
                   have hB2 := hB1.trans (bb.mono (by have := HS.out; have := HS0.out; omega))
                   have hs2 := Nat.le_trans hs1 bb.size
                   have q2 : V2.cell? ⟨w1.heap.size, 1, none⟩ = some (.slice A5 m5 c5) := k32.cell 1
                   have f2 := k32.frozen 1
                   clear bb))
              have k33 : Blk (V2.setCell ⟨w1.heap.size, 1, none⟩ (.slice A6 (m5 + 1) c6)) w1.heap.size (pdC cv A6 (m5 + 1) c6) 24 := k32.set_ 1 (.slice A6 (m5 + 1) c6)
              have k23 := k22.far (p := ⟨w1.heap.size, 1, none⟩) (by have := HS0.out; simp; omega) (.slice A6 (m5 + 1) c6)
              have k13 := k12.far (p := ⟨w1.heap.size, 1, none⟩) (by have := HS0.out; simp; omega) (.slice A6 (m5 + 1) c6)
              have z3 := zo_far z2 (p := ⟨w1.heap.size, 1, none⟩) HS.out (.slice A6 (m5 + 1) c6)
              have hB3 := hB2.setCell (p := ⟨w1.heap.size, 1, none⟩) (by have := HS0.out; simp; omega) (.slice A6 (m5 + 1) c6)
              go_roundw
              case rel => exact ⟨j + 1, _, A6, m5 + 1, c6, rfl, by have := HJ.out; omega, by go_num, k33, k13, k23, Lib.hid (by rw [HF.out]; exact z3), hB3, by simpa [World.setCell] using hs2⟩
              case measure => have := HJ.out; simp [intOf]; omega
          · obtain rfl : j = 20 := by omega
            have hz := HZ.out
            rw [show rowT 20 (fun y => y == cv || l.contains y) = all20.filter (fun y => y == cv || l.contains y) from rfl, HRT.out] at hz
            have HZ2 := Lib.hid hz
            clear hz HZ
            go_wp2_with (first
              | (refine wpList_load_row rfl 24 (.tmp 7) rfl w1.heap.size rfl 24 (pdC cv A5 m5 c5) (0, 0) _ k3.blk Tryz.underlying24 rfl (pd_inf _ _ _ _) ?_)
              | (refine wpList_store_blk rfl 24 (.tmp 2) (.tmp 41) rfl (w.heap.size + 1) (pdC 0 none 0 0) (pdC cv A5 m5 c5) 24 rfl rfl k2 rfl (pd_inf _ _ _ _) (pd_one _ _ _ _) ?_; intro w5 h5 n5))
            refine bodyPost_ret (results_row_tmp2 rfl _ _ (w.heap.size + 1) 24 (pdC cv A5 m5 c5) _ rfl h5 Tryz.underlying24 rfl (pd_inf _ _ _ _) _ _ rfl rfl) rfl ?_
            have z5 := own_but HZ2.out n5 (zo_apart HZ2.out (by have := HS.out; have := HS0.out; omega))
            refine ⟨A5, m5, c5, cv, insP l cv, cv, 0, rfl, z5.down (by have := HS.out; have := HS0.out; omega), ?_, hB.trans (n5.below _ (by omega) hB.size)⟩
            rw [HT.out, HNX.out, ← HCV.out]
      · have hall' : ∀ j, j < k + 1 → l.contains ((cand an j : Nat) : Int) = true := fun j hj => by
          rcases Nat.lt_succ_iff_lt_or_eq.1 hj with h | rfl
          · exact hall.out j h
          · exact HC.out
        have HA := Lib.hid hall'
        clear hall'
        go_wp2_with fail
        go_roundw
        case rel => exact ⟨k + 1, _, rfl, by have := HLT.out; omega, by go_num, HA, k11, k21, b1⟩
        case measure => have := HLT.out; simp [intOf]; omega
    · obtain rfl : k = 20 := by omega
      have hnx := next_no hall.out
      have HNX := Lib.hid hnx
      clear hnx
      go_wp2_with (refine wpList_store_blk rfl 24 (.tmp 2) (.tmp 44) rfl (w.heap.size + 1) (pdC 0 none 0 0) (pdC 0 none 0 0) 24 rfl rfl k2 rfl (pd_inf _ _ _ _) (pd_one _ _ _ _) ?_; intro w5 h5 n5)
      refine bodyPost_ret (results_row_tmp2 rfl _ _ (w.heap.size + 1) 24 (pdC 0 none 0 0) _ rfl h5 Tryz.underlying24 rfl (pd_inf _ _ _ _) _ _ rfl rfl) rfl ?_
      refine ⟨none, 0, 0, 0, [], 0, 24, rfl, zo_nil _ _, ?_, hB.trans (n5.below _ (by omega) hB.size)⟩
      rw [HT.out, HNX.out]
end Go.Proofs.YtlelhhgggnjndaaGreat
namespace Go.Proofs.YtlelhhgggnjndaaGreat
open Go.RowKit Go.Shelf
set_option linter.unusedVariables false
set_option linter.unusedSimpArgs false
structure RcS (w : World) (a : Int) (Ua : Option Addr) (um uc : Nat) (U : List Int) (A : Option Addr) (m c : Nat) (go : Nat) (U1 : Option Addr) (um1 uc1 : Nat) (G : Option Addr) (gm gc : Nat) (M : List Pw) (V : World) : Prop where
  b : Below w.heap.size w V
  ks : Blk V w.heap.size (tkC a Ua um uc A m c) 27
  k2 : Blk V (w.heap.size + 1) (tkC 0 none 0 0 none 0 0) 27
  ko : Blk V go (tkC a U1 um1 uc1 G gm gc) 27
  o : OwnT V (w.heap.size + 2) U1 um1 uc1 U G gm gc M
theorem RcS.step {w : World} {a : Int} {Ua : Option Addr} {um uc : Nat} {U : List Int} {A : Option Addr} {m c go : Nat} {U1 : Option Addr} {um1 uc1 : Nat} {G : Option Addr} {gm gc : Nat} {M : List Pw} {V V' : World} (h : RcS w a Ua um uc U A m c go U1 um1 uc1 G gm gc M V) (b : Below V.heap.size V V') : RcS w a Ua um uc U A m c go U1 um1 uc1 G gm gc M V' :=
  ⟨h.b.trans (b.mono h.b.size), h.ks.below b h.ks.lt, h.k2.below b h.k2.lt, h.ko.below b h.ko.lt, h.o.below b (Nat.le_refl _)⟩
def RcO (w : World) (a : Int) (U : List Int) (L : List Pw) (e : Ending) (w' : World) : Prop := ∃ Ua um uc A m c M, e = .returned (tkV a Ua um uc A m c) ∧ OwnT w' w.heap.size Ua um uc U A m c M ∧ M.map (·.1) = L.map (·.1) ∧ Below w.heap.size w w'
set_option maxRecDepth 100000 in
set_option maxHeartbeats 8000000 in
theorem rcopy_tk (a : Int) (Ua : Option Addr) (um uc : Nat) (U : List Int) (A : Option Addr) (m c : Nat) (L : List Pw) (w : World) (h : Tk w w.heap.size Ua um uc U A m c L) :
    Calls Tryz.prog 11 #[tkV a Ua um uc A m c] w fun e w' => RcO w a U L e w' := by
  have k1 := (Blk.new w (tkC a Ua um uc A m c) 27).alloc (.cells (tkC 0 none 0 0 none 0 0) 27)
  have k2 := Blk.new_ (w.alloc (.cells (tkC a Ua um uc A m c) 27)) (tkC 0 none 0 0 none 0 0) 27 (n := w.heap.size + 1) (by simp)
  have B0 := ((Below.refl w.heap.size w).alloc (Nat.le_refl _) (.cells (tkC a Ua um uc A m c) 27)).alloc (by simp) (.cells (tkC 0 none 0 0 none 0 0) 27)
  have CP := Lib.hid (fun (V : World) (hV : Below w.heap.size w V) => rcopy_pid a Ua um uc U V ((h.u.below hV (Nat.le_refl _)).more hV.size) h.ul h.u6)
  have hsz : ((w.alloc (.cells (tkC a Ua um uc A m c) 27)).alloc (.cells (tkC 0 none 0 0 none 0 0) 27)).heap.size = w.heap.size + 2 := by simp
  have HSZ := Lib.hid hsz
  have HX := Lib.hid h
  have HPL := Lib.hid h.pl
  have hm6 := h.p6
  clear h hsz
  unfold pdV pdC at CP
  unfold tkV
  unfold tkC at k1 k2 B0 HSZ ⊢
  have q0 := k1.cell 0
  have q1 := k1.cell 1
  change _ = some (Value.int .i64 a) at q0
  change _ = some (Value.slice Ua um uc) at q1
  go_enter Tryz.func11, Tryz.ntmps11
  go_wp2_with (first
    | (refine (CP.out _ B0).mono ?_
       clear CP
       rintro e w1 ⟨U1, um1, uc1, rfl, z1, bb⟩
       have k11 := k1.below bb k1.lt
       have k21 := k2.below bb k2.lt
       have B1 := B0.trans (bb.mono B0.size)
       have hsz1 : w.heap.size + 2 ≤ w1.heap.size := by rw [← HSZ.out]; exact bb.size
       have z1 := z1.down (b := w.heap.size + 2) (by rw [HSZ.out]; exact Nat.le_refl _)
       clear bb k1 k2 B0 q0 q1 HSZ)
    | (refine wpList_store_blk rfl 27 (.tmp 3) (.tmp 9) rfl w1.heap.size (tkC 0 none 0 0 none 0 0) (tkC a U1 um1 uc1 none 0 0) 27 rfl rfl (Blk.new _ _ _) rfl (tk_inf _ _ _ _ _ _ _) (tk_one _ _ _ _ _ _ _) ?_
       intro w2 k32 n2
       have b2 : Below w1.heap.size w1 w2 := ((Below.refl _ w1).alloc (Nat.le_refl _) _).trans (n2.below _ (Nat.le_refl _) (by simp))
       have J0 : RcS w a Ua um uc U A m c w1.heap.size U1 um1 uc1 none 0 0 [] w2 := ⟨B1.trans (b2.mono B1.size), k11.below b2 k11.lt, k21.below b2 k21.lt, k32, ⟨z1.below b2 (Nat.le_refl _), ro_nilP _ _, fun x hx => (by cases hx), fun i j hi => absurd hi (by simp), fun x hx => (by cases hx)⟩⟩
       have q2 : w2.cell? ⟨w.heap.size, 2, none⟩ = some (.slice A m c) := J0.ks.cell 2
       clear n2 b2 k32 k11 k21 z1 B1))
  have HJ0 := Lib.hid J0
  clear q2 J0
  obtain ⟨go, hgo⟩ : ∃ g, w1.heap.size = g := ⟨_, rfl⟩
  have HGO := Lib.hid (show w.heap.size + 2 ≤ go by omega)
  rw [hgo] at HJ0
  simp only [hgo]
  clear hgo hsz1
  go_loopw [13] (fun i wr' => ∃ (k : Nat) (G : Option Addr) (gm gc : Nat) (M : List Pw) (wr : World), wr = wr' ∧ k ≤ m ∧ i = .int .i64 k ∧ gm = k ∧ Hid (M.map (·.1) = (L.map (·.1)).take k) ∧ Hid (RcS w a Ua um uc U A m c go U1 um1 uc1 G gm gc M wr)) (fun i _ => m - (intOf i).toNat)
  case atStart => exact ⟨0, none, 0, 0, [], _, rfl, Nat.zero_le _, rfl, rfl, Lib.hid (by simp), HJ0⟩
  case round =>
    clear HJ0
    obtain ⟨k, G, gm, gc, M, wr, hwr, hk, rfl, hgk, HM, HJ⟩ := hrel
    subst hwr
    have J := HJ.out
    clear HJ
    by_cases hlt : k < m
    · have hlt' : (k : Int) < (m : Int) := by omega
      have hkl : k < L.length := by have := HPL.out; omega
      obtain ⟨b, off, hA, hb, hc⟩ := (HX.out.p.below J.b (Nat.le_refl _)).at_ k hkl
      have hT := HX.out.p.at' hkl
      have HTK := Lib.hid (show (L.map (·.1)).take (k + 1) = (L.map (·.1)).take k ++ [(L.getD k pw0).1] by
        rw [List.take_succ_eq_append_getElem (by simpa using hkl)]
        simp [List.getD, hkl])
      subst hA
      generalize L.getD k pw0 = x at hc hT HTK
      have hs3 : (prC x).size = 3 := pr_size x
      have HT := Lib.hid hT.ri
      have hle := hT.le
      have hl6 := hT.l
      clear hT hkl
      have hgm6 : gm ≤ 100000 := by omega
      have HGM := Lib.hid hgk
      clear hgk
      go_wp2_with (first
        | (refine wpList_load_mid rfl 49 (.tmp 15) rfl b (off + k * 3) rfl (prC x).toList _ hc Tryz.underlying49 rfl (pr_infL x) ?_)
        | (refine wpList_store_blk rfl 49 (.tmp 5) (.tmp 16) rfl wr.heap.size (prC pw0) (prC x) 49 rfl rfl (Blk.new _ _ _) rfl (pr_inf x) (pr_one x) ?_
           intro W1 k4 n4
           have bb : Below wr.heap.size wr W1 := ((Below.refl _ wr).alloc (Nat.le_refl _) _).trans (n4.below _ (Nat.le_refl _) (by simp))
           have hs1 : wr.heap.size < W1.heap.size := k4.lt
           have q22 : W1.cell? ⟨wr.heap.size, 2, none⟩ = some (.slice x.2.1 x.1.t.length x.2.2) := k4.cell 2
           have k5 := k4.alloc (.cells #[] 3)
           have q23 : (W1.alloc (.cells #[] 3)).cell? ⟨wr.heap.size, 2, none⟩ = some (.slice x.2.1 x.1.t.length x.2.2) := k5.cell 2
           have b1 := bb.trans (((Below.refl _ _).alloc (Nat.le_refl _) (.cells #[] 3)).mono bb.size)
           have HU := Lib.hid (HT.out.below (J.b.trans (b1.mono J.b.size)) (Nat.le_refl _))
           have HZ := Lib.hid (zo_empty W1)
           clear bb n4 k4)
        | (refine wpList_appZ rfl (.tmp 17) (.tmp 19) rfl W1.heap.size (some ⟨W1.heap.size, 0, none⟩) 0 0 [] rfl HZ.out (by simp) x.2.1 w.heap.size x.1.t.length x.2.2 x.1.t rfl HU.out rfl (by omega) (by simp) ?_
           intro A3 c3 W2 z3 b3
           rw [Nat.zero_add, List.nil_append] at z3
           have k6 := k5.below b3 hs1
           have hs3' : W1.heap.size < W2.heap.size := by have := b3.size; simp at this; omega
           have b2 := b1.trans (b3.mono (Nat.le_of_lt hs1))
           clear b3 k5 HZ HU q22 q23 b1)
        | (refine wpList_stf rfl 22 (.tmp 21) (.tmp 20) rfl wr.heap.size 2 (prC x) 49 (.slice A3 x.1.t.length c3) rfl rfl k6 (by show 2 < 3; decide) (by kernel_rfl) rfl rfl ?_
           intro W3 k7 n7
           have k7 : Blk W3 wr.heap.size (prC (x.1, (A3, c3))) 49 := k7
           have z4 : Zo W3 W1.heap.size A3 x.1.t.length c3 x.1.t := own_kind z3 (grown_but n7) (fun g e => by cases e; exact ⟨_, _, k6, by decide⟩)
           have b4 := b2.trans (n7.below _ (Nat.le_refl _) b2.size)
           have hs4 : W1.heap.size < W3.heap.size := Nat.lt_of_lt_of_le hs3' n7.size
           obtain ⟨y, hy⟩ : ∃ y : Pw, y = (x.1, (A3, c3)) := ⟨_, rfl⟩
           rw [← hy] at k7
           have z4 : Zo W3 W1.heap.size y.2.1 y.1.t.length y.2.2 y.1.t := by rw [hy]; exact z4
           have HY := Lib.hid hy
           clear n7 k6 z3 b2 hs3' hy
           have J3 := J.step b4
           have q32 : W3.cell? ⟨go, 2, none⟩ = some (.slice G gm gc) := J3.ko.cell 2
           have J4 := J.step (b4.alloc b4.size (.cells #[.int .i64 y.1.i, .int .i64 y.1.p, .slice y.2.1 y.1.t.length y.2.2] 49))
           have z5 := z4.below ((Below.refl _ _).alloc (Nat.le_refl _) (.cells #[.int .i64 y.1.i, .int .i64 y.1.p, .slice y.2.1 y.1.t.length y.2.2] 49)) (Nat.le_refl _)
           have hgb : (W3.alloc (.cells #[.int .i64 y.1.i, .int .i64 y.1.p, .slice y.2.1 y.1.t.length y.2.2] 49)).heap[W3.heap.size]? = some (.cells (prC y) 49 (0, 0)) := heap_alloc_new _ _
           clear z4 J3)
        | (refine wpList_load_row rfl 49 (.tmp 5) rfl wr.heap.size rfl 49 #[.int .i64 y.1.i, .int .i64 y.1.p, .slice y.2.1 y.1.t.length y.2.2] (0, 0) _ k7.blk Tryz.underlying49 rfl (pr_inf y) ?_)
        | (refine wpList_app1P rfl (.tmp 23) (.tmp 25) rfl (w.heap.size + 2) G gm gc M rfl J4.o.p y W3.heap.size rfl hgb (by omega) (by have := J4.k2.lt; omega) ?_
           intro A5 c5 W5 r5 g5 b5
           have hfr : ∀ g, ownT y = some g → (∀ x ∈ M, ownT x ≠ some g) ∧ (Value.slice U1 um1 uc1).ownBlock ≠ some g := fun g e => J.o.fresh (by have := (zo_at z5 e).1; omega)
           have o5 := J4.o.snoc (z5.down (by have := J.k2.lt; omega)) hfr r5 g5
           have ko5 : Blk W5 go (tkC a U1 um1 uc1 G gm gc) 27 := ⟨(g5.block go J4.ko.lt (fun e => by
             obtain ⟨cur, kP⟩ := roP_blk J4.o.p e.symm
             exact absurd (blk_kind J4.ko kP) (by decide))).trans J4.ko.blk⟩
           have HC5 := Lib.hid (show Below w.heap.size w W5 ∧ Blk W5 w.heap.size (tkC a Ua um uc (some ⟨b, off, none⟩) m c) 27 ∧ Blk W5 (w.heap.size + 1) (tkC 0 none 0 0 none 0 0) 27 from ⟨J4.b.trans (b5.mono (by omega)), J4.ks.below b5 (by omega), J4.k2.below b5 (by omega)⟩)
           clear k7 hgb b4 q32)
        | (refine wpList_stf rfl 25 (.tmp 27) (.tmp 26) rfl go 2 (tkC a U1 um1 uc1 G gm gc) 27 (.slice A5 (gm + 1) c5) rfl rfl ko5 (by show 2 < 3; decide) (by kernel_rfl) rfl rfl ?_
           intro W6 k6 n6
           have J6 : RcS w a Ua um uc U (some ⟨b, off, none⟩) m c go U1 um1 uc1 A5 (gm + 1) c5 (M ++ [y]) W6 := ⟨HC5.out.1.trans (n6.below _ (by have := HGO.out; omega) HC5.out.1.size), n6.blk7 HC5.out.2.1 (by have := HGO.out; omega), n6.blk7 HC5.out.2.2 (by have := HGO.out; omega), k6, o5.kind n6 ko5 (by decide) (by decide)⟩
           clear n6 k6))
      have HM5 := Lib.hid (show (M ++ [y]).map (·.1) = (L.map (·.1)).take (k + 1) by
        rw [HTK.out, List.map_append, HM.out, List.map_singleton, HY.out])
      go_roundw
      case rel => exact ⟨k + 1, A5, gm + 1, c5, _, _, rfl, by omega, by go_num, by have := HGM.out; omega, HM5, Lib.hid J6⟩
      case measure => simp [intOf]; omega
    · obtain rfl : k = m := by omega
      have HM1 := Lib.hid (show M.map (·.1) = L.map (·.1) by rw [HM.out, List.take_of_length_le (by rw [List.length_map, ← HPL.out]; omega)])
      clear HM
      go_wp2_with (first
        | (refine wpList_load_row rfl 27 (.tmp 3) rfl go rfl 27 (tkC a U1 um1 uc1 G gm gc) (0, 0) _ J.ko.blk Tryz.underlying27 rfl (tk_inf _ _ _ _ _ _ _) ?_)
        | (refine wpList_store_blk rfl 27 (.tmp 2) (.tmp 29) rfl (w.heap.size + 1) (tkC 0 none 0 0 none 0 0) (tkC a U1 um1 uc1 G gm gc) 27 rfl rfl J.k2 rfl (tk_inf _ _ _ _ _ _ _) (tk_one _ _ _ _ _ _ _) ?_
           intro W2 k10 n10
           have o10 := J.o.kind n10 J.k2 (by decide) (by decide)
           have b10 := J.b.trans (n10.below _ (by omega) J.b.size)))
      refine bodyPost_ret (results_cell_row rfl _ _ (w.heap.size + 1) 27 (tkC a U1 um1 uc1 G gm gc) (0, 0) _ rfl k10.blk Tryz.underlying27 rfl (tk_inf _ _ _ _ _ _ _)) rfl ?_
      exact ⟨U1, um1, uc1, G, gm, gc, M, rfl, o10.down (by omega), HM1.out, b10⟩
end Go.Proofs.YtlelhhgggnjndaaGreat
