/-
  The reference's Same.
-/
import Derived.Test.YtlelhhgggnjndaaGreatQPiRg
import Derived.BigQuiet
namespace Go.Proofs.YtlelhhgggnjndaaGreat
open Go.RowKit Go.Shelf
set_option linter.unusedVariables false
set_option linter.unusedSimpArgs false
def nmE (L M : List Pw) : Bool := decide (L.map (·.1) = M.map (·.1))
theorem nmE_drop {L M : List Pw} {k : Nat} (h : k < L.length) (h2 : k < M.length) : nmE (L.drop k) (M.drop k) = (eqP (L.getD k pw0) (M.getD k pw0) && nmE (L.drop (k + 1)) (M.drop (k + 1))) := by
  rw [List.drop_eq_getElem_cons h, List.drop_eq_getElem_cons h2, show L.getD k pw0 = L[k] by simp [List.getD, h], show M.getD k pw0 = M[k] by simp [List.getD, h2]]
  unfold nmE
  rw [List.map_cons, List.map_cons]
  by_cases e : eqP L[k] M[k] = true
  · rw [e, Bool.true_and, (eqP_iff _ _).1 e]
    simp
  · have e2 : ¬ L[k].1 = M[k].1 := fun h9 => e ((eqP_iff _ _).2 h9)
    rw [Bool.not_eq_true] at e
    rw [e, Bool.false_and, decide_eq_false_iff_not]
    intro h9
    injection h9 with h9 _
    exact e2 h9
structure WT (w : World) (a : Int) (Ua : Option Addr) (um uc : Nat) (A : Option Addr) (m c : Nat) (a2 : Int) (Ua2 : Option Addr) (um2 uc2 : Nat) (A2 : Option Addr) (m2 c2 : Nat) (V : World) : Prop where
  b : Below w.heap.size w V
  k : Blk V w.heap.size (tkC a Ua um uc A m c) 27
  l : Blk V (w.heap.size + 1) (tkC a2 Ua2 um2 uc2 A2 m2 c2) 27
theorem WT.step {w : World} {a : Int} {Ua : Option Addr} {um uc : Nat} {A : Option Addr} {m c : Nat} {a2 : Int} {Ua2 : Option Addr} {um2 uc2 : Nat} {A2 : Option Addr} {m2 c2 : Nat} {V V' : World} (h : WT w a Ua um uc A m c a2 Ua2 um2 uc2 A2 m2 c2 V) (b : Below V.heap.size V V') : WT w a Ua um uc A m c a2 Ua2 um2 uc2 A2 m2 c2 V' :=
  ⟨h.b.trans (b.mono h.b.size), h.k.below b h.k.lt, h.l.below b h.l.lt⟩
set_option maxRecDepth 100000 in
set_option maxHeartbeats 8000000 in
theorem rsame_tk (a : Int) (Ua : Option Addr) (um uc : Nat) (U : List Int) (A : Option Addr) (m c : Nat) (L : List Pw) (a2 : Int) (Ua2 : Option Addr) (um2 uc2 : Nat) (U2 : List Int) (A2 : Option Addr) (m2 c2 : Nat) (M : List Pw) (w : World) (h : Tk w w.heap.size Ua um uc U A m c L) (h2 : Tk w w.heap.size Ua2 um2 uc2 U2 A2 m2 c2 M) :
    Calls Tryz.prog 10 #[tkV a Ua um uc A m c, tkV a2 Ua2 um2 uc2 A2 m2 c2] w fun e w' => e = .returned (.bool (((a == a2) && (U == U2)) && nmE L M)) ∧ Below w.heap.size w w' := by
  have J0 : WT w a Ua um uc A m c a2 Ua2 um2 uc2 A2 m2 c2 ((w.alloc (.cells (tkC a Ua um uc A m c) 27)).alloc (.cells (tkC a2 Ua2 um2 uc2 A2 m2 c2) 27)) := ⟨((Below.refl w.heap.size w).alloc (Nat.le_refl _) _).alloc (by simp) _, (Blk.new w _ _).alloc _, Blk.new_ _ _ _ (by simp)⟩
  have HR := Lib.hid (fun (V : World) (hV : Below w.heap.size w V) => rsame_pid a Ua um uc U a2 Ua2 um2 uc2 U2 V ((h.u.below hV (Nat.le_refl _)).more hV.size) h.ul h.u6 ((h2.u.below hV (Nat.le_refl _)).more hV.size) h2.ul)
  have HS := Lib.hid h
  have HS2 := Lib.hid h2
  have HM := Lib.hid h.pl
  have HM2 := Lib.hid h2.pl
  have hm6 := h.p6
  have q0 : _ = some (Value.int .i64 a) := J0.k.cell 0
  have q1 : _ = some (Value.slice Ua um uc) := J0.k.cell 1
  have q2 : _ = some (Value.slice A m c) := J0.k.cell 2
  have p0 : _ = some (Value.int .i64 a2) := J0.l.cell 0
  have p1 : _ = some (Value.slice Ua2 um2 uc2) := J0.l.cell 1
  have p2 : _ = some (Value.slice A2 m2 c2) := J0.l.cell 2
  clear h h2
  unfold tkV
  unfold pdV pdC at HR
  unfold tkC at *
  obtain ⟨b1, hb1⟩ : ∃ b1, ((a == a2) && (U == U2)) = b1 := ⟨_, rfl⟩
  rw [hb1] at HR ⊢
  clear hb1
  cases b1
  · have hr := HR.out _ J0.b
    go_enter Tryz.func10, Tryz.ntmps10
    go_wp2_with (first
      | (refine hr.mono ?_
         clear hr
         rintro e w1 ⟨rfl, bb⟩
         have J1 := J0.step bb))
    go_ret
    exact ⟨rfl, J1.b⟩
  · rw [Bool.true_and]
    have hr := HR.out _ J0.b
    by_cases hmm : m = m2
    · subst hmm
      obtain ⟨E, hE⟩ : ∃ E, nmE L M = E := ⟨_, rfl⟩
      rw [hE]
      have HE := Lib.hid (show E = nmE (L.drop 0) (M.drop 0) by rw [List.drop_zero, List.drop_zero, hE])
      clear hE
      go_enter Tryz.func10, Tryz.ntmps10
      go_wp2_with (first
        | (refine hr.mono ?_
           clear hr q0 q1 q2 p0 p1 p2
           rintro e w1 ⟨rfl, bb⟩
           have J1 := J0.step bb
           have q2 : w1.cell? ⟨w.heap.size, 2, none⟩ = some (.slice A m c) := J1.k.cell 2
           have p2 : w1.cell? ⟨w.heap.size + 1, 2, none⟩ = some (.slice A2 m c2) := J1.l.cell 2
           clear bb J0))
      clear q2 p2
      go_loopw [27] (fun i wr' => ∃ (k : Nat) (wr : World), wr = wr' ∧ k ≤ m ∧ i = .int .i64 k ∧ Hid (E = nmE (L.drop k) (M.drop k)) ∧ WT w a Ua um uc A m c a2 Ua2 um2 uc2 A2 m c2 wr) (fun i _ => m - (intOf i).toNat)
      case atStart => exact ⟨0, _, rfl, Nat.zero_le _, rfl, HE, J1⟩
      case round =>
        clear J1 HE
        obtain ⟨k, wr, hwr, hk, rfl, HI, J⟩ := hrel
        subst hwr
        have q2 : wr.cell? ⟨w.heap.size, 2, none⟩ = some (.slice A m c) := J.k.cell 2
        have p2 : wr.cell? ⟨w.heap.size + 1, 2, none⟩ = some (.slice A2 m c2) := J.l.cell 2
        by_cases hlt : k < m
        · have hlt' : (k : Int) < (m : Int) := by omega
          have hkl : k < L.length := by have := HM.out; omega
          have hkl2 : k < M.length := by have := HM2.out; omega
          obtain ⟨b, off, hA, hb, hc⟩ := HS.out.p.at_ k hkl
          obtain ⟨b2, off2, hB2, hb2, hc2⟩ := HS2.out.p.at_ k hkl2
          have HT := Lib.hid (HS.out.p.at' hkl)
          have HT2 := Lib.hid (HS2.out.p.at' hkl2)
          have hI := HI.out
          rw [nmE_drop hkl hkl2] at hI
          clear HI hkl hkl2
          subst hA
          subst hB2
          have hc := range_belowT hc J.b hb
          have hc2 := range_belowT hc2 J.b hb2
          generalize L.getD k pw0 = x at hc hI HT
          generalize M.getD k pw0 = y at hc2 hI HT2
          have hs3 : (prC x).size = 3 := pr_size x
          have hs3' : (prC y).size = 3 := pr_size y
          have hxl := HT.out.l
          unfold eqP at hI
          have HY := Lib.hid hI
          have HX2 := Lib.hid (fun (V : World) (hV : Below wr.heap.size wr V) => range_belowT hc2 hV (Nat.lt_of_lt_of_le hb2 J.b.size))
          clear hI hc2
          cases h0 : (x.1.i == y.1.i)
          · have HB := Lib.hid (show E = false by rw [HY.out, h0]; rfl)
            have g0 : (x.1.i != y.1.i) = true := by rw [bne, h0]; rfl
            clear HY h0
            go_wp2_with (first
              | (refine wpList_load_mid rfl 49 (.tmp 30) rfl b (off + k * 3) rfl (prC x).toList _ hc Tryz.underlying49 rfl (pr_infL x) ?_)
              | (refine wpList_store_blk rfl 49 (.tmp 6) (.tmp 31) rfl wr.heap.size (prC pw0) (prC x) 49 rfl rfl (Blk.new _ _ _) rfl (pr_inf x) (pr_one x) ?_
                 intro W1 k4 n4
                 have bb : Below wr.heap.size wr W1 := ((Below.refl _ wr).alloc (Nat.le_refl _) _).trans (n4.below _ (Nat.le_refl _) (by simp))
                 have J2 := J.step bb
                 have p2 : W1.cell? ⟨w.heap.size + 1, 2, none⟩ = some (.slice (some ⟨b2, off2, none⟩) m c2) := J2.l.cell 2
                 have hc2 := HX2.out _ bb
                 have hs1 : wr.heap.size < W1.heap.size := k4.lt
                 clear n4 bb J)
              | (refine wpList_load_mid rfl 49 (.tmp 35) rfl b2 (off2 + k * 3) rfl (prC y).toList _ hc2 Tryz.underlying49 rfl (pr_infL y) ?_)
              | (refine wpList_store_blk rfl 49 (.tmp 7) (.tmp 36) rfl W1.heap.size (prC pw0) (prC y) 49 rfl rfl (Blk.new _ _ _) rfl (pr_inf y) (pr_one y) ?_
                 intro W2 k5 n5
                 have bb : Below W1.heap.size W1 W2 := ((Below.refl _ W1).alloc (Nat.le_refl _) _).trans (n5.below _ (Nat.le_refl _) (by simp))
                 have J3 := J2.step bb
                 have k6 := k4.below bb k4.lt
                 have x0 : W2.cell? ⟨wr.heap.size, 0, none⟩ = some (.int .i64 x.1.i) := k6.cell 0
                 have x1 : W2.cell? ⟨wr.heap.size, 1, none⟩ = some (.int .i64 x.1.p) := k6.cell 1
                 have x2 : W2.cell? ⟨wr.heap.size, 2, none⟩ = some (.slice x.2.1 x.1.t.length x.2.2) := k6.cell 2
                 have y0 : W2.cell? ⟨W1.heap.size, 0, none⟩ = some (.int .i64 y.1.i) := k5.cell 0
                 have y1 : W2.cell? ⟨W1.heap.size, 1, none⟩ = some (.int .i64 y.1.p) := k5.cell 1
                 have y2 : W2.cell? ⟨W1.heap.size, 2, none⟩ = some (.slice y.2.1 y.1.t.length y.2.2) := k5.cell 2
                 clear n5 bb J2 hc2 p2 k4
                 go_wp2_with fail))
            go_ret
            exact ⟨by rw [HB.out]; rfl, J3.b⟩
          · have g0 : (x.1.i != y.1.i) = false := by rw [bne, h0]; rfl
            cases h1 : (x.1.p == y.1.p)
            · have HB := Lib.hid (show E = false by rw [HY.out, h0, h1]; rfl)
              have g1 : (x.1.p != y.1.p) = true := by rw [bne, h1]; rfl
              clear HY h0 h1
              go_wp2_with (first
                | (refine wpList_load_mid rfl 49 (.tmp 30) rfl b (off + k * 3) rfl (prC x).toList _ hc Tryz.underlying49 rfl (pr_infL x) ?_)
                | (refine wpList_store_blk rfl 49 (.tmp 6) (.tmp 31) rfl wr.heap.size (prC pw0) (prC x) 49 rfl rfl (Blk.new _ _ _) rfl (pr_inf x) (pr_one x) ?_
                   intro W1 k4 n4
                   have bb : Below wr.heap.size wr W1 := ((Below.refl _ wr).alloc (Nat.le_refl _) _).trans (n4.below _ (Nat.le_refl _) (by simp))
                   have J2 := J.step bb
                   have p2 : W1.cell? ⟨w.heap.size + 1, 2, none⟩ = some (.slice (some ⟨b2, off2, none⟩) m c2) := J2.l.cell 2
                   have hc2 := HX2.out _ bb
                   have hs1 : wr.heap.size < W1.heap.size := k4.lt
                   clear n4 bb J)
                | (refine wpList_load_mid rfl 49 (.tmp 35) rfl b2 (off2 + k * 3) rfl (prC y).toList _ hc2 Tryz.underlying49 rfl (pr_infL y) ?_)
                | (refine wpList_store_blk rfl 49 (.tmp 7) (.tmp 36) rfl W1.heap.size (prC pw0) (prC y) 49 rfl rfl (Blk.new _ _ _) rfl (pr_inf y) (pr_one y) ?_
                   intro W2 k5 n5
                   have bb : Below W1.heap.size W1 W2 := ((Below.refl _ W1).alloc (Nat.le_refl _) _).trans (n5.below _ (Nat.le_refl _) (by simp))
                   have J3 := J2.step bb
                   have k6 := k4.below bb k4.lt
                   have x0 : W2.cell? ⟨wr.heap.size, 0, none⟩ = some (.int .i64 x.1.i) := k6.cell 0
                   have x1 : W2.cell? ⟨wr.heap.size, 1, none⟩ = some (.int .i64 x.1.p) := k6.cell 1
                   have x2 : W2.cell? ⟨wr.heap.size, 2, none⟩ = some (.slice x.2.1 x.1.t.length x.2.2) := k6.cell 2
                   have y0 : W2.cell? ⟨W1.heap.size, 0, none⟩ = some (.int .i64 y.1.i) := k5.cell 0
                   have y1 : W2.cell? ⟨W1.heap.size, 1, none⟩ = some (.int .i64 y.1.p) := k5.cell 1
                   have y2 : W2.cell? ⟨W1.heap.size, 2, none⟩ = some (.slice y.2.1 y.1.t.length y.2.2) := k5.cell 2
                   clear n5 bb J2 hc2 p2 k4
                   go_wp2_with fail))
              go_ret
              exact ⟨by rw [HB.out]; rfl, J3.b⟩
            · have g1 : (x.1.p != y.1.p) = false := by rw [bne, h1]; rfl
              by_cases h3 : x.1.t.length = y.1.t.length
              · obtain ⟨N, hN⟩ : ∃ N, x.1.t.length = N := ⟨_, rfl⟩
                have HN := Lib.hid hN
                have HN2 := Lib.hid (h3.symm.trans hN)
                rw [hN] at hxl
                clear hN h3
                have HB := Lib.hid (show E = ((x.1.t.drop 0 == y.1.t.drop 0) && nmE (L.drop (k + 1)) (M.drop (k + 1))) by rw [HY.out, h0, h1, List.drop_zero, List.drop_zero]; rfl)
                clear HY h0 h1
                go_wp2_with (first
                  | (refine wpList_load_mid rfl 49 (.tmp 30) rfl b (off + k * 3) rfl (prC x).toList _ hc Tryz.underlying49 rfl (pr_infL x) ?_)
                  | (refine wpList_store_blk rfl 49 (.tmp 6) (.tmp 31) rfl wr.heap.size (prC pw0) (prC x) 49 rfl rfl (Blk.new _ _ _) rfl (pr_inf x) (pr_one x) ?_
                     intro W1 k4 n4
                     have bb : Below wr.heap.size wr W1 := ((Below.refl _ wr).alloc (Nat.le_refl _) _).trans (n4.below _ (Nat.le_refl _) (by simp))
                     have J2 := J.step bb
                     have p2 : W1.cell? ⟨w.heap.size + 1, 2, none⟩ = some (.slice (some ⟨b2, off2, none⟩) m c2) := J2.l.cell 2
                     have hc2 := HX2.out _ bb
                     have hs1 : wr.heap.size < W1.heap.size := k4.lt
                     clear n4 bb J)
                  | (refine wpList_load_mid rfl 49 (.tmp 35) rfl b2 (off2 + k * 3) rfl (prC y).toList _ hc2 Tryz.underlying49 rfl (pr_infL y) ?_)
                  | (refine wpList_store_blk rfl 49 (.tmp 7) (.tmp 36) rfl W1.heap.size (prC pw0) (prC y) 49 rfl rfl (Blk.new _ _ _) rfl (pr_inf y) (pr_one y) ?_
                     intro W2 k5 n5
                     have bb : Below W1.heap.size W1 W2 := ((Below.refl _ W1).alloc (Nat.le_refl _) _).trans (n5.below _ (Nat.le_refl _) (by simp))
                     have J3 := J2.step bb
                     have k6 := k4.below bb k4.lt
                     have x0 : W2.cell? ⟨wr.heap.size, 0, none⟩ = some (.int .i64 x.1.i) := k6.cell 0
                     have x1 : W2.cell? ⟨wr.heap.size, 1, none⟩ = some (.int .i64 x.1.p) := k6.cell 1
                     have x2 : W2.cell? ⟨wr.heap.size, 2, none⟩ = some (.slice x.2.1 N x.2.2) := (k6.cell 2).trans (by rw [← HN.out]; rfl)
                     have y0 : W2.cell? ⟨W1.heap.size, 0, none⟩ = some (.int .i64 y.1.i) := k5.cell 0
                     have y1 : W2.cell? ⟨W1.heap.size, 1, none⟩ = some (.int .i64 y.1.p) := k5.cell 1
                     have y2 : W2.cell? ⟨W1.heap.size, 2, none⟩ = some (.slice y.2.1 N y.2.2) := (k5.cell 2).trans (by rw [← HN2.out]; rfl)
                     clear n5 bb J2 hc2 p2 k4
                     go_wp2_with fail))
                clear x0 x1 x2 y0 y1 y2 g0 g1 hc q2
                have hsW := J3.b.size
                go_loopw [61] (fun i wr' => ∃ (u : Nat) (wz : World), wz = wr' ∧ u ≤ N ∧ i = .int .i64 u ∧ Hid (E = ((x.1.t.drop u == y.1.t.drop u) && nmE (L.drop (k + 1)) (M.drop (k + 1)))) ∧ WT w a Ua um uc (some ⟨b, off, none⟩) m c a2 Ua2 um2 uc2 (some ⟨b2, off2, none⟩) m c2 wz ∧ Blk wz wr.heap.size (prC x) 49 ∧ Blk wz W1.heap.size (prC y) 49) (fun i _ => N - (intOf i).toNat)
                case atStart => exact ⟨0, _, rfl, Nat.zero_le _, rfl, HB, J3, k6, k5⟩
                case round =>
                  clear HB J3 k6 k5 hsW
                  obtain ⟨u, wz, hwz, hu, rfl, HI, J, k6, k5⟩ := hrel
                  subst hwz
                  by_cases hun : u < N
                  · have hun' : (u : Int) < (N : Int) := by omega
                    have hul : u < x.1.t.length := by have := HN.out; omega
                    have hul2 : u < y.1.t.length := by have := HN2.out; omega
                    have x2 : wz.cell? ⟨wr.heap.size, 2, none⟩ = some (.slice x.2.1 N x.2.2) := (k6.cell 2).trans (by rw [← HN.out]; rfl)
                    have y2 : wz.cell? ⟨W1.heap.size, 2, none⟩ = some (.slice y.2.1 N y.2.2) := (k5.cell 2).trans (by rw [← HN2.out]; rfl)
                    obtain ⟨bq, oq, hAq, hbq, hcq⟩ := (HT.out.ri.below J.b (Nat.le_refl _)) u hul
                    obtain ⟨br, or, hAr, hbr, hcr⟩ := (HT2.out.ri.below J.b (Nat.le_refl _)) u hul2
                    rw [hAq] at x2
                    rw [hAr] at y2
                    have hI := HI.out
                    rw [eq_drop hul hul2] at hI
                    clear HI hAq hAr hul hul2
                    generalize x.1.t.getD u 0 = t at hcq hI
                    generalize y.1.t.getD u 0 = t2 at hcr hI
                    cases ht : (t == t2)
                    · have HB := Lib.hid (show E = false by rw [hI, ht]; rfl)
                      clear hI
                      go_wp2_with (go_quiet (fail))
                      go_ret
                      exact ⟨by rw [HB.out]; rfl, below_drewN J.b _⟩
                    · have HB := Lib.hid (show E = ((x.1.t.drop (u + 1) == y.1.t.drop (u + 1)) && nmE (L.drop (k + 1)) (M.drop (k + 1))) by rw [hI, ht]; rfl)
                      clear hI
                      go_wp2_with (go_quiet (fail))
                      go_roundw
                      case rel => exact ⟨u + 1, _, rfl, by omega, by go_num, HB, ⟨below_drewN J.b _, J.k.drewN _, J.l.drewN _⟩, k6.drewN _, k5.drewN _⟩
                      case measure => simp [intOf]; omega
                  · obtain rfl : N = u := by omega
                    have hI := HI.out
                    rw [List.drop_of_length_le (by have := HN.out; omega), List.drop_of_length_le (by have := HN2.out; omega)] at hI
                    have HB := Lib.hid (show E = nmE (L.drop (k + 1)) (M.drop (k + 1)) by rw [hI]; rfl)
                    clear hI HI
                    go_wp2_with fail
                    go_roundw
                    case rel => exact ⟨k + 1, _, rfl, by omega, by go_num, HB, J⟩
                    case measure => simp [intOf]; omega
              · have HB := Lib.hid (show E = false by rw [HY.out, h0, h1, show (x.1.t == y.1.t) = false by simpa using fun e => h3 (by rw [e])]; rfl)
                obtain ⟨N, hN⟩ : ∃ N, x.1.t.length = N := ⟨_, rfl⟩
                obtain ⟨N2, hN2⟩ : ∃ N, y.1.t.length = N := ⟨_, rfl⟩
                have hne : ((N : Int) != (N2 : Int)) = true := by rw [← hN, ← hN2]; simp; omega
                have HN := Lib.hid hN
                have HN2 := Lib.hid hN2
                clear hN hN2 h3 h0 h1
                clear HY
                go_wp2_with (first
                  | (refine wpList_load_mid rfl 49 (.tmp 30) rfl b (off + k * 3) rfl (prC x).toList _ hc Tryz.underlying49 rfl (pr_infL x) ?_)
                  | (refine wpList_store_blk rfl 49 (.tmp 6) (.tmp 31) rfl wr.heap.size (prC pw0) (prC x) 49 rfl rfl (Blk.new _ _ _) rfl (pr_inf x) (pr_one x) ?_
                     intro W1 k4 n4
                     have bb : Below wr.heap.size wr W1 := ((Below.refl _ wr).alloc (Nat.le_refl _) _).trans (n4.below _ (Nat.le_refl _) (by simp))
                     have J2 := J.step bb
                     have p2 : W1.cell? ⟨w.heap.size + 1, 2, none⟩ = some (.slice (some ⟨b2, off2, none⟩) m c2) := J2.l.cell 2
                     have hc2 := HX2.out _ bb
                     have hs1 : wr.heap.size < W1.heap.size := k4.lt
                     clear n4 bb J)
                  | (refine wpList_load_mid rfl 49 (.tmp 35) rfl b2 (off2 + k * 3) rfl (prC y).toList _ hc2 Tryz.underlying49 rfl (pr_infL y) ?_)
                  | (refine wpList_store_blk rfl 49 (.tmp 7) (.tmp 36) rfl W1.heap.size (prC pw0) (prC y) 49 rfl rfl (Blk.new _ _ _) rfl (pr_inf y) (pr_one y) ?_
                     intro W2 k5 n5
                     have bb : Below W1.heap.size W1 W2 := ((Below.refl _ W1).alloc (Nat.le_refl _) _).trans (n5.below _ (Nat.le_refl _) (by simp))
                     have J3 := J2.step bb
                     have k6 := k4.below bb k4.lt
                     have x0 : W2.cell? ⟨wr.heap.size, 0, none⟩ = some (.int .i64 x.1.i) := k6.cell 0
                     have x1 : W2.cell? ⟨wr.heap.size, 1, none⟩ = some (.int .i64 x.1.p) := k6.cell 1
                     have x2 : W2.cell? ⟨wr.heap.size, 2, none⟩ = some (.slice x.2.1 N x.2.2) := (k6.cell 2).trans (by rw [← HN.out]; rfl)
                     have y0 : W2.cell? ⟨W1.heap.size, 0, none⟩ = some (.int .i64 y.1.i) := k5.cell 0
                     have y1 : W2.cell? ⟨W1.heap.size, 1, none⟩ = some (.int .i64 y.1.p) := k5.cell 1
                     have y2 : W2.cell? ⟨W1.heap.size, 2, none⟩ = some (.slice y.2.1 N2 y.2.2) := (k5.cell 2).trans (by rw [← HN2.out]; rfl)
                     clear n5 bb J2 hc2 p2 k4
                     go_wp2_with fail))
                go_ret
                exact ⟨by rw [HB.out]; rfl, J3.b⟩
        · obtain rfl : m = k := by omega
          have hI := HI.out
          rw [List.drop_of_length_le (by have := HM.out; omega), List.drop_of_length_le (by have := HM2.out; omega)] at hI
          have HI1 := Lib.hid (show E = true by rw [hI]; rfl)
          clear hI HI
          go_wp2_with fail
          go_ret
          exact ⟨by rw [HI1.out]; rfl, J.b⟩
    · have hi : nmE L M = false := by
        unfold nmE
        rw [decide_eq_false_iff_not]
        intro e
        have := congrArg List.length e
        simp only [List.length_map] at this
        exact hmm (by rw [HM.out, HM2.out, this])
      have hne : ((m : Int) == (m2 : Int)) = false := by simp; omega
      have HI := Lib.hid hi
      clear hi hmm
      go_enter Tryz.func10, Tryz.ntmps10
      go_wp2_with (first
        | (refine hr.mono ?_
           clear hr q0 q1 q2 p0 p1 p2
           rintro e w1 ⟨rfl, bb⟩
           have J1 := J0.step bb
           have q2 : w1.cell? ⟨w.heap.size, 2, none⟩ = some (.slice A m c) := J1.k.cell 2
           have p2 : w1.cell? ⟨w.heap.size + 1, 2, none⟩ = some (.slice A2 m2 c2) := J1.l.cell 2
           clear bb J0))
      go_ret
      exact ⟨by rw [HI.out]; rfl, J1.b⟩
end Go.Proofs.YtlelhhgggnjndaaGreat
