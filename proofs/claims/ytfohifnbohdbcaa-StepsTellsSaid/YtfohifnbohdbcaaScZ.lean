/-
  steps.Ready, Pick, Owner, Owns.
-/
import Derived.Test.YtfohifnbohdbcaaScY
namespace Go.Proofs.Ytfohifnbohdbcaa
open Go.RowKit Go.Shelf
attribute [local go_sem] Oper.semAt_some
set_option linter.unusedVariables false
set_option linter.unusedSimpArgs false

/-- Ready's answer. -/
def rdyA (R : List Rn) (L : List Kw) : List Int := if scE R L = 0 then rdyF R else []
set_option maxRecDepth 100000 in
set_option maxHeartbeats 8000000 in
theorem ready_in (A : Option Addr) (m c : Nat) (R : List Rn) (A2 : Option Addr) (m2 c2 : Nat) (L : List Kw) (w : World) (h : Sc w w.heap.size A m c R A2 m2 c2 L) :
    CallsIn Fence.wide 6 Try.prog 23 #[scV A m c A2 m2 c2] w fun e w' => ∃ G gm gc, e = .returned (.slice G gm gc) ∧ Zo w' w.heap.size G gm gc (rdyA R L) ∧ Below w.heap.size w w' := by
  have J0 := CS.new w A m c A2 m2 c2
  have CK := callsIn_wide (n := 5) |>.2 (check_sc A m c R A2 m2 c2 L _ (h.on J0.b))
  have HRS := Lib.hid h.rs
  have HM := Lib.hid h.len
  have h6 : m ≤ 100000 := h.lim
  have TH := fun V => callsIn_wide (n := 5) |>.2 (ready_any A m c A2 m2 c2 V)
  obtain ⟨ck, hck⟩ : ∃ ck, scE R L = ck := ⟨_, rfl⟩
  rw [hck] at CK
  unfold rdyA
  rw [hck]
  clear h hck
  unfold scV at TH CK ⊢
  have HTH := Lib.hid TH
  clear TH
  obtain ⟨i0, hi, hz0, hz1, hz2⟩ := info_parts zint_info
  refine callsIn_of_wp_marks Try.func23 rfl trivial ?_ rfl
  simp only [Try.ntmps23, List.size_toArray, List.length_cons, List.length_nil, Nat.reduceAdd, Nat.reduceSub, Array.replicate_succ, Array.replicate_zero, List.push_toArray, List.append_toArray, List.nil_append, List.cons_append]
  by_cases h0 : ck = 0
  · subst h0
    rw [if_pos rfl]
    gi_wp2_with (first
      | (refine wpListIn_load_row rfl 25 (.tmp 1) rfl w.heap.size rfl 25 (scC A m c A2 m2 c2) (0, 0) _ J0.k.blk Try.underlying25 rfl (sc_inf A m c A2 m2 c2) ?_)
      | (refine ⟨trivial, CK.mono ?_⟩
         clear CK
         rintro e w1 ⟨rfl, bb⟩
         have J1 := J0.step bb
         have k1 := J1.k.alloc (.cells #[.slice none 0 0] 40)
         have k3 := Blk.new w1 #[.slice none 0 0] 40
         have B0 := J1.b.alloc J1.b.size (.cells #[.slice none 0 0] 40)
         have hs0 : (w1.alloc (.cells #[.slice none 0 0] 40)).heap.size = w1.heap.size + 1 := by simp
         have R0 : IdR w1.heap.size [] (w1.alloc (.cells #[.slice none 0 0] 40)) := ⟨none, 0, 0, k3, zo_nil _ _⟩
         have hg1 : w.heap.size < w1.heap.size := J1.k.lt
         clear bb J0)
      | (refine wpListIn_load_row rfl 25 (.tmp 1) rfl w.heap.size rfl 25 (scC A m c A2 m2 c2) (0, 0) _ k1.blk Try.underlying25 rfl (sc_inf A m c A2 m2 c2) ?_))
    clear k3 J1
    obtain ⟨N1, hN1⟩ : ∃ N, w1.heap.size = N := ⟨_, rfl⟩
    generalize hwq : w1.alloc (.cells #[.slice none 0 0] 40) = wq at k1 B0 hs0 R0 ⊢
    rw [hN1] at hs0 R0 hg1 ⊢
    clear hwq hN1
    refine ⟨trivial, (HTH.out _).mono ?_⟩
    rintro e w1 ⟨rfl, rfl⟩
    gi_wp2
    have ba : Below wq.heap.size wq (wq.alloc (.cells (scC A m c A2 m2 c2) 25)) := (Below.refl _ _).alloc (Nat.le_refl _) _
    have kT := Blk.new wq (scC A m c A2 m2 c2) 25
    have k1 := k1.below ba k1.lt
    have R1 := R0.below ba
    have B1 := B0.trans (ba.mono B0.size)
    have hs2 : (wq.alloc (.cells (scC A m c A2 m2 c2) 25)).heap.size = wq.heap.size + 1 := by simp
    generalize wq.alloc (.cells (scC A m c A2 m2 c2) 25) = w2 at kT k1 R1 B1 hs2 ⊢
    rw [hs0] at kT hs2
    have hbs : w.heap.size ≤ N1 + 1 := by omega
    clear ba HTH R0 B0
    have hseq := ready_seq 5 (by omega) w.heap.size (N1 + 1) A m c R A2 m2 c2 w2 (HRS.out.below B1 (Nat.le_refl _)) kT HM.out (by omega) hbs (by omega)
    refine wpIn_rangeFunc_ownG rfl (by omega) (gf := 83) (lb := #[.pointer (some ⟨N1 + 1, 0, none⟩)]) rfl trivial (enters_of Try.func83 (by kernel_rfl) rfl) hseq (fun h k => h.trans k) (fun W l o o' hl h hc hw => ⟨(belowK_b (w := w2) (Nat.le_refl _) W l o o' hl h hc hw).mono (by omega), World.putObj_heap_other (by omega)⟩) (Below.refl _ _) (fun _ => rfl)
      (fun pre W => IdR N1 pre W ∧ (Blk W (N1 + 1) (scC A m c A2 m2 c2) 25 ∧ (Below w.heap.size w W ∧ w2.heap.size ≤ W.heap.size))) (fun _ _ _ => False) ?hI ?hIx ⟨R1, kT, B1, Nat.le_refl _⟩
      (fun x => { tmps := #[.agg (scC A m c A2 m2 c2), .pointer (some ⟨w.heap.size, 0, none⟩), .slice none 0 0, .pointer (some ⟨N1, 0, none⟩), .int .i64 x, .agg (scC A m c A2 m2 c2), .int .i64 0, .bool false, .agg (scC A m c A2 m2 c2), .func (.func 83) #[] #[.pointer (some ⟨N1 + 1, 0, none⟩)], .int .i64 x, undef, undef, undef, undef, undef], defers := [] })
      ?assign ?body ?done ?stop
    case hI => exact OwnFrom.and (Own.from (I := fun (pre : List Int) W => IdR N1 pre W) (fun s A B row hs hg hr => hs.own hg hr) _) (OwnFrom.and (Own.from (I := fun (pre : List Int) W => Blk W (N1 + 1) (scC A m c A2 m2 c2) 25) (fun s A B row hs hg hr => blk_own hs hg hr) _) (OwnFrom.and (ownFrom_below (by omega) B1.size) (Own.from (fun s A B row hs hg hr => Nat.le_trans hs hg.size) _)))
    case hIx => exact fun cd => Own.from (fun s A B row hs hg hr => hs) _
    case assign =>
      intro l x W K hK
      gi_wp2
      exact hK
    case body =>
      rintro lp pre x W ⟨hR, kq, hB, hsW⟩ hpl
      have hrl := rdyF_len R
      have hml := HM.out
      obtain ⟨G, gm, gc, kg, zg⟩ := hR.r
      have hlg := zg.len
      have hgm : gm ≤ 1000000 := by omega
      have q30 : W.cell? ⟨N1, 0, none⟩ = some (.slice G gm gc) := kg.cell 0
      have ba : Below W.heap.size W (W.alloc (.cells #[.int .i64 x] 3)) := (Below.refl _ _).alloc (Nat.le_refl _) _
      have zg1 := zg.below ba (Nat.le_refl _)
      have hbs3 := hB.size
      clear hlg hseq kT k1 R1 B1 hrl hml
      gi_wp2_with (first
        | (gi_at_builtin; refine wpListIn_append_own _ rfl _ _ 40 rfl (N1 + 1) 3 i0 _ 1 8 Try.underlying40 hi hz0 hz1 hz2 rfl (by decide) _ _ _ rfl zg1 ⟨W.heap.size, 0, none⟩ 1 1 [.int .i64 x] rfl rfl (cell_one_new _ _ _) (by simp [Value.oneCell']) (by simp only [maxLen]; omega) (by omega) (by simp; omega) ?_
           intro v' w3 hown' hgrow _
           obtain ⟨A9, c9, rfl⟩ := own_slice hown'
           have kg2 := kg.below ba kg.lt
           have kg3 : Blk w3 N1 #[.slice G gm gc] 40 := ⟨(hgrow.block _ kg2.lt (fun e => by have := (zg1.lt _ e.symm).1; omega)).trans kg2.blk⟩
           have q33 : w3.cell? ⟨N1, 0, none⟩ = some (.slice G gm gc) := kg3.cell 0
           have f33 := kg3.frozen 0))
      have bS : But N1 w3 (w3.setCell ⟨N1, 0, none⟩ (.slice A9 (gm + 1) c9)) := (But.refl _ w3).setCell (p := ⟨N1, 0, none⟩) (.inl rfl) _
      have hsa : (W.alloc (.cells #[.int .i64 x] 3)).heap.size = W.heap.size + 1 := by simp
      have hs3g : W.heap.size + 1 ≤ w3.heap.size := by have := hgrow.size; rw [hsa] at this; exact this
      have B3 : Below w.heap.size w w3 := (hB.trans (ba.mono hB.size)).grown hgrow (by rw [hsa]; omega) (fun r e => by have := (zg1.lt r e).1; omega)
      have B4 := B3.trans (bS.below _ (by omega) B3.size)
      have kg4 := kg3.set_ 0 (.slice A9 (gm + 1) c9)
      have zz : Zo w3 (N1 + 1) A9 (gm + 1) c9 (pre ++ [x]) := by
        unfold Zo
        rw [List.map_append]
        exact hown'
      have z4 := own_but zz bS (fun e => by have := (zz.lt _ e.symm).1; omega)
      have hrow : ∀ r, (Value.slice G gm gc).ownBlock = some r → ∃ cs, (W.alloc (.cells #[.int .i64 x] 3)).heap[r]? = some (.cells cs 3 (0, 0)) := fun r e => by
        rcases zg1.form with ⟨rfl, _, _, _⟩ | ⟨g9, rfl, _, _, cur, hh, _⟩
        · cases e
        · have e9 : some g9 = some r := e
          cases e9
          exact ⟨cur, hh⟩
      have kp : KeepsFrom (N1 + 1 + 1) W (w3.setCell ⟨N1, 0, none⟩ (.slice A9 (gm + 1) c9)) := ((keeps_grownT (grown_of_belowT ba) (fun r e => by cases e)).trans (keeps_grownT hgrow hrow)).trans (keeps_butT bS kg3)
      have bW : Below w.heap.size W (w3.setCell ⟨N1, 0, none⟩ (.slice A9 (gm + 1) c9)) := ((ba.mono hbs3).grown hgrow (by rw [hsa]; omega) (fun r e => by have := (zg1.lt r e).1; omega)).trans (bS.below _ (by omega) (by omega))
      have kq1 := kq.below ba kq.lt
      have hqr : some (N1 + 1) ≠ (Value.slice G gm gc).ownBlock := fun e => by
        obtain ⟨cs, hcs⟩ := hrow _ e.symm
        have := kq1.blk
        rw [hcs] at this
        have h9 : (3 : TypeId) = 25 := by injection this with this; injection this
        exact absurd h9 (by decide)
      have kq3 : Blk w3 (N1 + 1) (scC A m c A2 m2 c2) 25 := ⟨(hgrow.block _ kq1.lt hqr).trans kq1.blk⟩
      have kq9 := bS.blk7 kq3 (by omega)
      exact ⟨by rw [hs2]; exact kp, ⟨bW, kq9.blk.trans kq.blk.symm⟩, ⟨A9, gm + 1, c9, kg4, z4⟩, kq9, B4, by have := bS.size; omega⟩
    case done =>
      rintro D xs W hD hS ⟨hR, kq, hB, hsW⟩ hK
      subst hS
      obtain ⟨G, gm, gc, kg, zg⟩ := hR.r
      have q3 : W.cell? ⟨N1, 0, none⟩ = some (.slice G gm gc) := kg.cell 0
      have HKD := Lib.hid hK
      clear hseq hR kT k1 R1 B1 hK
      gi_wp2
      have hg3 := grownBy_putObj' W D (.deferred none)
      have hr3 : ∀ r, some D = some r → ∃ o : Obj, W.heap[r]? = some o ∧ o.isCells = false := fun r e => by cases e; exact ⟨_, HKD.out, rfl⟩
      refine ⟨by simp, .inl ⟨_, _, rfl, run_takeDeferred HKD.out, ?_⟩⟩
      exact ⟨_, results_tmp1 rfl _ _, G, gm, gc, rfl, (zo_own zg hg3 hr3).down (by omega), hB.trans (belowK_b (w := w) (Nat.le_refl _) W D _ _ (by omega) HKD.out rfl rfl)⟩
    case stop =>
      rintro D cd pre W hD _ hF
      exact hF.elim
  · have hne : (ck != 0) = true := by simpa using h0
    rw [if_neg h0]
    have H0 := Lib.hid h0
    clear h0
    gi_wp2_with (first
      | (refine wpListIn_load_row rfl 25 (.tmp 1) rfl w.heap.size rfl 25 (scC A m c A2 m2 c2) (0, 0) _ J0.k.blk Try.underlying25 rfl (sc_inf A m c A2 m2 c2) ?_)
      | (refine ⟨trivial, CK.mono ?_⟩
         clear CK
         rintro e w1 ⟨rfl, bb⟩
         have J1 := J0.step bb
         clear bb J0))
    refine ⟨_, results_tmp1 rfl _ _, ?_⟩
    exact ⟨none, 0, 0, rfl, zo_nil _ _, J1.b⟩
theorem ready_sc (A : Option Addr) (m c : Nat) (R : List Rn) (A2 : Option Addr) (m2 c2 : Nat) (L : List Kw) (w : World) (h : Sc w w.heap.size A m c R A2 m2 c2 L) :
    Calls Try.prog 23 #[scV A m c A2 m2 c2] w fun e w' => ∃ G gm gc, e = .returned (.slice G gm gc) ∧ Zo w' w.heap.size G gm gc (rdyA R L) ∧ Below w.heap.size w w' :=
  (callsIn_wide (n := 6)).1 (ready_in A m c R A2 m2 c2 L w h)
end Go.Proofs.Ytfohifnbohdbcaa
