/-
  The reference's Children, above.
-/
import Derived.Test.YtlelhhgggnjndaaGreatQPiT
import Derived.Test.YtlelhhgggnjndaaGreatQPiSh
import Derived.Test.YtlelhhgggnjndaaGreatQPiU
import Derived.Maps.AppendAt
import Derived.BigQuiet
namespace Go.Proofs.YtlelhhgggnjndaaGreat
open Go.RowKit Go.Shelf
attribute [local go_sem] Oper.semAt_some
set_option linter.unusedVariables false
set_option linter.unusedSimpArgs false
def oddF (L : List Pw) (xs : List (Nat × Int)) : List Int := (xs.filter fun x => !(x.2 == (L.getD x.1 pw0).1.i)).map (·.2)
def idsF (L : List Pw) : List Int := sortZ (idsP L ++ oddF L (thrF 0 L))
theorem oddF_snoc (L : List Pw) (xs : List (Nat × Int)) (x : Nat × Int) : oddF L (xs ++ [x]) = oddF L xs ++ if (x.2 == (L.getD x.1 pw0).1.i) = true then [] else [x.2] := by
  unfold oddF
  rw [List.filter_append, List.map_append, List.filter_cons]
  cases (x.2 == (L.getD x.1 pw0).1.i) <;> simp
theorem oddF_len (L : List Pw) (xs : List (Nat × Int)) : (oddF L xs).length ≤ xs.length := by
  unfold oddF
  rw [List.length_map]
  exact List.length_filter_le _ _
theorem idsP_take {L : List Pw} {k : Nat} (hk : k < L.length) : (idsP L).take (k + 1) = (idsP L).take k ++ [(L.getD k pw0).1.i] := by
  have hk2 : k < (idsP L).length := by simpa [idsP] using hk
  rw [List.take_succ_eq_append_getElem hk2]
  simp [idsP, List.getD, hk]
set_option maxRecDepth 100000 in
set_option maxHeartbeats 8000000 in
theorem ids_in (a : Int) (Ua : Option Addr) (um uc : Nat) (A : Option Addr) (m c : Nat) (L : List Pw) (w : World) (hP : Ps w w.heap.size A L) (hm : m = L.length) (h6 : m ≤ 1000) (hN : (thrF 0 L).length ≤ 100000) :
    CallsIn Fence.wide 6 Tryz.prog 43 #[tkV a Ua um uc A m c] w fun e w' => ∃ G gm gc, e = .returned (.slice G gm gc) ∧ Zo w' w.heap.size G gm gc (idsF L) ∧ Below w.heap.size w w' := by
  have k1 := (Blk.new w (tkC a Ua um uc A m c) 27).alloc (.cells #[.slice none 0 0] 22)
  have k3 := Blk.new_ (w.alloc (.cells (tkC a Ua um uc A m c) 27)) #[.slice none 0 0] 22 (n := w.heap.size + 1) (by simp)
  have B0 := ((Below.refl w.heap.size w).alloc (Nat.le_refl _) (.cells (tkC a Ua um uc A m c) 27)).alloc (by simp) (.cells #[.slice none 0 0] 22)
  have hs0 : ((w.alloc (.cells (tkC a Ua um uc A m c) 27)).alloc (.cells #[.slice none 0 0] 22)).heap.size = w.heap.size + 1 + 1 := by simp
  have R0 : IdR (w.heap.size + 1) [] ((w.alloc (.cells (tkC a Ua um uc A m c) 27)).alloc (.cells #[.slice none 0 0] 22)) := ⟨none, 0, 0, k3, zo_nil _ _⟩
  have TH := fun V => callsIn_wide (n := 5) |>.2 (threads_any a Ua um uc A m c V)
  have q2 : ((w.alloc (.cells (tkC a Ua um uc A m c) 27)).alloc (.cells #[.slice none 0 0] 22)).cell? ⟨w.heap.size, 2, none⟩ = some (.slice A m c) := k1.cell 2
  have HM := Lib.hid hm
  clear hm k3
  unfold tkV at TH ⊢
  have HTH := Lib.hid TH
  clear TH
  obtain ⟨i0, hi, hz0, hz1, hz2⟩ := info_parts zint_info
  refine callsIn_of_wp_marks Tryz.func43 rfl trivial ?_ rfl
  simp only [Tryz.ntmps43, List.size_toArray, List.length_cons, List.length_nil, Nat.reduceAdd, Nat.reduceSub, Array.replicate_succ, Array.replicate_zero, List.push_toArray, List.append_toArray, List.nil_append, List.cons_append]
  gi_wp2
  clear q2
  gi_loopw [11] (fun i wr => ∃ (k : Nat), k ≤ m ∧ i = .int .i64 k ∧ Hid (Blk wr w.heap.size (tkC a Ua um uc A m c) 27) ∧ Hid (IdR (w.heap.size + 1) ((idsP L).take k) wr) ∧ Hid (Below w.heap.size w wr) ∧ w.heap.size + 1 < wr.heap.size) (fun i _ => m - (intOf i).toNat)
  case atStart => exact ⟨0, Nat.zero_le _, rfl, Lib.hid k1, Lib.hid R0, Lib.hid B0, by simp⟩
  case round =>
    clear R0 k1 B0 hs0
    obtain ⟨k, hk, rfl, K1, HR, HB, hsz⟩ := hrel
    obtain ⟨wq, rfl⟩ : ∃ wq : World, wq = wr := ⟨_, rfl⟩
    by_cases hlt : k < m
    · have hlt' : (k : Int) < m := by omega
      have hkl : k < L.length := by have := HM.out; omega
      obtain ⟨b, off, rfl, hb, hc⟩ := (hP.below HB.out (Nat.le_refl _)).at_ k hkl
      have HTK := Lib.hid (idsP_take hkl)
      generalize L.getD k pw0 = x at hc HTK
      have hs3 : (prC x).size = 3 := pr_size x
      obtain ⟨G, gm, gc, kg, zg⟩ := HR.out.r
      have hgm : gm ≤ 1000 := by have := zg.len; rw [List.length_take] at this; omega
      gi_wp2_with (first
        | (refine wpListIn_load_midT rfl 49 (.tmp 13) rfl b (off + k * 3) rfl (prC x).toList _ hc Tryz.underlying49 rfl (pr_infL x) ?_)
        | (refine wpListIn_store_blk rfl 49 (.tmp 5) (.tmp 14) rfl wq.heap.size (prC pw0) (prC x) 49 rfl rfl (Blk.new _ _ _) rfl (pr_inf x) (pr_one x) ?_
           intro w1 hw1 hn1
           have b1 : Below wq.heap.size wq w1 := ((Below.refl _ wq).alloc (Nat.le_refl _) _).trans (hn1.below _ (Nat.le_refl _) (by simp))
           have kg1 := kg.below b1 kg.lt
           have hs1 : wq.heap.size ≤ w1.heap.size := b1.size
           have ba : Below w1.heap.size w1 (w1.alloc (.cells #[.int .i64 x.1.i] 3)) := (Below.refl _ _).alloc (Nat.le_refl _) _
           have zg1 := (zg.below b1 (Nat.le_refl _)).below ba (Nat.le_refl _)
           have q30 : w1.cell? ⟨w.heap.size + 1, 0, none⟩ = some (.slice G gm gc) := kg1.cell 0
           have q50 : w1.cell? ⟨wq.heap.size, 0, none⟩ = some (.int .i64 x.1.i) := hw1.cell 0
           clear hn1)
        | (gi_at_builtin; refine wpListIn_append_own _ rfl _ _ 22 rfl (w.heap.size + 1 + 1) 3 i0 _ 1 8 Tryz.underlying22 hi hz0 hz1 hz2 rfl (by decide) _ _ _ rfl zg1 ⟨w1.heap.size, 0, none⟩ 1 1 [.int .i64 x.1.i] rfl rfl (cell_one_new _ _ _) (by simp [Value.oneCell']) (by simp only [maxLen]; omega) (by omega) (by simp; omega) ?_
           intro v' w3 hown' hgrow _
           obtain ⟨A2, c2, rfl⟩ := own_slice hown'
           have kg2 := kg1.below ba kg1.lt
           have kg3 : Blk w3 (w.heap.size + 1) #[.slice G gm gc] 22 := ⟨(hgrow.block _ kg2.lt (fun e => by have := (zg1.lt _ e.symm).1; omega)).trans kg2.blk⟩
           have q33 : w3.cell? ⟨w.heap.size + 1, 0, none⟩ = some (.slice G gm gc) := kg3.cell 0
           have f33 := kg3.frozen 0))
      have kt1 := (K1.out.below b1 K1.out.lt).below ba (Nat.lt_of_lt_of_le K1.out.lt b1.size)
      have kt3 : Blk w3 w.heap.size (tkC a Ua um uc (some ⟨b, off, none⟩) m c) 27 := ⟨(hgrow.block _ kt1.lt (fun e => by have := (zg1.lt _ e.symm).1; omega)).trans kt1.blk⟩
      have bS : But (w.heap.size + 1) w3 (w3.setCell ⟨w.heap.size + 1, 0, none⟩ (.slice A2 (gm + 1) c2)) := (But.refl _ w3).setCell (p := ⟨w.heap.size + 1, 0, none⟩) (.inl rfl) _
      have hsa : (w1.alloc (.cells #[.int .i64 x.1.i] 3)).heap.size = w1.heap.size + 1 := by simp
      have hs3g : w1.heap.size + 1 ≤ w3.heap.size := by have := hgrow.size; rw [hsa] at this; exact this
      have B3 : Below w.heap.size w w3 := ((HB.out.trans (b1.mono HB.out.size)).trans (ba.mono (by have := HB.out.size; omega))).grown hgrow (by rw [hsa]; have := HB.out.size; omega) (fun r e => by have := (zg1.lt r e).1; omega)
      have B4 := B3.trans (bS.below _ (by omega) B3.size)
      have kg4 := kg3.set_ 0 (.slice A2 (gm + 1) c2)
      have zz : Zo w3 (w.heap.size + 1 + 1) A2 (gm + 1) c2 ((idsP L).take (k + 1)) := by
        unfold Zo
        rw [HTK.out, List.map_append]
        exact hown'
      have z4 := own_but zz bS (fun e => by have := (zz.lt _ e.symm).1; omega)
      refine ⟨⟨k + 1, by omega, by go_num, Lib.hid (bS.blk7 kt3 (by omega)), Lib.hid ⟨A2, gm + 1, c2, kg4, z4⟩, Lib.hid B4, Nat.lt_of_lt_of_le (by omega) bS.size⟩, by simp [intOf]; omega⟩
    · obtain rfl : k = m := by omega
      have hall : (idsP L).take k = idsP L := List.take_of_length_le (by have := HM.out; simp [idsP]; omega)
      rw [hall] at HR
      clear hall
      gi_wp2_with (refine wpListIn_load_row rfl 27 (.tmp 1) rfl w.heap.size rfl 27 (tkC a Ua um uc A k c) (0, 0) _ K1.out.blk Tryz.underlying27 rfl (tk_inf a Ua um uc A k c) ?_)
      refine ⟨trivial, (HTH.out _).mono ?_⟩
      rintro e w1 ⟨rfl, rfl⟩
      gi_wp2
      have ba : Below wq.heap.size wq (wq.alloc (.cells (tkC a Ua um uc A k c) 27)) := (Below.refl _ _).alloc (Nat.le_refl _) _
      have kT := Blk.new wq (tkC a Ua um uc A k c) 27
      have k1 := K1.out.below ba K1.out.lt
      have R1 := HR.out.below ba
      have B1 := HB.out.trans (ba.mono HB.out.size)
      have hs2 : (wq.alloc (.cells (tkC a Ua um uc A k c) 27)).heap.size = wq.heap.size + 1 := by simp
      generalize wq.alloc (.cells (tkC a Ua um uc A k c) 27) = w2 at kT k1 R1 B1 hs2 ⊢
      clear ba HTH K1 HR
      have hbs := HB.out.size
      have hseq := threads_seqU 5 (by omega) w.heap.size wq.heap.size k c a Ua um uc A L w2 (hP.below B1 (Nat.le_refl _)) kT HM.out (by omega) hbs (by omega)
      have hil : (idsP L).length ≤ 1000 := by have := HM.out; simp [idsP]; omega
      have HIL := Lib.hid hil
      clear hil
      refine wpIn_rangeFunc_ownG rfl (by omega) (gf := 86) (lb := #[.pointer (some ⟨wq.heap.size, 0, none⟩)]) rfl trivial (enters_of Tryz.func86 (by kernel_rfl) rfl) hseq (fun h k => h.trans k) (fun W l o o' hl h hc hw => ⟨(belowK_b (w := w2) (Nat.le_refl _) W l o o' hl h hc hw).mono (by omega), World.putObj_heap_other (by omega)⟩) (Below.refl _ _) (fun _ => rfl)
        (fun pre W => IdR (w.heap.size + 1) (idsP L ++ oddF L (pre.map (·.1))) W ∧ (Blk W w.heap.size (tkC a Ua um uc A k c) 27 ∧ (Blk W wq.heap.size (tkC a Ua um uc A k c) 27 ∧ (Below w.heap.size w W ∧ w2.heap.size ≤ W.heap.size)))) (fun _ _ _ => False) ?hI ?hIx ⟨by simpa [oddF] using R1, k1, kT, B1, Nat.le_refl _⟩
        (fun x => { tmps := #[.agg (tkC a Ua um uc A k c), .pointer (some ⟨w.heap.size, 0, none⟩), .slice none 0 0, .pointer (some ⟨w.heap.size + 1, 0, none⟩), undef, u5, .int .i64 x.1.1, .int .i64 x.1.2, .pointer (some ⟨w.heap.size, 2, none⟩), .slice A k c, .int .i64 k, .int .i64 k, .bool false, u13, u14, u15, u16, u17, u18, u19, u20, .agg (tkC a Ua um uc A k c), .func (.func 86) #[] #[.pointer (some ⟨wq.heap.size, 0, none⟩)], .int .i64 x.1.1, .int .i64 x.1.2, undef, undef, undef, undef, undef, undef, undef, undef, undef, undef, undef, undef, undef, undef, undef], defers := [] })
        ?assign ?body ?done ?stop
      case hI => exact OwnFrom.and (Own.from (I := fun (pre : List (Te L)) W => IdR (w.heap.size + 1) (idsP L ++ oddF L (pre.map (·.1))) W) (fun s A B row hs hg hr => hs.own hg hr) _) (OwnFrom.and (Own.from (I := fun (pre : List (Te L)) W => Blk W w.heap.size (tkC a Ua um uc A k c) 27) (fun s A B row hs hg hr => blk_own hs hg hr) _) (OwnFrom.and (Own.from (I := fun (pre : List (Te L)) W => Blk W wq.heap.size (tkC a Ua um uc A k c) 27) (fun s A B row hs hg hr => blk_own hs hg hr) _) (OwnFrom.and (ownFrom_below (by omega) B1.size) (Own.from (fun s A B row hs hg hr => Nat.le_trans hs hg.size) _))))
      case hIx => exact fun cd => Own.from (fun s A B row hs hg hr => hs) _
      case assign =>
        intro l x W K hK
        gi_wp2
        exact hK
      case body =>
        rintro lp pre ⟨⟨xa, xt⟩, hx⟩ W ⟨hR, kt, kq, hB, hsW⟩ hpl
        obtain ⟨_, hxl, _⟩ := thrF_at hx
        simp only [Nat.zero_add] at hxl
        obtain ⟨b2, off, rfl, hb2, hc⟩ := (hP.below hB (Nat.le_refl _)).at_ xa hxl
        have hxm : (xa : Int) < (k : Int) := by have := HM.out; omega
        have HSN := Lib.hid (oddF_snoc L (pre.map (·.1)) (xa, xt))
        simp only at HSN
        generalize L.getD xa pw0 = y at hc HSN
        have q2 : W.cell? ⟨w.heap.size, 2, none⟩ = some (.slice (some ⟨b2, off, none⟩) k c) := kt.cell 2
        have q0 : W.cell? ⟨b2, off + xa * 3, none⟩ = some (.int .i64 y.1.i) := hc 0 _ rfl
        clear hc
        cases hq : (xt == y.1.i)
        · obtain ⟨G, gm, gc, kg, zg⟩ := hR.r
          have hlg := zg.len
          rw [List.length_append] at hlg
          have hol := oddF_len L (pre.map (·.1))
          rw [List.length_map] at hol
          have hil2 := HIL.out
          have hgm : gm ≤ 101000 := by omega
          have q30 : W.cell? ⟨w.heap.size + 1, 0, none⟩ = some (.slice G gm gc) := kg.cell 0
          have ba : Below W.heap.size W (W.alloc (.cells #[.int .i64 xt] 3)) := (Below.refl _ _).alloc (Nat.le_refl _) _
          have zg1 := zg.below ba (Nat.le_refl _)
          have hbs3 := hB.size
          clear hlg hol hil2 hseq kT k1 R1 B1 hN hP
          gi_wp2_with (first
            | (gi_at_builtin; refine wpListIn_append_own _ rfl _ _ 22 rfl (w.heap.size + 1 + 1) 3 i0 _ 1 8 Tryz.underlying22 hi hz0 hz1 hz2 rfl (by decide) _ _ _ rfl zg1 ⟨W.heap.size, 0, none⟩ 1 1 [.int .i64 xt] rfl rfl (cell_one_new _ _ _) (by simp [Value.oneCell']) (by simp only [maxLen]; omega) (by omega) (by simp; omega) ?_
               intro v' w3 hown' hgrow _
               obtain ⟨A2, c2, rfl⟩ := own_slice hown'
               have kg2 := kg.below ba kg.lt
               have kg3 : Blk w3 (w.heap.size + 1) #[.slice G gm gc] 22 := ⟨(hgrow.block _ kg2.lt (fun e => by have := (zg1.lt _ e.symm).1; omega)).trans kg2.blk⟩
               have q33 : w3.cell? ⟨w.heap.size + 1, 0, none⟩ = some (.slice G gm gc) := kg3.cell 0
               have f33 := kg3.frozen 0))
          have kt1 := kt.below ba kt.lt
          have kt3 : Blk w3 w.heap.size (tkC a Ua um uc (some ⟨b2, off, none⟩) k c) 27 := ⟨(hgrow.block _ kt1.lt (fun e => by have := (zg1.lt _ e.symm).1; omega)).trans kt1.blk⟩
          have bS : But (w.heap.size + 1) w3 (w3.setCell ⟨w.heap.size + 1, 0, none⟩ (.slice A2 (gm + 1) c2)) := (But.refl _ w3).setCell (p := ⟨w.heap.size + 1, 0, none⟩) (.inl rfl) _
          have hsa : (W.alloc (.cells #[.int .i64 xt] 3)).heap.size = W.heap.size + 1 := by simp
          have hs3g : W.heap.size + 1 ≤ w3.heap.size := by have := hgrow.size; rw [hsa] at this; exact this
          have B3 : Below w.heap.size w w3 := (hB.trans (ba.mono hB.size)).grown hgrow (by rw [hsa]; omega) (fun r e => by have := (zg1.lt r e).1; omega)
          have B4 := B3.trans (bS.below _ (by omega) B3.size)
          have kg4 := kg3.set_ 0 (.slice A2 (gm + 1) c2)
          have hst := HSN.out
          rw [hq, if_neg (by simp)] at hst
          have zz : Zo w3 (w.heap.size + 1 + 1) A2 (gm + 1) c2 (idsP L ++ oddF L (pre.map (·.1) ++ [(xa, xt)])) := by
            unfold Zo
            rw [hst, ← List.append_assoc, List.map_append]
            exact hown'
          have z4 := own_but zz bS (fun e => by have := (zz.lt _ e.symm).1; omega)
          have hR4 : IdR (w.heap.size + 1) (idsP L ++ oddF L (pre.map (·.1) ++ [(xa, xt)])) (w3.setCell ⟨w.heap.size + 1, 0, none⟩ (.slice A2 (gm + 1) c2)) := ⟨A2, gm + 1, c2, kg4, z4⟩
          have hrow : ∀ r, (Value.slice G gm gc).ownBlock = some r → ∃ cs, (W.alloc (.cells #[.int .i64 xt] 3)).heap[r]? = some (.cells cs 3 (0, 0)) := fun r e => by
            rcases zg1.form with ⟨rfl, _, _, _⟩ | ⟨g9, rfl, _, _, cur, hh, _⟩
            · cases e
            · have e9 : some g9 = some r := e
              cases e9
              exact ⟨cur, hh⟩
          have kp : KeepsFrom (wq.heap.size + 1) W (w3.setCell ⟨w.heap.size + 1, 0, none⟩ (.slice A2 (gm + 1) c2)) := ((keeps_grownT (grown_of_belowT ba) (fun r e => by cases e)).trans (keeps_grownT hgrow hrow)).trans (keeps_butT bS kg3)
          have kt9 := bS.blk7 kt3 (by omega)
          have bW : Below w.heap.size W (w3.setCell ⟨w.heap.size + 1, 0, none⟩ (.slice A2 (gm + 1) c2)) := ((ba.mono hbs3).grown hgrow (by rw [hsa]; omega) (fun r e => by have := (zg1.lt r e).1; omega)).trans (bS.below _ (by omega) (by omega))
          have kq1 := kq.below ba kq.lt
          have hqr : some wq.heap.size ≠ (Value.slice G gm gc).ownBlock := fun e => by
            obtain ⟨cs, hcs⟩ := hrow _ e.symm
            have := kq1.blk
            rw [hcs] at this
            have h9 : (3 : TypeId) = 27 := by injection this with this; injection this
            exact absurd h9 (by decide)
          have kq3 : Blk w3 wq.heap.size (tkC a Ua um uc (some ⟨b2, off, none⟩) k c) 27 := ⟨(hgrow.block _ kq1.lt hqr).trans kq1.blk⟩
          have kq9 := bS.blk7 kq3 (by omega)
          refine ⟨kp, ⟨bW, kq9.blk.trans kq.blk.symm⟩, ?_, kt9, kq9, B4, by have := bS.size; omega⟩
          · rw [List.map_append]
            exact hR4
        · have hxe : xt = y.1.i := by simpa using hq
          subst hxe
          gi_wp2
          refine ⟨KeepsFrom.refl _ _, Kt.refl _ _ _, ?_, kt, kq, hB, by omega⟩
          rw [List.map_append]
          show IdR _ (idsP L ++ oddF L (pre.map (·.1) ++ [(xa, y.1.i)])) W
          rw [HSN.out, if_pos hq, List.append_nil]
          exact hR
      case done =>
        rintro D xs W hD hS ⟨hR, kt, kq, hB, hsW⟩ hK
        obtain ⟨G, gm, gc, kg, zg⟩ := hR.r
        rw [hS] at zg
        have hlg := zg.len
        rw [List.length_append] at hlg
        have hol := oddF_len L (thrF 0 L)
        have hil2 := HIL.out
        have hgm6 : gm ≤ 1000000 := by omega
        have q3 : W.cell? ⟨w.heap.size + 1, 0, none⟩ = some (.slice G gm gc) := kg.cell 0
        have hso := callsIn_wide (n := 5) |>.2 (sort_any G gm gc _ _ W zg hgm6)
        have HKD := Lib.hid hK
        clear hlg hol hil2 hseq hR kT k1 R1 B1 hK hS hN hP
        gi_wp2
        refine ⟨trivial, hso.mono ?_⟩
        rintro e V ⟨rfl, zv, hgr⟩
        have kgv : Blk V (w.heap.size + 1) #[.slice G gm gc] 22 := ⟨(hgr.block _ kg.lt (fun e => by have := (zg.lt _ e.symm).1; omega)).trans kg.blk⟩
        have q3v : V.cell? ⟨w.heap.size + 1, 0, none⟩ = some (.slice G gm gc) := kgv.cell 0
        have bv : Below w.heap.size w V := hB.grown hgr (by omega) (fun r e => by have := (zg.lt r e).1; omega)
        clear hso q3 kg
        gi_wp2
        have hKV : V.heap[D]? = some (.deferred (some [])) := (hgr.block D (Array.getElem?_eq_some_iff.1 HKD.out).1 (fun e => by
          rcases zg.form with ⟨rfl, _, _, _⟩ | ⟨g9, rfl, _, _, cur, hh, _⟩
          · cases e
          · have e9 : some D = some g9 := e
            cases e9
            have := HKD.out
            rw [hh] at this
            cases this)).trans HKD.out
        have hg3 := grownBy_putObj' V D (.deferred none)
        have hr3 : ∀ r, some D = some r → ∃ o : Obj, V.heap[r]? = some o ∧ o.isCells = false := fun r e => by cases e; exact ⟨_, hKV, rfl⟩
        refine ⟨by simp, .inl ⟨_, _, rfl, run_takeDeferred hKV, ?_⟩⟩
        exact ⟨_, results_tmp1 rfl _ _, G, gm, gc, rfl, (zo_own zv hg3 hr3).down (by omega), bv.trans (belowK_b (w := w) (Nat.le_refl _) V D _ _ (by omega) hKV rfl rfl)⟩
      case stop =>
        rintro D cd pre W hD _ hF
        exact hF.elim
theorem ids_any (a : Int) (Ua : Option Addr) (um uc : Nat) (A : Option Addr) (m c : Nat) (L : List Pw) (w : World) (hP : Ps w w.heap.size A L) (hm : m = L.length) (h6 : m ≤ 1000) (hN : (thrF 0 L).length ≤ 100000) :
    Calls Tryz.prog 43 #[tkV a Ua um uc A m c] w fun e w' => ∃ G gm gc, e = .returned (.slice G gm gc) ∧ Zo w' w.heap.size G gm gc (idsF L) ∧ Below w.heap.size w w' :=
  (callsIn_wide (n := 6)).1 (ids_in a Ua um uc A m c L w hP hm h6 hN)
end Go.Proofs.YtlelhhgggnjndaaGreat
namespace Go.Proofs.YtlelhhgggnjndaaGreat
open Go.RowKit Go.Shelf
attribute [local go_sem] Oper.semAt_some
set_option linter.unusedVariables false
set_option linter.unusedSimpArgs false
def kidP (pid : Int) (x : Pw) : Bool := x.1.p == pid && pid != 0
def kidF (L : List Pw) (pid : Int) : List Int := (L.filter (kidP pid)).map (·.1.i)
theorem kidF_len (L : List Pw) (pid : Int) : (kidF L pid).length ≤ L.length := by
  unfold kidF
  rw [List.length_map]
  exact List.length_filter_le _ _
theorem kidF_take {L : List Pw} {k : Nat} (hk : k < L.length) (pid : Int) : kidF (L.take (k + 1)) pid = kidF (L.take k) pid ++ if kidP pid (L.getD k pw0) = true then [(L.getD k pw0).1.i] else [] := by
  have e : L.getD k pw0 = L[k] := by simp [List.getD, hk]
  rw [e, List.take_succ_eq_append_getElem hk]
  unfold kidF
  rw [List.filter_append, List.map_append, List.filter_cons]
  cases kidP pid L[k] <;> simp
set_option maxRecDepth 100000 in
set_option maxHeartbeats 8000000 in
theorem children_in (a : Int) (Ua : Option Addr) (um uc : Nat) (A : Option Addr) (m c : Nat) (L : List Pw) (pid : Int) (w : World) (hP : Ps w w.heap.size A L) (hm : m = L.length) (h6 : m ≤ 1000000) :
    CallsIn Fence.wide 6 Tryz.prog 23 #[tkV a Ua um uc A m c, .int .i64 pid] w fun e w' => ∃ G gm gc, e = .returned (.slice G gm gc) ∧ Zo w' w.heap.size G gm gc (sortZ (kidF L pid)) ∧ Below w.heap.size w w' := by
  have k1 := Blk.new w (tkC a Ua um uc A m c) 27
  have B0 := (Below.refl w.heap.size w).alloc (Nat.le_refl _) (.cells (tkC a Ua um uc A m c) 27)
  have hs0 : (w.alloc (.cells (tkC a Ua um uc A m c) 27)).heap.size = w.heap.size + 1 := by simp
  have q2 : (w.alloc (.cells (tkC a Ua um uc A m c) 27)).cell? ⟨w.heap.size, 2, none⟩ = some (.slice A m c) := k1.cell 2
  have HM := Lib.hid hm
  clear hm
  unfold tkV
  obtain ⟨i0, hi, hz0, hz1, hz2⟩ := info_parts zint_info
  refine callsIn_of_wp_marks Tryz.func23 rfl trivial ?_ rfl
  simp only [Tryz.ntmps23, List.size_toArray, List.length_cons, List.length_nil, Nat.reduceAdd, Nat.reduceSub, Array.replicate_succ, Array.replicate_zero, List.push_toArray, List.append_toArray, List.nil_append, List.cons_append]
  gi_wp2
  clear q2
  gi_loopw [5, 11] (fun q i wr => ∃ (k : Nat) (G : Option Addr) (gm gc : Nat), k ≤ m ∧ i = .int .i64 k ∧ q = .slice G gm gc ∧ Hid (Zo wr (w.heap.size + 1) G gm gc (kidF (L.take k) pid)) ∧ Hid (Below w.heap.size w wr) ∧ w.heap.size < wr.heap.size) (fun _ i _ => m - (intOf i).toNat)
  case atStart => exact ⟨0, none, 0, 0, Nat.zero_le _, rfl, rfl, Lib.hid (zo_nil _ _), Lib.hid B0, by simp⟩
  case round =>
    clear k1 B0 hs0
    obtain ⟨k, G, gm, gc, hk, rfl, rfl, HZ, HB, hsz⟩ := hrel
    obtain ⟨wq, rfl⟩ : ∃ wq : World, wq = wr := ⟨_, rfl⟩
    have hgm : gm ≤ 1000000 := by
      have := HZ.out.len
      have h1 := kidF_len (L.take k) pid
      rw [List.length_take] at h1
      omega
    by_cases hlt : k < m
    · have hlt' : (k : Int) < m := by omega
      have hkl : k < L.length := by have := HM.out; omega
      have zg := HZ.out
      obtain ⟨b, off, rfl, hb, hc⟩ := (hP.below HB.out (Nat.le_refl _)).at_ k hkl
      have HTK := Lib.hid (kidF_take hkl pid)
      generalize L.getD k pw0 = x at hc HTK
      have hs3 : (prC x).size = 3 := pr_size x
      have hbz := HB.out.size
      cases hq1 : (x.1.p == pid)
      · have HKP := Lib.hid (show kidP pid x = false by unfold kidP; rw [hq1]; rfl)
        gi_wp2_with (first
          | (refine wpListIn_load_midT rfl 49 (.tmp 13) rfl b (off + k * 3) rfl (prC x).toList _ hc Tryz.underlying49 rfl (pr_infL x) ?_)
          | (refine wpListIn_store_blk rfl 49 (.tmp 7) (.tmp 14) rfl wq.heap.size (prC pw0) (prC x) 49 rfl rfl (Blk.new _ _ _) rfl (pr_inf x) (pr_one x) ?_
             intro w1 hw1 hn1
             have b1 : Below wq.heap.size wq w1 := ((Below.refl _ wq).alloc (Nat.le_refl _) _).trans (hn1.below _ (Nat.le_refl _) (by simp))
             have hs1 : wq.heap.size ≤ w1.heap.size := b1.size
             have zg0 := zg.below b1 (Nat.le_refl _)
             have q50 : w1.cell? ⟨wq.heap.size, 0, none⟩ = some (.int .i64 x.1.i) := hw1.cell 0
             have q51 : w1.cell? ⟨wq.heap.size, 1, none⟩ = some (.int .i64 x.1.p) := hw1.cell 1
             have ba : Below w1.heap.size w1 (w1.alloc (.cells #[.int .i64 x.1.i] 3)) := (Below.refl _ _).alloc (Nat.le_refl _) _
             have zg1 := zg0.below ba (Nat.le_refl _)
             clear hn1))
        refine ⟨⟨k + 1, G, gm, gc, by omega, by go_num, rfl, Lib.hid ?_, Lib.hid (HB.out.trans (b1.mono HB.out.size)), by omega⟩, by simp [intOf]; omega⟩
        rw [HTK.out, HKP.out, if_neg (by simp), List.append_nil]
        exact zg0
      · cases hq2 : (pid != 0)
        · obtain rfl : pid = 0 := by simpa using hq2
          have HKP := Lib.hid (show kidP 0 x = false by unfold kidP; rw [hq2, Bool.and_false])
          clear hq2
          gi_wp2_with (first
            | (refine wpListIn_load_midT rfl 49 (.tmp 13) rfl b (off + k * 3) rfl (prC x).toList _ hc Tryz.underlying49 rfl (pr_infL x) ?_)
            | (refine wpListIn_store_blk rfl 49 (.tmp 7) (.tmp 14) rfl wq.heap.size (prC pw0) (prC x) 49 rfl rfl (Blk.new _ _ _) rfl (pr_inf x) (pr_one x) ?_
               intro w1 hw1 hn1
               have b1 : Below wq.heap.size wq w1 := ((Below.refl _ wq).alloc (Nat.le_refl _) _).trans (hn1.below _ (Nat.le_refl _) (by simp))
               have hs1 : wq.heap.size ≤ w1.heap.size := b1.size
               have zg0 := zg.below b1 (Nat.le_refl _)
               have q50 : w1.cell? ⟨wq.heap.size, 0, none⟩ = some (.int .i64 x.1.i) := hw1.cell 0
               have q51 : w1.cell? ⟨wq.heap.size, 1, none⟩ = some (.int .i64 x.1.p) := hw1.cell 1
               have ba : Below w1.heap.size w1 (w1.alloc (.cells #[.int .i64 x.1.i] 3)) := (Below.refl _ _).alloc (Nat.le_refl _) _
               have zg1 := zg0.below ba (Nat.le_refl _)
               clear hn1))
          refine ⟨⟨k + 1, G, gm, gc, by omega, by go_num, rfl, Lib.hid ?_, Lib.hid (HB.out.trans (b1.mono HB.out.size)), by omega⟩, by simp [intOf]; omega⟩
          rw [HTK.out, HKP.out, if_neg (by simp), List.append_nil]
          exact zg0
        · have HKP := Lib.hid (show kidP pid x = true by unfold kidP; rw [hq1, hq2]; rfl)
          gi_wp2_with (first
            | (refine wpListIn_load_midT rfl 49 (.tmp 13) rfl b (off + k * 3) rfl (prC x).toList _ hc Tryz.underlying49 rfl (pr_infL x) ?_)
            | (refine wpListIn_store_blk rfl 49 (.tmp 7) (.tmp 14) rfl wq.heap.size (prC pw0) (prC x) 49 rfl rfl (Blk.new _ _ _) rfl (pr_inf x) (pr_one x) ?_
               intro w1 hw1 hn1
               have b1 : Below wq.heap.size wq w1 := ((Below.refl _ wq).alloc (Nat.le_refl _) _).trans (hn1.below _ (Nat.le_refl _) (by simp))
               have hs1 : wq.heap.size ≤ w1.heap.size := b1.size
               have zg0 := zg.below b1 (Nat.le_refl _)
               have q50 : w1.cell? ⟨wq.heap.size, 0, none⟩ = some (.int .i64 x.1.i) := hw1.cell 0
               have q51 : w1.cell? ⟨wq.heap.size, 1, none⟩ = some (.int .i64 x.1.p) := hw1.cell 1
               have ba : Below w1.heap.size w1 (w1.alloc (.cells #[.int .i64 x.1.i] 3)) := (Below.refl _ _).alloc (Nat.le_refl _) _
               have zg1 := zg0.below ba (Nat.le_refl _)
               clear hn1)
            | (gi_at_builtin; refine wpListIn_append_own _ rfl _ _ 22 rfl (w.heap.size + 1) 3 i0 _ 1 8 Tryz.underlying22 hi hz0 hz1 hz2 rfl (by decide) _ _ _ rfl zg1 ⟨w1.heap.size, 0, none⟩ 1 1 [.int .i64 x.1.i] rfl rfl (cell_one_new _ _ _) (by simp [Value.oneCell']) (by simp only [maxLen]; omega) (by omega) (by simp; omega) ?_
               intro v' w3 hown' hgrow _
               obtain ⟨A2, c2, rfl⟩ := own_slice hown'))
          have hsa : (w1.alloc (.cells #[.int .i64 x.1.i] 3)).heap.size = w1.heap.size + 1 := by simp
          have hB1 : Below w.heap.size w w3 := ((HB.out.trans (b1.mono HB.out.size)).trans (ba.mono (by omega))).grown hgrow (by rw [hsa]; omega) (fun r e => by have := (zg1.lt r e).1; omega)
          have hs3g : w1.heap.size + 1 ≤ w3.heap.size := by have := hgrow.size; rw [hsa] at this; exact this
          have zz : Zo w3 (w.heap.size + 1) A2 (gm + 1) c2 (kidF (L.take (k + 1)) pid) := by
            unfold Zo
            rw [HTK.out, HKP.out, if_pos rfl, List.map_append]
            exact hown'
          refine ⟨⟨k + 1, A2, gm + 1, c2, by omega, by go_num, rfl, Lib.hid zz, Lib.hid hB1, by omega⟩, by simp [intOf]; omega⟩
    · obtain rfl : k = m := by omega
      have zg := HZ.out
      rw [List.take_of_length_le (by have := HM.out; omega)] at zg
      have hso := callsIn_wide (n := 5) |>.2 (sort_any G gm gc _ _ wq zg hgm)
      gi_wp2
      refine ⟨trivial, hso.mono ?_⟩
      clear hso
      rintro e V ⟨rfl, zv, hgr⟩
      have bv : Below w.heap.size w V := HB.out.grown hgr (by omega) (fun r e => by have := (zg.lt r e).1; omega)
      gi_wp2
      refine ⟨_, results_tmp1 rfl _ _, ?_⟩
      exact ⟨G, gm, gc, rfl, zv.down (by omega), bv⟩
theorem children_any (a : Int) (Ua : Option Addr) (um uc : Nat) (A : Option Addr) (m c : Nat) (L : List Pw) (pid : Int) (w : World) (hP : Ps w w.heap.size A L) (hm : m = L.length) (h6 : m ≤ 1000000) :
    Calls Tryz.prog 23 #[tkV a Ua um uc A m c, .int .i64 pid] w fun e w' => ∃ G gm gc, e = .returned (.slice G gm gc) ∧ Zo w' w.heap.size G gm gc (sortZ (kidF L pid)) ∧ Below w.heap.size w w' :=
  (callsIn_wide (n := 6)).1 (children_in a Ua um uc A m c L pid w hP hm h6)
end Go.Proofs.YtlelhhgggnjndaaGreat
namespace Go.Proofs.YtlelhhgggnjndaaGreat
open Go.RowKit Go.Shelf
attribute [local go_sem] Oper.semAt_some
set_option linter.unusedVariables false
set_option linter.unusedSimpArgs false
def upB : List Int → Bool
  | [] => true
  | [_] => true
  | x :: y :: l => decide (x < y) && upB (y :: l)
theorem upB_iff : ∀ l : List Int, upB l = true ↔ l.Pairwise (· < ·)
  | [] => by simp [upB]
  | [x] => by simp [upB]
  | x :: y :: l => by
    rw [upB, Bool.and_eq_true, decide_eq_true_iff, upB_iff (y :: l), List.pairwise_cons (a := x)]
    constructor
    · rintro ⟨h1, h2⟩
      refine ⟨fun z hz => ?_, h2⟩
      rcases List.mem_cons.1 hz with rfl | h
      · exact h1
      · exact Int.lt_trans h1 ((List.pairwise_cons.1 h2).1 z h)
    · rintro ⟨h1, h2⟩
      exact ⟨h1 y (by simp), h2⟩
theorem upB_step {l : List Int} {k : Nat} (h0 : 0 < k) (h : k < l.length) : upB (l.drop (k - 1)) = (decide (l.getD (k - 1) 0 < l.getD k 0) && upB (l.drop k)) := by
  have h1 : k - 1 < l.length := by omega
  have h2 : k - 1 + 1 = k := by omega
  rw [List.drop_eq_getElem_cons h1, h2, List.drop_eq_getElem_cons h, upB]
  simp [List.getD, h, h1]
theorem upB_last {l : List Int} {k : Nat} (h : l.length ≤ k) : upB (l.drop (k - 1)) = true := by
  have : (l.drop (k - 1)).length ≤ 1 := by rw [List.length_drop]; omega
  match hq : l.drop (k - 1) with
  | [] => rfl
  | [_] => rfl
  | _ :: _ :: _ => rw [hq] at this; simp at this
set_option maxRecDepth 100000 in
set_option maxHeartbeats 4000000 in
theorem rise_tk (A : Option Addr) (m c : Nat) (l : List Int) (w : World) (hA : Ri7 w w.heap.size A l) (hm : m = l.length) (h6 : m ≤ 1000000) :
    Calls Tryz.prog 84 #[.slice A m c] w fun e w' => e = .returned (.bool (upB l)) ∧ Below w.heap.size w w' := by
  have B0 := Below.refl w.heap.size w
  have HM := Lib.hid hm
  clear hm
  go_enter Tryz.func84, Tryz.ntmps84
  go_wp2_with fail
  go_loopw [6] (fun i wr' => ∃ (k : Nat) (wr : World), wr = wr' ∧ k ≤ m ∧ i = .int .i64 k ∧ upB l = upB (l.drop (k - 1)) ∧ Below w.heap.size w wr) (fun i _ => m - (intOf i).toNat)
  case atStart => exact ⟨0, _, rfl, Nat.zero_le _, rfl, by simp, B0⟩
  case round =>
    clear B0
    obtain ⟨k, wr, hwr, hk, rfl, hinv, hB⟩ := hrel
    subst hwr
    by_cases hlt : k < m
    · have hlt' : (k : Int) < (m : Int) := by omega
      have hkl : k < l.length := by have := HM.out; omega
      by_cases h0 : k = 0
      · subst h0
        have HI := Lib.hid hinv
        clear hinv
        have hd : decide (((0 : Nat) : Int) > 0) = false := rfl
        go_wp2_with (go_quiet (fail))
        go_roundw
        case rel => exact ⟨1, _, rfl, by omega, by go_num, HI.out, below_drewN hB _⟩
        case measure => simp [intOf]; omega
      · obtain ⟨j, rfl⟩ : ∃ j, k = j + 1 := ⟨k - 1, by omega⟩
        obtain ⟨b, off, rfl, hb, hc⟩ := hA.below hB (Nat.le_refl _) (j + 1) hkl
        obtain ⟨b', off', he, hb', hc'⟩ := hA.below hB (Nat.le_refl _) j (by omega)
        cases he
        have hd : decide (((j + 1 : Nat) : Int) > 0) = true := decide_eq_true (by omega)
        have hk1 : ((j + 1 : Nat) : Int) - 1 = (j : Int) := by omega
        have hjm : (j : Int) < (m : Int) := by omega
        have hkn : ((j + 1 : Nat) : Int).toNat = j + 1 := by omega
        rw [upB_step (by omega) hkl] at hinv
        simp only [Nat.add_sub_cancel] at hinv
        generalize l.getD (j + 1) 0 = y at hc hinv
        generalize l.getD j 0 = z at hc' hinv
        cases hq : decide (z < y)
        · rw [hq, Bool.false_and] at hinv
          have HI := Lib.hid hinv
          clear hinv
          have hq2 : decide (y ≤ z) = true := by simp at hq ⊢; omega
          go_wp2_with (go_quiet (fail))
          go_ret
          exact ⟨by rw [HI.out]; rfl, below_drewN hB _⟩
        · rw [hq, Bool.true_and] at hinv
          have HI := Lib.hid hinv
          clear hinv
          have hq2 : decide (y ≤ z) = false := by simp at hq ⊢; omega
          go_wp2_with (go_quiet (fail))
          go_roundw
          case rel => exact ⟨j + 1 + 1, _, rfl, by omega, by go_num, HI.out, below_drewN hB _⟩
          case measure => simp [intOf]; omega
    · obtain rfl : k = m := by omega
      rw [upB_last (by have := HM.out; omega)] at hinv
      have HI := Lib.hid hinv
      clear hinv
      go_wp2_with fail
      go_ret
      exact ⟨by rw [HI.out]; rfl, hB⟩
def ordB (L : List Pw) : Bool := L.all (fun x => upB x.1.t) && upB (idsP L)
set_option maxRecDepth 100000 in
set_option maxHeartbeats 8000000 in
theorem inOrder_in (a : Int) (Ua : Option Addr) (um uc : Nat) (A : Option Addr) (m c : Nat) (L : List Pw) (w : World) (hP : Ps w w.heap.size A L) (hm : m = L.length) (h6 : m ≤ 1000) :
    CallsIn Fence.wide 6 Tryz.prog 41 #[tkV a Ua um uc A m c] w fun e w' => e = .returned (.bool (ordB L)) ∧ Below w.heap.size w w' := by
  have k1 := Blk.new w (tkC a Ua um uc A m c) 27
  have B0 := (Below.refl w.heap.size w).alloc (Nat.le_refl _) (.cells (tkC a Ua um uc A m c) 27)
  have hs0 : (w.alloc (.cells (tkC a Ua um uc A m c) 27)).heap.size = w.heap.size + 1 := by simp
  have q2 : (w.alloc (.cells (tkC a Ua um uc A m c) 27)).cell? ⟨w.heap.size, 2, none⟩ = some (.slice A m c) := k1.cell 2
  have HM := Lib.hid hm
  clear hm
  obtain ⟨R, hR⟩ : ∃ R, ordB L = R := ⟨_, rfl⟩
  rw [hR]
  have HR := Lib.hid hR
  clear hR
  unfold tkV
  obtain ⟨i0, hi, hz0, hz1, hz2⟩ := info_parts zint_info
  refine callsIn_of_wp_marks Tryz.func41 rfl trivial ?_ rfl
  simp only [Tryz.ntmps41, List.size_toArray, List.length_cons, List.length_nil, Nat.reduceAdd, Nat.reduceSub, Array.replicate_succ, Array.replicate_zero, List.push_toArray, List.append_toArray, List.nil_append, List.cons_append]
  gi_wp2
  clear q2
  gi_loopw [3, 9] (fun q i wr => ∃ (k : Nat) (G : Option Addr) (gm gc : Nat), k ≤ m ∧ i = .int .i64 k ∧ q = .slice G gm gc ∧ Hid (Zo wr (w.heap.size + 1) G gm gc ((idsP L).take k)) ∧ Hid (∀ j, j < k → upB (L.getD j pw0).1.t = true) ∧ Hid (Below w.heap.size w wr) ∧ w.heap.size < wr.heap.size) (fun _ i _ => m - (intOf i).toNat)
  case atStart => exact ⟨0, none, 0, 0, Nat.zero_le _, rfl, rfl, Lib.hid (zo_nil _ _), Lib.hid (fun j h => absurd h (by omega)), Lib.hid B0, by simp⟩
  case round =>
    clear k1 B0 hs0
    obtain ⟨k, G, gm, gc, hk, rfl, rfl, HZ, HA, HB, hsz⟩ := hrel
    obtain ⟨wq, rfl⟩ : ∃ wq : World, wq = wr := ⟨_, rfl⟩
    by_cases hlt : k < m
    · have hlt' : (k : Int) < m := by omega
      have hkl : k < L.length := by have := HM.out; omega
      have zg := HZ.out
      have hgm : gm ≤ 1000 := by have := zg.len; rw [List.length_take] at this; omega
      obtain ⟨b, off, rfl, hb, hc⟩ := (hP.below HB.out (Nat.le_refl _)).at_ k hkl
      have hT := (hP.below HB.out (Nat.le_refl _)).at' hkl
      have HTK := Lib.hid (idsP_take hkl)
      have HMEM := Lib.hid (show L.getD k pw0 ∈ L by rw [show L.getD k pw0 = L[k] by simp [List.getD, hkl]]; exact List.getElem_mem hkl)
      generalize hX : L.getD k pw0 = x at hc HTK hT HMEM
      have HX := Lib.hid hX
      clear hX
      have HRI := fun (V : World) (h : Below wq.heap.size wq V) (h2 : w.heap.size ≤ V.heap.size) => callsIn_wide (n := 5) |>.2 (rise_tk x.2.1 x.1.t.length x.2.2 x.1.t V ((hT.ri.below (h.mono (by omega)) (Nat.le_refl _)).more h2) rfl hT.l)
      obtain ⟨u, hu⟩ : ∃ u, upB x.1.t = u := ⟨_, rfl⟩
      rw [hu] at HRI
      have HU := Lib.hid hu
      have HRH := Lib.hid HRI
      clear hu HRI
      have hs3 : (prC x).size = 3 := pr_size x
      have hbz := HB.out.size
      cases u
      all_goals
        gi_wp2_with (first
          | (refine wpListIn_load_midT rfl 49 (.tmp 11) rfl b (off + k * 3) rfl (prC x).toList _ hc Tryz.underlying49 rfl (pr_infL x) ?_)
          | (refine wpListIn_store_blk rfl 49 (.tmp 5) (.tmp 12) rfl wq.heap.size (prC pw0) (prC x) 49 rfl rfl (Blk.new _ _ _) rfl (pr_inf x) (pr_one x) ?_
             intro w1 hw1 hn1
             have b1 : Below wq.heap.size wq w1 := ((Below.refl _ wq).alloc (Nat.le_refl _) _).trans (hn1.below _ (Nat.le_refl _) (by simp))
             have hs1 : wq.heap.size ≤ w1.heap.size := b1.size
             have zg0 := zg.below b1 (Nat.le_refl _)
             have q52 : w1.cell? ⟨wq.heap.size, 2, none⟩ = some (.slice x.2.1 x.1.t.length x.2.2) := hw1.cell 2
             have hri := HRH.out w1 b1 (by omega)
             clear hn1 HRH)
          | (refine ⟨trivial, hri.mono ?_⟩
             clear hri
             rintro e w2 ⟨rfl, b2⟩
             have hw2 := hw1.below b2 hw1.lt
             have hs2 : w1.heap.size ≤ w2.heap.size := b2.size
             have ba : Below w2.heap.size w2 (w2.alloc (.cells #[.int .i64 x.1.i] 3)) := (Below.refl _ _).alloc (Nat.le_refl _) _
             have zg1 := (zg0.below b2 (Nat.le_refl _)).below ba (Nat.le_refl _)
             have q50 : w2.cell? ⟨wq.heap.size, 0, none⟩ = some (.int .i64 x.1.i) := hw2.cell 0)
          | (gi_at_builtin; refine wpListIn_append_own _ rfl _ _ 22 rfl (w.heap.size + 1) 3 i0 _ 1 8 Tryz.underlying22 hi hz0 hz1 hz2 rfl (by decide) _ _ _ rfl zg1 ⟨w2.heap.size, 0, none⟩ 1 1 [.int .i64 x.1.i] rfl rfl (cell_one_new _ _ _) (by simp [Value.oneCell']) (by simp only [maxLen]; omega) (by omega) (by simp; omega) ?_
             intro v' w3 hown' hgrow _
             obtain ⟨A2, c2, rfl⟩ := own_slice hown'))
      · have hB1 : Below w.heap.size w w2 := (HB.out.trans (b1.mono HB.out.size)).trans (b2.mono (by omega))
        have hr : R = false := by
          rw [← HR.out]
          unfold ordB
          have : L.all (fun x => upB x.1.t) = false := List.all_eq_false.2 ⟨x, HMEM.out, by rw [HU.out]; decide⟩
          rw [this, Bool.false_and]
        refine ⟨_, results_tmp1 rfl _ _, ?_⟩
        rw [hr]
        exact ⟨rfl, hB1⟩
      · have hsa : (w2.alloc (.cells #[.int .i64 x.1.i] 3)).heap.size = w2.heap.size + 1 := by simp
        have hB1 : Below w.heap.size w w3 := (((HB.out.trans (b1.mono HB.out.size)).trans (b2.mono (by omega))).trans (ba.mono (by omega))).grown hgrow (by rw [hsa]; omega) (fun r e => by have := (zg1.lt r e).1; omega)
        have hs3g : w2.heap.size + 1 ≤ w3.heap.size := by have := hgrow.size; rw [hsa] at this; exact this
        have zz : Zo w3 (w.heap.size + 1) A2 (gm + 1) c2 ((idsP L).take (k + 1)) := by
          unfold Zo
          rw [HTK.out, List.map_append]
          exact hown'
        refine ⟨⟨k + 1, A2, gm + 1, c2, by omega, by go_num, rfl, Lib.hid zz, Lib.hid (fun j hj => ?_), Lib.hid hB1, by omega⟩, by simp [intOf]; omega⟩
        rcases Nat.lt_succ_iff_lt_or_eq.1 hj with h | rfl
        · exact HA.out j h
        · rw [HX.out, HU.out]
    · obtain rfl : k = m := by omega
      have zg := HZ.out
      have hall : (idsP L).take k = idsP L := List.take_of_length_le (by have := HM.out; simp [idsP]; omega)
      rw [hall] at zg
      have hgm : gm ≤ 1000 := by have := zg.len; have h2 := HM.out; simp [idsP] at this; omega
      have hr : R = upB (idsP L) := by
        rw [← HR.out]
        unfold ordB
        have : L.all (fun x => upB x.1.t) = true := List.all_eq_true.2 fun x hx => by
          obtain ⟨j, hj, rfl⟩ := List.getElem_of_mem hx
          have := HA.out j (by have := HM.out; omega)
          rwa [show L.getD j pw0 = L[j] by simp [List.getD, hj]] at this
        rw [this, Bool.true_and]
      have hrs := callsIn_wide (n := 5) |>.2 (rise_tk G gm gc (idsP L) wq zg.ri zg.len (by omega))
      rw [← hr] at hrs
      clear hall hr
      gi_wp2_with (refine ⟨trivial, hrs.mono ?_⟩; clear hrs; rintro e w2 ⟨rfl, b2⟩)
      refine ⟨_, results_tmp1 rfl _ _, ?_⟩
      exact ⟨rfl, HB.out.trans (b2.mono HB.out.size)⟩
theorem inOrder_any (a : Int) (Ua : Option Addr) (um uc : Nat) (A : Option Addr) (m c : Nat) (L : List Pw) (w : World) (hP : Ps w w.heap.size A L) (hm : m = L.length) (h6 : m ≤ 1000) :
    Calls Tryz.prog 41 #[tkV a Ua um uc A m c] w fun e w' => e = .returned (.bool (ordB L)) ∧ Below w.heap.size w w' :=
  (callsIn_wide (n := 6)).1 (inOrder_in a Ua um uc A m c L w hP hm h6)
end Go.Proofs.YtlelhhgggnjndaaGreat
namespace Go.Proofs.YtlelhhgggnjndaaGreat
open Go.RowKit Go.Shelf
set_option linter.unusedVariables false
set_option linter.unusedSimpArgs false
set_option maxRecDepth 100000 in
set_option maxHeartbeats 4000000 in
theorem rises_rf (A : Option Addr) (m c : Nat) (l : List Int) (w : World) (hA : Ri7 w w.heap.size A l) (hm : m = l.length) (h6 : m ≤ 1000000) :
    Calls Tryz.prog 46 #[.slice A m c] w fun e w' => e = .returned (.bool (upB l)) ∧ Below w.heap.size w w' := by
  have B0 := Below.refl w.heap.size w
  have HM := Lib.hid hm
  clear hm
  go_enter Tryz.func46, Tryz.ntmps46
  go_wp2_with fail
  go_loopw [6] (fun i wr' => ∃ (k : Nat) (wr : World), wr = wr' ∧ k ≤ m ∧ i = .int .i64 k ∧ upB l = upB (l.drop (k - 1)) ∧ Below w.heap.size w wr) (fun i _ => m - (intOf i).toNat)
  case atStart => exact ⟨0, _, rfl, Nat.zero_le _, rfl, by simp, B0⟩
  case round =>
    clear B0
    obtain ⟨k, wr, hwr, hk, rfl, hinv, hB⟩ := hrel
    subst hwr
    by_cases hlt : k < m
    · have hlt' : (k : Int) < (m : Int) := by omega
      have hkl : k < l.length := by have := HM.out; omega
      by_cases h0 : k = 0
      · subst h0
        have HI := Lib.hid hinv
        clear hinv
        have hd : decide (((0 : Nat) : Int) > 0) = false := rfl
        go_wp2_with (go_quiet (fail))
        go_roundw
        case rel => exact ⟨1, _, rfl, by omega, by go_num, HI.out, below_drewN hB _⟩
        case measure => simp [intOf]; omega
      · obtain ⟨j, rfl⟩ : ∃ j, k = j + 1 := ⟨k - 1, by omega⟩
        obtain ⟨b, off, rfl, hb, hc⟩ := hA.below hB (Nat.le_refl _) (j + 1) hkl
        obtain ⟨b', off', he, hb', hc'⟩ := hA.below hB (Nat.le_refl _) j (by omega)
        cases he
        have hd : decide (((j + 1 : Nat) : Int) > 0) = true := decide_eq_true (by omega)
        have hk1 : ((j + 1 : Nat) : Int) - 1 = (j : Int) := by omega
        have hjm : (j : Int) < (m : Int) := by omega
        have hkn : ((j + 1 : Nat) : Int).toNat = j + 1 := by omega
        rw [upB_step (by omega) hkl] at hinv
        simp only [Nat.add_sub_cancel] at hinv
        generalize l.getD (j + 1) 0 = y at hc hinv
        generalize l.getD j 0 = z at hc' hinv
        cases hq : decide (z < y)
        · rw [hq, Bool.false_and] at hinv
          have HI := Lib.hid hinv
          clear hinv
          have hq2 : decide (y ≤ z) = true := by simp at hq ⊢; omega
          go_wp2_with (go_quiet (fail))
          go_ret
          exact ⟨by rw [HI.out]; rfl, below_drewN hB _⟩
        · rw [hq, Bool.true_and] at hinv
          have HI := Lib.hid hinv
          clear hinv
          have hq2 : decide (y ≤ z) = false := by simp at hq ⊢; omega
          go_wp2_with (go_quiet (fail))
          go_roundw
          case rel => exact ⟨j + 1 + 1, _, rfl, by omega, by go_num, HI.out, below_drewN hB _⟩
          case measure => simp [intOf]; omega
    · obtain rfl : k = m := by omega
      rw [upB_last (by have := HM.out; omega)] at hinv
      have HI := Lib.hid hinv
      clear hinv
      go_wp2_with fail
      go_ret
      exact ⟨by rw [HI.out]; rfl, hB⟩
def fndF : Nat → List Pw → Int → Int
  | _, [], _ => -1
  | k, x :: l, pid => if x.1.i == pid then (k : Int) else fndF (k + 1) l pid
theorem fndF_drop {L : List Pw} {k : Nat} (h : k < L.length) (pid : Int) : fndF k (L.drop k) pid = if (L.getD k pw0).1.i == pid then (k : Int) else fndF (k + 1) (L.drop (k + 1)) pid := by
  rw [List.drop_eq_getElem_cons h, fndF]
  simp [List.getD, h]
set_option maxRecDepth 100000 in
set_option maxHeartbeats 4000000 in
theorem find_rf (a : Int) (Ua : Option Addr) (um uc : Nat) (A : Option Addr) (m c : Nat) (L : List Pw) (pid : Int) (w : World) (hP : Ps w w.heap.size A L) (hm : m = L.length) (h6 : m ≤ 1000000) :
    Calls Tryz.prog 21 #[tkV a Ua um uc A m c, .int .i64 pid] w fun e w' => e = .returned (.int .i64 (fndF 0 L pid)) ∧ Below w.heap.size w w' := by
  have k1 := Blk.new w (tkC a Ua um uc A m c) 27
  have B0 := (Below.refl w.heap.size w).alloc (Nat.le_refl _) (.cells (tkC a Ua um uc A m c) 27)
  have q2 : (w.alloc (.cells (tkC a Ua um uc A m c) 27)).cell? ⟨w.heap.size, 2, none⟩ = some (.slice A m c) := k1.cell 2
  have HM := Lib.hid hm
  clear hm
  unfold tkV
  go_enter Tryz.func21, Tryz.ntmps21
  go_wp2_with fail
  clear q2 k1
  go_loopw [10] (fun i wr' => ∃ (k : Nat) (wr : World), wr = wr' ∧ k ≤ m ∧ i = .int .i64 k ∧ fndF 0 L pid = fndF k (L.drop k) pid ∧ Below w.heap.size w wr) (fun i _ => m - (intOf i).toNat)
  case atStart => exact ⟨0, _, rfl, Nat.zero_le _, rfl, by simp, B0⟩
  case round =>
    clear B0
    obtain ⟨k, wr, hwr, hk, rfl, hinv, hB⟩ := hrel
    subst hwr
    by_cases hlt : k < m
    · have hlt' : (k : Int) < (m : Int) := by omega
      have hkl : k < L.length := by have := HM.out; omega
      obtain ⟨b, off, rfl, hb, hc⟩ := (hP.below hB (Nat.le_refl _)).at_ k hkl
      rw [fndF_drop hkl] at hinv
      generalize L.getD k pw0 = x at hc hinv
      have hs3 : (prC x).size = 3 := pr_size x
      cases hq : (x.1.i == pid)
      · rw [hq, if_neg (by simp)] at hinv
        have HI := Lib.hid hinv
        clear hinv
        go_wp2_with (first
          | (refine wpList_load_mid rfl 49 (.tmp 13) rfl b (off + k * 3) rfl (prC x).toList _ hc Tryz.underlying49 rfl (pr_infL x) ?_)
          | (refine wpList_store_blk rfl 49 (.tmp 6) (.tmp 14) rfl wr.heap.size (prC pw0) (prC x) 49 rfl rfl (Blk.new _ _ _) rfl (pr_inf x) (pr_one x) ?_
             intro W1 k4 n4
             have bb : Below wr.heap.size wr W1 := ((Below.refl _ wr).alloc (Nat.le_refl _) _).trans (n4.below _ (Nat.le_refl _) (by simp))
             have q0 : W1.cell? ⟨wr.heap.size, 0, none⟩ = some (.int .i64 x.1.i) := k4.cell 0
             have B1 := hB.trans (bb.mono hB.size)
             clear n4))
        go_roundw
        case rel => exact ⟨k + 1, _, rfl, by omega, by go_num, HI.out, B1⟩
        case measure => simp [intOf]; omega
      · rw [hq, if_pos rfl] at hinv
        have HI := Lib.hid hinv
        clear hinv
        go_wp2_with (first
          | (refine wpList_load_mid rfl 49 (.tmp 13) rfl b (off + k * 3) rfl (prC x).toList _ hc Tryz.underlying49 rfl (pr_infL x) ?_)
          | (refine wpList_store_blk rfl 49 (.tmp 6) (.tmp 14) rfl wr.heap.size (prC pw0) (prC x) 49 rfl rfl (Blk.new _ _ _) rfl (pr_inf x) (pr_one x) ?_
             intro W1 k4 n4
             have bb : Below wr.heap.size wr W1 := ((Below.refl _ wr).alloc (Nat.le_refl _) _).trans (n4.below _ (Nat.le_refl _) (by simp))
             have q0 : W1.cell? ⟨wr.heap.size, 0, none⟩ = some (.int .i64 x.1.i) := k4.cell 0
             have B1 := hB.trans (bb.mono hB.size)
             clear n4))
        go_ret
        exact ⟨by rw [HI.out]; rfl, B1⟩
    · obtain rfl : k = m := by omega
      rw [HM.out, List.drop_length] at hinv
      have HI := Lib.hid hinv
      clear hinv
      go_wp2_with fail
      go_ret
      exact ⟨by rw [HI.out]; rfl, hB⟩
set_option maxRecDepth 100000 in
set_option maxHeartbeats 4000000 in
theorem has_rf (A : Option Addr) (m c : Nat) (l : List Int) (n : Int) (w : World) (hA : Ri7 w w.heap.size A l) (hm : m = l.length) (h6 : m ≤ 1000000) :
    Calls Tryz.prog 48 #[.slice A m c, .int .i64 n] w fun e w' => e = .returned (.bool (l.contains n)) ∧ Below w.heap.size w w' := by
  have B0 := Below.refl w.heap.size w
  have HM := Lib.hid hm
  clear hm
  go_enter Tryz.func48, Tryz.ntmps48
  go_wp2_with fail
  go_loopw [9] (fun i wr' => ∃ (k : Nat) (wr : World), wr = wr' ∧ k ≤ m ∧ i = .int .i64 k ∧ l.contains n = (l.drop k).contains n ∧ Below w.heap.size w wr) (fun i _ => m - (intOf i).toNat)
  case atStart => exact ⟨0, _, rfl, Nat.zero_le _, rfl, by simp, B0⟩
  case round =>
    clear B0
    obtain ⟨k, wr, hwr, hk, rfl, hinv, hB⟩ := hrel
    subst hwr
    by_cases hlt : k < m
    · have hlt' : (k : Int) < (m : Int) := by omega
      have hkl : k < l.length := by have := HM.out; omega
      obtain ⟨b, off, rfl, hb, hc⟩ := hA.below hB (Nat.le_refl _) k hkl
      have he : l.getD k 0 = l[k] := by simp [List.getD, hkl]
      rw [List.drop_eq_getElem_cons hkl, List.contains_cons, ← he] at hinv
      clear he
      generalize l.getD k 0 = y at hc hinv
      have hsym : (n == y) = (y == n) := by
        by_cases h : n = y
        · subst h; rfl
        · rw [show (n == y) = false by simpa using h, show (y == n) = false by simpa using fun e => h e.symm]
      rw [hsym] at hinv
      clear hsym
      cases hq : (y == n)
      · rw [hq, Bool.false_or] at hinv
        have HI := Lib.hid hinv
        clear hinv
        go_wp2_with fail
        go_roundw
        case rel => exact ⟨k + 1, _, rfl, by omega, by go_num, HI.out, hB⟩
        case measure => simp [intOf]; omega
      · rw [hq, Bool.true_or] at hinv
        have HI := Lib.hid hinv
        clear hinv
        go_wp2_with fail
        go_ret
        exact ⟨by rw [HI.out]; rfl, hB⟩
    · obtain rfl : k = m := by omega
      rw [HM.out, List.drop_length] at hinv
      have HI := Lib.hid hinv
      clear hinv
      go_wp2_with fail
      go_ret
      exact ⟨by rw [HI.out]; rfl, hB⟩
end Go.Proofs.YtlelhhgggnjndaaGreat
namespace Go.Proofs.YtlelhhgggnjndaaGreat
open Go.RowKit Go.Shelf
set_option linter.unusedVariables false
set_option linter.unusedSimpArgs false
theorem fndF_or : ∀ (L : List Pw) (k : Nat) (pid : Int), fndF k L pid = -1 ∨ ∃ j : Nat, j < L.length ∧ fndF k L pid = ((k + j : Nat) : Int)
  | [], k, pid => .inl rfl
  | x :: L, k, pid => by
    rw [fndF]
    cases x.1.i == pid
    · rw [if_neg (by simp)]
      rcases fndF_or L (k + 1) pid with h | ⟨j, hj, h⟩
      · exact .inl h
      · exact .inr ⟨j + 1, by simp; omega, by rw [h]; congr 1; omega⟩
    · exact .inr ⟨0, by simp, by simp⟩
def rootR (L : List Pw) : Nat → Int → Bool
  | 0, _ => false
  | n + 1, pid => pid == 0 || (decide (0 ≤ fndF 0 L pid) && rootR L n (L.getD (fndF 0 L pid).toNat pw0).1.p)
set_option maxRecDepth 100000 in
set_option maxHeartbeats 4000000 in
theorem root_rf (a : Int) (Ua : Option Addr) (um uc : Nat) (A : Option Addr) (m c : Nat) (L : List Pw) (pid : Int) (w : World) (hP : Ps w w.heap.size A L) (hm : m = L.length) (h6 : m ≤ 1000000) :
    Calls Tryz.prog 47 #[tkV a Ua um uc A m c, .int .i64 pid] w fun e w' => e = .returned (.bool (rootR L (m + 1) pid)) ∧ Below w.heap.size w w' := by
  have k1 := Blk.new w (tkC a Ua um uc A m c) 27
  have B0 := (Below.refl w.heap.size w).alloc (Nat.le_refl _) (.cells (tkC a Ua um uc A m c) 27)
  have q2 : (w.alloc (.cells (tkC a Ua um uc A m c) 27)).cell? ⟨w.heap.size, 2, none⟩ = some (.slice A m c) := k1.cell 2
  have FN := Lib.hid (fun (p : Int) (V : World) (hV : Below w.heap.size w V) => find_rf a Ua um uc A m c L p V ((hP.below hV (Nat.le_refl _)).more hV.size) hm h6)
  have HM := Lib.hid hm
  clear hm
  obtain ⟨R, hR⟩ : ∃ R, rootR L (m + 1) pid = R := ⟨_, rfl⟩
  rw [hR]
  unfold tkV at FN ⊢
  go_enter Tryz.func47, Tryz.ntmps47
  go_wp2_with fail
  clear q2
  go_loopw [1, 10] (fun p i wr' => ∃ (k : Nat) (q : Int) (wr : World), wr = wr' ∧ k ≤ m + 1 ∧ i = .int .i64 k ∧ p = .int .i64 q ∧ Blk wr w.heap.size (tkC a Ua um uc A m c) 27 ∧ rootR L (m + 1 - k) q = R ∧ Below w.heap.size w wr) (fun _ i _ => m + 1 - (intOf i).toNat)
  case atStart => exact ⟨0, pid, _, rfl, Nat.zero_le _, rfl, rfl, k1, hR, B0⟩
  case round =>
    clear B0 k1 hR
    obtain ⟨k, q, wr, hwr, hk, rfl, rfl, k1, hinv, hB⟩ := hrel
    subst hwr
    by_cases hlt : k < m + 1
    · have hlt' : (k : Int) < (m : Int) + 1 := by omega
      have hs : m + 1 - k = (m - k) + 1 := by omega
      rw [hs, rootR] at hinv
      clear hs
      have hf := fndF_or L 0 q
      simp only [Nat.zero_add] at hf
      cases hq : (q == 0)
      · rw [hq, Bool.false_or] at hinv
        have fn := Lib.hid (FN.out q wr hB)
        have hq0 : ¬ q = 0 := by simpa using hq
        have HQ := Lib.hid hq0
        clear hq0
        rcases hf with hf | ⟨j, hj, hf⟩
        · rw [hf] at hinv fn
          have HI := Lib.hid (show R = false by rw [← hinv]; rfl)
          clear hinv hf
          go_wp2_with (first
            | (refine wpList_load_row rfl 27 (.tmp 2) rfl w.heap.size rfl 27 (tkC a Ua um uc A m c) (0, 0) _ k1.blk Tryz.underlying27 rfl (tk_inf a Ua um uc A m c) ?_)
            | (refine fn.out.mono ?_
               clear fn
               rintro e w1 ⟨rfl, b1⟩
               have B1 := hB.trans (b1.mono hB.size)))
          go_ret
          exact ⟨by rw [HI.out]; rfl, B1⟩
        · rw [hf, decide_eq_true (by omega : (0 : Int) ≤ (j : Int)), Bool.true_and, Int.toNat_natCast] at hinv
          rw [hf] at fn
          have HI := Lib.hid hinv
          have hjm : (j : Int) < (m : Int) := by have := HM.out; omega
          have hj0 : decide ((j : Int) < 0) = false := by simp
          have HP := Lib.hid (fun (V : World) (hV : Below w.heap.size w V) => (hP.below hV (Nat.le_refl _)).at_ j hj)
          clear hinv hf hj
          generalize L.getD j pw0 = x at HI HP
          go_wp2_with (first
            | (refine wpList_load_row rfl 27 (.tmp 2) rfl w.heap.size rfl 27 (tkC a Ua um uc A m c) (0, 0) _ k1.blk Tryz.underlying27 rfl (tk_inf a Ua um uc A m c) ?_)
            | (refine fn.out.mono ?_
               clear fn
               rintro e w1 ⟨rfl, b1⟩
               have B1 := hB.trans (b1.mono hB.size)
               have k11 := k1.below b1 k1.lt
               obtain ⟨b, off, rfl, hb, hc⟩ := HP.out _ B1
               have q2 : w1.cell? ⟨w.heap.size, 2, none⟩ = some (.slice (some ⟨b, off, none⟩) m c) := k11.cell 2
               have q3 : w1.cell? ⟨b, off + j * 3 + 1, none⟩ = some (.int .i64 x.1.p) := hc 1 _ rfl
               clear hc))
          go_roundw
          case rel => exact ⟨k + 1, x.1.p, _, rfl, by omega, by go_num, rfl, k11, by rw [show m + 1 - (k + 1) = m - k by omega]; exact HI.out, B1⟩
          case measure => simp [intOf]; omega
      · obtain rfl : q = 0 := by simpa using hq
        have HI := Lib.hid (show R = true by rw [← hinv]; rfl)
        clear hinv hq hf
        go_wp2_with fail
        go_ret
        exact ⟨by rw [HI.out]; rfl, hB⟩
    · obtain rfl : k = m + 1 := by omega
      rw [Nat.sub_self, rootR] at hinv
      have HI := Lib.hid hinv
      clear hinv
      go_wp2_with fail
      go_ret
      exact ⟨by rw [← HI.out]; rfl, hB⟩
end Go.Proofs.YtlelhhgggnjndaaGreat
namespace Go.Proofs.YtlelhhgggnjndaaGreat
open Go.RowKit Go.Shelf
attribute [local go_sem] Oper.semAt_some
set_option linter.unusedVariables false
set_option linter.unusedSimpArgs false
def aboveR (L : List Pw) (z : Int) : Nat → Int → Bool
  | 0, _ => false
  | n + 1, pid => pid == z || (decide (0 ≤ fndF 0 L pid) && aboveR L z n (L.getD (fndF 0 L pid).toNat pw0).1.p)
set_option maxRecDepth 100000 in
set_option maxHeartbeats 4000000 in
theorem above_rf (a : Int) (Ua : Option Addr) (um uc : Nat) (A : Option Addr) (m c : Nat) (L : List Pw) (z pid : Int) (w : World) (hP : Ps w w.heap.size A L) (hm : m = L.length) (h6 : m ≤ 1000000) :
    Calls Tryz.prog 106 #[tkV a Ua um uc A m c, .int .i64 z, .int .i64 pid] w fun e w' => e = .returned (.bool (aboveR L z (m + 1) pid)) ∧ Below w.heap.size w w' := by
  have k1 := Blk.new w (tkC a Ua um uc A m c) 27
  have B0 := (Below.refl w.heap.size w).alloc (Nat.le_refl _) (.cells (tkC a Ua um uc A m c) 27)
  have q2 : (w.alloc (.cells (tkC a Ua um uc A m c) 27)).cell? ⟨w.heap.size, 2, none⟩ = some (.slice A m c) := k1.cell 2
  have FN := Lib.hid (fun (p : Int) (V : World) (hV : Below w.heap.size w V) => find_rf a Ua um uc A m c L p V ((hP.below hV (Nat.le_refl _)).more hV.size) hm h6)
  have HM := Lib.hid hm
  clear hm
  obtain ⟨R, hR⟩ : ∃ R, aboveR L z (m + 1) pid = R := ⟨_, rfl⟩
  rw [hR]
  unfold tkV at FN ⊢
  go_enter Tryz.func106, Tryz.ntmps106
  go_wp2_with fail
  clear q2
  go_loopw [2, 12] (fun p i wr' => ∃ (k : Nat) (q : Int) (wr : World), wr = wr' ∧ k ≤ m + 1 ∧ i = .int .i64 k ∧ p = .int .i64 q ∧ Blk wr w.heap.size (tkC a Ua um uc A m c) 27 ∧ aboveR L z (m + 1 - k) q = R ∧ Below w.heap.size w wr) (fun _ i _ => m + 1 - (intOf i).toNat)
  case atStart => exact ⟨0, pid, _, rfl, Nat.zero_le _, rfl, rfl, k1, hR, B0⟩
  case round =>
    clear B0 k1 hR
    obtain ⟨k, q, wr, hwr, hk, rfl, rfl, k1, hinv, hB⟩ := hrel
    subst hwr
    by_cases hlt : k < m + 1
    · have hlt' : (k : Int) < (m : Int) + 1 := by omega
      have hs : m + 1 - k = (m - k) + 1 := by omega
      rw [hs, aboveR] at hinv
      clear hs
      have hf := fndF_or L 0 q
      simp only [Nat.zero_add] at hf
      cases hq : (q == z)
      · rw [hq, Bool.false_or] at hinv
        have fn := Lib.hid (FN.out q wr hB)
        rcases hf with hf | ⟨j, hj, hf⟩
        · rw [hf] at hinv fn
          have HI := Lib.hid (show R = false by rw [← hinv]; rfl)
          clear hinv hf
          go_wp2_with (first
            | (refine wpList_load_row rfl 27 (.tmp 3) rfl w.heap.size rfl 27 (tkC a Ua um uc A m c) (0, 0) _ k1.blk Tryz.underlying27 rfl (tk_inf a Ua um uc A m c) ?_)
            | (refine fn.out.mono ?_
               clear fn
               rintro e w1 ⟨rfl, b1⟩
               have B1 := hB.trans (b1.mono hB.size)))
          go_ret
          exact ⟨by rw [HI.out]; rfl, B1⟩
        · rw [hf, decide_eq_true (by omega : (0 : Int) ≤ (j : Int)), Bool.true_and, Int.toNat_natCast] at hinv
          rw [hf] at fn
          have HI := Lib.hid hinv
          have hjm : (j : Int) < (m : Int) := by have := HM.out; omega
          have hj0 : decide ((j : Int) < 0) = false := by simp
          have HP := Lib.hid (fun (V : World) (hV : Below w.heap.size w V) => (hP.below hV (Nat.le_refl _)).at_ j hj)
          clear hinv hf hj
          generalize L.getD j pw0 = x at HI HP
          go_wp2_with (first
            | (refine wpList_load_row rfl 27 (.tmp 3) rfl w.heap.size rfl 27 (tkC a Ua um uc A m c) (0, 0) _ k1.blk Tryz.underlying27 rfl (tk_inf a Ua um uc A m c) ?_)
            | (refine fn.out.mono ?_
               clear fn
               rintro e w1 ⟨rfl, b1⟩
               have B1 := hB.trans (b1.mono hB.size)
               have k11 := k1.below b1 k1.lt
               obtain ⟨b, off, rfl, hb, hc⟩ := HP.out _ B1
               have q2 : w1.cell? ⟨w.heap.size, 2, none⟩ = some (.slice (some ⟨b, off, none⟩) m c) := k11.cell 2
               have q3 : w1.cell? ⟨b, off + j * 3 + 1, none⟩ = some (.int .i64 x.1.p) := hc 1 _ rfl
               clear hc))
          go_roundw
          case rel => exact ⟨k + 1, x.1.p, _, rfl, by omega, by go_num, rfl, k11, by rw [show m + 1 - (k + 1) = m - k by omega]; exact HI.out, B1⟩
          case measure => simp [intOf]; omega
      · obtain rfl : q = z := by simpa using hq
        have HI := Lib.hid (show R = true by rw [← hinv, hq, Bool.true_or])
        clear hinv hf
        go_wp2_with fail
        go_ret
        exact ⟨by rw [HI.out]; rfl, hB⟩
    · obtain rfl : k = m + 1 := by omega
      rw [Nat.sub_self, aboveR] at hinv
      have HI := Lib.hid hinv
      clear hinv
      go_wp2_with fail
      go_ret
      exact ⟨by rw [← HI.out]; rfl, hB⟩
set_option maxRecDepth 100000 in
set_option maxHeartbeats 8000000 in
theorem childrenR_in (a : Int) (Ua : Option Addr) (um uc : Nat) (A : Option Addr) (m c : Nat) (L : List Pw) (pid : Int) (w : World) (hP : Ps w w.heap.size A L) (hm : m = L.length) (h6 : m ≤ 1000000) :
    CallsIn Fence.wide 6 Tryz.prog 24 #[tkV a Ua um uc A m c, .int .i64 pid] w fun e w' => ∃ G gm gc, e = .returned (.slice G gm gc) ∧ Zo w' w.heap.size G gm gc (kidF L pid) ∧ Below w.heap.size w w' := by
  have k1 := Blk.new w (tkC a Ua um uc A m c) 27
  have B0 := (Below.refl w.heap.size w).alloc (Nat.le_refl _) (.cells (tkC a Ua um uc A m c) 27)
  have hs0 : (w.alloc (.cells (tkC a Ua um uc A m c) 27)).heap.size = w.heap.size + 1 := by simp
  have q2 : (w.alloc (.cells (tkC a Ua um uc A m c) 27)).cell? ⟨w.heap.size, 2, none⟩ = some (.slice A m c) := k1.cell 2
  have HM := Lib.hid hm
  clear hm
  unfold tkV
  obtain ⟨i0, hi, hz0, hz1, hz2⟩ := info_parts zint_info
  refine callsIn_of_wp_marks Tryz.func24 rfl trivial ?_ rfl
  simp only [Tryz.ntmps24, List.size_toArray, List.length_cons, List.length_nil, Nat.reduceAdd, Nat.reduceSub, Array.replicate_succ, Array.replicate_zero, List.push_toArray, List.append_toArray, List.nil_append, List.cons_append]
  gi_wp2
  clear q2
  gi_loopw [5, 11] (fun q i wr => ∃ (k : Nat) (G : Option Addr) (gm gc : Nat), k ≤ m ∧ i = .int .i64 k ∧ q = .slice G gm gc ∧ Hid (Zo wr (w.heap.size + 1) G gm gc (kidF (L.take k) pid)) ∧ Hid (Below w.heap.size w wr) ∧ w.heap.size < wr.heap.size) (fun _ i _ => m - (intOf i).toNat)
  case atStart => exact ⟨0, none, 0, 0, Nat.zero_le _, rfl, rfl, Lib.hid (zo_nil _ _), Lib.hid B0, by simp⟩
  case round =>
    clear k1 B0 hs0
    obtain ⟨k, G, gm, gc, hk, rfl, rfl, HZ, HB, hsz⟩ := hrel
    obtain ⟨wq, rfl⟩ : ∃ wq : World, wq = wr := ⟨_, rfl⟩
    have hgm : gm ≤ 1000000 := by
      have := HZ.out.len
      have h1 := kidF_len (L.take k) pid
      rw [List.length_take] at h1
      omega
    by_cases hlt : k < m
    · have hlt' : (k : Int) < m := by omega
      have hkl : k < L.length := by have := HM.out; omega
      have zg := HZ.out
      obtain ⟨b, off, rfl, hb, hc⟩ := (hP.below HB.out (Nat.le_refl _)).at_ k hkl
      have HTK := Lib.hid (kidF_take hkl pid)
      generalize L.getD k pw0 = x at hc HTK
      have hs3 : (prC x).size = 3 := pr_size x
      have hbz := HB.out.size
      cases hq1 : (x.1.p == pid)
      · have HKP := Lib.hid (show kidP pid x = false by unfold kidP; rw [hq1]; rfl)
        gi_wp2_with (first
          | (refine wpListIn_load_midT rfl 49 (.tmp 13) rfl b (off + k * 3) rfl (prC x).toList _ hc Tryz.underlying49 rfl (pr_infL x) ?_)
          | (refine wpListIn_store_blk rfl 49 (.tmp 7) (.tmp 14) rfl wq.heap.size (prC pw0) (prC x) 49 rfl rfl (Blk.new _ _ _) rfl (pr_inf x) (pr_one x) ?_
             intro w1 hw1 hn1
             have b1 : Below wq.heap.size wq w1 := ((Below.refl _ wq).alloc (Nat.le_refl _) _).trans (hn1.below _ (Nat.le_refl _) (by simp))
             have hs1 : wq.heap.size ≤ w1.heap.size := b1.size
             have zg0 := zg.below b1 (Nat.le_refl _)
             have q50 : w1.cell? ⟨wq.heap.size, 0, none⟩ = some (.int .i64 x.1.i) := hw1.cell 0
             have q51 : w1.cell? ⟨wq.heap.size, 1, none⟩ = some (.int .i64 x.1.p) := hw1.cell 1
             have ba : Below w1.heap.size w1 (w1.alloc (.cells #[.int .i64 x.1.i] 3)) := (Below.refl _ _).alloc (Nat.le_refl _) _
             have zg1 := zg0.below ba (Nat.le_refl _)
             clear hn1))
        refine ⟨⟨k + 1, G, gm, gc, by omega, by go_num, rfl, Lib.hid ?_, Lib.hid (HB.out.trans (b1.mono HB.out.size)), by omega⟩, by simp [intOf]; omega⟩
        rw [HTK.out, HKP.out, if_neg (by simp), List.append_nil]
        exact zg0
      · cases hq2 : (pid != 0)
        · obtain rfl : pid = 0 := by simpa using hq2
          have HKP := Lib.hid (show kidP 0 x = false by unfold kidP; rw [hq2, Bool.and_false])
          clear hq2
          gi_wp2_with (first
            | (refine wpListIn_load_midT rfl 49 (.tmp 13) rfl b (off + k * 3) rfl (prC x).toList _ hc Tryz.underlying49 rfl (pr_infL x) ?_)
            | (refine wpListIn_store_blk rfl 49 (.tmp 7) (.tmp 14) rfl wq.heap.size (prC pw0) (prC x) 49 rfl rfl (Blk.new _ _ _) rfl (pr_inf x) (pr_one x) ?_
               intro w1 hw1 hn1
               have b1 : Below wq.heap.size wq w1 := ((Below.refl _ wq).alloc (Nat.le_refl _) _).trans (hn1.below _ (Nat.le_refl _) (by simp))
               have hs1 : wq.heap.size ≤ w1.heap.size := b1.size
               have zg0 := zg.below b1 (Nat.le_refl _)
               have q50 : w1.cell? ⟨wq.heap.size, 0, none⟩ = some (.int .i64 x.1.i) := hw1.cell 0
               have q51 : w1.cell? ⟨wq.heap.size, 1, none⟩ = some (.int .i64 x.1.p) := hw1.cell 1
               have ba : Below w1.heap.size w1 (w1.alloc (.cells #[.int .i64 x.1.i] 3)) := (Below.refl _ _).alloc (Nat.le_refl _) _
               have zg1 := zg0.below ba (Nat.le_refl _)
               clear hn1))
          refine ⟨⟨k + 1, G, gm, gc, by omega, by go_num, rfl, Lib.hid ?_, Lib.hid (HB.out.trans (b1.mono HB.out.size)), by omega⟩, by simp [intOf]; omega⟩
          rw [HTK.out, HKP.out, if_neg (by simp), List.append_nil]
          exact zg0
        · have HKP := Lib.hid (show kidP pid x = true by unfold kidP; rw [hq1, hq2]; rfl)
          gi_wp2_with (first
            | (refine wpListIn_load_midT rfl 49 (.tmp 13) rfl b (off + k * 3) rfl (prC x).toList _ hc Tryz.underlying49 rfl (pr_infL x) ?_)
            | (refine wpListIn_store_blk rfl 49 (.tmp 7) (.tmp 14) rfl wq.heap.size (prC pw0) (prC x) 49 rfl rfl (Blk.new _ _ _) rfl (pr_inf x) (pr_one x) ?_
               intro w1 hw1 hn1
               have b1 : Below wq.heap.size wq w1 := ((Below.refl _ wq).alloc (Nat.le_refl _) _).trans (hn1.below _ (Nat.le_refl _) (by simp))
               have hs1 : wq.heap.size ≤ w1.heap.size := b1.size
               have zg0 := zg.below b1 (Nat.le_refl _)
               have q50 : w1.cell? ⟨wq.heap.size, 0, none⟩ = some (.int .i64 x.1.i) := hw1.cell 0
               have q51 : w1.cell? ⟨wq.heap.size, 1, none⟩ = some (.int .i64 x.1.p) := hw1.cell 1
               have ba : Below w1.heap.size w1 (w1.alloc (.cells #[.int .i64 x.1.i] 3)) := (Below.refl _ _).alloc (Nat.le_refl _) _
               have zg1 := zg0.below ba (Nat.le_refl _)
               clear hn1)
            | (gi_at_builtin; refine wpListIn_append_own _ rfl _ _ 22 rfl (w.heap.size + 1) 3 i0 _ 1 8 Tryz.underlying22 hi hz0 hz1 hz2 rfl (by decide) _ _ _ rfl zg1 ⟨w1.heap.size, 0, none⟩ 1 1 [.int .i64 x.1.i] rfl rfl (cell_one_new _ _ _) (by simp [Value.oneCell']) (by simp only [maxLen]; omega) (by omega) (by simp; omega) ?_
               intro v' w3 hown' hgrow _
               obtain ⟨A2, c2, rfl⟩ := own_slice hown'))
          have hsa : (w1.alloc (.cells #[.int .i64 x.1.i] 3)).heap.size = w1.heap.size + 1 := by simp
          have hB1 : Below w.heap.size w w3 := ((HB.out.trans (b1.mono HB.out.size)).trans (ba.mono (by omega))).grown hgrow (by rw [hsa]; omega) (fun r e => by have := (zg1.lt r e).1; omega)
          have hs3g : w1.heap.size + 1 ≤ w3.heap.size := by have := hgrow.size; rw [hsa] at this; exact this
          have zz : Zo w3 (w.heap.size + 1) A2 (gm + 1) c2 (kidF (L.take (k + 1)) pid) := by
            unfold Zo
            rw [HTK.out, HKP.out, if_pos rfl, List.map_append]
            exact hown'
          refine ⟨⟨k + 1, A2, gm + 1, c2, by omega, by go_num, rfl, Lib.hid zz, Lib.hid hB1, by omega⟩, by simp [intOf]; omega⟩
    · obtain rfl : k = m := by omega
      have zg := HZ.out
      rw [List.take_of_length_le (by have := HM.out; omega)] at zg
      gi_wp2
      refine ⟨_, results_tmp1 rfl _ _, ?_⟩
      exact ⟨G, gm, gc, rfl, zg.down (by omega), HB.out⟩
theorem children_rf (a : Int) (Ua : Option Addr) (um uc : Nat) (A : Option Addr) (m c : Nat) (L : List Pw) (pid : Int) (w : World) (hP : Ps w w.heap.size A L) (hm : m = L.length) (h6 : m ≤ 1000000) :
    Calls Tryz.prog 24 #[tkV a Ua um uc A m c, .int .i64 pid] w fun e w' => ∃ G gm gc, e = .returned (.slice G gm gc) ∧ Zo w' w.heap.size G gm gc (kidF L pid) ∧ Below w.heap.size w w' :=
  (callsIn_wide (n := 6)).1 (childrenR_in a Ua um uc A m c L pid w hP hm h6)
end Go.Proofs.YtlelhhgggnjndaaGreat
