/-
  BitmapFlows, walked.
-/
import Derived.Test.YtehcijockeecpaaDoorBmBits
namespace Go.Proofs.YtehcijockeecpaaDoor
open Go.RowKit
set_option linter.unusedVariables false
set_option linter.unusedSimpArgs false

theorem class_neq_st {ops : Array Oper} {S : World → Prop} {Q : Act → Prop} {a : Act} {o : Oper} {rest : List Oper} (hw : Region.wanted o (yielded ops a.tmps) = true) (x y : Operand) (ho : o.op = .binOp .neq 40 x y 40)
    (u v : StS) (hx : a.eval x = .agg (stC u)) (hy : a.eval y = .agg (stC v)) (lu : u.m.length = 16) (lv : v.m.length = 16) (b : Bool) (hb : (!decide (u = v)) = b)
    (h : wpQuiet Tryd.prog ops (fun w' => ∃ s : Sig S, w' = s.V) Q rest (a.put o.dst (.bool b))) : wpQuiet Tryd.prog ops (fun w' => ∃ s : Sig S, w' = s.V) Q (o :: rest) a :=
  wpQuiet_step fun K hK => by
    rw [if_pos hw]
    refine ⟨.bool b, ?_, hK _ h⟩
    rintro w ⟨s0, rfl⟩
    have hrun := run_neq_st lu lv s0.V
    rw [hb] at hrun
    unfold stV at hrun
    unfold Oper.quietAt execOp
    simp only [ho, hx, hy, Sem.run_bind, run_eqGuard_agg s0.V .neq 40 x y _ _ st_guard, hrun, Result.andThen_ok]
    exact ⟨rfl, rfl⟩
structure FlJ (w V : World) (g1 g8 : Nat) (L : List StS) (o : Ab) : Prop where
  k1 : Blk V g1 (rowS L) 40
  k8 : Blk V g8 (abA o) 27
  old : Below w.heap.size w V
theorem FlJ.below {w V V' : World} {g1 g8 : Nat} {L : List StS} {o : Ab} (h : FlJ w V g1 g8 L o) (hb : Below V.heap.size V V') : FlJ w V' g1 g8 L o := ⟨h.k1.below hb h.k1.lt, h.k8.below hb h.k8.lt, h.old.trans (hb.mono h.old.size)⟩
structure FlR (w V : World) (g1 g2 : Nat) (L : List StS) : Prop where
  k1 : Blk V g1 (rowS L) 40
  k2 : Blk V g2 (rowS L) 40
  old : Below w.heap.size w V
theorem FlR.below {w V V' : World} {g1 g2 : Nat} {L : List StS} (h : FlR w V g1 g2 L) (hb : Below V.heap.size V V') : FlR w V' g1 g2 L := ⟨h.k1.below hb h.k1.lt, h.k2.below hb h.k2.lt, h.old.trans (hb.mono h.old.size)⟩
set_option maxRecDepth 100000 in
set_option maxHeartbeats 8000000 in
theorem lflow_ok (A : Option Addr) (m cap : Nat) (f : Nat → Ins) (nr arch : Int) (w : World) (hK : HK w) (hA : Ri w w.heap.size A m f) (hm : m ≤ 300) (L : List StS) (hL : Len16 L) (hl : L.length = m) (o : Ab) (okb : Bool)
    (CF : ∀ V A' c', HK V → Ri V V.heap.size A' m f → m ≤ c' → Calls Tryd.prog 6 #[.slice A' m c', .int .u32 nr, .int .u32 arch] V fun e w' => ∃ g, e = .returned (.tuple #[.slice (some ⟨g, 0, none⟩) m m, abV o, .int .i64 0]) ∧ Blk w' g (rowS L) 40 ∧ Below V.heap.size V w')
    (CA : ∀ V A' c', HK V → Ri V V.heap.size A' m f → m ≤ c' → Calls Tryd.prog 7 #[.slice A' m c', .int .u32 nr, .int .u32 arch] V fun e w' => e = .returned (.tuple #[.bool okb, .int .i64 0]) ∧ Below V.heap.size V w')
    (CC : ∀ V, Below w.heap.size w V → Calls Tryd.prog 8 #[.slice A m cap] V fun e w' => e = .returned (.tuple #[.int .i64 0, .int .i64 0]) ∧ Below V.heap.size V w')
    (CG : ∀ V, Below w.heap.size w V → Calls Tryd.prog 9 #[.slice A m cap, .int .u32 nr, .int .u32 arch] V fun e w' => ∃ g, e = .returned (.tuple #[.slice (some ⟨g, 0, none⟩) m m, abV o]) ∧ Blk w' g (rowS L) 40 ∧ Below V.heap.size V w')
    (CW : ∀ V, Below w.heap.size w V → Calls Tryd.prog 10 #[.slice A m cap, .int .u32 nr, .int .u32 arch] V fun e w' => e = .returned (.bool okb) ∧ Below V.heap.size V w') :
    Calls Tryd.prog 3 #[.slice A m cap, .int .u32 nr, .int .u32 arch] w fun e w' => e = .returned (.bool true) ∧ Below w.heap.size w w' := by
  have W := wakes7_any _ hK
  have hb' : ¬ (300 : Int) < m := by omega
  unfold abV at CF CG
  have HL := Lib.hid hl
  clear hl
  go_enter Tryd.func3, Tryd.ntmps3
  go_wp2_with fail
  refine W.mono ?_
  rintro x w1 ⟨rfl, b1⟩
  clear W
  have hg1 := heap_alloc_new w1 (.cells #[] 51)
  have B1 := b1.alloc b1.size (.cells #[] 51)
  have hA1 := hA.below B1 (Nat.le_refl _)
  have hs1 := b1.size
  go_wp2_with (at_builtin; with_reducible refine wpList_few rfl (.tmp 23) (.tmp 24) rfl w1.heap.size rfl hg1 A w.heap.size m cap f rfl hA1 hm ?_; intro A2 c2 w2 ho hb2)
  have B2 : Below w.heap.size w w2 := B1.trans (hb2.mono hs1)
  obtain ⟨r2, hc2⟩ := ri_of_own ho hA.ok
  refine (CF w2 A2 c2 (hK.below B2 (Nat.le_refl _)) r2 hc2).mono ?_
  rintro x w3 ⟨g1, rfl, k1, b3⟩
  have B3 := B2.trans (b3.mono B2.size)
  clear CF hg1 B1 hA1 hs1 hb2 ho r2 hc2 b3 B2 b1
  go_wp2_with (first
    | (refine wpList_store_blk rfl 27 (.tmp 8) (.tmp 30) rfl w3.heap.size (abA ab0) (abA o) 27 rfl rfl (Blk.new_ _ _ _ rfl) rfl (abA_inf _) (abA_one _) ?_
       intro w4 h4 n4
       have b4 : Below w3.heap.size w3 w4 := ((Below.refl _ w3).alloc (Nat.le_refl _) _).trans (n4.below _ (Nat.le_refl _) (by simp))
       have J4 : FlJ w w4 g1 w3.heap.size L o := ⟨k1.below b4 k1.lt, h4, B3.trans (b4.mono B3.size)⟩
       clear h4 n4 b4 k1 B3
       have hg4 := heap_alloc_new w4 (.cells #[] 51)
       have B4 := J4.old.alloc J4.old.size (.cells #[] 51)
       have hA4 := hA.below B4 (Nat.le_refl _)
       have hs4 := J4.old.size)
    | (at_builtin; with_reducible refine wpList_few rfl (.tmp 33) (.tmp 34) rfl w4.heap.size rfl hg4 A w.heap.size m cap f rfl hA4 hm ?_; intro A5 c5 w5 ho hb5))
  have b5 : Below w4.heap.size w4 w5 := ((Below.refl _ w4).alloc (Nat.le_refl _) _).trans hb5
  have J5 := J4.below b5
  generalize w3.heap.size = g8 at J5 ⊢
  obtain ⟨r5, hc5⟩ := ri_of_own ho hA.ok
  refine (CA w5 A5 c5 (hK.below J5.old (Nat.le_refl _)) r5 hc5).mono ?_
  rintro x w6 ⟨rfl, b6⟩
  have J6 := J5.below b6
  clear CA hg4 B4 hA4 hs4 hb5 b5 ho r5 hc5 b6 J4 J5
  go_wp2_with fail
  refine (CC w6 J6.old).mono ?_
  rintro x w7 ⟨rfl, b7⟩
  have J7 := J6.below b7
  clear CC b7 J6
  go_wp2_with fail
  refine (CG w7 J7.old).mono ?_
  rintro x w8 ⟨g2, rfl, k2, b8⟩
  have J8 := J7.below b8
  clear CG b8 J7
  go_wp2_with (refine wpList_store_blk rfl 27 (.tmp 15) (.tmp 76) rfl w8.heap.size (abA ab0) (abA o) 27 rfl rfl (Blk.new_ _ _ _ rfl) rfl (abA_inf _) (abA_one _) ?_
               intro w9 h9 n9
               have b9 : Below w8.heap.size w8 w9 := ((Below.refl _ w8).alloc (Nat.le_refl _) _).trans (n9.below _ (Nat.le_refl _) (by simp))
               have J9 := J8.below b9
               have k29 := k2.below b9 k2.lt
               have c80 := J9.k8.cell 0
               have c81 := J9.k8.cell 1
               have c90 := h9.cell 0
               have c91 := h9.cell 1
               simp only [abA, List.getElem?_toArray, List.getElem?_cons_zero, List.getElem?_cons_succ] at c80 c81 c90 c91
               clear h9 n9 b9 k2 J8)
  refine (CW w9 J9.old).mono ?_
  rintro x w10 ⟨rfl, b10⟩
  have J10 : FlR w w10 g1 g2 L := ⟨J9.k1.below b10 J9.k1.lt, k29.below b10 k29.lt, J9.old.trans (b10.mono J9.old.size)⟩
  clear CW b10 J9 k29 c80 c81 c90 c91
  go_wp2_with fail
  go_loopw [105] (fun i wr => ∃ (k : Nat) (wz : World), wz = wr ∧ k ≤ m ∧ i = .int .i64 k ∧ FlR w wz g1 g2 L) (fun i _ => m - (intOf i).toNat)
  case atStart => exact ⟨0, _, rfl, Nat.zero_le _, rfl, J10⟩
  case round =>
    clear J10
    obtain ⟨k, wr, hwr, hk, rfl, Jk⟩ := hrel
    subst hwr
    by_cases hlt : k < m
    · have hlt' : (k : Int) < (m : Int) := by omega
      have hkl : k < L.length := by have := HL.out; omega
      go_wp2_with fail
      have Jd := Jk.below (Below.refl _ _).drew
      have h16 := hL.at_ k
      have hr1 := fun V (h : FlR w V g1 g2 L) => row_range h.k1 hL hkl
      have hr2 := fun V (h : FlR w V g1 g2 L) => row_range h.k2 hL hkl
      generalize L.getD k st0 = s at h16 hr1 hr2
      have hne : Nonempty (Sig (fun V => FlR w V g1 g2 L)) := ⟨⟨_, Jd⟩⟩
      refine region_class (S := fun V => FlR w V g1 g2 L) (by kernel_rfl) (by kernel_rfl) Jd ?_
      iterate 3 go_big_quiet_step (fail)
      refine class_load_row (by rfl) 40 (.tmp 110) rfl g1 (k * 37) rfl (stC s) _ hr1 Tryd.underlying40 rfl (st_inf h16) ?_
      simp only [Act.put, List.setIfInBounds_toArray, List.set_cons_zero, List.set_cons_succ]
      iterate 3 go_big_quiet_step (fail)
      refine class_load_row (by rfl) 40 (.tmp 114) rfl g2 (k * 37) rfl (stC s) _ hr2 Tryd.underlying40 rfl (st_inf h16) ?_
      simp only [Act.put, List.setIfInBounds_toArray, List.set_cons_zero, List.set_cons_succ]
      refine class_neq_st (by rfl) (.tmp 111) (.tmp 115) rfl s s rfl rfl h16 h16 false (by simp) ?_
      simp only [Act.put, List.setIfInBounds_toArray, List.set_cons_zero, List.set_cons_succ]
      refine wpQuiet_nil ?_
      rintro _ ⟨s7, rfl⟩
      have J7 := s7.h
      clear hne Jd Jk hr1 hr2
      go_wp2_with fail
      go_roundw
      case rel => exact ⟨k + 1, _, rfl, by omega, by go_num, J7⟩
      case measure => simp [intOf]; omega
    · obtain rfl : k = m := by omega
      go_wp2_with fail
      go_ret
      exact ⟨rfl, Jk.old⟩
set_option maxRecDepth 100000 in
set_option maxHeartbeats 4000000 in
theorem lflow_no (A : Option Addr) (m cap : Nat) (f : Nat → Ins) (nr arch : Int) (w : World) (hK : HK w) (hA : Ri w w.heap.size A m f) (hm : m ≤ 300) (r1 r2 : Int) (hr : chkI f m = (r1, r2)) (h0 : ¬ r2 = 0) :
    Calls Tryd.prog 3 #[.slice A m cap, .int .u32 nr, .int .u32 arch] w fun e w' => e = .returned (.bool true) ∧ Below w.heap.size w w' := by
  have W := wakes7_any _ hK
  have hb' : ¬ (300 : Int) < m := by omega
  have hne0 : (r2 != 0) = true := by simpa using h0
  have oe : (r2 == r2) = true := by simp
  have CF := fun V A' c' (hKV : HK V) (hAV : Ri V V.heap.size A' m f) => flow_no A' m c' f nr arch V hKV.k hAV r1 r2 hr h0
  have CA := fun V A' c' (hKV : HK V) (hAV : Ri V V.heap.size A' m f) => allows_no A' m c' f nr arch V hKV hAV r1 r2 hr h0
  have CC := fun V (hV : Below w.heap.size w V) => rcheck_any A m cap f V ((hA.below hV (Nat.le_refl _)).more hV.size)
  rw [hr] at CC
  unfold abV ab0 at CF
  clear hr h0
  go_enter Tryd.func3, Tryd.ntmps3
  go_wp2_with fail
  refine W.mono ?_
  rintro x w1 ⟨rfl, b1⟩
  clear W
  have hg1 := heap_alloc_new w1 (.cells #[] 51)
  have B1 := b1.alloc b1.size (.cells #[] 51)
  have hA1 := hA.below B1 (Nat.le_refl _)
  have hs1 := b1.size
  go_wp2_with (at_builtin; with_reducible refine wpList_few rfl (.tmp 23) (.tmp 24) rfl w1.heap.size rfl hg1 A w.heap.size m cap f rfl hA1 hm ?_; intro A2 c2 w2 ho hb2)
  have B2 : Below w.heap.size w w2 := B1.trans (hb2.mono hs1)
  obtain ⟨r2', hc2⟩ := ri_of_own ho hA.ok
  refine (CF w2 A2 c2 (hK.below B2 (Nat.le_refl _)) r2').mono ?_
  rintro x w3 ⟨rfl, b3⟩
  have B3 := B2.trans (b3.mono B2.size)
  clear CF hg1 B1 hA1 hs1 hb2 ho r2' hc2 b3 B2 b1
  go_wp2_with (first
    | (refine wpList_store_blk rfl 27 (.tmp 8) (.tmp 30) rfl w3.heap.size (abA ab0) (abA ab0) 27 rfl rfl (Blk.new_ _ _ _ rfl) rfl (abA_inf _) (abA_one _) ?_
       intro w4 h4 n4
       have b4 : Below w3.heap.size w3 w4 := ((Below.refl _ w3).alloc (Nat.le_refl _) _).trans (n4.below _ (Nat.le_refl _) (by simp))
       have J4 : Blk w4 w3.heap.size (abA ab0) 27 := h4
       have O4 := B3.trans (b4.mono B3.size)
       clear h4 n4 b4 B3
       have hg4 := heap_alloc_new w4 (.cells #[] 51)
       have B4 := O4.alloc O4.size (.cells #[] 51)
       have hA4 := hA.below B4 (Nat.le_refl _)
       have hs4 := O4.size)
    | (at_builtin; with_reducible refine wpList_few rfl (.tmp 33) (.tmp 34) rfl w4.heap.size rfl hg4 A w.heap.size m cap f rfl hA4 hm ?_; intro A5 c5 w5 ho hb5))
  have b5 : Below w4.heap.size w4 w5 := ((Below.refl _ w4).alloc (Nat.le_refl _) _).trans hb5
  have J5 := J4.below b5 J4.lt
  have O5 := O4.trans (b5.mono O4.size)
  generalize w3.heap.size = g8 at J5 ⊢
  obtain ⟨r5, hc5⟩ := ri_of_own ho hA.ok
  refine (CA w5 A5 c5 (hK.below O5 (Nat.le_refl _)) r5).mono ?_
  rintro x w6 ⟨rfl, b6⟩
  have J6 := J5.below b6 J5.lt
  have O6 := O5.trans (b6.mono O5.size)
  clear CA hg4 B4 hA4 hs4 hb5 b5 ho r5 hc5 b6 J4 J5 O4 O5
  go_wp2_with fail
  refine (CC w6 O6).mono ?_
  rintro x w7 ⟨rfl, b7⟩
  have J7 := J6.below b7 J6.lt
  have O7 := O6.trans (b7.mono O6.size)
  have c0 := J7.cell 0
  have c1 := J7.cell 1
  simp only [abA, ab0, List.getElem?_toArray, List.getElem?_cons_zero, List.getElem?_cons_succ] at c0 c1
  clear CC b7 J6 J7 O6
  go_wp2_with fail
  go_ret
  exact ⟨rfl, O7⟩
set_option maxHeartbeats 1000000 in
theorem lflow_big (A : Option Addr) (l cap : Nat) (nr arch : Int) (w : World) (hK : HK w) (hbig : 300 < l) :
    Calls Tryd.prog 3 #[.slice A l cap, .int .u32 nr, .int .u32 arch] w fun e w' => e = .returned (.bool true) ∧ Below w.heap.size w w' := by
  have hb' : (300 : Int) < l := by omega
  have W := wakes7_any _ hK
  go_enter Tryd.func3, Tryd.ntmps3
  go_wp2_with fail
  refine W.mono ?_
  rintro e w1 ⟨rfl, b1⟩
  clear W
  go_wp2_with fail
  go_ret
  exact ⟨rfl, b1⟩
theorem bitmapFlows_any (A : Option Addr) (m cap : Nat) (f : Nat → Ins) (nr arch : Int) (w : World) (hK : HK w) (hA : Ri w w.heap.size A m f) (hcap : m ≤ cap) (hnr' : (Lit.int .u32 nr).wf = true) (har' : (Lit.int .u32 arch).wf = true) :
    Calls Tryd.prog 3 #[.slice A m cap, .int .u32 nr, .int .u32 arch] w fun e w' => e = .returned (.bool true) ∧ Below w.heap.size w w' := by
  have hnr := u32_wf hnr'
  have har := u32_wf har'
  by_cases hm : m ≤ 300
  · obtain ⟨⟨r1, r2⟩, hr⟩ : ∃ r, chkI f m = r := ⟨_, rfl⟩
    by_cases h0 : r2 = 0
    · have hM : May f m := may_chk (by rw [hr]; exact h0)
      have hFl := (floS_ok (hd := hdI) (f := f) (n := m) alI_u32 hnr har hA.ok m (Nat.le_refl _)).1
      refine lflow_ok A m cap f nr arch w hK hA hm (floS alI hdI nr arch f m m).1 (fun s hs => (hFl s hs).len) (floS_len _ _ _ _ _) (floS alI hdI nr arch f m m).2.b (alwI f m nr arch) ?_ ?_ ?_ ?_ ?_
      · exact fun V A' c' hKV hAV hc => flow_ok A' m c' f nr arch hnr har V hKV.k hAV hc hM
      · exact fun V A' c' hKV hAV hc => allows_ok A' m c' f nr arch hnr har V hKV hAV hc hM
      · intro V hV
        have := rcheck_any A m cap f V ((hA.below hV (Nat.le_refl _)).more hV.size)
        rw [chk_may hM] at this
        exact this
      · exact fun V hV => rflow_any A m cap f nr arch hnr har V ((hA.below hV (Nat.le_refl _)).more hV.size) hcap hM
      · exact fun V hV => rallows_any A m cap f nr arch hnr har V ((hA.below hV (Nat.le_refl _)).more hV.size) hcap hM
    · exact lflow_no A m cap f nr arch w hK hA hm r1 r2 hr h0
  · exact lflow_big A m cap nr arch w hK (by omega)
end Go.Proofs.YtehcijockeecpaaDoor
