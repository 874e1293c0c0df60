/-
  VmRuns: whatever program returns what the document says, by just these machines, or it is refused: the walk.
-/
import Derived.Test.YtepkhkfdokinmaaDoorRefTr
import Derived.Test.YtepkhkfdokinmaaDoorGK
namespace Go.Proofs.YtepkhkfdokinmaaDoor
open Go.RowKit Go.Shelf
attribute [local go_sem] Oper.semAt_some
set_option linter.unusedVariables false
set_option linter.unusedSimpArgs false

theorem region_cutT {α : Type} {P : Program} {id : Nat} {ops : Array Oper} {dr : Bool} {Q : Exit → Act → World → Prop} {a : Act} {w : World} (F : α → Act) (H : α → World → Prop)
    (h1 : (Code.region id ops dr).wp P (fun e a' w' => e = .normal ∧ ∃ x, a' = F x ∧ H x w') a w) (h2 : ∀ x w', H x w' → Q .normal (F x) w') : (Code.region id ops dr).wp P Q a w :=
  Code.wp_mono (fun e a' w' h => by obtain ⟨he, x, ha, hg⟩ := h; subst he ha; exact h2 _ _ hg) h1
theorem pair_16 {f : Nat → Ins} {d : Int → Int} {n : Nat} (hM : May f n) (ho : ∀ i, i < n → insO (f i)) (hd : ∀ o, U32 (d o)) : ∀ (k : Nat) (s : VmS), s.pc < n → VmOk s → ∀ x ∈ pairV f d k s, x.1.mem.length = 16 := by
  intro k
  induction k with
  | zero => intro s _ _ x hx; simp [pairV] at hx
  | succ k ih =>
    intro s hs hok x hx
    simp only [pairV] at hx
    cases hst : stepV alI hdI (f s.pc) d s with
    | mk q s' =>
      rw [hst] at hx
      cases q with
      | some q =>
        simp only [List.mem_singleton] at hx
        subst hx
        exact hok.len
      | none =>
        simp only [List.mem_cons] at hx
        rcases hx with rfl | hx
        · exact hok.len
        · exact ih s' (step_fwd hM ho hs hst).2 (step_ok (ho s.pc hs) hd hok hst) x hx
theorem tra_sixteen {f : Nat → Ins} {m : Nat} {d : Dat} (hM : May f m) (ho : ∀ i, i < m → insO (f i)) (hd : DatOk d) : ∀ s ∈ traV f (dW d) m, s.mem.length = 16 := by
  intro s hs
  unfold traV at hs
  obtain ⟨x, hx, rfl⟩ := List.mem_map.1 hs
  exact pair_16 hM ho (fun o => dW_bd d hd o) _ vm0 hM.lo vm0_ok x hx
theorem vm_same3 (s : VmS) : (!decide (s = s)) = false := by simp

theorem runs_big (A : Option Addr) (l cap : Nat) (d : Dat) (w : World) (hK : Kinds w) (hbig : 300 < l) :
    Calls Tryd.prog 5 #[.slice A l cap, datV d] w fun e w' => e = .returned (.bool true) ∧ Below w.heap.size w w' := by
  have hb' : (300 : Int) < l := by omega
  have B0 := (Below.refl w.heap.size w).alloc (Nat.le_refl _) (.cells (datC d) 32)
  have W5 := wakes5_any _ (hK.below B0 hK.pos)
  unfold datV
  go_enter Tryd.func5, Tryd.ntmps5
  go_wp2_with fail
  refine W5.mono ?_
  rintro e w1 ⟨rfl, b1⟩
  go_wp2_with fail
  go_ret
  exact ⟨rfl, B0.trans (b1.mono (by simp))⟩

set_option maxRecDepth 100000 in
set_option maxHeartbeats 8000000 in
theorem runs_walk (A : Option Addr) (m cap : Nat) (f : Nat → Ins) (d : Dat) (w : World) (hK : Kinds w) (hA : Ri w w.heap.size A m f) (hcap : m ≤ cap) (hm : m ≤ 300)
    (L : List VmS) (hL : ∀ s ∈ L, s.mem.length = 16) (hLn : L.length ≤ 300) (rv er : Int)
    (CR : ∀ (V : World) (A' : Option Addr) (c' : Nat), Kinds V → Ri V V.heap.size A' m f → m ≤ c' → Calls Tryd.prog 17 #[.slice A' m c', .agg (datC d)] V fun e w' => e = .returned (.tuple #[.int .u32 rv, .int .i64 er]) ∧ Below V.heap.size V w')
    (CT : ∀ (V : World) (A' : Option Addr) (c' : Nat), Kinds V → Ri V V.heap.size A' m f → m ≤ c' → Calls Tryd.prog 18 #[.slice A' m c', .agg (datC d)] V fun e w' => ∃ A2 c2, e = .returned (.tuple #[.slice A2 L.length c2, .int .i64 er]) ∧ L.length ≤ c2 ∧ Rm w' w'.heap.size A2 L ∧ Below V.heap.size V w')
    (CX : ∀ (V : World), Ri V V.heap.size A m f → Calls Tryd.prog 19 #[.slice A m cap, .agg (datC d)] V fun e w' => ∃ A2 c2, e = .returned (.tuple #[.slice A2 L.length c2, .int .u32 rv, .int .i64 er]) ∧ L.length ≤ c2 ∧ Rm w' w'.heap.size A2 L ∧ Below V.heap.size V w') :
    Calls Tryd.prog 5 #[.slice A m cap, datV d] w fun e w' => e = .returned (.bool true) ∧ Below w.heap.size w w' := by
  have hb' : ¬ (300 : Int) < m := by omega
  have hA0 : A = none → m = 0 := fun e => by
    rcases Nat.eq_zero_or_pos m with h | h
    · exact h
    · obtain ⟨b, off, e2, _⟩ := hA 0 h
      rw [e] at e2; cases e2
  have B0 := (Below.refl w.heap.size w).alloc (Nat.le_refl _) (.cells (datC d) 32)
  have kd := Blk.new w (datC d) 32
  have W5 := wakes5_any _ (hK.below B0 hK.pos)
  have hpos := hK.pos
  have hgetL := fun (k : Nat) (h : k < L.length) => hL _ (List.getElem_mem h)
  obtain ⟨n, hn⟩ : ∃ n, L.length = n := ⟨_, rfl⟩
  rw [hn] at CT CX hLn
  have HN := Lib.hid hn
  clear hn
  have HG := Lib.hid hgetL
  clear hgetL hL
  unfold datV
  go_enter Tryd.func5, Tryd.ntmps5
  go_wp2_with fail
  refine W5.mono ?_
  rintro e w1 ⟨rfl, b1⟩
  have B1 := B0.trans (b1.mono (by simp))
  replace kd := kd.below b1 kd.lt
  clear W5 b1 B0
  go_wp2_with fail
  have HS : Below w1.heap.size w1 w1.drew := (Below.refl _ _).drew
  have CP := fun V (hV : Below w1.heap.size w1 V) => copied_any A m cap f V ((hA.below (B1.trans (hV.mono B1.size)) (Nat.le_refl _)).more (Nat.le_trans B1.size hV.size)) hm hA0
  have CR1 := fun V (hV : Below w1.heap.size w1 V) A' c' h1 h2 => CR V A' c' (hK.below (B1.trans (hV.mono B1.size)) hpos) h1 h2
  have CT1 := fun V (hV : Below w1.heap.size w1 V) A' c' h1 h2 => CT V A' c' (hK.below (B1.trans (hV.mono B1.size)) hpos) h1 h2
  refine region_cutT (α := Option Addr × Nat) (fun x => { tmps := #[.slice A m cap, .agg (datC d), undef, .pointer (some ⟨w.heap.size, 0, none⟩), .bool false, .int .u32 rv, .int .i64 er, undef, undef, undef, undef, undef, undef, .bool true, .bool false, .slice A m cap, .int .i64 m, .bool (decide ((300 : Int) < m)), .tuple #[.int .u32 rv, .int .i64 er], .slice A m cap, .slice x.1 m x.2, .agg (datC d), .tuple #[.int .u32 rv, .int .i64 er], .int .u32 rv, .int .i64 er, undef, undef, undef, undef, undef, undef, undef, undef, undef, undef, undef, undef, undef, undef, undef, undef, undef, undef, undef, undef, undef, undef, undef, undef, undef, undef, undef, undef, undef, undef, undef, undef, undef, undef, undef, undef, undef, undef, undef, undef, undef, undef, undef, undef, undef, undef, undef, undef, undef], defers := [] })
    (fun x V => Below w1.heap.size w1 V) ?a1 ?a2
  case a1 =>
    refine wp_region_held_drew (S := fun V => Below w1.heap.size w1 V) (by kernel_rfl) HS (fun _ => ?_)
    refine wpAnyH_take (i := 0) (v := .slice A m cap) rfl (by kernel_rfl) (by kernel_rfl) (by kernel_rfl) (fun _ _ _ h => nomatch h.1) (.inl ⟨by rfl, fun V hV => by go_simp⟩) HS ?_
    try simp only [Act.put, List.getElem_toArray, List.getElem_cons_zero, List.getElem_cons_succ, List.setIfInBounds_toArray, List.set_cons_zero, List.set_cons_succ]
    refine wpAnyH_take (i := 2) (v := .agg (datC d)) rfl (by kernel_rfl) (by kernel_rfl) (by kernel_rfl) (fun _ _ _ h => nomatch h.1) (yieldsIf_blk (by rfl) 32 (.tmp 3) rfl w.heap.size rfl (datC d) 32 _ (fun V hV => kd.below hV kd.lt) Tryd.underlying32 rfl dat_info) HS ?_
    try simp only [Act.put, List.getElem_toArray, List.getElem_cons_zero, List.getElem_cons_succ, List.setIfInBounds_toArray, List.set_cons_zero, List.set_cons_succ]
    refine wpAnyH_ready (rs := [1]) (by kernel_rfl) (by simp) ?_
    refine AllReadyH.cons rfl (fun K hK => ?_) AllReadyH.nil
    try simp only [List.getElem_toArray, List.getElem_cons_zero, List.getElem_cons_succ, List.setIfInBounds_toArray, List.set_cons_zero, List.set_cons_succ]
    go_simp
    refine (CP _ HS).mono ?_
    rintro e X1 ⟨A8, c8, rfl, hc8, R8, b8⟩
    go_wp2_with fail
    refine hK.out _ _ (HS.trans (b8.mono HS.size)) (fun J8 => ?_)
    clear hK K
    try simp only [Act.put, List.getElem_toArray, List.getElem_cons_zero, List.getElem_cons_succ, List.setIfInBounds_toArray, List.set_cons_zero, List.set_cons_succ]
    refine wpAnyH_ready (rs := [3]) (by kernel_rfl) (by simp) ?_
    refine AllReadyH.cons rfl (fun K hK => ?_) AllReadyH.nil
    try simp only [List.getElem_toArray, List.getElem_cons_zero, List.getElem_cons_succ, List.setIfInBounds_toArray, List.set_cons_zero, List.set_cons_succ]
    go_simp
    refine (CR1 _ J8 _ _ R8 hc8).mono ?_
    rintro e X2 ⟨rfl, b9⟩
    go_wp2_with fail
    refine hK.out _ _ (J8.trans (b9.mono J8.size)) (fun J9 => ?_)
    clear hK K
    try simp only [Act.put, List.getElem_toArray, List.getElem_cons_zero, List.getElem_cons_succ, List.setIfInBounds_toArray, List.set_cons_zero, List.set_cons_succ]
    refine wpAnyH_take (i := 4) (v := .tuple #[.int .u32 rv, .int .i64 er]) rfl (by kernel_rfl) (by kernel_rfl) (by kernel_rfl) (fun _ _ _ h => nomatch h.1) (.inl ⟨by rfl, fun V hV => by go_simp⟩) J9 ?_
    try simp only [Act.put, List.getElem_toArray, List.getElem_cons_zero, List.getElem_cons_succ, List.setIfInBounds_toArray, List.set_cons_zero, List.set_cons_succ]
    refine wpAnyH_take (i := 5) (v := .int .u32 rv) rfl (by kernel_rfl) (by kernel_rfl) (by kernel_rfl) (fun _ _ _ h => nomatch h.1) (.inl ⟨by rfl, fun V hV => by go_simp⟩) J9 ?_
    try simp only [Act.put, List.getElem_toArray, List.getElem_cons_zero, List.getElem_cons_succ, List.setIfInBounds_toArray, List.set_cons_zero, List.set_cons_succ]
    refine wpAnyH_take (i := 6) (v := .int .i64 er) rfl (by kernel_rfl) (by kernel_rfl) (by kernel_rfl) (fun _ _ _ h => nomatch h.1) (.inl ⟨by rfl, fun V hV => by go_simp⟩) J9 ?_
    try simp only [Act.put, List.getElem_toArray, List.getElem_cons_zero, List.getElem_cons_succ, List.setIfInBounds_toArray, List.set_cons_zero, List.set_cons_succ]
    refine wpAnyH_take (i := 7) (v := .int .u32 rv) rfl (by kernel_rfl) (by kernel_rfl) (by kernel_rfl) (fun _ _ _ h => nomatch h.1) (.inl ⟨by rfl, fun V hV => by go_simp⟩) J9 ?_
    try simp only [Act.put, List.getElem_toArray, List.getElem_cons_zero, List.getElem_cons_succ, List.setIfInBounds_toArray, List.set_cons_zero, List.set_cons_succ]
    refine wpAnyH_take (i := 8) (v := .int .i64 er) rfl (by kernel_rfl) (by kernel_rfl) (by kernel_rfl) (fun _ _ _ h => nomatch h.1) (.inl ⟨by rfl, fun V hV => by go_simp⟩) J9 ?_
    try simp only [Act.put, List.getElem_toArray, List.getElem_cons_zero, List.getElem_cons_succ, List.setIfInBounds_toArray, List.set_cons_zero, List.set_cons_succ]
    refine wpAnyH_done (by kernel_rfl) ?_ _
    exact ⟨rfl, (A8, c8), rfl, J9⟩
  case a2 =>
    rintro ⟨A1, c1⟩ V1 hV1
    rename_i K0 hK0
    refine hK0 _ _ ?_
    clear hK0 K0 HS
    go_wp2_with fail
    have HS : Below w1.heap.size w1 V1.drew := hV1.drew
    refine region_cutT (α := Option Addr × Nat × Option Addr × Nat) (fun x => { tmps := #[.slice A m cap, .agg (datC d), undef, .pointer (some ⟨w.heap.size, 0, none⟩), .bool false, .int .u32 rv, .int .i64 er, .slice x.2.2.1 n x.2.2.2, .int .i64 er, undef, undef, undef, undef, .bool true, .bool false, .slice A m cap, .int .i64 m, .bool (decide ((300 : Int) < m)), .tuple #[.int .u32 rv, .int .i64 er], .slice A m cap, .slice A1 m c1, .agg (datC d), .tuple #[.int .u32 rv, .int .i64 er], .int .u32 rv, .int .i64 er, .tuple #[.slice x.2.2.1 n x.2.2.2, .int .i64 er], .slice A m cap, .slice x.1 m x.2.1, .agg (datC d), .tuple #[.slice x.2.2.1 n x.2.2.2, .int .i64 er], .slice x.2.2.1 n x.2.2.2, .int .i64 er, undef, undef, undef, undef, undef, undef, undef, undef, undef, undef, undef, undef, undef, undef, undef, undef, undef, undef, undef, undef, undef, undef, undef, undef, undef, undef, undef, undef, undef, undef, undef, undef, undef, undef, undef, undef, undef, undef, undef, undef, undef, undef], defers := [] })
      (fun x V => Below w1.heap.size w1 V ∧ n ≤ x.2.2.2 ∧ Rm V V.heap.size x.2.2.1 L) ?b1 ?b2
    case b1 =>
      refine wp_region_held_drew (S := fun V => Below w1.heap.size w1 V) (by kernel_rfl) HS (fun _ => ?_)
      refine wpAnyH_take (i := 0) (v := .slice A m cap) rfl (by kernel_rfl) (by kernel_rfl) (by kernel_rfl) (fun _ _ _ h => nomatch h.1) (.inl ⟨by rfl, fun V hV => by go_simp⟩) HS ?_
      try simp only [Act.put, List.getElem_toArray, List.getElem_cons_zero, List.getElem_cons_succ, List.setIfInBounds_toArray, List.set_cons_zero, List.set_cons_succ]
      refine wpAnyH_take (i := 2) (v := .agg (datC d)) rfl (by kernel_rfl) (by kernel_rfl) (by kernel_rfl) (fun _ _ _ h => nomatch h.1) (yieldsIf_blk (by rfl) 32 (.tmp 3) rfl w.heap.size rfl (datC d) 32 _ (fun V hV => kd.below hV kd.lt) Tryd.underlying32 rfl dat_info) HS ?_
      try simp only [Act.put, List.getElem_toArray, List.getElem_cons_zero, List.getElem_cons_succ, List.setIfInBounds_toArray, List.set_cons_zero, List.set_cons_succ]
      refine wpAnyH_ready (rs := [1]) (by kernel_rfl) (by simp) ?_
      refine AllReadyH.cons rfl (fun K hK => ?_) AllReadyH.nil
      try simp only [List.getElem_toArray, List.getElem_cons_zero, List.getElem_cons_succ, List.setIfInBounds_toArray, List.set_cons_zero, List.set_cons_succ]
      go_simp
      refine (CP _ HS).mono ?_
      rintro e X1 ⟨A8, c8, rfl, hc8, R8, b8⟩
      go_wp2_with fail
      refine hK.out _ _ (HS.trans (b8.mono HS.size)) (fun J8 => ?_)
      clear hK K
      try simp only [Act.put, List.getElem_toArray, List.getElem_cons_zero, List.getElem_cons_succ, List.setIfInBounds_toArray, List.set_cons_zero, List.set_cons_succ]
      refine wpAnyH_ready (rs := [3]) (by kernel_rfl) (by simp) ?_
      refine AllReadyH.cons rfl (fun K hK => ?_) AllReadyH.nil
      try simp only [List.getElem_toArray, List.getElem_cons_zero, List.getElem_cons_succ, List.setIfInBounds_toArray, List.set_cons_zero, List.set_cons_succ]
      go_simp
      refine (CT1 _ J8 _ _ R8 hc8).mono ?_
      rintro e X2 ⟨A9, c9, rfl, hc9, R9, b9⟩
      go_wp2_with fail
      refine hK.out _ _ (J8.trans (b9.mono J8.size)) (fun J9 => ?_)
      clear hK K
      try simp only [Act.put, List.getElem_toArray, List.getElem_cons_zero, List.getElem_cons_succ, List.setIfInBounds_toArray, List.set_cons_zero, List.set_cons_succ]
      refine wpAnyH_take (i := 4) (v := .tuple #[.slice A9 n c9, .int .i64 er]) rfl (by kernel_rfl) (by kernel_rfl) (by kernel_rfl) (fun _ _ _ h => nomatch h.1) (.inl ⟨by rfl, fun V hV => by go_simp⟩) J9 ?_
      try simp only [Act.put, List.getElem_toArray, List.getElem_cons_zero, List.getElem_cons_succ, List.setIfInBounds_toArray, List.set_cons_zero, List.set_cons_succ]
      refine wpAnyH_take (i := 5) (v := .slice A9 n c9) rfl (by kernel_rfl) (by kernel_rfl) (by kernel_rfl) (fun _ _ _ h => nomatch h.1) (.inl ⟨by rfl, fun V hV => by go_simp⟩) J9 ?_
      try simp only [Act.put, List.getElem_toArray, List.getElem_cons_zero, List.getElem_cons_succ, List.setIfInBounds_toArray, List.set_cons_zero, List.set_cons_succ]
      refine wpAnyH_take (i := 6) (v := .int .i64 er) rfl (by kernel_rfl) (by kernel_rfl) (by kernel_rfl) (fun _ _ _ h => nomatch h.1) (.inl ⟨by rfl, fun V hV => by go_simp⟩) J9 ?_
      try simp only [Act.put, List.getElem_toArray, List.getElem_cons_zero, List.getElem_cons_succ, List.setIfInBounds_toArray, List.set_cons_zero, List.set_cons_succ]
      refine wpAnyH_take (i := 7) (v := .slice A9 n c9) rfl (by kernel_rfl) (by kernel_rfl) (by kernel_rfl) (fun _ _ _ h => nomatch h.1) (.inl ⟨by rfl, fun V hV => by go_simp⟩) J9 ?_
      try simp only [Act.put, List.getElem_toArray, List.getElem_cons_zero, List.getElem_cons_succ, List.setIfInBounds_toArray, List.set_cons_zero, List.set_cons_succ]
      refine wpAnyH_take (i := 8) (v := .int .i64 er) rfl (by kernel_rfl) (by kernel_rfl) (by kernel_rfl) (fun _ _ _ h => nomatch h.1) (.inl ⟨by rfl, fun V hV => by go_simp⟩) J9 ?_
      try simp only [Act.put, List.getElem_toArray, List.getElem_cons_zero, List.getElem_cons_succ, List.setIfInBounds_toArray, List.set_cons_zero, List.set_cons_succ]
      refine wpAnyH_done (by kernel_rfl) ?_ _
      exact ⟨rfl, (A8, c8, A9, c9), rfl, J9, hc9, R9⟩
    case b2 =>
      rintro ⟨A2, c2, A3, c3⟩ V2 ⟨hV2, hc3, R3⟩
      simp only at hc3 R3
      rename_i K0 hK0
      refine hK0 _ _ ?_
      clear hK0 K0 HS hV1
      have BV := B1.trans (hV2.mono B1.size)
      have kd2 := kd.below hV2 kd.lt
      have CX1 := CX V2 ((hA.below BV (Nat.le_refl _)).more BV.size)
      clear CR CT CX CP CR1 CT1 kd
      go_wp2_with (refine wpList_load_row rfl 32 (.tmp 3) rfl w.heap.size rfl 32 (datC d) (0, 0) _ kd2.blk Tryd.underlying32 rfl dat_info ?_)
      refine CX1.mono ?_
      rintro e V3 ⟨A4, c4, rfl, hc4, R4, b3⟩
      have BV3 := BV.trans (b3.mono BV.size)
      have R3' := R3.below b3 (Nat.le_refl _)
      clear CX1 kd2 R3
      go_wp2_with fail
      obtain ⟨wo, hwo⟩ : ∃ wo : World, wo = V3 := ⟨_, rfl⟩
      rw [← hwo] at R3' R4 BV3 b3 ⊢
      clear hwo
      go_loopw [61] (fun i wr => ∃ k : Nat, k ≤ n ∧ i = .int .i64 k ∧ Below wo.heap.size wo wr) (fun i _ => n - (intOf i).toNat)
      case atStart => exact ⟨0, Nat.zero_le _, rfl, Below.refl _ _⟩
      case round =>
        obtain ⟨k, hk, rfl, hB⟩ := hrel
        by_cases hlt : k < n
        · have hlt' : (k : Int) < n := by omega
          have hkL : k < L.length := by rw [HN.out]; exact hlt
          have hs16 : (L.getD k vm0).mem.length = 16 := by
            have := HG.out k hkL
            simpa [List.getD, hkL] using this
          obtain ⟨g, off, rfl, hg, hr3⟩ := R3' k hkL
          obtain ⟨g', off', rfl, hg', hr4⟩ := R4 k hkL
          generalize L.getD k vm0 = s at hs16 hr3 hr4
          have hrg3 : ∀ V, Below wo.heap.size wo V → V.rangeAt g (off + k * 19) (vmC s).toList := fun V h j v hj => (h.cell (p := ⟨g, off + k * 19 + j, none⟩) (show g < wo.heap.size by have := b3.size; omega)).trans (hr3 j v hj)
          have hrg4 : ∀ V, Below wo.heap.size wo V → V.rangeAt g' (off' + k * 19) (vmC s).toList := fun V h j v hj => (h.cell (p := ⟨g', off' + k * 19 + j, none⟩) hg').trans (hr4 j v hj)
          go_wp2_with fail
          have J0 : Below wo.heap.size wo wr.drew := hB.drew
          have hne0 : Nonempty (Sig (fun V => Below wo.heap.size wo V)) := ⟨⟨_, J0⟩⟩
          refine region_class (S := fun V => Below wo.heap.size wo V) (by kernel_rfl) (by kernel_rfl) J0 ?_
          go_big_quiet_step (fail)
          go_big_quiet_step (fail)
          go_big_quiet_step (fail)
          refine class_load_mid (by rfl) 35 (.tmp 66) rfl g (off + k * 19) rfl (vmC s).toList _ hrg3 Tryd.underlying35 rfl (vm_lin hs16) ?_
          simp only [Act.put, List.setIfInBounds_toArray, List.set_cons_zero, List.set_cons_succ]
          go_big_quiet_step (fail)
          go_big_quiet_step (fail)
          go_big_quiet_step (fail)
          refine class_load_mid (by rfl) 35 (.tmp 70) rfl g' (off' + k * 19) rfl (vmC s).toList _ hrg4 Tryd.underlying35 rfl (vm_lin hs16) ?_
          simp only [Act.put, List.setIfInBounds_toArray, List.set_cons_zero, List.set_cons_succ]
          refine class_neq_vm (by rfl) (.tmp 67) (.tmp 71) rfl s s rfl rfl hs16 hs16 false (vm_same3 s) ?_
          simp only [Act.put, List.setIfInBounds_toArray, List.set_cons_zero, List.set_cons_succ]
          refine wpQuiet_nil ?_
          rintro _ ⟨s7, rfl⟩
          have J7 := s7.h
          generalize s7.V = w6 at J7 ⊢
          clear s7 hne0 J0 hrg3 hrg4 hr3 hr4 R3' R4
          go_wp2_with fail
          go_roundw
          case rel => exact ⟨k + 1, by omega, by go_num, J7⟩
          case measure => simp [intOf]; omega
        · obtain rfl : k = n := by omega
          go_wp2_with fail
          go_ret
          exact ⟨rfl, BV3.trans (hB.mono BV3.size)⟩

/-- VmRuns, of whatever program. -/
theorem vmRuns_any (A : Option Addr) (m cap : Nat) (f : Nat → Ins) (d : Dat) (w : World) (hK : Kinds w) (hA : Ri w w.heap.size A m f) (hcap : m ≤ cap) (hd : DatOk d) :
    Calls Tryd.prog 5 #[.slice A m cap, datV d] w fun e w' => e = .returned (.bool true) ∧ Below w.heap.size w w' := by
  by_cases hm : m ≤ 300
  · obtain ⟨⟨r1, r2⟩, hr⟩ : ∃ r, chkI f m = r := ⟨_, rfl⟩
    by_cases h0 : r2 = 0
    · have hM : May f m := may_chk (by rw [hr]; exact h0)
      have hio := hA.ok
      have h16 : ∀ s ∈ traV f (dW d) m, s.mem.length = 16 := tra_sixteen hM hio hd
      exact runs_walk A m cap f d w hK hA hcap hm (traV f (dW d) m) h16 (Nat.le_trans (tra_len f (dW d) m) hm) (retV f (dW d) m) 0
        (fun V A' c' h1 h2 h3 => run_ok A' m c' f d hd V h1 h2 h3 hM) (fun V A' c' h1 h2 h3 => trace_ok A' m c' f d hd V h1 h2 h3 hM) (fun V h => rtrace_ok A m cap f d hd V h hcap hM)
    · exact runs_walk A m cap f d w hK hA hcap hm [] (by simp) (by simp) 0 r2
        (fun V A' c' h1 h2 h3 => run_no A' m c' f d V h1 h2 r1 r2 hr h0)
        (fun V A' c' h1 h2 h3 => (trace_no A' m c' f d V h1 h2 r1 r2 hr h0).mono fun e w' ⟨he, hb⟩ => ⟨none, 0, he, Nat.le_refl _, fun k hk => absurd hk (by simp), hb⟩)
        (fun V h => (rtrace_no A m cap f d V h r1 r2 hr h0).mono fun e w' ⟨he, hb⟩ => ⟨none, 0, he, Nat.le_refl _, fun k hk => absurd hk (by simp), hb⟩)
  · exact runs_big A m cap d w hK (by omega)
end Go.Proofs.YtepkhkfdokinmaaDoor
