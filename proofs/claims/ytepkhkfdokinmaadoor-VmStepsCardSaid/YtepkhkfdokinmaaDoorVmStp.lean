/-
  VmSteps: whatever machine's step of whatever program is the document's, or it is refused: the walk.
-/
import Derived.Test.YtepkhkfdokinmaaDoorRefSw
import Derived.Test.YtepkhkfdokinmaaDoorVmEn
import Derived.Test.YtepkhkfdokinmaaDoorVmSu
import Derived.Test.YtepkhkfdokinmaaDoorGK
import Derived.Test.YtepkhkfdokinmaaDoorGL
namespace Go.Proofs.YtepkhkfdokinmaaDoor
open Go.RowKit Go.Shelf
attribute [local go_sem] Oper.semAt_some
set_option linter.unusedVariables false
set_option linter.unusedSimpArgs false

theorem region_cut3 {P : Program} {id : Nat} {ops : Array Oper} {dr : Bool} {Q : Exit → Act → World → Prop} {a : Act} {w : World} (F : Nat → Option Addr → Nat → Act) (H : Nat → World → Prop)
    (h1 : (Code.region id ops dr).wp P (fun e a' w' => e = .normal ∧ ∃ g A c, a' = F g A c ∧ H g w') a w) (h2 : ∀ g A c w', H g w' → Q .normal (F g A c) w') : (Code.region id ops dr).wp P Q a w :=
  Code.wp_mono (fun e a' w' h => by obtain ⟨he, g, A, c, ha, hg⟩ := h; subst he ha; exact h2 _ _ _ _ hg) h1
theorem wpList_eql_vm {ops : Array Oper} {rest : List Oper} {o : Oper} {a : Act} {w : World} {Q : Exit → Act → World → Prop} (hw : Region.wanted o (yielded ops a.tmps) = true) (x y : Operand) (ho : o.op = .binOp .eql 35 x y 35)
    (s s' : VmS) (cs cs' : Array Value) (hx : a.eval x = .agg cs) (hy : a.eval y = .agg cs') (hcs : cs = vmC s) (hcs' : cs' = vmC s') (hs : s.mem.length = 16) (hs' : s'.mem.length = 16) (b : Bool) (hb : decide (s = s') = b)
    (h : wpList Tryd.prog ops Q rest (a.put o.dst (.bool b)) w) : wpList Tryd.prog ops Q (o :: rest) a w := by
  refine wpList_at hw fun K hK => ?_
  subst hcs hcs'
  have hrun := run_eql_vm hs hs' w
  rw [hb] at hrun
  unfold Oper.wp execOp
  simp only [ho, hx, hy, Sem.run_bind, run_eqGuard_agg w .eql 35 x y _ _ vm_guard, hrun, Result.andThen_ok]
  exact hK _ _ h
theorem vm_same' (s : VmS) : decide (s = s) = true := by simp
theorem vm0_len : vm0.mem.length = 16 := by rfl

theorem steps_big (A : Option Addr) (l cap : Nat) (d : Dat) (p a x : Int) (mem : List Int) (w : World) (hK : Kinds w) (hbig : 300 < l) :
    Calls Tryd.prog 4 #[.slice A l cap, datV d, .agg (mcC p a x mem)] w fun e w' => e = .returned (.bool true) ∧ Below w.heap.size w w' := by
  have hb' : (300 : Int) < l := by omega
  have B0 := ((Below.refl w.heap.size w).alloc (Nat.le_refl _) (.cells (datC d) 32)).alloc (by simp) (.cells (mcC p a x mem) 35)
  have W5 := wakes5_any _ (hK.below B0 hK.pos)
  unfold datV
  go_enter Tryd.func4, Tryd.ntmps4
  go_wp2_with fail
  refine W5.mono ?_
  rintro e w1 ⟨rfl, b1⟩
  go_wp2_with fail
  go_ret
  exact ⟨rfl, B0.trans (b1.mono (by simp; omega))⟩

set_option maxRecDepth 100000 in
set_option maxHeartbeats 8000000 in
theorem steps_walk (A : Option Addr) (m cap : Nat) (f : Nat → Ins) (d : Dat) (hd : DatOk d) (p a x : Int) (mem : List Int) (hl : mem.length = 16) (w : World) (hK : Kinds w) (hA : Ri w w.heap.size A m f) (hcap : m ≤ cap) (hm : m ≤ 300)
    (s2 : VmS) (hl2 : s2.mem.length = 16) (wd : Int) (ov : Bool) (er r1 r2 : Int) (hr : chkI f m = (r1, r2))
    (CS : ∀ (V : World) (A' : Option Addr) (c' : Nat), Kinds V → Ri V V.heap.size A' m f → m ≤ c' → Calls Tryd.prog 13 #[.slice A' m c', .agg (datC d), .agg (mcC p a x mem)] V fun e w' => e = .returned (.tuple #[.agg (vmC s2), .int .u32 wd, .bool ov, .int .i64 er]) ∧ Below V.heap.size V w')
    (T : (¬ r2 = 0 ∧ s2 = vm0 ∧ wd = 0 ∧ ov = false ∧ er = r2) ∨ (r2 = 0 ∧ (p < 0 ∨ (m : Int) ≤ p) ∧ s2 = vm0 ∧ wd = 0 ∧ ov = false ∧ er = 2) ∨
      (r2 = 0 ∧ 0 ≤ p ∧ p < m ∧ er = 0 ∧ ∀ V : World, Ri V V.heap.size A m f → Calls Tryd.prog 16 #[.slice A m cap, .agg (datC d), .agg (mcC p a x mem)] V fun e w' => e = .returned (.tuple #[.agg (vmC s2), .int .u32 wd, .bool ov]) ∧ Below V.heap.size V w')) :
    Calls Tryd.prog 4 #[.slice A m cap, datV d, .agg (mcC p a x mem)] w fun e w' => e = .returned (.bool true) ∧ Below w.heap.size w w' := by
  have hb' : ¬ (300 : Int) < m := by omega
  have hA0 : A = none → m = 0 := fun e => by
    rcases Nat.eq_zero_or_pos m with h | h
    · exact h
    · obtain ⟨b, off, e2, _⟩ := hA 0 h
      rw [e] at e2; cases e2
  have B0 := ((Below.refl w.heap.size w).alloc (Nat.le_refl _) (.cells (datC d) 32)).alloc (by simp) (.cells (mcC p a x mem) 35)
  have kd := (Blk.new w (datC d) 32).alloc (.cells (mcC p a x mem) 35)
  have km := Blk.new_ (w.alloc (.cells (datC d) 32)) (mcC p a x mem) 35 (n := w.heap.size + 1) (by simp)
  have W5 := wakes5_any _ (hK.below B0 hK.pos)
  have hpos := hK.pos
  have HT := Lib.hid T
  clear T
  unfold datV
  go_enter Tryd.func4, Tryd.ntmps4
  go_wp2_with fail
  refine W5.mono ?_
  rintro e w1 ⟨rfl, b1⟩
  have B1 := B0.trans (b1.mono (by simp; omega))
  replace kd := kd.below b1 kd.lt
  replace km := km.below b1 km.lt
  clear W5 b1 B0
  go_wp2_with fail
  have HS : Below w1.heap.size w1 w1.drew := (Below.refl _ _).drew
  have CP := fun V (hV : Below w1.heap.size w1 V) => copied_any A m cap f V ((hA.below (B1.trans (hV.mono B1.size)) (Nat.le_refl _)).more (Nat.le_trans B1.size hV.size)) hm hA0
  have CT := fun V (hV : Below w1.heap.size w1 V) A' c' h1 h2 => CS V A' c' (hK.below (B1.trans (hV.mono B1.size)) hpos) h1 h2
  refine region_cut3 (fun g A1 c1 => { tmps := #[.slice A m cap, .agg (datC d), .agg (mcC p a x mem), undef, .pointer (some ⟨w.heap.size, 0, none⟩), .pointer (some ⟨w.heap.size + 1, 0, none⟩), .bool false, .pointer (some ⟨g, 0, none⟩), .int .u32 wd, .bool ov, .int .i64 er, undef, undef, undef, undef, undef, .bool true, .bool false, .slice A m cap, .int .i64 m, .bool (decide ((300 : Int) < m)), .tuple #[.agg (vmC s2), .int .u32 wd, .bool ov, .int .i64 er], .slice A m cap, .slice A1 m c1, .agg (datC d), .agg (mcC p a x mem), .tuple #[.agg (vmC s2), .int .u32 wd, .bool ov, .int .i64 er], .agg (vmC s2), .int .u32 wd, .bool ov, .int .i64 er, undef, undef, undef, undef, undef, undef, undef, undef, undef, undef, undef, undef, undef, undef, undef, undef, undef, undef, undef, undef, undef, undef, undef, undef, undef, undef, undef, undef, undef, undef, undef, undef, undef, undef, undef, undef, undef, undef, undef, undef, undef, undef, undef, undef, undef, undef, undef, undef, undef, undef, undef, undef, undef, undef, undef, undef, undef, undef, undef, undef, undef, undef, undef, undef, undef, undef, undef, undef, undef, undef, undef, undef, undef], defers := [] })
    (fun g V => Below w1.heap.size w1 V ∧ w1.heap.size ≤ g ∧ Blk V g (vmC s2) 35) ?h1 ?h2
  case h1 =>
    refine wp_region_held_drew (S := fun V => Below w1.heap.size w1 V) (by kernel_rfl) HS (fun _ => ?_)
    refine wpAnyH_take (i := 0) (v := .slice A m cap) rfl (by kernel_rfl) (by kernel_rfl) (by kernel_rfl) (fun _ _ _ h => nomatch h.1) (.inl ⟨by rfl, fun V hV => by go_simp⟩) HS ?_
    try simp only [Act.put, List.getElem_toArray, List.getElem_cons_zero, List.getElem_cons_succ, List.setIfInBounds_toArray, List.set_cons_zero, List.set_cons_succ]
    refine wpAnyH_take (i := 2) (v := .agg (datC d)) rfl (by kernel_rfl) (by kernel_rfl) (by kernel_rfl) (fun _ _ _ h => nomatch h.1) (yieldsIf_blk (by rfl) 32 (.tmp 4) rfl w.heap.size rfl (datC d) 32 _ (fun V hV => kd.below hV kd.lt) Tryd.underlying32 rfl dat_info) HS ?_
    try simp only [Act.put, List.getElem_toArray, List.getElem_cons_zero, List.getElem_cons_succ, List.setIfInBounds_toArray, List.set_cons_zero, List.set_cons_succ]
    refine wpAnyH_take (i := 3) (v := .agg (mcC p a x mem)) rfl (by kernel_rfl) (by kernel_rfl) (by kernel_rfl) (fun _ _ _ h => nomatch h.1) (yieldsIf_blk (by rfl) 35 (.tmp 5) rfl (w.heap.size + 1) rfl (mcC p a x mem) 35 _ (fun V hV => km.below hV km.lt) Tryd.underlying35 rfl (mc_inf hl)) HS ?_
    try simp only [Act.put, List.getElem_toArray, List.getElem_cons_zero, List.getElem_cons_succ, List.setIfInBounds_toArray, List.set_cons_zero, List.set_cons_succ]
    refine wpAnyH_ready (rs := [1, 10]) (by kernel_rfl) (by simp) ?_
    refine AllReadyH.cons rfl (fun K hK => ?_) ?_
    · try simp only [List.getElem_toArray, List.getElem_cons_zero, List.getElem_cons_succ, List.setIfInBounds_toArray, List.set_cons_zero, List.set_cons_succ]
      go_simp
      refine (CP _ HS).mono ?_
      rintro e V1 ⟨A1, c1, rfl, hc1, R1, b1⟩
      go_wp2_with fail
      refine hK.out _ _ (HS.trans (b1.mono HS.size)) (fun J1 => ?_)
      clear hK K
      try simp only [Act.put, List.getElem_toArray, List.getElem_cons_zero, List.getElem_cons_succ, List.setIfInBounds_toArray, List.set_cons_zero, List.set_cons_succ]
      refine wpAnyH_ready (rs := [4, 10]) (by kernel_rfl) (by simp) ?_
      refine AllReadyH.cons rfl (fun K hK => ?_) ?_
      · try simp only [List.getElem_toArray, List.getElem_cons_zero, List.getElem_cons_succ, List.setIfInBounds_toArray, List.set_cons_zero, List.set_cons_succ]
        go_simp
        refine (CT _ J1 _ _ R1 hc1).mono ?_
        rintro e V2 ⟨rfl, b2⟩
        go_wp2_with fail
        refine hK.out _ _ (J1.trans (b2.mono J1.size)) (fun J2 => ?_)
        clear hK K
        try simp only [Act.put, List.getElem_toArray, List.getElem_cons_zero, List.getElem_cons_succ, List.setIfInBounds_toArray, List.set_cons_zero, List.set_cons_succ]
        refine wpAnyH_take (i := 5) (v := .tuple #[.agg (vmC s2), .int .u32 wd, .bool ov, .int .i64 er]) rfl (by kernel_rfl) (by kernel_rfl) (by kernel_rfl) (fun _ _ _ h => nomatch h.1) (.inl ⟨by rfl, fun V hV => by go_simp⟩) J2 ?_
        try simp only [Act.put, List.getElem_toArray, List.getElem_cons_zero, List.getElem_cons_succ, List.setIfInBounds_toArray, List.set_cons_zero, List.set_cons_succ]
        refine wpAnyH_take (i := 6) (v := .agg (vmC s2)) rfl (by kernel_rfl) (by kernel_rfl) (by kernel_rfl) (fun _ _ _ h => nomatch h.1) (.inl ⟨by rfl, fun V hV => by go_simp⟩) J2 ?_
        try simp only [Act.put, List.getElem_toArray, List.getElem_cons_zero, List.getElem_cons_succ, List.setIfInBounds_toArray, List.set_cons_zero, List.set_cons_succ]
        refine wpAnyH_take (i := 7) (v := .int .u32 wd) rfl (by kernel_rfl) (by kernel_rfl) (by kernel_rfl) (fun _ _ _ h => nomatch h.1) (.inl ⟨by rfl, fun V hV => by go_simp⟩) J2 ?_
        try simp only [Act.put, List.getElem_toArray, List.getElem_cons_zero, List.getElem_cons_succ, List.setIfInBounds_toArray, List.set_cons_zero, List.set_cons_succ]
        refine wpAnyH_take (i := 8) (v := .bool ov) rfl (by kernel_rfl) (by kernel_rfl) (by kernel_rfl) (fun _ _ _ h => nomatch h.1) (.inl ⟨by rfl, fun V hV => by go_simp⟩) J2 ?_
        try simp only [Act.put, List.getElem_toArray, List.getElem_cons_zero, List.getElem_cons_succ, List.setIfInBounds_toArray, List.set_cons_zero, List.set_cons_succ]
        refine wpAnyH_take (i := 9) (v := .int .i64 er) rfl (by kernel_rfl) (by kernel_rfl) (by kernel_rfl) (fun _ _ _ h => nomatch h.1) (.inl ⟨by rfl, fun V hV => by go_simp⟩) J2 ?_
        try simp only [Act.put, List.getElem_toArray, List.getElem_cons_zero, List.getElem_cons_succ, List.setIfInBounds_toArray, List.set_cons_zero, List.set_cons_succ]
        refine wpAnyH_ready (rs := [10]) (by kernel_rfl) (by simp) ?_
        refine AllReadyH.cons rfl (fun K hK => ?_) AllReadyH.nil
        try simp only [List.getElem_toArray, List.getElem_cons_zero, List.getElem_cons_succ, List.setIfInBounds_toArray, List.set_cons_zero, List.set_cons_succ]
        go_simp
        refine hK.out _ _ (J2.alloc J2.size _) (fun J3 => ?_)
        clear hK K
        have F3 := And.intro J2.size (Blk.new V2 zerL 35)
        try simp only [Act.put, List.getElem_toArray, List.getElem_cons_zero, List.getElem_cons_succ, List.setIfInBounds_toArray, List.set_cons_zero, List.set_cons_succ]
        refine wpAnyH_ready (rs := [11]) (by kernel_rfl) (by simp) ?_
        refine AllReadyH.cons rfl (fun K hK => ?_) AllReadyH.nil
        try simp only [List.getElem_toArray, List.getElem_cons_zero, List.getElem_cons_succ, List.setIfInBounds_toArray, List.set_cons_zero, List.set_cons_succ]
        rw [if_pos (by rfl)]
        refine wp_store_blk 35 (.tmp 7) (.tmp 27) rfl _ _ (vmC s2) 35 rfl rfl F3.2 (vm_z19 hl2) (mc_inf hl2) mc_one ?_
        intro V4 F4 N4
        refine hK.out _ _ (J3.trans (N4.below _ F3.1 J3.size)) (fun J4 => ?_)
        clear hK K
        try simp only [Act.put]
        refine wpAnyH_take (i := 12) (v := .int .u32 wd) rfl (by kernel_rfl) (by kernel_rfl) (by kernel_rfl) (fun _ _ _ h => nomatch h.1) (.inl ⟨by rfl, fun V hV => by go_simp⟩) J4 ?_
        try simp only [Act.put, List.getElem_toArray, List.getElem_cons_zero, List.getElem_cons_succ, List.setIfInBounds_toArray, List.set_cons_zero, List.set_cons_succ]
        refine wpAnyH_take (i := 13) (v := .bool ov) rfl (by kernel_rfl) (by kernel_rfl) (by kernel_rfl) (fun _ _ _ h => nomatch h.1) (.inl ⟨by rfl, fun V hV => by go_simp⟩) J4 ?_
        try simp only [Act.put, List.getElem_toArray, List.getElem_cons_zero, List.getElem_cons_succ, List.setIfInBounds_toArray, List.set_cons_zero, List.set_cons_succ]
        refine wpAnyH_take (i := 14) (v := .int .i64 er) rfl (by kernel_rfl) (by kernel_rfl) (by kernel_rfl) (fun _ _ _ h => nomatch h.1) (.inl ⟨by rfl, fun V hV => by go_simp⟩) J4 ?_
        try simp only [Act.put, List.getElem_toArray, List.getElem_cons_zero, List.getElem_cons_succ, List.setIfInBounds_toArray, List.set_cons_zero, List.set_cons_succ]
        refine wpAnyH_done (by kernel_rfl) ?_ _
        exact ⟨rfl, _, A1, c1, rfl, J4, F3.1, F4⟩
      refine AllReadyH.cons rfl (fun K hK => ?_) AllReadyH.nil
      try simp only [List.getElem_toArray, List.getElem_cons_zero, List.getElem_cons_succ, List.setIfInBounds_toArray, List.set_cons_zero, List.set_cons_succ]
      go_simp
      refine hK.out _ _ (J1.alloc J1.size _) (fun J5 => ?_)
      clear hK K
      have F5 := And.intro J1.size (Blk.new V1 zerL 35)
      have R5 := (R1.below ((Below.refl _ _).alloc (Nat.le_refl _) (.cells zerL 35)) (Nat.le_refl _)).more (show _ ≤ (World.alloc V1 (.cells zerL 35)).heap.size by simp)
      try simp only [Act.put, List.getElem_toArray, List.getElem_cons_zero, List.getElem_cons_succ, List.setIfInBounds_toArray, List.set_cons_zero, List.set_cons_succ]
      refine wpAnyH_ready (rs := [4]) (by kernel_rfl) (by simp) ?_
      refine AllReadyH.cons rfl (fun K hK => ?_) AllReadyH.nil
      try simp only [List.getElem_toArray, List.getElem_cons_zero, List.getElem_cons_succ, List.setIfInBounds_toArray, List.set_cons_zero, List.set_cons_succ]
      go_simp
      refine (CT _ J5 _ _ R5 hc1).mono ?_
      rintro e V6 ⟨rfl, b6⟩
      go_wp2_with fail
      refine hK.out _ _ (J5.trans (b6.mono J5.size)) (fun J6 => ?_)
      clear hK K
      have F6 := And.intro F5.1 (F5.2.below b6 F5.2.lt)
      try simp only [Act.put, List.getElem_toArray, List.getElem_cons_zero, List.getElem_cons_succ, List.setIfInBounds_toArray, List.set_cons_zero, List.set_cons_succ]
      refine wpAnyH_take (i := 5) (v := .tuple #[.agg (vmC s2), .int .u32 wd, .bool ov, .int .i64 er]) rfl (by kernel_rfl) (by kernel_rfl) (by kernel_rfl) (fun _ _ _ h => nomatch h.1) (.inl ⟨by rfl, fun V hV => by go_simp⟩) J6 ?_
      try simp only [Act.put, List.getElem_toArray, List.getElem_cons_zero, List.getElem_cons_succ, List.setIfInBounds_toArray, List.set_cons_zero, List.set_cons_succ]
      refine wpAnyH_take (i := 6) (v := .agg (vmC s2)) rfl (by kernel_rfl) (by kernel_rfl) (by kernel_rfl) (fun _ _ _ h => nomatch h.1) (.inl ⟨by rfl, fun V hV => by go_simp⟩) J6 ?_
      try simp only [Act.put, List.getElem_toArray, List.getElem_cons_zero, List.getElem_cons_succ, List.setIfInBounds_toArray, List.set_cons_zero, List.set_cons_succ]
      refine wpAnyH_take (i := 7) (v := .int .u32 wd) rfl (by kernel_rfl) (by kernel_rfl) (by kernel_rfl) (fun _ _ _ h => nomatch h.1) (.inl ⟨by rfl, fun V hV => by go_simp⟩) J6 ?_
      try simp only [Act.put, List.getElem_toArray, List.getElem_cons_zero, List.getElem_cons_succ, List.setIfInBounds_toArray, List.set_cons_zero, List.set_cons_succ]
      refine wpAnyH_take (i := 8) (v := .bool ov) rfl (by kernel_rfl) (by kernel_rfl) (by kernel_rfl) (fun _ _ _ h => nomatch h.1) (.inl ⟨by rfl, fun V hV => by go_simp⟩) J6 ?_
      try simp only [Act.put, List.getElem_toArray, List.getElem_cons_zero, List.getElem_cons_succ, List.setIfInBounds_toArray, List.set_cons_zero, List.set_cons_succ]
      refine wpAnyH_take (i := 9) (v := .int .i64 er) rfl (by kernel_rfl) (by kernel_rfl) (by kernel_rfl) (fun _ _ _ h => nomatch h.1) (.inl ⟨by rfl, fun V hV => by go_simp⟩) J6 ?_
      try simp only [Act.put, List.getElem_toArray, List.getElem_cons_zero, List.getElem_cons_succ, List.setIfInBounds_toArray, List.set_cons_zero, List.set_cons_succ]
      refine wpAnyH_ready (rs := [11]) (by kernel_rfl) (by simp) ?_
      refine AllReadyH.cons rfl (fun K hK => ?_) AllReadyH.nil
      try simp only [List.getElem_toArray, List.getElem_cons_zero, List.getElem_cons_succ, List.setIfInBounds_toArray, List.set_cons_zero, List.set_cons_succ]
      rw [if_pos (by rfl)]
      refine wp_store_blk 35 (.tmp 7) (.tmp 27) rfl _ _ (vmC s2) 35 rfl rfl F6.2 (vm_z19 hl2) (mc_inf hl2) mc_one ?_
      intro V7 F7 N7
      refine hK.out _ _ (J6.trans (N7.below _ F6.1 J6.size)) (fun J7 => ?_)
      clear hK K
      try simp only [Act.put]
      refine wpAnyH_take (i := 12) (v := .int .u32 wd) rfl (by kernel_rfl) (by kernel_rfl) (by kernel_rfl) (fun _ _ _ h => nomatch h.1) (.inl ⟨by rfl, fun V hV => by go_simp⟩) J7 ?_
      try simp only [Act.put, List.getElem_toArray, List.getElem_cons_zero, List.getElem_cons_succ, List.setIfInBounds_toArray, List.set_cons_zero, List.set_cons_succ]
      refine wpAnyH_take (i := 13) (v := .bool ov) rfl (by kernel_rfl) (by kernel_rfl) (by kernel_rfl) (fun _ _ _ h => nomatch h.1) (.inl ⟨by rfl, fun V hV => by go_simp⟩) J7 ?_
      try simp only [Act.put, List.getElem_toArray, List.getElem_cons_zero, List.getElem_cons_succ, List.setIfInBounds_toArray, List.set_cons_zero, List.set_cons_succ]
      refine wpAnyH_take (i := 14) (v := .int .i64 er) rfl (by kernel_rfl) (by kernel_rfl) (by kernel_rfl) (fun _ _ _ h => nomatch h.1) (.inl ⟨by rfl, fun V hV => by go_simp⟩) J7 ?_
      try simp only [Act.put, List.getElem_toArray, List.getElem_cons_zero, List.getElem_cons_succ, List.setIfInBounds_toArray, List.set_cons_zero, List.set_cons_succ]
      refine wpAnyH_done (by kernel_rfl) ?_ _
      exact ⟨rfl, _, A1, c1, rfl, J7, F6.1, F7⟩
    refine AllReadyH.cons rfl (fun K hK => ?_) AllReadyH.nil
    try simp only [List.getElem_toArray, List.getElem_cons_zero, List.getElem_cons_succ, List.setIfInBounds_toArray, List.set_cons_zero, List.set_cons_succ]
    go_simp
    refine hK.out _ _ (HS.alloc HS.size _) (fun J8 => ?_)
    clear hK K
    have F8 := And.intro HS.size (Blk.new w1.drew zerL 35)
    try simp only [Act.put, List.getElem_toArray, List.getElem_cons_zero, List.getElem_cons_succ, List.setIfInBounds_toArray, List.set_cons_zero, List.set_cons_succ]
    refine wpAnyH_ready (rs := [1]) (by kernel_rfl) (by simp) ?_
    refine AllReadyH.cons rfl (fun K hK => ?_) AllReadyH.nil
    try simp only [List.getElem_toArray, List.getElem_cons_zero, List.getElem_cons_succ, List.setIfInBounds_toArray, List.set_cons_zero, List.set_cons_succ]
    go_simp
    refine (CP _ J8).mono ?_
    rintro e V9 ⟨A9, c9, rfl, hc9, R9, b9⟩
    go_wp2_with fail
    refine hK.out _ _ (J8.trans (b9.mono J8.size)) (fun J9 => ?_)
    clear hK K
    have F9 := And.intro F8.1 (F8.2.below b9 F8.2.lt)
    try simp only [Act.put, List.getElem_toArray, List.getElem_cons_zero, List.getElem_cons_succ, List.setIfInBounds_toArray, List.set_cons_zero, List.set_cons_succ]
    refine wpAnyH_ready (rs := [4]) (by kernel_rfl) (by simp) ?_
    refine AllReadyH.cons rfl (fun K hK => ?_) AllReadyH.nil
    try simp only [List.getElem_toArray, List.getElem_cons_zero, List.getElem_cons_succ, List.setIfInBounds_toArray, List.set_cons_zero, List.set_cons_succ]
    go_simp
    refine (CT _ J9 _ _ R9 hc9).mono ?_
    rintro e V10 ⟨rfl, b10⟩
    go_wp2_with fail
    refine hK.out _ _ (J9.trans (b10.mono J9.size)) (fun J10 => ?_)
    clear hK K
    have F10 := And.intro F9.1 (F9.2.below b10 F9.2.lt)
    try simp only [Act.put, List.getElem_toArray, List.getElem_cons_zero, List.getElem_cons_succ, List.setIfInBounds_toArray, List.set_cons_zero, List.set_cons_succ]
    refine wpAnyH_take (i := 5) (v := .tuple #[.agg (vmC s2), .int .u32 wd, .bool ov, .int .i64 er]) rfl (by kernel_rfl) (by kernel_rfl) (by kernel_rfl) (fun _ _ _ h => nomatch h.1) (.inl ⟨by rfl, fun V hV => by go_simp⟩) J10 ?_
    try simp only [Act.put, List.getElem_toArray, List.getElem_cons_zero, List.getElem_cons_succ, List.setIfInBounds_toArray, List.set_cons_zero, List.set_cons_succ]
    refine wpAnyH_take (i := 6) (v := .agg (vmC s2)) rfl (by kernel_rfl) (by kernel_rfl) (by kernel_rfl) (fun _ _ _ h => nomatch h.1) (.inl ⟨by rfl, fun V hV => by go_simp⟩) J10 ?_
    try simp only [Act.put, List.getElem_toArray, List.getElem_cons_zero, List.getElem_cons_succ, List.setIfInBounds_toArray, List.set_cons_zero, List.set_cons_succ]
    refine wpAnyH_take (i := 7) (v := .int .u32 wd) rfl (by kernel_rfl) (by kernel_rfl) (by kernel_rfl) (fun _ _ _ h => nomatch h.1) (.inl ⟨by rfl, fun V hV => by go_simp⟩) J10 ?_
    try simp only [Act.put, List.getElem_toArray, List.getElem_cons_zero, List.getElem_cons_succ, List.setIfInBounds_toArray, List.set_cons_zero, List.set_cons_succ]
    refine wpAnyH_take (i := 8) (v := .bool ov) rfl (by kernel_rfl) (by kernel_rfl) (by kernel_rfl) (fun _ _ _ h => nomatch h.1) (.inl ⟨by rfl, fun V hV => by go_simp⟩) J10 ?_
    try simp only [Act.put, List.getElem_toArray, List.getElem_cons_zero, List.getElem_cons_succ, List.setIfInBounds_toArray, List.set_cons_zero, List.set_cons_succ]
    refine wpAnyH_take (i := 9) (v := .int .i64 er) rfl (by kernel_rfl) (by kernel_rfl) (by kernel_rfl) (fun _ _ _ h => nomatch h.1) (.inl ⟨by rfl, fun V hV => by go_simp⟩) J10 ?_
    try simp only [Act.put, List.getElem_toArray, List.getElem_cons_zero, List.getElem_cons_succ, List.setIfInBounds_toArray, List.set_cons_zero, List.set_cons_succ]
    refine wpAnyH_ready (rs := [11]) (by kernel_rfl) (by simp) ?_
    refine AllReadyH.cons rfl (fun K hK => ?_) AllReadyH.nil
    try simp only [List.getElem_toArray, List.getElem_cons_zero, List.getElem_cons_succ, List.setIfInBounds_toArray, List.set_cons_zero, List.set_cons_succ]
    rw [if_pos (by rfl)]
    refine wp_store_blk 35 (.tmp 7) (.tmp 27) rfl _ _ (vmC s2) 35 rfl rfl F10.2 (vm_z19 hl2) (mc_inf hl2) mc_one ?_
    intro V11 F11 N11
    refine hK.out _ _ (J10.trans (N11.below _ F10.1 J10.size)) (fun J11 => ?_)
    clear hK K
    try simp only [Act.put]
    refine wpAnyH_take (i := 12) (v := .int .u32 wd) rfl (by kernel_rfl) (by kernel_rfl) (by kernel_rfl) (fun _ _ _ h => nomatch h.1) (.inl ⟨by rfl, fun V hV => by go_simp⟩) J11 ?_
    try simp only [Act.put, List.getElem_toArray, List.getElem_cons_zero, List.getElem_cons_succ, List.setIfInBounds_toArray, List.set_cons_zero, List.set_cons_succ]
    refine wpAnyH_take (i := 13) (v := .bool ov) rfl (by kernel_rfl) (by kernel_rfl) (by kernel_rfl) (fun _ _ _ h => nomatch h.1) (.inl ⟨by rfl, fun V hV => by go_simp⟩) J11 ?_
    try simp only [Act.put, List.getElem_toArray, List.getElem_cons_zero, List.getElem_cons_succ, List.setIfInBounds_toArray, List.set_cons_zero, List.set_cons_succ]
    refine wpAnyH_take (i := 14) (v := .int .i64 er) rfl (by kernel_rfl) (by kernel_rfl) (by kernel_rfl) (fun _ _ _ h => nomatch h.1) (.inl ⟨by rfl, fun V hV => by go_simp⟩) J11 ?_
    try simp only [Act.put, List.getElem_toArray, List.getElem_cons_zero, List.getElem_cons_succ, List.setIfInBounds_toArray, List.set_cons_zero, List.set_cons_succ]
    refine wpAnyH_done (by kernel_rfl) ?_ _
    exact ⟨rfl, _, A9, c9, rfl, J11, F10.1, F11⟩
  case h2 =>
    rintro g A7 c7 V ⟨hV, hg, hF⟩
    rename_i K0 hK0
    refine hK0 _ _ ?_
    clear hK0 K0 CP HS
    have BV := B1.trans (hV.mono B1.size)
    replace km := km.below hV km.lt
    replace kd := kd.below hV kd.lt
    have hRV := (hA.below BV (Nat.le_refl _)).more BV.size
    have CK := rcheck_any A m cap f V hRV
    rw [hr] at CK
    clear hr
    go_wp2_with fail
    refine CK.mono ?_
    rintro e V1 ⟨rfl, bk⟩
    have F1 := hF.below bk hF.lt
    have km1 := km.below bk km.lt
    have kd1 := kd.below bk kd.lt
    have BV1 := BV.trans (bk.mono BV.size)
    clear hF km kd bk CK hRV
    have c0 := (km1.cell 0).trans mc_0
    rcases HT.out with ⟨h0, rfl, rfl, rfl, rfl⟩ | ⟨rfl, hp, rfl, rfl, rfl, rfl⟩ | ⟨rfl, hp0, hp1, rfl, RS⟩
    · clear HT
      go_wp2_with (first
        | (refine wpList_load_row rfl 35 (.tmp 7) rfl g rfl 35 (vmC vm0) (0, 0) _ F1.blk Tryd.underlying35 rfl (mc_inf vm0_len) ?_)
        | (refine wpList_eql_vm (by rfl) (.tmp 38) (.tmp 39) rfl vm0 vm0 (vmC vm0) _ rfl rfl rfl (zer_lit.trans rfl) vm0_len vm0_len true (vm_same' vm0) ?_))
      go_ret
      exact ⟨rfl, BV1⟩
    · clear HT
      by_cases h1 : p < 0
      · have h1' : decide (p < 0) = true := by simpa using h1
        go_wp2_with (first
          | (refine wpList_load_row rfl 35 (.tmp 7) rfl g rfl 35 (vmC vm0) (0, 0) _ F1.blk Tryd.underlying35 rfl (mc_inf vm0_len) ?_)
          | (refine wpList_eql_vm (by rfl) (.tmp 64) (.tmp 65) rfl vm0 vm0 (vmC vm0) _ rfl rfl rfl (zer_lit.trans rfl) vm0_len vm0_len true (vm_same' vm0) ?_))
        go_ret
        exact ⟨rfl, BV1⟩
      · have h2 : (m : Int) ≤ p := by omega
        have h1' : decide (p < 0) = false := by simpa using h1
        have h2' : decide ((m : Int) ≤ p) = true := by simpa using h2
        go_wp2_with (first
          | (refine wpList_load_row rfl 35 (.tmp 7) rfl g rfl 35 (vmC vm0) (0, 0) _ F1.blk Tryd.underlying35 rfl (mc_inf vm0_len) ?_)
          | (refine wpList_eql_vm (by rfl) (.tmp 64) (.tmp 65) rfl vm0 vm0 (vmC vm0) _ rfl rfl rfl (zer_lit.trans rfl) vm0_len vm0_len true (vm_same' vm0) ?_))
        go_ret
        exact ⟨rfl, BV1⟩
    · clear HT
      have h1' : decide (p < 0) = false := by simpa using (by omega : ¬ p < 0)
      have h2' : decide ((m : Int) ≤ p) = false := by simpa using (by omega : ¬ (m : Int) ≤ p)
      have RS1 := RS V1 ((hA.below BV1 (Nat.le_refl _)).more BV1.size)
      clear RS
      go_wp2_with (first
        | (refine wpList_load_row rfl 32 (.tmp 4) rfl w.heap.size rfl 32 (datC d) (0, 0) _ kd1.blk Tryd.underlying32 rfl dat_info ?_)
        | (refine wpList_load_row rfl 35 (.tmp 5) rfl (w.heap.size + 1) rfl 35 (mcC p a x mem) (0, 0) _ km1.blk Tryd.underlying35 rfl (mc_inf hl) ?_))
      refine RS1.mono ?_
      rintro e V2 ⟨rfl, b2⟩
      have BV2 := BV1.trans (b2.mono BV1.size)
      have F2 := F1.below b2 F1.lt
      clear RS1 b2 F1 km1 kd1 c0
      go_wp2_with (first
        | (refine wpList_store_blk rfl 35 (.tmp 13) (.tmp 84) rfl V2.heap.size _ (vmC s2) 35 rfl rfl (Blk.new_ _ _ _ rfl) (vm_z19 hl2) (mc_inf hl2) mc_one ?_
           intro V3 hF3 hn3
           have F3 := But.blk' hn3 (F2.alloc _) (by have := F2.lt; omega)
           have BV3 := (BV2.alloc BV2.size _).trans (hn3.below _ BV2.size (by simp; have := BV2.size; omega)))
        | (refine wpList_load_row rfl 35 (.tmp 7) rfl g rfl 35 (vmC s2) (0, 0) _ F3.blk Tryd.underlying35 rfl (mc_inf hl2) ?_)
        | (refine wpList_load_row rfl 35 (.tmp 13) rfl V2.heap.size rfl 35 (vmC s2) (0, 0) _ hF3.blk Tryd.underlying35 rfl (mc_inf hl2) ?_)
        | (refine wpList_eql_vm (by rfl) (.tmp 87) (.tmp 88) rfl s2 s2 (vmC s2) (vmC s2) rfl rfl rfl rfl hl2 hl2 true (vm_same' s2) ?_))
      go_ret
      exact ⟨rfl, BV3⟩

/-- VmSteps, of whatever machine. -/
theorem vmSteps_any (A : Option Addr) (m cap : Nat) (f : Nat → Ins) (d : Dat) (p a x : Int) (mem : List Int) (w : World) (hK : Kinds w) (hA : Ri w w.heap.size A m f) (hcap : m ≤ cap) (hd : DatOk d) (ha : U32 a) (hx : U32 x) (hl : mem.length = 16) (hmem : U32s mem) :
    Calls Tryd.prog 4 #[.slice A m cap, datV d, .agg (mcC p a x mem)] w fun e w' => e = .returned (.bool true) ∧ Below w.heap.size w w' := by
  by_cases hm : m ≤ 300
  · obtain ⟨⟨r1, r2⟩, hr⟩ : ∃ r, chkI f m = r := ⟨_, rfl⟩
    by_cases h0 : r2 = 0
    · have hM : May f m := may_chk (by rw [hr]; exact h0)
      by_cases hp : p < 0 ∨ (m : Int) ≤ p
      · exact steps_walk A m cap f d hd p a x mem hl w hK hA hcap hm vm0 vm0_len 0 false 2 r1 r2 hr (fun V A' c' h1 h2 _ => stepSt_arg A' m c' f d p a x mem hl V h1 h2 hM hp) (.inr (.inl ⟨h0, hp, rfl, rfl, rfl, rfl⟩))
      · obtain ⟨n, rfl⟩ : ∃ n : Nat, p = n := ⟨p.toNat, by omega⟩
        have hn : n < m := by omega
        have hok : VmOk ⟨n, a, x, mem⟩ := ⟨ha, hx, hl, hmem⟩
        obtain ⟨⟨o, s2⟩, hst⟩ : ∃ t, stepV alI hdI (f n) (dW d) ⟨n, a, x, mem⟩ = t := ⟨_, rfl⟩
        have ok2 : VmOk s2 := step_ok (hA.ok n hn) (fun o => dW_bd d hd o) hok hst
        refine steps_walk A m cap f d hd n a x mem hl w hK hA hcap hm s2 ok2.len (wdO o) (ovO o) 0 r1 r2 hr (fun V A' c' h1 h2 h3 => stepSt_ok A' m c' f d hd ⟨n, a, x, mem⟩ hok V h1 h2 h3 hM hn o s2 hst) (.inr (.inr ⟨h0, by omega, by omega, rfl, fun V h => ?_⟩))
        have H := rstep_any A m cap f d hd ⟨n, a, x, mem⟩ hok V h hcap hM hn
        rw [stepR_eq hst] at H
        exact H
    · exact steps_walk A m cap f d hd p a x mem hl w hK hA hcap hm vm0 vm0_len 0 false r2 r1 r2 hr (fun V A' c' h1 h2 _ => stepSt_no A' m c' f d p a x mem hl V h1 h2 r1 r2 hr h0) (.inl ⟨h0, rfl, rfl, rfl, rfl⟩)
  · exact steps_big A m cap d p a x mem w hK (by omega)
end Go.Proofs.YtepkhkfdokinmaaDoor
