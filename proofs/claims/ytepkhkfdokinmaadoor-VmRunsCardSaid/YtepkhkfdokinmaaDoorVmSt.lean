/-
  vm.Step, walked.
-/
import Derived.Test.YtepkhkfdokinmaaDoorGG
import Derived.Test.YtepkhkfdokinmaaDoorCkCheck
namespace Go.Proofs.YtepkhkfdokinmaaDoor
open Go.RowKit Go.Shelf
attribute [local go_sem] Oper.semAt_some
set_option linter.unusedVariables false
set_option linter.unusedSimpArgs false

theorem results_row_three {P : Program} {fn : Func} {p u v t3 : Tmp} {ty : TypeId} (h : fn.results = #[.cell p ty, .tmp u, .tmp v, .tmp t3]) (tmps : Array Value) (w : World) (g : Nat) (t : TypeId) (cs : Array Value) (fr : Nat × Nat) (d : TypeDesc)
    (hp : tmps.getD p undef = .pointer (some ⟨g, 0, none⟩)) (hg : w.heap[g]? = some (.cells cs t fr))
    (hu : P.underlying ty = some d) (hd : (match d with | .struct _ | .array _ _ => true | _ => false) = true) (hi : (P.info? ty).map (·.size) = some cs.size) (x y z : Value) (hx : tmps.getD u undef = x) (hy : tmps.getD v undef = y) (hz : tmps.getD t3 undef = z) :
    (results fn tmps).run P w = .ok (.tuple #[.agg cs, x, y, z]) w := by
  subst hx hy hz
  have hp' : tmps[p]?.getD undef = .pointer (some ⟨g, 0, none⟩) := by simpa using hp
  simp [results, h, hp', asAddr, run_loadVar_row w g t ty cs fr d hg hu hd hi]

set_option maxRecDepth 100000 in
set_option maxHeartbeats 8000000 in
theorem stepSt_ok (A : Option Addr) (m cap : Nat) (f : Nat → Ins) (d : Dat) (hd : DatOk d) (s : VmS) (hok : VmOk s) (w : World) (hK : Kinds w) (hA : Ri w w.heap.size A m f) (hcap : m ≤ cap) (hM : May f m) (hs : s.pc < m)
    (o : Option Int) (s2 : VmS) (hst : stepV alI hdI (f s.pc) (dW d) s = (o, s2)) :
    Calls Tryd.prog 13 #[.slice A m cap, datV d, vmV s] w fun e w' => e = .returned (.tuple #[.agg (vmC s2), .int .u32 (wdO o), .bool (ovO o), .int .i64 0]) ∧ Below w.heap.size w w' := by
  have hm64 := hM.hi
  have B0 := (((Below.refl w.heap.size w).alloc (Nat.le_refl _) (.cells (datC d) 32)).alloc (by simp) (.cells (vmC s) 35)).alloc (by simp; omega) (.cells zerL 35)
  have hC := check_any A m cap f _ (hK.below B0 hK.pos) ((hA.below B0 (Nat.le_refl _)).more B0.size)
  rw [chk_may hM] at hC
  have kd := ((Blk.new w (datC d) 32).alloc (.cells (vmC s) 35)).alloc (.cells zerL 35)
  have km := (Blk.new_ (w.alloc (.cells (datC d) 32)) (vmC s) 35 (n := w.heap.size + 1) (by simp)).alloc (.cells zerL 35)
  have kz := Blk.new_ ((w.alloc (.cells (datC d) 32)).alloc (.cells (vmC s) 35)) zerL 35 (n := w.heap.size + 1 + 1) (by simp)
  have hspc : (s.pc : Int) < m := by omega
  have hge : ¬ (s.pc : Int) ≥ m := by omega
  have hn0 : ¬ (s.pc : Int) < 0 := by omega
  have ho := hA.ok s.pc hs
  obtain ⟨b, off, rfl, hbl, pI, _⟩ := hA s.pc hs
  have hone : oneL ((m : Int) - 1 - s.pc) (f s.pc) = 0 := hM.one s.pc hs
  have CS0 := fun V hK => step_any (f s.pc) d hd s hok (by omega) _ ho hone (by omega) V hK
  have ok2 : VmOk s2 := step_ok ho (fun o => dW_bd d hd o) hok hst
  obtain ⟨⟨x, y, z, k⟩, hf⟩ : ∃ q : Ins, f s.pc = q := ⟨_, rfl⟩
  rw [hf] at CS0 pI hone hst
  rw [stepR_eq hst] at CS0
  generalize wdO o = wd at CS0 ⊢
  generalize ovO o = ov at CS0 ⊢
  simp only [valI, insV, datV, vmV] at CS0 ⊢
  simp only at pI
  clear hf hst hone ho
  go_enter Tryd.func13, Tryd.ntmps13
  go_wp2_with fail
  refine hC.mono ?_
  rintro e w1 ⟨rfl, b1⟩
  replace kd := kd.below b1 kd.lt
  replace km := km.below b1 km.lt
  replace kz := kz.below b1 kz.lt
  have B1 := B0.trans (b1.mono B0.size)
  have c0 := (km.cell 0).trans mc_0
  clear hC b1 B0
  go_wp2_with fail
  have HS : Below w1.heap.size w1 w1.drew := (Below.refl _ _).drew
  have CS := fun V (hV : Below w1.heap.size w1 V) => CS0 V (hK.below (B1.trans (hV.mono B1.size)) hK.pos)
  have QI := fun V (hV : Below w1.heap.size w1 V) => ri_at (B1.trans (hV.mono B1.size)) hbl pI
  clear CS0
  generalize (Value.bool (decide ((s.pc : Int) < 0) || decide (m ≤ s.pc))) = z33
  generalize (Value.bool (decide ((s.pc : Int) < 0))) = z26
  generalize (Value.bool (decide (m ≤ s.pc))) = z32
  refine region_cutG (fun g => { tmps := #[.slice (some ⟨b, off, none⟩) m cap, .agg (datC d), .agg (vmC s), undef, .pointer (some ⟨w.heap.size, 0, none⟩), .pointer (some ⟨w.heap.size + 1, 0, none⟩), .pointer (some ⟨w.heap.size + 1 + 1, 0, none⟩),
      .int .u32 0, .bool false, .int .i64 0, .int .i64 0, .int .i64 0, .pointer (some ⟨g, 0, none⟩), .int .u32 wd, .bool ov, .tuple #[.int .i64 0, .int .i64 0], .slice (some ⟨b, off, none⟩) m cap, .tuple #[.int .i64 0, .int .i64 0], .int .i64 0, .int .i64 0, .int .i64 0, .bool false, undef, undef,
      .pointer (some ⟨w.heap.size + 1, 0, none⟩), .int .i64 s.pc, z26, z26, .pointer (some ⟨w.heap.size + 1, 0, none⟩), .int .i64 s.pc, .slice (some ⟨b, off, none⟩) m cap, .int .i64 m, z32,
      z33, undef, .tuple #[.agg (vmC s2), .int .u32 wd, .bool ov], .slice (some ⟨b, off, none⟩) m cap, .pointer (some ⟨w.heap.size + 1, 0, none⟩), .int .i64 s.pc, .pointer (some ⟨b, off + s.pc * 4, none⟩),
      .agg #[.int .u16 x, .int .u8 y, .int .u8 z, .int .u32 k], .agg (datC d), .agg (vmC s), .tuple #[.agg (vmC s2), .int .u32 wd, .bool ov], .agg (vmC s2), .int .u32 wd, .bool ov, undef, undef, undef], defers := [] })
    (fun g V => Below w1.heap.size w1 V ∧ w1.heap.size ≤ g ∧ Blk V g (vmC s2) 35) ?_ ?_
  · refine wp_region_held_drew (S := fun V => Below w1.heap.size w1 V) (by kernel_rfl) HS (fun _ => ?_)
    refine wpAnyH_take (i := 0) (v := .slice (some ⟨b, off, none⟩) m cap) rfl (by kernel_rfl) (by kernel_rfl) (by kernel_rfl) (fun _ _ _ h => nomatch h.1) (.inl ⟨by rfl, fun V hV => by go_simp⟩) HS ?_
    try simp only [Act.put, List.getElem_toArray, List.getElem_cons_zero, List.getElem_cons_succ, List.setIfInBounds_toArray, List.set_cons_zero, List.set_cons_succ]
    refine wpAnyH_take (i := 1) (v := .pointer (some ⟨w.heap.size + 1, 0, none⟩)) rfl (by kernel_rfl) (by kernel_rfl) (by kernel_rfl) (fun _ _ _ h => nomatch h.1) (.inl ⟨by rfl, fun V hV => by go_simp⟩) HS ?_
    try simp only [Act.put, List.getElem_toArray, List.getElem_cons_zero, List.getElem_cons_succ, List.setIfInBounds_toArray, List.set_cons_zero, List.set_cons_succ]
    refine wpAnyH_take (i := 2) (v := .int .i64 s.pc) rfl (by kernel_rfl) (by kernel_rfl) (by kernel_rfl) (fun _ _ _ h => nomatch h.1) (.inl ⟨by rfl, fun V hV => by have c := ((km.below hV km.lt).cell 0).trans mc_0; go_simp⟩) HS ?_
    try simp only [Act.put, List.getElem_toArray, List.getElem_cons_zero, List.getElem_cons_succ, List.setIfInBounds_toArray, List.set_cons_zero, List.set_cons_succ]
    refine wpAnyH_take (i := 3) (v := .pointer (some ⟨b, off + s.pc * 4, none⟩)) rfl (by kernel_rfl) (by kernel_rfl) (by kernel_rfl) (fun _ _ _ h => nomatch h.1) (.inl ⟨by rfl, fun V hV => by go_simp⟩) HS ?_
    try simp only [Act.put, List.getElem_toArray, List.getElem_cons_zero, List.getElem_cons_succ, List.setIfInBounds_toArray, List.set_cons_zero, List.set_cons_succ]
    refine wpAnyH_take (i := 4) (v := .agg #[.int .u16 x, .int .u8 y, .int .u8 z, .int .u32 k]) rfl (by kernel_rfl) (by kernel_rfl) (by kernel_rfl) (fun _ _ _ h => nomatch h.1) (.inl ⟨by rfl, fun V hV => by obtain ⟨q0, q1, q2, q3⟩ := QI V hV; go_simp⟩) HS ?_
    try simp only [Act.put, List.getElem_toArray, List.getElem_cons_zero, List.getElem_cons_succ, List.setIfInBounds_toArray, List.set_cons_zero, List.set_cons_succ]
    refine wpAnyH_take (i := 5) (v := .agg (datC d)) rfl (by kernel_rfl) (by kernel_rfl) (by kernel_rfl) (fun _ _ _ h => nomatch h.1) (yieldsIf_blk (by rfl) 32 (.tmp 4) rfl w.heap.size rfl (datC d) 32 _ (fun V hV => kd.below hV kd.lt) Tryd.underlying32 rfl dat_info) HS ?_
    try simp only [Act.put, List.getElem_toArray, List.getElem_cons_zero, List.getElem_cons_succ, List.setIfInBounds_toArray, List.set_cons_zero, List.set_cons_succ]
    refine wpAnyH_take (i := 6) (v := .agg (vmC s)) rfl (by kernel_rfl) (by kernel_rfl) (by kernel_rfl) (fun _ _ _ h => nomatch h.1) (yieldsIf_blk (by rfl) 35 (.tmp 5) rfl (w.heap.size + 1) rfl (vmC s) 35 _ (fun V hV => km.below hV km.lt) Tryd.underlying35 rfl (mc_inf hok.len)) HS ?_
    try simp only [Act.put, List.getElem_toArray, List.getElem_cons_zero, List.getElem_cons_succ, List.setIfInBounds_toArray, List.set_cons_zero, List.set_cons_succ]
    refine wpAnyH_ready (rs := [7, 12]) (by kernel_rfl) (by simp) ?_
    refine AllReadyH.cons rfl (fun K hK => ?_) ?_
    · try simp only [List.getElem_toArray, List.getElem_cons_zero, List.getElem_cons_succ, List.setIfInBounds_toArray, List.set_cons_zero, List.set_cons_succ]
      go_simp
      refine (CS _ HS).mono ?_
      rintro e V1 ⟨rfl, b1⟩
      go_wp2_with fail
      refine hK.out _ _ (HS.trans (b1.mono HS.size)) (fun J1 => ?_)
      clear hK K
      try simp only [Act.put, List.getElem_toArray, List.getElem_cons_zero, List.getElem_cons_succ, List.setIfInBounds_toArray, List.set_cons_zero, List.set_cons_succ]
      refine wpAnyH_take (i := 8) (v := .tuple #[.agg (vmC s2), .int .u32 wd, .bool ov]) rfl (by kernel_rfl) (by kernel_rfl) (by kernel_rfl) (fun _ _ _ h => nomatch h.1) (.inl ⟨by rfl, fun V hV => by go_simp⟩) J1 ?_
      try simp only [Act.put, List.getElem_toArray, List.getElem_cons_zero, List.getElem_cons_succ, List.setIfInBounds_toArray, List.set_cons_zero, List.set_cons_succ]
      refine wpAnyH_take (i := 9) (v := .agg (vmC s2)) rfl (by kernel_rfl) (by kernel_rfl) (by kernel_rfl) (fun _ _ _ h => nomatch h.1) (.inl ⟨by rfl, fun V hV => by go_simp⟩) J1 ?_
      try simp only [Act.put, List.getElem_toArray, List.getElem_cons_zero, List.getElem_cons_succ, List.setIfInBounds_toArray, List.set_cons_zero, List.set_cons_succ]
      refine wpAnyH_take (i := 10) (v := .int .u32 wd) rfl (by kernel_rfl) (by kernel_rfl) (by kernel_rfl) (fun _ _ _ h => nomatch h.1) (.inl ⟨by rfl, fun V hV => by go_simp⟩) J1 ?_
      try simp only [Act.put, List.getElem_toArray, List.getElem_cons_zero, List.getElem_cons_succ, List.setIfInBounds_toArray, List.set_cons_zero, List.set_cons_succ]
      refine wpAnyH_take (i := 11) (v := .bool ov) rfl (by kernel_rfl) (by kernel_rfl) (by kernel_rfl) (fun _ _ _ h => nomatch h.1) (.inl ⟨by rfl, fun V hV => by go_simp⟩) J1 ?_
      try simp only [Act.put, List.getElem_toArray, List.getElem_cons_zero, List.getElem_cons_succ, List.setIfInBounds_toArray, List.set_cons_zero, List.set_cons_succ]
      refine wpAnyH_ready (rs := [12]) (by kernel_rfl) (by simp) ?_
      refine AllReadyH.cons rfl (fun K hK => ?_) AllReadyH.nil
      try simp only [List.getElem_toArray, List.getElem_cons_zero, List.getElem_cons_succ, List.setIfInBounds_toArray, List.set_cons_zero, List.set_cons_succ]
      go_simp
      refine hK.out _ _ (J1.alloc J1.size _) (fun J2 => ?_)
      clear hK K
      have F2 := And.intro J1.size (Blk.new V1 zerL 35)
      try simp only [Act.put, List.getElem_toArray, List.getElem_cons_zero, List.getElem_cons_succ, List.setIfInBounds_toArray, List.set_cons_zero, List.set_cons_succ]
      refine wpAnyH_ready (rs := [13]) (by kernel_rfl) (by simp) ?_
      refine AllReadyH.cons rfl (fun K hK => ?_) AllReadyH.nil
      try simp only [List.getElem_toArray, List.getElem_cons_zero, List.getElem_cons_succ, List.setIfInBounds_toArray, List.set_cons_zero, List.set_cons_succ]
      rw [if_pos (by rfl)]
      refine wp_store_blk 35 (.tmp 12) (.tmp 44) rfl _ _ (vmC s2) 35 rfl rfl F2.2 (vm_z19 ok2.len) (mc_inf ok2.len) mc_one ?_
      intro V3 F3 N3
      have G3 := F2.1
      refine hK.out _ _ (J2.trans (N3.below _ G3 J2.size)) (fun J3 => ?_)
      clear hK K
      try simp only [Act.put]
      refine wpAnyH_take (i := 14) (v := .int .u32 wd) rfl (by kernel_rfl) (by kernel_rfl) (by kernel_rfl) (fun _ _ _ h => nomatch h.1) (.inl ⟨by rfl, fun V hV => by go_simp⟩) J3 ?_
      try simp only [Act.put, List.getElem_toArray, List.getElem_cons_zero, List.getElem_cons_succ, List.setIfInBounds_toArray, List.set_cons_zero, List.set_cons_succ]
      refine wpAnyH_take (i := 15) (v := .bool ov) rfl (by kernel_rfl) (by kernel_rfl) (by kernel_rfl) (fun _ _ _ h => nomatch h.1) (.inl ⟨by rfl, fun V hV => by go_simp⟩) J3 ?_
      try simp only [Act.put, List.getElem_toArray, List.getElem_cons_zero, List.getElem_cons_succ, List.setIfInBounds_toArray, List.set_cons_zero, List.set_cons_succ]
      refine wpAnyH_done (by kernel_rfl) ?_ _
      exact ⟨rfl, _, rfl, J3, G3, F3⟩
    refine AllReadyH.cons rfl (fun K hK => ?_) AllReadyH.nil
    try simp only [List.getElem_toArray, List.getElem_cons_zero, List.getElem_cons_succ, List.setIfInBounds_toArray, List.set_cons_zero, List.set_cons_succ]
    go_simp
    refine hK.out _ _ (HS.alloc HS.size _) (fun J4 => ?_)
    clear hK K
    have F4 := And.intro HS.size (Blk.new w1.drew zerL 35)
    try simp only [Act.put, List.getElem_toArray, List.getElem_cons_zero, List.getElem_cons_succ, List.setIfInBounds_toArray, List.set_cons_zero, List.set_cons_succ]
    refine wpAnyH_ready (rs := [7]) (by kernel_rfl) (by simp) ?_
    refine AllReadyH.cons rfl (fun K hK => ?_) AllReadyH.nil
    try simp only [List.getElem_toArray, List.getElem_cons_zero, List.getElem_cons_succ, List.setIfInBounds_toArray, List.set_cons_zero, List.set_cons_succ]
    go_simp
    refine (CS _ J4).mono ?_
    rintro e V5 ⟨rfl, b5⟩
    go_wp2_with fail
    refine hK.out _ _ (J4.trans (b5.mono J4.size)) (fun J5 => ?_)
    clear hK K
    have F5 := And.intro F4.1 (F4.2.below b5 F4.2.lt)
    try simp only [Act.put, List.getElem_toArray, List.getElem_cons_zero, List.getElem_cons_succ, List.setIfInBounds_toArray, List.set_cons_zero, List.set_cons_succ]
    refine wpAnyH_take (i := 8) (v := .tuple #[.agg (vmC s2), .int .u32 wd, .bool ov]) rfl (by kernel_rfl) (by kernel_rfl) (by kernel_rfl) (fun _ _ _ h => nomatch h.1) (.inl ⟨by rfl, fun V hV => by go_simp⟩) J5 ?_
    try simp only [Act.put, List.getElem_toArray, List.getElem_cons_zero, List.getElem_cons_succ, List.setIfInBounds_toArray, List.set_cons_zero, List.set_cons_succ]
    refine wpAnyH_take (i := 9) (v := .agg (vmC s2)) rfl (by kernel_rfl) (by kernel_rfl) (by kernel_rfl) (fun _ _ _ h => nomatch h.1) (.inl ⟨by rfl, fun V hV => by go_simp⟩) J5 ?_
    try simp only [Act.put, List.getElem_toArray, List.getElem_cons_zero, List.getElem_cons_succ, List.setIfInBounds_toArray, List.set_cons_zero, List.set_cons_succ]
    refine wpAnyH_take (i := 10) (v := .int .u32 wd) rfl (by kernel_rfl) (by kernel_rfl) (by kernel_rfl) (fun _ _ _ h => nomatch h.1) (.inl ⟨by rfl, fun V hV => by go_simp⟩) J5 ?_
    try simp only [Act.put, List.getElem_toArray, List.getElem_cons_zero, List.getElem_cons_succ, List.setIfInBounds_toArray, List.set_cons_zero, List.set_cons_succ]
    refine wpAnyH_take (i := 11) (v := .bool ov) rfl (by kernel_rfl) (by kernel_rfl) (by kernel_rfl) (fun _ _ _ h => nomatch h.1) (.inl ⟨by rfl, fun V hV => by go_simp⟩) J5 ?_
    try simp only [Act.put, List.getElem_toArray, List.getElem_cons_zero, List.getElem_cons_succ, List.setIfInBounds_toArray, List.set_cons_zero, List.set_cons_succ]
    refine wpAnyH_ready (rs := [13]) (by kernel_rfl) (by simp) ?_
    refine AllReadyH.cons rfl (fun K hK => ?_) AllReadyH.nil
    try simp only [List.getElem_toArray, List.getElem_cons_zero, List.getElem_cons_succ, List.setIfInBounds_toArray, List.set_cons_zero, List.set_cons_succ]
    rw [if_pos (by rfl)]
    refine wp_store_blk 35 (.tmp 12) (.tmp 44) rfl _ _ (vmC s2) 35 rfl rfl F5.2 (vm_z19 ok2.len) (mc_inf ok2.len) mc_one ?_
    intro V6 F6 N6
    have G6 := F5.1
    refine hK.out _ _ (J5.trans (N6.below _ G6 J5.size)) (fun J6 => ?_)
    clear hK K
    try simp only [Act.put]
    refine wpAnyH_take (i := 14) (v := .int .u32 wd) rfl (by kernel_rfl) (by kernel_rfl) (by kernel_rfl) (fun _ _ _ h => nomatch h.1) (.inl ⟨by rfl, fun V hV => by go_simp⟩) J6 ?_
    try simp only [Act.put, List.getElem_toArray, List.getElem_cons_zero, List.getElem_cons_succ, List.setIfInBounds_toArray, List.set_cons_zero, List.set_cons_succ]
    refine wpAnyH_take (i := 15) (v := .bool ov) rfl (by kernel_rfl) (by kernel_rfl) (by kernel_rfl) (fun _ _ _ h => nomatch h.1) (.inl ⟨by rfl, fun V hV => by go_simp⟩) J6 ?_
    try simp only [Act.put, List.getElem_toArray, List.getElem_cons_zero, List.getElem_cons_succ, List.setIfInBounds_toArray, List.set_cons_zero, List.set_cons_succ]
    refine wpAnyH_done (by kernel_rfl) ?_ _
    exact ⟨rfl, _, rfl, J6, G6, F6⟩
  · rintro g V ⟨hV, hg, hF⟩
    rename_i K0 hK0
    refine hK0 _ _ ?_
    clear hK0 K0
    replace kz := kz.below hV kz.lt
    go_wp2_with (first
      | (refine wpList_load_row rfl 35 (.tmp 12) rfl g rfl 35 (vmC s2) (0, 0) _ hF.blk Tryd.underlying35 rfl (mc_inf ok2.len) ?_)
      | (refine wpList_store_blk rfl 35 (.tmp 6) (.tmp 47) rfl (w.heap.size + 1 + 1) _ (vmC s2) 35 rfl rfl kz (vm_z19 ok2.len) (mc_inf ok2.len) mc_one ?_; intro w9 hw9 hn9))
    refine bodyPost_ret (v := .tuple #[.agg (vmC s2), .int .u32 wd, .bool ov, .int .i64 0]) (results_row_three rfl _ _ (w.heap.size + 1 + 1) 35 (vmC s2) (0, 0) _ rfl hw9.blk Tryd.underlying35 rfl (mc_inf ok2.len) _ _ _ rfl rfl rfl) rfl ?_
    exact ⟨rfl, (B1.trans (hV.mono B1.size)).trans (hn9.below _ (by omega) (by have := hV.size; have := B1.size; omega))⟩
end Go.Proofs.YtepkhkfdokinmaaDoor
