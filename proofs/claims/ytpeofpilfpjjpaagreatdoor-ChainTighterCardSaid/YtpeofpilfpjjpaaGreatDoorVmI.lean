/-
  vm.machines: the function over which one ranges, walked.
-/
import Derived.Test.YtpeofpilfpjjpaaGreatDoorVmN
import Derived.Test.YtpeofpilfpjjpaaGreatDoorCkNext
import Derived.Test.YtpeofpilfpjjpaaGreatDoorChkP
import Derived.Maps.OwnIn
import Derived.Test.YtpeofpilfpjjpaaGreatDoorRange4
import Derived.Test.YtpeofpilfpjjpaaGreatDoorHF
namespace Go.Proofs.YtpeofpilfpjjpaaGreatDoor
open Go.RowKit Go.Shelf
attribute [local go_sem] Oper.semAt_some
set_option linter.unusedVariables false
set_option linter.unusedSimpArgs false

set_option maxHeartbeats 1000000 in
theorem machines_any (A : Option Addr) (m cap : Nat) (d : Dat) (w : World) :
    Calls Tryz.prog 101 #[.slice A m cap, datV d] w fun e w' => e = .returned (.func (.func 115) #[] #[.pointer (some ⟨w.heap.size, 0, none⟩), .pointer (some ⟨w.heap.size + 1, 0, none⟩)]) ∧ w' = (w.alloc (.cells #[.slice A m cap] 25)).alloc (.cells (datC d) 64) := by
  unfold datV
  go_enter Tryz.func101, Tryz.ntmps101
  go_wp2
  go_ret
  exact ⟨rfl, rfl⟩

theorem grownBV {W W' : World} (h : Below W.heap.size W W') : W.grownBy W' none := ⟨h.os, h.tape, h.output, h.size, fun k hk _ => h.block k hk⟩
def wdO : Option Int → Int | some r => r | none => 0
def ovO : Option Int → Bool | some _ => true | none => false
theorem stepR_eq {q : Ins} {d : Dat} {s s2 : VmS} {o : Option Int} (h : stepV alI hdI q (dW d) s = (o, s2)) : stepR q d s = .tuple #[.agg (vmC s2), .int .u32 (wdO o), .bool (ovO o)] := by
  unfold stepR
  rw [h]
  cases o <;> rfl
theorem vm_info19 : (Tryz.prog.info? 149).map (·.size) = some 19 := by kernel_rfl
def zerL : Array Value := #[.int .i64 0, .int .u32 0, .int .u32 0, .int .u32 0, .int .u32 0, .int .u32 0, .int .u32 0, .int .u32 0, .int .u32 0, .int .u32 0, .int .u32 0, .int .u32 0, .int .u32 0, .int .u32 0, .int .u32 0, .int .u32 0, .int .u32 0, .int .u32 0, .int .u32 0]
theorem vm_z19 {p a x : Int} {mem : List Int} (h : mem.length = 16) : zerL.size = (mcC p a x mem).size := by rw [mc_size h]; rfl
theorem ri_at {w V : World} {n₀ b o : Nat} {x y z k : Int} (h : Below n₀ w V) (hb : b < n₀) (c : w.cell? ⟨b, o, none⟩ = some (.int .u16 x) ∧ w.cell? ⟨b, o + 1, none⟩ = some (.int .u8 y) ∧ w.cell? ⟨b, o + 2, none⟩ = some (.int .u8 z) ∧ w.cell? ⟨b, o + 3, none⟩ = some (.int .u32 k)) :
    V.cell? ⟨b, o, none⟩ = some (.int .u16 x) ∧ V.cell? ⟨b, o + 1, none⟩ = some (.int .u8 y) ∧ V.cell? ⟨b, o + 2, none⟩ = some (.int .u8 z) ∧ V.cell? ⟨b, o + 3, none⟩ = some (.int .u32 k) :=
  ⟨(h.cell (p := ⟨b, o, none⟩) hb).trans c.1, (h.cell (p := ⟨b, o + 1, none⟩) hb).trans c.2.1, (h.cell (p := ⟨b, o + 2, none⟩) hb).trans c.2.2.1, (h.cell (p := ⟨b, o + 3, none⟩) hb).trans c.2.2.2⟩
theorem wp_sz {w : World} {g h : Nat} {cs cs' : Array Value} {t t' : TypeId} (_ : Blk w g cs t) (_ : Blk w h cs' t') : True := trivial
/-- Where a machine is. -/
def pcAt (g : Nat) (w : World) : Nat := match w.cell? ⟨g, 0, none⟩ with | some v => (intOf v).toNat | none => 0
theorem pcAt_blk {w : World} {g : Nat} {s : VmS} {t : TypeId} (h : Blk w g (vmC s) t) : pcAt g w = s.pc := by
  unfold pcAt
  rw [(h.cell 0).trans mc_0]
  simp [intOf]
/-- The iterator at a machine: what it has in memory. -/
structure MS (W V : World) (n₀ Bl Bd B4 : Nat) (A : Option Addr) (m cap : Nat) (d : Dat) (s : VmS) : Prop where
  bel : Below n₀ W V
  kl : Blk V Bl #[.slice A m cap] 25
  kd : Blk V Bd (datC d) 64
  km : Blk V B4 (vmC s) 149
section
variable {W V V' : World} {n₀ Bl Bd B4 : Nat} {A : Option Addr} {m cap : Nat} {d : Dat} {s : VmS}
theorem MS.sz (h : MS W V n₀ Bl Bd B4 A m cap d s) : W.heap.size ≤ V.heap.size := h.bel.size
theorem MS.below (h : MS W V n₀ Bl Bd B4 A m cap d s) (hn : n₀ ≤ V.heap.size) (hb : Below V.heap.size V V') : MS W V' n₀ Bl Bd B4 A m cap d s :=
  ⟨h.bel.trans (hb.mono hn), h.kl.below hb h.kl.lt, h.kd.below hb h.kd.lt, h.km.below hb h.km.lt⟩
theorem MS.keep (h : MS W V n₀ Bl Bd B4 A m cap d s) (hs : VmOk s) (hk : KeepV n₀ V V') : MS W V' n₀ Bl Bd B4 A m cap d s :=
  ⟨h.bel.trans hk.1, hk.blk h.kl (.inr (.inl rfl)), hk.blk h.kd (.inr (.inr rfl)), hk.blk h.km (.inl ⟨rfl, mc_size hs.len⟩)⟩
end

set_option maxRecDepth 100000 in
set_option maxHeartbeats 8000000 in
theorem machines_in (n : Nat) (hn : 1 ≤ n) (l n₀ Bl Bd m cap : Nat) (A : Option Addr) (f : Nat → Ins) (d : Dat) (hd : DatOk d) (hcap : m ≤ cap) (hM : May f m) (J : List (VmS × Int) → World → Prop)
    (W : World) (hn0 : n₀ ≤ W.heap.size) (h0n : 1 < n₀) (hJ : AbidesB W.heap.size J)
    (hY : ∀ pre (x : VmS × Int) W1, x.1.mem.length = 16 → J pre W1 → W.heap.size < W1.heap.size → pre.length < m → YieldAt Fence.wide (n - 1) Tryz.prog l #[vmV x.1, .int .u32 x.2] W1 fun e W' => e = .returned (.bool true) ∧ J (pre ++ [x]) W' ∧ KeepV n₀ W1 W')
    (hK : Kinds W) (bl : Blk W Bl #[.slice A m cap] 25) (bd : Blk W Bd (datC d) 64) (hA : Ri W n₀ A m f) (h0 : J [] W) :
    CallsIn Fence.wide n Tryz.prog 115 #[.func (.yield l) #[] #[], .pointer (some ⟨Bl, 0, none⟩), .pointer (some ⟨Bd, 0, none⟩)] W fun e W' => (∃ v, e = .returned v) ∧ ∃ ys, ys = allV f (dW d) m ∧ J ys W' := by
  have hm64 := hM.hi
  have hlo := hM.lo
  have hio := hA.ok
  have hne1 : Bl ≠ W.heap.size := by have := bl.lt; omega
  have hne2 : Bd ≠ W.heap.size := by have := bd.lt; omega
  refine callsIn_of_wp Tryz.func115 rfl trivial ?_ rfl
  simp only [Tryz.ntmps115, List.size_toArray, List.length_cons, List.length_nil, Nat.reduceAdd, Nat.reduceSub, Array.replicate_succ, Array.replicate_zero, List.push_toArray, List.append_toArray, List.nil_append, List.cons_append]
  refine wpIn_wide.2 ?_
  go_wp2_with (refine wpList_store_blk rfl 149 (.tmp 4) (.tmp 8) rfl W.heap.size _ _ 149 rfl rfl (Blk.new_ _ _ _ rfl) rfl vm_info19 (by simp [Value.oneCell']) ?_; intro w3 hw3 hn3)
  rw [zer_lit] at hw3
  have bW : Below W.heap.size W w3 := ((Below.refl _ W).alloc (Nat.le_refl _) _).trans (hn3.below _ (Nat.le_refl _) (by simp))
  have M0 : MS W w3 n₀ Bl Bd W.heap.size A m cap d vm0 := ⟨bW.mono hn0, bl.below bW bl.lt, bd.below bW bd.lt, hw3⟩
  have J0 := hJ _ _ _ none h0 (grownBV bW) (fun r e => by cases e)
  clear hn3 hw3 bW
  simp only [Act.put]
  generalize (Value.agg #[.int .i64 0, .int .u32 0, .int .u32 0, .int .u32 0, .int .u32 0, .int .u32 0, .int .u32 0, .int .u32 0, .int .u32 0, .int .u32 0, .int .u32 0, .int .u32 0, .int .u32 0, .int .u32 0, .int .u32 0, .int .u32 0, .int .u32 0, .int .u32 0, .int .u32 0] : Value) = z8
  refine (wpIn_wide (n := n)).1 ?_
  gi_loopw [6] (fun _ wr => ∃ (pre : List (VmS × Int)) (s : VmS), s.pc < m ∧ VmOk s ∧ pre ++ restV f (dW d) m s = allV f (dW d) m ∧ J pre wr ∧ MS W wr n₀ Bl Bd W.heap.size A m cap d s)
    (fun _ wr => m - pcAt W.heap.size wr)
  case atStart => exact ⟨[], vm0, hlo, vm0_ok, rfl, J0, M0⟩
  case round =>
    obtain ⟨pre, s, hs, hok, hpre, hJs, hMs⟩ := hrel
    have ho := hio s.pc hs
    obtain ⟨b, off, rfl, hbl, pI, _⟩ := hA s.pc hs
    have hone : oneL ((m : Int) - 1 - s.pc) (f s.pc) = 0 := hM.one s.pc hs
    have CS0 := fun V hK => step_any (f s.pc) d hd s hok (by omega) _ ho hone (by omega) V hK
    obtain ⟨⟨x, y, z, k⟩, hf⟩ : ∃ q : Ins, f s.pc = q := ⟨_, rfl⟩
    have HF := Lib.hid hf
    rw [hf] at CS0 pI hone
    obtain ⟨⟨o, s2⟩, hst⟩ : ∃ t, stepV alI hdI (x, y, z, k) (dW d) s = t := ⟨_, rfl⟩
    have ok2 : VmOk s2 := step_ok (hf ▸ ho) (fun o => dW_bd d hd o) hok hst
    have HST := Lib.hid hst
    rw [stepR_eq hst] at CS0
    obtain ⟨wd, hwd⟩ : ∃ v : Int, wdO o = v := ⟨_, rfl⟩
    obtain ⟨ov, hov⟩ : ∃ v : Bool, ovO o = v := ⟨_, rfl⟩
    rw [hwd, hov] at CS0
    have HWD := Lib.hid hwd
    have HOV := Lib.hid hov
    simp only [valI, insV, datV, vmV] at CS0
    simp only at pI
    have hspc : (s.pc : Int) < m := by omega
    have CS := fun V (hV : Below wr.heap.size wr V) => CS0 V (hK.below (hMs.bel.trans (hV.mono (Nat.le_trans hn0 (hMs.sz)))) h0n)
    have QI := fun V (hV : Below wr.heap.size wr V) => ri_at (hMs.bel.trans (hV.mono (Nat.le_trans hn0 hMs.sz))) hbl pI
    clear hf hst hwd hov CS0 hone ho
    refine wpIn_wide.2 ?_
    go_wp2_with fail
    have HS : Below wr.heap.size wr wr.drew := (Below.refl _ _).drew
    refine region_cutG (fun g => { tmps := #[.func (.yield l) #[] #[], .pointer (some ⟨Bl, 0, none⟩), .pointer (some ⟨Bd, 0, none⟩), undef, .pointer (some ⟨W.heap.size, 0, none⟩), .pointer (some ⟨g, 0, none⟩), .int .u32 wd, .bool ov, z8, .tuple #[.agg (vmC s2), .int .u32 wd, .bool ov],
       .slice (some ⟨b, off, none⟩) m cap, .pointer (some ⟨W.heap.size, 0, none⟩), .int .i64 s.pc, .pointer (some ⟨b, off + s.pc * 4, none⟩), .agg #[.int .u16 x, .int .u8 y, .int .u8 z, .int .u32 k], .agg (datC d), .agg (vmC s), .tuple #[.agg (vmC s2), .int .u32 wd, .bool ov], .agg (vmC s2), .int .u32 wd, .bool ov, u21, u22, u23, u24, u25, u26, u27, u28, u29], defers := [] })
      (fun g V => Below wr.heap.size wr V ∧ wr.heap.size ≤ g ∧ Blk V g (vmC s2) 149) ?_ ?_
    · refine wp_region_held_drew (S := fun V => Below wr.heap.size wr V) (by kernel_rfl) HS (fun _ => ?_)
      refine wpAnyH_take (i := 0) (v := .slice (some ⟨b, off, none⟩) m cap) rfl (by kernel_rfl) (by kernel_rfl) (by kernel_rfl) (fun _ _ _ h => nomatch h.1) (.inl ⟨by rfl, fun V hV => by have c := (hMs.kl.below hV hMs.kl.lt).cell 0; go_simp⟩) HS ?_
      try simp only [Act.put, List.getElem_toArray, List.getElem_cons_zero, List.getElem_cons_succ, List.setIfInBounds_toArray, List.set_cons_zero, List.set_cons_succ]
      refine wpAnyH_take (i := 1) (v := .pointer (some ⟨W.heap.size, 0, none⟩)) rfl (by kernel_rfl) (by kernel_rfl) (by kernel_rfl) (fun _ _ _ h => nomatch h.1) (.inl ⟨by rfl, fun V hV => by go_simp⟩) HS ?_
      try simp only [Act.put, List.getElem_toArray, List.getElem_cons_zero, List.getElem_cons_succ, List.setIfInBounds_toArray, List.set_cons_zero, List.set_cons_succ]
      refine wpAnyH_take (i := 2) (v := .int .i64 s.pc) rfl (by kernel_rfl) (by kernel_rfl) (by kernel_rfl) (fun _ _ _ h => nomatch h.1) (.inl ⟨by rfl, fun V hV => by have c := ((hMs.km.below hV hMs.km.lt).cell 0).trans mc_0; go_simp⟩) HS ?_
      try simp only [Act.put, List.getElem_toArray, List.getElem_cons_zero, List.getElem_cons_succ, List.setIfInBounds_toArray, List.set_cons_zero, List.set_cons_succ]
      refine wpAnyH_take (i := 3) (v := .pointer (some ⟨b, off + s.pc * 4, none⟩)) rfl (by kernel_rfl) (by kernel_rfl) (by kernel_rfl) (fun _ _ _ h => nomatch h.1) (.inl ⟨by rfl, fun V hV => by go_simp⟩) HS ?_
      try simp only [Act.put, List.getElem_toArray, List.getElem_cons_zero, List.getElem_cons_succ, List.setIfInBounds_toArray, List.set_cons_zero, List.set_cons_succ]
      refine wpAnyH_take (i := 4) (v := .agg #[.int .u16 x, .int .u8 y, .int .u8 z, .int .u32 k]) rfl (by kernel_rfl) (by kernel_rfl) (by kernel_rfl) (fun _ _ _ h => nomatch h.1) (.inl ⟨by rfl, fun V hV => by obtain ⟨q0, q1, q2, q3⟩ := QI V hV; go_simp⟩) HS ?_
      try simp only [Act.put, List.getElem_toArray, List.getElem_cons_zero, List.getElem_cons_succ, List.setIfInBounds_toArray, List.set_cons_zero, List.set_cons_succ]
      refine wpAnyH_take (i := 5) (v := .agg (datC d)) rfl (by kernel_rfl) (by kernel_rfl) (by kernel_rfl) (fun _ _ _ h => nomatch h.1) (yieldsIf_blk (by rfl) 64 (.tmp 2) rfl Bd rfl (datC d) 64 _ (fun V hV => hMs.kd.below hV hMs.kd.lt) Tryz.underlying64 rfl dat_info) HS ?_
      try simp only [Act.put, List.getElem_toArray, List.getElem_cons_zero, List.getElem_cons_succ, List.setIfInBounds_toArray, List.set_cons_zero, List.set_cons_succ]
      refine wpAnyH_take (i := 6) (v := .agg (vmC s)) rfl (by kernel_rfl) (by kernel_rfl) (by kernel_rfl) (fun _ _ _ h => nomatch h.1) (yieldsIf_blk (by rfl) 149 (.tmp 4) rfl W.heap.size rfl (vmC s) 149 _ (fun V hV => hMs.km.below hV hMs.km.lt) Tryz.underlying149 rfl (mc_inf hok.len)) HS ?_
      try simp only [Act.put, List.getElem_toArray, List.getElem_cons_zero, List.getElem_cons_succ, List.setIfInBounds_toArray, List.set_cons_zero, List.set_cons_succ]
      refine wpAnyH_ready (rs := [7, 12]) (by kernel_rfl) (by simp) ?_
      refine AllReadyH.cons rfl (fun K hK => ?_) ?_
      · try simp only [List.getElem_toArray, List.getElem_cons_zero, List.getElem_cons_succ, List.setIfInBounds_toArray, List.set_cons_zero, List.set_cons_succ]
        go_simp
        refine (CS _ HS).mono ?_
        rintro e V1 ⟨rfl, b1⟩
        go_wp2_with fail
        refine hK.out _ _ (HS.trans (b1.mono HS.size)) (fun J1 => ?_)
        clear hK K
        try simp only [Act.put, List.getElem_toArray, List.getElem_cons_zero, List.getElem_cons_succ, List.setIfInBounds_toArray, List.set_cons_zero, List.set_cons_succ]
        refine wpAnyH_take (i := 8) (v := .tuple #[.agg (vmC s2), .int .u32 wd, .bool ov]) rfl (by kernel_rfl) (by kernel_rfl) (by kernel_rfl) (fun _ _ _ h => nomatch h.1) (.inl ⟨by rfl, fun V hV => by go_simp⟩) J1 ?_
        try simp only [Act.put, List.getElem_toArray, List.getElem_cons_zero, List.getElem_cons_succ, List.setIfInBounds_toArray, List.set_cons_zero, List.set_cons_succ]
        refine wpAnyH_take (i := 9) (v := .agg (vmC s2)) rfl (by kernel_rfl) (by kernel_rfl) (by kernel_rfl) (fun _ _ _ h => nomatch h.1) (.inl ⟨by rfl, fun V hV => by go_simp⟩) J1 ?_
        try simp only [Act.put, List.getElem_toArray, List.getElem_cons_zero, List.getElem_cons_succ, List.setIfInBounds_toArray, List.set_cons_zero, List.set_cons_succ]
        refine wpAnyH_take (i := 10) (v := .int .u32 wd) rfl (by kernel_rfl) (by kernel_rfl) (by kernel_rfl) (fun _ _ _ h => nomatch h.1) (.inl ⟨by rfl, fun V hV => by go_simp⟩) J1 ?_
        try simp only [Act.put, List.getElem_toArray, List.getElem_cons_zero, List.getElem_cons_succ, List.setIfInBounds_toArray, List.set_cons_zero, List.set_cons_succ]
        refine wpAnyH_take (i := 11) (v := .bool ov) rfl (by kernel_rfl) (by kernel_rfl) (by kernel_rfl) (fun _ _ _ h => nomatch h.1) (.inl ⟨by rfl, fun V hV => by go_simp⟩) J1 ?_
        try simp only [Act.put, List.getElem_toArray, List.getElem_cons_zero, List.getElem_cons_succ, List.setIfInBounds_toArray, List.set_cons_zero, List.set_cons_succ]
        refine wpAnyH_ready (rs := [12]) (by kernel_rfl) (by simp) ?_
        refine AllReadyH.cons rfl (fun K hK => ?_) AllReadyH.nil
        try simp only [List.getElem_toArray, List.getElem_cons_zero, List.getElem_cons_succ, List.setIfInBounds_toArray, List.set_cons_zero, List.set_cons_succ]
        go_simp
        refine hK.out _ _ (J1.alloc J1.size _) (fun J2 => ?_)
        clear hK K
        have F2 := And.intro J1.size (Blk.new V1 zerL 149)
        try simp only [Act.put, List.getElem_toArray, List.getElem_cons_zero, List.getElem_cons_succ, List.setIfInBounds_toArray, List.set_cons_zero, List.set_cons_succ]
        refine wpAnyH_ready (rs := [13]) (by kernel_rfl) (by simp) ?_
        refine AllReadyH.cons rfl (fun K hK => ?_) AllReadyH.nil
        try simp only [List.getElem_toArray, List.getElem_cons_zero, List.getElem_cons_succ, List.setIfInBounds_toArray, List.set_cons_zero, List.set_cons_succ]
        rw [if_pos (by rfl)]
        refine wp_store_blk 149 (.tmp 5) (.tmp 18) rfl _ _ (vmC s2) 149 rfl rfl F2.2 (vm_z19 ok2.len) (mc_inf ok2.len) mc_one ?_
        intro V3 F3 N3
        have G3 := F2.1
        refine hK.out _ _ (J2.trans (N3.below _ G3 J2.size)) (fun J3 => ?_)
        clear hK K
        try simp only [Act.put]
        refine wpAnyH_take (i := 14) (v := .int .u32 wd) rfl (by kernel_rfl) (by kernel_rfl) (by kernel_rfl) (fun _ _ _ h => nomatch h.1) (.inl ⟨by rfl, fun V hV => by go_simp⟩) J3 ?_
        try simp only [Act.put, List.getElem_toArray, List.getElem_cons_zero, List.getElem_cons_succ, List.setIfInBounds_toArray, List.set_cons_zero, List.set_cons_succ]
        refine wpAnyH_take (i := 15) (v := .bool ov) rfl (by kernel_rfl) (by kernel_rfl) (by kernel_rfl) (fun _ _ _ h => nomatch h.1) (.inl ⟨by rfl, fun V hV => by go_simp⟩) J3 ?_
        try simp only [Act.put, List.getElem_toArray, List.getElem_cons_zero, List.getElem_cons_succ, List.setIfInBounds_toArray, List.set_cons_zero, List.set_cons_succ]
        refine wpAnyH_done (by kernel_rfl) ?_ _
        exact ⟨rfl, _, rfl, J3, G3, F3⟩
      refine AllReadyH.cons rfl (fun K hK => ?_) AllReadyH.nil
      try simp only [List.getElem_toArray, List.getElem_cons_zero, List.getElem_cons_succ, List.setIfInBounds_toArray, List.set_cons_zero, List.set_cons_succ]
      go_simp
      refine hK.out _ _ (HS.alloc HS.size _) (fun J4 => ?_)
      clear hK K
      have F4 := And.intro HS.size (Blk.new wr.drew zerL 149)
      try simp only [Act.put, List.getElem_toArray, List.getElem_cons_zero, List.getElem_cons_succ, List.setIfInBounds_toArray, List.set_cons_zero, List.set_cons_succ]
      refine wpAnyH_ready (rs := [7]) (by kernel_rfl) (by simp) ?_
      refine AllReadyH.cons rfl (fun K hK => ?_) AllReadyH.nil
      try simp only [List.getElem_toArray, List.getElem_cons_zero, List.getElem_cons_succ, List.setIfInBounds_toArray, List.set_cons_zero, List.set_cons_succ]
      go_simp
      refine (CS _ J4).mono ?_
      rintro e V5 ⟨rfl, b5⟩
      go_wp2_with fail
      refine hK.out _ _ (J4.trans (b5.mono J4.size)) (fun J5 => ?_)
      clear hK K
      have F5 := And.intro F4.1 (F4.2.below b5 F4.2.lt)
      try simp only [Act.put, List.getElem_toArray, List.getElem_cons_zero, List.getElem_cons_succ, List.setIfInBounds_toArray, List.set_cons_zero, List.set_cons_succ]
      refine wpAnyH_take (i := 8) (v := .tuple #[.agg (vmC s2), .int .u32 wd, .bool ov]) rfl (by kernel_rfl) (by kernel_rfl) (by kernel_rfl) (fun _ _ _ h => nomatch h.1) (.inl ⟨by rfl, fun V hV => by go_simp⟩) J5 ?_
      try simp only [Act.put, List.getElem_toArray, List.getElem_cons_zero, List.getElem_cons_succ, List.setIfInBounds_toArray, List.set_cons_zero, List.set_cons_succ]
      refine wpAnyH_take (i := 9) (v := .agg (vmC s2)) rfl (by kernel_rfl) (by kernel_rfl) (by kernel_rfl) (fun _ _ _ h => nomatch h.1) (.inl ⟨by rfl, fun V hV => by go_simp⟩) J5 ?_
      try simp only [Act.put, List.getElem_toArray, List.getElem_cons_zero, List.getElem_cons_succ, List.setIfInBounds_toArray, List.set_cons_zero, List.set_cons_succ]
      refine wpAnyH_take (i := 10) (v := .int .u32 wd) rfl (by kernel_rfl) (by kernel_rfl) (by kernel_rfl) (fun _ _ _ h => nomatch h.1) (.inl ⟨by rfl, fun V hV => by go_simp⟩) J5 ?_
      try simp only [Act.put, List.getElem_toArray, List.getElem_cons_zero, List.getElem_cons_succ, List.setIfInBounds_toArray, List.set_cons_zero, List.set_cons_succ]
      refine wpAnyH_take (i := 11) (v := .bool ov) rfl (by kernel_rfl) (by kernel_rfl) (by kernel_rfl) (fun _ _ _ h => nomatch h.1) (.inl ⟨by rfl, fun V hV => by go_simp⟩) J5 ?_
      try simp only [Act.put, List.getElem_toArray, List.getElem_cons_zero, List.getElem_cons_succ, List.setIfInBounds_toArray, List.set_cons_zero, List.set_cons_succ]
      refine wpAnyH_ready (rs := [13]) (by kernel_rfl) (by simp) ?_
      refine AllReadyH.cons rfl (fun K hK => ?_) AllReadyH.nil
      try simp only [List.getElem_toArray, List.getElem_cons_zero, List.getElem_cons_succ, List.setIfInBounds_toArray, List.set_cons_zero, List.set_cons_succ]
      rw [if_pos (by rfl)]
      refine wp_store_blk 149 (.tmp 5) (.tmp 18) rfl _ _ (vmC s2) 149 rfl rfl F5.2 (vm_z19 ok2.len) (mc_inf ok2.len) mc_one ?_
      intro V6 F6 N6
      have G6 := F5.1
      refine hK.out _ _ (J5.trans (N6.below _ G6 J5.size)) (fun J6 => ?_)
      clear hK K
      try simp only [Act.put]
      refine wpAnyH_take (i := 14) (v := .int .u32 wd) rfl (by kernel_rfl) (by kernel_rfl) (by kernel_rfl) (fun _ _ _ h => nomatch h.1) (.inl ⟨by rfl, fun V hV => by go_simp⟩) J6 ?_
      try simp only [Act.put, List.getElem_toArray, List.getElem_cons_zero, List.getElem_cons_succ, List.setIfInBounds_toArray, List.set_cons_zero, List.set_cons_succ]
      refine wpAnyH_take (i := 15) (v := .bool ov) rfl (by kernel_rfl) (by kernel_rfl) (by kernel_rfl) (fun _ _ _ h => nomatch h.1) (.inl ⟨by rfl, fun V hV => by go_simp⟩) J6 ?_
      try simp only [Act.put, List.getElem_toArray, List.getElem_cons_zero, List.getElem_cons_succ, List.setIfInBounds_toArray, List.set_cons_zero, List.set_cons_succ]
      refine wpAnyH_done (by kernel_rfl) ?_ _
      exact ⟨rfl, _, rfl, J6, G6, F6⟩
    · rintro g V ⟨hV, hg, hF⟩
      rename_i K0 hK0
      refine hK0 _ _ ?_
      clear hK0 K0
      refine (wpIn_wide (n := n)).1 ?_
      have hMV := hMs.below (Nat.le_trans hn0 hMs.sz) hV
      have JV := hJ _ _ _ none hJs (grownBV hV) (fun r e => by cases e)
      have hlen : pre.length < m := by
        have h1 := congrArg List.length hpre
        have h2 := all_len (f := f) (d := dW d) (n := m)
        rw [List.length_append] at h1
        have h3 : 0 < (restV f (dW d) m s).length := by
          cases hst : stepV alI hdI (f s.pc) (dW d) s with
          | mk r t => cases r with
            | some r => rw [rest_ret hs hst]; simp
            | none => rw [rest_go hM hio hs hst]; simp
        omega
      obtain ⟨fn, tmps, assign, body, hy, hR⟩ := hY pre (s, wd) _ hok.len JV hMV.km.lt hlen
      simp only [vmV] at hy
      gi_wp2_with (first
        | (refine wpListIn_load_row rfl 149 (.tmp 4) rfl W.heap.size rfl 149 (vmC s) (0, 0) _ hMV.km.blk Tryz.underlying149 rfl (mc_inf hok.len) ?_))
      refine hR.mono ?_
      rintro e W3 ⟨rfl, hJ3, hk3⟩
      · have hM3 := hMV.keep hok hk3
        have hF3 := hk3.blk hF (.inl ⟨rfl, mc_size ok2.len⟩)
        have hW3 : W.heap.size ≤ W3.heap.size := hM3.bel.size
        have sz0 := wp_sz hF3 hM3.km
        clear hR hy hJs JV hMV hF hk3 hV HS CS QI
        cases ov
        · have e0 : o = none := by
            have := HOV.out
            cases o with
            | none => rfl
            | some r => cases this
          have hst : stepV alI hdI (f s.pc) (dW d) s = (none, s2) := by rw [HF.out, HST.out, e0]
          have hw0 : wd = 0 := by rw [← HWD.out, e0]; rfl
          obtain ⟨hf1, hf2⟩ := step_fwd hM hio hs hst
          have hr := rest_go hM hio hs hst
          have HPRE := Lib.hid (show (pre ++ [(s, wd)]) ++ restV f (dW d) m s2 = allV f (dW d) m by rw [← hpre, hr, hw0]; simp)
          clear hpre hr e0 hst
          gi_wp2_with (first
            | (refine wpListIn_load_row rfl 149 (.tmp 5) rfl g rfl 149 (vmC s2) (0, 0) _ hF3.blk Tryz.underlying149 rfl (mc_inf ok2.len) ?_)
            | (refine wpListIn_store_blk rfl 149 (.tmp 4) (.tmp 29) rfl W.heap.size _ (vmC s2) 149 rfl rfl hM3.km ((mc_size hok.len).trans (mc_size ok2.len).symm) (mc_inf ok2.len) mc_one ?_; intro W4 hF4 hn4))
          have hJ4 := hJ _ _ _ (some W.heap.size) hJ3 ⟨hn4.os, hn4.tape, hn4.output, hn4.size, fun k hk hne => hn4.block k hk (fun e => hne (by rw [e]))⟩ (fun r e => by cases e; rfl)
          have hM4 : MS W W4 n₀ Bl Bd W.heap.size (some ⟨b, off, none⟩) m cap d s2 := ⟨hM3.bel.trans (hn4.below n₀ hn0 (Nat.le_trans hn0 hW3)), But.blk' hn4 hM3.kl hne1, But.blk' hn4 hM3.kd hne2, hF4⟩
          try simp only [Act.put]
          go_roundw
          case rel => exact ⟨_, _, _, _, _, _, _, _, _, _, _, _, _, _, _, _, _, _, _, _, _, _, _, _, ⟨pre ++ [(s, wd)], s2, hf2, ok2, HPRE.out, hJ4, hM4⟩, rfl⟩
          case measure =>
            rw [pcAt_blk hF4, pcAt_blk hMs.km]
            omega
        · obtain ⟨r, e0⟩ : ∃ r, o = some r := by
            have := HOV.out
            cases o with
            | none => cases this
            | some r => exact ⟨r, rfl⟩
          have hst : stepV alI hdI (f s.pc) (dW d) s = (some r, s2) := by rw [HF.out, HST.out, e0]
          have hw0 : wd = r := by rw [← HWD.out, e0]; rfl
          have hr := rest_ret hs hst
          have HPRE := Lib.hid (show pre ++ [(s, wd)] = allV f (dW d) m by rw [← hpre, hr, hw0])
          clear hpre hr e0 hst hw0
          gi_wp2
          refine bodyPost_ret (results_none rfl _ _ _) rfl ?_
          exact ⟨⟨_, rfl⟩, _, HPRE.out, hJ3⟩

theorem machines_seq (n : Nat) (hn : 1 ≤ n) (n₀ Bl Bd m cap : Nat) (A : Option Addr) (f : Nat → Ins) (d : Dat) (hd : DatOk d) (hcap : m ≤ cap) (hM : May f m) (w : World) (hn0 : n₀ ≤ w.heap.size) (h0n : 1 < n₀) (hK : Kinds w)
    (bl : Blk w Bl #[.slice A m cap] 25) (bd : Blk w Bd (datC d) 64) (hA : Ri w n₀ A m f) :
    SeqOwn Fence.wide n Tryz.prog 115 #[.pointer (some ⟨Bl, 0, none⟩), .pointer (some ⟨Bd, 0, none⟩)] (fun x : VmS × Int => #[vmV x.1, .int .u32 x.2]) (KeepV n₀) (fun ys => ys = allV f (dW d) m) m w :=
  fun l J W hW hJ hY h0 => machines_in n hn l n₀ Bl Bd m cap A f d hd hcap hM J W (Nat.le_trans hn0 hW.size) h0n hJ (fun pre x W1 _ => hY pre x W1) (hK.below hW (by omega)) (bl.below hW bl.lt) (bd.below hW bd.lt) (hA.below hW hn0) h0

/-- A machine of sixteen words, and what its step returns. -/
abbrev VmX := { x : VmS × Int // x.1.mem.length = 16 }
theorem machines_seq16 (n : Nat) (hn : 1 ≤ n) (n₀ Bl Bd m cap : Nat) (A : Option Addr) (f : Nat → Ins) (d : Dat) (hd : DatOk d) (hcap : m ≤ cap) (hM : May f m) (w : World) (hn0 : n₀ ≤ w.heap.size) (h0n : 1 < n₀) (hK : Kinds w)
    (bl : Blk w Bl #[.slice A m cap] 25) (bd : Blk w Bd (datC d) 64) (hA : Ri w n₀ A m f) :
    SeqOwn Fence.wide n Tryz.prog 115 #[.pointer (some ⟨Bl, 0, none⟩), .pointer (some ⟨Bd, 0, none⟩)] (fun x : VmX => #[vmV x.val.1, .int .u32 x.val.2]) (KeepV n₀) (fun ys => ys.map (·.val) = allV f (dW d) m) m w :=
  fun l J W hW hJ hY h0 => by
    refine (machines_in n hn l n₀ Bl Bd m cap A f d hd hcap hM (fun pre W => ∃ p : List VmX, p.map (·.val) = pre ∧ J p W) W (Nat.le_trans hn0 hW.size) h0n ?_ ?_ (hK.below hW (by omega)) (bl.below hW bl.lt) (bd.below hW bd.lt) (hA.below hW hn0) ⟨[], rfl, h0⟩).mono ?_
    · rintro s V V' row ⟨p, hp, hj⟩ hg hr
      exact ⟨p, hp, hJ _ _ _ _ hj hg hr⟩
    · rintro pre x W1 hx ⟨p, rfl, hj⟩ hlt hlen
      obtain ⟨fn, tmps, assign, body, hy, hR⟩ := hY p ⟨x, hx⟩ W1 hj hlt (by simpa using hlen)
      refine ⟨fn, tmps, assign, body, hy, hR.mono ?_⟩
      rintro e W2 ⟨he, hj2, hk⟩
      exact ⟨he, ⟨p ++ [⟨x, hx⟩], by simp, hj2⟩, hk⟩
    · rintro e W1 ⟨hv, ys, hys, p, hp, hj⟩
      exact ⟨hv, p, hp.trans hys, hj⟩
end Go.Proofs.YtpeofpilfpjjpaaGreatDoor
