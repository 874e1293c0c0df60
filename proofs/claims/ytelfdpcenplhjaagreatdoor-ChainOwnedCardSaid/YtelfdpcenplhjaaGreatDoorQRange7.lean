/-
  Range over a function that lays whatever blocks of its own and turns those alone; no round leaves the loop.
-/
import Derived.Test.YtelfdpcenplhjaaGreatDoorQVmN
import Derived.Test.YtelfdpcenplhjaaGreatDoorQRange4
import Derived.Test.YtelfdpcenplhjaaGreatDoorQHE
import Derived.Maps.OwnIn
import Derived.Test.YtelfdpcenplhjaaGreatDoorQCkCheck
import Derived.Maps.AppendAt
import Derived.Deep.MidRow
import Derived.Test.YtelfdpcenplhjaaGreatDoorQHD
import Derived.IntWalk
import Derived.Outline
import Derived.Test.YtelfdpcenplhjaaGreatDoorQHH
import Derived.BigQuiet
import Derived.RangeFuncWrites
namespace Go.Proofs.YtelfdpcenplhjaaGreatDoor
open Go.RowKit Go.Shelf
attribute [local go_sem] Oper.semAt_some
set_option linter.unusedVariables false
set_option linter.unusedSimpArgs false
set_option maxHeartbeats 1000000 in
theorem machines_any (A : Option Addr) (m cap : Nat) (d : Dat) (w : World) :
    Calls Tryz.prog 101 #[.slice A m cap, datV d] w fun e w' => e = .returned (.func (.func 115) #[] #[.pointer (some ⟨w.heap.size, 0, none⟩), .pointer (some ⟨w.heap.size + 1, 0, none⟩)]) ∧ w' = (w.alloc (.cells #[.slice A m cap] 25)).alloc (.cells (datC d) 64) := by
  unfold datV
  go_enter Tryz.func101, Tryz.ntmps101
  go_wp2
  go_ret
  exact ⟨rfl, rfl⟩
theorem grownBV {W W' : World} (h : Below W.heap.size W W') : W.grownBy W' none := ⟨h.os, h.tape, h.output, h.size, fun k hk _ => h.block k hk⟩
def wdO : Option Int → Int | some r => r | none => 0
def ovO : Option Int → Bool | some _ => true | none => false
theorem stepR_eq {q : Ins} {d : Dat} {s s2 : VmS} {o : Option Int} (h : stepV alI hdI q (dW d) s = (o, s2)) : stepR q d s = .tuple #[.agg (vmC s2), .int .u32 (wdO o), .bool (ovO o)] := by
  unfold stepR
  rw [h]
  cases o <;> rfl
theorem vm_info19 : (Tryz.prog.info? 149).map (·.size) = some 19 := by kernel_rfl
def zerL : Array Value := #[.int .i64 0, .int .u32 0, .int .u32 0, .int .u32 0, .int .u32 0, .int .u32 0, .int .u32 0, .int .u32 0, .int .u32 0, .int .u32 0, .int .u32 0, .int .u32 0, .int .u32 0, .int .u32 0, .int .u32 0, .int .u32 0, .int .u32 0, .int .u32 0, .int .u32 0]
theorem vm_z19 {p a x : Int} {mem : List Int} (h : mem.length = 16) : zerL.size = (mcC p a x mem).size := by rw [mc_size h]; rfl
theorem ri_at {w V : World} {n₀ b o : Nat} {x y z k : Int} (h : Below n₀ w V) (hb : b < n₀) (c : w.cell? ⟨b, o, none⟩ = some (.int .u16 x) ∧ w.cell? ⟨b, o + 1, none⟩ = some (.int .u8 y) ∧ w.cell? ⟨b, o + 2, none⟩ = some (.int .u8 z) ∧ w.cell? ⟨b, o + 3, none⟩ = some (.int .u32 k)) :
    V.cell? ⟨b, o, none⟩ = some (.int .u16 x) ∧ V.cell? ⟨b, o + 1, none⟩ = some (.int .u8 y) ∧ V.cell? ⟨b, o + 2, none⟩ = some (.int .u8 z) ∧ V.cell? ⟨b, o + 3, none⟩ = some (.int .u32 k) :=
  ⟨(h.cell (p := ⟨b, o, none⟩) hb).trans c.1, (h.cell (p := ⟨b, o + 1, none⟩) hb).trans c.2.1, (h.cell (p := ⟨b, o + 2, none⟩) hb).trans c.2.2.1, (h.cell (p := ⟨b, o + 3, none⟩) hb).trans c.2.2.2⟩
theorem wp_sz {w : World} {g h : Nat} {cs cs' : Array Value} {t t' : TypeId} (_ : Blk w g cs t) (_ : Blk w h cs' t') : True := trivial
def pcAt (g : Nat) (w : World) : Nat := match w.cell? ⟨g, 0, none⟩ with | some v => (intOf v).toNat | none => 0
theorem pcAt_blk {w : World} {g : Nat} {s : VmS} {t : TypeId} (h : Blk w g (vmC s) t) : pcAt g w = s.pc := by
  unfold pcAt
  rw [(h.cell 0).trans mc_0]
  simp [intOf]
structure MS (W V : World) (n₀ Bl Bd B4 : Nat) (A : Option Addr) (m cap : Nat) (d : Dat) (s : VmS) : Prop where
  bel : Below n₀ W V
  kl : Blk V Bl #[.slice A m cap] 25
  kd : Blk V Bd (datC d) 64
  km : Blk V B4 (vmC s) 149
section
variable {W V V' : World} {n₀ Bl Bd B4 : Nat} {A : Option Addr} {m cap : Nat} {d : Dat} {s : VmS}
theorem MS.sz (h : MS W V n₀ Bl Bd B4 A m cap d s) : W.heap.size ≤ V.heap.size := h.bel.size
theorem MS.below (h : MS W V n₀ Bl Bd B4 A m cap d s) (hn : n₀ ≤ V.heap.size) (hb : Below V.heap.size V V') : MS W V' n₀ Bl Bd B4 A m cap d s :=
  ⟨h.bel.trans (hb.mono hn), h.kl.below hb h.kl.lt, h.kd.below hb h.kd.lt, h.km.below hb h.km.lt⟩
theorem MS.keep (h : MS W V n₀ Bl Bd B4 A m cap d s) (hs : VmOk s) (hk : KeepV n₀ V V') : MS W V' n₀ Bl Bd B4 A m cap d s :=
  ⟨h.bel.trans hk.1, hk.blk h.kl (.inr (.inl rfl)), hk.blk h.kd (.inr (.inr rfl)), hk.blk h.km (.inl ⟨rfl, mc_size hs.len⟩)⟩
end
set_option maxRecDepth 100000 in
set_option maxHeartbeats 8000000 in
theorem machines_in (n : Nat) (hn : 1 ≤ n) (l n₀ Bl Bd m cap : Nat) (A : Option Addr) (f : Nat → Ins) (d : Dat) (hd : DatOk d) (hcap : m ≤ cap) (hM : May f m) (J : List (VmS × Int) → World → Prop)
    (W : World) (hn0 : n₀ ≤ W.heap.size) (h0n : 1 < n₀) (hJ : AbidesB W.heap.size J)
    (hY : ∀ pre (x : VmS × Int) W1, x.1.mem.length = 16 → J pre W1 → W.heap.size < W1.heap.size → pre.length < m → YieldAt Fence.wide (n - 1) Tryz.prog l #[vmV x.1, .int .u32 x.2] W1 fun e W' => e = .returned (.bool true) ∧ J (pre ++ [x]) W' ∧ KeepV n₀ W1 W')
    (hK : Kinds W) (bl : Blk W Bl #[.slice A m cap] 25) (bd : Blk W Bd (datC d) 64) (hA : Ri W n₀ A m f) (h0 : J [] W) :
    CallsIn Fence.wide n Tryz.prog 115 #[.func (.yield l) #[] #[], .pointer (some ⟨Bl, 0, none⟩), .pointer (some ⟨Bd, 0, none⟩)] W fun e W' => (∃ v, e = .returned v) ∧ ∃ ys, ys = allV f (dW d) m ∧ J ys W' := by
  have hm64 := hM.hi
  have hlo := hM.lo
  have hio := hA.ok
  have hne1 : Bl ≠ W.heap.size := by have := bl.lt; omega
  have hne2 : Bd ≠ W.heap.size := by have := bd.lt; omega
  refine callsIn_of_wp Tryz.func115 rfl trivial ?_ rfl
  simp only [Tryz.ntmps115, List.size_toArray, List.length_cons, List.length_nil, Nat.reduceAdd, Nat.reduceSub, Array.replicate_succ, Array.replicate_zero, List.push_toArray, List.append_toArray, List.nil_append, List.cons_append]
  refine wpIn_wide.2 ?_
  go_wp2_with (refine wpList_store_blk rfl 149 (.tmp 4) (.tmp 8) rfl W.heap.size _ _ 149 rfl rfl (Blk.new_ _ _ _ rfl) rfl vm_info19 (by simp [Value.oneCell']) ?_; intro w3 hw3 hn3)
  rw [zer_lit] at hw3
  have bW : Below W.heap.size W w3 := ((Below.refl _ W).alloc (Nat.le_refl _) _).trans (hn3.below _ (Nat.le_refl _) (by simp))
  have M0 : MS W w3 n₀ Bl Bd W.heap.size A m cap d vm0 := ⟨bW.mono hn0, bl.below bW bl.lt, bd.below bW bd.lt, hw3⟩
  have J0 := hJ _ _ _ none h0 (grownBV bW) (fun r e => by cases e)
  clear hn3 hw3 bW
  simp only [Act.put]
  generalize (Value.agg #[.int .i64 0, .int .u32 0, .int .u32 0, .int .u32 0, .int .u32 0, .int .u32 0, .int .u32 0, .int .u32 0, .int .u32 0, .int .u32 0, .int .u32 0, .int .u32 0, .int .u32 0, .int .u32 0, .int .u32 0, .int .u32 0, .int .u32 0, .int .u32 0, .int .u32 0] : Value) = z8
  refine (wpIn_wide (n := n)).1 ?_
  gi_loopw [6] (fun _ wr => ∃ (pre : List (VmS × Int)) (s : VmS), s.pc < m ∧ VmOk s ∧ pre ++ restV f (dW d) m s = allV f (dW d) m ∧ J pre wr ∧ MS W wr n₀ Bl Bd W.heap.size A m cap d s)
    (fun _ wr => m - pcAt W.heap.size wr)
  case atStart => exact ⟨[], vm0, hlo, vm0_ok, rfl, J0, M0⟩
  case round =>
    obtain ⟨pre, s, hs, hok, hpre, hJs, hMs⟩ := hrel
    have ho := hio s.pc hs
    obtain ⟨b, off, rfl, hbl, pI, _⟩ := hA s.pc hs
    have hone : oneL ((m : Int) - 1 - s.pc) (f s.pc) = 0 := hM.one s.pc hs
    have CS0 := fun V hK => step_any (f s.pc) d hd s hok (by omega) _ ho hone (by omega) V hK
    obtain ⟨⟨x, y, z, k⟩, hf⟩ : ∃ q : Ins, f s.pc = q := ⟨_, rfl⟩
    have HF := Lib.hid hf
    rw [hf] at CS0 pI hone
    obtain ⟨⟨o, s2⟩, hst⟩ : ∃ t, stepV alI hdI (x, y, z, k) (dW d) s = t := ⟨_, rfl⟩
    have ok2 : VmOk s2 := step_ok (hf ▸ ho) (fun o => dW_bd d hd o) hok hst
    have HST := Lib.hid hst
    rw [stepR_eq hst] at CS0
    obtain ⟨wd, hwd⟩ : ∃ v : Int, wdO o = v := ⟨_, rfl⟩
    obtain ⟨ov, hov⟩ : ∃ v : Bool, ovO o = v := ⟨_, rfl⟩
    rw [hwd, hov] at CS0
    have HWD := Lib.hid hwd
    have HOV := Lib.hid hov
    simp only [valI, insV, datV, vmV] at CS0
    simp only at pI
    have hspc : (s.pc : Int) < m := by omega
    have CS := fun V (hV : Below wr.heap.size wr V) => CS0 V (hK.below (hMs.bel.trans (hV.mono (Nat.le_trans hn0 (hMs.sz)))) h0n)
    have QI := fun V (hV : Below wr.heap.size wr V) => ri_at (hMs.bel.trans (hV.mono (Nat.le_trans hn0 hMs.sz))) hbl pI
    clear hf hst hwd hov CS0 hone ho
    refine wpIn_wide.2 ?_
    go_wp2_with fail
    have HS : Below wr.heap.size wr wr.drew := (Below.refl _ _).drew
    refine region_cutG (fun g => { tmps := #[.func (.yield l) #[] #[], .pointer (some ⟨Bl, 0, none⟩), .pointer (some ⟨Bd, 0, none⟩), undef, .pointer (some ⟨W.heap.size, 0, none⟩), .pointer (some ⟨g, 0, none⟩), .int .u32 wd, .bool ov, z8, .tuple #[.agg (vmC s2), .int .u32 wd, .bool ov],
       .slice (some ⟨b, off, none⟩) m cap, .pointer (some ⟨W.heap.size, 0, none⟩), .int .i64 s.pc, .pointer (some ⟨b, off + s.pc * 4, none⟩), .agg #[.int .u16 x, .int .u8 y, .int .u8 z, .int .u32 k], .agg (datC d), .agg (vmC s), .tuple #[.agg (vmC s2), .int .u32 wd, .bool ov], .agg (vmC s2), .int .u32 wd, .bool ov, u21, u22, u23, u24, u25, u26, u27, u28, u29], defers := [] })
      (fun g V => Below wr.heap.size wr V ∧ wr.heap.size ≤ g ∧ Blk V g (vmC s2) 149) ?_ ?_
    · refine wp_region_held_drew (S := fun V => Below wr.heap.size wr V) (by kernel_rfl) HS (fun _ => ?_)
      refine wpAnyH_take (i := 0) (v := .slice (some ⟨b, off, none⟩) m cap) rfl (by kernel_rfl) (by kernel_rfl) (by kernel_rfl) (fun _ _ _ h => nomatch h.1) (.inl ⟨by rfl, fun V hV => by have c := (hMs.kl.below hV hMs.kl.lt).cell 0; go_simp⟩) HS ?_
      try simp only [Act.put, List.getElem_toArray, List.getElem_cons_zero, List.getElem_cons_succ, List.setIfInBounds_toArray, List.set_cons_zero, List.set_cons_succ]
      refine wpAnyH_take (i := 1) (v := .pointer (some ⟨W.heap.size, 0, none⟩)) rfl (by kernel_rfl) (by kernel_rfl) (by kernel_rfl) (fun _ _ _ h => nomatch h.1) (.inl ⟨by rfl, fun V hV => by go_simp⟩) HS ?_
      try simp only [Act.put, List.getElem_toArray, List.getElem_cons_zero, List.getElem_cons_succ, List.setIfInBounds_toArray, List.set_cons_zero, List.set_cons_succ]
      refine wpAnyH_take (i := 2) (v := .int .i64 s.pc) rfl (by kernel_rfl) (by kernel_rfl) (by kernel_rfl) (fun _ _ _ h => nomatch h.1) (.inl ⟨by rfl, fun V hV => by have c := ((hMs.km.below hV hMs.km.lt).cell 0).trans mc_0; go_simp⟩) HS ?_
      try simp only [Act.put, List.getElem_toArray, List.getElem_cons_zero, List.getElem_cons_succ, List.setIfInBounds_toArray, List.set_cons_zero, List.set_cons_succ]
      refine wpAnyH_take (i := 3) (v := .pointer (some ⟨b, off + s.pc * 4, none⟩)) rfl (by kernel_rfl) (by kernel_rfl) (by kernel_rfl) (fun _ _ _ h => nomatch h.1) (.inl ⟨by rfl, fun V hV => by go_simp⟩) HS ?_
      try simp only [Act.put, List.getElem_toArray, List.getElem_cons_zero, List.getElem_cons_succ, List.setIfInBounds_toArray, List.set_cons_zero, List.set_cons_succ]
      refine wpAnyH_take (i := 4) (v := .agg #[.int .u16 x, .int .u8 y, .int .u8 z, .int .u32 k]) rfl (by kernel_rfl) (by kernel_rfl) (by kernel_rfl) (fun _ _ _ h => nomatch h.1) (.inl ⟨by rfl, fun V hV => by obtain ⟨q0, q1, q2, q3⟩ := QI V hV; go_simp⟩) HS ?_
      try simp only [Act.put, List.getElem_toArray, List.getElem_cons_zero, List.getElem_cons_succ, List.setIfInBounds_toArray, List.set_cons_zero, List.set_cons_succ]
      refine wpAnyH_take (i := 5) (v := .agg (datC d)) rfl (by kernel_rfl) (by kernel_rfl) (by kernel_rfl) (fun _ _ _ h => nomatch h.1) (yieldsIf_blk (by rfl) 64 (.tmp 2) rfl Bd rfl (datC d) 64 _ (fun V hV => hMs.kd.below hV hMs.kd.lt) Tryz.underlying64 rfl dat_info) HS ?_
      try simp only [Act.put, List.getElem_toArray, List.getElem_cons_zero, List.getElem_cons_succ, List.setIfInBounds_toArray, List.set_cons_zero, List.set_cons_succ]
      refine wpAnyH_take (i := 6) (v := .agg (vmC s)) rfl (by kernel_rfl) (by kernel_rfl) (by kernel_rfl) (fun _ _ _ h => nomatch h.1) (yieldsIf_blk (by rfl) 149 (.tmp 4) rfl W.heap.size rfl (vmC s) 149 _ (fun V hV => hMs.km.below hV hMs.km.lt) Tryz.underlying149 rfl (mc_inf hok.len)) HS ?_
      try simp only [Act.put, List.getElem_toArray, List.getElem_cons_zero, List.getElem_cons_succ, List.setIfInBounds_toArray, List.set_cons_zero, List.set_cons_succ]
      refine wpAnyH_ready (rs := [7, 12]) (by kernel_rfl) (by simp) ?_
      refine AllReadyH.cons rfl (fun K hK => ?_) ?_
      · try simp only [List.getElem_toArray, List.getElem_cons_zero, List.getElem_cons_succ, List.setIfInBounds_toArray, List.set_cons_zero, List.set_cons_succ]
        go_simp
        refine (CS _ HS).mono ?_
        rintro e V1 ⟨rfl, b1⟩
        go_wp2_with fail
        refine hK.out _ _ (HS.trans (b1.mono HS.size)) (fun J1 => ?_)
        clear hK K
        try simp only [Act.put, List.getElem_toArray, List.getElem_cons_zero, List.getElem_cons_succ, List.setIfInBounds_toArray, List.set_cons_zero, List.set_cons_succ]
        refine wpAnyH_take (i := 8) (v := .tuple #[.agg (vmC s2), .int .u32 wd, .bool ov]) rfl (by kernel_rfl) (by kernel_rfl) (by kernel_rfl) (fun _ _ _ h => nomatch h.1) (.inl ⟨by rfl, fun V hV => by go_simp⟩) J1 ?_
        try simp only [Act.put, List.getElem_toArray, List.getElem_cons_zero, List.getElem_cons_succ, List.setIfInBounds_toArray, List.set_cons_zero, List.set_cons_succ]
        refine wpAnyH_take (i := 9) (v := .agg (vmC s2)) rfl (by kernel_rfl) (by kernel_rfl) (by kernel_rfl) (fun _ _ _ h => nomatch h.1) (.inl ⟨by rfl, fun V hV => by go_simp⟩) J1 ?_
        try simp only [Act.put, List.getElem_toArray, List.getElem_cons_zero, List.getElem_cons_succ, List.setIfInBounds_toArray, List.set_cons_zero, List.set_cons_succ]
        refine wpAnyH_take (i := 10) (v := .int .u32 wd) rfl (by kernel_rfl) (by kernel_rfl) (by kernel_rfl) (fun _ _ _ h => nomatch h.1) (.inl ⟨by rfl, fun V hV => by go_simp⟩) J1 ?_
        try simp only [Act.put, List.getElem_toArray, List.getElem_cons_zero, List.getElem_cons_succ, List.setIfInBounds_toArray, List.set_cons_zero, List.set_cons_succ]
        refine wpAnyH_take (i := 11) (v := .bool ov) rfl (by kernel_rfl) (by kernel_rfl) (by kernel_rfl) (fun _ _ _ h => nomatch h.1) (.inl ⟨by rfl, fun V hV => by go_simp⟩) J1 ?_
        try simp only [Act.put, List.getElem_toArray, List.getElem_cons_zero, List.getElem_cons_succ, List.setIfInBounds_toArray, List.set_cons_zero, List.set_cons_succ]
        refine wpAnyH_ready (rs := [12]) (by kernel_rfl) (by simp) ?_
        refine AllReadyH.cons rfl (fun K hK => ?_) AllReadyH.nil
        try simp only [List.getElem_toArray, List.getElem_cons_zero, List.getElem_cons_succ, List.setIfInBounds_toArray, List.set_cons_zero, List.set_cons_succ]
        go_simp
        refine hK.out _ _ (J1.alloc J1.size _) (fun J2 => ?_)
        clear hK K
        have F2 := And.intro J1.size (Blk.new V1 zerL 149)
        try simp only [Act.put, List.getElem_toArray, List.getElem_cons_zero, List.getElem_cons_succ, List.setIfInBounds_toArray, List.set_cons_zero, List.set_cons_succ]
        refine wpAnyH_ready (rs := [13]) (by kernel_rfl) (by simp) ?_
        refine AllReadyH.cons rfl (fun K hK => ?_) AllReadyH.nil
        try simp only [List.getElem_toArray, List.getElem_cons_zero, List.getElem_cons_succ, List.setIfInBounds_toArray, List.set_cons_zero, List.set_cons_succ]
        rw [if_pos (by rfl)]
        refine wp_store_blk 149 (.tmp 5) (.tmp 18) rfl _ _ (vmC s2) 149 rfl rfl F2.2 (vm_z19 ok2.len) (mc_inf ok2.len) mc_one ?_
        intro V3 F3 N3
        have G3 := F2.1
        refine hK.out _ _ (J2.trans (N3.below _ G3 J2.size)) (fun J3 => ?_)
        clear hK K
        try simp only [Act.put]
        refine wpAnyH_take (i := 14) (v := .int .u32 wd) rfl (by kernel_rfl) (by kernel_rfl) (by kernel_rfl) (fun _ _ _ h => nomatch h.1) (.inl ⟨by rfl, fun V hV => by go_simp⟩) J3 ?_
        try simp only [Act.put, List.getElem_toArray, List.getElem_cons_zero, List.getElem_cons_succ, List.setIfInBounds_toArray, List.set_cons_zero, List.set_cons_succ]
        refine wpAnyH_take (i := 15) (v := .bool ov) rfl (by kernel_rfl) (by kernel_rfl) (by kernel_rfl) (fun _ _ _ h => nomatch h.1) (.inl ⟨by rfl, fun V hV => by go_simp⟩) J3 ?_
        try simp only [Act.put, List.getElem_toArray, List.getElem_cons_zero, List.getElem_cons_succ, List.setIfInBounds_toArray, List.set_cons_zero, List.set_cons_succ]
        refine wpAnyH_done (by kernel_rfl) ?_ _
        exact ⟨rfl, _, rfl, J3, G3, F3⟩
      refine AllReadyH.cons rfl (fun K hK => ?_) AllReadyH.nil
      try simp only [List.getElem_toArray, List.getElem_cons_zero, List.getElem_cons_succ, List.setIfInBounds_toArray, List.set_cons_zero, List.set_cons_succ]
      go_simp
      refine hK.out _ _ (HS.alloc HS.size _) (fun J4 => ?_)
      clear hK K
      have F4 := And.intro HS.size (Blk.new wr.drew zerL 149)
      try simp only [Act.put, List.getElem_toArray, List.getElem_cons_zero, List.getElem_cons_succ, List.setIfInBounds_toArray, List.set_cons_zero, List.set_cons_succ]
      refine wpAnyH_ready (rs := [7]) (by kernel_rfl) (by simp) ?_
      refine AllReadyH.cons rfl (fun K hK => ?_) AllReadyH.nil
      try simp only [List.getElem_toArray, List.getElem_cons_zero, List.getElem_cons_succ, List.setIfInBounds_toArray, List.set_cons_zero, List.set_cons_succ]
      go_simp
      refine (CS _ J4).mono ?_
      rintro e V5 ⟨rfl, b5⟩
      go_wp2_with fail
      refine hK.out _ _ (J4.trans (b5.mono J4.size)) (fun J5 => ?_)
      clear hK K
      have F5 := And.intro F4.1 (F4.2.below b5 F4.2.lt)
      try simp only [Act.put, List.getElem_toArray, List.getElem_cons_zero, List.getElem_cons_succ, List.setIfInBounds_toArray, List.set_cons_zero, List.set_cons_succ]
      refine wpAnyH_take (i := 8) (v := .tuple #[.agg (vmC s2), .int .u32 wd, .bool ov]) rfl (by kernel_rfl) (by kernel_rfl) (by kernel_rfl) (fun _ _ _ h => nomatch h.1) (.inl ⟨by rfl, fun V hV => by go_simp⟩) J5 ?_
      try simp only [Act.put, List.getElem_toArray, List.getElem_cons_zero, List.getElem_cons_succ, List.setIfInBounds_toArray, List.set_cons_zero, List.set_cons_succ]
      refine wpAnyH_take (i := 9) (v := .agg (vmC s2)) rfl (by kernel_rfl) (by kernel_rfl) (by kernel_rfl) (fun _ _ _ h => nomatch h.1) (.inl ⟨by rfl, fun V hV => by go_simp⟩) J5 ?_
      try simp only [Act.put, List.getElem_toArray, List.getElem_cons_zero, List.getElem_cons_succ, List.setIfInBounds_toArray, List.set_cons_zero, List.set_cons_succ]
      refine wpAnyH_take (i := 10) (v := .int .u32 wd) rfl (by kernel_rfl) (by kernel_rfl) (by kernel_rfl) (fun _ _ _ h => nomatch h.1) (.inl ⟨by rfl, fun V hV => by go_simp⟩) J5 ?_
      try simp only [Act.put, List.getElem_toArray, List.getElem_cons_zero, List.getElem_cons_succ, List.setIfInBounds_toArray, List.set_cons_zero, List.set_cons_succ]
      refine wpAnyH_take (i := 11) (v := .bool ov) rfl (by kernel_rfl) (by kernel_rfl) (by kernel_rfl) (fun _ _ _ h => nomatch h.1) (.inl ⟨by rfl, fun V hV => by go_simp⟩) J5 ?_
      try simp only [Act.put, List.getElem_toArray, List.getElem_cons_zero, List.getElem_cons_succ, List.setIfInBounds_toArray, List.set_cons_zero, List.set_cons_succ]
      refine wpAnyH_ready (rs := [13]) (by kernel_rfl) (by simp) ?_
      refine AllReadyH.cons rfl (fun K hK => ?_) AllReadyH.nil
      try simp only [List.getElem_toArray, List.getElem_cons_zero, List.getElem_cons_succ, List.setIfInBounds_toArray, List.set_cons_zero, List.set_cons_succ]
      rw [if_pos (by rfl)]
      refine wp_store_blk 149 (.tmp 5) (.tmp 18) rfl _ _ (vmC s2) 149 rfl rfl F5.2 (vm_z19 ok2.len) (mc_inf ok2.len) mc_one ?_
      intro V6 F6 N6
      have G6 := F5.1
      refine hK.out _ _ (J5.trans (N6.below _ G6 J5.size)) (fun J6 => ?_)
      clear hK K
      try simp only [Act.put]
      refine wpAnyH_take (i := 14) (v := .int .u32 wd) rfl (by kernel_rfl) (by kernel_rfl) (by kernel_rfl) (fun _ _ _ h => nomatch h.1) (.inl ⟨by rfl, fun V hV => by go_simp⟩) J6 ?_
      try simp only [Act.put, List.getElem_toArray, List.getElem_cons_zero, List.getElem_cons_succ, List.setIfInBounds_toArray, List.set_cons_zero, List.set_cons_succ]
      refine wpAnyH_take (i := 15) (v := .bool ov) rfl (by kernel_rfl) (by kernel_rfl) (by kernel_rfl) (fun _ _ _ h => nomatch h.1) (.inl ⟨by rfl, fun V hV => by go_simp⟩) J6 ?_
      try simp only [Act.put, List.getElem_toArray, List.getElem_cons_zero, List.getElem_cons_succ, List.setIfInBounds_toArray, List.set_cons_zero, List.set_cons_succ]
      refine wpAnyH_done (by kernel_rfl) ?_ _
      exact ⟨rfl, _, rfl, J6, G6, F6⟩
    · rintro g V ⟨hV, hg, hF⟩
      rename_i K0 hK0
      refine hK0 _ _ ?_
      clear hK0 K0
      refine (wpIn_wide (n := n)).1 ?_
      have hMV := hMs.below (Nat.le_trans hn0 hMs.sz) hV
      have JV := hJ _ _ _ none hJs (grownBV hV) (fun r e => by cases e)
      have hlen : pre.length < m := by
        have h1 := congrArg List.length hpre
        have h2 := all_len (f := f) (d := dW d) (n := m)
        rw [List.length_append] at h1
        have h3 : 0 < (restV f (dW d) m s).length := by
          cases hst : stepV alI hdI (f s.pc) (dW d) s with
          | mk r t => cases r with
            | some r => rw [rest_ret hs hst]; simp
            | none => rw [rest_go hM hio hs hst]; simp
        omega
      obtain ⟨fn, tmps, assign, body, hy, hR⟩ := hY pre (s, wd) _ hok.len JV hMV.km.lt hlen
      simp only [vmV] at hy
      gi_wp2_with (first
        | (refine wpListIn_load_row rfl 149 (.tmp 4) rfl W.heap.size rfl 149 (vmC s) (0, 0) _ hMV.km.blk Tryz.underlying149 rfl (mc_inf hok.len) ?_))
      refine hR.mono ?_
      rintro e W3 ⟨rfl, hJ3, hk3⟩
      · have hM3 := hMV.keep hok hk3
        have hF3 := hk3.blk hF (.inl ⟨rfl, mc_size ok2.len⟩)
        have hW3 : W.heap.size ≤ W3.heap.size := hM3.bel.size
        have sz0 := wp_sz hF3 hM3.km
        clear hR hy hJs JV hMV hF hk3 hV HS CS QI
        cases ov
        · have e0 : o = none := by
            have := HOV.out
            cases o with
            | none => rfl
            | some r => cases this
          have hst : stepV alI hdI (f s.pc) (dW d) s = (none, s2) := by rw [HF.out, HST.out, e0]
          have hw0 : wd = 0 := by rw [← HWD.out, e0]; rfl
          obtain ⟨hf1, hf2⟩ := step_fwd hM hio hs hst
          have hr := rest_go hM hio hs hst
          have HPRE := Lib.hid (show (pre ++ [(s, wd)]) ++ restV f (dW d) m s2 = allV f (dW d) m by rw [← hpre, hr, hw0]; simp)
          clear hpre hr e0 hst
          gi_wp2_with (first
            | (refine wpListIn_load_row rfl 149 (.tmp 5) rfl g rfl 149 (vmC s2) (0, 0) _ hF3.blk Tryz.underlying149 rfl (mc_inf ok2.len) ?_)
            | (refine wpListIn_store_blk rfl 149 (.tmp 4) (.tmp 29) rfl W.heap.size _ (vmC s2) 149 rfl rfl hM3.km ((mc_size hok.len).trans (mc_size ok2.len).symm) (mc_inf ok2.len) mc_one ?_; intro W4 hF4 hn4))
          have hJ4 := hJ _ _ _ (some W.heap.size) hJ3 ⟨hn4.os, hn4.tape, hn4.output, hn4.size, fun k hk hne => hn4.block k hk (fun e => hne (by rw [e]))⟩ (fun r e => by cases e; rfl)
          have hM4 : MS W W4 n₀ Bl Bd W.heap.size (some ⟨b, off, none⟩) m cap d s2 := ⟨hM3.bel.trans (hn4.below n₀ hn0 (Nat.le_trans hn0 hW3)), But.blk' hn4 hM3.kl hne1, But.blk' hn4 hM3.kd hne2, hF4⟩
          try simp only [Act.put]
          go_roundw
          case rel => exact ⟨_, _, _, _, _, _, _, _, _, _, _, _, _, _, _, _, _, _, _, _, _, _, _, _, ⟨pre ++ [(s, wd)], s2, hf2, ok2, HPRE.out, hJ4, hM4⟩, rfl⟩
          case measure =>
            rw [pcAt_blk hF4, pcAt_blk hMs.km]
            omega
        · obtain ⟨r, e0⟩ : ∃ r, o = some r := by
            have := HOV.out
            cases o with
            | none => cases this
            | some r => exact ⟨r, rfl⟩
          have hst : stepV alI hdI (f s.pc) (dW d) s = (some r, s2) := by rw [HF.out, HST.out, e0]
          have hw0 : wd = r := by rw [← HWD.out, e0]; rfl
          have hr := rest_ret hs hst
          have HPRE := Lib.hid (show pre ++ [(s, wd)] = allV f (dW d) m by rw [← hpre, hr, hw0])
          clear hpre hr e0 hst hw0
          gi_wp2
          refine bodyPost_ret (results_none rfl _ _ _) rfl ?_
          exact ⟨⟨_, rfl⟩, _, HPRE.out, hJ3⟩
theorem machines_seq (n : Nat) (hn : 1 ≤ n) (n₀ Bl Bd m cap : Nat) (A : Option Addr) (f : Nat → Ins) (d : Dat) (hd : DatOk d) (hcap : m ≤ cap) (hM : May f m) (w : World) (hn0 : n₀ ≤ w.heap.size) (h0n : 1 < n₀) (hK : Kinds w)
    (bl : Blk w Bl #[.slice A m cap] 25) (bd : Blk w Bd (datC d) 64) (hA : Ri w n₀ A m f) :
    SeqOwn Fence.wide n Tryz.prog 115 #[.pointer (some ⟨Bl, 0, none⟩), .pointer (some ⟨Bd, 0, none⟩)] (fun x : VmS × Int => #[vmV x.1, .int .u32 x.2]) (KeepV n₀) (fun ys => ys = allV f (dW d) m) m w :=
  fun l J W hW hJ hY h0 => machines_in n hn l n₀ Bl Bd m cap A f d hd hcap hM J W (Nat.le_trans hn0 hW.size) h0n hJ (fun pre x W1 _ => hY pre x W1) (hK.below hW (by omega)) (bl.below hW bl.lt) (bd.below hW bd.lt) (hA.below hW hn0) h0
end Go.Proofs.YtelfdpcenplhjaaGreatDoor
namespace Go.Proofs.YtelfdpcenplhjaaGreatDoor
open Go.RowKit Go.Shelf
attribute [local go_sem] Oper.semAt_some
set_option linter.unusedVariables false
theorem grown_box {W W' : World} {row : Option Nat} {B b : Nat} {t : TypeId} {v : Value} (h : Boxed W b t v) (hg : W.grownBy W' row) (hr : ∀ r, row = some r → r = B ∨ r = B + 1 ∨ r = B + 2) (hb : b < B) : Boxed W' b t v := by
  have hlt : b < W.heap.size := (Array.getElem?_eq_some_iff.1 (show W.heap[b]? = _ from h)).1
  exact (hg.block b hlt (fun e => by have := hr b e.symm; omega)).trans h
theorem grown_below {W W' : World} {row : Option Nat} {n B : Nat} (hg : W.grownBy W' row) (hr : ∀ r, row = some r → r = B ∨ r = B + 1 ∨ r = B + 2) (hn : n ≤ B) (hs : n ≤ W.heap.size) : Below n W W' :=
  (Below.refl n W).grown hg hs (fun k e => by have := hr k e; omega)
theorem put_box {W : World} {b k : Nat} {o' : Obj} {t : TypeId} {v : Value} (h : Boxed W b t v) (hne : b ≠ k) : Boxed (W.putObj k o') b t v := (World.putObj_heap_other hne).trans h
theorem run_finish {n : Nat} {w : World} {B : Nat} (hB : n ≤ B) {W : World} (h : Below n w W) (o o' : Obj) (hk : W.heap[B]? = some o) : Below n w (W.putObj B o') :=
  h.trans ((Below.refl n W).grown (grownBy_putObj' W B o') (by have := (Array.getElem?_eq_some_iff.1 hk).1; omega) (fun k e => by cases e; omega))
set_option maxRecDepth 100000 in
set_option maxHeartbeats 4000000 in
theorem run_ok (A : Option Addr) (m cap : Nat) (f : Nat → Ins) (d : Dat) (hd : DatOk d) (w : World) (hK : Kinds w) (hA : Ri w w.heap.size A m f) (hcap : m ≤ cap) (hM : May f m) :
    Calls Tryz.prog 87 #[.slice A m cap, datV d] w fun e w' => e = .returned (.tuple #[.int .u32 (retV f (dW d) m), .int .i64 0]) ∧ Below w.heap.size w w' := by
  have hC := check_any A m cap f _ (hK.alloc (.cells (datC d) 64)) ((hA.below ((Below.refl _ w).alloc (Nat.le_refl _) (.cells (datC d) 64)) (Nat.le_refl _)).more (by simp))
  rw [chk_may hM] at hC
  unfold datV
  refine (callsIn_wide (n := 6)).1 ?_
  refine callsIn_of_wp_marks Tryz.func87 rfl trivial ?_ rfl
  simp only [Tryz.ntmps87, List.size_toArray, List.length_cons, List.length_nil, Nat.reduceAdd, Nat.reduceSub, Array.replicate_succ, Array.replicate_zero, List.push_toArray, List.append_toArray, List.nil_append, List.cons_append]
  refine wpIn_wide.2 ?_
  go_wp2_with fail
  refine hC.mono ?_
  rintro e w1 ⟨rfl, b1⟩
  have kd1 := (Blk.new w (datC d) 64).below b1 (by simp)
  have B1 : Below w.heap.size w w1 := ((Below.refl _ w).alloc (Nat.le_refl _) _).trans (b1.mono (by simp))
  have hs1 := b1.size
  simp only [World.size_alloc] at hs1
  have MA := fun V => machines_any A m cap d V
  unfold datV at MA
  go_wp2_with (refine wpList_load_row rfl 64 (.tmp 3) rfl w.heap.size rfl 64 (datC d) (0, 0) _ (kd1.alloc _).blk Tryz.underlying64 rfl dat_info ?_)
  refine (MA _).mono ?_
  rintro e w2 ⟨rfl, hw2⟩
  subst w2
  go_wp2_with fail
  have hpos := hK.pos
  have bP := ((Blk.new w1 #[.int .u32 0] 61).alloc (.cells #[.slice A m cap] 25)).alloc (.cells (datC d) 64)
  have bL := (Blk.new_ (w1.alloc (.cells #[.int .u32 0] 61)) #[.slice A m cap] 25 (n := w1.heap.size + 1) (by simp)).alloc (.cells (datC d) 64)
  have bD := Blk.new_ ((w1.alloc (.cells #[.int .u32 0] 61)).alloc (.cells #[.slice A m cap] 25)) (datC d) 64 (n := w1.heap.size + 1 + 1) (by simp)
  have hB0 : Below w.heap.size w (((w1.alloc (.cells #[.int .u32 0] 61)).alloc (.cells #[.slice A m cap] 25)).alloc (.cells (datC d) 64)) := ((B1.alloc (by omega) _).alloc (by simp; omega) _).alloc (by simp; omega) _
  have hsz : (((w1.alloc (.cells #[.int .u32 0] 61)).alloc (.cells #[.slice A m cap] 25)).alloc (.cells (datC d) 64)).heap.size = w1.heap.size + 1 + 1 + 1 := by simp
  have eL : (w1.alloc (.cells #[.int .u32 0] 61)).heap.size = w1.heap.size + 1 := by simp
  try rw [eL]
  generalize ((w1.alloc (.cells #[.int .u32 0] 61)).alloc (.cells #[.slice A m cap] 25)).alloc (.cells (datC d) 64) = w0 at bP bL bD hB0 hsz ⊢
  clear hC b1 kd1 MA
  have hms := machines_seq 5 (by omega) w.heap.size (w1.heap.size + 1) (w1.heap.size + 1 + 1) m cap A f d hd hcap hM w0 (by omega) hpos (hK.below hB0 hpos) bL bD (hA.below hB0 (Nat.le_refl _))
  refine (wpIn_wide (n := 6)).1 ?_
  refine wpIn_range4 rfl (by omega) (gf := 115) (lb := #[.pointer (some ⟨w1.heap.size + 1, 0, none⟩), .pointer (some ⟨w1.heap.size + 1 + 1, 0, none⟩)]) rfl trivial (enters_of Tryz.func115 (by kernel_rfl) rfl)
    hms keepV_t (keepV_b (by omega)) (Below.refl _ _) (fun _ => rfl)
    (fun (pre : List (VmS × Int)) W => Boxed W w1.heap.size 61 (.int .u32 (lastV pre)) ∧ Below w.heap.size w W) ?hI ⟨bP.blk, hB0⟩ ?round ?done
  case hI =>
    rintro s V V' row ⟨h1, h2⟩ hg hr
    exact ⟨grown_box h1 hg hr (by omega), h2.trans (grown_below hg hr (by omega) h2.size)⟩
  case round =>
    rintro l pre ⟨s, v⟩ W ⟨hv, hB⟩ hlt hlen
    gi_wp2
    refine ⟨⟨trivial, trivial⟩, keepV_refl _ _, fun o o' ho hc => ?_⟩
    have hv2 := put_box (o' := o') hv (show w1.heap.size ≠ w0.heap.size + 1 by omega)
    have hs1' : w0.heap.size + 1 < W.heap.size := by omega
    have hK2 : (W.putObj (w0.heap.size + 1) o').heap[w0.heap.size + 1]? = some o' := World.putObj_heap_same hs1'
    have hB2 : Below w.heap.size w (W.putObj (w0.heap.size + 1) o') := run_finish (by omega) hB o o' ho
    have hD2 : (W.putObj (w0.heap.size + 1) o').heap[w0.heap.size]? = W.heap[w0.heap.size]? := World.putObj_heap_other (by omega)
    generalize W.putObj (w0.heap.size + 1) o' = W2 at hv2 hK2 hB2 hD2 ⊢
    have hcell := hv2.cell
    have hfrz := hv2.frozen
    have hst : ∀ u, Boxed (W2.setCell ⟨w1.heap.size, 0, none⟩ u) w1.heap.size 61 u := fun u => hv2.set u
    have hoth : ∀ u k, k ≠ w1.heap.size → (W2.setCell ⟨w1.heap.size, 0, none⟩ u).heap[k]? = W2.heap[k]? := fun u k hk => Below.heap_setCell W2 ⟨w1.heap.size, 0, none⟩ u k hk
    have hkp : ∀ u, KeepV w.heap.size W2 (W2.setCell ⟨w1.heap.size, 0, none⟩ u) := fun u => keepV_set hv2 (by omega) (by decide) (by decide) (by decide)
    gi_wp2
    rw [last_snoc]
    rw [hsz] at hD2 hK2
    exact ⟨⟨(hoth _ _ (by omega)).trans hD2, (hoth _ _ (by omega)).trans hK2⟩, hst _, hB2.trans (hkp (.int .u32 v)).1⟩
  case done =>
    rintro ys W rfl ⟨hv, hB⟩ hD
    have hc := hv.cell
    go_wp2_with fail
    refine ⟨by simp, .inl ⟨_, _, rfl, run_takeDeferred hD, ?_⟩⟩
    exact ⟨_, results_tmp2 rfl _ _ _, rfl, run_finish (by omega) hB _ _ hD⟩
end Go.Proofs.YtelfdpcenplhjaaGreatDoor
namespace Go.Proofs.YtelfdpcenplhjaaGreatDoor
open Go.RowKit
set_option linter.unusedVariables false
def actO (h : Int) : Option Nat := (List.range 8).find? fun i => haAt i == h
def actI (x : Int) : Nat := (actO (x / 65536)).getD 0
def knowB (x : Int) : Bool := (actO (x / 65536)).isSome
theorem info_h : (Tryz.prog.info? 168).map (·.size) = some haC.size := by kernel_rfl
theorem idx_h (k : Nat) (hk : k < 8) : ∀ w : World, (Instr.index 168 (.agg haC) (.int .i64 k)).run Tryz.prog w = .ok (.int .u16 (haAt k)) w := by
  match k, hk with
  | 0, _ | 1, _ | 2, _ | 3, _ | 4, _ | 5, _ | 6, _ | 7, _ => intro w; kernel_rfl
  | n + 8, h => exact absurd h (by omega)
theorem wrap16 (x : Int) : IntKind.u16.wrap x = x % 65536 := by simp [IntKind.wrap, IntKind.signed, IntKind.bits]
theorem haAt_bd (k : Nat) : 0 ≤ haAt k ∧ haAt k < 65536 := by
  match k with
  | 0 | 1 | 2 | 3 | 4 | 5 | 6 | 7 => decide
  | n + 8 => exact (by decide : 0 ≤ (0 : Int) ∧ (0 : Int) < 65536)
theorem haAt_mod (k : Nat) : haAt k % 4294967296 = haAt k := by have := haAt_bd k; omega
theorem find_at {p : Nat → Bool} {k : Nat} (hk : k < 8) (h1 : ∀ i, i < k → p i = false) (h2 : p k = true) : (List.range 8).find? p = some k := by
  have h : List.range 8 = List.range k ++ (k :: (List.range (8 - k - 1)).map (k + 1 + ·)) := by
    have : List.range 8 = List.range (k + (1 + (8 - k - 1))) := by congr 1; omega
    rw [this, List.range_add, List.range_add]
    simp [Nat.add_assoc]
  rw [h, List.find?_append, List.find?_eq_none.2 (fun i hi => by rw [h1 i (List.mem_range.1 hi)]; simp)]
  simp [h2]
theorem find_no {p : Nat → Bool} (h1 : ∀ i, i < 8 → p i = false) : (List.range 8).find? p = none :=
  List.find?_eq_none.2 fun i hi => by rw [h1 i (List.mem_range.1 hi)]; simp
set_option maxHeartbeats 1000000 in
theorem said_any (x : Int) (h0 : 0 ≤ x) (h1 : x < 4294967296) (w : World) (hK : Halves w) :
    Calls Tryz.prog 100 #[.int .u32 x] w fun e w' => e = .returned (.tuple #[.int .i64 (actI x), .bool (knowB x)]) ∧ w' = w := by
  obtain ⟨t, fr, hb⟩ := hK.h
  go_enter Tryz.func100, Tryz.ntmps100
  go_wp2_with (refine wpList_load_row rfl 168 (.global 0) rfl 0 rfl t haC fr _ hb Tryz.underlying168 rfl info_h ?_)
  go_loopw [7] (fun i wr => ∃ k : Nat, k ≤ 8 ∧ i = .int .i64 k ∧ (∀ j, j < k → (haAt j == x / 65536) = false) ∧ wr = w) (fun i _ => 8 - (intOf i).toNat)
  case atStart => exact ⟨0, Nat.zero_le _, rfl, fun j hj => absurd hj (by omega), rfl⟩
  case round =>
    obtain ⟨k, hk, rfl, hj, rfl⟩ := hrel
    have HJ := Lib.hid hj
    clear hj
    by_cases hlt : k < 8
    · have hi := idx_h k hlt
      have hlt' : (k : Int) < 8 := by omega
      have hm := haAt_mod k
      by_cases hq : (haAt k == x / 65536) = true
      · go_wp2
        go_ret2
        have e : actO (x / 65536) = some k := find_at hlt HJ.out hq
        simp [actI, knowB, e]
      · have hq' : (haAt k == x / 65536) = false := by simpa using hq
        clear hq
        go_wp2
        go_roundw
        case rel =>
          refine ⟨k + 1, by omega, by go_num, fun j hj => ?_, trivial⟩
          rcases Nat.lt_or_ge j k with h | h
          · exact HJ.out j h
          · obtain rfl : j = k := by omega
            exact hq'
        case measure => simp [intOf]; omega
    · obtain rfl : k = 8 := by omega
      go_wp2
      go_ret2
      have e : actO (x / 65536) = none := find_no HJ.out
      simp [actI, knowB, e]
set_option maxHeartbeats 1000000 in
theorem actsplit_any (x : Int) (h0 : 0 ≤ x) (h1 : x < 4294967296) (w : World) (hK : Halves w) :
    Calls Tryz.prog 85 #[.int .u32 x] w fun e w' => e = .returned (.agg #[.int .i64 (actI x), .int .u16 (x % 65536)]) ∧ Below w.heap.size w w' := by
  go_enter Tryz.func85, Tryz.ntmps85
  go_wp2_with (go_at_call 100; refine (said_any x h0 h1 _ (hK.alloc _)).mono ?_; rintro e w' ⟨rfl, rfl⟩)
  refine bodyPost_ret (v := .agg #[.int .i64 (actI x), .int .u16 (x % 65536)]) (by simp [results, Tryz.results85, go_sem, wrap16]) rfl ⟨rfl, ?_⟩
  exact (Below.refl _ _).alloc (Nat.le_refl _) _
theorem ver_info : (Tryz.prog.info? 67).map (·.size) = some 2 := by kernel_rfl
theorem field_0 (a b : Value) : ∀ w : World, (Instr.field 67 (.agg #[a, b]) 0).run Tryz.prog w = .ok a w := by intro w; kernel_rfl
set_option maxHeartbeats 1000000 in
theorem under_any (x y : Int) (h0 : 0 ≤ x) (h1 : x < 4294967296) (k0 : 0 ≤ y) (k1 : y < 4294967296) (w : World) (hK : Halves w) :
    Calls Tryz.prog 84 #[.int .u32 x, .int .u32 y] w fun e w' => e = .returned (.bool (decide (actI x < actI y))) ∧ Below w.heap.size w w' := by
  have hf := field_0
  go_enter Tryz.func84, Tryz.ntmps84
  go_wp2_with fail
  refine (actsplit_any x h0 h1 _ hK).mono ?_
  rintro e w1 ⟨rfl, b1⟩
  go_wp2_with fail
  refine (actsplit_any y k0 k1 _ (hK.below b1 hK.pos)).mono ?_
  rintro e w2 ⟨rfl, b2⟩
  go_wp2_with fail
  go_ret
  refine ⟨?_, b1.trans (b2.mono b1.size)⟩
  rfl
end Go.Proofs.YtelfdpcenplhjaaGreatDoor
namespace Go.Proofs.YtelfdpcenplhjaaGreatDoor
open Go.RowKit
section
variable {F : Fence} {n : Nat} {P : Program}
structure FromB (B : Nat) (X Y : World) : Prop where
  size : X.heap.size ≤ Y.heap.size
  block : ∀ k, B ≤ k → k < X.heap.size → Y.heap[k]? = X.heap[k]?
theorem FromB.refl (B : Nat) (X : World) : FromB B X X := ⟨Nat.le_refl _, fun _ _ _ => rfl⟩
theorem FromB.trans {B : Nat} {X Y Z : World} (h : FromB B X Y) (k : FromB B Y Z) : FromB B X Z := ⟨Nat.le_trans h.size k.size, fun i h1 h2 => (k.block i h1 (Nat.lt_of_lt_of_le h2 h.size)).trans (h.block i h1 h2)⟩
theorem FromB.of_below {B : Nat} {X Y : World} (h : Below X.heap.size X Y) : FromB B X Y := ⟨h.size, fun k _ hk => h.block k hk⟩
theorem FromB.put {B : Nat} (W : World) (l : Nat) (o : Obj) (hl : l < B) : FromB B W (W.putObj l o) := ⟨by simp, fun k h1 _ => World.putObj_heap_other (by omega)⟩
def AbidesN {β : Type} (B : Nat) (J : β → World → Prop) : Prop := ∀ s X Y row, J s X → X.grownBy Y row → (∀ r, row = some r → B ≤ r) → J s Y
def SeqN {α : Type} (F : Fence) (n : Nat) (P : Program) (gf : Nat) (lb : Array Value) (encs : α → Array Value) (n₀ : Nat) (S : List α → Prop) (N : Nat) (w : World) : Prop :=
  ∀ (l : Nat) (J : List α → World → Prop) (W : World), Below n₀ w W → AbidesN W.heap.size J →
    (∀ pre x W1, J pre W1 → W.heap.size ≤ W1.heap.size → pre.length < N → YieldAt F (n - 1) P l (encs x) W1 fun e W' => e = .returned (.bool true) ∧ J (pre ++ [x]) W' ∧ Below n₀ W1 W' ∧ FromB W.heap.size W1 W') →
    J [] W → CallsIn F n P gf (#[.func (.yield l) #[] #[]] ++ lb) W fun e W' => (∃ v, e = .returned v) ∧ ∃ xs, S xs ∧ J xs W'
theorem wpIn_range7 {α : Type} {gO : Operand} {ps : Array Tmp} {assign body : Code} {Q : Exit → Act → World → Prop} {a : Act} {w : World}
    (hro : F.round = none) (h1 : 1 ≤ n) {gf : Nat} {lb : Array Value} (hg : a.eval gO = .func (.func gf) #[] lb) (hFg : F.fn gf) (eg : ∀ args w, (callFunc gf args).run P w = .ok (.enter gf args) w)
    {encs : α → Array Value} {n₀ : Nat} {S : List α → Prop} {N : Nat} {w0 : World} (hseq : SeqN F (n - 1) P gf lb encs n₀ S N w0)
    (hn0 : n₀ ≤ w.heap.size) (hb0 : Below n₀ w0 w) (hps : ∀ x, (encs x).size = ps.size)
    (I : List α → World → Prop) (hI : AbidesN w.heap.size I) (h0 : I [] w)
    (hround : ∀ (l : Nat) (pre : List α) (x : α) (W : World), I pre W → w.heap.size + 1 < W.heap.size → pre.length < N →
      assign.wpIn (F.inRound l) (n - 1 - 1) P (Exit.then (fun a1 W1 => (W1.heap[w.heap.size]? = W.heap[w.heap.size]? ∧ W1.heap[w.heap.size + 1]? = W.heap[w.heap.size + 1]?) ∧ Below n₀ W W1 ∧ FromB (w.heap.size + 2) W W1 ∧
        ∀ o o', W1.heap[w.heap.size + 1]? = some o → o.isCells = false → body.wpIn (F.inRound l) (n - 1 - 1) P (fun e _ W3 => e = .normal ∧
          (W3.heap[w.heap.size]? = W1.heap[w.heap.size]? ∧ W3.heap[w.heap.size + 1]? = some o') ∧ Below n₀ (W1.putObj (w.heap.size + 1) o') W3 ∧ FromB (w.heap.size + 2) (W1.putObj (w.heap.size + 1) o') W3 ∧ I (pre ++ [x]) W3) a1 (W1.putObj (w.heap.size + 1) o')) (fun _ _ _ => False))
        { tmps := (ps.zip (encs x)).foldl (fun t (p, v) => t.setIfInBounds p v) a.tmps, defers := [] } W)
    (hdone : ∀ (xs : List α) (W : World), S xs → I xs W → W.heap[w.heap.size]? = some (.deferred (some [])) → Q .normal { a with defers := { target := .collected w.heap.size, args := #[] } :: a.defers } W) :
    (Code.rangeFunc gO ps assign body).wpIn F n P Q a w := by
  have hKb : ∀ (W : World) (l : Nat) (o : Obj), w.heap.size ≤ l → l < W.heap.size → Below n₀ W (W.putObj l o) := fun W l o hl hs => (Below.refl n₀ W).grown (grownBy_putObj' W l o) (by omega) (fun k e => by cases e; omega)
  refine wpIn_rangeFunc fun fn hfn => ?_
  rw [hro]
  let rec_ : LoopState → Option Code → Loop := fun st pe => { state := st, pending := pe, fn, tmps := a.tmps, params := ps, assign, body, defers := w.heap.size }
  have hsz : ((w.alloc (.deferred (some []))).alloc (.loop (rec_ .ready none))).heap.size = w.heap.size + 2 := by simp
  have hL : ((w.alloc (.deferred (some []))).alloc (.loop (rec_ .ready none))).heap[w.heap.size + 1]? = some (.loop (rec_ .ready none)) := by
    have := World.alloc_heap_new (w.alloc (.deferred (some []))) (.loop (rec_ .ready none))
    rwa [World.size_alloc] at this
  have hD : ((w.alloc (.deferred (some []))).alloc (.loop (rec_ .ready none))).heap[w.heap.size]? = some (.deferred (some [])) :=
    (Below.heap_alloc _ _ _ (by simp)).trans (World.alloc_heap_new w _)
  have hB : Below w.heap.size w ((w.alloc (.deferred (some []))).alloc (.loop (rec_ .ready none))) := ((Below.refl _ w).alloc (Nat.le_refl _) _).alloc (by simp) _
  have hI1 : I [] ((w.alloc (.deferred (some []))).alloc (.loop (rec_ .ready none))) := hI _ _ _ none h0 ⟨hB.os, hB.tape, hB.output, hB.size, fun k hk _ => hB.block k hk⟩ (fun r e => by cases e)
  refine ⟨w.heap.size + 1, [{ target := .collected w.heap.size, args := #[] }], _, { target := .fn (.func gf) lb, args := #[.func (.yield (w.heap.size + 1)) #[] #[]] }, _, gf,
    #[.func (.yield (w.heap.size + 1)) #[] #[]] ++ lb, _, run_enterLoop_outer _ _ _ _ _, by simp only [resolve, hg]; simp [go_sem]; rfl, ?_, by simp [invoke, go_sem, eg]; rfl, fun _ => h1, ?_⟩
  · intro f' hf'
    simp [Target.leads] at hf'
    subst hf'
    exact hFg
  · refine (hseq (w.heap.size + 1) (fun pre W => I pre W ∧ W.heap[w.heap.size + 1]? = some (.loop (rec_ .ready none)) ∧ W.heap[w.heap.size]? = some (.deferred (some []))) _ (hb0.trans (hB.mono hn0)) ?_ ?_ ⟨hI1, hL, hD⟩).mono ?_
    · rintro s A B row ⟨h1, h2, h3⟩ hgr hrow
      rw [hsz] at hrow
      have keep : ∀ k o, k < w.heap.size + 2 → A.heap[k]? = some o → B.heap[k]? = some o := fun k o hk ho => (hgr.block k (Array.getElem?_eq_some_iff.1 ho).1 (fun e => by have := hrow k e.symm; omega)).trans ho
      exact ⟨hI _ _ _ _ h1 hgr (fun r e => by have := hrow r e; omega), keep _ _ (by omega) h2, keep _ _ (by omega) h3⟩
    · rintro pre x W ⟨hi, hl, hd⟩ hlt hlen
      rw [hsz] at hlt
      have hw : w.heap.size + 1 < W.heap.size := by omega
      refine ⟨fn, _, assign, body, run_yield (P := P) (args := encs x) hl (hps x), roundIn_of_wpIn hfn (wpIn_mono (hround (w.heap.size + 1) pre x W hi hlt hlen) ?_)⟩
      rintro e a1 W1 h
      cases e with
      | normal =>
        obtain ⟨⟨k1, k2⟩, hk, hf, hb⟩ := h
        have hl1 := k2.trans hl
        refine ⟨_, run_beginRound hl1 rfl, ?_⟩
        refine wpIn_mono (hb _ (.loop { rec_ .ready none with state := .busy }) hl1 rfl) ?_
        rintro e a3 W3 ⟨rfl, ⟨m1, m2⟩, hk3, hf3, hi3⟩
        have hr := run_endRound (P := P) none m2
        have hs1 : w.heap.size + 1 < W1.heap.size := (Array.getElem?_eq_some_iff.1 hl1).1
        have hs3 : w.heap.size + 1 < W3.heap.size := (Array.getElem?_eq_some_iff.1 m2).1
        refine ⟨_, _, hr, rfl, ⟨hI _ _ _ _ hi3 (grownBy_putObj' W3 _ _) (fun r e => by cases e; omega), World.putObj_heap_same hs3, (World.putObj_heap_other (by omega)).trans (m1.trans (k1.trans hd))⟩,
          hk.trans ((hKb W1 _ _ (by omega) hs1).trans (hk3.trans (hKb W3 _ _ (by omega) hs3))), by rw [hsz]; exact hf.trans ((FromB.put W1 _ _ (by omega)).trans (hf3.trans (FromB.put W3 _ _ (by omega))))⟩
      | _ => exact h.elim
    · rintro e W2 ⟨⟨v, rfl⟩, xs, hS, ⟨hi, hl, hd⟩⟩
      have hs2 : w.heap.size + 1 < W2.heap.size := (Array.getElem?_eq_some_iff.1 hl).1
      exact ⟨none, _, run_endLoop (P := P) hl (by simp [rec_]), hdone xs _ hS (hI _ _ _ _ hi (grownBy_putObj' W2 _ _) (fun r e => by cases e; omega)) ((World.putObj_heap_other (by omega)).trans hd)⟩
end
end Go.Proofs.YtelfdpcenplhjaaGreatDoor
