/-
  vm.loaded, vm.further.
-/
import Derived.Test.YtpeofpilfpjjpaaGreatDoorVmS
import Derived.Test.YtpeofpilfpjjpaaGreatDoorDatO
import Derived.Test.YtpeofpilfpjjpaaGreatDoorHF
namespace Go.Proofs.YtpeofpilfpjjpaaGreatDoor
open Go.RowKit
set_option linter.unusedVariables false

/-- An instruction and a machine, each in a block of the call's own. -/
structure MJ (w V : World) (g1 g2 : Nat) (c y z k p a x : Int) (mem : List Int) : Prop where
  ki : Blk V g1 #[.int .u16 c, .int .u8 y, .int .u8 z, .int .u32 k] 111
  km : Blk V g2 (mcC p a x mem) 149
  kk : Kinds V
  old : Below w.heap.size w V
section
variable {w V V' : World} {g1 g2 : Nat} {c y z k p a x : Int} {mem : List Int}
theorem MJ.below (h : MJ w V g1 g2 c y z k p a x mem) (hb : Below V.heap.size V V') : MJ w V' g1 g2 c y z k p a x mem :=
  ⟨h.ki.below hb h.ki.lt, h.km.below hb h.km.lt, h.kk.below hb h.kk.pos, h.old.trans (hb.mono h.old.size)⟩
theorem MJ.drew (h : MJ w V g1 g2 c y z k p a x mem) : MJ w V.drew g1 g2 c y z k p a x mem := h.below (Below.refl _ _).drew
theorem MJ.new (w : World) (hK : Kinds w) : MJ w ((w.alloc (.cells #[.int .u16 c, .int .u8 y, .int .u8 z, .int .u32 k] 111)).alloc (.cells (mcC p a x mem) 149)) w.heap.size (w.heap.size + 1) c y z k p a x mem :=
  have B := ((Below.refl w.heap.size w).alloc (Nat.le_refl _) (.cells #[.int .u16 c, .int .u8 y, .int .u8 z, .int .u32 k] 111)).alloc (by simp) (.cells (mcC p a x mem) 149)
  ⟨(Blk.new w _ _).alloc _, Blk.new_ _ _ _ (by simp), hK.below B hK.pos, B⟩
end

set_option maxRecDepth 100000 in
set_option maxHeartbeats 2000000 in
theorem further_test' (c y z k p a x : Int) (mem : List Int) (hl : mem.length = 16) (hq : InsOk c y z k) (ha : U32 a) (hx : U32 x) (w : World) (hK : Kinds w) (r : Int) (hr : formOf c = r) (h4 : ¬ r = 4) :
    Calls Tryz.prog 134 #[insV c y z k, .agg (mcC p a x mem)] w fun e w' => e = .returned (.int .i64 (if hdI c a (if r = 1 ∨ r = 5 then k else x) = true then y else z)) ∧ Below w.heap.size w w' := by
  obtain ⟨hc0, hc1, y0', y1', z0', z1', k0, k1⟩ := hq
  have hk : U32 k := ⟨k0, k1⟩
  have F := fun V (h : Kinds V) => form_any c V h
  have S := fun V (h : Kinds V) => second_any c y z k p a x mem V h
  obtain ⟨b, hb⟩ : ∃ b, (if r = 1 ∨ r = 5 then k else x) = b := ⟨_, rfl⟩
  rw [hr] at F S
  rw [hb] at S ⊢
  have hbU : U32 b := by rw [← hb]; split <;> assumption
  have H := fun V => hd_any c a b hc0 hc1 ha hbU V
  unfold insV at S ⊢
  have J := MJ.new (c := c) (y := y) (z := z) (k := k) (p := p) (a := a) (x := x) (mem := mem) w hK
  have F' := F _ J.kk
  obtain ⟨v, hv⟩ : ∃ v, hdI c a b = v := ⟨_, rfl⟩
  rw [hv] at H ⊢
  have S' := Lib.hid (calls_keep (S := fun V => MJ w V w.heap.size (w.heap.size + 1) c y z k p a x mem) (fun V V' h hb => h.below hb) (fun V h => S V h.kk))
  have H' := Lib.hid (calls_keep (S := fun V => MJ w V w.heap.size (w.heap.size + 1) c y z k p a x mem) (fun V V' h hb => h.below hb) (fun V _ => H V))
  have hl' := hl
  clear F hr hb hv S hl
  have K0 := J.kk
  go_enter Tryz.func134, Tryz.ntmps134
  go_wp2_with fail
  refine F'.mono ?_
  rintro e w' ⟨rfl, hw'⟩
  subst w'
  go_wp2_with fail
  have J0 := J.drew
  clear J F' H K0
  have hne : Nonempty (Sig (fun V => MJ w V w.heap.size (w.heap.size + 1) c y z k p a x mem)) := ⟨⟨_, J0⟩⟩
  refine region_class (S := fun V => MJ w V w.heap.size (w.heap.size + 1) c y z k p a x mem) (by kernel_rfl) (by kernel_rfl) J0 ?_
  have hS1 : ∀ s : Sig (fun V => MJ w V w.heap.size (w.heap.size + 1) c y z k p a x mem), s.V.cell? ⟨w.heap.size, 0, none⟩ = some (.int .u16 c) := fun s => s.h.ki.cell 0
  have hS2 : ∀ s : Sig (fun V => MJ w V w.heap.size (w.heap.size + 1) c y z k p a x mem), s.V.cell? ⟨w.heap.size + 1, 1, none⟩ = some (.int .u32 a) := fun s => (s.h.km.cell 1).trans mc_1
  repeat (first
    | (refine class_load (by rfl) 111 (.tmp 2) rfl w.heap.size rfl _ 111 _ (fun _ h => h.ki) Tryz.underlying111 rfl (by kernel_rfl) ?_; simp only [Act.put, List.setIfInBounds_toArray, List.set_cons_zero, List.set_cons_succ])
    | (refine class_load (by rfl) 149 (.tmp 3) rfl (w.heap.size + 1) rfl _ 149 _ (fun _ h => h.km) Tryz.underlying149 rfl (mc_inf hl') ?_; simp only [Act.put, List.setIfInBounds_toArray, List.set_cons_zero, List.set_cons_succ])
    | go_big_quiet_step (first | (go_at_call 133; exact class_call _ S'.out) | (go_at_call 156; exact class_call _ H'.out)))
  refine wpQuiet_nil ?_
  rintro _ ⟨s7, rfl⟩
  have J7 := s7.h
  have y0 := J7.ki.cell 1
  have z0 := J7.ki.cell 2
  clear hS1 hS2 hne
  cases v
  · go_wp2_with fail
    go_ret
    exact ⟨rfl, J7.old⟩
  · go_wp2_with fail
    go_ret
    exact ⟨rfl, J7.old⟩
set_option maxHeartbeats 1000000 in
theorem further_jump (c y z k p a x : Int) (mem : List Int) (hq : InsOk c y z k) (w : World) (hK : Kinds w) (hr : formOf c = 4) :
    Calls Tryz.prog 134 #[insV c y z k, .agg (mcC p a x mem)] w fun e w' => e = .returned (.int .i64 k) ∧ Below w.heap.size w w' := by
  obtain ⟨hc0, hc1, y0', y1', z0', z1', k0, k1⟩ := hq
  have F := fun V (h : Kinds V) => form_any c V h
  rw [hr] at F
  unfold insV
  have J := MJ.new (c := c) (y := y) (z := z) (k := k) (p := p) (a := a) (x := x) (mem := mem) w hK
  have F' := F _ J.kk
  have B := J.old
  clear F hr J
  go_enter Tryz.func134, Tryz.ntmps134
  go_wp2_with fail
  refine F'.mono ?_
  rintro e w' ⟨rfl, hw'⟩
  subst w'
  go_wp2_with fail
  go_ret
  exact ⟨rfl, B⟩
/-- By how much more than one a jump goes on. -/
def furI (q : Ins) (a x : Int) : Int := if formOf q.1 = 4 then q.2.2.2 else if hdI q.1 a (if formOf q.1 = 1 ∨ formOf q.1 = 5 then q.2.2.2 else x) = true then q.2.1 else q.2.2.1
theorem further_any (q : Ins) (p a x : Int) (mem : List Int) (hl : mem.length = 16) (hq : insO q) (ha : U32 a) (hx : U32 x) (w : World) (hK : Kinds w) :
    Calls Tryz.prog 134 #[valI q, .agg (mcC p a x mem)] w fun e w' => e = .returned (.int .i64 (furI q a x)) ∧ Below w.heap.size w w' := by
  unfold furI
  by_cases h4 : formOf q.1 = 4
  · rw [if_pos h4]
    exact further_jump _ _ _ _ p a x mem hq w hK h4
  · rw [if_neg h4]
    exact further_test' _ _ _ _ p a x mem hl hq ha hx w hK _ rfl h4

/-- A call's word at an offset. -/
def dW (d : Dat) (o : Int) : Int := (wordsL d).getD (o / 4).toNat 0
theorem dW_bd (d : Dat) (h : DatOk d) (o : Int) : U32 (dW d o) := (words_bd d h).at_ _
/-- What a load puts into its register. -/
def ldI (q : Ins) (d : Int → Int) (mem : List Int) : Int := if formOf q.1 = 2 then d q.2.2.2 else if formOf q.1 = 1 then q.2.2.2 else if formOf q.1 = 3 then mem.getD q.2.2.2.toNat 0 else 64
/-- An instruction, a call's data and a machine, each in a block of the call's own. -/
structure LJ (w V : World) (q : Ins) (d : Dat) (p a x : Int) (mem : List Int) : Prop where
  ki : Blk V w.heap.size (celI q).toArray 111
  kd : Blk V (w.heap.size + 1) (datC d) 64
  km : Blk V (w.heap.size + 1 + 1) (mcC p a x mem) 149
  kk : Kinds V
  old : Below w.heap.size w V
section
variable {w V V' : World} {q : Ins} {d : Dat} {p a x : Int} {mem : List Int}
theorem LJ.below (h : LJ w V q d p a x mem) (hb : Below V.heap.size V V') : LJ w V' q d p a x mem :=
  ⟨h.ki.below hb h.ki.lt, h.kd.below hb h.kd.lt, h.km.below hb h.km.lt, h.kk.below hb h.kk.pos, h.old.trans (hb.mono h.old.size)⟩
theorem LJ.drew (h : LJ w V q d p a x mem) : LJ w V.drew q d p a x mem := h.below (Below.refl _ _).drew
theorem LJ.new (w : World) (hK : Kinds w) : LJ w (((w.alloc (.cells (celI q).toArray 111)).alloc (.cells (datC d) 64)).alloc (.cells (mcC p a x mem) 149)) q d p a x mem :=
  have B := (((Below.refl w.heap.size w).alloc (Nat.le_refl _) (.cells (celI q).toArray 111)).alloc (by simp) (.cells (datC d) 64)).alloc (by simp; omega) (.cells (mcC p a x mem) 149)
  ⟨((Blk.new w _ _).alloc _).alloc _, (Blk.new_ _ _ _ (by simp)).alloc _, Blk.new_ _ _ _ (by simp), hK.below B hK.pos, B⟩
theorem LJ.cells (h : LJ w V q d p a x mem) : V.cell? ⟨w.heap.size, 0, none⟩ = some (.int .u16 q.1) ∧ V.cell? ⟨w.heap.size, 1, none⟩ = some (.int .u8 q.2.1) ∧ V.cell? ⟨w.heap.size, 2, none⟩ = some (.int .u8 q.2.2.1) ∧ V.cell? ⟨w.heap.size, 3, none⟩ = some (.int .u32 q.2.2.2) :=
  ⟨h.ki.cell 0, h.ki.cell 1, h.ki.cell 2, h.ki.cell 3⟩
end
set_option maxRecDepth 100000 in
set_option maxHeartbeats 2000000 in
theorem loaded_any (q : Ins) (d : Dat) (hd : DatOk d) (p a x : Int) (mem : List Int) (hl : mem.length = 16) (hq : insO q) (h2 : formOf q.1 = 2 → rightB q.2.2.2 = true) (h3 : formOf q.1 = 3 → q.2.2.2 < 16) (w : World) (hK : Kinds w) :
    Calls Tryz.prog 131 #[valI q, datV d, .agg (mcC p a x mem)] w fun e w' => e = .returned (.int .u32 (ldI q (dW d) mem)) ∧ Below w.heap.size w w' := by
  obtain ⟨c, y, z, k⟩ := q
  have J := LJ.new (q := (c, y, z, k)) (d := d) (p := p) (a := a) (x := x) (mem := mem) w hK
  obtain ⟨hc0, hc1, y0', y1', z0', z1', k0, k1⟩ := hq
  simp only at h2 h3 hc0 hc1 k0 k1
  have F := form_any c _ J.kk
  simp only [valI, insV, datV, ldI, celI] at J F ⊢
  obtain ⟨i0, _, _, i3⟩ := J.cells
  simp only at i0 i3
  have B := J.old
  obtain ⟨r, hr⟩ : ∃ r, formOf c = r := ⟨_, rfl⟩
  rw [hr] at F h2 h3 ⊢
  clear hr
  by_cases r2 : r = 2
  · subst r2
    simp only [if_pos]
    obtain ⟨kn, hk16, ek, ek4⟩ := right_parts k ⟨k0, k1⟩ (h2 rfl)
    have W := word_ok d hd k ⟨k0, k1⟩ (h2 rfl) kn hk16 ek
    have ew : dW d k = (wordsL d).getD kn 0 := by unfold dW; rw [ek]; rfl
    rw [ew]
    unfold datV at W
    have kd := J.kd
    clear h2 h3 ek ew J ek4
    go_enter Tryz.func131, Tryz.ntmps131
    go_wp2_with fail
    refine F.mono ?_
    rintro e w' ⟨rfl, hw'⟩
    subst w'
    go_wp2_with (refine wpList_load_row rfl 64 (.tmp 4) rfl (w.heap.size + 1) rfl 64 (datC d) (0, 0) _ kd.blk Tryz.underlying64 rfl dat_info ?_)
    refine (W _).mono ?_
    rintro e w' ⟨rfl, hb⟩
    go_wp2_with fail
    go_ret
    exact ⟨rfl, B.trans (hb.mono B.size)⟩
  · rw [if_neg r2]
    by_cases r1 : r = 1
    · subst r1
      simp only [if_pos]
      clear h2 h3 J
      go_enter Tryz.func131, Tryz.ntmps131
      go_wp2_with fail
      refine F.mono ?_
      rintro e w' ⟨rfl, hw'⟩
      subst w'
      go_wp2_with fail
      go_ret
      exact ⟨rfl, B⟩
    · rw [if_neg r1]
      by_cases r3 : r = 3
      · subst r3
        simp only [if_pos]
        obtain ⟨kn, rfl⟩ : ∃ kn : Nat, k = (kn : Int) := ⟨k.toNat, by omega⟩
        have hkn := h3 rfl
        have m3 := (J.km.cell (3 + kn)).trans (mc_3 hl (by omega))
        rw [Int.toNat_natCast]
        clear h2 h3 J
        go_enter Tryz.func131, Tryz.ntmps131
        go_wp2_with fail
        refine F.mono ?_
        rintro e w' ⟨rfl, hw'⟩
        subst w'
        go_wp2_with fail
        go_ret
        exact ⟨rfl, B⟩
      · rw [if_neg r3]
        clear h2 h3 J
        go_enter Tryz.func131, Tryz.ntmps131
        go_wp2_with fail
        refine F.mono ?_
        rintro e w' ⟨rfl, hw'⟩
        subst w'
        go_wp2_with fail
        go_ret
        exact ⟨rfl, B⟩
end Go.Proofs.YtpeofpilfpjjpaaGreatDoor
