/-
  vm.step, class by class.
-/
import Derived.Test.YtelfdpcenplhjaaGreatDoorQVmS
import Derived.Test.YtelfdpcenplhjaaGreatDoorQHE
namespace Go.Proofs.YtelfdpcenplhjaaGreatDoor
open Go.RowKit
theorem word_index (l : List Int) (hl : l.length = 16) (k : Nat) (hk : k < 16) : ∀ w : World, (Instr.index 147 (arrV l) (.int .u32 k)).run Tryz.prog w = .ok (.int .u32 (l.getD k 0)) w := by
  match l, hl with
  | [x0, x1, x2, x3, x4, x5, x6, x7, x8, x9, x10, x11, x12, x13, x14, x15], _ =>
    match k, hk with
    | 0, _ => intro V; kernel_rfl
    | 1, _ => intro V; kernel_rfl
    | 2, _ => intro V; kernel_rfl
    | 3, _ => intro V; kernel_rfl
    | 4, _ => intro V; kernel_rfl
    | 5, _ => intro V; kernel_rfl
    | 6, _ => intro V; kernel_rfl
    | 7, _ => intro V; kernel_rfl
    | 8, _ => intro V; kernel_rfl
    | 9, _ => intro V; kernel_rfl
    | 10, _ => intro V; kernel_rfl
    | 11, _ => intro V; kernel_rfl
    | 12, _ => intro V; kernel_rfl
    | 13, _ => intro V; kernel_rfl
    | 14, _ => intro V; kernel_rfl
    | 15, _ => intro V; kernel_rfl
    | n + 16, h => exact absurd h (by omega)
theorem right_parts (o : Int) (ho : U32 o) (h : rightB o = true) : ∃ k : Nat, k < 16 ∧ o / 4 = (k : Int) ∧ o = 4 * k := by
  unfold rightB at h
  unfold U32 at ho
  simp only [decide_eq_true_eq] at h
  exact ⟨(o / 4).toNat, by omega, by omega, by omega⟩
set_option maxRecDepth 100000 in
set_option maxHeartbeats 1000000 in
theorem word_ok (d : Dat) (h : DatOk d) (o : Int) (ho : U32 o) (hr : rightB o = true) (k : Nat) (hk : k < 16) (ek : o / 4 = (k : Int)) (w : World) :
    Calls Tryz.prog 144 #[datV d, .int .u32 o] w fun e w' => e = .returned (.tuple #[.int .u32 ((wordsL d).getD k 0), .int .i64 0]) ∧ Below w.heap.size w w' := by
  have hi := word_index (wordsL d) (words_len d) k hk
  rw [← ek] at hi
  obtain ⟨x, hx⟩ : ∃ x, (wordsL d).getD k 0 = x := ⟨_, rfl⟩
  rw [hx] at hi ⊢
  have HX := Lib.hid hx
  have HK := Lib.hid ek
  have H := holds_any o ho
  rw [hr] at H
  obtain ⟨o0, o1⟩ := ho
  clear hx ek hr
  have W := fun w => words_any d h w
  unfold datV datC at W ⊢
  go_enter Tryz.func144, Tryz.ntmps144
  go_wp2_with fail
  refine (H _).mono ?_
  rintro e w' ⟨rfl, rfl⟩
  go_wp2_with fail
  refine (W _).mono ?_
  rintro e w2 ⟨rfl, b2⟩
  go_wp2_with fail
  go_ret2
  exact ⟨rfl, ((Below.refl _ _).alloc (Nat.le_refl _) _).trans (b2.mono (by simp))⟩
theorem But.blk {w w' : World} {g g' : Nat} {cs : Array Value} {t : TypeId} (h : But g w w') (k : Blk w g' cs t) (hn : g' ≠ g) : Blk w' g' cs t := ⟨(h.block g' k.lt hn).trans k.blk⟩
end Go.Proofs.YtelfdpcenplhjaaGreatDoor
namespace Go.Proofs.YtelfdpcenplhjaaGreatDoor
open Go.RowKit
set_option linter.unusedVariables false
structure MJ (w V : World) (g1 g2 : Nat) (c y z k p a x : Int) (mem : List Int) : Prop where
  ki : Blk V g1 #[.int .u16 c, .int .u8 y, .int .u8 z, .int .u32 k] 111
  km : Blk V g2 (mcC p a x mem) 149
  kk : Kinds V
  old : Below w.heap.size w V
section
variable {w V V' : World} {g1 g2 : Nat} {c y z k p a x : Int} {mem : List Int}
theorem MJ.below (h : MJ w V g1 g2 c y z k p a x mem) (hb : Below V.heap.size V V') : MJ w V' g1 g2 c y z k p a x mem :=
  ⟨h.ki.below hb h.ki.lt, h.km.below hb h.km.lt, h.kk.below hb h.kk.pos, h.old.trans (hb.mono h.old.size)⟩
theorem MJ.drew (h : MJ w V g1 g2 c y z k p a x mem) : MJ w V.drew g1 g2 c y z k p a x mem := h.below (Below.refl _ _).drew
theorem MJ.new (w : World) (hK : Kinds w) : MJ w ((w.alloc (.cells #[.int .u16 c, .int .u8 y, .int .u8 z, .int .u32 k] 111)).alloc (.cells (mcC p a x mem) 149)) w.heap.size (w.heap.size + 1) c y z k p a x mem :=
  have B := ((Below.refl w.heap.size w).alloc (Nat.le_refl _) (.cells #[.int .u16 c, .int .u8 y, .int .u8 z, .int .u32 k] 111)).alloc (by simp) (.cells (mcC p a x mem) 149)
  ⟨(Blk.new w _ _).alloc _, Blk.new_ _ _ _ (by simp), hK.below B hK.pos, B⟩
end
set_option maxRecDepth 100000 in
set_option maxHeartbeats 2000000 in
theorem further_test' (c y z k p a x : Int) (mem : List Int) (hl : mem.length = 16) (hq : InsOk c y z k) (ha : U32 a) (hx : U32 x) (w : World) (hK : Kinds w) (r : Int) (hr : formOf c = r) (h4 : ¬ r = 4) :
    Calls Tryz.prog 134 #[insV c y z k, .agg (mcC p a x mem)] w fun e w' => e = .returned (.int .i64 (if hdI c a (if r = 1 ∨ r = 5 then k else x) = true then y else z)) ∧ Below w.heap.size w w' := by
  obtain ⟨hc0, hc1, y0', y1', z0', z1', k0, k1⟩ := hq
  have hk : U32 k := ⟨k0, k1⟩
  have F := fun V (h : Kinds V) => form_any c V h
  have S := fun V (h : Kinds V) => second_any c y z k p a x mem V h
  obtain ⟨b, hb⟩ : ∃ b, (if r = 1 ∨ r = 5 then k else x) = b := ⟨_, rfl⟩
  rw [hr] at F S
  rw [hb] at S ⊢
  have hbU : U32 b := by rw [← hb]; split <;> assumption
  have H := fun V => hd_any c a b hc0 hc1 ha hbU V
  unfold insV at S ⊢
  have J := MJ.new (c := c) (y := y) (z := z) (k := k) (p := p) (a := a) (x := x) (mem := mem) w hK
  have F' := F _ J.kk
  obtain ⟨v, hv⟩ : ∃ v, hdI c a b = v := ⟨_, rfl⟩
  rw [hv] at H ⊢
  have S' := Lib.hid (calls_keep (S := fun V => MJ w V w.heap.size (w.heap.size + 1) c y z k p a x mem) (fun V V' h hb => h.below hb) (fun V h => S V h.kk))
  have H' := Lib.hid (calls_keep (S := fun V => MJ w V w.heap.size (w.heap.size + 1) c y z k p a x mem) (fun V V' h hb => h.below hb) (fun V _ => H V))
  have hl' := hl
  clear F hr hb hv S hl
  have K0 := J.kk
  go_enter Tryz.func134, Tryz.ntmps134
  go_wp2_with fail
  refine F'.mono ?_
  rintro e w' ⟨rfl, hw'⟩
  subst w'
  go_wp2_with fail
  have J0 := J.drew
  clear J F' H K0
  have hne : Nonempty (Sig (fun V => MJ w V w.heap.size (w.heap.size + 1) c y z k p a x mem)) := ⟨⟨_, J0⟩⟩
  refine region_class (S := fun V => MJ w V w.heap.size (w.heap.size + 1) c y z k p a x mem) (by kernel_rfl) (by kernel_rfl) J0 ?_
  have hS1 : ∀ s : Sig (fun V => MJ w V w.heap.size (w.heap.size + 1) c y z k p a x mem), s.V.cell? ⟨w.heap.size, 0, none⟩ = some (.int .u16 c) := fun s => s.h.ki.cell 0
  have hS2 : ∀ s : Sig (fun V => MJ w V w.heap.size (w.heap.size + 1) c y z k p a x mem), s.V.cell? ⟨w.heap.size + 1, 1, none⟩ = some (.int .u32 a) := fun s => (s.h.km.cell 1).trans mc_1
  repeat (first
    | (refine class_load (by rfl) 111 (.tmp 2) rfl w.heap.size rfl _ 111 _ (fun _ h => h.ki) Tryz.underlying111 rfl (by kernel_rfl) ?_; simp only [Act.put, List.setIfInBounds_toArray, List.set_cons_zero, List.set_cons_succ])
    | (refine class_load (by rfl) 149 (.tmp 3) rfl (w.heap.size + 1) rfl _ 149 _ (fun _ h => h.km) Tryz.underlying149 rfl (mc_inf hl') ?_; simp only [Act.put, List.setIfInBounds_toArray, List.set_cons_zero, List.set_cons_succ])
    | go_big_quiet_step (first | (go_at_call 133; exact class_call _ S'.out) | (go_at_call 156; exact class_call _ H'.out)))
  refine wpQuiet_nil ?_
  rintro _ ⟨s7, rfl⟩
  have J7 := s7.h
  have y0 := J7.ki.cell 1
  have z0 := J7.ki.cell 2
  clear hS1 hS2 hne
  cases v
  · go_wp2_with fail
    go_ret
    exact ⟨rfl, J7.old⟩
  · go_wp2_with fail
    go_ret
    exact ⟨rfl, J7.old⟩
set_option maxHeartbeats 1000000 in
theorem further_jump (c y z k p a x : Int) (mem : List Int) (hq : InsOk c y z k) (w : World) (hK : Kinds w) (hr : formOf c = 4) :
    Calls Tryz.prog 134 #[insV c y z k, .agg (mcC p a x mem)] w fun e w' => e = .returned (.int .i64 k) ∧ Below w.heap.size w w' := by
  obtain ⟨hc0, hc1, y0', y1', z0', z1', k0, k1⟩ := hq
  have F := fun V (h : Kinds V) => form_any c V h
  rw [hr] at F
  unfold insV
  have J := MJ.new (c := c) (y := y) (z := z) (k := k) (p := p) (a := a) (x := x) (mem := mem) w hK
  have F' := F _ J.kk
  have B := J.old
  clear F hr J
  go_enter Tryz.func134, Tryz.ntmps134
  go_wp2_with fail
  refine F'.mono ?_
  rintro e w' ⟨rfl, hw'⟩
  subst w'
  go_wp2_with fail
  go_ret
  exact ⟨rfl, B⟩
def furI (q : Ins) (a x : Int) : Int := if formOf q.1 = 4 then q.2.2.2 else if hdI q.1 a (if formOf q.1 = 1 ∨ formOf q.1 = 5 then q.2.2.2 else x) = true then q.2.1 else q.2.2.1
theorem further_any (q : Ins) (p a x : Int) (mem : List Int) (hl : mem.length = 16) (hq : insO q) (ha : U32 a) (hx : U32 x) (w : World) (hK : Kinds w) :
    Calls Tryz.prog 134 #[valI q, .agg (mcC p a x mem)] w fun e w' => e = .returned (.int .i64 (furI q a x)) ∧ Below w.heap.size w w' := by
  unfold furI
  by_cases h4 : formOf q.1 = 4
  · rw [if_pos h4]
    exact further_jump _ _ _ _ p a x mem hq w hK h4
  · rw [if_neg h4]
    exact further_test' _ _ _ _ p a x mem hl hq ha hx w hK _ rfl h4
def dW (d : Dat) (o : Int) : Int := (wordsL d).getD (o / 4).toNat 0
theorem dW_bd (d : Dat) (h : DatOk d) (o : Int) : U32 (dW d o) := (words_bd d h).at_ _
def ldI (q : Ins) (d : Int → Int) (mem : List Int) : Int := if formOf q.1 = 2 then d q.2.2.2 else if formOf q.1 = 1 then q.2.2.2 else if formOf q.1 = 3 then mem.getD q.2.2.2.toNat 0 else 64
structure LJ (w V : World) (q : Ins) (d : Dat) (p a x : Int) (mem : List Int) : Prop where
  ki : Blk V w.heap.size (celI q).toArray 111
  kd : Blk V (w.heap.size + 1) (datC d) 64
  km : Blk V (w.heap.size + 1 + 1) (mcC p a x mem) 149
  kk : Kinds V
  old : Below w.heap.size w V
section
variable {w V V' : World} {q : Ins} {d : Dat} {p a x : Int} {mem : List Int}
theorem LJ.below (h : LJ w V q d p a x mem) (hb : Below V.heap.size V V') : LJ w V' q d p a x mem :=
  ⟨h.ki.below hb h.ki.lt, h.kd.below hb h.kd.lt, h.km.below hb h.km.lt, h.kk.below hb h.kk.pos, h.old.trans (hb.mono h.old.size)⟩
theorem LJ.drew (h : LJ w V q d p a x mem) : LJ w V.drew q d p a x mem := h.below (Below.refl _ _).drew
theorem LJ.new (w : World) (hK : Kinds w) : LJ w (((w.alloc (.cells (celI q).toArray 111)).alloc (.cells (datC d) 64)).alloc (.cells (mcC p a x mem) 149)) q d p a x mem :=
  have B := (((Below.refl w.heap.size w).alloc (Nat.le_refl _) (.cells (celI q).toArray 111)).alloc (by simp) (.cells (datC d) 64)).alloc (by simp; omega) (.cells (mcC p a x mem) 149)
  ⟨((Blk.new w _ _).alloc _).alloc _, (Blk.new_ _ _ _ (by simp)).alloc _, Blk.new_ _ _ _ (by simp), hK.below B hK.pos, B⟩
theorem LJ.cells (h : LJ w V q d p a x mem) : V.cell? ⟨w.heap.size, 0, none⟩ = some (.int .u16 q.1) ∧ V.cell? ⟨w.heap.size, 1, none⟩ = some (.int .u8 q.2.1) ∧ V.cell? ⟨w.heap.size, 2, none⟩ = some (.int .u8 q.2.2.1) ∧ V.cell? ⟨w.heap.size, 3, none⟩ = some (.int .u32 q.2.2.2) :=
  ⟨h.ki.cell 0, h.ki.cell 1, h.ki.cell 2, h.ki.cell 3⟩
end
set_option maxRecDepth 100000 in
set_option maxHeartbeats 2000000 in
theorem loaded_any (q : Ins) (d : Dat) (hd : DatOk d) (p a x : Int) (mem : List Int) (hl : mem.length = 16) (hq : insO q) (h2 : formOf q.1 = 2 → rightB q.2.2.2 = true) (h3 : formOf q.1 = 3 → q.2.2.2 < 16) (w : World) (hK : Kinds w) :
    Calls Tryz.prog 131 #[valI q, datV d, .agg (mcC p a x mem)] w fun e w' => e = .returned (.int .u32 (ldI q (dW d) mem)) ∧ Below w.heap.size w w' := by
  obtain ⟨c, y, z, k⟩ := q
  have J := LJ.new (q := (c, y, z, k)) (d := d) (p := p) (a := a) (x := x) (mem := mem) w hK
  obtain ⟨hc0, hc1, y0', y1', z0', z1', k0, k1⟩ := hq
  simp only at h2 h3 hc0 hc1 k0 k1
  have F := form_any c _ J.kk
  simp only [valI, insV, datV, ldI, celI] at J F ⊢
  obtain ⟨i0, _, _, i3⟩ := J.cells
  simp only at i0 i3
  have B := J.old
  obtain ⟨r, hr⟩ : ∃ r, formOf c = r := ⟨_, rfl⟩
  rw [hr] at F h2 h3 ⊢
  clear hr
  by_cases r2 : r = 2
  · subst r2
    simp only [if_pos]
    obtain ⟨kn, hk16, ek, ek4⟩ := right_parts k ⟨k0, k1⟩ (h2 rfl)
    have W := word_ok d hd k ⟨k0, k1⟩ (h2 rfl) kn hk16 ek
    have ew : dW d k = (wordsL d).getD kn 0 := by unfold dW; rw [ek]; rfl
    rw [ew]
    unfold datV at W
    have kd := J.kd
    clear h2 h3 ek ew J ek4
    go_enter Tryz.func131, Tryz.ntmps131
    go_wp2_with fail
    refine F.mono ?_
    rintro e w' ⟨rfl, hw'⟩
    subst w'
    go_wp2_with (refine wpList_load_row rfl 64 (.tmp 4) rfl (w.heap.size + 1) rfl 64 (datC d) (0, 0) _ kd.blk Tryz.underlying64 rfl dat_info ?_)
    refine (W _).mono ?_
    rintro e w' ⟨rfl, hb⟩
    go_wp2_with fail
    go_ret
    exact ⟨rfl, B.trans (hb.mono B.size)⟩
  · rw [if_neg r2]
    by_cases r1 : r = 1
    · subst r1
      simp only [if_pos]
      clear h2 h3 J
      go_enter Tryz.func131, Tryz.ntmps131
      go_wp2_with fail
      refine F.mono ?_
      rintro e w' ⟨rfl, hw'⟩
      subst w'
      go_wp2_with fail
      go_ret
      exact ⟨rfl, B⟩
    · rw [if_neg r1]
      by_cases r3 : r = 3
      · subst r3
        simp only [if_pos]
        obtain ⟨kn, rfl⟩ : ∃ kn : Nat, k = (kn : Int) := ⟨k.toNat, by omega⟩
        have hkn := h3 rfl
        have m3 := (J.km.cell (3 + kn)).trans (mc_3 hl (by omega))
        rw [Int.toNat_natCast]
        clear h2 h3 J
        go_enter Tryz.func131, Tryz.ntmps131
        go_wp2_with fail
        refine F.mono ?_
        rintro e w' ⟨rfl, hw'⟩
        subst w'
        go_wp2_with fail
        go_ret
        exact ⟨rfl, B⟩
      · rw [if_neg r3]
        clear h2 h3 J
        go_enter Tryz.func131, Tryz.ntmps131
        go_wp2_with fail
        refine F.mono ?_
        rintro e w' ⟨rfl, hw'⟩
        subst w'
        go_wp2_with fail
        go_ret
        exact ⟨rfl, B⟩
end Go.Proofs.YtelfdpcenplhjaaGreatDoor
namespace Go.Proofs.YtelfdpcenplhjaaGreatDoor
open Go.RowKit
set_option linter.unusedVariables false
theorem cel_inf (q : Ins) : (Tryz.prog.info? 111).map (·.size) = some (celI q).toArray.size := (by kernel_rfl : (Tryz.prog.info? 111).map (·.size) = some 4)
def zerC : Array Value := mcC 0 0 0 (List.replicate 16 0)
theorem zer_lit : (#[.int .i64 0, .int .u32 0, .int .u32 0, .int .u32 0, .int .u32 0, .int .u32 0, .int .u32 0, .int .u32 0, .int .u32 0, .int .u32 0, .int .u32 0, .int .u32 0, .int .u32 0, .int .u32 0, .int .u32 0, .int .u32 0, .int .u32 0, .int .u32 0, .int .u32 0] : Array Value) = zerC := by simp [zerC, mcC, arrC, List.replicate]
theorem results_row_two {P : Program} {fn : Func} {p u v : Tmp} {ty : TypeId} (h : fn.results = #[.cell p ty, .tmp u, .tmp v]) (tmps : Array Value) (w : World) (g : Nat) (t : TypeId) (cs : Array Value) (fr : Nat × Nat) (d : TypeDesc)
    (hp : tmps.getD p undef = .pointer (some ⟨g, 0, none⟩)) (hg : w.heap[g]? = some (.cells cs t fr))
    (hu : P.underlying ty = some d) (hd : (match d with | .struct _ | .array _ _ => true | _ => false) = true) (hi : (P.info? ty).map (·.size) = some cs.size) (x y : Value) (hx : tmps.getD u undef = x) (hy : tmps.getD v undef = y) :
    (results fn tmps).run P w = .ok (.tuple #[.agg cs, x, y]) w := by
  subst hx hy
  have hp' : tmps[p]?.getD undef = .pointer (some ⟨g, 0, none⟩) := by simpa using hp
  simp [results, h, hp', asAddr, run_loadVar_row w g t ty cs fr d hg hu hd hi]
structure SJ (w V : World) (q : Ins) (d : Dat) (p a x : Int) (mem : List Int) (r t : Array Value) : Prop where
  j : LJ w V q d p a x mem
  kr : Blk V (w.heap.size + 1 + 1 + 1) r 149
  kt : Blk V (w.heap.size + 1 + 1 + 1 + 1) t 149
section
variable {w V V' : World} {q : Ins} {d : Dat} {p a x : Int} {mem : List Int} {r r' t t' : Array Value}
theorem SJ.below (h : SJ w V q d p a x mem r t) (hb : Below V.heap.size V V') : SJ w V' q d p a x mem r t := ⟨h.j.below hb, h.kr.below hb h.kr.lt, h.kt.below hb h.kt.lt⟩
theorem SJ.drew (h : SJ w V q d p a x mem r t) : SJ w V.drew q d p a x mem r t := h.below (Below.refl _ _).drew
theorem LJ.but (h : LJ w V q d p a x mem) {g : Nat} (n : But g V V') (hg : w.heap.size + 1 + 1 < g) : LJ w V' q d p a x mem :=
  have hb := n.below (w.heap.size + 1 + 1 + 1) (by omega) (by have := h.km.lt; omega)
  ⟨But.blk' n h.ki (by omega), But.blk' n h.kd (by omega), But.blk' n h.km (by omega), h.kk.below hb (by omega), h.old.trans (hb.mono (by omega))⟩
theorem SJ.set_ (h : SJ w V q d p a x mem r t) (k : Nat) (u : Value) (hu : t.setIfInBounds k u = t') : SJ w (V.setCell ⟨w.heap.size + 1 + 1 + 1 + 1, k, none⟩ u) q d p a x mem r t' := by
  subst hu
  have n : But (w.heap.size + 1 + 1 + 1 + 1) V (V.setCell ⟨w.heap.size + 1 + 1 + 1 + 1, k, none⟩ u) := But.setCell (But.refl _ _) (p := ⟨w.heap.size + 1 + 1 + 1 + 1, k, none⟩) (.inl rfl) u
  exact ⟨h.j.but n (by omega), But.blk' n h.kr (by omega), h.kt.set_ k u⟩
theorem SJ.out (h : SJ w V q d p a x mem r t) (n : But (w.heap.size + 1 + 1 + 1) V V') (k : Blk V' (w.heap.size + 1 + 1 + 1) r' 149) : SJ w V' q d p a x mem r' t :=
  ⟨h.j.but n (by omega), k, But.blk' n h.kt (by omega)⟩
theorem SJ.start {w3 : World} (hK : Kinds w) (n : But (w.heap.size + 1 + 1 + 1 + 1) (((((w.alloc (.cells (celI q).toArray 111)).alloc (.cells (datC d) 64)).alloc (.cells (mcC p a x mem) 149)).alloc (.cells r 149)).alloc (.cells t' 149)) w3)
    (k : Blk w3 (w.heap.size + 1 + 1 + 1 + 1) t 149) : SJ w w3 q d p a x mem r t :=
  have J := LJ.new (q := q) (d := d) (p := p) (a := a) (x := x) (mem := mem) w hK
  have J' := (J.below ((Below.refl _ _).alloc (Nat.le_refl _) (.cells r 149)))
  have J'' := (J'.below ((Below.refl _ _).alloc (Nat.le_refl _) (.cells t' 149)))
  have R := (Blk.new_ (((w.alloc (.cells (celI q).toArray 111)).alloc (.cells (datC d) 64)).alloc (.cells (mcC p a x mem) 149)) r 149 (n := w.heap.size + 1 + 1 + 1) (by simp)).alloc (.cells t' 149)
  ⟨J''.but n (by omega), But.blk' n R (by omega), k⟩
end
set_option maxRecDepth 100000 in
set_option maxHeartbeats 4000000 in
theorem step_ld (c y z k : Int) (d : Dat) (hd : DatOk d) (p a x : Int) (mem : List Int) (hl : mem.length = 16) (hq : InsOk c y z k) (ha : U32 a) (hx : U32 x) (hp : 0 ≤ p ∧ p ≤ 1000) (hcl : c % 8 = 0) (h2 : formOf c = 2 → rightB k = true) (h3 : formOf c = 3 → k < 16) (w : World) (hK : Kinds w) :
    Calls Tryz.prog 116 #[insV c y z k, datV d, .agg (mcC p a x mem)] w fun e w' => e = .returned (.tuple #[.agg (mcC (p + 1) (ldI (c, y, z, k) (dW d) mem) x mem), .int .u32 0, .bool false]) ∧ Below w.heap.size w w' := by
  obtain ⟨hp0, hp1⟩ := hp
  have hb7 := bits_7 c hq.c0 hq.c1
  rw [hcl] at hb7
  have KM : Blk ((((w.alloc (.cells (celI (c, y, z, k)).toArray 111)).alloc (.cells (datC d) 64)).alloc (.cells (mcC p a x mem) 149)).alloc (.cells zerC 149)) (w.heap.size + 1 + 1) (mcC p a x mem) 149 := (Blk.new_ _ _ _ (by simp)).alloc _
  have HL := fun V hK => loaded_any (c, y, z, k) d hd p a x mem hl hq h2 h3 V hK
  obtain ⟨v, hv⟩ : ∃ v, ldI (c, y, z, k) (dW d) mem = v := ⟨_, rfl⟩
  rw [hv] at HL ⊢
  simp only [valI, insV, datV] at HL
  clear hv h2 h3
  unfold insV datV
  go_enter Tryz.func116, Tryz.ntmps116
  go_wp2_with (first
    | (refine wpList_load_row rfl 149 (.tmp 5) rfl (w.heap.size + 1 + 1) rfl 149 (mcC p a x mem) (0, 0) _ KM.blk Tryz.underlying149 rfl (mc_inf hl) ?_)
    | (refine wpList_store_blk rfl 149 (.tmp 9) (.tmp 12) rfl (w.heap.size + 1 + 1 + 1 + 1) _ (mcC p a x mem) 149 rfl rfl (Blk.new_ _ _ _ (by simp)) (mc_size hl).symm (mc_inf hl) mc_one ?_
       intro w3 hw3 hn3
       have J3 := SJ.start (q := (c, y, z, k)) (d := d) (p := p) (a := a) (x := x) (mem := mem) hK hn3 hw3
       have J4 := Lib.hid (J3.set_ 0 (.int .i64 (p + 1)) (mc_s0 (p + 1)))
       have t0 := (J3.kt.cell 0).trans mc_0
       have f0 := J3.kt.frozen 0
       obtain ⟨i0, i1, i2, i3⟩ := J3.j.cells
       simp only at i0
       clear hn3 hw3 KM J3 i1 i2 i3)
    | (refine wpList_load_row rfl 111 (.tmp 3) rfl w.heap.size rfl 111 (celI (c, y, z, k)).toArray (0, 0) _ J4.out.j.ki.blk Tryz.underlying111 rfl (cel_inf _) ?_; simp only [celI])
    | (refine wpList_load_row rfl 64 (.tmp 4) rfl (w.heap.size + 1) rfl 64 (datC d) (0, 0) _ J4.out.j.kd.blk Tryz.underlying64 rfl dat_info ?_)
    | (refine wpList_load_row rfl 149 (.tmp 5) rfl (w.heap.size + 1 + 1) rfl 149 (mcC p a x mem) (0, 0) _ J4.out.j.km.blk Tryz.underlying149 rfl (mc_inf hl) ?_))
  have JJ := J4.out
  clear J4 t0 f0 i0
  generalize w3.setCell ⟨w.heap.size + 1 + 1 + 1 + 1, 0, none⟩ (.int .i64 (p + 1)) = V at JJ ⊢
  refine (HL V JJ.j.kk).mono ?_
  rintro e V' ⟨rfl, hb⟩
  have J5 := JJ.below hb
  have c1 := (J5.kt.cell 1).trans mc_1
  have f1 := J5.kt.frozen 1
  have J6 := Lib.hid (J5.set_ 1 (.int .u32 v) (mc_s1 v))
  clear hb JJ J5
  go_wp2_with (first
    | (refine wpList_load_row rfl 149 (.tmp 9) rfl (w.heap.size + 1 + 1 + 1 + 1) rfl 149 (mcC (p + 1) v x mem) (0, 0) _ J6.out.kt.blk Tryz.underlying149 rfl (mc_inf hl) ?_)
    | (refine wpList_store_blk rfl 149 (.tmp 6) (.tmp 93) rfl (w.heap.size + 1 + 1 + 1) _ (mcC (p + 1) v x mem) 149 rfl rfl J6.out.kr (mc_size hl).symm (mc_inf hl) mc_one ?_; intro w9 hw9 hn9))
  refine bodyPost_ret (v := .tuple #[.agg (mcC (p + 1) v x mem), .int .u32 0, .bool false]) (results_row_two rfl _ _ (w.heap.size + 1 + 1 + 1) 149 (mcC (p + 1) v x mem) (0, 0) _ rfl hw9.blk Tryz.underlying149 rfl (mc_inf hl) _ _ rfl rfl) rfl ?_
  exact ⟨rfl, (J6.out.out hn9 hw9).j.old⟩
set_option maxRecDepth 100000 in
set_option maxHeartbeats 4000000 in
theorem step_ldx (c y z k : Int) (d : Dat) (hd : DatOk d) (p a x : Int) (mem : List Int) (hl : mem.length = 16) (hq : InsOk c y z k) (ha : U32 a) (hx : U32 x) (hp : 0 ≤ p ∧ p ≤ 1000) (hcl : c % 8 = 1) (h2 : formOf c = 2 → rightB k = true) (h3 : formOf c = 3 → k < 16) (w : World) (hK : Kinds w) :
    Calls Tryz.prog 116 #[insV c y z k, datV d, .agg (mcC p a x mem)] w fun e w' => e = .returned (.tuple #[.agg (mcC (p + 1) a (ldI (c, y, z, k) (dW d) mem) mem), .int .u32 0, .bool false]) ∧ Below w.heap.size w w' := by
  obtain ⟨hp0, hp1⟩ := hp
  have hb7 := bits_7 c hq.c0 hq.c1
  rw [hcl] at hb7
  have KM : Blk ((((w.alloc (.cells (celI (c, y, z, k)).toArray 111)).alloc (.cells (datC d) 64)).alloc (.cells (mcC p a x mem) 149)).alloc (.cells zerC 149)) (w.heap.size + 1 + 1) (mcC p a x mem) 149 := (Blk.new_ _ _ _ (by simp)).alloc _
  have HL := fun V hK => loaded_any (c, y, z, k) d hd p a x mem hl hq h2 h3 V hK
  obtain ⟨v, hv⟩ : ∃ v, ldI (c, y, z, k) (dW d) mem = v := ⟨_, rfl⟩
  rw [hv] at HL ⊢
  simp only [valI, insV, datV] at HL
  clear hv h2 h3
  unfold insV datV
  go_enter Tryz.func116, Tryz.ntmps116
  go_wp2_with (first
    | (refine wpList_load_row rfl 149 (.tmp 5) rfl (w.heap.size + 1 + 1) rfl 149 (mcC p a x mem) (0, 0) _ KM.blk Tryz.underlying149 rfl (mc_inf hl) ?_)
    | (refine wpList_store_blk rfl 149 (.tmp 9) (.tmp 12) rfl (w.heap.size + 1 + 1 + 1 + 1) _ (mcC p a x mem) 149 rfl rfl (Blk.new_ _ _ _ (by simp)) (mc_size hl).symm (mc_inf hl) mc_one ?_
       intro w3 hw3 hn3
       have J3 := SJ.start (q := (c, y, z, k)) (d := d) (p := p) (a := a) (x := x) (mem := mem) hK hn3 hw3
       have J4 := Lib.hid (J3.set_ 0 (.int .i64 (p + 1)) (mc_s0 (p + 1)))
       have t0 := (J3.kt.cell 0).trans mc_0
       have f0 := J3.kt.frozen 0
       obtain ⟨i0, i1, i2, i3⟩ := J3.j.cells
       simp only at i0
       clear hn3 hw3 KM J3 i1 i2 i3)
    | (refine wpList_load_row rfl 111 (.tmp 3) rfl w.heap.size rfl 111 (celI (c, y, z, k)).toArray (0, 0) _ J4.out.j.ki.blk Tryz.underlying111 rfl (cel_inf _) ?_; simp only [celI])
    | (refine wpList_load_row rfl 64 (.tmp 4) rfl (w.heap.size + 1) rfl 64 (datC d) (0, 0) _ J4.out.j.kd.blk Tryz.underlying64 rfl dat_info ?_)
    | (refine wpList_load_row rfl 149 (.tmp 5) rfl (w.heap.size + 1 + 1) rfl 149 (mcC p a x mem) (0, 0) _ J4.out.j.km.blk Tryz.underlying149 rfl (mc_inf hl) ?_))
  have JJ := J4.out
  clear J4 t0 f0 i0
  generalize w3.setCell ⟨w.heap.size + 1 + 1 + 1 + 1, 0, none⟩ (.int .i64 (p + 1)) = V at JJ ⊢
  refine (HL V JJ.j.kk).mono ?_
  rintro e V' ⟨rfl, hb⟩
  have J5 := JJ.below hb
  have c1 := (J5.kt.cell 2).trans mc_2
  have f1 := J5.kt.frozen 2
  have J6 := Lib.hid (J5.set_ 2 (.int .u32 v) (mc_s2 v))
  clear hb JJ J5
  go_wp2_with (first
    | (refine wpList_load_row rfl 149 (.tmp 9) rfl (w.heap.size + 1 + 1 + 1 + 1) rfl 149 (mcC (p + 1) a v mem) (0, 0) _ J6.out.kt.blk Tryz.underlying149 rfl (mc_inf hl) ?_)
    | (refine wpList_store_blk rfl 149 (.tmp 6) (.tmp 93) rfl (w.heap.size + 1 + 1 + 1) _ (mcC (p + 1) a v mem) 149 rfl rfl J6.out.kr (mc_size hl).symm (mc_inf hl) mc_one ?_; intro w9 hw9 hn9))
  refine bodyPost_ret (v := .tuple #[.agg (mcC (p + 1) a v mem), .int .u32 0, .bool false]) (results_row_two rfl _ _ (w.heap.size + 1 + 1 + 1) 149 (mcC (p + 1) a v mem) (0, 0) _ rfl hw9.blk Tryz.underlying149 rfl (mc_inf hl) _ _ rfl rfl) rfl ?_
  exact ⟨rfl, (J6.out.out hn9 hw9).j.old⟩
set_option maxRecDepth 100000 in
set_option maxHeartbeats 4000000 in
theorem step_st (c y z k : Int) (d : Dat) (hd : DatOk d) (p a x : Int) (mem : List Int) (hl : mem.length = 16) (hq : InsOk c y z k) (ha : U32 a) (hx : U32 x) (hp : 0 ≤ p ∧ p ≤ 1000) (hcl : c % 8 = 2) (kn : Nat) (hkn : k = (kn : Int)) (h16 : kn < 16) (w : World) (hK : Kinds w) :
    Calls Tryz.prog 116 #[insV c y z k, datV d, .agg (mcC p a x mem)] w fun e w' => e = .returned (.tuple #[.agg (mcC (p + 1) a x (mem.set kn a)), .int .u32 0, .bool false]) ∧ Below w.heap.size w w' := by
  obtain ⟨hp0, hp1⟩ := hp
  have hb7 := bits_7 c hq.c0 hq.c1
  rw [hcl] at hb7
  have KM : Blk ((((w.alloc (.cells (celI (c, y, z, (kn : Int))).toArray 111)).alloc (.cells (datC d) 64)).alloc (.cells (mcC p a x mem) 149)).alloc (.cells zerC 149)) (w.heap.size + 1 + 1) (mcC p a x mem) 149 := (Blk.new_ _ _ _ (by simp)).alloc _
  subst hkn
  have hl6 : (mem.set kn a).length = 16 := by simp [hl]
  have hk16 : (kn : Int) < 16 := by omega
  unfold insV datV
  go_enter Tryz.func116, Tryz.ntmps116
  go_wp2_with (first
    | (refine wpList_load_row rfl 149 (.tmp 5) rfl (w.heap.size + 1 + 1) rfl 149 (mcC p a x mem) (0, 0) _ KM.blk Tryz.underlying149 rfl (mc_inf hl) ?_)
    | (refine wpList_store_blk rfl 149 (.tmp 9) (.tmp 12) rfl (w.heap.size + 1 + 1 + 1 + 1) _ (mcC p a x mem) 149 rfl rfl (Blk.new_ _ _ _ (by simp)) (mc_size hl).symm (mc_inf hl) mc_one ?_
       intro w3 hw3 hn3
       have J3 := SJ.start (q := (c, y, z, (kn : Int))) (d := d) (p := p) (a := a) (x := x) (mem := mem) hK hn3 hw3
       have J4 := Lib.hid (J3.set_ 0 (.int .i64 (p + 1)) (mc_s0 (p + 1)))
       have t0 := (J3.kt.cell 0).trans mc_0
       have f0 := J3.kt.frozen 0
       obtain ⟨i0, i1, i2, i3⟩ := J3.j.cells
       simp only at i0
       simp only at i3
       have mv := (J3.j.km.cell 1).trans mc_1
       have t3 := (J3.kt.cell (3 + kn)).trans (mc_3 hl h16)
       have f3 := J3.kt.frozen (3 + kn)
       have J6 := Lib.hid (J4.out.set_ (3 + kn) (.int .u32 a) (mc_s3 kn a))
       clear hn3 hw3 KM J3 i1 i2)
    | (refine wpList_load_row rfl 149 (.tmp 9) rfl (w.heap.size + 1 + 1 + 1 + 1) rfl 149 (mcC (p + 1) a x (mem.set kn a)) (0, 0) _ J6.out.kt.blk Tryz.underlying149 rfl (mc_inf hl6) ?_)
    | (refine wpList_store_blk rfl 149 (.tmp 6) (.tmp 93) rfl (w.heap.size + 1 + 1 + 1) _ (mcC (p + 1) a x (mem.set kn a)) 149 rfl rfl J6.out.kr (mc_size hl6).symm (mc_inf hl6) mc_one ?_; intro w9 hw9 hn9))
  refine bodyPost_ret (v := .tuple #[.agg (mcC (p + 1) a x (mem.set kn a)), .int .u32 (0), .bool false]) (results_row_two rfl _ _ (w.heap.size + 1 + 1 + 1) 149 (mcC (p + 1) a x (mem.set kn a)) (0, 0) _ rfl hw9.blk Tryz.underlying149 rfl (mc_inf hl6) _ _ rfl rfl) rfl ?_
  exact ⟨rfl, (J6.out.out hn9 hw9).j.old⟩
set_option maxRecDepth 100000 in
set_option maxHeartbeats 4000000 in
theorem step_stx (c y z k : Int) (d : Dat) (hd : DatOk d) (p a x : Int) (mem : List Int) (hl : mem.length = 16) (hq : InsOk c y z k) (ha : U32 a) (hx : U32 x) (hp : 0 ≤ p ∧ p ≤ 1000) (hcl : c % 8 = 3) (kn : Nat) (hkn : k = (kn : Int)) (h16 : kn < 16) (w : World) (hK : Kinds w) :
    Calls Tryz.prog 116 #[insV c y z k, datV d, .agg (mcC p a x mem)] w fun e w' => e = .returned (.tuple #[.agg (mcC (p + 1) a x (mem.set kn x)), .int .u32 0, .bool false]) ∧ Below w.heap.size w w' := by
  obtain ⟨hp0, hp1⟩ := hp
  have hb7 := bits_7 c hq.c0 hq.c1
  rw [hcl] at hb7
  have KM : Blk ((((w.alloc (.cells (celI (c, y, z, (kn : Int))).toArray 111)).alloc (.cells (datC d) 64)).alloc (.cells (mcC p a x mem) 149)).alloc (.cells zerC 149)) (w.heap.size + 1 + 1) (mcC p a x mem) 149 := (Blk.new_ _ _ _ (by simp)).alloc _
  subst hkn
  have hl6 : (mem.set kn x).length = 16 := by simp [hl]
  have hk16 : (kn : Int) < 16 := by omega
  unfold insV datV
  go_enter Tryz.func116, Tryz.ntmps116
  go_wp2_with (first
    | (refine wpList_load_row rfl 149 (.tmp 5) rfl (w.heap.size + 1 + 1) rfl 149 (mcC p a x mem) (0, 0) _ KM.blk Tryz.underlying149 rfl (mc_inf hl) ?_)
    | (refine wpList_store_blk rfl 149 (.tmp 9) (.tmp 12) rfl (w.heap.size + 1 + 1 + 1 + 1) _ (mcC p a x mem) 149 rfl rfl (Blk.new_ _ _ _ (by simp)) (mc_size hl).symm (mc_inf hl) mc_one ?_
       intro w3 hw3 hn3
       have J3 := SJ.start (q := (c, y, z, (kn : Int))) (d := d) (p := p) (a := a) (x := x) (mem := mem) hK hn3 hw3
       have J4 := Lib.hid (J3.set_ 0 (.int .i64 (p + 1)) (mc_s0 (p + 1)))
       have t0 := (J3.kt.cell 0).trans mc_0
       have f0 := J3.kt.frozen 0
       obtain ⟨i0, i1, i2, i3⟩ := J3.j.cells
       simp only at i0
       simp only at i3
       have mv := (J3.j.km.cell 2).trans mc_2
       have t3 := (J3.kt.cell (3 + kn)).trans (mc_3 hl h16)
       have f3 := J3.kt.frozen (3 + kn)
       have J6 := Lib.hid (J4.out.set_ (3 + kn) (.int .u32 x) (mc_s3 kn x))
       clear hn3 hw3 KM J3 i1 i2)
    | (refine wpList_load_row rfl 149 (.tmp 9) rfl (w.heap.size + 1 + 1 + 1 + 1) rfl 149 (mcC (p + 1) a x (mem.set kn x)) (0, 0) _ J6.out.kt.blk Tryz.underlying149 rfl (mc_inf hl6) ?_)
    | (refine wpList_store_blk rfl 149 (.tmp 6) (.tmp 93) rfl (w.heap.size + 1 + 1 + 1) _ (mcC (p + 1) a x (mem.set kn x)) 149 rfl rfl J6.out.kr (mc_size hl6).symm (mc_inf hl6) mc_one ?_; intro w9 hw9 hn9))
  refine bodyPost_ret (v := .tuple #[.agg (mcC (p + 1) a x (mem.set kn x)), .int .u32 (0), .bool false]) (results_row_two rfl _ _ (w.heap.size + 1 + 1 + 1) 149 (mcC (p + 1) a x (mem.set kn x)) (0, 0) _ rfl hw9.blk Tryz.underlying149 rfl (mc_inf hl6) _ _ rfl rfl) rfl ?_
  exact ⟨rfl, (J6.out.out hn9 hw9).j.old⟩
set_option maxRecDepth 100000 in
set_option maxHeartbeats 4000000 in
theorem step_mov (c y z k : Int) (d : Dat) (hd : DatOk d) (p a x : Int) (mem : List Int) (hl : mem.length = 16) (hq : InsOk c y z k) (ha : U32 a) (hx : U32 x) (hp : 0 ≤ p ∧ p ≤ 1000) (hcl : c % 8 = 7) (w : World) (hK : Kinds w) :
    Calls Tryz.prog 116 #[insV c y z k, datV d, .agg (mcC p a x mem)] w fun e w' => e = .returned (.tuple #[.agg (mcC (p + 1) (if (nameOf c).1.toList = [116, 97, 120] then a else x) (if (nameOf c).1.toList = [116, 97, 120] then a else x) mem), .int .u32 0, .bool false]) ∧ Below w.heap.size w w' := by
  obtain ⟨hp0, hp1⟩ := hp
  have hb7 := bits_7 c hq.c0 hq.c1
  rw [hcl] at hb7
  have KM : Blk ((((w.alloc (.cells (celI (c, y, z, k)).toArray 111)).alloc (.cells (datC d) 64)).alloc (.cells (mcC p a x mem) 149)).alloc (.cells zerC 149)) (w.heap.size + 1 + 1) (mcC p a x mem) 149 := (Blk.new_ _ _ _ (by simp)).alloc _
  have HL := fun V hK => moved_any c y z k p a x mem V hK
  obtain ⟨v, hv⟩ : ∃ v, (if (nameOf c).1.toList = [116, 97, 120] then a else x) = v := ⟨_, rfl⟩
  rw [hv] at HL ⊢
  simp only [insV] at HL
  clear hv
  unfold insV datV
  go_enter Tryz.func116, Tryz.ntmps116
  go_wp2_with (first
    | (refine wpList_load_row rfl 149 (.tmp 5) rfl (w.heap.size + 1 + 1) rfl 149 (mcC p a x mem) (0, 0) _ KM.blk Tryz.underlying149 rfl (mc_inf hl) ?_)
    | (refine wpList_store_blk rfl 149 (.tmp 9) (.tmp 12) rfl (w.heap.size + 1 + 1 + 1 + 1) _ (mcC p a x mem) 149 rfl rfl (Blk.new_ _ _ _ (by simp)) (mc_size hl).symm (mc_inf hl) mc_one ?_
       intro w3 hw3 hn3
       have J3 := SJ.start (q := (c, y, z, k)) (d := d) (p := p) (a := a) (x := x) (mem := mem) hK hn3 hw3
       have J4 := Lib.hid (J3.set_ 0 (.int .i64 (p + 1)) (mc_s0 (p + 1)))
       have t0 := (J3.kt.cell 0).trans mc_0
       have f0 := J3.kt.frozen 0
       obtain ⟨i0, i1, i2, i3⟩ := J3.j.cells
       simp only at i0
       clear hn3 hw3 KM J3 i1 i2 i3)
    | (refine wpList_load_row rfl 111 (.tmp 3) rfl w.heap.size rfl 111 (celI (c, y, z, k)).toArray (0, 0) _ J4.out.j.ki.blk Tryz.underlying111 rfl (cel_inf _) ?_; simp only [celI])
    | (refine wpList_load_row rfl 149 (.tmp 5) rfl (w.heap.size + 1 + 1) rfl 149 (mcC p a x mem) (0, 0) _ J4.out.j.km.blk Tryz.underlying149 rfl (mc_inf hl) ?_))
  have JJ := J4.out
  clear J4 t0 f0 i0
  generalize w3.setCell ⟨w.heap.size + 1 + 1 + 1 + 1, 0, none⟩ (.int .i64 (p + 1)) = V at JJ ⊢
  refine (HL V JJ.j.kk).mono ?_
  rintro e V' ⟨rfl, hb⟩
  have J5 := JJ.below hb
  have c1 := (J5.kt.cell 1).trans mc_1
  have f1 := J5.kt.frozen 1
  have c2 := (J5.kt.cell 2).trans mc_2
  have f2 := J5.kt.frozen 2
  have J6 := Lib.hid ((J5.set_ 1 (.int .u32 v) (mc_s1 v)).set_ 2 (.int .u32 v) (mc_s2 v))
  clear hb JJ J5
  go_wp2_with (first
    | (refine wpList_load_row rfl 149 (.tmp 9) rfl (w.heap.size + 1 + 1 + 1 + 1) rfl 149 (mcC (p + 1) v v mem) (0, 0) _ J6.out.kt.blk Tryz.underlying149 rfl (mc_inf hl) ?_)
    | (refine wpList_store_blk rfl 149 (.tmp 6) (.tmp 93) rfl (w.heap.size + 1 + 1 + 1) _ (mcC (p + 1) v v mem) 149 rfl rfl J6.out.kr (mc_size hl).symm (mc_inf hl) mc_one ?_; intro w9 hw9 hn9))
  refine bodyPost_ret (v := .tuple #[.agg (mcC (p + 1) v v mem), .int .u32 (0), .bool false]) (results_row_two rfl _ _ (w.heap.size + 1 + 1 + 1) 149 (mcC (p + 1) v v mem) (0, 0) _ rfl hw9.blk Tryz.underlying149 rfl (mc_inf hl) _ _ rfl rfl) rfl ?_
  exact ⟨rfl, (J6.out.out hn9 hw9).j.old⟩
set_option maxRecDepth 100000 in
set_option maxHeartbeats 4000000 in
theorem step_alu (c y z k : Int) (d : Dat) (hd : DatOk d) (p a x : Int) (mem : List Int) (hl : mem.length = 16) (hq : InsOk c y z k) (ha : U32 a) (hx : U32 x) (hp : 0 ≤ p ∧ p ≤ 1000) (hcl : c % 8 = 4) (v : Int) (hv : alI c a (if formOf c = 1 ∨ formOf c = 5 then k else x) = some v) (w : World) (hK : Kinds w) :
    Calls Tryz.prog 116 #[insV c y z k, datV d, .agg (mcC p a x mem)] w fun e w' => e = .returned (.tuple #[.agg (mcC (p + 1) v x mem), .int .u32 0, .bool false]) ∧ Below w.heap.size w w' := by
  obtain ⟨hp0, hp1⟩ := hp
  have hb7 := bits_7 c hq.c0 hq.c1
  rw [hcl] at hb7
  have KM : Blk ((((w.alloc (.cells (celI (c, y, z, k)).toArray 111)).alloc (.cells (datC d) 64)).alloc (.cells (mcC p a x mem) 149)).alloc (.cells zerC 149)) (w.heap.size + 1 + 1) (mcC p a x mem) 149 := (Blk.new_ _ _ _ (by simp)).alloc _
  have HS := fun V hK => second_any c y z k p a x mem V hK
  obtain ⟨b, hb⟩ : ∃ b, (if formOf c = 1 ∨ formOf c = 5 then k else x) = b := ⟨_, rfl⟩
  have hbU : U32 b := by rw [← hb]; split; exact ⟨hq.k0, hq.k1⟩; exact hx
  rw [hb] at HS hv
  have HA := fun V => alu_any c a b hq.c0 hq.c1 ha hbU V
  have e1 : aluV c a b = v := by unfold aluV; rw [hv]
  have e2 : aluB c a b = true := by unfold aluB; rw [hv]
  rw [e1, e2] at HA
  simp only [insV] at HS
  clear hb hv e1 e2 hbU
  have S' := Lib.hid (calls_keep (S := fun V => SJ w V (c, y, z, k) d p a x mem zerC (mcC (p + 1) a x mem)) (fun V V' h hb => h.below hb) (fun V h => HS V h.j.kk))
  have H' := Lib.hid (calls_keep (S := fun V => SJ w V (c, y, z, k) d p a x mem zerC (mcC (p + 1) a x mem)) (fun V V' h hb => h.below hb) (fun V _ => HA V))
  clear HS HA
  unfold insV datV
  go_enter Tryz.func116, Tryz.ntmps116
  go_wp2_with (first
    | (refine wpList_load_row rfl 149 (.tmp 5) rfl (w.heap.size + 1 + 1) rfl 149 (mcC p a x mem) (0, 0) _ KM.blk Tryz.underlying149 rfl (mc_inf hl) ?_)
    | (refine wpList_store_blk rfl 149 (.tmp 9) (.tmp 12) rfl (w.heap.size + 1 + 1 + 1 + 1) _ (mcC p a x mem) 149 rfl rfl (Blk.new_ _ _ _ (by simp)) (mc_size hl).symm (mc_inf hl) mc_one ?_
       intro w3 hw3 hn3
       have J3 := SJ.start (q := (c, y, z, k)) (d := d) (p := p) (a := a) (x := x) (mem := mem) hK hn3 hw3
       have J4 := Lib.hid (J3.set_ 0 (.int .i64 (p + 1)) (mc_s0 (p + 1)))
       have t0 := (J3.kt.cell 0).trans mc_0
       have f0 := J3.kt.frozen 0
       obtain ⟨i0, i1, i2, i3⟩ := J3.j.cells
       simp only at i0
       clear hn3 hw3 KM J3 i1 i2 i3))
  have JJ := J4.out
  rw [zer_lit] at JJ
  clear J4 t0 f0 i0
  generalize w3.setCell ⟨w.heap.size + 1 + 1 + 1 + 1, 0, none⟩ (.int .i64 (p + 1)) = V0 at JJ ⊢
  have J0 := JJ.drew
  have hS1 : ∀ s : Sig (fun V => SJ w V (c, y, z, k) d p a x mem zerC (mcC (p + 1) a x mem)), s.V.cell? ⟨w.heap.size, 0, none⟩ = some (.int .u16 c) := fun s => s.h.j.ki.cell 0
  have hS2 : ∀ s : Sig (fun V => SJ w V (c, y, z, k) d p a x mem zerC (mcC (p + 1) a x mem)), s.V.cell? ⟨w.heap.size + 1 + 1, 1, none⟩ = some (.int .u32 a) := fun s => (s.h.j.km.cell 1).trans mc_1
  have hS3 : ∀ s : Sig (fun V => SJ w V (c, y, z, k) d p a x mem zerC (mcC (p + 1) a x mem)), s.V.cell? ⟨w.heap.size + 1 + 1 + 1 + 1, 0, none⟩ = some (.int .i64 (p + 1)) := fun s => (s.h.kt.cell 0).trans mc_0
  have hne : Nonempty (Sig (fun V => SJ w V (c, y, z, k) d p a x mem zerC (mcC (p + 1) a x mem))) := ⟨⟨_, J0⟩⟩
  refine region_class (S := fun V => SJ w V (c, y, z, k) d p a x mem zerC (mcC (p + 1) a x mem)) (by kernel_rfl) (by kernel_rfl) J0 ?_
  repeat (first
    | (refine class_load (by rfl) 111 (.tmp 3) rfl w.heap.size rfl (celI (c, y, z, k)).toArray 111 _ (fun _ h => h.j.ki) Tryz.underlying111 rfl (cel_inf _) ?_; simp only [celI, Act.put, List.setIfInBounds_toArray, List.set_cons_zero, List.set_cons_succ])
    | (refine class_load (by rfl) 149 (.tmp 5) rfl (w.heap.size + 1 + 1) rfl (mcC p a x mem) 149 _ (fun _ h => h.j.km) Tryz.underlying149 rfl (mc_inf hl) ?_; simp only [Act.put, List.setIfInBounds_toArray, List.set_cons_zero, List.set_cons_succ])
    | go_big_quiet_step (first | (go_at_call 133; exact class_call _ S'.out) | (go_at_call 132; exact class_call _ H'.out)))
  refine wpQuiet_nil ?_
  rintro _ ⟨⟨V, J7⟩, rfl⟩
  clear hS1 hS2 hS3 hne J0 S' H'
  have c1 := (J7.kt.cell 1).trans mc_1
  have f1 := J7.kt.frozen 1
  have J6 := Lib.hid (J7.set_ 1 (.int .u32 v) (mc_s1 v))
  clear J7 JJ
  go_wp2_with (first
    | (refine wpList_load_row rfl 149 (.tmp 9) rfl (w.heap.size + 1 + 1 + 1 + 1) rfl 149 (mcC (p + 1) v x mem) (0, 0) _ J6.out.kt.blk Tryz.underlying149 rfl (mc_inf hl) ?_)
    | (refine wpList_store_blk rfl 149 (.tmp 6) (.tmp 93) rfl (w.heap.size + 1 + 1 + 1) _ (mcC (p + 1) v x mem) 149 rfl rfl J6.out.kr (mc_size hl).symm (mc_inf hl) mc_one ?_; intro w9 hw9 hn9))
  refine bodyPost_ret (v := .tuple #[.agg (mcC (p + 1) v x mem), .int .u32 (0), .bool false]) (results_row_two rfl _ _ (w.heap.size + 1 + 1 + 1) 149 (mcC (p + 1) v x mem) (0, 0) _ rfl hw9.blk Tryz.underlying149 rfl (mc_inf hl) _ _ rfl rfl) rfl ?_
  exact ⟨rfl, (J6.out.out hn9 hw9).j.old⟩
set_option maxRecDepth 100000 in
set_option maxHeartbeats 4000000 in
theorem step_div (c y z k : Int) (d : Dat) (hd : DatOk d) (p a x : Int) (mem : List Int) (hl : mem.length = 16) (hq : InsOk c y z k) (ha : U32 a) (hx : U32 x) (hp : 0 ≤ p ∧ p ≤ 1000) (hcl : c % 8 = 4) (hv : alI c a (if formOf c = 1 ∨ formOf c = 5 then k else x) = none) (w : World) (hK : Kinds w) :
    Calls Tryz.prog 116 #[insV c y z k, datV d, .agg (mcC p a x mem)] w fun e w' => e = .returned (.tuple #[.agg (mcC p a x mem), .int .u32 0, .bool true]) ∧ Below w.heap.size w w' := by
  obtain ⟨hp0, hp1⟩ := hp
  have hb7 := bits_7 c hq.c0 hq.c1
  rw [hcl] at hb7
  have KM : Blk ((((w.alloc (.cells (celI (c, y, z, k)).toArray 111)).alloc (.cells (datC d) 64)).alloc (.cells (mcC p a x mem) 149)).alloc (.cells zerC 149)) (w.heap.size + 1 + 1) (mcC p a x mem) 149 := (Blk.new_ _ _ _ (by simp)).alloc _
  have HS := fun V hK => second_any c y z k p a x mem V hK
  obtain ⟨b, hb⟩ : ∃ b, (if formOf c = 1 ∨ formOf c = 5 then k else x) = b := ⟨_, rfl⟩
  have hbU : U32 b := by rw [← hb]; split; exact ⟨hq.k0, hq.k1⟩; exact hx
  rw [hb] at HS hv
  have HA := fun V => alu_any c a b hq.c0 hq.c1 ha hbU V
  have e1 : aluV c a b = 0 := by unfold aluV; rw [hv]
  have e2 : aluB c a b = false := by unfold aluB; rw [hv]
  rw [e1, e2] at HA
  simp only [insV] at HS
  clear hb hv e1 e2 hbU
  have S' := Lib.hid (calls_keep (S := fun V => SJ w V (c, y, z, k) d p a x mem zerC (mcC (p + 1) a x mem)) (fun V V' h hb => h.below hb) (fun V h => HS V h.j.kk))
  have H' := Lib.hid (calls_keep (S := fun V => SJ w V (c, y, z, k) d p a x mem zerC (mcC (p + 1) a x mem)) (fun V V' h hb => h.below hb) (fun V _ => HA V))
  clear HS HA
  unfold insV datV
  go_enter Tryz.func116, Tryz.ntmps116
  go_wp2_with (first
    | (refine wpList_load_row rfl 149 (.tmp 5) rfl (w.heap.size + 1 + 1) rfl 149 (mcC p a x mem) (0, 0) _ KM.blk Tryz.underlying149 rfl (mc_inf hl) ?_)
    | (refine wpList_store_blk rfl 149 (.tmp 9) (.tmp 12) rfl (w.heap.size + 1 + 1 + 1 + 1) _ (mcC p a x mem) 149 rfl rfl (Blk.new_ _ _ _ (by simp)) (mc_size hl).symm (mc_inf hl) mc_one ?_
       intro w3 hw3 hn3
       have J3 := SJ.start (q := (c, y, z, k)) (d := d) (p := p) (a := a) (x := x) (mem := mem) hK hn3 hw3
       have J4 := Lib.hid (J3.set_ 0 (.int .i64 (p + 1)) (mc_s0 (p + 1)))
       have t0 := (J3.kt.cell 0).trans mc_0
       have f0 := J3.kt.frozen 0
       obtain ⟨i0, i1, i2, i3⟩ := J3.j.cells
       simp only at i0
       clear hn3 hw3 KM J3 i1 i2 i3))
  have JJ := J4.out
  rw [zer_lit] at JJ
  clear J4 t0 f0 i0
  generalize w3.setCell ⟨w.heap.size + 1 + 1 + 1 + 1, 0, none⟩ (.int .i64 (p + 1)) = V0 at JJ ⊢
  have J0 := JJ.drew
  have hS1 : ∀ s : Sig (fun V => SJ w V (c, y, z, k) d p a x mem zerC (mcC (p + 1) a x mem)), s.V.cell? ⟨w.heap.size, 0, none⟩ = some (.int .u16 c) := fun s => s.h.j.ki.cell 0
  have hS2 : ∀ s : Sig (fun V => SJ w V (c, y, z, k) d p a x mem zerC (mcC (p + 1) a x mem)), s.V.cell? ⟨w.heap.size + 1 + 1, 1, none⟩ = some (.int .u32 a) := fun s => (s.h.j.km.cell 1).trans mc_1
  have hS3 : ∀ s : Sig (fun V => SJ w V (c, y, z, k) d p a x mem zerC (mcC (p + 1) a x mem)), s.V.cell? ⟨w.heap.size + 1 + 1 + 1 + 1, 0, none⟩ = some (.int .i64 (p + 1)) := fun s => (s.h.kt.cell 0).trans mc_0
  have hne : Nonempty (Sig (fun V => SJ w V (c, y, z, k) d p a x mem zerC (mcC (p + 1) a x mem))) := ⟨⟨_, J0⟩⟩
  refine region_class (S := fun V => SJ w V (c, y, z, k) d p a x mem zerC (mcC (p + 1) a x mem)) (by kernel_rfl) (by kernel_rfl) J0 ?_
  repeat (first
    | (refine class_load (by rfl) 111 (.tmp 3) rfl w.heap.size rfl (celI (c, y, z, k)).toArray 111 _ (fun _ h => h.j.ki) Tryz.underlying111 rfl (cel_inf _) ?_; simp only [celI, Act.put, List.setIfInBounds_toArray, List.set_cons_zero, List.set_cons_succ])
    | (refine class_load (by rfl) 149 (.tmp 5) rfl (w.heap.size + 1 + 1) rfl (mcC p a x mem) 149 _ (fun _ h => h.j.km) Tryz.underlying149 rfl (mc_inf hl) ?_; simp only [Act.put, List.setIfInBounds_toArray, List.set_cons_zero, List.set_cons_succ])
    | go_big_quiet_step (first | (go_at_call 133; exact class_call _ S'.out) | (go_at_call 132; exact class_call _ H'.out)))
  refine wpQuiet_nil ?_
  rintro _ ⟨⟨V, J7⟩, rfl⟩
  clear hS1 hS2 hS3 hne J0 S' H'
  have J6 := Lib.hid J7
  clear J7 JJ
  go_wp2_with (first
    | (refine wpList_load_row rfl 149 (.tmp 5) rfl (w.heap.size + 1 + 1) rfl 149 (mcC p a x mem) (0, 0) _ J6.out.j.km.blk Tryz.underlying149 rfl (mc_inf hl) ?_)
    | (refine wpList_store_blk rfl 149 (.tmp 6) (.tmp 65) rfl (w.heap.size + 1 + 1 + 1) _ (mcC p a x mem) 149 rfl rfl J6.out.kr (mc_size hl).symm (mc_inf hl) mc_one ?_; intro w9 hw9 hn9))
  refine bodyPost_ret (v := .tuple #[.agg (mcC p a x mem), .int .u32 (0), .bool true]) (results_row_two rfl _ _ (w.heap.size + 1 + 1 + 1) 149 (mcC p a x mem) (0, 0) _ rfl hw9.blk Tryz.underlying149 rfl (mc_inf hl) _ _ rfl rfl) rfl ?_
  exact ⟨rfl, (J6.out.out hn9 hw9).j.old⟩
set_option maxRecDepth 100000 in
set_option maxHeartbeats 4000000 in
theorem step_jump (c y z k : Int) (d : Dat) (hd : DatOk d) (p a x : Int) (mem : List Int) (hl : mem.length = 16) (hq : InsOk c y z k) (ha : U32 a) (hx : U32 x) (hp : 0 ≤ p ∧ p ≤ 1000) (hcl : c % 8 = 5) (f : Int) (hf : furI (c, y, z, k) a x = f) (hf0 : 0 ≤ f ∧ f ≤ 1000) (w : World) (hK : Kinds w) :
    Calls Tryz.prog 116 #[insV c y z k, datV d, .agg (mcC p a x mem)] w fun e w' => e = .returned (.tuple #[.agg (mcC (p + 1 + f) a x mem), .int .u32 0, .bool false]) ∧ Below w.heap.size w w' := by
  obtain ⟨hp0, hp1⟩ := hp
  have hb7 := bits_7 c hq.c0 hq.c1
  rw [hcl] at hb7
  have KM : Blk ((((w.alloc (.cells (celI (c, y, z, k)).toArray 111)).alloc (.cells (datC d) 64)).alloc (.cells (mcC p a x mem) 149)).alloc (.cells zerC 149)) (w.heap.size + 1 + 1) (mcC p a x mem) 149 := (Blk.new_ _ _ _ (by simp)).alloc _
  obtain ⟨hf0, hf1⟩ := hf0
  have HS := fun V hK => further_any (c, y, z, k) p a x mem hl hq ha hx V hK
  rw [hf] at HS
  simp only [valI, insV] at HS
  have S' := Lib.hid (calls_keep (S := fun V => SJ w V (c, y, z, k) d p a x mem zerC (mcC (p + 1) a x mem)) (fun V V' h hb => h.below hb) (fun V h => HS V h.j.kk))
  clear HS hf
  unfold insV datV
  go_enter Tryz.func116, Tryz.ntmps116
  go_wp2_with (first
    | (refine wpList_load_row rfl 149 (.tmp 5) rfl (w.heap.size + 1 + 1) rfl 149 (mcC p a x mem) (0, 0) _ KM.blk Tryz.underlying149 rfl (mc_inf hl) ?_)
    | (refine wpList_store_blk rfl 149 (.tmp 9) (.tmp 12) rfl (w.heap.size + 1 + 1 + 1 + 1) _ (mcC p a x mem) 149 rfl rfl (Blk.new_ _ _ _ (by simp)) (mc_size hl).symm (mc_inf hl) mc_one ?_
       intro w3 hw3 hn3
       have J3 := SJ.start (q := (c, y, z, k)) (d := d) (p := p) (a := a) (x := x) (mem := mem) hK hn3 hw3
       have J4 := Lib.hid (J3.set_ 0 (.int .i64 (p + 1)) (mc_s0 (p + 1)))
       have t0 := (J3.kt.cell 0).trans mc_0
       have f0 := J3.kt.frozen 0
       obtain ⟨i0, i1, i2, i3⟩ := J3.j.cells
       simp only at i0
       clear hn3 hw3 KM J3 i1 i2 i3))
  have JJ := J4.out
  rw [zer_lit] at JJ
  clear J4 t0 f0 i0
  generalize w3.setCell ⟨w.heap.size + 1 + 1 + 1 + 1, 0, none⟩ (.int .i64 (p + 1)) = V0 at JJ ⊢
  have J0 := JJ.drew
  have hS1 : ∀ s : Sig (fun V => SJ w V (c, y, z, k) d p a x mem zerC (mcC (p + 1) a x mem)), s.V.cell? ⟨w.heap.size, 0, none⟩ = some (.int .u16 c) := fun s => s.h.j.ki.cell 0
  have hS2 : ∀ s : Sig (fun V => SJ w V (c, y, z, k) d p a x mem zerC (mcC (p + 1) a x mem)), s.V.cell? ⟨w.heap.size + 1 + 1, 1, none⟩ = some (.int .u32 a) := fun s => (s.h.j.km.cell 1).trans mc_1
  have hS3 : ∀ s : Sig (fun V => SJ w V (c, y, z, k) d p a x mem zerC (mcC (p + 1) a x mem)), s.V.cell? ⟨w.heap.size + 1 + 1 + 1 + 1, 0, none⟩ = some (.int .i64 (p + 1)) := fun s => (s.h.kt.cell 0).trans mc_0
  have hne : Nonempty (Sig (fun V => SJ w V (c, y, z, k) d p a x mem zerC (mcC (p + 1) a x mem))) := ⟨⟨_, J0⟩⟩
  have s1 : IntKind.i64.wrap (p + 1 + f) = p + 1 + f := by rw [IntKind.wrap_i64]; omega
  refine region_class_tail (S := fun V => SJ w V (c, y, z, k) d p a x mem zerC (mcC (p + 1) a x mem)) 7 (by kernel_rfl) (by kernel_rfl) J0 ?_
  simp only [List.take_succ_cons, List.take_zero, List.drop_succ_cons, List.drop_zero]
  repeat (first
    | (refine class_load (by rfl) 111 (.tmp 3) rfl w.heap.size rfl (celI (c, y, z, k)).toArray 111 _ (fun _ h => h.j.ki) Tryz.underlying111 rfl (cel_inf _) ?_; simp only [celI, Act.put, List.setIfInBounds_toArray, List.set_cons_zero, List.set_cons_succ])
    | (refine class_load (by rfl) 149 (.tmp 5) rfl (w.heap.size + 1 + 1) rfl (mcC p a x mem) 149 _ (fun _ h => h.j.km) Tryz.underlying149 rfl (mc_inf hl) ?_; simp only [Act.put, List.setIfInBounds_toArray, List.set_cons_zero, List.set_cons_succ])
    | go_big_quiet_step (first | (go_at_call 134; exact class_call _ S'.out)))
  refine wpQuiet_nil ?_
  rintro ⟨V, J7⟩
  dsimp only
  clear hS1 hS2 hS3 hne J0 S' s1
  have c1 := (J7.kt.cell 0).trans mc_0
  have f1 := J7.kt.frozen 0
  have J6 := Lib.hid (J7.set_ 0 (.int .i64 (p + 1 + f)) (mc_s0 (p + 1 + f)))
  clear J7 JJ
  go_wp2_with (first
    | (refine wpList_load_row rfl 149 (.tmp 9) rfl (w.heap.size + 1 + 1 + 1 + 1) rfl 149 (mcC (p + 1 + f) a x mem) (0, 0) _ J6.out.kt.blk Tryz.underlying149 rfl (mc_inf hl) ?_)
    | (refine wpList_store_blk rfl 149 (.tmp 6) (.tmp 93) rfl (w.heap.size + 1 + 1 + 1) _ (mcC (p + 1 + f) a x mem) 149 rfl rfl J6.out.kr (mc_size hl).symm (mc_inf hl) mc_one ?_; intro w9 hw9 hn9))
  refine bodyPost_ret (v := .tuple #[.agg (mcC (p + 1 + f) a x mem), .int .u32 (0), .bool false]) (results_row_two rfl _ _ (w.heap.size + 1 + 1 + 1) 149 (mcC (p + 1 + f) a x mem) (0, 0) _ rfl hw9.blk Tryz.underlying149 rfl (mc_inf hl) _ _ rfl rfl) rfl ?_
  exact ⟨rfl, (J6.out.out hn9 hw9).j.old⟩
set_option maxRecDepth 100000 in
set_option maxHeartbeats 4000000 in
theorem step_ret (c y z k : Int) (d : Dat) (hd : DatOk d) (p a x : Int) (mem : List Int) (hl : mem.length = 16) (hq : InsOk c y z k) (ha : U32 a) (hx : U32 x) (hp : 0 ≤ p ∧ p ≤ 1000) (hcl : c % 8 = 6) (w : World) (hK : Kinds w) :
    Calls Tryz.prog 116 #[insV c y z k, datV d, .agg (mcC p a x mem)] w fun e w' => e = .returned (.tuple #[.agg (mcC p a x mem), .int .u32 (if formOf c = 1 then k else a), .bool true]) ∧ Below w.heap.size w w' := by
  obtain ⟨hp0, hp1⟩ := hp
  have hb7 := bits_7 c hq.c0 hq.c1
  rw [hcl] at hb7
  have KM : Blk ((((w.alloc (.cells (celI (c, y, z, k)).toArray 111)).alloc (.cells (datC d) 64)).alloc (.cells (mcC p a x mem) 149)).alloc (.cells zerC 149)) (w.heap.size + 1 + 1) (mcC p a x mem) 149 := (Blk.new_ _ _ _ (by simp)).alloc _
  have HS := fun V hK => given_any c y z k p a x mem V hK
  obtain ⟨v, hv⟩ : ∃ v, (if formOf c = 1 then k else a) = v := ⟨_, rfl⟩
  rw [hv] at HS ⊢
  simp only [insV] at HS
  have S' := Lib.hid (calls_keep (S := fun V => SJ w V (c, y, z, k) d p a x mem zerC (mcC (p + 1) a x mem)) (fun V V' h hb => h.below hb) (fun V h => HS V h.j.kk))
  clear HS hv
  unfold insV datV
  go_enter Tryz.func116, Tryz.ntmps116
  go_wp2_with (first
    | (refine wpList_load_row rfl 149 (.tmp 5) rfl (w.heap.size + 1 + 1) rfl 149 (mcC p a x mem) (0, 0) _ KM.blk Tryz.underlying149 rfl (mc_inf hl) ?_)
    | (refine wpList_store_blk rfl 149 (.tmp 9) (.tmp 12) rfl (w.heap.size + 1 + 1 + 1 + 1) _ (mcC p a x mem) 149 rfl rfl (Blk.new_ _ _ _ (by simp)) (mc_size hl).symm (mc_inf hl) mc_one ?_
       intro w3 hw3 hn3
       have J3 := SJ.start (q := (c, y, z, k)) (d := d) (p := p) (a := a) (x := x) (mem := mem) hK hn3 hw3
       have J4 := Lib.hid (J3.set_ 0 (.int .i64 (p + 1)) (mc_s0 (p + 1)))
       have t0 := (J3.kt.cell 0).trans mc_0
       have f0 := J3.kt.frozen 0
       obtain ⟨i0, i1, i2, i3⟩ := J3.j.cells
       simp only at i0
       clear hn3 hw3 KM J3 i1 i2 i3))
  have JJ := J4.out
  rw [zer_lit] at JJ
  clear J4 t0 f0 i0
  generalize w3.setCell ⟨w.heap.size + 1 + 1 + 1 + 1, 0, none⟩ (.int .i64 (p + 1)) = V0 at JJ ⊢
  have J0 := JJ.drew
  have hS1 : ∀ s : Sig (fun V => SJ w V (c, y, z, k) d p a x mem zerC (mcC (p + 1) a x mem)), s.V.cell? ⟨w.heap.size, 0, none⟩ = some (.int .u16 c) := fun s => s.h.j.ki.cell 0
  have hS2 : ∀ s : Sig (fun V => SJ w V (c, y, z, k) d p a x mem zerC (mcC (p + 1) a x mem)), s.V.cell? ⟨w.heap.size + 1 + 1, 1, none⟩ = some (.int .u32 a) := fun s => (s.h.j.km.cell 1).trans mc_1
  have hS3 : ∀ s : Sig (fun V => SJ w V (c, y, z, k) d p a x mem zerC (mcC (p + 1) a x mem)), s.V.cell? ⟨w.heap.size + 1 + 1 + 1 + 1, 0, none⟩ = some (.int .i64 (p + 1)) := fun s => (s.h.kt.cell 0).trans mc_0
  have hne : Nonempty (Sig (fun V => SJ w V (c, y, z, k) d p a x mem zerC (mcC (p + 1) a x mem))) := ⟨⟨_, J0⟩⟩
  refine region_class_tail (S := fun V => SJ w V (c, y, z, k) d p a x mem zerC (mcC (p + 1) a x mem)) 4 (by kernel_rfl) (by kernel_rfl) J0 ?_
  simp only [List.take_succ_cons, List.take_zero, List.drop_succ_cons, List.drop_zero]
  repeat (first
    | (refine class_load (by rfl) 111 (.tmp 3) rfl w.heap.size rfl (celI (c, y, z, k)).toArray 111 _ (fun _ h => h.j.ki) Tryz.underlying111 rfl (cel_inf _) ?_; simp only [celI, Act.put, List.setIfInBounds_toArray, List.set_cons_zero, List.set_cons_succ])
    | (refine class_load (by rfl) 149 (.tmp 5) rfl (w.heap.size + 1 + 1) rfl (mcC p a x mem) 149 _ (fun _ h => h.j.km) Tryz.underlying149 rfl (mc_inf hl) ?_; simp only [Act.put, List.setIfInBounds_toArray, List.set_cons_zero, List.set_cons_succ])
    | go_big_quiet_step (first | (go_at_call 135; exact class_call _ S'.out)))
  refine wpQuiet_nil ?_
  rintro ⟨V, J7⟩
  dsimp only
  clear hS1 hS2 hS3 hne J0 S'
  have J6 := Lib.hid J7
  clear J7 JJ
  go_wp2_with (first
    | (refine wpList_store_blk rfl 149 (.tmp 6) (.tmp 79) rfl (w.heap.size + 1 + 1 + 1) _ (mcC p a x mem) 149 rfl rfl J6.out.kr (mc_size hl).symm (mc_inf hl) mc_one ?_; intro w9 hw9 hn9))
  refine bodyPost_ret (v := .tuple #[.agg (mcC p a x mem), .int .u32 (v), .bool true]) (results_row_two rfl _ _ (w.heap.size + 1 + 1 + 1) 149 (mcC p a x mem) (0, 0) _ rfl hw9.blk Tryz.underlying149 rfl (mc_inf hl) _ _ rfl rfl) rfl ?_
  exact ⟨rfl, (J6.out.out hn9 hw9).j.old⟩
end Go.Proofs.YtelfdpcenplhjaaGreatDoor
