/-
  A machine in memory: its cells; vm.second, vm.given, vm.moved.
-/
import Derived.Test.YtpeofpilfpjjpaaGreatDoorVmM
import Derived.Test.YtpeofpilfpjjpaaGreatDoorVmNp
import Derived.Test.YtpeofpilfpjjpaaGreatDoorVmH
import Derived.Test.YtpeofpilfpjjpaaGreatDoorHI
import Derived.Test.YtpeofpilfpjjpaaGreatDoorHG
namespace Go.Proofs.YtpeofpilfpjjpaaGreatDoor
open Go.RowKit
set_option linter.unusedVariables false

/-- A machine's cells. -/
def mcC (p a x : Int) (mem : List Int) : Array Value := #[.int .i64 p, .int .u32 a, .int .u32 x] ++ arrC mem
def vmC (s : VmS) : Array Value := mcC s.pc s.a s.x s.mem
def vmV (s : VmS) : Value := .agg (vmC s)
section
variable {p a x : Int} {mem : List Int}
theorem mc_0 : (mcC p a x mem)[0]? = some (.int .i64 p) := by unfold mcC; rw [Array.getElem?_append_left (by simp)]; rfl
theorem mc_1 : (mcC p a x mem)[1]? = some (.int .u32 a) := by unfold mcC; rw [Array.getElem?_append_left (by simp)]; rfl
theorem mc_2 : (mcC p a x mem)[2]? = some (.int .u32 x) := by unfold mcC; rw [Array.getElem?_append_left (by simp)]; rfl
theorem mc_3 {k : Nat} (h : mem.length = 16) (hk : k < 16) : (mcC p a x mem)[3 + k]? = some (.int .u32 (mem.getD k 0)) := by
  unfold mcC
  rw [Array.getElem?_append_right (by simp)]
  simp only [List.size_toArray, List.length_cons, List.length_nil, Nat.zero_add, Nat.add_sub_cancel_left, Nat.reduceAdd]
  exact arr_get mem k (by omega)
theorem mc_size (h : mem.length = 16) : (mcC p a x mem).size = 19 := by simp [mcC, arrC, h]
theorem mc_one : (mcC p a x mem).all (·.oneCell') = true := by
  rw [Array.all_eq_true_iff_forall_mem]
  intro v hv
  simp only [mcC, Array.mem_append, List.mem_toArray, List.mem_cons, List.not_mem_nil, or_false, arrC, List.mem_map] at hv
  rcases hv with (rfl | rfl | rfl) | ⟨z, _, rfl⟩ <;> rfl
theorem mc_inf (h : mem.length = 16) : (Tryz.prog.info? 149).map (·.size) = some (mcC p a x mem).size := by rw [mc_size h]; kernel_rfl
theorem mc_s0 (u : Int) : (mcC p a x mem).setIfInBounds 0 (.int .i64 u) = mcC u a x mem := by
  apply Array.ext'; simp [mcC]
theorem mc_s1 (u : Int) : (mcC p a x mem).setIfInBounds 1 (.int .u32 u) = mcC p u x mem := by
  apply Array.ext'; simp [mcC]
theorem mc_s2 (u : Int) : (mcC p a x mem).setIfInBounds 2 (.int .u32 u) = mcC p a u mem := by
  apply Array.ext'; simp [mcC]
theorem mc_s3 (k : Nat) (u : Int) : (mcC p a x mem).setIfInBounds (3 + k) (.int .u32 u) = mcC p a x (mem.set k u) := by
  apply Array.ext'
  rw [Nat.add_comm]
  simp [mcC, arrC, List.map_set]
end

theorem peel {l : List Int} {n : Nat} (h : l.length = n + 1) : ∃ a t, l = a :: t ∧ t.length = n := by
  cases l with
  | nil => simp at h
  | cons a t => exact ⟨a, t, rfl, by simpa using h⟩
/-- Sixteen words, one by one. -/
theorem sixteen {l : List Int} (h : l.length = 16) : ∃ m0 m1 m2 m3 m4 m5 m6 m7 m8 m9 m10 m11 m12 m13 m14 m15, l = [m0, m1, m2, m3, m4, m5, m6, m7, m8, m9, m10, m11, m12, m13, m14, m15] := by
  obtain ⟨m0, l0, rfl, h0⟩ := peel h
  obtain ⟨m1, l1, rfl, h1⟩ := peel h0
  obtain ⟨m2, l2, rfl, h2⟩ := peel h1
  obtain ⟨m3, l3, rfl, h3⟩ := peel h2
  obtain ⟨m4, l4, rfl, h4⟩ := peel h3
  obtain ⟨m5, l5, rfl, h5⟩ := peel h4
  obtain ⟨m6, l6, rfl, h6⟩ := peel h5
  obtain ⟨m7, l7, rfl, h7⟩ := peel h6
  obtain ⟨m8, l8, rfl, h8⟩ := peel h7
  obtain ⟨m9, l9, rfl, h9⟩ := peel h8
  obtain ⟨m10, l10, rfl, h10⟩ := peel h9
  obtain ⟨m11, l11, rfl, h11⟩ := peel h10
  obtain ⟨m12, l12, rfl, h12⟩ := peel h11
  obtain ⟨m13, l13, rfl, h13⟩ := peel h12
  obtain ⟨m14, l14, rfl, h14⟩ := peel h13
  obtain ⟨m15, l15, rfl, h15⟩ := peel h14
  obtain rfl := List.eq_nil_of_length_eq_zero h15
  exact ⟨m0, m1, m2, m3, m4, m5, m6, m7, m8, m9, m10, m11, m12, m13, m14, m15, rfl⟩
section
variable {V : World} {g : Nat} {p a x : Int} {m0 m1 m2 m3 m4 m5 m6 m7 m8 m9 m10 m11 m12 m13 m14 m15 : Int} {t : TypeId}
theorem mc_fold : (#[.int .i64 p, .int .u32 a, .int .u32 x, .int .u32 m0, .int .u32 m1, .int .u32 m2, .int .u32 m3, .int .u32 m4, .int .u32 m5, .int .u32 m6, .int .u32 m7, .int .u32 m8, .int .u32 m9, .int .u32 m10, .int .u32 m11, .int .u32 m12, .int .u32 m13, .int .u32 m14, .int .u32 m15] : Array Value) = mcC p a x [m0, m1, m2, m3, m4, m5, m6, m7, m8, m9, m10, m11, m12, m13, m14, m15] := by simp [mcC, arrC]
theorem mc_cells (h : Blk V g (mcC p a x [m0, m1, m2, m3, m4, m5, m6, m7, m8, m9, m10, m11, m12, m13, m14, m15]) t) : V.cell? ⟨g, 0, none⟩ = some (.int .i64 p) ∧ V.cell? ⟨g, 1, none⟩ = some (.int .u32 a) ∧ V.cell? ⟨g, 2, none⟩ = some (.int .u32 x) ∧ V.cell? ⟨g, 3, none⟩ = some (.int .u32 m0) ∧ V.cell? ⟨g, 4, none⟩ = some (.int .u32 m1) ∧ V.cell? ⟨g, 5, none⟩ = some (.int .u32 m2) ∧ V.cell? ⟨g, 6, none⟩ = some (.int .u32 m3) ∧ V.cell? ⟨g, 7, none⟩ = some (.int .u32 m4) ∧ V.cell? ⟨g, 8, none⟩ = some (.int .u32 m5) ∧ V.cell? ⟨g, 9, none⟩ = some (.int .u32 m6) ∧ V.cell? ⟨g, 10, none⟩ = some (.int .u32 m7) ∧ V.cell? ⟨g, 11, none⟩ = some (.int .u32 m8) ∧ V.cell? ⟨g, 12, none⟩ = some (.int .u32 m9) ∧ V.cell? ⟨g, 13, none⟩ = some (.int .u32 m10) ∧ V.cell? ⟨g, 14, none⟩ = some (.int .u32 m11) ∧ V.cell? ⟨g, 15, none⟩ = some (.int .u32 m12) ∧ V.cell? ⟨g, 16, none⟩ = some (.int .u32 m13) ∧ V.cell? ⟨g, 17, none⟩ = some (.int .u32 m14) ∧ V.cell? ⟨g, 18, none⟩ = some (.int .u32 m15) :=
by
  rw [← mc_fold] at h
  exact ⟨h.cell 0, h.cell 1, h.cell 2, h.cell 3, h.cell 4, h.cell 5, h.cell 6, h.cell 7, h.cell 8, h.cell 9, h.cell 10, h.cell 11, h.cell 12, h.cell 13, h.cell 14, h.cell 15, h.cell 16, h.cell 17, h.cell 18⟩
theorem ins_cells' {c y z k : Int} (h : Blk V g #[.int .u16 c, .int .u8 y, .int .u8 z, .int .u32 k] t) : V.cell? ⟨g, 0, none⟩ = some (.int .u16 c) ∧ V.cell? ⟨g, 1, none⟩ = some (.int .u8 y) ∧ V.cell? ⟨g, 2, none⟩ = some (.int .u8 z) ∧ V.cell? ⟨g, 3, none⟩ = some (.int .u32 k) :=
  ⟨h.cell 0, h.cell 1, h.cell 2, h.cell 3⟩
end

set_option maxHeartbeats 400000 in
theorem second_any (c y z k p a x : Int) (mem : List Int) (w : World) (hK : Kinds w) :
    Calls Tryz.prog 133 #[insV c y z k, .agg (mcC p a x mem)] w fun e w' => e = .returned (.int .u32 (if formOf c = 1 ∨ formOf c = 5 then k else x)) ∧ Below w.heap.size w w' := by
  have F := fun V (h : Kinds V) => form_any c V h
  obtain ⟨r, hr⟩ : ∃ r, formOf c = r := ⟨_, rfl⟩
  rw [hr] at F ⊢
  unfold insV
  have B := (((Below.refl _ w).alloc (Nat.le_refl _) (.cells #[.int .u16 c, .int .u8 y, .int .u8 z, .int .u32 k] 111)).alloc (by simp) (.cells (mcC p a x mem) 149))
  have F' := F _ (hK.below B hK.pos)
  have b2 := Blk.new_ (w.alloc (.cells #[.int .u16 c, .int .u8 y, .int .u8 z, .int .u32 k] 111)) (mcC p a x mem) 149 (n := w.heap.size + 1) (by simp)
  have c2 := (b2.cell 2).trans mc_2
  clear F hr b2
  have key : ∀ v, (if r = 1 ∨ r = 5 then k else x) = v → Calls Tryz.prog 133 #[.agg #[.int .u16 c, .int .u8 y, .int .u8 z, .int .u32 k], .agg (mcC p a x mem)] w fun e w' => e = .returned (.int .u32 v) ∧ Below w.heap.size w w' := by
    intro v hv
    by_cases h1 : r = 1
    · subst h1
      obtain rfl : k = v := by simpa using hv
      clear hv
      go_enter Tryz.func133, Tryz.ntmps133
      go_wp2_with fail
      refine F'.mono ?_
      rintro e w' ⟨rfl, hw'⟩
      subst w'
      go_wp2_with fail
      go_ret
      exact ⟨rfl, B⟩
    · by_cases h5 : r = 5
      · subst h5
        obtain rfl : k = v := by simpa using hv
        clear hv
        go_enter Tryz.func133, Tryz.ntmps133
        go_wp2_with fail
        refine F'.mono ?_
        rintro e w' ⟨rfl, hw'⟩
        subst w'
        go_wp2_with fail
        go_ret
        exact ⟨rfl, B⟩
      · obtain rfl : x = v := by simpa [h1, h5] using hv
        clear hv
        go_enter Tryz.func133, Tryz.ntmps133
        go_wp2_with fail
        refine F'.mono ?_
        rintro e w' ⟨rfl, hw'⟩
        subst w'
        go_wp2_with fail
        go_ret
        exact ⟨rfl, B⟩
  exact key _ rfl

set_option maxHeartbeats 400000 in
theorem given_any (c y z k p a x : Int) (mem : List Int) (w : World) (hK : Kinds w) :
    Calls Tryz.prog 135 #[insV c y z k, .agg (mcC p a x mem)] w fun e w' => e = .returned (.int .u32 (if formOf c = 1 then k else a)) ∧ Below w.heap.size w w' := by
  have F := fun V (h : Kinds V) => form_any c V h
  obtain ⟨r, hr⟩ : ∃ r, formOf c = r := ⟨_, rfl⟩
  rw [hr] at F ⊢
  unfold insV
  have B := (((Below.refl _ w).alloc (Nat.le_refl _) (.cells #[.int .u16 c, .int .u8 y, .int .u8 z, .int .u32 k] 111)).alloc (by simp) (.cells (mcC p a x mem) 149))
  have F' := F _ (hK.below B hK.pos)
  have b2 := Blk.new_ (w.alloc (.cells #[.int .u16 c, .int .u8 y, .int .u8 z, .int .u32 k] 111)) (mcC p a x mem) 149 (n := w.heap.size + 1) (by simp)
  have c1 := (b2.cell 1).trans mc_1
  clear F hr b2
  by_cases h1 : r = 1
  · subst h1
    rw [if_pos rfl]
    go_enter Tryz.func135, Tryz.ntmps135
    go_wp2_with fail
    refine F'.mono ?_
    rintro e w' ⟨rfl, hw'⟩
    subst w'
    go_wp2_with fail
    go_ret
    exact ⟨rfl, B⟩
  · rw [if_neg h1]
    go_enter Tryz.func135, Tryz.ntmps135
    go_wp2_with fail
    refine F'.mono ?_
    rintro e w' ⟨rfl, hw'⟩
    subst w'
    go_wp2_with fail
    go_ret
    exact ⟨rfl, B⟩
set_option maxHeartbeats 400000 in
theorem moved_any (c y z k p a x : Int) (mem : List Int) (w : World) (hK : Kinds w) :
    Calls Tryz.prog 136 #[insV c y z k, .agg (mcC p a x mem)] w fun e w' => e = .returned (.tuple #[.int .u32 (if (nameOf c).1.toList = [116, 97, 120] then a else x), .int .u32 (if (nameOf c).1.toList = [116, 97, 120] then a else x)]) ∧ Below w.heap.size w w' := by
  have F := fun V (h : Kinds V) => name_any c V h
  obtain ⟨⟨r, t⟩, hr⟩ : ∃ r, nameOf c = r := ⟨_, rfl⟩
  rw [hr] at F ⊢
  simp only at F ⊢
  unfold insV
  have B := (((Below.refl _ w).alloc (Nat.le_refl _) (.cells #[.int .u16 c, .int .u8 y, .int .u8 z, .int .u32 k] 111)).alloc (by simp) (.cells (mcC p a x mem) 149))
  have F' := F _ (hK.below B hK.pos)
  have b2 := Blk.new_ (w.alloc (.cells #[.int .u16 c, .int .u8 y, .int .u8 z, .int .u32 k] 111)) (mcC p a x mem) 149 (n := w.heap.size + 1) (by simp)
  have b3 := fun V (h : Below (w.heap.size + 2) ((w.alloc (.cells #[.int .u16 c, .int .u8 y, .int .u8 z, .int .u32 k] 111)).alloc (.cells (mcC p a x mem) 149)) V) => b2.below h (by omega)
  clear F hr b2
  by_cases h1 : r.toList = [116, 97, 120]
  · rw [if_pos h1]
    go_enter Tryz.func136, Tryz.ntmps136
    go_wp2_with fail
    refine F'.mono ?_
    rintro e w' ⟨rfl, hb⟩
    have b4 := b3 w' (by simpa using hb)
    have c1 := (b4.cell 1).trans mc_1
    have B' := B.trans (hb.mono (by simp; omega))
    clear b3 hb
    go_wp2_with fail
    go_region
    go_wp2_with fail
    go_ret2
    exact ⟨rfl, B'.drew⟩
  · rw [if_neg h1]
    have h2 : (r.toList == [116, 97, 120]) = false := by simpa using h1
    go_enter Tryz.func136, Tryz.ntmps136
    go_wp2_with fail
    refine F'.mono ?_
    rintro e w' ⟨rfl, hb⟩
    have b4 := b3 w' (by simpa using hb)
    have c2 := (b4.cell 2).trans mc_2
    have B' := B.trans (hb.mono (by simp; omega))
    clear b3 hb
    go_wp2_with fail
    go_region
    go_wp2_with fail
    go_ret2
    exact ⟨rfl, B'.drew⟩
end Go.Proofs.YtpeofpilfpjjpaaGreatDoor
