/-
  action.CombineSeq over any iterator, where only the halves are laid.
-/
import Derived.Test.YtpeofpilfpjjpaaGreatDoorHaL
namespace Go.Proofs.YtpeofpilfpjjpaaGreatDoor
open Go.RowKit Go.Shelf
attribute [local go_sem] Oper.semAt_some
set_option linter.unusedVariables false

/-- The verdict of a row of words: action, data, place. -/
def cmbI (l : List Int) : Nat × Int × Int := if (lowS l).2.1 < 0 then (7, 0, (lowS l).2.1) else (actI (lowS l).1, (lowS l).1 % 65536, (lowS l).2.1)

set_option maxRecDepth 100000 in
set_option maxHeartbeats 4000000 in
theorem cseq_any (gf : Nat) (lb : Array Value) (l : List Int) (N : Nat) (w : World) (hK : Halves w) (hN : N ≤ 1000000) (hl : ∀ x ∈ l, 0 ≤ x ∧ x < 4294967296)
    (eg : ∀ args w, (callFunc gf args).run Tryz.prog w = .ok (.enter gf args) w)
    (hseq : SeqN Fence.wide 5 Tryz.prog gf lb (fun x : W32 => #[.int .u32 x.1]) (w.heap.size + 1) (fun xs => xs.map (·.1) = l) N (w.alloc (.cells #[.int .i64 0, .int .u16 0] 67))) :
    Calls Tryz.prog 64 #[.func (.func gf) #[] lb] w fun e w' => e = .returned (.tuple #[.agg #[.int .i64 (cmbI l).1, .int .u16 (cmbI l).2.1], .int .i64 (cmbI l).2.2]) ∧ Below w.heap.size w w' := by
  have hpos := hK.pos
  have hlow := lowest_any gf lb l N (w.alloc (.cells #[.int .i64 0, .int .u16 0] 67)) (hK.alloc _) hN eg (by simpa using hseq)
  have hbd : 0 ≤ (lowS l).1 ∧ (lowS l).1 < 4294967296 := (lowF_bd l _ hl (by decide) (by decide) (by decide)).1
  have hcm : cmbI l = if (lowS l).2.1 < 0 then (7, 0, (lowS l).2.1) else (actI (lowS l).1, (lowS l).1 % 65536, (lowS l).2.1) := rfl
  have bR := Blk.new w #[.int .i64 0, .int .u16 0] 67
  generalize (lowS l).1 = fw at *
  generalize (lowS l).2.1 = pw at *
  generalize cmbI l = C at *
  have HC := Lib.hid hcm
  clear hcm
  by_cases hp : pw < 0
  · have hC2 : C = (7, 0, pw) := by rw [HC.out, if_pos hp]
    subst hC2
    have hp' : decide (pw < 0) = true := by simpa using hp
    go_enter Tryz.func64, Tryz.ntmps64
    go_wp2_with fail
    refine hlow.mono ?_
    rintro e w1 ⟨rfl, b1⟩
    have R1 : Blk w1 w.heap.size #[.int .i64 0, .int .u16 0] 67 := ⟨(b1.block _ (by simp)).trans bR.blk⟩
    have B1 : Below w.heap.size w w1 := ⟨b1.os, b1.tape, b1.output, by have := b1.size; simp at this; omega, fun k hk => (b1.block k (by simp; omega)).trans (Below.heap_alloc w _ k hk)⟩
    go_wp2_with (refine wpList_store_blk rfl 67 (.tmp 2) (.tmp 13) rfl w.heap.size _ _ 67 rfl rfl R1 rfl ver_info (by simp [Value.oneCell']) ?_; intro w3 hw3 hn3)
    refine bodyPost_ret (results_row_tmp rfl _ _ w.heap.size 67 _ (0, 0) _ rfl hw3.blk Tryz.underlying67 rfl ver_info _ rfl) rfl ⟨rfl, B1.trans (hn3.below _ (Nat.le_refl _) (by have := b1.size; simp at this; omega))⟩
  · have hC2 : C = (actI fw, fw % 65536, pw) := by rw [HC.out, if_neg hp]
    subst hC2
    have hp' : decide (pw < 0) = false := by simpa using hp
    go_enter Tryz.func64, Tryz.ntmps64
    go_wp2_with fail
    refine hlow.mono ?_
    rintro e w1 ⟨rfl, b1⟩
    have hs1 := b1.size
    simp only [World.size_alloc] at hs1
    have R1 : Blk w1 w.heap.size #[.int .i64 0, .int .u16 0] 67 := ⟨(b1.block _ (by simp)).trans bR.blk⟩
    have B1 : Below w.heap.size w w1 := ⟨b1.os, b1.tape, b1.output, by omega, fun k hk => (b1.block k (by simp; omega)).trans (Below.heap_alloc w _ k hk)⟩
    go_wp2_with fail
    refine (actsplit_any fw hbd.1 hbd.2 _ (hK.below B1 hpos)).mono ?_
    rintro e w2 ⟨rfl, b2⟩
    have R2 := R1.below b2 R1.lt
    go_wp2_with (refine wpList_store_blk rfl 67 (.tmp 2) (.tmp 16) rfl w.heap.size _ _ 67 rfl rfl R2 rfl ver_info (by simp [Value.oneCell']) ?_; intro w3 hw3 hn3)
    have hb13 : Below w.heap.size w1 w3 := (b2.mono (by omega)).trans (hn3.below _ (Nat.le_refl _) (Nat.le_trans (by omega) b2.size))
    refine bodyPost_ret (results_row_tmp rfl _ _ w.heap.size 67 _ (0, 0) _ rfl hw3.blk Tryz.underlying67 rfl ver_info _ rfl) rfl ⟨rfl, B1.trans hb13⟩

end Go.Proofs.YtpeofpilfpjjpaaGreatDoor
