/-
  insn.Decode of fewer than eight bytes.
-/
import Derived.Test.YtndmlbepjcagiaaDoorDec
import Derived.Test.YtndmlbepjcagiaaDoorRefBare
namespace Go.Proofs.YtndmlbepjcagiaaDoor
open Go.RowKit

theorem falt_hi (l : List Int) (n : Nat) : falt l 7 n = 7 := by unfold falt; rw [if_neg (by decide)]
theorem falt_lo {l : List Int} {n : Nat} (h : n ≤ l.length) : falt l 0 n = 0 ∧ left l 0 n = l.drop n := by
  unfold falt left
  rw [if_pos rfl, if_pos h, if_pos ⟨rfl, h⟩]
  exact ⟨rfl, rfl⟩
theorem falt_sh {l : List Int} {n : Nat} (h : l.length < n) : falt l 0 n = 7 := by
  unfold falt
  rw [if_pos rfl, if_neg (by omega)]
theorem short_falt (l : List Int) (h : l.length < 8) : falt (left (left (left l 0 2) (falt l 0 2) 1) (falt (left l 0 2) (falt l 0 2) 1) 1) (falt (left (left l 0 2) (falt l 0 2) 1) (falt (left l 0 2) (falt l 0 2) 1) 1) 4 = 7 := by
  rcases Nat.lt_or_ge l.length 2 with h2 | h2
  · rw [falt_sh h2, falt_hi, falt_hi, falt_hi]
  · rw [(falt_lo h2).1, (falt_lo h2).2]
    rcases Nat.lt_or_ge (l.drop 2).length 1 with h3 | h3
    · rw [falt_sh h3, falt_hi, falt_hi]
    · rw [(falt_lo h3).1, (falt_lo h3).2]
      rcases Nat.lt_or_ge ((l.drop 2).drop 1).length 1 with h5 | h5
      · rw [falt_sh h5, falt_hi]
      · rw [(falt_lo h5).1, (falt_lo h5).2]
        exact falt_sh (by simp only [List.length_drop]; omega)

set_option maxHeartbeats 4000000 in
theorem dec_short (A : Option Addr) (n c : Nat) (l : List Int) (w : World) (hr : Rd w w.heap.size A n l) (h8 : n < 8) (hc : n ≤ c) :
    Calls Tryd.prog 28 #[.slice A n c] w fun e w' => e = .returned (.tuple #[insV 0 0 0 0, .int .i64 7]) ∧ Below w.heap.size w w' := by
  have HF := Lib.hid (short_falt l (by rw [hr.len]; exact h8))
  have hni : (n : Int) ≤ 8 := by omega
  have hB0 : Below w.heap.size w (w.alloc (.cells (insC 0 0 0 0) 48)) := (Below.refl _ _).alloc (Nat.le_refl _) _
  have bz := Blk.new w (insC 0 0 0 0) 48
  have r0 : Rd (w.alloc (.cells (insC 0 0 0 0) 48)) (w.alloc (.cells (insC 0 0 0 0) 48)).heap.size A n l := (hr.below hB0).more (by simp)
  go_enter Tryd.func28, Tryd.ntmps28
  go_wp2_with fail
  refine (read_any A n c l _ r0 (by omega)).mono ?_
  rintro e w1 ⟨r, rfl, hrr, k1, hb1⟩
  have z1 := hb1.size
  simp only [World.size_alloc] at hrr z1
  have b1 := bz.below hb1 (by simp)
  have B1 := hB0.trans (hb1.mono (by simp))
  clear bz hB0 r0 hb1
  go_wp2_with fail
  refine (u16_any r l 0 w1 k1).mono ?_
  rintro e w2 ⟨rfl, k2, n2⟩
  go_wp2_with fail
  refine (u8_any r _ _ w2 k2).mono ?_
  rintro e w3 ⟨rfl, k3, n3⟩
  go_wp2_with fail
  refine (u8_any r _ _ w3 k3).mono ?_
  rintro e w4 ⟨rfl, k4, n4⟩
  go_wp2_with fail
  refine (u32_any r _ _ w4 k4).mono ?_
  rintro e w5 ⟨rfl, k5, n5⟩
  rw [HF.out] at k5
  have nn : But r w1 w5 := ((n2.trans n3).trans n4).trans n5
  have b5 : Blk w5 w.heap.size (insC 0 0 0 0) 48 := ⟨(nn.block _ b1.lt (by omega)).trans b1.blk⟩
  have B5 : Below w.heap.size w w5 := B1.trans (nn.below w.heap.size (by omega) B1.size)
  have z5 := b5.lt
  clear k1 k2 k3 k4 n2 n3 n4 n5 nn b1 B1
  go_wp2_with fail
  refine (err_any r _ 7 _ (k5.below ((Below.refl _ _).alloc (Nat.le_refl _) _) k5.lt)).mono ?_
  rintro e w6 ⟨rfl, rfl⟩
  go_wp2_with (refine wpList_store_blk rfl 48 (.tmp 2) (.tmp 26) rfl w.heap.size (insC 0 0 0 0) (insC 0 0 0 0) 48 rfl rfl (b5.alloc _) rfl ins_inf (ins_one _ _ _ _) ?_; intro w9 hw9 hn9)
  refine bodyPost_ret (v := .tuple #[insV 0 0 0 0, .int .i64 7]) (results_row_tmp rfl _ _ w.heap.size 48 (insC 0 0 0 0) (0, 0) _ rfl hw9.blk Tryd.underlying48 rfl ins_inf _ rfl) rfl ?_
  exact ⟨rfl, (B5.alloc B5.size _).trans (hn9.below w.heap.size (Nat.le_refl _) (by simp; omega))⟩
end Go.Proofs.YtndmlbepjcagiaaDoor
