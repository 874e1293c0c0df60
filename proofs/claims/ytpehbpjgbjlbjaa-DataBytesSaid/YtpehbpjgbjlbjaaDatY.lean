/-
  DataBytes: the walk.
-/
import Derived.Test.YtpehbpjgbjlbjaaRefW
import Derived.Test.YtpehbpjgbjlbjaaSame
import Derived.Deep.RegionHeld3
namespace Go.Proofs.Ytpehbpjgbjlbjaa
open Go.RowKit

theorem mkY {w V : World} {g2 g5 g7 : Nat} {d D : Dat} (k2 : Blk V g2 (datC d) 26) (k5 : Blk V g5 (datC D) 26) (k7 : Blk V g7 (datC D) 26) (hB : Below w.heap.size w V) :
    V.cell? ⟨g2, 0, none⟩ = some (.int .u32 d.nr) ∧ V.cell? ⟨g2, 1, none⟩ = some (.int .u32 d.ar) ∧ V.cell? ⟨g2, 2, none⟩ = some (.int .u64 d.ip) ∧ V.cell? ⟨g2, 3, none⟩ = some (.int .u64 d.a0) ∧ V.cell? ⟨g2, 4, none⟩ = some (.int .u64 d.a1) ∧ V.cell? ⟨g2, 5, none⟩ = some (.int .u64 d.a2) ∧ V.cell? ⟨g2, 6, none⟩ = some (.int .u64 d.a3) ∧ V.cell? ⟨g2, 7, none⟩ = some (.int .u64 d.a4) ∧ V.cell? ⟨g2, 8, none⟩ = some (.int .u64 d.a5) ∧ V.cell? ⟨g5, 0, none⟩ = some (.int .u32 D.nr) ∧ V.cell? ⟨g5, 1, none⟩ = some (.int .u32 D.ar) ∧ V.cell? ⟨g5, 2, none⟩ = some (.int .u64 D.ip) ∧ V.cell? ⟨g5, 3, none⟩ = some (.int .u64 D.a0) ∧ V.cell? ⟨g5, 4, none⟩ = some (.int .u64 D.a1) ∧ V.cell? ⟨g5, 5, none⟩ = some (.int .u64 D.a2) ∧ V.cell? ⟨g5, 6, none⟩ = some (.int .u64 D.a3) ∧ V.cell? ⟨g5, 7, none⟩ = some (.int .u64 D.a4) ∧ V.cell? ⟨g5, 8, none⟩ = some (.int .u64 D.a5) ∧ V.cell? ⟨g7, 0, none⟩ = some (.int .u32 D.nr) ∧ V.cell? ⟨g7, 1, none⟩ = some (.int .u32 D.ar) ∧ V.cell? ⟨g7, 2, none⟩ = some (.int .u64 D.ip) ∧ V.cell? ⟨g7, 3, none⟩ = some (.int .u64 D.a0) ∧ V.cell? ⟨g7, 4, none⟩ = some (.int .u64 D.a1) ∧ V.cell? ⟨g7, 5, none⟩ = some (.int .u64 D.a2) ∧ V.cell? ⟨g7, 6, none⟩ = some (.int .u64 D.a3) ∧ V.cell? ⟨g7, 7, none⟩ = some (.int .u64 D.a4) ∧ V.cell? ⟨g7, 8, none⟩ = some (.int .u64 D.a5) ∧ Blk V g2 (datC d) 26 ∧ Blk V g5 (datC D) 26 ∧ Blk V g7 (datC D) 26 ∧ Below w.heap.size w V :=
  ⟨k2.cell 0, k2.cell 1, k2.cell 2, k2.cell 3, k2.cell 4, k2.cell 5, k2.cell 6, k2.cell 7, k2.cell 8, k5.cell 0, k5.cell 1, k5.cell 2, k5.cell 3, k5.cell 4, k5.cell 5, k5.cell 6, k5.cell 7, k5.cell 8, k7.cell 0, k7.cell 1, k7.cell 2, k7.cell 3, k7.cell 4, k7.cell 5, k7.cell 6, k7.cell 7, k7.cell 8, k2, k5, k7, hB⟩
theorem keepY {w V V' : World} {g2 g5 g7 : Nat} {d D : Dat} (b : Below V.heap.size V V') (hh : V.cell? ⟨g2, 0, none⟩ = some (.int .u32 d.nr) ∧ V.cell? ⟨g2, 1, none⟩ = some (.int .u32 d.ar) ∧ V.cell? ⟨g2, 2, none⟩ = some (.int .u64 d.ip) ∧ V.cell? ⟨g2, 3, none⟩ = some (.int .u64 d.a0) ∧ V.cell? ⟨g2, 4, none⟩ = some (.int .u64 d.a1) ∧ V.cell? ⟨g2, 5, none⟩ = some (.int .u64 d.a2) ∧ V.cell? ⟨g2, 6, none⟩ = some (.int .u64 d.a3) ∧ V.cell? ⟨g2, 7, none⟩ = some (.int .u64 d.a4) ∧ V.cell? ⟨g2, 8, none⟩ = some (.int .u64 d.a5) ∧ V.cell? ⟨g5, 0, none⟩ = some (.int .u32 D.nr) ∧ V.cell? ⟨g5, 1, none⟩ = some (.int .u32 D.ar) ∧ V.cell? ⟨g5, 2, none⟩ = some (.int .u64 D.ip) ∧ V.cell? ⟨g5, 3, none⟩ = some (.int .u64 D.a0) ∧ V.cell? ⟨g5, 4, none⟩ = some (.int .u64 D.a1) ∧ V.cell? ⟨g5, 5, none⟩ = some (.int .u64 D.a2) ∧ V.cell? ⟨g5, 6, none⟩ = some (.int .u64 D.a3) ∧ V.cell? ⟨g5, 7, none⟩ = some (.int .u64 D.a4) ∧ V.cell? ⟨g5, 8, none⟩ = some (.int .u64 D.a5) ∧ V.cell? ⟨g7, 0, none⟩ = some (.int .u32 D.nr) ∧ V.cell? ⟨g7, 1, none⟩ = some (.int .u32 D.ar) ∧ V.cell? ⟨g7, 2, none⟩ = some (.int .u64 D.ip) ∧ V.cell? ⟨g7, 3, none⟩ = some (.int .u64 D.a0) ∧ V.cell? ⟨g7, 4, none⟩ = some (.int .u64 D.a1) ∧ V.cell? ⟨g7, 5, none⟩ = some (.int .u64 D.a2) ∧ V.cell? ⟨g7, 6, none⟩ = some (.int .u64 D.a3) ∧ V.cell? ⟨g7, 7, none⟩ = some (.int .u64 D.a4) ∧ V.cell? ⟨g7, 8, none⟩ = some (.int .u64 D.a5) ∧ Blk V g2 (datC d) 26 ∧ Blk V g5 (datC D) 26 ∧ Blk V g7 (datC D) 26 ∧ Below w.heap.size w V) :
    V'.cell? ⟨g2, 0, none⟩ = some (.int .u32 d.nr) ∧ V'.cell? ⟨g2, 1, none⟩ = some (.int .u32 d.ar) ∧ V'.cell? ⟨g2, 2, none⟩ = some (.int .u64 d.ip) ∧ V'.cell? ⟨g2, 3, none⟩ = some (.int .u64 d.a0) ∧ V'.cell? ⟨g2, 4, none⟩ = some (.int .u64 d.a1) ∧ V'.cell? ⟨g2, 5, none⟩ = some (.int .u64 d.a2) ∧ V'.cell? ⟨g2, 6, none⟩ = some (.int .u64 d.a3) ∧ V'.cell? ⟨g2, 7, none⟩ = some (.int .u64 d.a4) ∧ V'.cell? ⟨g2, 8, none⟩ = some (.int .u64 d.a5) ∧ V'.cell? ⟨g5, 0, none⟩ = some (.int .u32 D.nr) ∧ V'.cell? ⟨g5, 1, none⟩ = some (.int .u32 D.ar) ∧ V'.cell? ⟨g5, 2, none⟩ = some (.int .u64 D.ip) ∧ V'.cell? ⟨g5, 3, none⟩ = some (.int .u64 D.a0) ∧ V'.cell? ⟨g5, 4, none⟩ = some (.int .u64 D.a1) ∧ V'.cell? ⟨g5, 5, none⟩ = some (.int .u64 D.a2) ∧ V'.cell? ⟨g5, 6, none⟩ = some (.int .u64 D.a3) ∧ V'.cell? ⟨g5, 7, none⟩ = some (.int .u64 D.a4) ∧ V'.cell? ⟨g5, 8, none⟩ = some (.int .u64 D.a5) ∧ V'.cell? ⟨g7, 0, none⟩ = some (.int .u32 D.nr) ∧ V'.cell? ⟨g7, 1, none⟩ = some (.int .u32 D.ar) ∧ V'.cell? ⟨g7, 2, none⟩ = some (.int .u64 D.ip) ∧ V'.cell? ⟨g7, 3, none⟩ = some (.int .u64 D.a0) ∧ V'.cell? ⟨g7, 4, none⟩ = some (.int .u64 D.a1) ∧ V'.cell? ⟨g7, 5, none⟩ = some (.int .u64 D.a2) ∧ V'.cell? ⟨g7, 6, none⟩ = some (.int .u64 D.a3) ∧ V'.cell? ⟨g7, 7, none⟩ = some (.int .u64 D.a4) ∧ V'.cell? ⟨g7, 8, none⟩ = some (.int .u64 D.a5) ∧ Blk V' g2 (datC d) 26 ∧ Blk V' g5 (datC D) 26 ∧ Blk V' g7 (datC D) 26 ∧ Below w.heap.size w V' := by
  obtain ⟨_, _, _, _, _, _, _, _, _, _, _, _, _, _, _, _, _, _, _, _, _, _, _, _, _, _, _, k2, k5, k7, hB⟩ := hh
  exact mkY (k2.below b k2.lt) (k5.below b k5.lt) (k7.below b k7.lt) (hB.trans (b.mono hB.size))
theorem args_self (D : Dat) (w : World) : (Op.equalIn 9999 24 (.agg #[.int .u64 D.a0, .int .u64 D.a1, .int .u64 D.a2, .int .u64 D.a3, .int .u64 D.a4, .int .u64 D.a5]) (.agg #[.int .u64 D.a0, .int .u64 D.a1, .int .u64 D.a2, .int .u64 D.a3, .int .u64 D.a4, .int .u64 D.a5])).run Try.prog w = .ok true w := by
  have h := run_eql_args (argL D) (argL D) rfl rfl 9997 w
  simpa [argL] using h

set_option maxHeartbeats 4000000 in
theorem bytes_small (d : Dat) (hd : DatOk d) (A : Option Addr) (n c : Nat) (l : List Int) (w : World) (hr : Rd w w.heap.size A n l) (hn : n ≤ 1000) (hc : n ≤ c) :
    Calls Try.prog 3 #[datV d, .slice A n c] w fun e w' => e = .returned (.bool true) ∧ Below w.heap.size w w' := by
  have E := fun w => encode_any d hd w
  have B := fun w => rbytes_any d hd w
  have hn' : (n : Int) ≤ 1000 := by omega
  have hn'' : ¬ (1000 : Int) < n := by omega
  rw [datV_eq d] at E B ⊢
  go_enter Try.func3, Try.ntmps3
  go_wp2_with fail
  refine (dwakes_any _).mono ?_
  rintro e w1 ⟨rfl, b1⟩
  have k1 : Blk w1 w.heap.size (datC d) 26 := (Blk.new w (datC d) 26).below b1 (by simp)
  have B1 : Below w.heap.size w w1 := ((Below.refl _ w).alloc (Nat.le_refl _) _).trans (b1.mono (by simp))
  have z1 := k1.lt
  clear b1
  go_wp2_with (at_builtin; refine wpList_append_bytes rfl (.tmp 15) (.tmp 16) rfl w1.heap.size _ 0 0 _ rfl (Ow.empty w1 w1.heap.size (Nat.le_refl _)) w.heap.size A n c l rfl ((hr.below B1).alloc_ B1.size _) (by omega) (by simp) ?_; intro Aa ca wa oa ba; simp only [Nat.zero_add, List.nil_append] at oa)
  have ba' : Below w1.heap.size w1 wa := ((Below.refl _ _).alloc (Nat.le_refl _) _).trans ba
  have k2 := k1.below ba' k1.lt
  have B2 := B1.trans (ba'.mono B1.size)
  have R := oa.rd
  clear ba ba' k1 B1
  refine (decode_any Aa n ca l wa R).mono ?_
  rintro e w3 ⟨rfl, b3⟩
  have k3 := k2.below b3 k2.lt
  have B3 := B2.trans (b3.mono B2.size)
  have z3 := k3.lt
  obtain ⟨D, hD⟩ : ∃ D, decD l = D := ⟨_, rfl⟩
  obtain ⟨E0, hE⟩ : ∃ E0, decE l = E0 := ⟨_, rfl⟩
  rw [hD, hE]
  have d2 := dat_one D
  clear k2 b3 B2 R oa
  unfold datV
  go_wp2_with (first
    | (refine wpList_store_blk rfl 26 (.tmp 5) (.tmp 19) rfl w3.heap.size _ (datC D) 26 rfl rfl (Blk.new_ w3 _ _ rfl) rfl dat_info d2 ?_
       intro w4 k5 n4
       have z4 := n4.size
       simp only [World.size_alloc] at z4
       have k4 := n4.blk (k3.alloc _) (by omega)
       have B4 : Below w.heap.size w w4 := (B3.alloc (by omega) _).trans (n4.below _ (by omega) (by simp; omega))
       clear n4))
  refine (rdecode_any A n c l w4 ((hr.below B4).more B4.size) hc).mono ?_
  rintro e w5 ⟨rfl, b5⟩
  have k6 := k4.below b5 k4.lt
  have k5' := k5.below b5 k5.lt
  have B5 := B4.trans (b5.mono B4.size)
  have z5 := k6.lt
  have z6 := k5'.lt
  rw [hD, hE]
  clear k3 k4 k5 b5 B3 B4
  unfold datV
  go_wp2_with (first
    | (refine wpList_store_blk rfl 26 (.tmp 7) (.tmp 24) rfl w5.heap.size _ (datC D) 26 rfl rfl (Blk.new_ w5 _ _ rfl) rfl dat_info d2 ?_
       intro w6 k8 n6
       have z7 := n6.size
       simp only [World.size_alloc] at z7
       have k7 := n6.blk (k6.alloc _) (by omega)
       have k9 := n6.blk (k5'.alloc _) (by omega)
       have B6 : Below w.heap.size w w6 := (B5.alloc (by omega) _).trans (n6.below _ (by omega) (by simp; omega))
       clear n6))
  have S1 := Lib.hid (mkY k7.drew k9.drew k8.drew B6.drew)
  have hA := args_self D
  have B7 := B6.drew
  clear k5' k6 k7 k8 k9 B5 B6 d2
  go_region_held3 (fun V => V.cell? ⟨w.heap.size, 0, none⟩ = some (.int .u32 d.nr) ∧ V.cell? ⟨w.heap.size, 1, none⟩ = some (.int .u32 d.ar) ∧ V.cell? ⟨w.heap.size, 2, none⟩ = some (.int .u64 d.ip) ∧ V.cell? ⟨w.heap.size, 3, none⟩ = some (.int .u64 d.a0) ∧ V.cell? ⟨w.heap.size, 4, none⟩ = some (.int .u64 d.a1) ∧ V.cell? ⟨w.heap.size, 5, none⟩ = some (.int .u64 d.a2) ∧ V.cell? ⟨w.heap.size, 6, none⟩ = some (.int .u64 d.a3) ∧ V.cell? ⟨w.heap.size, 7, none⟩ = some (.int .u64 d.a4) ∧ V.cell? ⟨w.heap.size, 8, none⟩ = some (.int .u64 d.a5) ∧ V.cell? ⟨w3.heap.size, 0, none⟩ = some (.int .u32 D.nr) ∧ V.cell? ⟨w3.heap.size, 1, none⟩ = some (.int .u32 D.ar) ∧ V.cell? ⟨w3.heap.size, 2, none⟩ = some (.int .u64 D.ip) ∧ V.cell? ⟨w3.heap.size, 3, none⟩ = some (.int .u64 D.a0) ∧ V.cell? ⟨w3.heap.size, 4, none⟩ = some (.int .u64 D.a1) ∧ V.cell? ⟨w3.heap.size, 5, none⟩ = some (.int .u64 D.a2) ∧ V.cell? ⟨w3.heap.size, 6, none⟩ = some (.int .u64 D.a3) ∧ V.cell? ⟨w3.heap.size, 7, none⟩ = some (.int .u64 D.a4) ∧ V.cell? ⟨w3.heap.size, 8, none⟩ = some (.int .u64 D.a5) ∧ V.cell? ⟨w5.heap.size, 0, none⟩ = some (.int .u32 D.nr) ∧ V.cell? ⟨w5.heap.size, 1, none⟩ = some (.int .u32 D.ar) ∧ V.cell? ⟨w5.heap.size, 2, none⟩ = some (.int .u64 D.ip) ∧ V.cell? ⟨w5.heap.size, 3, none⟩ = some (.int .u64 D.a0) ∧ V.cell? ⟨w5.heap.size, 4, none⟩ = some (.int .u64 D.a1) ∧ V.cell? ⟨w5.heap.size, 5, none⟩ = some (.int .u64 D.a2) ∧ V.cell? ⟨w5.heap.size, 6, none⟩ = some (.int .u64 D.a3) ∧ V.cell? ⟨w5.heap.size, 7, none⟩ = some (.int .u64 D.a4) ∧ V.cell? ⟨w5.heap.size, 8, none⟩ = some (.int .u64 D.a5) ∧ Blk V w.heap.size (datC d) 26 ∧ Blk V w3.heap.size (datC D) 26 ∧ Blk V w5.heap.size (datC D) 26 ∧ Below w.heap.size w V)
    (first | exact S1.out | assumption | exact keepY (by assumption) (by assumption))
    (first
      | (go_at_call 11; ((refine (E _).mono ?_); rintro e wE ⟨gE, rfl, hgE, hE1, bE⟩))
      | (go_at_call 12; ((refine (B _).mono ?_); rintro e wB ⟨AB, cB, rfl, oB, bB⟩))
      | (go_at_call 10; ((refine (same_true _ _ 64 _ _ _ _ _ _ ((hE1.below bB hE1.lt).rd.more (Nat.lt_of_lt_of_le hE1.lt bB.size)) oB.rd (by omega) (Nat.le_refl _) (Nat.le_refl _)).mono ?_); rintro e wS ⟨rfl, bS⟩)))
  have B8 := B7.trans (bE.mono B7.size)
  have B9 := B8.trans (bB.mono B8.size)
  have B10 := B9.trans (bS.mono B9.size)
  clear bE bB bS B7 B8 B9
  go_wp2_with fail
  go_ret
  exact ⟨rfl, B10⟩

set_option maxHeartbeats 1000000 in
theorem bytes_big (d : Dat) (A : Option Addr) (n c : Nat) (w : World) (hn : 1000 < n) :
    Calls Try.prog 3 #[datV d, .slice A n c] w fun e w' => e = .returned (.bool true) ∧ Below w.heap.size w w' := by
  have hn' : (1000 : Int) < n := by omega
  rw [datV_eq d]
  go_enter Try.func3, Try.ntmps3
  go_wp2_with fail
  refine (dwakes_any _).mono ?_
  rintro e w1 ⟨rfl, b1⟩
  go_wp2_with fail
  go_ret
  exact ⟨rfl, ((Below.refl _ w).alloc (Nat.le_refl _) _).trans (b1.mono (by simp))⟩

theorem bytes_walk (d : Dat) (hd : DatOk d) (A : Option Addr) (n c : Nat) (l : List Int) (w : World) (hr : Rd w w.heap.size A n l) (hc : n ≤ c) :
    Calls Try.prog 3 #[datV d, .slice A n c] w fun e w' => e = .returned (.bool true) ∧ Below w.heap.size w w' := by
  by_cases hn : n ≤ 1000
  · exact bytes_small d hd A n c l w hr hn hc
  · exact bytes_big d A n c w (by omega)
end Go.Proofs.Ytpehbpjgbjlbjaa
