/-
  data.Encode: the bytes of a call's data.
-/
import Derived.Test.YtpehbpjgbjlbjaaDatW
import Derived.Test.YtpehbpjgbjlbjaaPut32
import Derived.Test.YtpehbpjgbjlbjaaPut64
namespace Go.Proofs.Ytpehbpjgbjlbjaa
open Go.RowKit

/-- The bytes of the first k arguments. -/
def argB (d : Dat) (k : Nat) : List Int := ((argL d).take k).flatMap fun x => low x 8
/-- The bytes of a call's data. -/
def datB (d : Dat) : List Int := low d.nr 4 ++ low d.ar 4 ++ low d.ip 8 ++ argB d 6
theorem argB_step (d : Dat) (k : Nat) (hk : k < 6) (x : Int) (hx : (argL d).getD k 0 = x) : argB d (k + 1) = argB d k ++ low x 8 := by
  have e : (argL d).take (k + 1) = (argL d).take k ++ [(argL d).getD k 0] := by
    rw [List.take_succ_eq_append_getElem (show k < (argL d).length from hk)]
    simp [List.getD, show k < (argL d).length from hk]
  unfold argB
  rw [e, hx]
  simp
theorem argB_len (d : Dat) (k : Nat) (hk : k ≤ 6) : (argB d k).length = 8 * k := by
  match k, hk with
  | 0, _ => simp [argB]
  | 1, _ => simp [argB, argL, low_length]
  | 2, _ => simp [argB, argL, low_length]
  | 3, _ => simp [argB, argL, low_length]
  | 4, _ => simp [argB, argL, low_length]
  | 5, _ => simp [argB, argL, low_length]
  | 6, _ => simp [argB, argL, low_length]
theorem datB_len (d : Dat) : (datB d).length = 64 := by simp [datB, low_length, argB_len]

theorem dat_cell1 {w : World} {g : Nat} {d : Dat} (h : Blk w g (datC d) 26) : w.cell? ⟨g, 1, none⟩ = some (.int .u32 d.ar) := h.cell 1
theorem dat_cell2 {w : World} {g : Nat} {d : Dat} (h : Blk w g (datC d) 26) : w.cell? ⟨g, 2, none⟩ = some (.int .u64 d.ip) := h.cell 2
theorem dat_cells {w : World} {g : Nat} {d : Dat} (h : Blk w g (datC d) 26) : w.cell? ⟨g, 3, none⟩ = some (.int .u64 d.a0) ∧ w.cell? ⟨g, 4, none⟩ = some (.int .u64 d.a1) ∧ w.cell? ⟨g, 5, none⟩ = some (.int .u64 d.a2) ∧
    w.cell? ⟨g, 6, none⟩ = some (.int .u64 d.a3) ∧ w.cell? ⟨g, 7, none⟩ = some (.int .u64 d.a4) ∧ w.cell? ⟨g, 8, none⟩ = some (.int .u64 d.a5) := ⟨h.cell 3, h.cell 4, h.cell 5, h.cell 6, h.cell 7, h.cell 8⟩
set_option maxHeartbeats 2000000 in
theorem encode_any (d : Dat) (h : DatOk d) (w : World) :
    Calls Try.prog 11 #[datV d] w fun e w' => ∃ g, e = .returned (.slice (some ⟨g, 0, none⟩) 64 64) ∧ w.heap.size ≤ g ∧ Wh w' g (datB d) ∧ Below w.heap.size w w' := by
  have HI := Lib.hid (arg_index d)
  obtain ⟨n0, n1⟩ := h.nr
  obtain ⟨r0, r1⟩ := h.ar
  unfold datV datC
  go_enter Try.func11, Try.ntmps11
  go_wp2_with fail
  refine (put32_any none 0 0 [] d.nr n0 n1 _ Rd.nil (by omega)).mono ?_
  rintro e w1 ⟨rfl, h1, b1⟩
  have z1 := b1.size
  have k1 := b1.block w.heap.size (by simp)
  rw [heap_alloc_new] at k1
  simp only [World.size_alloc, List.nil_append] at h1 b1 z1
  have B1 : Below w.heap.size w w1 := ((Below.refl _ w).alloc (Nat.le_refl _) _).trans (b1.mono (by omega))
  have K1 : Blk w1 w.heap.size (datC d) 26 := ⟨k1⟩
  clear k1 b1
  have c1 := dat_cell1 K1
  go_wp2_with fail
  have R1 := (h1.rd.more h1.lt)
  rw [low_length] at R1
  refine (put32_any _ 4 4 _ d.ar r0 r1 _ R1 (by omega)).mono ?_
  rintro e w2 ⟨rfl, h2, b2⟩
  have K2 := K1.below b2 K1.lt
  have B2 := B1.trans (b2.mono B1.size)
  have z2 := h2.lt
  clear c1 K1 B1 R1 h1
  have c2 := dat_cell2 K2
  go_wp2_with fail
  have R2 := (h2.rd.more h2.lt)
  rw [List.length_append, low_length, low_length] at R2
  refine (put64_any _ 8 8 _ d.ip _ R2 (by omega)).mono ?_
  rintro e w3 ⟨rfl, h3, b3⟩
  have K3 := K2.below b3 K2.lt
  have B3 := B2.trans (b3.mono B2.size)
  clear c2 K2 B2 R2 h2
  obtain ⟨c3, c4, c5, c6, c7, c8⟩ := dat_cells K3
  go_wp2_with fail
  clear c3 c4 c5 c6 c7 c8
  have gz : w.heap.size ≤ w2.heap.size := Nat.le_trans (by omega) b2.size
  go_loopw [3, 19] (fun v i wr => ∃ (k g : Nat), k ≤ 6 ∧ i = .int .i64 k ∧ v = .slice (some ⟨g, 0, none⟩) (16 + 8 * k) (16 + 8 * k) ∧ w.heap.size ≤ g ∧ Wh wr g (low d.nr 4 ++ low d.ar 4 ++ low d.ip 8 ++ argB d k) ∧ Below w.heap.size w wr) (fun _ i _ => 6 - (intOf i).toNat)
  case atStart =>
    refine ⟨0, w2.heap.size, Nat.zero_le _, rfl, rfl, gz, ?_, B3⟩
    simpa [argB] using h3
  case round =>
    obtain ⟨k, g, hk, rfl, rfl, hg, hwh, hb⟩ := hrel
    by_cases hlt : k < 6
    · have hlt' : (k : Int) < 6 := by omega
      have hi := HI.out k hlt
      obtain ⟨x, hx⟩ : ∃ x, (argL d).getD k 0 = x := ⟨_, rfl⟩
      rw [hx] at hi
      have hst := Lib.hid (argB_step d k hlt x hx)
      clear hx
      have R := hwh.rd.more hwh.lt
      have hl : (low d.nr 4 ++ low d.ar 4 ++ low d.ip 8 ++ argB d k).length = 16 + 8 * k := by rw [List.length_append, List.length_append, List.length_append, low_length, low_length, low_length, argB_len d k hk]
      rw [hl] at R
      clear hl
      go_wp2_with fail
      refine (put64_any _ (16 + 8 * k) (16 + 8 * k) _ x _ R (by omega)).mono ?_
      rintro e w4 ⟨rfl, h4, b4⟩
      go_wp2_with fail
      refine ⟨⟨k + 1, wr.heap.size, by omega, by go_num, rfl, hb.size, ?_, hb.trans (b4.mono hb.size)⟩, by simp [intOf]; omega⟩
      rw [hst.out, ← List.append_assoc]
      exact h4
    · obtain rfl : k = 6 := by omega
      go_wp2
      go_ret
      exact ⟨g, rfl, hg, hwh, hb⟩
end Go.Proofs.Ytpehbpjgbjlbjaa
