/-
  data.take: the words that a reader tells, one by one; data.Decode.
-/
import Derived.Test.YtpehbpjgbjlbjaaDatJ
import Derived.Test.YtpehbpjgbjlbjaaReads32
namespace Go.Proofs.Ytpehbpjgbjlbjaa
open Go.RowKit

/-- The sixteen words of bytes. -/
def wordsB (l : List Int) : List Int := (List.range 16).map fun i => numL ((l.drop (4 * i)).take 4)
/-- While they are laid. -/
def tk (L : List Int) (k : Nat) : List Int := L.take k ++ List.replicate (16 - k) 0
theorem tk_step (L : List Int) (hL : L.length = 16) (k : Nat) (hk : k < 16) (x : Int) (hx : L.getD k 0 = x) : (arrC (tk L k)).setIfInBounds k (.int .u32 x) = arrC (tk L (k + 1)) := by
  subst hx
  obtain ⟨m, hm⟩ : ∃ m, 16 - k = m + 1 := ⟨15 - k, by omega⟩
  unfold tk
  rw [hm, show 16 - (k + 1) = m by omega]
  apply Array.ext'
  simp only [arrC, Array.toList_setIfInBounds, List.map_append, List.map_replicate, List.replicate_succ]
  have e : L.take (k + 1) = L.take k ++ [L.getD k 0] := take_succ L k (by omega)
  rw [List.set_append_right _ _ (by simp; omega), e]
  simp only [List.length_map, List.length_take, show min k L.length = k by omega, Nat.sub_self, List.set_cons_zero, List.map_replicate, List.map_append, List.map_cons, List.map_nil, List.append_assoc, List.singleton_append]
theorem wordsB_len (l : List Int) : (wordsB l).length = 16 := by simp [wordsB]
theorem wordsB_get (l : List Int) (k : Nat) (hk : k < 16) : (wordsB l).getD k 0 = numL ((l.drop (4 * k)).take 4) := by
  simp [wordsB, List.getD, hk]
theorem tk_len (L : List Int) (hL : L.length = 16) (k : Nat) (hk : k ≤ 16) : (tk L k).length = 16 := by simp [tk, hL]; omega
theorem tk_end (L : List Int) (hL : L.length = 16) : tk L 16 = L := by simp [tk, ← hL]
theorem seen4 {l : List Int} (h : 4 ≤ l.length) : seen l 0 4 = l.take 4 ∧ left l 0 4 = l.drop 4 ∧ falt l 0 4 = 0 := by simp [seen, left, falt, h]
theorem num4_bd {l : List Int} (h : Byt l) (n : Nat) : U32 (numL ((l.drop n).take 4)) := by
  have h1 := numL_bd ((h.drop n).take 4)
  have h2 := pow8_le (k := ((l.drop n).take 4).length) (m := 4) (List.length_take_le _ _)
  have h3 : (256 : Int) ^ 4 = 4294967296 := by decide
  unfold U32
  omega
theorem wordsB_bd {l : List Int} (h : Byt l) : U32s (wordsB l) := by
  intro z hz
  simp only [wordsB, List.mem_map] at hz
  obtain ⟨i, _, rfl⟩ := hz
  exact num4_bd h _

/-- The reader's method, as a value. -/
def nextV (r : Nat) : Value := .func (.func 22) #[.pointer (some ⟨r, 0, none⟩)] #[]

set_option maxHeartbeats 2000000 in
theorem take_any (r : Nat) (l : List Int) (w : World) (h : Rdr w r l 0) (hl : l.length = 64) :
    Calls Try.prog 21 #[nextV r] w fun e w' => e = .returned (arrV (wordsB l)) ∧ But r w w' := by
  have hr := h.lt
  have HL := Lib.hid hl
  have hby := Lib.hid h.byt
  clear hl
  unfold nextV
  go_enter Try.func21, Try.ntmps21
  go_wp2
  go_loopw [5] (fun i wr => ∃ k : Nat, k ≤ 16 ∧ i = .int .i64 k ∧ Rdr wr r (l.drop (4 * k)) 0 ∧ Blk wr (w.heap.size + 1) (arrC (tk (wordsB l) k)) 38 ∧ Blk wr w.heap.size (arrC (List.replicate 16 0)) 38 ∧ But r w wr) (fun i _ => 16 - (intOf i).toNat)
  case atStart =>
    refine ⟨0, Nat.zero_le _, rfl, h.below (((Below.refl _ _).alloc (Nat.le_refl _) _).alloc (by simp) _) hr, Blk.new_ _ _ _ (by simp), (Blk.new_ _ _ _ rfl).alloc _, ((But.refl _ _).alloc _).alloc _⟩
  case round =>
    obtain ⟨k, hk, rfl, hrd, b2, b1, hb⟩ := hrel
    by_cases hlt : k < 16
    · have hlt' : (k : Int) < 16 := by omega
      have s4 := seen4 (l := l.drop (4 * k)) (by rw [List.length_drop, HL.out]; omega)
      have U := u32_any r _ 0 wr hrd
      rw [s4.1, s4.2.1, s4.2.2, List.drop_drop] at U
      obtain ⟨x, hx⟩ : ∃ x, numL ((l.drop (4 * k)).take 4) = x := ⟨_, rfl⟩
      rw [hx] at U
      have hst := Lib.hid (tk_step (wordsB l) (wordsB_len l) k hlt x (by rw [wordsB_get l k hlt, hx]))
      clear hx s4
      go_wp2_with fail
      refine U.mono ?_
      rintro e w1 ⟨rfl, hrd1, hb1⟩
      have b21 : Blk w1 (w.heap.size + 1) (arrC (tk (wordsB l) k)) 38 := ⟨(hb1.block _ b2.lt (by omega)).trans b2.blk⟩
      have b11 : Blk w1 w.heap.size (arrC (List.replicate 16 0)) 38 := ⟨(hb1.block _ b1.lt (by omega)).trans b1.blk⟩
      have c1 := (b21.cell k).trans (arr_get _ _ (by rw [tk_len _ (wordsB_len l) k hk]; omega))
      have f1 := b21.frozen k
      have hset := Lib.hid (fun u => b21.set_ k u)
      go_wp2_with fail
      refine ⟨⟨k + 1, by omega, by go_num, hrd1.below ((Below.refl (r + 1) _).setCell (by simp; omega) _) (Nat.lt_succ_self r), ?_, b11.far (by simp) _, (hb.trans hb1).setCell (.inr (by simp)) _⟩, by simp [intOf]; omega⟩
      rw [← hst.out]
      exact hset.out _
    · obtain rfl : k = 16 := by omega
      rw [tk_end _ (wordsB_len l)] at b2
      have hone := Lib.hid (arr_one (wordsB l))
      have hinf := Lib.hid (arr_inf (wordsB l) (wordsB_len l))
      go_wp2_with (first
        | (refine wpList_load_row rfl 38 (.tmp 3) rfl (w.heap.size + 1) rfl 38 (arrC (wordsB l)) (0, 0) _ b2.blk Try.underlying38 rfl hinf.out ?_)
        | (refine wpList_store_blk rfl 38 (.tmp 2) (.tmp 13) rfl w.heap.size (arrC (List.replicate 16 0)) (arrC (wordsB l)) 38 rfl rfl b1 (by rw [arr_size, arr_size, wordsB_len]; rfl) hinf.out hone.out ?_; intro w9 hw9 hn9))
      refine bodyPost_ret (v := arrV (wordsB l)) (results_cell_row rfl _ _ w.heap.size 38 (arrC (wordsB l)) (0, 0) _ rfl hw9.blk Try.underlying38 rfl hinf.out) rfl ?_
      exact ⟨rfl, hb.over hn9 (Nat.le_refl _)⟩
end Go.Proofs.Ytpehbpjgbjlbjaa
