/-
  What OctetMoves calls besides: bytes.Count of noughts among noughts, bytes.HasPrefix of what is ahead; the bytes of a number of bytes.
-/
import Derived.Test.YtabccpoolakfiaaLookParts
import Derived.Test.YtabccpoolakfiaaEqual
import Derived.Test.YtabccpoolakfiaaPut
import Derived.Shelf.Bytes.SlCountOne
namespace Go.Proofs.Ytabccpoolakfiaa
open Go.RowKit

theorem count_noughts (n : Nat) : Lib.countByte (Lib.bytesOf (List.replicate n 0)) (0 : Int).toNat.toUInt8 = n := by
  simp [Lib.countByte, Lib.bytesOf]

theorem run_count0 {w : World} {B n : Nat} {A : Option Addr} (h : Rd w B A n (List.replicate n 0)) (c : Nat) :
    (Extern.BytealgCount.count #[.slice A n c, .int .u8 0]).run Try.prog w = .ok (.int .i64 n) w := by
  rcases A with _ | a
  · have hn : n = 0 := by
      rcases Nat.eq_zero_or_pos n with h0 | h0
      · exact h0
      · obtain ⟨b, off, e, _⟩ := h.cells h0
        cases e
    subst hn
    exact Lib.run_countNil w 0 c 0
  · have := Lib.run_countAt (P := Try.prog) w a n c (List.replicate n 0) (by simp) (fun i hi => by
      obtain ⟨b, off, e, _, hc⟩ := h.cells (by omega)
      injection e with e
      subst e
      rw [add_at]
      exact hc i hi) 0
    rw [count_noughts] at this
    exact this

set_option maxHeartbeats 2000000 in
set_option maxRecDepth 1000000 in
theorem count_any (A : Option Addr) (n c B b2 d : Nat) (w : World) (h : Rd w B A n (List.replicate n 0)) (hc2 : w.cell? ⟨b2, 0, none⟩ = some (.int .u8 0)) :
    Calls Try.prog 29 #[.slice A n c, .slice (some ⟨b2, 0, none⟩) 1 d] w fun e w' => e = .returned (.int .i64 n) ∧ w = w' := by
  have hrun := Lib.hid (run_count0 h c)
  go_enter Try.func29, Try.ntmps29
  go_wp2
  rw [run_callFunc_extern Try.func37 (by kernel_rfl) (by kernel_rfl) (by kernel_rfl) (e := Extern.BytealgCount.count) (by kernel_rfl), hrun.out]
  simp only [Result.andThen]
  rw [Oper.upon_value]
  go_wp2
  go_ret
  exact ⟨rfl, rfl⟩

set_option maxHeartbeats 1000000 in
theorem prefix_any (A A' : Option Addr) (n c m c' B B' : Nat) (l : List Int) (w : World) (h : Rd w B A n l) (h' : Rd w B' A' m (l.take m)) (hm : m ≤ n) (hnc : n ≤ c) :
    Calls Try.prog 30 #[.slice A n c, .slice A' m c'] w fun e w' => e = .returned (.bool true) ∧ w = w' := by
  have hm1 : (m : Int) ≤ n := by omega
  have hm2 : (m : Int) ≤ c := by omega
  have he := equal_any A A' m c m c' B B' (l.take m) (l.take m) w (h.take hm) h'
  simp only [decide_true] at he
  go_enter Try.func30, Try.ntmps30
  go_wp2_with fail
  refine he.mono ?_
  rintro e w' ⟨rfl, rfl⟩
  go_wp2
  go_ret
  exact ⟨rfl, rfl⟩

theorem Rd.cell0 {w : World} {B b n : Nat} {z : Int} (h : Rd w B (some ⟨b, 0, none⟩) n [z]) : w.cell? ⟨b, 0, none⟩ = some (.int .u8 z) := by
  have hn : n = 1 := h.len.symm
  obtain ⟨b', off, e, _, hc⟩ := h.at_ (k := 0) (by omega)
  injection e with e
  injection e with e1 e2
  subst e1
  subst e2
  exact hc
theorem low_numL {l : List Int} (h : Byt l) : low (numL l) l.length = l := by
  apply List.ext_getElem
  · simp [low]
  · intro i h1 h2
    have hi : i < l.length := h2
    have e : (low (numL l) l.length)[i] = byt (numL l) i := by simp [low]
    rw [e]
    have hs : numL l = numL (l.take i) + 256 ^ i * (l[i] + 256 * numL (l.drop (i + 1))) := by
      have h3 : l = l.take i ++ l[i] :: l.drop (i + 1) := by rw [← List.drop_eq_getElem_cons hi, List.take_append_drop]
      have h4 := numL_append (l.take i) (l[i] :: l.drop (i + 1))
      rw [← h3, List.length_take, Nat.min_eq_left (by omega)] at h4
      rw [h4]; rfl
    have hb := numL_bd (h.take i)
    rw [List.length_take, Nat.min_eq_left (by omega)] at hb
    have hz := h l[i] (List.getElem_mem hi)
    have hp := pow256_pos i
    unfold byt
    rw [pow8, hs, Int.add_mul_ediv_left _ _ (by omega), Int.ediv_eq_zero_of_lt hb.1 hb.2]
    omega

theorem Ow.but {w w' : World} {base n c r : Nat} {A : Option Addr} {l : List Int} (h : Ow w base A n c l) (hb : But r w w') (hr : r < base) : Ow w' base A n c l := by
  refine ⟨⟨h.own.1, ?_⟩, h.byt⟩
  rcases h.own.2 with h0 | ⟨g, cap, cur, hv, hg, hh, r1⟩
  · exact .inl h0
  · have hlt : g < w.heap.size := by
      rcases Nat.lt_or_ge g w.heap.size with h1 | h1
      · exact h1
      · rw [Array.getElem?_eq_none h1] at hh; cases hh
    exact .inr ⟨g, cap, cur, hv, hg, (hb.block g hlt (by omega)).trans hh, r1⟩
theorem Ow.below {w w' : World} {base n c : Nat} {A : Option Addr} {l : List Int} (h : Ow w base A n c l) (hb : Below w.heap.size w w') : Ow w' base A n c l := by
  refine ⟨⟨h.own.1, ?_⟩, h.byt⟩
  rcases h.own.2 with h0 | ⟨g, cap, cur, hv, hg, hh, r1⟩
  · exact .inl h0
  · have hlt : g < w.heap.size := by
      rcases Nat.lt_or_ge g w.heap.size with h1 | h1
      · exact h1
      · rw [Array.getElem?_eq_none h1] at hh; cases hh
    exact .inr ⟨g, cap, cur, hv, hg, (hb.block g hlt).trans hh, r1⟩
end Go.Proofs.Ytabccpoolakfiaa
