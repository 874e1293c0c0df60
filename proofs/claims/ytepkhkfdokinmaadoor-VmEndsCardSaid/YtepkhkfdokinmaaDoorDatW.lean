/-
  data.Words, data.join: the words of a call's data, the data of words.
-/
import Derived.Test.YtepkhkfdokinmaaDoorDat
import Derived.Test.YtepkhkfdokinmaaDoorBlk
import Derived.Test.YtepkhkfdokinmaaDoorClass
import Derived.StillTailTactics
import Derived.Deep.RegionHeld3
namespace Go.Proofs.YtepkhkfdokinmaaDoor
open Go.RowKit

/-- The words while they are laid: k of the six pairs. -/
def wk (d : Dat) (k : Nat) : List Int := (wordsL d).take (4 + 2 * k) ++ List.replicate (12 - 2 * k) 0
def argL (d : Dat) : List Int := [d.a0, d.a1, d.a2, d.a3, d.a4, d.a5]
theorem wk_step (d : Dat) (k : Nat) (hk : k < 6) : ((arrC (wk d k)).setIfInBounds (4 + 2 * k) (.int .u32 (lo ((argL d).getD k 0)))).setIfInBounds (5 + 2 * k) (.int .u32 (hi ((argL d).getD k 0))) = arrC (wk d (k + 1)) := by
  match k, hk with
  | 0, _ => rfl
  | 1, _ => rfl
  | 2, _ => rfl
  | 3, _ => rfl
  | 4, _ => rfl
  | 5, _ => rfl
theorem wk_end (d : Dat) : wk d 6 = wordsL d := by simp [wk, wordsL]
theorem arr_get (l : List Int) (k : Nat) (hk : k < l.length) : (arrC l)[k]? = some (.int .u32 (l.getD k 0)) := by
  simp [arrC, List.getD, hk]
theorem arr_info : (Tryd.prog.info? 33).map (·.size) = some 16 := by kernel_rfl
theorem arr_one (l : List Int) : (arrC l).all (·.oneCell') = true := by simp [arrC, Value.oneCell']
theorem arr_size (l : List Int) : (arrC l).size = l.length := by simp [arrC]
theorem arr_inf (l : List Int) (h : l.length = 16) : (Tryd.prog.info? 33).map (·.size) = some (arrC l).size := by rw [arr_size, h]; exact arr_info
theorem wk_len (d : Dat) (k : Nat) (hk : k ≤ 6) : (wk d k).length = 16 := by
  simp [wk, words_len]; omega
theorem arg_index (d : Dat) (k : Nat) (hk : k < 6) : ∀ w : World, (Instr.index 30 (.agg #[.int .u64 d.a0, .int .u64 d.a1, .int .u64 d.a2, .int .u64 d.a3, .int .u64 d.a4, .int .u64 d.a5]) (.int .i64 k)).run Tryd.prog w = .ok (.int .u64 ((argL d).getD k 0)) w := by
  match k, hk with
  | 0, _ => intro V; kernel_rfl
  | 1, _ => intro V; kernel_rfl
  | 2, _ => intro V; kernel_rfl
  | 3, _ => intro V; kernel_rfl
  | 4, _ => intro V; kernel_rfl
  | 5, _ => intro V; kernel_rfl
theorem arg_ok (d : Dat) (h : DatOk d) (k : Nat) (hk : k < 6) : U64 ((argL d).getD k 0) := by
  match k, hk with
  | 0, _ => exact h.a0
  | 1, _ => exact h.a1
  | 2, _ => exact h.a2
  | 3, _ => exact h.a3
  | 4, _ => exact h.a4
  | 5, _ => exact h.a5

set_option maxHeartbeats 2000000 in
theorem words_any (d : Dat) (h : DatOk d) (w : World) :
    Calls Tryd.prog 52 #[datV d] w fun e w' => e = .returned (arrV (wordsL d)) ∧ Below w.heap.size w w' := by
  have HA := Lib.hid (arg_ok d h)
  have HI := Lib.hid (arg_index d)
  have hip := h.ip
  unfold datV datC
  go_enter Tryd.func52, Tryd.ntmps52
  go_wp2_with (go_at_call 71; refine (halves_any _ hip _).mono ?_; rintro e w' ⟨rfl, rfl⟩)
  go_loopw [21] (fun i wr => ∃ k : Nat, k ≤ 6 ∧ i = .int .i64 k ∧ Blk wr (w.heap.size + 1 + 1) (arrC (wk d k)) 33 ∧ Blk wr (w.heap.size + 1) (arrC (List.replicate 16 0)) 33 ∧ Below w.heap.size w wr) (fun i _ => 6 - (intOf i).toNat)
  case atStart =>
    exact ⟨0, Nat.zero_le _, rfl, Blk.new_ _ _ _ (by simp), (Blk.new_ _ _ _ (by simp)).alloc _, (((Below.refl _ _).alloc (Nat.le_refl _) _).alloc (by simp) _).alloc (by simp; omega) _⟩
  case round =>
    obtain ⟨k, hk, rfl, b3, b2, hb⟩ := hrel
    by_cases hlt : k < 6
    · have hlt' : (k : Int) < 6 := by omega
      have hi := HI.out k hlt
      have ha := HA.out k hlt
      have c1 := (b3.cell (4 + 2 * k)).trans (arr_get _ _ (by rw [wk_len d k hk]; omega))
      have c2 := (b3.cell (5 + 2 * k)).trans (arr_get _ _ (by rw [wk_len d k hk]; omega))
      have f1 := b3.frozen (4 + 2 * k)
      have f2 := b3.frozen (5 + 2 * k)
      have hst := Lib.hid (wk_step d k hlt)
      have hset := Lib.hid (fun u v => (b3.set_ (4 + 2 * k) u).set_ (5 + 2 * k) v)
      obtain ⟨x, hx⟩ : ∃ x, (argL d).getD k 0 = x := ⟨_, rfl⟩
      rw [hx] at hi ha
      have HX := Lib.hid hx
      clear hx
      go_wp2_with (go_at_call 71; refine (halves_any _ ha _).mono ?_; rintro e w' ⟨rfl, rfl⟩)
      refine ⟨⟨k + 1, by omega, by go_num, ?_, (b2.far (by simp) _).far (by simp) _, (hb.setCell (by simp; omega) _).setCell (by simp; omega) _⟩, by simp [intOf]; omega⟩
      rw [← hst.out, HX.out]
      exact hset.out _ _
    · obtain rfl : k = 6 := by omega
      rw [wk_end] at b3
      have hone := Lib.hid (arr_one (wordsL d))
      go_wp2_with (first
        | (refine wpList_load_row rfl 33 (.tmp 3) rfl (w.heap.size + 1 + 1) rfl 33 (arrC (wordsL d)) (0, 0) _ b3.blk Tryd.underlying33 rfl arr_info ?_)
        | (refine wpList_store_blk rfl 33 (.tmp 2) (.tmp 39) rfl (w.heap.size + 1) (arrC (List.replicate 16 0)) (arrC (wordsL d)) 33 rfl rfl b2 rfl arr_info hone.out ?_; intro w9 hw9 hn9))
      refine bodyPost_ret (v := arrV (wordsL d)) (results_cell_row rfl _ _ (w.heap.size + 1) 33 (arrC (wordsL d)) (0, 0) _ rfl hw9.blk Tryd.underlying33 rfl arr_info) rfl ?_
      exact ⟨rfl, hb.trans (hn9.below w.heap.size (by omega) hb.size)⟩
end Go.Proofs.YtepkhkfdokinmaaDoor
