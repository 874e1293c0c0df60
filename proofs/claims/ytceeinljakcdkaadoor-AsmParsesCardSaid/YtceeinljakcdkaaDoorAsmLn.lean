/-
  strings.Lines: the lines of a text, one behind the other.
-/
import Derived.Test.YtceeinljakcdkaaDoorAsmOne
import Derived.Test.YtceeinljakcdkaaDoorRange6
import Derived.Test.YtceeinljakcdkaaDoorClassT
import Derived.Test.YtceeinljakcdkaaDoorClass
import Derived.Shelf.RegionOpen
import Derived.WalkKit
import Derived.OwnWalkIn
import Derived.TacticsInMore
import Derived.LoopNIn
import Derived.LoopIn
import Derived.Deep.RegionHeld3
namespace Go.Proofs.YtceeinljakcdkaaDoor
open Go.RowKit Go.Shelf
attribute [local go_sem] Oper.semAt_some

def leftW (g : Nat) (w : World) : Nat := match w.cell? ⟨g, 0, none⟩ with
  | some (.string s) => s.size
  | _ => 0
theorem leftW_eq {g : Nat} {w : World} {s : ByteArray} (h : Blk w g #[.string s] 9) : leftW g w = s.size := by
  unfold leftW
  rw [h.cell 0]
  rfl
theorem grown_b {W V : World} (h : Below W.heap.size W V) : W.grownBy V none := ⟨h.os, h.tape, h.output, h.size, fun k hk _ => h.block k hk⟩
theorem grown_s (W : World) (p : Addr) (u : Value) : W.grownBy (W.setCell p u) (some p.block) :=
  ⟨rfl, rfl, rfl, by simp [World.setCell], fun k _ h2 => Below.heap_setCell _ _ _ _ (fun e => h2 (by rw [e]))⟩
/-- A line's bytes, not too many. -/
abbrev AL := { x : List UInt8 // x.length ≤ 1048576 }
set_option maxRecDepth 100000 in
set_option maxHeartbeats 8000000 in
theorem lns_in (n : Nat) (hn : 1 ≤ n) (lp g : Nat) (l : List UInt8) (hl : l.length ≤ 1048576) (J Jx : List AL → World → Prop) (W : World) (hJ : AbidesR (fun r => r = g) J)
    (hY : ∀ pre x W1, J pre W1 → W.heap.size ≤ W1.heap.size → (∀ r, r = g → r < W1.heap.size) → pre.length < (linesL l).length → YieldAt Fence.wide (n - 1) Tryd.prog lp #[.string (bs x.1)] W1 fun e W' =>
      KeptAt (fun r => r = g) W1 W' ∧ W1.heap.size ≤ W'.heap.size ∧ ((e = .returned (.bool true) ∧ J (pre ++ [x]) W') ∨ (e = .returned (.bool false) ∧ Jx (pre ++ [x]) W')))
    (hb : Blk W g #[.string (bs l)] 9) (h0 : J [] W) :
    CallsIn Fence.wide n Tryd.prog 68 #[.func (.yield lp) #[] #[], .pointer (some ⟨g, 0, none⟩)] W fun e W' => (∃ v, e = .returned v) ∧
      ((∃ xs, xs.map (·.1) = linesL l ∧ J xs W') ∨ (∃ pre, (∃ x ini post, pre = ini ++ [x] ∧ linesL l = pre.map (·.1) ++ post) ∧ Jx pre W')) := by
  refine callsIn_of_wp Tryd.func68 rfl trivial ?_ rfl
  simp only [Tryd.ntmps68, List.size_toArray, List.length_cons, List.length_nil, Nat.reduceAdd, Nat.reduceSub, Array.replicate_succ, Array.replicate_zero, List.push_toArray, List.append_toArray, List.nil_append, List.cons_append]
  gi_wp2
  gi_loopw [4] (fun _ wr => ∃ (pre : List AL) (rest : List UInt8), pre.map (·.1) ++ linesL rest = linesL l ∧ rest.length ≤ l.length ∧ J pre wr ∧ W.heap.size ≤ wr.heap.size ∧ Blk wr g #[.string (bs rest)] 9) (fun _ wr => leftW g wr)
  case atStart => exact ⟨[], l, rfl, Nat.le_refl _, h0, Nat.le_refl _, hb⟩
  case round =>
    obtain ⟨pre, rest, hpre, hle, hJs, hsz, hB⟩ := hrel
    have c0 := hB.cell 0
    have f0 := hB.frozen 0
    simp only [List.getElem?_toArray, List.getElem?_cons_zero] at c0
    have hrs := bs_size rest
    have HBW := Lib.hid hB
    by_cases hr : rest = []
    · subst hr
      gi_wp2
      go_end0
      exact ⟨⟨_, rfl⟩, .inl ⟨_, by simpa [linesL] using hpre, hJs⟩⟩
    · have hpos : 0 < rest.length := List.length_pos_iff.2 hr
      have hrz : (0 : Int) < ((bs rest).size : Int) := by rw [hrs]; omega
      have hge := Lib.indexByte_ge rest 10
      have hidx : ∀ w, Calls Tryd.prog 25 #[.string (bs rest), .int .u8 10] w fun e w' => e = .returned (.int .i64 (Lib.indexByte rest 10)) ∧ w' = w := fun w => by
        have := index_any (bs rest) 10 w
        rwa [bs_list] at this
      by_cases h : Lib.indexByte rest 10 = -1
      · have hlast := linesL_no rest h hr
        rw [h] at hidx
        have hJ1 := hJ _ _ _ (some g) hJs (grown_s wr ⟨g, 0, none⟩ (.string ⟨#[]⟩)) (fun r e => by cases e; rfl)
        have hB1 := hB.set_ 0 (.string ⟨#[]⟩)
        have hlen : pre.length < (linesL l).length := by rw [← hpre, hlast]; simp
        have hrl : rest.length ≤ 1048576 := by omega
        obtain ⟨fn, tmps, assign, body, hy, hR⟩ := hY pre ⟨rest, hrl⟩ _ hJ1 (by simp [World.setCell]; exact hsz) (fun r e => by rw [e]; exact hB1.lt) hlen
        gi_wp2_with (first
          | (refine ⟨trivial, ?_⟩; gi_at_call 25; refine (callsIn_wide.2 (hidx _)).mono ?_; rintro e w' ⟨rfl, e1⟩; obtain rfl := e1.symm))
        refine hR.mono ?_
        rintro e W3 ⟨hk, hs3, hj⟩
        have hB3 : Blk W3 g #[.string (bs [])] 9 := ⟨(hk g rfl).trans hB1.blk⟩
        have hs3' : W.heap.size ≤ W3.heap.size := Nat.le_trans (by simpa [World.setCell] using hsz) hs3
        clear hR hy hidx hJ1 hB1 hB hJs hk hs3 c0 f0
        rcases hj with ⟨rfl, hJ3⟩ | ⟨rfl, hx3⟩
        · gi_wp2
          go_roundw
          case rel => exact ⟨pre ++ [⟨rest, hrl⟩], [], by rw [← hpre, hlast]; simp [linesL], by simp, hJ3, hs3', hB3⟩
          case measure => rw [leftW_eq hB3, leftW_eq (w := wr) HBW.out, bs_size, bs_size]; simpa using hpos
        · gi_wp2
          refine bodyPost_ret (results_none rfl _ _ _) rfl ?_
          exact ⟨⟨_, rfl⟩, .inr ⟨_, ⟨⟨rest, hrl⟩, pre, [], rfl, by rw [← hpre, hlast]; simp⟩, hx3⟩⟩
      · obtain ⟨i, hi⟩ : ∃ i : Nat, Lib.indexByte rest 10 = (i : Int) := ⟨(Lib.indexByte rest 10).toNat, by omega⟩
        obtain ⟨hlt, hls⟩ := linesL_at rest i hi
        rw [hi] at hidx
        gi_wp2_with (first
          | (refine ⟨trivial, ?_⟩; gi_at_call 25; refine (callsIn_wide.2 (hidx _)).mono ?_; rintro e w' ⟨rfl, e1⟩; obtain rfl := e1.symm))
        have hi1 : IntKind.i64.wrap ((i : Int) + 1) = (i : Int) + 1 := by rw [IntKind.wrap_i64]; omega
        have hi2 : (i : Int) + 1 ≤ ((bs rest).size : Int) := by rw [hrs]; omega
        refine wpIn_wide.2 ?_
        have hD : Blk wr.drew g #[.string (bs rest)] 9 := hB.drew
        have hJD := hJ _ _ _ none hJs (grown_b (Below.refl _ wr).drew) (fun r e => by cases e)
        have J0 : (fun V => J pre V ∧ W.heap.size ≤ V.heap.size ∧ Blk V g #[.string (bs rest)] 9) wr.drew := ⟨hJD, hsz, hD⟩
        have hS1 : ∀ s : Sig (fun V => J pre V ∧ W.heap.size ≤ V.heap.size ∧ Blk V g #[.string (bs rest)] 9), s.V.cell? ⟨g, 0, none⟩ = some (.string (bs rest)) := fun s => s.h.2.2.cell 0
        have hne : Nonempty (Sig (fun V => J pre V ∧ W.heap.size ≤ V.heap.size ∧ Blk V g #[.string (bs rest)] 9)) := ⟨⟨_, J0⟩⟩
        refine region_class_tail (S := fun V => J pre V ∧ W.heap.size ≤ V.heap.size ∧ Blk V g #[.string (bs rest)] 9) 9 (by kernel_rfl) (by kernel_rfl) J0 ?_
        simp only [List.take_succ_cons, List.take_zero, List.drop_succ_cons, List.drop_zero]
        repeat (first | go_big_quiet_step (fail))
        refine wpQuiet_nil ?_
        rintro ⟨V, J7⟩
        dsimp only
        have e1 : (bs rest).extract 0 (i + 1) = bs (rest.take (i + 1)) := by rw [take_bs, bs_list]
        have e2 : (bs rest).extract (i + 1) rest.length = bs (rest.drop (i + 1)) := by rw [← hrs, drop_bs, bs_list]
        rw [e1, e2]
        clear e1 e2 hS1 hne J0 hJD hD
        obtain ⟨j1, j2, j3⟩ := J7
        have c7 := j3.cell 0
        have f7 := j3.frozen 0
        simp only [List.getElem?_toArray, List.getElem?_cons_zero] at c7
        have hJ1 := hJ _ _ _ (some g) j1 (grown_s V ⟨g, 0, none⟩ (.string (bs (rest.drop (i + 1))))) (fun r e => by cases e; rfl)
        have hB1 : Blk (V.setCell ⟨g, 0, none⟩ (.string (bs (rest.drop (i + 1))))) g #[.string (bs (rest.drop (i + 1)))] 9 := j3.set_ 0 (.string (bs (rest.drop (i + 1))))
        have hlen : pre.length < (linesL l).length := by rw [← hpre, hls]; simp
        have hrl : (rest.take (i + 1)).length ≤ 1048576 := by simp; omega
        obtain ⟨fn, tmps, assign, body, hy, hR⟩ := hY pre ⟨rest.take (i + 1), hrl⟩ _ hJ1 (by simp [World.setCell]; exact j2) (fun r e => by rw [e]; exact hB1.lt) hlen
        clear c0 f0 hJs j1
        go_wp2
        gi_wp2
        refine hR.mono ?_
        rintro e W3 ⟨hk, hs3, hj⟩
        have hB3 : Blk W3 g #[.string (bs (rest.drop (i + 1)))] 9 := ⟨(hk g rfl).trans hB1.blk⟩
        have hs3' : W.heap.size ≤ W3.heap.size := Nat.le_trans (by simpa [World.setCell] using j2) hs3
        clear hR hy hidx hJ1 hB1 hB hk hs3 c7 f7 j3
        rcases hj with ⟨rfl, hJ3⟩ | ⟨rfl, hx3⟩
        · gi_wp2
          go_roundw
          case rel => exact ⟨pre ++ [⟨rest.take (i + 1), hrl⟩], rest.drop (i + 1), by rw [← hpre, hls]; simp, by simp; omega, hJ3, hs3', hB3⟩
          case measure => rw [leftW_eq hB3, leftW_eq (w := wr) HBW.out, bs_size, bs_size]; simp; omega
        · gi_wp2
          refine bodyPost_ret (results_none rfl _ _ _) rfl ?_
          exact ⟨⟨_, rfl⟩, .inr ⟨_, ⟨⟨rest.take (i + 1), hrl⟩, pre, linesL (rest.drop (i + 1)), rfl, by rw [← hpre, hls]; simp⟩, hx3⟩⟩
theorem lns_seq (n : Nat) (hn : 1 ≤ n) (g : Nat) (l : List UInt8) (hl : l.length ≤ 1048576) (w : World) (hb : Blk w g #[.string (bs l)] 9) :
    SeqR Fence.wide n Tryd.prog 68 #[.pointer (some ⟨g, 0, none⟩)] (fun x : AL => #[.string (bs x.1)]) (fun xs => xs.map (·.1) = linesL l) (fun pre => ∃ x ini post, pre = ini ++ [x] ∧ linesL l = pre.map (·.1) ++ post) (linesL l).length (fun _ r => r = g) w :=
  fun lp J Jx W hW hJ _ hY h0 => lns_in n hn lp g l hl J Jx W hJ hY (hb.below hW hb.lt) h0
theorem lines_mk (n : Nat) (s : ByteArray) (w : World) : CallsIn Fence.wide n Tryd.prog 57 #[.string s] w fun e w' => e = .returned (.func (.func 68) #[] #[.pointer (some ⟨w.heap.size, 0, none⟩)]) ∧ w' = w.alloc (.cells #[.string s] 9) := by
  refine callsIn_of_wp Tryd.func57 rfl trivial ?_ rfl
  simp only [Tryd.ntmps57, List.size_toArray, List.length_cons, List.length_nil, Nat.reduceAdd, Nat.reduceSub, Array.replicate_succ, Array.replicate_zero, List.push_toArray, List.append_toArray, List.nil_append, List.cons_append]
  gi_wp2
  go_ret
  exact ⟨rfl, rfl⟩
end Go.Proofs.YtceeinljakcdkaaDoor
