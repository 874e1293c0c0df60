/-
  octet.Reader.Raw and its closure.
-/
import Derived.Test.YtabccpoolakfiaaReads
namespace Go.Proofs.Ytabccpoolakfiaa
open Go.RowKit

theorem But.then_ {g : Nat} {w W w' : World} (h : But g w W) (k : Below w.heap.size W w') : But g w w' :=
  ⟨k.os.trans h.os, k.tape.trans h.tape, k.output.trans h.output, Nat.le_trans h.size k.size, fun i hi hn => (k.block i hi).trans (h.block i hi hn)⟩

set_option maxHeartbeats 1000000 in
theorem rawcl_any (A : Option Addr) (n c : Nat) (l : List Int) (xp B : Nat) (w : World) (hr : Rd w B A n l) (hB : B ≤ xp) (hn : n ≤ 1000000) (hx : One w xp (.slice none 0 0) 22) :
    Calls Try.prog 34 #[.slice A n c, .pointer (some ⟨xp, 0, none⟩)] w fun e w' =>
      e = .returned (.tuple #[]) ∧ One w' xp (.slice (some ⟨w.heap.size, 0, none⟩) n n) 22 ∧ Wh w' w.heap.size l ∧ But xp w w' := by
  have hxl := hx.lt
  go_enter Try.func34, Try.ntmps34
  go_wp2_with (first
    | (at_make; refine wpList_make_bytes rfl (.tmp 4) (.tmp 4) rfl _ _ n rfl rfl rfl rfl (by omega) ?_; intro w1 hw1 hb1; have hx1 : One w1 xp (.slice none 0 0) 22 := ⟨(hb1.block xp hxl).trans hx.blk⟩; have hxc := hx1.cell; have hxf := hx1.free; have hx2 := fun u => hx1.set_ u; have hx3 := fun u => (hx1.set_ u).cell)
    | (with_reducible refine wpList_copy_bytes rfl (.tmp 6) (.tmp 7) rfl w.heap.size 0 A n n n c rfl rfl _ l (hw1.far (p := ⟨xp, 0, none⟩) (by simp; omega) _) B ((hr.below (hb1.mono (by omega))).below ((Below.refl _ _).setCell hB _)) (Nat.le_refl _) (by simp) w.heap.size _ (Below.refl _ _) (Nat.le_refl _) ?_; intro w2 hw2 hb2))
  go_end0
  rw [read_copied] at hw2
  refine ⟨rfl, ⟨(hb2.block xp hxl).trans (hx2 _).blk⟩, hw2, ?_⟩
  exact ((But.of_below hb1 xp).setCell (p := ⟨xp, 0, none⟩) (.inl rfl) _).then_ hb2

/-- What is seen, what is left, and the fault, when n bytes are asked for, n any number. -/
def seenI (l : List Int) (f n : Int) : List Int := if n < 0 then [] else seen l f n.toNat
def leftI (l : List Int) (f n : Int) : List Int := if n < 0 then l else left l f n.toNat
def faltI (l : List Int) (f n : Int) : Int := if n < 0 then (if f = 0 then 2 else f) else falt l f n.toNat

theorem raw_below {w w3 : World} {o1 : Obj} (hb : But w.heap.size (w.alloc o1) w3) : Below w.heap.size w w3 :=
  ((Below.refl _ _).alloc (Nat.le_refl _) o1).trans (hb.below w.heap.size (Nat.le_refl _) (by simp))

theorem Wh.rd_w {w : World} {g n : Nat} {l : List Int} (h : Wh w g l) (hn : l.length = n) : Rd w w.heap.size (some ⟨g, 0, none⟩) n l := by
  subst hn; exact h.rd.more h.lt

set_option maxHeartbeats 2000000 in
theorem raw_any (r : Nat) (n : Int) (l : List Int) (f : Int) (w : World) (h : Rdr w r l f) :
    Calls Try.prog 21 #[.pointer (some ⟨r, 0, none⟩), .int .i64 n] w fun e w' =>
      ∃ A1 c1, e = .returned (.slice A1 (seenI l f n).length c1) ∧ Rd w' w'.heap.size A1 (seenI l f n).length (seenI l f n) ∧ Rdr w' r (leftI l f n) (faltI l f n) ∧ But r w w' := by
  have hlt := h.lt
  have hby := h.byt
  obtain ⟨A, c, hc1, hc2, hk, hd⟩ := h.blk
  have hc0 : w.cell? ⟨r, 0, none⟩ = some (.slice A l.length c) := by simp [World.cell?, hk]
  have hcf : w.cell? ⟨r, 1, none⟩ = some (.int .i64 f) := by simp [World.cell?, hk]
  have hz0 : w.frozen? ⟨r, 0, none⟩ = false := by simp [World.frozen?, hk]
  have hz1 : w.frozen? ⟨r, 1, none⟩ = false := by simp [World.frozen?, hk]
  by_cases hf : f = 0
  · subst hf
    by_cases hneg : n < 0
    · have e1 : seenI l 0 n = [] := by simp [seenI, hneg]
      have e2 : leftI l 0 n = l := by simp [leftI, hneg]
      have e3 : faltI l 0 n = 2 := by simp [faltI, hneg]
      rw [e1, e2, e3]
      clear e1 e2 e3
      go_enter Try.func21, Try.ntmps21
      go_wp2_with (go_in)
      refine bodyPost_ret (results_none rfl _ _ _) rfl ?_
      go_wp2
      go_ret
      have q := rdr_falt (f' := 2) (Below.refl w.heap.size w) hlt hk hd hc1 hc2
      have hb := (Below.refl _ (w.setCell ⟨r, 1, none⟩ (.int .i64 2))).alloc (Nat.le_refl _) (.cells #[.slice none 0 0] 22)
      exact ⟨none, 0, rfl, Rd.none_, q.1.below hb q.1.lt, q.2.trans (But.of_below hb r)⟩
    · obtain ⟨k, rfl⟩ := Int.eq_ofNat_of_zero_le (show 0 ≤ n by omega)
      by_cases hn : k ≤ l.length
      · have e1 : seenI l 0 k = l.take k := by simp [seenI, seen, hn, show ¬ (k : Int) < 0 by omega]
        have e2 : leftI l 0 k = l.drop k := by simp [leftI, left, hn, show ¬ (k : Int) < 0 by omega]
        have e3 : faltI l 0 k = 0 := by simp [faltI, falt, hn, show ¬ (k : Int) < 0 by omega]
        have e4 : (l.take k).length = k := by rw [List.length_take]; omega
        rw [e1, e2, e3, e4]
        clear e1 e2 e3 e4
        have hn' : ¬ (l.length : Int) < k := by omega
        go_enter Try.func21, Try.ntmps21
        go_wp2_with (first
          | (go_at_call 34
             ((with_reducible refine (rawcl_any A k c (l.take k) w.heap.size r _ ?s1 (by omega) (by omega) ?s3).mono ?_))
             rotate_right
             rintro e w3 ⟨rfl, h3, h4, hb3⟩
             have hB3 := raw_below hb3
             have q0 := (hB3.cell (p := ⟨r, 0, none⟩) hlt).trans hc0
             have q1 := (hB3.frozen (p := ⟨r, 0, none⟩) hlt).trans hz0
             have q3 := fun u => (h3.far (p := ⟨r, 0, none⟩) (by simp; omega) u).cell)
          | go_in)
        case s1 => exact (hd.below (((Below.refl _ _).alloc (Nat.le_refl _) _).mono (by omega))).take hn
        case s3 => exact ⟨heap_alloc_new w _⟩
        all_goals go_end0
        all_goals go_wp2
        all_goals go_ret
        all_goals simp at h4
        · obtain rfl : c = k := by assumption
          have q := rdr_moved hB3 hlt hk (cut_rd0 hd (A' := A) (k := c) (by omega)) (c' := 0) (by omega) (by omega)
          exact ⟨_, _, rfl, (h4.far (p := ⟨r, 0, none⟩) (by simp; omega) _).rd_w (by rw [List.length_take]; omega), q⟩
        · have q := rdr_moved hB3 hlt hk (cut_rd hd hn) (c' := c - k) (by omega) (by omega)
          exact ⟨_, _, rfl, (h4.far (p := ⟨r, 0, none⟩) (by simp; omega) _).rd_w (by rw [List.length_take]; omega), q⟩
      · have e1 : seenI l 0 k = [] := by simp [seenI, seen, hn]
        have e2 : leftI l 0 k = l := by simp [leftI, left, hn]
        have e3 : faltI l 0 k = 7 := by simp [faltI, falt, hn, show ¬ (k : Int) < 0 by omega]
        rw [e1, e2, e3]
        clear e1 e2 e3
        have hn' : (l.length : Int) < k := by omega
        go_enter Try.func21, Try.ntmps21
        go_wp2_with (go_in)
        go_end0
        go_wp2
        go_ret
        have q := rdr_falt (f' := 7) (Below.refl w.heap.size w) hlt hk hd hc1 hc2
        have hb := (Below.refl _ (w.setCell ⟨r, 1, none⟩ (.int .i64 7))).alloc (Nat.le_refl _) (.cells #[.slice none 0 0] 22)
        exact ⟨none, 0, rfl, Rd.none_, q.1.below hb q.1.lt, q.2.trans (But.of_below hb r)⟩
  · have e1 : seenI l f n = [] := by simp [seenI, seen, hf]
    have e2 : leftI l f n = l := by simp [leftI, left, hf]
    have e3 : faltI l f n = f := by simp [faltI, falt, hf]
    rw [e1, e2, e3]
    clear e1 e2 e3
    have hf' : (f == 0) = false := by simpa using hf
    have hf'' : (f != 0) = true := by simpa using hf
    go_enter Try.func21, Try.ntmps21
    go_wp2_with (go_in)
    refine bodyPost_ret (results_none rfl _ _ _) rfl ?_
    go_wp2
    go_ret
    have hb := (Below.refl _ w).alloc (Nat.le_refl _) (.cells #[.slice none 0 0] 22)
    exact ⟨none, 0, rfl, Rd.none_, rdr_same hb h⟩

set_option maxHeartbeats 400000 in
theorem raw_nil (n : Int) (w : World) : Calls Try.prog 21 #[.pointer none, .int .i64 n] w fun e w' => e = .returned (.slice none 0 0) ∧ Below w.heap.size w w' := by
  go_enter Try.func21, Try.ntmps21
  go_wp2_with (go_in)
  refine bodyPost_ret (results_none rfl _ _ _) rfl ?_
  go_wp2
  go_ret
  exact ⟨rfl, (Below.refl _ _).alloc (Nat.le_refl _) _⟩
end Go.Proofs.Ytabccpoolakfiaa
