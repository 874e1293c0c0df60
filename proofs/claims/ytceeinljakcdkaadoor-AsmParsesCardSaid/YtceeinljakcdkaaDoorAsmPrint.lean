/-
  asm.Print: the text of instructions.
-/
import Derived.Test.YtceeinljakcdkaaDoorAsmLine
import Derived.Test.YtceeinljakcdkaaDoorIns
namespace Go.Proofs.YtceeinljakcdkaaDoor
open Go.RowKit Go.Shelf

/-- The text of the first k, as far as it is written. -/
def prL (f : Nat → Ins) : Nat → Option (List UInt8)
  | 0 => some []
  | k + 1 => match prL f k with
    | none => none
    | some t => if hasL (f k) then some (if t.length ≤ 8192 then t ++ (lineB (f k) ++ [10]) else t) else none
def prV (f : Nat → Ins) (n : Nat) : List UInt8 × Int := match prL f n with
  | none => ([], 2)
  | some t => if 255 < n ∨ 8192 < t.length then ([], 3) else (t, 0)
theorem prL_none {f : Nat → Ins} {k : Nat} (h : prL f k = none) (j : Nat) : prL f (k + j) = none := by
  induction j with
  | zero => exact h
  | succ j ih => rw [← Nat.add_assoc, prL, ih]
theorem line_len {q : Ins} (hq : insO q) : (lineB q).length ≤ 127 := by
  obtain ⟨o1, o2, o3, o4, o5, o6, o7, o8⟩ := hq
  have h0 := okB (name_len q.1)
  have h1 := dig_len (bareK q.1 1) q.2.2.2 (by omega) (by omega)
  have h2 := dig_len (bareJ q.1 1) q.2.1 (by omega) (by omega)
  have h3 := dig_len (bareJ q.1 1) q.2.2.1 (by omega) (by omega)
  simp only [lineB, List.length_append]
  omega
theorem ri_at {w : World} {B n : Nat} {A : Option Addr} {f : Nat → Ins} (h : Ri w B A n f) (k : Nat) (hk : k < n) : insO (f k) := h.ok k hk
set_option maxRecDepth 100000 in
set_option maxHeartbeats 8000000 in
theorem print_any (A : Option Addr) (n c : Nat) (f : Nat → Ins) (hn : n ≤ 300) (w : World) (hT : T8 w) (hA : Ri w w.heap.size A n f) :
    Calls Tryd.prog 9 #[.slice A n c] w fun e w' => e = .returned (.tuple #[.string (bs (prV f n).1), .int .i64 (prV f n).2]) ∧ Below w.heap.size w w' := by
  have hfr := Lib.IsBuilderF.of (Lib.fresh_isBuilder 57 5 w)
  have hB0 : Below w.heap.size w (w.alloc (.cells #[.pointer none, .slice none 0 0] 57)) := (Below.refl _ w).alloc (Nat.le_refl _) _
  go_enter Tryd.func9, Tryd.ntmps9
  go_wp2
  go_loopw [11] (fun i wr => ∃ (k : Nat) (t : List UInt8), k ≤ n ∧ i = .int .i64 k ∧ prL f k = some t ∧ t.length ≤ 8400 ∧ IsB w.heap.size w.heap.size t wr ∧ Below w.heap.size w wr) (fun i _ => n - (intOf i).toNat)
  case atStart => exact ⟨0, [], Nat.zero_le _, rfl, rfl, by simp, hfr, hB0⟩
  case round =>
    obtain ⟨k, t, hk, rfl, ht, htl, hI, hb⟩ := hrel
    by_cases hlt : k < n
    · obtain ⟨b, off, rfl, hbl, ⟨p0, p1, p2, p3⟩, hq⟩ := (hA.below hb (Nat.le_refl _)) k hlt
      obtain ⟨q, hqe⟩ : ∃ q, f k = q := ⟨_, rfl⟩
      rw [hqe] at p0 p1 p2 p3 hq
      have hlt' : (k : Int) < n := by omega
      have hline := line_any q hq
      have hll := line_len hq
      have hstep : prL f (k + 1) = if hasL q then some (if t.length ≤ 8192 then t ++ (lineB q ++ [10]) else t) else none := by rw [prL, ht, hqe]
      have HQ := Lib.hid hqe
      clear hqe hfr hB0
      obtain ⟨c0, a0, b0, d0⟩ := q
      simp only [valI, insV] at hline p0 p1 p2 p3
      have hT1 := (hT.new hb).alloc (.cells #[.int .u16 c0, .int .u8 a0, .int .u8 b0, .int .u32 d0] 32)
      have hbx : Below wr.heap.size wr (wr.alloc (.cells #[.int .u16 c0, .int .u8 a0, .int .u8 b0, .int .u32 d0] 32)) := (Below.refl _ wr).alloc (Nat.le_refl _) _
      by_cases hh : hasL (c0, a0, b0, d0) = true
      · have e1 : lineS (c0, a0, b0, d0) = bs (lineB (c0, a0, b0, d0)) := by simp [lineS, hh]
        have e2 : lineE (c0, a0, b0, d0) = 0 := by simp [lineE, hh]
        rw [e1, e2] at hline
        rw [if_pos hh] at hstep
        clear e1 e2 hh
        have HS := Lib.hid hstep
        clear hstep ht
        go_wp2_with (go_at_call 10; refine (hline _ hT1).mono ?_; rintro e w1 ⟨rfl, hb1⟩; refine Hid.out ?_)
        refine Lib.hid ?_
        have hI1 := isB_below hI (hbx.trans (hb1.mono (by simp)))
        have hB1 : Below w.heap.size w w1 := hb.trans ((hbx.trans (hb1.mono (by simp))).mono hb.size)
        have hlen := blen_any w.heap.size w.heap.size _ w1 hI1
        rw [Lib.byteCells_length] at hlen
        clear hline hb1 p0 p1 p2 p3
        by_cases h8 : t.length ≤ 8192
        · have h8' : (t.length : Int) ≤ 8192 := by omega
          have HS' := HS.out
          rw [if_pos h8] at HS'
          have HS2 := Lib.hid HS'
          clear HS HS' h8
          have hstr := bstr_any w.heap.size w.heap.size _ (bs (lineB (c0, a0, b0, d0))) w1 hI1 (by rw [Lib.byteCells_length, bs_size]; omega) hB1.size
          go_wp2_with (first
            | (go_at_call 26; refine hlen.mono ?_; rintro e w' ⟨rfl, e1⟩; obtain rfl := e1.symm)
            | (go_at_call 27; refine hstr.mono ?_; rintro e w2 ⟨rfl, hat2, hb2, _⟩; refine Hid.out ?_))
          refine Lib.hid ?_
          have hI2 : IsB w.heap.size w.heap.size (t ++ lineB (c0, a0, b0, d0)) w2 := .inr (by
            rw [Lib.byteCells_append]
            have e : Lib.strCells (bs (lineB (c0, a0, b0, d0))) = Lib.byteCells (lineB (c0, a0, b0, d0)) := by rw [Lib.strCells_eq, bs_list]
            rwa [e] at hat2)
          have hB2 := hB1.trans hb2
          have hbt := bbyte_any w.heap.size w.heap.size _ 10 w2 hI2 (by rw [Lib.byteCells_length, List.length_append]; omega) hB2.size
          clear hstr hat2 hI1 hlen
          go_wp2_with (go_at_call 28; refine hbt.mono ?_; rintro e w3 ⟨rfl, hat3, hb3, _⟩; refine Hid.out ?_)
          refine Lib.hid ?_
          have hI3 : IsB w.heap.size w.heap.size (t ++ (lineB (c0, a0, b0, d0) ++ [10])) w3 := .inr (by
            rw [← List.append_assoc, Lib.byteCells_append]
            exact hat3)
          have hB3 := hB2.trans hb3
          clear hbt hat3
          go_wp2
          go_roundw
          case rel => exact ⟨k + 1, _, by omega, by go_num, HS2.out, by simp only [List.length_append, List.length_singleton]; omega, hI3, hB3⟩
          case measure => simp [intOf]; omega
        · have h8' : ¬ (t.length : Int) ≤ 8192 := by omega
          have HS' := HS.out
          rw [if_neg h8] at HS'
          have HS2 := Lib.hid HS'
          clear HS HS' h8
          go_wp2_with (go_at_call 26; refine hlen.mono ?_; rintro e w' ⟨rfl, e1⟩; obtain rfl := e1.symm)
          go_roundw
          case rel => exact ⟨k + 1, _, by omega, by go_num, HS2.out, htl, hI1, hB1⟩
          case measure => simp [intOf]; omega
      · have e1 : lineS (c0, a0, b0, d0) = bs [] := by simp [lineS, hh]
        have e2 : lineE (c0, a0, b0, d0) = 2 := by simp [lineE, hh]
        rw [e1, e2] at hline
        rw [if_neg hh] at hstep
        have hv : prV f n = ([], 2) := by
          have := prL_none hstep (n - (k + 1))
          rw [show k + 1 + (n - (k + 1)) = n by omega] at this
          rw [prV, this]
        have HV := Lib.hid hv
        clear e1 e2 hh hstep ht hv
        go_wp2_with (go_at_call 10; refine (hline _ hT1).mono ?_; rintro e w1 ⟨rfl, hb1⟩)
        exact bodyPost_ret (v := .tuple #[.string (bs []), .int .i64 2]) (by simp [results, Tryd.f9, go_sem, bs]) rfl ⟨by rw [HV.out], hb.trans ((hbx.trans (hb1.mono (by simp))).mono hb.size)⟩
    · obtain rfl : k = n := by omega
      have hlen := blen_any w.heap.size w.heap.size _ wr hI
      rw [Lib.byteCells_length] at hlen
      have hst := bstring_any w.heap.size w.heap.size t wr hI hb.size
      by_cases h3 : 255 < k ∨ 8192 < t.length
      · have hv : prV f k = ([], 3) := by rw [prV, ht]; simp only [if_pos h3]
        have HV := Lib.hid hv
        clear ht hv hst
        by_cases h4 : 255 < k
        · have h4' : (255 : Int) < k := by omega
          clear h3
          go_wp2
          exact bodyPost_ret (v := .tuple #[.string (bs []), .int .i64 3]) (by simp [results, Tryd.f9, go_sem, bs]) rfl ⟨by rw [HV.out], hb⟩
        · have h4' : ¬ (255 : Int) < k := by omega
          have h5 : (8192 : Int) < t.length := by omega
          clear h3
          go_wp2_with (go_at_call 26; refine hlen.mono ?_; rintro e w' ⟨rfl, e1⟩; obtain rfl := e1.symm)
          exact bodyPost_ret (v := .tuple #[.string (bs []), .int .i64 3]) (by simp [results, Tryd.f9, go_sem, bs]) rfl ⟨by rw [HV.out], hb⟩
      · have hv : prV f k = (t, 0) := by rw [prV, ht]; simp only [if_neg h3]
        have HV := Lib.hid hv
        have h4' : ¬ (255 : Int) < k := by omega
        have h5 : ¬ (8192 : Int) < t.length := by omega
        clear ht hv h3
        go_wp2_with (first
          | (go_at_call 26; refine hlen.mono ?_; rintro e w' ⟨rfl, e1⟩; obtain rfl := e1.symm)
          | (go_at_call 29; refine hst.mono ?_; rintro e w8 ⟨rfl, _, hb8, _⟩))
        exact bodyPost_ret (v := .tuple #[.string (bs t), .int .i64 0]) (by simp [results, Tryd.f9, go_sem]) rfl ⟨by rw [HV.out], hb.trans hb8⟩
end Go.Proofs.YtceeinljakcdkaaDoor
