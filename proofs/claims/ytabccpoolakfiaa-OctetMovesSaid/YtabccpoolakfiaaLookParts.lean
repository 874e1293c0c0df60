/-
  What OctetLooks calls besides: the reference's Reach and Number; Read with where its copy lies; a slice of looks that came in.
-/
import Derived.Test.YtabccpoolakfiaaRaw
import Derived.Test.YtabccpoolakfiaaRefAdd
namespace Go.Proofs.Ytabccpoolakfiaa
open Go.RowKit

set_option maxHeartbeats 400000 in
theorem read_full (A : Option Addr) (n c : Nat) (l : List Int) (w : World) (hr : Rd w w.heap.size A n l) (hn : n ≤ 1000000) :
    Calls Try.prog 18 #[.slice A n c] w fun e w' =>
      ∃ r, e = .returned (.pointer (some ⟨r, 0, none⟩)) ∧ w.heap.size < r ∧ w'.heap[r]? = some (.cells #[.slice (some ⟨w.heap.size, 0, none⟩) n n, .int .i64 0] 61 (0, 0)) ∧ Wh w' w.heap.size l ∧ Below w.heap.size w w' := by
  go_enter Try.func18, Try.ntmps18
  go_wp2_with (first
    | (at_make; refine wpList_make_bytes rfl (.tmp 5) (.tmp 5) rfl _ _ n rfl rfl rfl rfl (by omega) ?_; intro w1 hw1 hb1)
    | (with_reducible refine wpList_copy_bytes rfl (.tmp 7) (.tmp 8) rfl w.heap.size 0 A n n n c rfl rfl _ l hw1 w.heap.size (hr.below hb1) (Nat.le_refl _) (by simp) w.heap.size w hb1 (Nat.le_refl _) ?_; intro w2 hw2 hb2))
  go_ret
  rw [read_copied] at hw2
  exact ⟨w2.heap.size, rfl, hw2.lt, heap_alloc_new _ _, hw2.alloc _, hb2.alloc hb2.size _⟩

theorem rdr_of {w : World} {r g n : Nat} {l : List Int} (hl : l.length = n) (hn : n ≤ 1000000) (hg : g < r) (hb : w.heap[r]? = some (.cells #[.slice (some ⟨g, 0, none⟩) n n, .int .i64 0] 61 (0, 0))) (hw : Wh w g l) : Rdr w r l 0 := by
  subst hl
  exact ⟨some ⟨g, 0, none⟩, l.length, Nat.le_refl _, hn, hb, hw.rd.more hg⟩

/-- By what a look faults. -/
def reachI (a n all : Int) : Int := if n < 0 then 2 else if all - a < n then 7 else 0
set_option maxHeartbeats 400000 in
theorem reach_at (a n all v : Int) (w : World) (ha0 : 0 ≤ a) (ha : a ≤ all) (hall : all ≤ 1000000) (hv : reachI a n all = v) :
    Calls Try.prog 19 #[.int .i64 a, .int .i64 n, .int .i64 all] w fun e w' => e = .returned (.int .i64 v) ∧ w = w' := by
  subst hv
  by_cases h1 : n < 0
  · rw [show reachI a n all = 2 by simp [reachI, h1]]
    go_enter Try.func19, Try.ntmps19
    go_wp2
    go_ret
    exact ⟨rfl, rfl⟩
  · by_cases h2 : all - a < n
    · rw [show reachI a n all = 7 by simp [reachI, h1, h2]]
      go_enter Try.func19, Try.ntmps19
      go_wp2
      go_ret
      exact ⟨rfl, rfl⟩
    · rw [show reachI a n all = 0 by simp [reachI, h1, h2]]
      go_enter Try.func19, Try.ntmps19
      go_wp2
      go_ret
      exact ⟨rfl, rfl⟩

/-- The number of bytes, as sixty-four bits have it. -/
def nm (l : List Int) : Int := IntKind.u64.wrap (numL l)
theorem nm_cons (z : Int) (l : List Int) : IntKind.u64.wrap (IntKind.u64.wrap (nm l * 256) + IntKind.u64.wrap z) = nm (z :: l) := by
  simp only [nm, numL, IntKind.wrap_u64]
  omega
theorem nm_small {l : List Int} (h : Byt l) (h8 : l.length ≤ 8) : nm l = numL l := by
  have h1 := numL_bd h
  have h2 := pow8_le h8
  have h3 : (256 : Int) ^ 8 = 18446744073709551616 := by decide
  rw [nm, IntKind.wrap_u64]
  omega

set_option maxHeartbeats 1000000 in
theorem refnumber_at (A : Option Addr) (n c B : Nat) (l : List Int) (v : Int) (w : World) (hr : Rd w B A n l) (hn : n ≤ 100000) (hv : nm l = v) :
    Calls Try.prog 20 #[.slice A n c] w fun e w' => e = .returned (.int .u64 v) ∧ w = w' := by
  subst hv
  have hlen := Lib.hid hr.len
  go_enter Try.func20, Try.ntmps20
  go_wp2_with fail
  go_loop [3, 4] (fun x i => ∃ k : Int, -1 ≤ k ∧ k ≤ (n : Int) - 1 ∧ i = .int .i64 k ∧ x = .int .u64 (nm (l.drop (k + 1).toNat))) (fun _ i => (intOf i + 1).toNat)
  case atStart =>
    refine ⟨(n : Int) - 1, by omega, by omega, rfl, ?_⟩
    have e : ((n : Int) - 1 + 1).toNat = n := by omega
    rw [e, List.drop_eq_nil_of_le (by rw [hlen.out]; omega)]
    rfl
  case round =>
    obtain ⟨k, hk1, hk2, rfl, rfl⟩ := hrel
    by_cases h0 : 0 ≤ k
    · obtain ⟨j, rfl⟩ := Int.eq_ofNat_of_zero_le h0
      obtain ⟨b, off, rfl, _, hc⟩ := hr.at_ (k := j) (by omega)
      have hj : j < l.length := by rw [hlen.out]; omega
      obtain ⟨z, hz⟩ : ∃ z, z = l.getD j 0 := ⟨_, rfl⟩
      obtain ⟨d, hd⟩ : ∃ d, d = l.drop ((j : Int) + 1).toNat := ⟨_, rfl⟩
      have hs := nm_cons z d
      have hcons : l.drop j = z :: d := by
        have e : ((j : Int) + 1).toNat = j + 1 := by omega
        rw [hd, hz, e, List.drop_eq_getElem_cons hj]
        simp [List.getD, hj]
      rw [← hd]
      rw [← hz] at hc
      have HC := Lib.hid hcons
      have HS := Lib.hid hs
      clear hz hd hcons hs hj
      have hjn : (j : Int) < n := by omega
      go_wp2
      go_round
      case rel =>
        refine ⟨(j : Int) - 1, by omega, by omega, rfl, ?_⟩
        have e : ((j : Int) - 1 + 1).toNat = j := by omega
        rw [e, HC.out, ← HS.out]
      case measure => simp [intOf]
    · go_wp2
      go_ret
      obtain rfl : k = -1 := by omega
      exact ⟨rfl, rfl⟩

/-- A slice of looks that came in: of each whether it asks a number, and how many. -/
def Lk (W : World) (B : Nat) (A : Option Addr) (m : Nat) (ls : Nat → Bool × Int) : Prop :=
  ∀ i, i < m → ∃ b off, A = some ⟨b, off, none⟩ ∧ b < B ∧ W.cell? ⟨b, off + i * 2, none⟩ = some (.bool (ls i).1) ∧ W.cell? ⟨b, off + i * 2 + 1, none⟩ = some (.int .i64 (ls i).2) ∧ (Lit.int .i64 (ls i).2).wf = true
theorem Lk.below {W W' : World} {B m : Nat} {A : Option Addr} {ls : Nat → Bool × Int} (h : Lk W B A m ls) (hb : Below B W W') : Lk W' B A m ls := by
  intro i hi
  obtain ⟨b, off, e, hlt, h1, h2, h3⟩ := h i hi
  exact ⟨b, off, e, hlt, (hb.cell (p := ⟨b, off + i * 2, none⟩) hlt).trans h1, (hb.cell (p := ⟨b, off + i * 2 + 1, none⟩) hlt).trans h2, h3⟩

theorem left_at (r : Nat) (l : List Int) (f v : Int) (w : World) (h : Rdr w r l f) (hv : (l.length : Int) = v) :
    Calls Try.prog 26 #[.pointer (some ⟨r, 0, none⟩)] w fun e w' => e = .returned (.int .i64 v) ∧ w = w' := by
  subst hv; exact left_any r l f w h
theorem raw_at (r : Nat) (n : Int) (l : List Int) (f : Int) (w : World) (h : Rdr w r l f) (s l' : List Int) (f' : Int) (k : Nat) (hs : seenI l f n = s) (hl : leftI l f n = l') (hf : faltI l f n = f') (hk : s.length = k) :
    Calls Try.prog 21 #[.pointer (some ⟨r, 0, none⟩), .int .i64 n] w fun e w' =>
      ∃ A1 c1, e = .returned (.slice A1 k c1) ∧ Rd w' w'.heap.size A1 k s ∧ Rdr w' r l' f' ∧ But r w w' := by
  subst hs; subst hl; subst hf; subst hk; exact raw_any r n l f w h
theorem u8_at' (r : Nat) (l : List Int) (f : Int) (w : World) (h : Rdr w r l f) (x : Int) (l' : List Int) (f' : Int) (hx : numL (seen l f 1) = x) (hl : left l f 1 = l') (hf : falt l f 1 = f') :
    Calls Try.prog 22 #[.pointer (some ⟨r, 0, none⟩)] w fun e w' => e = .returned (.int .u8 x) ∧ Rdr w' r l' f' ∧ But r w w' := by
  subst hx; subst hl; subst hf; exact u8_any r l f w h
theorem u16_at' (r : Nat) (l : List Int) (f : Int) (w : World) (h : Rdr w r l f) (x : Int) (l' : List Int) (f' : Int) (hx : numL (seen l f 2) = x) (hl : left l f 2 = l') (hf : falt l f 2 = f') :
    Calls Try.prog 23 #[.pointer (some ⟨r, 0, none⟩)] w fun e w' => e = .returned (.int .u16 x) ∧ Rdr w' r l' f' ∧ But r w w' := by
  subst hx; subst hl; subst hf; exact u16_any r l f w h
theorem u32_at' (r : Nat) (l : List Int) (f : Int) (w : World) (h : Rdr w r l f) (x : Int) (l' : List Int) (f' : Int) (hx : numL (seen l f 4) = x) (hl : left l f 4 = l') (hf : falt l f 4 = f') :
    Calls Try.prog 24 #[.pointer (some ⟨r, 0, none⟩)] w fun e w' => e = .returned (.int .u32 x) ∧ Rdr w' r l' f' ∧ But r w w' := by
  subst hx; subst hl; subst hf; exact u32_any r l f w h
theorem u64_at' (r : Nat) (l : List Int) (f : Int) (w : World) (h : Rdr w r l f) (x : Int) (l' : List Int) (f' : Int) (hx : numL (seen l f 8) = x) (hl : left l f 8 = l') (hf : falt l f 8 = f') :
    Calls Try.prog 25 #[.pointer (some ⟨r, 0, none⟩)] w fun e w' => e = .returned (.int .u64 x) ∧ Rdr w' r l' f' ∧ But r w w' := by
  subst hx; subst hl; subst hf; exact u64_any r l f w h
end Go.Proofs.Ytabccpoolakfiaa
