/-
  insn.Decode: the instruction of the first eight bytes.
-/
import Derived.Test.YtndmlbepjcagiaaDoorReads
import Derived.Test.YtndmlbepjcagiaaDoorForm
import Derived.Test.YtndmlbepjcagiaaDoorEnc
namespace Go.Proofs.YtndmlbepjcagiaaDoor
open Go.RowKit

/-- The numbers of eight bytes. -/
def dC (l : List Int) : Int := numL (l.take 2)
def dA (l : List Int) : Int := numL ((l.drop 2).take 1)
def dB (l : List Int) : Int := numL (((l.drop 2).drop 1).take 1)
def dK (l : List Int) : Int := numL ((((l.drop 2).drop 1).drop 1).take 4)

theorem seen_ok {l : List Int} {n : Nat} (h : n ≤ l.length) : seen l 0 n = l.take n ∧ left l 0 n = l.drop n ∧ falt l 0 n = 0 := by simp [seen, left, falt, h]

/-- A block of four cells, an instruction's noughts. -/
def Boxed4 (W : World) (B : Nat) : Prop := W.heap[B]? = some (.cells #[.int .u16 0, .int .u8 0, .int .u8 0, .int .u32 0] 48 (0, 0))
theorem Boxed4.new (w : World) : Boxed4 (w.alloc (.cells #[.int .u16 0, .int .u8 0, .int .u8 0, .int .u32 0] 48)) w.heap.size := heap_alloc_new w _

theorem four_set {W : World} {B : Nat} (h : Boxed4 W B) (v0 v1 v2 v3 : Value) (o : Obj) :
    let V := ((((W.setCell ⟨B, 0, none⟩ v0).setCell ⟨B, 1, none⟩ v1).setCell ⟨B, 2, none⟩ v2).setCell ⟨B, 3, none⟩ v3).alloc o
    V.cell? ⟨B, 0, none⟩ = some v0 ∧ V.cell? ⟨B, 1, none⟩ = some v1 ∧ V.cell? ⟨B, 2, none⟩ = some v2 ∧ V.cell? ⟨B, 3, none⟩ = some v3 := by
  intro V
  have hlt : B < W.heap.size := by
    rcases Nat.lt_or_ge B W.heap.size with h1 | h1
    · exact h1
    · rw [Boxed4, Array.getElem?_eq_none h1] at h; cases h
  have hb : V.heap[B]? = some (.cells #[v0, v1, v2, v3] 48 (0, 0)) := by
    show (World.alloc _ o).heap[B]? = _
    rw [Below.heap_alloc _ _ _ (by simp [World.setCell]; exact hlt)]
    simp [World.setCell, Array.getElem?_modify, show W.heap[B]? = _ from h]
  refine ⟨?_, ?_, ?_, ?_⟩ <;> simp [World.cell?, hb]
theorem four_below {w W : World} {n B : Nat} (h : Below n w W) (hn : n ≤ B) (v0 v1 v2 v3 : Value) : Below n w ((((W.setCell ⟨B, 0, none⟩ v0).setCell ⟨B, 1, none⟩ v1).setCell ⟨B, 2, none⟩ v2).setCell ⟨B, 3, none⟩ v3) :=
  (((h.setCell (p := ⟨B, 0, none⟩) hn v0).setCell (p := ⟨B, 1, none⟩) hn v1).setCell (p := ⟨B, 2, none⟩) hn v2).setCell (p := ⟨B, 3, none⟩) hn v3

set_option maxHeartbeats 4000000 in
theorem dec_ok (A : Option Addr) (n c : Nat) (l : List Int) (w : World) (hr : Rd w w.heap.size A n l) (h8 : 8 ≤ n) (hn : n ≤ 1000000) (hc : n ≤ c) :
    Calls Tryd.prog 28 #[.slice A n c] w fun e w' => e = .returned (.tuple #[insV (dC (l.take 8)) (dA (l.take 8)) (dB (l.take 8)) (dK (l.take 8)), .int .i64 0]) ∧ Below w.heap.size w w' := by
  have hl := hr.len
  have hlen : (l.take 8).length = 8 := by rw [List.length_take]; omega
  obtain ⟨L, hL⟩ : ∃ L, l.take 8 = L := ⟨_, rfl⟩
  have r8 : Rd w w.heap.size A 8 L := by rw [← hL]; exact hr.take h8
  rw [hL] at hlen ⊢
  have s1 := seen_ok (l := L) (n := 2) (by omega)
  have s2 := seen_ok (l := L.drop 2) (n := 1) (by rw [List.length_drop]; omega)
  have s3 := seen_ok (l := (L.drop 2).drop 1) (n := 1) (by rw [List.length_drop, List.length_drop]; omega)
  have s4 := seen_ok (l := ((L.drop 2).drop 1).drop 1) (n := 4) (by rw [List.length_drop, List.length_drop, List.length_drop]; omega)
  have HL := Lib.hid hL
  have Hl := Lib.hid hl
  have Hlen := Lib.hid hlen
  have S1 := Lib.hid s1
  have S2 := Lib.hid s2
  have S3 := Lib.hid s3
  have S4 := Lib.hid s4
  clear hL hl hlen s1 s2 s3 s4
  have hB0 : Below w.heap.size w (w.alloc (.cells #[.int .u16 0, .int .u8 0, .int .u8 0, .int .u32 0] 48)) := (Below.refl _ _).alloc (Nat.le_refl _) _
  have bz := Boxed4.new w
  obtain ⟨w0, hw0⟩ : ∃ w0, w.alloc (.cells #[.int .u16 0, .int .u8 0, .int .u8 0, .int .u32 0] 48) = w0 := ⟨_, rfl⟩
  have r80 : Rd w0 w0.heap.size A 8 L := (r8.below (hw0 ▸ hB0)).more (by rw [← hw0]; simp)
  have hz0 : w.heap.size < w0.heap.size := by rw [← hw0]; simp
  rw [hw0] at hB0 bz
  have key : ∀ cc, Calls Tryd.prog 40 #[.slice A 8 cc] w0 fun e w' => ∃ r, e = .returned (.pointer (some ⟨r, 0, none⟩)) ∧ w0.heap.size ≤ r ∧ Rdr w' r L 0 ∧ Below w0.heap.size w0 w' := fun cc => read_any A 8 cc L w0 r80 (by omega)
  rcases Nat.eq_or_lt_of_le h8 with rfl | h9
  all_goals
    go_enter Tryd.func28, Tryd.ntmps28
    go_wp2_with fail
    refine (key _).mono ?_
    rintro e w1 ⟨r, rfl, hrr, k1, hb1⟩
    have U1 : Calls Tryd.prog 41 #[.pointer (some ⟨r, 0, none⟩)] w1 fun e w' => e = .returned (.int .u16 (dC L)) ∧ Rdr w' r (L.drop 2) 0 ∧ But r w1 w' := by
      have := u16_any r L 0 w1 k1
      rwa [S1.out.1, S1.out.2.1, S1.out.2.2] at this
    go_wp2_with fail
    refine U1.mono ?_
    clear U1
    rintro e w2 ⟨rfl, k2, n2⟩
    have U2 : Calls Tryd.prog 42 #[.pointer (some ⟨r, 0, none⟩)] w2 fun e w' => e = .returned (.int .u8 (dA L)) ∧ Rdr w' r ((L.drop 2).drop 1) 0 ∧ But r w2 w' := by
      have := u8_any r _ 0 w2 k2
      rwa [S2.out.1, S2.out.2.1, S2.out.2.2] at this
    go_wp2_with fail
    refine U2.mono ?_
    clear U2
    rintro e w3 ⟨rfl, k3, n3⟩
    have U3 : Calls Tryd.prog 42 #[.pointer (some ⟨r, 0, none⟩)] w3 fun e w' => e = .returned (.int .u8 (dB L)) ∧ Rdr w' r (((L.drop 2).drop 1).drop 1) 0 ∧ But r w3 w' := by
      have := u8_any r _ 0 w3 k3
      rwa [S3.out.1, S3.out.2.1, S3.out.2.2] at this
    go_wp2_with fail
    refine U3.mono ?_
    clear U3
    rintro e w4 ⟨rfl, k4, n4⟩
    have U4 : Calls Tryd.prog 43 #[.pointer (some ⟨r, 0, none⟩)] w4 fun e w' => e = .returned (.int .u32 (dK L)) ∧ Rdr w' r ((((L.drop 2).drop 1).drop 1).drop 4) 0 ∧ But r w4 w' := by
      have := u32_any r _ 0 w4 k4
      rwa [S4.out.1, S4.out.2.1, S4.out.2.2] at this
    go_wp2_with fail
    refine U4.mono ?_
    clear U4
    rintro e w5 ⟨rfl, k5, n5⟩
    have nn : But r w1 w5 := ((n2.trans n3).trans n4).trans n5
    have hB5 : Below w0.heap.size w0 w5 := hb1.trans (nn.below w0.heap.size hrr hb1.size)
    have bz5 : Boxed4 w5 w.heap.size := (hB5.block _ hz0).trans bz
    have z0 : w5.cell? ⟨w.heap.size, 0, none⟩ = some (.int .u16 0) := by simp [World.cell?, show w5.heap[_]? = _ from bz5]
    have z1 : w5.cell? ⟨w.heap.size, 1, none⟩ = some (.int .u8 0) := by simp [World.cell?, show w5.heap[_]? = _ from bz5]
    have z2 : w5.cell? ⟨w.heap.size, 2, none⟩ = some (.int .u8 0) := by simp [World.cell?, show w5.heap[_]? = _ from bz5]
    have z3 : w5.cell? ⟨w.heap.size, 3, none⟩ = some (.int .u32 0) := by simp [World.cell?, show w5.heap[_]? = _ from bz5]
    have y0 : w5.frozen? ⟨w.heap.size, 0, none⟩ = false := by simp [World.frozen?, show w5.heap[_]? = _ from bz5]
    have y1 : w5.frozen? ⟨w.heap.size, 1, none⟩ = false := by simp [World.frozen?, show w5.heap[_]? = _ from bz5]
    have y2 : w5.frozen? ⟨w.heap.size, 2, none⟩ = false := by simp [World.frozen?, show w5.heap[_]? = _ from bz5]
    have y3 : w5.frozen? ⟨w.heap.size, 3, none⟩ = false := by simp [World.frozen?, show w5.heap[_]? = _ from bz5]
    have hlt5 : w.heap.size < w5.heap.size := Nat.lt_of_lt_of_le hz0 hB5.size
    have BZ := Lib.hid bz5
    have HBW := Lib.hid (hB0.trans (hB5.mono hB0.size))
    clear k1 k2 k3 k4 n2 n3 n4 n5 nn bz5
    go_wp2_with fail
    have hne : w5.heap.size ≠ w.heap.size := by omega
    refine (err_any r _ 0 _ (k5.below ((Below.refl _ _).alloc (Nat.le_refl _) _) k5.lt)).mono ?_
    rintro e w6 ⟨rfl, rfl⟩
    go_wp2_with fail
    obtain ⟨q0, q1, q2, q3⟩ := four_set BZ.out (.int .u16 (dC L)) (.int .u8 (dA L)) (.int .u8 (dB L)) (.int .u32 (dK L)) (.cells #[.int .u16 (dC L), .int .u8 (dA L), .int .u8 (dB L), .int .u32 (dK L)] 48)
    have hfb := four_below HBW.out (Nat.le_refl _) (.int .u16 (dC L)) (.int .u8 (dA L)) (.int .u8 (dB L)) (.int .u32 (dK L))
    refine bodyPost_ret (v := .tuple #[insV (dC L) (dA L) (dB L) (dK L), .int .i64 0]) (by simp [results, Tryd.f28, go_sem, insV, q0, q1, q2, q3]) rfl ?_
    exact ⟨rfl, hfb.alloc hfb.size _⟩
end Go.Proofs.YtndmlbepjcagiaaDoor
