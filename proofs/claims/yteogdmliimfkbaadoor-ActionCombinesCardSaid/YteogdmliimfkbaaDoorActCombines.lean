/-
  ActionCombines: what rows of words say together: the walk.
-/
import Derived.Test.YteogdmliimfkbaaDoorActBack
import Derived.Test.YteogdmliimfkbaaDoorActO
namespace Go.Proofs.YteogdmliimfkbaaDoor
open Go.RowKit
set_option linter.unusedVariables false

set_option maxRecDepth 100000 in
set_option maxHeartbeats 8000000 in
theorem actionCombines_any (A : Option Addr) (n c : Nat) (z : List Int) (w : World) (hK : Acts w) (hR : Ru w w.heap.size A z) (hn : n = z.length) (hnc : n ≤ c) :
    Calls Tryd.prog 5 #[.slice A n c] w fun e w' => e = .returned (.bool true) ∧ Below w.heap.size w w' := by
  have hmf : ∀ (fn : Fn) (first cap : Array Value) (w : World), (Instr.makeFunc fn first cap).run Tryd.prog w = .ok (.func fn first cap) w := fun _ _ _ _ => rfl
  have hpos := hK.pos
  have HN := Lib.hid hn
  clear hn
  have bx0 := Boxed.new w 22 (.slice A n c)
  have B0 : Below w.heap.size w (w.alloc (.cells #[.slice A n c] 22)) := (Below.refl _ _).alloc (Nat.le_refl _) _
  have K0 := hK.alloc (.cells #[.slice A n c] 22)
  have hs0 : (w.alloc (.cells #[.slice A n c] 22)).heap.size = w.heap.size + 1 := by simp
  go_enter Tryd.func5, Tryd.ntmps5
  go_wp2_with fail
  refine (wakes_any _ K0).mono ?_
  rintro e w1 ⟨rfl, b1⟩
  have K1 := K0.below b1 K0.pos
  have bx1 := boxed_below bx0 b1 (by simp)
  have B1 := B0.trans (b1.mono (by simp))
  have hs1 : w.heap.size + 1 ≤ w1.heap.size := by have := b1.size; omega
  have q1 := bx1.cell
  obtain ⟨m, hm⟩ : ∃ m, m = min n 40 := ⟨_, rfl⟩
  have HF := few_any A n c z w1 ((hR.below B1 (Nat.le_refl _)).more (by omega)) HN.out hnc m hm
  have hm40 : m ≤ 40 := by omega
  clear hm b1 bx0 K0 hs0
  go_wp2_with fail
  refine HF.mono ?_
  rintro e w2 ⟨A', c', rfl, ho, b2⟩
  have hl2 : ∀ y ∈ z.take m, 0 ≤ y ∧ y < 4294967296 := fun y hy => hR.1 y (List.mem_of_mem_take hy)
  generalize z.take m = L at hl2 ho
  obtain ⟨R2, hmc, hml⟩ := ru_of_own ho hl2
  have bx2 := boxed_below bx1 b2 bx1.lt
  have q2 := bx2.cell
  have f2 := bx2.frozen
  have hs2 := b2.size
  have R3 : Ru (w2.setCell ⟨w.heap.size, 0, none⟩ (.slice A' m c')) w2.heap.size A' L := ⟨R2.1, fun k hk => by
    obtain ⟨g, cc, hv, hg, hcs⟩ := own_head ho (by omega)
    injection hv with hA' _ _
    rcases ho.2 with ⟨hv2, h0⟩ | ⟨g', cap, cur, hv2, hbg, _⟩
    · omega
    · injection hv2 with hA2 _ _
      subst hA'
      have eg : g = g' := by injection hA2 with h1; injection h1
      refine ⟨g, 0, rfl, hg, ?_⟩
      rw [World.cell?_setCell_other _ _ _ _ (by intro e; have := congrArg Addr.block e; simp at this; omega), Nat.zero_add]
      exact hcs k _ (by simp [uv, List.getD, hk])⟩
  have bx3 := bx2.set (.slice A' m c')
  have B3 : Below w.heap.size w (w2.setCell ⟨w.heap.size, 0, none⟩ (.slice A' m c')) := (B1.trans (b2.mono B1.size)).setCell (p := ⟨w.heap.size, 0, none⟩) (Nat.le_refl _) _
  have K3 := hK.below B3 hpos
  have hs3 : (w2.setCell ⟨w.heap.size, 0, none⟩ (.slice A' m c')).heap.size = w2.heap.size := by simp
  have HL := Lib.hid hml
  clear hml ho HF R2 bx2 bx1 B1 K1 q1
  go_wp2_with fail
  generalize w2.setCell ⟨w.heap.size, 0, none⟩ (.slice A' m c') = w3 at R3 bx3 B3 K3 hs3 ⊢
  have hCv : ∀ V : World, cmbI L = cmbI L := fun _ => rfl
  have hR4 := combineR_any A' m c' L w3 (by rw [hs3]; exact R3) HL.out hmc (by omega)
  refine hR4.mono ?_
  rintro e w4 ⟨rfl, b4⟩
  clear hR4 hCv
  have hs4 := b4.size
  generalize hC : cmbI L = C
  have HC := Lib.hid hC
  clear hC
  obtain ⟨va, vd, vp⟩ := C
  simp only
  have d4 : Below w3.heap.size w3 (w4.alloc (.cells #[.int .i64 va, .int .u16 vd] 29)) := b4.alloc hs4 _
  have V4 := Blk.new w4 #[.int .i64 va, .int .u16 vd] 29
  have K4 := K3.below d4 K3.pos
  have R4 := R3.below d4 (by omega)
  have bx4 := boxed_below bx3 d4 bx3.lt
  have q4 := bx4.cell
  have B4 := B3.trans (d4.mono (by omega))
  have hs4' : (w4.alloc (.cells #[.int .i64 va, .int .u16 vd] 29)).heap.size = w4.heap.size + 1 := by simp
  go_wp2_with fail
  generalize hg3 : w4.heap.size = g3 at *
  generalize w4.alloc (.cells #[.int .i64 va, .int .u16 vd] 29) = w5 at V4 K4 R4 bx4 q4 B4 hs4' d4 ⊢
  have hC5 := combine_any A' m c' L w5 K4 (R4.more (by omega)) HL.out hmc (by omega)
  rw [HC.out] at hC5
  refine hC5.mono ?_
  rintro e w6 ⟨rfl, b6⟩
  have hs6 := b6.size
  have d6 : Below w5.heap.size w5 (w6.alloc (.cells #[.int .i64 va, .int .u16 vd] 29)) := b6.alloc hs6 _
  have V6 := V4.below d6 V4.lt
  have U6 := Blk.new w6 #[.int .i64 va, .int .u16 vd] 29
  have K6 := K4.below d6 K4.pos
  have R6 := R4.below d6 (by omega)
  have bx6 := boxed_below bx4 d6 bx4.lt
  have B6 := B4.trans (d6.mono (by omega))
  have hs6' : (w6.alloc (.cells #[.int .i64 va, .int .u16 vd] 29)).heap.size = w6.heap.size + 1 := by simp
  clear hC5 bx3 bx4 K3 K4 R3 R4 B3 B4 V4 b4 b6 d4 q2 q4 f2
  -- what the counting iterator says
  have bt := Boxed.new (w6.alloc (.cells #[.int .i64 va, .int .u16 vd] 29)) 3 (.int .i64 0)
  have V8 := V6.alloc (.cells #[.int .i64 0] 3)
  have K8 := K6.alloc (.cells #[.int .i64 0] 3)
  have B8 := B6.alloc (by omega) (.cells #[.int .i64 0] 3)
  have bx8 := bx6.alloc (.cells #[.int .i64 0] 3)
  have R8 := R6.below ((Below.refl (w6.alloc (.cells #[.int .i64 va, .int .u16 vd] 29)).heap.size (w6.alloc (.cells #[.int .i64 va, .int .u16 vd] 29))).alloc (Nat.le_refl _) (.cells #[.int .i64 0] 3)) (by omega)
  have hs8 : ((w6.alloc (.cells #[.int .i64 va, .int .u16 vd] 29)).alloc (.cells #[.int .i64 0] 3)).heap.size = w6.heap.size + 1 + 1 := by simp
  have hbx : w.heap.size < w6.heap.size + 1 := by have := bx6.lt; rwa [hs6'] at this
  go_wp2_with (first
    | (refine wpList_load_row rfl 29 (.tmp 5) rfl w6.heap.size rfl 29 _ (0, 0) _ U6.blk Tryd.underlying29 rfl ver_info ?_)
    | (refine wpList_load_row rfl 29 (.tmp 3) rfl g3 rfl 29 _ (0, 0) _ V6.blk Tryd.underlying29 rfl ver_info ?_))
  simp only [World.size_alloc] at bt R8
  clear hs6'
  generalize (w6.alloc (.cells #[.int .i64 va, .int .u16 vd] 29)).alloc (.cells #[.int .i64 0] 3) = w8 at bt V8 K8 B8 bx8 R8 hs8 ⊢
  have hcs := cseq_any 22 #[.pointer (some ⟨w.heap.size, 0, none⟩), .pointer (some ⟨w6.heap.size + 1, 0, none⟩)] L m (some (w6.heap.size + 1)) (fun W => Boxed W (w6.heap.size + 1) 3 (.int .i64 m)) w8 K8
    (fun r e => by cases e; omega) (by omega) hl2 (enters_of Tryd.func22 (by kernel_rfl) rfl) (fun W W' h hb => boxed_below h hb (by omega))
    (told_seq 5 (by omega) (w8.heap.size + 1) w.heap.size (w6.heap.size + 1) m c' A' L _ ((R8.below ((Below.refl w8.heap.size w8).alloc (Nat.le_refl _) _) (by omega)).more (by omega)) (bx8.alloc _) (bt.alloc _) HL.out hmc (by omega) (by omega) (by omega) (by simp))
  rw [HC.out] at hcs
  refine hcs.mono ?_
  rintro e w9 ⟨rfl, b9, hE⟩
  have hs9 := b9.size
  have K9 := b9.acts K8 (fun r e => by cases e; omega) (by omega)
  have V9 : Blk w9 g3 #[.int .i64 va, .int .u16 vd] 29 := ⟨(b9.block _ (by omega) (fun e => by injection e; omega)).trans V8.blk⟩
  have bx9 : Boxed w9 w.heap.size 22 (.slice A' m c') := (b9.block _ (by omega) (fun e => by injection e; omega)).trans bx8
  have R9 := R8.butO b9 (by omega) (fun r e => by cases e; omega)
  have B9 : Below w.heap.size w w9 := ⟨b9.os.trans B8.os, b9.tape.trans B8.tape, b9.output.trans B8.output, Nat.le_trans B8.size hs9, fun k hk => (b9.block k (by omega) (fun e => by injection e; omega)).trans (B8.block k hk)⟩
  have D9 := Blk.new w9 #[.int .i64 va, .int .u16 vd] 29
  have E9 := hE.alloc (.cells #[.int .i64 va, .int .u16 vd] 29)
  have V9a := V9.alloc (.cells #[.int .i64 va, .int .u16 vd] 29)
  have bx9a := bx9.alloc (.cells #[.int .i64 va, .int .u16 vd] 29)
  have K9a := K9.alloc (.cells #[.int .i64 va, .int .u16 vd] 29)
  have R9a := R9.below ((Below.refl w9.heap.size w9).alloc (Nat.le_refl _) (.cells #[.int .i64 va, .int .u16 vd] 29)) (by omega)
  have B9a := B9.alloc B9.size (.cells #[.int .i64 va, .int .u16 vd] 29)
  have e9 := E9.cell
  have x9 := bx9a.cell
  clear hcs V8 K8 B8 bx8 R8 bt V6 U6 K6 R6 bx6 B6 b9 V9 bx9 K9 R9 B9 hE
  go_wp2_with (first
    | (refine wpList_load_row rfl 29 (.tmp 8) rfl w9.heap.size rfl 29 _ (0, 0) _ D9.blk Tryd.underlying29 rfl ver_info ?_)
    | (refine wpList_load_row rfl 29 (.tmp 3) rfl g3 rfl 29 _ (0, 0) _ V9a.blk Tryd.underlying29 rfl ver_info ?_))
  generalize w9.alloc (.cells #[.int .i64 va, .int .u16 vd] 29) = w10 at D9 E9 V9a bx9a K9a R9a B9a e9 x9 ⊢
  have hR9 : w2.heap.size ≤ w10.heap.size := by have := E9.lt; omega
  have hf := field_0
  clear e9 x9 D9 V9a E9
  go_loopw [56] (fun i wr => ∃ k : Nat, k ≤ m ∧ i = .int .i64 k ∧ Below w10.heap.size w10 wr) (fun i _ => m - (intOf i).toNat)
  case atStart => exact ⟨0, Nat.zero_le _, rfl, Below.refl _ _⟩
  case round =>
    obtain ⟨k, hk, rfl, hB⟩ := hrel
    by_cases hlt : k < m
    · have hlt' : (k : Int) < m := by omega
      have hkl : k < L.length := by have := HL.out; omega
      have Rr := R9a.below hB hR9
      have bxr := boxed_below bx9a hB bx9a.lt
      have x9 := bxr.cell
      obtain ⟨b, off, rfl, hb, hc⟩ := Rr.2 k hkl
      have hx := Rr.at_ k hkl
      generalize L.getD k 0 = x at hc hx
      clear Rr
      go_wp2_with fail
      obtain ⟨wi, hwi⟩ : ∃ wi : World, wi = wr := ⟨_, rfl⟩
      rw [← hwi] at hB hc bxr x9 ⊢
      have HWI := Lib.hid hwi
      clear hwi
      go_loopw [63] (fun i wq => ∃ j : Nat, j ≤ m ∧ i = .int .i64 j ∧ Below w10.heap.size w10 wq) (fun i _ => m - (intOf i).toNat)
      case atStart => exact ⟨0, Nat.zero_le _, rfl, hB⟩
      case round =>
        obtain ⟨j, hj, rfl, hBj⟩ := hrel
        by_cases hltj : j < m
        · have hltj' : (j : Int) < m := by omega
          have hjl : j < L.length := by have := HL.out; omega
          have Rj := R9a.below hBj hR9
          have Kj := K9a.below hBj K9a.pos
          obtain ⟨b', off', e', hb', hcj⟩ := Rj.2 j hjl
          cases e'
          have hy := Rj.at_ j hjl
          generalize L.getD j 0 = y at hcj hy
          clear Rj
          by_cases h20 : (k : Int) + j < 20
          · have h20' : decide ((k : Int) + j < 20) = true := by simpa using h20
            by_cases hu : actI x < actI y
            · have hu' : decide (actI x < actI y) = true := by simpa using hu
              go_wp2_with fail
              refine (under_any x y hx.1 hx.2 hy.1 hy.2 _ Kj).mono ?_
              rintro e u1 ⟨rfl, c1⟩
              go_wp2_with fail
              refine (splitR_any x hx.1 hx.2 _).mono ?_
              rintro e u2 ⟨rfl, c2⟩
              go_wp2_with fail
              refine (splitR_any y hy.1 hy.2 _).mono ?_
              rintro e u3 ⟨rfl, c3⟩
              go_wp2_with fail
              go_roundw
              case rel => exact ⟨j + 1, by omega, by go_num, hBj.trans ((c1.trans ((c2.trans (c3.mono c2.size)).mono c1.size)).mono hBj.size)⟩
              case measure => simp [intOf]; omega
            · have hu' : decide (actI x < actI y) = false := by simpa using hu
              go_wp2_with fail
              refine (under_any x y hx.1 hx.2 hy.1 hy.2 _ Kj).mono ?_
              rintro e u1 ⟨rfl, c1⟩
              go_wp2_with fail
              refine (splitR_any x hx.1 hx.2 _).mono ?_
              rintro e u2 ⟨rfl, c2⟩
              go_wp2_with fail
              refine (splitR_any y hy.1 hy.2 _).mono ?_
              rintro e u3 ⟨rfl, c3⟩
              go_wp2_with fail
              go_roundw
              case rel => exact ⟨j + 1, by omega, by go_num, hBj.trans ((c1.trans ((c2.trans (c3.mono c2.size)).mono c1.size)).mono hBj.size)⟩
              case measure => simp [intOf]; omega
          · have h20' : decide ((k : Int) + j < 20) = false := by simpa using h20
            go_wp2_with fail
            go_roundw
            case rel => exact ⟨j + 1, by omega, by go_num, hBj⟩
            case measure => simp [intOf]; omega
        · obtain rfl : j = m := by omega
          go_wp2_with fail
          go_roundw
          case rel => exact ⟨k + 1, by omega, by go_num, hBj⟩
          case measure => simp [intOf]; omega
    · obtain rfl : k = m := by omega
      go_wp2_with fail
      go_ret
      exact ⟨rfl, B9a.trans (hB.mono B9a.size)⟩
end Go.Proofs.YteogdmliimfkbaaDoor
