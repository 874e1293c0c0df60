/-
  vm.Run: what a program returns.
-/
import Derived.Test.YtpeofpilfpjjpaaGreatDoorVmI
import Derived.Test.YtpeofpilfpjjpaaGreatDoorCkCheck
import Derived.Maps.AppendAt
import Derived.Deep.MidRow
namespace Go.Proofs.YtpeofpilfpjjpaaGreatDoor
open Go.RowKit Go.Shelf
attribute [local go_sem] Oper.semAt_some
set_option linter.unusedVariables false

theorem grown_box {W W' : World} {row : Option Nat} {B b : Nat} {t : TypeId} {v : Value} (h : Boxed W b t v) (hg : W.grownBy W' row) (hr : ∀ r, row = some r → r = B ∨ r = B + 1 ∨ r = B + 2) (hb : b < B) : Boxed W' b t v := by
  have hlt : b < W.heap.size := (Array.getElem?_eq_some_iff.1 (show W.heap[b]? = _ from h)).1
  exact (hg.block b hlt (fun e => by have := hr b e.symm; omega)).trans h
theorem grown_below {W W' : World} {row : Option Nat} {n B : Nat} (hg : W.grownBy W' row) (hr : ∀ r, row = some r → r = B ∨ r = B + 1 ∨ r = B + 2) (hn : n ≤ B) (hs : n ≤ W.heap.size) : Below n W W' :=
  (Below.refl n W).grown hg hs (fun k e => by have := hr k e; omega)
theorem put_box {W : World} {b k : Nat} {o' : Obj} {t : TypeId} {v : Value} (h : Boxed W b t v) (hne : b ≠ k) : Boxed (W.putObj k o') b t v := (World.putObj_heap_other hne).trans h
theorem run_finish {n : Nat} {w : World} {B : Nat} (hB : n ≤ B) {W : World} (h : Below n w W) (o o' : Obj) (hk : W.heap[B]? = some o) : Below n w (W.putObj B o') :=
  h.trans ((Below.refl n W).grown (grownBy_putObj' W B o') (by have := (Array.getElem?_eq_some_iff.1 hk).1; omega) (fun k e => by cases e; omega))

set_option maxRecDepth 100000 in
set_option maxHeartbeats 4000000 in
theorem run_ok (A : Option Addr) (m cap : Nat) (f : Nat → Ins) (d : Dat) (hd : DatOk d) (w : World) (hK : Kinds w) (hA : Ri w w.heap.size A m f) (hcap : m ≤ cap) (hM : May f m) :
    Calls Tryz.prog 87 #[.slice A m cap, datV d] w fun e w' => e = .returned (.tuple #[.int .u32 (retV f (dW d) m), .int .i64 0]) ∧ Below w.heap.size w w' := by
  have hC := check_any A m cap f _ (hK.alloc (.cells (datC d) 64)) ((hA.below ((Below.refl _ w).alloc (Nat.le_refl _) (.cells (datC d) 64)) (Nat.le_refl _)).more (by simp))
  rw [chk_may hM] at hC
  unfold datV
  refine (callsIn_wide (n := 6)).1 ?_
  refine callsIn_of_wp_marks Tryz.func87 rfl trivial ?_ rfl
  simp only [Tryz.ntmps87, List.size_toArray, List.length_cons, List.length_nil, Nat.reduceAdd, Nat.reduceSub, Array.replicate_succ, Array.replicate_zero, List.push_toArray, List.append_toArray, List.nil_append, List.cons_append]
  refine wpIn_wide.2 ?_
  go_wp2_with fail
  refine hC.mono ?_
  rintro e w1 ⟨rfl, b1⟩
  have kd1 := (Blk.new w (datC d) 64).below b1 (by simp)
  have B1 : Below w.heap.size w w1 := ((Below.refl _ w).alloc (Nat.le_refl _) _).trans (b1.mono (by simp))
  have hs1 := b1.size
  simp only [World.size_alloc] at hs1
  have MA := fun V => machines_any A m cap d V
  unfold datV at MA
  go_wp2_with (refine wpList_load_row rfl 64 (.tmp 3) rfl w.heap.size rfl 64 (datC d) (0, 0) _ (kd1.alloc _).blk Tryz.underlying64 rfl dat_info ?_)
  refine (MA _).mono ?_
  rintro e w2 ⟨rfl, hw2⟩
  subst w2
  go_wp2_with fail
  have hpos := hK.pos
  have bP := ((Blk.new w1 #[.int .u32 0] 61).alloc (.cells #[.slice A m cap] 25)).alloc (.cells (datC d) 64)
  have bL := (Blk.new_ (w1.alloc (.cells #[.int .u32 0] 61)) #[.slice A m cap] 25 (n := w1.heap.size + 1) (by simp)).alloc (.cells (datC d) 64)
  have bD := Blk.new_ ((w1.alloc (.cells #[.int .u32 0] 61)).alloc (.cells #[.slice A m cap] 25)) (datC d) 64 (n := w1.heap.size + 1 + 1) (by simp)
  have hB0 : Below w.heap.size w (((w1.alloc (.cells #[.int .u32 0] 61)).alloc (.cells #[.slice A m cap] 25)).alloc (.cells (datC d) 64)) := ((B1.alloc (by omega) _).alloc (by simp; omega) _).alloc (by simp; omega) _
  have hsz : (((w1.alloc (.cells #[.int .u32 0] 61)).alloc (.cells #[.slice A m cap] 25)).alloc (.cells (datC d) 64)).heap.size = w1.heap.size + 1 + 1 + 1 := by simp
  have eL : (w1.alloc (.cells #[.int .u32 0] 61)).heap.size = w1.heap.size + 1 := by simp
  try rw [eL]
  generalize ((w1.alloc (.cells #[.int .u32 0] 61)).alloc (.cells #[.slice A m cap] 25)).alloc (.cells (datC d) 64) = w0 at bP bL bD hB0 hsz ⊢
  clear hC b1 kd1 MA
  have hms := machines_seq 5 (by omega) w.heap.size (w1.heap.size + 1) (w1.heap.size + 1 + 1) m cap A f d hd hcap hM w0 (by omega) hpos (hK.below hB0 hpos) bL bD (hA.below hB0 (Nat.le_refl _))
  refine (wpIn_wide (n := 6)).1 ?_
  refine wpIn_range4 rfl (by omega) (gf := 115) (lb := #[.pointer (some ⟨w1.heap.size + 1, 0, none⟩), .pointer (some ⟨w1.heap.size + 1 + 1, 0, none⟩)]) rfl trivial (enters_of Tryz.func115 (by kernel_rfl) rfl)
    hms keepV_t (keepV_b (by omega)) (Below.refl _ _) (fun _ => rfl)
    (fun (pre : List (VmS × Int)) W => Boxed W w1.heap.size 61 (.int .u32 (lastV pre)) ∧ Below w.heap.size w W) ?hI ⟨bP.blk, hB0⟩ ?round ?done
  case hI =>
    rintro s V V' row ⟨h1, h2⟩ hg hr
    exact ⟨grown_box h1 hg hr (by omega), h2.trans (grown_below hg hr (by omega) h2.size)⟩
  case round =>
    rintro l pre ⟨s, v⟩ W ⟨hv, hB⟩ hlt hlen
    gi_wp2
    refine ⟨⟨trivial, trivial⟩, keepV_refl _ _, fun o o' ho hc => ?_⟩
    have hv2 := put_box (o' := o') hv (show w1.heap.size ≠ w0.heap.size + 1 by omega)
    have hs1' : w0.heap.size + 1 < W.heap.size := by omega
    have hK2 : (W.putObj (w0.heap.size + 1) o').heap[w0.heap.size + 1]? = some o' := World.putObj_heap_same hs1'
    have hB2 : Below w.heap.size w (W.putObj (w0.heap.size + 1) o') := run_finish (by omega) hB o o' ho
    have hD2 : (W.putObj (w0.heap.size + 1) o').heap[w0.heap.size]? = W.heap[w0.heap.size]? := World.putObj_heap_other (by omega)
    generalize W.putObj (w0.heap.size + 1) o' = W2 at hv2 hK2 hB2 hD2 ⊢
    have hcell := hv2.cell
    have hfrz := hv2.frozen
    have hst : ∀ u, Boxed (W2.setCell ⟨w1.heap.size, 0, none⟩ u) w1.heap.size 61 u := fun u => hv2.set u
    have hoth : ∀ u k, k ≠ w1.heap.size → (W2.setCell ⟨w1.heap.size, 0, none⟩ u).heap[k]? = W2.heap[k]? := fun u k hk => Below.heap_setCell W2 ⟨w1.heap.size, 0, none⟩ u k hk
    have hkp : ∀ u, KeepV w.heap.size W2 (W2.setCell ⟨w1.heap.size, 0, none⟩ u) := fun u => keepV_set hv2 (by omega) (by decide) (by decide) (by decide)
    gi_wp2
    rw [last_snoc]
    rw [hsz] at hD2 hK2
    exact ⟨⟨(hoth _ _ (by omega)).trans hD2, (hoth _ _ (by omega)).trans hK2⟩, hst _, hB2.trans (hkp (.int .u32 v)).1⟩
  case done =>
    rintro ys W rfl ⟨hv, hB⟩ hD
    have hc := hv.cell
    go_wp2_with fail
    refine ⟨by simp, .inl ⟨_, _, rfl, run_takeDeferred hD, ?_⟩⟩
    exact ⟨_, results_tmp2 rfl _ _ _, rfl, run_finish (by omega) hB _ _ hD⟩

set_option maxHeartbeats 1000000 in
theorem run_no (A : Option Addr) (m cap : Nat) (f : Nat → Ins) (d : Dat) (w : World) (hK : Kinds w) (hA : Ri w w.heap.size A m f) (r1 r2 : Int) (hr : chkI f m = (r1, r2)) (h0 : ¬ r2 = 0) :
    Calls Tryz.prog 87 #[.slice A m cap, datV d] w fun e w' => e = .returned (.tuple #[.int .u32 0, .int .i64 r2]) ∧ Below w.heap.size w w' := by
  have hC := check_any A m cap f _ (hK.alloc (.cells (datC d) 64)) ((hA.below ((Below.refl _ w).alloc (Nat.le_refl _) (.cells (datC d) 64)) (Nat.le_refl _)).more (by simp))
  rw [hr] at hC
  clear hr
  unfold datV
  go_enter Tryz.func87, Tryz.ntmps87
  go_wp2_with fail
  refine hC.mono ?_
  rintro e w1 ⟨rfl, b1⟩
  go_wp2_with fail
  go_ret2
  exact ⟨rfl, ((Below.refl _ w).alloc (Nat.le_refl _) _).trans (b1.mono (by simp))⟩
end Go.Proofs.YtpeofpilfpjjpaaGreatDoor
