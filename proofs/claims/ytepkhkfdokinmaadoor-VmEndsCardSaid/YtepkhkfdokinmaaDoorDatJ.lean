/-
  data.join: the data of words.
-/
import Derived.Test.YtepkhkfdokinmaaDoorDatW
namespace Go.Proofs.YtepkhkfdokinmaaDoor
open Go.RowKit

/-- The data while it is laid: k of the six arguments. -/
def jk (l : List Int) (k : Nat) : Array Value :=
  let z (i : Nat) : Value := .int .u64 (if i < k then wh (l.getD (4 + 2 * i) 0) (l.getD (5 + 2 * i) 0) else 0)
  #[.int .u32 (l.getD 0 0), .int .u32 (l.getD 1 0), .int .u64 (wh (l.getD 2 0) (l.getD 3 0)), z 0, z 1, z 2, z 3, z 4, z 5]
theorem jk_step (l : List Int) (k : Nat) (hk : k < 6) : (jk l k).setIfInBounds (3 + k) (.int .u64 (wh (l.getD (4 + 2 * k) 0) (l.getD (5 + 2 * k) 0))) = jk l (k + 1) := by
  match k, hk with
  | 0, _ => rfl
  | 1, _ => rfl
  | 2, _ => rfl
  | 3, _ => rfl
  | 4, _ => rfl
  | 5, _ => rfl
theorem jk_end (l : List Int) : jk l 6 = datC (joinD l) := rfl

theorem dat_info : (Tryd.prog.info? 32).map (·.size) = some 9 := by kernel_rfl
theorem dat_one (d : Dat) : (datC d).all (·.oneCell') = true := by simp [datC, Value.oneCell']
set_option maxHeartbeats 2000000 in
theorem join_any (l : List Int) (hl : l.length = 16) (h : U32s l) (w : World) :
    Calls Tryd.prog 53 #[arrV l] w fun e w' => e = .returned (datV (joinD l)) ∧ Below w.heap.size w w' := by
  have h2 := h.at_ 2
  have h3 := h.at_ 3
  have c := fun k hk => ((Blk.new w (arrC l) 33).alloc (.cells (datC ⟨0, 0, 0, 0, 0, 0, 0, 0, 0⟩) 32)).drew.cell k |>.trans (arr_get l k (by rw [hl]; exact hk))
  have c0 := c 0 (by omega)
  have c1 := c 1 (by omega)
  have c2 := c 2 (by omega)
  have c3 := c 3 (by omega)
  clear c
  have c' := fun k hk v => (((((Blk.new w (arrC l) 33).alloc (.cells (datC ⟨0, 0, 0, 0, 0, 0, 0, 0, 0⟩) 32)).alloc (.cells v 32))).drew.cell k) |>.trans (arr_get l k (by rw [hl]; exact hk))
  have C0 := Lib.hid (c' 0 (by omega))
  have C1 := Lib.hid (c' 1 (by omega))
  have C2 := Lib.hid (c' 2 (by omega))
  have C3 := Lib.hid (c' 3 (by omega))
  clear c'
  have HL := Lib.hid hl
  clear hl
  unfold datC at c0 c1 c2 c3
  unfold arrV
  go_enter Tryd.func53, Tryd.ntmps53
  go_wp2
  go_region_held3 (fun V => V.cell? ⟨w.heap.size, 0, none⟩ = some (.int .u32 (l.getD 0 0)) ∧ V.cell? ⟨w.heap.size, 1, none⟩ = some (.int .u32 (l.getD 1 0)) ∧ V.cell? ⟨w.heap.size, 2, none⟩ = some (.int .u32 (l.getD 2 0)) ∧ V.cell? ⟨w.heap.size, 3, none⟩ = some (.int .u32 (l.getD 3 0)))
    (first | exact ⟨c0, c1, c2, c3⟩ | exact ⟨C0.out _, C1.out _, C2.out _, C3.out _⟩ | go_keep) ((go_at_call 72; refine (whole_any _ _ h2 h3 _).mono ?_; rintro e w' ⟨rfl, rfl⟩))
  all_goals go_wp2
  all_goals clear c0 c1 c2 c3 C0 C1 C2 C3
  all_goals go_loopw [15] (fun i wr => ∃ k : Nat, k ≤ 6 ∧ i = .int .i64 k ∧ Blk wr (w.heap.size + 1 + 1) (jk l k) 32 ∧ Blk wr (w.heap.size + 1) (datC ⟨0, 0, 0, 0, 0, 0, 0, 0, 0⟩) 32 ∧ Blk wr w.heap.size (arrC l) 33 ∧ Below w.heap.size w wr) (fun i _ => 6 - (intOf i).toNat)
  case atStart =>
    exact ⟨0, Nat.zero_le _, rfl, (Blk.new_ _ _ _ (by simp)).drew, ((Blk.new_ _ _ _ (by simp)).alloc _).drew, (((Blk.new _ _ _).alloc _).alloc _).drew, ((((Below.refl _ _).alloc (Nat.le_refl _) _).alloc (by simp) _).alloc (by simp; omega) _).drew⟩
  case atStart =>
    exact ⟨0, Nat.zero_le _, rfl, (Blk.new_ _ _ _ (by simp)).drew, ((Blk.new_ _ _ _ (by simp)).alloc _).drew, (((Blk.new _ _ _).alloc _).alloc _).drew, ((((Below.refl _ _).alloc (Nat.le_refl _) _).alloc (by simp) _).alloc (by simp; omega) _).drew⟩
  all_goals
    obtain ⟨k, hk, rfl, b3, b2, b1, hb⟩ := hrel
    by_cases hlt : k < 6
    · have hlt' : (k : Int) < 6 := by omega
      have hx := h.at_ (4 + 2 * k)
      have hy := h.at_ (5 + 2 * k)
      have c1 := (b1.cell (4 + 2 * k)).trans (arr_get _ _ (by rw [HL.out]; omega))
      have c2 := (b1.cell (5 + 2 * k)).trans (arr_get _ _ (by rw [HL.out]; omega))
      have f1 := b3.frozen (3 + k)
      have hst := Lib.hid (jk_step l k hlt)
      obtain ⟨x, hx'⟩ : ∃ x, l.getD (4 + 2 * k) 0 = x := ⟨_, rfl⟩
      obtain ⟨y, hy'⟩ : ∃ y, l.getD (5 + 2 * k) 0 = y := ⟨_, rfl⟩
      rw [hx'] at hx c1
      rw [hy'] at hy c2
      have HX := Lib.hid hx'
      have HY := Lib.hid hy'
      clear hx' hy'
      obtain ⟨v0, hv0⟩ : ∃ v0, (jk l k)[3 + k]? = some v0 := ⟨_, Array.getElem?_eq_getElem (by show 3 + k < 9; omega)⟩
      have c3 := (b3.cell (3 + k)).trans hv0
      clear hv0
      have hset := Lib.hid (fun u => b3.drew.set_ (3 + k) u)
      have D1 := Lib.hid (fun j u => show (wr.drew.setCell ⟨w.heap.size + 1 + 1, 3 + k, none⟩ u).cell? ⟨w.heap.size, j, none⟩ = wr.cell? ⟨w.heap.size, j, none⟩ from World.cell?_setCell_other _ _ _ _ (fun e => by injection e with e; omega))
      go_wp2_with fail
      have s1 : IntKind.i64.wrap (2 * (k : Int)) = 2 * k := by rw [IntKind.wrap_i64]; omega
      have s2 : IntKind.i64.wrap (4 + 2 * (k : Int)) = 4 + 2 * k := by rw [IntKind.wrap_i64]; omega
      have s3 : IntKind.i64.wrap (5 + 2 * (k : Int)) = 5 + 2 * k := by rw [IntKind.wrap_i64]; omega
      have t1 : (0 : Int) ≤ 4 + 2 * k := by omega
      have t2 : (4 : Int) + 2 * k < 16 := by omega
      have t3 : (0 : Int) ≤ 5 + 2 * k := by omega
      have t4 : (5 : Int) + 2 * k < 16 := by omega
      have t5 : (0 : Int) ≤ k := by omega
      have t6 : (4 + 2 * (k : Int)).toNat = 4 + 2 * k := by omega
      have t7 : (5 + 2 * (k : Int)).toNat = 5 + 2 * k := by omega
      go_region_held3 (fun V => V.cell? ⟨w.heap.size, 4 + 2 * k, none⟩ = some (.int .u32 x) ∧ V.cell? ⟨w.heap.size, 5 + 2 * k, none⟩ = some (.int .u32 y)) (first | exact ⟨c1, c2⟩ | exact ⟨(D1.out _ _).trans c1, (D1.out _ _).trans c2⟩ | go_keep)
        ((go_at_call 72; refine (whole_any _ _ hx hy _).mono ?_; rintro e w' ⟨rfl, rfl⟩))
      clear s1 s2 s3 t1 t2 t3 t4 t5 t6 t7
      go_wp2
      refine ⟨⟨k + 1, by omega, by go_num, ?_, (b2.drew.far (by simp) _), (b1.drew.far (by simp; omega) _), hb.drew.setCell (by simp; omega) _⟩, by simp [intOf]; omega⟩
      rw [← hst.out, HX.out, HY.out]
      exact hset.out _
    · obtain rfl : k = 6 := by omega
      rw [jk_end] at b3
      have hone := Lib.hid (dat_one (joinD l))
      go_wp2_with (first
        | (refine wpList_load_row rfl 32 (.tmp 3) rfl (w.heap.size + 1 + 1) rfl 32 (datC (joinD l)) (0, 0) _ b3.blk Tryd.underlying32 rfl dat_info ?_)
        | (refine wpList_store_blk rfl 32 (.tmp 2) (.tmp 33) rfl (w.heap.size + 1) _ (datC (joinD l)) 32 rfl rfl b2 rfl dat_info hone.out ?_; intro w9 hw9 hn9))
      refine bodyPost_ret (v := datV (joinD l)) (results_cell_row rfl _ _ (w.heap.size + 1) 32 (datC (joinD l)) (0, 0) _ rfl hw9.blk Tryd.underlying32 rfl dat_info) rfl ?_
      exact ⟨rfl, hb.trans (hn9.below w.heap.size (by omega) hb.size)⟩
end Go.Proofs.YtepkhkfdokinmaaDoor
