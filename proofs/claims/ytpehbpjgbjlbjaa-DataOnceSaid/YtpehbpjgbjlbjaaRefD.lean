/-
  The reference's Bytes of a call's data; Right.
-/
import Derived.Test.YtpehbpjgbjlbjaaRefB
import Derived.Test.YtpehbpjgbjlbjaaLow
import Derived.Test.YtpehbpjgbjlbjaaDatL
import Derived.Deep.RegionHeld3
namespace Go.Proofs.Ytpehbpjgbjlbjaa
open Go.RowKit

set_option maxHeartbeats 400000 in
theorem right_any (o : Int) (ho : U32 o) (w : World) :
    Calls Try.prog 29 #[.int .u32 o] w fun e w' => e = .returned (.bool (rightB o)) ∧ w = w' := by
  obtain ⟨h0, h1⟩ := ho
  by_cases h6 : o ≤ 60
  · by_cases h4 : o % 4 = 0
    · have e : rightB o = true := by unfold rightB; simp [h4, h6]
      rw [e]
      clear e
      go_enter Try.func29, Try.ntmps29
      go_wp2
      go_ret
      exact ⟨rfl, rfl⟩
    · have e : rightB o = false := by unfold rightB; simp [h4]
      have h4' : (o % 4 == 0) = false := by simpa using h4
      rw [e]
      clear e
      go_enter Try.func29, Try.ntmps29
      go_wp2
      go_ret
      exact ⟨rfl, rfl⟩
  · have e : rightB o = false := by unfold rightB; simp [h6]
    rw [e]
    clear e
    go_enter Try.func29, Try.ntmps29
    go_wp2
    go_ret
    exact ⟨rfl, rfl⟩

theorem keepR {g : Nat} {V V' : World} {u v : Value} (b : Below V.heap.size V V') (hh : V.cell? ⟨g, 0, none⟩ = some u ∧ V.cell? ⟨g, 1, none⟩ = some v) : V'.cell? ⟨g, 0, none⟩ = some u ∧ V'.cell? ⟨g, 1, none⟩ = some v := by
  have hg : g < V.heap.size := World.block_lt_of_cell? V _ hh.1
  exact ⟨(b.cell (p := ⟨g, 0, none⟩) hg).trans hh.1, (b.cell (p := ⟨g, 1, none⟩) hg).trans hh.2⟩
theorem Ow.down {w : World} {base base' n c : Nat} {A : Option Addr} {l : List Int} (h : Ow w base A n c l) (hb : base' ≤ base) : Ow w base' A n c l := by
  refine ⟨⟨h.own.1, ?_⟩, h.byt⟩
  rcases h.own.2 with h0 | ⟨g, cap, cur, hv, hg, r⟩
  · exact .inl h0
  · exact .inr ⟨g, cap, cur, hv, by omega, r⟩
theorem dat_arg (d : Dat) (k : Nat) (hk : k < 6) (x : Int) (hx : (argL d).getD k 0 = x) : (datC d)[3 + k]? = some (.int .u64 x) := by
  subst hx
  match k, hk with
  | 0, _ => rfl
  | 1, _ => rfl
  | 2, _ => rfl
  | 3, _ => rfl
  | 4, _ => rfl
  | 5, _ => rfl
set_option maxHeartbeats 4000000 in
theorem rbytes_any (d : Dat) (h : DatOk d) (w : World) :
    Calls Try.prog 12 #[datV d] w fun e w' => ∃ A c, e = .returned (.slice A 64 c) ∧ Ow w' w.heap.size A 64 c (datB d) ∧ Below w.heap.size w w' := by
  obtain ⟨n0, n1⟩ := h.nr
  obtain ⟨r0, r1⟩ := h.ar
  have K0 := (Blk.new w (datC d) 26)
  have c0 : (w.alloc (.cells (datC d) 26)).drew.cell? ⟨w.heap.size, 0, none⟩ = some (.int .u32 d.nr) := K0.drew.cell 0
  have c1 : (w.alloc (.cells (datC d) 26)).drew.cell? ⟨w.heap.size, 1, none⟩ = some (.int .u32 d.ar) := K0.drew.cell 1
  unfold datC at c0 c1
  have e1 : IntKind.u64.wrap d.nr = d.nr := by rw [IntKind.wrap_u64]; omega
  have e2 : IntKind.u64.wrap d.ar = d.ar := by rw [IntKind.wrap_u64]; omega
  rw [datV_eq]
  go_enter Try.func12, Try.ntmps12
  go_wp2_with fail
  go_region_held3 (fun V => V.cell? ⟨w.heap.size, 0, none⟩ = some (.int .u32 d.nr) ∧ V.cell? ⟨w.heap.size, 1, none⟩ = some (.int .u32 d.ar)) (first | exact ⟨c0, c1⟩ | exact keepR (by assumption) (by assumption))
    (first
      | (go_at_call 27; ((with_reducible refine (low4_any d.nr _).mono ?_); rintro e wL ⟨A1, a1, rfl, hL, bL⟩))
      | (go_at_call 27; ((with_reducible refine (low4_any d.ar _).mono ?_); rintro e wM ⟨A2, a2, rfl, hM, bM⟩))
      | (go_at_call 26; ((with_reducible refine (both_any A1 A2 4 a1 4 a2 _ _ _ ((hL.below bM).more bM.size) hM (by omega) (by omega)).mono ?_); rintro e wB ⟨A3, a3, rfl, oB, bB⟩)))
  simp only [World.size_alloc, World.size_drew] at bL
  have KB : Blk wB w.heap.size (datC d) 26 := ((K0.drew.below bL (by omega)).below bM (by have := bL.size; simp at this; omega)).below bB (by have := bL.size; have := bM.size; simp at *; omega)
  have B0 : Below w.heap.size w wL := (((Below.refl _ w).alloc (Nat.le_refl _) _).drew).trans (bL.mono (by omega))
  have B1 : Below w.heap.size w wM := B0.trans (bM.mono B0.size)
  have BB : Below w.heap.size w wB := B1.trans (bB.mono B1.size)
  have o3 := oB.down B1.size
  clear c0 c1 K0 bL bM bB B0 B1 oB hL hM
  have c2 := dat_cell2 KB
  have zB := KB.lt
  have rB : Rd wB wB.heap.size A3 8 (low d.nr 4 ++ low d.ar 4) := o3.rd
  go_wp2_with fail
  refine (low8_any d.ip _).mono ?_
  rintro e wN ⟨A4, a4, rfl, hN, bN⟩
  go_wp2_with fail
  refine (both_any A3 A4 8 a3 8 a4 _ _ wN ((rB.below bN).more bN.size) hN (by omega) (by omega)).mono ?_
  rintro e wO ⟨A5, a5, rfl, o5, bO⟩
  have KO := (KB.below bN KB.lt).below bO (Nat.lt_of_lt_of_le KB.lt bN.size)
  have BN := BB.trans (bN.mono BB.size)
  have BO := BN.trans (bO.mono BN.size)
  replace o5 := o5.down BN.size
  have oz : Ow wO w.heap.size A5 (16 + 8 * 0) a5 (low d.nr 4 ++ low d.ar 4 ++ low d.ip 8 ++ argB d 0) := by simpa [argB] using o5
  clear c2 zB rB o3 KB BB hN bN bO BN o5 e1 e2
  go_wp2_with fail
  go_loopw [3, 4] (fun v i wr => ∃ (k : Nat) (A : Option Addr) (c : Nat), k ≤ 6 ∧ i = .int .i64 k ∧ v = .slice A (16 + 8 * k) c ∧ Ow wr w.heap.size A (16 + 8 * k) c (low d.nr 4 ++ low d.ar 4 ++ low d.ip 8 ++ argB d k) ∧ Blk wr w.heap.size (datC d) 26 ∧ Below w.heap.size w wr) (fun _ i _ => 6 - (intOf i).toNat)
  case atStart => exact ⟨0, A5, a5, by omega, rfl, rfl, oz, KO, BO⟩
  case round =>
    obtain ⟨k, A, c, hk, rfl, rfl, ho, hK, hb⟩ := hrel
    by_cases hlt : k < 6
    · have hlt' : (k : Int) < 6 := by omega
      obtain ⟨x, hx⟩ : ∃ x, (argL d).getD k 0 = x := ⟨_, rfl⟩
      have hc := (hK.cell (3 + k)).trans (dat_arg d k hlt x hx)
      have hst := Lib.hid (argB_step d k hlt x hx)
      clear hx
      have r1 := ho.rd
      go_wp2_with fail
      refine (low8_any x _).mono ?_
      rintro e wP ⟨A6, a6, rfl, hP, bP⟩
      go_wp2_with fail
      refine (both_any A A6 (16 + 8 * k) c 8 a6 _ _ wP ((r1.below bP).more bP.size) hP (by omega) (by omega)).mono ?_
      rintro e wQ ⟨A7, a7, rfl, o7, bQ⟩
      have BP := hb.trans (bP.mono hb.size)
      go_wp2_with fail
      refine ⟨⟨k + 1, A7, a7, by omega, by go_num, rfl, ?_, (hK.below bP hK.lt).below bQ (Nat.lt_of_lt_of_le hK.lt bP.size), BP.trans (bQ.mono BP.size)⟩, by simp [intOf]; omega⟩
      rw [hst.out, ← List.append_assoc]
      exact o7.down BP.size
    · obtain rfl : k = 6 := by omega
      go_wp2
      go_ret
      exact ⟨A, c, rfl, ho, hb⟩
end Go.Proofs.Ytpehbpjgbjlbjaa
