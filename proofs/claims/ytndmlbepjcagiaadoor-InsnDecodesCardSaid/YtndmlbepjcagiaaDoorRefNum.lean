/-
  The reference's Number.
-/
import Derived.Test.YtndmlbepjcagiaaDoorMath
namespace Go.Proofs.YtndmlbepjcagiaaDoor
open Go.RowKit

/-- The number of bytes, as sixty-four bits have it. -/
def nm (l : List Int) : Int := IntKind.u64.wrap (numL l)
theorem nm_cons (z : Int) (l : List Int) : IntKind.u64.wrap (IntKind.u64.wrap (nm l * 256) + IntKind.u64.wrap z) = nm (z :: l) := by
  simp only [nm, numL, IntKind.wrap_u64]
  omega
theorem nm_small {l : List Int} (h : Byt l) (h8 : l.length ≤ 8) : nm l = numL l := by
  have h1 := numL_bd h
  have h2 := pow8_le h8
  have h3 : (256 : Int) ^ 8 = 18446744073709551616 := by decide
  rw [nm, IntKind.wrap_u64]
  omega

set_option maxHeartbeats 1000000 in
theorem refnumber_at (A : Option Addr) (n c B : Nat) (l : List Int) (v : Int) (w : World) (hr : Rd w B A n l) (hn : n ≤ 100000) (hv : nm l = v) :
    Calls Tryd.prog 45 #[.slice A n c] w fun e w' => e = .returned (.int .u64 v) ∧ w = w' := by
  subst hv
  have hlen := Lib.hid hr.len
  go_enter Tryd.func45, Tryd.ntmps45
  go_wp2_with fail
  go_loop [3, 4] (fun x i => ∃ k : Int, -1 ≤ k ∧ k ≤ (n : Int) - 1 ∧ i = .int .i64 k ∧ x = .int .u64 (nm (l.drop (k + 1).toNat))) (fun _ i => (intOf i + 1).toNat)
  case atStart =>
    refine ⟨(n : Int) - 1, by omega, by omega, rfl, ?_⟩
    have e : ((n : Int) - 1 + 1).toNat = n := by omega
    rw [e, List.drop_eq_nil_of_le (by rw [hlen.out]; omega)]
    rfl
  case round =>
    obtain ⟨k, hk1, hk2, rfl, rfl⟩ := hrel
    by_cases h0 : 0 ≤ k
    · obtain ⟨j, rfl⟩ := Int.eq_ofNat_of_zero_le h0
      obtain ⟨b, off, rfl, _, hc⟩ := hr.at_ (k := j) (by omega)
      have hj : j < l.length := by rw [hlen.out]; omega
      obtain ⟨z, hz⟩ : ∃ z, z = l.getD j 0 := ⟨_, rfl⟩
      obtain ⟨d, hd⟩ : ∃ d, d = l.drop ((j : Int) + 1).toNat := ⟨_, rfl⟩
      have hs := nm_cons z d
      have hcons : l.drop j = z :: d := by
        have e : ((j : Int) + 1).toNat = j + 1 := by omega
        rw [hd, hz, e, List.drop_eq_getElem_cons hj]
        simp [List.getD, hj]
      rw [← hd]
      rw [← hz] at hc
      have HC := Lib.hid hcons
      have HS := Lib.hid hs
      clear hz hd hcons hs hj
      have hjn : (j : Int) < n := by omega
      go_wp2
      go_round
      case rel =>
        refine ⟨(j : Int) - 1, by omega, by omega, rfl, ?_⟩
        have e : ((j : Int) - 1 + 1).toNat = j := by omega
        rw [e, HC.out, ← HS.out]
      case measure => simp [intOf]
    · go_wp2
      go_ret
      obtain rfl : k = -1 := by omega
      exact ⟨rfl, rfl⟩

/-- The number of n bytes at a place. -/
def nAt (l : List Int) (o n : Nat) : Int := numL ((l.drop o).take n)
/-- A piece of a slice, as the model cuts it. -/
theorem Rd.mid {w : World} {B n : Nat} {A : Option Addr} {l : List Int} (h : Rd w B A n l) {o m : Nat} (hm : 0 < m) (ho : o + m ≤ n) : ∃ b off, A = some ⟨b, off, none⟩ ∧ Rd w B (some ⟨b, off + o, none⟩) m ((l.drop o).take m) := by
  obtain ⟨b, off, e, hr⟩ := h.cut (k := o) (by omega)
  exact ⟨b, off, e, hr.take (by omega)⟩
theorem refnum_mid {w w' : World} {B b off n c m o : Nat} {l : List Int} (hr : Rd w B (some ⟨b, off, none⟩) n l) (hm : 0 < m) (h8 : m ≤ 8) (ho : o + m ≤ n) (hw : ∀ p : Addr, p.block < B → w'.cell? p = w.cell? p) :
    Calls Tryd.prog 45 #[.slice (some ⟨b, off + o, none⟩) m c] w' fun e w2 => e = .returned (.int .u64 (nAt l o m)) ∧ w' = w2 := by
  obtain ⟨b', off', e, h⟩ := (hr.keep hw).mid hm ho
  injection e with e
  injection e with e1 e2
  subst e1 e2
  exact refnumber_at _ m c B _ _ w' h (by omega) (nm_small h.byt (by rw [h.len]; exact h8))

end Go.Proofs.YtndmlbepjcagiaaDoor
