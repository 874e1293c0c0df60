/-
  bytes.Equal, and the reference's Same: two slices of bytes are the same where their lists are.
-/
import Derived.Test.YtndmlbepjcagiaaDoorLaws
import Derived.Shelf.Bytes.SlSmallAll
namespace Go.Proofs.YtndmlbepjcagiaaDoor
open Go.RowKit

theorem rd_convert {w : World} {B n : Nat} {A : Option Addr} {l : List Int} (h : Rd w B A n l) (c : Nat) :
    (convert 39 9 (.slice A n c)).run Tryd.prog w = .ok (.string (strOfNums l)) w := by
  rcases Nat.eq_zero_or_pos n with hn | hn
  · subst hn
    obtain rfl : l = [] := List.eq_nil_of_length_eq_zero h.len
    exact run_convert_bytes_zero w 39 5 Tryd.underlying39 Tryd.underlying5 A c 9 Tryd.underlying9
  · obtain ⟨b, off, rfl, _, hc⟩ := h.cells hn
    exact run_convert_bytes_arg w 39 5 Tryd.underlying39 Tryd.underlying5 b off n c l h.len (fun i hi => hc i hi) 9 Tryd.underlying9

theorem str_inj {a b : List Int} (ha : Byt a) (hb : Byt b) (h : strOfNums a = strOfNums b) : a = b := by
  have h1 : (strOfNums a).data.toList = (strOfNums b).data.toList := by rw [h]
  rw [strOfNums_data, strOfNums_data] at h1
  induction a generalizing b with
  | nil => cases b with
    | nil => rfl
    | cons y b => simp at h1
  | cons x a ih => cases b with
    | nil => simp at h1
    | cons y b =>
      simp only [List.map_cons, List.cons.injEq] at h1
      have hx := ha x (by simp)
      have hy := hb y (by simp)
      have e : (UInt8.ofNat x.toNat).toNat = (UInt8.ofNat y.toNat).toNat := by rw [h1.1]
      rw [UInt8.toNat_ofNat', UInt8.toNat_ofNat'] at e
      have hxy : x = y := by omega
      rw [hxy, ih (fun z hz => ha z (by simp [hz])) (fun z hz => hb z (by simp [hz])) (by
        have : (a.map fun n => UInt8.ofNat n.toNat) = (b.map fun n => UInt8.ofNat n.toNat) := h1.2
        simp only [strOfNums, this]) h1.2]

theorem toList_inj {a b : ByteArray} (h : a.toList = b.toList) : a = b := by
  rw [ByteArray.toList_eq, ByteArray.toList_eq] at h
  cases a; cases b
  simpa using h

set_option maxHeartbeats 400000 in
theorem equal_any (A A' : Option Addr) (n c m c' B B' : Nat) (l l' : List Int) (w : World) (h : Rd w B A n l) (h' : Rd w B' A' m l') :
    Calls Tryd.prog 19 #[.slice A n c, .slice A' m c'] w fun e w' => e = .returned (.bool (decide (l = l'))) ∧ w = w' := by
  have k1 := rd_convert h c
  have k2 := rd_convert h' c'
  have hd : ((strOfNums l).toList == (strOfNums l').toList) = decide (l = l') := by
    by_cases hl : l = l'
    · subst hl; simp
    · have h1 : ¬ (strOfNums l).toList = (strOfNums l').toList := fun e => hl (str_inj h.byt h'.byt (toList_inj e))
      simp [hl, h1]
  have HD := Lib.hid hd
  clear hd
  go_enter Tryd.func19, Tryd.ntmps19
  go_wp2
  go_ret
  exact ⟨congrArg (fun b => Ending.returned (.bool b)) HD.out, rfl⟩
end Go.Proofs.YtndmlbepjcagiaaDoor
