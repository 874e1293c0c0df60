/-
  A call's data and its words as bytes: plain lemmas.
-/
import Derived.Test.YtepkhkfdokinmaaDoorDatW
import Derived.Test.YtepkhkfdokinmaaDoorMath
namespace Go.Proofs.YtepkhkfdokinmaaDoor
open Go.RowKit

/-- The sixteen words of bytes. -/
def wordsB (l : List Int) : List Int := (List.range 16).map fun i => numL ((l.drop (4 * i)).take 4)
theorem wordsB_len (l : List Int) : (wordsB l).length = 16 := by simp [wordsB]
theorem wordsB_get (l : List Int) (k : Nat) (hk : k < 16) : (wordsB l).getD k 0 = numL ((l.drop (4 * k)).take 4) := by
  simp [wordsB, List.getD, hk]
theorem num4_bd {l : List Int} (h : Byt l) (n : Nat) : U32 (numL ((l.drop n).take 4)) := by
  have h1 := numL_bd ((h.drop n).take 4)
  have h2 := pow8_le (k := ((l.drop n).take 4).length) (m := 4) (List.length_take_le _ _)
  have h3 : (256 : Int) ^ 4 = 4294967296 := by decide
  unfold U32
  omega
theorem wordsB_bd {l : List Int} (h : Byt l) : U32s (wordsB l) := by
  intro z hz
  simp only [wordsB, List.mem_map] at hz
  obtain ⟨i, _, rfl⟩ := hz
  exact num4_bd h _
/-- The bytes of the first k arguments. -/
def argB (d : Dat) (k : Nat) : List Int := ((argL d).take k).flatMap fun x => low x 8
/-- The bytes of a call's data. -/
def datB (d : Dat) : List Int := low d.nr 4 ++ low d.ar 4 ++ low d.ip 8 ++ argB d 6
theorem argB_step (d : Dat) (k : Nat) (hk : k < 6) (x : Int) (hx : (argL d).getD k 0 = x) : argB d (k + 1) = argB d k ++ low x 8 := by
  have e : (argL d).take (k + 1) = (argL d).take k ++ [(argL d).getD k 0] := by
    rw [List.take_succ_eq_append_getElem (show k < (argL d).length from hk)]
    simp [List.getD, show k < (argL d).length from hk]
  unfold argB
  rw [e, hx]
  simp
theorem argB_len (d : Dat) (k : Nat) (hk : k ≤ 6) : (argB d k).length = 8 * k := by
  match k, hk with
  | 0, _ => simp [argB]
  | 1, _ => simp [argB, argL, low_length]
  | 2, _ => simp [argB, argL, low_length]
  | 3, _ => simp [argB, argL, low_length]
  | 4, _ => simp [argB, argL, low_length]
  | 5, _ => simp [argB, argL, low_length]
  | 6, _ => simp [argB, argL, low_length]
theorem datB_len (d : Dat) : (datB d).length = 64 := by simp [datB, low_length, argB_len]
def dat0 : Dat := ⟨0, 0, 0, 0, 0, 0, 0, 0, 0⟩
theorem datV_eq (d : Dat) : datV d = .agg #[.int .u32 d.nr, .int .u32 d.ar, .int .u64 d.ip, .int .u64 d.a0, .int .u64 d.a1, .int .u64 d.a2, .int .u64 d.a3, .int .u64 d.a4, .int .u64 d.a5] := rfl
theorem dat_cell1 {w : World} {g : Nat} {d : Dat} (h : Blk w g (datC d) 32) : w.cell? ⟨g, 1, none⟩ = some (.int .u32 d.ar) := h.cell 1
theorem dat_cell2 {w : World} {g : Nat} {d : Dat} (h : Blk w g (datC d) 32) : w.cell? ⟨g, 2, none⟩ = some (.int .u64 d.ip) := h.cell 2
theorem dat_cells {w : World} {g : Nat} {d : Dat} (h : Blk w g (datC d) 32) : w.cell? ⟨g, 3, none⟩ = some (.int .u64 d.a0) ∧ w.cell? ⟨g, 4, none⟩ = some (.int .u64 d.a1) ∧ w.cell? ⟨g, 5, none⟩ = some (.int .u64 d.a2) ∧
    w.cell? ⟨g, 6, none⟩ = some (.int .u64 d.a3) ∧ w.cell? ⟨g, 7, none⟩ = some (.int .u64 d.a4) ∧ w.cell? ⟨g, 8, none⟩ = some (.int .u64 d.a5) := ⟨h.cell 3, h.cell 4, h.cell 5, h.cell 6, h.cell 7, h.cell 8⟩
end Go.Proofs.YtepkhkfdokinmaaDoor
