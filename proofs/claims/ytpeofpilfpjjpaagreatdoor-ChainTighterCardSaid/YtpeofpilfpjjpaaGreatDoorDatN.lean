/-
  A call's data: its values, its words, in plain numbers.
-/
import Derived.Test.YtpeofpilfpjjpaaGreatDoorHI
import Derived.Laws.BitsAllLaws
import Derived.Laws.Rows
namespace Go.Proofs.YtpeofpilfpjjpaaGreatDoor
open Go.RowKit

/-- A call's data. -/
structure Dat where
  nr : Int
  ar : Int
  ip : Int
  a0 : Int
  a1 : Int
  a2 : Int
  a3 : Int
  a4 : Int
  a5 : Int
def U32 (x : Int) : Prop := 0 ≤ x ∧ x ≤ 4294967295
def U64 (x : Int) : Prop := 0 ≤ x ∧ x ≤ 18446744073709551615
structure DatOk (d : Dat) : Prop where
  nr : U32 d.nr
  ar : U32 d.ar
  ip : U64 d.ip
  a0 : U64 d.a0
  a1 : U64 d.a1
  a2 : U64 d.a2
  a3 : U64 d.a3
  a4 : U64 d.a4
  a5 : U64 d.a5
def datC (d : Dat) : Array Value := #[.int .u32 d.nr, .int .u32 d.ar, .int .u64 d.ip, .int .u64 d.a0, .int .u64 d.a1, .int .u64 d.a2, .int .u64 d.a3, .int .u64 d.a4, .int .u64 d.a5]
def datV (d : Dat) : Value := .agg (datC d)
def arrC (l : List Int) : Array Value := (l.map (Value.int .u32)).toArray
def arrV (l : List Int) : Value := .agg (arrC l)
def lo (x : Int) : Int := x % 4294967296
def hi (x : Int) : Int := x / 4294967296
def wh (l h : Int) : Int := h * 4294967296 + l
def wordsL (d : Dat) : List Int := [d.nr, d.ar, lo d.ip, hi d.ip, lo d.a0, hi d.a0, lo d.a1, hi d.a1, lo d.a2, hi d.a2, lo d.a3, hi d.a3, lo d.a4, hi d.a4, lo d.a5, hi d.a5]
def joinD (l : List Int) : Dat :=
  ⟨l.getD 0 0, l.getD 1 0, wh (l.getD 2 0) (l.getD 3 0), wh (l.getD 4 0) (l.getD 5 0), wh (l.getD 6 0) (l.getD 7 0), wh (l.getD 8 0) (l.getD 9 0), wh (l.getD 10 0) (l.getD 11 0), wh (l.getD 12 0) (l.getD 13 0), wh (l.getD 14 0) (l.getD 15 0)⟩
def U32s (l : List Int) : Prop := ∀ z ∈ l, U32 z

theorem lo_bd (x : Int) : U32 (lo x) := by unfold U32 lo; omega
theorem hi_bd (x : Int) (h : U64 x) : U32 (hi x) := by unfold U32 hi; unfold U64 at h; omega
theorem wh_bd (l h : Int) (h1 : U32 l) (h2 : U32 h) : U64 (wh l h) := by unfold U32 at h1 h2; unfold U64 wh; omega
theorem wh_lohi (x : Int) : wh (lo x) (hi x) = x := by unfold wh lo hi; omega
theorem lo_wh (l h : Int) (h1 : U32 l) : lo (wh l h) = l := by unfold U32 at h1; unfold lo wh; omega
theorem hi_wh (l h : Int) (h1 : U32 l) : hi (wh l h) = h := by unfold U32 at h1; unfold hi wh; omega
theorem U32s.at_ {l : List Int} (h : U32s l) (k : Nat) : U32 (l.getD k 0) := by
  rcases Nat.lt_or_ge k l.length with hk | hk
  · rw [List.getD_eq_getElem?_getD, List.getElem?_eq_getElem hk]; exact h _ (List.getElem_mem hk)
  · rw [List.getD_eq_getElem?_getD, List.getElem?_eq_none hk]; unfold U32; simp
theorem words_bd (d : Dat) (h : DatOk d) : U32s (wordsL d) := by
  intro z hz
  simp only [wordsL, List.mem_cons, List.not_mem_nil, or_false] at hz
  rcases hz with rfl | rfl | rfl | rfl | rfl | rfl | rfl | rfl | rfl | rfl | rfl | rfl | rfl | rfl | rfl | rfl <;>
    first | exact h.nr | exact h.ar | exact lo_bd _ | exact hi_bd _ h.ip | exact hi_bd _ h.a0 | exact hi_bd _ h.a1 | exact hi_bd _ h.a2 | exact hi_bd _ h.a3 | exact hi_bd _ h.a4 | exact hi_bd _ h.a5
theorem words_len (d : Dat) : (wordsL d).length = 16 := rfl
theorem join_words (d : Dat) : joinD (wordsL d) = d := by
  cases d
  simp [joinD, wordsL, wh_lohi]
theorem words_join (l : List Int) (hl : l.length = 16) (h : U32s l) : wordsL (joinD l) = l := by
  match l, hl with
  | [x0, x1, x2, x3, x4, x5, x6, x7, x8, x9, x10, x11, x12, x13, x14, x15], _ =>
    have g : ∀ z ∈ [x0, x1, x2, x3, x4, x5, x6, x7, x8, x9, x10, x11, x12, x13, x14, x15], U32 z := h
    simp only [List.mem_cons, List.not_mem_nil, or_false, forall_eq_or_imp, forall_eq] at g
    obtain ⟨g0, g1, g2, g3, g4, g5, g6, g7, g8, g9, g10, g11, g12, g13, g14, g15⟩ := g
    simp [joinD, wordsL, lo_wh, hi_wh, *]
theorem join_ok (l : List Int) (h : U32s l) : DatOk (joinD l) :=
  ⟨h.at_ 0, h.at_ 1, wh_bd _ _ (h.at_ 2) (h.at_ 3), wh_bd _ _ (h.at_ 4) (h.at_ 5), wh_bd _ _ (h.at_ 6) (h.at_ 7), wh_bd _ _ (h.at_ 8) (h.at_ 9), wh_bd _ _ (h.at_ 10) (h.at_ 11), wh_bd _ _ (h.at_ 12) (h.at_ 13), wh_bd _ _ (h.at_ 14) (h.at_ 15)⟩

theorem or_wh (x y : Int) (hx : U32 x) (hy : U32 y) : bits .or .u64 (y * 4294967296) x = wh x y := by
  obtain ⟨h0, h1⟩ := hx
  obtain ⟨h2, h3⟩ := hy
  rw [u64_or _ x (by omega) (by omega) h0 (by omega)]
  obtain ⟨A, rfl⟩ := Int.eq_ofNat_of_zero_le h0
  obtain ⟨C, rfl⟩ := Int.eq_ofNat_of_zero_le h2
  have hA : A < 2 ^ 32 := by omega
  have e3 : ((C : Int) * 4294967296).toNat = 2 ^ 32 * C := by omega
  have e4 := Nat.two_pow_add_eq_or_of_lt hA C
  rw [e3, Int.toNat_natCast, ← e4]
  unfold wh
  omega
end Go.Proofs.YtpeofpilfpjjpaaGreatDoor
