/-
  Numbers of either sign in memory.
-/
import Derived.Test.YtfohifnbohdbcaaOwnH
import Derived.Test.YtfohifnbohdbcaaBlk
import Derived.Test.YtfohifnbohdbcaaRgn
namespace Go.Proofs.Ytfohifnbohdbcaa
open Go.RowKit Go.Shelf
set_option linter.unusedVariables false
set_option linter.unusedSimpArgs false

/-- A slice reads as these numbers. -/
def Ri7 (w : World) (B : Nat) (A : Option Addr) (l : List Int) : Prop := ∀ k, k < l.length → ∃ b off, A = some ⟨b, off, none⟩ ∧ b < B ∧ w.cell? ⟨b, off + k, none⟩ = some (.int .i64 (l.getD k 0))
theorem Ri7.below {w w' : World} {B B' : Nat} {A : Option Addr} {l : List Int} (h : Ri7 w B A l) (hb : Below B' w w') (hB : B ≤ B') : Ri7 w' B A l := fun k hk => by
  obtain ⟨b, off, e, h1, c⟩ := h k hk
  exact ⟨b, off, e, h1, (hb.cell (p := ⟨b, off + k, none⟩) (Nat.lt_of_lt_of_le h1 hB)).trans c⟩
theorem Ri7.more {w : World} {B B' : Nat} {A : Option Addr} {l : List Int} (h : Ri7 w B A l) (hB : B ≤ B') : Ri7 w B' A l := fun k hk => by
  obtain ⟨b, off, e, h1, r⟩ := h k hk
  exact ⟨b, off, e, by omega, r⟩
end Go.Proofs.Ytfohifnbohdbcaa
