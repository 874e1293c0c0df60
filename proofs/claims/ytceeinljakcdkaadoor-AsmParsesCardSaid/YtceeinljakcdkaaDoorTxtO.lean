/-
  Texts that came in, as they are opened. (ActO, CodesW hold the same of their own: no seat has both.)
-/
import Derived.Test.YtceeinljakcdkaaDoorOpenI
import Derived.Deep.Slices
import Derived.Deep.Strs
import Derived.Lib.SmallJoins
import Derived.ChangeArms
namespace Go.Proofs.YtceeinljakcdkaaDoor
open Go.RowKit

/-- The slice reads as these texts. -/
def Txts (w : World) (B : Nat) (A : Option Addr) (n : Nat) (f : Nat → ByteArray) : Prop := ∀ k, k < n → ∃ b off, A = some ⟨b, off, none⟩ ∧ b < B ∧ w.cell? ⟨b, off + k, none⟩ = some (.string (f k)) ∧ (f k).size ≤ maxLen
theorem Txts.below {w w' : World} {B B' n : Nat} {A : Option Addr} {f : Nat → ByteArray} (h : Txts w B A n f) (hb : Below B' w w') (hB : B ≤ B') : Txts w' B A n f := fun k hk => by
  obtain ⟨b, off, e, h1, c, hs⟩ := h k hk
  exact ⟨b, off, e, h1, (hb.cell (p := ⟨b, off + k, none⟩) (Nat.lt_of_lt_of_le h1 hB)).trans c, hs⟩
end Go.Proofs.YtceeinljakcdkaaDoor
