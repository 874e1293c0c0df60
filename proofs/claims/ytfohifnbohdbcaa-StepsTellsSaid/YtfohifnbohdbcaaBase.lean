/-
  Words for bytes in memory: a slice that reads as a list of bytes, a block of bytes that is known whole; the bytes of a number. Plain lemmas, no walk.
-/
import Derived.Test.YtfohifnbohdbcaaRows
import Derived.WalkKit
import Derived.Lib.Hide
import Derived.Deep.Draws
import Derived.Laws.CopyOwn
import Derived.WalkSmall
namespace Go.Proofs.Ytfohifnbohdbcaa
open Go.RowKit

/-- The bytes as values. -/
def bv (l : List Int) : List Value := l.map (Value.int .u8)
/-- They are bytes. -/
def Byt (l : List Int) : Prop := ∀ z ∈ l, 0 ≤ z ∧ z ≤ 255
/-- Byte k of x. -/
def byt (x : Int) (k : Nat) : Int := x / 2 ^ (8 * k) % 256
/-- The first n bytes of x. -/
def low (x : Int) (n : Nat) : List Int := (List.range n).map (byt x)

theorem byt_bd (x : Int) (k : Nat) : 0 ≤ byt x k ∧ byt x k ≤ 255 := by unfold byt; omega
theorem low_length (x : Int) (n : Nat) : (low x n).length = n := by simp [low]
theorem low_byt (x : Int) (n : Nat) : Byt (low x n) := by
  intro z hz
  simp only [low, List.mem_map] at hz
  obtain ⟨k, _, rfl⟩ := hz
  exact byt_bd x k
theorem low_succ (x : Int) (n : Nat) : low x (n + 1) = low x n ++ [byt x n] := by simp [low, List.range_succ]
theorem low_getD (x : Int) (n k : Nat) (h : k < n) : (low x n).getD k 0 = byt x k := by
  simp [low, List.getD, List.getElem?_map, List.getElem?_range h]
theorem bv_length (l : List Int) : (bv l).length = l.length := by simp [bv]
theorem bv_append (a b : List Int) : bv (a ++ b) = bv a ++ bv b := by simp [bv]
theorem Byt.append {a b : List Int} (ha : Byt a) (hb : Byt b) : Byt (a ++ b) := by
  intro z hz
  rcases List.mem_append.1 hz with h | h
  · exact ha z h
  · exact hb z h
theorem Byt.take {a : List Int} (ha : Byt a) (n : Nat) : Byt (a.take n) := fun z hz => ha z (List.mem_of_mem_take hz)
theorem Byt.drop {a : List Int} (ha : Byt a) (n : Nat) : Byt (a.drop n) := fun z hz => ha z (List.mem_of_mem_drop hz)
theorem Byt.at_ {a : List Int} (ha : Byt a) (k : Nat) : 0 ≤ a.getD k 0 ∧ a.getD k 0 ≤ 255 := by
  rcases Nat.lt_or_ge k a.length with h | h
  · have e : a.getD k 0 = a[k] := by simp [List.getD, h]
    rw [e]; exact ha _ (List.getElem_mem h)
  · have e : a.getD k 0 = 0 := by simp [List.getD, h]
    rw [e]; omega
theorem byt_replicate (n : Nat) : Byt (List.replicate n (0 : Int)) := by
  intro z hz
  rw [List.eq_of_mem_replicate hz]; omega

/-- The slice value '.slice A n _' reads as the bytes l; what it reads lies below block B. -/
structure Rd (w : World) (B : Nat) (A : Option Addr) (n : Nat) (l : List Int) : Prop where
  len : l.length = n
  byt : Byt l
  cells : 0 < n → ∃ b off, A = some ⟨b, off, none⟩ ∧ b < B ∧ ∀ k, k < n → w.cell? ⟨b, off + k, none⟩ = some (.int .u8 (l.getD k 0))

/-- Block g is known whole: it holds the bytes l, none frozen. -/
structure Wh (w : World) (g : Nat) (l : List Int) : Prop where
  byt : Byt l
  blk : w.heap[g]? = some (.cells (bv l).toArray 5 (0, 0))

section
variable {w w' : World} {B B' g n : Nat} {A : Option Addr} {l : List Int}
theorem Rd.nil : Rd w B A 0 [] := ⟨rfl, (by intro z hz; cases hz), fun h => absurd h (by omega)⟩
theorem Rd.keep (h : Rd w B A n l) (hk : ∀ p : Addr, p.block < B → w'.cell? p = w.cell? p) : Rd w' B A n l :=
  ⟨h.len, h.byt, fun hn => by
    obtain ⟨b, off, e, hb, hc⟩ := h.cells hn
    exact ⟨b, off, e, hb, fun k hkn => (hk _ hb).trans (hc k hkn)⟩⟩
theorem Rd.below (h : Rd w B A n l) (hb : Below B w w') : Rd w' B A n l := h.keep fun _ hp => hb.cell hp
theorem Rd.more (h : Rd w B A n l) (hB : B ≤ B') : Rd w B' A n l :=
  ⟨h.len, h.byt, fun hn => by
    obtain ⟨b, off, e, hb, hc⟩ := h.cells hn
    exact ⟨b, off, e, by omega, hc⟩⟩
theorem Rd.drew (h : Rd w B A n l) : Rd w.drew B A n l := h.keep fun _ _ => rfl
theorem Rd.drewN (h : Rd w B A n l) (k : Nat) : Rd (w.drewN k) B A n l := h.keep fun _ _ => rfl
theorem Rd.alloc_ (h : Rd w B A n l) (hB : B ≤ w.heap.size) (o : Obj) : Rd (w.alloc o) B A n l := h.below ((Below.refl _ _).alloc hB o)
theorem Rd.at_ (h : Rd w B A n l) {k : Nat} (hk : k < n) : ∃ b off, A = some ⟨b, off, none⟩ ∧ b < B ∧ w.cell? ⟨b, off + k, none⟩ = some (.int .u8 (l.getD k 0)) := by
  obtain ⟨b, off, e, hb, hc⟩ := h.cells (by omega)
  exact ⟨b, off, e, hb, hc k hk⟩

theorem Rd.take (h : Rd w B A n l) {k : Nat} (hk : k ≤ n) : Rd w B A k (l.take k) :=
  ⟨by rw [List.length_take, h.len]; omega, h.byt.take k, fun h0 => by
    obtain ⟨b, off, e, hb, hc⟩ := h.cells (by omega)
    refine ⟨b, off, e, hb, fun j hj => ?_⟩
    rw [hc j (by omega)]
    simp [List.getD, hj]⟩
/-- What is left behind a cut at k, the address as the model lays it. -/
theorem Rd.cut (h : Rd w B A n l) {k : Nat} (hk : k < n) : ∃ b off, A = some ⟨b, off, none⟩ ∧ Rd w B (some ⟨b, off + k, none⟩) (n - k) (l.drop k) := by
  obtain ⟨b, off, e, hb, hc⟩ := h.cells (by omega)
  refine ⟨b, off, e, by rw [List.length_drop, h.len], h.byt.drop k, fun _ => ⟨b, off + k, rfl, hb, fun j hj => ?_⟩⟩
  rw [Nat.add_assoc, hc (k + j) (by omega)]
  simp [List.getD, List.getElem?_drop]
theorem Rd.none_ {A : Option Addr} : Rd w B A 0 [] := ⟨rfl, (by intro z hz; cases hz), fun h => absurd h (by omega)⟩
theorem Wh.lt (h : Wh w g l) : g < w.heap.size := by
  rcases Nat.lt_or_ge g w.heap.size with hlt | hge
  · exact hlt
  · have := h.blk; rw [Array.getElem?_eq_none hge] at this; cases this
theorem bv_get (l : List Int) (k : Nat) (hk : k < l.length) : (bv l).toArray[k]? = some (.int .u8 (l.getD k 0)) := by
  simp [bv, List.getD, hk]
theorem Wh.cell (h : Wh w g l) {k : Nat} (hk : k < l.length) : w.cell? ⟨g, k, none⟩ = some (.int .u8 (l.getD k 0)) := by
  rw [← bv_get l k hk]
  simp [World.cell?, h.blk]
theorem Wh.frozen (h : Wh w g l) (k : Nat) : w.frozen? ⟨g, k, none⟩ = false := by simp [World.frozen?, h.blk]
theorem Wh.below (h : Wh w g l) (hb : Below B w w') (hg : g < B) : Wh w' g l := ⟨h.byt, (hb.block g hg).trans h.blk⟩
theorem Wh.drew (h : Wh w g l) : Wh w.drew g l := ⟨h.byt, h.blk⟩
theorem Wh.drewN (h : Wh w g l) (k : Nat) : Wh (w.drewN k) g l := ⟨h.byt, h.blk⟩
theorem Wh.alloc (h : Wh w g l) (o : Obj) : Wh (w.alloc o) g l := ⟨h.byt, (Below.heap_alloc w o g h.lt).trans h.blk⟩
theorem Wh.far (h : Wh w g l) {p : Addr} (hp : g ≠ p.block) (u : Value) : Wh (w.setCell p u) g l := ⟨h.byt, (Below.heap_setCell w p u g hp).trans h.blk⟩
theorem bv_set (l : List Int) (k : Nat) (z : Int) : (bv l).toArray.setIfInBounds k (.int .u8 z) = (bv (l.set k z)).toArray := by
  apply Array.ext'
  simp [bv, List.map_set]
theorem Wh.set_ (h : Wh w g l) (k : Nat) (z : Int) (hz : 0 ≤ z ∧ z ≤ 255) : Wh (w.setCell ⟨g, k, none⟩ (.int .u8 z)) g (l.set k z) := by
  refine ⟨fun y hy => ?_, ?_⟩
  · rcases List.mem_or_eq_of_mem_set hy with h1 | h1
    · exact h.byt y h1
    · subst h1; exact hz
  · rw [← bv_set]
    simp [World.setCell, Array.getElem?_modify, h.blk]
/-- A piece of a whole block, as a slice. -/
theorem Wh.piece (h : Wh w g l) (off n : Nat) (hn : off + n ≤ l.length) : Rd w (g + 1) (some ⟨g, off, none⟩) n ((l.drop off).take n) := by
  refine ⟨by simp; omega, (h.byt.drop off).take n, fun _ => ⟨g, off, rfl, by omega, fun k hk => ?_⟩⟩
  rw [h.cell (k := off + k) (by omega)]
  simp [List.getD, hk, List.getElem?_drop]
theorem Wh.rd (h : Wh w g l) : Rd w (g + 1) (some ⟨g, 0, none⟩) l.length l := by
  have := h.piece 0 l.length (by omega)
  simpa using this
/-- As many noughts in a new block. -/
theorem madeCells_u8 (n : Nat) : madeCells (Value.int .u8 0).cells n = (bv (List.replicate n 0)).toArray := by
  apply Array.ext'
  apply List.ext_getElem?
  intro i
  rcases Nat.lt_or_ge i n with h | h
  · simp [madeCells, bv, Value.cells, h, Nat.mod_one]
  · simp [madeCells, bv, h]
theorem Wh.made (w : World) (n : Nat) : Wh (w.alloc (.cells (madeCells (Value.int .u8 0).cells n) 5)) w.heap.size (List.replicate n 0) :=
  ⟨byt_replicate n, by rw [madeCells_u8]; exact heap_alloc_new w _⟩
theorem Wh.new (w : World) (l : List Int) (h : Byt l) : Wh (w.alloc (.cells (bv l).toArray 5)) w.heap.size l := ⟨h, heap_alloc_new w _⟩
end

/-- A slice that came in, as it is opened. -/
theorem rd_of_row {w : World} {a : Option Addr} {len cap : Nat} {zs : List Int}
    (h : (a = none ∧ len = 0 ∧ cap = 0 ∧ zs = []) ∨ ∃ x, a = some x ∧ len ≤ cap ∧ cap ≤ maxLen ∧ zs.length = cap ∧ (∀ i, i < zs.length → w.cell? (x.add i) = some (.int .u8 (zs.getD i 0))) ∧ ∀ n ∈ zs, (Lit.int .u8 n).wf = true) :
    Rd w w.heap.size a len (zs.take len) := by
  rcases h with ⟨rfl, rfl, rfl, rfl⟩ | ⟨x, rfl, hl, _, hz, hc, hw⟩
  · exact Rd.nil
  · refine ⟨by rw [List.length_take]; omega, fun z hz' => ?_, fun hn => ?_⟩
    · have := hw z (List.mem_of_mem_take hz')
      simp [Lit.wf, IntKind.min, IntKind.max, IntKind.signed, IntKind.bits] at this
      omega
    · obtain ⟨b, off, spot⟩ := x
      have hspot : spot = none := by
        have := hc 0 (by omega)
        simpa [Addr.add] using World.cell?_spot this
      subst hspot
      refine ⟨b, off, rfl, ?_, fun k hk => ?_⟩
      · have := World.block_lt_of_cell? w _ (hc 0 (by omega))
        simpa [Addr.add] using this
      · have := hc k (by omega)
        have e : (⟨b, off, none⟩ : Addr).add k = ⟨b, off + k, none⟩ := by
          unfold Addr.add
          by_cases h0 : k = 0 <;> simp [h0]
        rw [e] at this
        rw [this]
        simp [List.getD, hk]

theorem u8_info : (Try.prog.info? 5).map (fun i => (i.zero, i.size, i.bytes)) = some (some (.int .u8 0), 1, 1) := by kernel_rfl
theorem u8_size : (Try.prog.info? 5).map (·.size) = some 1 := by kernel_rfl

end Go.Proofs.Ytfohifnbohdbcaa
