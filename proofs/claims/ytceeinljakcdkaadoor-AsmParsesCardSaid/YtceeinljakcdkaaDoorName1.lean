/-
  insn.Name: the name of a code, as the table has it.
-/
import Derived.Test.YtceeinljakcdkaaDoorSeq
namespace Go.Proofs.YtceeinljakcdkaaDoor
open Go.RowKit Go.Shelf

attribute [local go_sem] Oper.semAt_some

theorem find_first {p : Nat → Bool} {k last : Nat} {ini : List Nat} (hk : k ≤ 41) (e : List.range k = ini ++ [last]) (h1 : ∀ i ∈ ini, p i = false) (h2 : p last = true) : (List.range 41).find? p = some last := by
  have h : List.range 41 = List.range k ++ (List.range (41 - k)).map (k + ·) := by
    rw [← List.range_add]; congr 1; omega
  have h3 : ini.find? p = none := List.find?_eq_none.2 fun i hi => by rw [h1 i hi]; simp
  rw [h, e, List.find?_append, List.find?_append, h3]
  simp [h2]
theorem find_none {p : Nat → Bool} (h1 : ∀ i ∈ List.range 41, p i = false) : (List.range 41).find? p = none :=
  List.find?_eq_none.2 fun i hi => by rw [h1 i hi]; simp
/-- A code's name; nothing and false. -/
def nameOf (c : Int) : ByteArray × Bool := match rowC c with | some i => (kN i, true) | none => (⟨#[]⟩, false)
/-- A name's code; 0 and false. -/
def codeOf (s : ByteArray) : Int × Bool := match rowN s with | some i => (kC i, true) | none => (0, false)
/-- Two boxes, both written. -/
theorem set_two {W : World} {a b : Nat} {u1 u2 : Value} (v1 v2 : Value) (hab : a ≠ b) (h1 : W.cell? ⟨a, 0, none⟩ = some u1) (h2 : W.cell? ⟨b, 0, none⟩ = some u2) :
    ((W.setCell ⟨a, 0, none⟩ v1).setCell ⟨b, 0, none⟩ v2).cell? ⟨a, 0, none⟩ = some v1 ∧ ((W.setCell ⟨a, 0, none⟩ v1).setCell ⟨b, 0, none⟩ v2).cell? ⟨b, 0, none⟩ = some v2 := by
  refine ⟨?_, ?_⟩
  · rw [World.cell?_setCell_other _ _ _ _ (by intro e; cases e; exact hab rfl)]
    exact World.cell?_setCell_same' _ _ _ (by rw [h1]; rfl)
  · refine World.cell?_setCell_same' _ _ _ ?_
    rw [World.cell?_setCell_other _ _ _ _ (by intro e; cases e; exact hab rfl), h2]
    rfl
/-- .. and kept while the block for the rounds' deferred calls is shut. -/
theorem kept_two {W : World} {D a b : Nat} {u1 u2 : Value} (hK : W.heap[D]? = some (.deferred (some []))) (h1 : W.cell? ⟨a, 0, none⟩ = some u1) (h2 : W.cell? ⟨b, 0, none⟩ = some u2) :
    (W.putObj D (.deferred none)).cell? ⟨a, 0, none⟩ = some u1 ∧ (W.putObj D (.deferred none)).cell? ⟨b, 0, none⟩ = some u2 :=
  ⟨cell_kept h1 (grownBy_putObj' _ D (.deferred none)) (fun r e => by cases e; exact ⟨_, hK, rfl⟩), cell_kept h2 (grownBy_putObj' _ D (.deferred none)) (fun r e => by cases e; exact ⟨_, hK, rfl⟩)⟩
theorem keeps_two (W : World) (p q : Addr) (u v : Value) (B : Nat) : KeepsFrom B W ((W.setCell p u).setCell q v) := ((KeepsOthers.setCell W p u).trans (KeepsOthers.setCell _ q v)).from B
theorem two_same {W : World} {D : Nat} {p q : Addr} {u v : Value} (hK : W.heap[D]? = some (.deferred (some []))) : ((W.setCell p u).setCell q v).heap[D]? = some (.deferred (some [])) :=
  ((KeepsOthers.setCell W p u).trans (KeepsOthers.setCell _ q v)).same D _ hK rfl
theorem below_two {B : Nat} {w W : World} (h : Below B w W) {a b : Nat} (ha : B ≤ a) (hb : B ≤ b) (u v : Value) : Below B w ((W.setCell ⟨a, 0, none⟩ u).setCell ⟨b, 0, none⟩ v) :=
  (h.setCell (p := ⟨a, 0, none⟩) ha u).setCell (p := ⟨b, 0, none⟩) hb v
set_option maxHeartbeats 1000000 in
theorem codes_in (n : Nat) (w : World) : CallsIn Fence.wide n Tryd.prog 53 #[] w fun e w' => e = .returned (.func (.func 65) #[] #[]) ∧ w' = w := by
  refine callsIn_of_wp Tryd.func53 rfl trivial ?_ rfl
  simp only [Tryd.ntmps53, List.size_toArray, List.length_nil, Nat.reduceSub, Array.replicate_succ, Array.replicate_zero, List.push_toArray, List.append_toArray, List.nil_append]
  gi_wp2
  go_ret
  exact ⟨rfl, rfl⟩
set_option maxRecDepth 100000 in
set_option maxHeartbeats 4000000 in
theorem name_in (c : Int) (w : World) (hK : Kinds w) :
    CallsIn Fence.wide 6 Tryd.prog 30 #[.int .u16 c] w fun e w' => e = .returned (.tuple #[.string (nameOf c).1, .bool (nameOf c).2]) ∧ Below w.heap.size w w' := by
  refine callsIn_of_wp_marks Tryd.func30 rfl trivial ?_ rfl
  simp only [Tryd.ntmps30, List.size_toArray, List.length_cons, List.length_nil, Nat.reduceAdd, Nat.reduceSub, Array.replicate_succ, Array.replicate_zero, List.push_toArray, List.append_toArray, List.nil_append, List.cons_append]
  gi_wp2_with (refine ⟨trivial, ?_⟩; gi_at_call 53; refine (codes_in _ _).mono ?_; rintro e w' ⟨rfl, rfl⟩)
  have b0 := Boxed.new w 29 (.int .u16 c)
  have b1 := Boxed.new (w.alloc (.cells #[.int .u16 c] 29)) 9 (.string ⟨#[]⟩)
  have b2 := Boxed.new ((w.alloc (.cells #[.int .u16 c] 29)).alloc (.cells #[.string ⟨#[]⟩] 9)) 4 (.bool false)
  simp only [World.size_alloc] at b1 b2
  have hB0 : Below w.heap.size w (((w.alloc (.cells #[.int .u16 c] 29)).alloc (.cells #[.string ⟨#[]⟩] 9)).alloc (.cells #[.bool false] 4)) :=
    (((Below.refl _ w).alloc (Nat.le_refl _) _).alloc (by simp) _).alloc (by simp; omega) _
  have hpos := hK.pos
  refine wpIn_rangeFunc_ownG rfl (by omega) (gf := 65) (lb := #[]) rfl trivial (enters_of Tryd.func65 (by kernel_rfl) rfl)
    (seq_stops 5 (by omega) w.heap.size hpos _ hB0.size (hK.below hB0 hpos)) belowK_t (belowK_b hB0.size) (Below.refl _ _) (fun _ => rfl)
    (fun pre W => ((∀ i ∈ pre, (kC i == c) = false) ∧ W.cell? ⟨w.heap.size, 0, none⟩ = some (.int .u16 c) ∧ W.cell? ⟨w.heap.size + 1, 0, none⟩ = some (.string ⟨#[]⟩) ∧ W.frozen? ⟨w.heap.size + 1, 0, none⟩ = false ∧
      W.cell? ⟨w.heap.size + 1 + 1, 0, none⟩ = some (.bool false) ∧ W.frozen? ⟨w.heap.size + 1 + 1, 0, none⟩ = false) ∧ Below w.heap.size w W)
    (fun cd pre W => (cd = .ret ∧ ∃ ini last, pre = ini ++ [last] ∧ (∀ i ∈ ini, (kC i == c) = false) ∧ (kC last == c) = true ∧ W.cell? ⟨w.heap.size + 1, 0, none⟩ = some (.string (kN last)) ∧ W.cell? ⟨w.heap.size + 1 + 1, 0, none⟩ = some (.bool true)) ∧ Below w.heap.size w W)
    (OwnFrom.and (Own.from (fun s A B row hs hg hr => ⟨hs.1, cell_kept hs.2.1 hg hr, cell_kept hs.2.2.1 hg hr, (frozen_kept hs.2.2.1 hg hr).trans hs.2.2.2.1, cell_kept hs.2.2.2.2.1 hg hr, (frozen_kept hs.2.2.2.2.1 hg hr).trans hs.2.2.2.2.2⟩) _) (ownFrom_below (Nat.le_refl _) hB0.size))
    (fun cd => OwnFrom.and (Own.from (fun s A B row hs hg hr => by obtain ⟨hc, ini, last, e1, e2, e3, e4, e5⟩ := hs; exact ⟨hc, ini, last, e1, e2, e3, cell_kept e4 hg hr, cell_kept e5 hg hr⟩) _) (ownFrom_below (Nat.le_refl _) hB0.size))
    ⟨⟨by simp, ((b0.alloc _).alloc _).cell, (b1.alloc _).cell, (b1.alloc _).frozen, b2.cell, b2.frozen⟩, hB0⟩
    (fun x => { tmps := #[.int .u16 c, .pointer (some ⟨w.heap.size, 0, none⟩), .pointer (some ⟨w.heap.size + 1, 0, none⟩), .pointer (some ⟨w.heap.size + 1 + 1, 0, none⟩), .int .u16 (kC x), .string (kN x), .func (.func 65) #[] #[], .int .u16 (kC x), .string (kN x), undef, undef, undef, undef], defers := [] }) ?assign ?body ?done ?stop
  case assign =>
    intro l x W K hK
    gi_wp2
    exact hK
  case body =>
    rintro l pre x W ⟨⟨hp, hc0, hc1, hf1, hc2, hf2⟩, hB⟩ _
    cases hx : (kC x == c)
    · gi_wp2
      exact ⟨KeepsFrom.refl _ _, Below.refl _ _, ⟨fun i hi => (List.mem_append.1 hi).elim (hp i) (fun e => by simp at e; subst e; exact hx), hc0, hc1, hf1, hc2, hf2⟩, hB⟩
    · gi_wp2
      obtain ⟨q1, q2⟩ := set_two (.string (kN x)) (.bool true) (by omega) hc1 hc2
      exact ⟨keeps_two _ _ _ _ _ _, ⟨rfl, pre, x, rfl, hp, hx, q1, q2⟩, below_two hB (by omega) (by omega) _ _⟩
  case done =>
    rintro D ys W hD rfl ⟨⟨hne, hc0, hc1, hf1, hc2, hf2⟩, hB⟩ hK
    gi_wp2
    obtain ⟨q1, q2⟩ := set_two (.string ⟨#[]⟩) (.bool false) (by omega : w.heap.size + 1 ≠ w.heap.size + 1 + 1) hc1 hc2
    have hK' := two_same (p := ⟨w.heap.size + 1, 0, none⟩) (q := ⟨w.heap.size + 1 + 1, 0, none⟩) (u := .string ⟨#[]⟩) (v := .bool false) hK
    obtain ⟨r1, r2⟩ := kept_two hK' q1 q2
    have hn : nameOf c = (⟨#[]⟩, false) := by simp only [nameOf, rowC, find_none hne]
    refine ⟨by simp, .inl ⟨_, _, rfl, run_takeDeferred hK', ?_⟩⟩
    refine ⟨.tuple #[.string ⟨#[]⟩, .bool false], ?_, by rw [hn], (below_two hB (by omega) (by omega) _ _).trans (belowK_b (w := w) (Nat.le_refl _) _ D _ _ (by simp at hD; omega) hK' rfl rfl)⟩
    simp [results, Tryd.f30, go_sem, r1, r2]
  case stop =>
    rintro D cd pre W hD ⟨k, hk, rfl⟩ ⟨⟨rfl, ini, last, e1, e2, e3, hc1, hc2⟩, hB⟩ hK
    gi_wp2
    obtain ⟨r1, r2⟩ := kept_two hK hc1 hc2
    have hn : nameOf c = (kN last, true) := by simp only [nameOf, rowC, find_first hk e1 e2 e3]
    refine ⟨by simp, .inl ⟨_, _, rfl, run_takeDeferred hK, ?_⟩⟩
    refine ⟨.tuple #[.string (kN last), .bool true], ?_, by rw [hn], hB.trans (belowK_b (w := w) (Nat.le_refl _) W D _ _ (by simp at hD; omega) hK rfl rfl)⟩
    simp [results, Tryd.f30, go_sem, r1, r2]
/-- Name. -/
theorem name_any (c : Int) (w : World) (hK : Kinds w) :
    Calls Tryd.prog 30 #[.int .u16 c] w fun e w' => e = .returned (.tuple #[.string (nameOf c).1, .bool (nameOf c).2]) ∧ Below w.heap.size w w' := callsIn_wide.1 (name_in c w hK)
end Go.Proofs.YtceeinljakcdkaaDoor
