/-
  task.place, running, ended: processes by binary search.
-/
import Derived.Test.YtlelhhgggnjndaaGreatRows
import Derived.Test.YtlelhhgggnjndaaGreatQPiSh
import Derived.Shelf.Slices.Empties
import Derived.Deep.MidRow
namespace Go.Proofs.YtlelhhgggnjndaaGreat
set_option linter.unusedVariables false
def riseP : Int → List Int → Bool
  | _, [] => true
  | p, x :: l => decide (p < x) && (decide (x ≤ 20) && riseP x l)
def pidE (a : Int) (l : List Int) : Int := if decide (0 ≤ a) && (decide (a ≤ 20) && riseP 0 l) then 0 else 200
structure Ids (a : Int) (l : List Int) : Prop where
  a0 : 0 ≤ a
  a1 : a ≤ 20
  up : l.Pairwise (· < ·)
  m : ∀ x ∈ l, 1 ≤ x ∧ x ≤ 20
theorem riseP_iff : ∀ (l : List Int) (p : Int), riseP p l = true ↔ (∀ x ∈ l, p < x ∧ x ≤ 20) ∧ l.Pairwise (· < ·)
  | [], p => by simp [riseP]
  | x :: l, p => by
    rw [riseP, Bool.and_eq_true, Bool.and_eq_true, decide_eq_true_iff, decide_eq_true_iff, riseP_iff l x, List.pairwise_cons]
    constructor
    · rintro ⟨h1, h2, h3, h4⟩
      refine ⟨fun y hy => ?_, fun y hy => (h3 y hy).1, h4⟩
      rcases List.mem_cons.1 hy with rfl | h
      · exact ⟨h1, h2⟩
      · exact ⟨Int.lt_trans h1 (h3 y h).1, (h3 y h).2⟩
    · rintro ⟨h1, h2, h3⟩
      exact ⟨(h1 x (by simp)).1, (h1 x (by simp)).2, fun y hy => ⟨h2 y hy, (h1 y (by simp [hy])).2⟩, h3⟩
theorem ids_iff {a : Int} {l : List Int} : pidE a l = 0 ↔ Ids a l := by
  unfold pidE
  constructor
  · intro h
    split at h
    · rename_i hc
      simp only [Bool.and_eq_true, decide_eq_true_iff, riseP_iff] at hc
      obtain ⟨h1, h2, h3, h4⟩ := hc
      exact ⟨h1, h2, h4, fun x hx => ⟨by have := (h3 x hx).1; omega, (h3 x hx).2⟩⟩
    · cases h
  · intro h
    rw [if_pos]
    simp only [Bool.and_eq_true, decide_eq_true_iff, riseP_iff]
    exact ⟨h.a0, h.a1, fun x hx => ⟨by have := (h.m x hx).1; omega, (h.m x hx).2⟩, h.up⟩
theorem pidE_or (a : Int) (l : List Int) : pidE a l = 0 ∨ pidE a l = 200 := by unfold pidE; split <;> simp
theorem pidE_no {a : Int} {l : List Int} (h : ¬ Ids a l) : pidE a l = 200 := by
  rcases pidE_or a l with h1 | h1
  · exact absurd (ids_iff.1 h1) h
  · exact h1
theorem up_ext : ∀ {l m : List Int}, l.Pairwise (· < ·) → m.Pairwise (· < ·) → (∀ x, x ∈ l ↔ x ∈ m) → l = m
  | [], [], _, _, _ => rfl
  | [], y :: m, _, _, h => absurd ((h y).2 (by simp)) (by simp)
  | x :: l, [], _, _, h => absurd ((h x).1 (by simp)) (by simp)
  | x :: l, y :: m, hl, hm, h => by
    rw [List.pairwise_cons] at hl hm
    have hxy : x = y := by
      have h1 := (h x).1 (by simp)
      have h2 := (h y).2 (by simp)
      rcases List.mem_cons.1 h1 with e | h1
      · exact e
      · rcases List.mem_cons.1 h2 with e | h2
        · exact e.symm
        · have := hm.1 x h1; have := hl.1 y h2; omega
    subst hxy
    rw [up_ext hl.2 hm.2 fun z => ?_]
    constructor
    · intro hz
      rcases List.mem_cons.1 ((h z).1 (by simp [hz])) with e | e
      · subst e; exact absurd (hl.1 z hz) (by omega)
      · exact e
    · intro hz
      rcases List.mem_cons.1 ((h z).2 (by simp [hz])) with e | e
      · subst e; exact absurd (hm.1 z hz) (by omega)
      · exact e
def lessP (l : List Int) (x : Int) : Nat := l.countP (fun y => decide (y < x))
theorem lessP_le (l : List Int) (x : Int) : lessP l x ≤ l.length := List.countP_le_length
theorem less_zero {l : List Int} {x y : Int} (h : ∀ z ∈ l, y < z) (hxy : x ≤ y) : lessP l x = 0 := by
  unfold lessP
  rw [List.countP_eq_zero]
  intro z hz
  have := h z hz
  simp; omega
theorem take_less : ∀ {l : List Int} (x : Int), l.Pairwise (· < ·) → l.take (lessP l x) = l.filter (fun y => decide (y < x)) ∧ l.drop (lessP l x) = l.filter (fun y => !decide (y < x))
  | [], x, _ => ⟨rfl, rfl⟩
  | y :: l, x, h => by
    rw [List.pairwise_cons] at h
    obtain ⟨h1, h2⟩ := take_less x h.2
    by_cases hy : y < x
    · have e : lessP (y :: l) x = lessP l x + 1 := by unfold lessP; rw [List.countP_cons_of_pos (by simpa using hy)]
      rw [e, List.take_succ_cons, List.drop_succ_cons, h1, h2, List.filter_cons_of_pos (by simpa using hy), List.filter_cons_of_neg (by simpa using hy)]
      exact ⟨rfl, rfl⟩
    · have e : lessP (y :: l) x = 0 := by
        unfold lessP
        rw [List.countP_cons_of_neg (by simpa using hy)]
        exact less_zero h.1 (by omega)
      rw [e, List.take_zero, List.drop_zero]
      constructor
      · rw [List.filter_cons_of_neg (by simpa using hy)]
        refine (List.filter_eq_nil_iff.2 fun z hz => ?_).symm
        have := h.1 z hz
        simp; omega
      · rw [List.filter_cons_of_pos (by simpa using hy)]
        refine congrArg _ (List.filter_eq_self.2 fun z hz => ?_).symm
        have := h.1 z hz
        simp; omega
def insP (l : List Int) (x : Int) : List Int := l.take (lessP l x) ++ x :: l.drop (lessP l x)
def delP (l : List Int) (x : Int) : List Int := l.take (lessP l x) ++ l.drop (lessP l x + 1)
theorem mem_insP {l : List Int} {x y : Int} : y ∈ insP l x ↔ y = x ∨ y ∈ l := by
  have h : y ∈ l ↔ y ∈ l.take (lessP l x) ∨ y ∈ l.drop (lessP l x) := by
    rw [← List.mem_append, List.take_append_drop]
  unfold insP
  rw [List.mem_append, List.mem_cons, h]
  constructor
  · rintro (h | h | h)
    · exact .inr (.inl h)
    · exact .inl h
    · exact .inr (.inr h)
  · rintro (h | h | h)
    · exact .inr (.inl h)
    · exact .inl h
    · exact .inr (.inr h)
theorem len_insP (l : List Int) (x : Int) : (insP l x).length = l.length + 1 := by
  have := lessP_le l x
  simp [insP, List.length_append]
  omega
theorem up_insP {l : List Int} {x : Int} (h : l.Pairwise (· < ·)) (hx : x ∉ l) : (insP l x).Pairwise (· < ·) := by
  obtain ⟨h1, h2⟩ := take_less x h
  unfold insP
  rw [h1, h2, List.pairwise_append, List.pairwise_cons]
  refine ⟨h.filter _, ⟨fun y hy => ?_, h.filter _⟩, fun y hy z hz => ?_⟩
  · rw [List.mem_filter] at hy
    have : y ≠ x := fun e => hx (e ▸ hy.1)
    have := hy.2
    simp at this
    omega
  · rw [List.mem_filter] at hy
    have h3 := hy.2
    simp at h3
    rcases List.mem_cons.1 hz with rfl | hz
    · exact h3
    · rw [List.mem_filter] at hz
      have := hz.2
      simp at this
      omega
theorem delP_eq : ∀ {l : List Int} {x : Int}, l.Pairwise (· < ·) → x ∈ l → delP l x = l.filter (fun y => y != x)
  | [], x, _, h => absurd h (by simp)
  | y :: l, x, h, hx => by
    rw [List.pairwise_cons] at h
    by_cases hy : y < x
    · have e : lessP (y :: l) x = lessP l x + 1 := by unfold lessP; rw [List.countP_cons_of_pos (by simpa using hy)]
      have hxl : x ∈ l := by
        rcases List.mem_cons.1 hx with e | e
        · omega
        · exact e
      have ih := delP_eq h.2 hxl
      unfold delP at ih ⊢
      rw [e, List.take_succ_cons, List.drop_succ_cons, List.cons_append, ih, List.filter_cons_of_pos (by simp; omega)]
    · have e : lessP (y :: l) x = 0 := by
        unfold lessP
        rw [List.countP_cons_of_neg (by simpa using hy)]
        exact less_zero h.1 (by omega)
      have hxy : x = y := by
        rcases List.mem_cons.1 hx with e | e
        · exact e
        · have := h.1 x e; omega
      subst hxy
      unfold delP
      rw [e, List.take_zero, List.nil_append, Nat.zero_add, List.drop_succ_cons, List.drop_zero, List.filter_cons_of_neg (by simp)]
      refine (List.filter_eq_self.2 fun z hz => ?_).symm
      have := h.1 z hz
      simp; omega
theorem mem_delP {l : List Int} {x y : Int} (h : l.Pairwise (· < ·)) (hx : x ∈ l) : y ∈ delP l x ↔ y ∈ l ∧ y ≠ x := by
  rw [delP_eq h hx, List.mem_filter]; simp
theorem up_delP {l : List Int} {x : Int} (h : l.Pairwise (· < ·)) (hx : x ∈ l) : (delP l x).Pairwise (· < ·) := by
  rw [delP_eq h hx]; exact h.filter _
theorem less_lt {l : List Int} {x : Int} (hx : x ∈ l) : lessP l x < l.length := by
  rcases Nat.lt_or_ge (lessP l x) l.length with h | h
  · exact h
  · have e : lessP l x = l.length := Nat.le_antisymm (lessP_le l x) h
    unfold lessP at e
    rw [List.countP_eq_length] at e
    have := e x hx
    simp at this
def all20 : List Int := (List.range 20).map fun (k : Nat) => (k : Int) + 1
theorem mem_all20 {x : Int} : x ∈ all20 ↔ 1 ≤ x ∧ x ≤ 20 := by
  unfold all20
  rw [List.mem_map]
  constructor
  · rintro ⟨k, hk, rfl⟩
    rw [List.mem_range] at hk
    omega
  · rintro ⟨h1, h2⟩
    exact ⟨(x - 1).toNat, List.mem_range.2 (by omega), by omega⟩
theorem up_all20 : all20.Pairwise (· < ·) := by decide
theorem filter_all20 {l : List Int} (p : Int → Bool) (h : l.Pairwise (· < ·)) (hp : ∀ x, x ∈ l ↔ (1 ≤ x ∧ x ≤ 20) ∧ p x = true) : all20.filter p = l :=
  up_ext (up_all20.filter _) h fun x => by rw [List.mem_filter, mem_all20, hp]
theorem Ids.canon {a : Int} {l : List Int} (h : Ids a l) : all20.filter (fun x => l.contains x) = l :=
  filter_all20 _ h.up fun x => ⟨fun hx => ⟨h.m x hx, by simpa using hx⟩, fun hx => by simpa using hx.2⟩
theorem Ids.len {a : Int} {l : List Int} (h : Ids a l) : l.length ≤ 20 := by
  rw [← h.canon]
  exact List.length_filter_le _ all20
theorem Ids.full {a : Int} {l : List Int} (h : Ids a l) (hl : l.length = 20) {x : Int} (h1 : 1 ≤ x) (h2 : x ≤ 20) : x ∈ l := by
  have e := h.canon
  have e2 : (all20.filter (fun x => l.contains x)).length = all20.length := by rw [e, hl]; rfl
  rw [List.length_filter_eq_length_iff] at e2
  simpa using e2 x (mem_all20.2 ⟨h1, h2⟩)
def cand (a i : Nat) : Nat := (a + i) % 20 + 1
theorem cand_le (a i : Nat) : 1 ≤ cand a i ∧ cand a i ≤ 20 := by unfold cand; omega
def nextP (a : Nat) (l : List Int) : Option Nat := (List.range 20).find? fun i => !l.contains ((cand a i : Nat) : Int)
theorem cand_all (a : Nat) {x : Int} (h1 : 1 ≤ x) (h2 : x ≤ 20) : ∃ i, i < 20 ∧ ((cand a i : Nat) : Int) = x := by
  refine ⟨(x.toNat + 20 * 20 - 1 - a % 20) % 20, Nat.mod_lt _ (by decide), ?_⟩
  unfold cand
  omega
theorem nextP_none {a : Nat} {l : List Int} (h : nextP a l = none) {x : Int} (h1 : 1 ≤ x) (h2 : x ≤ 20) : x ∈ l := by
  obtain ⟨i, hi, rfl⟩ := cand_all a h1 h2
  have := List.find?_eq_none.1 h i (List.mem_range.2 hi)
  simpa using this
theorem Ids.full_of {a : Int} {l : List Int} (h : Ids a l) (hf : ∀ x : Int, 1 ≤ x → x ≤ 20 → x ∈ l) : l.length = 20 := by
  have e : all20.filter (fun x => l.contains x) = all20 := List.filter_eq_self.2 fun x hx => by
    have := mem_all20.1 hx
    simpa using hf x this.1 this.2
  rw [← h.canon, e]; rfl
theorem range_find {p : Nat → Bool} {i n : Nat} (h : (List.range n).find? p = some i) : i < n ∧ p i = true ∧ ∀ j, j < i → p j = false := by
  refine ⟨List.mem_range.1 (List.mem_of_find?_eq_some h), List.find?_some h, fun j hj => ?_⟩
  rw [List.find?_range_eq_some] at h
  simpa using h.2.2 j hj
theorem nextP_some {a : Nat} {l : List Int} {i : Nat} (h : nextP a l = some i) : i < 20 ∧ ((cand a i : Nat) : Int) ∉ l ∧ ∀ j, j < i → ((cand a j : Nat) : Int) ∈ l := by
  obtain ⟨h1, h2, h3⟩ := range_find h
  exact ⟨h1, by simpa using h2, fun j hj => by simpa using h3 j hj⟩
theorem Ids.taken {a : Int} {l : List Int} {n i : Nat} (h : Ids a l) (hn : nextP n l = some i) : Ids ((cand n i : Nat) : Int) (insP l ((cand n i : Nat) : Int)) := by
  obtain ⟨h1, h2, h3⟩ := nextP_some hn
  have h4 := cand_le n i
  refine ⟨by omega, by omega, up_insP h.up h2, fun x hx => ?_⟩
  rcases mem_insP.1 hx with rfl | hx
  · omega
  · exact h.m x hx
theorem Ids.freed {a : Int} {l : List Int} {x : Int} (h : Ids a l) (hx : x ∈ l) : Ids a (delP l x) :=
  ⟨h.a0, h.a1, up_delP h.up hx, fun y hy => h.m y ((mem_delP h.up hx).1 hy).1⟩
theorem Ids.none_iff {a : Int} {l : List Int} {n : Nat} (h : Ids a l) : nextP n l = none ↔ l.length = 20 := by
  constructor
  · exact fun hn => h.full_of fun x h1 h2 => nextP_none hn h1 h2
  · intro hl
    refine List.find?_eq_none.2 fun i _ => ?_
    have h4 := cand_le n i
    have := h.full hl (x := ((cand n i : Nat) : Int)) (by omega) (by omega)
    simpa using this
theorem ref_taken {a : Int} {l : List Int} {n i : Nat} (h : Ids a l) (hn : nextP n l = some i) : all20.filter (fun x => x == ((cand n i : Nat) : Int) || l.contains x) = insP l ((cand n i : Nat) : Int) :=
  filter_all20 _ (h.taken hn).up fun x => by
    have h4 := cand_le n i
    rw [mem_insP, Bool.or_eq_true, beq_iff_eq, List.contains_iff_mem]
    constructor
    · rintro (rfl | hx)
      · exact ⟨by omega, .inl rfl⟩
      · exact ⟨h.m x hx, .inr hx⟩
    · exact fun hx => hx.2
end Go.Proofs.YtlelhhgggnjndaaGreat
namespace Go.Proofs.YtlelhhgggnjndaaGreat
open Go.RowKit Go.Shelf
set_option linter.unusedVariables false
set_option linter.unusedSimpArgs false
theorem search_any (A : Option Addr) (m c : Nat) (l : List Int) (x : Int) (w : World) (hA : Ri7 w w.heap.size A l) (hm : m = l.length) (h6 : m ≤ 1000000) (hu : l.Pairwise (· < ·)) :
    Calls Tryz.prog 64 #[.slice A m c, .int .i64 x] w fun e w' => e = .returned (.tuple #[.int .i64 (lessP l x : Nat), .bool (l.contains x)]) ∧ Below w.heap.size w w' := by
  rcases l with _ | ⟨y, l⟩
  · simp at hm
    subst hm
    refine Calls.mono (Any.slices_BinarySearch_int_empty Tryz.lays2_25 A c x w : Calls Tryz.prog 64 _ w _) ?_
    rintro e w' ⟨rfl, rfl⟩
    exact ⟨rfl, Below.refl _ _⟩
  · obtain ⟨b, off, rfl, hb, _⟩ := hA 0 (by simp)
    have h := Any.slices_BinarySearch_int Tryz.lays2_25 b off m c (y :: l) x w (by omega) (by omega) (fun j hj => by
      obtain ⟨b', off', e, _, hc⟩ := hA j hj
      cases e
      exact hc) (by
        rw [hm, List.take_length]
        exact hu.imp fun h => Int.le_of_lt h)
    rw [hm, List.take_length] at h
    subst hm
    refine Calls.mono (h : Calls Tryz.prog 64 _ w _) ?_
    rintro e w' ⟨rfl, q, rfl⟩
    exact ⟨rfl, below_drewN (Below.refl _ _) q⟩
theorem zo_of_cells {w : World} {base g m c : Nat} {l : List Int} {cur : Array Value} (hb : base ≤ g) (hh : w.heap[g]? = some (.cells cur 3 (0, 0))) (h1 : m ≤ c) (h2 : c ≤ maxLen) (h3 : cur.size = c) (hm : m = l.length) (h4 : ∀ j, j < m → cur[j]? = some (.int .i64 (l.getD j 0))) : Zo w base (some ⟨g, 0, none⟩) m c l := by
  refine zo_block hb hh h1 h2 h3 ?_ hm
  refine List.ext_getElem? fun j => ?_
  rcases Nat.lt_or_ge j m with h | h
  · rw [List.getElem?_take_of_lt h, Array.getElem?_toList, h4 j h, z_get' (by omega)]
  · rw [List.getElem?_eq_none (by simp; omega), List.getElem?_eq_none (by simp; omega)]
theorem zo_cells {cur : Array Value} {m : Nat} {l : List Int} (h4 : cur.toList.take m = l.map (Value.int .i64)) (hm : m = l.length) {j : Nat} (hj : j < m) : cur[j]? = some (.int .i64 (l.getD j 0)) := by
  rw [← Array.getElem?_toList, ← List.getElem?_take_of_lt hj, h4, z_get' (by omega)]
theorem delete_any (A : Option Addr) (m c : Nat) (l : List Int) (i base : Nat) (w : World) (ho : Zo w base A m c l) (hi : i < m) :
    Calls Tryz.prog 133 #[.slice A m c, .int .i64 i, .int .i64 ((i : Int) + 1)] w fun e w' => ∃ A', e = .returned (.slice A' (m - 1) c) ∧ Zo w' base A' (m - 1) c (l.take i ++ l.drop (i + 1)) ∧ Below base w w' := by
  have hl := ho.len
  rcases ho.form with ⟨_, h0, _⟩ | ⟨g, rfl, hbg, hlt, cur, hh, h1, h2, h3, h4⟩
  · omega
  · have hH : Go.Sort.Holds (Value.int .i64) w g 0 l.toArray := fun j hj => by
      have hj' : j < m := by rw [hl]; simpa using hj
      rw [Nat.zero_add]
      refine ⟨?_, by simp [World.frozen?, hh]⟩
      simp only [World.cell?, hh, zo_cells h4 hl hj']
      have hj2 : j < l.length := by omega
      simp [List.getD, hj2]
    have h := Any.slices_Delete_int Tryz.lays2_23 g 0 c i (i + 1) l w hH (by omega) (by simp only [maxLen] at h2; omega) (by omega) (by omega)
    rw [← hl] at h
    have hw1 : (((i + 1 : Nat)) : Int) = (i : Int) + 1 := by omega
    rw [hw1] at h
    refine Calls.mono (h : Calls Tryz.prog 133 _ w _) ?_
    rintro e w' ⟨rfl, q, rfl⟩
    have e1 : m - (i + 1 - i) = m - 1 := by omega
    refine ⟨some ⟨g, 0, none⟩, by rw [e1], ?_, ?_⟩
    · have hh' : (Go.Sort.putRow (Value.int .i64) (Go.Sort.ahead w q) g 0 (l.take i ++ l.drop (i + 1) ++ List.replicate (i + 1 - i) 0).toArray).heap[g]? = some (.cells (Go.Sort.putCells (Value.int .i64) 0 (l.take i ++ l.drop (i + 1) ++ List.replicate (i + 1 - i) 0).toArray cur) 3 (0, 0)) := by
        simp [Go.Sort.putRow, Go.Sort.mapBlock, Go.Sort.ahead, Array.getElem?_modify, hh, Go.Sort.onCells]
      refine zo_of_cells hbg hh' (by omega) h2 (by simp [Go.Sort.putCells, h3]) (by simp; omega) fun j hj => ?_
      have hjl : j < (l.take i ++ l.drop (i + 1)).length := by simp; omega
      have hjc : j < cur.size := by omega
      simp only [Go.Sort.putCells]
      rw [Array.getElem?_mapIdx, Array.getElem?_eq_getElem hjc]
      simp only [Option.map_some, Nat.sub_zero, Nat.zero_le, true_and, Nat.zero_add]
      rw [if_pos (by simp at hjl ⊢; omega)]
      congr 2
      rw [getElem!_pos _ j (by simp at hjl ⊢; omega)]
      simp only [List.getElem_toArray]
      rw [List.getElem_append_left hjl]
      unfold List.getD
      rw [List.getElem?_eq_getElem hjl]
      rfl
    · refine ⟨rfl, rfl, rfl, by simp [Go.Sort.putRow, Go.Sort.mapBlock, Go.Sort.ahead], fun k hk => ?_⟩
      have hne : g ≠ k := by omega
      simp [Go.Sort.putRow, Go.Sort.mapBlock, Go.Sort.ahead, Array.getElem?_modify, hne]
def layA (cur : Array Value) : Nat → List Value → Array Value
  | _, [] => cur
  | o, v :: r => layA (cur.setIfInBounds o v) (o + 1) r
theorem layA_size : ∀ (vs : List Value) (cur : Array Value) (o : Nat), (layA cur o vs).size = cur.size
  | [], _, _ => rfl
  | v :: r, cur, o => by rw [layA, layA_size r]; simp
theorem layA_get : ∀ (vs : List Value) (cur : Array Value) (o j : Nat), o + vs.length ≤ cur.size → (layA cur o vs)[j]? = if o ≤ j ∧ j < o + vs.length then vs[j - o]? else cur[j]?
  | [], cur, o, j, _ => by simp [layA]; omega
  | v :: r, cur, o, j, h => by
    simp only [List.length_cons] at h
    rw [layA, layA_get r _ (o + 1) j (by simp; omega)]
    by_cases hj : j = o
    · subst hj
      rw [if_neg (by omega), if_pos (by simp), Nat.sub_self, Array.getElem?_setIfInBounds_self_of_lt (by omega)]
      rfl
    · by_cases h1 : o + 1 ≤ j ∧ j < o + 1 + r.length
      · rw [if_pos h1, if_pos (by simp; omega)]
        have : j - o = (j - (o + 1)) + 1 := by omega
        rw [this, List.getElem?_cons_succ]
      · rw [if_neg h1, if_neg (by simp; omega), Array.getElem?_setIfInBounds_ne (by omega)]
theorem setCells_at (b : Nat) (t : TypeId) : ∀ (vs : List Value) (o : Nat) (w : World) (cur : Array Value), w.heap[b]? = some (.cells cur t (0, 0)) → (w.setCells b o vs).heap[b]? = some (.cells (layA cur o vs) t (0, 0))
  | [], _, _, _, h => h
  | v :: r, o, w, cur, h => by
    rw [World.setCells, layA]
    exact setCells_at b t r (o + 1) _ _ (by simp [World.setCell, Array.getElem?_modify, h])
theorem setCells_below {B : Nat} (b : Nat) (hb : B ≤ b) : ∀ (vs : List Value) (o : Nat) (w : World), Below B w (w.setCells b o vs)
  | [], _, _ => Below.refl _ _
  | v :: r, o, w => by
    rw [World.setCells]
    exact ((Below.refl B w).setCell (p := ⟨b, o, none⟩) hb v).trans (setCells_below b hb r (o + 1) _)
theorem insert_any (A : Option Addr) (m c : Nat) (l : List Int) (i base vb : Nat) (x : Int) (w : World) (ho : Zo w base A m c l) (hi : i ≤ m) (hm : m ≤ 1000000) (hbase : base ≤ w.heap.size) (hv : w.heap[vb]? = some (.cells #[.int .i64 x] 3 (0, 0))) (hvb : A ≠ some ⟨vb, 0, none⟩) :
    Calls Tryz.prog 65 #[.slice A m c, .int .i64 i, .slice (some ⟨vb, 0, none⟩) 1 1] w fun e w' => ∃ A' c', e = .returned (.slice A' (m + 1) c') ∧ Zo w' base A' (m + 1) c' (l.take i ++ x :: l.drop i) ∧ Below base w w' := by
  have hl := ho.len
  have hvs : ∀ j v, [Value.int .i64 x][j]? = some v → w.cell? ⟨vb, 0 + j, none⟩ = some v := fun j v hj => by
    rcases j with _ | j
    · simp at hj; subst hj; simp [World.cell?, hv]
    · simp at hj
  have h1v : ∀ v ∈ [Value.int .i64 x], v.oneCell' = true := by intro v hv; simp at hv; subst hv; rfl
  have h1c : ∀ v ∈ l.map (Value.int .i64), v.oneCell' = true := by intro v hv; obtain ⟨k, _, rfl⟩ := List.mem_map.1 hv; rfl
  have hlen : (l.take i ++ x :: l.drop i).length = m + 1 := by simp; omega
  have hget : ∀ j, j < m + 1 → (l.take i ++ x :: l.drop i).getD j 0 = if j < i then l.getD j 0 else if j = i then x else l.getD (j - 1) 0 := fun j hj => by
    have hti : (l.take i).length = i := by simp; omega
    unfold List.getD
    by_cases h1 : j < i
    · rw [if_pos h1, List.getElem?_append_left (by omega), List.getElem?_take_of_lt h1]
    · rw [if_neg h1, List.getElem?_append_right (by omega), hti]
      by_cases h2 : j = i
      · subst h2; rw [if_pos rfl, Nat.sub_self]; rfl
      · rw [if_neg h2, show j - i = (j - 1 - i) + 1 by omega, List.getElem?_cons_succ, List.getElem?_drop, show i + (j - 1 - i) = j - 1 by omega]
  have hm2 : m + 1 ≤ maxLen := by simp only [maxLen]; omega
  have fit : ∀ (old : Nat) (cs : List Value), cs.length = m + 1 → (∀ j, j < m + 1 → cs[j]? = some (.int .i64 ((l.take i ++ x :: l.drop i).getD j 0))) →
      ∀ (W' : World) (cur : Array Value), W'.heap[w.heap.size]? = some (.cells cur 3 (0, 0)) → cur.size = grownCap w (m + 1) old 3 → (∀ j, j < m + 1 → cur[j]? = cs[j]?) → Zo W' base (some ⟨w.heap.size, 0, none⟩) (m + 1) (grownCap w (m + 1) old 3) (l.take i ++ x :: l.drop i) :=
    fun old cs hcl hc W' cur hh hsz hcur => zo_of_cells hbase hh (grownCap_ge w (m + 1) old 3) (grownCap_le_maxLen w (m + 1) old _ hm2) hsz hlen.symm fun j hj => (hcur j hj).trans (hc j hj)
  have hend : i = m → ∀ j, j < m + 1 → (l.map (Value.int .i64) ++ [Value.int .i64 x])[j]? = some (.int .i64 ((l.take i ++ x :: l.drop i).getD j 0)) := by
    intro e j hj
    rw [hget j hj, e]
    by_cases h1 : j < m
    · rw [if_pos h1, List.getElem?_append_left (by simp; omega), z_get' (by omega)]
    · rw [if_neg h1, if_pos (by omega), List.getElem?_append_right (by simp; omega)]
      have : j - (l.map (Value.int .i64)).length = 0 := by simp; omega
      rw [this]; rfl
  have zsz : ∀ (old : Nat) (cs : List Value), cs.length = m + 1 → (cs.toArray ++ Builtin.zeroCells (Value.int .i64 0).cells (grownCap w (m + 1) old 3 - (m + 1))).size = grownCap w (m + 1) old 3 := by
    intro old cs hc
    have hge := grownCap_ge w (m + 1) old 3
    rw [Array.size_append, size_zeroCells]
    simp [Value.cells, hc]
    omega
  have atEnd : i = m → ∀ (c0 : Nat), c0 < m + 1 → (∀ a, A = some a → ∀ j v, (l.map (Value.int .i64))[j]? = some v → w.cell? (a.add j) = some v) → (A = none → m = 0) → m ≤ c0 → Calls Tryz.prog 65 #[.slice A m c0, .int .i64 i, .slice (some ⟨vb, 0, none⟩) 1 1] w fun e w' => ∃ A' c', e = .returned (.slice A' (m + 1) c') ∧ Zo w' base A' (m + 1) c' (l.take i ++ x :: l.drop i) ∧ Below base w w' := by
    intro e c0 hc0 hcs hnil hmc
    have h := Any2.slices_Insert_int_end_grow Tryz.lays2_21 A m c0 vb 0 1 1 (l.map (Value.int .i64)) [.int .i64 x] w (by omega) hmc hc0 (by omega) (by simp [hl]) rfl hnil hcs hvs h1v
    rw [← e] at h
    rw [← e]
    refine Calls.mono (h : Calls Tryz.prog 65 _ w _) ?_
    rintro e2 w' ⟨rfl, rfl⟩
    have hcl : (l.map (Value.int .i64) ++ [Value.int .i64 x]).length = m + 1 := by simp [hl]
    rw [e]
    refine ⟨_, _, rfl, ?_, ⟨rfl, rfl, rfl, by simp, fun k hk => Below.heap_alloc _ _ _ (by simp; omega)⟩⟩
    have := fit c0 _ hcl (hend e) (w.drew.alloc (.cells ((l.map (Value.int .i64) ++ [Value.int .i64 x]).toArray ++ Builtin.zeroCells (Value.int .i64 0).cells (grownCap w (m + 1) c0 3 - (m + 1))) 3)) _ (heap_alloc_new w.drew _) (zsz c0 _ hcl) (fun j hj => by rw [Array.getElem?_append_left (by simp [hl]; omega), List.getElem?_toArray])
    rw [e] at this
    exact this
  rcases ho.form with ⟨rfl, rfl, rfl, rfl⟩ | ⟨g, rfl, hbg, hlt, cur, hh, h1, h2, h3, h4⟩
  · exact atEnd (by omega) 0 (by omega) (fun a e => by cases e) (fun _ => rfl) (Nat.le_refl _)
  · have hne : vb ≠ g := fun e => hvb (by rw [e])
    have hcs : ∀ j v, (l.map (Value.int .i64))[j]? = some v → w.cell? ⟨g, 0 + j, none⟩ = some v := fun j v hj => by
      obtain ⟨hj2, rfl⟩ := z_get hj
      rw [Nat.zero_add]
      simp only [World.cell?, hh]
      exact zo_cells h4 hl (by omega)
    have hcsz : ∀ j, j < c → (w.cell? ⟨g, 0 + j, none⟩).isSome = true := fun j hj => by
      rw [Nat.zero_add]
      simp only [World.cell?, hh, Array.getElem?_eq_getElem (show j < cur.size by omega)]
      rfl
    have hfz : ∀ j, w.frozen? ⟨g, j, none⟩ = false := fun j => by simp [World.frozen?, hh]
    have hc63 : c ≤ 9223372036854775807 := by simp only [maxLen] at h2; omega
    by_cases hr : m + 1 ≤ c
    · by_cases hie : i = m
      · have h := Any2.slices_Insert_int_end_room Tryz.lays2_21 g 0 m c vb 0 1 1 [.int .i64 x] w (by omega) hr hc63 rfl (fun j hj => by rw [Nat.add_assoc]; exact hcsz _ (by omega)) (fun j hj => hfz _) hvs h1v
        subst hie
        refine Calls.mono (h : Calls Tryz.prog 65 _ w _) ?_
        rintro e2 w' ⟨rfl, rfl⟩
        refine ⟨_, _, rfl, ?_, setCells_below g hbg _ _ _⟩
        refine zo_of_cells hbg (setCells_at g _ _ _ _ _ hh) hr h2 (by rw [layA_size]; exact h3) hlen.symm fun j hj => ?_
        rw [layA_get _ _ _ _ (by simp; omega), ← hend rfl j hj]
        simp only [Nat.zero_add, List.length_cons, List.length_nil]
        by_cases hj2 : j < i
        · rw [if_neg (by omega), List.getElem?_append_left (by simp; omega), z_get' (by omega)]
          exact zo_cells h4 hl hj2
        · rw [if_pos (by omega), List.getElem?_append_right (by simp; omega)]
          congr 1
          simp; omega
      · have h := Any2.slices_Insert_int_shift Tryz.lays2_21 g 0 m c i vb 0 1 1 (l.map (Value.int .i64)) [.int .i64 x] w (by omega) (by omega) hr hc63 hne (by simp [hl]) rfl hcs (fun j hj => hcsz j (by omega)) (fun j hj => hfz _) hvs h1c h1v
          3 3 1 c (by simp [World.shape?, hv]) (by simp [World.shape?, hh, h3]) (by omega) (by simp [World.frozen?, hv]) (by simp [World.frozen?, hv])
        refine Calls.mono (h : Calls Tryz.prog 65 _ w _) ?_
        rintro e2 w' ⟨rfl, rfl⟩
        refine ⟨_, _, rfl, ?_, ((Below.refl _ w).drew.trans (setCells_below g hbg _ _ _)).trans (setCells_below g hbg _ _ _)⟩
        have hdl : ((l.map (Value.int .i64)).drop i).length = m - i := by simp [hl]
        refine zo_of_cells hbg (setCells_at g _ _ _ _ _ (setCells_at g _ _ _ w.drew _ hh)) hr h2 (by rw [layA_size, layA_size]; exact h3) hlen.symm fun j hj => ?_
        rw [layA_get _ _ _ _ (by rw [layA_size]; simp; omega), layA_get _ _ _ _ (by rw [hdl]; omega), hget j hj, hdl]
        simp only [Nat.zero_add, List.length_cons, List.length_nil]
        by_cases hj2 : j < i
        · rw [if_neg (by omega), if_neg (by omega), if_pos hj2]
          exact zo_cells h4 hl (by omega)
        · rw [if_neg hj2]
          by_cases hj3 : j = i
          · rw [if_pos (by omega), if_pos hj3, hj3, Nat.sub_self]; rfl
          · rw [if_neg (by omega), if_pos (by omega), if_neg hj3, List.getElem?_drop, show i + (j - (i + 1)) = j - 1 by omega, z_get' (by omega)]
    · by_cases hie : i = m
      · exact atEnd hie c (by omega) (fun a e j v hj => by cases e; rw [z_add]; exact hcs j v hj) (fun e => by cases e) h1
      · have h := Any2.slices_Insert_int_grow Tryz.lays2_21 g 0 m c i vb 0 1 1 (l.map (Value.int .i64)) [.int .i64 x] w (by omega) (by omega) h1 (by omega) (by omega) (by simp [hl]) rfl hcs hvs h1c h1v
        refine Calls.mono (h : Calls Tryz.prog 65 _ w _) ?_
        rintro e2 w' ⟨rfl, rfl⟩
        have b1 : Below base w (w.alloc (.cells (((l.map (Value.int .i64)).take i).toArray ++ Builtin.zeroCells (Value.int .i64 0).cells (m + 1 - i) ++ Builtin.zeroCells (Value.int .i64 0).cells (grownCap w (m + 1) c 3 - (m + 1))) 3)) := (Below.refl _ w).alloc hbase _
        refine ⟨_, _, rfl, ?_, (b1.drew.trans (setCells_below w.heap.size hbase _ _ _)).drew.trans (setCells_below w.heap.size hbase _ _ _)⟩
        have hdl : ((l.map (Value.int .i64)).drop i).length = m - i := by simp [hl]
        have hge := grownCap_ge w (m + 1) c 3
        have hsz : (((l.map (Value.int .i64)).take i).toArray ++ Builtin.zeroCells (Value.int .i64 0).cells (m + 1 - i) ++ Builtin.zeroCells (Value.int .i64 0).cells (grownCap w (m + 1) c 3 - (m + 1))).size = grownCap w (m + 1) c 3 := by
          rw [Array.size_append, Array.size_append, size_zeroCells, size_zeroCells]
          simp [Value.cells]
          omega
        refine zo_of_cells (cur := layA (layA (((l.map (Value.int .i64)).take i).toArray ++ Builtin.zeroCells (Value.int .i64 0).cells (m + 1 - i) ++ Builtin.zeroCells (Value.int .i64 0).cells (grownCap w (m + 1) c 3 - (m + 1))) i [.int .i64 x]) (i + 1) ((l.map (Value.int .i64)).drop i)) hbase ?_ hge (grownCap_le_maxLen w (m + 1) c _ hm2) (by rw [layA_size, layA_size]; exact hsz) hlen.symm fun j hj => ?_
        · have q := setCells_at w.heap.size 3 [.int .i64 x] i _ _ (heap_alloc_new w (.cells (((l.map (Value.int .i64)).take i).toArray ++ Builtin.zeroCells (Value.int .i64 0).cells (m + 1 - i) ++ Builtin.zeroCells (Value.int .i64 0).cells (grownCap w (m + 1) c 3 - (m + 1))) 3))
          exact setCells_at w.heap.size _ _ _ (World.drew _) _ q
        · rw [layA_get _ _ _ _ (by rw [layA_size, hdl, hsz]; omega), layA_get _ _ _ _ (by rw [hsz]; simp; omega), hget j hj, hdl]
          simp only [List.length_cons, List.length_nil]
          by_cases hj2 : j < i
          · rw [if_neg (by omega), if_neg (by omega), if_pos hj2, Array.append_assoc, Array.getElem?_append_left (by simp; omega), List.getElem?_toArray, List.getElem?_take_of_lt hj2, z_get' (by omega)]
          · rw [if_neg hj2]
            by_cases hj3 : j = i
            · rw [if_neg (by omega), if_pos (by omega), if_pos hj3, hj3, Nat.sub_self]; rfl
            · rw [if_pos (by omega), if_neg hj3, List.getElem?_drop, show i + (j - (i + 1)) = j - 1 by omega, z_get' (by omega)]
end Go.Proofs.YtlelhhgggnjndaaGreat
namespace Go.Proofs.YtlelhhgggnjndaaGreat
open Go.RowKit Go.Shelf
set_option linter.unusedVariables false
set_option linter.unusedSimpArgs false
theorem thrF_at : ∀ {L : List Pw} {k : Nat} {x : Nat × Int}, x ∈ thrF k L → k ≤ x.1 ∧ x.1 < k + L.length ∧ x.2 ∈ (L.getD (x.1 - k) pw0).1.t
  | [], _, _, h => by cases h
  | y :: L, k, x, h => by
    rcases List.mem_append.1 h with h1 | h1
    · obtain ⟨t, ht, rfl⟩ := List.mem_map.1 h1
      refine ⟨Nat.le_refl _, by simp, ?_⟩
      simpa using ht
    · obtain ⟨h2, h3, h4⟩ := thrF_at h1
      have e : x.1 - k = (x.1 - (k + 1)) + 1 := by omega
      refine ⟨by omega, by simp only [List.length_cons]; omega, ?_⟩
      rw [e]
      exact h4
theorem homeF_lt {L : List Pw} {tid : Int} (h : (homeF L tid).2 = true) : (homeF L tid).1 < L.length := by
  unfold homeF at h ⊢
  cases hf : (thrF 0 L).find? (fun x => x.2 == tid) with
  | none => rw [hf] at h; cases h
  | some x =>
    have := (thrF_at (List.mem_of_find?_eq_some hf)).2.1
    simpa using this
def thrOf (L : List Pw) (pid : Int) : List Int := match L.find? (fun x => x.1.i == pid) with | some x => x.1.t | none => []
theorem thrOf_at {L : List Pw} {pid : Int} {k : Nat} (hk : k < L.length) (h : ((L.getD k pw0).1.i == pid) = true) (hj : ∀ j, j < k → ((L.getD j pw0).1.i == pid) = false) : thrOf L pid = (L.getD k pw0).1.t := by
  have hg : ∀ j (hj : j < L.length), L.getD j pw0 = L[j] := fun j hj => by simp [List.getD, hj]
  unfold thrOf
  have : L.find? (fun x => x.1.i == pid) = some (L.getD k pw0) := by
    rw [List.find?_eq_some_iff_getElem]
    refine ⟨h, k, hk, (hg k hk).symm, fun j hjk => ?_⟩
    have h1 := hj j hjk
    rw [hg j (by omega)] at h1
    simp [h1]
  rw [this]
theorem thrOf_no {L : List Pw} {pid : Int} (hj : ∀ j, j < L.length → ((L.getD j pw0).1.i == pid) = false) : thrOf L pid = [] := by
  unfold thrOf
  rw [List.find?_eq_none.2 fun x hx => ?_]
  obtain ⟨j, hjl, rfl⟩ := List.getElem_of_mem hx
  have := hj j hjl
  rw [show L.getD j pw0 = L[j] by simp [List.getD, hjl]] at this
  simp [this]
set_option maxRecDepth 100000 in
set_option maxHeartbeats 4000000 in
theorem threadsOf_any (a : Int) (Ua : Option Addr) (um uc : Nat) (A : Option Addr) (m c : Nat) (L : List Pw) (pid : Int) (w : World) (hP : Ps w w.heap.size A L) (hm : m = L.length) (h6 : m ≤ 1000000) :
    Calls Tryz.prog 22 #[tkV a Ua um uc A m c, .int .i64 pid] w fun e w' => ∃ G gm gc, e = .returned (.slice G gm gc) ∧ Zo w' w.heap.size G gm gc (thrOf L pid) ∧ Below w.heap.size w w' := by
  have k1 := Blk.new w (tkC a Ua um uc A m c) 27
  have B0 := (Below.refl w.heap.size w).alloc (Nat.le_refl _) (.cells (tkC a Ua um uc A m c) 27)
  have q2 : (w.alloc (.cells (tkC a Ua um uc A m c) 27)).cell? ⟨w.heap.size, 2, none⟩ = some (.slice A m c) := k1.cell 2
  have HM := Lib.hid hm
  clear hm k1
  unfold tkV
  go_enter Tryz.func22, Tryz.ntmps22
  go_wp2_with fail
  clear q2
  go_loopw [10] (fun i wr' => ∃ (k : Nat) (wr : World), wr = wr' ∧ k ≤ m ∧ i = .int .i64 k ∧ Hid (∀ j, j < k → ((L.getD j pw0).1.i == pid) = false) ∧ Below w.heap.size w wr) (fun i _ => m - (intOf i).toNat)
  case atStart => exact ⟨0, _, rfl, Nat.zero_le _, rfl, Lib.hid (fun j hj => absurd hj (Nat.not_lt_zero j)), B0⟩
  case round =>
    clear B0
    obtain ⟨k, wr, hwr, hk, rfl, hall, hB⟩ := hrel
    subst hwr
    by_cases hlt : k < m
    · have hlt' : (k : Int) < (m : Int) := by omega
      have hkl : k < L.length := by have := HM.out; omega
      obtain ⟨b, off, rfl, hb, hc⟩ := (hP.below hB (Nat.le_refl _)).at_ k hkl
      have hx := ((hP.below hB (Nat.le_refl _)).more hB.size).at' hkl
      have HKL := Lib.hid hkl
      generalize hxe : L.getD k pw0 = x at hc hx
      have HX := Lib.hid hxe
      clear hxe hkl
      have hs3 : (prC x).size = 3 := pr_size x
      cases hq : (x.1.i == pid)
      · go_wp2_with (first
          | (refine wpList_load_mid rfl 49 (.tmp 12) rfl b (off + k * 3) rfl (prC x).toList _ hc Tryz.underlying49 rfl (pr_infL x) ?_)
          | (refine wpList_store_blk rfl 49 (.tmp 6) (.tmp 13) rfl wr.heap.size (prC pw0) (prC x) 49 rfl rfl (Blk.new _ _ _) rfl (pr_inf x) (pr_one x) ?_
             intro W1 k6 n6
             have bb : Below wr.heap.size wr W1 := ((Below.refl _ wr).alloc (Nat.le_refl _) _).trans (n6.below _ (Nat.le_refl _) (by simp))
             have q0 : W1.cell? ⟨wr.heap.size, 0, none⟩ = some (.int .i64 x.1.i) := k6.cell 0))
        have hB1 := hB.trans (bb.mono hB.size)
        go_roundw
        case rel =>
          refine ⟨k + 1, _, rfl, by omega, by go_num, Lib.hid (fun j hj => ?_), hB1⟩
          rcases Nat.lt_succ_iff_lt_or_eq.1 hj with h | rfl
          · exact hall.out j h
          · rw [HX.out]; exact hq
        case measure => simp [intOf]; omega
      · have HQ := Lib.hid hq
        go_wp2_with (first
          | (refine wpList_load_mid rfl 49 (.tmp 12) rfl b (off + k * 3) rfl (prC x).toList _ hc Tryz.underlying49 rfl (pr_infL x) ?_)
          | (refine wpList_store_blk rfl 49 (.tmp 6) (.tmp 13) rfl wr.heap.size (prC pw0) (prC x) 49 rfl rfl (Blk.new _ _ _) rfl (pr_inf x) (pr_one x) ?_
             intro W1 k6 n6
             have bb : Below wr.heap.size wr W1 := ((Below.refl _ wr).alloc (Nat.le_refl _) _).trans (n6.below _ (Nat.le_refl _) (by simp))
             have q0 : W1.cell? ⟨wr.heap.size, 0, none⟩ = some (.int .i64 x.1.i) := k6.cell 0
             have q2 : W1.cell? ⟨wr.heap.size, 2, none⟩ = some (.slice x.2.1 x.1.t.length x.2.2) := k6.cell 2
             have hB1 := hB.trans (bb.mono hB.size)
             have CL := zclone_any x.2.1 x.1.t.length x.2.2 x.1.t W1 ((hx.ri.below bb (Nat.le_refl _)).more bb.size) rfl hx.l)
          | (refine CL.mono ?_
             rintro e W2 ⟨G, gc, rfl, z, b2⟩
             go_wp2_with fail))
        go_ret
        refine ⟨G, x.1.t.length, gc, rfl, ?_, hB1.trans (b2.mono hB1.size)⟩
        rw [thrOf_at HKL.out (by rw [HX.out]; exact HQ.out) hall.out, HX.out]
        exact z.down hB1.size
    · obtain rfl : k = m := by omega
      go_wp2_with fail
      go_ret
      refine ⟨none, 0, 0, rfl, ?_, hB⟩
      rw [thrOf_no (fun j hj => hall.out j (by have := HM.out; omega))]
      exact zo_nil _ _
set_option maxRecDepth 100000 in
theorem few_tk (a : Int) (Ua : Option Addr) (um uc : Nat) (A : Option Addr) (m c : Nat) (L : List Pw) (w : World) (hP : Ps w w.heap.size A L) (hm : m = L.length) (h6 : m ≤ 1000000) (hN : (thrF 0 L).length ≤ 1000000000) :
    Calls Tryz.prog 39 #[tkV a Ua um uc A m c] w fun e w' => e = .returned (.bool (decide (L.length ≤ 6) && decide ((thrF 0 L).length ≤ 8))) ∧ Below w.heap.size w w' := by
  have k1 := Blk.new w (tkC a Ua um uc A m c) 27
  have B0 := (Below.refl w.heap.size w).alloc (Nat.le_refl _) (.cells (tkC a Ua um uc A m c) 27)
  have CN := count_any a Ua um uc A m c L _ ((hP.below B0 (Nat.le_refl _)).more B0.size) hm h6 hN
  have q2 : (w.alloc (.cells (tkC a Ua um uc A m c) 27)).cell? ⟨w.heap.size, 2, none⟩ = some (.slice A m c) := k1.cell 2
  generalize (thrF 0 L).length = tn at CN ⊢
  subst hm
  generalize L.length = m at *
  unfold tkV at CN ⊢
  have HCN := Lib.hid CN
  clear CN
  by_cases h1 : m ≤ 6
  · have d1 : decide ((m : Int) ≤ 6) = true := by simp; omega
    go_enter Tryz.func39, Tryz.ntmps39
    go_wp2_with (first
      | (refine wpListG_load (by rfl) 27 (.tmp 1) rfl w.heap.size rfl 27 (tkC a Ua um uc A m c) _ k1 Tryz.underlying27 rfl (tk_inf a Ua um uc A m c) ?_)
      | (refine HCN.out.mono ?_
         rintro e w1 ⟨rfl, bb⟩
         go_wp2_with fail))
    go_ret
    refine ⟨?_, B0.trans (bb.mono B0.size)⟩
    rw [decide_eq_true h1, Bool.true_and]
    by_cases h8 : tn ≤ 8
    · simp [h8]; omega
    · simp [h8]; omega
  · have d1 : decide ((m : Int) ≤ 6) = false := by simp; omega
    go_enter Tryz.func39, Tryz.ntmps39
    go_wp2_with fail
    go_ret
    refine ⟨?_, B0⟩
    rw [decide_eq_false h1]
    rfl
end Go.Proofs.YtlelhhgggnjndaaGreat
namespace Go.Proofs.YtlelhhgggnjndaaGreat
open Go.RowKit Go.Shelf
set_option linter.unusedVariables false
set_option linter.unusedSimpArgs false
theorem isnan_tk (x : Int) (w : World) : Calls Tryz.prog 120 #[.int .i64 x] w fun e w' => e = .returned (.bool false) ∧ w' = w := by
  go_enter Tryz.func120, Tryz.ntmps120
  go_wp2
  go_ret
  exact ⟨by simp, rfl⟩
def cmpZ (x y : Int) : Int := if x < y then -1 else if y < x then 1 else 0
theorem compare_tk (x y : Int) (w : World) : Calls Tryz.prog 93 #[.int .i64 x, .int .i64 y] w fun e w' => e = .returned (.int .i64 (cmpZ x y)) ∧ w' = w := by
  unfold cmpZ
  by_cases h1 : x < y
  · have d1 : decide (x < y) = true := decide_eq_true h1
    rw [if_pos h1]
    clear h1
    go_enter Tryz.func93, Tryz.ntmps93
    go_wp2_with (first | (refine (isnan_tk _ _).mono ?_; rintro e w' ⟨rfl, rfl⟩))
    go_ret
    exact ⟨rfl, rfl⟩
  · by_cases h2 : y < x
    · have d1 : decide (x < y) = false := decide_eq_false h1
      have d2 : decide (y < x) = true := decide_eq_true h2
      rw [if_neg h1, if_pos h2]
      clear h1 h2
      go_enter Tryz.func93, Tryz.ntmps93
      go_wp2_with (first | (refine (isnan_tk _ _).mono ?_; rintro e w' ⟨rfl, rfl⟩))
      go_ret
      exact ⟨rfl, rfl⟩
    · have d1 : decide (x < y) = false := decide_eq_false h1
      have d2 : decide (y < x) = false := decide_eq_false h2
      rw [if_neg h1, if_neg h2]
      clear h1 h2
      go_enter Tryz.func93, Tryz.ntmps93
      go_wp2_with (first | (refine (isnan_tk _ _).mono ?_; rintro e w' ⟨rfl, rfl⟩))
      go_ret
      exact ⟨rfl, rfl⟩
theorem wpListG_load_mid {P : Program} {ops : Array Oper} {rest : List Oper} {o : Oper} {a : Act} {w : World} {Q : Exit → Act → World → Prop} (hw : Region.wanted o (yielded ops a.tmps) = true) (ty : TypeId) (x : Operand) (ho : o.op = .load ty x)
    (g off : Nat) (hx : a.eval x = .pointer (some ⟨g, off, none⟩)) (cs : List Value) (d : TypeDesc) (hc : w.rangeAt g off cs) (hu : P.underlying ty = some d) (hd : d.isRow = true) (hi : (P.info? ty).map (·.size) = some cs.length)
    (h : wpList P ops Q rest (a.put o.dst (.agg cs.toArray)) w) : wpList P ops Q (o :: rest) a w :=
  wpListG_at hw fun _ hK => by
    have hr := run_loadVar_mid (P := P) w g off ty cs d hc hu hd hi
    unfold Oper.wp execOp
    simp only [ho, hx, Instr.loadAt, Instr.sureAddr, Sem.run_bind, Sem.run_pure, Result.andThen_ok, hr]
    exact hK _ _ h
theorem less_at {l : List Int} {x : Int} {i : Nat} (hi : i ≤ l.length) (h1 : ∀ k, k < i → l.getD k 0 < x) (h2 : ∀ k, i ≤ k → k < l.length → x ≤ l.getD k 0) : lessP l x = i := by
  have e : l = l.take i ++ l.drop i := (List.take_append_drop i l).symm
  unfold lessP
  rw [e, List.countP_append]
  have ha : (l.take i).countP (fun y => decide (y < x)) = (l.take i).length := by
    rw [List.countP_eq_length]
    intro y hy
    obtain ⟨k, hk, rfl⟩ := List.getElem_of_mem hy
    rw [List.length_take] at hk
    have := h1 k (by omega)
    rw [List.getElem_take]
    simpa [List.getD, show k < l.length by omega] using this
  have hb : (l.drop i).countP (fun y => decide (y < x)) = 0 := by
    rw [List.countP_eq_zero]
    intro y hy
    obtain ⟨k, hk, rfl⟩ := List.getElem_of_mem hy
    rw [List.length_drop] at hk
    have := h2 (i + k) (by omega) (by omega)
    rw [List.getElem_drop]
    simpa [List.getD, show i + k < l.length by omega] using this
  rw [ha, hb, List.length_take]
  omega
theorem up_getD {l : List Int} (h : l.Pairwise (· < ·)) {j k : Nat} (hj : j < k) (hk : k < l.length) : l.getD j 0 < l.getD k 0 := by
  have := List.pairwise_iff_getElem.1 h j k (by omega) hk hj
  simpa [List.getD, hk, show j < l.length by omega] using this
end Go.Proofs.YtlelhhgggnjndaaGreat
namespace Go.Proofs.YtlelhhgggnjndaaGreat
open Go.RowKit Go.Shelf
set_option linter.unusedVariables false
set_option linter.unusedSimpArgs false
theorem place1_tk (x : Pw) (pid : Int) (w : World) : Calls Tryz.prog 92 #[prV x, .int .i64 pid] w fun e w' => e = .returned (.int .i64 (cmpZ x.1.i pid)) ∧ Below w.heap.size w w' := by
  have k1 := Blk.new w (prC x) 49
  have B0 := (Below.refl w.heap.size w).alloc (Nat.le_refl _) (.cells (prC x) 49)
  have q0 : (w.alloc (.cells (prC x) 49)).cell? ⟨w.heap.size, 0, none⟩ = some (.int .i64 x.1.i) := k1.cell 0
  clear k1
  unfold prV
  go_enter Tryz.func92, Tryz.ntmps92
  go_wp2_with (first | (refine (compare_tk _ _ _).mono ?_; rintro e w' ⟨rfl, rfl⟩))
  go_ret
  exact ⟨rfl, B0⟩
theorem ended_tk (x : Pw) (w : World) : Calls Tryz.prog 69 #[prV x] w fun e w' => e = .returned (.bool (x.1.t.length == 0)) ∧ Below w.heap.size w w' := by
  have k1 := Blk.new w (prC x) 49
  have B0 := (Below.refl w.heap.size w).alloc (Nat.le_refl _) (.cells (prC x) 49)
  have q0 : (w.alloc (.cells (prC x) 49)).cell? ⟨w.heap.size, 2, none⟩ = some (.slice x.2.1 x.1.t.length x.2.2) := k1.cell 2
  clear k1
  unfold prV
  have key : ((x.1.t.length : Int) == 0) = (x.1.t.length == 0) := by
    cases x.1.t.length with
    | zero => rfl
    | succ n => exact (beq_false_of_ne (by omega)).trans (beq_false_of_ne (by omega)).symm
  generalize x.1.t.length = n at *
  cases hn : (n == 0)
  · rw [hn] at key
    go_enter Tryz.func69, Tryz.ntmps69
    go_wp2
    go_ret
    exact ⟨rfl, B0⟩
  · rw [hn] at key
    go_enter Tryz.func69, Tryz.ntmps69
    go_wp2
    go_ret
    exact ⟨rfl, B0⟩
def idsP (L : List Pw) : List Int := L.map (·.1.i)
theorem idsP_getD {L : List Pw} {k : Nat} (hk : k < L.length) : (idsP L).getD k 0 = (L.getD k pw0).1.i := by simp [idsP, List.getD, hk]
set_option maxRecDepth 100000 in
set_option maxHeartbeats 4000000 in
theorem bsf_any (A : Option Addr) (m c : Nat) (L : List Pw) (pid : Int) (w : World) (hP : Ps w w.heap.size A L) (hm : m = L.length) (h6 : m ≤ 1000000) (hu : (idsP L).Pairwise (· < ·)) :
    Calls Tryz.prog 91 #[.slice A m c, .int .i64 pid, .func (.func 92) #[] #[]] w fun e w' => e = .returned (.tuple #[.int .i64 (lessP (idsP L) pid), .bool ((idsP L).contains pid)]) ∧ Below w.heap.size w w' := by
  have HM := Lib.hid hm
  have HU := Lib.hid hu
  have hli : (idsP L).length = m := by rw [hm]; simp [idsP]
  have HLI := Lib.hid hli
  clear hm hu hli
  obtain ⟨R, hR⟩ : ∃ R, lessP (idsP L) pid = R := ⟨_, rfl⟩
  obtain ⟨CT, hCT⟩ : ∃ R, (idsP L).contains pid = R := ⟨_, rfl⟩
  rw [hR, hCT]
  have HR := Lib.hid hR
  have HC := Lib.hid hCT
  clear hR hCT
  go_enter Tryz.func91, Tryz.ntmps91
  go_wp2_with fail
  go_loopw [9, 10] (fun iv jv wr' => ∃ (i j : Nat) (wr : World), wr = wr' ∧ i ≤ j ∧ j ≤ m ∧ iv = .int .i64 i ∧ jv = .int .i64 j ∧ Hid (∀ k, k < i → (idsP L).getD k 0 < pid) ∧ Hid (∀ k, j ≤ k → k < m → pid ≤ (idsP L).getD k 0) ∧ Below w.heap.size w wr) (fun iv jv _ => (intOf jv).toNat - (intOf iv).toNat)
  case atStart => exact ⟨0, m, _, rfl, Nat.zero_le _, Nat.le_refl _, rfl, rfl, Lib.hid (fun k hk => absurd hk (Nat.not_lt_zero k)), Lib.hid (fun k h1 h2 => absurd h1 (by omega)), Below.refl _ _⟩
  case round =>
    obtain ⟨i, j, wr, hwr, hij, hjm, rfl, rfl, H1, H2, hB⟩ := hrel
    subst hwr
    by_cases hlt : i < j
    · have hlt' : (i : Int) < (j : Int) := by omega
      obtain ⟨h, hh⟩ : ∃ h : Nat, h = (i + j) / 2 := ⟨_, rfl⟩
      have hb1 : i ≤ h := by omega
      have hb2 : h < j := by omega
      have HH := Lib.hid hh
      clear hh
      have hmid : ((i : Int) + (j : Int)) / 2 = (h : Int) := by have := HH.out; omega
      have hlm : (h : Int) < (m : Int) := by omega
      have hhl : h < L.length := by have := HM.out; omega
      obtain ⟨b, off, rfl, hb, hc⟩ := (hP.below hB (Nat.le_refl _)).at_ h hhl
      have hgd := idsP_getD hhl
      have HGD := Lib.hid hgd
      clear hgd
      generalize L.getD h pw0 = x at hc HGD
      have PL := Lib.hid (place1_tk x pid wr)
      unfold prV at PL
      by_cases hx : x.1.i < pid
      · have hcv : cmpZ x.1.i pid = -1 := by unfold cmpZ; rw [if_pos hx]
        rw [hcv] at PL
        have HX := Lib.hid hx
        clear hcv hx
        go_wp2_with (first
          | (refine wpList_load_mid rfl 49 (.tmp 27) rfl b (off + h * 3) rfl (prC x).toList _ hc Tryz.underlying49 rfl (pr_infL x) ?_)
          | (refine PL.out.mono ?_
             clear PL
             rintro e w1 ⟨rfl, bb⟩
             go_wp2_with fail))
        go_roundw
        case rel =>
          refine ⟨h + 1, j, _, rfl, by omega, hjm, by go_num, rfl, Lib.hid (fun k hk => ?_), H2, hB.trans (bb.mono hB.size)⟩
          rcases Nat.lt_succ_iff_lt_or_eq.1 hk with h3 | rfl
          · have := up_getD HU.out h3 (by rw [HLI.out]; omega)
            have h4 := HGD.out
            have h5 := HX.out
            omega
          · have h4 := HGD.out
            have h5 := HX.out
            omega
        case measure => simp [intOf]; omega
      · have hcv : ¬ cmpZ x.1.i pid < 0 := by unfold cmpZ; rw [if_neg hx]; split <;> omega
        have hcd : decide (cmpZ x.1.i pid < 0) = false := decide_eq_false hcv
        generalize cmpZ x.1.i pid = cz at PL hcd
        have HX := Lib.hid hx
        clear hcv hx
        go_wp2_with (first
          | (refine wpList_load_mid rfl 49 (.tmp 27) rfl b (off + h * 3) rfl (prC x).toList _ hc Tryz.underlying49 rfl (pr_infL x) ?_)
          | (refine PL.out.mono ?_
             clear PL
             rintro e w1 ⟨rfl, bb⟩
             go_wp2_with fail))
        go_roundw
        case rel =>
          refine ⟨i, h, _, rfl, hb1, by omega, rfl, rfl, H1, Lib.hid (fun k h3 h4 => ?_), hB.trans (bb.mono hB.size)⟩
          have h5 := HGD.out
          have h6 := HX.out
          rcases Nat.lt_or_ge h k with h7 | h7
          · have := up_getD HU.out h7 (by rw [HLI.out]; omega)
            omega
          · obtain rfl : k = h := by omega
            omega
        case measure => simp [intOf]; omega
    · obtain rfl : i = j := by omega
      have hl0 : lessP (idsP L) pid = i := less_at (by rw [HLI.out]; exact hjm) H1.out (fun k h1 h2 => H2.out k h1 (by rw [← HLI.out]; exact h2))
      have HL0 := Lib.hid hl0
      clear hl0
      by_cases him : i < m
      · have him' : (i : Int) < (m : Int) := by omega
        have hil : i < L.length := by have := HM.out; omega
        obtain ⟨b, off, rfl, hb, hc⟩ := (hP.below hB (Nat.le_refl _)).at_ i hil
        have hgd := idsP_getD hil
        have HGD := Lib.hid hgd
        clear hgd
        generalize L.getD i pw0 = x at hc HGD
        have PL := Lib.hid (place1_tk x pid wr)
        unfold prV at PL
        have hct : (idsP L).contains pid = (cmpZ x.1.i pid == 0) := by
          have h5 := HGD.out
          have h2 := H2.out i (Nat.le_refl _) him
          rw [h5] at h2
          unfold cmpZ
          rw [if_neg (by omega)]
          by_cases hx : pid < x.1.i
          · rw [if_pos hx]
            have hn : pid ∉ idsP L := fun hmem => by
              obtain ⟨k, hk, e⟩ := List.getElem_of_mem hmem
              have e2 : (idsP L).getD k 0 = pid := by simpa [List.getD, hk] using e
              rw [HLI.out] at hk
              rcases Nat.lt_trichotomy k i with h3 | h3 | h3
              · have := H1.out k h3; omega
              · rw [h3, h5] at e2; omega
              · have := up_getD HU.out h3 (by rw [HLI.out]; exact hk); omega
            simpa using hn
          · rw [if_neg hx]
            have e : pid = (idsP L).getD i 0 := by omega
            have hmem : pid ∈ idsP L := by
              rw [e]
              have hk : i < (idsP L).length := by rw [HLI.out]; exact him
              rw [show (idsP L).getD i 0 = (idsP L)[i] by simp [List.getD, hk]]
              exact List.getElem_mem hk
            simpa using hmem
        generalize cmpZ x.1.i pid = cz at PL hct
        have HCT := Lib.hid hct
        clear hct
        go_wp2_with (first
          | (refine wpListG_load_mid (by rfl) 49 (.tmp 43) rfl b (off + i * 3) rfl (prC x).toList _ hc Tryz.underlying49 rfl (pr_infL x) ?_)
          | (refine PL.out.mono ?_
             clear PL
             rintro e w1 ⟨rfl, bb⟩
             go_wp2_with fail))
        refine bodyPost_ret (results_tmp2 rfl _ _ _) rfl ?_
        exact ⟨by rw [← HR.out, HL0.out, ← HC.out, HCT.out]; cases (cz == 0) <;> rfl, hB.trans (bb.mono hB.size)⟩
      · have him' : decide ((i : Int) < (m : Int)) = false := by simp; omega
        have hct : (idsP L).contains pid = false := by
          have hn : pid ∉ idsP L := fun hmem => by
            obtain ⟨k, hk, e⟩ := List.getElem_of_mem hmem
            have e2 : (idsP L).getD k 0 = pid := by simpa [List.getD, hk] using e
            rw [HLI.out] at hk
            have := H1.out k (by omega)
            omega
          simpa using hn
        have HCT := Lib.hid hct
        clear hct
        go_wp2_with fail
        refine bodyPost_ret (results_tmp2 rfl _ _ _) rfl ?_
        exact ⟨by rw [← HR.out, HL0.out, ← HC.out, HCT.out]; rfl, hB⟩
set_option maxRecDepth 100000 in
theorem place_tk (a : Int) (Ua : Option Addr) (um uc : Nat) (A : Option Addr) (m c : Nat) (L : List Pw) (pid : Int) (w : World) (hP : Ps w w.heap.size A L) (hm : m = L.length) (h6 : m ≤ 1000000) (hu : (idsP L).Pairwise (· < ·)) :
    Calls Tryz.prog 61 #[tkV a Ua um uc A m c, .int .i64 pid] w fun e w' => e = .returned (.tuple #[.int .i64 (lessP (idsP L) pid), .bool ((idsP L).contains pid)]) ∧ Below w.heap.size w w' := by
  have k1 := Blk.new w (tkC a Ua um uc A m c) 27
  have B0 := (Below.refl w.heap.size w).alloc (Nat.le_refl _) (.cells (tkC a Ua um uc A m c) 27)
  have q2 : (w.alloc (.cells (tkC a Ua um uc A m c) 27)).cell? ⟨w.heap.size, 2, none⟩ = some (.slice A m c) := k1.cell 2
  have BS := Lib.hid (bsf_any A m c L pid _ ((hP.below B0 (Nat.le_refl _)).more B0.size) hm h6 hu)
  generalize lessP (idsP L) pid = k at BS ⊢
  generalize (idsP L).contains pid = ct at BS ⊢
  clear hm hu k1
  unfold tkV
  go_enter Tryz.func61, Tryz.ntmps61
  go_wp2_with (first | (refine BS.out.mono ?_; rintro e w1 ⟨rfl, bb⟩))
  refine bodyPost_ret (results_tmp2 rfl _ _ _) rfl ?_
  exact ⟨rfl, B0.trans (bb.mono B0.size)⟩
end Go.Proofs.YtlelhhgggnjndaaGreat
