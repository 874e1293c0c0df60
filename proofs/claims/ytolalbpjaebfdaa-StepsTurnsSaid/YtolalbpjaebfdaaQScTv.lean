/-
  Plain: whose a lock is and who waits for it, behind Take, Give and End.
-/
import Derived.Test.YtolalbpjaebfdaaQScGo
import Derived.Test.YtolalbpjaebfdaaQScLc
import Derived.Test.YtolalbpjaebfdaaQScEn
import Derived.Test.YtolalbpjaebfdaaQScRs
import Derived.Test.YtolalbpjaebfdaaQScLe
import Derived.Test.YtolalbpjaebfdaaRows
import Derived.WalkKit
import Derived.OpenShut
import Derived.Lib.SmallJoins
import Derived.Deep.Slices
import Derived.Deep.Strs
import Derived.ChangeArms
import Derived.ChangeSlices
import Derived.ChangeSame
namespace Go.Proofs.Ytolalbpjaebfdaa
open Go.RowKit Go.Shelf
set_option linter.unusedVariables false
set_option linter.unusedSimpArgs false
section
variable {α : Type} (num : α → Int)
theorem mem_insL {k : Nat} {x z : α} {L : List α} : z ∈ insL k x L ↔ z = x ∨ z ∈ L := by
  unfold insL
  constructor
  · intro h
    simp only [List.mem_append, List.mem_cons, List.mem_singleton] at h
    rcases h with h | h | h
    all_goals first
      | exact .inl h
      | exact .inr (List.mem_of_mem_take h)
      | exact .inr (List.mem_of_mem_drop h)
      | (rcases h with h | h
         · first | exact .inl h | exact .inr (List.mem_of_mem_take h)
         · first | exact .inl h | exact .inr (List.mem_of_mem_drop h))
  · intro h
    simp only [List.mem_append, List.mem_cons, List.mem_singleton]
    rcases h with h | h
    · simp [h]
    · rw [← List.take_append_drop k L, List.mem_append] at h
      rcases h with h | h <;> simp [h]
theorem rise_ins (x : α) : ∀ {L : List α}, (L.map num).Pairwise (· < ·) → (L.map num).contains (num x) = false → ((insL (lessP (L.map num) (num x)) x L).map num).Pairwise (· < ·)
  | [], _, _ => by show (List.map num [x]).Pairwise _; simp
  | y :: L, hu, hc => by
    have hu' := hu
    rw [List.map_cons, List.pairwise_cons] at hu
    have hne : num x ≠ num y := fun e => by
      have : (num x) ∈ (y :: L).map num := by rw [e]; exact List.mem_cons_self ..
      rw [← List.contains_iff_mem, hc] at this
      cases this
    have hc2 : (L.map num).contains (num x) = false := by
      rw [List.map_cons, List.contains_cons] at hc
      exact (Bool.or_eq_false_iff.1 hc).2
    by_cases h1 : num x < num y
    · have hl : lessP ((y :: L).map num) (num x) = 0 := by rw [List.map_cons]; exact less_cons0 (by rw [← List.map_cons]; exact hu') (Int.le_of_lt h1)
      rw [hl]
      show (List.map num (x :: y :: L)).Pairwise _
      rw [List.map_cons, List.pairwise_cons]
      refine ⟨fun z hz => ?_, hu'⟩
      rw [List.map_cons] at hz
      rcases List.mem_cons.1 hz with rfl | hz
      · exact h1
      · have := hu.1 z hz; omega
    · have hl : lessP ((y :: L).map num) (num x) = lessP (L.map num) (num x) + 1 := by rw [List.map_cons]; exact less_consLt (by omega)
      rw [hl]
      show (List.map num (y :: insL (lessP (L.map num) (num x)) x L)).Pairwise _
      rw [List.map_cons, List.pairwise_cons]
      refine ⟨fun z hz => ?_, rise_ins x hu.2 hc2⟩
      obtain ⟨v, hv, rfl⟩ := List.mem_map.1 hz
      rcases mem_insL.1 hv with rfl | hv
      · omega
      · exact hu.1 _ (List.mem_map.2 ⟨v, hv, rfl⟩)
end
def Up13 (R : List Rn) (K : List Kn) : Prop := ∀ x ∈ R, x.s = 1 → ∀ y ∈ K, y.o = x.i → y.n < x.n
theorem setR_two {R : List Rn} (hu : UpR R) {x : Rn} (hc : (numsR R).contains x.i = true) : UpR (R.set (lessP (numsR R) x.i) x) ∧ ∀ z, z ∈ R.set (lessP (numsR R) x.i) x ↔ z = x ∨ (z ∈ R ∧ z.i ≠ x.i) := rise_set numR hu rn0 hc
theorem contR {R : List Rn} {x : Rn} (hx : x ∈ R) : (numsR R).contains x.i = true := List.contains_iff_mem.2 (List.mem_map.2 ⟨x, hx, rfl⟩)
theorem contK {K : List Kn} {y : Kn} (hy : y ∈ K) : (K.map (·.n)).contains y.n = true := List.contains_iff_mem.2 (List.mem_map.2 ⟨y, hy, rfl⟩)
theorem Good.takeNew {R : List Rn} {K : List Kn} (g : Good R K) {x : Rn} {n : Int} (hx : x ∈ R) (hs : x.s = 0) (hn : 1 ≤ n ∧ n ≤ 40) (hc : (K.map (·.n)).contains n = false) : Good R (insL (lessP (K.map (·.n)) n) ⟨n, x.i, []⟩ K) ∧ (Up13 R K → Up13 R (insL (lessP (K.map (·.n)) n) ⟨n, x.i, []⟩ K)) := by
  have hm : ∀ z, z ∈ insL (lessP (K.map (·.n)) n) (⟨n, x.i, []⟩ : Kn) K ↔ z = ⟨n, x.i, []⟩ ∨ z ∈ K := fun z => mem_insL
  refine ⟨⟨g.len, g.ur, g.rb, rise_ins (fun y : Kn => y.n) (⟨n, x.i, []⟩ : Kn) g.uk hc, fun y hy => ?_, g.st, fun y hy => ?_, fun y hy => ?_, fun y hy => ?_, fun y hy i hi => ?_, fun z hz h1 => ?_⟩, fun u z hz h1 y hy ho => ?_⟩
  · rcases (hm y).1 hy with rfl | hy
    · exact hn
    · exact g.kb y hy
  · rcases (hm y).1 hy with rfl | hy
    · exact ⟨x, hx, rfl, by omega⟩
    · exact g.ow y hy
  · rcases (hm y).1 hy with rfl | hy
    · exact List.not_mem_nil
    · exact g.oq y hy
  · rcases (hm y).1 hy with rfl | hy
    · exact List.nodup_nil
    · exact g.nd y hy
  · rcases (hm y).1 hy with rfl | hy
    · cases hi
    · exact g.qs y hy i hi
  · obtain ⟨y, hy, h2⟩ := g.wt z hz h1
    exact ⟨y, (hm y).2 (.inr hy), h2⟩
  · rcases (hm y).1 hy with rfl | hy
    · have := uniqR g.ur hx hz ho
      rw [this] at hs; omega
    · exact u z hz h1 y hy ho
theorem Good.takeWait {R : List Rn} {K : List Kn} (g : Good R K) {x : Rn} {y : Kn} (hx : x ∈ R) (hs : x.s = 0) (hy : y ∈ K) (hne : y.o ≠ x.i) :
    Good (R.set (lessP (numsR R) x.i) ⟨x.i, 1, y.n⟩) (K.set (lessP (K.map (·.n)) y.n) ⟨y.n, y.o, y.q ++ [x.i]⟩) ∧ (Up13 R K → (∀ z ∈ K, z.o = x.i → z.n < y.n) → Up13 (R.set (lessP (numsR R) x.i) ⟨x.i, 1, y.n⟩) (K.set (lessP (K.map (·.n)) y.n) ⟨y.n, y.o, y.q ++ [x.i]⟩)) := by
  obtain ⟨r1, r2⟩ := setR_two (x := ⟨x.i, 1, y.n⟩) g.ur (show (numsR R).contains x.i = true from contR hx)
  obtain ⟨k1, k2⟩ := rise_set (fun z : Kn => z.n) g.uk kn0 (x := ⟨y.n, y.o, y.q ++ [x.i]⟩) (show (K.map (·.n)).contains y.n = true from contK hy)
  have hnq : ∀ z ∈ K, x.i ∉ z.q := fun z hz hi => by
    have := uniqR g.ur (g.qs z hz x.i hi) hx rfl
    rw [← this] at hs; cases hs
  have hR : ∀ z ∈ R, z.i ≠ x.i → z ∈ R.set (lessP (numsR R) x.i) ⟨x.i, 1, y.n⟩ := fun z hz h => (r2 z).2 (.inr ⟨hz, h⟩)
  have hN : (⟨x.i, 1, y.n⟩ : Rn) ∈ R.set (lessP (numsR R) x.i) ⟨x.i, 1, y.n⟩ := (r2 _).2 (.inl rfl)
  refine ⟨⟨by rw [List.length_set]; exact g.len, r1, fun z hz => ?_, k1, fun z hz => ?_, fun z hz => ?_, fun z hz => ?_, fun z hz => ?_, fun z hz => ?_, fun z hz i hi => ?_, fun z hz h1 => ?_⟩, fun u hb z hz h1 v hv ho => ?_⟩
  · rcases (r2 z).1 hz with rfl | hz
    · exact g.rb x hx
    · exact g.rb z hz.1
  · rcases (k2 z).1 hz with rfl | hz
    · exact g.kb y hy
    · exact g.kb z hz.1
  · rcases (r2 z).1 hz with rfl | hz
    · exact ⟨by show (0 : Int) ≤ 1; decide, by show (1 : Int) ≤ 2; decide, fun h => absurd rfl h⟩
    · exact g.st z hz.1
  · have h9 : ∃ v ∈ R, v.i = z.o ∧ v.s ≠ 2 := by
      rcases (k2 z).1 hz with rfl | hz
      · exact g.ow y hy
      · exact g.ow z hz.1
    obtain ⟨v, hv, ho, h2⟩ := h9
    by_cases e : v.i = x.i
    · exact ⟨_, hN, by rw [← ho, e], by show (1 : Int) ≠ 2; decide⟩
    · exact ⟨v, hR v hv e, ho, h2⟩
  · rcases (k2 z).1 hz with rfl | hz
    · simp only [List.mem_append, List.mem_singleton, not_or]
      exact ⟨g.oq y hy, hne⟩
    · exact g.oq z hz.1
  · rcases (k2 z).1 hz with rfl | hz
    · simp only [List.nodup_append]
      exact ⟨g.nd y hy, by simp, fun a ha b hb e => hnq y hy (by rw [List.mem_singleton] at hb; rw [← hb, ← e]; exact ha)⟩
    · exact g.nd z hz.1
  · rcases (k2 z).1 hz with rfl | hz
    · rcases List.mem_append.1 hi with hi | hi
      · exact hR _ (g.qs y hy i hi) (fun e => hnq y hy (by rw [← show i = x.i from e]; exact hi))
      · rw [List.mem_singleton.1 hi]; exact hN
    · exact hR _ (g.qs z hz.1 i hi) (fun e => hnq z hz.1 (by rw [← show i = x.i from e]; exact hi))
  · rcases (r2 z).1 hz with rfl | hz
    · exact ⟨_, (k2 _).2 (.inl rfl), rfl, List.mem_append_right _ (List.mem_singleton.2 rfl)⟩
    · obtain ⟨v, hv, hvn, hvq⟩ := g.wt z hz.1 h1
      by_cases e : v.n = y.n
      · have := uniq (fun z : Kn => z.n) g.uk hv hy e
        subst this
        exact ⟨_, (k2 _).2 (.inl rfl), hvn, List.mem_append_left _ hvq⟩
      · exact ⟨v, (k2 v).2 (.inr ⟨hv, e⟩), hvn, hvq⟩
  · have h9 : ∃ v' ∈ K, v'.o = v.o ∧ v'.n = v.n := by
      rcases (k2 v).1 hv with rfl | hv
      · exact ⟨y, hy, rfl, rfl⟩
      · exact ⟨v, hv.1, rfl, rfl⟩
    obtain ⟨v', hv', e1, e2⟩ := h9
    rcases (r2 z).1 hz with rfl | hz
    · rw [← e2]; exact hb v' hv' (by rw [e1, ho])
    · rw [← e2]; exact u z hz.1 h1 v' hv' (by rw [e1, ho])
theorem Good.give {R : List Rn} {K : List Kn} (g : Good R K) {x : Kn} (hx : x ∈ K) : Good (giveN R K x.n).1 (giveN R K x.n).2 ∧ (Up13 R K → Up13 (giveN R K x.n).1 (giveN R K x.n).2) := by
  have h1 := at_mem (fun y : Kn => y.n) g.uk kn0 hx
  unfold giveN
  rw [h1]
  rcases hq : x.q with _ | ⟨h, t⟩
  · obtain ⟨k1, k2⟩ := rise_del (fun y : Kn => y.n) g.uk (contK hx)
    simp only
    have hs : ∀ {z : Kn}, z ∈ delL (lessP (K.map (·.n)) x.n) K → z ∈ K := fun hz => ((k2 _).1 hz).1
    refine ⟨⟨g.len, g.ur, g.rb, k1, fun y hy => g.kb y (hs hy), g.st, fun y hy => g.ow y (hs hy), fun y hy => g.oq y (hs hy), fun y hy => g.nd y (hs hy), fun y hy => g.qs y (hs hy), fun z hz hz1 => ?_⟩, fun u z hz hz1 y hy => u z hz hz1 y (hs hy)⟩
    obtain ⟨y, hy, hyn, hyq⟩ := g.wt z hz hz1
    refine ⟨y, (k2 y).2 ⟨hy, fun e => ?_⟩, hyn, hyq⟩
    have := uniq (fun y : Kn => y.n) g.uk hy hx e
    rw [this, hq] at hyq
    cases hyq
  · simp only
    have hh : (⟨h, 1, x.n⟩ : Rn) ∈ R := g.qs x hx h (by rw [hq]; exact List.mem_cons_self ..)
    obtain ⟨r1, r2⟩ := setR_two (x := ⟨h, 0, 0⟩) g.ur (show (numsR R).contains h = true from contR hh)
    obtain ⟨k1, k2⟩ := rise_set (fun z : Kn => z.n) g.uk kn0 (x := ⟨x.n, h, t⟩) (show (K.map (·.n)).contains x.n = true from contK hx)
    have hnd := g.nd x hx
    rw [hq, List.nodup_cons] at hnd
    have hR : ∀ z ∈ R, z.i ≠ h → z ∈ R.set (lessP (numsR R) h) ⟨h, 0, 0⟩ := fun z hz e => (r2 z).2 (.inr ⟨hz, e⟩)
    have hN : (⟨h, 0, 0⟩ : Rn) ∈ R.set (lessP (numsR R) h) ⟨h, 0, 0⟩ := (r2 _).2 (.inl rfl)
    have hot : ∀ z ∈ K, z.n ≠ x.n → h ∉ z.q := fun z hz hne hi => hne (congrArg Rn.n (uniqR g.ur (g.qs z hz h hi) hh rfl))
    refine ⟨⟨by rw [List.length_set]; exact g.len, r1, fun z hz => ?_, k1, fun z hz => ?_, fun z hz => ?_, fun z hz => ?_, fun z hz => ?_, fun z hz => ?_, fun z hz i hi => ?_, fun z hz hz1 => ?_⟩, fun u z hz hz1 v hv ho => ?_⟩
    · rcases (r2 z).1 hz with rfl | hz
      · exact g.rb (⟨h, 1, x.n⟩ : Rn) hh
      · exact g.rb z hz.1
    · rcases (k2 z).1 hz with rfl | hz
      · exact g.kb x hx
      · exact g.kb z hz.1
    · rcases (r2 z).1 hz with rfl | hz
      · exact ⟨by show (0 : Int) ≤ 0; decide, by show (0 : Int) ≤ 2; decide, fun _ => rfl⟩
      · exact g.st z hz.1
    · rcases (k2 z).1 hz with rfl | hz
      · exact ⟨_, hN, rfl, by show (0 : Int) ≠ 2; decide⟩
      · obtain ⟨v, hv, ho, h2⟩ := g.ow z hz.1
        by_cases e : v.i = h
        · exact ⟨_, hN, by rw [← ho, e], by show (0 : Int) ≠ 2; decide⟩
        · exact ⟨v, hR v hv e, ho, h2⟩
    · rcases (k2 z).1 hz with rfl | hz
      · exact hnd.1
      · exact g.oq z hz.1
    · rcases (k2 z).1 hz with rfl | hz
      · exact hnd.2
      · exact g.nd z hz.1
    · rcases (k2 z).1 hz with rfl | hz
      · exact hR _ (g.qs x hx i (by rw [hq]; exact List.mem_cons_of_mem _ hi)) (fun e => hnd.1 (by rw [← show i = h from e]; exact hi))
      · exact hR _ (g.qs z hz.1 i hi) (fun e => hot z hz.1 hz.2 (by rw [← show i = h from e]; exact hi))
    · rcases (r2 z).1 hz with rfl | hz
      · cases hz1
      · obtain ⟨y, hy, hyn, hyq⟩ := g.wt z hz.1 hz1
        by_cases e : y.n = x.n
        · have := uniq (fun y : Kn => y.n) g.uk hy hx e
          subst this
          rw [hq] at hyq
          rcases List.mem_cons.1 hyq with e2 | hyq
          · exact absurd e2 hz.2
          · exact ⟨_, (k2 _).2 (.inl rfl), hyn, hyq⟩
        · exact ⟨y, (k2 y).2 (.inr ⟨hy, e⟩), hyn, hyq⟩
    · rcases (r2 z).1 hz with rfl | hz
      · cases hz1
      · rcases (k2 v).1 hv with rfl | hv
        · exact absurd ho.symm hz.2
        · exact u z hz.1 hz1 v hv.1 ho
theorem Good.over {R : List Rn} {K : List Kn} (g : Good R K) {x : Rn} (hx : x ∈ R) (hs : x.s = 0) (hno : ∀ y ∈ K, y.o ≠ x.i) : Good (R.set (lessP (numsR R) x.i) ⟨x.i, 2, 0⟩) K ∧ (Up13 R K → Up13 (R.set (lessP (numsR R) x.i) ⟨x.i, 2, 0⟩) K) := by
  obtain ⟨r1, r2⟩ := setR_two (x := ⟨x.i, 2, 0⟩) g.ur (show (numsR R).contains x.i = true from contR hx)
  have hR : ∀ z ∈ R, z.i ≠ x.i → z ∈ R.set (lessP (numsR R) x.i) ⟨x.i, 2, 0⟩ := fun z hz h => (r2 z).2 (.inr ⟨hz, h⟩)
  have hnq : ∀ z ∈ K, x.i ∉ z.q := fun z hz hi => by
    have := uniqR g.ur (g.qs z hz x.i hi) hx rfl
    rw [← this] at hs; cases hs
  refine ⟨⟨by rw [List.length_set]; exact g.len, r1, fun z hz => ?_, g.uk, g.kb, fun z hz => ?_, fun z hz => ?_, g.oq, g.nd, fun z hz i hi => ?_, fun z hz h1 => ?_⟩, fun u z hz h1 v hv ho => ?_⟩
  · rcases (r2 z).1 hz with rfl | hz
    · exact g.rb x hx
    · exact g.rb z hz.1
  · rcases (r2 z).1 hz with rfl | hz
    · exact ⟨by show (0 : Int) ≤ 2; decide, by show (2 : Int) ≤ 2; decide, fun _ => rfl⟩
    · exact g.st z hz.1
  · obtain ⟨v, hv, ho, h2⟩ := g.ow z hz
    exact ⟨v, hR v hv (fun e => hno z hz (by rw [← ho, e])), ho, h2⟩
  · exact hR _ (g.qs z hz i hi) (fun e => hnq z hz (by rw [← show i = x.i from e]; exact hi))
  · rcases (r2 z).1 hz with rfl | hz
    · cases h1
    · exact g.wt z hz.1 h1
  · rcases (r2 z).1 hz with rfl | hz
    · cases h1
    · exact u z hz.1 h1 v hv ho
theorem up_ready {R : List Rn} {K : List Kn} (g : Good R K) (u : Up13 R K) : ∀ (j : Nat) (x : Rn), x ∈ R → x.s = 1 → (40 : Int) < x.n + j → ∃ z ∈ R, z.s = 0
  | 0, x, hx, hs, hj => by
    obtain ⟨y, hy, hyn, _⟩ := g.wt x hx hs
    have := g.kb y hy
    omega
  | j + 1, x, hx, hs, hj => by
    obtain ⟨y, hy, hyn, _⟩ := g.wt x hx hs
    obtain ⟨z, hz, ho, h2⟩ := g.ow y hy
    by_cases h0 : z.s = 0
    · exact ⟨z, hz, h0⟩
    · have h1 : z.s = 1 := by have := g.st z hz; omega
      have := u z hz h1 y hy ho.symm
      exact up_ready g u j z hz h1 (by omega)
end Go.Proofs.Ytolalbpjaebfdaa
namespace Go.Proofs.Ytolalbpjaebfdaa
open Go.RowKit Go.Shelf
set_option linter.unusedVariables false
set_option linter.unusedSimpArgs false
def hasN (K : List Kn) (n : Int) : Bool := (K.find? (fun x => x.n == n)).isSome
theorem fndK_has (L : List Kw) (n : Int) : (fndK L n).2 = hasN (L.map (·.1)) n := by
  unfold fndK lockF hasN
  induction L with
  | nil => rfl
  | cons x L ih =>
    rw [List.map_cons, List.find?_cons, List.find?_cons]
    cases h : (x.1.n == n)
    · exact ih
    · rfl
def passUp (id : Int) (r : List Rn × List Kn) : Nat → List Rn × List Kn
  | 0 => r
  | j + 1 => if (hasN (passUp id r j).2 ((j : Int) + 1) && (fndN (passUp id r j).2 ((j : Int) + 1)).o == id) = true then passN (passUp id r j).1 (passUp id r j).2 ((j : Int) + 1) else passUp id r j
theorem Zo.base {w : World} {B m c : Nat} {A : Option Addr} {l : List Int} (h : Zo w B A m c l) {a : Addr} (e : A = some a) : B ≤ a.block := by
  rcases h.form with ⟨e2, _⟩ | ⟨g, e2, hb, _⟩
  · rw [e] at e2; cases e2
  · rw [e] at e2; cases e2; exact hb
structure EnW (w : World) (id : Int) (r0 : List Rn × List Kn) (wr : World) (j : Nat) (A : Option Addr) (m c : Nat) (R : List Rn) (A2 : Option Addr) (m2 c2 : Nat) (L : List Kw) : Prop where
  sc : Sc wr wr.heap.size A m c R A2 m2 c2 L
  av : Avd (fun g => g = w.heap.size ∨ g = w.heap.size + 1) A A2 R L
  e : (R, L.map (·.1)) = passUp id r0 j
  k3 : Blk wr w.heap.size (scC A m c A2 m2 c2) 25
  k6 : Blk wr (w.heap.size + 1) (scC none 0 0 none 0 0) 25
  b : Below w.heap.size w wr
  lr : R.length ≤ 100 + j
  lk : L.length ≤ 100 + j
theorem EnW.keep {w : World} {id : Int} {r0 : List Rn × List Kn} {wr w' : World} {j : Nat} {A : Option Addr} {m c : Nat} {R : List Rn} {A2 : Option Addr} {m2 c2 : Nat} {L : List Kw} (h : EnW w id r0 wr j A m c R A2 m2 c2 L) (b : Below wr.heap.size wr w') : EnW w id r0 w' j A m c R A2 m2 c2 L :=
  ⟨h.sc.on b, h.av, h.e, h.k3.below b h.k3.lt, h.k6.below b h.k6.lt, h.b.trans (b.mono h.b.size), h.lr, h.lk⟩
theorem EnW.no {w : World} {id : Int} {r0 : List Rn × List Kn} {wr : World} {j : Nat} {A : Option Addr} {m c : Nat} {R : List Rn} {A2 : Option Addr} {m2 c2 : Nat} {L : List Kw} (h : EnW w id r0 wr j A m c R A2 m2 c2 L) (hn : ((fndK L ((j : Int) + 1)).2 && (fndK L ((j : Int) + 1)).1.1.o == id) = false) : EnW w id r0 wr (j + 1) A m c R A2 m2 c2 L := by
  refine ⟨h.sc, h.av, ?_, h.k3, h.k6, h.b, by have := h.lr; omega, by have := h.lk; omega⟩
  rw [passUp, ← h.e]
  rw [fndK_has, fndK_N] at hn
  simp only
  rw [hn, if_neg (by simp)]
end Go.Proofs.Ytolalbpjaebfdaa
namespace Go.Proofs.Ytolalbpjaebfdaa
open Go.RowKit Go.Shelf
set_option linter.unusedVariables false
set_option linter.unusedSimpArgs false
theorem give_two {R : List Rn} {K : List Kn} (hu : (K.map (·.n)).Pairwise (· < ·)) {x : Kn} (hx : x ∈ K) : (((giveN R K x.n).2.map (·.n)).Pairwise (· < ·)) ∧ (∀ z, z ∈ (giveN R K x.n).2 ↔ (z ∈ K ∧ z.n ≠ x.n) ∨ ∃ h t, x.q = h :: t ∧ z = ⟨x.n, h, t⟩) ∧ (giveN R K x.n).1 = (match x.q with | [] => R | h :: _ => R.set (lessP (numsR R) h) ⟨h, 0, 0⟩) := by
  have hc : (K.map (·.n)).contains x.n = true := List.contains_iff_mem.2 (List.mem_map.2 ⟨x, hx, rfl⟩)
  have h1 := at_mem (fun y : Kn => y.n) hu kn0 hx
  unfold giveN
  rw [h1]
  rcases hq : x.q with _ | ⟨h, t⟩
  · obtain ⟨d1, d2⟩ := rise_del (fun y : Kn => y.n) hu hc
    refine ⟨d1, fun z => (d2 z).trans ⟨fun hz => .inl hz, fun hz => ?_⟩, rfl⟩
    rcases hz with hz | ⟨_, _, e, _⟩
    · exact hz
    · cases e
  · obtain ⟨d1, d2⟩ := rise_set (fun y : Kn => y.n) hu kn0 (x := ⟨x.n, h, t⟩) hc
    refine ⟨d1, fun z => (d2 z).trans ⟨fun hz => ?_, fun hz => ?_⟩, rfl⟩
    · rcases hz with hz | hz
      · exact .inr ⟨h, t, rfl, hz⟩
      · exact .inl hz
    · rcases hz with hz | ⟨h', t', e, hz⟩
      · exact .inr hz
      · cases e; exact .inl hz
theorem leave_two {K : List Kn} (hu : (K.map (·.n)).Pairwise (· < ·)) (id v : Int) : ((leaveN K id v).map (·.n)).Pairwise (· < ·) ∧ (∀ z, z ∈ leaveN K id v ↔ (z ∈ K ∧ z.n ≠ v) ∨ ∃ x ∈ K, x.n = v ∧ z = ⟨v, x.o, x.q.filter (fun z => !(z == id))⟩) := by
  unfold leaveN
  split
  · rename_i hc
    obtain ⟨h1, h2, h3⟩ := at_num (fun y : Kn => y.n) hu kn0 hc
    obtain ⟨d1, d2⟩ := rise_set (fun y : Kn => y.n) hu kn0 (x := ⟨v, (K.getD (lessP (K.map (·.n)) v) kn0).o, (K.getD (lessP (K.map (·.n)) v) kn0).q.filter (fun z => !(z == id))⟩) hc
    refine ⟨d1, fun z => (d2 z).trans ⟨fun hz => ?_, fun hz => ?_⟩⟩
    · rcases hz with hz | hz
      · exact .inr ⟨_, h3, h2, hz⟩
      · exact .inl hz
    · rcases hz with hz | ⟨x, hx, hn, hz⟩
      · exact .inr hz
      · refine .inl ?_
        rw [uniq (fun y : Kn => y.n) hu h3 hx (h2.trans hn.symm)]
        exact hz
  · rename_i hc
    refine ⟨hu, fun z => ⟨fun hz => .inl ⟨hz, fun e => hc (List.contains_iff_mem.2 (List.mem_map.2 ⟨z, hz, e⟩))⟩, fun hz => ?_⟩⟩
    rcases hz with hz | ⟨x, hx, hn, _⟩
    · exact hz.1
    · exact absurd (List.contains_iff_mem.2 (List.mem_map.2 ⟨x, hx, hn⟩)) hc
theorem numsR_set {R : List Rn} {k : Nat} {y : Rn} (hk : k < R.length) (h : y.i = (R.getD k rn0).i) : numsR (R.set k y) = numsR R := by
  unfold numsR
  rw [List.map_set]
  have h3 := set_same 0 (k := k) (L := R.map numR) (by rw [List.length_map]; exact hk)
  rw [show (R.map numR).getD k 0 = (R.getD k rn0).i by simp [List.getD, hk, numR], ← h] at h3
  exact h3
theorem Fit.setR {R : List Rn} {K : List Kn} (f : Fit R K) {k : Nat} {y : Rn} (hk : k < R.length) (h : y.i = (R.getD k rn0).i) : Fit (R.set k y) K := by
  have e := numsR_set hk h
  exact ⟨⟨by rw [List.length_set]; exact f.ok.r, f.ok.k, f.ok.q, by unfold UpR; rw [e]; exact f.ok.ur, f.ok.uk⟩, by unfold Thr; rw [e]; exact f.th, f.ow⟩
theorem Fit.leave {R : List Rn} {K : List Kn} (f : Fit R K) (id v : Int) : Fit R (leaveN K id v) := by
  obtain ⟨_, h2⟩ := leave_two f.ok.uk id v
  refine ⟨okd_leave f.ok id v, ⟨fun z hz i hi => ?_, f.th.2⟩, fun z hz => ?_⟩
  · rcases (h2 z).1 hz with hz | ⟨x, hx, _, rfl⟩
    · exact f.th.1 z hz.1 i hi
    · exact f.th.1 x hx i (List.mem_filter.1 hi).1
  · rcases (h2 z).1 hz with hz | ⟨x, hx, _, rfl⟩
    · exact f.ow z hz.1
    · exact f.ow x hx
theorem Fit.give {R : List Rn} {K : List Kn} (f : Fit R K) {x : Kn} (hx : x ∈ K) : Fit (giveN R K x.n).1 (giveN R K x.n).2 := by
  have hc : (K.map (·.n)).contains x.n = true := List.contains_iff_mem.2 (List.mem_map.2 ⟨x, hx, rfl⟩)
  obtain ⟨h1, h2⟩ := okd_give f.ok f.th hc
  refine ⟨h1, h2, fun z hz => ?_⟩
  rcases ((give_two (R := R) f.ok.uk hx).2.1 z).1 hz with hz | ⟨h, t, hq, rfl⟩
  · exact f.ow z hz.1
  · intro e
    have h9 := f.th.1 x hx h (by rw [hq]; exact List.mem_cons_self ..)
    rw [show h = 0 from e, f.th.2] at h9
    cases h9
end Go.Proofs.Ytolalbpjaebfdaa
namespace Go.Proofs.Ytolalbpjaebfdaa
open Go.RowKit Go.Shelf
set_option linter.unusedVariables false
set_option linter.unusedSimpArgs false
def leftL (R : List Rn) : List Int := (R.filter fun x => x.s != 2).map (·.i)
theorem mem_leftL {R : List Rn} {i : Int} : i ∈ leftL R ↔ ∃ x ∈ R, x.s ≠ 2 ∧ x.i = i := by
  unfold leftL
  rw [List.mem_map]
  constructor
  · rintro ⟨x, hx, rfl⟩
    rw [List.mem_filter] at hx
    exact ⟨x, hx.1, by simpa using hx.2, rfl⟩
  · rintro ⟨x, hx, h1, rfl⟩
    exact ⟨x, List.mem_filter.2 ⟨hx, by simpa using h1⟩, rfl⟩
theorem leftL_nodup {R : List Rn} (hu : UpR R) : (leftL R).Nodup := by
  have h1 : (leftL R).Sublist (numsR R) := List.filter_sublist.map _
  exact (hu.sublist h1).imp (fun h => by omega)
theorem atR {R : List Rn} (hu : UpR R) {x : Rn} (hx : x ∈ R) : lessP (numsR R) x.i < R.length ∧ R.getD (lessP (numsR R) x.i) rn0 = x := by
  obtain ⟨h1, h2, h3⟩ := at_num numR hu rn0 (n := x.i) (contR hx)
  exact ⟨h1, uniqR hu h3 hx h2⟩
theorem give_beside {R : List Rn} {K : List Kn} (g : Good R K) {x : Rn} {y : Kn} (hx : x ∈ R) (hs : x.s = 0) (hy : y ∈ K) : x ∈ (giveN R K y.n).1 ∧ numsR (giveN R K y.n).1 = numsR R ∧ (∀ z ∈ (giveN R K y.n).2, z.o = x.i → z ∈ K ∧ z.n ≠ y.n) ∧ (∀ z ∈ (giveN R K y.n).1, z.s ≠ 2 → ∃ z' ∈ R, z'.i = z.i ∧ z'.s ≠ 2) ∧ (∀ z ∈ K, z.n ≠ y.n → z ∈ (giveN R K y.n).2) := by
  obtain ⟨_, a2, a3⟩ := give_two (R := R) g.uk hy
  have hnew : ∀ h t, y.q = h :: t → h ≠ x.i ∧ (⟨h, 1, y.n⟩ : Rn) ∈ R := fun h t hq => by
    have hh := g.qs y hy h (by rw [hq]; exact List.mem_cons_self ..)
    refine ⟨fun e => ?_, hh⟩
    have := uniqR g.ur hh hx e
    rw [← this] at hs
    cases hs
  refine ⟨?_, ?_, fun z hz ho => ?_, ?_, fun z hz hne => (a2 z).2 (.inl ⟨hz, hne⟩)⟩
  · rw [a3]
    rcases hq : y.q with _ | ⟨h, t⟩
    · exact hx
    · obtain ⟨h1, h2⟩ := hnew h t hq
      exact ((setR_two (x := ⟨h, 0, 0⟩) g.ur (show (numsR R).contains h = true from contR h2)).2 x).2 (.inr ⟨hx, h1.symm⟩)
  · rw [a3]
    rcases hq : y.q with _ | ⟨h, t⟩
    · rfl
    · obtain ⟨h1, h2⟩ := hnew h t hq
      obtain ⟨b1, b2⟩ := atR g.ur h2
      exact numsR_set b1 (by rw [b2])
  · rcases (a2 z).1 hz with hz | ⟨h, t, hq, rfl⟩
    · exact hz
    · exact absurd ho (hnew h t hq).1
  · rw [a3]
    rcases hq : y.q with _ | ⟨h, t⟩
    · exact fun z hz h2 => ⟨z, hz, rfl, h2⟩
    · obtain ⟨h1, h2⟩ := hnew h t hq
      intro z hz hz2
      rcases ((setR_two (x := ⟨h, 0, 0⟩) g.ur (show (numsR R).contains h = true from contR h2)).2 z).1 hz with rfl | hz
      · exact ⟨_, h2, rfl, by show (1 : Int) ≠ 2; decide⟩
      · exact ⟨z, hz.1, rfl, hz2⟩
theorem Good.all {x : Rn} (hs : x.s = 0) : ∀ (l : List Int) {R : List Rn} {K : List Kn}, Good R K → x ∈ R → l.Nodup → (∀ n ∈ l, ∃ y ∈ K, y.n = n ∧ y.o = x.i) →
    Good (giveAll R K l).1 (giveAll R K l).2 ∧ (Up13 R K → Up13 (giveAll R K l).1 (giveAll R K l).2) ∧ x ∈ (giveAll R K l).1 ∧ numsR (giveAll R K l).1 = numsR R ∧ (∀ z ∈ (giveAll R K l).2, z.o = x.i → z ∈ K ∧ z.n ∉ l) ∧ (∀ z ∈ (giveAll R K l).1, z.s ≠ 2 → ∃ z' ∈ R, z'.i = z.i ∧ z'.s ≠ 2)
  | [], R, K, g, hx, _, _ => ⟨g, fun u => u, hx, rfl, fun z hz _ => ⟨hz, List.not_mem_nil⟩, fun z hz h => ⟨z, hz, rfl, h⟩⟩
  | n :: l, R, K, g, hx, hn, hl => by
    obtain ⟨y, hy, rfl, hyo⟩ := hl n (List.mem_cons_self ..)
    rw [List.nodup_cons] at hn
    obtain ⟨g1, u1⟩ := g.give hy
    obtain ⟨b1, b2, b3, b4, b5⟩ := give_beside g hx hs hy
    obtain ⟨c1, c2, c3, c4, c5, c6⟩ := Good.all hs l g1 b1 hn.2 (fun m hm => by
      obtain ⟨v, hv, hvn, hvo⟩ := hl m (List.mem_cons_of_mem _ hm)
      exact ⟨v, b5 v hv (fun e => hn.1 (by rw [← e, hvn]; exact hm)), hvn, hvo⟩)
    refine ⟨c1, fun u => c2 (u1 u), c3, c4.trans b2, fun z hz ho => ?_, fun z hz h2 => ?_⟩
    · obtain ⟨d1, d2⟩ := c5 z hz ho
      obtain ⟨e1, e2⟩ := b3 z d1 ho
      exact ⟨e1, fun h => (List.mem_cons.1 h).elim e2 d2⟩
    · obtain ⟨z', hz', e1, e2⟩ := c6 z hz h2
      obtain ⟨z2, hz2, e3, e4⟩ := b4 z' hz' e2
      exact ⟨z2, hz2, e3.trans e1, e4⟩
theorem scE_good {R : List Rn} {L : List Kw} (g : Good R (L.map (·.1))) : scE R L = 0 := by unfold scE; rw [(good_iff R L).2 g, if_pos rfl]
theorem lives_ready {R : List Rn} {K : List Kn} (g : Good R K) {x : Rn} (hx : x ∈ R) (hs : x.s = 0) : livesB R x.i = true := (lives_iff g.ur _).2 ⟨x, hx, rfl, by omega⟩
theorem end_good {R : List Rn} {L : List Kw} (g : Good R (L.map (·.1))) {x : Rn} (hx : x ∈ R) (hs : x.s = 0) : (endR R L x.i).2.2 = 0 ∧ Good (endR R L x.i).1 (endR R L x.i).2.1 ∧ (Up13 R (L.map (·.1)) → Up13 (endR R L x.i).1 (endR R L x.i).2.1) ∧ (leftL (endR R L x.i).1).length + 1 ≤ (leftL R).length ∧ (endR R L x.i).1.length = R.length := by
  obtain ⟨k1, k2⟩ := atR g.ur hx
  have hxn : x.n = 0 := (g.st x hx).2.2 (by omega)
  have e : endR R L x.i = ((giveAll R (L.map (·.1)) (ownsN (L.map (·.1)) x.i)).1.set (lessP (numsR R) x.i) ⟨x.i, 2, 0⟩, (giveAll R (L.map (·.1)) (ownsN (L.map (·.1)) x.i)).2, 0) := by
    unfold endR chgS ofF endF
    rw [if_pos (scE_good g), lives_ready g hx hs, if_pos rfl, if_pos rfl, k2, hxn]
    congr 1
    unfold leaveN
    rw [if_neg]
    intro hc
    have hon : ∀ n ∈ ownsN (L.map (·.1)) x.i, ∃ y ∈ L.map (·.1), y.n = n ∧ y.o = x.i := fun n hn => by
      obtain ⟨y, hy, rfl⟩ := List.mem_map.1 hn
      rw [List.mem_filter] at hy
      exact ⟨y, hy.1, rfl, by simpa using hy.2⟩
    have hnd : (ownsN (L.map (·.1)) x.i).Nodup := (g.uk.sublist (List.filter_sublist.map _)).imp (fun h => by omega)
    have g1 := (Good.all hs _ g hx hnd hon).1
    obtain ⟨z, hz, h0⟩ := List.mem_map.1 (List.contains_iff_mem.1 hc)
    have := g1.kb z hz
    omega
  have hon : ∀ n ∈ ownsN (L.map (·.1)) x.i, ∃ y ∈ L.map (·.1), y.n = n ∧ y.o = x.i := fun n hn => by
    obtain ⟨y, hy, rfl⟩ := List.mem_map.1 hn
    rw [List.mem_filter] at hy
    exact ⟨y, hy.1, rfl, by simpa using hy.2⟩
  have hnd : (ownsN (L.map (·.1)) x.i).Nodup := (g.uk.sublist (List.filter_sublist.map _)).imp (fun h => by omega)
  obtain ⟨c1, c2, c3, c4, c5, c6⟩ := Good.all hs _ g hx hnd hon
  obtain ⟨d1, d2⟩ := c1.over c3 hs (fun y hy ho => by
    obtain ⟨f1, f2⟩ := c5 y hy ho
    exact f2 (List.mem_map.2 ⟨y, List.mem_filter.2 ⟨f1, by simpa using ho⟩, rfl⟩))
  rw [c4] at d1 d2
  have hm := (setR_two (x := ⟨x.i, 2, 0⟩) c1.ur (show (numsR (giveAll R (L.map (·.1)) (ownsN (L.map (·.1)) x.i)).1).contains x.i = true from contR c3)).2
  rw [c4] at hm
  rw [e]
  refine ⟨rfl, d1, fun u => d2 (c2 u), ?_, ?_⟩
  · have hlen := sub_len (Q := x.i :: leftL ((giveAll R (L.map (·.1)) (ownsN (L.map (·.1)) x.i)).1.set (lessP (numsR R) x.i) ⟨x.i, 2, 0⟩)) (W := leftL R) (List.nodup_cons.2 ⟨fun h => ?_, leftL_nodup d1.ur⟩) (fun i hi => ?_)
    · rw [List.length_cons] at hlen
      exact hlen
    · obtain ⟨z, hz, h2, hi⟩ := mem_leftL.1 h
      rcases (hm z).1 hz with rfl | hz
      · exact h2 rfl
      · exact hz.2 hi
    · rcases List.mem_cons.1 hi with rfl | hi
      · exact mem_leftL.2 ⟨x, hx, by omega, rfl⟩
      · obtain ⟨z, hz, h2, rfl⟩ := mem_leftL.1 hi
        rcases (hm z).1 hz with rfl | hz
        · exact absurd rfl h2
        · obtain ⟨z', hz', e1, e2⟩ := c6 z hz.1 h2
          exact mem_leftL.2 ⟨z', hz', e2, e1⟩
  · simp only [List.length_set]
    have : (numsR (giveAll R (L.map (·.1)) (ownsN (L.map (·.1)) x.i)).1).length = (numsR R).length := by rw [c4]
    simpa [numsR] using this
theorem give_good {R : List Rn} {L : List Kw} (g : Good R (L.map (·.1))) {x : Rn} {y : Kn} (hx : x ∈ R) (hs : x.s = 0) (hy : y ∈ L.map (·.1)) (ho : y.o = x.i) : giveR R L x.i y.n = ((giveN R (L.map (·.1)) y.n).1, (giveN R (L.map (·.1)) y.n).2, 0) := by
  have hb := g.kb y hy
  have hown : ownK (L.map (·.1)) y.n = x.i := by
    unfold ownK
    cases hf : (L.map (·.1)).find? (fun z => z.n == y.n) with
    | none => exact absurd (List.find?_eq_none.1 hf y hy) (by simp)
    | some z =>
      have h1 := List.mem_of_find?_eq_some hf
      have h2 := List.find?_some hf
      have := uniq (fun z : Kn => z.n) g.uk h1 hy (by simpa using h2)
      simp only [this, ho]
  unfold giveR chgS ofF giveF
  rw [if_pos (scE_good g), lives_ready g hx hs, if_pos rfl, hown, decide_eq_false (show ¬ y.n < 1 by omega), decide_eq_false (show ¬ (40 : Int) < y.n by omega)]
  simp
theorem take_good {R : List Rn} {L : List Kw} (g : Good R (L.map (·.1))) {x : Rn} {n : Int} (hx : x ∈ R) (hs : x.s = 0) (hn : 1 ≤ n ∧ n ≤ 40) (hno : ∀ y ∈ L.map (·.1), y.n = n → y.o ≠ x.i) : (takeR R L x.i n).2.2 = 0 ∧ Good (takeR R L x.i n).1 (takeR R L x.i n).2.1 ∧ (Up13 R (L.map (·.1)) → (∀ z ∈ L.map (·.1), z.o = x.i → z.n < n) → Up13 (takeR R L x.i n).1 (takeR R L x.i n).2.1) := by
  obtain ⟨k1, k2⟩ := atR g.ur hx
  have hs1 : (x.s == 1) = false := by rw [hs]; rfl
  have e0 : takeR R L x.i n = (if (takeF R (L.map (·.1)) (lessP (numsR R) x.i) x.i n).2.2 = 0 then takeF R (L.map (·.1)) (lessP (numsR R) x.i) x.i n else ([], [], (takeF R (L.map (·.1)) (lessP (numsR R) x.i) x.i n).2.2)) := by
    unfold takeR chgS ofF
    rw [if_pos (scE_good g), lives_ready g hx hs, if_pos rfl]
  cases hc : ((L.map (·.1)).map (·.n)).contains n
  · have e : takeF R (L.map (·.1)) (lessP (numsR R) x.i) x.i n = (R, insL (lessP ((L.map (·.1)).map (·.n)) n) ⟨n, x.i, []⟩ (L.map (·.1)), 0) := by
      unfold takeF
      rw [k2, hs1, decide_eq_false (show ¬ n < 1 by omega), decide_eq_false (show ¬ (40 : Int) < n by omega), hc]
      simp
    rw [e0, e, if_pos rfl]
    obtain ⟨a, b⟩ := g.takeNew hx hs hn hc
    exact ⟨rfl, a, fun u _ => b u⟩
  · obtain ⟨h1, h2, h3⟩ := at_num (fun y : Kn => y.n) g.uk kn0 hc
    have e : takeF R (L.map (·.1)) (lessP (numsR R) x.i) x.i n = (R.set (lessP (numsR R) x.i) ⟨x.i, 1, n⟩, (L.map (·.1)).set (lessP ((L.map (·.1)).map (·.n)) n) ⟨n, ((L.map (·.1)).getD (lessP ((L.map (·.1)).map (·.n)) n) kn0).o, ((L.map (·.1)).getD (lessP ((L.map (·.1)).map (·.n)) n) kn0).q ++ [x.i]⟩, 0) := by
      unfold takeF
      have hne := hno _ h3 h2
      rw [k2, hs1, decide_eq_false (show ¬ n < 1 by omega), decide_eq_false (show ¬ (40 : Int) < n by omega), hc, h2, beq_eq_false_iff_ne.2 hne]
      simp only [Bool.or_self, Bool.false_eq_true, ↓reduceIte]
    rw [e0, e, if_pos rfl]
    generalize (L.map (·.1)).getD (lessP ((L.map (·.1)).map (·.n)) n) kn0 = y at h2 h3
    obtain ⟨a, b⟩ := g.takeWait hx hs h3 (hno y h3 h2)
    rw [h2] at a b
    exact ⟨rfl, a, fun u hb => b u hb⟩
theorem pick_good {R : List Rn} {L : List Kw} (g : Good R (L.map (·.1))) (n : Int) : ((pickV (rdyA R L) n).2 = true → ∃ x ∈ R, x.s = 0 ∧ x.i = (pickV (rdyA R L) n).1) ∧ ((pickV (rdyA R L) n).2 = false → Up13 R (L.map (·.1)) → (∀ x ∈ R, x.s = 2) ∧ L = []) := by
  have e : rdyA R L = rdyF R := by unfold rdyA; rw [if_pos (scE_good g)]
  rw [e]
  unfold pickV
  by_cases h0 : (rdyF R).length = 0
  · rw [if_pos h0]
    refine ⟨fun h => (by cases h), fun _ u => ?_⟩
    have hnone : ∀ x ∈ R, x.s ≠ 0 := fun x hx hs => by
      have : x.i ∈ rdyF R := List.mem_map.2 ⟨x, List.mem_filter.2 ⟨hx, by simpa using hs⟩, rfl⟩
      rw [List.length_eq_zero_iff.1 h0] at this
      cases this
    have hall : ∀ x ∈ R, x.s = 2 := fun x hx => by
      have hb := g.st x hx
      have h1 := hnone x hx
      by_cases hs : x.s = 1
      · obtain ⟨y, hy, hyn, _⟩ := g.wt x hx hs
        have hk := g.kb y hy
        obtain ⟨z, hz, hz0⟩ := up_ready g u 40 x hx hs (by omega)
        exact absurd hz0 (hnone z hz)
      · omega
    refine ⟨hall, ?_⟩
    cases L with
    | nil => rfl
    | cons y L =>
      obtain ⟨z, hz, _, h2⟩ := g.ow y.1 (List.mem_cons_self ..)
      exact absurd (hall z hz) h2
  · rw [if_neg h0]
    refine ⟨fun _ => ?_, fun h => (by cases h)⟩
    have hlt : (max n 0 % ((rdyF R).length : Int)).toNat < (rdyF R).length := by
      have h1 := Int.emod_lt_of_pos (max n 0) (show (0 : Int) < ((rdyF R).length : Int) by omega)
      have h2 := Int.emod_nonneg (max n 0) (show ((rdyF R).length : Int) ≠ 0 by omega)
      omega
    have hm : (rdyF R).getD (max n 0 % ((rdyF R).length : Int)).toNat 0 ∈ rdyF R := by
      rw [show (rdyF R).getD (max n 0 % ((rdyF R).length : Int)).toNat 0 = (rdyF R)[(max n 0 % ((rdyF R).length : Int)).toNat] by simp [List.getD, hlt]]
      exact List.getElem_mem _
    obtain ⟨x, hx, hxi⟩ := List.mem_map.1 hm
    rw [List.mem_filter] at hx
    exact ⟨x, hx.1, by simpa using hx.2, hxi⟩
end Go.Proofs.Ytolalbpjaebfdaa
namespace Go.Proofs.Ytolalbpjaebfdaa
open Go.RowKit Go.Shelf
set_option linter.unusedVariables false
set_option linter.unusedSimpArgs false
def addR (R : List Rn) (L : List Kw) (id : Int) : List Rn × List Kn × Int := chgS R L (addF R (L.map (·.1)) id)
theorem add_pubR (A : Option Addr) (m c : Nat) (R : List Rn) (A2 : Option Addr) (m2 c2 : Nat) (L : List Kw) (id : Int) (w : World) (h : Sc w w.heap.size A m c R A2 m2 c2 L) :
    Calls Try.prog 11 #[scV A m c A2 m2 c2, .int .i64 id] w fun e w' => ∃ v, e = .returned (.tuple #[v, .int .i64 (addR R L id).2.2]) ∧ ScR w' w.heap.size v (addR R L id).1 (addR R L id).2.1 ∧ Below w.heap.size w w' := add_sc A m c R A2 m2 c2 L id w h
section
variable {L L' : List Kw} (h : L'.map (·.1) = L.map (·.1)) (R : List Rn)
include h
end
end Go.Proofs.Ytolalbpjaebfdaa
namespace Go.Proofs.Ytolalbpjaebfdaa
open Go.RowKit Go.Shelf
set_option linter.unusedVariables false
set_option linter.unusedSimpArgs false
def runsN (j : Nat) : List Rn := (List.range j).map fun (i : Nat) => ⟨(i : Int) + 1, 0, 0⟩
theorem runsN_succ (j : Nat) : runsN (j + 1) = runsN j ++ [⟨(j : Int) + 1, 0, 0⟩] := by unfold runsN; rw [List.range_succ, List.map_append]; rfl
theorem runsN_mem {j : Nat} {x : Rn} : x ∈ runsN j ↔ ∃ i : Nat, i < j ∧ x = ⟨(i : Int) + 1, 0, 0⟩ := by
  unfold runsN
  rw [List.mem_map]
  constructor
  · rintro ⟨i, hi, rfl⟩; exact ⟨i, List.mem_range.1 hi, rfl⟩
  · rintro ⟨i, hi, rfl⟩; exact ⟨i, List.mem_range.2 hi, rfl⟩
theorem runsN_len (j : Nat) : (runsN j).length = j := by simp [runsN]
theorem runsN_up : ∀ (j : Nat), UpR (runsN j)
  | 0 => List.Pairwise.nil
  | j + 1 => by
    unfold UpR numsR
    rw [runsN_succ, List.map_append, List.pairwise_append]
    refine ⟨runsN_up j, by simp, fun a ha b hb => ?_⟩
    obtain ⟨x, hx, rfl⟩ := List.mem_map.1 ha
    obtain ⟨i, hi, rfl⟩ := runsN_mem.1 hx
    rw [List.map_cons, List.map_nil, List.mem_singleton] at hb
    subst hb
    simp only [numR]
    omega
theorem good_begun {j : Nat} (h : j ≤ 8) : Good (runsN j) [] ∧ Up13 (runsN j) [] := by
  refine ⟨⟨by rw [runsN_len]; exact h, runsN_up j, fun x hx => ?_, List.Pairwise.nil, fun y hy => (by cases hy), fun x hx => ?_, fun y hy => (by cases hy), fun y hy => (by cases hy), fun y hy => (by cases hy), fun y hy => (by cases hy), fun x hx h1 => ?_⟩, fun x hx h1 y hy => (by cases hy)⟩
  all_goals obtain ⟨i, hi, rfl⟩ := runsN_mem.1 hx
  · simp only; omega
  · exact ⟨by show (0 : Int) ≤ 0; decide, by show (0 : Int) ≤ 2; decide, fun _ => rfl⟩
  · cases h1
theorem add_begun {j : Nat} (h : j < 8) : addR (runsN j) [] ((j : Int) + 1) = (runsN (j + 1), [], 0) := by
  have g : Good (runsN j) (([] : List Kw).map (·.1)) := (good_begun (Nat.le_of_lt h)).1
  have hno : ∀ z ∈ numsR (runsN j), z < (j : Int) + 1 := fun z hz => by
    obtain ⟨x, hx, rfl⟩ := List.mem_map.1 hz
    obtain ⟨i, hi, rfl⟩ := runsN_mem.1 hx
    simp only [numR]
    omega
  have hc : (numsR (runsN j)).contains ((j : Int) + 1) = false := by
    cases hc : (numsR (runsN j)).contains ((j : Int) + 1)
    · rfl
    · have := hno _ (List.contains_iff_mem.1 hc); omega
  have hl : lessP (numsR (runsN j)) ((j : Int) + 1) = (runsN j).length := by
    unfold lessP
    rw [List.countP_eq_length.2 (fun z hz => by simpa using hno z hz)]
    simp [numsR]
  have e : insL (runsN j).length (⟨(j : Int) + 1, 0, 0⟩ : Rn) (runsN j) = runsN (j + 1) := by
    unfold insL
    rw [List.take_length, List.drop_length, runsN_succ]
  unfold addR chgS addF
  rw [if_pos (scE_good g), decide_eq_false (show ¬ (j : Int) + 1 < 1 by omega), decide_eq_false (show ¬ (20 : Int) < (j : Int) + 1 by omega), hc, hl, e, runsN_len]
  simp only [Bool.or_self, Bool.false_eq_true, ↓reduceIte, show ¬ j = 8 by omega]
  rfl
structure BoxS (B g : Nat) (R : List Rn) (K : List Kn) (V : World) (A : Option Addr) (m c : Nat) (A2 : Option Addr) (m2 c2 : Nat) (L : List Kw) : Prop where
  sc : Sc V V.heap.size A m c R A2 m2 c2 L
  nm : L.map (·.1) = K
  fr : Fro B A A2 L
  k : Blk V g (scC A m c A2 m2 c2) 25
theorem BoxS.keep {B g : Nat} {R : List Rn} {K : List Kn} {V V' : World} {A : Option Addr} {m c : Nat} {A2 : Option Addr} {m2 c2 : Nat} {L : List Kw} (h : BoxS B g R K V A m c A2 m2 c2 L) (b : Below V.heap.size V V') : BoxS B g R K V' A m c A2 m2 c2 L := ⟨h.sc.on b, h.nm, h.fr, h.k.below b h.k.lt⟩
set_option maxRecDepth 100000 in
set_option maxHeartbeats 8000000 in
theorem begun_sc (n : Nat) (hn : n ≤ 8) (w : World) :
    Calls Try.prog 33 #[.int .i64 n] w fun e w' => ∃ v, e = .returned v ∧ ScR w' w.heap.size v (runsN n) [] ∧ Below w.heap.size w w' := by
  have k20 := (Blk.new w (scC none 0 0 none 0 0) 25).alloc (.cells #[.slice none 0 0, .slice none 0 0] 25)
  have k30 : Blk ((w.alloc (.cells #[.slice none 0 0, .slice none 0 0] 25)).alloc (.cells #[.slice none 0 0, .slice none 0 0] 25)) (w.heap.size + 1) (scC none 0 0 none 0 0) 25 := Blk.new_ _ _ _ (by simp)
  have B0 := ((Below.refl w.heap.size w).alloc (Nat.le_refl _) (.cells #[.slice none 0 0, .slice none 0 0] 25)).alloc (by simp) (.cells #[.slice none 0 0, .slice none 0 0] 25)
  have k20 : Blk ((w.alloc (.cells #[.slice none 0 0, .slice none 0 0] 25)).alloc (.cells #[.slice none 0 0, .slice none 0 0] 25)) w.heap.size (scC none 0 0 none 0 0) 25 := k20
  have HX := Lib.hid (show BoxS (w.heap.size + 2) (w.heap.size + 1) (runsN 0) [] _ none 0 0 none 0 0 [] from ⟨sc_nil _ _ _ _ _ _, rfl, fro_nil _, k30⟩)
  have HK := Lib.hid k20
  have HB := Lib.hid B0
  clear k20 k30 B0
  clear k20
  go_enter Try.func33, Try.ntmps33
  go_wp2_with fail
  generalize (w.alloc (.cells #[.slice none 0 0, .slice none 0 0] 25)).alloc (.cells #[.slice none 0 0, .slice none 0 0] 25) = w0 at HX HK HB ⊢
  go_loopw [4] (fun iv wr' => ∃ (j : Nat) (wr : World) (A : Option Addr) (m c : Nat) (A2 : Option Addr) (m2 c2 : Nat) (L : List Kw), wr = wr' ∧ j ≤ n ∧ iv = .int .i64 ((j : Int) + 1) ∧ Hid (BoxS (w.heap.size + 2) (w.heap.size + 1) (runsN j) [] wr A m c A2 m2 c2 L) ∧ Hid (Blk wr w.heap.size (scC none 0 0 none 0 0) 25) ∧ Hid (Below w.heap.size w wr)) (fun iv _ => n + 1 - (intOf iv).toNat)
  case atStart => exact ⟨0, _, none, 0, 0, none, 0, 0, [], rfl, Nat.zero_le _, rfl, HX, HK, HB⟩
  case round =>
    clear HX HK HB
    obtain ⟨j, wr, A, m, c, A2, m2, c2, L, hwr, hj, rfl, HX, HK, HB⟩ := hrel
    subst hwr
    have k3 := HX.out.k
    by_cases hlt : j < n
    · have hle : (j : Int) + 1 ≤ (n : Int) := by omega
      have hsz : w.heap.size + 2 ≤ wr.heap.size := by have := k3.lt; omega
      have HA := Lib.hid (add_pubR A m c (runsN j) A2 m2 c2 L ((j : Int) + 1) wr HX.out.sc)
      have hL : L = [] := List.map_eq_nil_iff.1 HX.out.nm
      rw [hL, add_begun (by omega)] at HA
      unfold scV at HA
      clear hL
      simp only at HA
      go_wp2_with (first
        | (refine wpList_load_row rfl 25 (.tmp 3) rfl (w.heap.size + 1) rfl 25 (scC A m c A2 m2 c2) (0, 0) _ k3.blk Try.underlying25 rfl (sc_inf _ _ _ _ _ _) ?_)
        | (refine HA.out.mono ?_
           clear HA
           rintro e w1 ⟨v, rfl, ⟨A5, m5, c5, A6, m6, c6, L5, rfl, sc5, hn5, fr5⟩, b1⟩
           have k31 := k3.below b1 k3.lt
           have HK1 := Lib.hid (HK.out.below b1 HK.out.lt)
           have HB1 := Lib.hid (HB.out.trans (b1.mono HB.out.size))
           have H5 := Lib.hid (And.intro sc5 (And.intro hn5 (fr5.down hsz)))
           clear sc5 hn5 fr5 b1 k3
           unfold scV)
        | (refine wpList_store_blk rfl 25 (.tmp 5) (.tmp 16) rfl w1.heap.size (scC none 0 0 none 0 0) (scC A5 m5 c5 A6 m6 c6) 25 rfl rfl (Blk.new _ _ _) rfl (sc_inf _ _ _ _ _ _) (sc_one _ _ _ _ _ _) ?_
           intro w2 k52 nn
           have bb : Below w1.heap.size w1 w2 := ((Below.refl _ w1).alloc (Nat.le_refl _) _).trans (nn.below _ (Nat.le_refl _) (by simp))
           have k32 := k31.below bb k31.lt
           have HK2 := Lib.hid (HK1.out.below bb HK1.out.lt)
           have HB2 := Lib.hid (HB1.out.trans (bb.mono HB1.out.size))
           have H6 := Lib.hid (And.intro (H5.out.1.on bb) H5.out.2)
           clear bb nn k31)
        | (refine wpList_load_row rfl 25 (.tmp 5) rfl w1.heap.size rfl 25 (scC A5 m5 c5 A6 m6 c6) (0, 0) _ k52.blk Try.underlying25 rfl (sc_inf _ _ _ _ _ _) ?_)
        | (refine wpList_store_blk rfl 25 (.tmp 3) (.tmp 20) rfl (w.heap.size + 1) (scC A m c A2 m2 c2) (scC A5 m5 c5 A6 m6 c6) 25 rfl rfl k32 rfl (sc_inf _ _ _ _ _ _) (sc_one _ _ _ _ _ _) ?_
           intro w3 k33 n3
           have H7 := Lib.hid (show BoxS (w.heap.size + 2) (w.heap.size + 1) (runsN (j + 1)) [] w3 A5 m5 c5 A6 m6 c6 L5 from ⟨H6.out.1.off' H6.out.2.2 n3 (by omega), H6.out.2.1, H6.out.2.2, k33⟩)
           have HK3 := Lib.hid (n3.blk7 HK2.out (by omega))
           have HB3 := Lib.hid (HB2.out.trans (n3.below _ (by omega) HB2.out.size))
           clear n3 k32 k33))
      go_roundw
      case rel => exact ⟨j + 1, _, A5, m5, c5, A6, m6, c6, L5, rfl, by omega, by go_num, H7, HK3, HB3⟩
      case measure => simp [intOf]; omega
    · have hgt : ¬ ((j : Int) + 1 ≤ (n : Int)) := by omega
      have hjn : j = n := by omega
      have HXn := Lib.hid (show BoxS (w.heap.size + 2) (w.heap.size + 1) (runsN n) [] wr A m c A2 m2 c2 L from by rw [← hjn]; exact HX.out)
      clear hjn hlt
      go_wp2_with (first
        | (refine wpList_load_row rfl 25 (.tmp 3) rfl (w.heap.size + 1) rfl 25 (scC A m c A2 m2 c2) (0, 0) _ k3.blk Try.underlying25 rfl (sc_inf _ _ _ _ _ _) ?_)
        | (refine wpList_store_blk rfl 25 (.tmp 2) (.tmp 21) rfl w.heap.size (scC none 0 0 none 0 0) (scC A m c A2 m2 c2) 25 rfl rfl HK.out rfl (sc_inf _ _ _ _ _ _) (sc_one _ _ _ _ _ _) ?_
           intro wz hz nz))
      refine bodyPost_ret (results_row_one rfl _ _ w.heap.size 25 (scC A m c A2 m2 c2) (0, 0) _ rfl hz.blk Try.underlying25 rfl (sc_inf _ _ _ _ _ _)) rfl ?_
      have hx := HXn.out
      exact ⟨_, rfl, ⟨A, m, c, A2, m2, c2, L, rfl, hx.sc.off' hx.fr nz (by omega), hx.nm, hx.fr.down (by omega)⟩, HB.out.trans (nz.below _ (Nat.le_refl _) HB.out.size)⟩
end Go.Proofs.Ytolalbpjaebfdaa
namespace Go.Proofs.Ytolalbpjaebfdaa
open Go.RowKit Go.Shelf Go.ChangeShapes Go.WideShapes
set_option linter.unusedVariables false
set_option linter.unusedSimpArgs false
section
variable {H : Type} {enc : TypeId × Value → H} {w : World} {base : Nat} {spare : Nat → Bool} {held : Bool} {fuel : Nat} {x : DataW H × List MemPlace}
set_option maxRecDepth 100000 in
theorem acts_of {v : Value} (h : DataW.trod enc Try.prog w base spare held fuel 54 [v] = some x) : ∃ a l c L, v = .slice a l c ∧ RsR w w.heap.size a L ∧ l = L.length ∧ l ≤ maxLen := by
  rcases Go.Deep.open_slice Try.underlying54 h with ⟨hcs, _⟩ | ⟨p, l, c', m, n, D, Pl, hcs, _, hl, hm, hmm, _, hel⟩
  · simp at hcs
    exact ⟨none, 0, 0, [], hcs, fun k hk => absurd hk (by simp), rfl, by simp [maxLen]⟩
  · simp at hcs
    have hlm : l ≤ m := by rw [hmm]; split <;> omega
    have hc4 : Try.prog.cellsOf 58 = 3 := by kernel_rfl
    have hci : Try.prog.cellsOf 3 = 1 := by kernel_rfl
    rw [hc4] at hel
    have each : ∀ i, i < l → ∃ q : Rn, (∀ j v, (rnC q).toList[j]? = some v → w.cell? ((p.add (i * 3)).add j) = some v) := by
      intro i hi
      obtain ⟨cs', h1, h2⟩ := hel i (by omega)
      obtain ⟨_, hlen, hcell⟩ := World.cells?_some h1
      obtain ⟨y0, y1, y2, n', _, _, t0, t1, t2⟩ := Go.Deep.trod_struct3 Try.underlying58 h2
      match cs', hlen with
      | [v0, v1, v2], _ =>
        simp [hci] at t0 t1 t2
        obtain ⟨q0, e0, _, f0⟩ := DataW.trod_int Try.underlying3 t0
        obtain ⟨q1, e1, _, f1⟩ := DataW.trod_int Try.underlying3 t1
        obtain ⟨q2, e2, _, f2⟩ := DataW.trod_int Try.underlying3 t2
        simp only [List.cons.injEq, and_true] at e0 e1 e2
        subst e0 e1 e2
        refine ⟨⟨q0, q1, q2⟩, fun j v hv => ?_⟩
        have hj : j < 3 := by
          rcases Nat.lt_or_ge j 3 with h | h
          · exact h
          · rw [List.getElem?_eq_none (by rw [Array.length_toList, rn_size]; exact h)] at hv; cases hv
        have := hcell j (by omega)
        rw [this]
        exact hv
    haveI : Inhabited Rn := ⟨rn0⟩
    obtain ⟨q, hq⟩ := Go.Deep.choose_lt each
    refine ⟨some p, l, c', (List.range l).map q, hcs, fun k hk => ?_, by simp, by omega⟩
    have hkl : k < l := by simpa using hk
    have e0 : ((List.range l).map q).getD k rn0 = q k := by simp [List.getD, hkl]
    rw [e0]
    have z : ∃ v0, w.cell? (p.add 0) = some v0 := ⟨_, by
      have := (hq 0 (by omega)) 0 (.int .i64 (q 0).i) rfl
      rw [Go.Deep.add_add] at this
      simpa using this⟩
    have a0 := (hq k hkl) 0 (.int .i64 (q k).i) rfl
    rw [Go.Deep.add_add] at a0
    obtain ⟨ea, hb, _⟩ := add_none a0 z
    refine ⟨p.block, p.off, congrArg some ea, hb, fun j v hv => ?_⟩
    have := (hq k hkl) j v hv
    rw [Go.Deep.add_add] at this
    have h3 := (add_none this z).2.2
    rwa [← Nat.add_assoc] at h3
end
end Go.Proofs.Ytolalbpjaebfdaa
namespace Go.Proofs.Ytolalbpjaebfdaa
open Go.RowKit Go.Shelf
set_option linter.unusedVariables false
set_option linter.unusedSimpArgs false
theorem act_inf (x : Rn) : (Try.prog.info? 58).map (·.size) = some (rnC x).size := by rw [rn_size]; kernel_rfl
theorem act_infL (x : Rn) : (Try.prog.info? 58).map (·.size) = some (rnC x).toList.length := by rw [Array.length_toList]; exact act_inf x
structure Ed (w V : World) (b5 j : Nat) (A : Option Addr) (m c : Nat) (R : List Rn) (A2 : Option Addr) (m2 c2 : Nat) (L : List Kw) : Prop where
  sc : Sc V V.heap.size A m c R A2 m2 c2 L
  k : Blk V b5 (scC A m c A2 m2 c2) 25
  g : Good R (L.map (·.1))
  u : Up13 R (L.map (·.1))
  ne : 0 < R.length
  lf : (leftL R).length + j ≤ 8
  b : Below w.heap.size w V
  hb : w.heap.size ≤ b5
theorem Ed.keep {w V V' : World} {b5 j : Nat} {A : Option Addr} {m c : Nat} {R : List Rn} {A2 : Option Addr} {m2 c2 : Nat} {L : List Kw} (h : Ed w V b5 j A m c R A2 m2 c2 L) (b : Below V.heap.size V V') : Ed w V' b5 j A m c R A2 m2 c2 L :=
  ⟨h.sc.on b, h.k.below b h.k.lt, h.g, h.u, h.ne, h.lf, h.b.trans (b.mono h.b.size), h.hb⟩
theorem Ed.put {w V V2 V3 : World} {b5 j j' : Nat} {A : Option Addr} {m c : Nat} {R : List Rn} {A2 : Option Addr} {m2 c2 : Nat} {L : List Kw} (h : Ed w V b5 j A m c R A2 m2 c2 L) {A' : Option Addr} {m' c' : Nat} {R' : List Rn} {A2' : Option Addr} {m2' c2' : Nat} {L' : List Kw} (b : Below V.heap.size V V2) (sc : Sc V2 V2.heap.size A' m' c' R' A2' m2' c2' L') (fr : Fro V.heap.size A' A2' L') (n : But b5 V2 V3) (k : Blk V3 b5 (scC A' m' c' A2' m2' c2') 25)
    (g : Good R' (L'.map (·.1))) (u : Up13 R' (L'.map (·.1))) (ne : 0 < R'.length) (lf : (leftL R').length + j' ≤ 8) : Ed w V3 b5 j' A' m' c' R' A2' m2' c2' L' := by
  have b2 := h.b.trans (b.mono h.b.size)
  exact ⟨sc.off' fr n h.k.lt, k, g, u, ne, lf, b2.trans (n.below _ h.hb b2.size), h.hb⟩
structure Fin13 (w V : World) (b5 : Nat) (A : Option Addr) (m c : Nat) (R : List Rn) (A2 : Option Addr) (c2 : Nat) : Prop where
  rs : RsR V V.heap.size A R
  len : m = R.length
  k : Blk V b5 (scC A m c A2 0 c2) 25
  all : ∀ x ∈ R, x.s = 2
  ne : 0 < m
  lim : m ≤ 8
  b : Below w.heap.size w V
theorem Fin13.keep {w V V' : World} {b5 : Nat} {A : Option Addr} {m c : Nat} {R : List Rn} {A2 : Option Addr} {c2 : Nat} (h : Fin13 w V b5 A m c R A2 c2) (b : Below V.heap.size V V') : Fin13 w V' b5 A m c R A2 c2 :=
  ⟨(h.rs.below b (Nat.le_refl _)).more b.size, h.len, h.k.below b h.k.lt, h.all, h.ne, h.lim, h.b.trans (b.mono h.b.size)⟩
theorem Ed.fin {w V : World} {b5 j : Nat} {A : Option Addr} {m c : Nat} {R : List Rn} {A2 : Option Addr} {m2 c2 : Nat} {L : List Kw} (h : Ed w V b5 j A m c R A2 m2 c2 L) (ha : (∀ x ∈ R, x.s = 2) ∧ L = []) : m2 = 0 ∧ Fin13 w V b5 A m c R A2 c2 := by
  have e : m2 = 0 := by rw [h.sc.len2, ha.2]; rfl
  subst e
  exact ⟨rfl, h.sc.rs, h.sc.len, h.k, ha.1, by rw [h.sc.len]; exact h.ne, by rw [h.sc.len]; exact h.g.len, h.b⟩
theorem rem_nat (z d : Int) (hd : 0 < d) : ∃ k : Nat, (k : Int) < d ∧ max z 0 % d = (k : Int) ∧ (max z 0).tmod d = (k : Int) := by
  have hmx : (0 : Int) ≤ max z 0 := by omega
  have h1 := Int.emod_lt_of_pos (max z 0) hd
  have h2 := Int.emod_nonneg (max z 0) (show d ≠ 0 by omega)
  exact ⟨(max z 0 % d).toNat, by omega, by omega, by rw [Int.tmod_eq_emod_of_nonneg hmx]; omega⟩
end Go.Proofs.Ytolalbpjaebfdaa
namespace Go.Proofs.Ytolalbpjaebfdaa
open Go.RowKit Go.Shelf
set_option linter.unusedVariables false
set_option linter.unusedSimpArgs false
def qN (K : List Kn) (n : Int) : List Int := match K.find? (fun y => y.n == n) with | some y => y.o :: y.q | none => []
section
variable {R : List Rn} {K K' : List Kn} {L : List Kw} {x : Rn} {n k : Int}
theorem qN_mem (uk : (K.map (·.n)).Pairwise (· < ·)) {y : Kn} (hy : y ∈ K) : qN K y.n = y.o :: y.q := by
  unfold qN
  cases hf : K.find? (fun z => z.n == y.n) with
  | none => exact absurd (List.find?_eq_none.1 hf y hy) (by simp)
  | some z =>
    have := uniq (fun z : Kn => z.n) uk (List.mem_of_find?_eq_some hf) hy (by simpa using List.find?_some hf)
    simp only [this]
theorem qN_none (h : ∀ y ∈ K, y.n ≠ n) : qN K n = [] := by
  unfold qN
  rw [List.find?_eq_none.2 (fun y hy => by simpa using h y hy)]
theorem qN_cases (uk : (K.map (·.n)).Pairwise (· < ·)) (n : Int) : (qN K n = [] ∧ ∀ y ∈ K, y.n ≠ n) ∨ ∃ y ∈ K, y.n = n ∧ qN K n = y.o :: y.q := by
  by_cases h : ∃ y ∈ K, y.n = n
  · obtain ⟨y, hy, rfl⟩ := h
    exact .inr ⟨y, hy, rfl, qN_mem uk hy⟩
  · have h2 : ∀ y ∈ K, y.n ≠ n := fun y hy e => h ⟨y, hy, e⟩
    exact .inl ⟨qN_none h2, h2⟩
theorem qN_same (uk : (K.map (·.n)).Pairwise (· < ·)) (uk' : (K'.map (·.n)).Pairwise (· < ·)) (h : ∀ y : Kn, y.n = k → (y ∈ K' ↔ y ∈ K)) : qN K' k = qN K k := by
  rcases qN_cases uk k with ⟨e, hn⟩ | ⟨y, hy, hk, e⟩
  · rw [e, qN_none (fun y hy hk => hn y ((h y hk).1 hy) hk)]
  · rw [e, ← hk]
    exact qN_mem uk' ((h y hk).2 hy)
theorem ownK_q : ownK K n = (qN K n).headD 0 := by
  unfold ownK qN
  cases K.find? (fun y => y.n == n) <;> rfl
theorem qN_head (uk : (K.map (·.n)).Pairwise (· < ·)) {i : Int} {t : List Int} (h : qN K n = i :: t) : ∃ y ∈ K, y.n = n ∧ y.o = i ∧ y.q = t := by
  rcases qN_cases uk n with ⟨e, _⟩ | ⟨y, hy, hk, e⟩
  · rw [e] at h; cases h
  · rw [e] at h
    injection h with h1 h2
    exact ⟨y, hy, hk, h1, h2⟩
theorem ownerA_q (g : Good R (L.map (·.1))) (n : Int) : ownerA R L n = (qN (L.map (·.1)) n).headD 0 := by
  unfold ownerA
  rw [if_pos (scE_good g), ownerF_K, ownK_q]
theorem take_turn (g : Good R (L.map (·.1))) (hx : x ∈ R) (hs : x.s = 0) (hn : 1 ≤ n ∧ n ≤ 40) :
    ((∃ t, qN (L.map (·.1)) n = x.i :: t) ∧ (takeR R L x.i n).2.2 = 231) ∨
    ((takeR R L x.i n).2.2 = 0 ∧ Good (takeR R L x.i n).1 (takeR R L x.i n).2.1 ∧ takeO R L x.i n = (qN (L.map (·.1)) n).isEmpty ∧ ∀ k, qN (takeR R L x.i n).2.1 k = if k = n then qN (L.map (·.1)) n ++ [x.i] else qN (L.map (·.1)) k) := by
  obtain ⟨k1, k2⟩ := atR g.ur hx
  have hs1 : (x.s == 1) = false := by rw [hs]; rfl
  have e0 : takeR R L x.i n = (if (takeF R (L.map (·.1)) (lessP (numsR R) x.i) x.i n).2.2 = 0 then takeF R (L.map (·.1)) (lessP (numsR R) x.i) x.i n else ([], [], (takeF R (L.map (·.1)) (lessP (numsR R) x.i) x.i n).2.2)) := by
    unfold takeR chgS ofF
    rw [if_pos (scE_good g), lives_ready g hx hs, if_pos rfl]
  have e1 : takeO R L x.i n = !((L.map (·.1)).map (·.n)).contains n := by
    unfold takeO takeB
    rw [if_pos (scE_good g), lives_ready g hx hs, if_pos rfl, k2, hs1, decide_eq_false (show ¬ n < 1 by omega), decide_eq_false (show ¬ (40 : Int) < n by omega)]
    rfl
  rcases qN_cases g.uk n with ⟨eq, hno⟩ | ⟨y, hy, hyn, eq⟩
  · have hc : ((L.map (·.1)).map (·.n)).contains n = false := by
      cases hc : ((L.map (·.1)).map (·.n)).contains n
      · rfl
      · obtain ⟨_, h2, h3⟩ := at_num (fun y : Kn => y.n) g.uk kn0 hc
        exact absurd h2 (hno _ h3)
    obtain ⟨t1, t2, _⟩ := take_good g hx hs hn (fun y hy e => absurd e (hno y hy))
    have e : takeF R (L.map (·.1)) (lessP (numsR R) x.i) x.i n = (R, insL (lessP ((L.map (·.1)).map (·.n)) n) ⟨n, x.i, []⟩ (L.map (·.1)), 0) := by
      unfold takeF
      rw [k2, hs1, decide_eq_false (show ¬ n < 1 by omega), decide_eq_false (show ¬ (40 : Int) < n by omega), hc]
      simp
    refine .inr ⟨t1, t2, by rw [e1, hc, eq]; rfl, fun k => ?_⟩
    have uk2 := t2.uk
    rw [e0, e, if_pos rfl] at uk2 ⊢
    by_cases hk : k = n
    · subst hk
      rw [if_pos rfl, eq]
      exact qN_mem (y := ⟨k, x.i, []⟩) uk2 (mem_insL.2 (.inl rfl))
    · rw [if_neg hk]
      refine qN_same g.uk uk2 fun y hy => ⟨fun h => ?_, fun h => mem_insL.2 (.inr h)⟩
      rcases mem_insL.1 h with rfl | h
      · exact absurd hy.symm hk
      · exact h
  · have hc : ((L.map (·.1)).map (·.n)).contains n = true := by rw [← hyn]; exact contK hy
    have hyat := at_mem (fun y : Kn => y.n) g.uk kn0 hy
    rw [hyn] at hyat
    by_cases ho : y.o = x.i
    · refine .inl ⟨⟨y.q, by rw [eq, ho]⟩, ?_⟩
      have e : takeF R (L.map (·.1)) (lessP (numsR R) x.i) x.i n = ([], [], 231) := by
        unfold takeF
        rw [k2, hs1, decide_eq_false (show ¬ n < 1 by omega), decide_eq_false (show ¬ (40 : Int) < n by omega), hc, hyat, ho]
        simp
      rw [e0, e]
      rfl
    · obtain ⟨t1, t2, _⟩ := take_good g hx hs hn (fun z hz e h9 => ho (by rw [uniq (fun z : Kn => z.n) g.uk hy hz (hyn.trans e.symm)]; exact h9))
      have e : takeF R (L.map (·.1)) (lessP (numsR R) x.i) x.i n = (R.set (lessP (numsR R) x.i) ⟨x.i, 1, n⟩, (L.map (·.1)).set (lessP ((L.map (·.1)).map (·.n)) n) ⟨n, y.o, y.q ++ [x.i]⟩, 0) := by
        unfold takeF
        rw [k2, hs1, decide_eq_false (show ¬ n < 1 by omega), decide_eq_false (show ¬ (40 : Int) < n by omega), hc, hyat, beq_eq_false_iff_ne.2 ho, hyn]
        simp only [Bool.or_self, Bool.false_eq_true, ↓reduceIte]
      have uk2 := t2.uk
      refine .inr ⟨t1, t2, by rw [e1, hc, eq]; rfl, fun k => ?_⟩
      rw [e0, e, if_pos rfl] at uk2 ⊢
      obtain ⟨_, m2⟩ := rise_set (fun z : Kn => z.n) g.uk kn0 (x := ⟨n, y.o, y.q ++ [x.i]⟩) hc
      by_cases hk : k = n
      · subst hk
        rw [if_pos rfl, eq]
        exact qN_mem (y := ⟨k, y.o, y.q ++ [x.i]⟩) uk2 ((m2 _).2 (.inl rfl))
      · rw [if_neg hk]
        refine qN_same g.uk uk2 fun z hz => ⟨fun h => ?_, fun h => (m2 z).2 (.inr ⟨h, fun e9 => hk (hz.symm.trans e9)⟩)⟩
        rcases (m2 z).1 h with rfl | h
        · exact absurd hz.symm hk
        · exact h.1
theorem giveN_q (g : Good R K) {y : Kn} (hy : y ∈ K) (k : Int) : qN (giveN R K y.n).2 k = if k = y.n then (qN K k).tail else qN K k := by
  obtain ⟨uk2, m, _⟩ := give_two (R := R) g.uk hy
  by_cases hk : k = y.n
  · subst hk
    rw [if_pos rfl, qN_mem g.uk hy]
    rcases hq : y.q with _ | ⟨h, t⟩
    · exact qN_none fun z hz e => by
        rcases (m z).1 hz with h | ⟨h, t, h2, _⟩
        · exact h.2 e
        · rw [hq] at h2; cases h2
    · exact qN_mem (y := ⟨y.n, h, t⟩) uk2 ((m _).2 (.inr ⟨h, t, hq, rfl⟩))
  · rw [if_neg hk]
    refine qN_same g.uk uk2 fun z hz => ⟨fun h => ?_, fun h => (m z).2 (.inl ⟨h, fun e => hk (hz.symm.trans e)⟩)⟩
    rcases (m z).1 h with h | ⟨_, _, _, rfl⟩
    · exact h.1
    · exact absurd hz.symm hk
theorem give_turn (g : Good R (L.map (·.1))) (hx : x ∈ R) (hs : x.s = 0) (n : Int) :
    ((∃ t, qN (L.map (·.1)) n = x.i :: t) ∧ (giveR R L x.i n).2.2 = 0 ∧ Good (giveR R L x.i n).1 (giveR R L x.i n).2.1 ∧ ∀ k, qN (giveR R L x.i n).2.1 k = if k = n then (qN (L.map (·.1)) k).tail else qN (L.map (·.1)) k) ∨
    ((∀ t, qN (L.map (·.1)) n ≠ x.i :: t) ∧ (giveR R L x.i n).2.2 ≠ 0) := by
  by_cases ho : ∃ t, qN (L.map (·.1)) n = x.i :: t
  · obtain ⟨t, ht⟩ := ho
    obtain ⟨y, hy, rfl, hyo, _⟩ := qN_head g.uk ht
    rw [give_good g hx hs hy hyo]
    exact .inl ⟨⟨t, ht⟩, rfl, (g.give hy).1, fun k => giveN_q g hy k⟩
  · refine .inr ⟨fun t ht => ho ⟨t, ht⟩, ?_⟩
    have hne : (ownK (L.map (·.1)) n != x.i) = true := by
      rw [ownK_q, bne_iff_ne]
      intro e
      have hb := g.rb x hx
      rcases hq : qN (L.map (·.1)) n with _ | ⟨i, t⟩
      · rw [hq] at e
        have e : (0 : Int) = x.i := e
        omega
      · rw [hq] at e
        have e : i = x.i := e
        exact ho ⟨t, by rw [hq, e]⟩
    unfold giveR chgS ofF giveF
    rw [if_pos (scE_good g), lives_ready g hx hs, if_pos rfl, hne, if_pos rfl]
    by_cases hb : (decide (n < 1) || decide ((40 : Int) < n)) = true
    · rw [if_pos hb]; decide
    · rw [if_neg hb]; decide
theorem giveAll_q (hs : x.s = 0) : ∀ (l : List Int) {R : List Rn} {K : List Kn}, Good R K → x ∈ R → l.Nodup → (∀ n ∈ l, ∃ y ∈ K, y.n = n ∧ y.o = x.i) → ∀ k, qN (giveAll R K l).2 k = if k ∈ l then (qN K k).tail else qN K k
  | [], R, K, _, _, _, _, k => by simp [giveAll]
  | n :: l, R, K, g, hx, hn, hl, k => by
    obtain ⟨y, hy, rfl, hyo⟩ := hl n (List.mem_cons_self ..)
    rw [List.nodup_cons] at hn
    obtain ⟨g1, _⟩ := g.give hy
    obtain ⟨b1, _, _, _, b5⟩ := give_beside g hx hs hy
    rw [giveAll, giveAll_q hs l g1 b1 hn.2 (fun m hm => by
      obtain ⟨v, hv, hvn, hvo⟩ := hl m (List.mem_cons_of_mem _ hm)
      exact ⟨v, b5 v hv (fun e => hn.1 (by rw [← e, hvn]; exact hm)), hvn, hvo⟩) k, giveN_q g hy]
    by_cases hk : k = y.n
    · subst hk
      rw [if_neg hn.1, if_pos rfl, if_pos (List.mem_cons_self ..)]
    · simp only [hk, List.mem_cons, false_or, ↓reduceIte, if_false]
theorem end_turn (g : Good R (L.map (·.1))) (hx : x ∈ R) (hs : x.s = 0) (k : Int) : qN (endR R L x.i).2.1 k = if (qN (L.map (·.1)) k).head? = some x.i then (qN (L.map (·.1)) k).tail else qN (L.map (·.1)) k := by
  obtain ⟨k1, k2⟩ := atR g.ur hx
  have hxn : x.n = 0 := (g.st x hx).2.2 (by omega)
  have hon : ∀ n ∈ ownsN (L.map (·.1)) x.i, ∃ y ∈ L.map (·.1), y.n = n ∧ y.o = x.i := fun n hn => by
    obtain ⟨y, hy, rfl⟩ := List.mem_map.1 hn
    rw [List.mem_filter] at hy
    exact ⟨y, hy.1, rfl, by simpa using hy.2⟩
  have hnd : (ownsN (L.map (·.1)) x.i).Nodup := (g.uk.sublist (List.filter_sublist.map _)).imp (fun h => by omega)
  have e : (endR R L x.i).2.1 = (giveAll R (L.map (·.1)) (ownsN (L.map (·.1)) x.i)).2 := by
    unfold endR chgS ofF endF
    rw [if_pos (scE_good g), lives_ready g hx hs, if_pos rfl, if_pos rfl, k2, hxn]
    show leaveN _ _ _ = _
    unfold leaveN
    rw [if_neg]
    intro hc
    have g1 := (Good.all hs _ g hx hnd hon).1
    obtain ⟨z, hz, h0⟩ := List.mem_map.1 (List.contains_iff_mem.1 hc)
    have := g1.kb z hz
    omega
  rw [e, giveAll_q hs _ g hx hnd hon k]
  have hi : k ∈ ownsN (L.map (·.1)) x.i ↔ (qN (L.map (·.1)) k).head? = some x.i := by
    constructor
    · intro h
      obtain ⟨y, hy, rfl, ho⟩ := hon k h
      rw [qN_mem g.uk hy, ← ho]
      rfl
    · intro h
      rcases hq : qN (L.map (·.1)) k with _ | ⟨i, t⟩
      · rw [hq] at h; cases h
      · rw [hq] at h
        obtain ⟨y, hy, rfl, ho, _⟩ := qN_head g.uk hq
        have h : some i = some x.i := h
        exact List.mem_map.2 ⟨y, List.mem_filter.2 ⟨hy, by rw [ho]; simpa using h⟩, rfl⟩
  simp only [hi]
end
end Go.Proofs.Ytolalbpjaebfdaa
