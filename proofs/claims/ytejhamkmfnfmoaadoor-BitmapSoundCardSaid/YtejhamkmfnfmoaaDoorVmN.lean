/-
  The machines ahead of each step, each with what that step returns; what a round that takes them keeps: plain lemmas.
-/
import Derived.Test.YtejhamkmfnfmoaaDoorVmQ
import Derived.RangeFuncWrites
namespace Go.Proofs.YtejhamkmfnfmoaaDoor
open Go.RowKit

def pairV (f : Nat → Ins) (d : Int → Int) : Nat → VmS → List (VmS × Int)
  | 0, _ => []
  | n + 1, s => match stepV alI hdI (f s.pc) d s with
    | (some r, _) => [(s, r)]
    | (none, s') => (s, 0) :: pairV f d n s'
section
variable {f : Nat → Ins} {d : Int → Int}
theorem pair_len : ∀ (k : Nat) (s : VmS), (pairV f d k s).length ≤ k := by
  intro k
  induction k with
  | zero => intro s; simp [pairV]
  | succ k ih =>
    intro s
    simp only [pairV]
    cases stepV alI hdI (f s.pc) d s with
    | mk r s' =>
      cases r with
      | some r => simp
      | none => have := ih s'; simp; omega
theorem pair_fst : ∀ (k : Nat) (s : VmS), (pairV f d k s).map (·.1) = (runV alI hdI f d k s).1 := by
  intro k
  induction k with
  | zero => intro s; rfl
  | succ k ih =>
    intro s
    simp only [pairV, runV]
    cases stepV alI hdI (f s.pc) d s with
    | mk r s' =>
      cases r with
      | some r => rfl
      | none => simp [ih s']
/-- What the last one of them returns. -/
def lastV (l : List (VmS × Int)) : Int := match l.getLast? with | some x => x.2 | none => 0
theorem last_snoc (l : List (VmS × Int)) (x : VmS × Int) : lastV (l ++ [x]) = x.2 := by simp [lastV]
theorem last_cons (x y : VmS × Int) (l : List (VmS × Int)) : lastV (x :: y :: l) = lastV (y :: l) := by simp [lastV, List.getLast?_cons_cons]
theorem pair_last : ∀ (k : Nat) (s : VmS) {r : Int}, (runV alI hdI f d k s).2 = some r → lastV (pairV f d k s) = r ∧ pairV f d k s ≠ [] := by
  intro k
  induction k with
  | zero => intro s r h; simp [runV] at h
  | succ k ih =>
    intro s r h
    simp only [pairV, runV] at h ⊢
    cases hst : stepV alI hdI (f s.pc) d s with
    | mk q s' =>
      rw [hst] at h
      cases q with
      | some q =>
        simp only at h ⊢
        injection h with h
        subst h
        exact ⟨by simp [lastV], by simp⟩
      | none =>
        simp only at h ⊢
        obtain ⟨h1, h2⟩ := ih s' h
        refine ⟨?_, by simp⟩
        cases hp : pairV f d k s' with
        | nil => exact absurd hp h2
        | cons y l => rw [hp] at h1; rw [last_cons]; exact h1
variable {n : Nat}
theorem step_fwd {s s' : VmS} (hM : May f n) (ho : ∀ i, i < n → insO (f i)) (hs : s.pc < n) (h : stepV alI hdI (f s.pc) d s = (none, s')) : s.pc < s'.pc ∧ s'.pc < n := by
  have hn := hM.hi
  obtain ⟨h1, _, h4, _⟩ := oneL_ok (hM.one s.pc hs)
  exact (may_goes hM ho).ok s.pc hs _ (step_next h (by omega) (form_row h1) (fun e => by have := h4 e; omega))
theorem pair_fuel (hM : May f n) (ho : ∀ i, i < n → insO (f i)) : ∀ (k k' : Nat) (s : VmS), s.pc < n → n - s.pc ≤ k → n - s.pc ≤ k' → pairV f d k s = pairV f d k' s := by
  intro k
  induction k with
  | zero => intro k' s hs hk; omega
  | succ k ih =>
    intro k' s hs hk hk'
    obtain ⟨m, rfl⟩ : ∃ m, k' = m + 1 := ⟨k' - 1, by omega⟩
    simp only [pairV]
    cases hst : stepV alI hdI (f s.pc) d s with
    | mk r s' =>
      cases r with
      | some r => rfl
      | none =>
        obtain ⟨h1, h2⟩ := step_fwd hM ho hs hst
        simp only
        rw [ih m s' h2 (by omega) (by omega)]
/-- All that comes from a machine on. -/
def restV (f : Nat → Ins) (d : Int → Int) (n : Nat) (s : VmS) : List (VmS × Int) := pairV f d (n - s.pc) s
theorem rest_go (hM : May f n) (ho : ∀ i, i < n → insO (f i)) {s s' : VmS} (hs : s.pc < n) (h : stepV alI hdI (f s.pc) d s = (none, s')) : restV f d n s = (s, 0) :: restV f d n s' := by
  obtain ⟨h1, h2⟩ := step_fwd hM ho hs h
  obtain ⟨m, hm⟩ : ∃ m, n - s.pc = m + 1 := ⟨n - s.pc - 1, by omega⟩
  unfold restV
  rw [hm]
  simp only [pairV, h]
  rw [pair_fuel hM ho m (n - s'.pc) s' h2 (by omega) (by omega)]
theorem rest_ret {s s' : VmS} {r : Int} (hs : s.pc < n) (h : stepV alI hdI (f s.pc) d s = (some r, s')) : restV f d n s = [(s, r)] := by
  obtain ⟨m, hm⟩ : ∃ m, n - s.pc = m + 1 := ⟨n - s.pc - 1, by omega⟩
  unfold restV
  rw [hm]
  simp only [pairV, h]
theorem rest_len (s : VmS) : (restV f d n s).length ≤ n := by have := pair_len (f := f) (d := d) (n - s.pc) s; unfold restV; omega
/-- The whole of it. -/
def allV (f : Nat → Ins) (d : Int → Int) (n : Nat) : List (VmS × Int) := restV f d n vm0
theorem all_len : (allV f d n).length ≤ n := rest_len vm0
/-- What a run returns. -/
def retV (f : Nat → Ins) (d : Int → Int) (n : Nat) : Int := lastV (allV f d n)
end

/-- What a round keeps: what lay below n₀, and the machines, the programs and the data in boxes. -/
def KeptO (o : Obj) : Prop := o.isWalk = true ∨ ∃ cs t fz, o = .cells cs t fz ∧ (t = 25 ∧ cs.size = 19 ∨ t = 33 ∨ t = 51)
def KeepV (n₀ : Nat) (W W' : World) : Prop := Below n₀ W W' ∧ ∀ (k : Nat) (o : Obj), W.heap[k]? = some o → KeptO o → W'.heap[k]? = some o
theorem keepV_refl (n₀ : Nat) (W : World) : KeepV n₀ W W := ⟨Below.refl _ _, fun _ _ h _ => h⟩
theorem keepV_t {n₀ : Nat} {A B C : World} (h : KeepV n₀ A B) (k : KeepV n₀ B C) : KeepV n₀ A C := ⟨h.1.trans k.1, fun j o hj ho => k.2 j o (h.2 j o hj ho) ho⟩
theorem keepV_b {n₀ : Nat} {w : World} (hn : n₀ ≤ w.heap.size) (W : World) (l : Nat) (o o' : Obj) (hl : w.heap.size ≤ l) (h : W.heap[l]? = some o) (a : o.isCells = false) (b : o.isWalk = false) : KeepV n₀ W (W.putObj l o') := by
  refine ⟨belowK_b hn W l o o' hl h a b, fun j o2 hj ho => ?_⟩
  have hne : j ≠ l := by
    rintro rfl
    rw [h] at hj
    cases hj
    rcases ho with ho | ⟨cs, t, fz, rfl, _⟩
    · rw [b] at ho; cases ho
    · cases a
  exact (World.putObj_heap_other hne).trans hj
theorem keepV_below {n₀ : Nat} {W W' : World} (h : Below W.heap.size W W') (hn : n₀ ≤ W.heap.size) : KeepV n₀ W W' := ⟨h.mono hn, fun j _ hj _ => (h.block j (Array.getElem?_eq_some_iff.1 hj).1).trans hj⟩
theorem KeepV.mono {n₀ n₁ : Nat} {w w' : World} (h : KeepV n₁ w w') (hn : n₀ ≤ n₁) : KeepV n₀ w w' := ⟨h.1.mono hn, h.2⟩
theorem KeepV.blk {n₀ : Nat} {w w' : World} (h : KeepV n₀ w w') {g : Nat} {cs : Array Value} {t : TypeId} (k : Blk w g cs t) (ht : t = 25 ∧ cs.size = 19 ∨ t = 33 ∨ t = 51) : Blk w' g cs t := ⟨h.2 g _ k.blk (.inr ⟨cs, t, _, rfl, ht⟩)⟩
/-- A box of another kind, written. -/
theorem keepV_set {n₀ b : Nat} {w : World} {v u : Value} {t : TypeId} (hv : Boxed w b t v) (hn : n₀ ≤ b) (h1 : t ≠ 25) (h2 : t ≠ 33) (h3 : t ≠ 51) : KeepV n₀ w (w.setCell ⟨b, 0, none⟩ u) := by
  refine ⟨(Below.refl _ _).setCell (p := ⟨b, 0, none⟩) hn u, fun j o hj ho => (Below.heap_setCell w ⟨b, 0, none⟩ u j ?_).trans hj⟩
  rintro rfl
  rw [show w.heap[_]? = _ from hv] at hj
  cases hj
  rcases ho with ho | ⟨cs, t', fz, ho, h⟩
  · cases ho
  · injection ho with _ ho
    subst ho
    rcases h with ⟨h, _⟩ | h | h
    · exact h1 h
    · exact h2 h
    · exact h3 h
end Go.Proofs.YtejhamkmfnfmoaaDoor
