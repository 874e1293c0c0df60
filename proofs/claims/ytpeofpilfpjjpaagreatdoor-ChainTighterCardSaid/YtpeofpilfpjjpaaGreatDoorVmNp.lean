/-
  A run as a list of machines and numbers: plain.
-/
import Derived.Test.YtpeofpilfpjjpaaGreatDoorChkP
import Derived.Test.YtpeofpilfpjjpaaGreatDoorAluU
import Derived.Test.YtpeofpilfpjjpaaGreatDoorDatN
import Derived.Test.YtpeofpilfpjjpaaGreatDoorVmM
import Derived.Test.YtpeofpilfpjjpaaGreatDoorVmA
import Derived.Test.YtpeofpilfpjjpaaGreatDoorVmH
namespace Go.Proofs.YtpeofpilfpjjpaaGreatDoor
open Go.RowKit
set_option linter.unusedVariables false

def pairV (f : Nat → Ins) (d : Int → Int) : Nat → VmS → List (VmS × Int)
  | 0, _ => []
  | n + 1, s => match stepV alI hdI (f s.pc) d s with
    | (some r, _) => [(s, r)]
    | (none, s') => (s, 0) :: pairV f d n s'
section
variable {f : Nat → Ins} {d : Int → Int}
theorem pair_len : ∀ (k : Nat) (s : VmS), (pairV f d k s).length ≤ k := by
  intro k
  induction k with
  | zero => intro s; simp [pairV]
  | succ k ih =>
    intro s
    simp only [pairV]
    cases stepV alI hdI (f s.pc) d s with
    | mk r s' =>
      cases r with
      | some r => simp
      | none => have := ih s'; simp; omega
theorem pair_fst : ∀ (k : Nat) (s : VmS), (pairV f d k s).map (·.1) = (runV alI hdI f d k s).1 := by
  intro k
  induction k with
  | zero => intro s; rfl
  | succ k ih =>
    intro s
    simp only [pairV, runV]
    cases stepV alI hdI (f s.pc) d s with
    | mk r s' =>
      cases r with
      | some r => rfl
      | none => simp [ih s']
/-- What the last one of them returns. -/
def lastV (l : List (VmS × Int)) : Int := match l.getLast? with | some x => x.2 | none => 0
theorem last_snoc (l : List (VmS × Int)) (x : VmS × Int) : lastV (l ++ [x]) = x.2 := by simp [lastV]
theorem last_cons (x y : VmS × Int) (l : List (VmS × Int)) : lastV (x :: y :: l) = lastV (y :: l) := by simp [lastV, List.getLast?_cons_cons]
theorem pair_last : ∀ (k : Nat) (s : VmS) {r : Int}, (runV alI hdI f d k s).2 = some r → lastV (pairV f d k s) = r ∧ pairV f d k s ≠ [] := by
  intro k
  induction k with
  | zero => intro s r h; simp [runV] at h
  | succ k ih =>
    intro s r h
    simp only [pairV, runV] at h ⊢
    cases hst : stepV alI hdI (f s.pc) d s with
    | mk q s' =>
      rw [hst] at h
      cases q with
      | some q =>
        simp only at h ⊢
        injection h with h
        subst h
        exact ⟨by simp [lastV], by simp⟩
      | none =>
        simp only at h ⊢
        obtain ⟨h1, h2⟩ := ih s' h
        refine ⟨?_, by simp⟩
        cases hp : pairV f d k s' with
        | nil => exact absurd hp h2
        | cons y l => rw [hp] at h1; rw [last_cons]; exact h1
variable {n : Nat}
theorem step_fwd {s s' : VmS} (hM : May f n) (ho : ∀ i, i < n → insO (f i)) (hs : s.pc < n) (h : stepV alI hdI (f s.pc) d s = (none, s')) : s.pc < s'.pc ∧ s'.pc < n := by
  have hn := hM.hi
  obtain ⟨h1, _, h4, _⟩ := oneL_ok (hM.one s.pc hs)
  exact (may_goes hM ho).ok s.pc hs _ (step_next h (by omega) (form_row h1) (fun e => by have := h4 e; omega))
theorem pair_fuel (hM : May f n) (ho : ∀ i, i < n → insO (f i)) : ∀ (k k' : Nat) (s : VmS), s.pc < n → n - s.pc ≤ k → n - s.pc ≤ k' → pairV f d k s = pairV f d k' s := by
  intro k
  induction k with
  | zero => intro k' s hs hk; omega
  | succ k ih =>
    intro k' s hs hk hk'
    obtain ⟨m, rfl⟩ : ∃ m, k' = m + 1 := ⟨k' - 1, by omega⟩
    simp only [pairV]
    cases hst : stepV alI hdI (f s.pc) d s with
    | mk r s' =>
      cases r with
      | some r => rfl
      | none =>
        obtain ⟨h1, h2⟩ := step_fwd hM ho hs hst
        simp only
        rw [ih m s' h2 (by omega) (by omega)]
/-- All that comes from a machine on. -/
def restV (f : Nat → Ins) (d : Int → Int) (n : Nat) (s : VmS) : List (VmS × Int) := pairV f d (n - s.pc) s
theorem rest_go (hM : May f n) (ho : ∀ i, i < n → insO (f i)) {s s' : VmS} (hs : s.pc < n) (h : stepV alI hdI (f s.pc) d s = (none, s')) : restV f d n s = (s, 0) :: restV f d n s' := by
  obtain ⟨h1, h2⟩ := step_fwd hM ho hs h
  obtain ⟨m, hm⟩ : ∃ m, n - s.pc = m + 1 := ⟨n - s.pc - 1, by omega⟩
  unfold restV
  rw [hm]
  simp only [pairV, h]
  rw [pair_fuel hM ho m (n - s'.pc) s' h2 (by omega) (by omega)]
theorem rest_ret {s s' : VmS} {r : Int} (hs : s.pc < n) (h : stepV alI hdI (f s.pc) d s = (some r, s')) : restV f d n s = [(s, r)] := by
  obtain ⟨m, hm⟩ : ∃ m, n - s.pc = m + 1 := ⟨n - s.pc - 1, by omega⟩
  unfold restV
  rw [hm]
  simp only [pairV, h]
theorem rest_len (s : VmS) : (restV f d n s).length ≤ n := by have := pair_len (f := f) (d := d) (n - s.pc) s; unfold restV; omega
/-- The whole of it. -/
def allV (f : Nat → Ins) (d : Int → Int) (n : Nat) : List (VmS × Int) := restV f d n vm0
theorem all_len : (allV f d n).length ≤ n := rest_len vm0
/-- What a run returns. -/
def retV (f : Nat → Ins) (d : Int → Int) (n : Nat) : Int := lastV (allV f d n)
end
/-- Its numbers are as wide as their kinds. -/
structure VmOk (s : VmS) : Prop where
  a : U32 s.a
  x : U32 s.x
  len : s.mem.length = 16
  mem : U32s s.mem
theorem vm0_ok : VmOk vm0 := ⟨by unfold U32 vm0; simp, by unfold U32 vm0; simp, by simp [vm0], fun z hz => by
  simp only [vm0, List.mem_replicate] at hz
  rw [hz.2]
  unfold U32; omega⟩
theorem set_U32 {l : List Int} (h : U32s l) (k : Nat) {v : Int} (hv : U32 v) : U32s (l.set k v) := by
  intro z hz
  rcases List.mem_or_eq_of_mem_set hz with h1 | h1
  · exact h z h1
  · rw [h1]; exact hv
theorem eff_ok {q : Ins} {d : Int → Int} {s : VmS} {e : Int × Int × List Int} (hq : insO q) (hd : ∀ o, U32 (d o)) (hs : VmOk s) (h : effV alI q d s = some e) : U32 e.1 ∧ U32 e.2.1 ∧ e.2.2.length = 16 ∧ U32s e.2.2 := by
  have hk : U32 q.2.2.2 := ⟨hq.k0, hq.k1⟩
  have h64 : U32 64 := by unfold U32; omega
  have hm : ∀ n, U32 (s.mem.getD n 0) := fun n => hs.mem.at_ n
  have hl := hs.len
  have hM := hs.mem
  have ha := hs.a
  have hx := hs.x
  unfold effV at h
  by_cases c32 : q.1 = 32
  · rw [if_pos c32] at h; injection h with h; subst h; exact ⟨hd _, hx, hl, hM⟩
  rw [if_neg c32] at h
  by_cases c128 : q.1 = 128
  · rw [if_pos c128] at h; injection h with h; subst h; exact ⟨h64, hx, hl, hM⟩
  rw [if_neg c128] at h
  by_cases c129 : q.1 = 129
  · rw [if_pos c129] at h; injection h with h; subst h; exact ⟨ha, h64, hl, hM⟩
  rw [if_neg c129] at h
  by_cases c0 : q.1 = 0
  · rw [if_pos c0] at h; injection h with h; subst h; exact ⟨hk, hx, hl, hM⟩
  rw [if_neg c0] at h
  by_cases c1 : q.1 = 1
  · rw [if_pos c1] at h; injection h with h; subst h; exact ⟨ha, hk, hl, hM⟩
  rw [if_neg c1] at h
  by_cases c96 : q.1 = 96
  · rw [if_pos c96] at h; injection h with h; subst h; exact ⟨hm _, hx, hl, hM⟩
  rw [if_neg c96] at h
  by_cases c97 : q.1 = 97
  · rw [if_pos c97] at h; injection h with h; subst h; exact ⟨ha, hm _, hl, hM⟩
  rw [if_neg c97] at h
  by_cases c2 : q.1 = 2
  · rw [if_pos c2] at h; injection h with h; subst h; exact ⟨ha, hx, by simpa using hl, set_U32 hM _ ha⟩
  rw [if_neg c2] at h
  by_cases c3 : q.1 = 3
  · rw [if_pos c3] at h; injection h with h; subst h; exact ⟨ha, hx, by simpa using hl, set_U32 hM _ hx⟩
  rw [if_neg c3] at h
  by_cases c7 : q.1 = 7
  · rw [if_pos c7] at h; injection h with h; subst h; exact ⟨ha, ha, hl, hM⟩
  rw [if_neg c7] at h
  by_cases c135 : q.1 = 135
  · rw [if_pos c135] at h; injection h with h; subst h; exact ⟨hx, hx, hl, hM⟩
  rw [if_neg c135] at h
  rw [Option.map_eq_some_iff] at h
  obtain ⟨v, hv, rfl⟩ := h
  exact ⟨al_U32 ha (by by_cases hc : q.1 % 16 = 12; rw [if_pos hc]; exact hx; rw [if_neg hc]; exact hk) hv, hx, hl, hM⟩
theorem step_ok {q : Ins} {d : Int → Int} {s s' : VmS} {r : Option Int} (hq : insO q) (hd : ∀ o, U32 (d o)) (hs : VmOk s) (h : stepV alI hdI q d s = (r, s')) : VmOk s' := by
  unfold stepV at h
  by_cases c6 : q.1 = 6
  · rw [if_pos c6] at h; injection h with _ h; subst h; exact hs
  rw [if_neg c6] at h
  by_cases c22 : q.1 = 22
  · rw [if_pos c22] at h; injection h with _ h; subst h; exact hs
  rw [if_neg c22] at h
  by_cases c5 : q.1 = 5
  · rw [if_pos c5] at h; injection h with _ h; subst h; exact ⟨hs.a, hs.x, hs.len, hs.mem⟩
  rw [if_neg c5] at h
  by_cases cj : formOf q.1 = 5 ∨ formOf q.1 = 6
  · rw [if_pos cj] at h; injection h with _ h; subst h; exact ⟨hs.a, hs.x, hs.len, hs.mem⟩
  rw [if_neg cj] at h
  cases he : effV alI q d s with
  | none => rw [he] at h; injection h with _ h; subst h; exact hs
  | some e =>
    obtain ⟨h1, h2, h3, h4⟩ := eff_ok hq hd hs he
    rw [he] at h
    injection h with _ h
    subst h
    exact ⟨h1, h2, h3, h4⟩
end Go.Proofs.YtpeofpilfpjjpaaGreatDoor
