/-
  A machine's step and its run, as plain functions: what ends, what goes forward, what hangs on which words. What a reckoning and a test answer is left open (al, hd).
-/
import Derived.Test.YtpeofpilfpjjpaaGreatDoorHE
namespace Go.Proofs.YtpeofpilfpjjpaaGreatDoor
open Go.RowKit

/-- A machine: where it is, its two registers, its scratch words. -/
structure VmS where
  pc : Nat
  a : Int
  x : Int
  mem : List Int
def vm0 : VmS := ⟨0, 0, 0, List.replicate 16 0⟩

section
variable (al : Int → Int → Int → Option Int) (hd : Int → Int → Int → Bool)
/-- What a step that does not jump makes of the registers and the words; none: a division by nought. -/
def effV (q : Ins) (d : Int → Int) (s : VmS) : Option (Int × Int × List Int) :=
  if q.1 = 32 then some (d q.2.2.2, s.x, s.mem)
  else if q.1 = 128 then some (64, s.x, s.mem)
  else if q.1 = 129 then some (s.a, 64, s.mem)
  else if q.1 = 0 then some (q.2.2.2, s.x, s.mem)
  else if q.1 = 1 then some (s.a, q.2.2.2, s.mem)
  else if q.1 = 96 then some (s.mem.getD q.2.2.2.toNat 0, s.x, s.mem)
  else if q.1 = 97 then some (s.a, s.mem.getD q.2.2.2.toNat 0, s.mem)
  else if q.1 = 2 then some (s.a, s.x, s.mem.set q.2.2.2.toNat s.a)
  else if q.1 = 3 then some (s.a, s.x, s.mem.set q.2.2.2.toNat s.x)
  else if q.1 = 7 then some (s.a, s.a, s.mem)
  else if q.1 = 135 then some (s.x, s.x, s.mem)
  else (al q.1 s.a (if q.1 % 16 = 12 then s.x else q.2.2.2)).map fun v => (v, s.x, s.mem)
/-- A step: what is returned, if anything is; the machine behind it. -/
def stepV (q : Ins) (d : Int → Int) (s : VmS) : Option Int × VmS :=
  if q.1 = 6 then (some q.2.2.2, s)
  else if q.1 = 22 then (some s.a, s)
  else if q.1 = 5 then (none, { s with pc := s.pc + 1 + q.2.2.2.toNat })
  else if formOf q.1 = 5 ∨ formOf q.1 = 6 then (none, { s with pc := s.pc + 1 + (if hd q.1 s.a (if formOf q.1 = 5 then q.2.2.2 else s.x) = true then q.2.1.toNat else q.2.2.1.toNat) })
  else match effV al q d s with
    | some e => (none, ⟨s.pc + 1, e.1, e.2.1, e.2.2⟩)
    | none => (some 0, s)
/-- A run of so many steps at most: the machines ahead of each; what is returned. -/
def runV (f : Nat → Ins) (d : Int → Int) : Nat → VmS → List VmS × Option Int
  | 0, _ => ([], none)
  | n + 1, s => match stepV al hd (f s.pc) d s with
    | (some r, _) => ([s], some r)
    | (none, s') => (s :: (runV f d n s').1, (runV f d n s').2)
end

theorem form_4 {c : Int} : formOf c = 4 ↔ c = 5 := by
  constructor
  · intro h
    unfold formOf at h
    cases hr : rowC c with
    | none => rw [hr] at h; cases h
    | some i =>
      rw [hr] at h
      obtain ⟨hi, rfl⟩ := rowC_some hr
      have hall : ((List.range 41).all fun i => (kF i != 4) || (kC i == 5)) = true := by decide
      have := List.all_eq_true.1 hall i (List.mem_range.2 hi)
      simp only at h
      rw [h] at this
      simpa using this
  · rintro rfl; rfl

section
variable {al : Int → Int → Int → Option Int} {hd : Int → Int → Int → Bool}
/-- Where it goes is what comes next. -/
theorem step_next {q : Ins} {d : Int → Int} {s s' : VmS} (h : stepV al hd q d s = (none, s')) (hp : s.pc ≤ 255) (hf : formOf q.1 ≠ -1) (hk : formOf q.1 = 4 → q.2.2.2 ≤ 255) : s'.pc ∈ nextL q s.pc := by
  have hr : retI q = false := by
    unfold retI
    unfold stepV at h
    by_cases h6 : q.1 = 6
    · rw [if_pos h6] at h; simp at h
    · rw [if_neg h6] at h
      by_cases h22 : q.1 = 22
      · rw [if_pos h22] at h; simp at h
      · simp [h6, h22]
  have hn : ¬ (255 < s.pc ∨ formOf q.1 = -1 ∨ retI q = true ∨ formOf q.1 = 4 ∧ 255 < q.2.2.2) := by
    rintro (h1 | h1 | h1 | ⟨h1, h2⟩)
    · omega
    · exact hf h1
    · rw [hr] at h1; cases h1
    · have := hk h1; omega
  unfold nextL
  rw [if_neg hn]
  unfold stepV at h
  have h6 : ¬ q.1 = 6 := by intro e; simp [retI, e] at hr
  have h22 : ¬ q.1 = 22 := by intro e; simp [retI, e] at hr
  rw [if_neg h6, if_neg h22] at h
  by_cases h5 : q.1 = 5
  · rw [if_pos h5] at h
    rw [if_pos (form_4.2 h5)]
    injection h with _ h
    subst h
    simp
  · rw [if_neg h5] at h
    rw [if_neg (fun e => h5 (form_4.1 e))]
    by_cases hj : formOf q.1 = 5 ∨ formOf q.1 = 6
    · rw [if_pos hj] at h
      rw [if_pos hj]
      injection h with _ h
      subst h
      by_cases hab : q.2.1 = q.2.2.1
      · rw [if_pos hab]
        simp [hab]
      · rw [if_neg hab]
        by_cases hh : hd q.1 s.a (if formOf q.1 = 5 then q.2.2.2 else s.x) = true
        · simp only [hh, if_true]
          split <;> simp
        · simp only [hh]
          split <;> simp
    · rw [if_neg hj] at h
      rw [if_neg hj]
      have key : s'.pc = s.pc + 1 := by
        cases he : effV al q d s with
        | none => rw [he] at h; simp at h
        | some e =>
          rw [he] at h
          injection h with _ h
          subst h
          rfl
      rw [key]
      simp
/-- A program that may be: it returns, in as many steps as there are at most. -/
theorem run_ends {f : Nat → Ins} {n : Nat} (hM : May f n) (ho : ∀ i, i < n → insO (f i)) (d : Int → Int) : ∀ (k : Nat) (s : VmS), s.pc < n → stepsI f n s.pc ≤ k → ∃ r, (runV al hd f d k s).2 = some r ∧ 1 ≤ (runV al hd f d k s).1.length ∧ (runV al hd f d k s).1.length ≤ stepsI f n s.pc ∧ (runV al hd f d k s).1.head? = some s ∧
    (∀ t ∈ (runV al hd f d k s).1, s.pc ≤ t.pc ∧ t.pc < n) := by
  have hG := may_goes hM ho
  intro k
  induction k with
  | zero => intro s hs hk; have := steps_pos hG hs; omega
  | succ k ih =>
    intro s hs hk
    have hp := steps_pos hG hs
    have hn := hM.hi
    cases hst : stepV al hd (f s.pc) d s with
    | mk r s' =>
      cases r with
      | some r => exact ⟨r, by simp only [runV, hst], by simp only [runV, hst]; simp, by simp only [runV, hst]; simpa using hp, by simp only [runV, hst]; rfl, by
          simp only [runV, hst]
          intro t ht
          rw [List.mem_singleton] at ht
          subst ht
          exact ⟨Nat.le_refl _, hs⟩⟩
      | none =>
        have hone := hM.one s.pc hs
        obtain ⟨h1, _, h4, _⟩ := oneL_ok hone
        have hnx := step_next hst (by omega) (form_row h1) (fun e => by have := h4 e; omega)
        obtain ⟨h5, h6⟩ := hG.ok s.pc hs _ hnx
        have h7 := steps_next hG hs hnx
        obtain ⟨r, e1, e2, e3, e4, e5⟩ := ih s' h6 (by omega)
        refine ⟨r, by simp only [runV, hst]; exact e1, by simp only [runV, hst]; simp, by simp only [runV, hst]; simp; omega, by simp only [runV, hst]; rfl, ?_⟩
        simp only [runV, hst]
        intro t ht
        rcases List.mem_cons.1 ht with rfl | ht
        · exact ⟨Nat.le_refl _, hs⟩
        · have := e5 t ht
          exact ⟨by omega, this.2⟩
/-- More steps allowed change nothing. -/
theorem run_more {f : Nat → Ins} {d : Int → Int} : ∀ (k : Nat) (s : VmS) {r : Int}, (runV al hd f d k s).2 = some r → ∀ k', k ≤ k' → runV al hd f d k' s = runV al hd f d k s := by
  intro k
  induction k with
  | zero => intro s r h; simp [runV] at h
  | succ k ih =>
    intro s r h k' hk
    obtain ⟨j, rfl⟩ : ∃ j, k' = j + 1 := ⟨k' - 1, by omega⟩
    simp only [runV] at h ⊢
    cases hst : stepV al hd (f s.pc) d s with
    | mk q s' =>
      cases q with
      | some q => rfl
      | none =>
        rw [hst] at h
        simp only at h ⊢
        rw [ih s' h j (by omega)]
/-- It hangs on the words that it loads. -/
theorem step_sees {q : Ins} {d d' : Int → Int} (s : VmS) (h : q.1 = 32 → d' q.2.2.2 = d q.2.2.2) : stepV al hd q d' s = stepV al hd q d s := by
  have e : effV al q d' s = effV al q d s := by
    unfold effV
    by_cases h32 : q.1 = 32
    · simp only [h h32]
    · simp only [h32, if_false]
  unfold stepV
  rw [e]
theorem run_sees {f : Nat → Ins} {d d' : Int → Int} : ∀ (k : Nat) (s : VmS), (∀ t ∈ (runV al hd f d k s).1, (f t.pc).1 = 32 → d' (f t.pc).2.2.2 = d (f t.pc).2.2.2) → runV al hd f d' k s = runV al hd f d k s := by
  intro k
  induction k with
  | zero => intro s _; rfl
  | succ k ih =>
    intro s h
    have hs : s ∈ (runV al hd f d (k + 1) s).1 := by
      simp only [runV]
      cases stepV al hd (f s.pc) d s with
      | mk q s' => cases q <;> simp
    have e := step_sees (al := al) (hd := hd) s (h s hs)
    simp only [runV, e]
    cases hst : stepV al hd (f s.pc) d s with
    | mk q s' =>
      cases q with
      | some q => rfl
      | none =>
        simp only
        rw [ih s' fun t ht => h t (by simp only [runV, hst]; simp [ht])]
/-- Words put one behind the other, each as a has it: what was put is as a has it. -/
theorem put_words (a : Int → Int) (g : VmS → Option Int) : ∀ (l : List VmS) (c : Int → Int) (o : Int), ((∃ t ∈ l, g t = some o) ∨ c o = a o) → (l.foldl (fun c t => match g t with | some o => fun x => if x = o then a o else c x | none => c) c) o = a o := by
  intro l
  induction l with
  | nil => intro c o h; rcases h with ⟨t, ht, _⟩ | h; exact absurd ht (by simp); exact h
  | cons t l ih =>
    intro c o h
    rw [List.foldl_cons]
    refine ih _ o ?_
    rcases h with ⟨u, hu, e⟩ | h
    · rcases List.mem_cons.1 hu with rfl | hu
      · right
        rw [e]
        simp
      · exact .inl ⟨u, hu, e⟩
    · right
      cases hg : g t with
      | none => simpa using h
      | some p =>
        simp only
        by_cases hop : o = p
        · rw [if_pos hop, hop]
        · rw [if_neg hop]; exact h
end
end Go.Proofs.YtpeofpilfpjjpaaGreatDoor
