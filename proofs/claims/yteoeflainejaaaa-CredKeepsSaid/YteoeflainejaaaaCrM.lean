/-
  Credentials as values: what each call makes of them (plain).
-/
import Derived.Test.YteoeflainejaaaaGen
namespace Go.Proofs.Yteoeflainejaaaa
open Go.RowKit Go.Shelf
set_option linter.unusedVariables false
set_option linter.unusedSimpArgs false

/-- Credentials: Uid, Admin, NoNew, Mode. -/
abbrev Cr := Int × Bool × Bool × Int
def cr0 : Cr := (0, false, false, 0)
def crC (c : Cr) : Array Value := #[.int .i64 c.1, .bool c.2.1, .bool c.2.2.1, .int .i64 c.2.2.2]
def crV (c : Cr) : Value := .agg (crC c)
def userC (u : Int) : Bool := decide (0 ≤ u) && decide (u ≤ 9)
def rightC (c : Cr) : Bool := userC c.1 && decide (0 ≤ c.2.2.2) && decide (c.2.2.2 ≤ 2)
def chkC (c : Cr) : Int := if rightC c = true then 0 else 210
/-- What a change leaves of credentials; nothing, if they may not be, or it is refused. -/
def chgC (c : Cr) (r : Cr × Int) : Cr × Int := if rightC c = true then (if r.2 = 0 then r else (cr0, r.2)) else (cr0, 210)
def exC (c : Cr) (o : Int) (s : Bool) : Cr × Int := if userC o = true then (if s && !c.2.2.1 then ((o, (o == 0), c.2.2.1, c.2.2.2), 0) else (c, 0)) else (c, 2)
def nnC (c : Cr) : Cr × Int := ((c.1, c.2.1, true, c.2.2.2), 0)
def drC (c : Cr) (u : Int) : Cr × Int := if userC u = true then (if !c.2.1 && (u != c.1) then (c, 20) else ((u, c.2.1 && (u == 0), c.2.2.1, c.2.2.2), 0)) else (c, 2)
def stC (c : Cr) : Cr × Int := if (c.2.2.2 == 2) = true then (c, 21) else ((c.1, c.2.1, c.2.2.1, 1), 0)
def fiC (c : Cr) : Cr × Int := if (c.2.2.2 == 1) = true then (c, 21) else if !c.2.1 && !c.2.2.1 then (c, 22) else ((c.1, c.2.1, c.2.2.1, 2), 0)
def toC (a b : Cr) : Cr :=
  (if !b.2.2.1 || b.2.1 then a.1 else b.1, if !b.2.2.1 || b.2.1 then a.2.1 else b.2.1, b.2.2.1 || a.2.2.1, if b.2.2.2 == 0 then a.2.2.2 else b.2.2.2)
def sameC (a b : Cr) : Bool := (a.1 == b.1) && (a.2.1 == b.2.1) && (a.2.2.1 == b.2.2.1) && (a.2.2.2 == b.2.2.2)
def beC (a b : Cr) : Bool := rightC a && rightC b && sameC a (toC a b)
/-- As the document has it. -/
def beD (a b : Cr) : Bool :=
  rightC a && rightC b && !(b.2.2.1 && !a.2.2.1) && !(decide (0 < b.2.2.2) && (a.2.2.2 != b.2.2.2)) && !(b.2.2.1 && (a.1 != b.1) && !b.2.1) && !(b.2.2.1 && a.2.1 && !b.2.1)
theorem user_iff {u : Int} : userC u = true ↔ 0 ≤ u ∧ u ≤ 9 := by simp [userC]
theorem right_iff {c : Cr} : rightC c = true ↔ (0 ≤ c.1 ∧ c.1 ≤ 9) ∧ 0 ≤ c.2.2.2 ∧ c.2.2.2 ≤ 2 := by simp [rightC, userC, and_assoc]
theorem be_eq (a b : Cr) : beC a b = beD a b := by
  unfold beC beD
  cases ha : rightC a
  · rfl
  · cases hb : rightC b
    · rfl
    · obtain ⟨u, x, n, m⟩ := a
      obtain ⟨v, y, k, l⟩ := b
      rw [right_iff] at ha hb
      simp only at ha hb
      rw [Bool.eq_iff_iff]
      cases x <;> cases n <;> cases y <;> cases k <;> simp [sameC, toC] <;> (try split) <;> (try simp_all) <;> (try omega)
/-- Below: what it says, part by part. -/
theorem be_iff {a b : Cr} : beC a b = true ↔ rightC a = true ∧ rightC b = true ∧ (b.2.2.1 = true → a.2.2.1 = true) ∧ (b.2.2.2 ≠ 0 → a.2.2.2 = b.2.2.2) ∧ (b.2.2.1 = true → b.2.1 = false → a.1 = b.1 ∧ a.2.1 = false) := by
  obtain ⟨u, x, n, m⟩ := a
  obtain ⟨v, y, k, l⟩ := b
  unfold beC
  simp only [Bool.and_eq_true, and_assoc]
  refine and_congr_right fun ha => and_congr_right fun hb => ?_
  cases x <;> cases n <;> cases y <;> cases k <;> simp [sameC, toC] <;> (try split) <;> (try simp_all) <;> (try omega)
theorem be_refl {a : Cr} (h : rightC a = true) : beC a a = true := be_iff.2 ⟨h, h, id, fun _ => rfl, fun _ h => ⟨rfl, h⟩⟩
theorem be_trans {a b c : Cr} (h : beC a b = true) (k : beC b c = true) : beC a c = true := by
  rw [be_iff] at *
  obtain ⟨h1, h2, h3, h4, h5⟩ := h
  obtain ⟨_, k2, k3, k4, k5⟩ := k
  refine ⟨h1, k2, fun e => h3 (k3 e), fun e => ?_, fun e1 e2 => ?_⟩
  · have := k4 e
    rw [← this]
    exact h4 (by rw [this]; exact e)
  · obtain ⟨e3, e4⟩ := k5 e1 e2
    obtain ⟨e5, e6⟩ := h5 (k3 e1) e4
    exact ⟨e5.trans e3, e6⟩
/-- Whatever a change leaves is below. -/
theorem ex_below {c : Cr} (h : rightC c = true) (o : Int) (s : Bool) (e : (exC c o s).2 = 0) : beC (exC c o s).1 c = true := by
  obtain ⟨u, x, n, m⟩ := c
  unfold exC at e ⊢
  cases ho : userC o
  · rw [ho] at e; simp at e
  · simp only [if_true]
    rw [user_iff] at ho
    have h' := right_iff.1 h
    simp only at h'
    cases s <;> cases n <;> simp [be_iff, h, right_iff] <;> (try (cases x <;> simp_all <;> omega)) <;> (try omega)
theorem nn_below {c : Cr} (h : rightC c = true) : beC (nnC c).1 c = true := by
  obtain ⟨u, x, n, m⟩ := c
  have h' := right_iff.1 h
  simp only at h'
  cases x <;> simp [nnC, be_iff, right_iff] <;> omega
theorem dr_below {c : Cr} (h : rightC c = true) (o : Int) (e : (drC c o).2 = 0) : beC (drC c o).1 c = true := by
  obtain ⟨u, x, n, m⟩ := c
  have h' := right_iff.1 h
  simp only at h'
  unfold drC at e ⊢
  cases ho : userC o
  · rw [ho] at e; simp at e
  · rw [ho] at e
    rw [user_iff] at ho
    simp only [if_true] at e ⊢
    by_cases hu : o = u
    · subst hu
      cases x <;> cases n <;> simp [be_iff, right_iff] <;> omega
    · cases x <;> cases n <;> simp_all [be_iff, right_iff] <;> omega
theorem st_below {c : Cr} (h : rightC c = true) (e : (stC c).2 = 0) : beC (stC c).1 c = true := by
  obtain ⟨u, x, n, m⟩ := c
  have h' := right_iff.1 h
  simp only at h'
  unfold stC at e ⊢
  by_cases hm : m = 2
  · subst hm; simp at e
  · have h2 : (m == 2) = false := by simpa using hm
    simp only [h2] at e ⊢
    cases x <;> cases n <;> simp [be_iff, right_iff] <;> omega
theorem fi_below {c : Cr} (h : rightC c = true) (e : (fiC c).2 = 0) : beC (fiC c).1 c = true := by
  obtain ⟨u, x, n, m⟩ := c
  have h' := right_iff.1 h
  simp only at h'
  unfold fiC at e ⊢
  by_cases hm : m = 1
  · subst hm; simp at e
  · have h2 : (m == 1) = false := by simpa using hm
    simp only [h2] at e ⊢
    cases x <;> cases n <;> simp_all [be_iff, right_iff] <;> omega
theorem cr_inf (c : Cr) : (Try.prog.info? 23).map (·.size) = some (crC c).size := by
  show _ = some 4
  kernel_rfl
theorem cr_infL (c : Cr) : (Try.prog.info? 23).map (·.size) = some (crC c).toList.length := by
  show _ = some 4
  kernel_rfl
theorem cr_one (c : Cr) : (crC c).all (·.oneCell') = true := by simp [crC, Value.oneCell']
end Go.Proofs.Yteoeflainejaaaa
