/-
  The reference's reading of a line: parts between blanks, numbers as they are written; in plain lists.
-/
import Derived.Test.YtceeinljakcdkaaDoorAsmRt
namespace Go.Proofs.YtceeinljakcdkaaDoor
open Go.RowKit

def glue (x : List UInt8) : List (List UInt8) → List (List UInt8)
  | [] => [x]
  | y :: ys => (x ++ y) :: ys
def splitL : List UInt8 → List (List UInt8)
  | [] => [[]]
  | c :: r => if c = 32 then [] :: splitL r else glue [c] (splitL r)
def restR : List UInt8 → List (List UInt8)
  | [] => []
  | _ :: s => splitL s
theorem split_ne (l : List UInt8) : splitL l ≠ [] := by
  cases l with
  | nil => simp [splitL]
  | cons c r =>
    simp only [splitL]
    split
    · simp
    · cases splitL r <;> simp [glue]
theorem glue_nil {z : List (List UInt8)} (h : z ≠ []) : glue [] z = z := by
  cases z with
  | nil => exact absurd rfl h
  | cons y ys => rfl
theorem glue_glue (x y : List UInt8) (z : List (List UInt8)) : glue x (glue y z) = glue (x ++ y) z := by
  cases z <;> simp [glue]
theorem split_part (l : List UInt8) : splitL l = (partL l).1 :: restR (partL l).2 := by
  induction l with
  | nil => rfl
  | cons c r ih =>
    simp only [splitL]
    by_cases h : c = 32
    · subst h
      rw [if_pos rfl]
      rfl
    · rw [if_neg h, ih]
      have h' : (c != 32) = true := by simpa using h
      simp [partL, h', glue]
theorem rest_nil {r : List UInt8} : restR r = [] ↔ r = [] := by
  cases r with
  | nil => simp [restR]
  | cons c s => simp [restR, split_ne]
/-- A number that counts: its part is the first one left. -/
theorem read_rest (w : Nat) {r : List UInt8} (hr : blankB r) : readL w true r = match restR r with
    | [] => none
    | d :: _ => (numL w d).map fun n => (n, (partL (Lib.trimPrefix r [32])).2) := by
  rcases hr with rfl | ⟨s, rfl⟩
  · rfl
  · simp only [restR, readL, if_true, trim_cons]
    rw [split_part s]
theorem rest_tail {r : List UInt8} {d : List UInt8} {ps : List (List UInt8)} (hr : blankB r) (h : restR r = d :: ps) : restR (partL (Lib.trimPrefix r [32])).2 = ps ∧ blankB (partL (Lib.trimPrefix r [32])).2 := by
  rcases hr with rfl | ⟨s, rfl⟩
  · cases h
  · rw [trim_cons]
    simp only [restR] at h
    rw [split_part s] at h
    injection h with _ h
    exact ⟨h, part_snd s⟩
def jumpR (c : Int) (k : Nat) (ps : List (List UInt8)) : Option Ins :=
  if formOf c = 5 ∨ formOf c = 6 then match ps with
    | [d, d'] => match numL 256 d, numL 256 d' with
      | some a, some b => some (c, (a : Int), (b : Int), (k : Int))
      | _, _ => none
    | _ => none
  else if ps = [] then some (c, 0, 0, (k : Int)) else none
def tailR (c : Int) (ps : List (List UInt8)) : Option Ins :=
  if formOf c ≠ 0 ∧ formOf c ≠ 6 then match ps with
    | [] => none
    | d :: ps' => match numL 4294967296 d with
      | some k => jumpR c k ps'
      | none => none
  else jumpR c 0 ps
theorem jump_eq (c : Int) (hc : 0 ≤ formOf c) (k : Nat) (r : List UInt8) (hr : blankB r) : (match readL 256 (bareJ c 1 != 0) r with
      | none => none
      | some (a, r2) => match readL 256 (bareJ c 1 != 0) r2 with
        | none => none
        | some (b, r3) => if r3 = [] then some (c, (a : Int), (b : Int), (k : Int)) else none) = jumpR c k (restR r) := by
  unfold jumpR
  by_cases h : formOf c = 5 ∨ formOf c = 6
  · have e : (bareJ c 1 != 0) = true := by unfold bareJ; rw [if_pos (by rcases h with h | h <;> simp [h])]; rfl
    rw [if_pos h, e, read_rest 256 hr]
    cases h1 : restR r with
    | nil => rfl
    | cons d ps =>
      obtain ⟨t1, t2⟩ := rest_tail hr h1
      simp only
      cases ha : numL 256 d with
      | none =>
        simp only [Option.map_none]
        cases ps with
        | nil => rfl
        | cons d' ps' => cases ps' <;> simp [ha]
      | some a =>
        simp only [Option.map_some]
        rw [read_rest 256 t2, t1]
        cases ps with
        | nil => rfl
        | cons d' ps' =>
          obtain ⟨t3, t4⟩ := rest_tail t2 t1
          simp only
          cases hb : numL 256 d' with
          | none => cases ps' <;> simp [ha, hb]
          | some b =>
            simp only [Option.map_some]
            cases ps' with
            | nil => simp [ha, hb, rest_nil.1 t3]
            | cons d3 ps3 =>
              have h9 : (partL (Lib.trimPrefix (partL (Lib.trimPrefix r [32])).2 [32])).2 ≠ [] := fun h => by rw [rest_nil.2 h] at t3; cases t3
              simp [h9]
  · have e : (bareJ c 1 != 0) = false := by unfold bareJ; rw [if_neg (by intro hh; rcases hh with hh | hh | hh <;> first | exact h (.inl hh) | exact h (.inr hh) | omega)]; rfl
    rw [if_neg h, e]
    simp only [readL, Bool.false_eq_true, if_false]
    by_cases h2 : r = []
    · rw [if_pos h2, if_pos (rest_nil.2 h2)]; rfl
    · rw [if_neg h2, if_neg (fun h => h2 (rest_nil.1 h))]
theorem tail_eq (c : Int) (hc : 0 ≤ formOf c) (r : List UInt8) (hr : blankB r) : tailL c r = tailR c (restR r) := by
  unfold tailL tailR
  by_cases h : formOf c ≠ 0 ∧ formOf c ≠ 6
  · have e : (bareK c 1 != 0) = true := by unfold bareK; rw [if_neg (by intro hh; rcases hh with hh | hh; exact h.1 hh; exact h.2 hh)]; rfl
    rw [if_pos h, e, read_rest _ hr]
    cases h1 : restR r with
    | nil => rfl
    | cons d ps =>
      obtain ⟨t1, t2⟩ := rest_tail hr h1
      simp only
      cases hk : numL 4294967296 d with
      | none => rfl
      | some k =>
        simp only [Option.map_some]
        have := jump_eq c hc k _ t2
        rw [t1] at this
        exact this
  · have e : (bareK c 1 != 0) = false := by unfold bareK; rw [if_pos (by by_cases h0 : formOf c = 0; exact .inl h0; by_cases h6 : formOf c = 6; exact .inr h6; exact absurd ⟨h0, h6⟩ h)]; rfl
    rw [if_neg h, e]
    simp only [readL, Bool.false_eq_true, if_false]
    exact jump_eq c hc 0 r hr
/-! Numbers. -/
theorem rev_ind {P : List UInt8 → Prop} (h0 : P []) (h1 : ∀ l c, P l → P (l ++ [c])) (l : List UInt8) : P l := by
  rw [← l.reverse_reverse]
  induction l.reverse with
  | nil => exact h0
  | cons c r ih => rw [List.reverse_cons]; exact h1 _ _ ih
theorem head_app {l : List UInt8} (m : List UInt8) (h : l ≠ []) : (l ++ m).head? = l.head? := by
  cases l with
  | nil => exact absurd rfl h
  | cons c l => rfl
def valL (l : List UInt8) : Nat := l.foldl (fun a c => a * 10 + (c.toNat - 48)) 0
theorem val_snoc (l : List UInt8) (c : UInt8) : valL (l ++ [c]) = valL l * 10 + (c.toNat - 48) := by simp [valL]
def isD (c : UInt8) : Prop := 48 ≤ c.toNat ∧ c.toNat ≤ 57
theorem isD_of {c : UInt8} (h : isD c) : UInt8.ofNat (48 + (c.toNat - 48)) = c := by
  rw [show 48 + (c.toNat - 48) = c.toNat by have := h.1; omega]
  simp
theorem val_pos (l : List UInt8) : (∀ c ∈ l, isD c) → l ≠ [] → l.head? ≠ some 48 → 1 ≤ valL l := by
  induction l using rev_ind with
  | h0 => intro _ h; exact absurd rfl h
  | h1 l c ih =>
    intro h1 _ h3
    rw [val_snoc]
    by_cases hl : l = []
    · subst hl
      have hc := h1 c (by simp)
      have : c.toNat ≠ 48 := by
        intro e
        apply h3
        have : c = 48 := UInt8.toNat_inj.1 e
        subst this
        rfl
      have := hc.1
      omega
    · have := ih (fun c hc => h1 c (by simp [hc])) hl (by rw [head_app _ hl] at h3; exact h3)
      omega
theorem good_dec (l : List UInt8) : (∀ c ∈ l, isD c) → l ≠ [] → (1 < l.length → l.head? ≠ some 48) → Lib.decDigits (valL l) = l := by
  induction l using rev_ind with
  | h0 => intro _ h; exact absurd rfl h
  | h1 l c ih =>
    intro h1 _ h3
    have hc := h1 c (by simp)
    have hc1 := hc.1
    have hc2 := hc.2
    rw [val_snoc]
    by_cases hl : l = []
    · subst hl
      rw [show valL [] * 10 + (c.toNat - 48) = c.toNat - 48 by simp [valL], Lib.decDigits_one (by omega), isD_of hc]
      rfl
    · have hp := List.length_pos_iff.2 hl
      have hd : ∀ c ∈ l, isD c := fun c hc => h1 c (by simp [hc])
      have hh : l.head? ≠ some 48 := by
        have := h3 (by simp; omega)
        rwa [head_app _ hl] at this
      have h1v := val_pos l hd hl hh
      rw [Lib.decDigits, dif_neg (by omega), show (valL l * 10 + (c.toNat - 48)) / 10 = valL l by omega, show (valL l * 10 + (c.toNat - 48)) % 10 = c.toNat - 48 by omega, ih hd hl (fun _ => hh), isD_of hc]
theorem dec_isD (u : Nat) : ∀ c ∈ Lib.decDigits u, isD c := by
  induction u using Nat.strongRecOn with
  | _ u ih =>
    have hd : ∀ v : Fin 10, 48 ≤ (UInt8.ofNat (48 + v.val)).toNat ∧ (UInt8.ofNat (48 + v.val)).toNat ≤ 57 := by decide
    rw [Lib.decDigits]
    split
    · rename_i h
      intro c hc
      rw [List.mem_singleton] at hc
      subst hc
      exact hd ⟨u, h⟩
    · rename_i h
      intro c hc
      rcases List.mem_append.1 hc with hc | hc
      · exact ih (u / 10) (by omega) c hc
      · rw [List.mem_singleton] at hc
        subst hc
        exact hd ⟨u % 10, Nat.mod_lt _ (by omega)⟩
theorem dec_val (u : Nat) : valL (Lib.decDigits u) = u := by
  induction u using Nat.strongRecOn with
  | _ u ih =>
    rw [Lib.decDigits]
    split
    · rename_i h
      simp only [valL, List.foldl_cons, List.foldl_nil]
      rw [dig_nat u h]
      omega
    · rename_i h
      rw [val_snoc, ih (u / 10) (by omega), dig_nat _ (Nat.mod_lt _ (by omega))]
      omega
theorem dec_head (u : Nat) : 1 ≤ u → (Lib.decDigits u).head? ≠ some 48 := by
  induction u using Nat.strongRecOn with
  | _ u ih =>
    intro h1
    rw [Lib.decDigits]
    split
    · rename_i h
      have : ∀ v : Fin 10, 1 ≤ v.val → UInt8.ofNat (48 + v.val) ≠ 48 := by decide
      simpa using this ⟨u, h⟩ h1
    · rename_i h
      rw [head_app _ (dec_ne _)]
      exact ih (u / 10) (by omega) (by omega)
theorem dec_len (k : Nat) : ∀ u, u < 10 ^ (k + 1) → (Lib.decDigits u).length ≤ k + 1 := by
  induction k with
  | zero => intro u h; rw [Lib.decDigits_one (by omega)]; simp
  | succ k ih =>
    intro u h
    rw [Lib.decDigits]
    split
    · simp
    · have := ih (u / 10) (by rw [Nat.pow_succ] at h; omega)
      simp
      omega
theorem numL_inv {w : Nat} (hw : 0 < w) {d : List UInt8} {n : Nat} (h : numL w d = some n) : d = Lib.decDigits n ∧ n < w := by
  unfold numL at h
  rcases hp : Lib.parseUintB 64 d with u | _ | _
  · rw [hp] at h
    simp only at h
    split at h
    · rename_i he
      simp only [Option.some.injEq] at h
      subst h
      exact ⟨he.symm, Nat.mod_lt _ hw⟩
    · cases h
  · rw [hp] at h; cases h
  · rw [hp] at h; cases h
def goodN (d : List UInt8) : Prop := 1 ≤ d.length ∧ d.length ≤ 10 ∧ (1 < d.length → d.head? ≠ some 48) ∧ ∀ c ∈ d, isD c
theorem num_bad {w : Nat} (hw0 : 0 < w) (hw : w ≤ 4294967296) {d : List UInt8} (h : ¬ goodN d) : numL w d = none := by
  cases hn : numL w d with
  | none => rfl
  | some n =>
    obtain ⟨rfl, hlt⟩ := numL_inv hw0 hn
    refine absurd ⟨List.length_pos_iff.2 (dec_ne n), dec_len 9 n (by omega), fun h1 => dec_head n ?_, dec_isD n⟩ h
    refine Nat.pos_of_ne_zero fun h0 => ?_
    subst h0
    rw [Lib.decDigits_one (by omega)] at h1
    simp at h1
theorem num_good {w : Nat} (hw0 : 0 < w) (hw : w ≤ 4294967296) {d : List UInt8} (h : goodN d) : numL w d = if valL d < w then some (valL d) else none := by
  have e := good_dec d h.2.2.2 (List.length_pos_iff.1 h.1) h.2.2.1
  by_cases h1 : valL d < w
  · rw [if_pos h1]
    have := numL_dec h1 hw
    rwa [e] at this
  · rw [if_neg h1]
    cases hn : numL w d with
    | none => rfl
    | some n =>
      obtain ⟨rfl, hlt⟩ := numL_inv hw0 hn
      rw [dec_val] at h1
      exact absurd hlt h1
theorem val_lt (l : List UInt8) : (∀ c ∈ l, isD c) → valL l < 10 ^ l.length := by
  induction l using rev_ind with
  | h0 => intro _; simp [valL]
  | h1 l c ih =>
    intro h
    have h1 := ih (fun c hc => h c (by simp [hc]))
    have h2 := (h c (by simp)).2
    rw [val_snoc, List.length_append, List.length_singleton, Nat.pow_succ]
    omega
theorem val_ten (l : List UInt8) (h : ∀ c ∈ l, isD c) (hl : l.length ≤ 10) : valL l < 10000000000 :=
  Nat.lt_of_lt_of_le (val_lt l h) (by
    have := Nat.pow_le_pow_right (n := 10) (by omega) hl
    simpa using this)
end Go.Proofs.YtceeinljakcdkaaDoor
