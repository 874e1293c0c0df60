/-
  Programs as lines of text, in plain lists of bytes: parts, numbers, lines, texts.
-/
import Derived.Test.YtceeinljakcdkaaDoorForm
import Derived.Test.YtceeinljakcdkaaDoorIns
import Derived.Lib.ParseIntB
import Derived.Lib.ItoaNum
import Derived.Lib.Strings
import Derived.Lib.IndexLaws
namespace Go.Proofs.YtceeinljakcdkaaDoor
open Go.RowKit

def bs (l : List UInt8) : ByteArray := ⟨l.toArray⟩
theorem bs_list (l : List UInt8) : (bs l).data.toList = l := by simp [bs]
theorem bs_of (s : ByteArray) : bs s.data.toList = s := by cases s; simp [bs]
theorem bs_size (l : List UInt8) : (bs l).size = l.length := by show l.toArray.size = _; simp
/-- What stands ahead of the first blank, and all from there on. -/
def partL (l : List UInt8) : List UInt8 × List UInt8 := (l.takeWhile (· != 32), l.dropWhile (· != 32))
/-- A number below w, written as one writes it. -/
def numL (w : Nat) (d : List UInt8) : Option Nat :=
  match Lib.parseUintB 64 d with
  | .ok n => if Lib.decDigits (n % w) = d then some (n % w) else none
  | _ => none
def readL (w : Nat) (cnt : Bool) (r : List UInt8) : Option (Nat × List UInt8) :=
  if cnt then (numL w (partL (Lib.trimPrefix r [32])).1).map fun n => (n, (partL (Lib.trimPrefix r [32])).2) else some (0, r)
def tailL (c : Int) (r : List UInt8) : Option Ins :=
  match readL 4294967296 (bareK c 1 != 0) r with
  | none => none
  | some (k, r1) => match readL 256 (bareJ c 1 != 0) r1 with
    | none => none
    | some (a, r2) => match readL 256 (bareJ c 1 != 0) r2 with
      | none => none
      | some (b, r3) => if r3 = [] then some (c, (a : Int), (b : Int), (k : Int)) else none
/-- The instruction whose line this is. -/
def oneB (l : List UInt8) : Option Ins := if (codeOf (bs (partL l).1)).2 then tailL (codeOf (bs (partL l).1)).1 (partL l).2 else none
/-- A text's lines, each with the line feed behind it, which the last one may lack. -/
def linesL : List UInt8 → List (List UInt8)
  | [] => []
  | c :: r => if c = 10 then [c] :: linesL r else match linesL r with
    | [] => [[c]]
    | x :: xs => (c :: x) :: xs
/-- One line more. -/
def stepB (acc : List Ins) (x : List UInt8) : Option (List Ins) :=
  match oneB (Lib.trimSuffix x [10]) with
  | some q => if Lib.hasSuffix x [10] = true ∧ acc.length ≠ 255 then some (acc ++ [q]) else none
  | none => none
def runB : List (List UInt8) → List Ins → Option (List Ins)
  | [], acc => some acc
  | x :: xs, acc => match stepB acc x with
    | some acc' => runB xs acc'
    | none => none
def parseR : List (List UInt8) → Nat → List Ins → List Ins × Nat × Int
  | [], _, acc => (acc, 0, 0)
  | x :: xs, at_, acc => match stepB acc x with
    | some acc' => parseR xs (at_ + x.length) acc'
    | none => ([], at_, 180)
def parseB (l : List UInt8) : List Ins × Nat × Int := if 8192 < l.length then ([], 0, 3) else parseR (linesL l) 0 []
/-- Lines, each with the place where it begins. -/
def placed : Nat → List (List UInt8) → List (Nat × List UInt8)
  | _, [] => []
  | p, x :: xs => (p, x) :: placed (p + x.length) xs

theorem runB_append (xs ys : List (List UInt8)) (acc : List Ins) : runB (xs ++ ys) acc = (runB xs acc).bind (runB ys) := by
  induction xs generalizing acc with
  | nil => rfl
  | cons x xs ih =>
    simp only [List.cons_append, runB]
    cases stepB acc x with
    | none => rfl
    | some a => exact ih a
theorem placed_append (p : Nat) (xs ys : List (List UInt8)) : placed p (xs ++ ys) = placed p xs ++ placed (p + xs.flatten.length) ys := by
  induction xs generalizing p with
  | nil => simp [placed]
  | cons x xs ih => simp [placed, ih, Nat.add_assoc]
theorem placed_snd (p : Nat) (xs : List (List UInt8)) : (placed p xs).map (·.2) = xs := by
  induction xs generalizing p with
  | nil => rfl
  | cons x xs ih => simp [placed, ih]
theorem placed_len (p : Nat) (xs : List (List UInt8)) : (placed p xs).length = xs.length := by
  induction xs generalizing p with
  | nil => rfl
  | cons x xs ih => simp [placed, ih]
/-- All lines are good. -/
theorem parseR_ok (xs : List (List UInt8)) (p : Nat) (acc out : List Ins) (h : runB xs acc = some out) : parseR xs p acc = (out, 0, 0) := by
  induction xs generalizing p acc with
  | nil => simp only [runB, Option.some.injEq] at h; subst h; rfl
  | cons x xs ih =>
    simp only [runB] at h
    simp only [parseR]
    cases hs : stepB acc x with
    | none => rw [hs] at h; cases h
    | some a => rw [hs] at h; exact ih _ _ h
/-- One line is wrong. -/
theorem parseR_no (xs : List (List UInt8)) (x : List UInt8) (ys : List (List UInt8)) (p : Nat) (acc out : List Ins) (h : runB xs acc = some out) (hx : stepB out x = none) :
    parseR (xs ++ x :: ys) p acc = ([], p + xs.flatten.length, 180) := by
  induction xs generalizing p acc with
  | nil => simp only [runB, Option.some.injEq] at h; subst h; simp [parseR, hx]
  | cons y xs ih =>
    simp only [runB] at h
    simp only [List.cons_append, parseR]
    cases hs : stepB acc y with
    | none => rw [hs] at h; cases h
    | some a => rw [hs] at h; simp only; rw [ih _ _ h]; simp [Nat.add_assoc]
/-- Either all lines are good, or there is a first wrong one. -/
theorem runB_cases (xs : List (List UInt8)) (acc : List Ins) : (∃ out, runB xs acc = some out) ∨ ∃ ys y zs out, xs = ys ++ y :: zs ∧ runB ys acc = some out ∧ stepB out y = none := by
  induction xs generalizing acc with
  | nil => exact .inl ⟨acc, rfl⟩
  | cons x xs ih =>
    cases hs : stepB acc x with
    | none => exact .inr ⟨[], x, xs, acc, rfl, rfl, hs⟩
    | some a =>
      rcases ih a with ⟨out, h⟩ | ⟨ys, y, zs, out, e, h1, h2⟩
      · exact .inl ⟨out, by simp only [runB, hs]; exact h⟩
      · exact .inr ⟨x :: ys, y, zs, out, by rw [e]; rfl, by simp only [runB, hs]; exact h1, h2⟩
theorem linesL_flatten (l : List UInt8) : (linesL l).flatten = l := by
  induction l with
  | nil => rfl
  | cons c r ih =>
    simp only [linesL]
    split
    · simp [ih]
    · cases h : linesL r with
      | nil => rw [h] at ih; simp at ih; subst ih; rfl
      | cons x xs => rw [h] at ih; simp only [List.flatten_cons, List.cons_append] at ih ⊢; rw [ih]
theorem linesL_ne (l : List UInt8) : ∀ x ∈ linesL l, x ≠ [] := by
  induction l with
  | nil => intro x h; cases h
  | cons c r ih =>
    simp only [linesL]
    split
    · intro x h
      rcases List.mem_cons.1 h with rfl | h
      · simp
      · exact ih x h
    · cases h : linesL r with
      | nil => intro x hx; simp at hx; subst hx; simp
      | cons y ys =>
        intro x hx
        rcases List.mem_cons.1 hx with rfl | hx
        · simp
        · exact ih x (by rw [h]; exact List.mem_cons_of_mem _ hx)
/-- Each line ahead of the last one ends, and holds no other line feed. -/
theorem linesL_append (a b : List UInt8) (h : a = [] ∨ a.getLast? = some 10) : linesL (a ++ b) = linesL a ++ linesL b := by
  induction a with
  | nil => rfl
  | cons c r ih =>
    have h1 : r = [] ∧ c = 10 ∨ r.getLast? = some 10 := by
      rcases h with h | h
      · cases h
      · cases r with
        | nil => left; simpa using h
        | cons d r => right; simpa using h
    rcases h1 with ⟨rfl, rfl⟩ | h1
    · simp [linesL]
    · have := ih (.inr h1)
      simp only [List.cons_append, linesL, this]
      split
      · rfl
      · cases hr : linesL r with
        | nil =>
          have hf := linesL_flatten r
          rw [hr] at hf
          simp at hf
          subst hf
          simp at h1
        | cons x xs => rfl
/-- The first line, and what is behind it. -/
theorem linesL_first (x : List UInt8) (r : List UInt8) (h : ∀ c ∈ x, c ≠ 10) : linesL (x ++ 10 :: r) = (x ++ [10]) :: linesL r := by
  induction x with
  | nil => simp [linesL]
  | cons c x ih =>
    have h1 : c ≠ 10 := h c (List.mem_cons_self)
    have := ih (fun d hd => h d (List.mem_cons_of_mem _ hd))
    simp only [List.cons_append, linesL, this, if_neg h1]
theorem linesL_last (x : List UInt8) (h : ∀ c ∈ x, c ≠ 10) (hx : x ≠ []) : linesL x = [x] := by
  induction x with
  | nil => exact absurd rfl hx
  | cons c x ih =>
    have h1 : c ≠ 10 := h c (List.mem_cons_self)
    simp only [linesL, if_neg h1]
    cases x with
    | nil => rfl
    | cons d x => rw [ih (fun d hd => h d (List.mem_cons_of_mem _ hd)) (by simp)]
/-- By the place of the first line feed. -/
theorem linesL_at (l : List UInt8) (i : Nat) (h : Lib.indexByte l 10 = (i : Int)) : i < l.length ∧ linesL l = l.take (i + 1) :: linesL (l.drop (i + 1)) := by
  obtain ⟨h1, h2⟩ := Lib.indexByte_some h
  have hi : i < l.length := (List.getElem?_eq_some_iff.1 h1).1
  refine ⟨hi, ?_⟩
  have e : l = l.take i ++ 10 :: l.drop (i + 1) := by
    have h3 := (List.getElem?_eq_some_iff.1 h1).2
    rw [← h3, List.getElem_cons_drop, List.take_append_drop]
  have hx : ∀ c ∈ l.take i, c ≠ 10 := by
    intro c hc e10
    obtain ⟨k, hk, ek⟩ := List.mem_iff_getElem.1 hc
    simp at hk
    have := h2 k (by omega)
    rw [List.getElem_take] at ek
    rw [List.getElem?_eq_getElem (by omega), ek, e10] at this
    exact this rfl
  have h4 := linesL_first (l.take i) (l.drop (i + 1)) hx
  rw [← e] at h4
  rw [h4]
  congr 1
  rw [List.take_add_one, h1]; rfl
theorem linesL_no (l : List UInt8) (h : Lib.indexByte l 10 = -1) (hl : l ≠ []) : linesL l = [l] := by
  have h1 := Lib.indexByte_none h
  refine linesL_last l (fun c hc e => ?_) hl
  obtain ⟨k, hk, ek⟩ := List.mem_iff_getElem.1 hc
  exact h1 k (by rw [List.getElem?_eq_getElem hk, ek, e])
theorem placed_lt (l : List UInt8) : ∀ p ∈ placed 0 (linesL l), p.1 < l.length ∧ p.2.length ≤ l.length := by
  have : ∀ (xs : List (List UInt8)) (k : Nat), (∀ x ∈ xs, x ≠ []) → ∀ p ∈ placed k xs, p.1 < k + xs.flatten.length ∧ p.2.length ≤ xs.flatten.length := by
    intro xs
    induction xs with
    | nil => intro k _ p h; cases h
    | cons x xs ih =>
      intro k hne p hp
      simp only [placed, List.mem_cons] at hp
      have hx : 0 < x.length := List.length_pos_iff.2 (hne x List.mem_cons_self)
      rcases hp with rfl | hp
      · simp; omega
      · have := ih (k + x.length) (fun y hy => hne y (List.mem_cons_of_mem _ hy)) p hp
        rw [List.flatten_cons, List.length_append]
        omega
  intro p hp
  have h := this (linesL l) 0 (linesL_ne l) p hp
  rw [linesL_flatten] at h
  omega
end Go.Proofs.YtceeinljakcdkaaDoor
