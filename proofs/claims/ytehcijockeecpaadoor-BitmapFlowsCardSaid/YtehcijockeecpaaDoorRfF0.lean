/-
  What the reference makes of an instruction, as plain lists: the places, what may be returned; it is what the program's states are made of.
-/
import Derived.Test.YtehcijockeecpaaDoorHA
import Derived.Test.YtehcijockeecpaaDoorForms
import Derived.Test.YtehcijockeecpaaDoorHE
namespace Go.Proofs.YtehcijockeecpaaDoor
open Go.RowKit
set_option linter.unusedVariables false
set_option linter.unusedSimpArgs false

/-- Where the reference goes on. -/
def plcR (hd : Int → Int → Int → Bool) (q : Ins) (i : Nat) (s : StS) : List Nat :=
  if q.1 = 6 ∨ q.1 = 22 then []
  else if q.1 = 5 then [i + 1 + q.2.2.2.toNat]
  else if formOf q.1 = 5 ∨ formOf q.1 = 6 then
    (if s.a.k = true ∧ (othA q s).k = true then (if hd q.1 s.a.v (othA q s).v = true then [i + 1 + q.2.1.toNat] else [i + 1 + q.2.2.1.toNat]) else [i + 1 + q.2.1.toNat, i + 1 + q.2.2.1.toNat])
  else if q.1 = 60 ∧ othA q s = sureA 0 then [] else [i + 1]
/-- What the reference says may be returned. -/
def rtsR (q : Ins) (s : StS) : List Ab := if (endE q s).r = true then [(endE q s).b] else []
def retE : List Ab → EdS
  | [] => ed0
  | r :: rs => ⟨rs.foldl alikeA r, true⟩
theorem retE_ne {rs : List Ab} (h : rs ≠ []) : (retE rs).r = true := by
  cases rs with
  | nil => exact absurd rfl h
  | cons r rs => rfl
theorem retE_end (rs : List Ab) (q : Ins) (s : StS) : joinE (retE rs) (endE q s) = retE (rs ++ rtsR q s) := by
  have key : endE q s = ed0 ∨ ∃ u, endE q s = ⟨u, true⟩ := by
    unfold endE
    split
    · exact .inr ⟨_, rfl⟩
    · split
      · exact .inr ⟨_, rfl⟩
      · split
        · exact .inr ⟨_, rfl⟩
        · exact .inl rfl
  unfold rtsR
  rcases key with h | ⟨u, h⟩
  · rw [h, if_neg (by simp [ed0]), List.append_nil]
    unfold joinE
    split
    · rename_i h0; exact h0.symm
    · rfl
  · rw [h, if_pos rfl]
    cases rs with
    | nil =>
      unfold joinE
      rw [if_pos (show retE [] = ed0 from rfl)]
      rfl
    | cons r rs =>
      unfold joinE
      have h1 : ¬ retE (r :: rs) = ed0 := by intro e; have := congrArg EdS.r e; simp [retE, ed0] at this
      have h2 : ¬ (⟨u, true⟩ : EdS) = ed0 := by intro e; have := congrArg EdS.r e; simp [ed0] at this
      rw [if_neg h1, if_neg h2]
      simp [retE, bothE]
theorem alikeA_self {a : Ab} (h : AbOk a) : alikeA a a = a := by
  unfold alikeA
  split
  · rfl
  · rename_i hk
    have hk' : a.k = false := by
      cases e : a.k with
      | true => exact absurd ⟨e, rfl⟩ hk
      | false => rfl
    obtain ⟨k, v⟩ := a
    simp only at hk'
    subst hk'
    have := h.z rfl
    simp only at this
    subst this
    rfl
theorem alikeA_twice (a b : Ab) : alikeA (alikeA a b) b = alikeA a b := by
  by_cases h : a.k = true ∧ a = b
  · have e : alikeA a b = a := by unfold alikeA; rw [if_pos h]
    rw [e, e]
  · have e : alikeA a b = ab0 := by unfold alikeA; rw [if_neg h]
    rw [e]
    unfold alikeA
    rw [if_neg (by rintro ⟨h1, _⟩; simp [ab0] at h1)]
theorem range_self (m : List Ab) (h : m.length = 16) : (List.range 16).map (fun i => m.getD i ab0) = m := by
  apply List.ext_getElem (by simp [h])
  intro i h1 h2
  simp [List.getD, h2]
theorem bothS_self {t : StS} (h : StOk t) (hr : t.r = true) : bothS t t = t := by
  have hm : (List.range 16).map (fun i => alikeA (t.m.getD i ab0) (t.m.getD i ab0)) = t.m := by
    refine Eq.trans (List.map_congr_left fun i _ => ?_) (range_self t.m h.len)
    exact alikeA_self (h.at_ i)
  unfold bothS
  rw [alikeA_self h.a, alikeA_self h.x, hm]
  obtain ⟨r, a, x, m⟩ := t
  simp only at hr
  subst hr
  rfl
theorem bothS_twice (a t : StS) : bothS (bothS a t) t = bothS a t := by
  have hm : (List.range 16).map (fun i => alikeA ((bothS a t).m.getD i ab0) (t.m.getD i ab0)) = (bothS a t).m := by
    have e : (bothS a t).m = (List.range 16).map fun i => alikeA (a.m.getD i ab0) (t.m.getD i ab0) := rfl
    rw [e]
    apply List.map_congr_left
    intro i hi
    have hi' : i < 16 := List.mem_range.1 hi
    have e2 : ((List.range 16).map fun i => alikeA (a.m.getD i ab0) (t.m.getD i ab0)).getD i ab0 = alikeA (a.m.getD i ab0) (t.m.getD i ab0) := by simp [List.getD, hi']
    rw [e2, alikeA_twice]
  have ea : alikeA (bothS a t).a t.a = (bothS a t).a := alikeA_twice _ _
  have ex : alikeA (bothS a t).x t.x = (bothS a t).x := alikeA_twice _ _
  show (⟨true, alikeA (bothS a t).a t.a, alikeA (bothS a t).x t.x, (List.range 16).map fun i => alikeA ((bothS a t).m.getD i ab0) (t.m.getD i ab0)⟩ : StS) = bothS a t
  rw [ea, ex, hm]
  rfl
theorem st_ne {t : StS} (h : t.r = true) : t ≠ st0 := by intro e; rw [e] at h; cases h
theorem joinS_twice {a t : StS} (h : StOk t) (hr : t.r = true) : joinS (joinS a t) t = joinS a t := by
  have hne := st_ne hr
  by_cases ha : a = st0
  · have e : joinS a t = t := by unfold joinS; rw [if_pos ha]
    rw [e]
    unfold joinS
    rw [if_neg hne, if_neg hne, bothS_self h hr]
  · have e : joinS a t = bothS a t := by unfold joinS; rw [if_neg ha, if_neg hne]
    rw [e]
    unfold joinS
    rw [if_neg (st_ne rfl), if_neg hne, bothS_twice]
theorem putS_twice {t : StS} (h : StOk t) (hr : t.r = true) (L : List StS) (p : Nat) : putS t (putS t L p) p = putS t L p := by
  unfold putS
  rw [List.set_set]
  rcases Nat.lt_or_ge p L.length with hp | hp
  · have e : (L.set p (joinS (L.getD p st0) t)).getD p st0 = joinS (L.getD p st0) t := by simp [List.getD, hp]
    rw [e, joinS_twice h hr]
  · rw [List.set_eq_of_length_le hp, List.set_eq_of_length_le hp]
theorem putS_swap {t : StS} (L : List StS) {p p' : Nat} (hne : p ≠ p') : putS t (putS t L p) p' = putS t (putS t L p') p := by
  unfold putS
  have e1 : (L.set p (joinS (L.getD p st0) t)).getD p' st0 = L.getD p' st0 := by simp [List.getD, List.getElem?_set_ne hne]
  have e2 : (L.set p' (joinS (L.getD p' st0) t)).getD p st0 = L.getD p st0 := by simp [List.getD, List.getElem?_set_ne (Ne.symm hne)]
  rw [e1, e2, List.set_comm _ _ hne]
/-- The places of the reference make the same states. -/
theorem plc_puts {hd : Int → Int → Int → Bool} {q : Ins} (hq : insO q) (hr : rowC q.1 ≠ none) {i : Nat} (hi : i ≤ 255) (hj : formOf q.1 = 4 → q.2.2.2 ≤ 255) (s : StS) {t : StS} (h : StOk t) (ht : t.r = true) (L : List StS) :
    (plcR hd q i s).foldl (putS t) L = (nxtS hd q i s).foldl (putS t) L := by
  have hf := form_row hr
  have h5 : q.1 = 5 ↔ formOf q.1 = 4 := by
    have hall : ∀ c ∈ ([0, 1, 2, 3, 4, 5, 6, 7, 12, 20, 21, 22, 28, 29, 32, 36, 37, 44, 45, 52, 53, 60, 61, 68, 69, 76, 77, 84, 92, 96, 97, 100, 108, 116, 124, 128, 129, 132, 135, 164, 172] : List Int), (c = 5 ↔ formOf c = 4) ∧ (c = 60 → ¬ (formOf c = 5 ∨ formOf c = 6)) ∧ (c = 6 ∨ c = 22 → ¬ (formOf c = 5 ∨ formOf c = 6)) := by decide
    exact (hall _ (row_list hr)).1
  have h60 : q.1 = 60 → ¬ (formOf q.1 = 5 ∨ formOf q.1 = 6) := by
    have hall : ∀ c ∈ ([0, 1, 2, 3, 4, 5, 6, 7, 12, 20, 21, 22, 28, 29, 32, 36, 37, 44, 45, 52, 53, 60, 61, 68, 69, 76, 77, 84, 92, 96, 97, 100, 108, 116, 124, 128, 129, 132, 135, 164, 172] : List Int), (c = 60 → ¬ (formOf c = 5 ∨ formOf c = 6)) := by decide
    exact hall _ (row_list hr)
  have h622 : q.1 = 6 ∨ q.1 = 22 → ¬ (formOf q.1 = 5 ∨ formOf q.1 = 6) := by
    have hall : ∀ c ∈ ([0, 1, 2, 3, 4, 5, 6, 7, 12, 20, 21, 22, 28, 29, 32, 36, 37, 44, 45, 52, 53, 60, 61, 68, 69, 76, 77, 84, 92, 96, 97, 100, 108, 116, 124, 128, 129, 132, 135, 164, 172] : List Int), (c = 6 ∨ c = 22 → ¬ (formOf c = 5 ∨ formOf c = 6)) := by decide
    exact hall _ (row_list hr)
  obtain ⟨c, y, z, k⟩ := q
  simp only at *
  unfold plcR nxtS
  simp only
  by_cases a1 : c = 6 ∨ c = 22
  · rw [if_pos a1, if_neg (by rcases a1 with rfl | rfl <;> (rintro ⟨h, _⟩; omega)), if_pos (.inl (h622 a1))]
    rw [show nextL (c, y, z, k) i = [] from next_ret (by simpa [retI] using a1)]
  rw [if_neg a1]
  have hret : retI (c, y, z, k) = false := by simpa [retI] using a1
  have hnx : ¬ (255 < i ∨ formOf c = -1 ∨ retI (c, y, z, k) = true ∨ (formOf c = 4 ∧ 255 < k)) := by
    rintro (h | h | h | ⟨h, h'⟩)
    · omega
    · exact hf h
    · rw [hret] at h; cases h
    · have := hj h; omega
  by_cases a2 : c = 5
  · have h4 := h5.1 a2
    rw [if_pos a2, if_neg (by rintro ⟨h, _⟩; omega), if_pos (.inl (by omega))]
    unfold nextL
    simp only
    rw [if_neg hnx, if_pos h4]
  rw [if_neg a2]
  have h4 : ¬ formOf c = 4 := fun e => a2 (h5.2 e)
  by_cases a3 : formOf c = 5 ∨ formOf c = 6
  · rw [if_pos a3, if_neg (show ¬ (c = 60 ∧ othA (c, y, z, k) s = sureA 0) from fun e => h60 e.1 a3)]
    by_cases ak : s.a.k = true ∧ (othA (c, y, z, k) s).k = true
    · rw [if_pos ak, if_neg (show ¬ (¬ (formOf c = 5 ∨ formOf c = 6) ∨ s.a.k = false ∨ (othA (c, y, z, k) s).k = false) by
        rintro (h | h | h)
        · exact h a3
        · rw [ak.1] at h; cases h
        · rw [ak.2] at h; cases h)]
    · rw [if_neg ak, if_pos (show ¬ (formOf c = 5 ∨ formOf c = 6) ∨ s.a.k = false ∨ (othA (c, y, z, k) s).k = false by
        right
        cases e1 : s.a.k with
        | false => exact .inl rfl
        | true =>
          cases e2 : (othA (c, y, z, k) s).k with
          | false => exact .inr rfl
          | true => exact absurd ⟨e1, e2⟩ ak)]
      unfold nextL
      simp only
      rw [if_neg hnx, if_neg h4, if_pos a3]
      have y0 := hq.a0
      have z0 := hq.b0
      simp only at y0 z0
      by_cases e : y = z
      · rw [if_pos e, ← e]
        simp only [List.foldl_cons, List.foldl_nil]
        exact putS_twice h ht L _
      · rw [if_neg e]
        by_cases lt : y < z
        · rw [if_pos lt]
        · rw [if_neg lt]
          simp only [List.foldl_cons, List.foldl_nil]
          exact putS_swap L (by omega)
  · rw [if_neg a3]
    by_cases a4 : c = 60 ∧ othA (c, y, z, k) s = sureA 0
    · rw [if_pos a4, if_pos a4]
    · rw [if_neg a4, if_neg a4, if_pos (.inl a3)]
      unfold nextL
      simp only
      rw [if_neg hnx, if_neg h4, if_neg a3]
end Go.Proofs.YtehcijockeecpaaDoor
