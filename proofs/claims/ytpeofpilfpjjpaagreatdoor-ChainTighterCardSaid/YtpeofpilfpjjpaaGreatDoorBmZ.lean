/-
  What is known is so: plain.
-/
import Derived.Test.YtpeofpilfpjjpaaGreatDoorBmW
import Derived.Test.YtpeofpilfpjjpaaGreatDoorForms
import Derived.Test.YtpeofpilfpjjpaaGreatDoorVmNp
import Derived.Test.YtpeofpilfpjjpaaGreatDoorAluU
namespace Go.Proofs.YtpeofpilfpjjpaaGreatDoor
open Go.RowKit
set_option linter.unusedVariables false

/-- A number is what is known of it. -/
def okA (x : Int) (k : Ab) : Prop := k.k = true → k.v = x
structure FitV (s : VmS) (t : StS) : Prop where
  r : t.r = true
  a : okA s.a t.a
  x : okA s.x t.x
  m : ∀ i, okA (s.mem.getD i 0) (t.m.getD i ab0)
theorem okA_ab0 (x : Int) : okA x ab0 := fun h => by cases h
theorem okA_sure (x : Int) : okA x (sureA x) := fun _ => rfl
theorem okA_alike {x : Int} {a b : Ab} (h : okA x a ∨ okA x b) : okA x (alikeA a b) := by
  unfold alikeA
  split
  · rename_i hab
    rcases h with h | h
    · exact h
    · rw [hab.2]; exact h
  · exact okA_ab0 x
theorem both_fit {s : VmS} {a b : StS} (h : FitV s a ∨ FitV s b) : FitV s (bothS a b) := by
  refine ⟨rfl, okA_alike (h.imp (·.a) (·.a)), okA_alike (h.imp (·.x) (·.x)), fun i => ?_⟩
  simp only [bothS]
  rcases Nat.lt_or_ge i 16 with hi | hi
  · simp only [List.getD, List.getElem?_map, List.getElem?_range hi, Option.map_some, Option.getD_some]
    exact okA_alike (h.imp (fun h => h.m i) (fun h => h.m i))
  · simp only [List.getD, List.getElem?_map, List.getElem?_eq_none (show (List.range 16).length ≤ i by simpa using hi), Option.map_none, Option.getD_none]
    exact okA_ab0 _
theorem fit_ne {s : VmS} {t : StS} (h : FitV s t) : ¬ t = st0 := fun e => by have := h.r; rw [e] at this; cases this
theorem join_fit {s : VmS} {a b : StS} (h : FitV s a ∨ FitV s b) : FitV s (joinS a b) := by
  unfold joinS
  by_cases ha : a = st0
  · rw [if_pos ha]
    exact h.resolve_left fun h => fit_ne h ha
  · rw [if_neg ha]
    by_cases hb : b = st0
    · rw [if_pos hb]
      exact h.resolve_right fun h => fit_ne h hb
    · rw [if_neg hb]
      exact both_fit h
theorem put_fit {s : VmS} {t : StS} {L : List StS} {p : Nat} (q : Nat) (h : FitV s (L.getD p st0)) : FitV s ((putS t L q).getD p st0) := by
  unfold putS
  by_cases hq : q = p
  · subst hq
    have hl : q < L.length := by
      rcases Nat.lt_or_ge q L.length with hl | hl
      · exact hl
      · exact absurd (by simp [List.getD, List.getElem?_eq_none hl]) (fit_ne h)
    simp only [List.getD, List.getElem?_set_self hl, Option.getD_some]
    exact join_fit (.inl h)
  · simp only [List.getD, List.getElem?_set_ne hq]
    exact h
theorem puts_fit {s : VmS} {t : StS} {p : Nat} : ∀ (ps : List Nat) {L : List StS}, FitV s (L.getD p st0) → FitV s ((ps.foldl (putS t) L).getD p st0)
  | [], _, h => h
  | q :: ps, _, h => puts_fit ps (put_fit q h)
theorem puts_new {s : VmS} {t : StS} (ht : FitV s t) {p : Nat} : ∀ (ps : List Nat) {L : List StS}, p ∈ ps → p < L.length → FitV s ((ps.foldl (putS t) L).getD p st0)
  | [], _, h, _ => by cases h
  | q :: ps, L, h, hl => by
    rcases List.mem_cons.1 h with rfl | h
    · refine puts_fit ps ?_
      unfold putS
      simp only [List.getD, List.getElem?_set_self hl, Option.getD_some]
      exact join_fit (.inr ht)
    · exact puts_new ht ps h (by rw [putS_len]; exact hl)
theorem puts_old {t : StS} {p : Nat} : ∀ (ps : List Nat) {L : List StS}, p ∉ ps → (ps.foldl (putS t) L).getD p st0 = L.getD p st0
  | [], _, _ => rfl
  | q :: ps, L, h => by
    simp only [List.mem_cons, not_or] at h
    rw [List.foldl_cons, puts_old ps h.2]
    unfold putS
    simp only [List.getD, List.getElem?_set_ne (Ne.symm h.1)]
/-- What may be returned is so. -/
def okE (r : Int) (e : EdS) : Prop := e.r = true ∧ okA r e.b
theorem joinE_fit {r : Int} {a b : EdS} (h : okE r a ∨ okE r b) : okE r (joinE a b) := by
  have ne : ∀ e, okE r e → ¬ e = ed0 := fun e h h' => by have := h.1; rw [h'] at this; cases this
  unfold joinE
  by_cases ha : a = ed0
  · rw [if_pos ha]
    exact h.resolve_left fun h => ne _ h ha
  · rw [if_neg ha]
    by_cases hb : b = ed0
    · rw [if_pos hb]
      exact h.resolve_right fun h => ne _ h hb
    · rw [if_neg hb]
      exact ⟨rfl, okA_alike (h.imp (·.2) (·.2))⟩

theorem alu_codes {c : Int} (h : rowC c ≠ none) (h4 : c % 8 = 4) : (c % 16 = 12 ∧ ¬ (formOf c = 1 ∨ formOf c = 5) ∧ ¬ c = 132) ∨ c = 132 ∨ (c % 16 = 4 ∧ ¬ c = 132 ∧ formOf c = 1) := by
  have hm := row_list h
  have hall : (([0, 1, 2, 3, 4, 5, 6, 7, 12, 20, 21, 22, 28, 29, 32, 36, 37, 44, 45, 52, 53, 60, 61, 68, 69, 76, 77, 84, 92, 96, 97, 100, 108, 116, 124, 128, 129, 132, 135, 164, 172] : List Int).all fun c => !(decide (c % 8 = 4)) ||
    decide ((c % 16 = 12 ∧ ¬ (formOf c = 1 ∨ formOf c = 5) ∧ ¬ c = 132) ∨ c = 132 ∨ (c % 16 = 4 ∧ ¬ c = 132 ∧ formOf c = 1))) = true := by decide +kernel
  have := List.all_eq_true.1 hall c hm
  simpa [h4] using this
set_option maxRecDepth 8000 in
/-- The codes that neither return, jump nor load are those of two numbers. -/
theorem rest_codes {c : Int} (h : rowC c ≠ none) (h6 : ¬ c = 6) (h22 : ¬ c = 22) (h5 : ¬ c = 5) (hf : ¬ (formOf c = 5 ∨ formOf c = 6)) (h32 : ¬ c = 32) (h128 : ¬ c = 128) (h129 : ¬ c = 129) (h0 : ¬ c = 0) (h1 : ¬ c = 1) (h96 : ¬ c = 96) (h97 : ¬ c = 97) (h2 : ¬ c = 2) (h3 : ¬ c = 3) (h7 : ¬ c = 7) (h135 : ¬ c = 135) : c % 8 = 4 := by
  have hm := row_list h
  have hall : (([0, 1, 2, 3, 4, 5, 6, 7, 12, 20, 21, 22, 28, 29, 32, 36, 37, 44, 45, 52, 53, 60, 61, 68, 69, 76, 77, 84, 92, 96, 97, 100, 108, 116, 124, 128, 129, 132, 135, 164, 172] : List Int).all fun c =>
    decide (c = 6) || decide (c = 22) || decide (c = 5) || decide (formOf c = 5 ∨ formOf c = 6) || decide (c = 32) || decide (c = 128) || decide (c = 129) || decide (c = 0) || decide (c = 1) || decide (c = 96) || decide (c = 97) || decide (c = 2) || decide (c = 3) || decide (c = 7) || decide (c = 135) || decide (c % 8 = 4)) = true := by decide +kernel
  have := List.all_eq_true.1 hall c hm
  simpa [h6, h22, h5, hf, h32, h128, h129, h0, h1, h96, h97, h2, h3, h7, h135] using this
set_option maxRecDepth 8000 in
theorem none_codes {c : Int} (h : rowC c ≠ none) (h4 : c % 8 = 4) {a b : Int} (hn : alI c a b = none) : (c = 52 ∨ c = 60) ∧ b = 0 := by
  have hm := row_list h
  have hall : (([0, 1, 2, 3, 4, 5, 6, 7, 12, 20, 21, 22, 28, 29, 32, 36, 37, 44, 45, 52, 53, 60, 61, 68, 69, 76, 77, 84, 92, 96, 97, 100, 108, 116, 124, 128, 129, 132, 135, 164, 172] : List Int).all fun c => !(decide (c % 8 = 4)) ||
    decide (opK c = 0 ∨ opK c = 1 ∨ opK c = 2 ∨ (opK c = 3 ∧ (c = 52 ∨ c = 60)) ∨ opK c = 4 ∨ opK c = 5 ∨ opK c = 6 ∨ opK c = 7 ∨ opK c = 8 ∨ opK c = 10)) = true := by decide +kernel
  have h1 := List.all_eq_true.1 hall c hm
  have h2 : opK c = 0 ∨ opK c = 1 ∨ opK c = 2 ∨ (opK c = 3 ∧ (c = 52 ∨ c = 60)) ∨ opK c = 4 ∨ opK c = 5 ∨ opK c = 6 ∨ opK c = 7 ∨ opK c = 8 ∨ opK c = 10 := by simpa [h4] using h1
  unfold alI at hn
  rcases h2 with h | h | h | ⟨h, hc⟩ | h | h | h | h | h | h <;> rw [h] at hn <;> simp at hn
  exact ⟨hc, hn⟩
theorem neg_any {a b b' : Int} : alI 132 a b = alI 132 a b' := by
  have h : opK 132 = 8 := by decide +kernel
  simp [alI, h]
theorem getD_set {α : Type} (l : List α) (k i : Nat) (v d : α) (hk : k < l.length) : (l.set k v).getD i d = if k = i then v else l.getD i d := by
  by_cases h : k = i
  · subst h
    simp [List.getD, List.getElem?_set_self hk]
  · rw [if_neg h]
    simp only [List.getD, List.getElem?_set_ne h]
section
variable {q : Ins} {d : Int → Int} {s s' : VmS} {t : StS} {nr arch : Int}
/-- What is known behind an instruction is so. -/
theorem eff_fit (hc : rowC q.1 ≠ none) (hm : q.1 = 2 ∨ q.1 = 3 → q.2.2.2.toNat < 16) (hs : s.mem.length = 16) (htl : t.m.length = 16) (h : FitV s t) (h0 : d 0 = nr) (h4 : d 4 = arch) (h6 : ¬ q.1 = 6) (h22 : ¬ q.1 = 22) (h5 : ¬ q.1 = 5) (hf : ¬ (formOf q.1 = 5 ∨ formOf q.1 = 6)) {e : Int × Int × List Int}
    (he : effV alI q d s = some e) : FitV ⟨s.pc + 1, e.1, e.2.1, e.2.2⟩ (behS alI nr arch q t) := by
  obtain ⟨c, y, z, k⟩ := q
  simp only at *
  unfold effV at he
  unfold behS
  simp only at he ⊢
  by_cases c32 : c = 32
  · rw [if_pos c32] at he ⊢
    injection he with he; subst he
    refine ⟨h.r, ?_, h.x, h.m⟩
    show okA (d k) (seenA nr arch k)
    unfold seenA
    by_cases k0 : k = 0
    · rw [if_pos k0, k0, h0]; exact okA_sure _
    · rw [if_neg k0]
      by_cases k4 : k = 4
      · rw [if_pos k4, k4, h4]; exact okA_sure _
      · rw [if_neg k4]; exact okA_ab0 _
  rw [if_neg c32] at he ⊢
  by_cases c128 : c = 128
  · rw [if_pos c128] at he ⊢
    injection he with he; subst he
    exact ⟨h.r, okA_sure _, h.x, h.m⟩
  rw [if_neg c128] at he ⊢
  by_cases c129 : c = 129
  · rw [if_pos c129] at he ⊢
    injection he with he; subst he
    exact ⟨h.r, h.a, okA_sure _, h.m⟩
  rw [if_neg c129] at he ⊢
  by_cases c0 : c = 0
  · rw [if_pos c0] at he ⊢
    injection he with he; subst he
    exact ⟨h.r, okA_sure _, h.x, h.m⟩
  rw [if_neg c0] at he ⊢
  by_cases c1 : c = 1
  · rw [if_pos c1] at he ⊢
    injection he with he; subst he
    exact ⟨h.r, h.a, okA_sure _, h.m⟩
  rw [if_neg c1] at he ⊢
  by_cases c96 : c = 96
  · rw [if_pos c96] at he ⊢
    injection he with he; subst he
    exact ⟨h.r, h.m _, h.x, h.m⟩
  rw [if_neg c96] at he ⊢
  by_cases c97 : c = 97
  · rw [if_pos c97] at he ⊢
    injection he with he; subst he
    exact ⟨h.r, h.a, h.m _, h.m⟩
  rw [if_neg c97] at he ⊢
  by_cases c2 : c = 2
  · rw [if_pos c2] at he ⊢
    injection he with he; subst he
    refine ⟨h.r, h.a, h.x, fun i => ?_⟩
    have hk := hm (.inl c2)
    show okA ((s.mem.set k.toNat s.a).getD i 0) ((t.m.set k.toNat t.a).getD i ab0)
    rw [getD_set _ _ _ _ _ (by omega), getD_set _ _ _ _ _ (by omega)]
    by_cases hi : k.toNat = i
    · rw [if_pos hi, if_pos hi]; exact h.a
    · rw [if_neg hi, if_neg hi]; exact h.m i
  rw [if_neg c2] at he ⊢
  by_cases c3 : c = 3
  · rw [if_pos c3] at he ⊢
    injection he with he; subst he
    refine ⟨h.r, h.a, h.x, fun i => ?_⟩
    have hk := hm (.inr c3)
    show okA ((s.mem.set k.toNat s.x).getD i 0) ((t.m.set k.toNat t.x).getD i ab0)
    rw [getD_set _ _ _ _ _ (by omega), getD_set _ _ _ _ _ (by omega)]
    by_cases hi : k.toNat = i
    · rw [if_pos hi, if_pos hi]; exact h.x
    · rw [if_neg hi, if_neg hi]; exact h.m i
  rw [if_neg c3] at he ⊢
  by_cases c7 : c = 7
  · rw [if_pos c7] at he ⊢
    injection he with he; subst he
    exact ⟨h.r, h.a, h.a, h.m⟩
  rw [if_neg c7] at he ⊢
  by_cases c135 : c = 135
  · rw [if_pos c135] at he ⊢
    injection he with he; subst he
    exact ⟨h.r, h.x, h.x, h.m⟩
  rw [if_neg c135] at he ⊢
  have c4 := rest_codes hc h6 h22 h5 hf c32 c128 c129 c0 c1 c96 c97 c2 c3 c7 c135
  rw [if_pos c4]
  cases hv : alI c s.a (if c % 16 = 12 then s.x else k) with
  | none => rw [hv] at he; cases he
  | some v =>
    rw [hv] at he
    injection he with he; subst he
    refine ⟨h.r, ?_, h.x, h.m⟩
    show okA v (workA alI (c, y, z, k) t)
    unfold workA
    by_cases hn : t.a.k = false ∨ (othA (c, y, z, k) t).k = false
    · rw [if_pos hn]; exact okA_ab0 _
    · rw [if_neg hn]
      simp only [not_or, Bool.not_eq_false] at hn
      obtain ⟨hak, hok⟩ := hn
      have ea := h.a hak
      have key : alI c t.a.v (othA (c, y, z, k) t).v = some v := by
        rw [← hv, ea]
        rcases alu_codes hc c4 with ⟨m12, nf, n132⟩ | e132 | ⟨m4, n132, f1⟩
        · rw [if_pos m12]
          have eo : othA (c, y, z, k) t = t.x := by unfold othA; rw [if_neg n132, if_neg nf]
          rw [eo] at hok ⊢
          rw [h.x hok]
        · rw [e132]; exact neg_any
        · rw [if_neg (by omega)]
          have eo : othA (c, y, z, k) t = sureA k := by unfold othA; rw [if_neg n132, if_pos (.inl f1)]
          rw [eo]
          rfl
      simp only
      rw [key]
      exact okA_sure v
/-- Where a step goes on is told, and the machine there fits what comes there. -/
theorem step_fit (hi : s.pc ≤ 255) (hc : rowC q.1 ≠ none) (hj : formOf q.1 = 4 → q.2.2.2 ≤ 255) (hm : q.1 = 2 ∨ q.1 = 3 → q.2.2.2.toNat < 16) (hs : s.mem.length = 16) (htl : t.m.length = 16) (h : FitV s t) (h0 : d 0 = nr) (h4 : d 4 = arch)
    (hst : stepV alI hdI q d s = (none, s')) : s'.pc ∈ nxtS hdI q s.pc t ∧ FitV s' (behS alI nr arch q t) := by
  have hnx := step_next hst hi (form_row hc) hj
  unfold stepV at hst
  by_cases h6 : q.1 = 6
  · rw [if_pos h6] at hst; cases hst
  rw [if_neg h6] at hst
  by_cases h22 : q.1 = 22
  · rw [if_pos h22] at hst; cases hst
  rw [if_neg h22] at hst
  by_cases h5 : q.1 = 5
  · rw [if_pos h5] at hst
    injection hst with _ hst
    subst hst
    have hf : ¬ (formOf q.1 = 5 ∨ formOf q.1 = 6) := by rw [h5]; decide +kernel
    have e : behS alI nr arch q t = t := by unfold behS; rw [h5]; rfl
    refine ⟨?_, by rw [e]; exact ⟨h.r, h.a, h.x, h.m⟩⟩
    unfold nxtS
    rw [if_neg (by rw [h5]; rintro ⟨h, _⟩; cases h), if_pos (.inl hf)]
    exact hnx
  rw [if_neg h5] at hst
  by_cases hf : formOf q.1 = 5 ∨ formOf q.1 = 6
  · rw [if_pos hf] at hst
    injection hst with _ hst
    have hcs : ¬ q.1 % 8 = 4 ∧ ¬ q.1 = 32 ∧ ¬ q.1 = 128 ∧ ¬ q.1 = 129 ∧ ¬ q.1 = 0 ∧ ¬ q.1 = 1 ∧ ¬ q.1 = 96 ∧ ¬ q.1 = 97 ∧ ¬ q.1 = 2 ∧ ¬ q.1 = 3 ∧ ¬ q.1 = 7 ∧ ¬ q.1 = 135 ∧ ¬ q.1 = 60 ∧ ¬ q.1 = 132 ∧ (formOf q.1 = 5 ∨ ¬ (formOf q.1 = 1 ∨ formOf q.1 = 5)) := by
      have hm' := row_list hc
      have hall : (([0, 1, 2, 3, 4, 5, 6, 7, 12, 20, 21, 22, 28, 29, 32, 36, 37, 44, 45, 52, 53, 60, 61, 68, 69, 76, 77, 84, 92, 96, 97, 100, 108, 116, 124, 128, 129, 132, 135, 164, 172] : List Int).all fun c => !(decide (formOf c = 5 ∨ formOf c = 6)) ||
        decide (¬ c % 8 = 4 ∧ ¬ c = 32 ∧ ¬ c = 128 ∧ ¬ c = 129 ∧ ¬ c = 0 ∧ ¬ c = 1 ∧ ¬ c = 96 ∧ ¬ c = 97 ∧ ¬ c = 2 ∧ ¬ c = 3 ∧ ¬ c = 7 ∧ ¬ c = 135 ∧ ¬ c = 60 ∧ ¬ c = 132 ∧ (formOf c = 5 ∨ ¬ (formOf c = 1 ∨ formOf c = 5)))) = true := by decide +kernel
      have h1 := List.all_eq_true.1 hall _ hm'
      simp only [Bool.or_eq_true, Bool.not_eq_true', decide_eq_false_iff_not, decide_eq_true_eq] at h1
      exact h1.resolve_left fun h => h hf
    obtain ⟨g4, g32, g128, g129, g0, g1, g96, g97, g2, g3, g7, g135, g60, g132, g56⟩ := hcs
    have e : behS alI nr arch q t = t := by unfold behS; simp only [g4, g32, g128, g129, g0, g1, g96, g97, g2, g3, g7, g135, if_false]
    refine ⟨?_, by rw [e, ← hst]; exact ⟨h.r, h.a, h.x, h.m⟩⟩
    unfold nxtS
    rw [if_neg (fun h => g60 h.1)]
    by_cases hk : ¬ (formOf q.1 = 5 ∨ formOf q.1 = 6) ∨ t.a.k = false ∨ (othA q t).k = false
    · rw [if_pos hk]; exact hnx
    · rw [if_neg hk]
      simp only [not_or, Bool.not_eq_false] at hk
      obtain ⟨_, hak, hok⟩ := hk
      have ea := h.a hak
      have eo : (othA q t).v = if formOf q.1 = 5 then q.2.2.2 else s.x := by
        unfold othA at hok ⊢
        rw [if_neg g132] at hok ⊢
        by_cases f5 : formOf q.1 = 5
        · rw [if_pos (.inr f5), if_pos f5]; rfl
        · rw [if_neg (g56.resolve_left f5)] at hok ⊢
          rw [if_neg f5]
          exact h.x hok
      rw [ea, eo, ← hst]
      by_cases hh : hdI q.1 s.a (if formOf q.1 = 5 then q.2.2.2 else s.x) = true
      · rw [if_pos hh, if_pos hh]; simp
      · rw [if_neg hh, if_neg hh]; simp
  · rw [if_neg hf] at hst
    cases he : effV alI q d s with
    | none => rw [he] at hst; cases hst
    | some e =>
      rw [he] at hst
      injection hst with _ hst
      have hfit := eff_fit hc hm hs htl h h0 h4 h6 h22 h5 hf he
      rw [← hst]
      refine ⟨?_, hfit⟩
      unfold nxtS
      by_cases h60 : q.1 = 60 ∧ othA q t = sureA 0
      · exfalso
        obtain ⟨c60, ho⟩ := h60
        have f60 : ¬ (formOf 60 = 1 ∨ formOf 60 = 5) := by decide +kernel
        have eo : othA q t = t.x := by unfold othA; rw [c60, if_neg (by decide), if_neg f60]
        rw [eo] at ho
        have hx0 : s.x = 0 := by have := h.x (by rw [ho]; rfl); rw [ho] at this; exact this.symm
        unfold effV at he
        rw [c60] at he
        have hz : alI 60 s.a 0 = none := rfl
        simp [hx0, hz] at he
      · rw [if_neg h60, if_pos (.inl hf)]
        rw [← hst] at hnx
        exact hnx
/-- What is returned is told. -/
theorem ret_fit (hc : rowC q.1 ≠ none) (h52 : ¬ (q.1 = 52 ∧ q.2.2.2 = 0)) (h : FitV s t) {r : Int} (hst : stepV alI hdI q d s = (some r, s')) : okE r (endE q t) := by
  unfold stepV at hst
  unfold endE
  by_cases h6 : q.1 = 6
  · rw [if_pos h6] at hst ⊢
    injection hst with hr _
    injection hr with hr
    subst hr
    exact ⟨rfl, okA_sure _⟩
  rw [if_neg h6] at hst ⊢
  by_cases h22 : q.1 = 22
  · rw [if_pos h22] at hst ⊢
    injection hst with hr _
    injection hr with hr
    subst hr
    exact ⟨rfl, h.a⟩
  rw [if_neg h22] at hst ⊢
  by_cases h5 : q.1 = 5
  · rw [if_pos h5] at hst; cases hst
  rw [if_neg h5] at hst
  by_cases hf : formOf q.1 = 5 ∨ formOf q.1 = 6
  · rw [if_pos hf] at hst; cases hst
  rw [if_neg hf] at hst
  cases he : effV alI q d s with
  | some e => rw [he] at hst; cases hst
  | none =>
    rw [he] at hst
    injection hst with hr _
    injection hr with hr
    subst hr
    unfold effV at he
    by_cases g32 : q.1 = 32
    · rw [if_pos g32] at he; cases he
    rw [if_neg g32] at he
    by_cases g128 : q.1 = 128
    · rw [if_pos g128] at he; cases he
    rw [if_neg g128] at he
    by_cases g129 : q.1 = 129
    · rw [if_pos g129] at he; cases he
    rw [if_neg g129] at he
    by_cases g0 : q.1 = 0
    · rw [if_pos g0] at he; cases he
    rw [if_neg g0] at he
    by_cases g1 : q.1 = 1
    · rw [if_pos g1] at he; cases he
    rw [if_neg g1] at he
    by_cases g96 : q.1 = 96
    · rw [if_pos g96] at he; cases he
    rw [if_neg g96] at he
    by_cases g97 : q.1 = 97
    · rw [if_pos g97] at he; cases he
    rw [if_neg g97] at he
    by_cases g2 : q.1 = 2
    · rw [if_pos g2] at he; cases he
    rw [if_neg g2] at he
    by_cases g3 : q.1 = 3
    · rw [if_pos g3] at he; cases he
    rw [if_neg g3] at he
    by_cases g7 : q.1 = 7
    · rw [if_pos g7] at he; cases he
    rw [if_neg g7] at he
    by_cases g135 : q.1 = 135
    · rw [if_pos g135] at he; cases he
    rw [if_neg g135] at he
    have c4 := rest_codes hc h6 h22 h5 hf g32 g128 g129 g0 g1 g96 g97 g2 g3 g7 g135
    have hn : alI q.1 s.a (if q.1 % 16 = 12 then s.x else q.2.2.2) = none := by
      cases hv : alI q.1 s.a (if q.1 % 16 = 12 then s.x else q.2.2.2) with
      | none => rfl
      | some v => rw [hv] at he; cases he
    obtain ⟨hcc, hb⟩ := none_codes hc c4 hn
    rcases hcc with e52 | e60
    · rw [if_neg (by omega)] at hb
      exact absurd ⟨e52, hb⟩ h52
    · rw [if_pos (by omega)] at hb
      have hx : t.x.k = false ∨ t.x = sureA 0 := by
        cases hk : t.x.k with
        | false => exact .inl rfl
        | true =>
          right
          have hv := h.x hk
          obtain ⟨r, a, ⟨k, v⟩, m⟩ := t
          simp only at hk hv
          rw [hk, hv, hb]
          rfl
      rw [if_pos ⟨e60, hx⟩]
      exact ⟨rfl, okA_sure _⟩
end
/-- Division by nought is told ahead. -/
theorem oneL_div {left : Int} {q : Ins} (h : oneL left q = 0) : ¬ (q.1 = 52 ∧ q.2.2.2 = 0) := by
  intro h3
  unfold oneL at h
  by_cases h1 : rowC q.1 = none
  · rw [if_pos h1] at h; omega
  · rw [if_neg h1] at h
    by_cases h2 : q.1 = 32 ∧ (q.2.2.2 % 4 ≠ 0 ∨ 64 ≤ q.2.2.2)
    · rw [if_pos h2] at h; omega
    · rw [if_neg h2, if_pos h3] at h; omega
section
variable {f : Nat → Ins} {d : Int → Int} {n : Nat} {nr arch : Int}
/-- What is known of a place stays as it is behind that place. -/
theorem flo_old (hM : May f n) (ho : ∀ i, i < n → insO (f i)) {p : Nat} : ∀ k, p ≤ k → k ≤ n → (floS alI hdI nr arch f n k).1.getD p st0 = (floS alI hdI nr arch f n p).1.getD p st0
  | 0, hp, _ => by obtain rfl : p = 0 := by omega
                   rfl
  | k + 1, hp, hk => by
    rcases Nat.lt_or_ge k p with h | h
    · obtain rfl : p = k + 1 := by omega
      rfl
    · rw [← flo_old hM ho k h (by omega)]
      show (goS alI hdI nr arch (f k) k (floS alI hdI nr arch f n k)).1.getD p st0 = _
      unfold goS
      split
      · rfl
      · refine puts_old _ fun hin => ?_
        have hn := hM.hi
        have := (may_goes hM ho).ok k (by omega) p (nxt_sub (by omega) hin)
        omega
theorem flo_keep {s : VmS} {p : Nat} : ∀ j k, FitV s ((floS alI hdI nr arch f n k).1.getD p st0) → FitV s ((floS alI hdI nr arch f n (k + j)).1.getD p st0)
  | 0, _, h => h
  | j + 1, k, h => by
    have ih := flo_keep j k h
    show FitV s ((goS alI hdI nr arch (f (k + j)) (k + j) (floS alI hdI nr arch f n (k + j))).1.getD p st0)
    unfold goS
    split
    · exact ih
    · exact puts_fit _ ih
theorem end_keep {r : Int} : ∀ j k, okE r (floS alI hdI nr arch f n k).2 → okE r (floS alI hdI nr arch f n (k + j)).2
  | 0, _, h => h
  | j + 1, k, h => by
    have ih := end_keep j k h
    show okE r (goS alI hdI nr arch (f (k + j)) (k + j) (floS alI hdI nr arch f n (k + j))).2
    unfold goS
    split
    · exact ih
    · exact joinE_fit (.inl ih)
theorem rest_ne (hM : May f n) (ho : ∀ i, i < n → insO (f i)) {s : VmS} (hs : s.pc < n) : restV f d n s ≠ [] := by
  cases hst : stepV alI hdI (f s.pc) d s with
  | mk r s' =>
    cases r with
    | none => rw [rest_go hM ho hs hst]; simp
    | some r => rw [rest_ret hs hst]; simp
theorem f23 : formOf 2 = 3 ∧ formOf 3 = 3 := by decide +kernel
theorem run_fit (hM : May f n) (ho : ∀ i, i < n → insO (f i)) (hd : ∀ o, U32 (d o)) (h0 : d 0 = nr) (h4 : d 4 = arch) (hnr : U32 nr) (har : U32 arch) : ∀ (N : Nat) (s : VmS), n - s.pc ≤ N → s.pc < n → VmOk s → FitV s ((floS alI hdI nr arch f n s.pc).1.getD s.pc st0) →
    (∀ x ∈ restV f d n s, x.1.pc < n ∧ VmOk x.1 ∧ FitV x.1 ((floS alI hdI nr arch f n n).1.getD x.1.pc st0)) ∧ okE (lastV (restV f d n s)) (floS alI hdI nr arch f n n).2
  | 0, s, hN, hs, _, _ => by omega
  | N + 1, s, hN, hs, hok, hf => by
    have hn := hM.hi
    obtain ⟨g1, g3, g4, _⟩ := oneL_ok (hM.one s.pc hs)
    have hq := ho s.pc hs
    have here : FitV s ((floS alI hdI nr arch f n n).1.getD s.pc st0) := by rw [flo_old hM ho n (by omega) (Nat.le_refl _)]; exact hf
    have hr : ¬ ((floS alI hdI nr arch f n s.pc).1.getD s.pc st0).r = false := by rw [hf.r]; simp
    have hstep : floS alI hdI nr arch f n (s.pc + 1) = goS alI hdI nr arch (f s.pc) s.pc (floS alI hdI nr arch f n s.pc) := rfl
    unfold goS at hstep
    rw [if_neg hr] at hstep
    cases hst : stepV alI hdI (f s.pc) d s with
    | mk r s' =>
      cases r with
      | some r =>
        rw [rest_ret hs hst]
        refine ⟨fun x hx => ?_, ?_⟩
        · simp only [List.mem_singleton] at hx
          subst hx
          exact ⟨hs, hok, here⟩
        · have he := ret_fit g1 (oneL_div (hM.one s.pc hs)) hf hst
          have e1 : okE r (floS alI hdI nr arch f n (s.pc + 1)).2 := by rw [hstep]; exact joinE_fit (.inr he)
          have e2 := end_keep (n - (s.pc + 1)) _ e1
          rw [show s.pc + 1 + (n - (s.pc + 1)) = n by omega] at e2
          exact e2
      | none =>
        obtain ⟨p1, p2⟩ := step_fwd hM ho hs hst
        have hso := (floS_ok (hd := hdI) (f := f) (n := n) alI_u32 hnr har ho s.pc (by omega)).1
        have hlen := (getD_ok hso s.pc).len
        obtain ⟨q1, q2⟩ := step_fit (nr := nr) (arch := arch) (by omega) g1 (fun e => by have := g4 e; omega) (fun e => by
          have h3 : formOf (f s.pc).1 = 3 := by rcases e with e | e <;> rw [e]; exact f23.1; exact f23.2
          have := g3 h3
          omega) hok.len hlen hf h0 h4 hst
        have hnext : FitV s' ((floS alI hdI nr arch f n (s.pc + 1)).1.getD s'.pc st0) := by
          rw [hstep]
          exact puts_new q2 _ q1 (by rw [floS_len]; exact p2)
        have hnext2 := flo_keep (s'.pc - (s.pc + 1)) _ hnext
        rw [show s.pc + 1 + (s'.pc - (s.pc + 1)) = s'.pc by omega] at hnext2
        obtain ⟨i1, i2⟩ := run_fit hM ho hd h0 h4 hnr har N s' (by omega) p2 (step_ok hq hd hok hst) hnext2
        rw [rest_go hM ho hs hst]
        refine ⟨fun x hx => ?_, ?_⟩
        · rcases List.mem_cons.1 hx with rfl | hx
          · exact ⟨hs, hok, here⟩
          · exact i1 x hx
        · have hne := rest_ne (d := d) hM ho p2
          cases hp : restV f d n s' with
          | nil => exact absurd hp hne
          | cons y l => rw [hp] at i2; rw [last_cons]; exact i2
theorem fit_0 : FitV vm0 stB := ⟨rfl, okA_sure _, okA_sure _, fun i => by
  have e : (vm0.mem.getD i 0) = 0 := by
    simp only [vm0, List.getD, List.getElem?_replicate]
    split <;> rfl
  rw [e]
  rcases Nat.lt_or_ge i 16 with h | h
  · have : stB.m.getD i ab0 = sureA 0 := by
      show (List.replicate 16 (sureA 0)).getD i ab0 = sureA 0
      simp only [List.getD, List.getElem?_replicate, if_pos h, Option.getD_some]
    rw [this]
    exact okA_sure 0
  · have : stB.m.getD i ab0 = ab0 := by
      show (List.replicate 16 (sureA 0)).getD i ab0 = ab0
      simp only [List.getD, List.getElem?_replicate, if_neg (show ¬ i < 16 by omega), Option.getD_none]
    rw [this]
    exact okA_ab0 0⟩
/-- Every machine of a run fits the state of its place; what is returned is told. -/
theorem all_fit (hM : May f n) (ho : ∀ i, i < n → insO (f i)) (hd : ∀ o, U32 (d o)) (h0 : d 0 = nr) (h4 : d 4 = arch) (hnr : U32 nr) (har : U32 arch) :
    (∀ x ∈ allV f d n, x.1.pc < n ∧ VmOk x.1 ∧ FitV x.1 ((floS alI hdI nr arch f n n).1.getD x.1.pc st0)) ∧ okE (retV f d n) (floS alI hdI nr arch f n n).2 := by
  have h1 := hM.lo
  refine run_fit hM ho hd h0 h4 hnr har n vm0 (by omega) (by show 0 < n; omega) vm0_ok ?_
  show FitV vm0 (((List.replicate n st0).set 0 stB).getD 0 st0)
  simp only [List.getD, List.getElem?_set_self (show 0 < (List.replicate n st0).length by simp; omega), Option.getD_some]
  exact fit_0
end
end Go.Proofs.YtpeofpilfpjjpaaGreatDoor
