/-
  Instructions and their lines lead back to one another: in plain lists.
-/
import Derived.Test.YtceeinljakcdkaaDoorAsmPrint
import Derived.Test.YtceeinljakcdkaaDoorAsmLw
import Derived.Test.YtceeinljakcdkaaDoorTabM
namespace Go.Proofs.YtceeinljakcdkaaDoor
open Go.RowKit

theorem bareJ2 (c a : Int) : bareJ c (bareJ c a) = bareJ c a := by unfold bareJ; split <;> rfl
theorem bareK2 (c a : Int) : bareK c (bareK c a) = bareK c a := by unfold bareK; split <;> rfl
theorem bareI2 (q : Ins) : bareI (bareI q) = bareI q := by simp [bareI, bareJ2, bareK2]
theorem bare_okI {q : Ins} (h : insO q) : insO (bareI q) := by
  obtain ⟨o1, o2, o3, o4, o5, o6, o7, o8⟩ := h
  unfold insO bareI bareJ bareK
  constructor <;> simp only <;> (try split) <;> omega
/-! Numbers. -/
theorem pM_snoc (M : Nat) (l : List UInt8) (c : UInt8) (acc a : Nat) (h : Lib.parseUintM M acc l = .ok a) (h1 : 48 ≤ c.toNat) (h2 : c.toNat ≤ 57) (h3 : ¬ 1844674407370955162 ≤ a) (h4 : ¬ M < a * 10 + (c.toNat - 48)) :
    Lib.parseUintM M acc (l ++ [c]) = .ok (a * 10 + (c.toNat - 48)) := by
  induction l generalizing acc with
  | nil =>
    simp only [Lib.parseUintM, Lib.NumEnd.ok.injEq] at h
    subst h
    simp only [List.nil_append, Lib.parseUintM]
    rw [if_pos ⟨h1, h2⟩, if_neg h3, if_neg h4]
  | cons d l ih =>
    simp only [Lib.parseUintM, List.cons_append] at h ⊢
    split at h
    · rename_i hd
      rw [if_pos hd]
      split at h
      · cases h
      · rename_i h5
        rw [if_neg h5]
        split at h
        · cases h
        · rename_i h6
          rw [if_neg h6]
          exact ih _ h
    · cases h
theorem dig_nat (u : Nat) (h : u < 10) : (UInt8.ofNat (48 + u)).toNat = 48 + u := by
  have : ∀ u : Fin 10, (UInt8.ofNat (48 + u.val)).toNat = 48 + u.val := by decide
  exact this ⟨u, h⟩
theorem pM_dec (u : Nat) (hu : u < 4294967296) : Lib.parseUintM 18446744073709551615 0 (Lib.decDigits u) = .ok u := by
  induction u using Nat.strongRecOn with
  | _ u ih =>
    rw [Lib.decDigits]
    by_cases h : u < 10
    · rw [dif_pos h]
      have h1 := dig_nat u h
      simp only [Lib.parseUintM]
      rw [if_pos (by omega), if_neg (by omega), if_neg (by omega), h1]
      simp
    · rw [dif_neg h]
      have h1 := dig_nat (u % 10) (Nat.mod_lt _ (by omega))
      rw [pM_snoc _ _ _ _ _ (ih (u / 10) (by omega) (by omega)) (by omega) (by omega) (by omega) (by omega), h1]
      congr 1
      omega
theorem dec_ne (u : Nat) : Lib.decDigits u ≠ [] := by
  rw [Lib.decDigits]
  split <;> simp
theorem dec_mem (u : Nat) : ∀ c ∈ Lib.decDigits u, c ≠ 32 ∧ c ≠ 10 := by
  induction u using Nat.strongRecOn with
  | _ u ih =>
    have hd : ∀ v : Fin 10, UInt8.ofNat (48 + v.val) ≠ 32 ∧ UInt8.ofNat (48 + v.val) ≠ 10 := by decide
    rw [Lib.decDigits]
    split
    · rename_i h
      intro c hc
      rw [List.mem_singleton] at hc
      subst hc
      exact hd ⟨u, h⟩
    · rename_i h
      intro c hc
      rcases List.mem_append.1 hc with hc | hc
      · exact ih (u / 10) (by omega) c hc
      · rw [List.mem_singleton] at hc
        subst hc
        exact hd ⟨u % 10, Nat.mod_lt _ (by omega)⟩
theorem numL_dec {w u : Nat} (hu : u < w) (hw : w ≤ 4294967296) : numL w (Lib.decDigits u) = some u := by
  have h : Lib.parseUintB 64 (Lib.decDigits u) = .ok u := by
    unfold Lib.parseUintB
    rw [if_neg (dec_ne u)]
    exact pM_dec u (by omega)
  unfold numL
  rw [h]
  simp only
  rw [Nat.mod_eq_of_lt hu, if_pos rfl]
/-! Parts. -/
/-- It is empty, or begins with a blank. -/
def blankB (r : List UInt8) : Prop := r = [] ∨ ∃ s, r = 32 :: s
theorem part_blank (d r : List UInt8) (hd : ∀ c ∈ d, c ≠ 32) (hr : blankB r) : partL (d ++ r) = (d, r) := by
  have h1 : ∀ c ∈ d, (c != 32) = true := fun c hc => by simpa using hd c hc
  unfold partL
  rw [List.takeWhile_append_of_pos h1, List.dropWhile_append_of_pos h1]
  rcases hr with rfl | ⟨s, rfl⟩ <;> simp
theorem part_join (l : List UInt8) : (partL l).1 ++ (partL l).2 = l := List.takeWhile_append_dropWhile
theorem drop_blank (l : List UInt8) : blankB (l.dropWhile (· != 32)) := by
  induction l with
  | nil => exact .inl rfl
  | cons c l ih =>
    rw [List.dropWhile_cons]
    split
    · exact ih
    · rename_i h
      simp at h
      subst h
      exact .inr ⟨l, rfl⟩
theorem part_snd (l : List UInt8) : blankB (partL l).2 := drop_blank l
theorem dig_blank (cnt x : Int) (r : List UInt8) (hr : blankB r) : blankB (digB cnt x ++ r) := by
  unfold digB
  split
  · exact hr
  · exact .inr ⟨_, rfl⟩
theorem trim_cons (r : List UInt8) : Lib.trimPrefix (32 :: r) [32] = r := by simp [Lib.trimPrefix, Lib.hasPrefix, List.isPrefixOf]
theorem read_dig {w : Nat} (cnt x : Int) (r : List UInt8) (hr : blankB r) (h0 : 0 ≤ x) (hx : x < w) (hw : w ≤ 4294967296) (hz : cnt = 0 → x = 0) : readL w (cnt != 0) (digB cnt x ++ r) = some (x.toNat, r) := by
  unfold readL digB
  by_cases hc : cnt = 0
  · subst hc
    rw [hz rfl]
    simp
  · have h1 : (cnt != 0) = true := by simpa using hc
    rw [if_neg hc, h1]
    simp only [if_true, List.cons_append]
    rw [trim_cons, part_blank _ _ (fun c hc => (dec_mem _ c hc).1) hr, numL_dec (by omega) hw]
    rfl
theorem dig_read {w : Nat} (cnt : Int) (r : List UInt8) (n : Nat) (r' : List UInt8) (hr : blankB r) (hw : 0 < w) (h : readL w (cnt != 0) r = some (n, r')) : r = digB cnt (n : Int) ++ r' ∧ blankB r' ∧ n < w ∧ (cnt = 0 → n = 0) := by
  unfold readL at h
  unfold digB
  by_cases hc : cnt = 0
  · subst hc
    simp only [bne_self_eq_false, Bool.false_eq_true, if_false, Option.some.injEq, Prod.mk.injEq] at h
    obtain ⟨rfl, rfl⟩ := h
    simp [hr, hw]
  · have h1 : (cnt != 0) = true := by simpa using hc
    rw [h1] at h
    simp only [if_true] at h
    rw [if_neg hc]
    cases hn : numL w (partL (Lib.trimPrefix r [32])).1 with
    | none => rw [hn] at h; cases h
    | some m =>
      rw [hn] at h
      simp only [Option.map_some, Option.some.injEq, Prod.mk.injEq] at h
      obtain ⟨rfl, rfl⟩ := h
      rcases hr with rfl | ⟨s, rfl⟩
      · exfalso
        have : (partL (Lib.trimPrefix [] [32])).1 = [] := rfl
        rw [this] at hn
        cases hn
      · rw [trim_cons] at hn ⊢
        have hj := part_join s
        unfold numL at hn
        rcases hp : Lib.parseUintB 64 (partL s).1 with u | _ | _
        · rw [hp] at hn
          simp only at hn
          split at hn
          · rename_i he
            simp only [Option.some.injEq] at hn
            subst hn
            refine ⟨?_, part_snd s, Nat.mod_lt _ hw, fun h => absurd h hc⟩
            rw [Int.toNat_natCast, he, List.cons_append, hj]
          · cases hn
        · rw [hp] at hn; cases hn
        · rw [hp] at hn; cases hn
/-! Names. -/
theorem name_bytes {i : Nat} (hi : i < 41) : (∀ c ∈ (kN i).data.toList, c ≠ 32 ∧ c ≠ 10) ∧ (kN i).data.toList ≠ [] := by
  have hall : ((List.range 41).all fun i => (kN i).data.toList.all (fun c => c != 32 && c != 10) && !(kN i).data.toList.isEmpty) = true := by decide
  have h := List.all_eq_true.1 hall i (List.mem_range.2 hi)
  simp only [Bool.and_eq_true, List.all_eq_true, bne_iff_ne, ne_eq, Bool.not_eq_true', List.isEmpty_eq_false_iff] at h
  exact ⟨fun c hc => h.1 c hc, h.2⟩
theorem name_row {c : Int} (h : (nameOf c).2 = true) : ∃ i, i < 41 ∧ kC i = c ∧ (nameOf c).1 = kN i ∧ rowC c = some i := by
  unfold nameOf at h ⊢
  cases hr : rowC c with
  | none => rw [hr] at h; cases h
  | some i =>
    obtain ⟨h1, h2⟩ := rowC_some hr
    exact ⟨i, h1, h2, rfl, rfl⟩
theorem code_kN {i : Nat} (hi : i < 41) : codeOf (kN i) = (kC i, true) := by
  unfold codeOf
  rw [rowN_kN hi]
theorem code_row {s : ByteArray} (h : (codeOf s).2 = true) : ∃ i, i < 41 ∧ (codeOf s).1 = kC i ∧ s = kN i := by
  unfold codeOf at h ⊢
  cases hr : rowN s with
  | none => rw [hr] at h; cases h
  | some i =>
    have hr' := hr
    rw [rowN_eq] at hr'
    have h1 := List.mem_range.1 (List.mem_of_find?_eq_some hr')
    have h2 := List.find?_some hr'
    refine ⟨i, h1, rfl, ?_⟩
    have e : (kAt i).2.1 = s.data.toList := by simpa using h2
    rw [← bs_of s, ← e]
    rfl
theorem kC_rng {i : Nat} (hi : i < 41) : 0 ≤ kC i ∧ kC i ≤ 65535 := by
  have hall : ((List.range 41).all fun i => decide (0 ≤ kC i ∧ kC i ≤ 65535)) = true := by decide
  simpa using List.all_eq_true.1 hall i (List.mem_range.2 hi)
theorem row_kC {i : Nat} (hi : i < 41) : rowC (kC i) = some i := by
  have hall : ((List.range 41).all fun i => rowC (kC i) == some i) = true := by decide
  simpa using List.all_eq_true.1 hall i (List.mem_range.2 hi)
theorem cntK {c k : Int} (h : bareK c k = k) : bareK c 1 = 0 → k = 0 := by
  unfold bareK at h ⊢
  split
  · rename_i h1
    rw [if_pos h1] at h
    intro _
    omega
  · intro h1
    omega
theorem cntJ {c k : Int} (h : bareJ c k = k) : bareJ c 1 = 0 → k = 0 := by
  unfold bareJ at h ⊢
  split
  · intro h1
    omega
  · rename_i h1
    rw [if_neg h1] at h
    intro _
    omega
/-- The line of an instruction that has one leads back to it. -/
theorem one_line (q : Ins) (hq : insO q) (h : hasL q = true) : oneB (lineB q) = some q := by
  obtain ⟨c, a, b, k⟩ := q
  simp only [hasL, Bool.and_eq_true, decide_eq_true_eq] at h
  obtain ⟨h1, h2⟩ := h
  simp only [bareI, Prod.mk.injEq, true_and] at h2
  obtain ⟨h3, h4, h5⟩ := h2
  obtain ⟨o1, o2, o3, o4, o5, o6, o7, o8⟩ := hq
  simp only at o1 o2 o3 o4 o5 o6 o7 o8 h1
  obtain ⟨i, hi, e1, e2, _⟩ := name_row h1
  have hb1 : blankB (digB (bareJ c 1) b) := by have := dig_blank (bareJ c 1) b [] (.inl rfl); rwa [List.append_nil] at this
  have hb2 := dig_blank (bareJ c 1) a _ hb1
  have hb3 := dig_blank (bareK c 1) k _ hb2
  have hl : lineB (c, a, b, k) = (kN i).data.toList ++ (digB (bareK c 1) k ++ (digB (bareJ c 1) a ++ digB (bareJ c 1) b)) := by simp only [lineB, e2, List.append_assoc]
  have hp : partL (lineB (c, a, b, k)) = ((kN i).data.toList, digB (bareK c 1) k ++ (digB (bareJ c 1) a ++ digB (bareJ c 1) b)) := by rw [hl]; exact part_blank _ _ (fun x hx => ((name_bytes hi).1 x hx).1) hb3
  unfold oneB
  rw [hp]
  simp only
  rw [bs_of, code_kN hi, e1]
  simp only [if_true, tailL]
  rw [read_dig (w := 4294967296) _ k _ hb2 (by omega) (by omega) (Nat.le_refl _) (cntK h5)]
  simp only
  rw [read_dig (w := 256) _ a _ hb1 (by omega) (by omega) (by omega) (cntJ h3)]
  simp only
  have := read_dig (w := 256) (bareJ c 1) b [] (.inl rfl) (by omega) (by omega) (by omega) (cntJ h4)
  rw [List.append_nil] at this
  rw [this]
  simp only [if_true]
  rw [show ((a.toNat : Nat) : Int) = a from by omega, show ((b.toNat : Nat) : Int) = b from by omega, show ((k.toNat : Nat) : Int) = k from by omega]
theorem bareK_of {c : Int} {k : Int} (h : bareK c 1 = 0 → k = 0) : bareK c k = k := by
  unfold bareK at h ⊢
  split
  · rename_i h1
    rw [if_pos h1] at h
    exact (h rfl).symm
  · rfl
theorem bareJ_of {c : Int} {k : Int} (h : bareJ c 1 = 0 → k = 0) : bareJ c k = k := by
  unfold bareJ at h ⊢
  split
  · rfl
  · rename_i h1
    rw [if_neg h1] at h
    exact (h rfl).symm
/-- .. and a line to its instruction. -/
theorem line_one (l : List UInt8) (q : Ins) (h : oneB l = some q) : lineB q = l ∧ hasL q = true ∧ insO q := by
  unfold oneB at h
  split at h
  · rename_i hk
    obtain ⟨i, hi, e1, e2⟩ := code_row hk
    rw [e1] at h
    unfold tailL at h
    have hb0 := part_snd l
    cases hR1 : readL 4294967296 (bareK (kC i) 1 != 0) (partL l).2 with
    | none => rw [hR1] at h; cases h
    | some X1 =>
      obtain ⟨nk, r1⟩ := X1
      rw [hR1] at h
      simp only at h
      obtain ⟨s1, hb1, l1, z1⟩ := dig_read _ _ _ _ hb0 (by omega) hR1
      cases hR2 : readL 256 (bareJ (kC i) 1 != 0) r1 with
      | none => rw [hR2] at h; cases h
      | some X2 =>
        obtain ⟨na, r2⟩ := X2
        rw [hR2] at h
        simp only at h
        obtain ⟨s2, hb2, l2, z2⟩ := dig_read _ _ _ _ hb1 (by omega) hR2
        cases hR3 : readL 256 (bareJ (kC i) 1 != 0) r2 with
        | none => rw [hR3] at h; cases h
        | some X3 =>
          obtain ⟨nb, r3⟩ := X3
          rw [hR3] at h
          simp only at h
          obtain ⟨s3, hb3, l3, z3⟩ := dig_read _ _ _ _ hb2 (by omega) hR3
          split at h
          · rename_i hr3
            simp only [Option.some.injEq] at h
            subst h hr3
            have hn : nameOf (kC i) = (kN i, true) := by unfold nameOf; rw [row_kC hi]
            have hr := kC_rng hi
            refine ⟨?_, ?_, ?_⟩
            · have hj := part_join l
              have e3 : (partL l).1 = (kN i).data.toList := by rw [← e2, bs_list]
              rw [e3, s1, s2, s3, List.append_nil] at hj
              rw [← hj]
              simp only [lineB, hn, List.append_assoc]
            · simp only [hasL, hn, bareI, Bool.true_and, decide_eq_true_eq, Prod.mk.injEq, true_and]
              exact ⟨bareJ_of (fun h => by rw [z2 h]; rfl), bareJ_of (fun h => by rw [z3 h]; rfl), bareK_of (fun h => by rw [z1 h]; rfl)⟩
            · constructor <;> simp only <;> omega
          · cases h
  · cases h
theorem line_mem (q : Ins) (h : hasL q = true) : ∀ c ∈ lineB q, c ≠ 10 := by
  obtain ⟨c, a, b, k⟩ := q
  simp only [hasL, Bool.and_eq_true] at h
  obtain ⟨i, hi, e1, e2, _⟩ := name_row h.1
  have hd : ∀ cnt x : Int, ∀ y ∈ digB cnt x, y ≠ 10 := by
    intro cnt x y hy
    unfold digB at hy
    split at hy
    · cases hy
    · rcases List.mem_cons.1 hy with rfl | hy
      · decide
      · exact (dec_mem _ y hy).2
  intro y hy
  simp only [lineB, List.mem_append] at hy
  rcases hy with ((hy | hy) | hy) | hy
  · rw [e2] at hy
    exact ((name_bytes hi).1 y hy).2
  · exact hd _ _ y hy
  · exact hd _ _ y hy
  · exact hd _ _ y hy
end Go.Proofs.YtceeinljakcdkaaDoor
