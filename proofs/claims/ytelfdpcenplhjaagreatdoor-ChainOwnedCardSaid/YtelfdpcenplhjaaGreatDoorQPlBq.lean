/-
  What is taken and given back leads back, and what is added and given back: plain lemmas for ChainBack.
-/
import Derived.Test.YtelfdpcenplhjaaGreatDoorQPlZ
import Derived.Test.YtelfdpcenplhjaaGreatDoorQJL
import Derived.Test.YtelfdpcenplhjaaGreatDoorQJC
import Derived.Test.YtelfdpcenplhjaaGreatDoorQJK
import Derived.Test.YtelfdpcenplhjaaGreatDoorQHH
import Derived.Deep.Slices
import Derived.Lib.SmallJoins
import Derived.ChangeArms
import Derived.ChangeSame
import Derived.Test.YtelfdpcenplhjaaGreatDoorQJN
namespace Go.Proofs.YtelfdpcenplhjaaGreatDoor
open Go.RowKit Go.Shelf
set_option linter.unusedVariables false
set_option linter.unusedSimpArgs false
def coreN (x : Nm) : Int × Int × List Ins × Int := (x.i, x.p, x.g, x.z)
theorem find_core (p : Int × Int × List Ins × Int → Bool) : ∀ {L M : List Nl}, L.map (fun x => coreN x.1) = M.map (fun x => coreN x.1) → (L.find? fun x => p (coreN x.1)).map (fun x => coreN x.1) = (M.find? fun x => p (coreN x.1)).map (fun x => coreN x.1)
  | [], [], _ => rfl
  | [], _ :: _, h => by simp at h
  | _ :: _, [], h => by simp at h
  | x :: L, y :: M, h => by
    simp only [List.map_cons, List.cons.injEq] at h
    obtain ⟨h1, h2⟩ := h
    have ih := find_core p h2
    rw [List.find?_cons, List.find?_cons, h1]
    cases p (coreN y.1)
    · exact ih
    · simp [h1]
theorem count_core (p : Int × Int × List Ins × Int → Bool) {L M : List Nl} (h : L.map (fun x => coreN x.1) = M.map (fun x => coreN x.1)) : L.countP (fun x => p (coreN x.1)) = M.countP (fun x => p (coreN x.1)) := by
  have e : ∀ K : List Nl, K.countP (fun x => p (coreN x.1)) = (K.map (fun x => coreN x.1)).countP p := fun K => by rw [List.countP_map]; rfl
  rw [e, e, h]
section
variable {L M : List Nl}
theorem idR_core (h : L.map (fun x => coreN x.1) = M.map (fun x => coreN x.1)) (id : Int) : coreN (idR L id).1.1 = coreN (idR M id).1.1 ∧ (idR L id).2 = (idR M id).2 := by
  have e := find_core (fun x => x.1 == id) h
  simp only [coreN] at e
  unfold idR
  cases h1 : L.find? (fun x => x.1.i == id) <;> cases h2 : M.find? (fun x => x.1.i == id) <;> rw [h1, h2] at e <;> simp at e
  · exact ⟨rfl, rfl⟩
  · exact ⟨by simp [coreN, e], rfl⟩
theorem kids_core (h : L.map (fun x => coreN x.1) = M.map (fun x => coreN x.1)) (id : Int) : kidsN L id = kidsN M id := count_core (fun x => x.2.1 == id) h
theorem rise_core : ∀ {L M : List Nl} (l : Int), L.map (fun x => coreN x.1) = M.map (fun x => coreN x.1) → riseB l L = riseB l M
  | [], [], _, _ => rfl
  | [], _ :: _, _, h => by simp at h
  | _ :: _, [], _, h => by simp at h
  | x :: L, y :: M, l, h => by
    simp only [List.map_cons, List.cons.injEq] at h
    have hi : x.1.i = y.1.i := congrArg Prod.fst h.1
    unfold riseB
    rw [hi, rise_core _ h.2]
theorem stand_core (h : L.map (fun x => coreN x.1) = M.map (fun x => coreN x.1)) {x y : Nm} (hc : coreN x = coreN y) (hk : x.k ≤ y.k) (hs : standV L x = true) : standV M y = true := by
  simp only [coreN, Prod.mk.injEq] at hc
  obtain ⟨hi, hp, hg, hz⟩ := hc
  obtain ⟨e1, e2⟩ := idR_core h x.p
  have e3 : (idR L x.p).1.1.z = (idR M x.p).1.1.z := congrArg (fun q => q.2.2.2) e1
  unfold standV at hs ⊢
  rw [← hp, ← hg, ← hz, ← e2, ← e3, ← hi, ← kids_core h]
  simp only [Bool.and_eq_true, decide_eq_true_eq] at hs ⊢
  exact ⟨hs.1, Int.le_trans hs.2 hk⟩
theorem chk_core (h : L.map (fun x => coreN x.1) = M.map (fun x => coreN x.1)) (hk : ∀ j, j < L.length → (L.getD j nl0).1.k ≤ (M.getD j nl0).1.k) (hc : chkP L = 0) : chkP M = 0 := by
  have hl : L.length = M.length := by have := congrArg List.length h; simpa using this
  unfold chkP at hc ⊢
  split at hc
  · rename_i hb
    simp only [Bool.and_eq_true, List.all_eq_true] at hb
    rw [if_pos]
    simp only [Bool.and_eq_true, List.all_eq_true]
    refine ⟨by rw [← rise_core 0 h]; exact hb.1, fun y hy => ?_⟩
    obtain ⟨j, hj, rfl⟩ := List.getElem_of_mem hy
    have hjL : j < L.length := by omega
    have h1 : (L.map (fun x => coreN x.1))[j]? = (M.map (fun x => coreN x.1))[j]? := by rw [h]
    simp [hj, hjL] at h1
    have h2 := hk j hjL
    simp [List.getD, hj, hjL] at h2
    exact stand_core h h1 h2 (hb.2 _ (List.getElem_mem hjL))
  · cases hc
end
theorem rise_all : ∀ {L : List Nl} {l : Int}, riseB l L = true → ∀ x ∈ L, l < x.1.i
  | [], _, _, x, hx => by cases hx
  | y :: L, l, h, x, hx => by
    unfold riseB at h
    simp only [Bool.and_eq_true, Bool.not_eq_true', Bool.or_eq_false_iff, decide_eq_false_iff_not] at h
    rcases List.mem_cons.1 hx with rfl | hx
    · omega
    · have := rise_all h.2 x hx
      omega
theorem rise_ins (n : Nl) : ∀ (k : Nat) {L : List Nl} {l : Int}, riseB l L = true → (∀ j : Nat, j < k → ∃ x ∈ L, x.1.i = l + j + 1) → (∀ x ∈ L, ¬ x.1.i = l + k + 1) → n.1.i = l + k + 1 → l + k + 1 ≤ 24 → riseB l (insN k n L) = true
  | 0, L, l, h, _, hno, hn, h24 => by
    show riseB l (n :: L) = true
    unfold riseB
    rw [decide_eq_false (by omega : ¬ n.1.i ≤ l), decide_eq_false (by omega : ¬ 24 < n.1.i)]
    simp only [Bool.or_false, Bool.not_false, Bool.true_and]
    cases L with
    | nil => rfl
    | cons x L =>
      have hx := rise_all h x (by simp)
      have hne := hno x (by simp)
      unfold riseB at h ⊢
      simp only [Bool.and_eq_true, Bool.not_eq_true', Bool.or_eq_false_iff, decide_eq_false_iff_not] at h ⊢
      exact ⟨⟨by omega, h.1.2⟩, h.2⟩
  | k + 1, L, l, h, hall, hno, hn, h24 => by
    cases L with
    | nil => obtain ⟨x, hx, _⟩ := hall 0 (by omega); cases hx
    | cons x L =>
      have h0 := h
      unfold riseB at h
      simp only [Bool.and_eq_true, Bool.not_eq_true', Bool.or_eq_false_iff, decide_eq_false_iff_not] at h
      have hxi : x.1.i = l + 1 := by
        obtain ⟨y, hy, hyi⟩ := hall 0 (by omega)
        rcases List.mem_cons.1 hy with rfl | hy
        · simpa using hyi
        · have := rise_all h.2 y hy
          have := rise_all h0 x (by simp)
          simp at hyi
          omega
      have ih := rise_ins n k (L := L) (l := l + 1) (by rw [← hxi]; exact h.2) (fun j hj => by
        obtain ⟨y, hy, hyi⟩ := hall (j + 1) (by omega)
        rcases List.mem_cons.1 hy with rfl | hy
        · exfalso; omega
        · exact ⟨y, hy, by omega⟩) (fun y hy e => hno y (by simp [hy]) (by omega)) (by omega) (by omega)
      have e : insN (k + 1) n (x :: L) = x :: insN k n L := by simp [insN]
      rw [e]
      unfold riseB
      rw [hxi, ih, decide_eq_false (by omega : ¬ l + 1 ≤ l), decide_eq_false (by omega : ¬ 24 < l + 1)]
      rfl
theorem idR_ins {n : Nl} {k : Nat} {L : List Nl} {id : Int} (h : ¬ n.1.i = id) : idR (insN k n L) id = idR L id := by
  have e : (insN k n L).find? (fun x => x.1.i == id) = L.find? (fun x => x.1.i == id) := by
    unfold insN
    rw [List.find?_append, List.find?_cons]
    have : (n.1.i == id) = false := by simpa using h
    rw [this]
    conv => rhs; rw [← List.take_append_drop k L, List.find?_append]
  unfold idR
  rw [e]
theorem kids_ins (n : Nl) (k : Nat) (L : List Nl) (id : Int) : kidsN (insN k n L) id = kidsN L id + if n.1.p = id then 1 else 0 := by
  unfold kidsN insN
  rw [List.countP_append, List.countP_cons]
  conv => rhs; rw [← List.take_append_drop k L, List.countP_append]
  by_cases h : n.1.p = id
  · simp [h]; omega
  · simp [h]
theorem chk_ins {n : Nl} {k : Nat} {L : List Nl} (hc : chkP L = 0) (hn : n.1.i = (k : Int) + 1) (hall : ∀ j : Nat, j < k → ∃ x ∈ L, x.1.i = (j : Int) + 1) (hno : ∀ x ∈ L, ¬ x.1.i = n.1.i) (h24 : (k : Int) + 1 ≤ 24)
    (hp : (idR L n.1.p).2 = true ∨ n.1.p = 0) (hg : chkG n.1.g = 0) (hz : n.1.z = szG L n.1.p n.1.g) (hz2 : n.1.z ≤ 256) (hk : n.1.k = 1) (hkid : ∀ x ∈ L, x.1.i = n.1.p → (kidsN L x.1.i : Int) + 1 ≤ x.1.k) : chkP (insN k n L) = 0 := by
  have hst : riseB 0 L = true ∧ ∀ x ∈ L, standV L x.1 = true := by
    unfold chkP at hc
    split at hc
    · rename_i hb
      simpa only [Bool.and_eq_true, List.all_eq_true] using hb
    · cases hc
  have hpar : ∀ x ∈ L, ¬ n.1.i = x.1.p := fun x hx e => by
    have h := hst.2 x hx
    unfold standV at h
    simp only [Bool.and_eq_true, Bool.or_eq_true, beq_iff_eq] at h
    rcases h.1.1.1.1 with h1 | h1
    · obtain ⟨r, b, hr⟩ : ∃ r b, idR L x.1.p = (r, b) := ⟨_, _, rfl⟩
      rw [hr] at h1
      simp only at h1
      subst h1
      obtain ⟨hm, hi⟩ := idR_some hr
      exact hno r hm (hi.trans e.symm)
    · omega
  have hpn : ¬ n.1.i = n.1.p := fun e => by
    rcases hp with h1 | h1
    · obtain ⟨r, b, hr⟩ : ∃ r b, idR L n.1.p = (r, b) := ⟨_, _, rfl⟩
      rw [hr] at h1
      simp only at h1
      subst h1
      obtain ⟨hm, hi⟩ := idR_some hr
      exact hno r hm (hi.trans e.symm)
    · omega
  have hk0 : kidsN L n.1.i = 0 := by
    unfold kidsN
    rw [List.countP_eq_zero]
    intro x hx
    have := hpar x hx
    simp
    exact fun e => this e.symm
  unfold chkP
  rw [if_pos]
  simp only [Bool.and_eq_true, List.all_eq_true]
  refine ⟨rise_ins n k hst.1 (fun j hj => by obtain ⟨x, hx, e⟩ := hall j hj; exact ⟨x, hx, by omega⟩) (fun x hx e => hno x hx (by omega)) (by omega) (by omega), fun x hx => ?_⟩
  have hx' : x = n ∨ x ∈ L := by
    unfold insN at hx
    rcases List.mem_append.1 hx with h | h
    · exact .inr (List.mem_of_mem_take h)
    · rcases List.mem_cons.1 h with h | h
      · exact .inl h
      · exact .inr (List.mem_of_mem_drop h)
  rcases hx' with rfl | hx'
  · unfold standV
    rw [idR_ins hpn, kids_ins, if_neg (fun e => hpn e.symm), hk0, hg, hk]
    unfold szG at hz
    simp only [Bool.and_eq_true, Bool.or_eq_true, beq_iff_eq, decide_eq_true_eq]
    exact ⟨⟨⟨⟨hp, trivial⟩, hz⟩, hz2⟩, by decide⟩
  · have h := hst.2 x hx'
    unfold standV at h ⊢
    rw [idR_ins (hpar x hx'), kids_ins]
    simp only [Bool.and_eq_true, decide_eq_true_eq] at h ⊢
    refine ⟨h.1, ?_⟩
    have h2 := h.2
    by_cases e : n.1.p = x.1.i
    · rw [if_pos e]
      have := hkid x hx' e.symm
      simp only [Int.natCast_add]
      omega
    · rw [if_neg e]
      simpa using h2
theorem fresh_full {L : List Nl} {pa : Int} {g : List Ins} (h : freshE L pa g = 0) : ∃ k : Nat, freshN L pa g = ⟨(k : Int) + 1, pa, g, szG L pa g, 1, bitG g 3221225534, bitG g 1073741827⟩ ∧ (k : Int) + 1 ≤ 24 ∧
    (∀ j : Nat, j < k → ∃ x ∈ L, x.1.i = (j : Int) + 1) ∧ (∀ x ∈ L, ¬ x.1.i = (k : Int) + 1) ∧ ((idR L pa).2 = true ∨ pa = 0) ∧ chkG g = 0 ∧ szG L pa g ≤ 256 := by
  have hN : freshN L pa g = ⟨(freeR L).1, pa, g, szG L pa g, 1, bitG g 3221225534, bitG g 1073741827⟩ := by unfold freshN; rw [if_pos h]
  unfold freshE at h
  by_cases hc : chkG g = 0
  · rw [if_pos hc] at h
    by_cases hp : ((idR L pa).2 || pa == 0) = true
    · rw [if_pos hp] at h
      by_cases hf : ((freeR L).2 && decide (szG L pa g ≤ 256)) = true
      · simp only [Bool.and_eq_true, decide_eq_true_eq] at hf
        simp only [Bool.or_eq_true, beq_iff_eq] at hp
        have h2 := hf.1
        unfold freeR at h2
        cases hq : (List.range 24).find? (freeB L) with
        | none => rw [hq] at h2; cases h2
        | some k =>
          have hk1 : (freeR L).1 = (k : Int) + 1 := by unfold freeR; rw [hq]
          have hkb := List.find?_some hq
          have hkm := List.mem_of_find?_eq_some hq
          have hk24 : k < 24 := by simpa using hkm
          refine ⟨k, by rw [hN, hk1], by omega, fun j hj => ?_, fun x hx e => ?_, hp, hc, hf.2⟩
          · have hjf : freeB L j = false := by
              obtain ⟨a, b, hab, hall⟩ := (List.find?_eq_some_iff_append.1 hq).2
              have hja : j ∈ a := by
                have hlen : a.length = k := by
                  have h3 : (List.range 24)[a.length]? = some k := by rw [hab]; simp
                  have hlt : a.length < 24 := by
                    have := congrArg List.length hab
                    simp at this
                    omega
                  simp [hlt] at h3
                  exact h3
                have h4 : (List.range 24)[j]? = a[j]? := by rw [hab, List.getElem?_append_left (by omega)]
                simp [show j < 24 by omega] at h4
                exact List.mem_of_getElem? h4.symm
              have := hall j hja
              simpa using this
            unfold freeB at hjf
            cases hx : L.find? (fun x => x.1.i == ((j : Int) + 1)) with
            | none => rw [hx] at hjf; cases hjf
            | some x => exact ⟨x, List.mem_of_find?_eq_some hx, by have := List.find?_some hx; simpa using this⟩
          · unfold freeB at hkb
            have := List.find?_eq_none.1 (Option.isNone_iff_eq_none.1 hkb) x hx
            exact this (by simp [e])
      · rw [if_neg hf] at h; cases h
    · rw [if_neg hp] at h; cases h
  · rw [if_neg hc] at h; exact absurd h hc
theorem chk_add {L L2 : List Nl} {pa : Int} {g : List Ins} {k : Nat} (hc : chkP L = 0) (hE : freshE L pa g = 0) (hi : (freshN L pa g).i = (k : Nat) + 1) (hn : L2.map (·.1) = insM k (freshN L pa g) (L.map (·.1))) (hkid : ∀ x ∈ L, x.1.i = pa → (kidsN L x.1.i : Int) + 1 ≤ x.1.k) : chkP L2 = 0 := by
  obtain ⟨k', hf, h24, hall, hno, hp, hg, hz⟩ := fresh_full hE
  have hkk : k' = k := by rw [hf] at hi; simp only at hi; omega
  subst hkk
  have hnm : L2.map (·.1) = (insN k' ((freshN L pa g), loc0) L).map (·.1) := by rw [names_ins]; exact hn
  rw [chkP_names hnm]
  rw [hf]
  exact chk_ins hc rfl hall hno h24 hp hg rfl hz rfl hkid
end Go.Proofs.YtelfdpcenplhjaaGreatDoor
namespace Go.Proofs.YtelfdpcenplhjaaGreatDoor
open Go.RowKit Go.Shelf
set_option linter.unusedVariables false
set_option linter.unusedSimpArgs false
def Pa (w : World) (B : Nat) (A : Option Addr) (L : List Nl) : Prop := ∀ k, k < L.length → ∃ b off, A = some ⟨b, off, none⟩ ∧ b < B ∧ w.rangeAt b (off + k * 7) (ndC (L.getD k nl0)).toList
theorem Pa.below {w w' : World} {B B' : Nat} {A : Option Addr} {L : List Nl} (h : Pa w B A L) (hb : Below B' w w') (hB : B ≤ B') : Pa w' B A L := fun k hk => by
  obtain ⟨b, off, e, h1, h2⟩ := h k hk
  exact ⟨b, off, e, h1, range_below h2 hb (Nat.lt_of_lt_of_le h1 hB)⟩
end Go.Proofs.YtelfdpcenplhjaaGreatDoor
namespace Go.Proofs.YtelfdpcenplhjaaGreatDoor
open Go.RowKit
set_option maxRecDepth 100000 in
theorem insns_of {H : Type} {enc : TypeId × Value → H} {w : World} {base : Nat} {spare : Nat → Bool} {held : Bool} {fuel : Nat} {a : Option Addr} {l c : Nat} {x : DataW H × List MemPlace}
    (h : DataW.trod enc Tryz.prog w base spare held fuel 25 [.slice a l c] = some x) : ∃ f, Ri w w.heap.size a l f ∧ l ≤ c ∧ l ≤ maxLen := by
  rcases Go.Deep.open_slice Tryz.underlying25 h with ⟨hcs, _⟩ | ⟨p, l', c', m, n, D, Pl, hcs, _, hl, hm, hmm, _, hel⟩
  · simp at hcs
    obtain ⟨rfl, rfl, rfl⟩ := hcs
    exact ⟨fun _ => (0, 0, 0, 0), fun k hk => absurd hk (by omega), by omega, by simp [maxLen]⟩
  · simp at hcs
    obtain ⟨rfl, rfl, rfl⟩ := hcs
    have hlm : l ≤ m := by rw [hmm]; split <;> omega
    have hc4 : Tryz.prog.cellsOf 111 = 4 := by kernel_rfl
    have hu16 : Tryz.prog.cellsOf 65 = 1 := by kernel_rfl
    have hu8 : Tryz.prog.cellsOf 5 = 1 := by kernel_rfl
    have hu32 : Tryz.prog.cellsOf 61 = 1 := by kernel_rfl
    rw [hc4] at hel
    have each : ∀ i, i < l → ∃ q : Ins, (w.cell? ((p.add (i * 4)).add 0) = some (.int .u16 q.1) ∧ w.cell? ((p.add (i * 4)).add 1) = some (.int .u8 q.2.1) ∧ w.cell? ((p.add (i * 4)).add 2) = some (.int .u8 q.2.2.1) ∧ w.cell? ((p.add (i * 4)).add 3) = some (.int .u32 q.2.2.2)) ∧ insO q := by
      intro i hi
      obtain ⟨cs', h1, h2⟩ := hel i (by omega)
      obtain ⟨_, hlen, hcell⟩ := World.cells?_some h1
      obtain ⟨y0, y1, y2, y3, n', _, _, t0, t1, t2, t3⟩ := Joins.trod_struct4 Tryz.underlying111 h2
      match cs', hlen with
      | [v0, v1, v2, v3], _ =>
        simp [hu16] at t0
        simp [hu8] at t1 t2
        simp [hu32] at t3
        obtain ⟨q0, e0, _, f0⟩ := DataW.trod_int Tryz.underlying65 t0
        obtain ⟨q1, e1, _, f1⟩ := DataW.trod_int Tryz.underlying5 t1
        obtain ⟨q2, e2, _, f2⟩ := DataW.trod_int Tryz.underlying5 t2
        obtain ⟨q3, e3, _, f3⟩ := DataW.trod_int Tryz.underlying61 t3
        simp only [List.cons.injEq, and_true] at e0 e1 e2 e3
        subst e0 e1 e2 e3
        refine ⟨(q0, q1, q2, q3), ⟨by simpa using hcell 0 (by omega), by simpa using hcell 1 (by omega), by simpa using hcell 2 (by omega), by simpa using hcell 3 (by omega)⟩, ?_⟩
        simp [Lit.wf, IntKind.min, IntKind.max, IntKind.signed, IntKind.bits] at f0 f1 f2 f3
        show InsOk q0 q1 q2 q3
        constructor <;> omega
    obtain ⟨q, hq⟩ := Go.Deep.choose_lt each
    refine ⟨q, fun k hk => ?_, hl, by omega⟩
    obtain ⟨⟨e0, e1, e2, e3⟩, ho⟩ := hq k hk
    have z : w.cell? (p.add 0) = some (.int .u16 (q 0).1) := by
      have := (hq 0 (by omega)).1.1
      rw [Go.Deep.add_add] at this
      simpa using this
    rw [Go.Deep.add_add] at e0 e1 e2 e3
    obtain ⟨ea, hb, g0⟩ := add_none e0 ⟨_, z⟩
    exact ⟨p.block, p.off, congrArg some ea, hb, ⟨g0, (add_none e1 ⟨_, z⟩).2.2, (add_none e2 ⟨_, z⟩).2.2, (add_none e3 ⟨_, z⟩).2.2⟩, ho⟩
end Go.Proofs.YtelfdpcenplhjaaGreatDoor
namespace Go.Proofs.YtelfdpcenplhjaaGreatDoor
open Go.RowKit Go.Shelf Go.ChangeShapes
set_option linter.unusedVariables false
set_option linter.unusedSimpArgs false
section
variable {H : Type} {enc : TypeId × Value → H} {w : World} {base : Nat} {spare : Nat → Bool} {held : Bool} {fuel : Nat} {x : DataW H × List MemPlace}
theorem prog_of {v : Value} (h : DataW.trod enc Tryz.prog w base spare held fuel 25 [v] = some x) : ∃ a c g, v = .slice a (g : List Ins).length c ∧ Ri w w.heap.size a g.length (gF g) ∧ g.length ≤ c := by
  have hv : ∃ a l c, v = .slice a l c := by
    rcases Go.Deep.open_slice Tryz.underlying25 h with ⟨hcs, _⟩ | ⟨p, l', c', m, n, D, Pl, hcs, _⟩
    · simp at hcs; exact ⟨_, _, _, hcs⟩
    · simp at hcs; exact ⟨_, _, _, hcs⟩
  obtain ⟨a, l, c, rfl⟩ := hv
  obtain ⟨f, hf, hl, _⟩ := insns_of h
  refine ⟨a, c, (List.range l).map f, by simp, ?_, by simpa using hl⟩
  intro k hk
  have hk' : k < l := by simpa using hk
  have e : gF ((List.range l).map f) k = f k := by simp [gF, List.getD, hk']
  rw [e]
  exact hf k hk'
end
end Go.Proofs.YtelfdpcenplhjaaGreatDoor
namespace Go.Proofs.YtelfdpcenplhjaaGreatDoor
open Go.RowKit Go.Shelf Go.ChangeShapes
set_option linter.unusedVariables false
end Go.Proofs.YtelfdpcenplhjaaGreatDoor
namespace Go.Proofs.YtelfdpcenplhjaaGreatDoor
open Go.RowKit Go.Shelf
set_option linter.unusedVariables false
set_option linter.unusedSimpArgs false
theorem chk_std {L : List Nl} (hc : chkP L = 0) : riseB 0 L = true ∧ ∀ x ∈ L, standV L x.1 = true := by
  unfold chkP at hc
  split at hc
  · rename_i hb
    simpa only [Bool.and_eq_true, List.all_eq_true] using hb
  · cases hc
theorem stand_k {L : List Nl} {x : Nm} (h : standV L x = true) : 1 ≤ x.k ∧ (kidsN L x.i : Int) ≤ x.k := by
  unfold standV at h
  simp only [Bool.and_eq_true, decide_eq_true_eq] at h
  have := h.2
  omega
theorem rise_idR : ∀ {L : List Nl} {l : Int}, riseB l L = true → ∀ x ∈ L, idR L x.1.i = (x, true)
  | [], _, _, x, hx => by cases hx
  | y :: L, l, h, x, hx => by
    unfold riseB at h
    simp only [Bool.and_eq_true] at h
    unfold idR
    rw [List.find?_cons]
    rcases List.mem_cons.1 hx with rfl | hx
    · simp
    · have h1 := rise_all h.2 x hx
      have h2 : (y.1.i == x.1.i) = false := by simp; omega
      rw [h2]
      have := rise_idR h.2 x hx
      unfold idR at this
      exact this
theorem place_nat {L : List Nl} {id : Int} {k : Nat} (h : PlaceR L id k) : k < L.length ∧ (L.getD k nl0).1.i = id ∧ ∀ j, j < k → (L.getD j nl0).1.i ≠ id := by
  rcases h with ⟨k', h1, h2, h3, h4⟩ | ⟨h1, _⟩
  · obtain rfl : k = k' := by omega
    exact ⟨h2, h3, h4⟩
  · omega
theorem place_no {L : List Nl} {id : Int} (h : PlaceR L id (-1)) : ∀ j, j < L.length → (L.getD j nl0).1.i ≠ id := by
  rcases h with ⟨k', h1, _⟩ | ⟨_, h⟩
  · omega
  · exact h
theorem place_uniq {L : List Nl} {id : Int} {k k' : Nat} (h : PlaceR L id k) (h' : PlaceR L id k') : k = k' := by
  obtain ⟨_, a2, a3⟩ := place_nat h
  obtain ⟨_, b2, b3⟩ := place_nat h'
  rcases Nat.lt_trichotomy k k' with h | h | h
  · exact absurd a2 (b3 k h)
  · exact h
  · exact absurd b2 (a3 k' h)
theorem no_zero {L : List Nl} (hc : chkP L = 0) : ∀ x ∈ L, 0 < x.1.i := fun x hx => rise_all (chk_std hc).1 x hx
theorem wrap_up {c : Int} (h1 : 1 ≤ c) (h2 : c ≤ 1099511627776) : IntKind.i64.wrap (c + 1) = c + 1 := by rw [IntKind.wrap_i64]; omega
section
variable {L X : List Nl} {pa : Int} {k : Nat}
theorem tk_names (hX : X.map (·.1) = (L.map (·.1)).set k { (L.getD k nl0).1 with k := IntKind.i64.wrap ((L.getD k nl0).1.k + 1) }) (h1 : 1 ≤ (L.getD k nl0).1.k) (h2 : (L.getD k nl0).1.k ≤ 1099511627776) : X.map (·.1) = (L.set k (cntN (L.getD k nl0) ((L.getD k nl0).1.k + 1))).map (·.1) := by
  rw [hX, wrap_up h1 h2, names_set]
  rfl
theorem core_set (hk : k < L.length) (v : Int) : L.map (fun x => coreN x.1) = (L.set k (cntN (L.getD k nl0) v)).map (fun x => coreN x.1) := by
  rw [List.map_set]
  refine List.ext_getElem? fun j => ?_
  rw [List.getElem?_set]
  by_cases h : k = j
  · subst h
    simp [hk, coreN, cntN]
  · rw [if_neg h]
theorem getD_set_ne {j : Nat} (h : k ≠ j) (y : Nl) : (L.set k y).getD j nl0 = L.getD j nl0 := by simp [List.getD, List.getElem?_set, h]
theorem getD_set_eq (hk : k < L.length) (y : Nl) : (L.set k y).getD k nl0 = y := by simp [List.getD, hk]
theorem kc (hc : chkP L = 0) (hk : k < L.length) : 1 ≤ (L.getD k nl0).1.k ∧ (kidsN L (L.getD k nl0).1.i : Int) ≤ (L.getD k nl0).1.k := stand_k ((chk_std hc).2 _ (getD_mem hk))
theorem chk_tk (hc : chkP L = 0) (hk : k < L.length) : chkP (L.set k (cntN (L.getD k nl0) ((L.getD k nl0).1.k + 1))) = 0 := by
  refine chk_core (core_set hk _) (fun j hj => ?_) hc
  by_cases h : k = j
  · subst h
    rw [getD_set_eq hk]
    show (L.getD k nl0).1.k ≤ (L.getD k nl0).1.k + 1
    omega
  · rw [getD_set_ne h]
    exact Int.le_refl _
end
end Go.Proofs.YtelfdpcenplhjaaGreatDoor
