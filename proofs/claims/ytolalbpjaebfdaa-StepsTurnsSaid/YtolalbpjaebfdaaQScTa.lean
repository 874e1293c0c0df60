/-
  steps.Take$1.
-/
import Derived.Test.YtolalbpjaebfdaaQScW
namespace Go.Proofs.Ytolalbpjaebfdaa
open Go.RowKit Go.Shelf
set_option linter.unusedVariables false
set_option linter.unusedSimpArgs false
theorem insL_getD {α : Type} {k : Nat} {x : α} {L : List α} (d : α) (hk : k ≤ L.length) (i : Nat) : (insL k x L).getD i d = if i < k then L.getD i d else if i = k then x else L.getD (i - 1) d := by
  unfold insL
  simp only [List.getD_eq_getElem?_getD]
  by_cases h1 : i < k
  · rw [if_pos h1, List.getElem?_append_left (by rw [List.length_take]; omega), List.getElem?_take, if_pos h1]
  · rw [if_neg h1, List.getElem?_append_right (by rw [List.length_take]; omega), List.length_take, Nat.min_eq_left hk]
    by_cases h2 : i = k
    · rw [if_pos h2, h2, Nat.sub_self]; rfl
    · rw [if_neg h2]
      obtain ⟨j, rfl⟩ : ∃ j, i = k + 1 + j := ⟨i - (k + 1), by omega⟩
      rw [show k + 1 + j - k = j + 1 by omega, show k + 1 + j - 1 = k + j by omega, List.getElem?_cons_succ, List.getElem?_drop]
theorem insL_map {α β : Type} (f : α → β) (k : Nat) (x : α) (L : List α) : (insL k x L).map f = insL k (f x) (L.map f) := by
  unfold insL
  simp [List.map_take, List.map_drop]
theorem qd_ins {L : List Kw} {k : Nat} {y : Kw} (hk : k ≤ L.length) (hy : ownQ y = none) (h : ∀ i j, i < L.length → j < L.length → i ≠ j → ∀ g, ownQ (L.getD i kw0) = some g → ownQ (L.getD j kw0) ≠ some g) :
    ∀ i j, i < (insL k y L).length → j < (insL k y L).length → i ≠ j → ∀ g, ownQ ((insL k y L).getD i kw0) = some g → ownQ ((insL k y L).getD j kw0) ≠ some g := by
  intro i j hi hj hne g
  rw [insL_len] at hi hj
  rw [insL_getD kw0 hk, insL_getD kw0 hk]
  by_cases a1 : i < k <;> by_cases b1 : j < k
  · rw [if_pos a1, if_pos b1]; exact h i j (by omega) (by omega) hne g
  · rw [if_pos a1, if_neg b1]
    by_cases b2 : j = k
    · rw [if_pos b2, hy]; exact fun _ e => by cases e
    · rw [if_neg b2]; exact h i (j - 1) (by omega) (by omega) (by omega) g
  · rw [if_neg a1, if_pos b1]
    by_cases a2 : i = k
    · rw [if_pos a2, hy]; exact fun e => by cases e
    · rw [if_neg a2]; exact h (i - 1) j (by omega) (by omega) (by omega) g
  · rw [if_neg a1, if_neg b1]
    by_cases a2 : i = k
    · rw [if_pos a2, hy]; exact fun e => by cases e
    · rw [if_neg a2]
      by_cases b2 : j = k
      · rw [if_pos b2, hy]; exact fun _ e => by cases e
      · rw [if_neg b2]; exact h (i - 1) (j - 1) (by omega) (by omega) (by omega) g
theorem Bx.but {B g : Nat} {w w' : World} (n : But g w w') (hB : B ≤ w.heap.size) : Bx B (some g) w w' := ⟨n.os, n.tape, n.output, n.size, fun k hk hn => n.block k (Nat.lt_of_lt_of_le hk hB) (fun e => hn (by rw [e]))⟩
theorem set_getD {α : Type} {k : Nat} (y : α) {L : List α} (d : α) (hk : k < L.length) (i : Nat) : (L.set k y).getD i d = if i = k then y else L.getD i d := by
  simp only [List.getD_eq_getElem?_getD, List.getElem?_set]
  by_cases h : k = i
  · rw [if_pos h, if_pos h.symm, if_pos (by omega)]; rfl
  · rw [if_neg h, if_neg (fun e => h e.symm)]
theorem fst_getD (L : List Kw) (i : Nat) : (L.map (·.1)).getD i kn0 = (L.getD i kw0).1 := by
  simp only [List.getD_eq_getElem?_getD, List.getElem?_map]
  cases L[i]? <;> rfl
theorem wp_op_app {P : Program} {o : Oper} {a : Act} {w : World} {K : Act → World → Prop} {Q : Exit → Act → World → Prop} {t : TypeId} (s x : Operand) (ho : o.op = .call { callee := .builtin .append, args := #[s, x], argTypes := #[t, t] })
    {v1 v2 v' : Value} {w' : World} (hs : a.eval s = v1) (hx : a.eval x = v2) (hrun : (Builtin.append_ #[t, t] o.type #[v1, v2]).run P w = .ok v' w') (h : K (a.put o.dst v') w') : Oper.wp P o a w K Q := by
  unfold Oper.wp execOp
  simp only [ho, resolve, invoke, builtin, Sem.run_bind, Sem.run_pure, Result.andThen_ok, List.map_toArray, List.map_cons, List.map_nil, hs, hx, hrun]
  exact h
theorem run_app1Zq {w : World} (ty : TypeId) (base : Nat) (A : Option Addr) (m c : Nat) (l : List Int) (ho : Zo w base A m c l) (p : Int) (gb : Nat) (hb : Blk w gb #[.int .i64 p] 3) (hsz : m + 1 ≤ 2000000) (hbase : base ≤ w.heap.size) :
    ∃ A' c' w', (Builtin.append_ #[40, 40] ty #[.slice A m c, .slice (some ⟨gb, 0, none⟩) 1 1]).run Try.prog w = .ok (.slice A' (m + 1) c') w' ∧ Zo w' base A' (m + 1) c' (l ++ [p]) ∧ w.grownBy w' (Value.slice A m c).ownBlock ∧ Below base w w' ∧ ((Value.slice A' (m + 1) c').ownBlock = (Value.slice A m c).ownBlock ∨ (Value.slice A' (m + 1) c').ownBlock = some w.heap.size) := by
  obtain ⟨i, hi, hz, hs1, hb1⟩ := info_parts zint_info
  have hr : w.cell? ⟨gb, 0, none⟩ = some (.int .i64 p) := hb.cell 0
  obtain ⟨v', w', hrun, h1, h2, _, h4⟩ := run_append_own_at (P := Try.prog) w base 40 ty 3 i (.int .i64 0) 1 8 Try.underlying40 hi hz hs1 hb1 rfl (by decide) _ m _ ho ⟨gb, 0, none⟩ 1 1 [.int .i64 p]
    rfl (by
      intro j u hj
      have : j = 0 := by
        rcases j with _ | j
        · rfl
        · simp at hj
      subst this
      simp at hj
      subst hj
      simpa [Addr.add] using hr) (by intro u hu; simp at hu; subst hu; rfl) (by simp only [maxLen]; omega) (by omega) hbase
  obtain ⟨A'', c'', rfl⟩ := own_slice h1
  exact ⟨A'', c'', w', hrun, by unfold Zo; rw [List.map_append]; exact h1, h2, (Below.refl _ _).grown h2 hbase fun k hk => (ho.lt k hk).1, h4⟩
theorem zo_keep {w w' : World} {base m c : Nat} {A : Option Addr} {l : List Int} {row : Option Nat} (h : Zo w base A m c l) (hg : w.grownBy w' row) (hr : ∀ g, (Value.slice A m c).ownBlock = some g → row ≠ some g) : Zo w' base A m c l := by
  refine ⟨h.1, ?_⟩
  rcases h.2 with h0 | ⟨g', cap, cur, hv, hb, hh, r⟩
  · exact .inl h0
  · exact .inr ⟨g', cap, cur, hv, hb, (hg.block g' (Array.getElem?_eq_some_iff.1 hh).1 (fun e1 => hr g' (by rw [hv]; rfl) e1.symm)).trans hh, r⟩
theorem Own.qk {V : World} {B m1 c1 m2 c2 : Nat} {A1 A2 : Option Addr} {R : List Rn} {L : List Kw} (h : Own V B A1 m1 c1 R A2 m2 c2 L) {i : Nat} (hi : i < L.length) : Zo V B (L.getD i kw0).2.1 (L.getD i kw0).1.q.length (L.getD i kw0).2.2 (L.getD i kw0).1.q := by
  rw [show L.getD i kw0 = L[i] by simp [List.getD, hi]]
  exact h.q _ (List.getElem_mem hi)
theorem own_turn {V : World} {B m1 c1 m2 c2 : Nat} {A1 A2 : Option Addr} {R : List Rn} {L : List Kw} {k : Nat} {y : Kw} (hk : k < L.length) (rr : RoR V B A1 m1 c1 R) (rl : RoK V B A2 m2 c2 (L.set k y))
    (zq : ∀ i, i < L.length → i ≠ k → Zo V B (L.getD i kw0).2.1 (L.getD i kw0).1.q.length (L.getD i kw0).2.2 (L.getD i kw0).1.q) (zo : Zo V B y.2.1 y.1.q.length y.2.2 y.1.q)
    (qd : ∀ i j, i < L.length → j < L.length → i ≠ j → ∀ g, ownQ (L.getD i kw0) = some g → ownQ (L.getD j kw0) ≠ some g)
    (hq : ∀ g, ownQ y = some g → ∀ j, j < L.length → j ≠ k → ownQ (L.getD j kw0) ≠ some g) : Own V B A1 m1 c1 R A2 m2 c2 (L.set k y) := by
  refine ⟨rr, rl, fun x hx => ?_, fun i j hi hj hne g => ?_⟩
  · obtain ⟨i, hi, rfl⟩ := List.getElem_of_mem hx
    have hi2 : i < L.length := by rw [List.length_set] at hi; exact hi
    rw [show (L.set k y)[i] = (L.set k y).getD i kw0 by rw [List.getD_eq_getElem?_getD, List.getElem?_eq_getElem hi]; rfl, set_getD y kw0 hk]
    by_cases h : i = k
    · rw [if_pos h]; exact zo
    · rw [if_neg h]; exact zq i hi2 h
  · rw [List.length_set] at hi hj
    rw [set_getD y kw0 hk, set_getD y kw0 hk]
    by_cases a : i = k
    · rw [if_pos a, if_neg (fun e => hne (a.trans e.symm))]
      exact fun e => hq g e j hj (fun e => hne (a.trans e.symm))
    · rw [if_neg a]
      by_cases b : j = k
      · rw [if_pos b]; exact fun e e2 => hq g e2 i hi a e
      · rw [if_neg b]; exact qd i j hi hj hne g
theorem getD_memK {L : List Kn} {i : Nat} (d : Kn := kn0) (hi : i < L.length) : L.getD i d ∈ L := by
  rw [show L.getD i d = L[i] by simp [List.getD, hi]]
  exact List.getElem_mem hi
theorem kcell {w : World} {B gK m c k : Nat} {L : List Kw} {y : Kw} (h : RoK w B (some ⟨gK, 0, none⟩) m c L) (hk : k < L.length) (hy : L.getD k kw0 = y) : w.cell? ⟨gK, k * 3 + 2, none⟩ = some (.slice y.2.1 y.1.q.length y.2.2) := by
  obtain ⟨_, _, e, _, hc⟩ := h.rs k hk
  cases e
  have := hc 2 _ rfl
  rw [Nat.zero_add, hy] at this
  exact this
def takeF (R : List Rn) (K : List Kn) (k : Nat) (id lock : Int) : List Rn × List Kn × Int :=
  if (decide (lock < 1) || (decide (40 < lock) || (R.getD k rn0).s == 1)) = true then ([], [], 2)
  else if (K.map (·.n)).contains lock = true then (if ((K.getD (lessP (K.map (·.n)) lock) kn0).o == id) = true then ([], [], 231) else (R.set k ⟨(R.getD k rn0).i, 1, lock⟩, K.set (lessP (K.map (·.n)) lock) ⟨(K.getD (lessP (K.map (·.n)) lock) kn0).n, (K.getD (lessP (K.map (·.n)) lock) kn0).o, (K.getD (lessP (K.map (·.n)) lock) kn0).q ++ [id]⟩, 0))
  else (R, insL (lessP (K.map (·.n)) lock) ⟨lock, id, []⟩ K, 0)
def takeB (R : List Rn) (K : List Kn) (k : Nat) (lock : Int) : Bool := !(decide (lock < 1) || (decide (40 < lock) || (R.getD k rn0).s == 1)) && !(K.map (·.n)).contains lock
set_option maxRecDepth 100000 in
set_option maxHeartbeats 8000000 in
theorem take1_sc (go_ gi gl : Nat) (id lock : Int) (R : List Rn) (K : List Kn) (ok : Okd R K) (hk4 : K.length + 1 ≤ 100000) (hq4 : ∀ x ∈ K, x.q.length + 1 ≤ 1000000) (hgi : gi < go_) (hgl : gl < go_) (hlv : livesB R id = true) :
    ChgR 0 49 #[.pointer (some ⟨gl, 0, none⟩), .pointer (some ⟨gi, 0, none⟩), .pointer (some ⟨go_, 0, none⟩)] (fun V => Blk V gl #[.int .i64 lock] 3 ∧ Blk V gi #[.int .i64 id] 3) (some go_) false (takeB R K (lessP (numsR R) id) lock) R K (lessP (numsR R) id) (takeF R K (lessP (numsR R) id) id lock) := by
  intro V B g gR m1 c1 A2 m2 c2 L hS hob ho hK own kg hBg _
  subst hK
  obtain ⟨hL, hI⟩ := hS
  have ko := hob go_ rfl
  have hoB : go_ < B := ho _ rfl
  have hgL : g < V.heap.size := kg.lt
  have hBV : B ≤ V.heap.size := Nat.le_trans hBg (Nat.le_of_lt hgL)
  have sc := own.sc' ok
  have huk : UpK L := by unfold UpK; rw [numsK_names]; exact ok.uk
  have HD := Lib.hid (fun (V' : World) (hV : Below V.heap.size V V') => held_sc lock (sc.on hV) huk)
  have hx := (lives_in ok.ur hlv).2
  generalize lessP (numsR R) id = k at hx ⊢
  have hl2 := own.rl.len
  have hkl := lessP_le (numsK L) lock
  rw [show (numsK L).length = L.length by simp [numsK]] at hkl
  have hlt : (numsK L).contains lock = true → lessP (numsK L) lock < L.length := fun hc => (lockF_some huk hc).1
  have hm9 : m2 + 1 ≤ 100000 := by rw [hl2]; rw [List.length_map] at hk4; exact hk4
  unfold takeF takeB
  rw [← numsK_names]
  obtain ⟨at_, hat⟩ : ∃ a, lessP (numsK L) lock = a := ⟨_, rfl⟩
  obtain ⟨ct, hct⟩ : ∃ c, (numsK L).contains lock = c := ⟨_, rfl⟩
  rw [hat] at hkl hlt
  rw [hct] at hlt
  rw [hat, hct] at HD ⊢
  obtain ⟨xs, hxs⟩ : ∃ xs, (R.getD k rn0).s = xs := ⟨_, rfl⟩
  rw [hxs]
  have hkl' : at_ ≤ m2 := by omega
  have HOK := Lib.hid ok
  have HQ4 := Lib.hid hq4
  have HLT := Lib.hid hlt
  have HX := Lib.hid hx
  have HXS := Lib.hid hxs
  have HL2 := Lib.hid hl2
  obtain ⟨r, hr⟩ : ∃ r : List Rn × List Kn × Int, r = (if (decide (lock < 1) || (decide (40 < lock) || xs == 1)) = true then ([], [], 2)
    else if ct = true then (if (((L.map (·.1)).getD at_ kn0).o == id) = true then ([], [], 231) else (R.set k ⟨(R.getD k rn0).i, 1, lock⟩, (L.map (·.1)).set at_ ⟨((L.map (·.1)).getD at_ kn0).n, ((L.map (·.1)).getD at_ kn0).o, ((L.map (·.1)).getD at_ kn0).q ++ [id]⟩, 0))
    else (R, insL at_ ⟨lock, id, []⟩ (L.map (·.1)), 0)) := ⟨_, rfl⟩
  obtain ⟨bb1, hb⟩ : ∃ b : Bool, b = (!(decide (lock < 1) || (decide (40 < lock) || xs == 1)) && !ct) := ⟨_, rfl⟩
  rw [← hr, ← hb]
  have HR := Lib.hid hr
  have HB := Lib.hid hb
  clear hr hb hat hct hxs hx hlt sc ok huk hl2 hk4 hq4 hlv hob ho
  unfold scV at HD
  have hgiB : gi < B := Nat.lt_trans hgi hoB
  have hglB : gl < B := Nat.lt_trans hgl hoB
  have Jd : Below V.heap.size V V.drew := (Below.refl _ _).drew
  go_enter Try.func49, Try.ntmps49
  go_wp2_with fail
  refine region_cutP ?_
  refine wp_region_held_drew (S := (fun V' => Below V.heap.size V V')) (by kernel_rfl) Jd (fun _ => ?_)
  refine wpAnyH_take (i := 0) (v := .pointer (some ⟨g, 0, none⟩)) rfl (by kernel_rfl) (by kernel_rfl) (by kernel_rfl) (fun _ _ _ h => nomatch h.1) (.inl ⟨by rfl, fun V_ hV => by go_simp⟩) Jd ?_
  try simp only [Act.put, List.getElem_toArray, List.getElem_cons_zero, List.getElem_cons_succ, List.setIfInBounds_toArray, List.set_cons_zero, List.set_cons_succ]
  refine wpAnyH_take (i := 3) (v := .int .i64 lock) rfl (by kernel_rfl) (by kernel_rfl) (by kernel_rfl) (fun _ _ _ h => nomatch h.1) (.inl ⟨by rfl, fun V_ hV => by have c2 : V_.cell? ⟨gl, 0, none⟩ = some (.int .i64 lock) := (hL.below hV hL.lt).cell 0; go_simp⟩) Jd ?_
  try simp only [Act.put, List.getElem_toArray, List.getElem_cons_zero, List.getElem_cons_succ, List.setIfInBounds_toArray, List.set_cons_zero, List.set_cons_succ]
  refine wpAnyH_take (i := 1) (v := .pointer (some ⟨g, 0, none⟩)) rfl (by kernel_rfl) (by kernel_rfl) (by kernel_rfl) (fun _ _ _ h => nomatch h.1) (.inl ⟨by rfl, fun V_ hV => by go_simp⟩) Jd ?_
  try simp only [Act.put, List.getElem_toArray, List.getElem_cons_zero, List.getElem_cons_succ, List.setIfInBounds_toArray, List.set_cons_zero, List.set_cons_succ]
  refine wpAnyH_take (i := 2) (v := .agg (scC (some ⟨gR, 0, none⟩) m1 c1 A2 m2 c2)) rfl (by kernel_rfl) (by kernel_rfl) (by kernel_rfl) (fun _ _ _ h => nomatch h.1) (yieldsIf_blk (by rfl) 25 (.tmp 12) rfl g rfl (scC (some ⟨gR, 0, none⟩) m1 c1 A2 m2 c2) 25 _ (fun _ h => kg.below h hgL) Try.underlying25 rfl (sc_inf _ _ _ _ _ _)) Jd ?_
  try simp only [Act.put, List.getElem_toArray, List.getElem_cons_zero, List.getElem_cons_succ, List.setIfInBounds_toArray, List.set_cons_zero, List.set_cons_succ]
  refine wpAnyH_ready (rs := [4]) (by kernel_rfl) (by simp) ?_
  refine AllReadyH.cons rfl (fun K hK => ?_) AllReadyH.nil
  try simp only [Act.put, List.getElem_toArray, List.getElem_cons_zero, List.getElem_cons_succ, List.setIfInBounds_toArray, List.set_cons_zero, List.set_cons_succ]
  go_simp
  refine (HD.out _ Jd).mono ?_
  rintro e W ⟨rfl, bb⟩
  go_wp2_with fail
  have Jd := Jd.trans (bb.mono Jd.size)
  clear bb
  refine hK.out _ _ Jd (fun _ => ?_)
  clear hK K
  try simp only [Act.put, List.getElem_toArray, List.getElem_cons_zero, List.getElem_cons_succ, List.setIfInBounds_toArray, List.set_cons_zero, List.set_cons_succ]
  refine wpAnyH_take (i := 5) (v := .tuple #[.int .i64 at_, .bool ct]) rfl (by kernel_rfl) (by kernel_rfl) (by kernel_rfl) (fun _ _ _ h => nomatch h.1) (.inl ⟨by rfl, fun V_ hV => by go_simp⟩) Jd ?_
  try simp only [Act.put, List.getElem_toArray, List.getElem_cons_zero, List.getElem_cons_succ, List.setIfInBounds_toArray, List.set_cons_zero, List.set_cons_succ]
  refine wpAnyH_take (i := 6) (v := .int .i64 at_) rfl (by kernel_rfl) (by kernel_rfl) (by kernel_rfl) (fun _ _ _ h => nomatch h.1) (.inl ⟨by rfl, fun V_ hV => by go_simp⟩) Jd ?_
  try simp only [Act.put, List.getElem_toArray, List.getElem_cons_zero, List.getElem_cons_succ, List.setIfInBounds_toArray, List.set_cons_zero, List.set_cons_succ]
  refine wpAnyH_take (i := 7) (v := .bool ct) rfl (by kernel_rfl) (by kernel_rfl) (by kernel_rfl) (fun _ _ _ h => nomatch h.1) (.inl ⟨by rfl, fun V_ hV => by go_simp⟩) Jd ?_
  try simp only [Act.put, List.getElem_toArray, List.getElem_cons_zero, List.getElem_cons_succ, List.setIfInBounds_toArray, List.set_cons_zero, List.set_cons_succ]
  refine wpAnyH_take (i := 8) (v := .int .i64 at_) rfl (by kernel_rfl) (by kernel_rfl) (by kernel_rfl) (fun _ _ _ h => nomatch h.1) (.inl ⟨by rfl, fun V_ hV => by go_simp⟩) Jd ?_
  try simp only [Act.put, List.getElem_toArray, List.getElem_cons_zero, List.getElem_cons_succ, List.setIfInBounds_toArray, List.set_cons_zero, List.set_cons_succ]
  refine wpAnyH_take (i := 9) (v := .bool ct) rfl (by kernel_rfl) (by kernel_rfl) (by kernel_rfl) (fun _ _ _ h => nomatch h.1) (.inl ⟨by rfl, fun V_ hV => by go_simp⟩) Jd ?_
  try simp only [Act.put, List.getElem_toArray, List.getElem_cons_zero, List.getElem_cons_succ, List.setIfInBounds_toArray, List.set_cons_zero, List.set_cons_succ]
  refine wpAnyH_done (by kernel_rfl) ?_ _
  refine ⟨rfl, ?_⟩
  have J7 := Jd
  clear Jd HD
  have kg7 := kg.below J7 hgL
  have own7 := own.below J7 (Nat.le_refl _)
  have bx7 := J7.mono hBV
  have ql : W.cell? ⟨gl, 0, none⟩ = some (.int .i64 lock) := (hL.below bx7 hglB).cell 0
  have qs : W.cell? ⟨gR, k * 3 + 1, none⟩ = some (.int .i64 xs) := by
    obtain ⟨_, _, e, _, hc⟩ := own7.rr.rs k HX.out
    cases e
    have := hc 1 _ rfl
    rw [Nat.zero_add, HXS.out] at this
    exact this
  have fin : ∀ er : Int, er ≠ 0 → r.2.2 = er → bb1 = false → r.2.2 = er ∧ Bx B (some go_) V W ∧ Ob W (some go_) bb1 ∧ (r.2.2 = 0 → ChO W B g r) := fun er h0 he hb => ⟨he, Bx.of bx7, (fun g e => by cases e; rw [hb]; exact ko.below bx7 hoB), fun h => absurd (he.symm.trans h) h0⟩
  have HFIN := Lib.hid fin
  clear fin
  cases h1 : decide (lock < 1)
  · cases h2 : decide (40 < lock)
    · cases h3 : (xs == 1)
      · have HR2 := Lib.hid (show r = (if ct = true then (if (((L.map (·.1)).getD at_ kn0).o == id) = true then ([], [], 231) else (R.set k ⟨(R.getD k rn0).i, 1, lock⟩, (L.map (·.1)).set at_ ⟨((L.map (·.1)).getD at_ kn0).n, ((L.map (·.1)).getD at_ kn0).o, ((L.map (·.1)).getD at_ kn0).q ++ [id]⟩, 0))
            else (R, insL at_ ⟨lock, id, []⟩ (L.map (·.1)), 0)) by rw [HR.out, h1, h2, h3]; rfl)
        have HB2 := Lib.hid (show bb1 = !ct by rw [HB.out, h1, h2, h3]; rfl)
        clear HR HB
        cases ct
        · go_wp2_with fail
          try simp only [Act.put]
          refine region_cutP ?_
          have bx : Below B V W.drew := bx7.drew
          have J : Blk W.drew gl #[.int .i64 lock] 3 ∧ Blk W.drew gi #[.int .i64 id] 3 := ⟨hL.below bx hglB, hI.below bx hgiB⟩
          have kg := kg7.drew
          have own : Own W.drew B (some ⟨gR, 0, none⟩) m1 c1 R A2 m2 c2 L := own7.below (Below.refl _ _).drew (Nat.le_refl _)
          have hsz : B ≤ W.drew.heap.size := Nat.le_trans hBV J7.size
          have own0 := own
          clear ql qs J7 kg7 own7 bx7 HFIN h1 h2 h3
          refine wp_region_held_drew (S := (fun V' => Blk V' gl #[.int .i64 lock] 3 ∧ Blk V' gi #[.int .i64 id] 3)) (by kernel_rfl) J (fun _ => ?_)
          generalize W.drew = WZ at J kg own bx hsz own0 ⊢
          obtain ⟨gb, hWz⟩ : ∃ gb, gb = WZ.heap.size := ⟨_, rfl⟩
          refine wpAnyH_take (i := 0) (v := .pointer (some ⟨g, 0, none⟩)) rfl (by kernel_rfl) (by kernel_rfl) (by kernel_rfl) (fun _ _ _ h => nomatch h.1) (.inl ⟨by rfl, fun V hV => by go_simp⟩) J ?_
          try simp only [Act.put, List.getElem_toArray, List.getElem_cons_zero, List.getElem_cons_succ, List.setIfInBounds_toArray, List.set_cons_zero, List.set_cons_succ]
          refine wpAnyH_take (i := 1) (v := .pointer (some ⟨g, 0, none⟩)) rfl (by kernel_rfl) (by kernel_rfl) (by kernel_rfl) (fun _ _ _ h => nomatch h.1) (.inl ⟨by rfl, fun V hV => by go_simp⟩) J ?_
          try simp only [Act.put, List.getElem_toArray, List.getElem_cons_zero, List.getElem_cons_succ, List.setIfInBounds_toArray, List.set_cons_zero, List.set_cons_succ]
          refine wpAnyH_take (i := 5) (v := .int .i64 at_) rfl (by kernel_rfl) (by kernel_rfl) (by kernel_rfl) (fun _ _ _ h => nomatch h.1) (.inl ⟨by rfl, fun V hV => by go_simp⟩) J ?_
          try simp only [Act.put, List.getElem_toArray, List.getElem_cons_zero, List.getElem_cons_succ, List.setIfInBounds_toArray, List.set_cons_zero, List.set_cons_succ]
          refine wpAnyH_take (i := 6) (v := .int .i64 lock) rfl (by kernel_rfl) (by kernel_rfl) (by kernel_rfl) (fun _ _ _ h => nomatch h.1) (.inl ⟨by rfl, fun V hV => by have c2 : V.cell? ⟨gl, 0, none⟩ = some (.int .i64 lock) := hV.1.cell 0; go_simp⟩) J ?_
          try simp only [Act.put, List.getElem_toArray, List.getElem_cons_zero, List.getElem_cons_succ, List.setIfInBounds_toArray, List.set_cons_zero, List.set_cons_succ]
          refine wpAnyH_take (i := 7) (v := .int .i64 id) rfl (by kernel_rfl) (by kernel_rfl) (by kernel_rfl) (fun _ _ _ h => nomatch h.1) (.inl ⟨by rfl, fun V hV => by have c2 : V.cell? ⟨gi, 0, none⟩ = some (.int .i64 id) := hV.2.cell 0; go_simp⟩) J ?_
          try simp only [Act.put, List.getElem_toArray, List.getElem_cons_zero, List.getElem_cons_succ, List.setIfInBounds_toArray, List.set_cons_zero, List.set_cons_succ]
          refine wpAnyH_take (i := 2) (v := .pointer (some ⟨g, 0, none⟩)) rfl (by kernel_rfl) (by kernel_rfl) (by kernel_rfl) (fun _ _ _ h => nomatch h.1) (.inl ⟨by rfl, fun V hV => by go_simp⟩) J ?_
          try simp only [Act.put, List.getElem_toArray, List.getElem_cons_zero, List.getElem_cons_succ, List.setIfInBounds_toArray, List.set_cons_zero, List.set_cons_succ]
          refine wpAnyH_take (i := 8) (v := .agg #[.int .i64 lock, .int .i64 id, .slice none 0 0]) rfl (by kernel_rfl) (by kernel_rfl) (by kernel_rfl) (fun _ _ _ h => nomatch h.1) (.inl ⟨by rfl, fun V hV => by go_simp⟩) J ?_
          try simp only [Act.put, List.getElem_toArray, List.getElem_cons_zero, List.getElem_cons_succ, List.setIfInBounds_toArray, List.set_cons_zero, List.set_cons_succ]
          refine wpAnyH_take (i := 3) (v := .pointer (some ⟨g, 1, none⟩)) rfl (by kernel_rfl) (by kernel_rfl) (by kernel_rfl) (fun _ _ _ h => nomatch h.1) (.inl ⟨by rfl, fun V hV => by go_simp⟩) J ?_
          try simp only [Act.put, List.getElem_toArray, List.getElem_cons_zero, List.getElem_cons_succ, List.setIfInBounds_toArray, List.set_cons_zero, List.set_cons_succ]
          refine wpAnyH_ready (rs := [4, 9]) (by kernel_rfl) (by simp) ?_
          refine AllReadyH.cons rfl (fun K hK => ?_) (AllReadyH.cons rfl (fun K hK => ?_) AllReadyH.nil)
          · try simp only [Act.put, List.getElem_toArray, List.getElem_cons_zero, List.getElem_cons_succ, List.setIfInBounds_toArray, List.set_cons_zero, List.set_cons_succ]
            have qq := kg.cell 1
            change _ = some (Value.slice A2 m2 c2) at qq
            go_simp
            clear qq
            refine hK.out _ _ J (fun _ => ?_)
            clear hK K
            try simp only [Act.put, List.getElem_toArray, List.getElem_cons_zero, List.getElem_cons_succ, List.setIfInBounds_toArray, List.set_cons_zero, List.set_cons_succ]
            refine wpAnyH_ready (rs := [9]) (by kernel_rfl) (by simp) ?_
            refine AllReadyH.cons rfl (fun K hK => ?_) AllReadyH.nil
            try simp only [Act.put, List.getElem_toArray, List.getElem_cons_zero, List.getElem_cons_succ, List.setIfInBounds_toArray, List.set_cons_zero, List.set_cons_succ]
            go_simp
            have kb := Blk.new_ _ (kwC (⟨lock, id, []⟩, (none, 0))) 48 hWz.symm
            have ba : Below WZ.heap.size WZ (WZ.alloc (.cells (kwC (⟨lock, id, []⟩, (none, 0))) 48)) := (Below.refl _ _).alloc (Nat.le_refl _) _
            have kg := kg.below ba kg.lt
            have own := own.below ba (Nat.le_refl _)
            have bx := bx.trans (ba.mono hsz)
            have J := (⟨hL.below bx hglB, hI.below bx hgiB⟩ : Blk _ gl #[.int .i64 lock] 3 ∧ Blk _ gi #[.int .i64 id] 3)
            have hgne : ∀ g', (Value.slice A2 m2 c2).ownBlock = some g' → gb ≠ g' := fun g' e => by have := (own0.rl.lt g' e).2; omega
            have hsz := Nat.le_trans hsz ba.size
            show K _ (WZ.alloc (.cells (kwC (⟨lock, id, []⟩, (none, 0))) 48))
            generalize WZ.alloc (.cells (kwC (⟨lock, id, []⟩, (none, 0))) 48) = W8 at kb kg own J bx hsz ⊢
            rw [← hWz]
            clear ba hWz
            refine hK.out _ _ J (fun _ => ?_)
            clear hK K
            try simp only [Act.put, List.getElem_toArray, List.getElem_cons_zero, List.getElem_cons_succ, List.setIfInBounds_toArray, List.set_cons_zero, List.set_cons_succ]
            refine wpAnyH_ready (rs := [10]) (by kernel_rfl) (by simp) ?_
            refine AllReadyH.cons rfl (fun K hK => ?_) AllReadyH.nil
            try simp only [Act.put, List.getElem_toArray, List.getElem_cons_zero, List.getElem_cons_succ, List.setIfInBounds_toArray, List.set_cons_zero, List.set_cons_succ]
            go_simp
            have IR := insert_K B A2 m2 c2 at_ L (⟨lock, id, []⟩, (none, 0)) gb W8 own.rl kb.blk hgne hm9 hsz hkl'
            refine IR.mono ?_
            clear IR
            rintro e W9 ⟨A9, c9, rfl, ro, hgr, bb⟩
            go_wp2_with fail
            have hrow : ∀ g', (Value.slice A2 m2 c2).ownBlock = some g' → ∃ cs t, Blk W8 g' cs t ∧ t = 48 := fun g' e => by obtain ⟨cur, k⟩ := roK_blk own.rl e; exact ⟨cur, _, k, rfl⟩
            have rr := own_kind own.rr hgr (fun g' e => by obtain ⟨cs, t, k, rfl⟩ := hrow g' e; exact ⟨cs, _, k, by decide⟩)
            have qz : ∀ x ∈ insL at_ (⟨lock, id, []⟩, (none, 0)) L, Zo W9 B x.2.1 x.1.q.length x.2.2 x.1.q := fun x hx => by
              rcases insL_mem hx with rfl | h
              · exact zo_nil _ _
              · exact own_kind (own.q x h) hgr (fun g' e => by obtain ⟨cs, t, k, rfl⟩ := hrow g' e; exact ⟨cs, _, k, by decide⟩)
            have own9 : Own W9 B (some ⟨gR, 0, none⟩) m1 c1 R A9 (m2 + 1) c9 (insL at_ (⟨lock, id, []⟩, (none, 0)) L) := ⟨rr, ro, qz, qd_ins (by have := HL2.out; omega) rfl own.qd⟩
            have kg : Blk W9 g (scC (some ⟨gR, 0, none⟩) m1 c1 A2 m2 c2) 25 := ⟨(hgr.block g kg.lt (fun e => by
              obtain ⟨cs, t, k, rfl⟩ := hrow g e.symm
              have h8 := k.blk
              rw [kg.blk] at h8
              have h9 : (25 : TypeId) = 48 := by injection h8 with h8; injection h8
              exact absurd h9 (by decide))).trans kg.blk⟩
            have bx := bx.trans bb
            have J := (⟨hL.below bx hglB, hI.below bx hgiB⟩ : Blk W9 gl #[.int .i64 lock] 3 ∧ Blk W9 gi #[.int .i64 id] 3)
            clear hgr bb hrow rr qz ro own
            refine hK.out _ _ J (fun _ => ?_)
            clear hK K
            try simp only [Act.put, List.getElem_toArray, List.getElem_cons_zero, List.getElem_cons_succ, List.setIfInBounds_toArray, List.set_cons_zero, List.set_cons_succ]
            refine wpAnyH_take (i := 11) (v := .pointer (some ⟨g, 0, none⟩)) rfl (by kernel_rfl) (by kernel_rfl) (by kernel_rfl) (fun _ _ _ h => nomatch h.1) (.inl ⟨by rfl, fun V hV => by go_simp⟩) J ?_
            try simp only [Act.put, List.getElem_toArray, List.getElem_cons_zero, List.getElem_cons_succ, List.setIfInBounds_toArray, List.set_cons_zero, List.set_cons_succ]
            refine wpAnyH_take (i := 12) (v := .pointer (some ⟨g, 1, none⟩)) rfl (by kernel_rfl) (by kernel_rfl) (by kernel_rfl) (fun _ _ _ h => nomatch h.1) (.inl ⟨by rfl, fun V hV => by go_simp⟩) J ?_
            try simp only [Act.put, List.getElem_toArray, List.getElem_cons_zero, List.getElem_cons_succ, List.setIfInBounds_toArray, List.set_cons_zero, List.set_cons_succ]
            refine wpAnyH_ready (rs := [13]) (by kernel_rfl) (by simp) ?_
            refine AllReadyH.cons rfl (fun K hK => ?_) AllReadyH.nil
            try simp only [Act.put, List.getElem_toArray, List.getElem_cons_zero, List.getElem_cons_succ, List.setIfInBounds_toArray, List.set_cons_zero, List.set_cons_succ]
            have q0 : W9.cell? ⟨g, 1, none⟩ = some (.slice A2 m2 c2) := kg.cell 1
            have f0 := kg.frozen 1
            go_simp
            clear q0 f0
            have n12 : But g W9 (W9.setCell ⟨g, 1, none⟩ (.slice A9 (m2 + 1) c9)) := (But.refl g W9).setCell (p := ⟨g, 1, none⟩) (.inl rfl) _
            have own12 := own9.kind n12 kg (by decide) (by decide) (by decide)
            have kg12 := kg.set_ 1 (.slice A9 (m2 + 1) c9)
            have hs12 := Nat.le_trans hBV bx.size
            have bx := bx.trans (n12.below B hBg hs12)
            have hs12 := Nat.le_trans hBV bx.size
            have J := (⟨hL.below bx hglB, hI.below bx hgiB⟩ : Blk _ gl #[.int .i64 lock] 3 ∧ Blk _ gi #[.int .i64 id] 3)
            generalize W9.setCell ⟨g, 1, none⟩ (.slice A9 (m2 + 1) c9) = W12 at own12 kg12 J bx hs12 ⊢
            refine hK.out _ _ J (fun _ => ?_)
            clear hK K
            try simp only [Act.put, List.getElem_toArray, List.getElem_cons_zero, List.getElem_cons_succ, List.setIfInBounds_toArray, List.set_cons_zero, List.set_cons_succ]
            refine wpAnyH_done (by kernel_rfl) ?_ _
            refine ⟨rfl, ?_⟩
            clear J
            have ko12 := ko.below bx hoB
            have qo : W12.cell? ⟨go_, 0, none⟩ = some (.bool false) := ko12.cell 0
            have fo := ko12.frozen 0
            go_wp2_with fail
            clear qo fo
            have n13 : But go_ W12 (W12.setCell ⟨go_, 0, none⟩ (.bool true)) := (But.refl go_ W12).setCell (p := ⟨go_, 0, none⟩) (.inl rfl) _
            have own13 := own12.kind n13 ko12 (by decide) (by decide) (by decide)
            have kg13 := n13.blk7 kg12 (by omega)
            have ko13 := ko12.set_ 0 (.bool true)
            have b13 : Bx B (some go_) V (W12.setCell ⟨go_, 0, none⟩ (.bool true)) := (Bx.of bx).trans (Bx.but n13 hs12)
            generalize W12.setCell ⟨go_, 0, none⟩ (.bool true) = W13 at own13 kg13 ko13 b13 ⊢
            go_ret
            refine ⟨by rw [HR2.out]; rfl, b13, (fun g e => by cases e; rw [HB2.out]; exact ko13), fun _ => ?_⟩
            rw [HR2.out]
            have ho13 := HOK.out
            refine ⟨some ⟨gR, 0, none⟩, m1, c1, A9, m2 + 1, c9, _, kg13, own13.sc (by have := own13.rr.len; have := ho13.r; omega) hm9 (fun x hx => by
              rcases insL_mem hx with rfl | h
              · exact Nat.zero_le _
              · exact ho13.q x.1 (List.mem_map.2 ⟨x, h, rfl⟩)), insL_map _ _ _ _, own13.fro⟩
          · try simp only [Act.put, List.getElem_toArray, List.getElem_cons_zero, List.getElem_cons_succ, List.setIfInBounds_toArray, List.set_cons_zero, List.set_cons_succ]
            go_simp
            have kb := Blk.new_ _ (kwC (⟨lock, id, []⟩, (none, 0))) 48 hWz.symm
            have ba : Below WZ.heap.size WZ (WZ.alloc (.cells (kwC (⟨lock, id, []⟩, (none, 0))) 48)) := (Below.refl _ _).alloc (Nat.le_refl _) _
            have kg := kg.below ba kg.lt
            have own := own.below ba (Nat.le_refl _)
            have bx := bx.trans (ba.mono hsz)
            have J := (⟨hL.below bx hglB, hI.below bx hgiB⟩ : Blk _ gl #[.int .i64 lock] 3 ∧ Blk _ gi #[.int .i64 id] 3)
            have hgne : ∀ g', (Value.slice A2 m2 c2).ownBlock = some g' → gb ≠ g' := fun g' e => by have := (own0.rl.lt g' e).2; omega
            have hsz := Nat.le_trans hsz ba.size
            show K _ (WZ.alloc (.cells (kwC (⟨lock, id, []⟩, (none, 0))) 48))
            generalize WZ.alloc (.cells (kwC (⟨lock, id, []⟩, (none, 0))) 48) = W8 at kb kg own J bx hsz ⊢
            rw [← hWz]
            clear ba hWz
            refine hK.out _ _ J (fun _ => ?_)
            clear hK K
            try simp only [Act.put, List.getElem_toArray, List.getElem_cons_zero, List.getElem_cons_succ, List.setIfInBounds_toArray, List.set_cons_zero, List.set_cons_succ]
            refine wpAnyH_ready (rs := [4]) (by kernel_rfl) (by simp) ?_
            refine AllReadyH.cons rfl (fun K hK => ?_) AllReadyH.nil
            try simp only [Act.put, List.getElem_toArray, List.getElem_cons_zero, List.getElem_cons_succ, List.setIfInBounds_toArray, List.set_cons_zero, List.set_cons_succ]
            have qq := kg.cell 1
            change _ = some (Value.slice A2 m2 c2) at qq
            go_simp
            clear qq
            refine hK.out _ _ J (fun _ => ?_)
            clear hK K
            try simp only [Act.put, List.getElem_toArray, List.getElem_cons_zero, List.getElem_cons_succ, List.setIfInBounds_toArray, List.set_cons_zero, List.set_cons_succ]
            refine wpAnyH_ready (rs := [10]) (by kernel_rfl) (by simp) ?_
            refine AllReadyH.cons rfl (fun K hK => ?_) AllReadyH.nil
            try simp only [Act.put, List.getElem_toArray, List.getElem_cons_zero, List.getElem_cons_succ, List.setIfInBounds_toArray, List.set_cons_zero, List.set_cons_succ]
            go_simp
            have IR := insert_K B A2 m2 c2 at_ L (⟨lock, id, []⟩, (none, 0)) gb W8 own.rl kb.blk hgne hm9 hsz hkl'
            refine IR.mono ?_
            clear IR
            rintro e W9 ⟨A9, c9, rfl, ro, hgr, bb⟩
            go_wp2_with fail
            have hrow : ∀ g', (Value.slice A2 m2 c2).ownBlock = some g' → ∃ cs t, Blk W8 g' cs t ∧ t = 48 := fun g' e => by obtain ⟨cur, k⟩ := roK_blk own.rl e; exact ⟨cur, _, k, rfl⟩
            have rr := own_kind own.rr hgr (fun g' e => by obtain ⟨cs, t, k, rfl⟩ := hrow g' e; exact ⟨cs, _, k, by decide⟩)
            have qz : ∀ x ∈ insL at_ (⟨lock, id, []⟩, (none, 0)) L, Zo W9 B x.2.1 x.1.q.length x.2.2 x.1.q := fun x hx => by
              rcases insL_mem hx with rfl | h
              · exact zo_nil _ _
              · exact own_kind (own.q x h) hgr (fun g' e => by obtain ⟨cs, t, k, rfl⟩ := hrow g' e; exact ⟨cs, _, k, by decide⟩)
            have own9 : Own W9 B (some ⟨gR, 0, none⟩) m1 c1 R A9 (m2 + 1) c9 (insL at_ (⟨lock, id, []⟩, (none, 0)) L) := ⟨rr, ro, qz, qd_ins (by have := HL2.out; omega) rfl own.qd⟩
            have kg : Blk W9 g (scC (some ⟨gR, 0, none⟩) m1 c1 A2 m2 c2) 25 := ⟨(hgr.block g kg.lt (fun e => by
              obtain ⟨cs, t, k, rfl⟩ := hrow g e.symm
              have h8 := k.blk
              rw [kg.blk] at h8
              have h9 : (25 : TypeId) = 48 := by injection h8 with h8; injection h8
              exact absurd h9 (by decide))).trans kg.blk⟩
            have bx := bx.trans bb
            have J := (⟨hL.below bx hglB, hI.below bx hgiB⟩ : Blk W9 gl #[.int .i64 lock] 3 ∧ Blk W9 gi #[.int .i64 id] 3)
            clear hgr bb hrow rr qz ro own
            refine hK.out _ _ J (fun _ => ?_)
            clear hK K
            try simp only [Act.put, List.getElem_toArray, List.getElem_cons_zero, List.getElem_cons_succ, List.setIfInBounds_toArray, List.set_cons_zero, List.set_cons_succ]
            refine wpAnyH_take (i := 11) (v := .pointer (some ⟨g, 0, none⟩)) rfl (by kernel_rfl) (by kernel_rfl) (by kernel_rfl) (fun _ _ _ h => nomatch h.1) (.inl ⟨by rfl, fun V hV => by go_simp⟩) J ?_
            try simp only [Act.put, List.getElem_toArray, List.getElem_cons_zero, List.getElem_cons_succ, List.setIfInBounds_toArray, List.set_cons_zero, List.set_cons_succ]
            refine wpAnyH_take (i := 12) (v := .pointer (some ⟨g, 1, none⟩)) rfl (by kernel_rfl) (by kernel_rfl) (by kernel_rfl) (fun _ _ _ h => nomatch h.1) (.inl ⟨by rfl, fun V hV => by go_simp⟩) J ?_
            try simp only [Act.put, List.getElem_toArray, List.getElem_cons_zero, List.getElem_cons_succ, List.setIfInBounds_toArray, List.set_cons_zero, List.set_cons_succ]
            refine wpAnyH_ready (rs := [13]) (by kernel_rfl) (by simp) ?_
            refine AllReadyH.cons rfl (fun K hK => ?_) AllReadyH.nil
            try simp only [Act.put, List.getElem_toArray, List.getElem_cons_zero, List.getElem_cons_succ, List.setIfInBounds_toArray, List.set_cons_zero, List.set_cons_succ]
            have q0 : W9.cell? ⟨g, 1, none⟩ = some (.slice A2 m2 c2) := kg.cell 1
            have f0 := kg.frozen 1
            go_simp
            clear q0 f0
            have n12 : But g W9 (W9.setCell ⟨g, 1, none⟩ (.slice A9 (m2 + 1) c9)) := (But.refl g W9).setCell (p := ⟨g, 1, none⟩) (.inl rfl) _
            have own12 := own9.kind n12 kg (by decide) (by decide) (by decide)
            have kg12 := kg.set_ 1 (.slice A9 (m2 + 1) c9)
            have hs12 := Nat.le_trans hBV bx.size
            have bx := bx.trans (n12.below B hBg hs12)
            have hs12 := Nat.le_trans hBV bx.size
            have J := (⟨hL.below bx hglB, hI.below bx hgiB⟩ : Blk _ gl #[.int .i64 lock] 3 ∧ Blk _ gi #[.int .i64 id] 3)
            generalize W9.setCell ⟨g, 1, none⟩ (.slice A9 (m2 + 1) c9) = W12 at own12 kg12 J bx hs12 ⊢
            refine hK.out _ _ J (fun _ => ?_)
            clear hK K
            try simp only [Act.put, List.getElem_toArray, List.getElem_cons_zero, List.getElem_cons_succ, List.setIfInBounds_toArray, List.set_cons_zero, List.set_cons_succ]
            refine wpAnyH_done (by kernel_rfl) ?_ _
            refine ⟨rfl, ?_⟩
            clear J
            have ko12 := ko.below bx hoB
            have qo : W12.cell? ⟨go_, 0, none⟩ = some (.bool false) := ko12.cell 0
            have fo := ko12.frozen 0
            go_wp2_with fail
            clear qo fo
            have n13 : But go_ W12 (W12.setCell ⟨go_, 0, none⟩ (.bool true)) := (But.refl go_ W12).setCell (p := ⟨go_, 0, none⟩) (.inl rfl) _
            have own13 := own12.kind n13 ko12 (by decide) (by decide) (by decide)
            have kg13 := n13.blk7 kg12 (by omega)
            have ko13 := ko12.set_ 0 (.bool true)
            have b13 : Bx B (some go_) V (W12.setCell ⟨go_, 0, none⟩ (.bool true)) := (Bx.of bx).trans (Bx.but n13 hs12)
            generalize W12.setCell ⟨go_, 0, none⟩ (.bool true) = W13 at own13 kg13 ko13 b13 ⊢
            go_ret
            refine ⟨by rw [HR2.out]; rfl, b13, (fun g e => by cases e; rw [HB2.out]; exact ko13), fun _ => ?_⟩
            rw [HR2.out]
            have ho13 := HOK.out
            refine ⟨some ⟨gR, 0, none⟩, m1, c1, A9, m2 + 1, c9, _, kg13, own13.sc (by have := own13.rr.len; have := ho13.r; omega) hm9 (fun x hx => by
              rcases insL_mem hx with rfl | h
              · exact Nat.zero_le _
              · exact ho13.q x.1 (List.mem_map.2 ⟨x, h, rfl⟩)), insL_map _ _ _ _, own13.fro⟩
        · have hat := HLT.out rfl
          have HAT := Lib.hid hat
          obtain ⟨gK, rfl, hBK, _⟩ := own7.rl.at0 (by omega)
          have hkm : (at_ : Int) < (m2 : Int) := by have := HL2.out; omega
          obtain ⟨y, hy⟩ : ∃ y, L.getD at_ kw0 = y := ⟨_, rfl⟩
          obtain ⟨yo, hyo⟩ : ∃ o, y.1.o = o := ⟨_, rfl⟩
          have HR3 := Lib.hid (show r = (if (yo == id) = true then ([], [], 231) else (R.set k ⟨(R.getD k rn0).i, 1, lock⟩, (L.map (·.1)).set at_ ⟨y.1.n, yo, y.1.q ++ [id]⟩, 0)) by rw [HR2.out, if_pos rfl, fst_getD, hy, hyo])
          have HY := Lib.hid hy
          have HYO := Lib.hid hyo
          have HKO := Lib.hid (fun (V' : World) (hV : Below V.heap.size V V') => (show V'.cell? ⟨gK, at_ * 3 + 1, none⟩ = some (.int .i64 yo) from by
              obtain ⟨_, _, e, _, hc⟩ := (own.below hV (Nat.le_refl _)).rl.rs at_ HAT.out
              cases e
              have := hc 1 _ rfl
              rw [Nat.zero_add, HY.out, HYO.out] at this
              exact this))
          have B9 := J7.drew
          clear hat hy hyo HR2
          go_wp2_with fail
          clear ql qs kg7 own7 bx7 h1 h2 h3 HFIN J7
          try simp only [Act.put]
          refine region_cutP ?_
          refine wp_region_held_drew (S := (fun V' => Below V.heap.size V V')) (by kernel_rfl) B9 (fun _ => ?_)
          generalize W.drew = W2 at B9 ⊢
          refine wpAnyH_take (i := 0) (v := .pointer (some ⟨g, 0, none⟩)) rfl (by kernel_rfl) (by kernel_rfl) (by kernel_rfl) (fun _ _ _ h => nomatch h.1) (.inl ⟨by rfl, fun V_ hV => by go_simp⟩) B9 ?_
          try simp only [Act.put, List.getElem_toArray, List.getElem_cons_zero, List.getElem_cons_succ, List.setIfInBounds_toArray, List.set_cons_zero, List.set_cons_succ]
          refine wpAnyH_take (i := 4) (v := .int .i64 at_) rfl (by kernel_rfl) (by kernel_rfl) (by kernel_rfl) (fun _ _ _ h => nomatch h.1) (.inl ⟨by rfl, fun V_ hV => by go_simp⟩) B9 ?_
          try simp only [Act.put, List.getElem_toArray, List.getElem_cons_zero, List.getElem_cons_succ, List.setIfInBounds_toArray, List.set_cons_zero, List.set_cons_succ]
          refine wpAnyH_take (i := 8) (v := .int .i64 id) rfl (by kernel_rfl) (by kernel_rfl) (by kernel_rfl) (fun _ _ _ h => nomatch h.1) (.inl ⟨by rfl, fun V_ hV => by have cq : V_.cell? ⟨gi, 0, none⟩ = some (.int .i64 id) := (hI.below hV hI.lt).cell 0; go_simp⟩) B9 ?_
          try simp only [Act.put, List.getElem_toArray, List.getElem_cons_zero, List.getElem_cons_succ, List.setIfInBounds_toArray, List.set_cons_zero, List.set_cons_succ]
          refine wpAnyH_take (i := 1) (v := .pointer (some ⟨g, 0, none⟩)) rfl (by kernel_rfl) (by kernel_rfl) (by kernel_rfl) (fun _ _ _ h => nomatch h.1) (.inl ⟨by rfl, fun V_ hV => by go_simp⟩) B9 ?_
          try simp only [Act.put, List.getElem_toArray, List.getElem_cons_zero, List.getElem_cons_succ, List.setIfInBounds_toArray, List.set_cons_zero, List.set_cons_succ]
          refine wpAnyH_take (i := 2) (v := .pointer (some ⟨g, 1, none⟩)) rfl (by kernel_rfl) (by kernel_rfl) (by kernel_rfl) (fun _ _ _ h => nomatch h.1) (.inl ⟨by rfl, fun V_ hV => by go_simp⟩) B9 ?_
          try simp only [Act.put, List.getElem_toArray, List.getElem_cons_zero, List.getElem_cons_succ, List.setIfInBounds_toArray, List.set_cons_zero, List.set_cons_succ]
          refine wpAnyH_take (i := 3) (v := .slice (some ⟨gK, 0, none⟩) m2 c2) rfl (by kernel_rfl) (by kernel_rfl) (by kernel_rfl) (fun _ _ _ h => nomatch h.1) (.inl ⟨by rfl, fun V_ hV => by have cq : V_.cell? ⟨g, 1, none⟩ = some (.slice (some ⟨gK, 0, none⟩) m2 c2) := (kg.below hV hgL).cell 1; go_simp⟩) B9 ?_
          try simp only [Act.put, List.getElem_toArray, List.getElem_cons_zero, List.getElem_cons_succ, List.setIfInBounds_toArray, List.set_cons_zero, List.set_cons_succ]
          refine wpAnyH_take (i := 5) (v := .pointer (some ⟨gK, at_ * 3, none⟩)) rfl (by kernel_rfl) (by kernel_rfl) (by kernel_rfl) (fun _ _ _ h => nomatch h.1) (.inl ⟨by rfl, fun V_ hV => by go_simp⟩) B9 ?_
          try simp only [Act.put, List.getElem_toArray, List.getElem_cons_zero, List.getElem_cons_succ, List.setIfInBounds_toArray, List.set_cons_zero, List.set_cons_succ]
          refine wpAnyH_take (i := 6) (v := .pointer (some ⟨gK, at_ * 3 + 1, none⟩)) rfl (by kernel_rfl) (by kernel_rfl) (by kernel_rfl) (fun _ _ _ h => nomatch h.1) (.inl ⟨by rfl, fun V_ hV => by go_simp⟩) B9 ?_
          try simp only [Act.put, List.getElem_toArray, List.getElem_cons_zero, List.getElem_cons_succ, List.setIfInBounds_toArray, List.set_cons_zero, List.set_cons_succ]
          refine wpAnyH_take (i := 7) (v := .int .i64 yo) rfl (by kernel_rfl) (by kernel_rfl) (by kernel_rfl) (fun _ _ _ h => nomatch h.1) (.inl ⟨by rfl, fun V_ hV => by have cq := HKO.out V_ hV; go_simp⟩) B9 ?_
          try simp only [Act.put, List.getElem_toArray, List.getElem_cons_zero, List.getElem_cons_succ, List.setIfInBounds_toArray, List.set_cons_zero, List.set_cons_succ]
          refine wpAnyH_take (i := 9) (v := .bool (yo == id)) rfl (by kernel_rfl) (by kernel_rfl) (by kernel_rfl) (fun _ _ _ h => nomatch h.1) (.inl ⟨by rfl, fun V_ hV => by go_simp⟩) B9 ?_
          try simp only [Act.put, List.getElem_toArray, List.getElem_cons_zero, List.getElem_cons_succ, List.setIfInBounds_toArray, List.set_cons_zero, List.set_cons_succ]
          refine wpAnyH_take (i := 10) (v := .bool (yo == id)) rfl (by kernel_rfl) (by kernel_rfl) (by kernel_rfl) (fun _ _ _ h => nomatch h.1) (.inl ⟨by rfl, fun V_ hV => by go_simp⟩) B9 ?_
          try simp only [Act.put, List.getElem_toArray, List.getElem_cons_zero, List.getElem_cons_succ, List.setIfInBounds_toArray, List.set_cons_zero, List.set_cons_succ]
          refine wpAnyH_done (by kernel_rfl) ?_ _
          refine ⟨rfl, ?_⟩
          clear HKO
          cases ho1 : (yo == id)
          · have HR4 := Lib.hid (show r = (R.set k ⟨(R.getD k rn0).i, 1, lock⟩, (L.map (·.1)).set at_ ⟨y.1.n, yo, y.1.q ++ [id]⟩, 0) by rw [HR3.out, ho1, if_neg (by simp)])
            clear HR3
            have HBK := Lib.hid hBK
            go_wp2_with fail
            clear ho1
            try simp only [Act.put]
            refine region_cutP ?_
            have B10 := B9.drew
            have bx := B10.mono hBV
            have own := own.below B10 (Nat.le_refl _)
            have hsz : B ≤ W2.drew.heap.size := Nat.le_trans hBV B10.size
            have J := (⟨kg.below B10 hgL, hL.below bx hglB, hI.below bx hgiB⟩ : Blk W2.drew g (scC (some ⟨gR, 0, none⟩) m1 c1 (some ⟨gK, 0, none⟩) m2 c2) 25 ∧ Blk W2.drew gl #[.int .i64 lock] 3 ∧ Blk W2.drew gi #[.int .i64 id] 3)
            refine wp_region_held_drew (S := (fun V' => Blk V' g (scC (some ⟨gR, 0, none⟩) m1 c1 (some ⟨gK, 0, none⟩) m2 c2) 25 ∧ Blk V' gl #[.int .i64 lock] 3 ∧ Blk V' gi #[.int .i64 id] 3)) (by kernel_rfl) J (fun _ => ?_)
            clear B9 B10 kg
            generalize W2.drew = WZ at J own bx hsz ⊢
            obtain ⟨gb, hWz⟩ : ∃ gb, gb = WZ.heap.size := ⟨_, rfl⟩
            refine wpAnyH_take (i := 0) (v := .pointer (some ⟨g, 0, none⟩)) rfl (by kernel_rfl) (by kernel_rfl) (by kernel_rfl) (fun _ _ _ h => nomatch h.1) (.inl ⟨by rfl, fun V hV => by go_simp⟩) J ?_
            try simp only [Act.put, List.getElem_toArray, List.getElem_cons_zero, List.getElem_cons_succ, List.setIfInBounds_toArray, List.set_cons_zero, List.set_cons_succ]
            refine wpAnyH_take (i := 4) (v := .int .i64 at_) rfl (by kernel_rfl) (by kernel_rfl) (by kernel_rfl) (fun _ _ _ h => nomatch h.1) (.inl ⟨by rfl, fun V hV => by go_simp⟩) J ?_
            try simp only [Act.put, List.getElem_toArray, List.getElem_cons_zero, List.getElem_cons_succ, List.setIfInBounds_toArray, List.set_cons_zero, List.set_cons_succ]
            refine wpAnyH_take (i := 5) (v := .pointer (some ⟨g, 0, none⟩)) rfl (by kernel_rfl) (by kernel_rfl) (by kernel_rfl) (fun _ _ _ h => nomatch h.1) (.inl ⟨by rfl, fun V hV => by go_simp⟩) J ?_
            try simp only [Act.put, List.getElem_toArray, List.getElem_cons_zero, List.getElem_cons_succ, List.setIfInBounds_toArray, List.set_cons_zero, List.set_cons_succ]
            refine wpAnyH_take (i := 9) (v := .int .i64 at_) rfl (by kernel_rfl) (by kernel_rfl) (by kernel_rfl) (fun _ _ _ h => nomatch h.1) (.inl ⟨by rfl, fun V hV => by go_simp⟩) J ?_
            try simp only [Act.put, List.getElem_toArray, List.getElem_cons_zero, List.getElem_cons_succ, List.setIfInBounds_toArray, List.set_cons_zero, List.set_cons_succ]
            refine wpAnyH_take (i := 13) (v := .int .i64 id) rfl (by kernel_rfl) (by kernel_rfl) (by kernel_rfl) (fun _ _ _ h => nomatch h.1) (.inl ⟨by rfl, fun V hV => by have cq : V.cell? ⟨gi, 0, none⟩ = some (.int .i64 id) := hV.2.2.cell 0; go_simp⟩) J ?_
            try simp only [Act.put, List.getElem_toArray, List.getElem_cons_zero, List.getElem_cons_succ, List.setIfInBounds_toArray, List.set_cons_zero, List.set_cons_succ]
            refine wpAnyH_take (i := 1) (v := .pointer (some ⟨g, 0, none⟩)) rfl (by kernel_rfl) (by kernel_rfl) (by kernel_rfl) (fun _ _ _ h => nomatch h.1) (.inl ⟨by rfl, fun V hV => by go_simp⟩) J ?_
            try simp only [Act.put, List.getElem_toArray, List.getElem_cons_zero, List.getElem_cons_succ, List.setIfInBounds_toArray, List.set_cons_zero, List.set_cons_succ]
            refine wpAnyH_take (i := 6) (v := .pointer (some ⟨g, 0, none⟩)) rfl (by kernel_rfl) (by kernel_rfl) (by kernel_rfl) (fun _ _ _ h => nomatch h.1) (.inl ⟨by rfl, fun V hV => by go_simp⟩) J ?_
            try simp only [Act.put, List.getElem_toArray, List.getElem_cons_zero, List.getElem_cons_succ, List.setIfInBounds_toArray, List.set_cons_zero, List.set_cons_succ]
            refine wpAnyH_take (i := 2) (v := .pointer (some ⟨g, 1, none⟩)) rfl (by kernel_rfl) (by kernel_rfl) (by kernel_rfl) (fun _ _ _ h => nomatch h.1) (.inl ⟨by rfl, fun V hV => by go_simp⟩) J ?_
            try simp only [Act.put, List.getElem_toArray, List.getElem_cons_zero, List.getElem_cons_succ, List.setIfInBounds_toArray, List.set_cons_zero, List.set_cons_succ]
            refine wpAnyH_take (i := 7) (v := .pointer (some ⟨g, 1, none⟩)) rfl (by kernel_rfl) (by kernel_rfl) (by kernel_rfl) (fun _ _ _ h => nomatch h.1) (.inl ⟨by rfl, fun V hV => by go_simp⟩) J ?_
            try simp only [Act.put, List.getElem_toArray, List.getElem_cons_zero, List.getElem_cons_succ, List.setIfInBounds_toArray, List.set_cons_zero, List.set_cons_succ]
            refine wpAnyH_take (i := 3) (v := .slice (some ⟨gK, 0, none⟩) m2 c2) rfl (by kernel_rfl) (by kernel_rfl) (by kernel_rfl) (fun _ _ _ h => nomatch h.1) (.inl ⟨by rfl, fun V hV => by have cq : V.cell? ⟨g, 1, none⟩ = some (.slice (some ⟨gK, 0, none⟩) m2 c2) := hV.1.cell 1; go_simp⟩) J ?_
            try simp only [Act.put, List.getElem_toArray, List.getElem_cons_zero, List.getElem_cons_succ, List.setIfInBounds_toArray, List.set_cons_zero, List.set_cons_succ]
            refine wpAnyH_take (i := 8) (v := .slice (some ⟨gK, 0, none⟩) m2 c2) rfl (by kernel_rfl) (by kernel_rfl) (by kernel_rfl) (fun _ _ _ h => nomatch h.1) (.inl ⟨by rfl, fun V hV => by have cq : V.cell? ⟨g, 1, none⟩ = some (.slice (some ⟨gK, 0, none⟩) m2 c2) := hV.1.cell 1; go_simp⟩) J ?_
            try simp only [Act.put, List.getElem_toArray, List.getElem_cons_zero, List.getElem_cons_succ, List.setIfInBounds_toArray, List.set_cons_zero, List.set_cons_succ]
            refine wpAnyH_take (i := 10) (v := .pointer (some ⟨gK, at_ * 3, none⟩)) rfl (by kernel_rfl) (by kernel_rfl) (by kernel_rfl) (fun _ _ _ h => nomatch h.1) (.inl ⟨by rfl, fun V hV => by go_simp⟩) J ?_
            try simp only [Act.put, List.getElem_toArray, List.getElem_cons_zero, List.getElem_cons_succ, List.setIfInBounds_toArray, List.set_cons_zero, List.set_cons_succ]
            refine wpAnyH_take (i := 11) (v := .pointer (some ⟨gK, at_ * 3 + 2, none⟩)) rfl (by kernel_rfl) (by kernel_rfl) (by kernel_rfl) (fun _ _ _ h => nomatch h.1) (.inl ⟨by rfl, fun V hV => by go_simp⟩) J ?_
            try simp only [Act.put, List.getElem_toArray, List.getElem_cons_zero, List.getElem_cons_succ, List.setIfInBounds_toArray, List.set_cons_zero, List.set_cons_succ]
            refine wpAnyH_ready (rs := [12, 14]) (by kernel_rfl) (by simp) ?_
            refine AllReadyH.cons rfl (fun K hK => ?_) (AllReadyH.cons rfl (fun K hK => ?_) AllReadyH.nil)
            · try simp only [Act.put, List.getElem_toArray, List.getElem_cons_zero, List.getElem_cons_succ, List.setIfInBounds_toArray, List.set_cons_zero, List.set_cons_succ]
              have q0 := kcell (y := y) own.rl HAT.out HY.out
              go_simp
              clear q0
              refine hK.out _ _ J (fun _ => ?_)
              clear hK K
              try simp only [Act.put, List.getElem_toArray, List.getElem_cons_zero, List.getElem_cons_succ, List.setIfInBounds_toArray, List.set_cons_zero, List.set_cons_succ]
              refine wpAnyH_ready (rs := [14]) (by kernel_rfl) (by simp) ?_
              refine AllReadyH.cons rfl (fun K hK => ?_) AllReadyH.nil
              try simp only [Act.put, List.getElem_toArray, List.getElem_cons_zero, List.getElem_cons_succ, List.setIfInBounds_toArray, List.set_cons_zero, List.set_cons_succ]
              go_simp
              have kb := Blk.new_ _ #[.int .i64 id] 3 hWz.symm
              have ba : Below WZ.heap.size WZ (WZ.alloc (.cells #[.int .i64 id] 3)) := (Below.refl _ _).alloc (Nat.le_refl _) _
              have kg := J.1.below ba J.1.lt
              have own := own.below ba (Nat.le_refl _)
              have bx := bx.trans (ba.mono hsz)
              have J := (⟨kg, hL.below bx hglB, hI.below bx hgiB⟩ : Blk (WZ.alloc (.cells #[.int .i64 id] 3)) g (scC (some ⟨gR, 0, none⟩) m1 c1 (some ⟨gK, 0, none⟩) m2 c2) 25 ∧ Blk (WZ.alloc (.cells #[.int .i64 id] 3)) gl #[.int .i64 lock] 3 ∧ Blk (WZ.alloc (.cells #[.int .i64 id] 3)) gi #[.int .i64 id] 3)
              have hsz := Nat.le_trans hsz ba.size
              clear kg
              show K _ (WZ.alloc (.cells #[.int .i64 id] 3))
              generalize WZ.alloc (.cells #[.int .i64 id] 3) = W8 at kb own J bx hsz ⊢
              rw [← hWz]
              clear ba hWz
              refine hK.out _ _ J (fun _ => ?_)
              clear hK K
              try simp only [Act.put, List.getElem_toArray, List.getElem_cons_zero, List.getElem_cons_succ, List.setIfInBounds_toArray, List.set_cons_zero, List.set_cons_succ]
              refine wpAnyH_ready (rs := [15]) (by kernel_rfl) (by simp) ?_
              refine AllReadyH.cons rfl (fun K hK => ?_) AllReadyH.nil
              try simp only [Act.put, List.getElem_toArray, List.getElem_cons_zero, List.getElem_cons_succ, List.setIfInBounds_toArray, List.set_cons_zero, List.set_cons_succ]
              have ZY : Zo W8 B y.2.1 y.1.q.length y.2.2 y.1.q := by have := own.qk HAT.out; rw [HY.out] at this; exact this
              have hy9 : y.1.q.length + 1 ≤ 2000000 := by have := ZY.len; have := HQ4.out y.1 (by rw [← HY.out, ← fst_getD]; exact getD_memK _ (by rw [List.length_map]; exact HAT.out)); omega
              obtain ⟨A8, c8, W9, hrun, zo, hgr, bb, hown⟩ := run_app1Zq 40 B y.2.1 y.1.q.length y.2.2 y.1.q ZY id gb kb hy9 hsz
              have hrow : ∀ g', (Value.slice y.2.1 y.1.q.length y.2.2).ownBlock = some g' → ∃ cs t, Blk W8 g' cs t ∧ t = 3 := fun g' e => by obtain ⟨cur, k⟩ := zo_blk ZY e; exact ⟨cur, _, k, rfl⟩
              have rr := own_kind own.rr hgr (fun g' e => by obtain ⟨cs, t, k, rfl⟩ := hrow g' e; exact ⟨cs, _, k, by decide⟩)
              have rl := own_kind own.rl hgr (fun g' e => by obtain ⟨cs, t, k, rfl⟩ := hrow g' e; exact ⟨cs, _, k, by decide⟩)
              have zq : ∀ i, i < L.length → i ≠ at_ → Zo W9 B (L.getD i kw0).2.1 (L.getD i kw0).1.q.length (L.getD i kw0).2.2 (L.getD i kw0).1.q := fun i hi hne => zo_keep (own.qk hi) hgr (fun g' e e2 => own.qd i at_ hi HAT.out hne g' e (by rw [HY.out]; exact e2))
              have zo' : Zo W9 B A8 (y.1.q ++ [id]).length c8 (y.1.q ++ [id]) := by rw [List.length_append]; exact zo
              have hq : ∀ g', ownQ ((⟨y.1.n, yo, y.1.q ++ [id]⟩, (A8, c8)) : Kw) = some g' → ∀ j, j < L.length → j ≠ at_ → ownQ (L.getD j kw0) ≠ some g' := fun g' e j hj hne e2 => by
                have e3 : (Value.slice A8 (y.1.q.length + 1) c8).ownBlock = some g' := by have e4 := e; unfold ownQ at e4; rw [List.length_append] at e4; exact e4
                rcases hown with h | h
                · rw [h] at e3
                  exact own.qd at_ j HAT.out hj (fun e => hne e.symm) g' (by rw [HY.out]; exact e3) e2
                · rw [h] at e3
                  have h9 := ((own.qk hj).lt g' e2).2
                  have h10 := Option.some.inj e3
                  omega
              have kg : Blk W9 g (scC (some ⟨gR, 0, none⟩) m1 c1 (some ⟨gK, 0, none⟩) m2 c2) 25 := ⟨(hgr.block g J.1.lt (fun e => by
                obtain ⟨cs, t, k, rfl⟩ := hrow g e.symm
                have h8 := k.blk
                rw [J.1.blk] at h8
                have h9 : (25 : TypeId) = 3 := by injection h8 with h8; injection h8
                exact absurd h9 (by decide))).trans J.1.blk⟩
              have bx := bx.trans bb
              have J := (⟨kg, hL.below bx hglB, hI.below bx hgiB⟩ : Blk W9 g (scC (some ⟨gR, 0, none⟩) m1 c1 (some ⟨gK, 0, none⟩) m2 c2) 25 ∧ Blk W9 gl #[.int .i64 lock] 3 ∧ Blk W9 gi #[.int .i64 id] 3)
              have qd := own.qd
              have HA := Lib.hid (And.intro rr (And.intro rl (And.intro zq (And.intro zo' (And.intro qd hq)))))
              have HBX := Lib.hid bx
              have hs9 : B ≤ W9.heap.size := Nat.le_trans hsz bb.size
              clear rr rl zq zo' zo hq qd kg bb hown hrow hgr ZY own bx hy9 kb
              rw [if_pos (by rfl)]
              refine wp_op_app (.tmp 30) (.tmp 32) rfl rfl rfl hrun ?_
              clear hrun
              have bx := HBX.out
              obtain ⟨rr, rl, zq, zo, qd, hq⟩ := HA.out
              clear HA HBX
              refine hK.out _ _ J (fun _ => ?_)
              clear hK K
              try simp only [Act.put, List.getElem_toArray, List.getElem_cons_zero, List.getElem_cons_succ, List.setIfInBounds_toArray, List.set_cons_zero, List.set_cons_succ]
              refine wpAnyH_take (i := 16) (v := .pointer (some ⟨gK, at_ * 3, none⟩)) rfl (by kernel_rfl) (by kernel_rfl) (by kernel_rfl) (fun _ _ _ h => nomatch h.1) (.inl ⟨by rfl, fun V hV => by go_simp⟩) J ?_
              try simp only [Act.put, List.getElem_toArray, List.getElem_cons_zero, List.getElem_cons_succ, List.setIfInBounds_toArray, List.set_cons_zero, List.set_cons_succ]
              refine wpAnyH_take (i := 17) (v := .pointer (some ⟨gK, at_ * 3 + 2, none⟩)) rfl (by kernel_rfl) (by kernel_rfl) (by kernel_rfl) (fun _ _ _ h => nomatch h.1) (.inl ⟨by rfl, fun V hV => by go_simp⟩) J ?_
              try simp only [Act.put, List.getElem_toArray, List.getElem_cons_zero, List.getElem_cons_succ, List.setIfInBounds_toArray, List.set_cons_zero, List.set_cons_succ]
              refine wpAnyH_ready (rs := [18]) (by kernel_rfl) (by simp) ?_
              refine AllReadyH.cons rfl (fun K hK => ?_) AllReadyH.nil
              try simp only [Act.put, List.getElem_toArray, List.getElem_cons_zero, List.getElem_cons_succ, List.setIfInBounds_toArray, List.set_cons_zero, List.set_cons_succ]
              have q0 := kcell (y := y) rl HAT.out HY.out
              have f0 := World.ownsRow.frozenAt rl (at_ * 3 + 2)
              have HA := Lib.hid (And.intro rr (And.intro rl (And.intro zq (And.intro zo (And.intro qd hq)))))
              clear rr rl zq zo qd hq
              go_simp
              clear q0 f0
              obtain ⟨rr, rl, zq, zo, qd, hq⟩ := HA.out
              clear HA
              obtain ⟨curK, kK⟩ := roK_blk rl (show (Value.slice (some ⟨gK, 0, none⟩) m2 c2).ownBlock = some gK from rfl)
              have rl10 := RoK.cellSet (k := at_) (j := 2) (u := .slice A8 (y.1.q.length + 1) c8) (y := ((⟨y.1.n, yo, y.1.q ++ [id]⟩, (A8, c8)) : Kw)) rl HAT.out (by decide) (by rw [HY.out]; simp [kwC, HYO.out])
              have n18 : But gK W9 (W9.setCell ⟨gK, at_ * 3 + 2, none⟩ (.slice A8 (y.1.q.length + 1) c8)) := (But.refl gK W9).setCell (p := ⟨gK, at_ * 3 + 2, none⟩) (.inl rfl) _
              have own10 := own_turn HAT.out (own_kind rr (grown_but n18) (fun g' e => by cases e; exact ⟨_, _, kK, by decide⟩)) rl10 (fun i hi hne => own_kind (zq i hi hne) (grown_but n18) (fun g' e => by cases e; exact ⟨_, _, kK, by decide⟩)) (own_kind zo (grown_but n18) (fun g' e => by cases e; exact ⟨_, _, kK, by decide⟩)) qd hq
              have hgK : g ≠ gK := fun e => by
                have h8 := J.1.blk
                rw [e, kK.blk] at h8
                have h9 : (48 : TypeId) = 25 := by injection h8 with h8; injection h8
                exact absurd h9 (by decide)
              have kg := n18.blk7 J.1 hgK
              have bx := bx.trans (n18.below B HBK.out hs9)
              have hs10 : B ≤ (W9.setCell ⟨gK, at_ * 3 + 2, none⟩ (.slice A8 (y.1.q.length + 1) c8)).heap.size := Nat.le_trans hs9 n18.size
              have J := (⟨kg, hL.below bx hglB, hI.below bx hgiB⟩ : Blk (W9.setCell ⟨gK, at_ * 3 + 2, none⟩ (.slice A8 (y.1.q.length + 1) c8)) g (scC (some ⟨gR, 0, none⟩) m1 c1 (some ⟨gK, 0, none⟩) m2 c2) 25 ∧ Blk (W9.setCell ⟨gK, at_ * 3 + 2, none⟩ (.slice A8 (y.1.q.length + 1) c8)) gl #[.int .i64 lock] 3 ∧ Blk (W9.setCell ⟨gK, at_ * 3 + 2, none⟩ (.slice A8 (y.1.q.length + 1) c8)) gi #[.int .i64 id] 3)
              clear n18 rr rl zq zo qd hq rl10 kK kg
              generalize W9.setCell ⟨gK, at_ * 3 + 2, none⟩ (.slice A8 (y.1.q.length + 1) c8) = W10 at own10 J bx hs10 ⊢
              refine hK.out _ _ J (fun _ => ?_)
              clear hK K
              try simp only [Act.put, List.getElem_toArray, List.getElem_cons_zero, List.getElem_cons_succ, List.setIfInBounds_toArray, List.set_cons_zero, List.set_cons_succ]
              refine wpAnyH_done (by kernel_rfl) ?_ _
              refine ⟨rfl, ?_⟩
              have kg := J.1
              clear J
              go_wp2_with fail
              try simp only [Act.put]
              refine region_cutP ?_
              have bx : Below B V W10.drew := bx.drew
              have J : Blk W10.drew gl #[.int .i64 lock] 3 := hL.below bx hglB
              have kg := kg.drew
              have own : Own W10.drew B (some ⟨gR, 0, none⟩) m1 c1 R (some ⟨gK, 0, none⟩) m2 c2 (L.set at_ ((⟨y.1.n, yo, y.1.q ++ [id]⟩, (A8, c8)) : Kw)) := own10.below (Below.refl _ _).drew (Nat.le_refl _)
              have hs : B ≤ W10.drew.heap.size := Nat.le_trans hs10 (Below.refl 0 W10).drew.size
              refine wp_region_held_drew (S := (fun V' => Blk V' gl #[.int .i64 lock] 3)) (by kernel_rfl) J (fun _ => ?_)
              clear own10 hs10
              generalize W10.drew = WY at J kg own bx hs ⊢
              have hnR : ∀ g', (Value.slice (some ⟨gR, 0, none⟩) m1 c1).ownBlock = some g' → g' = gR := fun g' e => (Option.some.inj e).symm
              have hBR : B ≤ gR := (own.rr.lt gR rfl).1
              refine wpAnyH_take (i := 0) (v := .pointer (some ⟨gR, k * 3, none⟩)) rfl (by kernel_rfl) (by kernel_rfl) (by kernel_rfl) (fun _ _ _ h => nomatch h.1) (.inl ⟨by rfl, fun V hV => by go_simp⟩) J ?_
              try simp only [Act.put, List.getElem_toArray, List.getElem_cons_zero, List.getElem_cons_succ, List.setIfInBounds_toArray, List.set_cons_zero, List.set_cons_succ]
              refine wpAnyH_take (i := 1) (v := .pointer (some ⟨gR, k * 3, none⟩)) rfl (by kernel_rfl) (by kernel_rfl) (by kernel_rfl) (fun _ _ _ h => nomatch h.1) (.inl ⟨by rfl, fun V hV => by go_simp⟩) J ?_
              try simp only [Act.put, List.getElem_toArray, List.getElem_cons_zero, List.getElem_cons_succ, List.setIfInBounds_toArray, List.set_cons_zero, List.set_cons_succ]
              refine wpAnyH_take (i := 2) (v := .int .i64 lock) rfl (by kernel_rfl) (by kernel_rfl) (by kernel_rfl) (fun _ _ _ h => nomatch h.1) (.inl ⟨by rfl, fun V hV => by have cq : V.cell? ⟨gl, 0, none⟩ = some (.int .i64 lock) := hV.cell 0; go_simp⟩) J ?_
              try simp only [Act.put, List.getElem_toArray, List.getElem_cons_zero, List.getElem_cons_succ, List.setIfInBounds_toArray, List.set_cons_zero, List.set_cons_succ]
              refine wpAnyH_take (i := 3) (v := .pointer (some ⟨gR, k * 3, none⟩)) rfl (by kernel_rfl) (by kernel_rfl) (by kernel_rfl) (fun _ _ _ h => nomatch h.1) (.inl ⟨by rfl, fun V hV => by go_simp⟩) J ?_
              try simp only [Act.put, List.getElem_toArray, List.getElem_cons_zero, List.getElem_cons_succ, List.setIfInBounds_toArray, List.set_cons_zero, List.set_cons_succ]
              refine wpAnyH_take (i := 4) (v := .pointer (some ⟨gR, k * 3 + 1, none⟩)) rfl (by kernel_rfl) (by kernel_rfl) (by kernel_rfl) (fun _ _ _ h => nomatch h.1) (.inl ⟨by rfl, fun V hV => by go_simp⟩) J ?_
              try simp only [Act.put, List.getElem_toArray, List.getElem_cons_zero, List.getElem_cons_succ, List.setIfInBounds_toArray, List.set_cons_zero, List.set_cons_succ]
              refine wpAnyH_ready (rs := [5]) (by kernel_rfl) (by simp) ?_
              refine AllReadyH.cons rfl (fun K hK => ?_) AllReadyH.nil
              try simp only [Act.put, List.getElem_toArray, List.getElem_cons_zero, List.getElem_cons_succ, List.setIfInBounds_toArray, List.set_cons_zero, List.set_cons_succ]
              have q0 : World.cell? WY ⟨gR, k * 3 + 1, none⟩ = some (.int .i64 (R.getD k rn0).s) := by
                obtain ⟨_, _, e, _, hc⟩ := own.rr.rs k HX.out
                cases e
                have := hc 1 _ rfl
                rw [Nat.zero_add] at this
                exact this
              have f0 := World.ownsRow.frozenAt own.rr (k * 3 + 1)
              have HO := Lib.hid own
              clear own
              go_simp
              clear q0 f0
              have own := HO.out
              clear HO
              obtain ⟨curR, kR⟩ := roR_blk own.rr (show (Value.slice (some ⟨gR, 0, none⟩) m1 c1).ownBlock = some gR from rfl)
              have rr := RoR.cellSet (k := k) (j := 1) (u := .int .i64 1) (y := ⟨(R.getD k rn0).i, 1, (R.getD k rn0).n⟩) own.rr HX.out (by decide) (by simp [rnC])
              have nn : But gR WY (World.setCell WY ⟨gR, k * 3 + 1, none⟩ (.int .i64 1)) := (But.refl gR _).setCell (p := ⟨gR, k * 3 + 1, none⟩) (.inl rfl) _
              have hgR : g ≠ gR := fun e => by
                have h8 := kg.blk
                rw [e, kR.blk] at h8
                have h9 : (52 : TypeId) = 25 := by injection h8 with h8; injection h8
                exact absurd h9 (by decide)
              have own : Own (World.setCell WY ⟨gR, k * 3 + 1, none⟩ (.int .i64 1)) B (some ⟨gR, 0, none⟩) m1 c1 _ (some ⟨gK, 0, none⟩) m2 c2 (L.set at_ ((⟨y.1.n, yo, y.1.q ++ [id]⟩, (A8, c8)) : Kw)) := ⟨rr, own_kind own.rl (grown_but nn) (fun g' e => by cases e; exact ⟨_, _, kR, by decide⟩), fun x hx => own_kind (own.q x hx) (grown_but nn) (fun g' e => by cases e; exact ⟨_, _, kR, by decide⟩), own.qd⟩
              have kg := nn.blk7 kg hgR
              have bx := bx.trans (nn.below B hBR hs)
              have hs := Nat.le_trans hs nn.size
              have J := hL.below bx hglB
              clear nn rr kR hgR
              generalize World.setCell WY ⟨gR, k * 3 + 1, none⟩ (.int .i64 1) = W11 at own kg J bx hs ⊢
              refine hK.out _ _ J (fun _ => ?_)
              clear hK K
              try simp only [Act.put, List.getElem_toArray, List.getElem_cons_zero, List.getElem_cons_succ, List.setIfInBounds_toArray, List.set_cons_zero, List.set_cons_succ]
              refine wpAnyH_take (i := 6) (v := .pointer (some ⟨gR, k * 3, none⟩)) rfl (by kernel_rfl) (by kernel_rfl) (by kernel_rfl) (fun _ _ _ h => nomatch h.1) (.inl ⟨by rfl, fun V hV => by go_simp⟩) J ?_
              try simp only [Act.put, List.getElem_toArray, List.getElem_cons_zero, List.getElem_cons_succ, List.setIfInBounds_toArray, List.set_cons_zero, List.set_cons_succ]
              refine wpAnyH_take (i := 7) (v := .pointer (some ⟨gR, k * 3 + 2, none⟩)) rfl (by kernel_rfl) (by kernel_rfl) (by kernel_rfl) (fun _ _ _ h => nomatch h.1) (.inl ⟨by rfl, fun V hV => by go_simp⟩) J ?_
              try simp only [Act.put, List.getElem_toArray, List.getElem_cons_zero, List.getElem_cons_succ, List.setIfInBounds_toArray, List.set_cons_zero, List.set_cons_succ]
              refine wpAnyH_ready (rs := [8]) (by kernel_rfl) (by simp) ?_
              refine AllReadyH.cons rfl (fun K hK => ?_) AllReadyH.nil
              try simp only [Act.put, List.getElem_toArray, List.getElem_cons_zero, List.getElem_cons_succ, List.setIfInBounds_toArray, List.set_cons_zero, List.set_cons_succ]
              have q0 : World.cell? W11 ⟨gR, k * 3 + 2, none⟩ = some (.int .i64 (R.getD k rn0).n) := by
                obtain ⟨_, _, e, _, hc⟩ := own.rr.rs k (by rw [List.length_set]; exact HX.out)
                cases e
                have := hc 2 _ rfl
                rw [Nat.zero_add] at this
                rw [set_getD _ rn0 HX.out, if_pos rfl] at this; exact this
              have f0 := World.ownsRow.frozenAt own.rr (k * 3 + 2)
              have HO := Lib.hid own
              clear own
              go_simp
              clear q0 f0
              have own := HO.out
              clear HO
              obtain ⟨curR, kR⟩ := roR_blk own.rr (show (Value.slice (some ⟨gR, 0, none⟩) m1 c1).ownBlock = some gR from rfl)
              have rr := RoR.cellSet (k := k) (j := 2) (u := .int .i64 lock) (y := ⟨(R.getD k rn0).i, 1, lock⟩) own.rr (by rw [List.length_set]; exact HX.out) (by decide) (by rw [set_getD _ rn0 HX.out, if_pos rfl]; simp [rnC])
              have nn : But gR W11 (World.setCell W11 ⟨gR, k * 3 + 2, none⟩ (.int .i64 lock)) := (But.refl gR _).setCell (p := ⟨gR, k * 3 + 2, none⟩) (.inl rfl) _
              have hgR : g ≠ gR := fun e => by
                have h8 := kg.blk
                rw [e, kR.blk] at h8
                have h9 : (52 : TypeId) = 25 := by injection h8 with h8; injection h8
                exact absurd h9 (by decide)
              have own : Own (World.setCell W11 ⟨gR, k * 3 + 2, none⟩ (.int .i64 lock)) B (some ⟨gR, 0, none⟩) m1 c1 _ (some ⟨gK, 0, none⟩) m2 c2 (L.set at_ ((⟨y.1.n, yo, y.1.q ++ [id]⟩, (A8, c8)) : Kw)) := ⟨rr, own_kind own.rl (grown_but nn) (fun g' e => by cases e; exact ⟨_, _, kR, by decide⟩), fun x hx => own_kind (own.q x hx) (grown_but nn) (fun g' e => by cases e; exact ⟨_, _, kR, by decide⟩), own.qd⟩
              have kg := nn.blk7 kg hgR
              have bx := bx.trans (nn.below B hBR hs)
              have hs := Nat.le_trans hs nn.size
              have J := hL.below bx hglB
              clear nn rr kR hgR
              rw [List.set_set] at own
              generalize World.setCell W11 ⟨gR, k * 3 + 2, none⟩ (.int .i64 lock) = W12 at own kg J bx hs ⊢
              refine hK.out _ _ J (fun _ => ?_)
              clear hK K
              try simp only [Act.put, List.getElem_toArray, List.getElem_cons_zero, List.getElem_cons_succ, List.setIfInBounds_toArray, List.set_cons_zero, List.set_cons_succ]
              refine wpAnyH_done (by kernel_rfl) ?_ _
              refine ⟨rfl, ?_⟩
              clear J hnR hkm
              have HBX := Lib.hid bx
              have HOW := Lib.hid own
              have HKG := Lib.hid kg
              clear bx own kg hs
              go_wp2_with fail
              go_ret
              refine ⟨by rw [HR4.out]; rfl, Bx.of HBX.out, (fun g e => by cases e; rw [HB2.out]; exact ko.below HBX.out hoB), fun _ => ?_⟩
              rw [HR4.out]
              have own := HOW.out
              have ho13 := HOK.out
              refine ⟨some ⟨gR, 0, none⟩, m1, c1, some ⟨gK, 0, none⟩, m2, c2, _, HKG.out, own.sc (by have := own.rr.len; rw [List.length_set] at this; have := ho13.r; omega) (by omega) (fun x hx => ?_), List.map_set, own.fro⟩
              obtain ⟨i, hi, rfl⟩ := List.getElem_of_mem hx
              have hi2 : i < L.length := by rw [List.length_set] at hi; exact hi
              rw [show (L.set at_ ((⟨y.1.n, yo, y.1.q ++ [id]⟩, (A8, c8)) : Kw))[i] = (L.set at_ ((⟨y.1.n, yo, y.1.q ++ [id]⟩, (A8, c8)) : Kw)).getD i kw0 by rw [List.getD_eq_getElem?_getD, List.getElem?_eq_getElem hi]; rfl, set_getD _ kw0 HAT.out]
              by_cases h : i = at_
              · rw [if_pos h]
                have := HQ4.out y.1 (by rw [← HY.out, ← fst_getD]; exact getD_memK _ (by rw [List.length_map]; exact HAT.out))
                rw [List.length_append]
                exact this
              · rw [if_neg h, ← fst_getD]
                exact ho13.q _ (getD_memK _ (by rw [List.length_map]; exact hi2))
            · try simp only [Act.put, List.getElem_toArray, List.getElem_cons_zero, List.getElem_cons_succ, List.setIfInBounds_toArray, List.set_cons_zero, List.set_cons_succ]
              go_simp
              have kb := Blk.new_ _ #[.int .i64 id] 3 hWz.symm
              have ba : Below WZ.heap.size WZ (WZ.alloc (.cells #[.int .i64 id] 3)) := (Below.refl _ _).alloc (Nat.le_refl _) _
              have kg := J.1.below ba J.1.lt
              have own := own.below ba (Nat.le_refl _)
              have bx := bx.trans (ba.mono hsz)
              have J := (⟨kg, hL.below bx hglB, hI.below bx hgiB⟩ : Blk (WZ.alloc (.cells #[.int .i64 id] 3)) g (scC (some ⟨gR, 0, none⟩) m1 c1 (some ⟨gK, 0, none⟩) m2 c2) 25 ∧ Blk (WZ.alloc (.cells #[.int .i64 id] 3)) gl #[.int .i64 lock] 3 ∧ Blk (WZ.alloc (.cells #[.int .i64 id] 3)) gi #[.int .i64 id] 3)
              have hsz := Nat.le_trans hsz ba.size
              clear kg
              show K _ (WZ.alloc (.cells #[.int .i64 id] 3))
              generalize WZ.alloc (.cells #[.int .i64 id] 3) = W8 at kb own J bx hsz ⊢
              rw [← hWz]
              clear ba hWz
              refine hK.out _ _ J (fun _ => ?_)
              clear hK K
              try simp only [Act.put, List.getElem_toArray, List.getElem_cons_zero, List.getElem_cons_succ, List.setIfInBounds_toArray, List.set_cons_zero, List.set_cons_succ]
              refine wpAnyH_ready (rs := [12]) (by kernel_rfl) (by simp) ?_
              refine AllReadyH.cons rfl (fun K hK => ?_) AllReadyH.nil
              try simp only [Act.put, List.getElem_toArray, List.getElem_cons_zero, List.getElem_cons_succ, List.setIfInBounds_toArray, List.set_cons_zero, List.set_cons_succ]
              have q0 := kcell (y := y) own.rl HAT.out HY.out
              go_simp
              clear q0
              refine hK.out _ _ J (fun _ => ?_)
              clear hK K
              try simp only [Act.put, List.getElem_toArray, List.getElem_cons_zero, List.getElem_cons_succ, List.setIfInBounds_toArray, List.set_cons_zero, List.set_cons_succ]
              refine wpAnyH_ready (rs := [15]) (by kernel_rfl) (by simp) ?_
              refine AllReadyH.cons rfl (fun K hK => ?_) AllReadyH.nil
              try simp only [Act.put, List.getElem_toArray, List.getElem_cons_zero, List.getElem_cons_succ, List.setIfInBounds_toArray, List.set_cons_zero, List.set_cons_succ]
              have ZY : Zo W8 B y.2.1 y.1.q.length y.2.2 y.1.q := by have := own.qk HAT.out; rw [HY.out] at this; exact this
              have hy9 : y.1.q.length + 1 ≤ 2000000 := by have := ZY.len; have := HQ4.out y.1 (by rw [← HY.out, ← fst_getD]; exact getD_memK _ (by rw [List.length_map]; exact HAT.out)); omega
              obtain ⟨A8, c8, W9, hrun, zo, hgr, bb, hown⟩ := run_app1Zq 40 B y.2.1 y.1.q.length y.2.2 y.1.q ZY id gb kb hy9 hsz
              have hrow : ∀ g', (Value.slice y.2.1 y.1.q.length y.2.2).ownBlock = some g' → ∃ cs t, Blk W8 g' cs t ∧ t = 3 := fun g' e => by obtain ⟨cur, k⟩ := zo_blk ZY e; exact ⟨cur, _, k, rfl⟩
              have rr := own_kind own.rr hgr (fun g' e => by obtain ⟨cs, t, k, rfl⟩ := hrow g' e; exact ⟨cs, _, k, by decide⟩)
              have rl := own_kind own.rl hgr (fun g' e => by obtain ⟨cs, t, k, rfl⟩ := hrow g' e; exact ⟨cs, _, k, by decide⟩)
              have zq : ∀ i, i < L.length → i ≠ at_ → Zo W9 B (L.getD i kw0).2.1 (L.getD i kw0).1.q.length (L.getD i kw0).2.2 (L.getD i kw0).1.q := fun i hi hne => zo_keep (own.qk hi) hgr (fun g' e e2 => own.qd i at_ hi HAT.out hne g' e (by rw [HY.out]; exact e2))
              have zo' : Zo W9 B A8 (y.1.q ++ [id]).length c8 (y.1.q ++ [id]) := by rw [List.length_append]; exact zo
              have hq : ∀ g', ownQ ((⟨y.1.n, yo, y.1.q ++ [id]⟩, (A8, c8)) : Kw) = some g' → ∀ j, j < L.length → j ≠ at_ → ownQ (L.getD j kw0) ≠ some g' := fun g' e j hj hne e2 => by
                have e3 : (Value.slice A8 (y.1.q.length + 1) c8).ownBlock = some g' := by have e4 := e; unfold ownQ at e4; rw [List.length_append] at e4; exact e4
                rcases hown with h | h
                · rw [h] at e3
                  exact own.qd at_ j HAT.out hj (fun e => hne e.symm) g' (by rw [HY.out]; exact e3) e2
                · rw [h] at e3
                  have h9 := ((own.qk hj).lt g' e2).2
                  have h10 := Option.some.inj e3
                  omega
              have kg : Blk W9 g (scC (some ⟨gR, 0, none⟩) m1 c1 (some ⟨gK, 0, none⟩) m2 c2) 25 := ⟨(hgr.block g J.1.lt (fun e => by
                obtain ⟨cs, t, k, rfl⟩ := hrow g e.symm
                have h8 := k.blk
                rw [J.1.blk] at h8
                have h9 : (25 : TypeId) = 3 := by injection h8 with h8; injection h8
                exact absurd h9 (by decide))).trans J.1.blk⟩
              have bx := bx.trans bb
              have J := (⟨kg, hL.below bx hglB, hI.below bx hgiB⟩ : Blk W9 g (scC (some ⟨gR, 0, none⟩) m1 c1 (some ⟨gK, 0, none⟩) m2 c2) 25 ∧ Blk W9 gl #[.int .i64 lock] 3 ∧ Blk W9 gi #[.int .i64 id] 3)
              have qd := own.qd
              have HA := Lib.hid (And.intro rr (And.intro rl (And.intro zq (And.intro zo' (And.intro qd hq)))))
              have HBX := Lib.hid bx
              have hs9 : B ≤ W9.heap.size := Nat.le_trans hsz bb.size
              clear rr rl zq zo' zo hq qd kg bb hown hrow hgr ZY own bx hy9 kb
              rw [if_pos (by rfl)]
              refine wp_op_app (.tmp 30) (.tmp 32) rfl rfl rfl hrun ?_
              clear hrun
              have bx := HBX.out
              obtain ⟨rr, rl, zq, zo, qd, hq⟩ := HA.out
              clear HA HBX
              refine hK.out _ _ J (fun _ => ?_)
              clear hK K
              try simp only [Act.put, List.getElem_toArray, List.getElem_cons_zero, List.getElem_cons_succ, List.setIfInBounds_toArray, List.set_cons_zero, List.set_cons_succ]
              refine wpAnyH_take (i := 16) (v := .pointer (some ⟨gK, at_ * 3, none⟩)) rfl (by kernel_rfl) (by kernel_rfl) (by kernel_rfl) (fun _ _ _ h => nomatch h.1) (.inl ⟨by rfl, fun V hV => by go_simp⟩) J ?_
              try simp only [Act.put, List.getElem_toArray, List.getElem_cons_zero, List.getElem_cons_succ, List.setIfInBounds_toArray, List.set_cons_zero, List.set_cons_succ]
              refine wpAnyH_take (i := 17) (v := .pointer (some ⟨gK, at_ * 3 + 2, none⟩)) rfl (by kernel_rfl) (by kernel_rfl) (by kernel_rfl) (fun _ _ _ h => nomatch h.1) (.inl ⟨by rfl, fun V hV => by go_simp⟩) J ?_
              try simp only [Act.put, List.getElem_toArray, List.getElem_cons_zero, List.getElem_cons_succ, List.setIfInBounds_toArray, List.set_cons_zero, List.set_cons_succ]
              refine wpAnyH_ready (rs := [18]) (by kernel_rfl) (by simp) ?_
              refine AllReadyH.cons rfl (fun K hK => ?_) AllReadyH.nil
              try simp only [Act.put, List.getElem_toArray, List.getElem_cons_zero, List.getElem_cons_succ, List.setIfInBounds_toArray, List.set_cons_zero, List.set_cons_succ]
              have q0 := kcell (y := y) rl HAT.out HY.out
              have f0 := World.ownsRow.frozenAt rl (at_ * 3 + 2)
              have HA := Lib.hid (And.intro rr (And.intro rl (And.intro zq (And.intro zo (And.intro qd hq)))))
              clear rr rl zq zo qd hq
              go_simp
              clear q0 f0
              obtain ⟨rr, rl, zq, zo, qd, hq⟩ := HA.out
              clear HA
              obtain ⟨curK, kK⟩ := roK_blk rl (show (Value.slice (some ⟨gK, 0, none⟩) m2 c2).ownBlock = some gK from rfl)
              have rl10 := RoK.cellSet (k := at_) (j := 2) (u := .slice A8 (y.1.q.length + 1) c8) (y := ((⟨y.1.n, yo, y.1.q ++ [id]⟩, (A8, c8)) : Kw)) rl HAT.out (by decide) (by rw [HY.out]; simp [kwC, HYO.out])
              have n18 : But gK W9 (W9.setCell ⟨gK, at_ * 3 + 2, none⟩ (.slice A8 (y.1.q.length + 1) c8)) := (But.refl gK W9).setCell (p := ⟨gK, at_ * 3 + 2, none⟩) (.inl rfl) _
              have own10 := own_turn HAT.out (own_kind rr (grown_but n18) (fun g' e => by cases e; exact ⟨_, _, kK, by decide⟩)) rl10 (fun i hi hne => own_kind (zq i hi hne) (grown_but n18) (fun g' e => by cases e; exact ⟨_, _, kK, by decide⟩)) (own_kind zo (grown_but n18) (fun g' e => by cases e; exact ⟨_, _, kK, by decide⟩)) qd hq
              have hgK : g ≠ gK := fun e => by
                have h8 := J.1.blk
                rw [e, kK.blk] at h8
                have h9 : (48 : TypeId) = 25 := by injection h8 with h8; injection h8
                exact absurd h9 (by decide)
              have kg := n18.blk7 J.1 hgK
              have bx := bx.trans (n18.below B HBK.out hs9)
              have hs10 : B ≤ (W9.setCell ⟨gK, at_ * 3 + 2, none⟩ (.slice A8 (y.1.q.length + 1) c8)).heap.size := Nat.le_trans hs9 n18.size
              have J := (⟨kg, hL.below bx hglB, hI.below bx hgiB⟩ : Blk (W9.setCell ⟨gK, at_ * 3 + 2, none⟩ (.slice A8 (y.1.q.length + 1) c8)) g (scC (some ⟨gR, 0, none⟩) m1 c1 (some ⟨gK, 0, none⟩) m2 c2) 25 ∧ Blk (W9.setCell ⟨gK, at_ * 3 + 2, none⟩ (.slice A8 (y.1.q.length + 1) c8)) gl #[.int .i64 lock] 3 ∧ Blk (W9.setCell ⟨gK, at_ * 3 + 2, none⟩ (.slice A8 (y.1.q.length + 1) c8)) gi #[.int .i64 id] 3)
              clear n18 rr rl zq zo qd hq rl10 kK kg
              generalize W9.setCell ⟨gK, at_ * 3 + 2, none⟩ (.slice A8 (y.1.q.length + 1) c8) = W10 at own10 J bx hs10 ⊢
              refine hK.out _ _ J (fun _ => ?_)
              clear hK K
              try simp only [Act.put, List.getElem_toArray, List.getElem_cons_zero, List.getElem_cons_succ, List.setIfInBounds_toArray, List.set_cons_zero, List.set_cons_succ]
              refine wpAnyH_done (by kernel_rfl) ?_ _
              refine ⟨rfl, ?_⟩
              have kg := J.1
              clear J
              go_wp2_with fail
              try simp only [Act.put]
              refine region_cutP ?_
              have bx : Below B V W10.drew := bx.drew
              have J : Blk W10.drew gl #[.int .i64 lock] 3 := hL.below bx hglB
              have kg := kg.drew
              have own : Own W10.drew B (some ⟨gR, 0, none⟩) m1 c1 R (some ⟨gK, 0, none⟩) m2 c2 (L.set at_ ((⟨y.1.n, yo, y.1.q ++ [id]⟩, (A8, c8)) : Kw)) := own10.below (Below.refl _ _).drew (Nat.le_refl _)
              have hs : B ≤ W10.drew.heap.size := Nat.le_trans hs10 (Below.refl 0 W10).drew.size
              refine wp_region_held_drew (S := (fun V' => Blk V' gl #[.int .i64 lock] 3)) (by kernel_rfl) J (fun _ => ?_)
              clear own10 hs10
              generalize W10.drew = WY at J kg own bx hs ⊢
              have hnR : ∀ g', (Value.slice (some ⟨gR, 0, none⟩) m1 c1).ownBlock = some g' → g' = gR := fun g' e => (Option.some.inj e).symm
              have hBR : B ≤ gR := (own.rr.lt gR rfl).1
              refine wpAnyH_take (i := 0) (v := .pointer (some ⟨gR, k * 3, none⟩)) rfl (by kernel_rfl) (by kernel_rfl) (by kernel_rfl) (fun _ _ _ h => nomatch h.1) (.inl ⟨by rfl, fun V hV => by go_simp⟩) J ?_
              try simp only [Act.put, List.getElem_toArray, List.getElem_cons_zero, List.getElem_cons_succ, List.setIfInBounds_toArray, List.set_cons_zero, List.set_cons_succ]
              refine wpAnyH_take (i := 1) (v := .pointer (some ⟨gR, k * 3, none⟩)) rfl (by kernel_rfl) (by kernel_rfl) (by kernel_rfl) (fun _ _ _ h => nomatch h.1) (.inl ⟨by rfl, fun V hV => by go_simp⟩) J ?_
              try simp only [Act.put, List.getElem_toArray, List.getElem_cons_zero, List.getElem_cons_succ, List.setIfInBounds_toArray, List.set_cons_zero, List.set_cons_succ]
              refine wpAnyH_take (i := 2) (v := .int .i64 lock) rfl (by kernel_rfl) (by kernel_rfl) (by kernel_rfl) (fun _ _ _ h => nomatch h.1) (.inl ⟨by rfl, fun V hV => by have cq : V.cell? ⟨gl, 0, none⟩ = some (.int .i64 lock) := hV.cell 0; go_simp⟩) J ?_
              try simp only [Act.put, List.getElem_toArray, List.getElem_cons_zero, List.getElem_cons_succ, List.setIfInBounds_toArray, List.set_cons_zero, List.set_cons_succ]
              refine wpAnyH_take (i := 3) (v := .pointer (some ⟨gR, k * 3, none⟩)) rfl (by kernel_rfl) (by kernel_rfl) (by kernel_rfl) (fun _ _ _ h => nomatch h.1) (.inl ⟨by rfl, fun V hV => by go_simp⟩) J ?_
              try simp only [Act.put, List.getElem_toArray, List.getElem_cons_zero, List.getElem_cons_succ, List.setIfInBounds_toArray, List.set_cons_zero, List.set_cons_succ]
              refine wpAnyH_take (i := 4) (v := .pointer (some ⟨gR, k * 3 + 1, none⟩)) rfl (by kernel_rfl) (by kernel_rfl) (by kernel_rfl) (fun _ _ _ h => nomatch h.1) (.inl ⟨by rfl, fun V hV => by go_simp⟩) J ?_
              try simp only [Act.put, List.getElem_toArray, List.getElem_cons_zero, List.getElem_cons_succ, List.setIfInBounds_toArray, List.set_cons_zero, List.set_cons_succ]
              refine wpAnyH_ready (rs := [5]) (by kernel_rfl) (by simp) ?_
              refine AllReadyH.cons rfl (fun K hK => ?_) AllReadyH.nil
              try simp only [Act.put, List.getElem_toArray, List.getElem_cons_zero, List.getElem_cons_succ, List.setIfInBounds_toArray, List.set_cons_zero, List.set_cons_succ]
              have q0 : World.cell? WY ⟨gR, k * 3 + 1, none⟩ = some (.int .i64 (R.getD k rn0).s) := by
                obtain ⟨_, _, e, _, hc⟩ := own.rr.rs k HX.out
                cases e
                have := hc 1 _ rfl
                rw [Nat.zero_add] at this
                exact this
              have f0 := World.ownsRow.frozenAt own.rr (k * 3 + 1)
              have HO := Lib.hid own
              clear own
              go_simp
              clear q0 f0
              have own := HO.out
              clear HO
              obtain ⟨curR, kR⟩ := roR_blk own.rr (show (Value.slice (some ⟨gR, 0, none⟩) m1 c1).ownBlock = some gR from rfl)
              have rr := RoR.cellSet (k := k) (j := 1) (u := .int .i64 1) (y := ⟨(R.getD k rn0).i, 1, (R.getD k rn0).n⟩) own.rr HX.out (by decide) (by simp [rnC])
              have nn : But gR WY (World.setCell WY ⟨gR, k * 3 + 1, none⟩ (.int .i64 1)) := (But.refl gR _).setCell (p := ⟨gR, k * 3 + 1, none⟩) (.inl rfl) _
              have hgR : g ≠ gR := fun e => by
                have h8 := kg.blk
                rw [e, kR.blk] at h8
                have h9 : (52 : TypeId) = 25 := by injection h8 with h8; injection h8
                exact absurd h9 (by decide)
              have own : Own (World.setCell WY ⟨gR, k * 3 + 1, none⟩ (.int .i64 1)) B (some ⟨gR, 0, none⟩) m1 c1 _ (some ⟨gK, 0, none⟩) m2 c2 (L.set at_ ((⟨y.1.n, yo, y.1.q ++ [id]⟩, (A8, c8)) : Kw)) := ⟨rr, own_kind own.rl (grown_but nn) (fun g' e => by cases e; exact ⟨_, _, kR, by decide⟩), fun x hx => own_kind (own.q x hx) (grown_but nn) (fun g' e => by cases e; exact ⟨_, _, kR, by decide⟩), own.qd⟩
              have kg := nn.blk7 kg hgR
              have bx := bx.trans (nn.below B hBR hs)
              have hs := Nat.le_trans hs nn.size
              have J := hL.below bx hglB
              clear nn rr kR hgR
              generalize World.setCell WY ⟨gR, k * 3 + 1, none⟩ (.int .i64 1) = W11 at own kg J bx hs ⊢
              refine hK.out _ _ J (fun _ => ?_)
              clear hK K
              try simp only [Act.put, List.getElem_toArray, List.getElem_cons_zero, List.getElem_cons_succ, List.setIfInBounds_toArray, List.set_cons_zero, List.set_cons_succ]
              refine wpAnyH_take (i := 6) (v := .pointer (some ⟨gR, k * 3, none⟩)) rfl (by kernel_rfl) (by kernel_rfl) (by kernel_rfl) (fun _ _ _ h => nomatch h.1) (.inl ⟨by rfl, fun V hV => by go_simp⟩) J ?_
              try simp only [Act.put, List.getElem_toArray, List.getElem_cons_zero, List.getElem_cons_succ, List.setIfInBounds_toArray, List.set_cons_zero, List.set_cons_succ]
              refine wpAnyH_take (i := 7) (v := .pointer (some ⟨gR, k * 3 + 2, none⟩)) rfl (by kernel_rfl) (by kernel_rfl) (by kernel_rfl) (fun _ _ _ h => nomatch h.1) (.inl ⟨by rfl, fun V hV => by go_simp⟩) J ?_
              try simp only [Act.put, List.getElem_toArray, List.getElem_cons_zero, List.getElem_cons_succ, List.setIfInBounds_toArray, List.set_cons_zero, List.set_cons_succ]
              refine wpAnyH_ready (rs := [8]) (by kernel_rfl) (by simp) ?_
              refine AllReadyH.cons rfl (fun K hK => ?_) AllReadyH.nil
              try simp only [Act.put, List.getElem_toArray, List.getElem_cons_zero, List.getElem_cons_succ, List.setIfInBounds_toArray, List.set_cons_zero, List.set_cons_succ]
              have q0 : World.cell? W11 ⟨gR, k * 3 + 2, none⟩ = some (.int .i64 (R.getD k rn0).n) := by
                obtain ⟨_, _, e, _, hc⟩ := own.rr.rs k (by rw [List.length_set]; exact HX.out)
                cases e
                have := hc 2 _ rfl
                rw [Nat.zero_add] at this
                rw [set_getD _ rn0 HX.out, if_pos rfl] at this; exact this
              have f0 := World.ownsRow.frozenAt own.rr (k * 3 + 2)
              have HO := Lib.hid own
              clear own
              go_simp
              clear q0 f0
              have own := HO.out
              clear HO
              obtain ⟨curR, kR⟩ := roR_blk own.rr (show (Value.slice (some ⟨gR, 0, none⟩) m1 c1).ownBlock = some gR from rfl)
              have rr := RoR.cellSet (k := k) (j := 2) (u := .int .i64 lock) (y := ⟨(R.getD k rn0).i, 1, lock⟩) own.rr (by rw [List.length_set]; exact HX.out) (by decide) (by rw [set_getD _ rn0 HX.out, if_pos rfl]; simp [rnC])
              have nn : But gR W11 (World.setCell W11 ⟨gR, k * 3 + 2, none⟩ (.int .i64 lock)) := (But.refl gR _).setCell (p := ⟨gR, k * 3 + 2, none⟩) (.inl rfl) _
              have hgR : g ≠ gR := fun e => by
                have h8 := kg.blk
                rw [e, kR.blk] at h8
                have h9 : (52 : TypeId) = 25 := by injection h8 with h8; injection h8
                exact absurd h9 (by decide)
              have own : Own (World.setCell W11 ⟨gR, k * 3 + 2, none⟩ (.int .i64 lock)) B (some ⟨gR, 0, none⟩) m1 c1 _ (some ⟨gK, 0, none⟩) m2 c2 (L.set at_ ((⟨y.1.n, yo, y.1.q ++ [id]⟩, (A8, c8)) : Kw)) := ⟨rr, own_kind own.rl (grown_but nn) (fun g' e => by cases e; exact ⟨_, _, kR, by decide⟩), fun x hx => own_kind (own.q x hx) (grown_but nn) (fun g' e => by cases e; exact ⟨_, _, kR, by decide⟩), own.qd⟩
              have kg := nn.blk7 kg hgR
              have bx := bx.trans (nn.below B hBR hs)
              have hs := Nat.le_trans hs nn.size
              have J := hL.below bx hglB
              clear nn rr kR hgR
              rw [List.set_set] at own
              generalize World.setCell W11 ⟨gR, k * 3 + 2, none⟩ (.int .i64 lock) = W12 at own kg J bx hs ⊢
              refine hK.out _ _ J (fun _ => ?_)
              clear hK K
              try simp only [Act.put, List.getElem_toArray, List.getElem_cons_zero, List.getElem_cons_succ, List.setIfInBounds_toArray, List.set_cons_zero, List.set_cons_succ]
              refine wpAnyH_done (by kernel_rfl) ?_ _
              refine ⟨rfl, ?_⟩
              clear J hnR hkm
              have HBX := Lib.hid bx
              have HOW := Lib.hid own
              have HKG := Lib.hid kg
              clear bx own kg hs
              go_wp2_with fail
              go_ret
              refine ⟨by rw [HR4.out]; rfl, Bx.of HBX.out, (fun g e => by cases e; rw [HB2.out]; exact ko.below HBX.out hoB), fun _ => ?_⟩
              rw [HR4.out]
              have own := HOW.out
              have ho13 := HOK.out
              refine ⟨some ⟨gR, 0, none⟩, m1, c1, some ⟨gK, 0, none⟩, m2, c2, _, HKG.out, own.sc (by have := own.rr.len; rw [List.length_set] at this; have := ho13.r; omega) (by omega) (fun x hx => ?_), List.map_set, own.fro⟩
              obtain ⟨i, hi, rfl⟩ := List.getElem_of_mem hx
              have hi2 : i < L.length := by rw [List.length_set] at hi; exact hi
              rw [show (L.set at_ ((⟨y.1.n, yo, y.1.q ++ [id]⟩, (A8, c8)) : Kw))[i] = (L.set at_ ((⟨y.1.n, yo, y.1.q ++ [id]⟩, (A8, c8)) : Kw)).getD i kw0 by rw [List.getD_eq_getElem?_getD, List.getElem?_eq_getElem hi]; rfl, set_getD _ kw0 HAT.out]
              by_cases h : i = at_
              · rw [if_pos h]
                have := HQ4.out y.1 (by rw [← HY.out, ← fst_getD]; exact getD_memK _ (by rw [List.length_map]; exact HAT.out))
                rw [List.length_append]
                exact this
              · rw [if_neg h, ← fst_getD]
                exact ho13.q _ (getD_memK _ (by rw [List.length_map]; exact hi2))
          · have bx := B9.mono hBV
            have F : r.2.2 = 231 ∧ Bx B (some go_) V W2 ∧ Ob W2 (some go_) bb1 ∧ (r.2.2 = 0 → ChO W2 B g r) := ⟨by rw [HR3.out, ho1]; rfl, Bx.of bx, (fun g e => by cases e; rw [HB2.out]; exact ko.below bx hoB), fun h => absurd h (by rw [HR3.out, ho1, if_pos rfl]; exact (by decide : ¬ (231 : Int) = 0))⟩
            have HF := Lib.hid F
            clear F bx B9 hkm
            go_wp2_with fail
            go_ret
            exact ⟨by rw [HF.out.1]; rfl, HF.out.2⟩
      · have F := HFIN.out 2 (by decide) (by rw [HR.out, h1, h2, h3]; rfl) (by rw [HB.out, h1, h2, h3]; rfl)
        have HF := Lib.hid F
        clear F HFIN
        go_wp2_with fail
        go_ret
        exact ⟨by rw [HF.out.1]; rfl, HF.out.2⟩
    · have F := HFIN.out 2 (by decide) (by rw [HR.out, h1, h2]; rfl) (by rw [HB.out, h1, h2]; rfl)
      have HF := Lib.hid F
      clear F HFIN
      go_wp2_with fail
      go_ret
      exact ⟨by rw [HF.out.1]; rfl, HF.out.2⟩
  · have F := HFIN.out 2 (by decide) (by rw [HR.out, h1]; rfl) (by rw [HB.out, h1]; rfl)
    have HF := Lib.hid F
    clear F HFIN
    go_wp2_with fail
    go_ret
    exact ⟨by rw [HF.out.1]; rfl, HF.out.2⟩
end Go.Proofs.Ytolalbpjaebfdaa
