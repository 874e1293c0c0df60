/-
  steps.Take.
-/
import Derived.Test.YtfohifnbohdbcaaScTa
namespace Go.Proofs.Ytfohifnbohdbcaa
open Go.RowKit Go.Shelf
set_option linter.unusedVariables false
set_option linter.unusedSimpArgs false

theorem riseT_len {t : Int} : ∀ {l : List Int} {p : Int}, p ≤ t → riseT t p l = true → (l.length : Int) ≤ t - p
  | [], p, h, _ => by simp; omega
  | x :: l, p, h, h2 => by
    rw [riseT, Bool.and_eq_true, Bool.and_eq_true, decide_eq_true_iff, decide_eq_true_iff] at h2
    obtain ⟨h3, h4, h5⟩ := h2
    have := riseT_len h4 h5
    rw [List.length_cons]
    omega
theorem lensK_mem : ∀ {L : List Kw} {x : Kw}, x ∈ L → x.1.q.length ≤ lensK L
  | [], x, h => by cases h
  | y :: L, x, h => by
    unfold lensK
    rw [List.map_cons, List.sum_cons]
    rcases List.mem_cons.1 h with rfl | h
    · omega
    · have := lensK_mem h
      unfold lensK at this
      omega
/-- A schedule that may be is small. -/
theorem schB_small {R : List Rn} {L : List Kw} (h : schB R L = true) : L.length ≤ 40 ∧ ∀ x ∈ L, x.1.q.length ≤ 8 := by
  unfold schB queB at h
  simp only [Bool.and_eq_true, decide_eq_true_iff, beq_iff_eq] at h
  obtain ⟨h1, _, h3, _, _, _, h7⟩ := h
  refine ⟨?_, fun x hx => ?_⟩
  · have := riseT_len (by decide) h3
    rw [show (numsK L).length = L.length by simp [numsK]] at this
    omega
  · have h8 := lensK_mem hx
    have h9 : R.countP waitB ≤ R.length := List.countP_le_length
    omega
theorem results_row_tmpQ {P : Program} {fn : Func} {p u v : Tmp} {ty : TypeId} (h : fn.results = #[.cell p ty, .tmp u, .tmp v]) (tmps : Array Value) (w : World) (g : Nat) (t : TypeId) (cs : Array Value) (d : TypeDesc)
    (hp : tmps.getD p undef = .pointer (some ⟨g, 0, none⟩)) (hg : Blk w g cs t)
    (hu : P.underlying ty = some d) (hd : (match d with | .struct _ | .array _ _ => true | _ => false) = true) (hi : (P.info? ty).map (·.size) = some cs.size) (x y : Value) (hx : tmps.getD u undef = x) (hy : tmps.getD v undef = y) :
    (results fn tmps).run P w = .ok (.tuple #[.agg cs, x, y]) w := by
  subst hx hy
  have hp' : tmps[p]?.getD undef = .pointer (some ⟨g, 0, none⟩) := by simpa using hp
  simp [results, h, hp', asAddr, run_loadVar_row w g t ty cs (0, 0) d hg.blk hu hd hi]
/-- What Take says. -/
def takeR (R : List Rn) (L : List Kw) (id lock : Int) : List Rn × List Kn × Int := chgS R L (ofF R id (takeF R (L.map (·.1)) (lessP (numsR R) id) id lock))
def takeO (R : List Rn) (L : List Kw) (id lock : Int) : Bool := if scE R L = 0 then (if livesB R id = true then takeB R (L.map (·.1)) (lessP (numsR R) id) lock else false) else false
theorem Bx.mono' {B B' o : Nat} {a b : World} (h : Bx B (some o) a b) (hB : B' ≤ B) (ho : B' ≤ o) : Below B' a b := ⟨h.os, h.tape, h.output, h.size, fun i hi => h.block i (Nat.lt_of_lt_of_le hi hB) (fun e => by have := Option.some.inj e; omega)⟩
set_option maxRecDepth 100000 in
set_option maxHeartbeats 8000000 in
theorem take_sc (A : Option Addr) (m c : Nat) (R : List Rn) (A2 : Option Addr) (m2 c2 : Nat) (L : List Kw) (id lock : Int) (w : World) (h : Sc w w.heap.size A m c R A2 m2 c2 L) :
    Calls Try.prog 18 #[scV A m c A2 m2 c2, .int .i64 id, .int .i64 lock] w fun e w' => ∃ v, e = .returned (.tuple #[v, .bool (takeO R L id lock), .int .i64 (takeR R L id lock).2.2]) ∧ ScR w' w.heap.size v (takeR R L id lock).1 (takeR R L id lock).2.1 ∧ Below w.heap.size w w' := by
  have e1 := ((((Blk.new w (scC A m c A2 m2 c2) 25).alloc (.cells #[.int .i64 id] 3)).alloc (.cells #[.int .i64 lock] 3)).alloc (.cells #[.slice none 0 0, .slice none 0 0] 25)).alloc (.cells #[.bool false] 4)
  have e2 := (((Blk.new_ (w.alloc (.cells (scC A m c A2 m2 c2) 25)) #[.int .i64 id] 3 (n := w.heap.size + 1) (by simp)).alloc (.cells #[.int .i64 lock] 3)).alloc (.cells #[.slice none 0 0, .slice none 0 0] 25)).alloc (.cells #[.bool false] 4)
  have e3 := ((Blk.new_ ((w.alloc (.cells (scC A m c A2 m2 c2) 25)).alloc (.cells #[.int .i64 id] 3)) #[.int .i64 lock] 3 (n := w.heap.size + 1 + 1) (by simp)).alloc (.cells #[.slice none 0 0, .slice none 0 0] 25)).alloc (.cells #[.bool false] 4)
  have e4 : Blk (((((w.alloc (.cells (scC A m c A2 m2 c2) 25)).alloc (.cells #[.int .i64 id] 3)).alloc (.cells #[.int .i64 lock] 3)).alloc (.cells #[.slice none 0 0, .slice none 0 0] 25)).alloc (.cells #[.bool false] 4)) (w.heap.size + 1 + 1 + 1) (scC none 0 0 none 0 0) 25 := (Blk.new_ _ _ _ (by simp)).alloc _
  have e5 : Blk (((((w.alloc (.cells (scC A m c A2 m2 c2) 25)).alloc (.cells #[.int .i64 id] 3)).alloc (.cells #[.int .i64 lock] 3)).alloc (.cells #[.slice none 0 0, .slice none 0 0] 25)).alloc (.cells #[.bool false] 4)) (w.heap.size + 1 + 1 + 1 + 1) #[.bool false] 4 := Blk.new_ _ _ _ (by simp)
  have B0 := (((((Below.refl w.heap.size w).alloc (Nat.le_refl _) (.cells (scC A m c A2 m2 c2) 25)).alloc (by simp) (.cells #[.int .i64 id] 3)).alloc (by simp; omega) (.cells #[.int .i64 lock] 3)).alloc (by simp; omega) (.cells #[.slice none 0 0, .slice none 0 0] 25)).alloc (by simp; omega) (.cells #[.bool false] 4)
  have hsz : w.heap.size + 1 + 1 + 1 + 1 < ((((((w.alloc (.cells (scC A m c A2 m2 c2) 25)).alloc (.cells #[.int .i64 id] 3)).alloc (.cells #[.int .i64 lock] 3)).alloc (.cells #[.slice none 0 0, .slice none 0 0] 25)).alloc (.cells #[.bool false] 4))).heap.size := e5.lt
  have CO := Lib.hid (changedOf_sc 49 #[.pointer (some ⟨w.heap.size + 1 + 1, 0, none⟩), .pointer (some ⟨w.heap.size + 1, 0, none⟩), .pointer (some ⟨w.heap.size + 1 + 1 + 1 + 1, 0, none⟩)] (fun V => Blk V (w.heap.size + 1 + 1) #[.int .i64 lock] 3 ∧ Blk V (w.heap.size + 1) #[.int .i64 id] 3) (some (w.heap.size + 1 + 1 + 1 + 1)) false (takeB R (L.map (·.1)) (lessP (numsR R) id) lock) A m c R A2 m2 c2 L id (takeF R (L.map (·.1)) (lessP (numsR R) id) id lock) _ (enters_of Try.func49 (by kernel_rfl) rfl) (h.on B0) (fun k e => by cases e; exact hsz) (fun g e => by cases e; exact e5) (fun V hV => ⟨e3.below hV e3.lt, e2.below hV e2.lt⟩) (fun V V' hV hb => ⟨hV.1.below hb hV.1.lt, hV.2.below hb hV.2.lt⟩) (fun hc hl => by
    have hs : schB R L = true := by rcases scE_or R L with ⟨_, h2⟩ | ⟨h1, _⟩ <;> first | exact h2 | omega
    obtain ⟨s1, s2⟩ := schB_small hs
    exact take1_sc (w.heap.size + 1 + 1 + 1 + 1) (w.heap.size + 1) (w.heap.size + 1 + 1) id lock R (L.map (·.1)) (okd_of h hc) (by rw [List.length_map]; omega) (fun x hx => by obtain ⟨y, hy, rfl⟩ := List.mem_map.1 hx; have := s2 y hy; omega) (by omega) (by omega) hl))
  unfold takeR takeO
  obtain ⟨r', hr'⟩ : ∃ r', r' = chgS R L (ofF R id (takeF R (L.map (·.1)) (lessP (numsR R) id) id lock)) := ⟨_, rfl⟩
  obtain ⟨b', hb'⟩ : ∃ b', b' = (if scE R L = 0 then (if livesB R id = true then takeB R (L.map (·.1)) (lessP (numsR R) id) lock else false) else false) := ⟨_, rfl⟩
  rw [← hr', ← hb'] at CO ⊢
  clear h hr' hb' e2 e3 e5
  unfold scV at *
  go_enter Try.func18, Try.ntmps18
  go_wp2_with (first
    | (refine wpList_load_row rfl 25 (.tmp 3) rfl w.heap.size rfl 25 (scC A m c A2 m2 c2) (0, 0) _ e1.blk Try.underlying25 rfl (sc_inf A m c A2 m2 c2) ?_)
    | (refine CO.out.mono ?_
       clear CO
       rintro e w1 ⟨v, rfl, ⟨A5, m5, c5, A6, m6, c6, L5, rfl, sc5, hn5, fr5⟩, bx, ob⟩
       have k41 := bx.blk e4 e4.lt (fun e => by have := Option.some.inj e; omega)
       have ko := ob _ rfl
       have b2 : Below w.heap.size w w1 := B0.trans (bx.mono' B0.size (by omega))
       have hs1 := bx.size
       have fr6 := fr5.down B0.size
       clear bx ob e1 e4 B0
       unfold scV)
    | (refine wpList_store_blk rfl 25 (.tmp 10) (.tmp 17) rfl w1.heap.size (scC none 0 0 none 0 0) (scC A5 m5 c5 A6 m6 c6) 25 rfl rfl (Blk.new _ _ _) rfl (sc_inf _ _ _ _ _ _) (sc_one _ _ _ _ _ _) ?_
       intro w2 kx nx
       have bb : Below w1.heap.size w1 w2 := ((Below.refl _ w1).alloc (Nat.le_refl _) _).trans (nx.below _ (Nat.le_refl _) (by simp))
       have k42 := k41.below bb k41.lt
       have ko2 := ko.below bb ko.lt
       have sc6 := sc5.on bb
       have b3 := b2.trans (bb.mono b2.size)
       clear bb nx ko k41 sc5 b2))
  try simp only [Act.put]
  refine region_cutP ?_
  have J := And.intro kx.drew ko2.drew
  have kr := k42.drew
  have sc7 := sc6.on (Below.refl _ w2).drew
  have b4 := b3.drew
  refine wp_region_held_drew (S := (fun V' => Blk V' w1.heap.size (scC A5 m5 c5 A6 m6 c6) 25 ∧ Blk V' (w.heap.size + 1 + 1 + 1 + 1) #[.bool b'] 4)) (by kernel_rfl) J (fun _ => ?_)
  clear kx ko2 k42 sc6 b3
  generalize w2.drew = WZ at J kr sc7 b4 ⊢
  refine wpAnyH_take (i := 0) (v := .agg (scC A5 m5 c5 A6 m6 c6)) rfl (by kernel_rfl) (by kernel_rfl) (by kernel_rfl) (fun _ _ _ h => nomatch h.1) (yieldsIf_blk (by rfl) 25 (.tmp 10) rfl w1.heap.size rfl (scC A5 m5 c5 A6 m6 c6) 25 _ (fun _ h => h.1) Try.underlying25 rfl (sc_inf _ _ _ _ _ _)) J ?_
  try simp only [Act.put, List.getElem_toArray, List.getElem_cons_zero, List.getElem_cons_succ, List.setIfInBounds_toArray, List.set_cons_zero, List.set_cons_succ]
  refine wpAnyH_take (i := 1) (v := .bool b') rfl (by kernel_rfl) (by kernel_rfl) (by kernel_rfl) (fun _ _ _ h => nomatch h.1) (.inl ⟨by rfl, fun V hV => by have cq : V.cell? ⟨w.heap.size + 1 + 1 + 1 + 1, 0, none⟩ = some (.bool b') := hV.2.cell 0; go_simp⟩) J ?_
  try simp only [Act.put, List.getElem_toArray, List.getElem_cons_zero, List.getElem_cons_succ, List.setIfInBounds_toArray, List.set_cons_zero, List.set_cons_succ]
  refine wpAnyH_take (i := 2) (v := .int .i64 r'.2.2) rfl (by kernel_rfl) (by kernel_rfl) (by kernel_rfl) (fun _ _ _ h => nomatch h.1) (.inl ⟨by rfl, fun V hV => by go_simp⟩) J ?_
  try simp only [Act.put, List.getElem_toArray, List.getElem_cons_zero, List.getElem_cons_succ, List.setIfInBounds_toArray, List.set_cons_zero, List.set_cons_succ]
  refine wpAnyH_ready (rs := [3]) (by kernel_rfl) (by simp) ?_
  refine AllReadyH.cons rfl (fun K hK => ?_) AllReadyH.nil
  try simp only [Act.put, List.getElem_toArray, List.getElem_cons_zero, List.getElem_cons_succ, List.setIfInBounds_toArray, List.set_cons_zero, List.set_cons_succ]
  rw [if_pos (by rfl)]
  refine wp_store_blk 25 (.tmp 6) (.tmp 19) rfl (w.heap.size + 1 + 1 + 1) (scC none 0 0 none 0 0) (scC A5 m5 c5 A6 m6 c6) 25 rfl rfl kr rfl (sc_inf _ _ _ _ _ _) (sc_one _ _ _ _ _ _) (fun W9 h9 n9 => ?_)
  have J := And.intro (n9.blk7 J.1 (by omega)) (n9.blk7 J.2 (by omega))
  have sc9 := sc7.off' fr5 n9 (by omega)
  have b9 := b4.trans (n9.below _ (by omega) b4.size)
  clear sc7 b4 kr n9
  refine hK.out _ _ J (fun _ => ?_)
  clear hK K
  try simp only [Act.put, List.getElem_toArray, List.getElem_cons_zero, List.getElem_cons_succ, List.setIfInBounds_toArray, List.set_cons_zero, List.set_cons_succ]
  refine wpAnyH_take (i := 4) (v := .bool b') rfl (by kernel_rfl) (by kernel_rfl) (by kernel_rfl) (fun _ _ _ h => nomatch h.1) (.inl ⟨by rfl, fun V hV => by go_simp⟩) J ?_
  try simp only [Act.put, List.getElem_toArray, List.getElem_cons_zero, List.getElem_cons_succ, List.setIfInBounds_toArray, List.set_cons_zero, List.set_cons_succ]
  refine wpAnyH_take (i := 5) (v := .int .i64 r'.2.2) rfl (by kernel_rfl) (by kernel_rfl) (by kernel_rfl) (fun _ _ _ h => nomatch h.1) (.inl ⟨by rfl, fun V hV => by go_simp⟩) J ?_
  try simp only [Act.put, List.getElem_toArray, List.getElem_cons_zero, List.getElem_cons_succ, List.setIfInBounds_toArray, List.set_cons_zero, List.set_cons_succ]
  refine wpAnyH_done (by kernel_rfl) ?_ _
  refine ⟨rfl, ?_⟩
  clear J
  go_wp2_with fail
  refine bodyPost_ret (results_row_tmpQ rfl _ _ (w.heap.size + 1 + 1 + 1) 25 (scC A5 m5 c5 A6 m6 c6) _ rfl h9 Try.underlying25 rfl (sc_inf _ _ _ _ _ _) _ _ rfl rfl) rfl ?_
  exact ⟨_, rfl, ⟨A5, m5, c5, A6, m6, c6, L5, rfl, sc9, hn5, fr6⟩, b9⟩
end Go.Proofs.Ytfohifnbohdbcaa
