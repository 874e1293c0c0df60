/-
  law13.copied.
-/
import Derived.Test.YtolalbpjaebfdaaQScTa
import Derived.Test.YtolalbpjaebfdaaQScZ
import Derived.Test.YtolalbpjaebfdaaQScRs
import Derived.Test.YtolalbpjaebfdaaQShift
namespace Go.Proofs.Ytolalbpjaebfdaa
open Go.RowKit Go.Shelf
set_option linter.unusedVariables false
set_option linter.unusedSimpArgs false
theorem riseT_len {t : Int} : ∀ {l : List Int} {p : Int}, p ≤ t → riseT t p l = true → (l.length : Int) ≤ t - p
  | [], p, h, _ => by simp; omega
  | x :: l, p, h, h2 => by
    rw [riseT, Bool.and_eq_true, Bool.and_eq_true, decide_eq_true_iff, decide_eq_true_iff] at h2
    obtain ⟨h3, h4, h5⟩ := h2
    have := riseT_len h4 h5
    rw [List.length_cons]
    omega
theorem lensK_mem : ∀ {L : List Kw} {x : Kw}, x ∈ L → x.1.q.length ≤ lensK L
  | [], x, h => by cases h
  | y :: L, x, h => by
    unfold lensK
    rw [List.map_cons, List.sum_cons]
    rcases List.mem_cons.1 h with rfl | h
    · omega
    · have := lensK_mem h
      unfold lensK at this
      omega
theorem schB_small {R : List Rn} {L : List Kw} (h : schB R L = true) : L.length ≤ 40 ∧ ∀ x ∈ L, x.1.q.length ≤ 8 := by
  unfold schB queB at h
  simp only [Bool.and_eq_true, decide_eq_true_iff, beq_iff_eq] at h
  obtain ⟨h1, _, h3, _, _, _, h7⟩ := h
  refine ⟨?_, fun x hx => ?_⟩
  · have := riseT_len (by decide) h3
    rw [show (numsK L).length = L.length by simp [numsK]] at this
    omega
  · have h8 := lensK_mem hx
    have h9 : R.countP waitB ≤ R.length := List.countP_le_length
    omega
theorem results_row_tmpQ {P : Program} {fn : Func} {p u v : Tmp} {ty : TypeId} (h : fn.results = #[.cell p ty, .tmp u, .tmp v]) (tmps : Array Value) (w : World) (g : Nat) (t : TypeId) (cs : Array Value) (d : TypeDesc)
    (hp : tmps.getD p undef = .pointer (some ⟨g, 0, none⟩)) (hg : Blk w g cs t)
    (hu : P.underlying ty = some d) (hd : (match d with | .struct _ | .array _ _ => true | _ => false) = true) (hi : (P.info? ty).map (·.size) = some cs.size) (x y : Value) (hx : tmps.getD u undef = x) (hy : tmps.getD v undef = y) :
    (results fn tmps).run P w = .ok (.tuple #[.agg cs, x, y]) w := by
  subst hx hy
  have hp' : tmps[p]?.getD undef = .pointer (some ⟨g, 0, none⟩) := by simpa using hp
  simp [results, h, hp', asAddr, run_loadVar_row w g t ty cs (0, 0) d hg.blk hu hd hi]
def takeR (R : List Rn) (L : List Kw) (id lock : Int) : List Rn × List Kn × Int := chgS R L (ofF R id (takeF R (L.map (·.1)) (lessP (numsR R) id) id lock))
def takeO (R : List Rn) (L : List Kw) (id lock : Int) : Bool := if scE R L = 0 then (if livesB R id = true then takeB R (L.map (·.1)) (lessP (numsR R) id) lock else false) else false
theorem Bx.mono' {B B' o : Nat} {a b : World} (h : Bx B (some o) a b) (hB : B' ≤ B) (ho : B' ≤ o) : Below B' a b := ⟨h.os, h.tape, h.output, h.size, fun i hi => h.block i (Nat.lt_of_lt_of_le hi hB) (fun e => by have := Option.some.inj e; omega)⟩
set_option maxRecDepth 100000 in
set_option maxHeartbeats 8000000 in
theorem take_sc (A : Option Addr) (m c : Nat) (R : List Rn) (A2 : Option Addr) (m2 c2 : Nat) (L : List Kw) (id lock : Int) (w : World) (h : Sc w w.heap.size A m c R A2 m2 c2 L) :
    Calls Try.prog 18 #[scV A m c A2 m2 c2, .int .i64 id, .int .i64 lock] w fun e w' => ∃ v, e = .returned (.tuple #[v, .bool (takeO R L id lock), .int .i64 (takeR R L id lock).2.2]) ∧ ScR w' w.heap.size v (takeR R L id lock).1 (takeR R L id lock).2.1 ∧ Below w.heap.size w w' := by
  have e1 := ((((Blk.new w (scC A m c A2 m2 c2) 25).alloc (.cells #[.int .i64 id] 3)).alloc (.cells #[.int .i64 lock] 3)).alloc (.cells #[.slice none 0 0, .slice none 0 0] 25)).alloc (.cells #[.bool false] 4)
  have e2 := (((Blk.new_ (w.alloc (.cells (scC A m c A2 m2 c2) 25)) #[.int .i64 id] 3 (n := w.heap.size + 1) (by simp)).alloc (.cells #[.int .i64 lock] 3)).alloc (.cells #[.slice none 0 0, .slice none 0 0] 25)).alloc (.cells #[.bool false] 4)
  have e3 := ((Blk.new_ ((w.alloc (.cells (scC A m c A2 m2 c2) 25)).alloc (.cells #[.int .i64 id] 3)) #[.int .i64 lock] 3 (n := w.heap.size + 1 + 1) (by simp)).alloc (.cells #[.slice none 0 0, .slice none 0 0] 25)).alloc (.cells #[.bool false] 4)
  have e4 : Blk (((((w.alloc (.cells (scC A m c A2 m2 c2) 25)).alloc (.cells #[.int .i64 id] 3)).alloc (.cells #[.int .i64 lock] 3)).alloc (.cells #[.slice none 0 0, .slice none 0 0] 25)).alloc (.cells #[.bool false] 4)) (w.heap.size + 1 + 1 + 1) (scC none 0 0 none 0 0) 25 := (Blk.new_ _ _ _ (by simp)).alloc _
  have e5 : Blk (((((w.alloc (.cells (scC A m c A2 m2 c2) 25)).alloc (.cells #[.int .i64 id] 3)).alloc (.cells #[.int .i64 lock] 3)).alloc (.cells #[.slice none 0 0, .slice none 0 0] 25)).alloc (.cells #[.bool false] 4)) (w.heap.size + 1 + 1 + 1 + 1) #[.bool false] 4 := Blk.new_ _ _ _ (by simp)
  have B0 := (((((Below.refl w.heap.size w).alloc (Nat.le_refl _) (.cells (scC A m c A2 m2 c2) 25)).alloc (by simp) (.cells #[.int .i64 id] 3)).alloc (by simp; omega) (.cells #[.int .i64 lock] 3)).alloc (by simp; omega) (.cells #[.slice none 0 0, .slice none 0 0] 25)).alloc (by simp; omega) (.cells #[.bool false] 4)
  have hsz : w.heap.size + 1 + 1 + 1 + 1 < ((((((w.alloc (.cells (scC A m c A2 m2 c2) 25)).alloc (.cells #[.int .i64 id] 3)).alloc (.cells #[.int .i64 lock] 3)).alloc (.cells #[.slice none 0 0, .slice none 0 0] 25)).alloc (.cells #[.bool false] 4))).heap.size := e5.lt
  have CO := Lib.hid (changedOf_sc 0 49 #[.pointer (some ⟨w.heap.size + 1 + 1, 0, none⟩), .pointer (some ⟨w.heap.size + 1, 0, none⟩), .pointer (some ⟨w.heap.size + 1 + 1 + 1 + 1, 0, none⟩)] (fun V => Blk V (w.heap.size + 1 + 1) #[.int .i64 lock] 3 ∧ Blk V (w.heap.size + 1) #[.int .i64 id] 3) (some (w.heap.size + 1 + 1 + 1 + 1)) false (takeB R (L.map (·.1)) (lessP (numsR R) id) lock) A m c R A2 m2 c2 L id (takeF R (L.map (·.1)) (lessP (numsR R) id) id lock) _ (enters_of Try.func49 (by kernel_rfl) rfl) (h.on B0) (fun k e => by cases e; exact hsz) (fun g e => by cases e; exact e5) (Nat.zero_le _) (fun V hV => ⟨e3.below hV e3.lt, e2.below hV e2.lt⟩) (fun V V' hV hb => ⟨hV.1.below hb hV.1.lt, hV.2.below hb hV.2.lt⟩) (fun hc hl => by
    have hs : schB R L = true := by rcases scE_or R L with ⟨_, h2⟩ | ⟨h1, _⟩ <;> first | exact h2 | omega
    obtain ⟨s1, s2⟩ := schB_small hs
    exact take1_sc (w.heap.size + 1 + 1 + 1 + 1) (w.heap.size + 1) (w.heap.size + 1 + 1) id lock R (L.map (·.1)) (okd_of h hc) (by rw [List.length_map]; omega) (fun x hx => by obtain ⟨y, hy, rfl⟩ := List.mem_map.1 hx; have := s2 y hy; omega) (by omega) (by omega) hl))
  unfold takeR takeO
  obtain ⟨r', hr'⟩ : ∃ r', r' = chgS R L (ofF R id (takeF R (L.map (·.1)) (lessP (numsR R) id) id lock)) := ⟨_, rfl⟩
  obtain ⟨b', hb'⟩ : ∃ b', b' = (if scE R L = 0 then (if livesB R id = true then takeB R (L.map (·.1)) (lessP (numsR R) id) lock else false) else false) := ⟨_, rfl⟩
  rw [← hr', ← hb'] at CO ⊢
  clear h hr' hb' e2 e3 e5
  unfold scV at *
  go_enter Try.func18, Try.ntmps18
  go_wp2_with (first
    | (refine wpList_load_row rfl 25 (.tmp 3) rfl w.heap.size rfl 25 (scC A m c A2 m2 c2) (0, 0) _ e1.blk Try.underlying25 rfl (sc_inf A m c A2 m2 c2) ?_)
    | (refine CO.out.mono ?_
       clear CO
       rintro e w1 ⟨v, rfl, ⟨A5, m5, c5, A6, m6, c6, L5, rfl, sc5, hn5, fr5⟩, bx, ob⟩
       have k41 := bx.blk e4 e4.lt (fun e => by have := Option.some.inj e; omega)
       have ko := ob _ rfl
       have b2 : Below w.heap.size w w1 := B0.trans (bx.mono' B0.size (by omega))
       have hs1 := bx.size
       have fr6 := fr5.down B0.size
       clear bx ob e1 e4 B0
       unfold scV)
    | (refine wpList_store_blk rfl 25 (.tmp 10) (.tmp 17) rfl w1.heap.size (scC none 0 0 none 0 0) (scC A5 m5 c5 A6 m6 c6) 25 rfl rfl (Blk.new _ _ _) rfl (sc_inf _ _ _ _ _ _) (sc_one _ _ _ _ _ _) ?_
       intro w2 kx nx
       have bb : Below w1.heap.size w1 w2 := ((Below.refl _ w1).alloc (Nat.le_refl _) _).trans (nx.below _ (Nat.le_refl _) (by simp))
       have k42 := k41.below bb k41.lt
       have ko2 := ko.below bb ko.lt
       have sc6 := sc5.on bb
       have b3 := b2.trans (bb.mono b2.size)
       clear bb nx ko k41 sc5 b2))
  try simp only [Act.put]
  refine region_cutP ?_
  have J := And.intro kx.drew ko2.drew
  have kr := k42.drew
  have sc7 := sc6.on (Below.refl _ w2).drew
  have b4 := b3.drew
  refine wp_region_held_drew (S := (fun V' => Blk V' w1.heap.size (scC A5 m5 c5 A6 m6 c6) 25 ∧ Blk V' (w.heap.size + 1 + 1 + 1 + 1) #[.bool b'] 4)) (by kernel_rfl) J (fun _ => ?_)
  clear kx ko2 k42 sc6 b3
  generalize w2.drew = WZ at J kr sc7 b4 ⊢
  refine wpAnyH_take (i := 0) (v := .agg (scC A5 m5 c5 A6 m6 c6)) rfl (by kernel_rfl) (by kernel_rfl) (by kernel_rfl) (fun _ _ _ h => nomatch h.1) (yieldsIf_blk (by rfl) 25 (.tmp 10) rfl w1.heap.size rfl (scC A5 m5 c5 A6 m6 c6) 25 _ (fun _ h => h.1) Try.underlying25 rfl (sc_inf _ _ _ _ _ _)) J ?_
  try simp only [Act.put, List.getElem_toArray, List.getElem_cons_zero, List.getElem_cons_succ, List.setIfInBounds_toArray, List.set_cons_zero, List.set_cons_succ]
  refine wpAnyH_take (i := 1) (v := .bool b') rfl (by kernel_rfl) (by kernel_rfl) (by kernel_rfl) (fun _ _ _ h => nomatch h.1) (.inl ⟨by rfl, fun V hV => by have cq : V.cell? ⟨w.heap.size + 1 + 1 + 1 + 1, 0, none⟩ = some (.bool b') := hV.2.cell 0; go_simp⟩) J ?_
  try simp only [Act.put, List.getElem_toArray, List.getElem_cons_zero, List.getElem_cons_succ, List.setIfInBounds_toArray, List.set_cons_zero, List.set_cons_succ]
  refine wpAnyH_take (i := 2) (v := .int .i64 r'.2.2) rfl (by kernel_rfl) (by kernel_rfl) (by kernel_rfl) (fun _ _ _ h => nomatch h.1) (.inl ⟨by rfl, fun V hV => by go_simp⟩) J ?_
  try simp only [Act.put, List.getElem_toArray, List.getElem_cons_zero, List.getElem_cons_succ, List.setIfInBounds_toArray, List.set_cons_zero, List.set_cons_succ]
  refine wpAnyH_ready (rs := [3]) (by kernel_rfl) (by simp) ?_
  refine AllReadyH.cons rfl (fun K hK => ?_) AllReadyH.nil
  try simp only [Act.put, List.getElem_toArray, List.getElem_cons_zero, List.getElem_cons_succ, List.setIfInBounds_toArray, List.set_cons_zero, List.set_cons_succ]
  rw [if_pos (by rfl)]
  refine wp_store_blk 25 (.tmp 6) (.tmp 19) rfl (w.heap.size + 1 + 1 + 1) (scC none 0 0 none 0 0) (scC A5 m5 c5 A6 m6 c6) 25 rfl rfl kr rfl (sc_inf _ _ _ _ _ _) (sc_one _ _ _ _ _ _) (fun W9 h9 n9 => ?_)
  have J := And.intro (n9.blk7 J.1 (by omega)) (n9.blk7 J.2 (by omega))
  have sc9 := sc7.off' fr5 n9 (by omega)
  have b9 := b4.trans (n9.below _ (by omega) b4.size)
  clear sc7 b4 kr n9
  refine hK.out _ _ J (fun _ => ?_)
  clear hK K
  try simp only [Act.put, List.getElem_toArray, List.getElem_cons_zero, List.getElem_cons_succ, List.setIfInBounds_toArray, List.set_cons_zero, List.set_cons_succ]
  refine wpAnyH_take (i := 4) (v := .bool b') rfl (by kernel_rfl) (by kernel_rfl) (by kernel_rfl) (fun _ _ _ h => nomatch h.1) (.inl ⟨by rfl, fun V hV => by go_simp⟩) J ?_
  try simp only [Act.put, List.getElem_toArray, List.getElem_cons_zero, List.getElem_cons_succ, List.setIfInBounds_toArray, List.set_cons_zero, List.set_cons_succ]
  refine wpAnyH_take (i := 5) (v := .int .i64 r'.2.2) rfl (by kernel_rfl) (by kernel_rfl) (by kernel_rfl) (fun _ _ _ h => nomatch h.1) (.inl ⟨by rfl, fun V hV => by go_simp⟩) J ?_
  try simp only [Act.put, List.getElem_toArray, List.getElem_cons_zero, List.getElem_cons_succ, List.setIfInBounds_toArray, List.set_cons_zero, List.set_cons_succ]
  refine wpAnyH_done (by kernel_rfl) ?_ _
  refine ⟨rfl, ?_⟩
  clear J
  go_wp2_with fail
  refine bodyPost_ret (results_row_tmpQ rfl _ _ (w.heap.size + 1 + 1 + 1) 25 (scC A5 m5 c5 A6 m6 c6) _ rfl h9 Try.underlying25 rfl (sc_inf _ _ _ _ _ _) _ _ rfl rfl) rfl ?_
  exact ⟨_, rfl, ⟨A5, m5, c5, A6, m6, c6, L5, rfl, sc9, hn5, fr6⟩, b9⟩
end Go.Proofs.Ytolalbpjaebfdaa
namespace Go.Proofs.Ytolalbpjaebfdaa
open Go.RowKit Go.Shelf
set_option linter.unusedVariables false
set_option linter.unusedSimpArgs false
theorem blk_range {w : World} {g : Nat} {cs : Array Value} {t : TypeId} (k : Blk w g cs t) : w.rangeAt g 0 cs.toList := fun j v hv => by
  rw [Nat.zero_add, k.cell j, ← Array.getElem?_toList]
  exact hv
structure WkS (w : World) (g : Nat) (R : List Rn) (K : List Kn) (A : Option Addr) (m c : Nat) (A2 : Option Addr) (m2 c2 : Nat) (L : List Kw) (V : World) : Prop where
  b : Below w.heap.size w V
  s : w.heap.size ≤ g
  k : Blk V g (scC A m c A2 m2 c2) 25
  sc : Sc V V.heap.size A m c R A2 m2 c2 L
  h : L.map (·.1) = K
theorem WkS.first {w w1 w2 : World} {R : List Rn} {K : List Kn} {A A2 : Option Addr} {m c m2 c2 : Nat} {L : List Kw} {cs : Array Value} (b : Below w.heap.size w w1) (sc : Sc w1 w1.heap.size A m c R A2 m2 c2 L) (h : L.map (·.1) = K)
    (k : Blk w2 w1.heap.size (scC A m c A2 m2 c2) 25) (n : But w1.heap.size (w1.alloc (.cells cs 25)) w2) : WkS w w1.heap.size R K A m c A2 m2 c2 L w2 := by
  have bb : Below w1.heap.size w1 w2 := ((Below.refl _ w1).alloc (Nat.le_refl _) _).trans (n.below _ (Nat.le_refl _) (by simp))
  exact ⟨b.trans (bb.mono b.size), b.size, k, sc.on bb, h⟩
theorem WkS.next {w w1 w2 w3 : World} {g : Nat} {R R' : List Rn} {K K' : List Kn} {A A2 A' A2' : Option Addr} {m c m2 c2 m' c' m2' c2' : Nat} {L L' : List Kw} (J : WkS w g R K A m c A2 m2 c2 L w1) (b : Below w1.heap.size w1 w2) (sc : Sc w2 w2.heap.size A' m' c' R' A2' m2' c2' L') (fr : Fro w1.heap.size A' A2' L') (h : L'.map (·.1) = K')
    (k : Blk w3 g (scC A' m' c' A2' m2' c2') 25) (n : But g w2 w3) : WkS w g R' K' A' m' c' A2' m2' c2' L' w3 := by
  have h1 := J.b.trans (b.mono J.b.size)
  exact ⟨h1.trans (n.below _ J.s h1.size), J.s, k, sc.off' fr n J.k.lt, h⟩
theorem wk_nil {L : List Kw} (h : L.map (·.1) = []) : L = [] := List.map_eq_nil_iff.1 h
theorem wk_one {L : List Kw} {x : Kn} (h : L.map (·.1) = [x]) : ∃ a, L = [(x, a)] := by
  rcases L with _ | ⟨⟨y, a⟩, _ | ⟨z, l⟩⟩
  · cases h
  · simp at h; exact ⟨a, by rw [h]⟩
  · simp at h
theorem wk_e1 : chgS [] [] (addF [] [] 1) = ([⟨1, 0, 0⟩], [], 0) := by rfl
theorem wk_e2 : chgS [⟨1, 0, 0⟩] [] (addF [⟨1, 0, 0⟩] [] 2) = ([⟨1, 0, 0⟩, ⟨2, 0, 0⟩], [], 0) := by rfl
theorem wk_e3 : takeR [⟨1, 0, 0⟩, ⟨2, 0, 0⟩] [] 1 7 = ([⟨1, 0, 0⟩, ⟨2, 0, 0⟩], [⟨7, 1, []⟩], 0) := by rfl
theorem wk_o3 : takeO [⟨1, 0, 0⟩, ⟨2, 0, 0⟩] [] 1 7 = true := by rfl
theorem wk_e4 (a : Option Addr × Nat) : takeR [⟨1, 0, 0⟩, ⟨2, 0, 0⟩] [(⟨7, 1, []⟩, a)] 2 7 = ([⟨1, 0, 0⟩, ⟨2, 1, 7⟩], [⟨7, 1, [2]⟩], 0) := by rfl
theorem wk_o4 (a : Option Addr × Nat) : takeO [⟨1, 0, 0⟩, ⟨2, 0, 0⟩] [(⟨7, 1, []⟩, a)] 2 7 = false := by rfl
theorem wk_r (a : Option Addr × Nat) : rdyA [⟨1, 0, 0⟩, ⟨2, 1, 7⟩] [(⟨7, 1, [2]⟩, a)] = [1] := by rfl
theorem wk_w (a : Option Addr × Nat) : ownerA [⟨1, 0, 0⟩, ⟨2, 1, 7⟩] [(⟨7, 1, [2]⟩, a)] 7 = 1 := by rfl
set_option maxRecDepth 100000 in
set_option maxHeartbeats 8000000 in
theorem wakes13_any (w : World) : Calls Try.prog 8 #[] w fun e w' => e = .returned (.bool true) ∧ Below w.heap.size w w' := by
  have C1 := add_sc none 0 0 [] none 0 0 [] 1 w (sc_nil w w.heap.size 0 0 none none)
  rw [show ([] : List Kw).map (·.1) = [] from rfl, wk_e1] at C1
  have H1 := Lib.hid C1
  clear C1
  unfold scV at H1
  go_enter Try.func8, Try.ntmps8
  go_wp2_with (first
    | (refine H1.out.mono ?_
       clear H1
       rintro e w1 ⟨v, rfl, ⟨A5, m5, c5, A6, m6, c6, L5, rfl, sc5, hn5, fr5⟩, bb⟩
       unfold scV)
    | (refine wpList_store_blk rfl 25 (.tmp 1) (.tmp 12) rfl w1.heap.size (scC none 0 0 none 0 0) (scC A5 m5 c5 A6 m6 c6) 25 rfl rfl (Blk.new _ _ _) rfl (sc_inf _ _ _ _ _ _) (sc_one _ _ _ _ _ _) ?_
       intro w2 k2 n2
       have J1 := WkS.first bb sc5 hn5 k2 n2
       obtain rfl := wk_nil hn5
       clear bb sc5 hn5 k2 n2 fr5
       generalize w1.heap.size = g at J1 ⊢
       have C2 := add_sc A5 m5 c5 [⟨1, 0, 0⟩] A6 m6 c6 [] 2 w2 J1.sc
       rw [show ([] : List Kw).map (·.1) = [] from rfl, wk_e2] at C2
       have H2 := Lib.hid C2
       clear C2
       unfold scV at H2)
    | (refine wpList_load_row rfl 25 (.tmp 1) rfl g rfl 25 (scC A5 m5 c5 A6 m6 c6) (0, 0) _ J1.k.blk Try.underlying25 rfl (sc_inf _ _ _ _ _ _) ?_)
    | (refine H2.out.mono ?_
       clear H2
       rintro e w3 ⟨v, rfl, ⟨B5, n5, d5, B6, n6, d6, L6, rfl, sc6, hn6, fr6⟩, b3⟩
       have kk := J1.k.below b3 J1.k.lt
       unfold scV)
    | (refine wpList_store_blk rfl 25 (.tmp 1) (.tmp 17) rfl g (scC A5 m5 c5 A6 m6 c6) (scC B5 n5 d5 B6 n6 d6) 25 rfl rfl kk rfl (sc_inf _ _ _ _ _ _) (sc_one _ _ _ _ _ _) ?_
       intro w4 k4 n4
       have J2 := J1.next b3 sc6 fr6 hn6 k4 n4
       obtain rfl := wk_nil hn6
       clear b3 sc6 fr6 hn6 k4 n4 kk J1
       have C3 := take_sc B5 n5 d5 [⟨1, 0, 0⟩, ⟨2, 0, 0⟩] B6 n6 d6 [] 1 7 w4 J2.sc
       rw [wk_e3, wk_o3] at C3
       have H3 := Lib.hid C3
       clear C3
       unfold scV at H3)
    | (refine wpList_load_row rfl 25 (.tmp 1) rfl g rfl 25 (scC B5 n5 d5 B6 n6 d6) (0, 0) _ J2.k.blk Try.underlying25 rfl (sc_inf _ _ _ _ _ _) ?_)
    | (refine H3.out.mono ?_
       clear H3
       rintro e w5 ⟨v, rfl, ⟨E5, p5, f5, E6, p6, f6, L7, rfl, sc7, hn7, fr7⟩, b5⟩
       have kk := J2.k.below b5 J2.k.lt
       unfold scV)
    | (refine wpList_store_blk rfl 25 (.tmp 1) (.tmp 22) rfl g (scC B5 n5 d5 B6 n6 d6) (scC E5 p5 f5 E6 p6 f6) 25 rfl rfl kk rfl (sc_inf _ _ _ _ _ _) (sc_one _ _ _ _ _ _) ?_
       intro w6 k6 n6'
       have J3 := J2.next b5 sc7 fr7 hn7 k6 n6'
       obtain ⟨a7, rfl⟩ := wk_one hn7
       clear b5 sc7 fr7 hn7 k6 n6' kk J2
       have C4 := take_sc E5 p5 f5 [⟨1, 0, 0⟩, ⟨2, 0, 0⟩] E6 p6 f6 [(⟨7, 1, []⟩, a7)] 2 7 w6 J3.sc
       rw [wk_e4, wk_o4] at C4
       have H4 := Lib.hid C4
       clear C4
       unfold scV at H4)
    | (refine wpList_load_row rfl 25 (.tmp 1) rfl g rfl 25 (scC E5 p5 f5 E6 p6 f6) (0, 0) _ J3.k.blk Try.underlying25 rfl (sc_inf _ _ _ _ _ _) ?_)
    | (refine H4.out.mono ?_
       clear H4
       rintro e w7 ⟨v, rfl, ⟨G5, q5, h5, G6, q6, h6, L8, rfl, sc8, hn8, fr8⟩, b7⟩
       have kk := J3.k.below b7 J3.k.lt
       unfold scV)
    | (refine wpList_store_blk rfl 25 (.tmp 1) (.tmp 28) rfl g (scC E5 p5 f5 E6 p6 f6) (scC G5 q5 h5 G6 q6 h6) 25 rfl rfl kk rfl (sc_inf _ _ _ _ _ _) (sc_one _ _ _ _ _ _) ?_
       intro w8 k8 n8
       have J4 := J3.next b7 sc8 fr8 hn8 k8 n8
       obtain ⟨a8, rfl⟩ := wk_one hn8
       clear b7 sc8 fr8 hn8 k8 n8 kk J3
       have C5 := ready_sc G5 q5 h5 [⟨1, 0, 0⟩, ⟨2, 1, 7⟩] G6 q6 h6 [(⟨7, 1, [2]⟩, a8)] w8 J4.sc
       rw [wk_r] at C5
       have H5 := Lib.hid C5
       have C6 := Lib.hid (fun (V : World) (hV : Below w8.heap.size w8 V) => owner_sc (A := G5) (m := q5) (c := h5) (R := [⟨1, 0, 0⟩, ⟨2, 1, 7⟩]) (A2 := G6) (m2 := q6) (c2 := h6) (L := [(⟨7, 1, [2]⟩, a8)]) (w := V) 7 (J4.sc.on hV))
       rw [wk_w] at C6
       have H6 := C6
       clear C5 C6
       unfold scV at H5 H6)
    | (refine wpList_load_row rfl 25 (.tmp 1) rfl g rfl 25 (scC G5 q5 h5 G6 q6 h6) (0, 0) _ J4.k.blk Try.underlying25 rfl (sc_inf _ _ _ _ _ _) ?_)
    | (refine H5.out.mono ?_
       clear H5
       rintro e w9 ⟨GA, gm, gc, rfl, zo, b9⟩
       have hgm : gm = 1 := zo.len
       have hgc := zo.cap
       subst hgm
       obtain ⟨gb, go_, rfl, _, q9⟩ := zo.ri 0 (by simp)
       have q10 : w9.cell? ⟨gb, go_, none⟩ = some (.int .i64 1) := q9
       have kk := blk_range (J4.k.below b9 J4.k.lt)
       have B9 := J4.b.trans (b9.mono J4.b.size)
       have CW := H6.out _ b9
       clear H6 q9 zo hgc)
    | (refine wpListG_load_mid (by rfl) 25 (.tmp 1) rfl g 0 rfl (scC G5 q5 h5 G6 q6 h6).toList _ kk Try.underlying25 rfl (by rw [Array.length_toList]; exact sc_inf _ _ _ _ _ _) ?_)
    | (refine CW.mono ?_
       clear CW
       rintro e w10 ⟨rfl, b10⟩))
  go_ret
  exact ⟨rfl, B9.trans (b10.mono B9.size)⟩
end Go.Proofs.Ytolalbpjaebfdaa
namespace Go.Proofs.Ytolalbpjaebfdaa
open Go.RowKit Go.Shelf
set_option linter.unusedVariables false
set_option linter.unusedSimpArgs false
structure ScW (w : World) (B : Nat) (A : Option Addr) (m c : Nat) (R : List Rn) (A2 : Option Addr) (m2 c2 : Nat) (L : List Kw) : Prop where
  rs : RsR w B A R
  ks : RsK w B A2 L
  q : ∀ x ∈ L, Ri7 w B x.2.1 x.1.q ∧ x.1.q.length ≤ x.2.2
  len : m = R.length
  len2 : m2 = L.length
  lim2 : m2 ≤ maxLen
theorem ScW.below {w w' : World} {B B' m c m2 c2 : Nat} {A A2 : Option Addr} {R : List Rn} {L : List Kw} (h : ScW w B A m c R A2 m2 c2 L) (hb : Below B' w w') (hB : B ≤ B') : ScW w' B A m c R A2 m2 c2 L := ⟨h.rs.below hb hB, h.ks.below hb hB, fun x hx => ⟨(h.q x hx).1.below hb hB, (h.q x hx).2⟩, h.len, h.len2, h.lim2⟩
theorem ScW.more {w : World} {B B' m c m2 c2 : Nat} {A A2 : Option Addr} {R : List Rn} {L : List Kw} (h : ScW w B A m c R A2 m2 c2 L) (hB : B ≤ B') : ScW w B' A m c R A2 m2 c2 L := ⟨h.rs.more hB, h.ks.more hB, fun x hx => ⟨(h.q x hx).1.more hB, (h.q x hx).2⟩, h.len, h.len2, h.lim2⟩
theorem ScW.on {w w' : World} {m c m2 c2 : Nat} {A A2 : Option Addr} {R : List Rn} {L : List Kw} (h : ScW w w.heap.size A m c R A2 m2 c2 L) (hb : Below w.heap.size w w') : ScW w' w'.heap.size A m c R A2 m2 c2 L := (h.below hb (Nat.le_refl _)).more hb.size
end Go.Proofs.Ytolalbpjaebfdaa
namespace Go.Proofs.Ytolalbpjaebfdaa
open Go.RowKit Go.Shelf
set_option linter.unusedVariables false
set_option linter.unusedSimpArgs false
theorem results_row_one {P : Program} {fn : Func} {p : Tmp} {ty : TypeId} (h : fn.results = #[.cell p ty]) (tmps : Array Value) (w : World) (g : Nat) (t : TypeId) (cs : Array Value) (fr : Nat × Nat) (d : TypeDesc)
    (hp : tmps.getD p undef = .pointer (some ⟨g, 0, none⟩)) (hg : w.heap[g]? = some (.cells cs t fr))
    (hu : P.underlying ty = some d) (hd : (match d with | .struct _ | .array _ _ => true | _ => false) = true) (hi : (P.info? ty).map (·.size) = some cs.size) :
    (results fn tmps).run P w = .ok (.agg cs) w := by
  have hp' : tmps[p]?.getD undef = .pointer (some ⟨g, 0, none⟩) := by simpa using hp
  simp [results, h, hp', asAddr, run_loadVar_row w g t ty cs fr d hg hu hd hi]
structure Lcp (w : World) (m : Nat) (R : List Rn) (L : List Kw) (k : Nat) (gO : Nat) (A1 : Option Addr) (c1 : Nat) (A3 : Option Addr) (c3 : Nat) (L1 : List Kw) (V : World) : Prop where
  b : Below w.heap.size w V
  k2 : Blk V (w.heap.size + 1) (scC none 0 0 none 0 0) 25
  g : w.heap.size + 1 < gO
  ko : Blk V gO (scC A1 m c1 A3 k c3) 25
  rr : RoR V w.heap.size A1 m c1 R
  rl : RoK V w.heap.size A3 k c3 L1
  mx : L1.map (·.1) = (L.take k).map (·.1)
  q : ∀ x ∈ L1, Zo V w.heap.size x.2.1 x.1.q.length x.2.2 x.1.q
theorem Lcp.below {w V V' : World} {m : Nat} {R : List Rn} {L : List Kw} {k gO : Nat} {A1 A3 : Option Addr} {c1 c3 : Nat} {L1 : List Kw} (h : Lcp w m R L k gO A1 c1 A3 c3 L1 V) (b : Below V.heap.size V V') : Lcp w m R L k gO A1 c1 A3 c3 L1 V' :=
  ⟨h.b.trans (b.mono h.b.size), h.k2.below b h.k2.lt, h.g, h.ko.below b h.ko.lt, h.rr.below b (Nat.le_refl _), h.rl.below b (Nat.le_refl _), h.mx, fun x hx => (h.q x hx).below b (Nat.le_refl _)⟩
theorem Lcp.box {w V : World} {m : Nat} {R : List Rn} {L : List Kw} {k gO : Nat} {A1 A3 : Option Addr} {c1 c3 : Nat} {L1 : List Kw} (h : Lcp w m R L k gO A1 c1 A3 c3 L1 V) {g : Nat} {cs : Array Value} (kk : Blk V g cs 48) (hg : w.heap.size ≤ g) {V' : World} (n : But g V V') (hrow : ∀ g', A3 = some ⟨g', 0, none⟩ → g ≠ g') : Lcp w m R L k gO A1 c1 A3 c3 L1 V' := by
  have ne : ∀ {g2 : Nat} {cs2 : Array Value}, Blk V g2 cs2 25 → g2 ≠ g := fun k2 e => by
    have h8 := k2.blk
    rw [e, kk.blk] at h8
    have h9 : (48 : TypeId) = 25 := by injection h8 with h8; injection h8
    exact absurd h9 (by decide)
  exact ⟨h.b.trans (n.below _ hg h.b.size), n.blk7 h.k2 (ne h.k2), h.g, n.blk7 h.ko (ne h.ko), own_kind h.rr (grown_but n) (fun g' e => by cases e; exact ⟨_, _, kk, by decide⟩), h.rl.but n hrow, h.mx, fun x hx => own_kind (h.q x hx) (grown_but n) (fun g' e => by cases e; exact ⟨_, _, kk, by decide⟩)⟩
theorem Lcp.more {w V V' V'' : World} {m : Nat} {R : List Rn} {L : List Kw} {k gO : Nat} {A1 A3 : Option Addr} {c1 c3 : Nat} {L1 : List Kw} (h : Lcp w m R L k gO A1 c1 A3 c3 L1 V) (hk : k < L.length) {A4 : Option Addr} {c4 : Nat} (zo : Zo V w.heap.size A4 (L.getD k kw0).1.q.length c4 (L.getD k kw0).1.q) {A6 : Option Addr} {c6 : Nat}
    (rl : RoK V' w.heap.size A6 (k + 1) c6 (L1 ++ [((L.getD k kw0).1, (A4, c4))])) (hg : V.grownBy V' (Value.slice A3 k c3).ownBlock) (b : Below w.heap.size V V') (n : But gO V' V'') (hc : Blk V' gO (scC A1 m c1 A3 k c3) 25 → Blk V'' gO (scC A1 m c1 A6 (k + 1) c6) 25) : Lcp w m R L (k + 1) gO A1 c1 A6 c6 (L1 ++ [((L.getD k kw0).1, (A4, c4))]) V'' := by
  have hrow : ∀ g', (Value.slice A3 k c3).ownBlock = some g' → ∃ cs t, Blk V g' cs t ∧ t = 48 := fun g' e => by obtain ⟨cur, k⟩ := roK_blk h.rl e; exact ⟨cur, _, k, rfl⟩
  have keep : ∀ {g2 : Nat} {cs2 : Array Value}, Blk V g2 cs2 25 → Blk V' g2 cs2 25 := fun k2 => ⟨(hg.block _ k2.lt (fun e => by
    obtain ⟨cs, t, k, rfl⟩ := hrow _ e.symm
    have h8 := k.blk
    rw [k2.blk] at h8
    have h9 : (25 : TypeId) = 48 := by injection h8 with h8; injection h8
    exact absurd h9 (by decide))).trans k2.blk⟩
  have ko' := keep h.ko
  have rr' := own_kind h.rr hg (fun g' e => by obtain ⟨cs, t, k, rfl⟩ := hrow g' e; exact ⟨cs, _, k, by decide⟩)
  have b1 := h.b.trans b
  have hg0 : w.heap.size ≤ gO := by have := h.g; omega
  refine ⟨b1.trans (n.below _ hg0 b1.size), n.blk7 (keep h.k2) (by have := h.g; omega), h.g, hc ko', own_kind rr' (grown_but n) (fun g' e => by cases e; exact ⟨_, _, ko', by decide⟩), own_kind rl (grown_but n) (fun g' e => by cases e; exact ⟨_, _, ko', by decide⟩), ?_, fun x hx => ?_⟩
  · rw [List.map_append, h.mx, List.take_succ_eq_append_getElem hk, List.map_append, show L[k] = L.getD k kw0 by simp [List.getD, hk]]
    rfl
  · have hz : Zo V w.heap.size x.2.1 x.1.q.length x.2.2 x.1.q := by
      rcases List.mem_append.1 hx with h1 | h1
      · exact h.q x h1
      · rw [List.mem_singleton.1 h1]; exact zo
    exact own_kind (own_kind hz hg (fun g' e => by obtain ⟨cs, t, k, rfl⟩ := hrow g' e; exact ⟨cs, _, k, by decide⟩)) (grown_but n) (fun g' e => by cases e; exact ⟨_, _, ko', by decide⟩)
end Go.Proofs.Ytolalbpjaebfdaa
