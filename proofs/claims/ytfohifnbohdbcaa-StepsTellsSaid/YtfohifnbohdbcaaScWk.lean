/-
  law13.wakes.
-/
import Derived.Test.YtfohifnbohdbcaaScT
import Derived.Test.YtfohifnbohdbcaaScZ
import Derived.Test.YtfohifnbohdbcaaScO
namespace Go.Proofs.Ytfohifnbohdbcaa
open Go.RowKit Go.Shelf
set_option linter.unusedVariables false
set_option linter.unusedSimpArgs false

theorem blk_range {w : World} {g : Nat} {cs : Array Value} {t : TypeId} (k : Blk w g cs t) : w.rangeAt g 0 cs.toList := fun j v hv => by
  rw [Nat.zero_add, k.cell j, ← Array.getElem?_toList]
  exact hv
/-- The box of the schedule, as the law goes through its calls. -/
structure WkS (w : World) (g : Nat) (R : List Rn) (K : List Kn) (A : Option Addr) (m c : Nat) (A2 : Option Addr) (m2 c2 : Nat) (L : List Kw) (V : World) : Prop where
  b : Below w.heap.size w V
  s : w.heap.size ≤ g
  k : Blk V g (scC A m c A2 m2 c2) 25
  sc : Sc V V.heap.size A m c R A2 m2 c2 L
  h : L.map (·.1) = K
theorem WkS.first {w w1 w2 : World} {R : List Rn} {K : List Kn} {A A2 : Option Addr} {m c m2 c2 : Nat} {L : List Kw} {cs : Array Value} (b : Below w.heap.size w w1) (sc : Sc w1 w1.heap.size A m c R A2 m2 c2 L) (h : L.map (·.1) = K)
    (k : Blk w2 w1.heap.size (scC A m c A2 m2 c2) 25) (n : But w1.heap.size (w1.alloc (.cells cs 25)) w2) : WkS w w1.heap.size R K A m c A2 m2 c2 L w2 := by
  have bb : Below w1.heap.size w1 w2 := ((Below.refl _ w1).alloc (Nat.le_refl _) _).trans (n.below _ (Nat.le_refl _) (by simp))
  exact ⟨b.trans (bb.mono b.size), b.size, k, sc.on bb, h⟩
theorem WkS.next {w w1 w2 w3 : World} {g : Nat} {R R' : List Rn} {K K' : List Kn} {A A2 A' A2' : Option Addr} {m c m2 c2 m' c' m2' c2' : Nat} {L L' : List Kw} (J : WkS w g R K A m c A2 m2 c2 L w1) (b : Below w1.heap.size w1 w2) (sc : Sc w2 w2.heap.size A' m' c' R' A2' m2' c2' L') (fr : Fro w1.heap.size A' A2' L') (h : L'.map (·.1) = K')
    (k : Blk w3 g (scC A' m' c' A2' m2' c2') 25) (n : But g w2 w3) : WkS w g R' K' A' m' c' A2' m2' c2' L' w3 := by
  have h1 := J.b.trans (b.mono J.b.size)
  exact ⟨h1.trans (n.below _ J.s h1.size), J.s, k, sc.off' fr n J.k.lt, h⟩
theorem wk_nil {L : List Kw} (h : L.map (·.1) = []) : L = [] := List.map_eq_nil_iff.1 h
theorem wk_one {L : List Kw} {x : Kn} (h : L.map (·.1) = [x]) : ∃ a, L = [(x, a)] := by
  rcases L with _ | ⟨⟨y, a⟩, _ | ⟨z, l⟩⟩
  · cases h
  · simp at h; exact ⟨a, by rw [h]⟩
  · simp at h
theorem wk_e1 : chgS [] [] (addF [] [] 1) = ([⟨1, 0, 0⟩], [], 0) := by rfl
theorem wk_e2 : chgS [⟨1, 0, 0⟩] [] (addF [⟨1, 0, 0⟩] [] 2) = ([⟨1, 0, 0⟩, ⟨2, 0, 0⟩], [], 0) := by rfl
theorem wk_e3 : takeR [⟨1, 0, 0⟩, ⟨2, 0, 0⟩] [] 1 7 = ([⟨1, 0, 0⟩, ⟨2, 0, 0⟩], [⟨7, 1, []⟩], 0) := by rfl
theorem wk_o3 : takeO [⟨1, 0, 0⟩, ⟨2, 0, 0⟩] [] 1 7 = true := by rfl
theorem wk_e4 (a : Option Addr × Nat) : takeR [⟨1, 0, 0⟩, ⟨2, 0, 0⟩] [(⟨7, 1, []⟩, a)] 2 7 = ([⟨1, 0, 0⟩, ⟨2, 1, 7⟩], [⟨7, 1, [2]⟩], 0) := by rfl
theorem wk_o4 (a : Option Addr × Nat) : takeO [⟨1, 0, 0⟩, ⟨2, 0, 0⟩] [(⟨7, 1, []⟩, a)] 2 7 = false := by rfl
theorem wk_r (a : Option Addr × Nat) : rdyA [⟨1, 0, 0⟩, ⟨2, 1, 7⟩] [(⟨7, 1, [2]⟩, a)] = [1] := by rfl
theorem wk_w (a : Option Addr × Nat) : ownerA [⟨1, 0, 0⟩, ⟨2, 1, 7⟩] [(⟨7, 1, [2]⟩, a)] 7 = 1 := by rfl
set_option maxRecDepth 100000 in
set_option maxHeartbeats 8000000 in
theorem wakes13_any (w : World) : Calls Try.prog 8 #[] w fun e w' => e = .returned (.bool true) ∧ Below w.heap.size w w' := by
  have C1 := add_sc none 0 0 [] none 0 0 [] 1 w (sc_nil w w.heap.size 0 0 none none)
  rw [show ([] : List Kw).map (·.1) = [] from rfl, wk_e1] at C1
  have H1 := Lib.hid C1
  clear C1
  unfold scV at H1
  go_enter Try.func8, Try.ntmps8
  go_wp2_with (first
    | (refine H1.out.mono ?_
       clear H1
       rintro e w1 ⟨v, rfl, ⟨A5, m5, c5, A6, m6, c6, L5, rfl, sc5, hn5, fr5⟩, bb⟩
       unfold scV)
    | (refine wpList_store_blk rfl 25 (.tmp 1) (.tmp 12) rfl w1.heap.size (scC none 0 0 none 0 0) (scC A5 m5 c5 A6 m6 c6) 25 rfl rfl (Blk.new _ _ _) rfl (sc_inf _ _ _ _ _ _) (sc_one _ _ _ _ _ _) ?_
       intro w2 k2 n2
       have J1 := WkS.first bb sc5 hn5 k2 n2
       obtain rfl := wk_nil hn5
       clear bb sc5 hn5 k2 n2 fr5
       generalize w1.heap.size = g at J1 ⊢
       have C2 := add_sc A5 m5 c5 [⟨1, 0, 0⟩] A6 m6 c6 [] 2 w2 J1.sc
       rw [show ([] : List Kw).map (·.1) = [] from rfl, wk_e2] at C2
       have H2 := Lib.hid C2
       clear C2
       unfold scV at H2)
    | (refine wpList_load_row rfl 25 (.tmp 1) rfl g rfl 25 (scC A5 m5 c5 A6 m6 c6) (0, 0) _ J1.k.blk Try.underlying25 rfl (sc_inf _ _ _ _ _ _) ?_)
    | (refine H2.out.mono ?_
       clear H2
       rintro e w3 ⟨v, rfl, ⟨B5, n5, d5, B6, n6, d6, L6, rfl, sc6, hn6, fr6⟩, b3⟩
       have kk := J1.k.below b3 J1.k.lt
       unfold scV)
    | (refine wpList_store_blk rfl 25 (.tmp 1) (.tmp 17) rfl g (scC A5 m5 c5 A6 m6 c6) (scC B5 n5 d5 B6 n6 d6) 25 rfl rfl kk rfl (sc_inf _ _ _ _ _ _) (sc_one _ _ _ _ _ _) ?_
       intro w4 k4 n4
       have J2 := J1.next b3 sc6 fr6 hn6 k4 n4
       obtain rfl := wk_nil hn6
       clear b3 sc6 fr6 hn6 k4 n4 kk J1
       have C3 := take_sc B5 n5 d5 [⟨1, 0, 0⟩, ⟨2, 0, 0⟩] B6 n6 d6 [] 1 7 w4 J2.sc
       rw [wk_e3, wk_o3] at C3
       have H3 := Lib.hid C3
       clear C3
       unfold scV at H3)
    | (refine wpList_load_row rfl 25 (.tmp 1) rfl g rfl 25 (scC B5 n5 d5 B6 n6 d6) (0, 0) _ J2.k.blk Try.underlying25 rfl (sc_inf _ _ _ _ _ _) ?_)
    | (refine H3.out.mono ?_
       clear H3
       rintro e w5 ⟨v, rfl, ⟨E5, p5, f5, E6, p6, f6, L7, rfl, sc7, hn7, fr7⟩, b5⟩
       have kk := J2.k.below b5 J2.k.lt
       unfold scV)
    | (refine wpList_store_blk rfl 25 (.tmp 1) (.tmp 22) rfl g (scC B5 n5 d5 B6 n6 d6) (scC E5 p5 f5 E6 p6 f6) 25 rfl rfl kk rfl (sc_inf _ _ _ _ _ _) (sc_one _ _ _ _ _ _) ?_
       intro w6 k6 n6'
       have J3 := J2.next b5 sc7 fr7 hn7 k6 n6'
       obtain ⟨a7, rfl⟩ := wk_one hn7
       clear b5 sc7 fr7 hn7 k6 n6' kk J2
       have C4 := take_sc E5 p5 f5 [⟨1, 0, 0⟩, ⟨2, 0, 0⟩] E6 p6 f6 [(⟨7, 1, []⟩, a7)] 2 7 w6 J3.sc
       rw [wk_e4, wk_o4] at C4
       have H4 := Lib.hid C4
       clear C4
       unfold scV at H4)
    | (refine wpList_load_row rfl 25 (.tmp 1) rfl g rfl 25 (scC E5 p5 f5 E6 p6 f6) (0, 0) _ J3.k.blk Try.underlying25 rfl (sc_inf _ _ _ _ _ _) ?_)
    | (refine H4.out.mono ?_
       clear H4
       rintro e w7 ⟨v, rfl, ⟨G5, q5, h5, G6, q6, h6, L8, rfl, sc8, hn8, fr8⟩, b7⟩
       have kk := J3.k.below b7 J3.k.lt
       unfold scV)
    | (refine wpList_store_blk rfl 25 (.tmp 1) (.tmp 28) rfl g (scC E5 p5 f5 E6 p6 f6) (scC G5 q5 h5 G6 q6 h6) 25 rfl rfl kk rfl (sc_inf _ _ _ _ _ _) (sc_one _ _ _ _ _ _) ?_
       intro w8 k8 n8
       have J4 := J3.next b7 sc8 fr8 hn8 k8 n8
       obtain ⟨a8, rfl⟩ := wk_one hn8
       clear b7 sc8 fr8 hn8 k8 n8 kk J3
       have C5 := ready_sc G5 q5 h5 [⟨1, 0, 0⟩, ⟨2, 1, 7⟩] G6 q6 h6 [(⟨7, 1, [2]⟩, a8)] w8 J4.sc
       rw [wk_r] at C5
       have H5 := Lib.hid C5
       have C6 := Lib.hid (fun (V : World) (hV : Below w8.heap.size w8 V) => owner_sc (A := G5) (m := q5) (c := h5) (R := [⟨1, 0, 0⟩, ⟨2, 1, 7⟩]) (A2 := G6) (m2 := q6) (c2 := h6) (L := [(⟨7, 1, [2]⟩, a8)]) (w := V) 7 (J4.sc.on hV))
       rw [wk_w] at C6
       have H6 := C6
       clear C5 C6
       unfold scV at H5 H6)
    | (refine wpList_load_row rfl 25 (.tmp 1) rfl g rfl 25 (scC G5 q5 h5 G6 q6 h6) (0, 0) _ J4.k.blk Try.underlying25 rfl (sc_inf _ _ _ _ _ _) ?_)
    | (refine H5.out.mono ?_
       clear H5
       rintro e w9 ⟨GA, gm, gc, rfl, zo, b9⟩
       have hgm : gm = 1 := zo.len
       have hgc := zo.cap
       subst hgm
       obtain ⟨gb, go_, rfl, _, q9⟩ := zo.ri 0 (by simp)
       have q10 : w9.cell? ⟨gb, go_, none⟩ = some (.int .i64 1) := q9
       have kk := blk_range (J4.k.below b9 J4.k.lt)
       have B9 := J4.b.trans (b9.mono J4.b.size)
       have CW := H6.out _ b9
       clear H6 q9 zo hgc)
    | (refine wpListG_load_mid (by rfl) 25 (.tmp 1) rfl g 0 rfl (scC G5 q5 h5 G6 q6 h6).toList _ kk Try.underlying25 rfl (by rw [Array.length_toList]; exact sc_inf _ _ _ _ _ _) ?_)
    | (refine CW.mono ?_
       clear CW
       rintro e w10 ⟨rfl, b10⟩))
  go_ret
  exact ⟨rfl, B9.trans (b10.mono B9.size)⟩
end Go.Proofs.Ytfohifnbohdbcaa
