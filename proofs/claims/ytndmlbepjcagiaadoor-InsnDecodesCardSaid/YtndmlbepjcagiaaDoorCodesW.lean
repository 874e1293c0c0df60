/-
  InsnCodes: the walk.
-/
import Derived.Test.YtndmlbepjcagiaaDoorRefCodes
import Derived.Test.YtndmlbepjcagiaaDoorClass
namespace Go.Proofs.YtndmlbepjcagiaaDoor
open Go.RowKit Go.Shelf
attribute [local go_sem] Oper.semAt_some

/-- Numbers that came in, and texts. -/
def Nums (w : World) (B : Nat) (A : Option Addr) (n : Nat) (f : Nat → Int) : Prop := ∀ k, k < n → ∃ b off, A = some ⟨b, off, none⟩ ∧ b < B ∧ w.cell? ⟨b, off + k, none⟩ = some (.int .u16 (f k)) ∧ 0 ≤ f k
def Txts (w : World) (B : Nat) (A : Option Addr) (n : Nat) (f : Nat → ByteArray) : Prop := ∀ k, k < n → ∃ b off, A = some ⟨b, off, none⟩ ∧ b < B ∧ w.cell? ⟨b, off + k, none⟩ = some (.string (f k)) ∧ (f k).size ≤ maxLen

theorem rowC_kC {i : Nat} (hi : i < 41) : rowC (kC i) = some i := by
  have hall : ((List.range 41).all fun i => rowC (kC i) == some i) = true := by decide
  simpa using List.all_eq_true.1 hall i (List.mem_range.2 hi)
theorem kC_pos {i : Nat} (hi : i < 41) : 0 ≤ kC i := by
  have hall : ((List.range 41).all fun i => decide (0 ≤ kC i)) = true := by decide
  simpa using List.all_eq_true.1 hall i (List.mem_range.2 hi)
theorem keeps_below {W W' : World} (h : Below W.heap.size W W') : KeepsOthers W W' :=
  ⟨h.size, fun k _ hk _ => (h.block k (Array.getElem?_eq_some_iff.1 hk).1).trans hk⟩
theorem boxed_below {W W' : World} {B B' : Nat} {t : TypeId} {v : Value} (h : Boxed W B t v) (hb : Below B' W W') (hB : B < B') : Boxed W' B t v := (hb.block B hB).trans h
theorem u16_info : (Tryd.prog.info? 28).map (fun i => (i.zero, i.size, i.bytes)) = some (some (.int .u16 0), 1, 2) := by kernel_rfl
theorem iota {pre : List Nat} {x n : Nat} (h : pre ++ [x] = List.range n) : pre = List.range x ∧ x + 1 = n := by
  have hl := congrArg List.length h
  simp at hl
  subst hl
  rw [List.range_succ] at h
  obtain ⟨h1, h2⟩ := List.append_inj' h rfl
  simp at h2
  subst h2
  exact ⟨h1, rfl⟩

theorem own_slice {w : World} {base e size n : Nat} {v : Value} {xs : List Value} (h : w.ownsRow base e size v n xs) : ∃ A c, v = .slice A n c := by
  rcases h.2 with ⟨e, h0⟩ | ⟨g, cap, cur, e, _⟩
  · exact ⟨none, 0, by rw [e, h0]⟩
  · exact ⟨_, _, e⟩
theorem own_head {w : World} {base e size n : Nat} {v : Value} {xs : List Value} (h : w.ownsRow base e size v n xs) (hn : 0 < n) : ∃ g c, v = .slice (some ⟨g, 0, none⟩) n c ∧ g < w.heap.size ∧ ∀ j u, xs[j]? = some u → w.cell? ⟨g, j, none⟩ = some u := by
  rcases h.2 with ⟨_, h0⟩ | ⟨g, cap, cur, e, _, hh, _⟩
  · omega
  · subst e
    refine ⟨g, cap, rfl, ?_, fun j u hj => ?_⟩
    · rcases Nat.lt_or_ge g w.heap.size with h1 | h1
      · exact h1
      · rw [Array.getElem?_eq_none h1] at hh; cases hh
    · have := h.cells (g := g) rfl j u hj
      have ea : (⟨g, 0, none⟩ : Addr).add j = ⟨g, j, none⟩ := by unfold Addr.add; by_cases h0 : j = 0 <;> simp [h0]
      rwa [ea] at this
theorem kC_rise {i : Nat} (hi : i < 40) : kC i < kC (i + 1) := by
  have hall : ((List.range 40).all fun i => decide (kC i < kC (i + 1))) = true := by decide
  simpa using List.all_eq_true.1 hall i (List.mem_range.2 hi)

theorem below_drewN {B : Nat} {w w' : World} (h : Below B w w') (n : Nat) : Below B w (w'.drewN n) := ⟨h.os, h.tape, h.output, h.size, h.block⟩
theorem Nums.below {w w' : World} {B B' n : Nat} {A : Option Addr} {f : Nat → Int} (h : Nums w B A n f) (hb : Below B' w w') (hB : B ≤ B') : Nums w' B A n f := fun k hk => by
  obtain ⟨b, off, e, h1, h2, h3⟩ := h k hk
  exact ⟨b, off, e, h1, (hb.cell (p := ⟨b, off + k, none⟩) (Nat.lt_of_lt_of_le h1 hB)).trans h2, h3⟩
theorem Txts.below {w w' : World} {B B' n : Nat} {A : Option Addr} {f : Nat → ByteArray} (h : Txts w B A n f) (hb : Below B' w w') (hB : B ≤ B') : Txts w' B A n f := fun k hk => by
  obtain ⟨b, off, e, h1, h2, h3⟩ := h k hk
  exact ⟨b, off, e, h1, (hb.cell (p := ⟨b, off + k, none⟩) (Nat.lt_of_lt_of_le h1 hB)).trans h2, h3⟩
theorem codS {W V V' : World} {B : Nat} {u : Value} (h : V.cell? ⟨B, 0, none⟩ = some u ∧ Below W.heap.size W V) (hb : Below V.heap.size V V') : V'.cell? ⟨B, 0, none⟩ = some u ∧ Below W.heap.size W V' :=
  ⟨(hb.cell (p := ⟨B, 0, none⟩) (World.block_lt_of_cell? V _ h.1)).trans h.1, h.2.trans (hb.mono h.2.size)⟩

/-- The way out: the box holds true; the block for the rounds' deferred calls is shut. -/
theorem codes_end {w w1 W3 wr : World} {D : Nat} (hBw : Below w.heap.size w W3) (hbz : Below W3.heap.size W3 wr) (hKD3 : W3.heap[D]? = some (.deferred (some []))) (b43 : Boxed W3 w.heap.size 4 (.bool false)) (hwl : w.heap.size < W3.heap.size)
    (hD3 : w1.heap.size + 1 ≤ D) (hlt1 : w.heap.size < w1.heap.size) (a : Act) (hd : a.defers = [{ target := .collected D, args := #[] }]) (h4 : a.tmps[4]? = some (.pointer (some ⟨w.heap.size, 0, none⟩))) :
    bodyPostM Fence.wide 6 Tryd.prog Tryd.f3 (fun e w' => e = .returned (.bool true) ∧ Below w.heap.size w w')  .ret a (wr.setCell ⟨w.heap.size, 0, none⟩ (.bool true)) := by
  have b4r := boxed_below b43 hbz hwl
  have hK : wr.heap[D]? = some (.deferred (some [])) := (hbz.block D (Array.getElem?_eq_some_iff.1 hKD3).1).trans hKD3
  have hK' := (KeepsOthers.setCell wr ⟨w.heap.size, 0, none⟩ (.bool true)).same D _ hK rfl
  have hc := cell_kept (World.cell?_setCell_same' wr ⟨w.heap.size, 0, none⟩ (.bool true) (by rw [b4r.cell]; rfl)) (grownBy_putObj' _ D (.deferred none)) (fun r e => by cases e; exact ⟨_, hK', rfl⟩)
  obtain ⟨tm, df⟩ := a
  subst hd
  refine ⟨by simp, .inl ⟨_, _, rfl, run_takeDeferred hK', ?_⟩⟩
  refine ⟨.bool true, ?_, rfl, ((hBw.trans (hbz.mono hBw.size)).setCell (p := ⟨w.heap.size, 0, none⟩) (Nat.le_refl _) _).trans (belowK_b (w := w) (Nat.le_refl _) _ D _ _ (by omega) hK' rfl rfl)⟩
  simp [results, Tryd.f3, go_sem, h4, hc]

set_option maxRecDepth 100000 in
set_option maxHeartbeats 4000000 in
theorem insnCodes_any (a0 : Option Addr) (l0 c0 : Nat) (f0 : Nat → Int) (a1 : Option Addr) (l1 c1 : Nat) (f1 : Nat → ByteArray) (w : World) (hK : Kinds w) (h0 : Nums w w.heap.size a0 l0 f0) (h1 : Txts w w.heap.size a1 l1 f1) (m0 : l0 ≤ maxLen) (m1 : l1 ≤ maxLen) :
    Calls Tryd.prog 3 #[.slice a0 l0 c0, .slice a1 l1 c1] w fun e w' => e = .returned (.bool true) ∧ Below w.heap.size w w' := by
  have hpos := hK.pos
  obtain ⟨i0, hi, hz0, hz1, hz2⟩ := info_parts u16_info
  refine (callsIn_wide (n := 6)).1 ?_
  refine callsIn_of_wp_marks Tryd.func3 rfl trivial ?_ rfl
  simp only [Tryd.ntmps3, List.size_toArray, List.length_cons, List.length_nil, Nat.reduceAdd, Nat.reduceSub, Array.replicate_succ, Array.replicate_zero, List.push_toArray, List.append_toArray, List.nil_append, List.cons_append]
  refine wpIn_wide.2 ?_
  go_wp2_with fail
  refine (wakes_any _ (hK.alloc _)).mono ?_
  rintro e w1 ⟨rfl, hb1⟩
  have hB1 : Below w.heap.size w w1 := ((Below.refl _ w).alloc (Nat.le_refl _) (.cells #[.bool false] 4)).trans (hb1.mono (by simp))
  have b4 : Boxed w1 w.heap.size 4 (.bool false) := boxed_below (Boxed.new w 4 (.bool false)) hb1 (by simp)
  have hlt1 := b4.lt
  have K1 := hK.below hB1 hpos
  go_wp2_with fail
  refine callsIn_wide.1 ((codes_in 6 _).mono ?_)
  rintro e w2 ⟨rfl, rfl⟩
  go_wp2_with fail
  have bA := Boxed.new w1 22 (.slice none 0 0)
  have hB2 : Below w1.heap.size w1 (w1.alloc (.cells #[.slice none 0 0] 22)) := (Below.refl _ _).alloc (Nat.le_refl _) _
  have K2 := K1.below hB2 K1.pos
  refine (wpIn_wide (n := 6)).1 ?_
  refine wpIn_rangeFunc_ownG rfl (by omega) (gf := 31) (lb := #[]) rfl trivial (enters_of Tryd.func31 (by kernel_rfl) rfl)
    (seq_stops41 5 (by omega) w1.heap.size K1.pos _ hB2.size K2) belowK_t (belowK_b hB2.size) (Below.refl _ _) (fun _ => rfl)
    (fun (pre : List (Fin 41)) W => (∃ v, Boxed W w1.heap.size 22 v ∧ W.ownsRow w1.heap.size 28 1 v pre.length (pre.map fun i => Value.int .u16 (kC i.val)) ∧ True) ∧ Below w1.heap.size w1 W)
    (fun _ _ _ => False)
    (OwnFrom.and (Own.from (holdsRow_own w1.heap.size w1.heap.size 22 28 1 (fun (pre : List (Fin 41)) => pre.length) (fun pre => pre.map fun i => Value.int .u16 (kC i.val)) (fun _ _ => True)) _) (ownFrom_below (Nat.le_refl _) hB2.size))
    (fun _ _ _ _ _ hs _ _ => hs)
    ⟨⟨_, bA, World.ownsRow_nil _ _ _ _, trivial⟩, hB2⟩
    (fun x => { tmps := #[.slice a0 l0 c0, .slice a1 l1 c1, undef, undef, .pointer (some ⟨w.heap.size, 0, none⟩), .pointer (some ⟨w1.heap.size, 0, none⟩), .int .u16 (kC x), .string (kN x), undef, undef, undef, undef, undef, undef, undef, undef, undef, undef, undef, undef, undef, undef, undef, .bool true, .bool false, .func (.func 31) #[] #[], .int .u16 (kC x), .string (kN x), undef, undef, undef, undef, undef, undef, undef, undef, undef, undef, undef, undef, undef, undef, undef, undef, undef, undef, undef, undef, undef, undef, undef, undef, undef, undef, undef, undef, undef, undef, undef, undef, undef, undef, undef, undef, undef, undef, undef, undef, undef, undef, undef, undef, undef, undef, undef, undef, undef, undef, undef, undef, undef, undef, undef, undef, undef, undef, undef, undef, undef, undef, undef, undef, undef, undef, undef, undef, undef, undef, undef, undef, undef, undef, undef, undef, undef, undef, undef, undef, undef, undef, undef, undef, undef, undef, undef, undef, undef, undef, undef, undef, undef, undef, undef, undef, undef, undef, undef, undef, undef, undef, undef, undef, undef, undef, undef, undef, undef, undef, undef, undef, undef, undef], defers := [] }) ?assign ?body ?done ?stop
  case assign =>
    intro l x W K hK
    gi_wp2
    exact hK
  case body =>
    rintro l pre ⟨x, hx⟩ W ⟨⟨v, hv, hrow, _⟩, hB⟩ hlt
    obtain ⟨A, cA, rfl⟩ := own_slice hrow
    have e1 : nameOf (kC x) = (kN x, true) := by simp only [nameOf, rowC_kC hx]
    have hn := refname_any (kC x) W (kC_pos hx)
    rw [e1] at hn
    have hne : ((pre.length : Int) == 99) = false := by simp; omega
    gi_wp2_with (first
      | (refine ⟨trivial, ?_⟩; gi_at_call 10; refine (CallsIn.inRound l (callsIn_wide.2 hn)).mono ?_; rintro e W1 ⟨rfl, hbb⟩; have hv1 := boxed_below hv hbb hv.lt; have hc1 := hv1.cell; have hrow1 := ownsRow_below hrow hbb (Nat.le_refl _); have hsz := Nat.le_trans hB.size hbb.size)
      | (gi_at_builtin; refine wpListIn_append_own _ rfl _ _ 22 rfl w1.heap.size 28 i0 (.int .u16 0) 1 2 Tryd.underlying22 hi hz0 hz1 hz2 rfl (by decide) _ _ _ rfl (hrow1.alloc _) ⟨W1.heap.size, 0, none⟩ 1 1 [.int .u16 (kC x)] rfl rfl (cell_one_new _ _ _) (by simp [Value.oneCell']) (by simp only [maxLen]; omega) (by omega) (by simp; omega) ?_; intro v' w3 hown' hgrow _; obtain ⟨g', cap', rfl⟩ := ownsRow_succ hown'; obtain ⟨hvv1, hv2, hr2, hk2, hb2⟩ := hv1.appended (by decide) hrow1 hsz (Nat.le_refl _) hown' hgrow; have hc3 := hvv1.cell; have hf3 := hvv1.frozen))
    exact ⟨((keeps_below hbb).trans hk2).from _, (hbb.mono hB.size).trans hb2, ⟨⟨_, hv2, by simpa using hr2, trivial⟩, hB.trans ((hbb.mono hB.size).trans hb2)⟩⟩
  case done =>
    rintro D ys W hD hys ⟨⟨v, hv, hrow, _⟩, hB⟩ hKD
    clear hi hz0 hz1 hz2
    have hlen : ys.length = 41 := by simpa using congrArg List.length hys
    have hmap : ys.map (fun i => Value.int .u16 (kC i.val)) = (List.range 41).map (fun i => Value.int .u16 (kC i)) := by rw [← hys, List.map_map]; rfl
    rw [hlen, hmap] at hrow
    obtain ⟨g, cp, rfl, hg, hcs⟩ := own_head hrow (by omega)
    have hcs' : ∀ j, j < 41 → W.cell? ⟨g, j, none⟩ = some (.int .u16 (kC j)) := fun j hj => hcs j _ (by simp [hj])
    have hc := hv.cell
    have hS0 : W.drew.cell? ⟨w1.heap.size, 0, none⟩ = some (.slice (some ⟨g, 0, none⟩) 41 cp) ∧ Below W.heap.size W W.drew := ⟨hc, (Below.refl _ _).drew⟩
    clear hcs hrow hmap hlen hys
    go_wp2_with fail
    go_region_held3 (fun V => V.cell? ⟨w1.heap.size, 0, none⟩ = some (.slice (some ⟨g, 0, none⟩) 41 cp) ∧ Below W.heap.size W V) (first | exact hS0 | assumption | exact codS (by assumption) (by assumption))
      (first
        | (go_at_call 11; refine (refcodes_any _).mono ?_; rintro e W2 ⟨v2, rfl, hown2, hb2⟩; obtain ⟨g2, c2, rfl, _, _⟩ := codes_rd hown2))
    obtain ⟨hc2, hbW2⟩ : W2.cell? ⟨w1.heap.size, 0, none⟩ = some (.slice (some ⟨g, 0, none⟩) 41 cp) ∧ Below W.heap.size W W2 := by assumption
    have hcs2 : ∀ j, j < 41 → W2.cell? ⟨g, j, none⟩ = some (.int .u16 (kC j)) := fun j hj => (hbW2.cell (p := ⟨g, j, none⟩) hg).trans (hcs' j hj)
    clear hcs' hown2 hS0
    go_wp2_with fail
    go_loopw [56] (fun i wr => ∃ k : Nat, k ≤ 41 ∧ i = .int .i64 k ∧ ∃ n, wr = W2.drewN n) (fun i _ => 41 - (intOf i).toNat)
    case atStart => exact ⟨0, Nat.zero_le _, rfl, 0, rfl⟩
    case round =>
      obtain ⟨k, hk, rfl, n, rfl⟩ := hrel
      by_cases hlt : k < 41
      · have hlt' : (k : Int) < 41 := by omega
        cases k with
        | zero =>
          go_wp2_with fail
          go_quiet (fail)
          go_wp2_with fail
          go_roundw
          case rel => exact ⟨1, by omega, by go_num, n + nq, rfl⟩
          case measure => simp [intOf]
        | succ j =>
          have q1 := hcs2 j (by omega)
          have q2 := hcs2 (j + 1) hlt
          have hri := kC_rise (i := j) (by omega)
          have hge : decide (kC (j + 1) ≤ kC j) = false := by simpa using hri
          have hj0 : (0 : Int) < (j : Int) + 1 := by omega
          have hj1 : (j : Int) < 41 := by omega
          have hj2 : (j : Int) + 1 < 41 := by omega
          go_wp2_with fail
          go_quiet (fail)
          go_wp2_with fail
          go_roundw
          case rel => exact ⟨j + 1 + 1, by omega, by go_num, n + nq, rfl⟩
          case measure => simp [intOf]; omega
      · have hlt2 : (41 : Int) ≤ (k : Int) := by omega
        go_wp2_with fail
        have hB3 : Below w1.heap.size w1 (W2.drewN n) := below_drewN (hB.trans (hbW2.mono hB.size)) n
        have hKD3 : (W2.drewN n).heap[D]? = some (.deferred (some [])) := (hbW2.block D (Array.getElem?_eq_some_iff.1 hKD).1).trans hKD
        have hD3 : w1.heap.size + 1 ≤ D := by simpa using hD
        obtain ⟨W3, hW3⟩ : ∃ W3, W2.drewN n = W3 := ⟨_, rfl⟩
        rw [hW3] at hB3 hKD3 ⊢
        clear hcs2 hc2 hbW2 hb2 hc hv hg hKD hB hD hW3 hB2 K2 bA
        have hBw : Below w.heap.size w W3 := hB1.trans (hB3.mono hB1.size)
        have K3 := hK.below hBw hpos
        have b43 := boxed_below b4 hB3 hlt1
        have N0 := h0.below hBw (Nat.le_refl _)
        have T1 := h1.below hBw (Nat.le_refl _)
        have hwl : w.heap.size < W3.heap.size := b43.lt
        clear hK h0 h1 K1 b4
        go_wp2_with fail
        generalize ((k : Nat) : Int) = z56
        go_loopw [76] (fun i wr => ∃ k : Nat, k ≤ l0 ∧ k ≤ 40 ∧ i = .int .i64 k ∧ Below W3.heap.size W3 wr) (fun i _ => l0 - (intOf i).toNat)
        case atStart => exact ⟨0, Nat.zero_le _, by omega, rfl, Below.refl _ _⟩
        case round =>
          obtain ⟨k, hk, hk4, rfl, hbr⟩ := hrel
          by_cases hlt : k < l0
          · have hlt' : (k : Int) < l0 := by omega
            obtain ⟨b, off, rfl, hbl, hcell, hpo⟩ := (N0.below hbr (by omega)) k hlt
            have Kr := K3.below hbr K3.pos
            by_cases h40 : k = 40
            · subst h40
              go_wp2_with fail
              generalize ((40 : Nat) : Int) = z40
              generalize decide ((40 : Int) < (l0 : Int)) = d77
              go_loopw [111] (fun i wz => ∃ k : Nat, k ≤ l1 ∧ k ≤ 40 ∧ i = .int .i64 k ∧ Below W3.heap.size W3 wz) (fun i _ => l1 - (intOf i).toNat)
              case atStart => exact ⟨0, Nat.zero_le _, by omega, rfl, hbr⟩
              case round =>
                obtain ⟨q, hq, hq4, rfl, hbz⟩ := hrel
                have b4r := boxed_below b43 hbz hwl
                have c4 := b4r.cell
                have f4 := b4r.frozen
                by_cases hltq : q < l1
                · have hltq' : (q : Int) < l1 := by omega
                  obtain ⟨b, off, rfl, hbl, hcell, hsz⟩ := (T1.below hbz (by omega)) q hltq
                  have Kz := K3.below hbz K3.pos
                  by_cases q40 : q = 40
                  · subst q40
                    go_wp2_with fail
                    refine codes_end hBw hbz hKD3 b43 hwl hD3 hlt1 _ ?_ ?_
                    all_goals rfl
                  · have q40' : ((q : Int) == 40) = false := by simp; omega
                    have q41 : (q : Int) < 40 := by omega
                    go_wp2_with fail
                    all_goals
                      refine (code_any _ _ Kz).mono ?_
                      rintro e wa ⟨rfl, hba⟩
                      have Ka := Kz.below hba Kz.pos
                      have hba' := hbz.trans (hba.mono hbz.size)
                      go_wp2_with fail
                      refine (byname_any _ _).mono ?_
                      rintro e wb ⟨rfl, hbb⟩
                      have hbb' := hba'.trans (hbb.mono hba'.size)
                      go_wp2_with fail
                      go_roundw
                      case rel => exact ⟨q + 1, by omega, by omega, by go_num, hbb'⟩
                      case measure => simp [intOf]; omega
                · obtain rfl : q = l1 := by omega
                  go_wp2_with fail
                  refine codes_end hBw hbz hKD3 b43 hwl hD3 hlt1 _ ?_ ?_
                  all_goals rfl
            · have h40' : ((k : Int) == 40) = false := by simp; omega
              have h41 : (k : Int) < 40 := by omega
              have hN := fun V hV => name_any (f0 k) V hV
              have hR := fun V => refname_any (f0 k) V hpo
              have hF := fun V hV => form_any (f0 k) V hV
              have hG := fun V => refform_any (f0 k) V hpo
              obtain ⟨s, hs⟩ : ∃ s, (nameOf (f0 k)).1 = s := ⟨_, rfl⟩
              obtain ⟨ok, hok⟩ : ∃ ok, (nameOf (f0 k)).2 = ok := ⟨_, rfl⟩
              obtain ⟨fm, hfm⟩ : ∃ fm, formOf (f0 k) = fm := ⟨_, rfl⟩
              rw [hs, hok] at hN hR
              rw [hfm] at hF hG
              have q1 : (s.toList != s.toList) = false := by simp
              have q2 : (ok != ok) = false := by simp
              have q3 : (fm != fm) = false := by simp
              go_wp2_with fail
              refine (hN _ Kr).mono ?_
              rintro e wa ⟨rfl, hba⟩
              have Ka := Kr.below hba Kr.pos
              have hba' := hbr.trans (hba.mono hbr.size)
              go_wp2_with fail
              refine (hR _).mono ?_
              rintro e wb ⟨rfl, hbb⟩
              have Kb := Ka.below hbb Ka.pos
              have hbb' := hba'.trans (hbb.mono hba'.size)
              go_wp2_with fail
              refine (hF _ Kb).mono ?_
              rintro e wc ⟨rfl, rfl⟩
              go_wp2_with fail
              refine (hG _).mono ?_
              rintro e wd ⟨rfl, hbd⟩
              have hbd' := hbb'.trans (hbd.mono hbb'.size)
              go_wp2_with fail
              go_roundw
              case rel => exact ⟨k + 1, by omega, by omega, by go_num, hbd'⟩
              case measure => simp [intOf]; omega
          · obtain rfl : k = l0 := by omega
            go_wp2_with fail
            generalize ((k : Nat) : Int) = z76
            go_loopw [111] (fun i wz => ∃ k : Nat, k ≤ l1 ∧ k ≤ 40 ∧ i = .int .i64 k ∧ Below W3.heap.size W3 wz) (fun i _ => l1 - (intOf i).toNat)
            case atStart => exact ⟨0, Nat.zero_le _, by omega, rfl, hbr⟩
            case round =>
              obtain ⟨q, hq, hq4, rfl, hbz⟩ := hrel
              have b4r := boxed_below b43 hbz hwl
              have c4 := b4r.cell
              have f4 := b4r.frozen
              by_cases hltq : q < l1
              · have hltq' : (q : Int) < l1 := by omega
                obtain ⟨b, off, rfl, hbl, hcell, hsz⟩ := (T1.below hbz (by omega)) q hltq
                have Kz := K3.below hbz K3.pos
                by_cases q40 : q = 40
                · subst q40
                  go_wp2_with fail
                  refine codes_end hBw hbz hKD3 b43 hwl hD3 hlt1 _ ?_ ?_
                  all_goals rfl
                · have q40' : ((q : Int) == 40) = false := by simp; omega
                  have q41 : (q : Int) < 40 := by omega
                  go_wp2_with fail
                  all_goals
                    refine (code_any _ _ Kz).mono ?_
                    rintro e wa ⟨rfl, hba⟩
                    have Ka := Kz.below hba Kz.pos
                    have hba' := hbz.trans (hba.mono hbz.size)
                    go_wp2_with fail
                    refine (byname_any _ _).mono ?_
                    rintro e wb ⟨rfl, hbb⟩
                    have hbb' := hba'.trans (hbb.mono hba'.size)
                    go_wp2_with fail
                    go_roundw
                    case rel => exact ⟨q + 1, by omega, by omega, by go_num, hbb'⟩
                    case measure => simp [intOf]; omega
              · obtain rfl : q = l1 := by omega
                go_wp2_with fail
                refine codes_end hBw hbz hKD3 b43 hwl hD3 hlt1 _ ?_ ?_
                all_goals rfl
  case stop =>
    rintro D cd pre W _ _ h _
    exact h.elim
end Go.Proofs.YtndmlbepjcagiaaDoor
