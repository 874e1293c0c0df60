/-
  law13.copied.
-/
import Derived.Test.YtfohifnbohdbcaaQScOv
import Derived.Test.YtfohifnbohdbcaaQShift
namespace Go.Proofs.Ytfohifnbohdbcaa
open Go.RowKit Go.Shelf
set_option linter.unusedVariables false
set_option linter.unusedSimpArgs false
theorem results_row_one {P : Program} {fn : Func} {p : Tmp} {ty : TypeId} (h : fn.results = #[.cell p ty]) (tmps : Array Value) (w : World) (g : Nat) (t : TypeId) (cs : Array Value) (fr : Nat × Nat) (d : TypeDesc)
    (hp : tmps.getD p undef = .pointer (some ⟨g, 0, none⟩)) (hg : w.heap[g]? = some (.cells cs t fr))
    (hu : P.underlying ty = some d) (hd : (match d with | .struct _ | .array _ _ => true | _ => false) = true) (hi : (P.info? ty).map (·.size) = some cs.size) :
    (results fn tmps).run P w = .ok (.agg cs) w := by
  have hp' : tmps[p]?.getD undef = .pointer (some ⟨g, 0, none⟩) := by simpa using hp
  simp [results, h, hp', asAddr, run_loadVar_row w g t ty cs fr d hg hu hd hi]
structure Lcp (w : World) (m : Nat) (R : List Rn) (L : List Kw) (k : Nat) (gO : Nat) (A1 : Option Addr) (c1 : Nat) (A3 : Option Addr) (c3 : Nat) (L1 : List Kw) (V : World) : Prop where
  b : Below w.heap.size w V
  k2 : Blk V (w.heap.size + 1) (scC none 0 0 none 0 0) 25
  g : w.heap.size + 1 < gO
  ko : Blk V gO (scC A1 m c1 A3 k c3) 25
  rr : RoR V w.heap.size A1 m c1 R
  rl : RoK V w.heap.size A3 k c3 L1
  mx : L1.map (·.1) = (L.take k).map (·.1)
  q : ∀ x ∈ L1, Zo V w.heap.size x.2.1 x.1.q.length x.2.2 x.1.q
theorem Lcp.below {w V V' : World} {m : Nat} {R : List Rn} {L : List Kw} {k gO : Nat} {A1 A3 : Option Addr} {c1 c3 : Nat} {L1 : List Kw} (h : Lcp w m R L k gO A1 c1 A3 c3 L1 V) (b : Below V.heap.size V V') : Lcp w m R L k gO A1 c1 A3 c3 L1 V' :=
  ⟨h.b.trans (b.mono h.b.size), h.k2.below b h.k2.lt, h.g, h.ko.below b h.ko.lt, h.rr.below b (Nat.le_refl _), h.rl.below b (Nat.le_refl _), h.mx, fun x hx => (h.q x hx).below b (Nat.le_refl _)⟩
theorem Lcp.box {w V : World} {m : Nat} {R : List Rn} {L : List Kw} {k gO : Nat} {A1 A3 : Option Addr} {c1 c3 : Nat} {L1 : List Kw} (h : Lcp w m R L k gO A1 c1 A3 c3 L1 V) {g : Nat} {cs : Array Value} (kk : Blk V g cs 48) (hg : w.heap.size ≤ g) {V' : World} (n : But g V V') (hrow : ∀ g', A3 = some ⟨g', 0, none⟩ → g ≠ g') : Lcp w m R L k gO A1 c1 A3 c3 L1 V' := by
  have ne : ∀ {g2 : Nat} {cs2 : Array Value}, Blk V g2 cs2 25 → g2 ≠ g := fun k2 e => by
    have h8 := k2.blk
    rw [e, kk.blk] at h8
    have h9 : (48 : TypeId) = 25 := by injection h8 with h8; injection h8
    exact absurd h9 (by decide)
  exact ⟨h.b.trans (n.below _ hg h.b.size), n.blk7 h.k2 (ne h.k2), h.g, n.blk7 h.ko (ne h.ko), own_kind h.rr (grown_but n) (fun g' e => by cases e; exact ⟨_, _, kk, by decide⟩), h.rl.but n hrow, h.mx, fun x hx => own_kind (h.q x hx) (grown_but n) (fun g' e => by cases e; exact ⟨_, _, kk, by decide⟩)⟩
theorem Lcp.more {w V V' V'' : World} {m : Nat} {R : List Rn} {L : List Kw} {k gO : Nat} {A1 A3 : Option Addr} {c1 c3 : Nat} {L1 : List Kw} (h : Lcp w m R L k gO A1 c1 A3 c3 L1 V) (hk : k < L.length) {A4 : Option Addr} {c4 : Nat} (zo : Zo V w.heap.size A4 (L.getD k kw0).1.q.length c4 (L.getD k kw0).1.q) {A6 : Option Addr} {c6 : Nat}
    (rl : RoK V' w.heap.size A6 (k + 1) c6 (L1 ++ [((L.getD k kw0).1, (A4, c4))])) (hg : V.grownBy V' (Value.slice A3 k c3).ownBlock) (b : Below w.heap.size V V') (n : But gO V' V'') (hc : Blk V' gO (scC A1 m c1 A3 k c3) 25 → Blk V'' gO (scC A1 m c1 A6 (k + 1) c6) 25) : Lcp w m R L (k + 1) gO A1 c1 A6 c6 (L1 ++ [((L.getD k kw0).1, (A4, c4))]) V'' := by
  have hrow : ∀ g', (Value.slice A3 k c3).ownBlock = some g' → ∃ cs t, Blk V g' cs t ∧ t = 48 := fun g' e => by obtain ⟨cur, k⟩ := roK_blk h.rl e; exact ⟨cur, _, k, rfl⟩
  have keep : ∀ {g2 : Nat} {cs2 : Array Value}, Blk V g2 cs2 25 → Blk V' g2 cs2 25 := fun k2 => ⟨(hg.block _ k2.lt (fun e => by
    obtain ⟨cs, t, k, rfl⟩ := hrow _ e.symm
    have h8 := k.blk
    rw [k2.blk] at h8
    have h9 : (25 : TypeId) = 48 := by injection h8 with h8; injection h8
    exact absurd h9 (by decide))).trans k2.blk⟩
  have ko' := keep h.ko
  have rr' := own_kind h.rr hg (fun g' e => by obtain ⟨cs, t, k, rfl⟩ := hrow g' e; exact ⟨cs, _, k, by decide⟩)
  have b1 := h.b.trans b
  have hg0 : w.heap.size ≤ gO := by have := h.g; omega
  refine ⟨b1.trans (n.below _ hg0 b1.size), n.blk7 (keep h.k2) (by have := h.g; omega), h.g, hc ko', own_kind rr' (grown_but n) (fun g' e => by cases e; exact ⟨_, _, ko', by decide⟩), own_kind rl (grown_but n) (fun g' e => by cases e; exact ⟨_, _, ko', by decide⟩), ?_, fun x hx => ?_⟩
  · rw [List.map_append, h.mx, List.take_succ_eq_append_getElem hk, List.map_append, show L[k] = L.getD k kw0 by simp [List.getD, hk]]
    rfl
  · have hz : Zo V w.heap.size x.2.1 x.1.q.length x.2.2 x.1.q := by
      rcases List.mem_append.1 hx with h1 | h1
      · exact h.q x h1
      · rw [List.mem_singleton.1 h1]; exact zo
    exact own_kind (own_kind hz hg (fun g' e => by obtain ⟨cs, t, k, rfl⟩ := hrow g' e; exact ⟨cs, _, k, by decide⟩)) (grown_but n) (fun g' e => by cases e; exact ⟨_, _, ko', by decide⟩)
def CopL (w : World) (v : Value) (B : Nat) (R : List Rn) (L : List Kw) : Prop := ∃ A m c A2 m2 c2 L1, v = scV A m c A2 m2 c2 ∧ Sc w w.heap.size A m c R A2 m2 c2 L1 ∧ L1.map (·.1) = L.map (·.1)
theorem lsc_off {w V V' : World} {m : Nat} {R : List Rn} {L : List Kw} {k gO : Nat} {A1 A3 : Option Addr} {c1 c3 : Nat} {L1 : List Kw} (s : Sc V V.heap.size A1 m c1 R A3 k c3 L1) (h : Lcp w m R L k gO A1 c1 A3 c3 L1 V) (n : But (w.heap.size + 1) V V') : Sc V' V'.heap.size A1 m c1 R A3 k c3 L1 := by
  have kd := fun {e : TypeId} (he : 25 ≠ e) (g' : Nat) (e1 : some (w.heap.size + 1) = some g') => (show ∃ cs t, Blk V g' cs t ∧ t ≠ e by cases e1; exact ⟨_, _, h.k2, he⟩)
  exact ⟨(show RoR V' w.heap.size A1 m c1 R from own_kind h.rr (grown_but n) (fun g' e => kd (by decide) g' e)).rs, (show RoK V' w.heap.size A3 k c3 L1 from own_kind h.rl (grown_but n) (fun g' e => kd (by decide) g' e)).rs, fun x hx => ⟨(show Zo V' w.heap.size x.2.1 x.1.q.length x.2.2 x.1.q from own_kind (h.q x hx) (grown_but n) (fun g' e => kd (by decide) g' e)).ri, (s.q x hx).le, (s.q x hx).l⟩, s.len, s.len2, s.lim, s.lim2⟩
set_option maxRecDepth 100000 in
set_option maxHeartbeats 8000000 in
theorem lcopied_sc (A : Option Addr) (m c : Nat) (R : List Rn) (A2 : Option Addr) (m2 c2 : Nat) (L : List Kw) (w : World) (h : Sc w w.heap.size A m c R A2 m2 c2 L) :
    Calls Try.prog 10 #[scV A m c A2 m2 c2] w fun e w' => ∃ v, e = .returned v ∧ CopL w' v w.heap.size R L ∧ Below w.heap.size w w' := by
  have k1 := (Blk.new w (scC A m c A2 m2 c2) 25).alloc (.cells #[.slice none 0 0, .slice none 0 0] 25)
  have k2 : Blk ((w.alloc (.cells (scC A m c A2 m2 c2) 25)).alloc (.cells #[.slice none 0 0, .slice none 0 0] 25)) (w.heap.size + 1) (scC none 0 0 none 0 0) 25 := Blk.new_ _ _ _ (by simp)
  have B0 := ((Below.refl w.heap.size w).alloc (Nat.le_refl _) (.cells (scC A m c A2 m2 c2) 25)).alloc (by simp) (.cells #[.slice none 0 0, .slice none 0 0] 25)
  obtain ⟨W0, hW0⟩ : ∃ W0, W0 = (w.alloc (.cells (scC A m c A2 m2 c2) 25)).alloc (.cells #[.slice none 0 0, .slice none 0 0] 25) := ⟨_, rfl⟩
  have k1a := k1.alloc (.cells #[] 52)
  have q0 : (((w.alloc (.cells (scC A m c A2 m2 c2) 25)).alloc (.cells #[.slice none 0 0, .slice none 0 0] 25)).alloc (.cells #[] 52)).cell? ⟨w.heap.size, 0, none⟩ = some (.slice A m c) := k1a.cell 0
  have HS := Lib.hid h
  have HM := Lib.hid h.len2
  have HM1 := Lib.hid h.len
  have hm6 : m2 ≤ 100000 := h.lim2
  have hm5 : 0 + m ≤ 1000000 := by have := h.lim; omega
  rw [← hW0] at k1 k2 B0
  have hs0 : w.heap.size + 1 < W0.heap.size := k2.lt
  have e0 : W0.heap.size = w.heap.size + 1 + 1 := by rw [hW0]; simp
  have re : RoR (W0.alloc (.cells #[] 52)) W0.heap.size (some ⟨w.heap.size + 1 + 1, 0, none⟩) 0 0 [] := by
    have := ro_emptyR W0
    rw [e0] at this ⊢
    exact this
  clear e0
  have k2a := k2.alloc (.cells #[] 52)
  have bA := (Below.refl W0.heap.size W0).alloc (Nat.le_refl _) (.cells #[] 52)
  have hrs := h.rs.below (B0.trans (bA.mono B0.size)) (Nat.le_refl _)
  have hlen := HM1.out
  have hsA : W0.heap.size ≤ (W0.alloc (.cells #[] 52)).heap.size := bA.size
  rw [hW0] at k1 k2 B0 re k2a bA hrs hsA hs0
  have HW0 := Lib.hid hW0
  have HRR := Lib.hid (And.intro re (And.intro hrs (And.intro hlen (And.intro hsA bA))))
  clear h k1 k2 re hrs hlen hsA bA hW0
  unfold scV at *
  go_enter Try.func10, Try.ntmps10
  go_wp2_with (first
    | (at_builtin; (refine wpList_appR rfl (.tmp 6) (.tmp 8) rfl _ _ 0 0 [] rfl HRR.out.1 (by simp) A w.heap.size m c R rfl HRR.out.2.1 HRR.out.2.2.1 hm5 HRR.out.2.2.2.1 ?_)
       intro A1 c1 w1 rr1 b1
       simp only [Nat.zero_add, List.nil_append] at rr1 ⊢)
    | (refine wpList_store_blk rfl 25 (.tmp 3) (.tmp 10) rfl w1.heap.size (scC none 0 0 none 0 0) (scC A1 m c1 none 0 0) 25 rfl rfl (Blk.new _ _ _) rfl (sc_inf _ _ _ _ _ _) (sc_one _ _ _ _ _ _) ?_
       intro w2 ko n2
       have bb : Below w1.heap.size w1 w2 := ((Below.refl _ w1).alloc (Nat.le_refl _) _).trans (n2.below _ (Nat.le_refl _) (by simp))
       have bc := (B0.trans (HRR.out.2.2.2.2.mono B0.size)).trans (b1.mono B0.size)
       have J2 : Lcp w m R L 0 w1.heap.size A1 c1 none 0 [] w2 := ⟨bc.trans (bb.mono bc.size), (k2a.below (b1.mono (Nat.le_refl _)) hs0).below bb (Nat.lt_of_lt_of_le hs0 (Nat.le_trans HRR.out.2.2.2.1 b1.size)), Nat.lt_of_lt_of_le hs0 (Nat.le_trans HRR.out.2.2.2.1 b1.size), ko, (rr1.down B0.size).below bb (Nat.le_refl _), ro_nilK _ _, by rw [List.take_zero], fun x hx => by cases hx⟩
       have k12 : Blk w2 w.heap.size (scC A m c A2 m2 c2) 25 := (k1a.below b1 (by omega)).below bb (Nat.lt_of_lt_of_le (by omega) (Nat.le_trans HRR.out.2.2.2.1 b1.size))
       have q2 : w2.cell? ⟨w.heap.size, 1, none⟩ = some (.slice A2 m2 c2) := k12.cell 1
       clear bb bc n2 ko b1 rr1 HRR k1a k2a q0 k12
       generalize w1.heap.size = gO at J2 ⊢))
  clear q2 hs0 HW0 B0
  go_loopw [14] (fun i wr' => ∃ (k : Nat) (wr : World) (A3 : Option Addr) (c3 : Nat) (L1 : List Kw), wr = wr' ∧ k ≤ m2 ∧ i = .int .i64 k ∧ Lcp w m R L k gO A1 c1 A3 c3 L1 wr) (fun i _ => m2 - (intOf i).toNat)
  case atStart => exact ⟨0, _, none, 0, [], rfl, Nat.zero_le _, rfl, J2⟩
  case round =>
    clear J2
    obtain ⟨k, wr, A3, c3, L1, hwr, hk, rfl, J⟩ := hrel
    subst hwr
    by_cases hlt : k < m2
    · have hlt' : (k : Int) < (m2 : Int) := by omega
      have hkl : k < L.length := by have := HM.out; omega
      obtain ⟨b, off, rfl, hb, hc⟩ := (HS.out.ks.below J.b (Nat.le_refl _)) k hkl
      have hq := (HS.out.q' hkl)
      obtain ⟨x, hx⟩ : ∃ x, L.getD k kw0 = x := ⟨_, rfl⟩
      rw [hx] at hc hq
      have HX := Lib.hid hx
      have HQ := Lib.hid hq
      have HJ := Lib.hid J
      have HKL := Lib.hid hkl
      have hs3 : (kwC x).size = 3 := kw_size x
      clear hx hq J hkl
      go_wp2_with (first
        | (refine wpList_load_mid rfl 48 (.tmp 16) rfl b (off + k * 3) rfl (kwC x).toList _ hc Try.underlying48 rfl (kw_infL x) ?_)
        | (refine wpList_store_blk rfl 48 (.tmp 5) (.tmp 17) rfl wr.heap.size (kwC kw0) (kwC x) 48 rfl rfl (Blk.new _ _ _) rfl (kw_inf x) (kw_one x) ?_
           intro w1 kx n1
           have bb : Below wr.heap.size wr w1 := ((Below.refl _ wr).alloc (Nat.le_refl _) _).trans (n1.below _ (Nat.le_refl _) (by simp))
           have J1 := HJ.out.below bb
           have hgb : wr.heap.size < w1.heap.size := kx.lt
           have hgw : w.heap.size ≤ wr.heap.size := HJ.out.b.size
           have hrow : ∀ g', A3 = some ⟨g', 0, none⟩ → wr.heap.size ≠ g' := fun g' e => by have := (HJ.out.rl.lt g' (by rw [e]; rfl)).2; omega
           have qz : (w1.alloc (.cells #[] 3)).cell? ⟨wr.heap.size, 2, none⟩ = some (.slice x.2.1 x.1.q.length x.2.2) := (kx.alloc _).cell 2
           have HJ1 := Lib.hid J1
           have HKX := Lib.hid kx
           have HROW := Lib.hid hrow
           clear HJ bb n1 hc J1 kx hrow
           generalize wr.heap.size = gb at hgb hgw qz HKX HROW ⊢)
        | (at_builtin; (refine wpList_appZ rfl (.tmp 18) (.tmp 20) rfl w1.heap.size _ 0 0 [] rfl (zo_empty w1) (by simp) x.2.1 w.heap.size x.1.q.length x.2.2 x.1.q rfl (HQ.out.ri.below (HJ1.out.b.trans ((Below.refl w.heap.size w1).alloc HJ1.out.b.size _)) (Nat.le_refl _)) rfl (by have := HQ.out.l; omega) (by simp) ?_)
           intro A4 c4 w4 zo4 b4
           simp only [Nat.zero_add, List.nil_append] at zo4 ⊢
           clear qz
           have ba : Below w1.heap.size w1 w4 := ((Below.refl _ w1).alloc (Nat.le_refl _) _).trans b4
           have J4 := HJ1.out.below ba
           have kx4 := HKX.out.below ba hgb
           have q4 : w4.cell? ⟨gb, 2, none⟩ = some (.slice x.2.1 x.1.q.length x.2.2) := kx4.cell 2
           have f4 := kx4.frozen 2
           have n5 : But gb w4 (w4.setCell ⟨gb, 2, none⟩ (.slice A4 x.1.q.length c4)) := (But.refl gb w4).setCell (p := ⟨gb, 2, none⟩) (.inl rfl) _
           have kx5 : Blk (w4.setCell ⟨gb, 2, none⟩ (.slice A4 x.1.q.length c4)) gb (kwC (x.1, (A4, c4))) 48 := kx4.set_ 2 (.slice A4 x.1.q.length c4)
           have J5 := J4.box kx4 hgw n5 HROW.out
           have zo5 := own_kind (zo4.down (Nat.le_trans hgw (Nat.le_of_lt hgb))) (grown_but n5) (fun g' e => by cases e; exact ⟨_, _, kx4, by decide⟩)
           have q5 : (w4.setCell ⟨gb, 2, none⟩ (.slice A4 x.1.q.length c4)).cell? ⟨gO, 1, none⟩ = some (.slice A3 k c3) := J5.ko.cell 1
           have HKX5 := Lib.hid kx5
           have HJ5 := Lib.hid J5
           have HZ5 := Lib.hid zo5
           clear HJ1 HKX HROW ba b4 J4 kx4 n5 kx5 J5 zo4 zo5)
        | (refine wpList_load_row rfl 48 (.tmp 5) rfl gb rfl 48 #[.int .i64 x.1.n, .int .i64 x.1.o, .slice A4 x.1.q.length c4] (0, 0) _ HKX5.out.blk Try.underlying48 rfl (kw_inf (x.1, (A4, c4))) ?_
           clear q4 f4 q5
           generalize w4.setCell ⟨gb, 2, none⟩ (.slice A4 x.1.q.length c4) = w5 at HKX5 HJ5 HZ5 ⊢)
        | (at_builtin; (change wpList Try.prog _ _ _ _ (w5.alloc (.cells (kwC (x.1, (A4, c4))) 48))); (refine wpList_app1K rfl (.tmp 24) (.tmp 26) rfl w.heap.size A3 k c3 L1 rfl (HJ5.out.rl.below ((Below.refl _ w5).alloc (Nat.le_refl _) _) (Nat.le_refl _)) (x.1, (A4, c4)) w5.heap.size rfl (Blk.new w5 (kwC (x.1, (A4, c4))) 48).blk (by omega) (Nat.le_trans HJ5.out.b.size (by simp)) ?_)
           intro A6 c6 w6 rl6 hgr b6
           have ba : Below w5.heap.size w5 (w5.alloc (.cells (kwC (x.1, (A4, c4))) 48)) := (Below.refl _ w5).alloc (Nat.le_refl _) _
           have J6 := HJ5.out.below ba
           have zo6 := Zo.below (show Zo w5 w.heap.size A4 x.1.q.length c4 x.1.q from HZ5.out) ba (Nat.le_refl _)
           have hrow : ∀ g', (Value.slice A3 k c3).ownBlock = some g' → ∃ cs t, Blk (w5.alloc (.cells (kwC (x.1, (A4, c4))) 48)) g' cs t ∧ t = 48 := fun g' e => by obtain ⟨cur, k⟩ := roK_blk J6.rl e; exact ⟨cur, _, k, rfl⟩
           have ko6 : Blk w6 gO (scC A1 m c1 A3 k c3) 25 := ⟨(hgr.block gO J6.ko.lt (fun e => by
             obtain ⟨cs, t, k, rfl⟩ := hrow gO e.symm
             have h8 := k.blk
             rw [J6.ko.blk] at h8
             have h9 : (25 : TypeId) = 48 := by injection h8 with h8; injection h8
             exact absurd h9 (by decide))).trans J6.ko.blk⟩
           have q6 : w6.cell? ⟨gO, 1, none⟩ = some (.slice A3 k c3) := ko6.cell 1
           have f6 := ko6.frozen 1
           have n7 : But gO w6 (w6.setCell ⟨gO, 1, none⟩ (.slice A6 (k + 1) c6)) := (But.refl gO w6).setCell (p := ⟨gO, 1, none⟩) (.inl rfl) _
           have HJ7 := Lib.hid (Lcp.more J6 HKL.out (by rw [HX.out]; exact zo6) (by rw [HX.out]; exact rl6) hgr b6 n7 (fun kk => kk.set_ 1 (.slice A6 (k + 1) c6)))
           clear HJ5 HZ5 HKX5 ba J6 zo6 hrow ko6 n7 rl6 hgr b6))
      go_roundw
      case rel => exact ⟨k + 1, _, A6, c6, _, rfl, by omega, by go_num, HJ7.out⟩
      case measure => simp [intOf]; omega
    · have hkm : m2 = k := by omega
      subst hkm
      have kO := J.ko
      have hg := J.g
      go_wp2_with (first
        | (refine wpList_load_row rfl 25 (.tmp 3) rfl gO rfl 25 (scC A1 m c1 A3 m2 c3) (0, 0) _ kO.blk Try.underlying25 rfl (sc_inf _ _ _ _ _ _) ?_)
        | (refine wpList_store_blk rfl 25 (.tmp 2) (.tmp 30) rfl (w.heap.size + 1) (scC none 0 0 none 0 0) (scC A1 m c1 A3 m2 c3) 25 rfl rfl J.k2 rfl (sc_inf _ _ _ _ _ _) (sc_one _ _ _ _ _ _) ?_
           intro w5 h5 n5))
      refine bodyPost_ret (results_row_one rfl _ _ (w.heap.size + 1) 25 (scC A1 m c1 A3 m2 c3) (0, 0) _ rfl h5.blk Try.underlying25 rfl (sc_inf _ _ _ _ _ _)) rfl ?_
      have sc : Sc wr wr.heap.size A1 m c1 R A3 m2 c3 L1 := ⟨J.rr.rs, J.rl.rs, fun x hx => ⟨(J.q x hx).ri, (J.q x hx).cap, by
        obtain ⟨y, hy, e⟩ := List.mem_map.1 (show x.1 ∈ L.map (·.1) by
          have := List.mem_map_of_mem (f := (·.1)) hx
          rw [J.mx, List.take_of_length_le (by have := HM.out; omega)] at this
          exact this)
        rw [← e]
        exact (HS.out.q y hy).l⟩, J.rr.len, J.rl.len, HS.out.lim, HS.out.lim2⟩
      exact ⟨_, rfl, ⟨A1, m, c1, A3, m2, c3, L1, rfl, lsc_off sc J n5, by rw [J.mx, List.take_of_length_le (by have := HM.out; omega)]⟩, J.b.trans (n5.below _ (by omega) J.b.size)⟩
end Go.Proofs.Ytfohifnbohdbcaa
