/-
  Plain: what the reference says of a lock that is taken or given up is what the program says.
-/
import Derived.Test.YtfohifnbohdbcaaQScPf
import Derived.Test.YtfohifnbohdbcaaQScPt
import Derived.Test.YtfohifnbohdbcaaQScOv
namespace Go.Proofs.Ytfohifnbohdbcaa
open Go.RowKit Go.Shelf
set_option linter.unusedVariables false
set_option linter.unusedSimpArgs false
def hasN (K : List Kn) (n : Int) : Bool := (K.find? (fun x => x.n == n)).isSome
theorem fndK_has (L : List Kw) (n : Int) : (fndK L n).2 = hasN (L.map (·.1)) n := by
  unfold fndK lockF hasN
  induction L with
  | nil => rfl
  | cons x L ih =>
    rw [List.map_cons, List.find?_cons, List.find?_cons]
    cases h : (x.1.n == n)
    · exact ih
    · rfl
def passUp (id : Int) (r : List Rn × List Kn) : Nat → List Rn × List Kn
  | 0 => r
  | j + 1 => if (hasN (passUp id r j).2 ((j : Int) + 1) && (fndN (passUp id r j).2 ((j : Int) + 1)).o == id) = true then passN (passUp id r j).1 (passUp id r j).2 ((j : Int) + 1) else passUp id r j
def endK (K : List Kn) (id n : Int) : List Kn := if hasN K n = true then putG (·.n) ⟨(fndN K n).n, (fndN K n).o, (fndN K n).q.filter (fun z => z != id)⟩ ((fndN K n).o == 0) K else K
def endW (R : List Rn) (L : List Kw) (id : Int) : List Rn × List Kn × Int :=
  if schB R L = true then (if (!(fndR R id).2 || (fndR R id).1.s == 2) = true then ([], [], 4) else ((passUp id (putG numR ⟨id, 2, 0⟩ false R, endK (L.map (·.1)) id (fndR R id).1.n) 40).1, (passUp id (putG numR ⟨id, 2, 0⟩ false R, endK (L.map (·.1)) id (fndR R id).1.n) 40).2, 0)) else ([], [], 230)
theorem passN_len (R : List Rn) (K : List Kn) (n : Int) : (passN R K n).1.length ≤ R.length + 1 ∧ (passN R K n).2.length ≤ K.length + 1 := by
  unfold passN
  split
  · exact ⟨Nat.le_succ _, Nat.le_trans (putG_len _ _ K true) (by simp)⟩
  · exact ⟨Nat.le_trans (putG_len _ _ R false) (by simp), Nat.le_trans (putG_len _ _ K _) (by split <;> omega)⟩
theorem Zo.base {w : World} {B m c : Nat} {A : Option Addr} {l : List Int} (h : Zo w B A m c l) {a : Addr} (e : A = some a) : B ≤ a.block := by
  rcases h.form with ⟨e2, _⟩ | ⟨g, e2, hb, _⟩
  · rw [e] at e2; cases e2
  · rw [e] at e2; cases e2; exact hb
structure EnW (w : World) (id : Int) (r0 : List Rn × List Kn) (wr : World) (j : Nat) (A : Option Addr) (m c : Nat) (R : List Rn) (A2 : Option Addr) (m2 c2 : Nat) (L : List Kw) : Prop where
  sc : Sc wr wr.heap.size A m c R A2 m2 c2 L
  av : Avd (fun g => g = w.heap.size ∨ g = w.heap.size + 1) A A2 R L
  e : (R, L.map (·.1)) = passUp id r0 j
  k3 : Blk wr w.heap.size (scC A m c A2 m2 c2) 25
  k6 : Blk wr (w.heap.size + 1) (scC none 0 0 none 0 0) 25
  b : Below w.heap.size w wr
  lr : R.length ≤ 100 + j
  lk : L.length ≤ 100 + j
theorem EnW.keep {w : World} {id : Int} {r0 : List Rn × List Kn} {wr w' : World} {j : Nat} {A : Option Addr} {m c : Nat} {R : List Rn} {A2 : Option Addr} {m2 c2 : Nat} {L : List Kw} (h : EnW w id r0 wr j A m c R A2 m2 c2 L) (b : Below wr.heap.size wr w') : EnW w id r0 w' j A m c R A2 m2 c2 L :=
  ⟨h.sc.on b, h.av, h.e, h.k3.below b h.k3.lt, h.k6.below b h.k6.lt, h.b.trans (b.mono h.b.size), h.lr, h.lk⟩
theorem EnW.no {w : World} {id : Int} {r0 : List Rn × List Kn} {wr : World} {j : Nat} {A : Option Addr} {m c : Nat} {R : List Rn} {A2 : Option Addr} {m2 c2 : Nat} {L : List Kw} (h : EnW w id r0 wr j A m c R A2 m2 c2 L) (hn : ((fndK L ((j : Int) + 1)).2 && (fndK L ((j : Int) + 1)).1.1.o == id) = false) : EnW w id r0 wr (j + 1) A m c R A2 m2 c2 L := by
  refine ⟨h.sc, h.av, ?_, h.k3, h.k6, h.b, by have := h.lr; omega, by have := h.lk; omega⟩
  rw [passUp, ← h.e]
  rw [fndK_has, fndK_N] at hn
  simp only
  rw [hn, if_neg (by simp)]
theorem EnW.yes {w : World} {id : Int} {r0 : List Rn × List Kn} {wr w5 w6 : World} {j : Nat} {A : Option Addr} {m c : Nat} {R : List Rn} {A2 : Option Addr} {m2 c2 : Nat} {L : List Kw} {v : Value} (h : EnW w id r0 wr j A m c R A2 m2 c2 L) (hn : ((fndK L ((j : Int) + 1)).2 && (fndK L ((j : Int) + 1)).1.1.o == id) = true)
    {A7 : Option Addr} {m7 c7 : Nat} {R7 : List Rn} {A8 : Option Addr} {m8 c8 : Nat} {L7 : List Kw} (hr : (R7, L7.map (·.1)) = passN R (L.map (·.1)) ((j : Int) + 1)) (sc7 : Sc w5 w5.heap.size A7 m7 c7 R7 A8 m8 c8 L7) (av7 : Avd (fun g => g = w.heap.size ∨ g = w.heap.size + 1) A7 A8 R7 L7) (bb : Below wr.heap.size wr w5)
    (k : Blk w6 w.heap.size (scC A7 m7 c7 A8 m8 c8) 25) (n : But w.heap.size w5 w6) : EnW w id r0 w6 (j + 1) A7 m7 c7 R7 A8 m8 c8 L7 := by
  have hl := passN_len R (L.map (·.1)) ((j : Int) + 1)
  rw [← hr, List.length_map] at hl
  simp only [List.length_map] at hl
  have b5 := h.b.trans (bb.mono h.b.size)
  refine ⟨sc7.avd av7 n (.inl rfl), av7, ?_, k, n.blk7 (h.k6.below bb h.k6.lt) (by omega), b5.trans (n.below _ (Nat.le_refl _) b5.size), by have := h.lr; omega, by have := h.lk; omega⟩
  rw [passUp, ← h.e]
  rw [fndK_has, fndK_N] at hn
  simp only
  rw [hn, if_pos rfl, hr]
set_option maxRecDepth 100000 in
set_option maxHeartbeats 16000000 in
theorem rend_sc (A : Option Addr) (m c : Nat) (R : List Rn) (A2 : Option Addr) (m2 c2 : Nat) (L : List Kw) (id : Int) (w : World) (h : Sc w w.heap.size A m c R A2 m2 c2 L) :
    Calls Try.prog 14 #[scV A m c A2 m2 c2, .int .i64 id] w fun e w' => ∃ v, e = .returned (.tuple #[v, .int .i64 (endW R L id).2.2]) ∧ ScQ w' v ((endW R L id).1, (endW R L id).2.1) ∧ Below w.heap.size w w' := by
  have k30 := (Blk.new w (scC A m c A2 m2 c2) 25).alloc (.cells #[.slice none 0 0, .slice none 0 0] 25)
  have k60 : Blk ((w.alloc (.cells (scC A m c A2 m2 c2) 25)).alloc (.cells #[.slice none 0 0, .slice none 0 0] 25)) (w.heap.size + 1) (scC none 0 0 none 0 0) 25 := Blk.new_ _ _ _ (by simp)
  have B0 := ((Below.refl w.heap.size w).alloc (Nat.le_refl _) (.cells (scC A m c A2 m2 c2) 25)).alloc (by simp) (.cells #[.slice none 0 0, .slice none 0 0] 25)
  have HS := Lib.hid h
  have HRT := Lib.hid (fun (V : World) (hV : Below w.heap.size w V) => right_sc A m c R A2 m2 c2 L V (h.on hV))
  have HFR := Lib.hid (fun (V : World) (hV : Below w.heap.size w V) => find_R A m c R A2 m2 c2 L id V (h.on hV))
  rw [right_eq] at HRT
  have HSM := Lib.hid (fun (hs : schB R L = true) => (show m ≤ 8 ∧ m2 ≤ 40 from ⟨by have := (okd_of h (by unfold scE; rw [if_pos hs])).r; have := h.len; omega, by have := (schB_small hs).1; have := h.len2; omega⟩))
  obtain ⟨r, hr⟩ : ∃ r, endW R L id = r := ⟨_, rfl⟩
  rw [hr]
  unfold endW at hr
  obtain ⟨⟨x, xb⟩, hx⟩ : ∃ p, fndR R id = p := ⟨_, rfl⟩
  rw [hx] at HFR hr
  have HFK := Lib.hid (fun (V : World) (hV : Below w.heap.size w V) => find_K A m c R A2 m2 c2 L x.n V (h.on hV))
  have HYN := Lib.hid (And.intro (fndK_N L x.n) (fndK_has L x.n))
  have HYM := Lib.hid (fun (h : (fndK L x.n).1.1.q ≠ []) => fndK_mem h)
  obtain ⟨⟨y, yb⟩, hy⟩ : ∃ p, fndK L x.n = p := ⟨_, rfl⟩
  rw [hy] at HFK HYM HYN
  generalize schB R L = sB at HRT HSM hr
  have HR0 := Lib.hid hr.symm
  clear hr hx hy h
  simp only at HR0 HYM HYN
  unfold scV kwV at HFK
  unfold scV rnV at HFR
  unfold scV at HRT
  go_enter Try.func14, Try.ntmps14
  cases sB
  · have HR := Lib.hid (show r = ([], [], 230) by rw [HR0.out, if_neg (by simp)])
    clear HR0
    go_wp2_with (first
      | (refine wpList_load_row rfl 25 (.tmp 2) rfl w.heap.size rfl 25 (scC A m c A2 m2 c2) (0, 0) _ k30.blk Try.underlying25 rfl (sc_inf _ _ _ _ _ _) ?_)
      | (refine (HRT.out _ B0).mono ?_
         clear HRT
         rintro e w1 ⟨rfl, bb⟩
         have k31 := k30.below bb k30.lt
         have k61 := k60.below bb k60.lt
         have B1 := B0.trans (bb.mono B0.size)
         clear bb k30 k60 B0)
      | (refine wpList_store_blk rfl 25 (.tmp 4) (.tmp 18) rfl (w.heap.size + 1) (scC none 0 0 none 0 0) (scC none 0 0 none 0 0) 25 rfl rfl k61 rfl (sc_inf _ _ _ _ _ _) (sc_one _ _ _ _ _ _) ?_
         intro wz hz nz
         have Bz := B1.trans (nz.below _ (by omega) B1.size)
         clear nz k61 k31 B1))
    refine bodyPost_ret (results_row_tmp rfl _ _ (w.heap.size + 1) 25 (scC none 0 0 none 0 0) (0, 0) _ rfl hz.blk Try.underlying25 rfl (sc_inf _ _ _ _ _ _) _ rfl) rfl ?_
    exact ⟨_, by rw [HR.out]; rfl, by rw [HR.out]; exact scQ_nil wz, Bz⟩
  · cases xb
    · have HR := Lib.hid (show r = ([], [], 4) by rw [HR0.out, if_pos rfl, if_pos (by rfl)])
      clear HR0
      go_wp2_with (first
        | (refine wpList_load_row rfl 25 (.tmp 2) rfl w.heap.size rfl 25 (scC A m c A2 m2 c2) (0, 0) _ k30.blk Try.underlying25 rfl (sc_inf _ _ _ _ _ _) ?_)
        | (refine (HRT.out _ B0).mono ?_
           clear HRT
           rintro e w1 ⟨rfl, bb⟩
           have k31 := k30.below bb k30.lt
           have k61 := k60.below bb k60.lt
           have B1 := B0.trans (bb.mono B0.size)
           clear bb k30 k60 B0)
        | (refine wpList_load_row rfl 25 (.tmp 2) rfl w.heap.size rfl 25 (scC A m c A2 m2 c2) (0, 0) _ k31.blk Try.underlying25 rfl (sc_inf _ _ _ _ _ _) ?_)
        | (refine (HFR.out _ B1).mono ?_
           clear HFR
           rintro e w2 ⟨rfl, bb⟩
           have k32 := k31.below bb k31.lt
           have k62 := k61.below bb k61.lt
           have B2 := B1.trans (bb.mono B1.size)
           clear bb k31 k61 B1)
        | (refine wpList_store_blk rfl 52 (.tmp 6) (.tmp 23) rfl w2.heap.size (rnC rn0) (rnC x) 52 rfl rfl (Blk.new _ _ _) rfl (rn_inf x) (rn_one x) ?_
           intro w3 kb3 nb3
           have bb : Below w2.heap.size w2 w3 := ((Below.refl _ w2).alloc (Nat.le_refl _) _).trans (nb3.below _ (Nat.le_refl _) (by simp))
           have k33 := k32.below bb k32.lt
           have k63 := k62.below bb k62.lt
           have B3 := B2.trans (bb.mono B2.size)
           have q8 : w3.cell? ⟨w2.heap.size, 1, none⟩ = some (.int .i64 x.s) := kb3.cell 1
           have q9 : w3.cell? ⟨w2.heap.size, 2, none⟩ = some (.int .i64 x.n) := kb3.cell 2
           clear bb nb3 kb3 k32 k62 B2)
        | (refine wpList_store_blk rfl 25 (.tmp 4) (.tmp 32) rfl (w.heap.size + 1) (scC none 0 0 none 0 0) (scC none 0 0 none 0 0) 25 rfl rfl k63 rfl (sc_inf _ _ _ _ _ _) (sc_one _ _ _ _ _ _) ?_
           intro wz hz nz
           have Bz := B3.trans (nz.below _ (by omega) B3.size)
           clear nz k63 k33 B3))
      refine bodyPost_ret (results_row_tmp rfl _ _ (w.heap.size + 1) 25 (scC none 0 0 none 0 0) (0, 0) _ rfl hz.blk Try.underlying25 rfl (sc_inf _ _ _ _ _ _) _ rfl) rfl ?_
      exact ⟨_, by rw [HR.out]; rfl, by rw [HR.out]; exact scQ_nil wz, Bz⟩
    · cases hs2 : (x.s == 2)
      · have HRa := Lib.hid (show r = ((passUp id (putG numR ⟨id, 2, 0⟩ false R, endK (L.map (·.1)) id x.n) 40).1, (passUp id (putG numR ⟨id, 2, 0⟩ false R, endK (L.map (·.1)) id x.n) 40).2, 0) by rw [HR0.out, if_pos rfl, if_neg (by rw [hs2]; simp)])
        clear HR0
        have hm40 : m ≤ 8 ∧ m2 ≤ 40 := HSM.out (by trivial)
        cases yb
        · go_wp2_with (first
            | (refine wpList_load_row rfl 25 (.tmp 2) rfl w.heap.size rfl 25 (scC A m c A2 m2 c2) (0, 0) _ k30.blk Try.underlying25 rfl (sc_inf _ _ _ _ _ _) ?_)
            | (refine (HRT.out _ B0).mono ?_
               clear HRT
               rintro e w1 ⟨rfl, bb⟩
               have k31 := k30.below bb k30.lt
               have k61 := k60.below bb k60.lt
               have B1 := B0.trans (bb.mono B0.size)
               clear bb k30 k60 B0)
            | (refine wpList_load_row rfl 25 (.tmp 2) rfl w.heap.size rfl 25 (scC A m c A2 m2 c2) (0, 0) _ k31.blk Try.underlying25 rfl (sc_inf _ _ _ _ _ _) ?_)
            | (refine (HFR.out _ B1).mono ?_
               clear HFR
               rintro e w2 ⟨rfl, bb⟩
               have k32 := k31.below bb k31.lt
               have k62 := k61.below bb k61.lt
               have B2 := B1.trans (bb.mono B1.size)
               clear bb k31 k61 B1)
            | (refine wpList_store_blk rfl 52 (.tmp 6) (.tmp 23) rfl w2.heap.size (rnC rn0) (rnC x) 52 rfl rfl (Blk.new _ _ _) rfl (rn_inf x) (rn_one x) ?_
               intro w3 kb3 nb3
               have bb : Below w2.heap.size w2 w3 := ((Below.refl _ w2).alloc (Nat.le_refl _) _).trans (nb3.below _ (Nat.le_refl _) (by simp))
               have k33 := k32.below bb k32.lt
               have k63 := k62.below bb k62.lt
               have B3 := B2.trans (bb.mono B2.size)
               have q8 : w3.cell? ⟨w2.heap.size, 1, none⟩ = some (.int .i64 x.s) := kb3.cell 1
               have q9 : w3.cell? ⟨w2.heap.size, 2, none⟩ = some (.int .i64 x.n) := kb3.cell 2
               clear bb nb3 kb3 k32 k62 B2)
            | (refine wpList_load_row rfl 25 (.tmp 2) rfl w.heap.size rfl 25 (scC A m c A2 m2 c2) (0, 0) _ k33.blk Try.underlying25 rfl (sc_inf _ _ _ _ _ _) ?_)
            | (refine (HFK.out _ B3).mono ?_
               clear HFK
               rintro e w4 ⟨rfl, bb⟩
               have k34 := k33.below bb k33.lt
               have k64 := k63.below bb k63.lt
               have B4 := B3.trans (bb.mono B3.size)
               clear bb k33 k63 B3)
            | (refine wpList_store_blk rfl 48 (.tmp 8) (.tmp 38) rfl w4.heap.size (kwC kw0) (kwC y) 48 rfl rfl (Blk.new _ _ _) rfl (kw_inf y) (kw_one y) ?_
               intro w5 kb5 nb5
               have bb : Below w4.heap.size w4 w5 := ((Below.refl _ w4).alloc (Nat.le_refl _) _).trans (nb5.below _ (Nat.le_refl _) (by simp))
               have k35 := k34.below bb k34.lt
               have k65 := k64.below bb k64.lt
               have B5 := B4.trans (bb.mono B4.size)
               have qT : w5.cell? ⟨w.heap.size, 0, none⟩ = some (.slice A m c) := k35.cell 0
               have k11 := kb5
               have h4g : w.heap.size < w4.heap.size := k34.lt
               clear bb nb5 kb5 k34 k64 B4))
          have HK1 := Lib.hid (show endK (L.map (·.1)) id x.n = L.map (·.1) by unfold endK; rw [← HYN.out.2, if_neg (by simp)])
          have sc1 := HS.out.on B5
          have av1 : Avd (fun g => g = w.heap.size ∨ g = w.heap.size + 1) A A2 R L := avd_below HS.out (fun g hg => by rcases hg with rfl | rfl <;> omega)
          have hlk : L.length ≤ 100 := by have := HS.out.len2; omega
          have k3 := k35
          have k6 := k65
          have B := B5
          clear HS HYM HYN HSM k11 k35 k65 B5
          have HR := Lib.hid (show r = ((passUp id (putG numR ⟨id, 2, 0⟩ false R, L.map (·.1)) 40).1, (passUp id (putG numR ⟨id, 2, 0⟩ false R, L.map (·.1)) 40).2, 0) by rw [HRa.out, HK1.out])
          clear HRa HK1
          have HPR := Lib.hid (put_R A m c R ⟨id, 2, 0⟩ w5 (sc1.rs.more (Nat.le_refl _)) sc1.len (by omega))
          have HSC := Lib.hid (And.intro sc1 av1)
          clear sc1 av1
          refine HPR.out.mono ?_
          clear HPR qT
          rintro e w8 ⟨G, gm, gc, rfl, rr, bb⟩
          have h6l := k6.lt
          have k38 := k3.below bb k3.lt
          have k68 := k6.below bb k6.lt
          have sc8 := HSC.out.1.on bb
          have B8 := B.trans (bb.mono B.size)
          have q3 : w8.cell? ⟨w.heap.size, 0, none⟩ = some (.slice A m c) := k38.cell 0
          have f3 := k38.frozen 0
          have n7 : But w.heap.size w8 (w8.setCell ⟨w.heap.size, 0, none⟩ (.slice G gm gc)) := (But.refl w.heap.size w8).setCell (p := ⟨w.heap.size, 0, none⟩) (.inl rfl) _
          have k37 : Blk (w8.setCell ⟨w.heap.size, 0, none⟩ (.slice G gm gc)) w.heap.size (scC G gm gc A2 m2 c2) 25 := k38.set_ 0 _
          have k67 := n7.blk7 k68 (by omega)
          have hbs : ∀ a, G = some a → w5.heap.size ≤ a.block := fun a e => rr.base e
          have rr7 : RoR _ w5.heap.size G gm gc _ := own_kind rr (grown_but n7) (fun g' e => by cases e; exact ⟨_, _, k38, by decide⟩)
          have sc7 := sc8.avd HSC.out.2 n7 (.inl rfl)
          have B7 := B8.trans (n7.below _ (Nat.le_refl _) B8.size)
          have hg7 := Nat.le_trans bb.size n7.size
          have hpl : (putG numR (⟨id, 2, 0⟩ : Rn) false R).length ≤ R.length + 1 := Nat.le_trans (putG_len numR _ R false) (by simp)
          have EN := Lib.hid (show EnW w id (putG numR ⟨id, 2, 0⟩ false R, L.map (·.1)) (w8.setCell ⟨w.heap.size, 0, none⟩ (.slice G gm gc)) 0 G gm gc (putG numR ⟨id, 2, 0⟩ false R) A2 m2 c2 L from
            ⟨⟨rr7.rs, sc7.ks, sc7.q, rr7.len, sc7.len2, by have := rr7.len; have := sc7.len; omega, sc7.lim2⟩,
             ⟨fun _ a e hg => by have := hbs a e; rcases hg with hg | hg <;> omega, HSC.out.2.a2, HSC.out.2.q⟩, rfl, k37, k67, B7, by have := sc7.len; omega, by have := sc7.len2; omega⟩)
          clear bb k3 k6 B k38 k68 B8 n7 k37 k67 rr rr7 sc7 sc8 B7 hg7 hbs hpl
          go_wp2_with fail
          try clear q3
          try clear f3
          generalize w8.setCell ⟨w.heap.size, 0, none⟩ (.slice G gm gc) = w9 at EN ⊢
          go_loopw [12] (fun iv wr' => ∃ (j : Nat) (wr : World) (C : Option Addr) (cm cc : Nat) (R5 : List Rn) (E : Option Addr) (em ec : Nat) (L5 : List Kw), wr = wr' ∧ j ≤ 40 ∧ iv = .int .i64 ((j : Int) + 1) ∧ Hid (EnW w id (putG numR ⟨id, 2, 0⟩ false R, L.map (·.1)) wr j C cm cc R5 E em ec L5)) (fun iv _ => 41 - (intOf iv).toNat)
          case atStart => exact ⟨0, _, G, gm, gc, _, A2, m2, c2, L, rfl, Nat.zero_le _, rfl, EN⟩
          case round =>
            clear EN
            obtain ⟨j, wr, C, cm, cc, R5, E, em, ec, L5, hwr, hj, rfl, EN⟩ := hrel
            subst hwr
            by_cases hlt : j < 40
            · have hle : (j : Int) + 1 ≤ 40 := by omega
              have k30 := EN.out.k3
              have HFK := Lib.hid (find_K C cm cc R5 E em ec L5 ((j : Int) + 1) wr EN.out.sc)
              have HNO := Lib.hid (fun (V : World) (e : EnW w id (putG numR ⟨id, 2, 0⟩ false R, L.map (·.1)) V j C cm cc R5 E em ec L5) => e.no)
              have HYE := Lib.hid (fun (V W5 W6 : World) (v : Value) (e : EnW w id (putG numR ⟨id, 2, 0⟩ false R, L.map (·.1)) V j C cm cc R5 E em ec L5) hn => fun {A7 m7 c7 R7 A8 m8 c8 L7} hr s a b k n => EnW.yes (w5 := W5) (w6 := W6) (v := v) e hn (A7 := A7) (m7 := m7) (c7 := c7) (R7 := R7) (A8 := A8) (m8 := m8) (c8 := c8) (L7 := L7) hr s a b k n)
              unfold scV kwV at HFK
              obtain ⟨⟨z, zb⟩, hz⟩ : ∃ p, fndK L5 ((j : Int) + 1) = p := ⟨_, rfl⟩
              rw [hz] at HFK HNO HYE
              clear hz
              simp only at HFK HNO HYE
              have hkw : ∀ V W6 : World, True := fun _ _ => trivial
              clear hkw
              cases zb
              · go_wp2_with (first
                  | (refine wpList_load_row rfl 25 (.tmp 2) rfl w.heap.size rfl 25 (scC C cm cc E em ec) (0, 0) _ k30.blk Try.underlying25 rfl (sc_inf _ _ _ _ _ _) ?_)
                  | (refine HFK.out.mono ?_
                     clear HFK
                     rintro e v1 ⟨rfl, bb⟩
                     have EN1 := Lib.hid (EN.out.keep bb)
                     clear bb k30)
                  | (refine wpList_store_blk rfl 48 (.tmp 13) (.tmp 87) rfl v1.heap.size (kwC kw0) (kwC z) 48 rfl rfl (Blk.new _ _ _) rfl (kw_inf z) (kw_one z) ?_
                     intro v2 kb2 nb2
                     have EN2 := Lib.hid (EN1.out.keep (((Below.refl _ v1).alloc (Nat.le_refl _) _).trans (nb2.below _ (Nat.le_refl _) (by simp))))
                     have k32 := EN2.out.k3
                     have qo : v2.cell? ⟨v1.heap.size, 1, none⟩ = some (.int .i64 z.1.o) := kb2.cell 1
                     clear nb2 kb2 EN1))
                go_roundw
                case rel => exact ⟨j + 1, _, C, cm, cc, R5, E, em, ec, L5, rfl, by omega, by go_num, Lib.hid (HNO.out _ EN2.out (by rfl))⟩
                case measure => simp [intOf]; omega
              · cases ho : (z.1.o == id)
                · go_wp2_with (first
                    | (refine wpList_load_row rfl 25 (.tmp 2) rfl w.heap.size rfl 25 (scC C cm cc E em ec) (0, 0) _ k30.blk Try.underlying25 rfl (sc_inf _ _ _ _ _ _) ?_)
                    | (refine HFK.out.mono ?_
                       clear HFK
                       rintro e v1 ⟨rfl, bb⟩
                       have EN1 := Lib.hid (EN.out.keep bb)
                       clear bb k30)
                    | (refine wpList_store_blk rfl 48 (.tmp 13) (.tmp 87) rfl v1.heap.size (kwC kw0) (kwC z) 48 rfl rfl (Blk.new _ _ _) rfl (kw_inf z) (kw_one z) ?_
                       intro v2 kb2 nb2
                       have EN2 := Lib.hid (EN1.out.keep (((Below.refl _ v1).alloc (Nat.le_refl _) _).trans (nb2.below _ (Nat.le_refl _) (by simp))))
                       have k32 := EN2.out.k3
                       have qo : v2.cell? ⟨v1.heap.size, 1, none⟩ = some (.int .i64 z.1.o) := kb2.cell 1
                       clear nb2 kb2 EN1))
                  go_roundw
                  case rel => exact ⟨j + 1, _, C, cm, cc, R5, E, em, ec, L5, rfl, by omega, by go_num, Lib.hid (HNO.out _ EN2.out (by rw [ho]; rfl))⟩
                  case measure => simp [intOf]; omega
                · go_wp2_with (first
                    | (refine wpList_load_row rfl 25 (.tmp 2) rfl w.heap.size rfl 25 (scC C cm cc E em ec) (0, 0) _ k30.blk Try.underlying25 rfl (sc_inf _ _ _ _ _ _) ?_)
                    | (refine HFK.out.mono ?_
                       clear HFK
                       rintro e v1 ⟨rfl, bb⟩
                       have EN1 := Lib.hid (EN.out.keep bb)
                       clear bb k30)
                    | (refine wpList_store_blk rfl 48 (.tmp 13) (.tmp 87) rfl v1.heap.size (kwC kw0) (kwC z) 48 rfl rfl (Blk.new _ _ _) rfl (kw_inf z) (kw_one z) ?_
                       intro v2 kb2 nb2
                       have EN2 := Lib.hid (EN1.out.keep (((Below.refl _ v1).alloc (Nat.le_refl _) _).trans (nb2.below _ (Nat.le_refl _) (by simp))))
                       have k32 := EN2.out.k3
                       have qo : v2.cell? ⟨v1.heap.size, 1, none⟩ = some (.int .i64 z.1.o) := kb2.cell 1
                       clear nb2 kb2 EN1)
                    | (refine wpList_load_row rfl 25 (.tmp 2) rfl w.heap.size rfl 25 (scC C cm cc E em ec) (0, 0) _ k32.blk Try.underlying25 rfl (sc_inf _ _ _ _ _ _) ?_)
                    | (have HPS := pass_sc C cm cc R5 E em ec L5 ((j : Int) + 1) v2 (fun g => g = w.heap.size ∨ g = w.heap.size + 1) (fun g hg => by have := EN2.out.k6.lt; rcases hg with rfl | rfl <;> omega) EN2.out.sc EN2.out.av (by have := EN2.out.lr; have := EN2.out.sc.len; omega) (by have := EN2.out.lk; have := EN2.out.sc.len2; omega)
                       unfold scV at HPS
                       refine HPS.mono ?_
                       clear HPS
                       rintro e v3 ⟨v, rfl, ⟨A7, m7, c7, A8, m8, c8, L7, rfl, sc7, hn7, av7⟩, bb⟩
                       unfold scV
                       have k33 := k32.below bb k32.lt
                       have H7 := Lib.hid (And.intro sc7 (And.intro hn7 (And.intro av7 bb)))
                       clear sc7 hn7 av7 bb k32)
                    | (refine wpList_store_blk rfl 25 (.tmp 2) (.tmp 98) rfl w.heap.size (scC C cm cc E em ec) (scC A7 m7 c7 A8 m8 c8) 25 rfl rfl k33 rfl (sc_inf _ _ _ _ _ _) (sc_one _ _ _ _ _ _) ?_
                       intro v4 k34 n4
                       have EN4 := Lib.hid (HYE.out _ _ _ (.int .i64 0) EN2.out (by rw [ho]; rfl) (by rw [H7.out.2.1]) H7.out.1 H7.out.2.2.1 H7.out.2.2.2 k34 n4)
                       clear n4 k33 k34))
                  go_roundw
                  case rel => exact ⟨⟨j + 1, by omega, by omega, A7, m7, c7, _, A8, m8, c8, L7, EN4⟩, rfl⟩
                  case measure => simp [intOf]; omega
            · have hgt : ¬ ((j : Int) + 1 ≤ 40) := by omega
              have hj40 : j = 40 := by omega
              subst hj40
              clear hlt
              have k39 := EN.out.k3
              go_wp2_with (first
                | (refine wpList_load_row rfl 25 (.tmp 2) rfl w.heap.size rfl 25 (scC C cm cc E em ec) (0, 0) _ k39.blk Try.underlying25 rfl (sc_inf _ _ _ _ _ _) ?_)
                | (refine wpList_store_blk rfl 25 (.tmp 4) (.tmp 99) rfl (w.heap.size + 1) (scC none 0 0 none 0 0) (scC C cm cc E em ec) 25 rfl rfl EN.out.k6 rfl (sc_inf _ _ _ _ _ _) (sc_one _ _ _ _ _ _) ?_
                   intro wz hz nz))
              refine bodyPost_ret (results_row_tmp rfl _ _ (w.heap.size + 1) 25 (scC C cm cc E em ec) (0, 0) _ rfl hz.blk Try.underlying25 rfl (sc_inf _ _ _ _ _ _) _ rfl) rfl ?_
              have ez := EN.out.e
              exact ⟨_, by rw [HR.out]; rfl, by rw [HR.out]; exact ⟨C, cm, cc, E, em, ec, L5, rfl, by rw [← ez]; exact EN.out.sc.avd EN.out.av nz (.inr rfl), by rw [← ez]⟩, EN.out.b.trans (nz.below _ (by omega) EN.out.b.size)⟩
        · go_wp2_with (first
            | (refine wpList_load_row rfl 25 (.tmp 2) rfl w.heap.size rfl 25 (scC A m c A2 m2 c2) (0, 0) _ k30.blk Try.underlying25 rfl (sc_inf _ _ _ _ _ _) ?_)
            | (refine (HRT.out _ B0).mono ?_
               clear HRT
               rintro e w1 ⟨rfl, bb⟩
               have k31 := k30.below bb k30.lt
               have k61 := k60.below bb k60.lt
               have B1 := B0.trans (bb.mono B0.size)
               clear bb k30 k60 B0)
            | (refine wpList_load_row rfl 25 (.tmp 2) rfl w.heap.size rfl 25 (scC A m c A2 m2 c2) (0, 0) _ k31.blk Try.underlying25 rfl (sc_inf _ _ _ _ _ _) ?_)
            | (refine (HFR.out _ B1).mono ?_
               clear HFR
               rintro e w2 ⟨rfl, bb⟩
               have k32 := k31.below bb k31.lt
               have k62 := k61.below bb k61.lt
               have B2 := B1.trans (bb.mono B1.size)
               clear bb k31 k61 B1)
            | (refine wpList_store_blk rfl 52 (.tmp 6) (.tmp 23) rfl w2.heap.size (rnC rn0) (rnC x) 52 rfl rfl (Blk.new _ _ _) rfl (rn_inf x) (rn_one x) ?_
               intro w3 kb3 nb3
               have bb : Below w2.heap.size w2 w3 := ((Below.refl _ w2).alloc (Nat.le_refl _) _).trans (nb3.below _ (Nat.le_refl _) (by simp))
               have k33 := k32.below bb k32.lt
               have k63 := k62.below bb k62.lt
               have B3 := B2.trans (bb.mono B2.size)
               have q8 : w3.cell? ⟨w2.heap.size, 1, none⟩ = some (.int .i64 x.s) := kb3.cell 1
               have q9 : w3.cell? ⟨w2.heap.size, 2, none⟩ = some (.int .i64 x.n) := kb3.cell 2
               clear bb nb3 kb3 k32 k62 B2)
            | (refine wpList_load_row rfl 25 (.tmp 2) rfl w.heap.size rfl 25 (scC A m c A2 m2 c2) (0, 0) _ k33.blk Try.underlying25 rfl (sc_inf _ _ _ _ _ _) ?_)
            | (refine (HFK.out _ B3).mono ?_
               clear HFK
               rintro e w4 ⟨rfl, bb⟩
               have k34 := k33.below bb k33.lt
               have k64 := k63.below bb k63.lt
               have B4 := B3.trans (bb.mono B3.size)
               clear bb k33 k63 B3)
            | (refine wpList_store_blk rfl 48 (.tmp 8) (.tmp 38) rfl w4.heap.size (kwC kw0) (kwC y) 48 rfl rfl (Blk.new _ _ _) rfl (kw_inf y) (kw_one y) ?_
               intro w5 kb5 nb5
               have bb : Below w4.heap.size w4 w5 := ((Below.refl _ w4).alloc (Nat.le_refl _) _).trans (nb5.below _ (Nat.le_refl _) (by simp))
               have k35 := k34.below bb k34.lt
               have k65 := k64.below bb k64.lt
               have B5 := B4.trans (bb.mono B4.size)
               have k11 := kb5
               have h4g : w.heap.size < w4.heap.size := k34.lt
               clear bb nb5 kb5 k34 k64 B4))
          obtain ⟨wb, hwb5⟩ : ∃ wb, wb = w5 := ⟨_, rfl⟩
          have hb5 : Below wb.heap.size wb w5 := by rw [hwb5]; exact Below.refl _ _
          have hyl : y.1.q.length ≤ 1000000 := by
            by_cases h0 : y.1.q = []
            · rw [h0]; exact Nat.zero_le _
            · exact (HS.out.q y (HYM.out h0)).l
          have HYR : Hid (y.1.q ≠ [] → Ri7 w w.heap.size y.2.1 y.1.q) := Lib.hid (fun h => (HS.out.q y (HYM.out h)).ri)
          rw [← hwb5] at k35 k65 B5 k11
          clear hwb5
          have h3b := k35.lt
          have h6b := k65.lt
          have h11 := k11.lt
          have hwb := B5.size
          go_loopw [10, 11] (fun qv iv wr' => ∃ (k : Nat) (wr : World) (QA : Option Addr) (qm qc : Nat), wr = wr' ∧ k ≤ y.1.q.length ∧ iv = .int .i64 k ∧ qv = .slice QA qm qc ∧ Hid (Zo wr wb.heap.size QA qm qc ((y.1.q.take k).filter (fun z => z != id))) ∧ qm ≤ k ∧ Below wb.heap.size wb wr) (fun _ iv _ => y.1.q.length - (intOf iv).toNat)
          case atStart => exact ⟨0, _, none, 0, 0, rfl, Nat.zero_le _, rfl, rfl, Lib.hid (by rw [List.take_zero]; exact zo_nil _ _), Nat.zero_le _, hb5⟩
          case round =>
            clear hb5
            obtain ⟨k, wr, QA, qm, qc, hwr, hk, rfl, rfl, HZ, hqm, hB⟩ := hrel
            subst hwr
            have qy : wr.cell? ⟨w4.heap.size, 2, none⟩ = some (.slice y.2.1 y.1.q.length y.2.2) := (k11.below hB h11).cell 2
            by_cases hlt : k < y.1.q.length
            · have hlt' : (k : Int) < (y.1.q.length : Int) := by omega
              have hne : y.1.q ≠ [] := fun e => by rw [e] at hlt; exact absurd hlt (by simp)
              obtain ⟨b, off, eb, hb, hc⟩ := ((HYR.out hne).below (B5.trans (hB.mono hwb)) (Nat.le_refl _)) k hlt
              rw [eb] at qy
              clear eb
              have HTK := Lib.hid (take_filt 0 (fun z => z != id) hlt)
              generalize y.1.q.getD k 0 = v at hc HTK
              have Z := HZ.out
              clear HZ hne
              cases hvi : (v != id)
              · go_wp2_with fail
                go_roundw
                case rel => exact ⟨k + 1, _, QA, qm, qc, rfl, by omega, by go_num, rfl, Lib.hid (by rw [HTK.out, hvi, if_neg (by simp), List.append_nil]; exact Z), by omega, hB⟩
                case measure => simp [intOf]; omega
              · go_wp2_with (first
                  | (at_builtin; refine wpList_app1Z rfl (.tmp 55) (.tmp 61) rfl wb.heap.size QA qm qc _ rfl (Z.below ((Below.refl _ wr).alloc (Nat.le_refl _) _) (Nat.le_refl _)) wr.heap.size v rfl (cell_one_new _ _ _ 0 _ rfl) (by omega) (Nat.le_trans hB.size (by simp)) ?_
                     intro O2 oc2 wy z3 b3
                     have hB3 := (hB.trans (((Below.refl _ wr).alloc (Nat.le_refl _) (.cells #[.int .i64 v] 3)).mono hB.size)).trans b3))
                go_roundw
                case rel => exact ⟨k + 1, _, O2, qm + 1, oc2, rfl, by omega, by go_num, rfl, Lib.hid (by rw [HTK.out, hvi, if_pos rfl]; exact z3), by omega, hB3⟩
                case measure => simp [intOf]; omega
            · have hkm : y.1.q.length = k := by omega
              have zq := HZ.out
              rw [List.take_of_length_le (by omega)] at zq
              have k3 := k35.below hB h3b
              have k6 := k65.below hB h6b
              have Bc := B5.trans (hB.mono hwb)
              have hsz := hB.size
              have q10_ : wr.cell? ⟨w4.heap.size, 0, none⟩ = some (.int .i64 y.1.n) := (k11.below hB h11).cell 0
              have q11_ : wr.cell? ⟨w4.heap.size, 1, none⟩ = some (.int .i64 y.1.o) := (k11.below hB h11).cell 1
              have q12_ : wr.cell? ⟨w.heap.size, 1, none⟩ = some (.slice A2 m2 c2) := k3.cell 1
              have hklt : ¬ ((k : Int) < (y.1.q.length : Int)) := by omega
              obtain ⟨q', hq'⟩ : ∃ q', y.1.q.filter (fun z => z != id) = q' := ⟨_, rfl⟩
              rw [hq'] at zq
              have HK1 := Lib.hid (show endK (L.map (·.1)) id x.n = (putG numK ((⟨y.1.n, y.1.o, q'⟩, (QA, qc)) : Kw) (y.1.o == 0) L).map (·.1) by unfold endK; rw [← HYN.out.2, ← HYN.out.1, if_pos rfl, hq']; exact (putG_map numK (·.n) (·.1) (fun _ => rfl) ((⟨y.1.n, y.1.o, q'⟩, (QA, qc)) : Kw) L (y.1.o == 0)).symm)
              have hql : q'.length ≤ 1000000 := by rw [← hq']; exact Nat.le_trans (List.length_filter_le _ _) hyl
              have HPU := Lib.hid (put_K A2 m2 c2 L (⟨y.1.n, y.1.o, q'⟩, (QA, qc)) wr ((HS.out.ks.below Bc (Nat.le_refl _)).more Bc.size) HS.out.len2 (by omega))
              have hkc : kwC ((⟨y.1.n, y.1.o, q'⟩, (QA, qc)) : Kw) = #[.int .i64 y.1.n, .int .i64 y.1.o, .slice QA qm qc] := by have := zq.len; show #[_, _, Value.slice QA q'.length qc] = _; rw [← this]
              rw [hkc] at HPU
              have HQL := Lib.hid hql
              have HZQ := Lib.hid zq
              clear HZ k35 k65 B5 k11 hB hlt hkm hq' hkc hql zq hqm
              go_wp2_with fail
              refine HPU.out.mono ?_
              clear HPU
              rintro e w8 ⟨G2, gm2, gc2, rfl, rg, bb⟩
              have rg0 := rg
              have rg := rg.down Bc.size
              have zq8 := HZQ.out.below bb (Nat.le_refl _)
              have k38 := k3.below bb k3.lt
              have k68 := k6.below bb k6.lt
              have B8 := Bc.trans (bb.mono Bc.size)
              have q3 : w8.cell? ⟨w.heap.size, 1, none⟩ = some (.slice A2 m2 c2) := k38.cell 1
              have f3 := k38.frozen 1
              have n7 : But w.heap.size w8 (w8.setCell ⟨w.heap.size, 1, none⟩ (.slice G2 gm2 gc2)) := (But.refl w.heap.size w8).setCell (p := ⟨w.heap.size, 1, none⟩) (.inl rfl) _
              have k37 : Blk (w8.setCell ⟨w.heap.size, 1, none⟩ (.slice G2 gm2 gc2)) w.heap.size (scC A m c G2 gm2 gc2) 25 := k38.set_ 1 _
              have k67 := n7.blk7 k68 (by omega)
              have hgb : ∀ a, G2 = some a → w.heap.size ≤ a.block ∧ a.block ≠ w.heap.size ∧ a.block ≠ w.heap.size + 1 := fun a e => (by have := rg0.base e; exact ⟨by omega, by omega, by omega⟩)
              have rg7 : RoK _ w.heap.size G2 gm2 gc2 _ := own_kind rg (grown_but n7) (fun g' e => by cases e; exact ⟨_, _, k38, by decide⟩)
              have zq7 : Zo _ wb.heap.size QA qm qc q' := own_kind zq8 (grown_but n7) (fun g' e => by cases e; exact ⟨_, _, k38, by decide⟩)
              have B7 := B8.trans (n7.below _ (Nat.le_refl _) B8.size)
              have qT : (w8.setCell ⟨w.heap.size, 1, none⟩ (.slice G2 gm2 gc2)).cell? ⟨w.heap.size, 0, none⟩ = some (.slice A m c) := k37.cell 0
              have HZ := Lib.hid (And.intro rg7 (And.intro zq7 hgb))
              clear bb k3 k6 Bc rg rg0 zq8 n7 rg7 zq7 k38 k68 B8 hgb
              go_wp2_with fail
              try clear q3
              try clear f3
              try clear q10_
              try clear q11_
              try clear q12_
              try clear qy
              generalize w8.setCell ⟨w.heap.size, 1, none⟩ (.slice G2 gm2 gc2) = W1 at HZ k37 k67 B7 qT ⊢
              have hs8 := HS.out.on B7
              have sc1 : Sc W1 W1.heap.size A m c R G2 gm2 gc2 (putG numK ((⟨y.1.n, y.1.o, q'⟩, (QA, qc)) : Kw) (y.1.o == 0) L) := by
                have rgz := HZ.out.1
                have zqz := HZ.out.2.1
                have rgl := rgz.len
                have hgm : gm2 ≤ L.length + 1 := by rw [rgl]; exact Nat.le_trans (putG_len numK _ L _) (by split <;> omega)
                exact ⟨hs8.rs, rgz.rs, fun z hz9 => (by
                  rcases putG_mem numK _ hz9 with rfl | hz9
                  · have hcp := zqz.cap
                    have hln := zqz.len
                    exact ⟨zqz.ri, by show q'.length ≤ qc; omega, HQL.out⟩
                  · exact hs8.q z hz9), hs8.len, rgl, hs8.lim, by have := HS.out.len2; omega⟩
              have av1 : Avd (fun g => g = w.heap.size ∨ g = w.heap.size + 1) A G2 R (putG numK ((⟨y.1.n, y.1.o, q'⟩, (QA, qc)) : Kw) (y.1.o == 0) L) := by
                have av0 : Avd (fun g => g = w.heap.size ∨ g = w.heap.size + 1) A A2 R L := avd_below HS.out (fun g hg => by rcases hg with rfl | rfl <;> omega)
                refine ⟨av0.a, fun _ a e hg => ?_, fun z hz9 hzq a e hg => ?_⟩
                · have := HZ.out.2.2 a e; rcases hg with hg | hg <;> omega
                · rcases putG_mem numK _ hz9 with rfl | hz9
                  · have := HZ.out.2.1.base e; rcases hg with hg | hg <;> omega
                  · exact av0.q z hz9 hzq a e hg
              clear hs8
              have k3 := k37
              have k6 := k67
              have B := B7
              have hlk : (putG numK ((⟨y.1.n, y.1.o, q'⟩, (QA, qc)) : Kw) (y.1.o == 0) L).length ≤ 100 := Nat.le_trans (putG_len numK _ L _) (by have := HS.out.len2; split <;> omega)
              generalize putG numK ((⟨y.1.n, y.1.o, q'⟩, (QA, qc)) : Kw) (y.1.o == 0) L = L1 at sc1 av1 HK1 hlk
              clear HZ HZQ HQL HS HYM HYN HYR HSM k37 k67 B7 hk
              have HR := Lib.hid (show r = ((passUp id (putG numR ⟨id, 2, 0⟩ false R, L1.map (·.1)) 40).1, (passUp id (putG numR ⟨id, 2, 0⟩ false R, L1.map (·.1)) 40).2, 0) by rw [HRa.out, HK1.out])
              clear HRa HK1
              have HPR := Lib.hid (put_R A m c R ⟨id, 2, 0⟩ W1 (sc1.rs.more (Nat.le_refl _)) sc1.len (by omega))
              have HSC := Lib.hid (And.intro sc1 av1)
              clear sc1 av1
              refine HPR.out.mono ?_
              clear HPR qT
              rintro e w8 ⟨G, gm, gc, rfl, rr, bb⟩
              have h6l := k6.lt
              have k38 := k3.below bb k3.lt
              have k68 := k6.below bb k6.lt
              have sc8 := HSC.out.1.on bb
              have B8 := B.trans (bb.mono B.size)
              have q3 : w8.cell? ⟨w.heap.size, 0, none⟩ = some (.slice A m c) := k38.cell 0
              have f3 := k38.frozen 0
              have n7 : But w.heap.size w8 (w8.setCell ⟨w.heap.size, 0, none⟩ (.slice G gm gc)) := (But.refl w.heap.size w8).setCell (p := ⟨w.heap.size, 0, none⟩) (.inl rfl) _
              have k37 : Blk (w8.setCell ⟨w.heap.size, 0, none⟩ (.slice G gm gc)) w.heap.size (scC G gm gc G2 gm2 gc2) 25 := k38.set_ 0 _
              have k67 := n7.blk7 k68 (by omega)
              have hbs : ∀ a, G = some a → W1.heap.size ≤ a.block := fun a e => rr.base e
              have rr7 : RoR _ W1.heap.size G gm gc _ := own_kind rr (grown_but n7) (fun g' e => by cases e; exact ⟨_, _, k38, by decide⟩)
              have sc7 := sc8.avd HSC.out.2 n7 (.inl rfl)
              have B7 := B8.trans (n7.below _ (Nat.le_refl _) B8.size)
              have hg7 := Nat.le_trans bb.size n7.size
              have hpl : (putG numR (⟨id, 2, 0⟩ : Rn) false R).length ≤ R.length + 1 := Nat.le_trans (putG_len numR _ R false) (by simp)
              have EN := Lib.hid (show EnW w id (putG numR ⟨id, 2, 0⟩ false R, L1.map (·.1)) (w8.setCell ⟨w.heap.size, 0, none⟩ (.slice G gm gc)) 0 G gm gc (putG numR ⟨id, 2, 0⟩ false R) G2 gm2 gc2 L1 from
                ⟨⟨rr7.rs, sc7.ks, sc7.q, rr7.len, sc7.len2, by have := rr7.len; have := sc7.len; omega, sc7.lim2⟩,
                 ⟨fun _ a e hg => by have := hbs a e; rcases hg with hg | hg <;> omega, HSC.out.2.a2, HSC.out.2.q⟩, rfl, k37, k67, B7, by have := sc7.len; omega, by have := sc7.len2; omega⟩)
              clear bb k3 k6 B k38 k68 B8 n7 k37 k67 rr rr7 sc7 sc8 B7 hg7 hbs hpl
              go_wp2_with fail
              try clear q3
              try clear f3
              generalize w8.setCell ⟨w.heap.size, 0, none⟩ (.slice G gm gc) = w9 at EN ⊢
              go_loopw [12] (fun iv wr' => ∃ (j : Nat) (wr : World) (C : Option Addr) (cm cc : Nat) (R5 : List Rn) (E : Option Addr) (em ec : Nat) (L5 : List Kw), wr = wr' ∧ j ≤ 40 ∧ iv = .int .i64 ((j : Int) + 1) ∧ Hid (EnW w id (putG numR ⟨id, 2, 0⟩ false R, L1.map (·.1)) wr j C cm cc R5 E em ec L5)) (fun iv _ => 41 - (intOf iv).toNat)
              case atStart => exact ⟨0, _, G, gm, gc, _, G2, gm2, gc2, L1, rfl, Nat.zero_le _, rfl, EN⟩
              case round =>
                clear EN
                obtain ⟨j, wr, C, cm, cc, R5, E, em, ec, L5, hwr, hj, rfl, EN⟩ := hrel
                subst hwr
                by_cases hlt : j < 40
                · have hle : (j : Int) + 1 ≤ 40 := by omega
                  have k30 := EN.out.k3
                  have HFK := Lib.hid (find_K C cm cc R5 E em ec L5 ((j : Int) + 1) wr EN.out.sc)
                  have HNO := Lib.hid (fun (V : World) (e : EnW w id (putG numR ⟨id, 2, 0⟩ false R, L1.map (·.1)) V j C cm cc R5 E em ec L5) => e.no)
                  have HYE := Lib.hid (fun (V W5 W6 : World) (v : Value) (e : EnW w id (putG numR ⟨id, 2, 0⟩ false R, L1.map (·.1)) V j C cm cc R5 E em ec L5) hn => fun {A7 m7 c7 R7 A8 m8 c8 L7} hr s a b k n => EnW.yes (w5 := W5) (w6 := W6) (v := v) e hn (A7 := A7) (m7 := m7) (c7 := c7) (R7 := R7) (A8 := A8) (m8 := m8) (c8 := c8) (L7 := L7) hr s a b k n)
                  unfold scV kwV at HFK
                  obtain ⟨⟨z, zb⟩, hz⟩ : ∃ p, fndK L5 ((j : Int) + 1) = p := ⟨_, rfl⟩
                  rw [hz] at HFK HNO HYE
                  clear hz
                  simp only at HFK HNO HYE
                  have hkw : ∀ V W6 : World, True := fun _ _ => trivial
                  clear hkw
                  cases zb
                  · go_wp2_with (first
                      | (refine wpList_load_row rfl 25 (.tmp 2) rfl w.heap.size rfl 25 (scC C cm cc E em ec) (0, 0) _ k30.blk Try.underlying25 rfl (sc_inf _ _ _ _ _ _) ?_)
                      | (refine HFK.out.mono ?_
                         clear HFK
                         rintro e v1 ⟨rfl, bb⟩
                         have EN1 := Lib.hid (EN.out.keep bb)
                         clear bb k30)
                      | (refine wpList_store_blk rfl 48 (.tmp 13) (.tmp 87) rfl v1.heap.size (kwC kw0) (kwC z) 48 rfl rfl (Blk.new _ _ _) rfl (kw_inf z) (kw_one z) ?_
                         intro v2 kb2 nb2
                         have EN2 := Lib.hid (EN1.out.keep (((Below.refl _ v1).alloc (Nat.le_refl _) _).trans (nb2.below _ (Nat.le_refl _) (by simp))))
                         have k32 := EN2.out.k3
                         have qo : v2.cell? ⟨v1.heap.size, 1, none⟩ = some (.int .i64 z.1.o) := kb2.cell 1
                         clear nb2 kb2 EN1))
                    go_roundw
                    case rel => exact ⟨j + 1, _, C, cm, cc, R5, E, em, ec, L5, rfl, by omega, by go_num, Lib.hid (HNO.out _ EN2.out (by rfl))⟩
                    case measure => simp [intOf]; omega
                  · cases ho : (z.1.o == id)
                    · go_wp2_with (first
                        | (refine wpList_load_row rfl 25 (.tmp 2) rfl w.heap.size rfl 25 (scC C cm cc E em ec) (0, 0) _ k30.blk Try.underlying25 rfl (sc_inf _ _ _ _ _ _) ?_)
                        | (refine HFK.out.mono ?_
                           clear HFK
                           rintro e v1 ⟨rfl, bb⟩
                           have EN1 := Lib.hid (EN.out.keep bb)
                           clear bb k30)
                        | (refine wpList_store_blk rfl 48 (.tmp 13) (.tmp 87) rfl v1.heap.size (kwC kw0) (kwC z) 48 rfl rfl (Blk.new _ _ _) rfl (kw_inf z) (kw_one z) ?_
                           intro v2 kb2 nb2
                           have EN2 := Lib.hid (EN1.out.keep (((Below.refl _ v1).alloc (Nat.le_refl _) _).trans (nb2.below _ (Nat.le_refl _) (by simp))))
                           have k32 := EN2.out.k3
                           have qo : v2.cell? ⟨v1.heap.size, 1, none⟩ = some (.int .i64 z.1.o) := kb2.cell 1
                           clear nb2 kb2 EN1))
                      go_roundw
                      case rel => exact ⟨j + 1, _, C, cm, cc, R5, E, em, ec, L5, rfl, by omega, by go_num, Lib.hid (HNO.out _ EN2.out (by rw [ho]; rfl))⟩
                      case measure => simp [intOf]; omega
                    · go_wp2_with (first
                        | (refine wpList_load_row rfl 25 (.tmp 2) rfl w.heap.size rfl 25 (scC C cm cc E em ec) (0, 0) _ k30.blk Try.underlying25 rfl (sc_inf _ _ _ _ _ _) ?_)
                        | (refine HFK.out.mono ?_
                           clear HFK
                           rintro e v1 ⟨rfl, bb⟩
                           have EN1 := Lib.hid (EN.out.keep bb)
                           clear bb k30)
                        | (refine wpList_store_blk rfl 48 (.tmp 13) (.tmp 87) rfl v1.heap.size (kwC kw0) (kwC z) 48 rfl rfl (Blk.new _ _ _) rfl (kw_inf z) (kw_one z) ?_
                           intro v2 kb2 nb2
                           have EN2 := Lib.hid (EN1.out.keep (((Below.refl _ v1).alloc (Nat.le_refl _) _).trans (nb2.below _ (Nat.le_refl _) (by simp))))
                           have k32 := EN2.out.k3
                           have qo : v2.cell? ⟨v1.heap.size, 1, none⟩ = some (.int .i64 z.1.o) := kb2.cell 1
                           clear nb2 kb2 EN1)
                        | (refine wpList_load_row rfl 25 (.tmp 2) rfl w.heap.size rfl 25 (scC C cm cc E em ec) (0, 0) _ k32.blk Try.underlying25 rfl (sc_inf _ _ _ _ _ _) ?_)
                        | (have HPS := pass_sc C cm cc R5 E em ec L5 ((j : Int) + 1) v2 (fun g => g = w.heap.size ∨ g = w.heap.size + 1) (fun g hg => by have := EN2.out.k6.lt; rcases hg with rfl | rfl <;> omega) EN2.out.sc EN2.out.av (by have := EN2.out.lr; have := EN2.out.sc.len; omega) (by have := EN2.out.lk; have := EN2.out.sc.len2; omega)
                           unfold scV at HPS
                           refine HPS.mono ?_
                           clear HPS
                           rintro e v3 ⟨v, rfl, ⟨A7, m7, c7, A8, m8, c8, L7, rfl, sc7, hn7, av7⟩, bb⟩
                           unfold scV
                           have k33 := k32.below bb k32.lt
                           have H7 := Lib.hid (And.intro sc7 (And.intro hn7 (And.intro av7 bb)))
                           clear sc7 hn7 av7 bb k32)
                        | (refine wpList_store_blk rfl 25 (.tmp 2) (.tmp 98) rfl w.heap.size (scC C cm cc E em ec) (scC A7 m7 c7 A8 m8 c8) 25 rfl rfl k33 rfl (sc_inf _ _ _ _ _ _) (sc_one _ _ _ _ _ _) ?_
                           intro v4 k34 n4
                           have EN4 := Lib.hid (HYE.out _ _ _ (.int .i64 0) EN2.out (by rw [ho]; rfl) (by rw [H7.out.2.1]) H7.out.1 H7.out.2.2.1 H7.out.2.2.2 k34 n4)
                           clear n4 k33 k34))
                      go_roundw
                      case rel => exact ⟨⟨j + 1, by omega, by omega, A7, m7, c7, _, A8, m8, c8, L7, EN4⟩, rfl⟩
                      case measure => simp [intOf]; omega
                · have hgt : ¬ ((j : Int) + 1 ≤ 40) := by omega
                  have hj40 : j = 40 := by omega
                  subst hj40
                  clear hlt
                  have k39 := EN.out.k3
                  go_wp2_with (first
                    | (refine wpList_load_row rfl 25 (.tmp 2) rfl w.heap.size rfl 25 (scC C cm cc E em ec) (0, 0) _ k39.blk Try.underlying25 rfl (sc_inf _ _ _ _ _ _) ?_)
                    | (refine wpList_store_blk rfl 25 (.tmp 4) (.tmp 99) rfl (w.heap.size + 1) (scC none 0 0 none 0 0) (scC C cm cc E em ec) 25 rfl rfl EN.out.k6 rfl (sc_inf _ _ _ _ _ _) (sc_one _ _ _ _ _ _) ?_
                       intro wz hz nz))
                  refine bodyPost_ret (results_row_tmp rfl _ _ (w.heap.size + 1) 25 (scC C cm cc E em ec) (0, 0) _ rfl hz.blk Try.underlying25 rfl (sc_inf _ _ _ _ _ _) _ rfl) rfl ?_
                  have ez := EN.out.e
                  exact ⟨_, by rw [HR.out]; rfl, by rw [HR.out]; exact ⟨C, cm, cc, E, em, ec, L5, rfl, by rw [← ez]; exact EN.out.sc.avd EN.out.av nz (.inr rfl), by rw [← ez]⟩, EN.out.b.trans (nz.below _ (by omega) EN.out.b.size)⟩
      · have HR := Lib.hid (show r = ([], [], 4) by rw [HR0.out, if_pos rfl, if_pos (by rw [hs2]; rfl)])
        clear HR0
        go_wp2_with (first
          | (refine wpList_load_row rfl 25 (.tmp 2) rfl w.heap.size rfl 25 (scC A m c A2 m2 c2) (0, 0) _ k30.blk Try.underlying25 rfl (sc_inf _ _ _ _ _ _) ?_)
          | (refine (HRT.out _ B0).mono ?_
             clear HRT
             rintro e w1 ⟨rfl, bb⟩
             have k31 := k30.below bb k30.lt
             have k61 := k60.below bb k60.lt
             have B1 := B0.trans (bb.mono B0.size)
             clear bb k30 k60 B0)
          | (refine wpList_load_row rfl 25 (.tmp 2) rfl w.heap.size rfl 25 (scC A m c A2 m2 c2) (0, 0) _ k31.blk Try.underlying25 rfl (sc_inf _ _ _ _ _ _) ?_)
          | (refine (HFR.out _ B1).mono ?_
             clear HFR
             rintro e w2 ⟨rfl, bb⟩
             have k32 := k31.below bb k31.lt
             have k62 := k61.below bb k61.lt
             have B2 := B1.trans (bb.mono B1.size)
             clear bb k31 k61 B1)
          | (refine wpList_store_blk rfl 52 (.tmp 6) (.tmp 23) rfl w2.heap.size (rnC rn0) (rnC x) 52 rfl rfl (Blk.new _ _ _) rfl (rn_inf x) (rn_one x) ?_
             intro w3 kb3 nb3
             have bb : Below w2.heap.size w2 w3 := ((Below.refl _ w2).alloc (Nat.le_refl _) _).trans (nb3.below _ (Nat.le_refl _) (by simp))
             have k33 := k32.below bb k32.lt
             have k63 := k62.below bb k62.lt
             have B3 := B2.trans (bb.mono B2.size)
             have q8 : w3.cell? ⟨w2.heap.size, 1, none⟩ = some (.int .i64 x.s) := kb3.cell 1
             have q9 : w3.cell? ⟨w2.heap.size, 2, none⟩ = some (.int .i64 x.n) := kb3.cell 2
             clear bb nb3 kb3 k32 k62 B2)
          | (refine wpList_store_blk rfl 25 (.tmp 4) (.tmp 32) rfl (w.heap.size + 1) (scC none 0 0 none 0 0) (scC none 0 0 none 0 0) 25 rfl rfl k63 rfl (sc_inf _ _ _ _ _ _) (sc_one _ _ _ _ _ _) ?_
             intro wz hz nz
             have Bz := B3.trans (nz.below _ (by omega) B3.size)
             clear nz k63 k33 B3))
        refine bodyPost_ret (results_row_tmp rfl _ _ (w.heap.size + 1) 25 (scC none 0 0 none 0 0) (0, 0) _ rfl hz.blk Try.underlying25 rfl (sc_inf _ _ _ _ _ _) _ rfl) rfl ?_
        exact ⟨_, by rw [HR.out]; rfl, by rw [HR.out]; exact scQ_nil wz, Bz⟩
end Go.Proofs.Ytfohifnbohdbcaa
namespace Go.Proofs.Ytfohifnbohdbcaa
open Go.RowKit Go.Shelf
set_option linter.unusedVariables false
set_option linter.unusedSimpArgs false
theorem putG_true {α : Type} (num : α → Int) (x : α) : ∀ (L : List α), putG num x true L = L.filter (fun y => num y != num x)
  | [] => rfl
  | y :: L => by
    rw [putG, List.filter_cons, Bool.true_or, putG_true num x L]
    cases (num y != num x) <;> simp
theorem filt_all {α : Type} (num : α → Int) (a : Int) {L : List α} (h : ∀ z ∈ L, num z ≠ a) : L.filter (fun y => num y != a) = L := List.filter_eq_self.2 fun z hz => by simpa using h z hz
theorem less_consLt {l : List Int} {x y : Int} (h : y < x) : lessP (y :: l) x = lessP l x + 1 := by unfold lessP; rw [List.countP_cons_of_pos (by simpa using h)]
theorem less_cons0 {l : List Int} {x y : Int} (hu : (y :: l).Pairwise (· < ·)) (h : x ≤ y) : lessP (y :: l) x = 0 := by
  unfold lessP
  rw [List.countP_eq_zero]
  intro z hz
  rw [List.pairwise_cons] at hu
  rcases List.mem_cons.1 hz with rfl | hz
  · simp; omega
  · have := hu.1 z hz
    simp; omega
theorem putG_false {α : Type} (num : α → Int) (x : α) : ∀ {L : List α}, (L.map num).Pairwise (· < ·) → putG num x false L = if (L.map num).contains (num x) = true then L.set (lessP (L.map num) (num x)) x else insL (lessP (L.map num) (num x)) x L
  | [], _ => rfl
  | y :: L, hu => by
    have hu' := hu
    rw [List.map_cons, List.pairwise_cons] at hu
    rw [putG]
    by_cases h1 : num x ≤ num y
    · have hall : ∀ z ∈ L, num z ≠ num x := fun z hz e => by
        have := hu.1 (num z) (List.mem_map.2 ⟨z, hz, rfl⟩)
        omega
      have hl : lessP ((y :: L).map num) (num x) = 0 := by rw [List.map_cons]; exact less_cons0 (by rw [← List.map_cons]; exact hu') h1
      rw [decide_eq_true h1, hl, Bool.not_false, Bool.true_and, if_pos rfl, Bool.false_or, putG_true, filt_all num _ hall]
      by_cases h2 : num y = num x
      · rw [if_neg (by simp [h2]), if_pos (by simp [h2])]
        rfl
      · have hc : ¬ ((y :: L).map num).contains (num x) = true := by
          rw [List.contains_iff_mem, List.map_cons, List.mem_cons]
          rintro (h | h)
          · exact h2 h.symm
          · obtain ⟨z, hz, e⟩ := List.mem_map.1 h
            exact hall z hz e
        rw [if_pos (by simpa using h2), if_neg hc]
        rfl
    · have hl : lessP ((y :: L).map num) (num x) = lessP (L.map num) (num x) + 1 := by rw [List.map_cons]; exact less_consLt (by omega)
      have hc : ((y :: L).map num).contains (num x) = (L.map num).contains (num x) := by
        rw [List.map_cons, List.contains_cons, show (num x == num y) = false by simp; omega, Bool.false_or]
      rw [decide_eq_false h1, hl, hc, Bool.and_false, if_neg (by simp), if_pos (by simp; omega), Bool.or_false, putG_false num x hu.2]
      split
      · rfl
      · rfl
theorem filt_del {α : Type} (num : α → Int) (n : Int) : ∀ {L : List α}, (L.map num).Pairwise (· < ·) → (L.map num).contains n = true → L.filter (fun y => num y != n) = delL (lessP (L.map num) n) L
  | [], _, h => by cases h
  | y :: L, hu, hc => by
    have hu' := hu
    rw [List.map_cons, List.pairwise_cons] at hu
    rw [List.filter_cons]
    by_cases h1 : n ≤ num y
    · have h2 : num y = n := by
        rw [List.contains_iff_mem, List.map_cons, List.mem_cons] at hc
        rcases hc with h | h
        · exact h.symm
        · have := hu.1 n h; omega
      have hl : lessP ((y :: L).map num) n = 0 := by rw [List.map_cons]; exact less_cons0 (by rw [← List.map_cons]; exact hu') h1
      rw [hl, if_neg (by simp [h2]), filt_all num n (fun z hz e => by have := hu.1 (num z) (List.mem_map.2 ⟨z, hz, rfl⟩); omega)]
      rfl
    · have hl : lessP ((y :: L).map num) n = lessP (L.map num) n + 1 := by rw [List.map_cons]; exact less_consLt (by omega)
      have hc2 : (L.map num).contains n = true := by
        rw [List.map_cons, List.contains_cons, show (n == num y) = false by simp; omega, Bool.false_or] at hc
        exact hc
      rw [hl, if_pos (by simp; omega), filt_del num n hu.2 hc2]
      rfl
structure Fit (R : List Rn) (K : List Kn) : Prop where
  ok : Okd R K
  th : Thr R K
  ow : ∀ x ∈ K, x.o ≠ 0
theorem fit_of {w : World} {B : Nat} {A : Option Addr} {m c : Nat} {R : List Rn} {A2 : Option Addr} {m2 c2 : Nat} {L : List Kw} (h : Sc w B A m c R A2 m2 c2 L) (hs : schB R L = true) : Fit R (L.map (·.1)) := by
  have hc : scE R L = 0 := by unfold scE; rw [if_pos hs]
  have ok := okd_of h hc
  have th := thr_of hs
  refine ⟨ok, th, fun x hx e => ?_⟩
  obtain ⟨y, hy, rfl⟩ := List.mem_map.1 hx
  unfold schB at hs
  simp only [Bool.and_eq_true, List.all_eq_true] at hs
  have h1 := hs.2.2.2.2.1 y hy
  unfold ownB at h1
  rw [Bool.and_eq_true, e] at h1
  have := (lives_in ok.ur h1.1).1
  rw [th.2] at this
  cases this
theorem lives_fnd (R : List Rn) (id : Int) : livesB R id = ((fndR R id).2 && !((fndR R id).1.s == 2)) := by
  unfold livesB fndR
  cases runF R id <;> rfl
theorem fndK_yes {L : List Kw} {n : Int} (hu : UpK L) (h : (numsK L).contains n = true) : fndK L n = (L.getD (lessP (numsK L) n) kw0, true) := by
  obtain ⟨_, _, e⟩ := lockF_some hu h
  unfold fndK
  rw [e]
theorem fndR_yes {R : List Rn} {n : Int} (hu : UpR R) (h : (numsR R).contains n = true) : fndR R n = (R.getD (lessP (numsR R) n) rn0, true) := by
  obtain ⟨_, _, e⟩ := runF_some hu h
  unfold fndR
  rw [e]
theorem pass_give {R : List Rn} {L : List Kw} {n : Int} (f : Fit R (L.map (·.1))) (hct : (numsK L).contains n = true) : passN R (L.map (·.1)) n = giveN R (L.map (·.1)) n := by
  have uk : UpK L := by show (numsK L).Pairwise (· < ·); rw [numsK_names]; exact f.ok.uk
  obtain ⟨hk2, hn2, _⟩ := lockF_some uk hct
  have hfn := fndK_N L n
  rw [fndK_yes uk hct] at hfn
  have hm : (L.getD (lessP (numsK L) n) kw0).1 ∈ L.map (·.1) := by rw [← fst_getD]; exact getD_memK _ (by rw [List.length_map]; exact hk2)
  unfold passN giveN
  rw [← hfn, ← numsK_names, fst_getD]
  rcases hq : (L.getD (lessP (numsK L) n) kw0).1.q with _ | ⟨h, t⟩
  · simp only
    rw [putG_true, filt_del (fun x : Kn => x.n) n f.ok.uk (by rw [← numsK_names]; exact hct), ← numsK_names]
  · simp only
    have hh : (numsR R).contains h = true := f.th.1 _ hm h (by rw [hq]; exact List.mem_cons_self ..)
    have h0 : (h == 0) = false := by
      cases h9 : (h == 0)
      · rfl
      · rw [show h = 0 by simpa using h9, f.th.2] at hh; cases hh
    have hp := putG_false (·.n) (⟨n, h, t⟩ : Kn) (L := L.map (·.1)) f.ok.uk
    rw [← numsK_names, hct, if_pos rfl] at hp
    have hp2 := putG_false numR (⟨h, 0, 0⟩ : Rn) (L := R) f.ok.ur
    rw [show R.map numR = numsR R from rfl, show numR (⟨h, 0, 0⟩ : Rn) = h from rfl, hh, if_pos rfl] at hp2
    rw [h0, hp, hp2, hn2]
end Go.Proofs.Ytfohifnbohdbcaa
