/-
  The walk of TaskDoes.
-/
import Derived.Test.YtlelhhgggnjndaaGreatQTsO
import Derived.Test.YtlelhhgggnjndaaGreatQTpB
import Derived.Test.YtlelhhgggnjndaaGreatQTrA
import Derived.Deep.MidRow
import Derived.Deep.CutRange
import Derived.Deep.CutBlock
namespace Go.Proofs.YtlelhhgggnjndaaGreat
open Go.RowKit Go.Shelf
set_option linter.unusedVariables false
set_option linter.unusedSimpArgs false
def nmX (x : Tx) : Int × List Int × List Pn := (x.a, x.U, x.L.map (·.1))
def TxO (V : World) (B : Nat) (x : Tx) : Prop := OwnT V B x.Ua x.um x.uc x.U x.A x.m x.c x.L
def TxW (V : World) (B : Nat) (x : Tx) : Prop := OwnW V B x.Ua x.um x.uc x.U x.A x.m x.c x.L
def TxK (V : World) (x : Tx) : Prop := Tk V V.heap.size x.Ua x.um x.uc x.U x.A x.m x.c x.L
abbrev SmX (x : Tx) : Prop := Sma x.U (x.L.map (·.1))
theorem sma_of {x y : Tx} (h : SmX x) (e : nmX y = nmX x) : SmX y := by
  unfold nmX at e
  injection e with _ e
  injection e with e1 e2
  unfold SmX
  rw [e1, e2]
  exact h
theorem cnt_sma : ∀ {P : List Pn}, (∀ x ∈ P, x.t.length ≤ 10) → cntT P ≤ 10 * P.length
  | [], _ => by simp [cntT]
  | x :: P, h => by
    have h1 := cnt_sma (P := P) (fun y hy => h y (List.mem_cons_of_mem _ hy))
    have h2 := h x (List.mem_cons_self ..)
    unfold cntT at *
    simp only [List.map_cons, List.sum_cons, List.length_cons]
    omega
section
variable {V V' : World} {B B' : Nat} {x y : Tx}
theorem sma_cnt (s : SmX x) : x.L.length ≤ 7 ∧ cntT (x.L.map (·.1)) ≤ 70 ∧ (tidF x.L).length ≤ 1000 ∧ ∀ j, (x.L.getD j pw0).1.t.length ≤ 1000000 := by
  have h1 := s.p
  rw [List.length_map] at h1
  have h2 := cnt_sma s.t
  rw [List.length_map] at h2
  refine ⟨h1, by omega, by rw [tid_len, thr_cnt 0]; omega, fun j => ?_⟩
  by_cases hj : j < x.L.length
  · have := s.t (x.L.getD j pw0).1 (List.mem_map.2 ⟨_, by rw [List.getD, List.getElem?_eq_getElem hj]; exact List.getElem_mem hj, rfl⟩)
    omega
  · rw [List.getD, List.getElem?_eq_none (Nat.not_lt.1 hj)]
    simp [pw0, pn0]
theorem TxO.k (h : TxO V B x) (s : SmX x) : TxK V x := by
  obtain ⟨h1, h2, _, _⟩ := sma_cnt s
  have hu := s.u
  have hl := OwnT.u h |>.len
  have hp := OwnT.p h |>.len
  refine OwnT.tk h (by omega) (by omega) (fun z hz => ?_) (by rw [thr_cnt 0]; omega)
  have := cnt_le (P := x.L.map (·.1)) (x := z.1) (List.mem_map.2 ⟨z, hz, rfl⟩)
  omega
theorem TxW.k (h : TxW V B x) (s : SmX x) : TxK V x := by
  obtain ⟨h1, h2, _, _⟩ := sma_cnt s
  have hu := s.u
  have hl := OwnW.u h |>.len
  have hp := OwnW.p h |>.len
  exact OwnW.tk h (by omega) (by omega) (by omega)
theorem zo_max {A : Option Addr} {m c : Nat} {l : List Int} (h : Zo V B A m c l) : c ≤ maxLen := by
  rcases h.form with ⟨_, _, rfl, _⟩ | ⟨_, _, _, _, _, _, _, h, _⟩
  · exact Nat.zero_le _
  · exact h
theorem TxO.i (h : TxO V B x) : TxI V V.heap.size x := by
  have hc : x.c ≤ maxLen := by
    rcases (OwnT.p h).form with ⟨_, _, e, _⟩ | ⟨_, _, _, _, _, _, _, e, _⟩
    · rw [e]; exact Nat.zero_le _
    · exact e
  exact ⟨(OwnT.u h).ri, (OwnT.u h).len, (OwnT.u h).cap, zo_max (OwnT.u h), ⟨fun k hk => (OwnT.p h).rs k hk, fun z hz => ⟨((OwnT.q h) z hz).ri, ((OwnT.q h) z hz).cap, zo_max ((OwnT.q h) z hz)⟩⟩, (OwnT.p h).len, (OwnT.p h).cap, hc⟩
theorem TxO.bl (h : TxO V B x) (b : Below V.heap.size V V') : TxO V' B x := OwnT.below h b (Nat.le_refl _)
theorem TxW.bl (h : TxW V B x) (b : Below V.heap.size V V') : TxW V' B x := OwnW.below h b (Nat.le_refl _)
theorem TxO.dn (h : TxO V B x) (hB : B' ≤ B) : TxO V B' x := OwnT.down h hB
theorem short_any (hI : TxI V V.heap.size x) : Calls Tryz.prog 6 #[.agg (txC x)] V fun e w' => ∃ y, e = .returned (.agg (txC y)) ∧ TxO w' V.heap.size y ∧ SmX y ∧ (SmX x → nmX y = nmX x) ∧ Below V.heap.size V w' := by
  refine (short_tk x V hI).mono ?_
  rintro e w' ⟨Ua, um, uc, A, m, c, L, rfl, o, hn, bb⟩
  refine ⟨⟨x.a, Ua, um, uc, x.U.take 22, A, m, c, L⟩, rfl, o, ⟨?_, ?_, ?_⟩, fun s => ?_, bb⟩
  · simp only [List.length_take]; omega
  · show (L.map (·.1)).length ≤ 7
    rw [hn, List.length_map, List.length_take]; omega
  · intro z hz
    have hz : z ∈ L.map (·.1) := hz
    rw [hn] at hz
    obtain ⟨v, _, rfl⟩ := List.mem_map.1 hz
    unfold shP
    simp only [List.length_take]; omega
  · unfold nmX
    simp only
    rw [hn, List.take_of_length_le s.u, List.take_of_length_le s.p]
    congr 2
    conv => rhs; rw [← List.map_id (x.L.map (·.1))]
    exact List.map_congr_left fun z hz => by unfold shP; rw [List.take_of_length_le (s.t z hz)]; rfl
theorem same_any (hx : TxK V x) (hy : TxK V y) (e : nmX x = nmX y) : Calls Tryz.prog 10 #[.agg (txC x), .agg (txC y)] V fun e w' => e = .returned (.bool true) ∧ Below V.heap.size V w' := by
  unfold nmX at e
  injection e with e1 e2
  injection e2 with e2 e3
  have := rsame_tk x.a x.Ua x.um x.uc x.U x.A x.m x.c x.L y.a y.Ua y.um y.uc y.U y.A y.m y.c y.L V hx hy
  rw [show (x.a == y.a) = true by simpa using e1, show (x.U == y.U) = true by simpa using e2, show nmE x.L y.L = true from decide_eq_true e3] at this
  exact this
theorem copy_any (hx : TxK V x) : Calls Tryz.prog 11 #[.agg (txC x)] V fun e w' => ∃ y, e = .returned (.agg (txC y)) ∧ TxO w' V.heap.size y ∧ nmX y = nmX x ∧ Below V.heap.size V w' := by
  refine (rcopy_tk x.a x.Ua x.um x.uc x.U x.A x.m x.c x.L V hx).mono ?_
  rintro e w' ⟨Ua, um, uc, A, m, c, M, rfl, o, hn, bb⟩
  exact ⟨⟨x.a, Ua, um, uc, x.U, A, m, c, M⟩, rfl, o, by unfold nmX; simp only; rw [hn], bb⟩
theorem id_any (q : Opn) (hx : TxK V x) (s : SmX x) : Calls Tryz.prog 7 #[.agg (onC q), .agg (txC x)] V fun e w' => ∃ id, e = .returned (.int .i64 id) ∧ Below V.heap.size V w' := by
  obtain ⟨h1, h2, h3, _⟩ := sma_cnt s
  have hl := Tk.pl hx
  exact (opid_tk q.1 q.2.1 q.2.2 x.a x.Ua x.um x.uc x.U x.A x.m x.c x.L V hx h3 (by omega)).mono fun e w' h => ⟨_, h.1, h.2⟩
theorem run_any (q : Opn) (id : Int) {ra rn re : Int} {rU : List Int} {rP : List Pn} (hr : opR q.1 x.a x.U x.L id = ⟨ra, rU, rP, rn, re⟩) (hx : TxK V x) : Calls Tryz.prog 8 #[.agg (onC q), .agg (txC x), .int .i64 id] V fun e w' => ∃ z, e = .returned (.tuple #[.agg (txC z), .int .i64 rn, .int .i64 re]) ∧ TxO w' V.heap.size z ∧ nmX z = (ra, rU, rP) ∧ Below V.heap.size V w' := by
  refine (run_all q.1 q.2.1 q.2.2 x.a x.Ua x.um x.uc x.U x.A x.m x.c x.L id V hx).mono ?_
  rintro e w' ⟨v, he, ⟨Ua, um, uc, A, m, c, M, hv, tk, hn, o⟩, bb⟩
  rw [hr] at he hv hn o
  exact ⟨⟨ra, Ua, um, uc, rU, A, m, c, M⟩, by rw [he, hv]; rfl, o, by unfold nmX; simp only; rw [hn], bb⟩
theorem wants_any (q : Opn) (id : Int) {ra rn re : Int} {rU : List Int} {rP : List Pn} (hr : opR q.1 x.a x.U x.L id = ⟨ra, rU, rP, rn, re⟩) (hx : TxK V x) (s : SmX x) : Calls Tryz.prog 9 #[.agg (onC q), .agg (txC x), .int .i64 id] V fun e w' => ∃ z, e = .returned (.tuple #[.agg (txC z), .int .i64 rn, .int .i64 re]) ∧ TxW w' V.heap.size z ∧ nmX z = (ra, rU, rP) ∧ Below V.heap.size V w' := by
  obtain ⟨h1, h2, h3, _⟩ := sma_cnt s
  have hu := s.u
  have hl := Tk.ul hx
  refine (wants_all q.1 q.2.1 q.2.2 x.a x.Ua x.um x.uc x.U x.A x.m x.c x.L id V hx h3 (by omega)).mono ?_
  rintro e w' ⟨v, he, ⟨Ua, um, uc, A, m, c, M, hv, o, hn⟩, bb⟩
  rw [hr] at he hv hn o
  exact ⟨⟨ra, Ua, um, uc, rU, A, m, c, M⟩, by rw [he, hv]; rfl, o, by unfold nmX; simp only; rw [hn], bb⟩
theorem opR_x {q : Opn} {id : Int} (e : nmX y = nmX x) : opR q.1 y.a y.U y.L id = opR q.1 x.a x.U x.L id := by
  unfold nmX at e
  injection e with e1 e2
  injection e2 with e2 e3
  rw [e1, e2]
  exact opR_nm e3 _ _ _ _
theorem sma_r {q : Opn} {id ra rn re : Int} {rU : List Int} {rP : List Pn} (hr : opR q.1 x.a x.U x.L id = ⟨ra, rU, rP, rn, re⟩) (e : nmX y = (ra, rU, rP)) : SmX y := by
  have h := sma_op q.1 x.a x.U x.L id
  rw [hr] at h
  unfold nmX at e
  injection e with _ e2
  injection e2 with e2 e3
  unfold SmX
  rw [e2, e3]
  exact h
theorem spoil_any (h : TxO V B x) (hB : B ≤ V.heap.size) (s : SmX x) {E : Nat} (hE : LtE E x.Ua x.A (x.L.map (·.2))) : Calls Tryz.prog 12 #[.agg (txC x)] V fun e w' => e = .returned (.tuple #[]) ∧ Kp B E V w' := by
  obtain ⟨h1, h2, _, h4⟩ := sma_cnt s
  have hu := s.u
  have hl := OwnT.u h |>.len
  have hp := OwnT.p h |>.len
  exact spoil_tk x.a x.Ua x.um x.uc x.U x.A x.m x.c x.L B V (OwnT.w h) hB (by omega) (by omega) h4 E hE
end
theorem on_inf (q : Opn) : (Tryz.prog.info? 32).map (·.size) = some (onC q).size := by rw [show (onC q).size = 3 from rfl]; kernel_rfl
theorem on_infL (q : Opn) : (Tryz.prog.info? 32).map (·.size) = some (onC q).toList.length := by rw [Array.length_toList]; exact on_inf q
theorem on_one (q : Opn) : (onC q).all (·.oneCell') = true := by simp [onC, opC, Value.oneCell']
theorem tx_inf (x : Tx) : (Tryz.prog.info? 27).map (·.size) = some (txC x).size := tk_inf _ _ _ _ _ _ _
theorem tx_one (x : Tx) : (txC x).all (·.oneCell') = true := tk_one _ _ _ _ _ _ _
structure LS (w : World) (x : Tx) (V : World) : Prop where
  b : Below w.heap.size w V
  k : Blk V w.heap.size (txC x) 27
  o : TxO V w.heap.size x
  s : SmX x
structure LQ (w : World) (x : Tx) (q : Opn) (g6 : Nat) (V : World) : Prop where
  l : LS w x V
  kq : Blk V g6 (onC q) 32
structure TD (w : World) (x y : Tx) (q : Opn) (g6 g7 : Nat) (V : World) : Prop where
  l : LQ w x q g6 V
  ky : Blk V g7 (txC y) 27
  oy : TxO V w.heap.size y
  sy : SmX y
  e : nmX y = nmX x
structure TE (w : World) (x y : Tx) (q : Opn) (g6 g7 g9 : Nat) (z : Tx) (V0 V : World) : Prop where
  d : TD w x y q g6 g7 V
  bb : Below V0.heap.size V0 V
  kn : Blk V g9 (txC z) 27
  on : TxO V V0.heap.size z
section
variable {w V V' V0 : World} {x y z : Tx} {q : Opn} {g6 g7 g9 : Nat}
theorem LS.step (h : LS w x V) (b : Below V.heap.size V V') : LS w x V' := ⟨h.b.trans (b.mono h.b.size), h.k.below b h.k.lt, h.o.bl b, h.s⟩
theorem LQ.step (h : LQ w x q g6 V) (b : Below V.heap.size V V') : LQ w x q g6 V' := ⟨h.l.step b, h.kq.below b h.kq.lt⟩
theorem TD.step (h : TD w x y q g6 g7 V) (b : Below V.heap.size V V') : TD w x y q g6 g7 V' := ⟨h.l.step b, h.ky.below b h.ky.lt, h.oy.bl b, h.sy, h.e⟩
theorem TE.step (h : TE w x y q g6 g7 g9 z V0 V) (b : Below V.heap.size V V') : TE w x y q g6 g7 g9 z V0 V' := ⟨h.d.step b, h.bb.trans (b.mono h.bb.size), h.kn.below b h.kn.lt, h.on.bl b⟩
theorem alloc_b (V : World) (o : Obj) : Below V.heap.size V (V.alloc o) := (Below.refl _ _).alloc (Nat.le_refl _) _
theorem TxO.kd {B g : Nat} {cs : Array Value} {t : TypeId} (h : TxO V B x) (n : But g V V') (k : Blk V g cs t) (h1 : t ≠ 49) (h2 : t ≠ 3) : TxO V' B x := OwnT.kind h n k h1 h2
theorem TxW.kd {B g : Nat} {cs : Array Value} {t : TypeId} (h : TxW V B x) (n : But g V V') (k : Blk V g cs t) (h1 : t ≠ 49) (h2 : t ≠ 3) : TxW V' B x := OwnW.kind h n k h1 h2
end
set_option maxRecDepth 100000 in
set_option maxHeartbeats 40000000 in
theorem does_law (x0 : Tx) (A : Option Addr) (m c : Nat) (L : List Opn) (w : World) (hx0 : TxI w w.heap.size x0) (hL : OpsI w w.heap.size A L) (hm : m = L.length) (hmx : m ≤ 9223372036854775807) :
    Calls Tryz.prog 3 #[.agg (txC x0), .slice A m c] w fun e w' => e = .returned (.bool true) ∧ Below w.heap.size w w' := by
  have k0 := Blk.new w (txC x0) 27
  have B0 := alloc_b w (.cells (txC x0) 27)
  have HW := Lib.hid (wakes_any (w.alloc (.cells (txC x0) 27)))
  have HM := Lib.hid hm
  have HX0 := Lib.hid hx0
  have HL := Lib.hid hL
  clear hm hx0 hL
  go_enter Tryz.func3, Tryz.ntmps3
  go_wp2_with (first
    | (refine HW.out.mono ?_
       clear HW
       rintro e w1 ⟨rfl, bb⟩
       have k1 := k0.below bb k0.lt
       have B1 := B0.trans (bb.mono B0.size)
       clear bb B0 k0)
    | (refine wpList_load_row rfl 27 (.tmp 2) rfl w.heap.size rfl 27 (txC x0) (0, 0) _ k1.blk Tryz.underlying27 rfl (tx_inf _) ?_)
    | (refine (short_any ((HX0.out.below B1 (Nat.le_refl _)).more B1.size)).mono ?_
       rintro e w2 ⟨x1, rfl, o1, s1, _, bb⟩
       have k2 := k1.below bb k1.lt
       have B2 := B1.trans (bb.mono B1.size)
       have o2 := o1.dn B1.size
       clear bb o1 k1 B1)
    | (refine wpList_store_blk rfl 27 (.tmp 2) (.tmp 18) rfl w.heap.size (txC x0) (txC x1) 27 rfl rfl k2 rfl (tx_inf _) (tx_one _) ?_
       intro w3 k3 n3
       have J0 : LS w x1 w3 := ⟨B2.trans (n3.below _ (Nat.le_refl _) B2.size), k3, o2.kd n3 k2 (by decide) (by decide), s1⟩
       clear k3 n3 k2 o2 s1 B2))
  go_loopw [21] (fun kv wr' => ∃ (k : Nat) (x : Tx) (wr : World), wr = wr' ∧ k ≤ m ∧ kv = .int .i64 k ∧ Hid (LS w x wr)) (fun kv _ => m - (intOf kv).toNat)
  case atStart => exact ⟨0, x1, _, rfl, Nat.zero_le _, rfl, Lib.hid J0⟩
  case round =>
    clear J0
    obtain ⟨k, x, wr, hwr, hk, rfl, HJ⟩ := hrel
    subst hwr
    have J := HJ.out
    clear HJ
    by_cases hlt : k < m
    · have hlt' : (k : Int) < (m : Int) := by omega
      have hkl : k < L.length := by have := HM.out; omega
      obtain ⟨b, off, rfl, hb, hc⟩ := HL.out k hkl
      have hcr : wr.rangeAt b (off + k * 3) _ := range_belowT hc J.b hb
      generalize L.getD k op0 = q at hcr
      have hs3 : (onC q).size = 3 := rfl
      have HKM := Lib.hid hlt
      clear hkl hc hlt
      cases h8 : ((k : Int) == 40)
      · go_upto_region 8 with (first
          | (refine wpList_load_mid rfl 32 (.tmp 24) rfl b (off + k * 3) rfl (onC q).toList _ hcr Tryz.underlying32 rfl (on_infL q) ?_)
          | (refine wpList_store_blk rfl 32 (.tmp 6) (.tmp 25) rfl wr.heap.size (opC 0 0 false) (onC q) 32 rfl rfl (Blk.new _ _ _) rfl (on_inf q) (on_one q) ?_
             intro W1 k6 n1
             have bb : Below wr.heap.size wr W1 := (alloc_b wr _).trans (n1.below _ (Nat.le_refl _) (by simp))
             have J1 : LQ w x q wr.heap.size W1 := ⟨J.step bb, k6⟩
             clear bb n1 k6 J hcr))
        go_wp2_with (first
          | (refine wpList_load_row rfl 27 (.tmp 2) rfl w.heap.size rfl 27 (txC x) (0, 0) _ J1.l.k.blk Tryz.underlying27 rfl (tx_inf _) ?_)
          | (refine (short_any J1.l.o.i).mono ?_
             rintro e W2 ⟨y, rfl, oy, sy, hy, bb⟩
             have hsz := J1.l.b.size
             have HYX := Lib.hid (hy J1.l.s)
             have J2 := J1.step bb
             have oy := oy.dn hsz
             clear bb J1 hsz hy)
          | (refine wpList_store_blk rfl 27 (.tmp 7) (.tmp 29) rfl W2.heap.size (tkC 0 none 0 0 none 0 0) (txC y) 27 rfl rfl (Blk.new _ _ _) rfl (tx_inf _) (tx_one _) ?_
             intro W3 k7 n7
             have bb : Below W2.heap.size W2 W3 := (alloc_b W2 _).trans (n7.below _ (Nat.le_refl _) (by simp))
             have J3 : TD w x y q wr.heap.size W2.heap.size W3 := ⟨J2.step bb, k7, oy.bl bb, sy, HYX.out⟩
             clear bb n7 k7 J2 oy sy HYX)
          | (refine wpList_load_row rfl 32 (.tmp 6) rfl wr.heap.size rfl 32 (onC q) (0, 0) _ J3.l.kq.blk Tryz.underlying32 rfl (on_inf _) ?_)
          | (refine wpList_load_row rfl 27 (.tmp 7) rfl W2.heap.size rfl 27 (txC y) (0, 0) _ J3.ky.blk Tryz.underlying27 rfl (tx_inf _) ?_)
          | (refine (id_any q (J3.oy.k J3.sy) J3.sy).mono ?_
             rintro e W4 ⟨id, rfl, bb⟩
             have J4 := J3.step bb
             obtain ⟨⟨ra, rU, rP, rn, re⟩, hr⟩ : ∃ r, opR q.1 x.a x.U x.L id = r := ⟨_, rfl⟩
             have HR := Lib.hid hr
             clear bb J3 hr)
          | (refine wpList_load_row rfl 32 (.tmp 6) rfl wr.heap.size rfl 32 (onC q) (0, 0) _ J4.l.kq.blk Tryz.underlying32 rfl (on_inf _) ?_)
          | (refine wpList_load_row rfl 27 (.tmp 2) rfl w.heap.size rfl 27 (txC x) (0, 0) _ J4.l.l.k.blk Tryz.underlying27 rfl (tx_inf _) ?_)
          | (refine (run_any q id HR.out (J4.l.l.o.k J4.l.l.s)).mono ?_
             rintro e W5 ⟨z, rfl, oz, hz, bb⟩
             have HZ := Lib.hid hz
             have HZL := Lib.hid (OwnW.lt (OwnT.w oz))
             have J5 := J4.step bb
             have hs54 : W4.heap.size ≤ W5.heap.size := bb.size
             have BB5 := bb
             clear bb hz)
          | (refine wpList_store_blk rfl 27 (.tmp 9) (.tmp 38) rfl W5.heap.size (tkC 0 none 0 0 none 0 0) (txC z) 27 rfl rfl (Blk.new _ _ _) rfl (tx_inf _) (tx_one _) ?_
             intro W6 k9 n9
             have bb : Below W5.heap.size W5 W6 := (alloc_b W5 _).trans (n9.below _ (Nat.le_refl _) (by simp))
             have J6 : TE w x y q wr.heap.size W2.heap.size W5.heap.size z W4 W6 := ⟨J5.step bb, BB5.trans (bb.mono hs54), k9, oz.bl bb⟩
             have HJ4 := Lib.hid J4
             clear bb n9 k9 J5 oz J4 BB5))
        obtain ⟨g6, hg6⟩ : ∃ g, wr.heap.size = g := ⟨_, rfl⟩
        obtain ⟨g7, hg7⟩ : ∃ g, W2.heap.size = g := ⟨_, rfl⟩
        obtain ⟨g9, hg9⟩ : ∃ g, W5.heap.size = g := ⟨_, rfl⟩
        simp only [hg6, hg7, hg9] at J6 HJ4 HZL ⊢
        have HS4 := Lib.hid (show W4.heap.size ≤ g9 by omega)
        clear hg6 hg7 hg9 hs54
        have HRY := Lib.hid ((opR_x J6.d.e).trans HR.out)
        have J := J6.step (Below.refl _ _).drew
        clear J6
        refine region_cutP ?_
        refine wp_region_held_drew (S := TE w x y q g6 g7 g9 z W4) (by kernel_rfl) J (fun _ => ?_)
        generalize W6.drew = W7 at J ⊢
        refine wpAnyH_take (i := 0) (v := .agg (onC q)) rfl (by kernel_rfl) (by kernel_rfl) (by kernel_rfl) (fun _ _ _ h => nomatch h.1) (yieldsIf_blk (by rfl) 32 (.tmp 6) rfl g6 rfl (onC q) 32 _ (fun _ h => h.d.l.kq) Tryz.underlying32 rfl (on_inf _)) J ?_
        try simp only [Act.put, qA, qB, qC, qD, qE, qF]
        refine wpAnyH_take (i := 1) (v := .agg (txC y)) rfl (by kernel_rfl) (by kernel_rfl) (by kernel_rfl) (fun _ _ _ h => nomatch h.1) (yieldsIf_blk (by rfl) 27 (.tmp 7) rfl g7 rfl (txC y) 27 _ (fun _ h => h.d.ky) Tryz.underlying27 rfl (tx_inf _)) J ?_
        try simp only [Act.put, qA, qB, qC, qD, qE, qF]
        refine wpAnyH_take (i := 3) (v := .int .i64 id) rfl (by kernel_rfl) (by kernel_rfl) (by kernel_rfl) (fun _ _ _ h => nomatch h.1) (.inl ⟨by rfl, fun V hV => by go_simp⟩) J ?_
        try simp only [Act.put, qA, qB, qC, qD, qE, qF]
        refine wpAnyH_ready (rs := [2, 9]) (by kernel_rfl) (by simp) ?_
        refine AllReadyH.cons rfl (fun K hK => ?_) (AllReadyH.cons rfl (fun K hK => ?_) AllReadyH.nil)
        · try simp only [Act.put, qA, qB, qC, qD, qE, qF]
          go_simp
          refine (short_any J.d.oy.i).mono ?_
          rintro e X1 ⟨v, rfl, ov, sv, hv, bb⟩
          have HV := Lib.hid (hv J.d.sy)
          have J := J.step bb
          go_wp2_with fail
          clear bb hv
          refine hK.out _ _ J (fun _ => ?_)
          clear hK K
          try simp only [Act.put, qA, qB, qC, qD, qE, qF]
          refine wpAnyH_ready (rs := [4, 9]) (by kernel_rfl) (by simp) ?_
          refine AllReadyH.cons rfl (fun K hK => ?_) (AllReadyH.cons rfl (fun K hK => ?_) AllReadyH.nil)
          · try simp only [Act.put, qA, qB, qC, qD, qE, qF]
            go_simp
            refine (wants_any q id ((opR_x HV.out).trans HRY.out) (ov.k sv) sv).mono ?_
            rintro e X2 ⟨u, rfl, ou, hu, bb⟩
            have HU := Lib.hid hu
            have hou := J.bb.size
            have J := J.step bb
            go_wp2_with fail
            clear bb hu
            refine hK.out _ _ J (fun _ => ?_)
            clear hK K
            try simp only [Act.put, qA, qB, qC, qD, qE, qF]
            refine wpAnyH_take (i := 5) (v := .tuple #[.agg (txC u), .int .i64 rn, .int .i64 re]) rfl (by kernel_rfl) (by kernel_rfl) (by kernel_rfl) (fun _ _ _ h => nomatch h.1) (.inl ⟨by rfl, fun V hV => by go_simp⟩) J ?_
            try simp only [Act.put, qA, qB, qC, qD, qE, qF]
            refine wpAnyH_take (i := 6) (v := .agg (txC u)) rfl (by kernel_rfl) (by kernel_rfl) (by kernel_rfl) (fun _ _ _ h => nomatch h.1) (.inl ⟨by rfl, fun V hV => by go_simp⟩) J ?_
            try simp only [Act.put, qA, qB, qC, qD, qE, qF]
            refine wpAnyH_take (i := 7) (v := .int .i64 rn) rfl (by kernel_rfl) (by kernel_rfl) (by kernel_rfl) (fun _ _ _ h => nomatch h.1) (.inl ⟨by rfl, fun V hV => by go_simp⟩) J ?_
            try simp only [Act.put, qA, qB, qC, qD, qE, qF]
            refine wpAnyH_take (i := 8) (v := .int .i64 re) rfl (by kernel_rfl) (by kernel_rfl) (by kernel_rfl) (fun _ _ _ h => nomatch h.1) (.inl ⟨by rfl, fun V hV => by go_simp⟩) J ?_
            try simp only [Act.put, qA, qB, qC, qD, qE, qF]
            refine wpAnyH_ready (rs := [9]) (by kernel_rfl) (by simp) ?_
            refine AllReadyH.cons rfl (fun K hK => ?_) AllReadyH.nil
            try simp only [Act.put, qA, qB, qC, qD, qE, qF]
            go_simp
            obtain ⟨g12, eg⟩ : ∃ g, g = X2.heap.size := ⟨_, rfl⟩
            have k12 : Blk (X2.alloc (.cells #[.int .i64 0, .slice none 0 0, .slice none 0 0] 27)) g12 (tkC 0 none 0 0 none 0 0) 27 := Blk.new_ X2 #[.int .i64 0, .slice none 0 0, .slice none 0 0] 27 eg.symm
            have bb := alloc_b X2 (.cells #[.int .i64 0, .slice none 0 0, .slice none 0 0] 27)
            have h12 : W4.heap.size ≤ g12 := by rw [eg]; exact J.bb.size
            have h9 : g9 < g12 := by rw [eg]; exact J.kn.lt
            have J := J.step bb
            have ou := ou.bl bb
            try rw [← eg]
            clear bb eg
            generalize X2.alloc (.cells #[.int .i64 0, .slice none 0 0, .slice none 0 0] 27) = X3 at k12 J ou ⊢
            refine hK.out _ _ J (fun _ => ?_)
            clear hK K
            try simp only [Act.put, qA, qB, qC, qD, qE, qF]
            refine wpAnyH_ready (rs := [10]) (by kernel_rfl) (by simp) ?_
            refine AllReadyH.cons rfl (fun K hK => ?_) AllReadyH.nil
            try simp only [Act.put, qA, qB, qC, qD, qE, qF]
            rw [if_pos (by rfl)]
            refine wp_store_blk 27 (.tmp 12) (.tmp 47) rfl g12 (tkC 0 none 0 0 none 0 0) (txC u) 27 rfl rfl k12 rfl (tx_inf _) (tx_one _) ?_
            intro Y1 k13 n13
            have bb := J.bb.trans (n13.below _ h12 J.bb.size)
            have J1 : TE w x y q g6 g7 g9 z W4 Y1 := ⟨HJ4.out.step bb, bb, n13.blk7 J.kn (by omega), J.on.kd n13 k12 (by decide) (by decide)⟩
            have ou1 := ou.kd n13 k12 (by decide) (by decide)
            clear n13 k12 J ou bb
            refine hK.out _ _ J1 (fun _ => ?_)
            clear hK K
            try simp only [Act.put, qA, qB, qC, qD, qE, qF]
            refine wpAnyH_take (i := 11) (v := .int .i64 rn) rfl (by kernel_rfl) (by kernel_rfl) (by kernel_rfl) (fun _ _ _ h => nomatch h.1) (.inl ⟨by rfl, fun V hV => by go_simp⟩) J1 ?_
            try simp only [Act.put, qA, qB, qC, qD, qE, qF]
            refine wpAnyH_take (i := 12) (v := .int .i64 re) rfl (by kernel_rfl) (by kernel_rfl) (by kernel_rfl) (fun _ _ _ h => nomatch h.1) (.inl ⟨by rfl, fun V hV => by go_simp⟩) J1 ?_
            try simp only [Act.put, qA, qB, qC, qD, qE, qF]
            refine wpAnyH_done (by kernel_rfl) ?_ _
            refine ⟨rfl, ?_⟩
            have su := sma_r HR.out HU.out
            have sz := sma_r HR.out HZ.out
            have SM := Lib.hid (same_any (J1.on.k sz) (ou1.k su) (HZ.out.trans HU.out.symm))
            by_cases hre : re = 0
            · subst hre
              go_wp2_with (first
                | (refine wpListG_load (by rfl) 27 (.tmp 9) rfl g9 rfl 27 (txC z) _ J1.kn Tryz.underlying27 rfl (tx_inf _) ?_)
                | (refine wpListG_load (by rfl) 27 (.tmp 12) rfl g12 rfl 27 (txC u) _ k13 Tryz.underlying27 rfl (tx_inf _) ?_)
                | (refine SM.out.mono ?_
                   clear SM
                   rintro e Y2 ⟨rfl, bb⟩
                   have J2 := J1.step bb
                   have k14 := k13.below bb k13.lt
                   have ou2 := ou1.bl bb
                   have SM2 := Lib.hid (same_any (J2.d.l.l.o.k J2.d.l.l.s) (J2.d.oy.k J2.d.sy) J2.d.e.symm)
                   clear bb J1 k13 ou1)
                | (refine wpListG_load (by rfl) 27 (.tmp 2) rfl w.heap.size rfl 27 (txC x) _ J2.d.l.l.k Tryz.underlying27 rfl (tx_inf _) ?_)
                | (refine wpListG_load (by rfl) 27 (.tmp 7) rfl g7 rfl 27 (txC y) _ J2.d.ky Tryz.underlying27 rfl (tx_inf _) ?_)
                | (refine SM2.out.mono ?_
                   clear SM2
                   rintro e Y3 ⟨rfl, bb⟩
                   have J3 := J2.step bb
                   have k15 := k14.below bb k14.lt
                   have CP := Lib.hid (copy_any ((ou2.bl bb).k su))
                   clear bb J2 k14 ou2)
                | (refine wpList_load_row rfl 27 (.tmp 12) rfl g12 rfl 27 (txC u) (0, 0) _ k15.blk Tryz.underlying27 rfl (tx_inf _) ?_)
                | (refine CP.out.mono ?_
                   clear CP
                   rintro e Y4 ⟨u2, rfl, o4, hn4, bb⟩
                   have HN4 := Lib.hid hn4
                   have h93 : g9 ≤ Y3.heap.size := Nat.le_of_lt J3.kn.lt
                   have J4 := J3.step bb
                   have k16 := k15.below bb k15.lt
                   clear bb J3 k15 hn4)
                | (refine wpList_store_blk rfl 27 (.tmp 12) (.tmp 71) rfl g12 (txC u) (txC u2) 27 rfl rfl k16 rfl (tx_inf _) (tx_one _) ?_
                   intro Y5 k17 n17
                   have bb := J4.bb.trans (n17.below _ h12 J4.bb.size)
                   have J5 : TE w x y q g6 g7 g9 z W4 Y5 := ⟨HJ4.out.step bb, bb, n17.blk7 J4.kn (by omega), J4.on.kd n17 k16 (by decide) (by decide)⟩
                   have o5 := o4.kd n17 k16 (by decide) (by decide)
                   have SP := Lib.hid (spoil_any J5.on bb.size sz HZL.out)
                   clear n17 k16 J4 o4 bb)
                | (refine wpList_load_row rfl 27 (.tmp 9) rfl g9 rfl 27 (txC z) (0, 0) _ J5.kn.blk Tryz.underlying27 rfl (tx_inf _) ?_)
                | (refine SP.out.mono ?_
                   clear SP
                   rintro e Y6 ⟨rfl, kp⟩
                   have D6 := HJ4.out.step (J5.bb.trans kp.b)
                   have k18 := blk_kp k17 (Nat.le_of_lt h9) kp
                   have o6 : TxO Y6 Y3.heap.size u2 := OwnT.kp o5 h93 kp
                   have SM3 := Lib.hid (same_any (D6.l.l.o.k D6.l.l.s) (D6.oy.k D6.sy) D6.e.symm)
                   clear kp J5 o5 k17)
                | (refine wpList_load_row rfl 27 (.tmp 2) rfl w.heap.size rfl 27 (txC x) (0, 0) _ D6.l.l.k.blk Tryz.underlying27 rfl (tx_inf _) ?_)
                | (refine wpList_load_row rfl 27 (.tmp 7) rfl g7 rfl 27 (txC y) (0, 0) _ D6.ky.blk Tryz.underlying27 rfl (tx_inf _) ?_)
                | (refine SM3.out.mono ?_
                   clear SM3
                   rintro e Y7 ⟨rfl, bb⟩
                   have D7 := D6.step bb
                   have k19 := k18.below bb k18.lt
                   have o7 := o6.bl bb
                   clear bb D6 k18 o6)
                | (refine wpList_load_row rfl 27 (.tmp 12) rfl g12 rfl 27 (txC u2) (0, 0) _ k19.blk Tryz.underlying27 rfl (tx_inf _) ?_)
                | (refine wpList_store_blk rfl 27 (.tmp 2) (.tmp 80) rfl w.heap.size (txC x) (txC u2) 27 rfl rfl D7.l.l.k rfl (tx_inf _) (tx_one _) ?_
                   intro Y8 k20 n20
                   have hw3 : w.heap.size ≤ Y3.heap.size := Nat.le_trans (Nat.le_trans HJ4.out.l.l.b.size HS4.out) h93
                   have JN : LS w u2 Y8 := ⟨D7.l.l.b.trans (n20.below _ (Nat.le_refl _) D7.l.l.b.size), k20, (o7.dn hw3).kd n20 D7.l.l.k (by decide) (by decide), sma_of su HN4.out⟩
                   clear n20 k20))
              go_roundw
              case rel => exact ⟨k + 1, u2, _, rfl, by have := HKM.out; omega, by go_num, Lib.hid JN⟩
              case measure => have := HKM.out; simp [intOf]; omega
            · have hre2 : (re == 0) = false := by simpa using hre
              clear hre
              go_wp2_with (first
                | (refine wpListG_load (by rfl) 27 (.tmp 9) rfl g9 rfl 27 (txC z) _ J1.kn Tryz.underlying27 rfl (tx_inf _) ?_)
                | (refine wpListG_load (by rfl) 27 (.tmp 12) rfl g12 rfl 27 (txC u) _ k13 Tryz.underlying27 rfl (tx_inf _) ?_)
                | (refine SM.out.mono ?_
                   clear SM
                   rintro e Y2 ⟨rfl, bb⟩
                   have J2 := J1.step bb
                   have k14 := k13.below bb k13.lt
                   have ou2 := ou1.bl bb
                   have SM2 := Lib.hid (same_any (J2.d.l.l.o.k J2.d.l.l.s) (J2.d.oy.k J2.d.sy) J2.d.e.symm)
                   clear bb J1 k13 ou1)
                | (refine wpListG_load (by rfl) 27 (.tmp 2) rfl w.heap.size rfl 27 (txC x) _ J2.d.l.l.k Tryz.underlying27 rfl (tx_inf _) ?_)
                | (refine wpListG_load (by rfl) 27 (.tmp 7) rfl g7 rfl 27 (txC y) _ J2.d.ky Tryz.underlying27 rfl (tx_inf _) ?_)
                | (refine SM2.out.mono ?_
                   clear SM2
                   rintro e Y3 ⟨rfl, bb⟩
                   have J3 := J2.step bb
                   have k15 := k14.below bb k14.lt
                   have CP := Lib.hid (copy_any ((ou2.bl bb).k su))
                   clear bb J2 k14 ou2)
                | (refine wpList_load_row rfl 27 (.tmp 12) rfl g12 rfl 27 (txC u) (0, 0) _ k15.blk Tryz.underlying27 rfl (tx_inf _) ?_)
                | (refine CP.out.mono ?_
                   clear CP
                   rintro e Y4 ⟨u2, rfl, o4, hn4, bb⟩
                   have HN4 := Lib.hid hn4
                   have h93 : g9 ≤ Y3.heap.size := Nat.le_of_lt J3.kn.lt
                   have J4 := J3.step bb
                   have k16 := k15.below bb k15.lt
                   clear bb J3 k15 hn4)
                | (refine wpList_store_blk rfl 27 (.tmp 12) (.tmp 71) rfl g12 (txC u) (txC u2) 27 rfl rfl k16 rfl (tx_inf _) (tx_one _) ?_
                   intro Y5 k17 n17
                   have bb := J4.bb.trans (n17.below _ h12 J4.bb.size)
                   have J5 : TE w x y q g6 g7 g9 z W4 Y5 := ⟨HJ4.out.step bb, bb, n17.blk7 J4.kn (by omega), J4.on.kd n17 k16 (by decide) (by decide)⟩
                   have o5 := o4.kd n17 k16 (by decide) (by decide)
                   have SP := Lib.hid (spoil_any J5.on bb.size sz HZL.out)
                   clear n17 k16 J4 o4 bb)
                | (refine wpList_load_row rfl 27 (.tmp 9) rfl g9 rfl 27 (txC z) (0, 0) _ J5.kn.blk Tryz.underlying27 rfl (tx_inf _) ?_)
                | (refine SP.out.mono ?_
                   clear SP
                   rintro e Y6 ⟨rfl, kp⟩
                   have D6 := HJ4.out.step (J5.bb.trans kp.b)
                   have k18 := blk_kp k17 (Nat.le_of_lt h9) kp
                   have o6 : TxO Y6 Y3.heap.size u2 := OwnT.kp o5 h93 kp
                   have SM3 := Lib.hid (same_any (D6.l.l.o.k D6.l.l.s) (D6.oy.k D6.sy) D6.e.symm)
                   clear kp J5 o5 k17)
                | (refine wpList_load_row rfl 27 (.tmp 2) rfl w.heap.size rfl 27 (txC x) (0, 0) _ D6.l.l.k.blk Tryz.underlying27 rfl (tx_inf _) ?_)
                | (refine wpList_load_row rfl 27 (.tmp 7) rfl g7 rfl 27 (txC y) (0, 0) _ D6.ky.blk Tryz.underlying27 rfl (tx_inf _) ?_)
                | (refine SM3.out.mono ?_
                   clear SM3
                   rintro e Y7 ⟨rfl, bb⟩
                   have D7 := D6.step bb
                   have k19 := k18.below bb k18.lt
                   have o7 := o6.bl bb
                   clear bb D6 k18 o6))
              go_roundw
              case rel => exact ⟨k + 1, x, _, rfl, by have := HKM.out; omega, by go_num, Lib.hid D7.l.l⟩
              case measure => have := HKM.out; simp [intOf]; omega
          · try simp only [Act.put, qA, qB, qC, qD, qE, qF]
            go_simp
            obtain ⟨g12, eg⟩ : ∃ g, g = X1.heap.size := ⟨_, rfl⟩
            have k12 : Blk (X1.alloc (.cells #[.int .i64 0, .slice none 0 0, .slice none 0 0] 27)) g12 (tkC 0 none 0 0 none 0 0) 27 := Blk.new_ X1 #[.int .i64 0, .slice none 0 0, .slice none 0 0] 27 eg.symm
            have bb := alloc_b X1 (.cells #[.int .i64 0, .slice none 0 0, .slice none 0 0] 27)
            have h12 : W4.heap.size ≤ g12 := by rw [eg]; exact J.bb.size
            have h9 : g9 < g12 := by rw [eg]; exact J.kn.lt
            have J := J.step bb
            have ov := ov.bl bb
            try rw [← eg]
            clear bb eg
            generalize X1.alloc (.cells #[.int .i64 0, .slice none 0 0, .slice none 0 0] 27) = X2 at k12 J ov ⊢
            refine hK.out _ _ J (fun _ => ?_)
            clear hK K
            try simp only [Act.put, qA, qB, qC, qD, qE, qF]
            refine wpAnyH_ready (rs := [4]) (by kernel_rfl) (by simp) ?_
            refine AllReadyH.cons rfl (fun K hK => ?_) AllReadyH.nil
            try simp only [Act.put, qA, qB, qC, qD, qE, qF]
            go_simp
            refine (wants_any q id ((opR_x HV.out).trans HRY.out) (ov.k sv) sv).mono ?_
            rintro e X3 ⟨u, rfl, ou, hu, bb⟩
            have HU := Lib.hid hu
            have hou := J.bb.size
            have J := J.step bb
            have k12 := k12.below bb k12.lt
            go_wp2_with fail
            clear bb hu
            refine hK.out _ _ J (fun _ => ?_)
            clear hK K
            try simp only [Act.put, qA, qB, qC, qD, qE, qF]
            refine wpAnyH_take (i := 5) (v := .tuple #[.agg (txC u), .int .i64 rn, .int .i64 re]) rfl (by kernel_rfl) (by kernel_rfl) (by kernel_rfl) (fun _ _ _ h => nomatch h.1) (.inl ⟨by rfl, fun V hV => by go_simp⟩) J ?_
            try simp only [Act.put, qA, qB, qC, qD, qE, qF]
            refine wpAnyH_take (i := 6) (v := .agg (txC u)) rfl (by kernel_rfl) (by kernel_rfl) (by kernel_rfl) (fun _ _ _ h => nomatch h.1) (.inl ⟨by rfl, fun V hV => by go_simp⟩) J ?_
            try simp only [Act.put, qA, qB, qC, qD, qE, qF]
            refine wpAnyH_take (i := 7) (v := .int .i64 rn) rfl (by kernel_rfl) (by kernel_rfl) (by kernel_rfl) (fun _ _ _ h => nomatch h.1) (.inl ⟨by rfl, fun V hV => by go_simp⟩) J ?_
            try simp only [Act.put, qA, qB, qC, qD, qE, qF]
            refine wpAnyH_take (i := 8) (v := .int .i64 re) rfl (by kernel_rfl) (by kernel_rfl) (by kernel_rfl) (fun _ _ _ h => nomatch h.1) (.inl ⟨by rfl, fun V hV => by go_simp⟩) J ?_
            try simp only [Act.put, qA, qB, qC, qD, qE, qF]
            refine wpAnyH_ready (rs := [10]) (by kernel_rfl) (by simp) ?_
            refine AllReadyH.cons rfl (fun K hK => ?_) AllReadyH.nil
            try simp only [Act.put, qA, qB, qC, qD, qE, qF]
            rw [if_pos (by rfl)]
            refine wp_store_blk 27 (.tmp 12) (.tmp 47) rfl g12 (tkC 0 none 0 0 none 0 0) (txC u) 27 rfl rfl k12 rfl (tx_inf _) (tx_one _) ?_
            intro Y1 k13 n13
            have bb := J.bb.trans (n13.below _ h12 J.bb.size)
            have J1 : TE w x y q g6 g7 g9 z W4 Y1 := ⟨HJ4.out.step bb, bb, n13.blk7 J.kn (by omega), J.on.kd n13 k12 (by decide) (by decide)⟩
            have ou1 := ou.kd n13 k12 (by decide) (by decide)
            clear n13 k12 J ou bb
            refine hK.out _ _ J1 (fun _ => ?_)
            clear hK K
            try simp only [Act.put, qA, qB, qC, qD, qE, qF]
            refine wpAnyH_take (i := 11) (v := .int .i64 rn) rfl (by kernel_rfl) (by kernel_rfl) (by kernel_rfl) (fun _ _ _ h => nomatch h.1) (.inl ⟨by rfl, fun V hV => by go_simp⟩) J1 ?_
            try simp only [Act.put, qA, qB, qC, qD, qE, qF]
            refine wpAnyH_take (i := 12) (v := .int .i64 re) rfl (by kernel_rfl) (by kernel_rfl) (by kernel_rfl) (fun _ _ _ h => nomatch h.1) (.inl ⟨by rfl, fun V hV => by go_simp⟩) J1 ?_
            try simp only [Act.put, qA, qB, qC, qD, qE, qF]
            refine wpAnyH_done (by kernel_rfl) ?_ _
            refine ⟨rfl, ?_⟩
            have su := sma_r HR.out HU.out
            have sz := sma_r HR.out HZ.out
            have SM := Lib.hid (same_any (J1.on.k sz) (ou1.k su) (HZ.out.trans HU.out.symm))
            by_cases hre : re = 0
            · subst hre
              go_wp2_with (first
                | (refine wpListG_load (by rfl) 27 (.tmp 9) rfl g9 rfl 27 (txC z) _ J1.kn Tryz.underlying27 rfl (tx_inf _) ?_)
                | (refine wpListG_load (by rfl) 27 (.tmp 12) rfl g12 rfl 27 (txC u) _ k13 Tryz.underlying27 rfl (tx_inf _) ?_)
                | (refine SM.out.mono ?_
                   clear SM
                   rintro e Y2 ⟨rfl, bb⟩
                   have J2 := J1.step bb
                   have k14 := k13.below bb k13.lt
                   have ou2 := ou1.bl bb
                   have SM2 := Lib.hid (same_any (J2.d.l.l.o.k J2.d.l.l.s) (J2.d.oy.k J2.d.sy) J2.d.e.symm)
                   clear bb J1 k13 ou1)
                | (refine wpListG_load (by rfl) 27 (.tmp 2) rfl w.heap.size rfl 27 (txC x) _ J2.d.l.l.k Tryz.underlying27 rfl (tx_inf _) ?_)
                | (refine wpListG_load (by rfl) 27 (.tmp 7) rfl g7 rfl 27 (txC y) _ J2.d.ky Tryz.underlying27 rfl (tx_inf _) ?_)
                | (refine SM2.out.mono ?_
                   clear SM2
                   rintro e Y3 ⟨rfl, bb⟩
                   have J3 := J2.step bb
                   have k15 := k14.below bb k14.lt
                   have CP := Lib.hid (copy_any ((ou2.bl bb).k su))
                   clear bb J2 k14 ou2)
                | (refine wpList_load_row rfl 27 (.tmp 12) rfl g12 rfl 27 (txC u) (0, 0) _ k15.blk Tryz.underlying27 rfl (tx_inf _) ?_)
                | (refine CP.out.mono ?_
                   clear CP
                   rintro e Y4 ⟨u2, rfl, o4, hn4, bb⟩
                   have HN4 := Lib.hid hn4
                   have h93 : g9 ≤ Y3.heap.size := Nat.le_of_lt J3.kn.lt
                   have J4 := J3.step bb
                   have k16 := k15.below bb k15.lt
                   clear bb J3 k15 hn4)
                | (refine wpList_store_blk rfl 27 (.tmp 12) (.tmp 71) rfl g12 (txC u) (txC u2) 27 rfl rfl k16 rfl (tx_inf _) (tx_one _) ?_
                   intro Y5 k17 n17
                   have bb := J4.bb.trans (n17.below _ h12 J4.bb.size)
                   have J5 : TE w x y q g6 g7 g9 z W4 Y5 := ⟨HJ4.out.step bb, bb, n17.blk7 J4.kn (by omega), J4.on.kd n17 k16 (by decide) (by decide)⟩
                   have o5 := o4.kd n17 k16 (by decide) (by decide)
                   have SP := Lib.hid (spoil_any J5.on bb.size sz HZL.out)
                   clear n17 k16 J4 o4 bb)
                | (refine wpList_load_row rfl 27 (.tmp 9) rfl g9 rfl 27 (txC z) (0, 0) _ J5.kn.blk Tryz.underlying27 rfl (tx_inf _) ?_)
                | (refine SP.out.mono ?_
                   clear SP
                   rintro e Y6 ⟨rfl, kp⟩
                   have D6 := HJ4.out.step (J5.bb.trans kp.b)
                   have k18 := blk_kp k17 (Nat.le_of_lt h9) kp
                   have o6 : TxO Y6 Y3.heap.size u2 := OwnT.kp o5 h93 kp
                   have SM3 := Lib.hid (same_any (D6.l.l.o.k D6.l.l.s) (D6.oy.k D6.sy) D6.e.symm)
                   clear kp J5 o5 k17)
                | (refine wpList_load_row rfl 27 (.tmp 2) rfl w.heap.size rfl 27 (txC x) (0, 0) _ D6.l.l.k.blk Tryz.underlying27 rfl (tx_inf _) ?_)
                | (refine wpList_load_row rfl 27 (.tmp 7) rfl g7 rfl 27 (txC y) (0, 0) _ D6.ky.blk Tryz.underlying27 rfl (tx_inf _) ?_)
                | (refine SM3.out.mono ?_
                   clear SM3
                   rintro e Y7 ⟨rfl, bb⟩
                   have D7 := D6.step bb
                   have k19 := k18.below bb k18.lt
                   have o7 := o6.bl bb
                   clear bb D6 k18 o6)
                | (refine wpList_load_row rfl 27 (.tmp 12) rfl g12 rfl 27 (txC u2) (0, 0) _ k19.blk Tryz.underlying27 rfl (tx_inf _) ?_)
                | (refine wpList_store_blk rfl 27 (.tmp 2) (.tmp 80) rfl w.heap.size (txC x) (txC u2) 27 rfl rfl D7.l.l.k rfl (tx_inf _) (tx_one _) ?_
                   intro Y8 k20 n20
                   have hw3 : w.heap.size ≤ Y3.heap.size := Nat.le_trans (Nat.le_trans HJ4.out.l.l.b.size HS4.out) h93
                   have JN : LS w u2 Y8 := ⟨D7.l.l.b.trans (n20.below _ (Nat.le_refl _) D7.l.l.b.size), k20, (o7.dn hw3).kd n20 D7.l.l.k (by decide) (by decide), sma_of su HN4.out⟩
                   clear n20 k20))
              go_roundw
              case rel => exact ⟨k + 1, u2, _, rfl, by have := HKM.out; omega, by go_num, Lib.hid JN⟩
              case measure => have := HKM.out; simp [intOf]; omega
            · have hre2 : (re == 0) = false := by simpa using hre
              clear hre
              go_wp2_with (first
                | (refine wpListG_load (by rfl) 27 (.tmp 9) rfl g9 rfl 27 (txC z) _ J1.kn Tryz.underlying27 rfl (tx_inf _) ?_)
                | (refine wpListG_load (by rfl) 27 (.tmp 12) rfl g12 rfl 27 (txC u) _ k13 Tryz.underlying27 rfl (tx_inf _) ?_)
                | (refine SM.out.mono ?_
                   clear SM
                   rintro e Y2 ⟨rfl, bb⟩
                   have J2 := J1.step bb
                   have k14 := k13.below bb k13.lt
                   have ou2 := ou1.bl bb
                   have SM2 := Lib.hid (same_any (J2.d.l.l.o.k J2.d.l.l.s) (J2.d.oy.k J2.d.sy) J2.d.e.symm)
                   clear bb J1 k13 ou1)
                | (refine wpListG_load (by rfl) 27 (.tmp 2) rfl w.heap.size rfl 27 (txC x) _ J2.d.l.l.k Tryz.underlying27 rfl (tx_inf _) ?_)
                | (refine wpListG_load (by rfl) 27 (.tmp 7) rfl g7 rfl 27 (txC y) _ J2.d.ky Tryz.underlying27 rfl (tx_inf _) ?_)
                | (refine SM2.out.mono ?_
                   clear SM2
                   rintro e Y3 ⟨rfl, bb⟩
                   have J3 := J2.step bb
                   have k15 := k14.below bb k14.lt
                   have CP := Lib.hid (copy_any ((ou2.bl bb).k su))
                   clear bb J2 k14 ou2)
                | (refine wpList_load_row rfl 27 (.tmp 12) rfl g12 rfl 27 (txC u) (0, 0) _ k15.blk Tryz.underlying27 rfl (tx_inf _) ?_)
                | (refine CP.out.mono ?_
                   clear CP
                   rintro e Y4 ⟨u2, rfl, o4, hn4, bb⟩
                   have HN4 := Lib.hid hn4
                   have h93 : g9 ≤ Y3.heap.size := Nat.le_of_lt J3.kn.lt
                   have J4 := J3.step bb
                   have k16 := k15.below bb k15.lt
                   clear bb J3 k15 hn4)
                | (refine wpList_store_blk rfl 27 (.tmp 12) (.tmp 71) rfl g12 (txC u) (txC u2) 27 rfl rfl k16 rfl (tx_inf _) (tx_one _) ?_
                   intro Y5 k17 n17
                   have bb := J4.bb.trans (n17.below _ h12 J4.bb.size)
                   have J5 : TE w x y q g6 g7 g9 z W4 Y5 := ⟨HJ4.out.step bb, bb, n17.blk7 J4.kn (by omega), J4.on.kd n17 k16 (by decide) (by decide)⟩
                   have o5 := o4.kd n17 k16 (by decide) (by decide)
                   have SP := Lib.hid (spoil_any J5.on bb.size sz HZL.out)
                   clear n17 k16 J4 o4 bb)
                | (refine wpList_load_row rfl 27 (.tmp 9) rfl g9 rfl 27 (txC z) (0, 0) _ J5.kn.blk Tryz.underlying27 rfl (tx_inf _) ?_)
                | (refine SP.out.mono ?_
                   clear SP
                   rintro e Y6 ⟨rfl, kp⟩
                   have D6 := HJ4.out.step (J5.bb.trans kp.b)
                   have k18 := blk_kp k17 (Nat.le_of_lt h9) kp
                   have o6 : TxO Y6 Y3.heap.size u2 := OwnT.kp o5 h93 kp
                   have SM3 := Lib.hid (same_any (D6.l.l.o.k D6.l.l.s) (D6.oy.k D6.sy) D6.e.symm)
                   clear kp J5 o5 k17)
                | (refine wpList_load_row rfl 27 (.tmp 2) rfl w.heap.size rfl 27 (txC x) (0, 0) _ D6.l.l.k.blk Tryz.underlying27 rfl (tx_inf _) ?_)
                | (refine wpList_load_row rfl 27 (.tmp 7) rfl g7 rfl 27 (txC y) (0, 0) _ D6.ky.blk Tryz.underlying27 rfl (tx_inf _) ?_)
                | (refine SM3.out.mono ?_
                   clear SM3
                   rintro e Y7 ⟨rfl, bb⟩
                   have D7 := D6.step bb
                   have k19 := k18.below bb k18.lt
                   have o7 := o6.bl bb
                   clear bb D6 k18 o6))
              go_roundw
              case rel => exact ⟨k + 1, x, _, rfl, by have := HKM.out; omega, by go_num, Lib.hid D7.l.l⟩
              case measure => have := HKM.out; simp [intOf]; omega
        · try simp only [Act.put, qA, qB, qC, qD, qE, qF]
          go_simp
          obtain ⟨g12, eg⟩ : ∃ g, g = W7.heap.size := ⟨_, rfl⟩
          have k12 : Blk (W7.alloc (.cells #[.int .i64 0, .slice none 0 0, .slice none 0 0] 27)) g12 (tkC 0 none 0 0 none 0 0) 27 := Blk.new_ W7 #[.int .i64 0, .slice none 0 0, .slice none 0 0] 27 eg.symm
          have bb := alloc_b W7 (.cells #[.int .i64 0, .slice none 0 0, .slice none 0 0] 27)
          have h12 : W4.heap.size ≤ g12 := by rw [eg]; exact J.bb.size
          have h9 : g9 < g12 := by rw [eg]; exact J.kn.lt
          have J := J.step bb
          try rw [← eg]
          clear bb eg
          generalize W7.alloc (.cells #[.int .i64 0, .slice none 0 0, .slice none 0 0] 27) = X1 at k12 J ⊢
          refine hK.out _ _ J (fun _ => ?_)
          clear hK K
          try simp only [Act.put, qA, qB, qC, qD, qE, qF]
          refine wpAnyH_ready (rs := [2]) (by kernel_rfl) (by simp) ?_
          refine AllReadyH.cons rfl (fun K hK => ?_) AllReadyH.nil
          try simp only [Act.put, qA, qB, qC, qD, qE, qF]
          go_simp
          refine (short_any J.d.oy.i).mono ?_
          rintro e X2 ⟨v, rfl, ov, sv, hv, bb⟩
          have HV := Lib.hid (hv J.d.sy)
          have J := J.step bb
          have k12 := k12.below bb k12.lt
          go_wp2_with fail
          clear bb hv
          refine hK.out _ _ J (fun _ => ?_)
          clear hK K
          try simp only [Act.put, qA, qB, qC, qD, qE, qF]
          refine wpAnyH_ready (rs := [4]) (by kernel_rfl) (by simp) ?_
          refine AllReadyH.cons rfl (fun K hK => ?_) AllReadyH.nil
          try simp only [Act.put, qA, qB, qC, qD, qE, qF]
          go_simp
          refine (wants_any q id ((opR_x HV.out).trans HRY.out) (ov.k sv) sv).mono ?_
          rintro e X3 ⟨u, rfl, ou, hu, bb⟩
          have HU := Lib.hid hu
          have hou := J.bb.size
          have J := J.step bb
          have k12 := k12.below bb k12.lt
          go_wp2_with fail
          clear bb hu
          refine hK.out _ _ J (fun _ => ?_)
          clear hK K
          try simp only [Act.put, qA, qB, qC, qD, qE, qF]
          refine wpAnyH_take (i := 5) (v := .tuple #[.agg (txC u), .int .i64 rn, .int .i64 re]) rfl (by kernel_rfl) (by kernel_rfl) (by kernel_rfl) (fun _ _ _ h => nomatch h.1) (.inl ⟨by rfl, fun V hV => by go_simp⟩) J ?_
          try simp only [Act.put, qA, qB, qC, qD, qE, qF]
          refine wpAnyH_take (i := 6) (v := .agg (txC u)) rfl (by kernel_rfl) (by kernel_rfl) (by kernel_rfl) (fun _ _ _ h => nomatch h.1) (.inl ⟨by rfl, fun V hV => by go_simp⟩) J ?_
          try simp only [Act.put, qA, qB, qC, qD, qE, qF]
          refine wpAnyH_take (i := 7) (v := .int .i64 rn) rfl (by kernel_rfl) (by kernel_rfl) (by kernel_rfl) (fun _ _ _ h => nomatch h.1) (.inl ⟨by rfl, fun V hV => by go_simp⟩) J ?_
          try simp only [Act.put, qA, qB, qC, qD, qE, qF]
          refine wpAnyH_take (i := 8) (v := .int .i64 re) rfl (by kernel_rfl) (by kernel_rfl) (by kernel_rfl) (fun _ _ _ h => nomatch h.1) (.inl ⟨by rfl, fun V hV => by go_simp⟩) J ?_
          try simp only [Act.put, qA, qB, qC, qD, qE, qF]
          refine wpAnyH_ready (rs := [10]) (by kernel_rfl) (by simp) ?_
          refine AllReadyH.cons rfl (fun K hK => ?_) AllReadyH.nil
          try simp only [Act.put, qA, qB, qC, qD, qE, qF]
          rw [if_pos (by rfl)]
          refine wp_store_blk 27 (.tmp 12) (.tmp 47) rfl g12 (tkC 0 none 0 0 none 0 0) (txC u) 27 rfl rfl k12 rfl (tx_inf _) (tx_one _) ?_
          intro Y1 k13 n13
          have bb := J.bb.trans (n13.below _ h12 J.bb.size)
          have J1 : TE w x y q g6 g7 g9 z W4 Y1 := ⟨HJ4.out.step bb, bb, n13.blk7 J.kn (by omega), J.on.kd n13 k12 (by decide) (by decide)⟩
          have ou1 := ou.kd n13 k12 (by decide) (by decide)
          clear n13 k12 J ou bb
          refine hK.out _ _ J1 (fun _ => ?_)
          clear hK K
          try simp only [Act.put, qA, qB, qC, qD, qE, qF]
          refine wpAnyH_take (i := 11) (v := .int .i64 rn) rfl (by kernel_rfl) (by kernel_rfl) (by kernel_rfl) (fun _ _ _ h => nomatch h.1) (.inl ⟨by rfl, fun V hV => by go_simp⟩) J1 ?_
          try simp only [Act.put, qA, qB, qC, qD, qE, qF]
          refine wpAnyH_take (i := 12) (v := .int .i64 re) rfl (by kernel_rfl) (by kernel_rfl) (by kernel_rfl) (fun _ _ _ h => nomatch h.1) (.inl ⟨by rfl, fun V hV => by go_simp⟩) J1 ?_
          try simp only [Act.put, qA, qB, qC, qD, qE, qF]
          refine wpAnyH_done (by kernel_rfl) ?_ _
          refine ⟨rfl, ?_⟩
          have su := sma_r HR.out HU.out
          have sz := sma_r HR.out HZ.out
          have SM := Lib.hid (same_any (J1.on.k sz) (ou1.k su) (HZ.out.trans HU.out.symm))
          by_cases hre : re = 0
          · subst hre
            go_wp2_with (first
              | (refine wpListG_load (by rfl) 27 (.tmp 9) rfl g9 rfl 27 (txC z) _ J1.kn Tryz.underlying27 rfl (tx_inf _) ?_)
              | (refine wpListG_load (by rfl) 27 (.tmp 12) rfl g12 rfl 27 (txC u) _ k13 Tryz.underlying27 rfl (tx_inf _) ?_)
              | (refine SM.out.mono ?_
                 clear SM
                 rintro e Y2 ⟨rfl, bb⟩
                 have J2 := J1.step bb
                 have k14 := k13.below bb k13.lt
                 have ou2 := ou1.bl bb
                 have SM2 := Lib.hid (same_any (J2.d.l.l.o.k J2.d.l.l.s) (J2.d.oy.k J2.d.sy) J2.d.e.symm)
                 clear bb J1 k13 ou1)
              | (refine wpListG_load (by rfl) 27 (.tmp 2) rfl w.heap.size rfl 27 (txC x) _ J2.d.l.l.k Tryz.underlying27 rfl (tx_inf _) ?_)
              | (refine wpListG_load (by rfl) 27 (.tmp 7) rfl g7 rfl 27 (txC y) _ J2.d.ky Tryz.underlying27 rfl (tx_inf _) ?_)
              | (refine SM2.out.mono ?_
                 clear SM2
                 rintro e Y3 ⟨rfl, bb⟩
                 have J3 := J2.step bb
                 have k15 := k14.below bb k14.lt
                 have CP := Lib.hid (copy_any ((ou2.bl bb).k su))
                 clear bb J2 k14 ou2)
              | (refine wpList_load_row rfl 27 (.tmp 12) rfl g12 rfl 27 (txC u) (0, 0) _ k15.blk Tryz.underlying27 rfl (tx_inf _) ?_)
              | (refine CP.out.mono ?_
                 clear CP
                 rintro e Y4 ⟨u2, rfl, o4, hn4, bb⟩
                 have HN4 := Lib.hid hn4
                 have h93 : g9 ≤ Y3.heap.size := Nat.le_of_lt J3.kn.lt
                 have J4 := J3.step bb
                 have k16 := k15.below bb k15.lt
                 clear bb J3 k15 hn4)
              | (refine wpList_store_blk rfl 27 (.tmp 12) (.tmp 71) rfl g12 (txC u) (txC u2) 27 rfl rfl k16 rfl (tx_inf _) (tx_one _) ?_
                 intro Y5 k17 n17
                 have bb := J4.bb.trans (n17.below _ h12 J4.bb.size)
                 have J5 : TE w x y q g6 g7 g9 z W4 Y5 := ⟨HJ4.out.step bb, bb, n17.blk7 J4.kn (by omega), J4.on.kd n17 k16 (by decide) (by decide)⟩
                 have o5 := o4.kd n17 k16 (by decide) (by decide)
                 have SP := Lib.hid (spoil_any J5.on bb.size sz HZL.out)
                 clear n17 k16 J4 o4 bb)
              | (refine wpList_load_row rfl 27 (.tmp 9) rfl g9 rfl 27 (txC z) (0, 0) _ J5.kn.blk Tryz.underlying27 rfl (tx_inf _) ?_)
              | (refine SP.out.mono ?_
                 clear SP
                 rintro e Y6 ⟨rfl, kp⟩
                 have D6 := HJ4.out.step (J5.bb.trans kp.b)
                 have k18 := blk_kp k17 (Nat.le_of_lt h9) kp
                 have o6 : TxO Y6 Y3.heap.size u2 := OwnT.kp o5 h93 kp
                 have SM3 := Lib.hid (same_any (D6.l.l.o.k D6.l.l.s) (D6.oy.k D6.sy) D6.e.symm)
                 clear kp J5 o5 k17)
              | (refine wpList_load_row rfl 27 (.tmp 2) rfl w.heap.size rfl 27 (txC x) (0, 0) _ D6.l.l.k.blk Tryz.underlying27 rfl (tx_inf _) ?_)
              | (refine wpList_load_row rfl 27 (.tmp 7) rfl g7 rfl 27 (txC y) (0, 0) _ D6.ky.blk Tryz.underlying27 rfl (tx_inf _) ?_)
              | (refine SM3.out.mono ?_
                 clear SM3
                 rintro e Y7 ⟨rfl, bb⟩
                 have D7 := D6.step bb
                 have k19 := k18.below bb k18.lt
                 have o7 := o6.bl bb
                 clear bb D6 k18 o6)
              | (refine wpList_load_row rfl 27 (.tmp 12) rfl g12 rfl 27 (txC u2) (0, 0) _ k19.blk Tryz.underlying27 rfl (tx_inf _) ?_)
              | (refine wpList_store_blk rfl 27 (.tmp 2) (.tmp 80) rfl w.heap.size (txC x) (txC u2) 27 rfl rfl D7.l.l.k rfl (tx_inf _) (tx_one _) ?_
                 intro Y8 k20 n20
                 have hw3 : w.heap.size ≤ Y3.heap.size := Nat.le_trans (Nat.le_trans HJ4.out.l.l.b.size HS4.out) h93
                 have JN : LS w u2 Y8 := ⟨D7.l.l.b.trans (n20.below _ (Nat.le_refl _) D7.l.l.b.size), k20, (o7.dn hw3).kd n20 D7.l.l.k (by decide) (by decide), sma_of su HN4.out⟩
                 clear n20 k20))
            go_roundw
            case rel => exact ⟨k + 1, u2, _, rfl, by have := HKM.out; omega, by go_num, Lib.hid JN⟩
            case measure => have := HKM.out; simp [intOf]; omega
          · have hre2 : (re == 0) = false := by simpa using hre
            clear hre
            go_wp2_with (first
              | (refine wpListG_load (by rfl) 27 (.tmp 9) rfl g9 rfl 27 (txC z) _ J1.kn Tryz.underlying27 rfl (tx_inf _) ?_)
              | (refine wpListG_load (by rfl) 27 (.tmp 12) rfl g12 rfl 27 (txC u) _ k13 Tryz.underlying27 rfl (tx_inf _) ?_)
              | (refine SM.out.mono ?_
                 clear SM
                 rintro e Y2 ⟨rfl, bb⟩
                 have J2 := J1.step bb
                 have k14 := k13.below bb k13.lt
                 have ou2 := ou1.bl bb
                 have SM2 := Lib.hid (same_any (J2.d.l.l.o.k J2.d.l.l.s) (J2.d.oy.k J2.d.sy) J2.d.e.symm)
                 clear bb J1 k13 ou1)
              | (refine wpListG_load (by rfl) 27 (.tmp 2) rfl w.heap.size rfl 27 (txC x) _ J2.d.l.l.k Tryz.underlying27 rfl (tx_inf _) ?_)
              | (refine wpListG_load (by rfl) 27 (.tmp 7) rfl g7 rfl 27 (txC y) _ J2.d.ky Tryz.underlying27 rfl (tx_inf _) ?_)
              | (refine SM2.out.mono ?_
                 clear SM2
                 rintro e Y3 ⟨rfl, bb⟩
                 have J3 := J2.step bb
                 have k15 := k14.below bb k14.lt
                 have CP := Lib.hid (copy_any ((ou2.bl bb).k su))
                 clear bb J2 k14 ou2)
              | (refine wpList_load_row rfl 27 (.tmp 12) rfl g12 rfl 27 (txC u) (0, 0) _ k15.blk Tryz.underlying27 rfl (tx_inf _) ?_)
              | (refine CP.out.mono ?_
                 clear CP
                 rintro e Y4 ⟨u2, rfl, o4, hn4, bb⟩
                 have HN4 := Lib.hid hn4
                 have h93 : g9 ≤ Y3.heap.size := Nat.le_of_lt J3.kn.lt
                 have J4 := J3.step bb
                 have k16 := k15.below bb k15.lt
                 clear bb J3 k15 hn4)
              | (refine wpList_store_blk rfl 27 (.tmp 12) (.tmp 71) rfl g12 (txC u) (txC u2) 27 rfl rfl k16 rfl (tx_inf _) (tx_one _) ?_
                 intro Y5 k17 n17
                 have bb := J4.bb.trans (n17.below _ h12 J4.bb.size)
                 have J5 : TE w x y q g6 g7 g9 z W4 Y5 := ⟨HJ4.out.step bb, bb, n17.blk7 J4.kn (by omega), J4.on.kd n17 k16 (by decide) (by decide)⟩
                 have o5 := o4.kd n17 k16 (by decide) (by decide)
                 have SP := Lib.hid (spoil_any J5.on bb.size sz HZL.out)
                 clear n17 k16 J4 o4 bb)
              | (refine wpList_load_row rfl 27 (.tmp 9) rfl g9 rfl 27 (txC z) (0, 0) _ J5.kn.blk Tryz.underlying27 rfl (tx_inf _) ?_)
              | (refine SP.out.mono ?_
                 clear SP
                 rintro e Y6 ⟨rfl, kp⟩
                 have D6 := HJ4.out.step (J5.bb.trans kp.b)
                 have k18 := blk_kp k17 (Nat.le_of_lt h9) kp
                 have o6 : TxO Y6 Y3.heap.size u2 := OwnT.kp o5 h93 kp
                 have SM3 := Lib.hid (same_any (D6.l.l.o.k D6.l.l.s) (D6.oy.k D6.sy) D6.e.symm)
                 clear kp J5 o5 k17)
              | (refine wpList_load_row rfl 27 (.tmp 2) rfl w.heap.size rfl 27 (txC x) (0, 0) _ D6.l.l.k.blk Tryz.underlying27 rfl (tx_inf _) ?_)
              | (refine wpList_load_row rfl 27 (.tmp 7) rfl g7 rfl 27 (txC y) (0, 0) _ D6.ky.blk Tryz.underlying27 rfl (tx_inf _) ?_)
              | (refine SM3.out.mono ?_
                 clear SM3
                 rintro e Y7 ⟨rfl, bb⟩
                 have D7 := D6.step bb
                 have k19 := k18.below bb k18.lt
                 have o7 := o6.bl bb
                 clear bb D6 k18 o6))
            go_roundw
            case rel => exact ⟨k + 1, x, _, rfl, by have := HKM.out; omega, by go_num, Lib.hid D7.l.l⟩
            case measure => have := HKM.out; simp [intOf]; omega
      · go_wp2_with (first
          | (refine wpList_load_mid rfl 32 (.tmp 24) rfl b (off + k * 3) rfl (onC q).toList _ hcr Tryz.underlying32 rfl (on_infL q) ?_)
          | (refine wpList_store_blk rfl 32 (.tmp 6) (.tmp 25) rfl wr.heap.size (opC 0 0 false) (onC q) 32 rfl rfl (Blk.new _ _ _) rfl (on_inf q) (on_one q) ?_
             intro W1 k6 n1
             have bb : Below wr.heap.size wr W1 := (alloc_b wr _).trans (n1.below _ (Nat.le_refl _) (by simp))
             have B9 := J.b.trans (bb.mono J.b.size)
             clear bb n1 k6 hcr))
        go_ret
        exact ⟨rfl, B9⟩
    · obtain rfl : k = m := by omega
      go_wp2_with fail
      go_ret
      exact ⟨rfl, J.b⟩
end Go.Proofs.YtlelhhgggnjndaaGreat
