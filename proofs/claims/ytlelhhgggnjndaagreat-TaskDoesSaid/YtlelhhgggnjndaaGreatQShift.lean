/-
  Cells put into a row: in place, and in a new row; a list with one more at a place.
-/
import Derived.Test.YtlelhhgggnjndaaGreatQTkF
import Derived.Test.YtlelhhgggnjndaaGreatQPiSh
namespace Go.Proofs.YtlelhhgggnjndaaGreat
open Go.RowKit Go.Shelf
set_option linter.unusedVariables false
set_option linter.unusedSimpArgs false
def cntT (P : List Pn) : Nat := (P.map (·.t.length)).sum
theorem thr_cnt : ∀ (k : Nat) (L : List Pw), (thrF k L).length = cntT (L.map (·.1))
  | k, [] => rfl
  | k, x :: L => by
    rw [thrF, List.length_append, List.length_map, thr_cnt (k + 1) L]
    simp [cntT]
theorem cnt_set {P : List Pn} {p : Nat} {x : Pn} (hp : p < P.length) : cntT (P.set p x) + (P.getD p pn0).t.length = cntT P + x.t.length := by
  induction P generalizing p with
  | nil => exact absurd hp (by simp)
  | cons y P ih =>
    cases p with
    | zero => simp [cntT, List.getD]; omega
    | succ p =>
      have := ih (p := p) (by simpa using hp)
      simp only [List.set_cons_succ, cntT, List.map_cons, List.sum_cons, List.getD_cons_succ] at this ⊢
      omega
theorem cnt_le {P : List Pn} {x : Pn} (hx : x ∈ P) : x.t.length ≤ cntT P := by
  induction P with
  | nil => cases hx
  | cons y P ih =>
    simp only [cntT, List.map_cons, List.sum_cons]
    rcases List.mem_cons.1 hx with rfl | hx
    · omega
    · have := ih hx
      unfold cntT at this
      omega
theorem getD_name {L : List Pw} (p : Nat) : (L.map (·.1)).getD p pn0 = (L.getD p pw0).1 := by
  simp only [List.getD, List.getElem?_map]
  cases L[p]? <;> rfl
theorem OwnT.setT {V' : World} {B : Nat} {Ua : Option Addr} {um uc : Nat} {U : List Int} {gP m c : Nat} {L : List Pw} {p : Nat} {x : Pn} {A4 : Option Addr} {c4 : Nat} (hu : Zo V' B Ua um uc U) (hp : RoP V' B (some ⟨gP, 0, none⟩) m c (L.set p (x, (A4, c4)))) (hpl : p < L.length) (hz : Zo V' B A4 x.t.length c4 x.t)
    (ho : ∀ j, j < L.length → j ≠ p → Zo V' B (L.getD j pw0).2.1 (L.getD j pw0).1.t.length (L.getD j pw0).2.2 (L.getD j pw0).1.t) (hd : ∀ i j, i < L.length → j < L.length → i ≠ p → j ≠ p → i ≠ j → ∀ g, ownT (L.getD i pw0) = some g → ownT (L.getD j pw0) ≠ some g)
    (hn : ∀ j, j < L.length → j ≠ p → ∀ g, ownT (L.getD j pw0) = some g → A4.map (·.block) ≠ some g) (hud : ∀ j, j < L.length → j ≠ p → ∀ g, ownT (L.getD j pw0) = some g → (Value.slice Ua um uc).ownBlock ≠ some g) (hud2 : ∀ g, A4.map (·.block) = some g → (Value.slice Ua um uc).ownBlock ≠ some g) :
    OwnT V' B Ua um uc U (some ⟨gP, 0, none⟩) m c (L.set p (x, (A4, c4))) := by
  have hb : ownT (x, (A4, c4)) = A4.map (·.block) := by cases A4 <;> rfl
  refine ⟨hu, hp, fun y hy => ?_, fun i j hi hj hij g h1 h2 => ?_, fun y hy g h1 => ?_⟩
  · obtain ⟨j, hj, rfl⟩ := List.getElem_of_mem hy
    rw [show (L.set p (x, (A4, c4)))[j] = (L.set p (x, (A4, c4))).getD j pw0 by rw [List.getD, List.getElem?_eq_getElem hj]; rfl, getD_setP hpl]
    rw [List.length_set] at hj
    by_cases e : j = p
    · rw [if_pos e]; exact hz
    · rw [if_neg e]; exact ho j hj e
  · rw [List.length_set] at hi hj
    rw [getD_setP hpl] at h1 h2
    by_cases ei : i = p
    · rw [if_pos ei, hb] at h1
      by_cases ej : j = p
      · exact hij (ei.trans ej.symm)
      · rw [if_neg ej] at h2
        exact hn j hj ej g h2 h1
    · rw [if_neg ei] at h1
      by_cases ej : j = p
      · rw [if_pos ej, hb] at h2
        exact hn i hi ei g h1 h2
      · rw [if_neg ej] at h2
        exact hd i j hi hj ei ej hij g h1 h2
  · obtain ⟨j, hj, rfl⟩ := List.getElem_of_mem hy
    rw [show (L.set p (x, (A4, c4)))[j] = (L.set p (x, (A4, c4))).getD j pw0 by rw [List.getD, List.getElem?_eq_getElem hj]; rfl, getD_setP hpl] at h1
    rw [List.length_set] at hj
    by_cases e : j = p
    · rw [if_pos e, hb] at h1
      exact hud2 g h1
    · rw [if_neg e] at h1
      exact hud j hj e g h1
def cloneR (a : Int) (U : List Int) (P : List Pn) (p : Nat) : TkA :=
  if cntT P = 8 then noT 24 else if (takeV a U).2.2.2 = 0 then ⟨(takeV a U).1, (takeV a U).2.1, P.set p ⟨(P.getD p pn0).i, (P.getD p pn0).p, insP (P.getD p pn0).t (takeV a U).2.2.1⟩, (takeV a U).2.2.1, 0⟩ else noT (takeV a U).2.2.2
set_option maxRecDepth 100000 in
set_option maxHeartbeats 8000000 in
theorem clone1_tk (a : Int) (U : List Int) (P : List Pn) (p : Nat) (hp : p < P.length) (hpu : (P.getD p pn0).t.Pairwise (· < ·)) (hc : cntT P ≤ 8) (hU : (takeV a U).2.2.2 = 0 → (takeV a U).2.1.length ≤ 1000000) : DoT 63 #[] (fun _ _ => True) a U P p (cloneR a U P p) := by
  intro V B g Ua um uc A m c L _ hLP own tk kg hBg
  have hTK := take_tk g a Ua um uc U A m c L V kg tk.u tk.ul tk.u6 tk.p tk.pl (by have := tk.p6; omega) (by have := tk.n; omega)
  rw [thr_cnt, hLP] at hTK
  have hpl : p < L.length := by rw [← hLP] at hp; simpa using hp
  unfold cloneR
  by_cases h8 : cntT P = 8
  · rw [if_pos h8]
    have TK := Lib.hid (hTK.mono (fun e w' h => h.1 h8))
    clear hTK h8 hU
    go_enter Tryz.func63, Tryz.ntmps63
    go_wp2_with (first
      | (refine TK.out.mono ?_
         clear TK
         rintro e w1 ⟨rfl, bb⟩))
    refine bodyPost_ret (results_tmp2 rfl _ _ _) rfl ?_
    exact ⟨rfl, bb.mono (Nat.le_trans hBg (Nat.le_of_lt kg.lt)), fun h => absurd h (by show ¬ (24 : Int) = 0; decide)⟩
  · rw [if_neg h8]
    have TK := Lib.hid (hTK.mono (fun e w' h => h.2 h8))
    obtain ⟨⟨ta, tl, ti, te⟩, htv⟩ : ∃ t, takeV a U = t := ⟨_, rfl⟩
    rw [htv] at TK hU ⊢
    have HTL := Lib.hid hU
    clear hTK hU htv
    simp only at HTL ⊢
    by_cases he : te = 0
    · subst he
      rw [if_pos rfl]
      have hnm : (P.getD p pn0) = (L.getD p pw0).1 := by rw [← hLP]; exact getD_name p
      rw [hnm] at hpu ⊢
      obtain ⟨gP, hA, hgP, hgPl⟩ := own.p.at0 (by omega)
      subst hA
      obtain ⟨x, hx⟩ : ∃ x, L.getD p pw0 = x := ⟨_, rfl⟩
      have hxm : x ∈ L := by rw [← hx, show L.getD p pw0 = L[p] by simp [List.getD, hpl]]; exact List.getElem_mem _
      have hxt : x.1.t.length ≤ 8 := by have := cnt_le (P := P) (x := x.1) (by rw [← hLP]; exact List.mem_map.2 ⟨x, hxm, rfl⟩); omega
      rw [hx] at hpu ⊢
      have hm : (p : Int) < (m : Int) := by have := own.p.len; omega
      have HOWN := Lib.hid own
      have HTK := Lib.hid tk
      have HX := Lib.hid (And.intro hx hxm)
      have HPL := Lib.hid (And.intro hpl hLP)
      have H8 := Lib.hid h8
      have HPU := Lib.hid hpu
      have hgV := kg.lt
      clear own tk hx hxm hpl hLP h8 hpu hnm hp
      go_enter Tryz.func63, Tryz.ntmps63
      go_wp2_with (first
        | (refine TK.out.mono ?_
           clear TK
           rintro e w1 ⟨Ua1, um1, uc1, a1, l1, id1, er1, rfl, kg1, zu1, hv, nb⟩
           obtain ⟨rfl, rfl, rfl, rfl⟩ : ta = a1 ∧ tl = l1 ∧ ti = id1 ∧ 0 = er1 := by simpa using hv
           have own1 := HOWN.out.kind nb kg (by decide) (by decide)
           have hs1 := nb.size
           have HN1 := Lib.hid nb
           have HO1 := Lib.hid own1
           have HZ1 := Lib.hid zu1
           have q2 : w1.cell? ⟨g, 2, none⟩ = some (.slice (some ⟨gP, 0, none⟩) m c) := kg1.cell 2
           obtain ⟨b7, off7, he7, hb7, hc7⟩ := own1.p.rs p HPL.out.1
           cases he7
           rw [HX.out.1, Nat.zero_add] at hc7
           have t2 : w1.cell? ⟨gP, p * 3 + 2, none⟩ = some (.slice x.2.1 x.1.t.length x.2.2) := hc7 2 _ rfl
           have HBS := Lib.hid (search_any x.2.1 x.1.t.length x.2.2 x.1.t ti w1 (HO1.out.q x HX.out.2).ri rfl (by omega) HPU.out)
           clear hv nb own1 zu1 hc7 hb7 kg)
        | (refine HBS.out.mono ?_
           clear HBS
           rintro e w2 ⟨rfl, bb⟩
           have kg2 := kg1.below bb kg1.lt
           have HO2 := Lib.hid (HO1.out.below bb (Nat.le_refl _))
           have HZ2 := Lib.hid (HZ1.out.below bb (Nat.le_refl _))
           have HN2 := Lib.hid (HN1.out.trans (But.of_below bb g))
           have hs2 := bb.size
           obtain ⟨b7, off7, he7, hb7, hc7⟩ := HO2.out.p.rs p HPL.out.1
           cases he7
           rw [HX.out.1, Nat.zero_add] at hc7
           have t2 : w2.cell? ⟨gP, p * 3 + 2, none⟩ = some (.slice x.2.1 x.1.t.length x.2.2) := hc7 2 _ rfl
           have hle : lessP x.1.t ti ≤ x.1.t.length := lessP_le _ _
           have hal : Below w2.heap.size w2 (w2.alloc (.cells #[.int .i64 ti] 3)) := (Below.refl _ _).alloc (Nat.le_refl _) _
           have HIN := Lib.hid (insert_own x.2.1 x.1.t.length x.2.2 x.1.t (lessP x.1.t ti) B w2.heap.size ti _ ((HO2.out.q x HX.out.2).below hal (Nat.le_refl _)) hle (by omega) (by simp; omega) (Blk.new w2 #[.int .i64 ti] 3).blk (fun e => by
             have := (zo_at (HO2.out.q x HX.out.2) (g := w2.heap.size) (by rw [e]; rfl)).2
             omega))
           have kg3 := kg2.below hal kg2.lt
           have HO3 := Lib.hid (HO2.out.below hal (Nat.le_refl _))
           have HZ3 := Lib.hid (HZ2.out.below hal (Nat.le_refl _))
           have HN3 := Lib.hid (HN2.out.trans (But.of_below hal g))
           obtain ⟨pl, hpl2⟩ : ∃ q, lessP x.1.t ti = q := ⟨_, rfl⟩
           rw [hpl2] at HIN hle ⊢
           have HPE := Lib.hid hpl2
           clear hpl2
           clear kg1 kg2 HO1 HZ1 HN1 bb hb7 hc7 q2 hal)
        | (refine HIN.out.mono ?_
           clear HIN
           rintro e w4 ⟨A4, c4, rfl, z4, ipk⟩
           have HZ4 := Lib.hid z4
           have HI4 := Lib.hid ipk
           obtain ⟨gP', hkind⟩ : ∃ n : Nat, True := ⟨0, trivial⟩
           have rl4 : RoP w4 B (some ⟨gP, 0, none⟩) m c L := own_kind HO3.out.p ipk.2.1 (fun g' e => by
             obtain ⟨cur, k⟩ := zo_blk (HO3.out.q x HX.out.2) (g := g') (by rw [← e]; cases x.2.1 <;> rfl)
             exact ⟨_, _, k, by decide⟩)
           have HR4 := Lib.hid rl4
           obtain ⟨b7, off7, he7, hb7, hc7⟩ := rl4.rs p HPL.out.1
           cases he7
           rw [HX.out.1, Nat.zero_add] at hc7
           have t3 : w4.cell? ⟨gP, p * 3 + 2, none⟩ = some (.slice x.2.1 x.1.t.length x.2.2) := hc7 2 _ rfl
           have f3 := World.ownsRow.frozenAt rl4 (p * 3 + 2)
           clear z4 ipk rl4 hc7 hb7 hkind t2))
      refine bodyPost_ret (results_tmp2 rfl _ _ _) rfl ?_
      have n5 : But gP w4 (w4.setCell ⟨gP, p * 3 + 2, none⟩ (.slice A4 (x.1.t.length + 1) c4)) := (But.refl gP w4).setCell (p := ⟨gP, p * 3 + 2, none⟩) (.inl rfl) _
      obtain ⟨curP, kP⟩ := roP_blk HR4.out rfl
      have hli := len_insP x.1.t ti
      have hin : x.1.t.take pl ++ ti :: x.1.t.drop pl = insP x.1.t ti := by unfold insP; rw [HPE.out]
      have rl5 := HR4.out.cellSet HPL.out.1 (j := 2) (u := .slice A4 (x.1.t.length + 1) c4) (y := ((⟨x.1.i, x.1.p, insP x.1.t ti⟩ : Pn), (A4, c4))) (by omega) (by rw [HX.out.1]; show [Value.int .i64 x.1.i, .int .i64 x.1.p, .slice A4 (insP x.1.t ti).length c4] = _; rw [hli]; rfl)
      have kind5 : ∀ {A m c l B'}, Zo w4 B' A m c l → Zo (w4.setCell ⟨gP, p * 3 + 2, none⟩ (.slice A4 (x.1.t.length + 1) c4)) B' A m c l := fun h => own_kind h (grown_but n5) (fun g' e => by cases e; exact ⟨_, _, kP, by decide⟩)
      have hz4 := HZ4.out
      rw [hin, ← hli] at hz4
      have hxq := HOWN.out.q x HX.out.2
      have hxg : ∀ g', x.2.1.map (·.block) = some g' → ownT x = some g' := fun g' e => by rw [← e]; unfold ownT; cases x.2.1 <;> rfl
      have hq : ∀ j, j < L.length → HO3.out = HO3.out ∧ L.getD j pw0 ∈ L := fun j hj => ⟨rfl, by rw [show L.getD j pw0 = L[j] by simp [List.getD, hj]]; exact List.getElem_mem _⟩
      have hu4 : Zo w4 V.heap.size Ua1 um1 uc1 tl := own_apart HZ3.out HI4.out.2.1 (fun g' e e2 => by
        have h1 := (zo_at hxq (hxg g' e)).2
        have h2 := (zo_at HZ3.out e2).1
        omega)
      have hBV : B ≤ V.heap.size := Nat.le_trans hBg (Nat.le_of_lt hgV)
      have own5 := OwnT.setT ((kind5 hu4).down hBV) rl5 HPL.out.1 (kind5 hz4) (fun j hj hne => kind5 (own_apart (HO3.out.q _ (hq j hj).2) HI4.out.2.1 (fun g' e e2 => HO3.out.qd p j HPL.out.1 hj (fun e => hne e.symm) g' (by rw [HX.out.1]; exact hxg g' e) e2)))
        (fun i j hi hj _ _ hij => HO3.out.qd i j hi hj hij) (fun j hj hne g' h1 h2 => by
          have h3 := (zo_at (HO3.out.q _ (hq j hj).2) h1).2
          rcases HI4.out.2.2 with h4 | ⟨g2, h4, h5⟩
          · rw [h4] at h2
            exact HO3.out.qd p j HPL.out.1 hj (fun e => hne e.symm) g' (by rw [HX.out.1]; exact hxg g' h2) h1
          · rw [h4] at h2
            cases h2
            omega) (fun j hj hne g' h1 h2 => by
          have h3 := (zo_at (HOWN.out.q _ (hq j hj).2) h1).2
          have h4 := (zo_at HZ3.out h2).1
          omega) (fun g' h1 h2 => by
          have h4 := zo_at HZ3.out h2
          rcases HI4.out.2.2 with h5 | ⟨g2, h5, h6⟩
          · rw [h5] at h1
            have := (zo_at hxq (hxg g' h1)).2
            omega
          · rw [h5] at h1
            cases h1
            omega)
      have kg4 : Blk w4 g _ 27 := ⟨(HI4.out.2.1.block g kg3.lt (fun e => by
        obtain ⟨cur, k⟩ := zo_blk (HO3.out.q x HX.out.2) (hxg g e.symm)
        exact absurd (blk_kind kg3 k) (by decide))).trans kg3.blk⟩
      have kg5 := n5.blk7 kg4 (fun e => by rw [e] at kg4; exact absurd (blk_kind kg4 kP) (by decide))
      have hB5 : Below B V (w4.setCell ⟨gP, p * 3 + 2, none⟩ (.slice A4 (x.1.t.length + 1) c4)) := by
        have b3 := HN3.out.below B hBg hBV
        have b4 := b3.trans HI4.out.1
        exact b4.trans (n5.below _ hgP (Nat.le_trans hBV b4.size))
      have hnames : (L.set p ((⟨x.1.i, x.1.p, insP x.1.t ti⟩ : Pn), (A4, c4))).map (·.1) = P.set p ⟨x.1.i, x.1.p, insP x.1.t ti⟩ := by rw [List.map_set, HPL.out.2]
      have hcs := cnt_set (P := P) (p := p) (x := ⟨x.1.i, x.1.p, insP x.1.t ti⟩) (by rw [← HPL.out.2, List.length_map]; exact HPL.out.1)
      have hgd : P.getD p pn0 = x.1 := by rw [← HPL.out.2, getD_name, HX.out.1]
      rw [hgd, show (⟨x.1.i, x.1.p, insP x.1.t ti⟩ : Pn).t.length = x.1.t.length + 1 from hli] at hcs
      exact ⟨rfl, hB5, fun _ => ⟨Ua1, um1, uc1, _, m, c, _, kg5, own5.tk (by have := HZ3.out.len; have := HTL.out (by trivial); omega) HTK.out.p6 (fun y hy => by
        have := cnt_le (P := P.set p ⟨x.1.i, x.1.p, insP x.1.t ti⟩) (x := y.1) (by rw [← hnames]; exact List.mem_map.2 ⟨y, hy, rfl⟩)
        omega) (by rw [thr_cnt, hnames]; omega), hnames, own5⟩⟩
    · have hne : (te != 0) = true := by simpa using he
      rw [if_neg he]
      clear HTL
      have HE := Lib.hid he
      clear he
      go_enter Tryz.func63, Tryz.ntmps63
      go_wp2_with (first
        | (refine TK.out.mono ?_
           clear TK
           rintro e w1 ⟨Ua1, um1, uc1, a1, l1, id1, er1, rfl, kg1, zu1, hv, nb⟩
           obtain ⟨rfl, rfl, rfl, rfl⟩ : ta = a1 ∧ tl = l1 ∧ ti = id1 ∧ te = er1 := by simpa using hv
           clear hv))
      refine bodyPost_ret (results_tmp2 rfl _ _ _) rfl ?_
      exact ⟨rfl, nb.below _ hBg (Nat.le_trans hBg (Nat.le_of_lt kg.lt)), fun h => absurd h HE.out⟩
end Go.Proofs.YtlelhhgggnjndaaGreat
namespace Go.Proofs.YtlelhhgggnjndaaGreat
set_option linter.unusedVariables false
set_option linter.unusedSimpArgs false
theorem shift_cells {cur F X : List Value} {a n t : Nat} (hF : F.length = n) (hc : cur.take n = F) (ht : X.length = t) (ha : a ≤ n) (hl : n + t ≤ cur.length) :
    let c1 := cur.take (a + t) ++ F.drop a ++ cur.drop (a + t + (F.drop a).length)
    (c1.take a ++ X ++ c1.drop (a + X.length)).take (n + t) = F.take a ++ X ++ F.drop a ∧ (c1.take a ++ X ++ c1.drop (a + X.length)).length = cur.length := by
  intro c1
  have hl1 : (F.drop a).length = n - a := by rw [List.length_drop, hF]
  have e0 : c1.length = cur.length := by
    simp only [c1, List.length_append, List.length_take, List.length_drop, hF]; omega
  have e1 : c1.take a = F.take a := by
    simp only [c1]
    rw [List.append_assoc, List.take_append_of_le_length (by rw [List.length_take]; omega), List.take_take, ← hc, List.take_take]
    congr 1; omega
  have e2 : c1.drop (a + X.length) = F.drop a ++ cur.drop (a + t + (F.drop a).length) := by
    simp only [c1]
    rw [List.append_assoc, ht, List.drop_append_of_le_length (by rw [List.length_take]; omega), List.drop_of_length_le (by rw [List.length_take]; omega), List.nil_append]
  refine ⟨?_, ?_⟩
  · rw [e1, e2, ← List.append_assoc, List.take_append_of_le_length (by simp only [List.length_append, List.length_take, hl1, hF, ht]; omega), List.take_of_length_le (by simp only [List.length_append, List.length_take, hl1, hF, ht]; omega)]
  · simp only [List.length_append, List.length_take, List.length_drop, e0, ht]; omega
theorem grow_cells {F X Z : List Value} {a n t : Nat} (hF : F.length = n) (ht : X.length = t) (ha : a ≤ n) (hl : n + t ≤ a + Z.length) :
    let c0 := F.take a ++ Z
    let c1 := c0.take a ++ X ++ c0.drop (a + X.length)
    (c1.take (a + t) ++ F.drop a ++ c1.drop (a + t + (F.drop a).length)).take (n + t) = F.take a ++ X ++ F.drop a ∧ (c1.take (a + t) ++ F.drop a ++ c1.drop (a + t + (F.drop a).length)).length = a + Z.length := by
  intro c0 c1
  have hl1 : (F.drop a).length = n - a := by rw [List.length_drop, hF]
  have hl2 : (F.take a).length = a := by rw [List.length_take, hF]; omega
  have e0 : c0.length = a + Z.length := by simp only [c0, List.length_append, hl2]
  have e1 : c0.take a = F.take a := by
    simp only [c0]
    rw [List.take_append_of_le_length (by omega), List.take_of_length_le (by omega)]
  have e3 : c1.length = a + Z.length := by simp only [c1, List.length_append, List.length_take, List.length_drop, e0, ht]; omega
  have e2 : c1.take (a + t) = F.take a ++ X := by
    simp only [c1, e1]
    rw [List.take_append_of_le_length (by rw [List.length_append, hl2, ht]; omega), List.take_of_length_le (by rw [List.length_append, hl2, ht]; omega)]
  refine ⟨?_, ?_⟩
  · rw [e2, List.take_append_of_le_length (by simp only [List.length_append, hl1, hl2, ht]; omega), List.take_of_length_le (by simp only [List.length_append, hl1, hl2, ht]; omega)]
  · simp only [List.length_append, List.length_take, List.length_drop, e3, hl1]; omega
def insL {α : Type} (k : Nat) (x : α) (L : List α) : List α := L.take k ++ x :: L.drop k
theorem insL_len {α : Type} {k : Nat} {x : α} {L : List α} : (insL k x L).length = L.length + 1 := by
  unfold insL
  rw [List.length_append, List.length_cons, List.length_take, List.length_drop]; omega
theorem insL_end {α : Type} {x : α} {L : List α} : insL L.length x L = L ++ [x] := by simp [insL]
end Go.Proofs.YtlelhhgggnjndaaGreat
