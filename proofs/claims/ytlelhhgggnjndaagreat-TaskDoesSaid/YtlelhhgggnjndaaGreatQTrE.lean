/-
  The reference's ended.
-/
import Derived.Test.YtlelhhgggnjndaaGreatQTrB
import Derived.Test.YtlelhhgggnjndaaGreatQTpBa
import Derived.Test.YtlelhhgggnjndaaGreatQTkRc
import Derived.Test.YtlelhhgggnjndaaGreatQTqO
import Derived.Deep.CutRange
import Derived.Deep.CutBlock
namespace Go.Proofs.YtlelhhgggnjndaaGreat
open Go.RowKit Go.Shelf
set_option linter.unusedVariables false
set_option linter.unusedSimpArgs false
def oneF (L : List Pw) (c : Int) : Bool := (decide (0 ≤ fndF 0 L 1) && decide (0 < (L.getD (fndF 0 L 1).toNat pw0).1.t.length)) && !aboveR L c (L.length + 1) 1
def toI (b : Bool) : Int := if b then 1 else 0
def edStep (s : Int × List Int × List Pn) (c : Int) : Int × List Int × List Pn :=
  if (!oneF (ofN s.2.2) c && (s.2.2.getD (fndF 0 (ofN s.2.2) c).toNat pn0).t.length == 0) = true then ((rfreeV s.1 s.2.1 c).1, (rfreeV s.1 s.2.1 c).2.1, (s.2.2.set (fndF 0 (ofN s.2.2) c).toNat (rePn (s.2.2.getD (fndF 0 (ofN s.2.2) c).toNat pn0) (toI (oneF (ofN s.2.2) c)))).filter (fun x => x.i != c))
  else (s.1, s.2.1, s.2.2.set (fndF 0 (ofN s.2.2) c).toNat (rePn (s.2.2.getD (fndF 0 (ofN s.2.2) c).toNat pn0) (toI (oneF (ofN s.2.2) c))))
def edF (s : Int × List Int × List Pn) : List Int → Int × List Int × List Pn
  | [] => s
  | c :: cs => edF (edStep s c) cs
def edEnd (s : Int × List Int × List Pn) (pid : Int) : Int × List Int × List Pn :=
  if ((s.2.2.getD (fndF 0 (ofN s.2.2) pid).toNat pn0).p == 0) = true then ((rfreeV s.1 s.2.1 pid).1, (rfreeV s.1 s.2.1 pid).2.1, s.2.2.filter (fun x => x.i != pid)) else s
theorem fnd_nm : ∀ {L M : List Pw} (k : Nat) (q : Int), L.map (·.1) = M.map (·.1) → fndF k L q = fndF k M q
  | [], [], k, q, _ => rfl
  | [], y :: M, k, q, h => by simp at h
  | x :: L, [], k, q, h => by simp at h
  | x :: L, y :: M, k, q, h => by
    rw [List.map_cons, List.map_cons] at h
    injection h with h1 h2
    rw [fndF, fndF, h1, fnd_nm (k + 1) q h2]
theorem above_nm {L M : List Pw} (h : L.map (·.1) = M.map (·.1)) (z : Int) : ∀ (n : Nat) (q : Int), aboveR L z n q = aboveR M z n q
  | 0, q => rfl
  | n + 1, q => by unfold aboveR; rw [fnd_nm 0 q h, getD_namesP h, above_nm h z n]
theorem one_nm {L M : List Pw} (h : L.map (·.1) = M.map (·.1)) (c : Int) : oneF L c = oneF M c := by unfold oneF; rw [fnd_nm 0 1 h, getD_namesP h, above_nm h, len_nm h]
theorem OwnW.setP {V : World} {B um uc gP m c k : Nat} {Ua : Option Addr} {U : List Int} {L : List Pw} (own : OwnW V B Ua um uc U (some ⟨gP, 0, none⟩) m c L) (hk : k < L.length) (q : Int) : OwnW (V.setCell ⟨gP, k * 3 + 1, none⟩ (.int .i64 q)) B Ua um uc U (some ⟨gP, 0, none⟩) m c (L.set k (reP (L.getD k pw0) q)) := by
  have n5 : But gP V (V.setCell ⟨gP, k * 3 + 1, none⟩ (.int .i64 q)) := (But.refl gP V).setCell (p := ⟨gP, k * 3 + 1, none⟩) (.inl rfl) _
  obtain ⟨curP, kP⟩ := roP_blk own.p rfl
  have kind5 : ∀ {A m c l B'}, Zo V B' A m c l → Zo (V.setCell ⟨gP, k * 3 + 1, none⟩ (.int .i64 q)) B' A m c l := fun h => own_kind h (grown_but n5) (fun g' e => by cases e; exact ⟨_, _, kP, by decide⟩)
  have hx : L.getD k pw0 ∈ L := by rw [show L.getD k pw0 = L[k] by simp [List.getD, hk]]; exact List.getElem_mem hk
  refine ⟨kind5 own.u, own.p.cellSet hk (by omega) rfl, fun y hy => ?_⟩
  rcases List.mem_or_eq_of_mem_set hy with h | rfl
  · exact kind5 (own.q y h)
  · exact kind5 (own.q (L.getD k pw0) hx)
theorem rfree_len (a : Int) (U : List Int) (x : Int) : (rfreeV a U x).2.1.length ≤ U.length := by
  unfold rfreeV
  split
  · exact List.length_filter_le _ _
  · simp
structure EdS (w : World) (B : Nat) (G : Option Addr) (gm gc : Nat) (ks : List Int) (a : Int) (Ua : Option Addr) (um uc : Nat) (U : List Int) (A : Option Addr) (m c : Nat) (L : List Pw) (V : World) : Prop where
  b : Below B w V
  s : w.heap.size ≤ V.heap.size
  k : Blk V w.heap.size (tkC a Ua um uc A m c) 27
  k2 : Blk V (w.heap.size + 1) (tkC 0 none 0 0 none 0 0) 27
  o : OwnW V B Ua um uc U A m c L
  z : Zo V B G gm gc ks
theorem EdS.step {w : World} {B : Nat} {G : Option Addr} {gm gc : Nat} {ks : List Int} {a : Int} {Ua : Option Addr} {um uc : Nat} {U : List Int} {A : Option Addr} {m c : Nat} {L : List Pw} {V V' : World} (h : EdS w B G gm gc ks a Ua um uc U A m c L V) (hB : B ≤ w.heap.size) (b : Below V.heap.size V V') : EdS w B G gm gc ks a Ua um uc U A m c L V' :=
  ⟨h.b.trans (b.mono (Nat.le_trans hB h.s)), Nat.le_trans h.s b.size, h.k.below b h.k.lt, h.k2.below b h.k2.lt, h.o.below b (Nat.le_refl _), h.z.below b (Nat.le_refl _)⟩
structure EdI (um m : Nat) (L : List Pw) (cs : List Int) (pid : Int) : Prop where
  u : um ≤ 100000
  m9 : m ≤ 100000
  l : m = L.length
  t : ∀ x ∈ L, x.1.t.length ≤ 1000000
  c : ∀ c ∈ cs, c ∈ idsP L
  d : cs.Pairwise (· ≠ ·)
  p : pid ∈ idsP L
  n : pid ∉ cs
theorem fnd_in {L : List Pw} {c : Int} (h : c ∈ idsP L) : ∃ j, j < L.length ∧ fndF 0 L c = ((j : Nat) : Int) ∧ (L.getD j pw0).1.i = c := by
  rcases fndF_at L 0 c with ⟨_, h2⟩ | ⟨j, x, h1, h2, h3⟩
  · exact absurd h h2
  · exact ⟨j, (List.getElem?_eq_some_iff.1 h1).1, by rw [h3, Nat.zero_add], by rw [getD_some h1]; exact h2⟩
theorem EdS.set {w : World} {B gP : Nat} {G : Option Addr} {gm gc : Nat} {ks : List Int} {a : Int} {Ua : Option Addr} {um uc : Nat} {U : List Int} {m c j : Nat} {L : List Pw} {V : World} (h : EdS w B G gm gc ks a Ua um uc U (some ⟨gP, 0, none⟩) m c L V) (hB : B ≤ w.heap.size) (hj : j < L.length) (v : Int) : EdS w B G gm gc ks a Ua um uc U (some ⟨gP, 0, none⟩) m c (L.set j (reP (L.getD j pw0) v)) (V.setCell ⟨gP, j * 3 + 1, none⟩ (.int .i64 v)) := by
  have n5 : But gP V (V.setCell ⟨gP, j * 3 + 1, none⟩ (.int .i64 v)) := (But.refl gP V).setCell (p := ⟨gP, j * 3 + 1, none⟩) (.inl rfl) _
  obtain ⟨curP, kP⟩ := roP_blk h.o.p rfl
  have hg : B ≤ gP := by
    rcases h.o.p.form with ⟨e, _⟩ | ⟨g9, e, h2, _⟩
    · cases e
    · cases e; exact h2
  have hk : ∀ {g cs}, Blk V g cs 27 → Blk (V.setCell ⟨gP, j * 3 + 1, none⟩ (.int .i64 v)) g cs 27 := fun {g cs} k => n5.blk7 k (fun e => by rw [e] at k; exact absurd (blk_kind k kP) (by decide))
  exact ⟨h.b.trans (n5.below B hg (Nat.le_trans hB h.s)), Nat.le_trans h.s n5.size, hk h.k, hk h.k2, h.o.setP hj v, own_kind h.z (grown_but n5) (fun g' e => by cases e; exact ⟨_, _, kP, by decide⟩)⟩
theorem EdI.next {um m j : Nat} {M : List Pw} {cc pid v : Int} {cs : List Int} (h : EdI um m M (cc :: cs) pid) (hj : j < M.length) : EdI um m (M.set j (reP (M.getD j pw0) v)) cs pid :=
  ⟨h.u, h.m9, by rw [List.length_set]; exact h.l, fun x hx => by
    rcases List.mem_or_eq_of_mem_set hx with h1 | rfl
    · exact h.t x h1
    · exact h.t (M.getD j pw0) (by rw [show M.getD j pw0 = M[j] by simp [List.getD, hj]]; exact List.getElem_mem hj),
   fun c hc => by rw [ids_set hj]; exact h.c c (List.mem_cons_of_mem _ hc), (List.pairwise_cons.1 h.d).2, by rw [ids_set hj]; exact h.p, fun hc => h.n (List.mem_cons_of_mem _ hc)⟩
theorem ids_filter {M N : List Pw} {cc : Int} (hn : N.map (·.1) = (M.map (·.1)).filter (fun x => x.i != cc)) {z : Int} (hz : z ∈ idsP M) (hne : z ≠ cc) : z ∈ idsP N := by
  rw [idsP_names] at hz ⊢
  rw [hn]
  obtain ⟨x, hx, rfl⟩ := List.mem_map.1 hz
  exact List.mem_map.2 ⟨x, List.mem_filter.2 ⟨hx, by simpa using hne⟩, rfl⟩
theorem EdI.gone {um m um' m' : Nat} {M N : List Pw} {cc pid : Int} {cs : List Int} (h : EdI um m M cs pid) (hn : N.map (·.1) = (M.map (·.1)).filter (fun x => x.i != cc)) (hcc : cc ∉ cs) (hpc : pid ≠ cc) (hu : um' ≤ um) (hm : m' = N.length) : EdI um' m' N cs pid := by
  have hl : N.length ≤ M.length := by
    have h1 := congrArg List.length hn
    rw [List.length_map] at h1
    rw [h1]
    exact Nat.le_trans (List.length_filter_le _ _) (by simp)
  refine ⟨Nat.le_trans hu h.u, ?_, hm, fun x hx => ?_, fun c hc => ids_filter hn (h.c c hc) (fun e => hcc (e ▸ hc)), h.d, ids_filter hn h.p hpc, h.n⟩
  · have := h.m9; have := h.l; omega
  · have : x.1 ∈ N.map (·.1) := List.mem_map.2 ⟨x, hx, rfl⟩
    rw [hn] at this
    obtain ⟨y, hy, e⟩ := List.mem_map.1 (List.mem_filter.1 this).1
    rw [← e]
    exact h.t y hy
theorem edStep_nm {a : Int} {U : List Int} {L : List Pw} {c : Int} {j : Nat} (hj : j < L.length) (hf : fndF 0 L c = (j : Int)) : edStep (a, U, L.map (·.1)) c =
    if (!oneF L c && (L.getD j pw0).1.t.length == 0) = true then ((rfreeV a U c).1, (rfreeV a U c).2.1, ((L.set j (reP (L.getD j pw0) (toI (oneF L c)))).map (·.1)).filter (fun x => x.i != c)) else (a, U, (L.set j (reP (L.getD j pw0) (toI (oneF L c)))).map (·.1)) := by
  unfold edStep
  simp only
  rw [fnd_nm 0 c (ofN_nm (L.map (·.1))), hf, Int.toNat_natCast, one_nm (ofN_nm (L.map (·.1))), show (L.map (·.1)).getD j pn0 = (L.getD j pw0).1 by simp [List.getD, hj]]
  rw [List.map_set]
  rfl
set_option maxRecDepth 100000 in
set_option maxHeartbeats 16000000 in
theorem ended_rf (a : Int) (Ua : Option Addr) (um uc : Nat) (U : List Int) (A : Option Addr) (m c : Nat) (L : List Pw) (pid : Int) (B : Nat) (w : World) (h : OwnW w B Ua um uc U A m c L) (hB : B ≤ w.heap.size) (hI : EdI um m L (kidF L pid) pid) (E : Int × List Int × List Pn) (hE : E = edEnd (edF (a, U, L.map (·.1)) (kidF L pid)) pid) :
    Calls Tryz.prog 80 #[tkV a Ua um uc A m c, .int .i64 pid] w fun e w' => ∃ Ua' um' uc' A' m' c' M, e = .returned (tkV E.1 Ua' um' uc' A' m' c') ∧ OwnW w' B Ua' um' uc' E.2.1 A' m' c' M ∧ M.map (·.1) = E.2.2 ∧ Below B w w' ∧ um' ≤ 100000 ∧ m' ≤ 100000 ∧ w.heap.size ≤ w'.heap.size := by
  have k1 := (Blk.new w (tkC a Ua um uc A m c) 27).alloc (.cells (tkC 0 none 0 0 none 0 0) 27)
  have k2 := Blk.new_ (w.alloc (.cells (tkC a Ua um uc A m c) 27)) (tkC 0 none 0 0 none 0 0) 27 (n := w.heap.size + 1) (by simp)
  have B0 := ((Below.refl w.heap.size w).alloc (Nat.le_refl _) (.cells (tkC a Ua um uc A m c) 27)).alloc (by simp) (.cells (tkC 0 none 0 0 none 0 0) 27)
  have o0 := h.below B0 (Nat.le_refl _)
  have CH := Lib.hid (fun (V : World) (hV : Below w.heap.size w V) => children_rf a Ua um uc A m c L pid V ((h.below hV (Nat.le_refl _)).ps hI.t) hI.l (by have := hI.m9; omega))
  have HI := Lib.hid hI
  have HE := Lib.hid hE
  clear h hI hE
  unfold tkV at CH ⊢
  go_enter Tryz.func80, Tryz.ntmps80
  go_wp2_with (first
    | (refine wpList_load_row rfl 27 (.tmp 2) rfl w.heap.size rfl 27 (tkC a Ua um uc A m c) (0, 0) _ k1.blk Tryz.underlying27 rfl (tk_inf _ _ _ _ _ _ _) ?_)
    | (refine (CH.out _ B0).mono ?_
       clear CH
       rintro e w1 ⟨G, gm, gc, rfl, z1, bb⟩
       have J0 : EdS w B G gm gc (kidF L pid) a Ua um uc U A m c L w1 := ⟨(B0.mono hB).trans (bb.mono (Nat.le_trans hB B0.size)), Nat.le_trans B0.size bb.size, k1.below bb k1.lt, k2.below bb k2.lt, o0.below bb (Nat.le_refl _), z1.down (Nat.le_trans hB B0.size)⟩
       clear z1 bb k1 k2 B0 o0
       go_wp2_with fail))
  have HJ0 := Lib.hid J0
  obtain ⟨ks, hks⟩ : ∃ ks, kidF L pid = ks := ⟨_, rfl⟩
  rw [hks] at HJ0 HI HE
  have hgl : gm = ks.length := by rw [← hks]; exact J0.z.len
  have hgm6 : gm ≤ 1000000000 := by have h1 := kidF_len L pid; rw [hks] at h1; have := HI.out.l; have := HI.out.m9; omega
  have HGL := Lib.hid hgl
  clear J0 hks hgl
  have HE := Lib.hid (show E = edEnd (edF (a, U, L.map (·.1)) (ks.drop 0)) pid by rw [List.drop_zero]; exact HE.out)
  have HI := Lib.hid (show EdI um m L (ks.drop 0) pid by rw [List.drop_zero]; exact HI.out)
  go_loopw [14] (fun i wr' => ∃ (k : Nat) (a1 : Int) (U1 : Option Addr) (um1 uc1 : Nat) (l1 : List Int) (A1 : Option Addr) (m1 c1 : Nat) (M : List Pw) (wr : World), wr = wr' ∧ k ≤ gm ∧ i = .int .i64 k ∧ Hid (E = edEnd (edF (a1, l1, M.map (·.1)) (ks.drop k)) pid) ∧ Hid (EdI um1 m1 M (ks.drop k) pid) ∧ Hid (EdS w B G gm gc ks a1 U1 um1 uc1 l1 A1 m1 c1 M wr)) (fun i _ => gm - (intOf i).toNat)
  case atStart => exact ⟨0, a, Ua, um, uc, U, A, m, c, L, _, rfl, Nat.zero_le _, rfl, HE, HI, HJ0⟩
  case round =>
    clear HE HI HJ0
    obtain ⟨k, a1, U1, um1, uc1, l1, A1, m1, c1, M, wr, hwr, hk, rfl, HE, HI, HJ⟩ := hrel
    subst hwr
    have J := HJ.out
    clear HJ
    by_cases hlt : k < gm
    · have hlt' : (k : Int) < (gm : Int) := by omega
      have hkl : k < ks.length := by have := HGL.out; omega
      have hcs : ks.drop k = ks.getD k 0 :: ks.drop (k + 1) := by rw [List.drop_eq_getElem_cons hkl]; simp [List.getD, hkl]
      obtain ⟨b5, off5, hG, hb5, hc5⟩ := J.z.ri k hkl
      subst hG
      obtain ⟨cc, hcc⟩ : ∃ x, ks.getD k 0 = x := ⟨_, rfl⟩
      rw [hcc] at hc5 hcs
      have hE := HE.out
      have hI := HI.out
      rw [hcs] at hE hI
      obtain ⟨j, hjl, hfj, hji⟩ := fnd_in (hI.c cc (List.mem_cons_self ..))
      obtain ⟨gP, hA, hgP, hgPl⟩ := J.o.p.at0 (by omega)
      subst hA
      have hmM := hI.l
      replace hE : E = edEnd (edF (edStep (a1, l1, M.map (·.1)) cc) (ks.drop (k + 1))) pid := hE
      rw [edStep_nm hjl hfj] at hE
      have F1 := Lib.hid (fun (V : World) (hV : EdS w B (some ⟨b5, off5, none⟩) gm gc ks a1 U1 um1 uc1 l1 (some ⟨gP, 0, none⟩) m1 c1 M V) (q : Int) => find_rf a1 U1 um1 uc1 (some ⟨gP, 0, none⟩) m1 c1 M q V (hV.o.ps hI.t) hmM (by have := hI.m9; omega))
      have AB := Lib.hid (fun (V : World) (hV : EdS w B (some ⟨b5, off5, none⟩) gm gc ks a1 U1 um1 uc1 l1 (some ⟨gP, 0, none⟩) m1 c1 M V) => (show Calls Tryz.prog 106 #[tkV a1 U1 um1 uc1 (some ⟨gP, 0, none⟩) m1 c1, .int .i64 cc, .int .i64 1] V fun e w' => e = .returned (.bool (aboveR M cc (M.length + 1) 1)) ∧ Below V.heap.size V w' from by
        have h9 := above_rf a1 U1 um1 uc1 (some ⟨gP, 0, none⟩) m1 c1 M cc 1 V (hV.o.ps hI.t) hmM (by have := hI.m9; omega)
        rw [show aboveR M cc (m1 + 1) 1 = aboveR M cc (M.length + 1) 1 by rw [hmM]] at h9
        exact h9))
      have GN := Lib.hid (fun (M2 : List Pw) (V : World) (hV : EdS w B (some ⟨b5, off5, none⟩) gm gc ks a1 U1 um1 uc1 l1 (some ⟨gP, 0, none⟩) m1 c1 M2 V) (ht2 : ∀ x ∈ M2, x.1.t.length ≤ 1000000) => gone_rf a1 U1 um1 uc1 l1 (some ⟨gP, 0, none⟩) m1 c1 M2 cc B V hV.o (Nat.le_trans hB hV.s) hI.u hI.m9 ht2)
      unfold tkV at F1 AB GN
      have HMM := Lib.hid hmM
      have HIC := Lib.hid hI
      have HJL := Lib.hid (And.intro hjl (And.intro hfj hji))
      have hjm : (j : Int) < (m1 : Int) := by omega
      clear HE HI hcs hcc hkl hlt
      have hlen : (M.length : Nat) = m1 := hmM.symm
      obtain ⟨tb, hto⟩ : ∃ b, oneF M cc = b := ⟨_, rfl⟩
      rw [hto] at hE
      have HTO := Lib.hid hto
      have HUM := Lib.hid J.o.u.len
      have FC := Lib.hid (fun (V : World) (hV : EdS w B (some ⟨b5, off5, none⟩) gm gc ks a1 U1 um1 uc1 l1 (some ⟨gP, 0, none⟩) m1 c1 M V) => F1.out V hV cc)
      rw [hfj] at FC
      obtain ⟨l0, hl0⟩ : ∃ b, ((M.getD j pw0).1.t.length == 0) = b := ⟨_, rfl⟩
      rw [hl0] at hE
      have hln := len0_int hl0
      obtain ⟨xs2, hxs2⟩ : ∃ s, (M.getD j pw0).2.1 = s := ⟨_, rfl⟩
      obtain ⟨xn, hxn⟩ : ∃ s, (M.getD j pw0).1.t.length = s := ⟨_, rfl⟩
      obtain ⟨xs3, hxs3⟩ : ∃ s, (M.getD j pw0).2.2 = s := ⟨_, rfl⟩
      have HXN := Lib.hid (show some (Value.slice (M.getD j pw0).2.1 (M.getD j pw0).1.t.length (M.getD j pw0).2.2) = some (.slice xs2 xn xs3) by rw [hxs2, hxn, hxs3])
      rw [hxn] at hln
      clear hto hI hjl hfj hji hmM hlen hl0 hxs2 hxn hxs3
      rcases fndF_or M 0 1 with hf1 | ⟨j1, hj1, hf1⟩
      · have F11 := Lib.hid (fun (V : World) (hV : EdS w B (some ⟨b5, off5, none⟩) gm gc ks a1 U1 um1 uc1 l1 (some ⟨gP, 0, none⟩) m1 c1 M V) => F1.out V hV 1)
        rw [hf1] at F11
        have hto : tb = false := by rw [← HTO.out]; unfold oneF; rw [hf1]; rfl
        subst hto
        clear HTO AB hf1 F1
        cases l0
        · skip
          rw [show (!false && false) = false from rfl, if_neg (by simp)] at hE
          have HE := Lib.hid hE
          clear hE
          go_wp2_with (first
            | (refine wpList_load_row rfl 27 (.tmp 2) rfl w.heap.size rfl 27 (tkC a1 U1 um1 uc1 (some ⟨gP, 0, none⟩) m1 c1) (0, 0) _ J.k.blk Tryz.underlying27 rfl (tk_inf _ _ _ _ _ _ _) ?_)
            | (refine (F11.out _ J).mono ?_
               clear F11
               rintro e w2 ⟨rfl, bb⟩
               have J := J.step hB bb
               clear bb
               go_upto_region 8 with fail
               go_wp2_with (first
                 | (refine wpList_load_row rfl 27 (.tmp 2) rfl w.heap.size rfl 27 (tkC a1 U1 um1 uc1 (some ⟨gP, 0, none⟩) m1 c1) (0, 0) _ J.k.blk Tryz.underlying27 rfl (tk_inf _ _ _ _ _ _ _) ?_)
                 | (refine (FC.out _ J).mono ?_
                    clear FC
                    rintro e w4 ⟨rfl, bb⟩
                    have J := J.step hB bb
                    have q2 : w4.cell? ⟨w.heap.size, 2, none⟩ = some (.slice (some ⟨gP, 0, none⟩) m1 c1) := J.k.cell 2
                    obtain ⟨b8, off8, he8, _, hc8⟩ := J.o.p.rs j HJL.out.1
                    cases he8
                    rw [Nat.zero_add] at hc8
                    have r1 : w4.cell? ⟨gP, j * 3 + 1, none⟩ = some (.int .i64 (M.getD j pw0).1.p) := hc8 1 _ rfl
                    have f1 := World.ownsRow.frozenAt J.o.p (j * 3 + 1)
                    have HJ5 := Lib.hid (J.set hB HJL.out.1 (0 : Int))
                    have q22 : (w4.setCell ⟨gP, j * 3 + 1, none⟩ (.int .i64 (0 : Int))).cell? ⟨w.heap.size, 2, none⟩ = some (.slice (some ⟨gP, 0, none⟩) m1 c1) := HJ5.out.k.cell 2
                    obtain ⟨b8, off8, he8, _, hc9⟩ := HJ5.out.o.p.rs j (by rw [List.length_set]; exact HJL.out.1)
                    cases he8
                    rw [Nat.zero_add, getD_setP HJL.out.1, if_pos rfl] at hc9
                    have t22 : (w4.setCell ⟨gP, j * 3 + 1, none⟩ (.int .i64 (0 : Int))).cell? ⟨gP, j * 3 + 2, none⟩ = some (.slice xs2 xn xs3) := (show (w4.setCell ⟨gP, j * 3 + 1, none⟩ (.int .i64 (0 : Int))).cell? ⟨gP, j * 3 + 2, none⟩ = some (Value.slice (M.getD j pw0).2.1 (M.getD j pw0).1.t.length (M.getD j pw0).2.2) from hc9 2 _ rfl).trans HXN.out
                    clear bb hc8 hc9 J
                    go_wp2_with fail))))
          have HE1 := Lib.hid (show E = edEnd (edF (a1, l1, (M.set j (reP (M.getD j pw0) (0 : Int))).map (·.1)) (ks.drop (k + 1))) pid from HE.out)
          go_roundw
          case rel => exact ⟨k + 1, a1, U1, um1, uc1, l1, _, m1, c1, _, _, rfl, by omega, by go_num, HE1, Lib.hid (HIC.out.next HJL.out.1), HJ5⟩
          case measure => simp [intOf]; omega
        · skip
          rw [show (!false && true) = true from rfl, if_pos rfl] at hE
          have HE := Lib.hid hE
          clear hE
          go_wp2_with (first
            | (refine wpList_load_row rfl 27 (.tmp 2) rfl w.heap.size rfl 27 (tkC a1 U1 um1 uc1 (some ⟨gP, 0, none⟩) m1 c1) (0, 0) _ J.k.blk Tryz.underlying27 rfl (tk_inf _ _ _ _ _ _ _) ?_)
            | (refine (F11.out _ J).mono ?_
               clear F11
               rintro e w2 ⟨rfl, bb⟩
               have J := J.step hB bb
               clear bb
               go_upto_region 8 with fail
               go_wp2_with (first
                 | (refine wpList_load_row rfl 27 (.tmp 2) rfl w.heap.size rfl 27 (tkC a1 U1 um1 uc1 (some ⟨gP, 0, none⟩) m1 c1) (0, 0) _ J.k.blk Tryz.underlying27 rfl (tk_inf _ _ _ _ _ _ _) ?_)
                 | (refine (FC.out _ J).mono ?_
                    clear FC
                    rintro e w4 ⟨rfl, bb⟩
                    have J := J.step hB bb
                    have q2 : w4.cell? ⟨w.heap.size, 2, none⟩ = some (.slice (some ⟨gP, 0, none⟩) m1 c1) := J.k.cell 2
                    obtain ⟨b8, off8, he8, _, hc8⟩ := J.o.p.rs j HJL.out.1
                    cases he8
                    rw [Nat.zero_add] at hc8
                    have r1 : w4.cell? ⟨gP, j * 3 + 1, none⟩ = some (.int .i64 (M.getD j pw0).1.p) := hc8 1 _ rfl
                    have f1 := World.ownsRow.frozenAt J.o.p (j * 3 + 1)
                    have HJ5 := Lib.hid (J.set hB HJL.out.1 (0 : Int))
                    have q22 : (w4.setCell ⟨gP, j * 3 + 1, none⟩ (.int .i64 (0 : Int))).cell? ⟨w.heap.size, 2, none⟩ = some (.slice (some ⟨gP, 0, none⟩) m1 c1) := HJ5.out.k.cell 2
                    obtain ⟨b8, off8, he8, _, hc9⟩ := HJ5.out.o.p.rs j (by rw [List.length_set]; exact HJL.out.1)
                    cases he8
                    rw [Nat.zero_add, getD_setP HJL.out.1, if_pos rfl] at hc9
                    have t22 : (w4.setCell ⟨gP, j * 3 + 1, none⟩ (.int .i64 (0 : Int))).cell? ⟨gP, j * 3 + 2, none⟩ = some (.slice xs2 xn xs3) := (show (w4.setCell ⟨gP, j * 3 + 1, none⟩ (.int .i64 (0 : Int))).cell? ⟨gP, j * 3 + 2, none⟩ = some (Value.slice (M.getD j pw0).2.1 (M.getD j pw0).1.t.length (M.getD j pw0).2.2) from hc9 2 _ rfl).trans HXN.out
                    clear bb hc8 hc9 J
                    go_upto_region 11 with fail
                    go_wp2_with (first
                      | (refine wpList_load_row rfl 27 (.tmp 2) rfl w.heap.size rfl 27 (tkC a1 U1 um1 uc1 (some ⟨gP, 0, none⟩) m1 c1) (0, 0) _ HJ5.out.k.blk Tryz.underlying27 rfl (tk_inf _ _ _ _ _ _ _) ?_)
                      | (refine (GN.out _ _ HJ5.out (HIC.out.next (v := 0) HJL.out.1).t).mono ?_
                         clear GN
                         rintro e w5 ⟨a6, U6, um6, uc6, l6, A6, m6, c6, M6, er, rfl, hfr, o6, hn6, bb⟩
                         have J6 := HJ5.out.step hB bb
                         have HFR := Lib.hid (And.intro hfr hn6)
                         clear hfr hn6 bb HJ5)
                      | (refine wpList_store_blk rfl 27 (.tmp 2) (.tmp 61) rfl w.heap.size (tkC a1 U1 um1 uc1 (some ⟨gP, 0, none⟩) m1 c1) (tkC a6 U6 um6 uc6 A6 m6 c6) 27 rfl rfl J6.k rfl (tk_inf _ _ _ _ _ _ _) (tk_one _ _ _ _ _ _ _) ?_
                         intro w7 k7 n7
                         have J7 : EdS w B (some ⟨b5, off5, none⟩) gm gc ks a6 U6 um6 uc6 l6 A6 m6 c6 M6 w7 := ⟨J6.b.trans (n7.below B hB (Nat.le_trans hB J6.s)), Nat.le_trans J6.s n7.size, k7, n7.blk7 J6.k2 (by omega), o6.kind n7 J6.k (by decide) (by decide), own_kind J6.z (grown_but n7) (fun g' e => by cases e; exact ⟨_, _, J6.k, by decide⟩)⟩
                         clear n7 k7 J6 o6))))))
          have HE1 := Lib.hid (show E = edEnd (edF (a6, l6, M6.map (·.1)) (ks.drop (k + 1))) pid from by rw [HE.out, HFR.out.2]; have h9 := HFR.out.1; simp only [h9]; rfl)
          have HI6 := Lib.hid ((HIC.out.next (v := 0) HJL.out.1).gone (um' := um6) HFR.out.2 (fun h => (List.pairwise_cons.1 HIC.out.d).1 cc h rfl) (fun h => HIC.out.n (by rw [h]; exact List.mem_cons_self ..)) (by have h1 := rfree_len a1 l1 cc; have h9 := HFR.out.1; rw [h9] at h1; have h2 := J7.o.u.len; have h3 := HUM.out; simp only at h1; omega) J7.o.p.len)
          go_roundw
          case rel => exact ⟨k + 1, a6, U6, um6, uc6, l6, A6, m6, c6, M6, _, rfl, by omega, by go_num, HE1, HI6, Lib.hid J7⟩
          case measure => simp [intOf]; omega
      · rw [Nat.zero_add] at hf1
        have F11 := Lib.hid (fun (V : World) (hV : EdS w B (some ⟨b5, off5, none⟩) gm gc ks a1 U1 um1 uc1 l1 (some ⟨gP, 0, none⟩) m1 c1 M V) => F1.out V hV 1)
        rw [hf1] at F11
        obtain ⟨b9, off9, he9, hb9, hc9⟩ := J.o.p.rs j1 hj1
        cases he9
        rw [Nat.zero_add] at hc9
        have t1 : wr.cell? ⟨gP, j1 * 3 + 2, none⟩ = some (.slice (M.getD j1 pw0).2.1 (M.getD j1 pw0).1.t.length (M.getD j1 pw0).2.2) := hc9 2 _ rfl
        have hj1m : (j1 : Int) < (m1 : Int) := by have := HMM.out; omega
        have hdj : decide ((j1 : Int) ≥ 0) = true := by simp
        have hT1 := HTO.out
        unfold oneF at hT1
        rw [hf1, Int.toNat_natCast, decide_eq_true (show (0 : Int) ≤ (j1 : Int) by omega), Bool.true_and] at hT1
        have HT1 := Lib.hid (fun (V : World) (hV : Below wr.heap.size wr V) => (hV.cell (p := ⟨gP, j1 * 3 + 2, none⟩) hgPl).trans t1)
        generalize (M.getD j1 pw0).1.t.length = n1 at hT1 HT1
        generalize (M.getD j1 pw0).2.1 = s1 at HT1
        generalize (M.getD j1 pw0).2.2 = s2 at HT1
        by_cases hn1 : 0 < n1
        · rw [decide_eq_true hn1, Bool.true_and] at hT1
          obtain ⟨ab, hab⟩ : ∃ b, aboveR M cc (M.length + 1) 1 = b := ⟨_, rfl⟩
          rw [hab] at AB hT1
          have hn1' : decide (0 < n1) = true := decide_eq_true hn1
          clear HTO hf1 hc9 t1 hab hn1 F1
          cases ab
          · have hto : tb = true := by rw [← hT1]; rfl
            subst hto
            clear hT1
            replace hE : E = edEnd (edF (a1, l1, (M.set j (reP (M.getD j pw0) (toI true))).map (·.1)) (ks.drop (k + 1))) pid := hE
            have HE := Lib.hid hE
            clear hE
            go_wp2_with (first
              | (refine wpList_load_row rfl 27 (.tmp 2) rfl w.heap.size rfl 27 (tkC a1 U1 um1 uc1 (some ⟨gP, 0, none⟩) m1 c1) (0, 0) _ J.k.blk Tryz.underlying27 rfl (tk_inf _ _ _ _ _ _ _) ?_)
              | (refine (F11.out _ J).mono ?_
                 clear F11
                 rintro e w2 ⟨rfl, bb⟩
                 have J := J.step hB bb
                 have t1 := HT1.out _ bb
                 have q2 : w2.cell? ⟨w.heap.size, 2, none⟩ = some (.slice (some ⟨gP, 0, none⟩) m1 c1) := J.k.cell 2
                 clear bb
                 have z0 : w2.cell? ⟨w.heap.size, 0, none⟩ = some (.int .i64 a1) := J.k.cell 0
                 have z1 : w2.cell? ⟨w.heap.size, 1, none⟩ = some (.slice U1 um1 uc1) := J.k.cell 1
                 unfold tkC at AB
                 go_wp2_with (first
                   | (refine (AB.out _ J).mono ?_
                      clear AB z0 z1
                      rintro e w3 ⟨rfl, bb⟩
                      have J := J.step hB bb
                      clear bb
                      go_upto_region 8 with fail
                      go_wp2_with (first
                        | (refine wpList_load_row rfl 27 (.tmp 2) rfl w.heap.size rfl 27 (tkC a1 U1 um1 uc1 (some ⟨gP, 0, none⟩) m1 c1) (0, 0) _ J.k.blk Tryz.underlying27 rfl (tk_inf _ _ _ _ _ _ _) ?_)
                        | (refine (FC.out _ J).mono ?_
                           clear FC
                           rintro e w4 ⟨rfl, bb⟩
                           have J := J.step hB bb
                           have q2 : w4.cell? ⟨w.heap.size, 2, none⟩ = some (.slice (some ⟨gP, 0, none⟩) m1 c1) := J.k.cell 2
                           obtain ⟨b8, off8, he8, _, hc8⟩ := J.o.p.rs j HJL.out.1
                           cases he8
                           rw [Nat.zero_add] at hc8
                           have r1 : w4.cell? ⟨gP, j * 3 + 1, none⟩ = some (.int .i64 (M.getD j pw0).1.p) := hc8 1 _ rfl
                           have f1 := World.ownsRow.frozenAt J.o.p (j * 3 + 1)
                           have HJ5 := Lib.hid (J.set hB HJL.out.1 (1 : Int))
                           have q22 : (w4.setCell ⟨gP, j * 3 + 1, none⟩ (.int .i64 (1 : Int))).cell? ⟨w.heap.size, 2, none⟩ = some (.slice (some ⟨gP, 0, none⟩) m1 c1) := HJ5.out.k.cell 2
                           obtain ⟨b8, off8, he8, _, hc9⟩ := HJ5.out.o.p.rs j (by rw [List.length_set]; exact HJL.out.1)
                           cases he8
                           rw [Nat.zero_add, getD_setP HJL.out.1, if_pos rfl] at hc9
                           have t22 : (w4.setCell ⟨gP, j * 3 + 1, none⟩ (.int .i64 (1 : Int))).cell? ⟨gP, j * 3 + 2, none⟩ = some (.slice xs2 xn xs3) := (show (w4.setCell ⟨gP, j * 3 + 1, none⟩ (.int .i64 (1 : Int))).cell? ⟨gP, j * 3 + 2, none⟩ = some (Value.slice (M.getD j pw0).2.1 (M.getD j pw0).1.t.length (M.getD j pw0).2.2) from hc9 2 _ rfl).trans HXN.out
                           clear bb hc8 hc9 J
                           go_wp2_with fail))))))
            have HE1 := Lib.hid (show E = edEnd (edF (a1, l1, (M.set j (reP (M.getD j pw0) (1 : Int))).map (·.1)) (ks.drop (k + 1))) pid from HE.out)
            go_roundw
            case rel => exact ⟨k + 1, a1, U1, um1, uc1, l1, _, m1, c1, _, _, rfl, by omega, by go_num, HE1, Lib.hid (HIC.out.next HJL.out.1), HJ5⟩
            case measure => simp [intOf]; omega
          · have hto : tb = false := by rw [← hT1]; rfl
            subst hto
            clear hT1
            cases l0
            · skip
              rw [show (!false && false) = false from rfl, if_neg (by simp)] at hE
              have HE := Lib.hid hE
              clear hE
              go_wp2_with (first
                | (refine wpList_load_row rfl 27 (.tmp 2) rfl w.heap.size rfl 27 (tkC a1 U1 um1 uc1 (some ⟨gP, 0, none⟩) m1 c1) (0, 0) _ J.k.blk Tryz.underlying27 rfl (tk_inf _ _ _ _ _ _ _) ?_)
                | (refine (F11.out _ J).mono ?_
                   clear F11
                   rintro e w2 ⟨rfl, bb⟩
                   have J := J.step hB bb
                   have t1 := HT1.out _ bb
                   have q2 : w2.cell? ⟨w.heap.size, 2, none⟩ = some (.slice (some ⟨gP, 0, none⟩) m1 c1) := J.k.cell 2
                   clear bb
                   have z0 : w2.cell? ⟨w.heap.size, 0, none⟩ = some (.int .i64 a1) := J.k.cell 0
                   have z1 : w2.cell? ⟨w.heap.size, 1, none⟩ = some (.slice U1 um1 uc1) := J.k.cell 1
                   unfold tkC at AB
                   go_wp2_with (first
                     | (refine (AB.out _ J).mono ?_
                        clear AB z0 z1
                        rintro e w3 ⟨rfl, bb⟩
                        have J := J.step hB bb
                        clear bb
                        go_upto_region 8 with fail
                        go_wp2_with (first
                          | (refine wpList_load_row rfl 27 (.tmp 2) rfl w.heap.size rfl 27 (tkC a1 U1 um1 uc1 (some ⟨gP, 0, none⟩) m1 c1) (0, 0) _ J.k.blk Tryz.underlying27 rfl (tk_inf _ _ _ _ _ _ _) ?_)
                          | (refine (FC.out _ J).mono ?_
                             clear FC
                             rintro e w4 ⟨rfl, bb⟩
                             have J := J.step hB bb
                             have q2 : w4.cell? ⟨w.heap.size, 2, none⟩ = some (.slice (some ⟨gP, 0, none⟩) m1 c1) := J.k.cell 2
                             obtain ⟨b8, off8, he8, _, hc8⟩ := J.o.p.rs j HJL.out.1
                             cases he8
                             rw [Nat.zero_add] at hc8
                             have r1 : w4.cell? ⟨gP, j * 3 + 1, none⟩ = some (.int .i64 (M.getD j pw0).1.p) := hc8 1 _ rfl
                             have f1 := World.ownsRow.frozenAt J.o.p (j * 3 + 1)
                             have HJ5 := Lib.hid (J.set hB HJL.out.1 (0 : Int))
                             have q22 : (w4.setCell ⟨gP, j * 3 + 1, none⟩ (.int .i64 (0 : Int))).cell? ⟨w.heap.size, 2, none⟩ = some (.slice (some ⟨gP, 0, none⟩) m1 c1) := HJ5.out.k.cell 2
                             obtain ⟨b8, off8, he8, _, hc9⟩ := HJ5.out.o.p.rs j (by rw [List.length_set]; exact HJL.out.1)
                             cases he8
                             rw [Nat.zero_add, getD_setP HJL.out.1, if_pos rfl] at hc9
                             have t22 : (w4.setCell ⟨gP, j * 3 + 1, none⟩ (.int .i64 (0 : Int))).cell? ⟨gP, j * 3 + 2, none⟩ = some (.slice xs2 xn xs3) := (show (w4.setCell ⟨gP, j * 3 + 1, none⟩ (.int .i64 (0 : Int))).cell? ⟨gP, j * 3 + 2, none⟩ = some (Value.slice (M.getD j pw0).2.1 (M.getD j pw0).1.t.length (M.getD j pw0).2.2) from hc9 2 _ rfl).trans HXN.out
                             clear bb hc8 hc9 J
                             go_wp2_with fail))))))
              have HE1 := Lib.hid (show E = edEnd (edF (a1, l1, (M.set j (reP (M.getD j pw0) (0 : Int))).map (·.1)) (ks.drop (k + 1))) pid from HE.out)
              go_roundw
              case rel => exact ⟨k + 1, a1, U1, um1, uc1, l1, _, m1, c1, _, _, rfl, by omega, by go_num, HE1, Lib.hid (HIC.out.next HJL.out.1), HJ5⟩
              case measure => simp [intOf]; omega
            · skip
              rw [show (!false && true) = true from rfl, if_pos rfl] at hE
              have HE := Lib.hid hE
              clear hE
              go_wp2_with (first
                | (refine wpList_load_row rfl 27 (.tmp 2) rfl w.heap.size rfl 27 (tkC a1 U1 um1 uc1 (some ⟨gP, 0, none⟩) m1 c1) (0, 0) _ J.k.blk Tryz.underlying27 rfl (tk_inf _ _ _ _ _ _ _) ?_)
                | (refine (F11.out _ J).mono ?_
                   clear F11
                   rintro e w2 ⟨rfl, bb⟩
                   have J := J.step hB bb
                   have t1 := HT1.out _ bb
                   have q2 : w2.cell? ⟨w.heap.size, 2, none⟩ = some (.slice (some ⟨gP, 0, none⟩) m1 c1) := J.k.cell 2
                   clear bb
                   have z0 : w2.cell? ⟨w.heap.size, 0, none⟩ = some (.int .i64 a1) := J.k.cell 0
                   have z1 : w2.cell? ⟨w.heap.size, 1, none⟩ = some (.slice U1 um1 uc1) := J.k.cell 1
                   unfold tkC at AB
                   go_wp2_with (first
                     | (refine (AB.out _ J).mono ?_
                        clear AB z0 z1
                        rintro e w3 ⟨rfl, bb⟩
                        have J := J.step hB bb
                        clear bb
                        go_upto_region 8 with fail
                        go_wp2_with (first
                          | (refine wpList_load_row rfl 27 (.tmp 2) rfl w.heap.size rfl 27 (tkC a1 U1 um1 uc1 (some ⟨gP, 0, none⟩) m1 c1) (0, 0) _ J.k.blk Tryz.underlying27 rfl (tk_inf _ _ _ _ _ _ _) ?_)
                          | (refine (FC.out _ J).mono ?_
                             clear FC
                             rintro e w4 ⟨rfl, bb⟩
                             have J := J.step hB bb
                             have q2 : w4.cell? ⟨w.heap.size, 2, none⟩ = some (.slice (some ⟨gP, 0, none⟩) m1 c1) := J.k.cell 2
                             obtain ⟨b8, off8, he8, _, hc8⟩ := J.o.p.rs j HJL.out.1
                             cases he8
                             rw [Nat.zero_add] at hc8
                             have r1 : w4.cell? ⟨gP, j * 3 + 1, none⟩ = some (.int .i64 (M.getD j pw0).1.p) := hc8 1 _ rfl
                             have f1 := World.ownsRow.frozenAt J.o.p (j * 3 + 1)
                             have HJ5 := Lib.hid (J.set hB HJL.out.1 (0 : Int))
                             have q22 : (w4.setCell ⟨gP, j * 3 + 1, none⟩ (.int .i64 (0 : Int))).cell? ⟨w.heap.size, 2, none⟩ = some (.slice (some ⟨gP, 0, none⟩) m1 c1) := HJ5.out.k.cell 2
                             obtain ⟨b8, off8, he8, _, hc9⟩ := HJ5.out.o.p.rs j (by rw [List.length_set]; exact HJL.out.1)
                             cases he8
                             rw [Nat.zero_add, getD_setP HJL.out.1, if_pos rfl] at hc9
                             have t22 : (w4.setCell ⟨gP, j * 3 + 1, none⟩ (.int .i64 (0 : Int))).cell? ⟨gP, j * 3 + 2, none⟩ = some (.slice xs2 xn xs3) := (show (w4.setCell ⟨gP, j * 3 + 1, none⟩ (.int .i64 (0 : Int))).cell? ⟨gP, j * 3 + 2, none⟩ = some (Value.slice (M.getD j pw0).2.1 (M.getD j pw0).1.t.length (M.getD j pw0).2.2) from hc9 2 _ rfl).trans HXN.out
                             clear bb hc8 hc9 J
                             go_upto_region 11 with fail
                             go_wp2_with (first
                               | (refine wpList_load_row rfl 27 (.tmp 2) rfl w.heap.size rfl 27 (tkC a1 U1 um1 uc1 (some ⟨gP, 0, none⟩) m1 c1) (0, 0) _ HJ5.out.k.blk Tryz.underlying27 rfl (tk_inf _ _ _ _ _ _ _) ?_)
                               | (refine (GN.out _ _ HJ5.out (HIC.out.next (v := 0) HJL.out.1).t).mono ?_
                                  clear GN
                                  rintro e w5 ⟨a6, U6, um6, uc6, l6, A6, m6, c6, M6, er, rfl, hfr, o6, hn6, bb⟩
                                  have J6 := HJ5.out.step hB bb
                                  have HFR := Lib.hid (And.intro hfr hn6)
                                  clear hfr hn6 bb HJ5)
                               | (refine wpList_store_blk rfl 27 (.tmp 2) (.tmp 61) rfl w.heap.size (tkC a1 U1 um1 uc1 (some ⟨gP, 0, none⟩) m1 c1) (tkC a6 U6 um6 uc6 A6 m6 c6) 27 rfl rfl J6.k rfl (tk_inf _ _ _ _ _ _ _) (tk_one _ _ _ _ _ _ _) ?_
                                  intro w7 k7 n7
                                  have J7 : EdS w B (some ⟨b5, off5, none⟩) gm gc ks a6 U6 um6 uc6 l6 A6 m6 c6 M6 w7 := ⟨J6.b.trans (n7.below B hB (Nat.le_trans hB J6.s)), Nat.le_trans J6.s n7.size, k7, n7.blk7 J6.k2 (by omega), o6.kind n7 J6.k (by decide) (by decide), own_kind J6.z (grown_but n7) (fun g' e => by cases e; exact ⟨_, _, J6.k, by decide⟩)⟩
                                  clear n7 k7 J6 o6))))))))
              have HE1 := Lib.hid (show E = edEnd (edF (a6, l6, M6.map (·.1)) (ks.drop (k + 1))) pid from by rw [HE.out, HFR.out.2]; have h9 := HFR.out.1; simp only [h9]; rfl)
              have HI6 := Lib.hid ((HIC.out.next (v := 0) HJL.out.1).gone (um' := um6) HFR.out.2 (fun h => (List.pairwise_cons.1 HIC.out.d).1 cc h rfl) (fun h => HIC.out.n (by rw [h]; exact List.mem_cons_self ..)) (by have h1 := rfree_len a1 l1 cc; have h9 := HFR.out.1; rw [h9] at h1; have h2 := J7.o.u.len; have h3 := HUM.out; simp only at h1; omega) J7.o.p.len)
              go_roundw
              case rel => exact ⟨k + 1, a6, U6, um6, uc6, l6, A6, m6, c6, M6, _, rfl, by omega, by go_num, HE1, HI6, Lib.hid J7⟩
              case measure => simp [intOf]; omega
        · rw [decide_eq_false hn1, Bool.false_and] at hT1
          have hto : tb = false := hT1.symm
          subst hto
          have hn1' : decide (0 < n1) = false := decide_eq_false hn1
          clear HTO AB hf1 hc9 t1 hT1 hn1 F1
          cases l0
          · skip
            rw [show (!false && false) = false from rfl, if_neg (by simp)] at hE
            have HE := Lib.hid hE
            clear hE
            go_wp2_with (first
              | (refine wpList_load_row rfl 27 (.tmp 2) rfl w.heap.size rfl 27 (tkC a1 U1 um1 uc1 (some ⟨gP, 0, none⟩) m1 c1) (0, 0) _ J.k.blk Tryz.underlying27 rfl (tk_inf _ _ _ _ _ _ _) ?_)
              | (refine (F11.out _ J).mono ?_
                 clear F11
                 rintro e w2 ⟨rfl, bb⟩
                 have J := J.step hB bb
                 have t1 := HT1.out _ bb
                 have q2 : w2.cell? ⟨w.heap.size, 2, none⟩ = some (.slice (some ⟨gP, 0, none⟩) m1 c1) := J.k.cell 2
                 clear bb
                 go_upto_region 8 with fail
                 go_wp2_with (first
                   | (refine wpList_load_row rfl 27 (.tmp 2) rfl w.heap.size rfl 27 (tkC a1 U1 um1 uc1 (some ⟨gP, 0, none⟩) m1 c1) (0, 0) _ J.k.blk Tryz.underlying27 rfl (tk_inf _ _ _ _ _ _ _) ?_)
                   | (refine (FC.out _ J).mono ?_
                      clear FC
                      rintro e w4 ⟨rfl, bb⟩
                      have J := J.step hB bb
                      have q2 : w4.cell? ⟨w.heap.size, 2, none⟩ = some (.slice (some ⟨gP, 0, none⟩) m1 c1) := J.k.cell 2
                      obtain ⟨b8, off8, he8, _, hc8⟩ := J.o.p.rs j HJL.out.1
                      cases he8
                      rw [Nat.zero_add] at hc8
                      have r1 : w4.cell? ⟨gP, j * 3 + 1, none⟩ = some (.int .i64 (M.getD j pw0).1.p) := hc8 1 _ rfl
                      have f1 := World.ownsRow.frozenAt J.o.p (j * 3 + 1)
                      have HJ5 := Lib.hid (J.set hB HJL.out.1 (0 : Int))
                      have q22 : (w4.setCell ⟨gP, j * 3 + 1, none⟩ (.int .i64 (0 : Int))).cell? ⟨w.heap.size, 2, none⟩ = some (.slice (some ⟨gP, 0, none⟩) m1 c1) := HJ5.out.k.cell 2
                      obtain ⟨b8, off8, he8, _, hc9⟩ := HJ5.out.o.p.rs j (by rw [List.length_set]; exact HJL.out.1)
                      cases he8
                      rw [Nat.zero_add, getD_setP HJL.out.1, if_pos rfl] at hc9
                      have t22 : (w4.setCell ⟨gP, j * 3 + 1, none⟩ (.int .i64 (0 : Int))).cell? ⟨gP, j * 3 + 2, none⟩ = some (.slice xs2 xn xs3) := (show (w4.setCell ⟨gP, j * 3 + 1, none⟩ (.int .i64 (0 : Int))).cell? ⟨gP, j * 3 + 2, none⟩ = some (Value.slice (M.getD j pw0).2.1 (M.getD j pw0).1.t.length (M.getD j pw0).2.2) from hc9 2 _ rfl).trans HXN.out
                      clear bb hc8 hc9 J
                      go_wp2_with fail))))
            have HE1 := Lib.hid (show E = edEnd (edF (a1, l1, (M.set j (reP (M.getD j pw0) (0 : Int))).map (·.1)) (ks.drop (k + 1))) pid from HE.out)
            go_roundw
            case rel => exact ⟨k + 1, a1, U1, um1, uc1, l1, _, m1, c1, _, _, rfl, by omega, by go_num, HE1, Lib.hid (HIC.out.next HJL.out.1), HJ5⟩
            case measure => simp [intOf]; omega
          · skip
            rw [show (!false && true) = true from rfl, if_pos rfl] at hE
            have HE := Lib.hid hE
            clear hE
            go_wp2_with (first
              | (refine wpList_load_row rfl 27 (.tmp 2) rfl w.heap.size rfl 27 (tkC a1 U1 um1 uc1 (some ⟨gP, 0, none⟩) m1 c1) (0, 0) _ J.k.blk Tryz.underlying27 rfl (tk_inf _ _ _ _ _ _ _) ?_)
              | (refine (F11.out _ J).mono ?_
                 clear F11
                 rintro e w2 ⟨rfl, bb⟩
                 have J := J.step hB bb
                 have t1 := HT1.out _ bb
                 have q2 : w2.cell? ⟨w.heap.size, 2, none⟩ = some (.slice (some ⟨gP, 0, none⟩) m1 c1) := J.k.cell 2
                 clear bb
                 go_upto_region 8 with fail
                 go_wp2_with (first
                   | (refine wpList_load_row rfl 27 (.tmp 2) rfl w.heap.size rfl 27 (tkC a1 U1 um1 uc1 (some ⟨gP, 0, none⟩) m1 c1) (0, 0) _ J.k.blk Tryz.underlying27 rfl (tk_inf _ _ _ _ _ _ _) ?_)
                   | (refine (FC.out _ J).mono ?_
                      clear FC
                      rintro e w4 ⟨rfl, bb⟩
                      have J := J.step hB bb
                      have q2 : w4.cell? ⟨w.heap.size, 2, none⟩ = some (.slice (some ⟨gP, 0, none⟩) m1 c1) := J.k.cell 2
                      obtain ⟨b8, off8, he8, _, hc8⟩ := J.o.p.rs j HJL.out.1
                      cases he8
                      rw [Nat.zero_add] at hc8
                      have r1 : w4.cell? ⟨gP, j * 3 + 1, none⟩ = some (.int .i64 (M.getD j pw0).1.p) := hc8 1 _ rfl
                      have f1 := World.ownsRow.frozenAt J.o.p (j * 3 + 1)
                      have HJ5 := Lib.hid (J.set hB HJL.out.1 (0 : Int))
                      have q22 : (w4.setCell ⟨gP, j * 3 + 1, none⟩ (.int .i64 (0 : Int))).cell? ⟨w.heap.size, 2, none⟩ = some (.slice (some ⟨gP, 0, none⟩) m1 c1) := HJ5.out.k.cell 2
                      obtain ⟨b8, off8, he8, _, hc9⟩ := HJ5.out.o.p.rs j (by rw [List.length_set]; exact HJL.out.1)
                      cases he8
                      rw [Nat.zero_add, getD_setP HJL.out.1, if_pos rfl] at hc9
                      have t22 : (w4.setCell ⟨gP, j * 3 + 1, none⟩ (.int .i64 (0 : Int))).cell? ⟨gP, j * 3 + 2, none⟩ = some (.slice xs2 xn xs3) := (show (w4.setCell ⟨gP, j * 3 + 1, none⟩ (.int .i64 (0 : Int))).cell? ⟨gP, j * 3 + 2, none⟩ = some (Value.slice (M.getD j pw0).2.1 (M.getD j pw0).1.t.length (M.getD j pw0).2.2) from hc9 2 _ rfl).trans HXN.out
                      clear bb hc8 hc9 J
                      go_upto_region 11 with fail
                      go_wp2_with (first
                        | (refine wpList_load_row rfl 27 (.tmp 2) rfl w.heap.size rfl 27 (tkC a1 U1 um1 uc1 (some ⟨gP, 0, none⟩) m1 c1) (0, 0) _ HJ5.out.k.blk Tryz.underlying27 rfl (tk_inf _ _ _ _ _ _ _) ?_)
                        | (refine (GN.out _ _ HJ5.out (HIC.out.next (v := 0) HJL.out.1).t).mono ?_
                           clear GN
                           rintro e w5 ⟨a6, U6, um6, uc6, l6, A6, m6, c6, M6, er, rfl, hfr, o6, hn6, bb⟩
                           have J6 := HJ5.out.step hB bb
                           have HFR := Lib.hid (And.intro hfr hn6)
                           clear hfr hn6 bb HJ5)
                        | (refine wpList_store_blk rfl 27 (.tmp 2) (.tmp 61) rfl w.heap.size (tkC a1 U1 um1 uc1 (some ⟨gP, 0, none⟩) m1 c1) (tkC a6 U6 um6 uc6 A6 m6 c6) 27 rfl rfl J6.k rfl (tk_inf _ _ _ _ _ _ _) (tk_one _ _ _ _ _ _ _) ?_
                           intro w7 k7 n7
                           have J7 : EdS w B (some ⟨b5, off5, none⟩) gm gc ks a6 U6 um6 uc6 l6 A6 m6 c6 M6 w7 := ⟨J6.b.trans (n7.below B hB (Nat.le_trans hB J6.s)), Nat.le_trans J6.s n7.size, k7, n7.blk7 J6.k2 (by omega), o6.kind n7 J6.k (by decide) (by decide), own_kind J6.z (grown_but n7) (fun g' e => by cases e; exact ⟨_, _, J6.k, by decide⟩)⟩
                           clear n7 k7 J6 o6))))))
            have HE1 := Lib.hid (show E = edEnd (edF (a6, l6, M6.map (·.1)) (ks.drop (k + 1))) pid from by rw [HE.out, HFR.out.2]; have h9 := HFR.out.1; simp only [h9]; rfl)
            have HI6 := Lib.hid ((HIC.out.next (v := 0) HJL.out.1).gone (um' := um6) HFR.out.2 (fun h => (List.pairwise_cons.1 HIC.out.d).1 cc h rfl) (fun h => HIC.out.n (by rw [h]; exact List.mem_cons_self ..)) (by have h1 := rfree_len a1 l1 cc; have h9 := HFR.out.1; rw [h9] at h1; have h2 := J7.o.u.len; have h3 := HUM.out; simp only at h1; omega) J7.o.p.len)
            go_roundw
            case rel => exact ⟨k + 1, a6, U6, um6, uc6, l6, A6, m6, c6, M6, _, rfl, by omega, by go_num, HE1, HI6, Lib.hid J7⟩
            case measure => simp [intOf]; omega
    · obtain rfl : k = gm := by omega
      have hE := HE.out
      have hI := HI.out
      rw [List.drop_of_length_le (by have := HGL.out; omega)] at hE hI
      replace hE : E = edEnd (a1, l1, M.map (·.1)) pid := hE
      obtain ⟨j, hjl, hfj, hji⟩ := fnd_in hI.p
      obtain ⟨gP, hA, hgP, hgPl⟩ := J.o.p.at0 (by omega)
      subst hA
      have hmM := hI.l
      unfold edEnd at hE
      simp only at hE
      rw [fnd_nm 0 pid (ofN_nm (M.map (·.1))), hfj, Int.toNat_natCast, show (M.map (·.1)).getD j pn0 = (M.getD j pw0).1 by simp [List.getD, hjl]] at hE
      obtain ⟨pp, hpp⟩ : ∃ p, (M.getD j pw0).1.p = p := ⟨_, rfl⟩
      rw [hpp] at hE
      obtain ⟨p0, hp0⟩ : ∃ b, (pp == 0) = b := ⟨_, rfl⟩
      rw [hp0] at hE
      have HP0 := Lib.hid hp0
      have F1 := Lib.hid (fun (V : World) (hV : EdS w B G k gc ks a1 U1 um1 uc1 l1 (some ⟨gP, 0, none⟩) m1 c1 M V) => find_rf a1 U1 um1 uc1 (some ⟨gP, 0, none⟩) m1 c1 M pid V (hV.o.ps hI.t) hmM (by have := hI.m9; omega))
      rw [hfj] at F1
      have GN := Lib.hid (fun (V : World) (hV : EdS w B G k gc ks a1 U1 um1 uc1 l1 (some ⟨gP, 0, none⟩) m1 c1 M V) => gone_rf a1 U1 um1 uc1 l1 (some ⟨gP, 0, none⟩) m1 c1 M pid B V hV.o (Nat.le_trans hB hV.s) hI.u hI.m9 hI.t)
      unfold tkV at F1 GN
      have HPP := Lib.hid (fun (V : World) (hV : EdS w B G k gc ks a1 U1 um1 uc1 l1 (some ⟨gP, 0, none⟩) m1 c1 M V) => (show V.cell? ⟨gP, j * 3 + 1, none⟩ = some (.int .i64 pp) from by
        obtain ⟨b8, off8, he8, _, hc8⟩ := hV.o.p.rs j hjl
        cases he8
        rw [Nat.zero_add] at hc8
        rw [← hpp]
        exact hc8 1 _ rfl))
      have hjm : (j : Int) < (m1 : Int) := by omega
      have HIC := Lib.hid hI
      have HE1 := Lib.hid hE
      have HUM := Lib.hid J.o.u.len
      clear HE HI hE hI hmM hjl hfj hji hp0 hpp
      cases p0
      · have HE2 := Lib.hid (show E = (a1, l1, M.map (·.1)) from HE1.out)
        clear HE1 GN
        go_wp2_with fail
        have J := J.step hB (Below.refl _ _).drew
        refine region_cutP ?_
        refine wp_region_held_drew (S := EdS w B G k gc ks a1 U1 um1 uc1 l1 (some ⟨gP, 0, none⟩) m1 c1 M) (by kernel_rfl) J (fun _ => ?_)
        refine wpAnyH_take (i := 0) (v := .pointer (some ⟨w.heap.size, 2, none⟩)) rfl (by kernel_rfl) (by kernel_rfl) (by kernel_rfl) (fun _ _ _ h => nomatch h.1) (.inl ⟨by rfl, fun V hV => by go_simp⟩) J ?_
        try simp only [Act.put, qA, qB, qC, qD, qE, qF]
        refine wpAnyH_take (i := 1) (v := .slice (some ⟨gP, 0, none⟩) m1 c1) rfl (by kernel_rfl) (by kernel_rfl) (by kernel_rfl) (fun _ _ _ h => nomatch h.1) (.inl ⟨by rfl, fun V hV => by have c2 : V.cell? ⟨w.heap.size, 2, none⟩ = some (.slice (some ⟨gP, 0, none⟩) m1 c1) := hV.k.cell 2; go_simp⟩) J ?_
        try simp only [Act.put, qA, qB, qC, qD, qE, qF]
        refine wpAnyH_take (i := 2) (v := .agg (tkC a1 U1 um1 uc1 (some ⟨gP, 0, none⟩) m1 c1)) rfl (by kernel_rfl) (by kernel_rfl) (by kernel_rfl) (fun _ _ _ h => nomatch h.1) (yieldsIf_blk (by rfl) 27 (.tmp 2) rfl w.heap.size rfl (tkC a1 U1 um1 uc1 (some ⟨gP, 0, none⟩) m1 c1) 27 _ (fun _ h => h.k) Tryz.underlying27 rfl (tk_inf _ _ _ _ _ _ _)) J ?_
        try simp only [Act.put, qA, qB, qC, qD, qE, qF]
        refine wpAnyH_take (i := 3) (v := .int .i64 pid) rfl (by kernel_rfl) (by kernel_rfl) (by kernel_rfl) (fun _ _ _ h => nomatch h.1) (.inl ⟨by rfl, fun V hV => by go_simp⟩) J ?_
        try simp only [Act.put, qA, qB, qC, qD, qE, qF]
        refine wpAnyH_ready (rs := [4]) (by kernel_rfl) (by simp) ?_
        refine AllReadyH.cons rfl (fun K hK => ?_) AllReadyH.nil
        try simp only [Act.put, qA, qB, qC, qD, qE, qF]
        go_simp
        refine (F1.out _ J).mono ?_
        rintro e w2 ⟨rfl, bb⟩
        have J := J.step hB bb
        clear bb F1
        refine hK.out _ _ J (fun _ => ?_)
        clear hK K
        try simp only [Act.put, qA, qB, qC, qD, qE, qF]
        refine wpAnyH_take (i := 5) (v := .pointer (some ⟨gP, j * 3, none⟩)) rfl (by kernel_rfl) (by kernel_rfl) (by kernel_rfl) (fun _ _ _ h => nomatch h.1) (.inl ⟨by rfl, fun V hV => by go_simp⟩) J ?_
        try simp only [Act.put, qA, qB, qC, qD, qE, qF]
        refine wpAnyH_take (i := 6) (v := .pointer (some ⟨gP, j * 3 + 1, none⟩)) rfl (by kernel_rfl) (by kernel_rfl) (by kernel_rfl) (fun _ _ _ h => nomatch h.1) (.inl ⟨by rfl, fun V hV => by go_simp⟩) J ?_
        try simp only [Act.put, qA, qB, qC, qD, qE, qF]
        refine wpAnyH_take (i := 7) (v := .int .i64 pp) rfl (by kernel_rfl) (by kernel_rfl) (by kernel_rfl) (fun _ _ _ h => nomatch h.1) (.inl ⟨by rfl, fun V hV => by have c3 := HPP.out V hV; go_simp⟩) J ?_
        try simp only [Act.put, qA, qB, qC, qD, qE, qF]
        refine wpAnyH_take (i := 8) (v := .bool false) rfl (by kernel_rfl) (by kernel_rfl) (by kernel_rfl) (fun _ _ _ h => nomatch h.1) (.inl ⟨by rfl, fun V hV => by have hq := HP0.out; go_simp⟩) J ?_
        try simp only [Act.put, qA, qB, qC, qD, qE, qF]
        refine wpAnyH_done (by kernel_rfl) ?_ _
        refine ⟨rfl, ?_⟩
        go_wp2_with (first
          | (refine wpList_load_row rfl 27 (.tmp 2) rfl w.heap.size rfl 27 (tkC a1 U1 um1 uc1 (some ⟨gP, 0, none⟩) m1 c1) (0, 0) _ J.k.blk Tryz.underlying27 rfl (tk_inf _ _ _ _ _ _ _) ?_)
          | (refine wpList_store_blk rfl 27 (.tmp 4) (.tmp 75) rfl (w.heap.size + 1) (tkC 0 none 0 0 none 0 0) (tkC a1 U1 um1 uc1 (some ⟨gP, 0, none⟩) m1 c1) 27 rfl rfl J.k2 rfl (tk_inf _ _ _ _ _ _ _) (tk_one _ _ _ _ _ _ _) ?_
             intro w3 k3 n3))
        refine bodyPost_ret (results_cell_row rfl _ _ (w.heap.size + 1) 27 (tkC a1 U1 um1 uc1 (some ⟨gP, 0, none⟩) m1 c1) (0, 0) _ rfl k3.blk Tryz.underlying27 rfl (tk_inf _ _ _ _ _ _ _)) rfl ?_
        exact ⟨U1, um1, uc1, _, m1, c1, M, by rw [HE2.out], by rw [HE2.out]; exact J.o.kind n3 J.k2 (by decide) (by decide), by rw [HE2.out], J.b.trans (n3.below B (by omega) (Nat.le_trans hB J.s)), HIC.out.u, HIC.out.m9, Nat.le_trans J.s n3.size⟩
      · have HE2 := Lib.hid (show E = ((rfreeV a1 l1 pid).1, (rfreeV a1 l1 pid).2.1, (M.map (·.1)).filter (fun x => x.i != pid)) from HE1.out)
        clear HE1
        go_wp2_with fail
        have J := J.step hB (Below.refl _ _).drew
        refine region_cutP ?_
        refine wp_region_held_drew (S := EdS w B G k gc ks a1 U1 um1 uc1 l1 (some ⟨gP, 0, none⟩) m1 c1 M) (by kernel_rfl) J (fun _ => ?_)
        refine wpAnyH_take (i := 0) (v := .pointer (some ⟨w.heap.size, 2, none⟩)) rfl (by kernel_rfl) (by kernel_rfl) (by kernel_rfl) (fun _ _ _ h => nomatch h.1) (.inl ⟨by rfl, fun V hV => by go_simp⟩) J ?_
        try simp only [Act.put, qA, qB, qC, qD, qE, qF]
        refine wpAnyH_take (i := 1) (v := .slice (some ⟨gP, 0, none⟩) m1 c1) rfl (by kernel_rfl) (by kernel_rfl) (by kernel_rfl) (fun _ _ _ h => nomatch h.1) (.inl ⟨by rfl, fun V hV => by have c2 : V.cell? ⟨w.heap.size, 2, none⟩ = some (.slice (some ⟨gP, 0, none⟩) m1 c1) := hV.k.cell 2; go_simp⟩) J ?_
        try simp only [Act.put, qA, qB, qC, qD, qE, qF]
        refine wpAnyH_take (i := 2) (v := .agg (tkC a1 U1 um1 uc1 (some ⟨gP, 0, none⟩) m1 c1)) rfl (by kernel_rfl) (by kernel_rfl) (by kernel_rfl) (fun _ _ _ h => nomatch h.1) (yieldsIf_blk (by rfl) 27 (.tmp 2) rfl w.heap.size rfl (tkC a1 U1 um1 uc1 (some ⟨gP, 0, none⟩) m1 c1) 27 _ (fun _ h => h.k) Tryz.underlying27 rfl (tk_inf _ _ _ _ _ _ _)) J ?_
        try simp only [Act.put, qA, qB, qC, qD, qE, qF]
        refine wpAnyH_take (i := 3) (v := .int .i64 pid) rfl (by kernel_rfl) (by kernel_rfl) (by kernel_rfl) (fun _ _ _ h => nomatch h.1) (.inl ⟨by rfl, fun V hV => by go_simp⟩) J ?_
        try simp only [Act.put, qA, qB, qC, qD, qE, qF]
        refine wpAnyH_ready (rs := [4]) (by kernel_rfl) (by simp) ?_
        refine AllReadyH.cons rfl (fun K hK => ?_) AllReadyH.nil
        try simp only [Act.put, qA, qB, qC, qD, qE, qF]
        go_simp
        refine (F1.out _ J).mono ?_
        rintro e w2 ⟨rfl, bb⟩
        have J := J.step hB bb
        clear bb F1
        refine hK.out _ _ J (fun _ => ?_)
        clear hK K
        try simp only [Act.put, qA, qB, qC, qD, qE, qF]
        refine wpAnyH_take (i := 5) (v := .pointer (some ⟨gP, j * 3, none⟩)) rfl (by kernel_rfl) (by kernel_rfl) (by kernel_rfl) (fun _ _ _ h => nomatch h.1) (.inl ⟨by rfl, fun V hV => by go_simp⟩) J ?_
        try simp only [Act.put, qA, qB, qC, qD, qE, qF]
        refine wpAnyH_take (i := 6) (v := .pointer (some ⟨gP, j * 3 + 1, none⟩)) rfl (by kernel_rfl) (by kernel_rfl) (by kernel_rfl) (fun _ _ _ h => nomatch h.1) (.inl ⟨by rfl, fun V hV => by go_simp⟩) J ?_
        try simp only [Act.put, qA, qB, qC, qD, qE, qF]
        refine wpAnyH_take (i := 7) (v := .int .i64 pp) rfl (by kernel_rfl) (by kernel_rfl) (by kernel_rfl) (fun _ _ _ h => nomatch h.1) (.inl ⟨by rfl, fun V hV => by have c3 := HPP.out V hV; go_simp⟩) J ?_
        try simp only [Act.put, qA, qB, qC, qD, qE, qF]
        refine wpAnyH_take (i := 8) (v := .bool true) rfl (by kernel_rfl) (by kernel_rfl) (by kernel_rfl) (fun _ _ _ h => nomatch h.1) (.inl ⟨by rfl, fun V hV => by have hq := HP0.out; go_simp⟩) J ?_
        try simp only [Act.put, qA, qB, qC, qD, qE, qF]
        refine wpAnyH_done (by kernel_rfl) ?_ _
        refine ⟨rfl, ?_⟩
        go_wp2_with (first
          | (refine wpList_load_row rfl 27 (.tmp 2) rfl w.heap.size rfl 27 (tkC a1 U1 um1 uc1 (some ⟨gP, 0, none⟩) m1 c1) (0, 0) _ J.k.blk Tryz.underlying27 rfl (tk_inf _ _ _ _ _ _ _) ?_)
          | (refine (GN.out _ J).mono ?_
             clear GN
             rintro e w5 ⟨a6, U6, um6, uc6, l6, A6, m6, c6, M6, er, rfl, hfr, o6, hn6, bb⟩
             have J6 := J.step hB bb
             have HFR := Lib.hid (And.intro hfr hn6)
             clear hfr hn6 bb J)
          | (refine wpList_store_blk rfl 27 (.tmp 4) (.tmp 74) rfl (w.heap.size + 1) (tkC 0 none 0 0 none 0 0) (tkC a6 U6 um6 uc6 A6 m6 c6) 27 rfl rfl J6.k2 rfl (tk_inf _ _ _ _ _ _ _) (tk_one _ _ _ _ _ _ _) ?_
             intro w3 k3 n3))
        refine bodyPost_ret (results_cell_row rfl _ _ (w.heap.size + 1) 27 (tkC a6 U6 um6 uc6 A6 m6 c6) (0, 0) _ rfl k3.blk Tryz.underlying27 rfl (tk_inf _ _ _ _ _ _ _)) rfl ?_
        have hE9 : E = (a6, l6, M6.map (·.1)) := by rw [HE2.out, HFR.out.2]; have h9 := HFR.out.1; rw [h9]
        have hl6 : um6 ≤ 100000 := by
          have h1 := rfree_len a1 l1 pid
          have h9 := HFR.out.1
          rw [h9] at h1
          have h2 := o6.u.len
          have h3 := HUM.out
          have h4 := HIC.out.u
          simp only at h1
          omega
        have hm6 : m6 ≤ 100000 := by
          have h1 := o6.p.len
          have h2 := congrArg List.length HFR.out.2
          rw [List.length_map] at h2
          have h3 := List.length_filter_le (fun (x : Pn) => x.i != pid) (M.map (·.1))
          rw [List.length_map] at h3
          have h4 := HIC.out.m9
          have h5 := HIC.out.l
          omega
        exact ⟨U6, um6, uc6, A6, m6, c6, M6, by rw [hE9], by rw [hE9]; exact o6.kind n3 J6.k2 (by decide) (by decide), by rw [hE9], J6.b.trans (n3.below B (by omega) (Nat.le_trans hB J6.s)), hl6, hm6, Nat.le_trans J6.s n3.size⟩
end Go.Proofs.YtlelhhgggnjndaaGreat
