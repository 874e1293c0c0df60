/-
  The reference's gone.
-/
import Derived.Test.YtlelhhgggnjndaaGreatQTrA
namespace Go.Proofs.YtlelhhgggnjndaaGreat
open Go.RowKit Go.Shelf
set_option linter.unusedVariables false
set_option linter.unusedSimpArgs false
structure OwnW (V : World) (B : Nat) (Ua : Option Addr) (um uc : Nat) (U : List Int) (A : Option Addr) (m c : Nat) (L : List Pw) : Prop where
  u : Zo V B Ua um uc U
  p : RoP V B A m c L
  q : ∀ x ∈ L, Zo V B x.2.1 x.1.t.length x.2.2 x.1.t
section
variable {V V' : World} {B B' um uc m c g : Nat} {Ua A : Option Addr} {U : List Int} {L : List Pw}
theorem OwnT.w (h : OwnT V B Ua um uc U A m c L) : OwnW V B Ua um uc U A m c L := ⟨h.u, h.p, h.q⟩
theorem OwnW.below (h : OwnW V B Ua um uc U A m c L) (b : Below B' V V') (hB : V.heap.size ≤ B') : OwnW V' B Ua um uc U A m c L := ⟨h.u.below b hB, h.p.below b hB, fun x hx => (h.q x hx).below b hB⟩
theorem OwnW.down (h : OwnW V B Ua um uc U A m c L) (hB : B' ≤ B) : OwnW V B' Ua um uc U A m c L := ⟨h.u.down hB, h.p.down hB, fun x hx => (h.q x hx).down hB⟩
theorem OwnW.kind {cs : Array Value} {t : TypeId} (h : OwnW V B Ua um uc U A m c L) (n : But g V V') (k : Blk V g cs t) (h1 : t ≠ 49) (h2 : t ≠ 3) : OwnW V' B Ua um uc U A m c L :=
  ⟨own_kind h.u (grown_but n) (fun g' e => by cases e; exact ⟨cs, t, k, h2⟩), own_kind h.p (grown_but n) (fun g' e => by cases e; exact ⟨cs, t, k, h1⟩), fun x hx => own_kind (h.q x hx) (grown_but n) (fun g' e => by cases e; exact ⟨cs, t, k, h2⟩)⟩
theorem OwnW.ps (h : OwnW V B Ua um uc U A m c L) (hq : ∀ x ∈ L, x.1.t.length ≤ 1000000) : Ps V V.heap.size A L := ⟨fun k hk => h.p.rs k hk, fun x hx => zo_tr (h.q x hx) (hq x hx)⟩
theorem OwnW.tk (h : OwnW V B Ua um uc U A m c L) (h1 : um ≤ 1000000) (h2 : m ≤ 100000) (hc : cntT (L.map (·.1)) ≤ 1000000) : Tk V V.heap.size Ua um uc U A m c L :=
  ⟨h.u.ri, h.u.len, h1, h.ps (fun x hx => by have := cnt_le (P := L.map (·.1)) (x := x.1) (List.mem_map.2 ⟨x, hx, rfl⟩); omega), h.p.len, h2, by rw [thr_cnt 0]; exact hc⟩
end
theorem OwnW.snoc {V V' : World} {B um uc m c c' : Nat} {Ua A A' : Option Addr} {U : List Int} {L : List Pw} {y : Pw} (h : OwnW V B Ua um uc U A m c L) (hz : Zo V B y.2.1 y.1.t.length y.2.2 y.1.t)
    (hp : RoP V' B A' (m + 1) c' (L ++ [y])) (hg : V.grownBy V' (Value.slice A m c).ownBlock) : OwnW V' B Ua um uc U A' (m + 1) c' (L ++ [y]) := by
  have hr : ∀ g, (Value.slice A m c).ownBlock = some g → ∃ cs t, Blk V g cs t ∧ t ≠ (3 : TypeId) := fun g e => by
    obtain ⟨cur, k⟩ := roP_blk h.p e
    exact ⟨cur, _, k, by decide⟩
  refine ⟨own_kind h.u hg hr, hp, fun x hx => ?_⟩
  rcases List.mem_append.1 hx with h1 | h1
  · exact own_kind (h.q x h1) hg hr
  · rw [List.mem_singleton] at h1
    subst h1
    exact own_kind hz hg hr
theorem wpList_stpd {ops : Array Oper} {rest : List Oper} {o : Oper} {a : Act} {w : World} {Q : Exit → Act → World → Prop} (hgd : o.guard = none) (x y : Operand) (ho : o.op = .store 24 x y)
    (g : Nat) (l : Int) (Ua : Option Addr) (um uc : Nat) (A : Option Addr) (m c : Nat) (l' : Int) (Ua' : Option Addr) (um' uc' : Nat) (hx : a.eval x = .pointer (some ⟨g, 0, none⟩)) (hy : a.eval y = .agg (pdC l' Ua' um' uc')) (hb : Blk w g (tkC l Ua um uc A m c) 27)
    (h : ∀ w', Blk w' g (tkC l' Ua' um' uc' A m c) 27 → But g w w' → wpList Tryz.prog ops Q rest (a.put o.dst undef) w') : wpList Tryz.prog ops Q (o :: rest) a w := by
  refine wpList_plain hgd fun K hK => ?_
  have hs := run_storeCells_at (P := Tryz.prog) g 0 27 [Value.int .i64 l', Value.slice Ua' um' uc'] 0 (tkC l Ua um uc A m c) w hb.blk (by simp [tkC]) (fun u hu => by simp at hu; rcases hu with rfl | rfl <;> rfl)
  have e : ((tkC l Ua um uc A m c).toList.take (0 + 0) ++ [Value.int .i64 l', Value.slice Ua' um' uc'] ++ (tkC l Ua um uc A m c).toList.drop (0 + 0 + [Value.int .i64 l', Value.slice Ua' um' uc'].length)).toArray = tkC l' Ua' um' uc' A m c := by simp [tkC]
  rw [e] at hs
  have hi : (Tryz.prog.info? 24).map (·.size) = some 2 := by kernel_rfl
  cases hq : Tryz.prog.info? 24 with
  | none => simp [hq] at hi
  | some i =>
    have hs' : i.size = 2 := by simpa [hq] using hi
    have hrun : (storeVar 24 ⟨g, 0, none⟩ (.agg (pdC l' Ua' um' uc'))).run Tryz.prog w = .ok () (w.setRow g (tkC l' Ua' um' uc' A m c)) := by simp [storeVar, sizeOf, typeInfo, hq, Value.cells, pdC, hs', hs]
    unfold Oper.wp execOp
    simp only [ho, hx, hy, Instr.storeAt, Instr.sureAddr, Sem.run_bind, Sem.run_pure, Result.andThen_ok, hrun]
    have q := setRow_blk (cs' := tkC l' Ua' um' uc' A m c) hb
    exact hK _ _ (h _ q.1 q.2)
structure GnS (w : World) (B : Nat) (a : Int) (Ua : Option Addr) (um uc : Nat) (U : List Int) (A : Option Addr) (m c : Nat) (L : List Pw) (go : Nat) (a1 : Int) (U1 : Option Addr) (um1 uc1 : Nat) (l1 : List Int) (G : Option Addr) (gm gc : Nat) (M : List Pw) (V : World) : Prop where
  b : Below w.heap.size w V
  ks : Blk V w.heap.size (tkC a Ua um uc A m c) 27
  k2 : Blk V (w.heap.size + 1) (tkC 0 none 0 0 none 0 0) 27
  ko : Blk V go (tkC a1 U1 um1 uc1 G gm gc) 27
  o : OwnW V B U1 um1 uc1 l1 G gm gc M
  pg : RoP V w.heap.size G gm gc M
theorem GnS.step {w : World} {B : Nat} {a : Int} {Ua : Option Addr} {um uc : Nat} {U : List Int} {A : Option Addr} {m c : Nat} {L : List Pw} {go : Nat} {a1 : Int} {U1 : Option Addr} {um1 uc1 : Nat} {l1 : List Int} {G : Option Addr} {gm gc : Nat} {M : List Pw} {V V' : World} (h : GnS w B a Ua um uc U A m c L go a1 U1 um1 uc1 l1 G gm gc M V) (b : Below V.heap.size V V') : GnS w B a Ua um uc U A m c L go a1 U1 um1 uc1 l1 G gm gc M V' :=
  ⟨h.b.trans (b.mono h.b.size), h.ks.below b h.ks.lt, h.k2.below b h.k2.lt, h.ko.below b h.ko.lt, h.o.below b (Nat.le_refl _), h.pg.below b (Nat.le_refl _)⟩
def GnO (w : World) (B : Nat) (a : Int) (U : List Int) (L : List Pw) (cc : Int) (e : Ending) (w' : World) : Prop := ∃ a' Ua um uc l' A m c M er, e = .returned (tkV a' Ua um uc A m c) ∧ rfreeV a U cc = (a', l', er) ∧ OwnW w' B Ua um uc l' A m c M ∧ M.map (·.1) = (L.map (·.1)).filter (fun x => x.i != cc) ∧ Below w.heap.size w w'
set_option maxRecDepth 100000 in
set_option maxHeartbeats 8000000 in
theorem gone_rf (a : Int) (Ua : Option Addr) (um uc : Nat) (U : List Int) (A : Option Addr) (m c : Nat) (L : List Pw) (cc : Int) (B : Nat) (w : World) (h : OwnW w B Ua um uc U A m c L) (hB : B ≤ w.heap.size) (hu6 : um ≤ 100000) (hm6 : m ≤ 100000) (hq : ∀ x ∈ L, x.1.t.length ≤ 1000000) :
    Calls Tryz.prog 81 #[tkV a Ua um uc A m c, .int .i64 cc] w fun e w' => GnO w B a U L cc e w' := by
  have k1 := ((Blk.new w (tkC a Ua um uc A m c) 27).alloc (.cells (tkC 0 none 0 0 none 0 0) 27)).alloc (.cells (tkC 0 none 0 0 none 0 0) 27)
  have k2 := (Blk.new_ (w.alloc (.cells (tkC a Ua um uc A m c) 27)) (tkC 0 none 0 0 none 0 0) 27 (n := w.heap.size + 1) (by simp)).alloc (.cells (tkC 0 none 0 0 none 0 0) 27)
  have k3 := Blk.new_ ((w.alloc (.cells (tkC a Ua um uc A m c) 27)).alloc (.cells (tkC 0 none 0 0 none 0 0) 27)) (tkC 0 none 0 0 none 0 0) 27 (n := w.heap.size + 2) (by simp)
  have B0 := (((Below.refl w.heap.size w).alloc (Nat.le_refl _) (.cells (tkC a Ua um uc A m c) 27)).alloc (by simp) (.cells (tkC 0 none 0 0 none 0 0) 27)).alloc (by simp; omega) (.cells (tkC 0 none 0 0 none 0 0) 27)
  have HX := Lib.hid h
  have HPL := Lib.hid h.p.len
  have HQ := Lib.hid hq
  have q0 := k1.cell 0
  have q1 := k1.cell 1
  change _ = some (Value.int .i64 a) at q0
  change _ = some (Value.slice Ua um uc) at q1
  have FR := Lib.hid (fun (V : World) (hV : Below w.heap.size w V) => rfree_pid a Ua um uc U cc V ((h.below hV (Nat.le_refl _)).u.ri) h.u.len hu6)
  clear h hq
  unfold pdV at FR
  unfold tkV
  unfold tkC pdC at *
  go_enter Tryz.func81, Tryz.ntmps81
  go_wp2_with (first
    | (refine (FR.out _ B0).mono ?_
       clear FR
       rintro e w1 ⟨U1, um1, uc1, a1, l1, er, rfl, z1, hfr, bb⟩
       have k11 := k1.below bb k1.lt
       have k21 := k2.below bb k2.lt
       have k31 := k3.below bb k3.lt
       have B1 := B0.trans (bb.mono B0.size)
       have z1 := z1.down (b := B) (Nat.le_trans hB B0.size)
       have HFR := Lib.hid hfr
       clear bb k1 k2 k3 B0 q0 q1 hfr)
    | (refine wpList_stpd rfl (.tmp 16) (.tmp 14) rfl (w.heap.size + 2) 0 none 0 0 none 0 0 a1 U1 um1 uc1 rfl rfl k31 ?_
       intro w2 k32 n2
       have J0 : GnS w B a Ua um uc U A m c L (w.heap.size + 2) a1 U1 um1 uc1 l1 none 0 0 [] w2 := ⟨B1.trans (n2.below _ (by omega) B1.size), n2.blk7 k11 (by omega), n2.blk7 k21 (by omega), k32, ⟨own_kind z1 (grown_but n2) (fun g e => by cases e; exact ⟨_, _, k31, by decide⟩), ro_nilP _ _, fun x hx => (by cases hx)⟩, ro_nilP _ _⟩
       have q2 : w2.cell? ⟨w.heap.size, 2, none⟩ = some (.slice A m c) := J0.ks.cell 2
       clear n2 k32 k11 k21 k31 z1 B1))
  have HJ0 := Lib.hid J0
  clear q2 J0
  obtain ⟨go, hgo⟩ : ∃ g, w.heap.size + 2 = g := ⟨_, rfl⟩
  have HGO := Lib.hid (show w.heap.size + 2 ≤ go by omega)
  rw [hgo] at HJ0
  simp only [hgo]
  clear hgo
  go_loopw [20] (fun i wr' => ∃ (k : Nat) (G : Option Addr) (gm gc : Nat) (M : List Pw) (wr : World), wr = wr' ∧ k ≤ m ∧ i = .int .i64 k ∧ gm ≤ k ∧ Hid (M.map (·.1) = ((L.map (·.1)).take k).filter (fun x => x.i != cc)) ∧ Hid (GnS w B a Ua um uc U A m c L go a1 U1 um1 uc1 l1 G gm gc M wr)) (fun i _ => m - (intOf i).toNat)
  case atStart => exact ⟨0, none, 0, 0, [], _, rfl, Nat.zero_le _, rfl, Nat.le_refl _, Lib.hid (by simp), HJ0⟩
  case round =>
    clear HJ0
    obtain ⟨k, G, gm, gc, M, wr, hwr, hk, rfl, hgk, HM, HJ⟩ := hrel
    subst hwr
    have J := HJ.out
    clear HJ
    by_cases hlt : k < m
    · have hlt' : (k : Int) < (m : Int) := by omega
      have hkl : k < L.length := by have := HPL.out; omega
      have JI := HX.out.below J.b (Nat.le_refl _)
      obtain ⟨b, off, hA, hb, hc⟩ := JI.p.rs k hkl
      have hxm : L.getD k pw0 ∈ L := by rw [show L.getD k pw0 = L[k] by simp [List.getD, hkl]]; exact List.getElem_mem hkl
      have hz := JI.q _ hxm
      have hxl := HQ.out _ hxm
      have HTK := Lib.hid (show ((L.map (·.1)).take (k + 1)).filter (fun x => x.i != cc) = ((L.map (·.1)).take k).filter (fun x => x.i != cc) ++ (if ((L.getD k pw0).1.i != cc) = true then [(L.getD k pw0).1] else []) by
        rw [List.take_succ_eq_append_getElem (by simpa using hkl), List.filter_append]
        congr 1
        simp [List.getD, hkl, List.filter_cons])
      subst hA
      generalize L.getD k pw0 = x at hc hz hxl HTK
      have hs3 : (prC x).size = 3 := pr_size x
      have HZX := Lib.hid hz
      clear hxm hz hkl JI
      cases hic : (x.1.i != cc)
      · have HM1 := Lib.hid (show M.map (·.1) = ((L.map (·.1)).take (k + 1)).filter (fun x => x.i != cc) by rw [HTK.out, hic, if_neg (by simp), List.append_nil, HM.out])
        go_wp2_with (first
          | (refine wpList_load_mid rfl 49 (.tmp 22) rfl b (off + k * 3) rfl (prC x).toList _ hc Tryz.underlying49 rfl (pr_infL x) ?_)
          | (refine wpList_store_blk rfl 49 (.tmp 7) (.tmp 23) rfl wr.heap.size (prC pw0) (prC x) 49 rfl rfl (Blk.new _ _ _) rfl (pr_inf x) (pr_one x) ?_
             intro W1 k4 n4
             have bb : Below wr.heap.size wr W1 := ((Below.refl _ wr).alloc (Nat.le_refl _) _).trans (n4.below _ (Nat.le_refl _) (by simp))
             have x0 : W1.cell? ⟨wr.heap.size, 0, none⟩ = some (.int .i64 x.1.i) := k4.cell 0
             have J1 := J.step bb
             clear n4 bb k4 J))
        go_roundw
        case rel => exact ⟨k + 1, G, gm, gc, M, _, rfl, by omega, by go_num, by omega, HM1, Lib.hid J1⟩
        case measure => simp [intOf]; omega
      · have hgm6 : gm ≤ 100000 := by omega
        have HHI := Lib.hid hic
        go_wp2_with (first
          | (refine wpList_load_mid rfl 49 (.tmp 22) rfl b (off + k * 3) rfl (prC x).toList _ hc Tryz.underlying49 rfl (pr_infL x) ?_)
          | (refine wpList_store_blk rfl 49 (.tmp 7) (.tmp 23) rfl wr.heap.size (prC pw0) (prC x) 49 rfl rfl (Blk.new _ _ _) rfl (pr_inf x) (pr_one x) ?_
             intro W1 k4 n4
             have bb : Below wr.heap.size wr W1 := ((Below.refl _ wr).alloc (Nat.le_refl _) _).trans (n4.below _ (Nat.le_refl _) (by simp))
             have x0 : W1.cell? ⟨wr.heap.size, 0, none⟩ = some (.int .i64 x.1.i) := k4.cell 0
             have J3 := J.step bb
             have q32 : W1.cell? ⟨go, 2, none⟩ = some (.slice G gm gc) := J3.ko.cell 2
             have J4 := J.step (bb.alloc bb.size (.cells #[.int .i64 x.1.i, .int .i64 x.1.p, .slice x.2.1 x.1.t.length x.2.2] 49))
             have z5 := HZX.out.below (bb.alloc bb.size (.cells #[.int .i64 x.1.i, .int .i64 x.1.p, .slice x.2.1 x.1.t.length x.2.2] 49)) (Nat.le_refl _)
             have hgb : (W1.alloc (.cells #[.int .i64 x.1.i, .int .i64 x.1.p, .slice x.2.1 x.1.t.length x.2.2] 49)).heap[W1.heap.size]? = some (.cells (prC x) 49 (0, 0)) := heap_alloc_new _ _
             clear n4 bb J3)
          | (refine wpList_load_row rfl 49 (.tmp 7) rfl wr.heap.size rfl 49 #[.int .i64 x.1.i, .int .i64 x.1.p, .slice x.2.1 x.1.t.length x.2.2] (0, 0) _ k4.blk Tryz.underlying49 rfl (pr_inf x) ?_)
          | (refine wpList_app1P rfl (.tmp 29) (.tmp 31) rfl w.heap.size G gm gc M rfl J4.pg x W1.heap.size rfl hgb (by omega) J4.b.size ?_
             intro A5 c5 W5 r5 g5 b5
             have o5 := J4.o.snoc z5 (r5.down hB) g5
             have hrk : ∀ g, (Value.slice G gm gc).ownBlock = some g → ∃ cs t, Blk (W1.alloc (.cells #[.int .i64 x.1.i, .int .i64 x.1.p, .slice x.2.1 x.1.t.length x.2.2] 49)) g cs t ∧ t ≠ (27 : TypeId) := fun g e => by
               obtain ⟨cur, kP⟩ := roP_blk J4.o.p e
               exact ⟨cur, _, kP, by decide⟩
             have kk : ∀ {g cs}, Blk (W1.alloc (.cells #[.int .i64 x.1.i, .int .i64 x.1.p, .slice x.2.1 x.1.t.length x.2.2] 49)) g cs 27 → Blk W5 g cs 27 := fun {g cs} k => ⟨(g5.block g k.lt (fun e => by
               obtain ⟨cs', t', kP, hne⟩ := hrk g e.symm
               exact hne (blk_kind kP k))).trans k.blk⟩
             have HC5 := Lib.hid (show Below w.heap.size w W5 ∧ Blk W5 w.heap.size (tkC a Ua um uc (some ⟨b, off, none⟩) m c) 27 ∧ Blk W5 (w.heap.size + 1) (tkC 0 none 0 0 none 0 0) 27 from ⟨J4.b.trans b5, kk J4.ks, kk J4.k2⟩)
             have ko5 := kk J4.ko
             clear k4 hgb q32 hrk kk)
          | (refine wpList_stf rfl 25 (.tmp 33) (.tmp 32) rfl go 2 (tkC a1 U1 um1 uc1 G gm gc) 27 (.slice A5 (gm + 1) c5) rfl rfl ko5 (by show 2 < 3; decide) (by kernel_rfl) rfl rfl ?_
             intro W6 k6 n6
             have J6 : GnS w B a Ua um uc U (some ⟨b, off, none⟩) m c L go a1 U1 um1 uc1 l1 A5 (gm + 1) c5 (M ++ [x]) W6 := ⟨HC5.out.1.trans (n6.below _ (by have := HGO.out; omega) HC5.out.1.size), n6.blk7 HC5.out.2.1 (by have := HGO.out; omega), n6.blk7 HC5.out.2.2 (by have := HGO.out; omega), k6, o5.kind n6 ko5 (by decide) (by decide), own_kind r5 (grown_but n6) (fun g e => by cases e; exact ⟨_, _, ko5, by decide⟩)⟩
             clear n6 k6))
        have HM5 := Lib.hid (show (M ++ [x]).map (·.1) = ((L.map (·.1)).take (k + 1)).filter (fun x => x.i != cc) by
          rw [HTK.out, HHI.out, if_pos rfl, List.map_append, HM.out, List.map_singleton])
        go_roundw
        case rel => exact ⟨k + 1, A5, gm + 1, c5, _, _, rfl, by omega, by go_num, by omega, HM5, Lib.hid J6⟩
        case measure => simp [intOf]; omega
    · obtain rfl : k = m := by omega
      have HM1 := Lib.hid (show M.map (·.1) = (L.map (·.1)).filter (fun x => x.i != cc) by rw [HM.out, List.take_of_length_le (by rw [List.length_map, ← HPL.out]; omega)])
      clear HM
      go_wp2_with (first
        | (refine wpList_load_row rfl 27 (.tmp 5) rfl go rfl 27 (tkC a1 U1 um1 uc1 G gm gc) (0, 0) _ J.ko.blk Tryz.underlying27 rfl (tk_inf _ _ _ _ _ _ _) ?_)
        | (refine wpList_store_blk rfl 27 (.tmp 4) (.tmp 35) rfl (w.heap.size + 1) (tkC 0 none 0 0 none 0 0) (tkC a1 U1 um1 uc1 G gm gc) 27 rfl rfl J.k2 rfl (tk_inf _ _ _ _ _ _ _) (tk_one _ _ _ _ _ _ _) ?_
           intro W2 k10 n10
           have o10 := J.o.kind n10 J.k2 (by decide) (by decide)
           have b10 := J.b.trans (n10.below _ (by omega) J.b.size)))
      refine bodyPost_ret (results_cell_row rfl _ _ (w.heap.size + 1) 27 (tkC a1 U1 um1 uc1 G gm gc) (0, 0) _ rfl k10.blk Tryz.underlying27 rfl (tk_inf _ _ _ _ _ _ _)) rfl ?_
      exact ⟨a1, U1, um1, uc1, l1, G, gm, gc, M, er, rfl, HFR.out, o10, HM1.out, b10⟩
end Go.Proofs.YtlelhhgggnjndaaGreat
