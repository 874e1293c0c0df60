/-
  task.Fork, Clone, End: from the change to what is answered.
-/
import Derived.Test.YtlelhhgggnjndaaGreatQShift
import Derived.Test.YtlelhhgggnjndaaGreatQTkF
import Derived.Test.YtlelhhgggnjndaaGreatQPiT
import Derived.Test.YtlelhhgggnjndaaGreatQTpF
import Derived.Test.YtlelhhgggnjndaaGreatQPiSh
namespace Go.Proofs.YtlelhhgggnjndaaGreat
open Go.RowKit Go.Shelf
set_option linter.unusedVariables false
set_option linter.unusedSimpArgs false
def frees (e : Int → Bool) (pid : Int) (l : List Int) (s : Int × List Int) : Int × List Int := l.foldl (fun s t => if (e t && t != pid) = true then ((freeV s.1 s.2 t).1, (freeV s.1 s.2 t).2.1) else s) s
theorem frees_snoc (e : Int → Bool) (pid : Int) (l : List Int) (t : Int) (s : Int × List Int) : frees e pid (l ++ [t]) s = if (e t && t != pid) = true then ((freeV (frees e pid l s).1 (frees e pid l s).2 t).1, (freeV (frees e pid l s).1 (frees e pid l s).2 t).2.1) else frees e pid l s := by
  unfold frees
  rw [List.foldl_append]
  rfl
theorem freeV_len (a : Int) (U : List Int) (x : Int) : (freeV a U x).2.1.length ≤ U.length := by
  unfold freeV
  split
  · split
    · simp only [delP, List.length_append, List.length_take, List.length_drop]; omega
    · simp
  · simp
theorem frees_len (e : Int → Bool) (pid : Int) : ∀ (l : List Int) (s : Int × List Int), (frees e pid l s).2.length ≤ s.2.length
  | [], s => Nat.le_refl _
  | t :: l, s => by
    show (frees e pid l _).2.length ≤ _
    refine Nat.le_trans (frees_len e pid l _) ?_
    show (if (e t && t != pid) = true then ((freeV s.1 s.2 t).1, (freeV s.1 s.2 t).2.1) else s).2.length ≤ _
    split
    · exact freeV_len _ _ _
    · exact Nat.le_refl _
theorem take_snocT {l : List Int} {j : Nat} (hj : j < l.length) : l.take (j + 1) = l.take j ++ [l.getD j 0] := by
  rw [List.take_succ_eq_append_getElem hj]
  simp [List.getD, hj]
structure LvJ (V W : World) (B g gP m c : Nat) (L : List Pw) (s : Int × List Int) (Ua : Option Addr) (um uc : Nat) (S : Option Addr) (sm sc : Nat) (st : List Int) : Prop where
  kg : Blk W g (tkC s.1 Ua um uc (some ⟨gP, 0, none⟩) m c) 27
  own : OwnT W B Ua um uc s.2 (some ⟨gP, 0, none⟩) m c L
  st : Zo W V.heap.size S sm sc st
  sa : ∀ g', (Value.slice S sm sc).ownBlock = some g' → (Value.slice Ua um uc).ownBlock ≠ some g'
  old : ∀ x ∈ L, ∀ g', ownT x = some g' → g' < V.heap.size
  b : Below B V W
theorem LvJ.step {V W W' : World} {B g gP m c : Nat} {L : List Pw} {s : Int × List Int} {Ua : Option Addr} {um uc : Nat} {S : Option Addr} {sm sc : Nat} {st : List Int} (h : LvJ V W B g gP m c L s Ua um uc S sm sc st) (b : Below W.heap.size W W') (hB : B ≤ W.heap.size) : LvJ V W' B g gP m c L s Ua um uc S sm sc st :=
  ⟨h.kg.below b h.kg.lt, h.own.below b (Nat.le_refl _), h.st.below b (Nat.le_refl _), h.sa, h.old, h.b.trans (b.mono hB)⟩
theorem LvJ.app {V W W' : World} {B g gP m c : Nat} {L : List Pw} {s : Int × List Int} {Ua : Option Addr} {um uc : Nat} {S S2 : Option Addr} {sm sc sc2 : Nat} {st : List Int} {t : Int} (h : LvJ V W B g gP m c L s Ua um uc S sm sc st) (hBV : B ≤ V.heap.size)
    (z : Zo W' V.heap.size S2 (sm + 1) sc2 (st ++ [t])) (hg : W.grownBy W' (Value.slice S sm sc).ownBlock) (hb : Below V.heap.size W W') (hl : (Value.slice S2 (sm + 1) sc2).ownBlock = (Value.slice S sm sc).ownBlock ∨ (Value.slice S2 (sm + 1) sc2).ownBlock = some W.heap.size) : LvJ V W' B g gP m c L s Ua um uc S2 (sm + 1) sc2 (st ++ [t]) := by
  have hk : ∀ g', (Value.slice S sm sc).ownBlock = some g' → ∃ cs t, Blk W g' cs t ∧ t = 3 := fun g' e => by
    obtain ⟨cur, k⟩ := zo_blk h.st e
    exact ⟨cur, _, k, rfl⟩
  refine ⟨⟨(hg.block g h.kg.lt (fun e => ?_)).trans h.kg.blk⟩, ⟨own_apart h.own.u hg (fun g' e e2 => h.sa g' e e2), own_kind h.own.p hg (fun g' e => by obtain ⟨cs, t, k, rfl⟩ := hk g' e; exact ⟨cs, _, k, by decide⟩), fun y hy => own_apart (h.own.q y hy) hg (fun g' e e2 => ?_), h.own.qd, h.own.ud⟩, z, fun g' e e2 => ?_, h.old, h.b.trans (hb.mono hBV)⟩
  · obtain ⟨cs, t, k, rfl⟩ := hk g e.symm
    exact absurd (blk_kind h.kg k) (by decide)
  · have h1 := h.old y hy g' e2
    have h2 := (zo_at h.st e).1
    omega
  · rcases hl with hl | hl
    · exact h.sa g' (hl.symm.trans e) e2
    · rw [hl] at e
      cases e
      have := (zo_at h.own.u e2).2
      omega
theorem LvJ.freed {V W W' : World} {B g gP m c : Nat} {L : List Pw} {s : Int × List Int} {Ua A' : Option Addr} {um uc m' c' : Nat} {S : Option Addr} {sm sc : Nat} {st l' : List Int} {a' : Int} (h : LvJ V W B g gP m c L s Ua um uc S sm sc st) (hBV : B ≤ V.heap.size) (hBg : B ≤ g) (hVW : V.heap.size ≤ W.heap.size)
    (kg : Blk W' g (tkC a' A' m' c' (some ⟨gP, 0, none⟩) m c) 27) (z : Zo W' W.heap.size A' m' c' l') (nb : But g W W') : LvJ V W' B g gP m c L (a', l') A' m' c' S sm sc st :=
  ⟨kg, ⟨z.down (Nat.le_trans hBV hVW), own_kind h.own.p (grown_but nb) (fun g' e => by cases e; exact ⟨_, _, h.kg, by decide⟩), fun y hy => own_kind (h.own.q y hy) (grown_but nb) (fun g' e => by cases e; exact ⟨_, _, h.kg, by decide⟩), h.own.qd, fun y hy g' e e2 => by
    have h1 := h.old y hy g' e
    have h2 := (zo_at z e2).1
    omega⟩, own_kind h.st (grown_but nb) (fun g' e => by cases e; exact ⟨_, _, h.kg, by decide⟩), fun g' e e2 => by
    have h1 := (zo_at h.st e).2
    have h2 := (zo_at z e2).1
    omega, h.old, h.b.trans (nb.below _ hBg (Nat.le_trans hBV hVW))⟩
def LvO (V W : World) (B g gP m c : Nat) (L : List Pw) (p : Nat) (x : Pw) (s : Int × List Int) (st : List Int) : Prop := ∃ Ua um uc S sc, Blk W g (tkC s.1 Ua um uc (some ⟨gP, 0, none⟩) m c) 27 ∧ OwnT W B Ua um uc s.2 (some ⟨gP, 0, none⟩) m c (L.set p (⟨x.1.i, x.1.p, st⟩, (S, sc))) ∧ Below B V W
set_option maxRecDepth 100000 in
set_option maxHeartbeats 8000000 in
theorem leave_tk (cfE : Nat) (cbE : Array Value) (eb : Int → Bool) (a : Int) (V : World) (B g : Nat) (Ua : Option Addr) (um uc : Nat) (U : List Int) (gP m c : Nat) (L : List Pw) (p : Nat) (x : Pw)
    (ec : ∀ args w, (callFunc cfE args).run Tryz.prog w = .ok (.enter cfE args) w) (own : OwnT V B Ua um uc U (some ⟨gP, 0, none⟩) m c L) (kg : Blk V g (tkC a Ua um uc (some ⟨gP, 0, none⟩) m c) 27) (hBg : B ≤ g) (hpl : p < L.length) (hx : L.getD p pw0 = x) (hu6 : um ≤ 1000000) (ht6 : x.1.t.length ≤ 1000000)
    (hE : ∀ W, Below B V W → ∀ t, Calls Tryz.prog cfE (#[.int .i64 t] ++ cbE) W fun e W' => e = .returned (.bool (eb t)) ∧ Below W.heap.size W W') :
    Calls Tryz.prog 67 #[.pointer (some ⟨g, 0, none⟩), .int .i64 p, .func (.func cfE) #[] cbE] V fun e W => e = .returned (.tuple #[]) ∧ LvO V W B g gP m c L p x (frees eb x.1.i x.1.t (a, U)) (x.1.t.filter fun t => !eb t) := by
  have hgV := kg.lt
  have hBV : B ≤ V.heap.size := Nat.le_trans hBg (Nat.le_of_lt hgV)
  have hm : (p : Int) < (m : Int) := by have := own.p.len; omega
  have hxm : x ∈ L := by rw [← hx, show L.getD p pw0 = L[p] by simp [List.getD, hpl]]; exact List.getElem_mem _
  have J0 : LvJ V V B g gP m c L (a, U) Ua um uc none 0 0 [] := ⟨kg, own, zo_nil _ _, fun g' e => (by cases e), fun y hy g' e => (zo_at (own.q y hy) e).2, Below.refl _ _⟩
  obtain ⟨b7, off7, he7, hb7, hc7⟩ := own.p.rs p hpl
  cases he7
  rw [hx, Nat.zero_add] at hc7
  have t2 : V.cell? ⟨gP, p * 3 + 2, none⟩ = some (.slice x.2.1 x.1.t.length x.2.2) := hc7 2 _ rfl
  have q2 : V.cell? ⟨g, 2, none⟩ = some (.slice (some ⟨gP, 0, none⟩) m c) := kg.cell 2
  have HJ0 := Lib.hid J0
  have HX := Lib.hid (And.intro hx hxm)
  have HPL := Lib.hid hpl
  have HE := Lib.hid hE
  have HU6 := Lib.hid own.u.len
  clear J0 own kg hc7 hb7 hx hxm hpl hE
  go_enter Tryz.func67, Tryz.ntmps67
  go_wp2_with fail
  go_loopw [7, 21] (fun sv iv wr' => ∃ (j : Nat) (W : World) (Ua' : Option Addr) (um' uc' : Nat) (S : Option Addr) (sm sc : Nat), W = wr' ∧ j ≤ x.1.t.length ∧ sv = .slice S sm sc ∧ iv = .int .i64 j ∧ Hid (LvJ V W B g gP m c L (frees eb x.1.i (x.1.t.take j) (a, U)) Ua' um' uc' S sm sc ((x.1.t.take j).filter fun t => !eb t))) (fun _ iv _ => x.1.t.length - (intOf iv).toNat)
  case atStart => exact ⟨0, _, Ua, um, uc, none, 0, 0, rfl, Nat.zero_le _, rfl, rfl, HJ0⟩
  case round =>
    clear HJ0 t2 q2
    obtain ⟨j, W, Ua', um', uc', S, sm, sc, hww, hj, rfl, rfl, HJ⟩ := hrel
    subst hww
    by_cases hlt : j < x.1.t.length
    · have hlt' : (j : Int) < (x.1.t.length : Int) := by omega
      obtain ⟨b, off, hA, hb, hcell⟩ := (HJ.out.own.q x HX.out.2).ri j hlt
      have hsn := take_snocT hlt
      have hstl := HJ.out.st.len
      have hfl : ((x.1.t.take j).filter fun t => !eb t).length ≤ x.1.t.length := Nat.le_trans (List.length_filter_le _ _) (by rw [List.length_take]; omega)
      have HS := Lib.hid (And.intro hsn (And.intro hstl hfl))
      obtain ⟨t, ht⟩ : ∃ t, x.1.t.getD j 0 = t := ⟨_, rfl⟩
      rw [ht] at hcell hsn
      have HSN := Lib.hid hsn
      have hBW : B ≤ W.heap.size := Nat.le_trans hBV HJ.out.b.size
      have HEC := Lib.hid (HE.out W HJ.out.b t)
      clear hsn hstl hfl ht HS
      have hVW := HJ.out.b.size
      have HF := Lib.hid (fun (V' : World) (Ua : Option Addr) (um uc : Nat) (S : Option Addr) (sm sc : Nat) (h : LvJ V V' B g gP m c L (frees eb x.1.i (x.1.t.take j) (a, U)) Ua um uc S sm sc ((x.1.t.take j).filter fun t => !eb t)) => free_tk g _ Ua um uc _ (some ⟨gP, 0, none⟩) m c t V' h.kg h.own.u.ri h.own.u.len (by have h1 := h.own.u.len; have h2 := frees_len eb x.1.i (x.1.t.take j) (a, U); have h3 := HU6.out; simp only at h2; omega))
      have HFS := Lib.hid (frees_snoc eb x.1.i (x.1.t.take j) t (a, U))
      cases het : eb t
      · have hfe : (x.1.t.take (j + 1)).filter (fun t => !eb t) = ((x.1.t.take j).filter fun t => !eb t) ++ [t] := by rw [HSN.out, List.filter_append]; simp [het]
        have hse : frees eb x.1.i (x.1.t.take (j + 1)) (a, U) = frees eb x.1.i (x.1.t.take j) (a, U) := by rw [HSN.out, HFS.out, het]; rfl
        have HEQ := Lib.hid (And.intro hfe hse)
        rw [het] at HEC
        have hsm : sm + 1 ≤ 2000000 := by have := HJ.out.st.len; have h2 : ((x.1.t.take j).filter fun t => !eb t).length ≤ (x.1.t.take j).length := List.length_filter_le _ _; rw [List.length_take] at h2; omega
        clear hfe hse HF HFS het
        rw [hA]
        go_wp2_with (first
          | (refine HEC.out.mono ?_
             clear HEC
             rintro e W1 ⟨rfl, bb⟩
             have hal : Below W1.heap.size W1 (W1.alloc (.cells #[.int .i64 t] 3)) := (Below.refl _ _).alloc (Nat.le_refl _) _
             have HJ1 := Lib.hid ((HJ.out.step bb hBW).step hal (Nat.le_trans hBW bb.size))
             have hV1 := Nat.le_trans hVW bb.size
             clear bb hal hcell)
          | (at_builtin
             refine wpList_app1K rfl (.tmp 29) (.tmp 31) rfl V.heap.size S sm sc _ rfl HJ1.out.st t W1.heap.size rfl (Blk.new W1 #[.int .i64 t] 3) hsm (by simp; omega) ?_
             intro S2 sc2 W3 z3 g3 b3 l3
             have HJ3 := Lib.hid (HJ1.out.app hBV z3 g3 b3 l3)
             clear z3 g3 b3 l3))
        go_roundw
        case rel => exact ⟨j + 1, _, Ua', um', uc', S2, sm + 1, sc2, rfl, by omega, rfl, by go_num, by rw [HEQ.out.1, HEQ.out.2]; exact HJ3⟩
        case measure => simp [intOf]; omega
      · have hfe : (x.1.t.take (j + 1)).filter (fun t => !eb t) = ((x.1.t.take j).filter fun t => !eb t) := by rw [HSN.out, List.filter_append]; simp [het]
        have HEF := Lib.hid hfe
        rw [het] at HEC
        have hpid : ∀ W', LvJ V W' B g gP m c L (frees eb x.1.i (x.1.t.take j) (a, U)) Ua' um' uc' S sm sc ((x.1.t.take j).filter fun t => !eb t) → W'.cell? ⟨gP, p * 3, none⟩ = some (.int .i64 x.1.i) := fun W' h => by
          obtain ⟨_, _, e, _, hc⟩ := h.own.p.rs p HPL.out
          cases e
          have := hc 0 _ rfl
          rw [Nat.zero_add, HX.out.1] at this
          exact this
        have HPI := Lib.hid hpid
        clear hfe hpid
        rw [hA]
        obtain ⟨pid, hpid⟩ : ∃ q, x.1.i = q := ⟨_, rfl⟩
        by_cases htp : t = pid
        · have hse : frees eb x.1.i (x.1.t.take (j + 1)) (a, U) = frees eb x.1.i (x.1.t.take j) (a, U) := by rw [HSN.out, HFS.out, het, hpid, htp]; simp
          have HEQ := Lib.hid hse
          have htn : (t != pid) = false := by rw [htp]; simp
          have HPD := Lib.hid hpid
          clear hse htp HF HFS hpid het
          go_wp2_with (first
            | (refine HEC.out.mono ?_
               clear HEC
               rintro e W1 ⟨rfl, bb⟩
               have HJ1 := Lib.hid (HJ.out.step bb hBW)
               have t0 := HPI.out W1 HJ1.out
               rw [HPD.out] at t0
               clear bb hcell))
          go_roundw
          case rel => exact ⟨j + 1, _, Ua', um', uc', S, sm, sc, rfl, by omega, rfl, by go_num, by rw [HEQ.out, HEF.out]; exact HJ1⟩
          case measure => simp [intOf]; omega
        · have htn : (t != pid) = true := by simpa using htp
          have hse : frees eb x.1.i (x.1.t.take (j + 1)) (a, U) = ((freeV (frees eb x.1.i (x.1.t.take j) (a, U)).1 (frees eb x.1.i (x.1.t.take j) (a, U)).2 t).1, (freeV (frees eb x.1.i (x.1.t.take j) (a, U)).1 (frees eb x.1.i (x.1.t.take j) (a, U)).2 t).2.1) := by rw [HSN.out, HFS.out, het, hpid, htn]; rfl
          have HEQ := Lib.hid hse
          have HPD := Lib.hid hpid
          clear hse htp HFS hpid het
          go_wp2_with (first
            | (refine HEC.out.mono ?_
               clear HEC
               rintro e W1 ⟨rfl, bb⟩
               have HJ1 := Lib.hid (HJ.out.step bb hBW)
               have t0 := HPI.out W1 HJ1.out
               rw [HPD.out] at t0
               have hV1 := Nat.le_trans hVW bb.size
               have HF1 := Lib.hid (HF.out W1 Ua' um' uc' S sm sc HJ1.out)
               clear bb hcell)
            | (refine HF1.out.mono ?_
               clear HF1
               rintro e W2 ⟨A2, m2, c2, a2, l2, er, rfl, kg2, z2, hv2, nb2⟩
               have HJ2 := Lib.hid (HJ1.out.freed hBV hBg hV1 kg2 z2 nb2)
               have HV2 := Lib.hid hv2
               clear kg2 z2 hv2 nb2))
          go_roundw
          case rel => exact ⟨j + 1, _, A2, m2, c2, S, sm, sc, rfl, by omega, rfl, by go_num, by rw [HEQ.out, HEF.out, HV2.out]; exact HJ2⟩
          case measure => simp [intOf]; omega
    · obtain rfl : j = x.1.t.length := by omega
      have htk : x.1.t.take x.1.t.length = x.1.t := List.take_length
      rw [htk] at HJ
      have J := HJ.out
      have hge : ¬ ((x.1.t.length : Int) < (x.1.t.length : Int)) := by omega
      obtain ⟨b7, off7, he7, hb7, hc7⟩ := J.own.p.rs p HPL.out
      cases he7
      rw [HX.out.1, Nat.zero_add] at hc7
      have t3 : W.cell? ⟨gP, p * 3 + 2, none⟩ = some (.slice x.2.1 x.1.t.length x.2.2) := hc7 2 _ rfl
      have f3 := World.ownsRow.frozenAt J.own.p (p * 3 + 2)
      clear hc7 hb7 hlt htk
      go_wp2_with fail
      refine bodyPost_end (results_none rfl _ _ _) rfl ?_
      have hst := J.st
      have hsl : sm = (x.1.t.filter fun t => !eb t).length := hst.len
      have n5 : But gP W (W.setCell ⟨gP, p * 3 + 2, none⟩ (.slice S sm sc)) := (But.refl gP W).setCell (p := ⟨gP, p * 3 + 2, none⟩) (.inl rfl) _
      obtain ⟨curP, kP⟩ := roP_blk J.own.p rfl
      have rl5 := J.own.p.cellSet HPL.out (j := 2) (u := .slice S sm sc) (y := ((⟨x.1.i, x.1.p, x.1.t.filter fun t => !eb t⟩ : Pn), (S, sc))) (by omega) (by rw [HX.out.1]; show [Value.int .i64 x.1.i, .int .i64 x.1.p, .slice S (x.1.t.filter fun t => !eb t).length sc] = _; rw [← hsl]; rfl)
      have kind5 : ∀ {A m c l B'}, Zo W B' A m c l → Zo (W.setCell ⟨gP, p * 3 + 2, none⟩ (.slice S sm sc)) B' A m c l := fun h => own_kind h (grown_but n5) (fun g' e => by cases e; exact ⟨_, _, kP, by decide⟩)
      have hq : ∀ j, j < L.length → L.getD j pw0 ∈ L := fun j hj => by rw [show L.getD j pw0 = L[j] by simp [List.getD, hj]]; exact List.getElem_mem _
      have hSb : S.map (·.block) = (Value.slice S sm sc).ownBlock := by cases S <;> rfl
      have hstL : Zo W V.heap.size S (x.1.t.filter fun t => !eb t).length sc (x.1.t.filter fun t => !eb t) := by
        have h0 := J.st
        rw [show sm = (x.1.t.filter fun t => !eb t).length from hsl] at h0
        exact h0
      have hst5 := (kind5 hstL).down hBV
      have own5 := OwnT.setT (x := ⟨x.1.i, x.1.p, x.1.t.filter fun t => !eb t⟩) (kind5 J.own.u) rl5 HPL.out hst5 (fun j hj hne => kind5 (J.own.q _ (hq j hj)))
        (fun i j hi hj _ _ hij => J.own.qd i j hi hj hij) (fun j hj hne g' h1 h2 => by
          have h3 := J.old _ (hq j hj) g' h1
          have h4 := (zo_at hst (hSb.symm.trans h2)).1
          omega) (fun j hj hne => J.own.ud _ (hq j hj)) (fun g' h1 => J.sa g' (hSb.symm.trans h1))
      have kg5 := n5.blk7 J.kg (fun e => by have kg4 := J.kg; rw [e] at kg4; exact absurd (blk_kind kg4 kP) (by decide))
      obtain ⟨gQ, hA7, hgQ, _⟩ := J.own.p.at0 (by have := HPL.out; have := J.own.p.len; omega)
      have hgP : B ≤ gP := by cases hA7; exact hgQ
      exact ⟨rfl, Ua', um', uc', S, sc, kg5, own5, J.b.trans (n5.below _ hgP (Nat.le_trans hBV J.b.size))⟩
end Go.Proofs.YtlelhhgggnjndaaGreat
namespace Go.Proofs.YtlelhhgggnjndaaGreat
open Go.RowKit Go.Shelf
set_option linter.unusedVariables false
set_option linter.unusedSimpArgs false
def SId (gt : Nat) (tid : Int) (B : Nat) (V : World) : Prop := V.cell? ⟨gt, 0, none⟩ = some (.int .i64 tid) ∧ gt < B
theorem one_tk (gt : Nat) (tid t : Int) (w : World) (h : w.cell? ⟨gt, 0, none⟩ = some (.int .i64 tid)) :
    Calls Tryz.prog 68 (#[.int .i64 t] ++ #[.pointer (some ⟨gt, 0, none⟩)]) w fun e w' => e = .returned (.bool (t == tid)) ∧ Below w.heap.size w w' := by
  show Calls Tryz.prog 68 #[.int .i64 t, .pointer (some ⟨gt, 0, none⟩)] w _
  go_enter Tryz.func68, Tryz.ntmps68
  go_wp2_with fail
  go_ret
  exact ⟨rfl, Below.refl _ _⟩
def endN (a : Int) (U : List Int) (P : List Pn) (p : Nat) (tid : Int) : TkA :=
  ⟨(frees (fun t => t == tid) (P.getD p pn0).i (P.getD p pn0).t (a, U)).1, (frees (fun t => t == tid) (P.getD p pn0).i (P.getD p pn0).t (a, U)).2, P.set p ⟨(P.getD p pn0).i, (P.getD p pn0).p, (P.getD p pn0).t.filter fun t => !(t == tid)⟩, 0, 0⟩
set_option maxRecDepth 100000 in
set_option maxHeartbeats 8000000 in
theorem end1_tk (gt : Nat) (tid : Int) (a : Int) (U : List Int) (P : List Pn) (p : Nat) (hp : p < P.length) (hc : cntT P ≤ 1000000) (hs : ((P.getD p pn0).t.filter fun t => !(t == tid)) ≠ []) : DoT 66 #[.pointer (some ⟨gt, 0, none⟩)] (SId gt tid) a U P p (endN a U P p tid) := by
  intro V B g Ua um uc A m c L hS hLP own tk kg hBg
  have hpl : p < L.length := by rw [← hLP] at hp; simpa using hp
  have hnm : (P.getD p pn0) = (L.getD p pw0).1 := by rw [← hLP]; exact getD_name p
  obtain ⟨gP, hA, hgP, hgPl⟩ := own.p.at0 (by omega)
  subst hA
  obtain ⟨x, hx⟩ : ∃ x, L.getD p pw0 = x := ⟨_, rfl⟩
  have hxm : x ∈ L := by rw [← hx, show L.getD p pw0 = L[p] by simp [List.getD, hpl]]; exact List.getElem_mem _
  rw [hx] at hnm
  unfold endN
  rw [hnm] at hs ⊢
  have hxt : x.1.t.length ≤ 1000000 := by have := cnt_le (P := P) (x := x.1) (by rw [← hLP]; exact List.mem_map.2 ⟨x, hxm, rfl⟩); omega
  have LV := Lib.hid (leave_tk 68 #[.pointer (some ⟨gt, 0, none⟩)] (fun t => t == tid) a V B g Ua um uc U gP m c L p x (fun _ _ => rfl) own kg hBg hpl hx tk.u6 hxt (fun W hW t => one_tk gt tid t W ((hW.cell (p := ⟨gt, 0, none⟩) hS.2).trans hS.1)))
  have hm : (p : Int) < (m : Int) := by have := own.p.len; omega
  have hle := frees_len (fun t => t == tid) x.1.i x.1.t (a, U)
  have hul : um = U.length := tk.ul
  have hu6 : um ≤ 1000000 := tk.u6
  have hn := tk.n
  rw [thr_cnt, hLP] at hn
  have hcs := cnt_set (P := P) (p := p) (x := ⟨x.1.i, x.1.p, x.1.t.filter fun t => !(t == tid)⟩) hp
  rw [hnm] at hcs
  simp only at hcs hle
  have hfl : (x.1.t.filter fun t => !(t == tid)).length ≤ x.1.t.length := List.length_filter_le _ _
  have HB := Lib.hid (And.intro hle (And.intro hcs (And.intro hfl (And.intro hul (And.intro hu6 (And.intro hn tk.p6))))))
  have HPL := Lib.hid (And.intro hpl hLP)
  generalize frees (fun t => t == tid) x.1.i x.1.t (a, U) = fs at LV HB ⊢
  generalize (x.1.t.filter fun t => !(t == tid)) = st at LV HB hs ⊢
  have hse : (st.length == 0) = false := by cases st with | nil => exact absurd rfl hs | cons y l => simp
  have hEN : ∀ S sc V', Calls Tryz.prog 69 #[.agg (prC (⟨x.1.i, x.1.p, st⟩, (S, sc)))] V' fun e w' => e = .returned (.bool false) ∧ Below V'.heap.size V' w' := fun S sc V' => (ended_tk (⟨x.1.i, x.1.p, st⟩, (S, sc)) V').mono (fun e w' h => by rw [show ((⟨x.1.i, x.1.p, st⟩ : Pn), (S, sc)).1.t.length = st.length from rfl, hse] at h; exact h)
  have HEN := Lib.hid hEN
  clear hle hcs hfl hul hu6 hn own tk hx hxm hpl hLP hnm hs hse hEN hp hxt hS
  show Calls Tryz.prog 66 #[.pointer (some ⟨g, 0, none⟩), .int .i64 p, .pointer (some ⟨gt, 0, none⟩)] V _
  go_enter Tryz.func66, Tryz.ntmps66
  go_wp2_with (first
    | (refine LV.out.mono ?_
       clear LV
       rintro e w1 ⟨rfl, Ua1, um1, uc1, S, sc, kg1, own1, bb⟩
       have HO := Lib.hid own1
       have HKB := Lib.hid (And.intro kg1 bb)
       have q2 : w1.cell? ⟨g, 2, none⟩ = some (.slice (some ⟨gP, 0, none⟩) m c) := kg1.cell 2
       obtain ⟨b7, off7, he7, hb7, hc7⟩ := own1.p.rs p (by rw [List.length_set]; exact HPL.out.1)
       cases he7
       rw [getD_setP HPL.out.1, if_pos rfl, Nat.zero_add] at hc7
       clear kg1 own1 bb hb7)
    | (refine wpListG_load_mid (by rfl) 49 (.tmp 16) rfl gP (p * 3) rfl (prC (⟨x.1.i, x.1.p, st⟩, (S, sc))).toList _ hc7 Tryz.underlying49 rfl (pr_infL _) ?_)
    | (refine (HEN.out S sc _).mono ?_
       clear HEN
       rintro e w2 ⟨rfl, b2⟩))
  refine bodyPost_ret (results_tmp2 rfl _ _ _) rfl ?_
  have k2 := HKB.out.1.below b2 HKB.out.1.lt
  have o2 := HO.out.below b2 (Nat.le_refl _)
  have hBw := Nat.le_trans hBg (Nat.le_of_lt HKB.out.1.lt)
  have hnames : (L.set p ((⟨x.1.i, x.1.p, st⟩ : Pn), (S, sc))).map (·.1) = P.set p ⟨x.1.i, x.1.p, st⟩ := by rw [List.map_set, HPL.out.2]
  have hul := o2.u.len
  obtain ⟨h1, h2, h3, h4, h5, h6, h7⟩ := HB.out
  refine ⟨rfl, HKB.out.2.trans (b2.mono hBw), fun _ => ⟨Ua1, um1, uc1, _, m, c, _, k2, o2.tk (by omega) h7 (fun y hy => ?_) (by rw [thr_cnt, hnames]; omega), hnames, o2⟩⟩
  have := cnt_le (P := P.set p ⟨x.1.i, x.1.p, st⟩) (x := y.1) (by rw [← hnames]; exact List.mem_map.2 ⟨y, hy, rfl⟩)
  omega
end Go.Proofs.YtlelhhgggnjndaaGreat
namespace Go.Proofs.YtlelhhgggnjndaaGreat
open Go.RowKit Go.Shelf
set_option linter.unusedVariables false
set_option linter.unusedSimpArgs false
structure TkGood (a : Int) (U : List Int) (L : List Pw) : Prop where
  p6 : L.length ≤ 6
  n8 : cntT (L.map (·.1)) ≤ 8
  ids : Ids a U
  tup : ∀ x ∈ L, x.1.t.Pairwise (· < ·)
  pup : (idsP L).Pairwise (· < ·)
  used : U = idsF L
  root : L.any (rootB L) = false
theorem tk_good {a : Int} {U : List Int} {L : List Pw} (h : tkE a U L = 0) : TkGood a U L := by
  unfold tkE at h
  split at h
  · rename_i h1
    simp only [Bool.and_eq_true, beq_iff_eq, Bool.not_eq_true'] at h1
    obtain ⟨h2, h3, h4, h5, h6⟩ := h1
    unfold fewB at h2
    simp only [Bool.and_eq_true, decide_eq_true_eq] at h2
    unfold ordB at h4
    simp only [Bool.and_eq_true, List.all_eq_true] at h4
    exact ⟨h2.1, by rw [← thr_cnt 0]; exact h2.2, ids_iff.1 h3, fun x hx => (upB_iff _).1 (h4.1 x hx), (upB_iff _).1 h4.2, h5, h6⟩
  · cases h
theorem take_len {a : Int} {U : List Int} (h : Ids a U) : (takeV a U).2.2.2 = 0 → (takeV a U).2.1.length ≤ 1000000 := by
  intro _
  unfold takeV
  have := h.len
  split
  · split
    · simp only [len_insP]; omega
    · simp
  · simp
abbrev ChgC (ff cf : Nat) (cb : Array Value) (a : Int) (Ua : Option Addr) (um uc : Nat) (A : Option Addr) (m c : Nat) (id : Int) (r : TkA) (W : World) : Prop :=
  Calls Tryz.prog 58 #[tkV a Ua um uc A m c, .func (.func ff) #[] #[], .int .i64 id, .func (.func cf) #[] cb] W fun e w' => ∃ v, e = .returned (.tuple #[v, .int .i64 r.n, .int .i64 r.e]) ∧ TkR w' W.heap.size v r ∧ Below W.heap.size W w'
set_option maxRecDepth 100000 in
set_option maxHeartbeats 8000000 in
theorem fork_via (a : Int) (Ua : Option Addr) (um uc : Nat) (A : Option Addr) (m c : Nat) (id : Int) (r : TkA) (w : World) (hc : ∀ W, Below w.heap.size w W → ChgC 56 59 #[] a Ua um uc A m c id r W) :
    Calls Tryz.prog 26 #[tkV a Ua um uc A m c, .int .i64 id] w fun e w' => ∃ v, e = .returned (.tuple #[v, .int .i64 r.n, .int .i64 r.e]) ∧ TkR w' w.heap.size v r ∧ Below w.heap.size w w' := by
  have k1 := (Blk.new w (tkC a Ua um uc A m c) 27).alloc (.cells #[.int .i64 0, .slice none 0 0, .slice none 0 0] 27)
  have k2 : Blk ((w.alloc (.cells (tkC a Ua um uc A m c) 27)).alloc (.cells #[.int .i64 0, .slice none 0 0, .slice none 0 0] 27)) (w.heap.size + 1) (tkC 0 none 0 0 none 0 0) 27 := Blk.new_ _ _ _ (by simp)
  have B0 := ((Below.refl w.heap.size w).alloc (Nat.le_refl _) (.cells (tkC a Ua um uc A m c) 27)).alloc (by simp) (.cells #[.int .i64 0, .slice none 0 0, .slice none 0 0] 27)
  have HC := Lib.hid (hc _ B0)
  unfold ChgC at HC
  clear hc
  unfold tkV at *
  obtain ⟨ra, rU, rP, rn, re⟩ := r
  simp only at HC ⊢
  go_enter Tryz.func26, Tryz.ntmps26
  go_wp2_with (first
    | (refine wpList_load_row rfl 27 (.tmp 2) rfl w.heap.size rfl 27 (tkC a Ua um uc A m c) (0, 0) _ k1.blk Tryz.underlying27 rfl (tk_inf _ _ _ _ _ _ _) ?_)
    | (refine HC.out.mono ?_
       clear HC
       rintro e w5 ⟨v, rfl, ⟨Ua5, um5, uc5, A5, m5, c5, L5, rfl, tk5, hn5, fr5⟩, bb⟩
       have k25 := k2.below bb k2.lt
       have h25 := k2.lt
       have B5 := B0.trans (bb.mono B0.size)
       clear bb k1 k2 B0
       unfold tkV)
    | (refine wpList_store_blk rfl 27 (.tmp 4) (.tmp 10) rfl (w.heap.size + 1) (tkC 0 none 0 0 none 0 0) (tkC ra Ua5 um5 uc5 A5 m5 c5) 27 rfl rfl k25 rfl (tk_inf _ _ _ _ _ _ _) (tk_one _ _ _ _ _ _ _) ?_
       intro w6 h6 n6))
  refine bodyPost_ret (results_row_t2 rfl _ _ (w.heap.size + 1) 27 (tkC ra Ua5 um5 uc5 A5 m5 c5) _ rfl h6 Tryz.underlying27 rfl (tk_inf _ _ _ _ _ _ _) _ _ rfl rfl) rfl ?_
  exact ⟨_, rfl, ⟨Ua5, um5, uc5, A5, m5, c5, L5, rfl, tk5.off fr5.fr n6 h25, hn5, (fr5.kind n6 k25 (by decide) (by decide)).down (by simp; omega)⟩, B5.trans (n6.below _ (by omega) B5.size)⟩
set_option maxRecDepth 100000 in
set_option maxHeartbeats 8000000 in
theorem clone_via (a : Int) (Ua : Option Addr) (um uc : Nat) (A : Option Addr) (m c : Nat) (id : Int) (r : TkA) (w : World) (hc : ∀ W, Below w.heap.size w W → ChgC 56 63 #[] a Ua um uc A m c id r W) :
    Calls Tryz.prog 27 #[tkV a Ua um uc A m c, .int .i64 id] w fun e w' => ∃ v, e = .returned (.tuple #[v, .int .i64 r.n, .int .i64 r.e]) ∧ TkR w' w.heap.size v r ∧ Below w.heap.size w w' := by
  have k1 := (Blk.new w (tkC a Ua um uc A m c) 27).alloc (.cells #[.int .i64 0, .slice none 0 0, .slice none 0 0] 27)
  have k2 : Blk ((w.alloc (.cells (tkC a Ua um uc A m c) 27)).alloc (.cells #[.int .i64 0, .slice none 0 0, .slice none 0 0] 27)) (w.heap.size + 1) (tkC 0 none 0 0 none 0 0) 27 := Blk.new_ _ _ _ (by simp)
  have B0 := ((Below.refl w.heap.size w).alloc (Nat.le_refl _) (.cells (tkC a Ua um uc A m c) 27)).alloc (by simp) (.cells #[.int .i64 0, .slice none 0 0, .slice none 0 0] 27)
  have HC := Lib.hid (hc _ B0)
  unfold ChgC at HC
  clear hc
  unfold tkV at *
  obtain ⟨ra, rU, rP, rn, re⟩ := r
  simp only at HC ⊢
  go_enter Tryz.func27, Tryz.ntmps27
  go_wp2_with (first
    | (refine wpList_load_row rfl 27 (.tmp 2) rfl w.heap.size rfl 27 (tkC a Ua um uc A m c) (0, 0) _ k1.blk Tryz.underlying27 rfl (tk_inf _ _ _ _ _ _ _) ?_)
    | (refine HC.out.mono ?_
       clear HC
       rintro e w5 ⟨v, rfl, ⟨Ua5, um5, uc5, A5, m5, c5, L5, rfl, tk5, hn5, fr5⟩, bb⟩
       have k25 := k2.below bb k2.lt
       have h25 := k2.lt
       have B5 := B0.trans (bb.mono B0.size)
       clear bb k1 k2 B0
       unfold tkV)
    | (refine wpList_store_blk rfl 27 (.tmp 4) (.tmp 10) rfl (w.heap.size + 1) (tkC 0 none 0 0 none 0 0) (tkC ra Ua5 um5 uc5 A5 m5 c5) 27 rfl rfl k25 rfl (tk_inf _ _ _ _ _ _ _) (tk_one _ _ _ _ _ _ _) ?_
       intro w6 h6 n6))
  refine bodyPost_ret (results_row_t2 rfl _ _ (w.heap.size + 1) 27 (tkC ra Ua5 um5 uc5 A5 m5 c5) _ rfl h6 Tryz.underlying27 rfl (tk_inf _ _ _ _ _ _ _) _ _ rfl rfl) rfl ?_
  exact ⟨_, rfl, ⟨Ua5, um5, uc5, A5, m5, c5, L5, rfl, tk5.off fr5.fr n6 h25, hn5, (fr5.kind n6 k25 (by decide) (by decide)).down (by simp; omega)⟩, B5.trans (n6.below _ (by omega) B5.size)⟩
set_option maxRecDepth 100000 in
set_option maxHeartbeats 8000000 in
theorem reap_via (a : Int) (Ua : Option Addr) (um uc : Nat) (A : Option Addr) (m c : Nat) (id : Int) (r : TkA) (w : World) (hc : ∀ W, Below w.heap.size w W → ChgC 56 71 #[] a Ua um uc A m c id r W) :
    Calls Tryz.prog 29 #[tkV a Ua um uc A m c, .int .i64 id] w fun e w' => ∃ v, e = .returned (.tuple #[v, .int .i64 r.n, .int .i64 r.e]) ∧ TkR w' w.heap.size v r ∧ Below w.heap.size w w' := by
  have k1 := (Blk.new w (tkC a Ua um uc A m c) 27).alloc (.cells #[.int .i64 0, .slice none 0 0, .slice none 0 0] 27)
  have k2 : Blk ((w.alloc (.cells (tkC a Ua um uc A m c) 27)).alloc (.cells #[.int .i64 0, .slice none 0 0, .slice none 0 0] 27)) (w.heap.size + 1) (tkC 0 none 0 0 none 0 0) 27 := Blk.new_ _ _ _ (by simp)
  have B0 := ((Below.refl w.heap.size w).alloc (Nat.le_refl _) (.cells (tkC a Ua um uc A m c) 27)).alloc (by simp) (.cells #[.int .i64 0, .slice none 0 0, .slice none 0 0] 27)
  have HC := Lib.hid (hc _ B0)
  unfold ChgC at HC
  clear hc
  unfold tkV at *
  obtain ⟨ra, rU, rP, rn, re⟩ := r
  simp only at HC ⊢
  go_enter Tryz.func29, Tryz.ntmps29
  go_wp2_with (first
    | (refine wpList_load_row rfl 27 (.tmp 2) rfl w.heap.size rfl 27 (tkC a Ua um uc A m c) (0, 0) _ k1.blk Tryz.underlying27 rfl (tk_inf _ _ _ _ _ _ _) ?_)
    | (refine HC.out.mono ?_
       clear HC
       rintro e w5 ⟨v, rfl, ⟨Ua5, um5, uc5, A5, m5, c5, L5, rfl, tk5, hn5, fr5⟩, bb⟩
       have k25 := k2.below bb k2.lt
       have h25 := k2.lt
       have B5 := B0.trans (bb.mono B0.size)
       clear bb k1 k2 B0
       unfold tkV)
    | (refine wpList_store_blk rfl 27 (.tmp 4) (.tmp 10) rfl (w.heap.size + 1) (tkC 0 none 0 0 none 0 0) (tkC ra Ua5 um5 uc5 A5 m5 c5) 27 rfl rfl k25 rfl (tk_inf _ _ _ _ _ _ _) (tk_one _ _ _ _ _ _ _) ?_
       intro w6 h6 n6))
  refine bodyPost_ret (results_row_t2 rfl _ _ (w.heap.size + 1) 27 (tkC ra Ua5 um5 uc5 A5 m5 c5) _ rfl h6 Tryz.underlying27 rfl (tk_inf _ _ _ _ _ _ _) _ _ rfl rfl) rfl ?_
  exact ⟨_, rfl, ⟨Ua5, um5, uc5, A5, m5, c5, L5, rfl, tk5.off fr5.fr n6 h25, hn5, (fr5.kind n6 k25 (by decide) (by decide)).down (by simp; omega)⟩, B5.trans (n6.below _ (by omega) B5.size)⟩
set_option maxRecDepth 100000 in
theorem fork_tk (a : Int) (Ua : Option Addr) (um uc : Nat) (U : List Int) (A : Option Addr) (m c : Nat) (L : List Pw) (id : Int) (w : World) (h : Tk w w.heap.size Ua um uc U A m c L) :
    Calls Tryz.prog 26 #[tkV a Ua um uc A m c, .int .i64 id] w fun e w' => ∃ v, e = .returned (.tuple #[v, .int .i64 (chgT (tkE a U L) (homeF L id) (forkR a U (L.map (·.1)) (homeF L id).1)).n, .int .i64 (chgT (tkE a U L) (homeF L id) (forkR a U (L.map (·.1)) (homeF L id).1)).e]) ∧ TkR w' w.heap.size v (chgT (tkE a U L) (homeF L id) (forkR a U (L.map (·.1)) (homeF L id).1)) ∧ Below w.heap.size w w' :=
  fork_via a Ua um uc A m c id _ w fun W hW => changed_tk 56 59 #[] (fun _ _ => True) a Ua um uc U A m c L id (homeF L id) _ W (fun _ _ => rfl) (fun _ _ => rfl) (h.on hW)
    (fun _ V t => home_any a Ua um uc A m c L id V t.p t.pl (by have := t.p6; omega)) (fun _ _ _ _ => trivial)
    (fun h0 h1 => by
      have g := tk_good h0
      have hp := homeF_lt h1
      exact fork1_tk a U (L.map (·.1)) _ (by simpa using hp) (by rw [List.map_map]; exact g.pup) g.n8 (by simpa using g.p6) (take_len g.ids)) (fun x hx => (h.p.tr x hx).l)
set_option maxRecDepth 100000 in
theorem clone_tk (a : Int) (Ua : Option Addr) (um uc : Nat) (U : List Int) (A : Option Addr) (m c : Nat) (L : List Pw) (id : Int) (w : World) (h : Tk w w.heap.size Ua um uc U A m c L) :
    Calls Tryz.prog 27 #[tkV a Ua um uc A m c, .int .i64 id] w fun e w' => ∃ v, e = .returned (.tuple #[v, .int .i64 (chgT (tkE a U L) (homeF L id) (cloneR a U (L.map (·.1)) (homeF L id).1)).n, .int .i64 (chgT (tkE a U L) (homeF L id) (cloneR a U (L.map (·.1)) (homeF L id).1)).e]) ∧ TkR w' w.heap.size v (chgT (tkE a U L) (homeF L id) (cloneR a U (L.map (·.1)) (homeF L id).1)) ∧ Below w.heap.size w w' :=
  clone_via a Ua um uc A m c id _ w fun W hW => changed_tk 56 63 #[] (fun _ _ => True) a Ua um uc U A m c L id (homeF L id) _ W (fun _ _ => rfl) (fun _ _ => rfl) (h.on hW)
    (fun _ V t => home_any a Ua um uc A m c L id V t.p t.pl (by have := t.p6; omega)) (fun _ _ _ _ => trivial)
    (fun h0 h1 => by
      have g := tk_good h0
      have hp := homeF_lt h1
      exact clone1_tk a U (L.map (·.1)) _ (by simpa using hp) (by rw [getD_name]; exact g.tup _ (by rw [show L.getD (homeF L id).1 pw0 = L[(homeF L id).1] by simp [List.getD, hp]]; exact List.getElem_mem _)) g.n8 (take_len g.ids)) (fun x hx => (h.p.tr x hx).l)
end Go.Proofs.YtlelhhgggnjndaaGreat
