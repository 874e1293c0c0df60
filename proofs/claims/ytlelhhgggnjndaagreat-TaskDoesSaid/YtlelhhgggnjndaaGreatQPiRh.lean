/-
  The reference: Free, Take.
-/
import Derived.Test.YtlelhhgggnjndaaGreatQTpBa
import Derived.Test.YtlelhhgggnjndaaGreatQTpP
import Derived.Test.YtlelhhgggnjndaaGreatQTpQ
import Derived.Test.YtlelhhgggnjndaaGreatQPiRg
namespace Go.Proofs.YtlelhhgggnjndaaGreat
open Go.RowKit Go.Shelf
set_option linter.unusedVariables false
set_option linter.unusedSimpArgs false
theorem cnt_step (n : Nat) (pid : Int) (k : Nat) (P : List Pn) : cntT (bqStep n pid k P) = cntT P := by
  unfold bqStep
  split
  · by_cases hk : k < P.length
    · have := cnt_set (P := P) (p := k) (x := rePn (P.getD k pn0) (heirF (ofN P) n (P.getD k pn0).i)) hk
      have e : (rePn (P.getD k pn0) (heirF (ofN P) n (P.getD k pn0).i)).t = (P.getD k pn0).t := rfl
      rw [e] at this
      omega
    · rw [List.set_eq_of_length_le (by omega)]
  · rfl
theorem cnt_bqF (n : Nat) (pid : Int) : ∀ (d k : Nat) (P : List Pn), cntT (bqF n pid d k P) = cntT P
  | 0, _, P => rfl
  | d + 1, k, P => by rw [bqF, cnt_bqF n pid d, cnt_step]
theorem cnt_delG (k : Nat) (P : List Pn) : cntT (delL k P) ≤ cntT P := by
  have h1 : cntT P = cntT (P.take k) + cntT (P.drop k) := by
    conv => lhs; rw [← List.take_append_drop k P]
    unfold cntT
    rw [List.map_append, List.sum_append]
  have h2 : cntT (delL k P) = cntT (P.take k) + cntT (P.drop (k + 1)) := by
    unfold delL cntT
    rw [List.map_append, List.sum_append]
  have h3 : cntT (P.drop (k + 1)) ≤ cntT (P.drop k) := by
    by_cases hk : k < P.length
    · rw [List.drop_eq_getElem_cons hk]
      unfold cntT
      rw [List.map_cons, List.sum_cons]
      omega
    · rw [List.drop_of_length_le (by omega), List.drop_of_length_le (by omega)]
      omega
  omega
theorem cnt_bqG : ∀ (k : Nat) (s : Int × List Int × List Pn), cntT (bqG k s).2.2 ≤ cntT s.2.2
  | 0, s => Nat.le_refl _
  | k + 1, s => by
    rw [bqG]
    refine Nat.le_trans (cnt_bqG k _) ?_
    split
    · exact cnt_delG _ _
    · exact Nat.le_refl _
def gone9 (n : Nat) (s : Int × List Int) (P : List Pn) (p : Nat) : TkA :=
  let E := bqG P.length (s.1, s.2, bqF n (P.getD p pn0).i P.length 0 P)
  ⟨E.1, E.2.1, E.2.2, 0, 0⟩
def noThr (P : List Pn) (p : Nat) : List Pn := P.set p ⟨(P.getD p pn0).i, (P.getD p pn0).p, []⟩
def killR (n : Nat) (a : Int) (U : List Int) (P : List Pn) (p : Nat) : TkA := gone9 n (frees (fun _ => true) (P.getD p pn0).i (P.getD p pn0).t (a, U)) (noThr P p) p
theorem ids_noThr {L : List Pw} {p : Nat} {r : Option Addr × Nat} (hp : p < L.length) : idsP (L.set p ((⟨(L.getD p pw0).1.i, (L.getD p pw0).1.p, []⟩ : Pn), r)) = idsP L := by
  unfold idsP
  rw [List.map_set]
  have : (L.getD p pw0).1.i = (L.map (·.1.i))[p]'(by simpa using hp) := by simp [List.getD, hp]
  simp only
  rw [this, List.set_getElem_self]
theorem clm_nm {L M : List Pw} (h1 : idsP L = idsP M) (h2 : ∀ j, (L.getD j pw0).1.p = (M.getD j pw0).1.p) : ∀ (n : Nat) (q : Int), clm L n q = clm M n q
  | 0, q => rfl
  | n + 1, q => by
    unfold clm
    have : parP L q = parP M q := by unfold parP; rw [h1, h2]
    rw [h1, this, clm_nm h1 h2 n]
theorem bqI_of {n m p : Nat} {L : List Pw} {r : Option Addr × Nat} (hm : m = L.length) (hp : p < L.length) (hu : (idsP L).Pairwise (· < ·)) (hc : runB L 1 = true → clm L n 1 = true) (ht : ∀ x ∈ L, x.1.t.length ≤ 1000000) : BqI n m (L.set p ((⟨(L.getD p pw0).1.i, (L.getD p pw0).1.p, []⟩ : Pn), r)) := by
  refine ⟨by rw [List.length_set, hm], by rw [ids_noThr hp]; exact hu, fun hr => ?_, fun x hx => ?_⟩
  · rw [clm_nm (ids_noThr hp) (fun j => by
      rw [getD_setP hp]
      split
      · rename_i e; rw [e]
      · rfl)]
    refine hc ?_
    unfold runB at hr ⊢
    rw [ids_noThr hp, getD_setP hp] at hr
    split at hr
    · simp at hr
    · exact hr
  · rcases List.mem_or_eq_of_mem_set hx with h | rfl
    · exact ht x h
    · simp
theorem any_kill (t : Int) (w : World) : Calls Tryz.prog 77 (#[.int .i64 t] ++ #[]) w fun e w' => e = .returned (.bool true) ∧ Below w.heap.size w w' := by
  show Calls Tryz.prog 77 #[.int .i64 t] w _
  go_enter Tryz.func77, Tryz.ntmps77
  go_wp2_with fail
  go_ret
  exact ⟨rfl, Below.refl _ _⟩
theorem chT_of {B g gP c um' uc' m' n : Nat} {Ua' : Option Addr} {W : World} {V : World} {L' : List Pw} {s : Int × List Int} {P : List Pn} {p : Nat} (J : BqS V B g gP c (gone9 n s P p).a Ua' um' uc' (gone9 n s P p).U m' L' W) (hn : L'.map (·.1) = (gone9 n s P p).P) (hu : um' ≤ 1000000) (hm : m' ≤ 100000) (hc : cntT P ≤ 1000000) : ChT W B g (gone9 n s P p) := by
  have hcn : cntT (L'.map (·.1)) ≤ 1000000 := by
    rw [hn]
    refine Nat.le_trans (cnt_bqG _ _) ?_
    rw [cnt_bqF]
    exact hc
  refine ⟨Ua', um', uc', _, m', c, L', J.k, J.o.tk hu hm (fun y hy => ?_) (by rw [thr_cnt]; exact hcn), hn, J.o⟩
  have := cnt_le (P := L'.map (·.1)) (x := y.1) (List.mem_map.2 ⟨y, hy, rfl⟩)
  omega
theorem cnt_noThr {P : List Pn} {p : Nat} (hp : p < P.length) : cntT (noThr P p) ≤ cntT P := by
  have := cnt_set (P := P) (p := p) (x := ⟨(P.getD p pn0).i, (P.getD p pn0).p, []⟩) hp
  unfold noThr
  simp only [List.length_nil] at this
  omega
set_option maxRecDepth 100000 in
set_option maxHeartbeats 8000000 in
theorem kill1_tk (n : Nat) (a : Int) (U : List Int) (P : List Pn) (p : Nat) (hp : p < P.length) (hc : cntT P ≤ 100000) (hpu : (P.map (·.i)).Pairwise (· < ·)) (hcl : runB (ofN P) 1 = true → clm (ofN P) n 1 = true) : DoT 76 #[] (fun _ _ => True) a U P p (killR n a U P p) := by
  intro V B g Ua um uc A m c L _ hLP own tk kg hBg
  have hpl : p < L.length := by rw [← hLP] at hp; simpa using hp
  have hnm : (P.getD p pn0) = (L.getD p pw0).1 := by rw [← hLP]; exact getD_name p
  obtain ⟨gP, hA, hgP, hgPl⟩ := own.p.at0 (by omega)
  subst hA
  have hml : m = L.length := own.p.len
  have htl : ∀ x ∈ L, x.1.t.length ≤ 1000000 := fun x hx => by have := cnt_le (P := P) (x := x.1) (by rw [← hLP]; exact List.mem_map.2 ⟨x, hx, rfl⟩); omega
  have hxm : L.getD p pw0 ∈ L := by rw [show L.getD p pw0 = L[p] by simp [List.getD, hpl]]; exact List.getElem_mem _
  have hnmO : L.map (·.1) = (ofN P).map (·.1) := by rw [ofN_nm, hLP]
  have hcl' : runB L 1 = true → clm L n 1 = true := by
    rw [run_nm hnmO, clm_nm (ids_nm hnmO) (fun j => by rw [getD_namesP hnmO])]
    exact hcl
  have hup : (idsP L).Pairwise (· < ·) := by rw [idsP_names, hLP]; exact hpu
  have BI := Lib.hid (fun (r : Option Addr × Nat) => bqI_of (r := r) hml hpl hup hcl' htl)
  have LV := Lib.hid (leave_tk 77 #[] (fun _ => true) a V B g Ua um uc U gP m c L p (L.getD p pw0) (fun _ _ => rfl) own kg hBg hpl rfl tk.u6 (htl _ hxm) (fun W hW t => any_kill t W))
  have hst : ((L.getD p pw0).1.t.filter fun t => !true) = [] := by simp
  rw [hst] at LV
  have hul : um = U.length := tk.ul
  have hu6 : um ≤ 1000000 := tk.u6
  have hle := frees_len (fun _ => true) (L.getD p pw0).1.i (L.getD p pw0).1.t (a, U)
  have hcn := cnt_noThr hp
  have HKR := Lib.hid (show killR n a U P p = gone9 n (frees (fun _ => true) (L.getD p pw0).1.i (L.getD p pw0).1.t (a, U)) (noThr P p) p by unfold killR; rw [hnm])
  have HNT := Lib.hid (show ∀ r : Option Addr × Nat, (L.set p ((⟨(L.getD p pw0).1.i, (L.getD p pw0).1.p, []⟩ : Pn), r)).map (·.1) = noThr P p ∧ ((L.set p ((⟨(L.getD p pw0).1.i, (L.getD p pw0).1.p, []⟩ : Pn), r)).getD p pw0).1.i = ((noThr P p).getD p pn0).i from fun r => by
    have e1 : (L.set p ((⟨(L.getD p pw0).1.i, (L.getD p pw0).1.p, []⟩ : Pn), r)).map (·.1) = noThr P p := by unfold noThr; rw [List.map_set, hLP, hnm]
    refine ⟨e1, ?_⟩
    rw [← e1, getD_name])
  have hlen : m = (noThr P p).length := by unfold noThr; rw [List.length_set, ← hLP, List.length_map]; exact hml
  have HLEN := Lib.hid (And.intro hlen (And.intro hpl (And.intro tk.p6 (And.intro hul (And.intro hu6 (And.intro hle (And.intro hc hcn)))))))
  have hBV : B ≤ V.heap.size := Nat.le_trans hBg (Nat.le_of_lt kg.lt)
  rw [HKR.out]
  generalize frees (fun _ => true) (L.getD p pw0).1.i (L.getD p pw0).1.t (a, U) = fs at LV HLEN ⊢
  clear hle hul hu6 own tk hxm hpl hLP hnm hp hc hst hml htl hnmO hcl hcl' hup hpu hcn hlen HKR
  show Calls Tryz.prog 76 #[.pointer (some ⟨g, 0, none⟩), .int .i64 p] V _
  have HR := Lib.hid (show (gone9 n fs (noThr P p) p).n = 0 ∧ (gone9 n fs (noThr P p) p).e = 0 from ⟨rfl, rfl⟩)
  obtain ⟨G, hG⟩ : ∃ G, gone9 n fs (noThr P p) p = G := ⟨_, rfl⟩
  rw [hG] at HR ⊢
  have HG := Lib.hid hG
  clear hG
  go_enter Tryz.func76, Tryz.ntmps76
  go_wp2_with (first
    | (refine LV.out.mono ?_
       clear LV
       rintro e w1 ⟨rfl, Ua1, um1, uc1, S, sc, kg1, own1, bb⟩
       have BQ := Lib.hid (bequeath_tk n fs.1 w1 B g Ua1 um1 uc1 fs.2 gP m c _ p own1 kg1 hBg (by rw [List.length_set]; exact HLEN.out.2.1) (by have h1 := own1.u.len; have h2 := HLEN.out.2.2.2; omega) HLEN.out.2.2.1 (BI.out _) _ rfl)
       have HB1 := Lib.hid bb
       clear kg1 own1 bb)
    | (refine BQ.out.mono ?_
       clear BQ
       rintro e w2 ⟨rfl, HX⟩
       have HX := Lib.hid HX))
  refine bodyPost_ret (results_tmp2 rfl _ _ _) rfl ?_
  obtain ⟨Ua', um', uc', m', L', J, hn, hu, hm⟩ := HX.out
  have h9 := HNT.out (S, sc)
  rw [h9.1, h9.2, HLEN.out.1] at J hn
  refine ⟨?_, HB1.out.trans J.b, fun _ => ?_⟩
  · rw [HR.out.1, HR.out.2]; rfl
  · rw [← HG.out]
    refine chT_of ⟨J.k, J.o, HB1.out.trans J.b⟩ hn hu (by have := HLEN.out.2.2.1; omega) (by have := HLEN.out.2.2.2.2.2.2; omega)
def endG (n : Nat) (a : Int) (U : List Int) (P : List Pn) (p : Nat) (tid : Int) : TkA := gone9 n (frees (fun t => t == tid) (P.getD p pn0).i (P.getD p pn0).t (a, U)) (noThr P p) p
set_option maxRecDepth 100000 in
set_option maxHeartbeats 8000000 in
theorem end2_tk (gt : Nat) (tid : Int) (n : Nat) (a : Int) (U : List Int) (P : List Pn) (p : Nat) (hp : p < P.length) (hc : cntT P ≤ 100000) (hpu : (P.map (·.i)).Pairwise (· < ·)) (hcl : runB (ofN P) 1 = true → clm (ofN P) n 1 = true) (hs : ((P.getD p pn0).t.filter fun t => !(t == tid)) = []) : DoT 66 #[.pointer (some ⟨gt, 0, none⟩)] (SId gt tid) a U P p (endG n a U P p tid) := by
  intro V B g Ua um uc A m c L hS hLP own tk kg hBg
  have hpl : p < L.length := by rw [← hLP] at hp; simpa using hp
  have hnm : (P.getD p pn0) = (L.getD p pw0).1 := by rw [← hLP]; exact getD_name p
  obtain ⟨gP, hA, hgP, hgPl⟩ := own.p.at0 (by omega)
  subst hA
  have hml : m = L.length := own.p.len
  have htl : ∀ x ∈ L, x.1.t.length ≤ 1000000 := fun x hx => by have := cnt_le (P := P) (x := x.1) (by rw [← hLP]; exact List.mem_map.2 ⟨x, hx, rfl⟩); omega
  have hxm : L.getD p pw0 ∈ L := by rw [show L.getD p pw0 = L[p] by simp [List.getD, hpl]]; exact List.getElem_mem _
  have hnmO : L.map (·.1) = (ofN P).map (·.1) := by rw [ofN_nm, hLP]
  have hcl' : runB L 1 = true → clm L n 1 = true := by
    rw [run_nm hnmO, clm_nm (ids_nm hnmO) (fun j => by rw [getD_namesP hnmO])]
    exact hcl
  have hup : (idsP L).Pairwise (· < ·) := by rw [idsP_names, hLP]; exact hpu
  have BI := Lib.hid (fun (r : Option Addr × Nat) => bqI_of (r := r) hml hpl hup hcl' htl)
  have LV := Lib.hid (leave_tk 68 #[.pointer (some ⟨gt, 0, none⟩)] (fun t => t == tid) a V B g Ua um uc U gP m c L p (L.getD p pw0) (fun _ _ => rfl) own kg hBg hpl rfl tk.u6 (htl _ hxm) (fun W hW t => one_tk gt tid t W ((hW.cell (p := ⟨gt, 0, none⟩) hS.2).trans hS.1)))
  have hst : ((L.getD p pw0).1.t.filter fun t => !(t == tid)) = [] := by rw [← hnm]; exact hs
  rw [hst] at LV
  have hul : um = U.length := tk.ul
  have hu6 : um ≤ 1000000 := tk.u6
  have hle := frees_len (fun t => t == tid) (L.getD p pw0).1.i (L.getD p pw0).1.t (a, U)
  have hcn := cnt_noThr hp
  have HKR := Lib.hid (show endG n a U P p tid = gone9 n (frees (fun t => t == tid) (L.getD p pw0).1.i (L.getD p pw0).1.t (a, U)) (noThr P p) p by unfold endG; rw [hnm])
  have HNT := Lib.hid (show ∀ r : Option Addr × Nat, (L.set p ((⟨(L.getD p pw0).1.i, (L.getD p pw0).1.p, []⟩ : Pn), r)).map (·.1) = noThr P p ∧ ((L.set p ((⟨(L.getD p pw0).1.i, (L.getD p pw0).1.p, []⟩ : Pn), r)).getD p pw0).1.i = ((noThr P p).getD p pn0).i from fun r => by
    have e1 : (L.set p ((⟨(L.getD p pw0).1.i, (L.getD p pw0).1.p, []⟩ : Pn), r)).map (·.1) = noThr P p := by unfold noThr; rw [List.map_set, hLP, hnm]
    refine ⟨e1, ?_⟩
    rw [← e1, getD_name])
  have hlen : m = (noThr P p).length := by unfold noThr; rw [List.length_set, ← hLP, List.length_map]; exact hml
  have HLEN := Lib.hid (And.intro hlen (And.intro hpl (And.intro tk.p6 (And.intro hul (And.intro hu6 (And.intro hle (And.intro hc hcn)))))))
  have hBV : B ≤ V.heap.size := Nat.le_trans hBg (Nat.le_of_lt kg.lt)
  rw [HKR.out]
  generalize frees (fun t => t == tid) (L.getD p pw0).1.i (L.getD p pw0).1.t (a, U) = fs at LV HLEN ⊢
  clear hle hul hu6 own tk hxm hpl hLP hnm hp hc hst hml htl hnmO hcl hcl' hup hpu hcn hlen HKR hs hS
  show Calls Tryz.prog 66 #[.pointer (some ⟨g, 0, none⟩), .int .i64 p, .pointer (some ⟨gt, 0, none⟩)] V _
  have HR := Lib.hid (show (gone9 n fs (noThr P p) p).n = 0 ∧ (gone9 n fs (noThr P p) p).e = 0 from ⟨rfl, rfl⟩)
  obtain ⟨G, hG⟩ : ∃ G, gone9 n fs (noThr P p) p = G := ⟨_, rfl⟩
  rw [hG] at HR ⊢
  have HG := Lib.hid hG
  clear hG
  go_enter Tryz.func66, Tryz.ntmps66
  have HPM := Lib.hid HLEN.out.2.1
  have hpm : (p : Int) < (m : Int) := by
    have h1 := HLEN.out.1
    have h2 := (HNT.out (none, 0)).1
    have h3 := congrArg List.length h2
    rw [List.length_map, List.length_set] at h3
    have h4 := HPM.out
    omega
  go_wp2_with (first
    | (refine LV.out.mono ?_
       clear LV
       rintro e w1 ⟨rfl, Ua1, um1, uc1, S, sc, kg1, own1, bb⟩
       obtain ⟨b7, off7, he7, hb7, hc7⟩ := own1.p.rs p (by rw [List.length_set]; exact HPM.out)
       cases he7
       rw [getD_setP HPM.out, if_pos rfl, Nat.zero_add] at hc7
       have q2 : w1.cell? ⟨g, 2, none⟩ = some (.slice (some ⟨gP, 0, none⟩) m c) := kg1.cell 2
       have EN := Lib.hid (fun W => ended_tk ((⟨(L.getD p pw0).1.i, (L.getD p pw0).1.p, []⟩ : Pn), (S, sc)) W)
       have BQ := Lib.hid (fun (W : World) (hW : Below w1.heap.size w1 W) => bequeath_tk n fs.1 W B g Ua1 um1 uc1 fs.2 gP m c _ p (own1.below hW (Nat.le_refl _)) (kg1.below hW kg1.lt) hBg (by rw [List.length_set]; exact HLEN.out.2.1) (by have h1 := own1.u.len; have h2 := HLEN.out.2.2.2; omega) HLEN.out.2.2.1 (BI.out _) _ rfl)
       have HB0 := Lib.hid (And.intro bb (Nat.le_trans hBg (Nat.le_of_lt kg1.lt)))
       unfold prV at EN
       clear kg1 own1 bb hb7)
    | (refine wpListG_load_mid (by rfl) 49 (.tmp 16) rfl gP (p * 3) rfl (prC (((⟨(L.getD p pw0).1.i, (L.getD p pw0).1.p, []⟩ : Pn), (S, sc)) : Pw)).toList _ hc7 Tryz.underlying49 rfl (pr_infL _) ?_)
    | (refine (EN.out _).mono ?_
       clear EN q2 hc7
       rintro e w3 ⟨rfl, b3⟩
       have BQ := Lib.hid (BQ.out _ b3)
       have HB1 := Lib.hid (HB0.out.1.trans (b3.mono HB0.out.2))
       clear b3)
    | (refine BQ.out.mono ?_
       clear BQ
       rintro e w2 ⟨rfl, HX⟩
       have HX := Lib.hid HX))
  refine bodyPost_ret (results_tmp2 rfl _ _ _) rfl ?_
  obtain ⟨Ua', um', uc', m', L', J, hn, hu, hm⟩ := HX.out
  have h9 := HNT.out (S, sc)
  rw [h9.1, h9.2, HLEN.out.1] at J hn
  refine ⟨?_, HB1.out.trans J.b, fun _ => ?_⟩
  · rw [HR.out.1, HR.out.2]; rfl
  · rw [← HG.out]
    refine chT_of ⟨J.k, J.o, HB1.out.trans J.b⟩ hn hu (by have := HLEN.out.2.2.1; omega) (by have := HLEN.out.2.2.2.2.2.2; omega)
end Go.Proofs.YtlelhhgggnjndaaGreat
namespace Go.Proofs.YtlelhhgggnjndaaGreat
open Go.RowKit Go.Shelf
set_option linter.unusedVariables false
set_option linter.unusedSimpArgs false
def rfreeV (a : Int) (l : List Int) (x : Int) : Int × List Int × Int := if l.contains x then (a, l.filter (fun y => y != x), 0) else (0, [], 4)
theorem filter_take {l : List Int} {k : Nat} (f : Int → Bool) (h : k < l.length) : (l.take (k + 1)).filter f = if f (l.getD k 0) then (l.take k).filter f ++ [l.getD k 0] else (l.take k).filter f := by
  have e : l.getD k 0 = l[k] := by simp [List.getD, h]
  rw [List.take_succ_eq_append_getElem h, List.filter_append, e]
  by_cases hf : f l[k] = true
  · rw [if_pos hf, List.filter_cons_of_pos hf]; rfl
  · rw [if_neg hf, List.filter_cons_of_neg hf]; simp
set_option maxRecDepth 100000 in
set_option maxHeartbeats 8000000 in
theorem rfree_pid (a : Int) (A : Option Addr) (m c : Nat) (l : List Int) (x : Int) (w : World) (hA : Ri7 w w.heap.size A l) (hm : m = l.length) (h6 : m ≤ 100000) :
    Calls Tryz.prog 105 #[pdV a A m c, .int .i64 x] w fun e w' => ∃ A' m' c' a' l' er, e = .returned (.tuple #[pdV a' A' m' c', .int .i64 er]) ∧ Zo w' w.heap.size A' m' c' l' ∧ rfreeV a l x = (a', l', er) ∧ Below w.heap.size w w' := by
  have k1 := (Blk.new w (pdC a A m c) 24).alloc (.cells (pdC 0 none 0 0) 24)
  have k2 := Blk.new_ (w.alloc (.cells (pdC a A m c) 24)) (pdC 0 none 0 0) 24 (n := w.heap.size + 1) (by simp)
  have B0 := ((Below.refl w.heap.size w).alloc (Nat.le_refl _) (.cells (pdC a A m c) 24)).alloc (by simp) (.cells (pdC 0 none 0 0) 24)
  have CK := rhas_pid a A m c l x _ ((hA.below B0 (Nat.le_refl _)).more B0.size) hm (by omega)
  obtain ⟨ct, hct⟩ : ∃ ct, l.contains x = ct := ⟨_, rfl⟩
  rw [hct] at CK
  have HM := Lib.hid hm
  have HC := Lib.hid hct
  clear hm hct
  unfold pdV at CK ⊢
  go_enter Tryz.func105, Tryz.ntmps105
  go_wp2_with (refine wpList_load_row rfl 24 (.tmp 2) rfl w.heap.size rfl 24 (pdC a A m c) (0, 0) _ k1.blk Tryz.underlying24 rfl (pd_inf a A m c) ?_)
  refine CK.mono ?_
  rintro e w1 ⟨rfl, bb⟩
  have k11 := k1.below bb k1.lt
  have k21 := k2.below bb k2.lt
  have b1 := B0.trans (bb.mono B0.size)
  clear CK k1 k2 B0 bb
  cases ct
  · go_wp2_with (refine wpList_store_blk rfl 24 (.tmp 4) (.tmp 13) rfl (w.heap.size + 1) (pdC 0 none 0 0) (pdC 0 none 0 0) 24 rfl rfl k21 rfl (pd_inf _ _ _ _) (pd_one _ _ _ _) ?_; intro w5 h5 n5)
    refine bodyPost_ret (results_row_tmp rfl _ _ (w.heap.size + 1) 24 (pdC 0 none 0 0) (0, 0) _ rfl h5.blk Tryz.underlying24 rfl (pd_inf _ _ _ _) _ rfl) rfl ?_
    refine ⟨none, 0, 0, 0, [], 4, rfl, zo_nil _ _, ?_, b1.trans (n5.below _ (by omega) b1.size)⟩
    unfold rfreeV
    rw [HC.out]; rfl
  · have q0 : w1.cell? ⟨w.heap.size, 0, none⟩ = some (.int .i64 a) := k11.cell 0
    go_wp2_with (first
      | (refine wpList_store_blk rfl 24 (.tmp 6) (.tmp 16) rfl w1.heap.size (pdC 0 none 0 0) (pdC a none 0 0) 24 rfl rfl (Blk.new _ _ _) rfl (pd_inf _ _ _ _) (pd_one _ _ _ _) ?_
         intro w2 k32 n2
         have bb : Below w1.heap.size w1 w2 := new_blk n2
         have k12 := k11.below bb k11.lt
         have k22 := k21.below bb k21.lt
         have b2 := b1.trans (bb.mono b1.size)
         have hs0 : w.heap.size + 1 < w1.heap.size := k21.lt
         have q1 : w2.cell? ⟨w.heap.size, 1, none⟩ = some (.slice A m c) := k12.cell 1
         clear n2))
    have HS := Lib.hid (show w1.heap.size < w2.heap.size from k32.lt)
    have HS0 := Lib.hid hs0
    clear hs0 bb k11 k21 b1 q0
    go_loopw [20] (fun i wr' => ∃ (k : Nat) (wr : World) (A5 : Option Addr) (m5 c5 : Nat), wr = wr' ∧ k ≤ m ∧ i = .int .i64 k ∧ Blk wr w1.heap.size (pdC a A5 m5 c5) 24 ∧ Blk wr (w.heap.size + 1) (pdC 0 none 0 0) 24 ∧ Hid (Zo wr w2.heap.size A5 m5 c5 ((l.take k).filter (fun y => y != x))) ∧ Below w.heap.size w wr ∧ w2.heap.size ≤ wr.heap.size) (fun i _ => m - (intOf i).toNat)
    case atStart => exact ⟨0, _, none, 0, 0, rfl, Nat.zero_le _, rfl, k32, k22, Lib.hid (by simpa using zo_nil _ _), b2, Nat.le_refl _⟩
    case round =>
      clear k32 k22 b2 k12 q1
      obtain ⟨k, wr, A5, m5, c5, hwr, hk, rfl, k3, k2, HZ, hB, hsr⟩ := hrel
      subst hwr
      by_cases hlt : k < m
      · have hlt' : (k : Int) < (m : Int) := by omega
        have hkl : k < l.length := by have := HM.out; omega
        obtain ⟨b, off, rfl, hb, hc⟩ := hA.below hB (Nat.le_refl _) k hkl
        have hft := filter_take (fun y => y != x) hkl
        generalize l.getD k 0 = y at hc hft
        have hle : ((l.take k).filter (fun y => y != x)).length ≤ k := Nat.le_trans (List.length_filter_le _ _) (by rw [List.length_take]; omega)
        cases hyx : (y != x)
        · rw [if_neg (by rw [hyx]; decide)] at hft
          have HF := Lib.hid hft
          clear hft hle hkl
          go_wp2_with fail
          go_roundw
          case rel => exact ⟨k + 1, _, A5, m5, c5, rfl, by omega, by go_num, k3, k2, Lib.hid (by rw [HF.out]; exact HZ.out), hB, hsr⟩
          case measure => simp [intOf]; omega
        · rw [if_pos (by rw [hyx])] at hft
          have HF := Lib.hid hft
          have hm5 := HZ.out.len
          have HM5 := Lib.hid (show m5 + 1 ≤ 1000000 by omega)
          have q1 : wr.cell? ⟨w1.heap.size, 1, none⟩ = some (.slice A5 m5 c5) := k3.cell 1
          have ba : Below wr.heap.size wr (wr.alloc (.cells #[.int .i64 y] 3)) := (Below.refl _ _).alloc (Nat.le_refl _) _
          have hnb : (wr.alloc (.cells #[.int .i64 y] 3)).cell? ⟨wr.heap.size, 0, none⟩ = some (.int .i64 y) := (Blk.new wr #[.int .i64 y] 3).cell 0
          have z1 := HZ.out.below ba (Nat.le_refl _)
          have k31 := k3.below ba k3.lt
          have k21 := k2.below ba k2.lt
          have hB1 := hB.trans (ba.mono hB.size)
          have hs1 : w2.heap.size ≤ (wr.alloc (.cells #[.int .i64 y] 3)).heap.size := Nat.le_trans hsr ba.size
          clear hft hle hkl hm5 ba
          go_wp2_with (first
            | (refine wpList_app1Z rfl (.tmp 28) (.tmp 30) rfl w2.heap.size A5 m5 c5 _ rfl z1 wr.heap.size y rfl hnb HM5.out hs1 ?_
               intro A6 c6 V2 z2 bb
               have k32 := k31.below bb HS.out
               have k22 := k21.below bb (by have := HS.out; have := HS0.out; omega)
               have hB2 := hB1.trans (bb.mono (by have := HS.out; have := HS0.out; omega))
               have hs2 := Nat.le_trans hs1 bb.size
               have q2 : V2.cell? ⟨w1.heap.size, 1, none⟩ = some (.slice A5 m5 c5) := k32.cell 1
               have f2 := k32.frozen 1
               clear bb))
          have k33 : Blk (V2.setCell ⟨w1.heap.size, 1, none⟩ (.slice A6 (m5 + 1) c6)) w1.heap.size (pdC a A6 (m5 + 1) c6) 24 := k32.set_ 1 (.slice A6 (m5 + 1) c6)
          have k23 := k22.far (p := ⟨w1.heap.size, 1, none⟩) (by have := HS0.out; simp; omega) (.slice A6 (m5 + 1) c6)
          have z3 := zo_far z2 (p := ⟨w1.heap.size, 1, none⟩) HS.out (.slice A6 (m5 + 1) c6)
          have hB3 := hB2.setCell (p := ⟨w1.heap.size, 1, none⟩) (by have := HS0.out; simp; omega) (.slice A6 (m5 + 1) c6)
          go_roundw
          case rel => exact ⟨k + 1, _, A6, m5 + 1, c6, rfl, by omega, by go_num, k33, k23, Lib.hid (by rw [HF.out]; exact z3), hB3, by simpa [World.setCell] using hs2⟩
          case measure => simp [intOf]; omega
      · obtain rfl : k = m := by omega
        have hz := HZ.out
        rw [HM.out, List.take_length] at hz
        have HZ2 := Lib.hid hz
        clear hz HZ
        go_wp2_with (first
          | (refine wpList_load_row rfl 24 (.tmp 6) rfl w1.heap.size rfl 24 (pdC a A5 m5 c5) (0, 0) _ k3.blk Tryz.underlying24 rfl (pd_inf _ _ _ _) ?_)
          | (refine wpList_store_blk rfl 24 (.tmp 4) (.tmp 34) rfl (w.heap.size + 1) (pdC 0 none 0 0) (pdC a A5 m5 c5) 24 rfl rfl k2 rfl (pd_inf _ _ _ _) (pd_one _ _ _ _) ?_; intro w5 h5 n5))
        refine bodyPost_ret (results_row_tmp rfl _ _ (w.heap.size + 1) 24 (pdC a A5 m5 c5) (0, 0) _ rfl h5.blk Tryz.underlying24 rfl (pd_inf _ _ _ _) _ rfl) rfl ?_
        have z5 := own_but HZ2.out n5 (zo_apart HZ2.out (by have := HS.out; have := HS0.out; omega))
        refine ⟨A5, m5, c5, a, _, 0, rfl, z5.down (by have := HS.out; have := HS0.out; omega), ?_, hB.trans (n5.below _ (by omega) hB.size)⟩
        unfold rfreeV
        rw [HC.out]; rfl
end Go.Proofs.YtlelhhgggnjndaaGreat
