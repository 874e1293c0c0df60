/-
  pids.candidates, its iterator.
-/
import Derived.Test.YtlelhhgggnjndaaGreatQTkB
import Derived.Test.YtlelhhgggnjndaaGreatQPiSh
import Derived.Shelf.Sort.Plain
import Derived.Shelf.Slices.In.SortNone
import Derived.Shelf.Slices.CompactI
import Derived.RangeFuncWrites
namespace Go.Proofs.YtlelhhgggnjndaaGreat
open Go.RowKit Go.Shelf
set_option linter.unusedVariables false
set_option linter.unusedSimpArgs false
theorem less_get {l : List Int} {x : Int} (hu : l.Pairwise (· < ·)) (hx : x ∈ l) : lessP l x < l.length ∧ l.getD (lessP l x) 0 = x := by
  obtain ⟨k, hk, rfl⟩ := List.getElem_of_mem hx
  have e : l.getD k 0 = l[k] := by simp [List.getD, hk]
  have h : lessP l l[k] = k := less_at (Nat.le_of_lt hk) (fun j hj => by rw [← e]; exact up_getD hu hj hk) (fun j h1 h2 => by
    rcases Nat.lt_or_ge k j with h3 | h3
    · rw [← e]; exact Int.le_of_lt (up_getD hu h3 h2)
    · obtain rfl : k = j := by omega
      rw [e]; exact Int.le_refl _)
  rw [h]
  exact ⟨hk, e⟩
def runB (L : List Pw) (pid : Int) : Bool := (idsP L).contains pid && !((L.getD (lessP (idsP L) pid) pw0).1.t.length == 0)
theorem runB_lt {L : List Pw} {pid : Int} (hu : (idsP L).Pairwise (· < ·)) (h : (idsP L).contains pid = true) : lessP (idsP L) pid < L.length := by
  have := (less_get hu (by simpa using h)).1
  simpa [idsP] using this
set_option maxRecDepth 100000 in
set_option maxHeartbeats 4000000 in
theorem running_tk (a : Int) (Ua : Option Addr) (um uc : Nat) (A : Option Addr) (m c : Nat) (L : List Pw) (pid : Int) (w : World) (hP : Ps w w.heap.size A L) (hm : m = L.length) (h6 : m ≤ 1000000) (hu : (idsP L).Pairwise (· < ·)) :
    Calls Tryz.prog 75 #[tkV a Ua um uc A m c, .int .i64 pid] w fun e w' => e = .returned (.tuple #[.int .i64 (lessP (idsP L) pid), .bool (runB L pid)]) ∧ Below w.heap.size w w' := by
  have k1 := Blk.new w (tkC a Ua um uc A m c) 27
  have B0 := (Below.refl w.heap.size w).alloc (Nat.le_refl _) (.cells (tkC a Ua um uc A m c) 27)
  have PL := Lib.hid (place_tk a Ua um uc A m c L pid _ ((hP.below B0 (Nat.le_refl _)).more B0.size) hm h6 hu)
  have hlt := runB_lt (pid := pid) hu
  have HM := Lib.hid hm
  clear hm
  have hrb : runB L pid = ((idsP L).contains pid && !((L.getD (lessP (idsP L) pid) pw0).1.t.length == 0)) := rfl
  rw [hrb]
  clear hrb hu
  generalize (idsP L).contains pid = ct at *
  generalize lessP (idsP L) pid = k at *
  unfold tkV at PL ⊢
  cases ct
  · clear hlt
    go_enter Tryz.func75, Tryz.ntmps75
    go_wp2_with (first
      | (refine wpListG_load (by rfl) 27 (.tmp 2) rfl w.heap.size rfl 27 (tkC a Ua um uc A m c) _ k1 Tryz.underlying27 rfl (tk_inf a Ua um uc A m c) ?_)
      | (refine PL.out.mono ?_
         clear PL
         rintro e w1 ⟨rfl, bb⟩
         go_wp2_with fail))
    refine bodyPost_ret (results_tmp2 rfl _ _ _) rfl ?_
    exact ⟨rfl, B0.trans (bb.mono B0.size)⟩
  · have hkl := hlt rfl
    clear hlt
    obtain ⟨b2, off, rfl, hb2, hc⟩ := hP.at_ k hkl
    have hkm : (k : Int) < (m : Int) := by have := HM.out; omega
    generalize L.getD k pw0 = x at hc ⊢
    have HE := Lib.hid (fun V => ended_tk x V)
    unfold prV at HE
    generalize (x.1.t.length == 0) = eb at HE ⊢
    go_enter Tryz.func75, Tryz.ntmps75
    go_wp2_with (first
      | (refine wpListG_load (by rfl) 27 (.tmp 2) rfl w.heap.size rfl 27 (tkC a Ua um uc (some ⟨b2, off, none⟩) m c) _ k1 Tryz.underlying27 rfl (tk_inf a Ua um uc _ m c) ?_)
      | (refine PL.out.mono ?_
         clear PL
         rintro e w1 ⟨rfl, bb⟩
         have B1 := B0.trans (bb.mono B0.size)
         have q2 : w1.cell? ⟨w.heap.size, 2, none⟩ = some (.slice (some ⟨b2, off, none⟩) m c) := (k1.below bb k1.lt).cell 2
         have hc1 := range_belowT hc B1 hb2
         go_wp2_with (first
           | (refine wpListG_load_mid (by rfl) 49 (.tmp 20) rfl b2 (off + k * 3) rfl (prC x).toList _ hc1 Tryz.underlying49 rfl (pr_infL x) ?_)
           | (refine (HE.out _).mono ?_
              clear HE
              rintro e w2 ⟨rfl, b2'⟩
              go_wp2_with fail))))
    refine bodyPost_ret (results_tmp2 rfl _ _ _) rfl ?_
    exact ⟨by cases eb <;> rfl, B1.trans (b2'.mono B1.size)⟩
def cmF (L : List Pw) : Nat → Int → Bool
  | 0, _ => false
  | n + 1, q => if q = 0 then true else if runB L q = true then cmF L n (L.getD (lessP (idsP L) q) pw0).1.p else false
set_option maxRecDepth 100000 in
set_option maxHeartbeats 4000000 in
theorem comes_tk (a : Int) (Ua : Option Addr) (um uc : Nat) (A : Option Addr) (m c : Nat) (L : List Pw) (x : Pw) (w : World) (hP : Ps w w.heap.size A L) (hm : m = L.length) (h6 : m ≤ 1000000) (hu : (idsP L).Pairwise (· < ·)) :
    Calls Tryz.prog 85 #[tkV a Ua um uc A m c, prV x] w fun e w' => e = .returned (.bool (cmF L m x.1.p)) ∧ Below w.heap.size w w' := by
  have k2 := (Blk.new w (tkC a Ua um uc A m c) 27).alloc (.cells (prC x) 49)
  have k3 := Blk.new_ (w.alloc (.cells (tkC a Ua um uc A m c) 27)) (prC x) 49 (n := w.heap.size + 1) (by simp)
  have B0 := ((Below.refl w.heap.size w).alloc (Nat.le_refl _) (.cells (tkC a Ua um uc A m c) 27)).alloc (by simp) (.cells (prC x) 49)
  have RU := Lib.hid (fun (V : World) (hV : Below w.heap.size w V) q => running_tk a Ua um uc A m c L q V ((hP.below hV (Nat.le_refl _)).more hV.size) hm h6 hu)
  have HLT := Lib.hid (fun q (h : runB L q = true) => runB_lt hu (Bool.and_eq_true_iff.1 h).1)
  have q2 : ((w.alloc (.cells (tkC a Ua um uc A m c) 27)).alloc (.cells (prC x) 49)).cell? ⟨w.heap.size, 2, none⟩ = some (.slice A m c) := k2.cell 2
  have HM := Lib.hid hm
  clear hm hu
  obtain ⟨R, hR⟩ : ∃ R, cmF L m x.1.p = R := ⟨_, rfl⟩
  rw [hR]
  unfold tkV at RU ⊢
  unfold prV
  go_enter Tryz.func85, Tryz.ntmps85
  go_wp2_with fail
  clear q2
  have HR := Lib.hid hR
  clear hR
  go_loopw [10] (fun i wr' => ∃ (k : Nat) (wr : World) (y : Pw), wr = wr' ∧ k ≤ m ∧ i = .int .i64 k ∧ Blk wr w.heap.size (tkC a Ua um uc A m c) 27 ∧ Blk wr (w.heap.size + 1) (prC y) 49 ∧ Hid (cmF L (m - k) y.1.p = R) ∧ Below w.heap.size w wr) (fun i _ => m - (intOf i).toNat)
  case atStart => exact ⟨0, _, x, rfl, Nat.zero_le _, rfl, k2, k3, HR, B0⟩
  case round =>
    clear B0 k2 k3
    obtain ⟨k, wr, y, hwr, hk, rfl, k2, k3, HY, hB⟩ := hrel
    subst hwr
    by_cases hlt : k < m
    · have hlt' : (k : Int) < (m : Int) := by omega
      have q1 : wr.cell? ⟨w.heap.size + 1, 1, none⟩ = some (.int .i64 y.1.p) := k3.cell 1
      have hmk : m - k = (m - (k + 1)) + 1 := by omega
      have hyy := HY.out
      rw [hmk] at hyy
      unfold cmF at hyy
      clear hmk HY
      by_cases h0 : y.1.p = 0
      · rw [if_pos h0] at hyy
        have HYY := Lib.hid hyy
        have e0 : (y.1.p == 0) = true := by simpa using h0
        clear hyy h0
        go_wp2_with fail
        go_ret
        exact ⟨by rw [← HYY.out]; rfl, hB⟩
      · rw [if_neg h0] at hyy
        have e0 : (y.1.p == 0) = false := by simpa using h0
        have RQ := Lib.hid (RU.out wr hB y.1.p)
        have hl2 := HLT.out y.1.p
        clear h0
        generalize y.1.p = q at *
        generalize runB L q = rb at *
        generalize lessP (idsP L) q = at_ at *
        cases rb
        · have HYY := Lib.hid hyy
          clear hyy hl2
          go_wp2_with (first
            | (refine wpListG_load (by rfl) 27 (.tmp 2) rfl w.heap.size rfl 27 (tkC a Ua um uc A m c) _ k2 Tryz.underlying27 rfl (tk_inf a Ua um uc A m c) ?_)
            | (refine RQ.out.mono ?_
               clear RQ
               rintro e w1 ⟨rfl, bb⟩
               go_wp2_with fail))
          go_ret
          exact ⟨by rw [← HYY.out]; rfl, hB.trans (bb.mono hB.size)⟩
        · have hal := hl2 rfl
          clear hl2
          rw [if_pos rfl] at hyy
          obtain ⟨b2, off, rfl, hb2, hc⟩ := (hP.below hB (Nat.le_refl _)).at_ at_ hal
          have ham : (at_ : Int) < (m : Int) := by have := HM.out; omega
          generalize L.getD at_ pw0 = z at hc hyy
          have HYY := Lib.hid hyy
          clear hyy
          go_wp2_with (first
            | (refine wpListG_load (by rfl) 27 (.tmp 2) rfl w.heap.size rfl 27 (tkC a Ua um uc (some ⟨b2, off, none⟩) m c) _ k2 Tryz.underlying27 rfl (tk_inf a Ua um uc _ m c) ?_)
            | (refine RQ.out.mono ?_
               clear RQ
               rintro e w1 ⟨rfl, bb⟩
               have B1 := hB.trans (bb.mono hB.size)
               have k21 := k2.below bb k2.lt
               have k31 := k3.below bb k3.lt
               have q2 : w1.cell? ⟨w.heap.size, 2, none⟩ = some (.slice (some ⟨b2, off, none⟩) m c) := k21.cell 2
               have hc1 := range_belowT hc (bb.mono (Nat.le_refl _)) (Nat.lt_of_lt_of_le hb2 hB.size)
               go_wp2_with (first
                 | (refine wpList_load_mid rfl 49 (.tmp 27) rfl b2 (off + at_ * 3) rfl (prC z).toList _ hc1 Tryz.underlying49 rfl (pr_infL z) ?_)
                 | (refine wpList_store_blk rfl 49 (.tmp 3) (.tmp 28) rfl (w.heap.size + 1) (prC y) (prC z) 49 rfl rfl k31 rfl (pr_inf z) (pr_one z) ?_
                    intro W3 k33 n3
                    have k23 := n3.blk7 k21 (by omega)
                    have B3 := B1.trans (n3.below _ (by omega) B1.size)
                    clear n3
                    go_wp2_with fail))))
          go_roundw
          case rel => exact ⟨k + 1, _, z, rfl, by omega, by go_num, k23, k33, HYY, B3⟩
          case measure => simp [intOf]; omega
    · obtain rfl : k = m := by omega
      go_wp2_with fail
      go_ret
      refine ⟨?_, hB⟩
      have := HY.out
      rw [Nat.sub_self] at this
      rw [← this]
      rfl
def rootB (L : List Pw) (x : Pw) : Bool := (x.1.t.length == 0 && x.1.p == 0) || !cmF L L.length x.1.p
set_option maxRecDepth 100000 in
set_option maxHeartbeats 4000000 in
theorem rooted_tk (a : Int) (Ua : Option Addr) (um uc : Nat) (A : Option Addr) (m c : Nat) (L : List Pw) (w : World) (hP : Ps w w.heap.size A L) (hm : m = L.length) (h6 : m ≤ 1000000) (hu : (idsP L).Pairwise (· < ·)) :
    Calls Tryz.prog 44 #[tkV a Ua um uc A m c] w fun e w' => e = .returned (.bool (!(L.any (rootB L)))) ∧ Below w.heap.size w w' := by
  have k1 := Blk.new w (tkC a Ua um uc A m c) 27
  have B0 := (Below.refl w.heap.size w).alloc (Nat.le_refl _) (.cells (tkC a Ua um uc A m c) 27)
  have q2 : (w.alloc (.cells (tkC a Ua um uc A m c) 27)).cell? ⟨w.heap.size, 2, none⟩ = some (.slice A m c) := k1.cell 2
  have CM := Lib.hid (fun (V : World) (hV : Below w.heap.size w V) x => comes_tk a Ua um uc A m c L x V ((hP.below hV (Nat.le_refl _)).more hV.size) hm h6 hu)
  have HM := Lib.hid hm
  clear hm hu
  obtain ⟨R, hR⟩ : ∃ R, L.any (rootB L) = R := ⟨_, rfl⟩
  rw [hR]
  have HR := Lib.hid hR
  clear hR
  unfold tkV at CM ⊢
  go_enter Tryz.func44, Tryz.ntmps44
  go_wp2_with fail
  clear q2
  go_loopw [8] (fun i wr' => ∃ (k : Nat) (wr : World), wr = wr' ∧ k ≤ m ∧ i = .int .i64 k ∧ Blk wr w.heap.size (tkC a Ua um uc A m c) 27 ∧ Hid (∀ j, j < k → rootB L (L.getD j pw0) = false) ∧ Below w.heap.size w wr) (fun i _ => m - (intOf i).toNat)
  case atStart => exact ⟨0, _, rfl, Nat.zero_le _, rfl, k1, Lib.hid (fun j hj => absurd hj (Nat.not_lt_zero j)), B0⟩
  case round =>
    clear B0 k1
    obtain ⟨k, wr, hwr, hk, rfl, k1, hall, hB⟩ := hrel
    subst hwr
    by_cases hlt : k < m
    · have hlt' : (k : Int) < (m : Int) := by omega
      have hkl : k < L.length := by have := HM.out; omega
      obtain ⟨b, off, rfl, hb, hc⟩ := (hP.below hB (Nat.le_refl _)).at_ k hkl
      have hmem : L.getD k pw0 ∈ L := by rw [show L.getD k pw0 = L[k] by simp [List.getD, hkl]]; exact List.getElem_mem hkl
      have HMEM := Lib.hid hmem
      clear hmem hkl
      generalize hxe : L.getD k pw0 = x at hc HMEM
      have HX := Lib.hid hxe
      clear hxe
      have hs3 : (prC x).size = 3 := pr_size x
      have HE := Lib.hid (fun V => ended_tk x V)
      have HCX := Lib.hid (fun V hV => CM.out V hV x)
      have hrb : rootB L x = ((x.1.t.length == 0 && x.1.p == 0) || !cmF L m x.1.p) := by rw [HM.out]; rfl
      unfold prV at HE HCX
      generalize (x.1.t.length == 0) = eb at HE hrb
      generalize cmF L m x.1.p = cb at HCX hrb
      obtain ⟨pp, hpp⟩ : ∃ pp, x.1.p = pp := ⟨_, rfl⟩
      rw [hpp] at hrb
      have hpz : ∃ pz, (pp == 0) = pz := ⟨_, rfl⟩
      obtain ⟨pz, hpz⟩ := hpz
      rw [hpz] at hrb
      have HPP := Lib.hid hpp
      clear hpp
      have HRB := Lib.hid hrb
      clear hrb
      cases eb <;> cases pz <;> cases cb
      all_goals
        go_wp2_with (first
          | (refine wpList_load_mid rfl 49 (.tmp 10) rfl b (off + k * 3) rfl (prC x).toList _ hc Tryz.underlying49 rfl (pr_infL x) ?_)
          | (refine wpList_store_blk rfl 49 (.tmp 4) (.tmp 11) rfl wr.heap.size (prC pw0) (prC x) 49 rfl rfl (Blk.new _ _ _) rfl (pr_inf x) (pr_one x) ?_
             intro W1 k4 n4
             have bb : Below wr.heap.size wr W1 := ((Below.refl _ wr).alloc (Nat.le_refl _) _).trans (n4.below _ (Nat.le_refl _) (by simp))
             have k11 := k1.below bb k1.lt
             have B1 := hB.trans (bb.mono hB.size)
             clear n4 bb
             go_wp2_with (first
               | (refine wpListG_load (by rfl) 49 (.tmp 4) rfl wr.heap.size rfl 49 (prC x) _ k4 Tryz.underlying49 rfl (pr_inf x) ?_)
               | (refine (HE.out _).mono ?_
                  clear HE
                  rintro e w2 ⟨rfl, b2⟩
                  have k42 := k4.below b2 k4.lt
                  have k12 := k11.below b2 k11.lt
                  have B2 := B1.trans (b2.mono B1.size)
                  have q1 : w2.cell? ⟨wr.heap.size, 1, none⟩ = some (.int .i64 pp) := by rw [← HPP.out]; exact k42.cell 1
                  go_wp2_with (first
                    | (refine wpListG_load (by rfl) 27 (.tmp 1) rfl w.heap.size rfl 27 (tkC a Ua um uc (some ⟨b, off, none⟩) m c) _ k12 Tryz.underlying27 rfl (tk_inf a Ua um uc _ m c) ?_)
                    | (refine wpListG_load (by rfl) 49 (.tmp 4) rfl wr.heap.size rfl 49 (prC x) _ k42 Tryz.underlying49 rfl (pr_inf x) ?_)
                    | (refine (HCX.out _ B2).mono ?_
                       clear HCX
                       rintro e w3 ⟨rfl, b3⟩
                       have k13 := k12.below b3 k12.lt
                       have B3 := B2.trans (b3.mono B2.size)
                       go_wp2_with fail))))))
      all_goals
        first
          | (go_roundw
             case rel =>
               refine ⟨k + 1, _, rfl, by omega, by go_num, k13, Lib.hid (fun j hj => ?_), B3⟩
               rcases Nat.lt_succ_iff_lt_or_eq.1 hj with h | rfl
               · exact hall.out j h
               · rw [HX.out, HRB.out]; rfl
             case measure => simp [intOf]; omega)
          | (have hany : L.any (rootB L) = true := List.any_eq_true.2 ⟨_, HMEM.out, by rw [HRB.out]; rfl⟩
             have hrt : R = true := HR.out.symm.trans hany
             go_ret
             rw [hrt]
             first
               | exact ⟨rfl, B3⟩
               | exact ⟨rfl, B2⟩)
    · obtain rfl : k = m := by omega
      go_wp2_with fail
      go_ret
      refine ⟨?_, hB⟩
      have hany : L.any (rootB L) = false := List.any_eq_false.2 fun x hx => by
        obtain ⟨j, hj, rfl⟩ := List.getElem_of_mem hx
        have := hall.out j (by have := HM.out; omega)
        rw [show L.getD j pw0 = L[j] by simp [List.getD, hj]] at this
        rw [this]
        decide
      have hrt : R = false := HR.out.symm.trans hany
      rw [hrt]
      rfl
end Go.Proofs.YtlelhhgggnjndaaGreat
namespace Go.Proofs.YtlelhhgggnjndaaGreat
open Go.Shelf Go.RowKit
def Tryz.lays_189_ren : Go.Shelf.Ren := ⟨fun | 125 => 88 | 128 => 115 | 129 => 116 | 189 => 54 | 215 => 120 | 216 => 96 | 257 => 87 | 294 => 107 | 295 => 108 | 296 => 109 | 297 => 110 | 298 => 111 | 299 => 112 | 300 => 113 | 301 => 114 | 328 => 125 | 329 => 126 | 330 => 127 | 331 => 128 | 332 => 129 | 343 => 134 | n => n, fun | 0 => 0 | 3 => 3 | 4 => 4 | 5 => 5 | 9 => 9 | 28 => 22 | 46 => 55 | 51 => 112 | 53 => 114 | 131 => 45 | 182 => 105 | 183 => 106 | 218 => 120 | 222 => 124 | 228 => 128 | 229 => 129 | n => n, fun | n => n⟩
theorem Tryz.lays_189 : Go.Proofs.Lays.n189 Tryz.prog Tryz.lays_189_ren := {
  mixed := by kernel_rfl
  f125 := Tryz.func88.trans (congrArg some (by kernel_rfl))
  f128 := Tryz.func115.trans (congrArg some (by kernel_rfl))
  f129 := Tryz.func116.trans (congrArg some (by kernel_rfl))
  f189 := Tryz.func54.trans (congrArg some (by kernel_rfl))
  f215 := Tryz.func120.trans (congrArg some (by kernel_rfl))
  f216 := Tryz.func96.trans (congrArg some (by kernel_rfl))
  f257 := Tryz.func87.trans (congrArg some (by kernel_rfl))
  f294 := Tryz.func107.trans (congrArg some (by kernel_rfl))
  f295 := Tryz.func108.trans (congrArg some (by kernel_rfl))
  f296 := Tryz.func109.trans (congrArg some (by kernel_rfl))
  f297 := Tryz.func110.trans (congrArg some (by kernel_rfl))
  f298 := Tryz.func111.trans (congrArg some (by kernel_rfl))
  f299 := Tryz.func112.trans (congrArg some (by kernel_rfl))
  f300 := Tryz.func113.trans (congrArg some (by kernel_rfl))
  f301 := Tryz.func114.trans (congrArg some (by kernel_rfl))
  f328 := Tryz.func125.trans (congrArg some (by kernel_rfl))
  f329 := Tryz.func126.trans (congrArg some (by kernel_rfl))
  f330 := Tryz.func127.trans (congrArg some (by kernel_rfl))
  f331 := Tryz.func128.trans (congrArg some (by kernel_rfl))
  f332 := Tryz.func129.trans (congrArg some (by kernel_rfl))
  f343 := Tryz.func134.trans (congrArg some (by kernel_rfl))
  t0 := Tryz.underlying0
  a0 := Tryz.isAgg0
  z0 := Tryz.sizeOf0
  v0 := Tryz.zeroValue0
  t3 := Tryz.underlying3
  a3 := Tryz.isAgg3
  z3 := Tryz.sizeOf3
  v3 := Tryz.zeroValue3
  t4 := Tryz.underlying4
  a4 := Tryz.isAgg4
  z4 := Tryz.sizeOf4
  v4 := Tryz.zeroValue4
  t5 := Tryz.underlying5
  a5 := Tryz.isAgg5
  z5 := Tryz.sizeOf5
  v5 := Tryz.zeroValue5
  t9 := Tryz.underlying9
  a9 := Tryz.isAgg9
  z9 := Tryz.sizeOf9
  v9 := Tryz.zeroValue9
  t28 := Tryz.underlying22
  a28 := Tryz.isAgg22
  z28 := Tryz.sizeOf22
  v28 := Tryz.zeroValue22
  t46 := Tryz.underlying55
  a46 := Tryz.isAgg55
  z46 := Tryz.sizeOf55
  v46 := Tryz.zeroValue55
  t51 := Tryz.underlying112
  a51 := Tryz.isAgg112
  z51 := Tryz.sizeOf112
  v51 := Tryz.zeroValue112
  t53 := Tryz.underlying114
  a53 := Tryz.isAgg114
  z53 := Tryz.sizeOf114
  v53 := Tryz.zeroValue114
  t131 := Tryz.underlying45
  a131 := Tryz.isAgg45
  z131 := Tryz.sizeOf45
  v131 := Tryz.zeroValue45
  t182 := Tryz.underlying105
  a182 := Tryz.isAgg105
  z182 := Tryz.sizeOf105
  v182 := Tryz.zeroValue105
  t183 := Tryz.underlying106
  a183 := Tryz.isAgg106
  z183 := Tryz.sizeOf106
  v183 := Tryz.zeroValue106
  t218 := Tryz.underlying120
  a218 := Tryz.isAgg120
  z218 := Tryz.sizeOf120
  v218 := Tryz.zeroValue120
  t222 := Tryz.underlying124
  a222 := Tryz.isAgg124
  z222 := Tryz.sizeOf124
  v222 := Tryz.zeroValue124
  t228 := Tryz.underlying128
  a228 := Tryz.isAgg128
  z228 := Tryz.sizeOf128
  v228 := Tryz.zeroValue128
  t229 := Tryz.underlying129
  a229 := Tryz.isAgg129
  z229 := Tryz.sizeOf129
  v229 := Tryz.zeroValue129 }
end Go.Proofs.YtlelhhgggnjndaaGreat
namespace Go.Proofs.YtlelhhgggnjndaaGreat
open Go.RowKit Go.Shelf
set_option linter.unusedVariables false
set_option linter.unusedSimpArgs false
def sortZ (l : List Int) : List Int := l.mergeSort fun x y => decide (x ≤ y)
theorem sortZ_len (l : List Int) : (sortZ l).length = l.length := List.length_mergeSort _
theorem sortZ_perm (l : List Int) : (sortZ l).Perm l := List.mergeSort_perm _ _
theorem sortZ_mem {l : List Int} {x : Int} : x ∈ sortZ l ↔ x ∈ l := (sortZ_perm l).mem_iff
theorem sortZ_up (l : List Int) : (sortZ l).Pairwise (· ≤ ·) := by
  have h := List.pairwise_mergeSort (le := fun x y : Int => decide (x ≤ y)) (fun a b c h1 h2 => by simp at h1 h2 ⊢; omega) (fun a b => by simp; omega) l
  exact h.imp fun h => by simpa using h
theorem sortZ_nil : sortZ [] = [] := by simp [sortZ]
theorem sort_any (A : Option Addr) (m c : Nat) (l : List Int) (base : Nat) (w : World) (ho : Zo w base A m c l) (h6 : m ≤ 1000000) :
    Calls Tryz.prog 54 #[.slice A m c] w fun e w' => e = .returned (.tuple #[]) ∧ Zo w' base A m c (sortZ l) ∧ w.grownBy w' (Value.slice A m c).ownBlock := by
  have hl := ho.len
  rcases ho.form with ⟨rfl, rfl, rfl, rfl⟩ | ⟨g, rfl, hbg, hlt, cur, hh, h1, h2, h3, h4⟩
  · refine Calls.mono (Any.slices_Sort_int_none Tryz.lays_189 none 0 w : Calls Tryz.prog 54 _ w _) ?_
    rintro e w' ⟨rfl, rfl⟩
    exact ⟨rfl, by rw [sortZ_nil]; exact ho, ⟨rfl, rfl, rfl, Nat.le_refl _, fun _ _ _ => rfl⟩⟩
  · have hH : Go.Sort.Holds (Value.int .i64) w g 0 l.toArray := fun j hj => by
      have hj' : j < m := by rw [hl]; simpa using hj
      rw [Nat.zero_add]
      refine ⟨?_, by simp [World.frozen?, hh]⟩
      simp only [World.cell?, hh, zo_cells h4 hl hj']
      have hj2 : j < l.length := by omega
      simp [List.getD, hj2]
    have h := Any.slices_Sort_int Tryz.lays_189 g 0 c l w hH hlt (by omega)
    rw [← hl] at h
    refine Calls.mono (h : Calls Tryz.prog 54 _ w _) ?_
    rintro e w' ⟨rfl, n, os, rfl⟩
    have hs0 : (Go.Sort.putRow (Value.int .i64) (Go.Sort.ahead w n) g 0 (sortZ l).toArray).heap.size = w.heap.size := by simp [Go.Sort.putRow, Go.Sort.mapBlock, Go.Sort.ahead]
    have hsl := sortZ_len l
    refine ⟨rfl, ?_, ?_⟩
    · have hh' : (Go.Sort.grow (Go.Sort.putRow (Value.int .i64) (Go.Sort.ahead w n) g 0 (sortZ l).toArray) os).heap[g]? = some (.cells (Go.Sort.putCells (Value.int .i64) 0 (sortZ l).toArray cur) 3 (0, 0)) := by
        rw [Go.Sort.heap_grow_old _ _ (by rw [hs0]; exact hlt)]
        simp [Go.Sort.putRow, Go.Sort.mapBlock, Go.Sort.ahead, Array.getElem?_modify, hh, Go.Sort.onCells]
      refine zo_of_cells hbg hh' h1 h2 (by simp [Go.Sort.putCells, h3]) (by omega) fun j hj => ?_
      have hjl : j < (sortZ l).length := by omega
      have hjc : j < cur.size := by omega
      simp only [Go.Sort.putCells]
      rw [Array.getElem?_mapIdx, Array.getElem?_eq_getElem hjc]
      simp only [Option.map_some, Nat.sub_zero, Nat.zero_le, true_and, Nat.zero_add]
      rw [if_pos (by simpa using hjl)]
      congr 2
      rw [getElem!_pos _ j (by simpa using hjl)]
      simp [List.getD, hjl]
    · refine ⟨rfl, rfl, rfl, by show w.heap.size ≤ (Go.Sort.grow _ os).heap.size; simp only [Go.Sort.grow, Array.size_append]; rw [← hs0]; exact Nat.le_add_right _ _, fun k hk hne => ?_⟩
      have hne : g ≠ k := fun e => hne (by rw [e]; rfl)
      show (Go.Sort.grow (Go.Sort.putRow (Value.int .i64) (Go.Sort.ahead w n) g 0 (sortZ l).toArray) os).heap[k]? = w.heap[k]?
      rw [Go.Sort.heap_grow_old _ _ (by rw [hs0]; exact hk)]
      simp [Go.Sort.putRow, Go.Sort.mapBlock, Go.Sort.ahead, Array.getElem?_modify, hne]
end Go.Proofs.YtlelhhgggnjndaaGreat
namespace Go.Proofs.YtlelhhgggnjndaaGreat
open Go.RowKit Go.Shelf
attribute [local go_sem] Oper.semAt_some
set_option linter.unusedVariables false
set_option linter.unusedSimpArgs false
abbrev Te (L : List Pw) := {x : Nat × Int // x ∈ thrF 0 L}
set_option maxRecDepth 100000 in
set_option maxHeartbeats 4000000 in
theorem threads_seqU (n : Nat) (hn : 1 ≤ n) (n₀ g m c : Nat) (a : Int) (Ua : Option Addr) (um uc : Nat) (A : Option Addr) (L : List Pw) (w : World) (hP : Ps w n₀ A L) (hg : Blk w g (tkC a Ua um uc A m c) 27) (hm : m = L.length) (h6 : m ≤ 1000000) (hgn : n₀ ≤ g) (hgw : g < w.heap.size) :
    SeqStopsK Fence.wide n Tryz.prog 86 #[.pointer (some ⟨g, 0, none⟩)] (fun x : Te L => #[.int .i64 x.1.1, .int .i64 x.1.2]) (Kt n₀ g) (fun xs => xs.map (·.1) = thrF 0 L) (fun pre => pre.map (·.1) <+: thrF 0 L) (thrF 0 L).length w := by
  intro lp J Jx W hW hJ hJx hY h0
  have HM := Lib.hid hm
  clear hm
  have gW : Blk W g (tkC a Ua um uc A m c) 27 := hg.below hW hgw
  have PW := hP.below hW (by omega)
  have hgW : g < W.heap.size := gW.lt
  have hc0 : W.cell? ⟨g, 2, none⟩ = some (.slice A m c) := gW.cell 2
  refine callsIn_of_wp Tryz.func86 rfl trivial ?_ rfl
  simp only [Tryz.ntmps86, List.size_toArray, List.length_cons, List.length_nil, Nat.reduceAdd, Nat.reduceSub, Array.replicate_succ, Array.replicate_zero, List.push_toArray, List.append_toArray, List.nil_append, List.cons_append]
  gi_wp2
  clear hc0
  gi_loopw [10] (fun i wr => ∃ (k : Nat) (pre : List (Te L)), k ≤ m ∧ i = .int .i64 k ∧ pre.map (·.1) = thrF 0 (L.take k) ∧ J pre wr ∧ Kt n₀ g W wr) (fun i _ => m - (intOf i).toNat)
  case atStart => exact ⟨0, [], Nat.zero_le _, rfl, rfl, h0, Kt.refl _ _ _⟩
  case round =>
    obtain ⟨k, pre, hk, rfl, hpm, hJs, hB⟩ := hrel
    have HP := Lib.hid hpm
    clear hpm
    by_cases hlt : k < m
    · have hlt' : (k : Int) < m := by omega
      have hkl : k < L.length := by have := HM.out; omega
      obtain ⟨b, off, rfl, hb, hc⟩ := PW.at_ k hkl
      have hx := PW.at' hkl
      have hcr := range_belowT hc hB.b hb
      have hgr : g < wr.heap.size := Nat.lt_of_lt_of_le hgW hB.b.size
      have HTK := Lib.hid (thrF_take hkl)
      have HLT := Lib.hid (fun j (hj : j < (L.getD k pw0).1.t.length) => thrF_lt hkl hj)
      have HPA := Lib.hid (fun j => thrF_part (L := L) (k := k) (j := j) hkl)
      generalize L.getD k pw0 = x at hcr hx HTK HLT HPA hc
      have hne2 : (prC x).size = 3 := pr_size x
      have hxl := hx.l
      gi_wp2_with (first
        | (refine wpListIn_load_midT rfl 49 (.tmp 13) rfl b (off + k * 3) rfl (prC x).toList _ hcr Tryz.underlying49 rfl (pr_infL x) ?_)
        | (refine wpListIn_store_blk rfl 49 (.tmp 4) (.tmp 14) rfl wr.heap.size (prC pw0) (prC x) 49 rfl rfl (Blk.new _ _ _) rfl (pr_inf x) (pr_one x) ?_
           intro w1 hw1 hn1
           have b1 : Below wr.heap.size wr w1 := ((Below.refl _ wr).alloc (Nat.le_refl _) _).trans (hn1.below _ (Nat.le_refl _) (by simp))
           have hJ1 := hJ pre wr w1 none hJs (grown_of_belowT b1) (fun r e => by cases e)
           have hB1 : Kt n₀ g W w1 := hB.trans (Kt.below b1 (by omega) hgr)
           have q2 : w1.cell? ⟨wr.heap.size, 2, none⟩ = some (.slice x.2.1 x.1.t.length x.2.2) := hw1.cell 2
           clear hJs hn1))
      have hrx := hx.ri
      generalize hG : x.2.1 = XA at hrx
      obtain ⟨tm, htm⟩ : ∃ tm, tm = x.1.t.length := ⟨_, rfl⟩
      rw [← htm] at hxl
      have HTM := Lib.hid htm
      simp only [hG, ← htm]
      clear htm q2 hw1 b1 hB hc hcr
      gi_loopw [18] (fun i wq => ∃ (j : Nat) (pre' : List (Te L)), j ≤ tm ∧ i = .int .i64 j ∧ pre'.map (·.1) = pre.map (·.1) ++ (x.1.t.take j).map (fun t => (k, t)) ∧ J pre' wq ∧ Kt n₀ g W wq) (fun i _ => tm - (intOf i).toNat)
      case atStart => exact ⟨0, pre, Nat.zero_le _, rfl, by simp, hJ1, hB1⟩
      case round =>
        obtain ⟨j, pre', hj, rfl, hpm', hJs', hB'⟩ := hrel
        have HP' := Lib.hid hpm'
        clear hpm'
        obtain ⟨wq, rfl⟩ : ∃ wq : World, wq = wr := ⟨_, rfl⟩
        by_cases hlj : j < tm
        · have hlj' : (j : Int) < tm := by omega
          have hjl : j < x.1.t.length := by have := HTM.out; omega
          obtain ⟨b', off', rfl, hbb, hc'⟩ := hrx.below hB'.b (Nat.le_refl _) j hjl
          have hlen : pre'.length < (thrF 0 L).length := by rw [← List.length_map (f := fun z : Te L => z.1), HP'.out, HP.out]; exact HLT.out j hjl
          have HSN := Lib.hid (thr_snoc hjl k)
          generalize x.1.t.getD j 0 = t at hc' HSN
          have hin : (k, t) ∈ thrF 0 L := (HPA.out (j + 1)).subset (by rw [HSN.out]; simp)
          obtain ⟨fn, tmps, assign, body, hy, hRd⟩ := hY pre' ⟨(k, t), hin⟩ wq hJs' hlen
          gi_wp2
          have hmap : (pre' ++ [(⟨(k, t), hin⟩ : Te L)]).map (·.1) = pre.map (·.1) ++ (x.1.t.take (j + 1)).map (fun t => (k, t)) := by rw [HSN.out, List.map_append, HP'.out, List.append_assoc]; rfl
          have HMP := Lib.hid hmap
          clear hmap
          refine hRd.mono ?_
          rintro e W3 h3
          rcases h3 with ⟨rfl, hJ3, hb3⟩ | ⟨rfl, hJx3⟩
          · gi_wp2
            exact ⟨⟨j + 1, pre' ++ [⟨(k, t), hin⟩], by omega, by go_num, HMP.out, hJ3, hB'.trans hb3⟩, by simp [intOf]; omega⟩
          · gi_wp2
            refine bodyPost_ret (results_none rfl _ _ _) rfl ?_
            exact ⟨⟨_, rfl⟩, .inr ⟨_, by rw [HMP.out, HP.out]; exact HPA.out (j + 1), hJx3⟩⟩
        · obtain rfl : j = tm := by omega
          have hle : x.1.t.length ≤ j := by have := HTM.out; omega
          have HLE := Lib.hid hle
          clear hle
          gi_wp2
          refine ⟨⟨k + 1, pre', by omega, by go_num, ?_, hJs', hB'⟩, by simp [intOf]; omega⟩
          rw [HP'.out, HP.out, HTK.out, List.take_of_length_le HLE.out]
    · obtain rfl : k = m := by omega
      gi_wp2
      go_end0
      refine ⟨⟨_, rfl⟩, .inl ⟨pre, ?_, hJs⟩⟩
      rw [HP.out, HM.out, List.take_length]
end Go.Proofs.YtlelhhgggnjndaaGreat
namespace Go.Proofs.YtlelhhgggnjndaaGreat
open Go.RowKit Go.Shelf
set_option linter.unusedVariables false
set_option linter.unusedSimpArgs false
theorem eq_drop {l p : List Int} {k : Nat} (h : k < l.length) (h' : k < p.length) : (l.drop k == p.drop k) = ((l.getD k 0 == p.getD k 0) && (l.drop (k + 1) == p.drop (k + 1))) := by
  have e1 : l.getD k 0 = l[k] := by simp [List.getD, h]
  have e2 : p.getD k 0 = p[k] := by simp [List.getD, h']
  rw [e1, e2, List.drop_eq_getElem_cons h, List.drop_eq_getElem_cons h', List.cons_beq_cons]
set_option maxRecDepth 100000 in
set_option maxHeartbeats 2000000 in
theorem equalZ_any (A : Option Addr) (m c : Nat) (l : List Int) (A2 : Option Addr) (m2 c2 : Nat) (l2 : List Int) (w : World) (hA : Ri7 w w.heap.size A l) (hm : m = l.length) (h6 : m ≤ 1000000) (hA2 : Ri7 w w.heap.size A2 l2) (hm2 : m2 = l2.length) :
    Calls Tryz.prog 42 #[.slice A m c, .slice A2 m2 c2] w fun e w' => e = .returned (.bool (l == l2)) ∧ Below w.heap.size w w' := by
  have B0 := Below.refl w.heap.size w
  have HM := Lib.hid hm
  have HM2 := Lib.hid hm2
  clear hm hm2
  by_cases hmm : m = m2
  · subst hmm
    go_enter Tryz.func42, Tryz.ntmps42
    go_wp2_with fail
    go_loopw [13] (fun i wr' => ∃ (k : Nat) (wr : World), wr = wr' ∧ k ≤ m ∧ i = .int .i64 k ∧ (l == l2) = (l.drop k == l2.drop k) ∧ Below w.heap.size w wr) (fun i _ => m - (intOf i).toNat)
    case atStart => exact ⟨0, _, rfl, Nat.zero_le _, rfl, by simp, B0⟩
    case round =>
      clear B0
      obtain ⟨k, wr, hwr, hk, rfl, hinv, hB⟩ := hrel
      subst hwr
      by_cases hlt : k < m
      · have hlt' : (k : Int) < (m : Int) := by omega
        have hkl : k < l.length := by have := HM.out; omega
        have hkl2 : k < l2.length := by have := HM2.out; omega
        obtain ⟨b, off, rfl, hb, hc⟩ := hA.below hB (Nat.le_refl _) k hkl
        obtain ⟨b2, off2, rfl, hb2, hc2⟩ := hA2.below hB (Nat.le_refl _) k hkl2
        rw [eq_drop hkl hkl2] at hinv
        generalize l.getD k 0 = y at hc hinv
        generalize l2.getD k 0 = y2 at hc2 hinv
        cases h1 : (y == y2)
        · rw [h1] at hinv
          have HI := Lib.hid hinv
          clear hinv
          go_wp2_with fail
          go_region
          all_goals
            go_wp2_with fail
            go_ret
            exact ⟨by rw [HI.out]; rfl, by first | exact hB.drew | exact hB⟩
        · rw [h1, Bool.true_and] at hinv
          have HI := Lib.hid hinv
          clear hinv
          go_wp2_with fail
          go_region
          all_goals
            go_wp2_with fail
            go_roundw
            case rel => exact ⟨k + 1, _, rfl, by omega, by go_num, HI.out, by first | exact hB.drew | exact hB⟩
            case measure => simp [intOf]; omega
      · obtain rfl : k = m := by omega
        have hi : (l == l2) = true := by rw [hinv]; conv => lhs; rw [HM.out, List.drop_length, ← HM.out, HM2.out, List.drop_length]
                                         rfl
        have HI := Lib.hid hi
        clear hinv hi
        go_wp2_with fail
        go_ret
        exact ⟨by rw [HI.out]; rfl, hB⟩
  · have hi : (l == l2) = false := by
      rw [beq_eq_false_iff_ne]
      intro e
      exact hmm (by rw [HM.out, HM2.out, e])
    have hne : ((m : Int) == (m2 : Int)) = false := by simp; omega
    have HI := Lib.hid hi
    have HN := Lib.hid hmm
    clear hi hmm
    go_enter Tryz.func42, Tryz.ntmps42
    go_wp2_with fail
    go_ret
    exact ⟨by rw [HI.out]; rfl, B0⟩
end Go.Proofs.YtlelhhgggnjndaaGreat
namespace Go.Proofs.YtlelhhgggnjndaaGreat
open Go.RowKit Go.Shelf
set_option linter.unusedVariables false
set_option linter.unusedSimpArgs false
def pdC (a : Int) (A : Option Addr) (m c : Nat) : Array Value := #[.int .i64 a, .slice A m c]
def pdV (a : Int) (A : Option Addr) (m c : Nat) : Value := .agg (pdC a A m c)
theorem pd_inf (a : Int) (A : Option Addr) (m c : Nat) : (Tryz.prog.info? 24).map (·.size) = some (pdC a A m c).size := by
  show _ = some 2
  kernel_rfl
theorem pd_one (a : Int) (A : Option Addr) (m c : Nat) : (pdC a A m c).all (·.oneCell') = true := by simp [pdC, Value.oneCell']
theorem riseP_drop {l : List Int} {k : Nat} {p : Int} (h : k < l.length) : riseP p (l.drop k) = (decide (p < l.getD k 0) && (decide (l.getD k 0 ≤ 20) && riseP (l.getD k 0) (l.drop (k + 1)))) := by
  rw [List.drop_eq_getElem_cons h, riseP]
  simp [List.getD, h]
set_option maxRecDepth 100000 in
set_option maxHeartbeats 2000000 in
theorem prise_any (A : Option Addr) (m c : Nat) (l : List Int) (w : World) (hA : Ri7 w w.heap.size A l) (hm : m = l.length) (h6 : m ≤ 1000000) :
    Calls Tryz.prog 83 #[.slice A m c] w fun e w' => e = .returned (.bool (riseP 0 l)) ∧ Below w.heap.size w w' := by
  have B0 := Below.refl w.heap.size w
  have HM := Lib.hid hm
  clear hm
  go_enter Tryz.func83, Tryz.ntmps83
  go_wp2_with fail
  go_loopw [3, 8] (fun q i wr' => ∃ (k : Nat) (lv : Int) (wr : World), wr = wr' ∧ k ≤ m ∧ i = .int .i64 k ∧ q = .int .i64 lv ∧ riseP 0 l = riseP lv (l.drop k) ∧ Below w.heap.size w wr) (fun _ i _ => m - (intOf i).toNat)
  case atStart => exact ⟨0, 0, _, rfl, Nat.zero_le _, rfl, rfl, by simp, B0⟩
  case round =>
    clear B0
    obtain ⟨k, lv, wr, hwr, hk, rfl, rfl, hinv, hB⟩ := hrel
    subst hwr
    by_cases hlt : k < m
    · have hlt' : (k : Int) < (m : Int) := by omega
      have hkl : k < l.length := by have := HM.out; omega
      obtain ⟨b, off, rfl, hb, hc⟩ := hA.below hB (Nat.le_refl _) k hkl
      rw [riseP_drop hkl] at hinv
      generalize l.getD k 0 = y at hc hinv
      cases h1 : decide (y ≤ lv)
      · cases h2 : decide (20 < y)
        · have hi : riseP 0 l = riseP y (l.drop (k + 1)) := by
            rw [hinv, decide_eq_true (by simpa using h1 : lv < y), decide_eq_true (by simpa using h2 : y ≤ 20)]; rfl
          have HI := Lib.hid hi
          clear hi hinv
          go_wp2_with fail
          go_roundw
          case rel => exact ⟨k + 1, y, _, rfl, by omega, by go_num, rfl, HI.out, hB⟩
          case measure => simp [intOf]; omega
        · have hi : riseP 0 l = false := by
            rw [hinv, decide_eq_false (by simp at h2; omega : ¬ y ≤ 20)]; simp
          have HI := Lib.hid hi
          clear hi hinv
          go_wp2_with fail
          go_ret
          exact ⟨by rw [HI.out]; rfl, hB⟩
      · have hi : riseP 0 l = false := by
          rw [hinv, decide_eq_false (by simp at h1; omega : ¬ lv < y)]; simp
        have HI := Lib.hid hi
        clear hi hinv
        go_wp2_with fail
        go_ret
        exact ⟨by rw [HI.out]; rfl, hB⟩
    · obtain rfl : k = m := by omega
      rw [HM.out, List.drop_length] at hinv
      have HI := Lib.hid hinv
      clear hinv
      go_wp2_with fail
      go_ret
      exact ⟨by rw [HI.out]; rfl, hB⟩
set_option maxRecDepth 100000 in
set_option maxHeartbeats 2000000 in
theorem pcheck_pid (a : Int) (A : Option Addr) (m c : Nat) (l : List Int) (w : World) (hA : Ri7 w w.heap.size A l) (hm : m = l.length) (h6 : m ≤ 1000000) :
    Calls Tryz.prog 40 #[pdV a A m c] w fun e w' => e = .returned (.int .i64 (pidE a l)) ∧ Below w.heap.size w w' := by
  have k1 := Blk.new w (pdC a A m c) 24
  have B0 := (Below.refl w.heap.size w).alloc (Nat.le_refl _) (.cells (pdC a A m c) 24)
  have q0 : _ = some (Value.int .i64 a) := k1.cell 0
  have q1 : _ = some (Value.slice A m c) := k1.cell 1
  have hr := prise_any A m c l _ ((hA.below B0 (Nat.le_refl _)).more B0.size) hm h6
  have he : pidE a l = if decide (a < 0) then 200 else if decide (20 < a) then 200 else if riseP 0 l then 0 else 200 := by
    unfold pidE
    by_cases h1 : a < 0
    · rw [if_neg (by simp; omega), if_pos (by simpa using h1)]
    · rw [if_neg (c := decide (a < 0) = true) (by simpa using h1)]
      by_cases h2 : 20 < a
      · rw [if_neg (by simp; omega), if_pos (by simpa using h2)]
      · rw [if_neg (c := decide (20 < a) = true) (by simpa using h2), decide_eq_true (by omega : 0 ≤ a), decide_eq_true (by omega : a ≤ 20)]; rfl
  generalize riseP 0 l = rb at hr he
  obtain ⟨E, hE⟩ : ∃ E, pidE a l = E := ⟨_, rfl⟩
  rw [hE] at he ⊢
  clear hE hm
  unfold pdV pdC at *
  cases h1 : decide (a < 0)
  · cases h2 : decide (20 < a)
    · rw [h1, h2] at he
      cases rb
      · have HE := Lib.hid he
        clear he
        go_enter Tryz.func40, Tryz.ntmps40
        go_wp2_with (refine hr.mono ?_; rintro e w1 ⟨rfl, b1⟩)
        go_ret
        exact ⟨by rw [HE.out]; rfl, B0.trans (b1.mono B0.size)⟩
      · have HE := Lib.hid he
        clear he
        go_enter Tryz.func40, Tryz.ntmps40
        go_wp2_with (refine hr.mono ?_; rintro e w1 ⟨rfl, b1⟩)
        go_ret
        exact ⟨by rw [HE.out]; rfl, B0.trans (b1.mono B0.size)⟩
    · rw [h1, h2] at he
      have HE := Lib.hid he
      clear he
      go_enter Tryz.func40, Tryz.ntmps40
      go_wp2_with fail
      go_ret
      exact ⟨by rw [HE.out]; rfl, B0⟩
  · rw [h1] at he
    have HE := Lib.hid he
    clear he
    go_enter Tryz.func40, Tryz.ntmps40
    go_wp2_with fail
    go_ret
    exact ⟨by rw [HE.out]; rfl, B0⟩
set_option maxRecDepth 100000 in
theorem place_pid (a : Int) (A : Option Addr) (m c : Nat) (l : List Int) (x : Int) (w : World) (hA : Ri7 w w.heap.size A l) (hm : m = l.length) (h6 : m ≤ 1000000) (hu : l.Pairwise (· < ·)) :
    Calls Tryz.prog 119 #[pdV a A m c, .int .i64 x] w fun e w' => e = .returned (.tuple #[.int .i64 (lessP l x : Nat), .bool (l.contains x)]) ∧ Below w.heap.size w w' := by
  have k1 := Blk.new w (pdC a A m c) 24
  have B0 := (Below.refl w.heap.size w).alloc (Nat.le_refl _) (.cells (pdC a A m c) 24)
  have q1 : _ = some (Value.slice A m c) := k1.cell 1
  have hr := search_any A m c l x _ ((hA.below B0 (Nat.le_refl _)).more B0.size) hm h6 hu
  generalize lessP l x = k at hr ⊢
  generalize l.contains x = rb at hr ⊢
  clear hm hu
  unfold pdV pdC at *
  go_enter Tryz.func119, Tryz.ntmps119
  go_wp2_with (refine hr.mono ?_; rintro e w1 ⟨rfl, b1⟩)
  refine bodyPost_ret (results_tmp2 rfl _ _ _) rfl ?_
  exact ⟨rfl, B0.trans (b1.mono B0.size)⟩
end Go.Proofs.YtlelhhgggnjndaaGreat
namespace Go.Proofs.YtlelhhgggnjndaaGreat
open Go.RowKit Go.Shelf
set_option linter.unusedVariables false
set_option linter.unusedSimpArgs false
def freeV (a : Int) (l : List Int) (x : Int) : Int × List Int × Int := if pidE a l = 0 then (if l.contains x then (a, delP l x, 0) else (0, [], 4)) else (0, [], 200)
def FS (w : World) (a : Int) (A : Option Addr) (m c : Nat) (V : World) : Prop := Below w.heap.size w V ∧ Blk V w.heap.size (pdC a A m c) 24
theorem FS.step {w V V' : World} {a : Int} {A : Option Addr} {m c : Nat} (h : FS w a A m c V) (hb : Below V.heap.size V V') (_h : Below V.heap.size V V') : FS w a A m c V' := ⟨h.1.trans (hb.mono h.1.size), h.2.below hb h.2.lt⟩
set_option maxRecDepth 100000 in
set_option maxHeartbeats 4000000 in
theorem free_pid (a : Int) (A : Option Addr) (m c : Nat) (l : List Int) (x : Int) (w : World) (hA : Ri7 w w.heap.size A l) (hm : m = l.length) (h6 : m ≤ 1000000) :
    Calls Tryz.prog 123 #[pdV a A m c, .int .i64 x] w fun e w' => ∃ A' m' c' a' l' er, e = .returned (.tuple #[pdV a' A' m' c', .int .i64 er]) ∧ Zo w' w.heap.size A' m' c' l' ∧ freeV a l x = (a', l', er) ∧ Below w.heap.size w w' := by
  have k1 := (Blk.new w (pdC a A m c) 24).alloc (.cells (pdC 0 none 0 0) 24)
  have k2 := Blk.new_ (w.alloc (.cells (pdC a A m c) 24)) (pdC 0 none 0 0) 24 (n := w.heap.size + 1) (by simp)
  have B0 := ((Below.refl w.heap.size w).alloc (Nat.le_refl _) (.cells (pdC a A m c) 24)).alloc (by simp) (.cells (pdC 0 none 0 0) 24)
  have CK := pcheck_pid a A m c l _ ((hA.below B0 (Nat.le_refl _)).more B0.size) hm h6
  obtain ⟨ck, hck⟩ : ∃ ck, pidE a l = ck := ⟨_, rfl⟩
  have hck2 := pidE_or a l
  rw [hck] at CK hck2
  have HM := Lib.hid hm
  have HC := Lib.hid hck
  clear hm hck
  unfold pdV at CK ⊢
  go_enter Tryz.func123, Tryz.ntmps123
  go_wp2_with (refine wpList_load_row rfl 24 (.tmp 2) rfl w.heap.size rfl 24 (pdC a A m c) (0, 0) _ k1.blk Tryz.underlying24 rfl (pd_inf a A m c) ?_)
  refine CK.mono ?_
  rintro e w1 ⟨rfl, bb⟩
  have k11 := k1.below bb k1.lt
  have k21 := k2.below bb k2.lt
  have b1 := B0.trans (bb.mono B0.size)
  clear CK k1 k2 B0 bb
  rcases hck2 with rfl | rfl
  · have hI : Ids a l := ids_iff.1 HC.out
    have hup := hI.up
    go_wp2_with (refine wpList_load_row rfl 24 (.tmp 2) rfl w.heap.size rfl 24 (pdC a A m c) (0, 0) _ k11.blk Tryz.underlying24 rfl (pd_inf a A m c) ?_)
    refine (place_pid a A m c l x _ ((hA.below b1 (Nat.le_refl _)).more b1.size) HM.out h6 hup).mono ?_
    rintro e w3 ⟨rfl, bb⟩
    have k13 := k11.below bb k11.lt
    have k23 := k21.below bb k21.lt
    have b3 := b1.trans (bb.mono b1.size)
    clear k11 k21 b1 bb
    obtain ⟨ct, hct⟩ : ∃ ct, l.contains x = ct := ⟨_, rfl⟩
    obtain ⟨k, hk⟩ : ∃ k, lessP l x = k := ⟨_, rfl⟩
    rw [hct, hk]
    have HCT := Lib.hid hct
    have HKE := Lib.hid hk
    clear hk
    cases ct
    · clear hct
      go_wp2_with (refine wpList_store_blk rfl 24 (.tmp 4) (.tmp 23) rfl (w.heap.size + 1) (pdC 0 none 0 0) (pdC 0 none 0 0) 24 rfl rfl k23 rfl (pd_inf _ _ _ _) (pd_one _ _ _ _) ?_; intro w5 h5 n5)
      refine bodyPost_ret (results_row_tmp rfl _ _ (w.heap.size + 1) 24 (pdC 0 none 0 0) (0, 0) _ rfl h5.blk Tryz.underlying24 rfl (pd_inf _ _ _ _) _ rfl) rfl ?_
      refine ⟨none, 0, 0, 0, [], 4, rfl, zo_nil _ _, ?_, b3.trans (n5.below _ (by omega) b3.size)⟩
      unfold freeV
      rw [if_pos HC.out, HCT.out]
      rfl
    · have HK : Hid (k < m) := Lib.hid (by rw [HM.out, ← HKE.out]; exact less_lt (by simpa using hct))
      clear hct
      have HS : FS w a A m c w3.drew := ⟨b3.drew, k13.drew⟩
      go_wp2_with fail
      refine region_cutP ?_
      refine wp_region_held_drew (S := FS w a A m c) (by kernel_rfl) HS (fun _ => ?_)
      refine wpAnyH_take (i := 0) (v := .pointer (some ⟨w.heap.size, 0, none⟩)) rfl (by kernel_rfl) (by kernel_rfl) (by kernel_rfl) (fun _ _ _ h => nomatch h.1) (.inl ⟨by rfl, fun V hV => by go_simp⟩) HS ?_
      try simp only [Act.put, qA, qB, qC, qD, qE, qF]
      refine wpAnyH_take (i := 1) (v := .int .i64 a) rfl (by kernel_rfl) (by kernel_rfl) (by kernel_rfl) (fun _ _ _ h => nomatch h.1) (.inl ⟨by rfl, fun V hV => by have c0 := hV.2.cell 0; simp only [pdC, List.getElem?_toArray, List.getElem?_cons_zero, List.getElem?_cons_succ] at c0; go_simp⟩) HS ?_
      try simp only [Act.put, qA, qB, qC, qD, qE, qF]
      refine wpAnyH_take (i := 2) (v := .pointer (some ⟨w.heap.size, 1, none⟩)) rfl (by kernel_rfl) (by kernel_rfl) (by kernel_rfl) (fun _ _ _ h => nomatch h.1) (.inl ⟨by rfl, fun V hV => by go_simp⟩) HS ?_
      try simp only [Act.put, qA, qB, qC, qD, qE, qF]
      refine wpAnyH_take (i := 3) (v := .slice A m c) rfl (by kernel_rfl) (by kernel_rfl) (by kernel_rfl) (fun _ _ _ h => nomatch h.1) (.inl ⟨by rfl, fun V hV => by have c0 := hV.2.cell 1; simp only [pdC, List.getElem?_toArray, List.getElem?_cons_zero, List.getElem?_cons_succ] at c0; go_simp⟩) HS ?_
      try simp only [Act.put, qA, qB, qC, qD, qE, qF]
      refine wpAnyH_take (i := 5) (v := .int .i64 k) rfl (by kernel_rfl) (by kernel_rfl) (by kernel_rfl) (fun _ _ _ h => nomatch h.1) (.inl ⟨by rfl, fun V hV => by go_simp⟩) HS ?_
      try simp only [Act.put, qA, qB, qC, qD, qE, qF]
      refine wpAnyH_take (i := 6) (v := .int .i64 k) rfl (by kernel_rfl) (by kernel_rfl) (by kernel_rfl) (fun _ _ _ h => nomatch h.1) (.inl ⟨by rfl, fun V hV => by go_simp⟩) HS ?_
      try simp only [Act.put, qA, qB, qC, qD, qE, qF]
      refine wpAnyH_take (i := 7) (v := .int .i64 ((k : Int) + 1)) rfl (by kernel_rfl) (by kernel_rfl) (by kernel_rfl) (fun _ _ _ h => nomatch h.1) (.inl ⟨by rfl, fun V hV => by have hw : IntKind.i64.wrap ((k : Int) + 1) = (k : Int) + 1 := (by rw [IntKind.wrap_i64]; have := HK.out; omega); go_simp⟩) HS ?_
      try simp only [Act.put, qA, qB, qC, qD, qE, qF]
      refine wpAnyH_ready (rs := [4]) (by kernel_rfl) (by simp) ?_
      refine AllReadyH.cons rfl (fun K hK => ?_) AllReadyH.nil
      try simp only [Act.put, qA, qB, qC, qD, qE, qF]
      go_simp
      refine (zclone_any A m c l _ ((hA.below HS.1 (Nat.le_refl _)).more HS.1.size) HM.out h6).mono ?_
      rintro e V1 ⟨A1, c1, rfl, z1, bb⟩
      go_wp2_with fail
      have J1 := HS.step (bb.mono (Nat.le_refl _)) bb
      have z1' := z1.down (b := w3.heap.size) (Nat.le_refl _)
      have k31 := k23.drew.below bb k23.lt
      have hs1 : w3.heap.size ≤ V1.heap.size := bb.size
      clear z1 bb
      refine hK.out _ _ J1 (fun _ => ?_)
      clear hK K
      try simp only [Act.put, qA, qB, qC, qD, qE, qF]
      refine wpAnyH_ready (rs := [8]) (by kernel_rfl) (by simp) ?_
      refine AllReadyH.cons rfl (fun K hK => ?_) AllReadyH.nil
      try simp only [Act.put, qA, qB, qC, qD, qE, qF]
      go_simp
      refine (delete_any A1 m c1 l k w3.heap.size V1 z1' HK.out).mono ?_
      rintro e V2 ⟨A2, rfl, z2, bb⟩
      go_wp2_with fail
      have J2 : FS w a A m c V2 := ⟨J1.1.trans (bb.mono (by have := HS.1.size; exact this)), J1.2.below bb HS.2.lt⟩
      have k32 := k31.below bb k23.lt
      have hs2 : w3.heap.size ≤ V2.heap.size := Nat.le_trans hs1 bb.size
      clear bb z1' J1 k31
      refine hK.out _ _ J2 (fun _ => ?_)
      clear hK K
      try simp only [Act.put, qA, qB, qC, qD, qE, qF]
      refine wpAnyH_take (i := 9) (v := .agg (pdC a A2 (m - 1) c1)) rfl (by kernel_rfl) (by kernel_rfl) (by kernel_rfl) (fun _ _ _ h => nomatch h.1) (.inl ⟨by rfl, fun V hV => by unfold pdC; go_simp⟩) J2 ?_
      try simp only [Act.put, qA, qB, qC, qD, qE, qF]
      refine wpAnyH_ready (rs := [10]) (by kernel_rfl) (by simp) ?_
      refine AllReadyH.cons rfl (fun K hK => ?_) AllReadyH.nil
      try simp only [Act.put, qA, qB, qC, qD, qE, qF]
      rw [if_pos (by rfl)]
      refine wp_store_blk 24 (.tmp 4) (.tmp 33) rfl (w.heap.size + 1) (pdC 0 none 0 0) (pdC a A2 (m - 1) c1) 24 rfl rfl k32 rfl (pd_inf _ _ _ _) (pd_one _ _ _ _) ?_
      intro V3 h3 n3
      have J3 : FS w a A m c V3 := ⟨J2.1.trans (n3.below w.heap.size (by omega) J2.1.size), n3.blk7 J2.2 (by omega)⟩
      have z3 : Zo V3 w.heap.size A2 (m - 1) c1 (l.take k ++ l.drop (k + 1)) := own_but (z2.down HS.1.size) n3 (fun e => by have := z2.lt _ e.symm; have := k23.lt; omega)
      refine hK.out _ _ J3 (fun _ => ?_)
      clear hK K
      try simp only [Act.put, qA, qB, qC, qD, qE, qF]
      refine wpAnyH_ready (rs := [11]) (by kernel_rfl) (by simp) ?_
      refine AllReadyH.cons rfl (fun K hK => ?_) AllReadyH.nil
      try simp only [Act.put, qA, qB, qC, qD, qE, qF]
      go_simp
      refine hK.out _ _ J3 (fun _ => ?_)
      clear hK K
      try simp only [Act.put, qA, qB, qC, qD, qE, qF]
      refine wpAnyH_done (by kernel_rfl) ?_ _
      refine ⟨rfl, ?_⟩
      go_wp2_with fail
      refine bodyPost_ret (results_row_tmp rfl _ _ (w.heap.size + 1) 24 (pdC a A2 (m - 1) c1) (0, 0) _ rfl h3.blk Tryz.underlying24 rfl (pd_inf _ _ _ _) _ rfl) rfl ?_
      refine ⟨A2, m - 1, c1, a, delP l x, 0, rfl, by unfold delP; rw [HKE.out]; exact z3, ?_, J3.1⟩
      unfold freeV
      rw [if_pos HC.out, HCT.out]
      rfl
  · go_wp2_with (refine wpList_store_blk rfl 24 (.tmp 4) (.tmp 13) rfl (w.heap.size + 1) (pdC 0 none 0 0) (pdC 0 none 0 0) 24 rfl rfl k21 rfl (pd_inf _ _ _ _) (pd_one _ _ _ _) ?_; intro w5 h5 n5)
    refine bodyPost_ret (results_row_tmp rfl _ _ (w.heap.size + 1) 24 (pdC 0 none 0 0) (0, 0) _ rfl h5.blk Tryz.underlying24 rfl (pd_inf _ _ _ _) _ rfl) rfl ?_
    refine ⟨none, 0, 0, 0, [], 200, rfl, zo_nil _ _, ?_, b1.trans (n5.below _ (by omega) b1.size)⟩
    unfold freeV
    rw [if_neg (by rw [HC.out]; decide)]
end Go.Proofs.YtlelhhgggnjndaaGreat
namespace Go.Proofs.YtlelhhgggnjndaaGreat
open Go.RowKit Go.Shelf
attribute [local go_sem] Oper.semAt_some
set_option linter.unusedVariables false
set_option linter.unusedSimpArgs false
theorem cands_any (a : Int) (w : World) :
    Calls Tryz.prog 118 #[.int .i64 a] w fun e w' => ∃ g, e = .returned (.func (.func 130) #[] #[.pointer (some ⟨g, 0, none⟩)]) ∧ Boxed w' g 3 (.int .i64 a) ∧ w.heap.size ≤ g ∧ Below w.heap.size w w' := by
  have k0 := Boxed.new w 3 (.int .i64 a)
  have B0 := (Below.refl w.heap.size w).alloc (Nat.le_refl _) (.cells #[.int .i64 a] 3)
  go_enter Tryz.func118, Tryz.ntmps118
  go_wp2
  go_ret
  exact ⟨_, rfl, k0, Nat.le_refl _, B0⟩
set_option maxRecDepth 100000 in
set_option maxHeartbeats 2000000 in
theorem cands_seq (n : Nat) (hn : 1 ≤ n) (n₀ g a : Nat) (ha : a ≤ 20) (w : World) (hg : Boxed w g 3 (.int .i64 (a : Int))) (hgn : g < n₀) (hn₀ : n₀ ≤ w.heap.size) :
    SeqStopsK Fence.wide n Tryz.prog 130 #[.pointer (some ⟨g, 0, none⟩)] (fun x : Fin 20 => #[.int .i64 ((cand a x.val : Nat) : Int)]) (Below n₀) (fun xs => xs.map (·.val) = List.range 20) (fun pre => ∃ k, k < 20 ∧ pre.map (·.val) = List.range (k + 1)) 20 w := by
  intro lp J Jx W hW hJ hJx hY h0
  have hgW := boxed_below hg hW (by omega)
  have hnW : n₀ ≤ W.heap.size := Nat.le_trans hn₀ hW.size
  refine callsIn_of_wp Tryz.func130 rfl trivial ?_ rfl
  simp only [Tryz.ntmps130, List.size_toArray, List.length_cons, List.length_nil, Nat.reduceAdd, Nat.reduceSub, Array.replicate_succ, Array.replicate_zero, List.push_toArray, List.append_toArray, List.nil_append, List.cons_append]
  gi_wp2
  gi_loopw [4] (fun i wr => ∃ (k : Nat) (pre : List (Fin 20)), k ≤ 20 ∧ i = .int .i64 k ∧ pre.map (·.val) = List.range k ∧ J pre wr ∧ Below n₀ W wr) (fun i _ => 20 - (intOf i).toNat)
  case atStart => exact ⟨0, [], Nat.zero_le _, rfl, rfl, h0, Below.refl _ _⟩
  case round =>
    obtain ⟨k, pre, hk, rfl, hpm, hJs, hB⟩ := hrel
    by_cases hlt : k < 20
    · have hlt' : (k : Int) < 20 := by omega
      have hlen : pre.length < 20 := by
        have := congrArg List.length hpm
        simp at this; omega
      have hmap : (pre ++ [(⟨k, hlt⟩ : Fin 20)]).map (·.val) = List.range (k + 1) := by rw [List.map_append, hpm, ← rangeF_push]; rfl
      have HMP := Lib.hid hmap
      clear hmap hpm
      obtain ⟨fn, tmps, assign, body, hy, hRd⟩ := hY pre ⟨k, hlt⟩ wr hJs hlen
      simp only at hy
      have hc := (boxed_below hgW hB hgn).cell
      have ec : ((cand a k : Nat) : Int) = ((a : Int) + (k : Int)) % 20 + 1 := by unfold cand; omega
      rw [ec] at hy
      clear ec
      gi_wp2
      refine hRd.mono ?_
      rintro e W3 h3
      rcases h3 with ⟨rfl, hJ3, hb3⟩ | ⟨rfl, hJx3⟩
      · gi_wp2
        exact ⟨⟨k + 1, pre ++ [⟨k, hlt⟩], by omega, by go_num, HMP.out, hJ3, hB.trans hb3⟩, by simp [intOf]; omega⟩
      · gi_wp2
        refine bodyPost_ret (results_none rfl _ _ _) rfl ?_
        exact ⟨⟨_, rfl⟩, .inr ⟨_, ⟨k, hlt, HMP.out⟩, hJx3⟩⟩
    · obtain rfl : k = 20 := by omega
      gi_wp2
      go_end0
      exact ⟨⟨_, rfl⟩, .inl ⟨pre, hpm, hJs⟩⟩
end Go.Proofs.YtlelhhgggnjndaaGreat
