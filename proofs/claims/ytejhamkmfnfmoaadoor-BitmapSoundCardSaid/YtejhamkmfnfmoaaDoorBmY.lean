/-
  bitmap.fits, bitmap.Fits.
-/
import Derived.Test.YtejhamkmfnfmoaaDoorHD
import Derived.Test.YtejhamkmfnfmoaaDoorVmS
namespace Go.Proofs.YtejhamkmfnfmoaaDoor
open Go.RowKit
set_option linter.unusedVariables false
set_option linter.unusedSimpArgs false

/-- Is a number what is known of it? -/
def fitA (x : Int) (k : Ab) : Bool := !k.k || decide (k = sureA x)
def fitN (mem : List Int) (m : List Ab) (i : Nat) : Bool := fitA (mem.getD i 0) (m.getD i ab0)
def fitS (a x : Int) (mem : List Int) (s : StS) : Bool := s.r && fitA a s.a && fitA x s.x && (List.range 16).all (fitN mem s.m)

set_option maxRecDepth 100000 in
set_option maxHeartbeats 1000000 in
theorem fits_any (x : Int) (k : Ab) (w : World) : Calls Tryd.prog 20 #[.int .u32 x, abV k] w fun e w' => e = .returned (.bool (fitA x k)) ∧ Below w.heap.size w w' := by
  have J : AJ w w.heap.size (w.alloc (.cells (abA k) 27)) k := ⟨Blk.new _ _ _, (Below.refl _ _).alloc (Nat.le_refl _) _⟩
  have CS := Lib.hid (calls_keep (S := fun V => AJ w w.heap.size V k) (fun V V' h hb => h.below hb) (fun V _ => sure_any x V))
  unfold fitA
  obtain ⟨bv, hbv⟩ : ∃ b, decide (k = sureA x) = b := ⟨_, rfl⟩
  rw [hbv]
  have HB := Lib.hid hbv
  clear hbv
  have hk0 : k.k = false ∨ k.k = true := by cases k.k <;> simp
  rcases hk0 with hk0 | hk0
  all_goals
    rw [hk0]
    have HK0 := Lib.hid hk0
    clear hk0
    unfold abV
    go_enter Tryd.func20, Tryd.ntmps20
    go_wp2_with fail
    have J0 : AJ w w.heap.size (w.alloc (.cells (abA k) 27)).drew k := J.below (Below.refl _ _).drew
    have hne : Nonempty (Sig (fun V => AJ w w.heap.size V k)) := ⟨⟨_, J0⟩⟩
    have hS1 : ∀ s' : Sig (fun V => AJ w w.heap.size V k), s'.V.cell? ⟨w.heap.size, 0, none⟩ = some (.bool k.k) := fun s' => s'.h.k.cell 0
    simp only [HK0.out] at hS1
    refine region_class (S := fun V => AJ w w.heap.size V k) (by kernel_rfl) (by kernel_rfl) J0 ?_
    go_big_quiet_step (fail)
    go_big_quiet_step (fail)
    go_big_quiet_step (fail)
    go_big_quiet_step (fail)
  · repeat (go_big_quiet_step (fail))
    refine wpQuiet_nil ?_
    rintro _ ⟨s7, rfl⟩
    have J7 := s7.h
    clear hne CS J0 hS1
    go_wp2_with fail
    go_ret
    exact ⟨rfl, J7.old⟩
  · refine class_load (by rfl) 27 (.tmp 3) rfl w.heap.size rfl (abA k) 27 _ (fun _ h => h.k) Tryd.underlying27 rfl (abA_inf _) ?_
    simp only [Act.put, List.setIfInBounds_toArray, List.set_cons_zero, List.set_cons_succ]
    go_big_quiet_step (fail)
    go_big_quiet_step (first | (go_at_call 30; exact class_call _ CS.out))
    refine class_eql_ab (by rfl) (.tmp 9) (.tmp 11) rfl k (sureA x) rfl rfl bv HB.out ?_
    simp only [Act.put, List.setIfInBounds_toArray, List.set_cons_zero, List.set_cons_succ]
    repeat (go_big_quiet_step (fail))
    refine wpQuiet_nil ?_
    rintro _ ⟨s7, rfl⟩
    have J7 := s7.h
    clear hne CS J0 hS1
    go_wp2_with fail
    go_ret
    exact ⟨rfl, J7.old⟩
theorem fits_raw (x : Int) (k : Ab) (w : World) : Calls Tryd.prog 20 #[.int .u32 x, .agg #[.bool k.k, .int .u32 k.v]] w fun e w' => e = .returned (.bool (fitA x k)) ∧ Below w.heap.size w w' := fits_any x k w

/-- A machine and a state, each in a block of the call's own. -/
structure MS2 (w V : World) (p a x : Int) (mem : List Int) (s : StS) : Prop where
  km : Blk V w.heap.size (mcC p a x mem) 25
  ks : Blk V (w.heap.size + 1) (stC s) 30
  old : Below w.heap.size w V
section
variable {w V V' : World} {p a x : Int} {mem : List Int} {s : StS}
theorem MS2.below (h : MS2 w V p a x mem s) (hb : Below V.heap.size V V') : MS2 w V' p a x mem s := ⟨h.km.below hb h.km.lt, h.ks.below hb h.ks.lt, h.old.trans (hb.mono h.old.size)⟩
theorem MS2.new (w : World) (p a x : Int) (mem : List Int) (s : StS) : MS2 w ((w.alloc (.cells (mcC p a x mem) 25)).alloc (.cells (stC s) 30)) p a x mem s :=
  ⟨(Blk.new w _ _).alloc _, Blk.new_ _ _ _ (by simp), ((Below.refl _ w).alloc (Nat.le_refl _) _).alloc (by simp) _⟩
theorem MS2.mc (h : MS2 w V p a x mem s) : V.cell? ⟨w.heap.size, 1, none⟩ = some (.int .u32 a) ∧ V.cell? ⟨w.heap.size, 2, none⟩ = some (.int .u32 x) := ⟨(h.km.cell 1).trans mc_1, (h.km.cell 2).trans mc_2⟩
theorem MS2.st (h : MS2 w V p a x mem s) : V.cell? ⟨w.heap.size + 1, 0, none⟩ = some (.bool s.r) ∧ V.cell? ⟨w.heap.size + 1, 1, none⟩ = some (.bool s.a.k) ∧ V.cell? ⟨w.heap.size + 1, 2, none⟩ = some (.int .u32 s.a.v) ∧ V.cell? ⟨w.heap.size + 1, 3, none⟩ = some (.bool s.x.k) ∧ V.cell? ⟨w.heap.size + 1, 4, none⟩ = some (.int .u32 s.x.v) :=
  ⟨(h.ks.cell 0).trans st_0, (h.ks.cell 1).trans st_1, (h.ks.cell 2).trans st_2, (h.ks.cell 3).trans st_3, (h.ks.cell 4).trans st_4⟩
theorem MS2.word (h : MS2 w V p a x mem s) (hl : mem.length = 16) {k : Nat} (hk : k < 16) : V.cell? ⟨w.heap.size, 3 + k, none⟩ = some (.int .u32 (mem.getD k 0)) := (h.km.cell _).trans (mc_3 hl hk)
theorem MS2.row (h : MS2 w V p a x mem s) : V.rangeAt w.heap.size 3 (arrC mem).toList := fun j v hv => by
  rw [h.km.cell]
  unfold mcC
  rw [Array.getElem?_append_right (by simp), ← hv, Array.getElem?_toList]
  congr 1
  simp
end
theorem word_ix (l : List Int) (hl : l.length = 16) (k : Nat) (hk : k < 16) : ∀ w : World, (Instr.index 23 (.agg (arrC l)) (.int .i64 k)).run Tryd.prog w = .ok (.int .u32 (l.getD k 0)) w := by
  obtain ⟨m0, m1, m2, m3, m4, m5, m6, m7, m8, m9, m10, m11, m12, m13, m14, m15, rfl⟩ := sixteen hl
  match k, hk with
  | 0, _ | 1, _ | 2, _ | 3, _ | 4, _ | 5, _ | 6, _ | 7, _ | 8, _ | 9, _ | 10, _ | 11, _ | 12, _ | 13, _ | 14, _ | 15, _ => intro w; kernel_rfl
  | n + 16, h => exact absurd h (by omega)

set_option maxRecDepth 100000 in
set_option maxHeartbeats 1000000 in
theorem Fits_no (c : Nat) (p a x : Int) (mem : List Int) (hm : mem.length = 16) (s : StS) (hl : s.m.length = 16) (w : World)
    (h : (c = 0 ∧ s.r = false) ∨ (c = 1 ∧ s.r = true ∧ fitA a s.a = false) ∨ (c = 2 ∧ s.r = true ∧ fitA a s.a = true ∧ fitA x s.x = false)) :
    Calls Tryd.prog 8 #[.agg (mcC p a x mem), stV s] w fun e w' => e = .returned (.bool false) ∧ Below w.heap.size w w' := by
  have J := MS2.new w p a x mem s
  have CA := fun V => fits_raw a s.a V
  have CX := fun V => fits_raw x s.x V
  obtain ⟨m1, m2⟩ := J.mc
  obtain ⟨s0, s1, s2, s3, s4⟩ := J.st
  unfold stV
  rcases h with ⟨_, h⟩ | ⟨_, h, ha⟩ | ⟨_, h, ha, hx⟩
  · rw [h] at s0
    clear h
    go_enter Tryd.func8, Tryd.ntmps8
    go_wp2_with fail
    go_ret
    exact ⟨rfl, J.old⟩
  · rw [h] at s0
    rw [ha] at CA
    clear h ha
    go_enter Tryd.func8, Tryd.ntmps8
    go_wp2_with fail
    refine (CA _).mono ?_
    rintro e w1 ⟨rfl, b1⟩
    have J1 := J.below b1
    clear b1 J
    go_wp2_with fail
    go_ret
    exact ⟨rfl, J1.old⟩
  · rw [h] at s0
    rw [ha] at CA
    rw [hx] at CX
    clear h ha hx
    go_enter Tryd.func8, Tryd.ntmps8
    go_wp2_with fail
    refine (CA _).mono ?_
    rintro e w1 ⟨rfl, b1⟩
    have J1 := J.below b1
    obtain ⟨m1, m2⟩ := J1.mc
    obtain ⟨_, _, _, s3, s4⟩ := J1.st
    clear b1 J
    go_wp2_with fail
    refine (CX _).mono ?_
    rintro e w2 ⟨rfl, b2⟩
    have J2 := J1.below b2
    clear b2 J1
    go_wp2_with fail
    go_ret
    exact ⟨rfl, J2.old⟩
set_option maxRecDepth 100000 in
set_option maxHeartbeats 2000000 in
theorem Fits_yes (p a x : Int) (mem : List Int) (hm : mem.length = 16) (s : StS) (hl : s.m.length = 16) (w : World) (h : s.r = true) (ha : fitA a s.a = true) (hx : fitA x s.x = true) :
    Calls Tryd.prog 8 #[.agg (mcC p a x mem), stV s] w fun e w' => e = .returned (.bool ((List.range 16).all (fitN mem s.m))) ∧ Below w.heap.size w w' := by
  have J := MS2.new w p a x mem s
  have CA := fun V => fits_raw a s.a V
  have CX := fun V => fits_raw x s.x V
  obtain ⟨m1, m2⟩ := J.mc
  obtain ⟨s0, s1, s2, s3, s4⟩ := J.st
  have hix := fun k hk => word_ix mem hm k hk
  unfold stV
  rw [h] at s0
  rw [ha] at CA
  rw [hx] at CX
  clear h ha hx
  go_enter Tryd.func8, Tryd.ntmps8
  go_wp2_with fail
  refine (CA _).mono ?_
  rintro e w1 ⟨rfl, b1⟩
  have J1 := J.below b1
  obtain ⟨m1, m2⟩ := J1.mc
  obtain ⟨_, _, _, s3, s4⟩ := J1.st
  clear b1 J
  go_wp2_with fail
  refine (CX _).mono ?_
  rintro e w2 ⟨rfl, b2⟩
  have J2 := J1.below b2
  clear b2 J1 m1 m2 s0 s1 s2 s3 s4
  go_wp2_with (refine wpList_load_mid rfl 23 (.tmp 26) rfl w.heap.size 3 rfl (arrC mem).toList _ J2.row Tryd.underlying23 rfl (by rw [Array.length_toList]; exact arr_inf mem hm) ?_; rw [Array.toArray_toList])
  go_loopw [28] (fun i wr => ∃ k : Nat, k ≤ 16 ∧ i = .int .i64 (k : Int) ∧ (∀ j, j < k → fitN mem s.m j = true) ∧ MS2 w wr p a x mem s) (fun i _ => 16 - (intOf i).toNat)
  case atStart => exact ⟨0, by omega, rfl, fun j hj => absurd hj (by omega), J2⟩
  case round =>
    obtain ⟨k, hk, rfl, hj, Jk⟩ := hrel
    have HJ := Lib.hid hj
    clear hj
    by_cases hlt : k < 16
    · have hlt' : (k : Int) < 16 := by omega
      have hi := hix k hlt
      have C := fun V => fits_raw (mem.getD k 0) (s.m.getD k ab0) V
      obtain ⟨q0, q1⟩ := st_m Jk.ks hl hlt
      obtain ⟨u, hu⟩ : ∃ u, s.m.getD k ab0 = u := ⟨_, rfl⟩
      obtain ⟨v, hv⟩ : ∃ v, mem.getD k 0 = v := ⟨_, rfl⟩
      rw [hu] at C q0 q1
      rw [hv] at C hi
      have hfn : fitN mem s.m k = fitA v u := by unfold fitN; rw [hu, hv]
      obtain ⟨b, hb⟩ : ∃ b, fitA v u = b := ⟨_, rfl⟩
      rw [hb] at C hfn
      have HFN := Lib.hid hfn
      clear hfn hb hu hv hix
      cases b
      · go_wp2_with fail
        refine (C _).mono ?_
        rintro e w5 ⟨rfl, b5⟩
        have J5 := Jk.below b5
        clear b5 Jk J2
        go_wp2_with fail
        go_ret
        refine ⟨?_, J5.old⟩
        have : (List.range 16).all (fitN mem s.m) = false := by
          rw [List.all_eq_false]
          exact ⟨k, List.mem_range.2 hlt, by rw [HFN.out]; simp⟩
        rw [this]
        rfl
      · go_wp2_with fail
        refine (C _).mono ?_
        rintro e w5 ⟨rfl, b5⟩
        have J5 := Jk.below b5
        clear b5 Jk J2
        go_wp2_with fail
        go_roundw
        case rel =>
          refine ⟨k + 1, by omega, by go_num, fun j hj => ?_, J5⟩
          rcases Nat.lt_or_ge j k with h | h
          · exact HJ.out j h
          · obtain rfl : j = k := by omega
            exact HFN.out
        case measure => simp [intOf]; omega
    · obtain rfl : k = 16 := by omega
      have hall : (List.range 16).all (fitN mem s.m) = true := by
        rw [List.all_eq_true]
        exact fun j hj => HJ.out j (List.mem_range.1 hj)
      clear hix
      have HALL := Lib.hid hall
      clear hall
      go_wp2_with fail
      go_ret
      exact ⟨by rw [HALL.out]; rfl, Jk.old⟩
theorem Fits_any (p a x : Int) (mem : List Int) (hm : mem.length = 16) (s : StS) (hl : s.m.length = 16) (w : World) :
    Calls Tryd.prog 8 #[.agg (mcC p a x mem), stV s] w fun e w' => e = .returned (.bool (fitS a x mem s)) ∧ Below w.heap.size w w' := by
  unfold fitS
  cases h : s.r
  · exact Fits_no 0 p a x mem hm s hl w (.inl ⟨rfl, h⟩)
  · cases ha : fitA a s.a
    · exact Fits_no 1 p a x mem hm s hl w (.inr (.inl ⟨rfl, h, ha⟩))
    · cases hx : fitA x s.x
      · exact Fits_no 2 p a x mem hm s hl w (.inr (.inr ⟨rfl, h, ha, hx⟩))
      · simpa using Fits_yes p a x mem hm s hl w h ha hx
end Go.Proofs.YtejhamkmfnfmoaaDoor
