/-
  BitmapSound, walked.
-/
import Derived.Test.YtejhamkmfnfmoaaDoorBmP
import Derived.Test.YtejhamkmfnfmoaaDoorHD
import Derived.Test.YtejhamkmfnfmoaaDoorVmTc
import Derived.WalkSmall
namespace Go.Proofs.YtejhamkmfnfmoaaDoor
open Go.RowKit
set_option linter.unusedVariables false
set_option linter.unusedSimpArgs false

/-- The call's data in a block. -/
structure DJs (w V : World) (d : Dat) : Prop where
  kd : Blk V w.heap.size (datC d) 51
  old : Below w.heap.size w V
section
variable {w V V' : World} {d : Dat}
theorem DJs.below (h : DJs w V d) (hb : Below V.heap.size V V') : DJs w V' d := ⟨h.kd.below hb h.kd.lt, h.old.trans (hb.mono h.old.size)⟩
theorem DJs.new (w : World) (d : Dat) : DJs w (w.alloc (.cells (datC d) 51)) d := ⟨Blk.new _ _ _, (Below.refl _ w).alloc (Nat.le_refl _) _⟩
theorem DJs.c01 (h : DJs w V d) : V.cell? ⟨w.heap.size, 0, none⟩ = some (.int .u32 d.nr) ∧ V.cell? ⟨w.heap.size, 1, none⟩ = some (.int .u32 d.ar) := ⟨h.kd.cell 0, h.kd.cell 1⟩
end

theorem sound_big (A : Option Addr) (l cap : Nat) (d : Dat) (w : World) (hK : HK w) (hbig : 300 < l) :
    Calls Tryd.prog 6 #[.slice A l cap, datV d] w fun e w' => e = .returned (.bool true) ∧ Below w.heap.size w w' := by
  have hb' : (300 : Int) < l := by omega
  have J := DJs.new w d
  have W := wakes7_any _ (hK.below J.old (Nat.le_refl _))
  unfold datV
  go_enter Tryd.func6, Tryd.ntmps6
  go_wp2_with fail
  refine W.mono ?_
  rintro e w1 ⟨rfl, b1⟩
  have J1 := J.below b1
  clear W b1 J
  go_wp2_with fail
  go_ret
  exact ⟨rfl, J1.old⟩

set_option maxRecDepth 100000 in
set_option maxHeartbeats 4000000 in
theorem sound_no (A : Option Addr) (m cap : Nat) (f : Nat → Ins) (d : Dat) (w : World) (hK : HK w) (hA : Ri w w.heap.size A m f) (hcap : m ≤ cap) (hm : m ≤ 300) (r1 r2 : Int) (hr : chkI f m = (r1, r2)) (h0 : ¬ r2 = 0) :
    Calls Tryd.prog 6 #[.slice A m cap, datV d] w fun e w' => e = .returned (.bool true) ∧ Below w.heap.size w w' := by
  have hb' : ¬ (300 : Int) < m := by omega
  have hne : (r2 != 0) = true := by simpa using h0
  have J := DJs.new w d
  have W := wakes7_any _ (hK.below J.old (Nat.le_refl _))
  have FL := fun V (hV : DJs w V d) => flow_no A m cap f d.nr d.ar V (hK.below hV.old (Nat.le_refl _)).k ((hA.below hV.old (Nat.le_refl _)).more hV.old.size) r1 r2 hr h0
  clear hr h0
  unfold abV ab0 at FL
  unfold datV
  go_enter Tryd.func6, Tryd.ntmps6
  go_wp2_with fail
  refine W.mono ?_
  rintro e w1 ⟨rfl, b1⟩
  have J1 := J.below b1
  clear W b1 J
  obtain ⟨c0, c1⟩ := J1.c01
  go_wp2_with fail
  refine (FL _ J1).mono ?_
  rintro e w2 ⟨rfl, b2⟩
  have J2 := J1.below b2
  clear FL b2 J1 c0 c1
  go_wp2_with fail
  go_ret
  exact ⟨rfl, J2.old.alloc J2.old.size _⟩
/-- What lies there behind Flow and Trace. -/
structure SLs (w V : World) (d : Dat) (gl ga : Nat) (L : List StS) (o : Ab) (A : Option Addr) (T : List VmS) (B : Nat) : Prop where
  kd : Blk V w.heap.size (datC d) 51
  kl : Blk V gl (rowS L) 30
  ka : Blk V ga (abA o) 27
  tr : Rm V B A T
  bs : B ≤ V.heap.size
  old : Below w.heap.size w V
section
variable {w V V' : World} {d : Dat} {gl ga : Nat} {L : List StS} {o : Ab} {A : Option Addr} {T : List VmS} {B : Nat}
theorem SLs.below (h : SLs w V d gl ga L o A T B) (hb : Below V.heap.size V V') : SLs w V' d gl ga L o A T B :=
  ⟨h.kd.below hb h.kd.lt, h.kl.below hb h.kl.lt, h.ka.below hb h.ka.lt, h.tr.below (hb.mono h.bs) (Nat.le_refl _), Nat.le_trans h.bs hb.size, h.old.trans (hb.mono h.old.size)⟩
theorem SLs.c01 (h : SLs w V d gl ga L o A T B) : V.cell? ⟨w.heap.size, 0, none⟩ = some (.int .u32 d.nr) ∧ V.cell? ⟨w.heap.size, 1, none⟩ = some (.int .u32 d.ar) := ⟨h.kd.cell 0, h.kd.cell 1⟩
end
theorem vm_lin7 {s : VmS} (h : s.mem.length = 16) : (Tryd.prog.info? 25).map (·.size) = some (vmC s).toList.length := by rw [vmC_len h]; exact vm_info19
theorem vm_z7 {s : VmS} (h : s.mem.length = 16) : (mcC 0 0 0 (List.replicate 16 0)).size = (vmC s).size := by
  have h1 := vmC_len h
  have h2 := vmC_len (s := vm0) (by simp [vm0])
  simp only [Array.length_toList] at h1 h2
  rw [h1]; exact h2

/-- And a machine, in a block of its own. -/
structure TJ (w V : World) (d : Dat) (gl ga : Nat) (L : List StS) (o : Ab) (A : Option Addr) (T : List VmS) (B gm : Nat) (t : VmS) : Prop where
  s : SLs w V d gl ga L o A T B
  km : Blk V gm (vmC t) 25
theorem TJ.below {w V V' : World} {d : Dat} {gl ga : Nat} {L : List StS} {o : Ab} {A : Option Addr} {T : List VmS} {B gm : Nat} {t : VmS} (h : TJ w V d gl ga L o A T B gm t) (hb : Below V.heap.size V V') : TJ w V' d gl ga L o A T B gm t := ⟨h.s.below hb, h.km.below hb h.km.lt⟩

set_option maxRecDepth 100000 in
set_option maxHeartbeats 8000000 in
theorem sound_walk (A : Option Addr) (m cap : Nat) (f : Nat → Ins) (d : Dat) (hd : DatOk d) (w : World) (hK : HK w) (hA : Ri w w.heap.size A m f) (hcap : m ≤ cap) (hm : m ≤ 300)
    (L : List StS) (hL : Len16 L) (hLl : L.length = m) (o : Ab) (T : List VmS) (hTl : T.length ≤ 300) (hT : ∀ k, k < T.length → (T.getD k vm0).pc < m ∧ (T.getD k vm0).mem.length = 16 ∧ fitS (T.getD k vm0).a (T.getD k vm0).x (T.getD k vm0).mem (L.getD (T.getD k vm0).pc st0) = true)
    (rv : Int) (ho : okA rv o) (okb : Bool) (hob : okb = true → rv = 2147418112) (bw : Int)
    (hbw : ∀ k : Nat, d.nr = (k : Int) → k < 64 → bits .and .u64 (bw / 2 ^ k) 1 = if okb = true then 1 else 0)
    (CF : ∀ V, DJs w V d → Calls Tryd.prog 9 #[.slice A m cap, .int .u32 d.nr, .int .u32 d.ar] V fun e w' => ∃ g, e = .returned (.tuple #[.slice (some ⟨g, 0, none⟩) m m, abV o, .int .i64 0]) ∧ Blk w' g (rowS L) 30 ∧ Below V.heap.size V w')
    (CT : ∀ V, Below w.heap.size w V → Calls Tryd.prog 16 #[.slice A m cap, datV d] V fun e w' => ∃ A' c', e = .returned (.tuple #[.slice A' T.length c', .int .i64 0]) ∧ T.length ≤ c' ∧ Rm w' w'.heap.size A' T ∧ Below V.heap.size V w')
    (CR : ∀ V, Below w.heap.size w V → Calls Tryd.prog 17 #[.slice A m cap, datV d] V fun e w' => e = .returned (.tuple #[.int .u32 rv, .int .i64 0]) ∧ Below V.heap.size V w')
    (CA : ∀ V, Below w.heap.size w V → Calls Tryd.prog 10 #[.slice A m cap, .int .u32 d.nr, .int .u32 d.ar] V fun e w' => e = .returned (.tuple #[.bool okb, .int .i64 0]) ∧ Below V.heap.size V w')
    (CB : ∀ V, Below w.heap.size w V → Calls Tryd.prog 14 #[.slice A m cap, .int .u32 d.ar] V fun e w' => e = .returned (.tuple #[.int .u64 bw, .int .i64 0]) ∧ Below V.heap.size V w') :
    Calls Tryd.prog 6 #[.slice A m cap, datV d] w fun e w' => e = .returned (.bool true) ∧ Below w.heap.size w w' := by
  have hb' : ¬ (300 : Int) < m := by omega
  have J := DJs.new w d
  have W := wakes7_any _ (hK.below J.old (Nat.le_refl _))
  unfold datV at CT CR ⊢
  obtain ⟨n, hn⟩ : ∃ n, T.length = n := ⟨_, rfl⟩
  rw [hn] at CT hTl
  have HN := Lib.hid hn
  have HT := Lib.hid hT
  have HO := Lib.hid ho
  have HOB := Lib.hid hob
  have HBW := Lib.hid hbw
  have HLl := Lib.hid hLl
  clear hT hn ho hob hbw hLl
  go_enter Tryd.func6, Tryd.ntmps6
  go_wp2_with fail
  refine W.mono ?_
  rintro e w1 ⟨rfl, b1⟩
  have J1 := J.below b1
  clear W b1 J
  obtain ⟨c0, c1⟩ := J1.c01
  go_wp2_with fail
  refine (CF _ J1).mono ?_
  rintro e w2 ⟨gl, rfl, kl, b2⟩
  have J2 := J1.below b2
  clear CF b2 J1 c0 c1
  go_wp2_with (first
    | (refine wpList_store_blk rfl 27 (.tmp 6) (.tmp 29) rfl w2.heap.size (abA ab0) (abA o) 27 rfl rfl (Blk.new_ _ _ _ rfl) rfl (abA_inf _) (abA_one _) ?_
       intro w3 hw3 hn3
       have b3 : Below w2.heap.size w2 w3 := ((Below.refl _ w2).alloc (Nat.le_refl _) _).trans (hn3.below _ (Nat.le_refl _) (by simp))
       have kl3 := kl.below b3 kl.lt
       have J3 := J2.below b3
       clear hn3 b3 J2 kl)
    | (refine wpList_load_row rfl 51 (.tmp 3) rfl w.heap.size rfl 51 (datC d) (0, 0) _ J3.kd.blk Tryd.underlying51 rfl dat_info ?_))
  refine (CT _ J3.old).mono ?_
  rintro e w4 ⟨A4, c4, rfl, hc4, R4, b4⟩
  have S4 : SLs w w4 d gl w2.heap.size L o A4 T w4.heap.size := ⟨J3.kd.below b4 J3.kd.lt, kl3.below b4 kl3.lt, hw3.below b4 hw3.lt, R4, Nat.le_refl _, J3.old.trans (b4.mono J3.old.size)⟩
  clear b4 kl3 hw3 R4 J3 CT
  go_wp2_with (refine wpList_load_row rfl 51 (.tmp 3) rfl w.heap.size rfl 51 (datC d) (0, 0) _ S4.kd.blk Tryd.underlying51 rfl dat_info ?_)
  refine (CR _ S4.old).mono ?_
  rintro e w5 ⟨rfl, b5⟩
  have S5 := S4.below b5
  generalize hBB : w4.heap.size = BB at S5
  have hga : w2.heap.size = w2.heap.size := rfl
  generalize w2.heap.size = ga at S5 ⊢
  clear hga S4 b5 CR hBB
  go_wp2_with fail
  obtain ⟨wo, hwo⟩ : ∃ wo : World, wo = w5 := ⟨_, rfl⟩
  rw [← hwo] at S5 ⊢
  clear hwo
  go_loopw [56] (fun i wr => ∃ k : Nat, k ≤ n ∧ i = .int .i64 k ∧ SLs w wr d gl ga L o A4 T BB) (fun i _ => n - (intOf i).toNat)
  case atStart => exact ⟨0, Nat.zero_le _, rfl, S5⟩
  case round =>
    obtain ⟨k, hk, rfl, Sk⟩ := hrel
    by_cases hlt : k < n
    · have hlt' : (k : Int) < n := by omega
      have hkT : k < T.length := by rw [HN.out]; exact hlt
      obtain ⟨hpc, h16, hfit⟩ := HT.out k hkT
      obtain ⟨g, off, rfl, hg, hrg⟩ := Sk.tr k hkT
      generalize T.getD k vm0 = t at hpc h16 hfit hrg
      have hs16 := hL.at_ t.pc
      have hpcL : t.pc < L.length := by rw [HLl.out]; exact hpc
      have hrow : ∀ V, Blk V gl (rowS L) 30 → V.rangeAt gl (t.pc * 37) (stC (L.getD t.pc st0)).toList := fun V h => row_range h hL hpcL
      generalize L.getD t.pc st0 = st at hfit hs16 hrow
      have CFt : ∀ V, Calls Tryd.prog 8 #[.agg (vmC t), .agg (stC st)] V fun e w' => e = .returned (.bool true) ∧ Below V.heap.size V w' := fun V => by
        have h := Fits_any t.pc t.a t.x t.mem h16 st hs16 V
        rw [hfit] at h
        exact h
      clear hfit
      go_wp2_with (first
        | (refine wpList_load_mid rfl 25 (.tmp 58) rfl g (off + k * 19) rfl (vmC t).toList _ hrg Tryd.underlying25 rfl (vm_lin7 h16) ?_)
        | (refine wpList_store_blk rfl 25 (.tmp 13) (.tmp 59) rfl wr.heap.size _ (vmC t) 25 rfl rfl (Blk.new_ _ _ _ rfl) (vm_z7 h16) (mc_inf h16) mc_one ?_
           intro w6 hF6 hn6
           have b6 : Below wr.heap.size wr w6 := ((Below.refl _ wr).alloc (Nat.le_refl _) _).trans (hn6.below _ (Nat.le_refl _) (by simp))
           have S6 := Sk.below b6
           clear hn6 b6 Sk hrg))
      have T6 : TJ w w6.drew d gl ga L o (some ⟨g, off, none⟩) T BB wr.heap.size t := (TJ.mk S6 hF6).below (Below.refl _ _).drew
      clear S6 hF6
      generalize wr.heap.size = gm at T6 ⊢
      have CS := Lib.hid (calls_keep (S := fun V => TJ w V d gl ga L o (some ⟨g, off, none⟩) T BB gm t) (fun V V' h hb => h.below hb) (fun V _ => CFt V))
      have hne : Nonempty (Sig (fun V => TJ w V d gl ga L o (some ⟨g, off, none⟩) T BB gm t)) := ⟨⟨_, T6⟩⟩
      have hS1 : ∀ s' : Sig (fun V => TJ w V d gl ga L o (some ⟨g, off, none⟩) T BB gm t), s'.V.cell? ⟨gm, 0, none⟩ = some (.int .i64 (t.pc : Int)) := fun s' => (s'.h.km.cell 0).trans mc_0
      have hst : ∀ V, TJ w V d gl ga L o (some ⟨g, off, none⟩) T BB gm t → V.rangeAt gl (t.pc * 37) (stC st).toList := fun V h => hrow V h.s.kl
      clear hrow
      have hpc' : (t.pc : Int) < m := by omega
      have hp0 : decide ((t.pc : Int) < 0) = false := by simp
      have hp1 : decide (m ≤ t.pc) = false := by simp; omega
      refine region_class (S := fun V => TJ w V d gl ga L o (some ⟨g, off, none⟩) T BB gm t) (by kernel_rfl) (by kernel_rfl) T6 ?_
      try simp only [Act.put]
      iterate 11 (go_big_quiet_step (fail))
      refine class_load (by rfl) 25 (.tmp 13) rfl gm rfl (vmC t) 25 _ (fun _ h => h.km) Tryd.underlying25 rfl (mc_inf h16) ?_
      simp only [Act.put, List.setIfInBounds_toArray, List.set_cons_zero, List.set_cons_succ]
      iterate 4 (go_big_quiet_step (fail))
      refine class_load_row (by rfl) 30 (.tmp 75) rfl gl (t.pc * 37) rfl (stC st) _ hst Tryd.underlying30 rfl (st_inf hs16) ?_
      simp only [Act.put, List.setIfInBounds_toArray, List.set_cons_zero, List.set_cons_succ]
      go_big_quiet_step (first | (go_at_call 8; exact class_call _ CS.out))
      repeat (go_big_quiet_step (fail))
      refine wpQuiet_nil ?_
      rintro _ ⟨s7, rfl⟩
      have J7 := s7.h.s
      clear hne CS hS1 T6 hst
      go_wp2_with fail
      go_roundw
      case rel => exact ⟨k + 1, by omega, by go_num, J7⟩
      case measure => simp [intOf]; omega
    · obtain rfl : k = n := by omega
      have SP : ∀ V, Below w.heap.size w V → Calls Tryd.prog 18 #[.int .u32 2147418112] V fun e w' => e = .returned (.agg #[.int .i64 7, .int .u16 0]) ∧ Below V.heap.size V w' := fun V hV => by
        have h := split7_any 2147418112 (by omega) (by omega) V (hK.below hV (Nat.le_refl _)).h
        rw [act7_64.1, act7_64.2] at h
        exact h
      have a0 := Sk.ka.cell 0
      have a1 := Sk.ka.cell 1
      have e0 : (abA o)[0]? = some (.bool o.k) := rfl
      have e1 : (abA o)[1]? = some (.int .u32 o.v) := rfl
      rw [e0] at a0
      rw [e1] at a1
      clear e0 e1
      obtain ⟨c0, c1⟩ := Sk.c01
      have HC : o.k = false ∨ (o.k = true ∧ o.v = rv) := by
        cases hk : o.k with
        | false => exact .inl rfl
        | true => exact .inr ⟨rfl, HO.out hk⟩
      have h0n := hd.nr
      generalize hnr : d.nr = nr at CA CB HBW c0 h0n
      have HNR := Lib.hid hnr
      clear hnr
      have h64 : (64 ≤ nr) ∨ (¬ 64 ≤ nr ∧ ∃ j : Nat, nr = (j : Int) ∧ j < 64) := by
        rcases Int.lt_or_le nr 64 with h | h
        · exact .inr ⟨by omega, nr.toNat, by have := h0n.1; omega, by omega⟩
        · exact .inl h
      rcases HC with hk | ⟨hk, hv⟩
      · rw [hk] at a0
        clear hk a1
        go_wp2_with fail
        refine (CA _ Sk.old).mono ?_
        rintro e w8 ⟨rfl, b8⟩
        have S8 := Sk.below b8
        clear CA b8 Sk c0 c1 a0
        obtain ⟨c0, c1⟩ := S8.c01
        rw [HNR.out] at c0
        go_wp2_with fail
        refine (CB _ S8.old).mono ?_
        rintro e w9 ⟨rfl, b9⟩
        have S9 := S8.below b9
        clear CB b9 S8 c0 c1
        obtain ⟨c0, c1⟩ := S9.c01
        rw [HNR.out] at c0
        cases okb
        · rcases h64 with h64 | ⟨h64, j, rfl, hj⟩
          · go_wp2_with fail
            go_ret
            exact ⟨rfl, S9.old⟩
          · have hbj : bits .and .u64 (bw / 2 ^ j) 1 = 0 := HBW.out j rfl hj
            go_wp2_with fail
            go_ret
            exact ⟨rfl, S9.old⟩
        · obtain rfl := HOB.out rfl
          rcases h64 with h64 | ⟨h64, j, rfl, hj⟩
          · go_wp2_with fail
            refine (SP _ S9.old).mono ?_
            rintro e w10 ⟨rfl, b10⟩
            have S10 := S9.below b10
            clear b10 S9 c0 c1
            obtain ⟨c0, c1⟩ := S10.c01
            rw [HNR.out] at c0
            go_wp2_with fail
            go_ret
            exact ⟨rfl, S10.old⟩
          · have hbj : bits .and .u64 (bw / 2 ^ j) 1 = 1 := HBW.out j rfl hj
            go_wp2_with fail
            refine (SP _ S9.old).mono ?_
            rintro e w10 ⟨rfl, b10⟩
            have S10 := S9.below b10
            clear b10 S9 c0 c1
            obtain ⟨c0, c1⟩ := S10.c01
            rw [HNR.out] at c0
            go_wp2_with fail
            go_ret
            exact ⟨rfl, S10.old⟩
      · rw [hk] at a0
        rw [hv] at a1
        clear hk hv
        go_wp2_with fail
        refine (CA _ Sk.old).mono ?_
        rintro e w8 ⟨rfl, b8⟩
        have S8 := Sk.below b8
        clear CA b8 Sk c0 c1 a0 a1
        obtain ⟨c0, c1⟩ := S8.c01
        rw [HNR.out] at c0
        go_wp2_with fail
        refine (CB _ S8.old).mono ?_
        rintro e w9 ⟨rfl, b9⟩
        have S9 := S8.below b9
        clear CB b9 S8 c0 c1
        obtain ⟨c0, c1⟩ := S9.c01
        rw [HNR.out] at c0
        cases okb
        · rcases h64 with h64 | ⟨h64, j, rfl, hj⟩
          · go_wp2_with fail
            go_ret
            exact ⟨rfl, S9.old⟩
          · have hbj : bits .and .u64 (bw / 2 ^ j) 1 = 0 := HBW.out j rfl hj
            go_wp2_with fail
            go_ret
            exact ⟨rfl, S9.old⟩
        · obtain rfl := HOB.out rfl
          rcases h64 with h64 | ⟨h64, j, rfl, hj⟩
          · go_wp2_with fail
            refine (SP _ S9.old).mono ?_
            rintro e w10 ⟨rfl, b10⟩
            have S10 := S9.below b10
            clear b10 S9 c0 c1
            obtain ⟨c0, c1⟩ := S10.c01
            rw [HNR.out] at c0
            go_wp2_with fail
            go_ret
            exact ⟨rfl, S10.old⟩
          · have hbj : bits .and .u64 (bw / 2 ^ j) 1 = 1 := HBW.out j rfl hj
            go_wp2_with fail
            refine (SP _ S9.old).mono ?_
            rintro e w10 ⟨rfl, b10⟩
            have S10 := S9.below b10
            clear b10 S9 c0 c1
            obtain ⟨c0, c1⟩ := S10.c01
            rw [HNR.out] at c0
            go_wp2_with fail
            go_ret
            exact ⟨rfl, S10.old⟩

/-- BitmapSound, of whatever program. -/
theorem bitmapSound_any (A : Option Addr) (m cap : Nat) (f : Nat → Ins) (d : Dat) (w : World) (hK : HK w) (hA : Ri w w.heap.size A m f) (hcap : m ≤ cap) (hd : DatOk d) :
    Calls Tryd.prog 6 #[.slice A m cap, datV d] w fun e w' => e = .returned (.bool true) ∧ Below w.heap.size w w' := by
  by_cases hm : m ≤ 300
  · obtain ⟨⟨r1, r2⟩, hr⟩ : ∃ r, chkI f m = r := ⟨_, rfl⟩
    by_cases h0 : r2 = 0
    · have hM : May f m := may_chk (by rw [hr]; exact h0)
      have hio := hA.ok
      obtain ⟨F1, F2⟩ := all_fit (nr := d.nr) (arch := d.ar) hM hio (fun o => dW_bd d hd o) rfl rfl hd.nr hd.ar
      have hFl := (floS_ok (hd := hdI) (f := f) (n := m) alI_u32 hd.nr hd.ar hio m (Nat.le_refl _)).1
      refine sound_walk A m cap f d hd w hK hA hcap hm (floS alI hdI d.nr d.ar f m m).1 (fun s hs => (hFl s hs).len) (floS_len _ _ _ _ _) (floS alI hdI d.nr d.ar f m m).2.b (traV f (dW d) m) (Nat.le_trans (tra_len f (dW d) m) hm) ?_ (retV f (dW d) m) F2.2 (alwI f m d.nr d.ar) ?_ (bitS (fun k => alwI f m (k : Int) d.ar) 64) ?_ ?_ ?_ ?_ ?_ ?_
      · intro k hk
        have hmem : (traV f (dW d) m).getD k vm0 ∈ traV f (dW d) m := by
          simp only [List.getD, List.getElem?_eq_getElem hk, Option.getD_some]
          exact List.getElem_mem hk
        unfold traV at hmem
        obtain ⟨x, hx, hxe⟩ := List.mem_map.1 hmem
        have hxe' : x.1 = (traV f (dW d) m).getD k vm0 := hxe
        obtain ⟨g1, g2, g3⟩ := F1 x hx
        rw [hxe'] at g1 g2 g3
        exact ⟨g1, g2.len, g3.fit⟩
      · intro h
        have e : (floS alI hdI d.nr d.ar f m m).2.b = sureA 2147418112 := of_decide_eq_true h
        have h2 := F2.2
        rw [e] at h2
        exact (h2 rfl).symm
      · intro k hk hk64
        have hb := bitS_bd (fun k => alwI f m (k : Int) d.ar) 64
        have hp : (0 : Int) < 2 ^ k := Int.pow_pos (by decide)
        have hq : bitS (fun k => alwI f m (k : Int) d.ar) 64 / 2 ^ k ≤ bitS (fun k => alwI f m (k : Int) d.ar) 64 := Int.ediv_le_self _ hb.1
        have h2 : (2 : Int) ^ 64 = 18446744073709551616 := by decide
        rw [and_one_u64 _ (Int.ediv_nonneg hb.1 (Int.le_of_lt hp)) (by omega), bit_at _ _ _ hk64, hk]
      · exact fun V hV => flow_ok A m cap f d.nr d.ar hd.nr hd.ar V (hK.below hV.old (Nat.le_refl _)).k ((hA.below hV.old (Nat.le_refl _)).more hV.old.size) hcap hM
      · exact fun V hV => trace_ok A m cap f d hd V (hK.below hV (Nat.le_refl _)).k ((hA.below hV (Nat.le_refl _)).more hV.size) hcap hM
      · exact fun V hV => run_ok A m cap f d hd V (hK.below hV (Nat.le_refl _)).k ((hA.below hV (Nat.le_refl _)).more hV.size) hcap hM
      · exact fun V hV => allows_ok A m cap f d.nr d.ar hd.nr hd.ar V (hK.below hV (Nat.le_refl _)) ((hA.below hV (Nat.le_refl _)).more hV.size) hcap hM
      · exact fun V hV => bits_ok A m cap f d.ar hd.ar V (hK.below hV (Nat.le_refl _)) ((hA.below hV (Nat.le_refl _)).more hV.size) hcap hM
    · exact sound_no A m cap f d w hK hA hcap hm r1 r2 hr h0
  · exact sound_big A m cap d w hK (by omega)
end Go.Proofs.YtejhamkmfnfmoaaDoor
