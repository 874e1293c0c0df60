/-
  The reference's Do, walked. (gen8/gendo.py)
-/
import Derived.Test.YtehcijockeecpaaDoorRfD0
namespace Go.Proofs.YtehcijockeecpaaDoor
open Go.RowKit
set_option linter.unusedVariables false
set_option linter.unusedSimpArgs false

set_option maxRecDepth 100000 in
set_option maxHeartbeats 4000000 in
theorem do_2 (y z k : Int) (i : Nat) (hi : i < 64) (hq : insO (2, y, z, k)) (s : StS) (hs : StOk s) (nr arch : Int) (w : World) (kn : Nat) (hkn : k = (kn : Int)) (h16 : kn < 16) :
    Calls Tryd.prog 27 #[insV 2 y z k, .int .i64 i, stV s, .int .u32 nr, .int .u32 arch] w fun e w' => ∃ P R, e = .returned (.agg (nxC P ({ s with m := s.m.set kn s.a }) R)) ∧ PL w' P ([(i : Int) + 1]) ∧ RL w' R ([]) ∧ Below w.heap.size w w' := by
  have hl := hs.len
  have hsz := st_size hl
  subst hkn
  have h16' : (kn : Int) < 16 := by omega
  have hl2 : (s.m.set kn s.a).length = 16 := by rw [List.length_set]; exact hl
  have hi' : (i : Int) < 64 := by omega
  have ki := ((Blk.new w (celI (2, y, z, (kn : Int))).toArray 51).alloc (.cells (stC s) 40)).alloc (.cells nxZ 72)
  have ks := (Blk.new_ (w.alloc (.cells (celI (2, y, z, (kn : Int))).toArray 51)) (stC s) 40 (n := w.heap.size + 1) (by simp)).alloc (.cells nxZ 72)
  have kz := Blk.new_ ((w.alloc (.cells (celI (2, y, z, (kn : Int))).toArray 51)).alloc (.cells (stC s) 40)) nxZ 72 (n := w.heap.size + 1 + 1) (by simp)
  have B0 := (((Below.refl w.heap.size w).alloc (Nat.le_refl _) (.cells (celI (2, y, z, (kn : Int))).toArray 51)).alloc (by simp) (.cells (stC s) 40)).alloc (by simp; omega) (.cells nxZ 72)
  have N := fun V => refname_any 2 V (by decide)
  rw [show nameOf 2 = (⟨#[115, 116]⟩, true) by kernel_rfl] at N
  have SP := fun V => split_any [115, 116] (by decide) V
  rw [show headOf [115, 116] = [115, 116] by decide, show tailOf [115, 116] = [] by decide] at SP
  have OK := fun V => of_raw (kn : Int) V
  unfold insV stV
  go_enter Tryd.func27, Tryd.ntmps27
  go_wp2_with fail
  refine (N _).mono ?_
  rintro e w3 ⟨rfl, b3⟩
  have ki3 := ki.below b3 ki.lt
  have ks3 := ks.below b3 ks.lt
  have kz3 := kz.below b3 kz.lt
  have B3 := B0.trans (b3.mono B0.size)
  clear ki ks kz B0 b3 N
  go_wp2_with fail
  refine (SP _).mono ?_
  rintro e w4 ⟨rfl, b4⟩
  have ki4 := ki3.below b4 ki3.lt
  have ks4 := ks3.below b4 ks3.lt
  have kz4 := kz3.below b4 kz3.lt
  have B4 := B3.trans (b4.mono B3.size)
  have hz4 := kz4.lt
  clear ki3 ks3 kz3 B3 b4 SP
  go_wp2_with (first
    | (refine wpList_store_blk rfl 27 (.tmp 15) (.tmp 33) rfl w4.heap.size _ (abA ab0) 27 rfl rfl (Blk.new_ _ _ _ rfl) rfl (abA_inf _) (abA_one _) ?_
       intro w5 h5 n5
       have J5 : D1 w w5 (2, y, z, (kn : Int)) s w4.heap.size ab0 := ⟨n5.blk' (ki4.alloc _) (by omega), n5.blk' (ks4.alloc _) (by omega), n5.blk' (kz4.alloc _) (by omega), h5, hz4, (B4.alloc B4.size _).trans (n5.below _ B4.size (by simp; have := B4.size; omega))⟩
       clear h5 n5 ki4 ks4 kz4 B4 hz4
       obtain ⟨i0, i1, i2, i3, s1, s2, s3, s4, v0, v1⟩ := J5.facts))
  generalize w4.heap.size = gv at *
  refine (OK _).mono ?_
  rintro e w6 ⟨rfl, b6⟩
  have J6 := J5.below b6
  clear J5 b6 i0 i1 i2 i3 s1 s2 s3 s4 v0 v1 OK
  have hgv := J6.kv.lt
  go_wp2_with (first
    | (refine wpList_store_blk rfl 27 (.tmp 16) (.tmp 69) rfl w6.heap.size _ (abA (sureA (kn : Int))) 27 rfl rfl (Blk.new_ _ _ _ rfl) rfl (abA_inf _) (abA_one _) ?_
       intro w7 h7 n7
       have J7 : D2 w w7 (2, y, z, (kn : Int)) s gv (ab0) w6.heap.size (sureA (kn : Int)) := ⟨J6.below (((Below.refl _ w6).alloc (Nat.le_refl _) _).trans (n7.below _ (Nat.le_refl _) (by simp))), h7, hgv⟩
       clear h7 n7 J6 hgv
       obtain ⟨i0, i1, i2, i3, s1, s2, s3, s4, v0, v1⟩ := J7.d.facts
       obtain ⟨o0, o1⟩ := J7.facts)
    | (refine wpList_load_row rfl 40 (.tmp 7) rfl (w.heap.size + 1) rfl 40 (stC s) (0, 0) _ (J7.d.ks.alloc _).blk Tryd.underlying40 rfl (st_inf hl) ?_)
    | (refine wpList_store_blk rfl 72 (.tmp 17) (.tmp 78) rfl (w7.heap.size + 1) nxZ (nxC (.slice (some ⟨w7.heap.size, 0, none⟩) 1 1) s nil0) 72 rfl (congrArg Value.agg (nx_build7 hl _)) (Blk.new_ _ nxZ _ (by simp)) (nxz_size.trans (nx_size hl).symm) (nx_inf hl) nx_one ?_
       intro w8 h8 n8
       have b8 : Below w7.heap.size w7 w8 := (((Below.refl _ w7).alloc (Nat.le_refl _) _).alloc (by simp) _).trans (n8.below _ (by omega) (by simp; omega))
       have hgo := J7.ko.lt
       have hgv := J7.ho
       have hvv := J7.d.hv
       have hlt : w.heap.size + 1 + 1 < w7.heap.size := by omega
       have J8 : D3 w w8 (2, y, z, (kn : Int)) s gv (ab0) w6.heap.size (sureA (kn : Int)) (w7.heap.size + 1) (nxC (.slice (some ⟨w7.heap.size, 0, none⟩) 1 1) s nil0) := ⟨J7.below b8, h8, by omega⟩
       have kp : Blk w8 w7.heap.size #[.int .i64 ((i : Int) + 1)] 3 := n8.blk' ((Blk.new w7 _ _).alloc _) (by omega)
       clear h8 n8 b8 J7 hgo hgv hvv i0 i1 i2 i3 s1 s2 s3 s4 v0 v1 o0 o1
       obtain ⟨i0, i1, i2, i3, s1, s2, s3, s4, v0, v1⟩ := J8.d.d.facts
       obtain ⟨o0, o1⟩ := J8.d.facts)
    | (refine wpList_store_ab rfl 27 (.tmp 142) (.tmp 139) rfl (w7.heap.size + 1) (6 + kn * 2) (nxC (.slice (some ⟨w7.heap.size, 0, none⟩) 1 1) s nil0) 72 (s.a) _ rfl rfl J8.kn (by rw [nx_size hl]; omega) ab_inf (nx_sm6 hl h16 s.a) ?_
       intro w9 h9 n9
       have J9 := J8.put h9 n9
       have kp9 := n9.blk' kp (by omega)
       clear h9 n9 J8 kp i0 i1 i2 i3 s1 s2 s3 s4 v0 v1 o0 o1)
    | (refine wpList_load_row rfl 72 (.tmp 17) rfl (w7.heap.size + 1) rfl 72 (nxC (.slice (some ⟨w7.heap.size, 0, none⟩) 1 1) ({ s with m := s.m.set kn s.a }) nil0) (0, 0) _ J9.kn.blk Tryd.underlying72 rfl (nx_inf (t := { s with m := s.m.set kn s.a }) hl2) ?_)
    | (refine wpList_store_blk rfl 72 (.tmp 10) (.tmp 245) rfl (w.heap.size + 1 + 1) nxZ (nxC (.slice (some ⟨w7.heap.size, 0, none⟩) 1 1) ({ s with m := s.m.set kn s.a }) nil0) 72 rfl rfl J9.d.d.kz (nxz_size.trans (nx_size (t := { s with m := s.m.set kn s.a }) hl2).symm) (nx_inf (t := { s with m := s.m.set kn s.a }) hl2) nx_one ?_; intro wz hz nz))
  refine bodyPost_ret (v := .agg (nxC (.slice (some ⟨w7.heap.size, 0, none⟩) 1 1) ({ s with m := s.m.set kn s.a }) nil0)) (results_cell_row rfl _ wz (w.heap.size + 1 + 1) 72 (nxC (.slice (some ⟨w7.heap.size, 0, none⟩) 1 1) ({ s with m := s.m.set kn s.a }) nil0) (0, 0) _ rfl hz.blk Tryd.underlying72 rfl (nx_inf (t := { s with m := s.m.set kn s.a }) hl2)) rfl ?_
  exact ⟨_, _, rfl, .inr ⟨_, rfl, nz.blk' kp9 (by omega)⟩, .inl ⟨rfl, rfl⟩, J9.d.d.old.trans (nz.below _ (by omega) J9.d.d.old.size)⟩
set_option maxRecDepth 100000 in
set_option maxHeartbeats 4000000 in
theorem do_3 (y z k : Int) (i : Nat) (hi : i < 64) (hq : insO (3, y, z, k)) (s : StS) (hs : StOk s) (nr arch : Int) (w : World) (kn : Nat) (hkn : k = (kn : Int)) (h16 : kn < 16) :
    Calls Tryd.prog 27 #[insV 3 y z k, .int .i64 i, stV s, .int .u32 nr, .int .u32 arch] w fun e w' => ∃ P R, e = .returned (.agg (nxC P ({ s with m := s.m.set kn s.x }) R)) ∧ PL w' P ([(i : Int) + 1]) ∧ RL w' R ([]) ∧ Below w.heap.size w w' := by
  have hl := hs.len
  have hsz := st_size hl
  subst hkn
  have h16' : (kn : Int) < 16 := by omega
  have hl2 : (s.m.set kn s.x).length = 16 := by rw [List.length_set]; exact hl
  have hi' : (i : Int) < 64 := by omega
  have ki := ((Blk.new w (celI (3, y, z, (kn : Int))).toArray 51).alloc (.cells (stC s) 40)).alloc (.cells nxZ 72)
  have ks := (Blk.new_ (w.alloc (.cells (celI (3, y, z, (kn : Int))).toArray 51)) (stC s) 40 (n := w.heap.size + 1) (by simp)).alloc (.cells nxZ 72)
  have kz := Blk.new_ ((w.alloc (.cells (celI (3, y, z, (kn : Int))).toArray 51)).alloc (.cells (stC s) 40)) nxZ 72 (n := w.heap.size + 1 + 1) (by simp)
  have B0 := (((Below.refl w.heap.size w).alloc (Nat.le_refl _) (.cells (celI (3, y, z, (kn : Int))).toArray 51)).alloc (by simp) (.cells (stC s) 40)).alloc (by simp; omega) (.cells nxZ 72)
  have N := fun V => refname_any 3 V (by decide)
  rw [show nameOf 3 = (⟨#[115, 116, 120]⟩, true) by kernel_rfl] at N
  have SP := fun V => split_any [115, 116, 120] (by decide) V
  rw [show headOf [115, 116, 120] = [115, 116, 120] by decide, show tailOf [115, 116, 120] = [] by decide] at SP
  have OK := fun V => of_raw (kn : Int) V
  unfold insV stV
  go_enter Tryd.func27, Tryd.ntmps27
  go_wp2_with fail
  refine (N _).mono ?_
  rintro e w3 ⟨rfl, b3⟩
  have ki3 := ki.below b3 ki.lt
  have ks3 := ks.below b3 ks.lt
  have kz3 := kz.below b3 kz.lt
  have B3 := B0.trans (b3.mono B0.size)
  clear ki ks kz B0 b3 N
  go_wp2_with fail
  refine (SP _).mono ?_
  rintro e w4 ⟨rfl, b4⟩
  have ki4 := ki3.below b4 ki3.lt
  have ks4 := ks3.below b4 ks3.lt
  have kz4 := kz3.below b4 kz3.lt
  have B4 := B3.trans (b4.mono B3.size)
  have hz4 := kz4.lt
  clear ki3 ks3 kz3 B3 b4 SP
  go_wp2_with (first
    | (refine wpList_store_blk rfl 27 (.tmp 15) (.tmp 33) rfl w4.heap.size _ (abA ab0) 27 rfl rfl (Blk.new_ _ _ _ rfl) rfl (abA_inf _) (abA_one _) ?_
       intro w5 h5 n5
       have J5 : D1 w w5 (3, y, z, (kn : Int)) s w4.heap.size ab0 := ⟨n5.blk' (ki4.alloc _) (by omega), n5.blk' (ks4.alloc _) (by omega), n5.blk' (kz4.alloc _) (by omega), h5, hz4, (B4.alloc B4.size _).trans (n5.below _ B4.size (by simp; have := B4.size; omega))⟩
       clear h5 n5 ki4 ks4 kz4 B4 hz4
       obtain ⟨i0, i1, i2, i3, s1, s2, s3, s4, v0, v1⟩ := J5.facts))
  generalize w4.heap.size = gv at *
  refine (OK _).mono ?_
  rintro e w6 ⟨rfl, b6⟩
  have J6 := J5.below b6
  clear J5 b6 i0 i1 i2 i3 s1 s2 s3 s4 v0 v1 OK
  have hgv := J6.kv.lt
  go_wp2_with (first
    | (refine wpList_store_blk rfl 27 (.tmp 16) (.tmp 69) rfl w6.heap.size _ (abA (sureA (kn : Int))) 27 rfl rfl (Blk.new_ _ _ _ rfl) rfl (abA_inf _) (abA_one _) ?_
       intro w7 h7 n7
       have J7 : D2 w w7 (3, y, z, (kn : Int)) s gv (ab0) w6.heap.size (sureA (kn : Int)) := ⟨J6.below (((Below.refl _ w6).alloc (Nat.le_refl _) _).trans (n7.below _ (Nat.le_refl _) (by simp))), h7, hgv⟩
       clear h7 n7 J6 hgv
       obtain ⟨i0, i1, i2, i3, s1, s2, s3, s4, v0, v1⟩ := J7.d.facts
       obtain ⟨o0, o1⟩ := J7.facts)
    | (refine wpList_load_row rfl 40 (.tmp 7) rfl (w.heap.size + 1) rfl 40 (stC s) (0, 0) _ (J7.d.ks.alloc _).blk Tryd.underlying40 rfl (st_inf hl) ?_)
    | (refine wpList_store_blk rfl 72 (.tmp 17) (.tmp 78) rfl (w7.heap.size + 1) nxZ (nxC (.slice (some ⟨w7.heap.size, 0, none⟩) 1 1) s nil0) 72 rfl (congrArg Value.agg (nx_build7 hl _)) (Blk.new_ _ nxZ _ (by simp)) (nxz_size.trans (nx_size hl).symm) (nx_inf hl) nx_one ?_
       intro w8 h8 n8
       have b8 : Below w7.heap.size w7 w8 := (((Below.refl _ w7).alloc (Nat.le_refl _) _).alloc (by simp) _).trans (n8.below _ (by omega) (by simp; omega))
       have hgo := J7.ko.lt
       have hgv := J7.ho
       have hvv := J7.d.hv
       have hlt : w.heap.size + 1 + 1 < w7.heap.size := by omega
       have J8 : D3 w w8 (3, y, z, (kn : Int)) s gv (ab0) w6.heap.size (sureA (kn : Int)) (w7.heap.size + 1) (nxC (.slice (some ⟨w7.heap.size, 0, none⟩) 1 1) s nil0) := ⟨J7.below b8, h8, by omega⟩
       have kp : Blk w8 w7.heap.size #[.int .i64 ((i : Int) + 1)] 3 := n8.blk' ((Blk.new w7 _ _).alloc _) (by omega)
       clear h8 n8 b8 J7 hgo hgv hvv i0 i1 i2 i3 s1 s2 s3 s4 v0 v1 o0 o1
       obtain ⟨i0, i1, i2, i3, s1, s2, s3, s4, v0, v1⟩ := J8.d.d.facts
       obtain ⟨o0, o1⟩ := J8.d.facts)
    | (refine wpList_store_ab rfl 27 (.tmp 151) (.tmp 148) rfl (w7.heap.size + 1) (6 + kn * 2) (nxC (.slice (some ⟨w7.heap.size, 0, none⟩) 1 1) s nil0) 72 (s.x) _ rfl rfl J8.kn (by rw [nx_size hl]; omega) ab_inf (nx_sm6 hl h16 s.x) ?_
       intro w9 h9 n9
       have J9 := J8.put h9 n9
       have kp9 := n9.blk' kp (by omega)
       clear h9 n9 J8 kp i0 i1 i2 i3 s1 s2 s3 s4 v0 v1 o0 o1)
    | (refine wpList_load_row rfl 72 (.tmp 17) rfl (w7.heap.size + 1) rfl 72 (nxC (.slice (some ⟨w7.heap.size, 0, none⟩) 1 1) ({ s with m := s.m.set kn s.x }) nil0) (0, 0) _ J9.kn.blk Tryd.underlying72 rfl (nx_inf (t := { s with m := s.m.set kn s.x }) hl2) ?_)
    | (refine wpList_store_blk rfl 72 (.tmp 10) (.tmp 245) rfl (w.heap.size + 1 + 1) nxZ (nxC (.slice (some ⟨w7.heap.size, 0, none⟩) 1 1) ({ s with m := s.m.set kn s.x }) nil0) 72 rfl rfl J9.d.d.kz (nxz_size.trans (nx_size (t := { s with m := s.m.set kn s.x }) hl2).symm) (nx_inf (t := { s with m := s.m.set kn s.x }) hl2) nx_one ?_; intro wz hz nz))
  refine bodyPost_ret (v := .agg (nxC (.slice (some ⟨w7.heap.size, 0, none⟩) 1 1) ({ s with m := s.m.set kn s.x }) nil0)) (results_cell_row rfl _ wz (w.heap.size + 1 + 1) 72 (nxC (.slice (some ⟨w7.heap.size, 0, none⟩) 1 1) ({ s with m := s.m.set kn s.x }) nil0) (0, 0) _ rfl hz.blk Tryd.underlying72 rfl (nx_inf (t := { s with m := s.m.set kn s.x }) hl2)) rfl ?_
  exact ⟨_, _, rfl, .inr ⟨_, rfl, nz.blk' kp9 (by omega)⟩, .inl ⟨rfl, rfl⟩, J9.d.d.old.trans (nz.below _ (by omega) J9.d.d.old.size)⟩
set_option maxRecDepth 100000 in
set_option maxHeartbeats 4000000 in
theorem do_5 (y z k : Int) (i : Nat) (hi : i < 64) (hq : insO (5, y, z, k)) (s : StS) (hs : StOk s) (nr arch : Int) (w : World) (hk : 0 ≤ k ∧ k < 64) :
    Calls Tryd.prog 27 #[insV 5 y z k, .int .i64 i, stV s, .int .u32 nr, .int .u32 arch] w fun e w' => ∃ P R, e = .returned (.agg (nxC P (s) R)) ∧ PL w' P ([(i : Int) + 1 + k]) ∧ RL w' R ([]) ∧ Below w.heap.size w w' := by
  have hl := hs.len
  have hsz := st_size hl
  obtain ⟨hk0, hk1⟩ := hk
  have hi' : (i : Int) < 64 := by omega
  have ki := ((Blk.new w (celI (5, y, z, k)).toArray 51).alloc (.cells (stC s) 40)).alloc (.cells nxZ 72)
  have ks := (Blk.new_ (w.alloc (.cells (celI (5, y, z, k)).toArray 51)) (stC s) 40 (n := w.heap.size + 1) (by simp)).alloc (.cells nxZ 72)
  have kz := Blk.new_ ((w.alloc (.cells (celI (5, y, z, k)).toArray 51)).alloc (.cells (stC s) 40)) nxZ 72 (n := w.heap.size + 1 + 1) (by simp)
  have B0 := (((Below.refl w.heap.size w).alloc (Nat.le_refl _) (.cells (celI (5, y, z, k)).toArray 51)).alloc (by simp) (.cells (stC s) 40)).alloc (by simp; omega) (.cells nxZ 72)
  have N := fun V => refname_any 5 V (by decide)
  rw [show nameOf 5 = (⟨#[106, 97]⟩, true) by kernel_rfl] at N
  have SP := fun V => split_any [106, 97] (by decide) V
  rw [show headOf [106, 97] = [106, 97] by decide, show tailOf [106, 97] = [] by decide] at SP
  have OK := fun V => of_raw k V
  unfold insV stV
  go_enter Tryd.func27, Tryd.ntmps27
  go_wp2_with fail
  refine (N _).mono ?_
  rintro e w3 ⟨rfl, b3⟩
  have ki3 := ki.below b3 ki.lt
  have ks3 := ks.below b3 ks.lt
  have kz3 := kz.below b3 kz.lt
  have B3 := B0.trans (b3.mono B0.size)
  clear ki ks kz B0 b3 N
  go_wp2_with fail
  refine (SP _).mono ?_
  rintro e w4 ⟨rfl, b4⟩
  have ki4 := ki3.below b4 ki3.lt
  have ks4 := ks3.below b4 ks3.lt
  have kz4 := kz3.below b4 kz3.lt
  have B4 := B3.trans (b4.mono B3.size)
  have hz4 := kz4.lt
  clear ki3 ks3 kz3 B3 b4 SP
  go_wp2_with (first
    | (refine wpList_store_blk rfl 27 (.tmp 15) (.tmp 33) rfl w4.heap.size _ (abA ab0) 27 rfl rfl (Blk.new_ _ _ _ rfl) rfl (abA_inf _) (abA_one _) ?_
       intro w5 h5 n5
       have J5 : D1 w w5 (5, y, z, k) s w4.heap.size ab0 := ⟨n5.blk' (ki4.alloc _) (by omega), n5.blk' (ks4.alloc _) (by omega), n5.blk' (kz4.alloc _) (by omega), h5, hz4, (B4.alloc B4.size _).trans (n5.below _ B4.size (by simp; have := B4.size; omega))⟩
       clear h5 n5 ki4 ks4 kz4 B4 hz4
       obtain ⟨i0, i1, i2, i3, s1, s2, s3, s4, v0, v1⟩ := J5.facts))
  generalize w4.heap.size = gv at *
  refine (OK _).mono ?_
  rintro e w6 ⟨rfl, b6⟩
  have J6 := J5.below b6
  clear J5 b6 i0 i1 i2 i3 s1 s2 s3 s4 v0 v1 OK
  have hgv := J6.kv.lt
  go_wp2_with (first
    | (refine wpList_store_blk rfl 27 (.tmp 16) (.tmp 69) rfl w6.heap.size _ (abA (sureA k)) 27 rfl rfl (Blk.new_ _ _ _ rfl) rfl (abA_inf _) (abA_one _) ?_
       intro w7 h7 n7
       have J7 : D2 w w7 (5, y, z, k) s gv (ab0) w6.heap.size (sureA k) := ⟨J6.below (((Below.refl _ w6).alloc (Nat.le_refl _) _).trans (n7.below _ (Nat.le_refl _) (by simp))), h7, hgv⟩
       clear h7 n7 J6 hgv
       obtain ⟨i0, i1, i2, i3, s1, s2, s3, s4, v0, v1⟩ := J7.d.facts
       obtain ⟨o0, o1⟩ := J7.facts)
    | (refine wpList_load_row rfl 40 (.tmp 7) rfl (w.heap.size + 1) rfl 40 (stC s) (0, 0) _ (J7.d.ks.alloc _).blk Tryd.underlying40 rfl (st_inf hl) ?_)
    | (refine wpList_store_blk rfl 72 (.tmp 17) (.tmp 78) rfl (w7.heap.size + 1) nxZ (nxC (.slice (some ⟨w7.heap.size, 0, none⟩) 1 1) s nil0) 72 rfl (congrArg Value.agg (nx_build7 hl _)) (Blk.new_ _ nxZ _ (by simp)) (nxz_size.trans (nx_size hl).symm) (nx_inf hl) nx_one ?_
       intro w8 h8 n8
       have b8 : Below w7.heap.size w7 w8 := (((Below.refl _ w7).alloc (Nat.le_refl _) _).alloc (by simp) _).trans (n8.below _ (by omega) (by simp; omega))
       have hgo := J7.ko.lt
       have hgv := J7.ho
       have hvv := J7.d.hv
       have hlt : w.heap.size + 1 + 1 < w7.heap.size := by omega
       have J8 : D3 w w8 (5, y, z, k) s gv (ab0) w6.heap.size (sureA k) (w7.heap.size + 1) (nxC (.slice (some ⟨w7.heap.size, 0, none⟩) 1 1) s nil0) := ⟨J7.below b8, h8, by omega⟩
       have kp : Blk w8 w7.heap.size #[.int .i64 ((i : Int) + 1)] 3 := n8.blk' ((Blk.new w7 _ _).alloc _) (by omega)
       clear h8 n8 b8 J7 hgo hgv hvv i0 i1 i2 i3 s1 s2 s3 s4 v0 v1 o0 o1
       obtain ⟨i0, i1, i2, i3, s1, s2, s3, s4, v0, v1⟩ := J8.d.d.facts
       obtain ⟨o0, o1⟩ := J8.d.facts)
    | (refine wpList_store_fl7 rfl 70 (.tmp 173) (.tmp 172) rfl (w7.heap.size + 1) 0 (nxC (.slice (some ⟨w7.heap.size, 0, none⟩) 1 1) s nil0) 72 (.slice (some ⟨w8.heap.size, 0, none⟩) 1 1) rfl rfl (J8.kn.alloc _) (by rw [nx_size hl]; omega) inf_ints rfl rfl ?_
       intro w9 h9 n9
       rw [nx_p] at h9
       have hn8 := J8.kn.lt
       have J9 := (J8.below ((Below.refl _ w8).alloc (Nat.le_refl _) (.cells #[.int .i64 ((i : Int) + 1 + k)] 3))).put h9 n9
       have kp9 : Blk w9 w8.heap.size #[.int .i64 ((i : Int) + 1 + k)] 3 := n9.blk' (Blk.new w8 _ _) (by omega)
       clear h9 n9 J8 kp i0 i1 i2 i3 s1 s2 s3 s4 v0 v1 o0 o1)
    | (refine wpList_load_row rfl 72 (.tmp 17) rfl (w7.heap.size + 1) rfl 72 (nxC (.slice (some ⟨w8.heap.size, 0, none⟩) 1 1) (s) nil0) (0, 0) _ J9.kn.blk Tryd.underlying72 rfl (nx_inf (t := s) hl) ?_)
    | (refine wpList_store_blk rfl 72 (.tmp 10) (.tmp 245) rfl (w.heap.size + 1 + 1) nxZ (nxC (.slice (some ⟨w8.heap.size, 0, none⟩) 1 1) (s) nil0) 72 rfl rfl J9.d.d.kz (nxz_size.trans (nx_size (t := s) hl).symm) (nx_inf (t := s) hl) nx_one ?_; intro wz hz nz))
  refine bodyPost_ret (v := .agg (nxC (.slice (some ⟨w8.heap.size, 0, none⟩) 1 1) (s) nil0)) (results_cell_row rfl _ wz (w.heap.size + 1 + 1) 72 (nxC (.slice (some ⟨w8.heap.size, 0, none⟩) 1 1) (s) nil0) (0, 0) _ rfl hz.blk Tryd.underlying72 rfl (nx_inf (t := s) hl)) rfl ?_
  exact ⟨_, _, rfl, .inr ⟨_, rfl, nz.blk' kp9 (by omega)⟩, .inl ⟨rfl, rfl⟩, J9.d.d.old.trans (nz.below _ (by omega) J9.d.d.old.size)⟩
set_option maxRecDepth 100000 in
set_option maxHeartbeats 4000000 in
theorem do_6 (y z k : Int) (i : Nat) (hi : i < 64) (hq : insO (6, y, z, k)) (s : StS) (hs : StOk s) (nr arch : Int) (w : World) :
    Calls Tryd.prog 27 #[insV 6 y z k, .int .i64 i, stV s, .int .u32 nr, .int .u32 arch] w fun e w' => ∃ P R, e = .returned (.agg (nxC P (s) R)) ∧ PL w' P ([]) ∧ RL w' R ([sureA k]) ∧ Below w.heap.size w w' := by
  have hl := hs.len
  have hsz := st_size hl
  have OK2 := fun V => of_raw k V
  have hi' : (i : Int) < 64 := by omega
  have ki := ((Blk.new w (celI (6, y, z, k)).toArray 51).alloc (.cells (stC s) 40)).alloc (.cells nxZ 72)
  have ks := (Blk.new_ (w.alloc (.cells (celI (6, y, z, k)).toArray 51)) (stC s) 40 (n := w.heap.size + 1) (by simp)).alloc (.cells nxZ 72)
  have kz := Blk.new_ ((w.alloc (.cells (celI (6, y, z, k)).toArray 51)).alloc (.cells (stC s) 40)) nxZ 72 (n := w.heap.size + 1 + 1) (by simp)
  have B0 := (((Below.refl w.heap.size w).alloc (Nat.le_refl _) (.cells (celI (6, y, z, k)).toArray 51)).alloc (by simp) (.cells (stC s) 40)).alloc (by simp; omega) (.cells nxZ 72)
  have N := fun V => refname_any 6 V (by decide)
  rw [show nameOf 6 = (⟨#[114, 101, 116, 46, 107]⟩, true) by kernel_rfl] at N
  have SP := fun V => split_any [114, 101, 116, 46, 107] (by decide) V
  rw [show headOf [114, 101, 116, 46, 107] = [114, 101, 116] by decide, show tailOf [114, 101, 116, 46, 107] = [107] by decide] at SP
  have OK := fun V => of_raw k V
  unfold insV stV
  go_enter Tryd.func27, Tryd.ntmps27
  go_wp2_with fail
  refine (N _).mono ?_
  rintro e w3 ⟨rfl, b3⟩
  have ki3 := ki.below b3 ki.lt
  have ks3 := ks.below b3 ks.lt
  have kz3 := kz.below b3 kz.lt
  have B3 := B0.trans (b3.mono B0.size)
  clear ki ks kz B0 b3 N
  go_wp2_with fail
  refine (SP _).mono ?_
  rintro e w4 ⟨rfl, b4⟩
  have ki4 := ki3.below b4 ki3.lt
  have ks4 := ks3.below b4 ks3.lt
  have kz4 := kz3.below b4 kz3.lt
  have B4 := B3.trans (b4.mono B3.size)
  have hz4 := kz4.lt
  clear ki3 ks3 kz3 B3 b4 SP
  go_wp2_with (first
    | (refine wpList_store_blk rfl 27 (.tmp 15) (.tmp 33) rfl w4.heap.size _ (abA ab0) 27 rfl rfl (Blk.new_ _ _ _ rfl) rfl (abA_inf _) (abA_one _) ?_
       intro w5 h5 n5
       have J5 : D1 w w5 (6, y, z, k) s w4.heap.size ab0 := ⟨n5.blk' (ki4.alloc _) (by omega), n5.blk' (ks4.alloc _) (by omega), n5.blk' (kz4.alloc _) (by omega), h5, hz4, (B4.alloc B4.size _).trans (n5.below _ B4.size (by simp; have := B4.size; omega))⟩
       clear h5 n5 ki4 ks4 kz4 B4 hz4
       obtain ⟨i0, i1, i2, i3, s1, s2, s3, s4, v0, v1⟩ := J5.facts))
  generalize w4.heap.size = gv at *
  refine (OK _).mono ?_
  rintro e w6 ⟨rfl, b6⟩
  have J6 := J5.below b6
  clear J5 b6 i0 i1 i2 i3 s1 s2 s3 s4 v0 v1 OK
  have hgv := J6.kv.lt
  go_wp2_with (first
    | (refine wpList_store_blk rfl 27 (.tmp 16) (.tmp 69) rfl w6.heap.size _ (abA (sureA k)) 27 rfl rfl (Blk.new_ _ _ _ rfl) rfl (abA_inf _) (abA_one _) ?_
       intro w7 h7 n7
       have J7 : D2 w w7 (6, y, z, k) s gv (ab0) w6.heap.size (sureA k) := ⟨J6.below (((Below.refl _ w6).alloc (Nat.le_refl _) _).trans (n7.below _ (Nat.le_refl _) (by simp))), h7, hgv⟩
       clear h7 n7 J6 hgv
       obtain ⟨i0, i1, i2, i3, s1, s2, s3, s4, v0, v1⟩ := J7.d.facts
       obtain ⟨o0, o1⟩ := J7.facts)
    | (refine wpList_load_row rfl 40 (.tmp 7) rfl (w.heap.size + 1) rfl 40 (stC s) (0, 0) _ (J7.d.ks.alloc _).blk Tryd.underlying40 rfl (st_inf hl) ?_)
    | (refine wpList_store_blk rfl 72 (.tmp 17) (.tmp 78) rfl (w7.heap.size + 1) nxZ (nxC (.slice (some ⟨w7.heap.size, 0, none⟩) 1 1) s nil0) 72 rfl (congrArg Value.agg (nx_build7 hl _)) (Blk.new_ _ nxZ _ (by simp)) (nxz_size.trans (nx_size hl).symm) (nx_inf hl) nx_one ?_
       intro w8 h8 n8
       have b8 : Below w7.heap.size w7 w8 := (((Below.refl _ w7).alloc (Nat.le_refl _) _).alloc (by simp) _).trans (n8.below _ (by omega) (by simp; omega))
       have hgo := J7.ko.lt
       have hgv := J7.ho
       have hvv := J7.d.hv
       have hlt : w.heap.size + 1 + 1 < w7.heap.size := by omega
       have J8 : D3 w w8 (6, y, z, k) s gv (ab0) w6.heap.size (sureA k) (w7.heap.size + 1) (nxC (.slice (some ⟨w7.heap.size, 0, none⟩) 1 1) s nil0) := ⟨J7.below b8, h8, by omega⟩
       have kp : Blk w8 w7.heap.size #[.int .i64 ((i : Int) + 1)] 3 := n8.blk' ((Blk.new w7 _ _).alloc _) (by omega)
       clear h8 n8 b8 J7 hgo hgv hvv i0 i1 i2 i3 s1 s2 s3 s4 v0 v1 o0 o1
       obtain ⟨i0, i1, i2, i3, s1, s2, s3, s4, v0, v1⟩ := J8.d.d.facts
       obtain ⟨o0, o1⟩ := J8.d.facts)
    | (refine wpList_store_fl7 rfl 70 (.tmp 218) (.const (.slice none 0 0)) rfl (w7.heap.size + 1) 0 (nxC (.slice (some ⟨w7.heap.size, 0, none⟩) 1 1) s nil0) 72 nil0 rfl rfl J8.kn (by rw [nx_size hl]; omega) inf_ints rfl rfl ?_
       intro w9 h9 n9
       rw [nx_p] at h9
       have J9b := J8.put h9 n9
       clear h9 n9 J8 kp i0 i1 i2 i3 s1 s2 s3 s4 v0 v1 o0 o1
       obtain ⟨i0, i1, i2, i3, s1, s2, s3, s4, v0, v1⟩ := J9b.d.d.facts))
  refine (OK2 _).mono ?_
  rintro e wa ⟨rfl, ba⟩
  have Ja := J9b.below ba
  clear J9b ba i0 i1 i2 i3 s1 s2 s3 s4 v0 v1 OK2
  go_wp2_with (first
    | (refine wpList_store_fl7 rfl 69 (.tmp 223) (.tmp 222) rfl (w7.heap.size + 1) 38 (nxC nil0 s nil0) 72 (.slice (some ⟨wa.heap.size, 0, none⟩) 1 1) rfl rfl (Ja.kn.alloc _) (by rw [nx_size hl]; omega) inf_abss rfl rfl ?_
       intro wb hb nb
       rw [nx_r hl] at hb
       have hna := Ja.kn.lt
       have J9 := (Ja.below ((Below.refl _ wa).alloc (Nat.le_refl _) (.cells (abA (sureA k)) 27))).put hb nb
       have kp9 : Blk wb wa.heap.size (abA (sureA k)) 27 := nb.blk' (Blk.new wa _ _) (by omega)
       clear hb nb Ja)
    | (refine wpList_load_row rfl 72 (.tmp 17) rfl (w7.heap.size + 1) rfl 72 (nxC nil0 (s) (.slice (some ⟨wa.heap.size, 0, none⟩) 1 1)) (0, 0) _ J9.kn.blk Tryd.underlying72 rfl (nx_inf (t := s) hl) ?_)
    | (refine wpList_store_blk rfl 72 (.tmp 10) (.tmp 245) rfl (w.heap.size + 1 + 1) nxZ (nxC nil0 (s) (.slice (some ⟨wa.heap.size, 0, none⟩) 1 1)) 72 rfl rfl J9.d.d.kz (nxz_size.trans (nx_size (t := s) hl).symm) (nx_inf (t := s) hl) nx_one ?_; intro wz hz nz))
  refine bodyPost_ret (v := .agg (nxC nil0 (s) (.slice (some ⟨wa.heap.size, 0, none⟩) 1 1))) (results_cell_row rfl _ wz (w.heap.size + 1 + 1) 72 (nxC nil0 (s) (.slice (some ⟨wa.heap.size, 0, none⟩) 1 1)) (0, 0) _ rfl hz.blk Tryd.underlying72 rfl (nx_inf (t := s) hl)) rfl ?_
  exact ⟨_, _, rfl, .inl ⟨rfl, rfl⟩, .inr ⟨_, _, rfl, rfl, nz.blk' kp9 (by omega)⟩, J9.d.d.old.trans (nz.below _ (by omega) J9.d.d.old.size)⟩
set_option maxRecDepth 100000 in
set_option maxHeartbeats 4000000 in
theorem do_22 (y z k : Int) (i : Nat) (hi : i < 64) (hq : insO (22, y, z, k)) (s : StS) (hs : StOk s) (nr arch : Int) (w : World) :
    Calls Tryd.prog 27 #[insV 22 y z k, .int .i64 i, stV s, .int .u32 nr, .int .u32 arch] w fun e w' => ∃ P R, e = .returned (.agg (nxC P (s) R)) ∧ PL w' P ([]) ∧ RL w' R ([s.a]) ∧ Below w.heap.size w w' := by
  have hl := hs.len
  have hsz := st_size hl
  have OK2 := fun V => of_raw k V
  have hi' : (i : Int) < 64 := by omega
  have ki := ((Blk.new w (celI (22, y, z, k)).toArray 51).alloc (.cells (stC s) 40)).alloc (.cells nxZ 72)
  have ks := (Blk.new_ (w.alloc (.cells (celI (22, y, z, k)).toArray 51)) (stC s) 40 (n := w.heap.size + 1) (by simp)).alloc (.cells nxZ 72)
  have kz := Blk.new_ ((w.alloc (.cells (celI (22, y, z, k)).toArray 51)).alloc (.cells (stC s) 40)) nxZ 72 (n := w.heap.size + 1 + 1) (by simp)
  have B0 := (((Below.refl w.heap.size w).alloc (Nat.le_refl _) (.cells (celI (22, y, z, k)).toArray 51)).alloc (by simp) (.cells (stC s) 40)).alloc (by simp; omega) (.cells nxZ 72)
  have N := fun V => refname_any 22 V (by decide)
  rw [show nameOf 22 = (⟨#[114, 101, 116, 46, 97]⟩, true) by kernel_rfl] at N
  have SP := fun V => split_any [114, 101, 116, 46, 97] (by decide) V
  rw [show headOf [114, 101, 116, 46, 97] = [114, 101, 116] by decide, show tailOf [114, 101, 116, 46, 97] = [97] by decide] at SP
  have OK := fun V => of_raw k V
  unfold insV stV
  go_enter Tryd.func27, Tryd.ntmps27
  go_wp2_with fail
  refine (N _).mono ?_
  rintro e w3 ⟨rfl, b3⟩
  have ki3 := ki.below b3 ki.lt
  have ks3 := ks.below b3 ks.lt
  have kz3 := kz.below b3 kz.lt
  have B3 := B0.trans (b3.mono B0.size)
  clear ki ks kz B0 b3 N
  go_wp2_with fail
  refine (SP _).mono ?_
  rintro e w4 ⟨rfl, b4⟩
  have ki4 := ki3.below b4 ki3.lt
  have ks4 := ks3.below b4 ks3.lt
  have kz4 := kz3.below b4 kz3.lt
  have B4 := B3.trans (b4.mono B3.size)
  have hz4 := kz4.lt
  clear ki3 ks3 kz3 B3 b4 SP
  go_wp2_with (first
    | (refine wpList_store_blk rfl 27 (.tmp 15) (.tmp 33) rfl w4.heap.size _ (abA ab0) 27 rfl rfl (Blk.new_ _ _ _ rfl) rfl (abA_inf _) (abA_one _) ?_
       intro w5 h5 n5
       have J5 : D1 w w5 (22, y, z, k) s w4.heap.size ab0 := ⟨n5.blk' (ki4.alloc _) (by omega), n5.blk' (ks4.alloc _) (by omega), n5.blk' (kz4.alloc _) (by omega), h5, hz4, (B4.alloc B4.size _).trans (n5.below _ B4.size (by simp; have := B4.size; omega))⟩
       clear h5 n5 ki4 ks4 kz4 B4 hz4
       obtain ⟨i0, i1, i2, i3, s1, s2, s3, s4, v0, v1⟩ := J5.facts))
  generalize w4.heap.size = gv at *
  refine (OK _).mono ?_
  rintro e w6 ⟨rfl, b6⟩
  have J6 := J5.below b6
  clear J5 b6 i0 i1 i2 i3 s1 s2 s3 s4 v0 v1 OK
  have hgv := J6.kv.lt
  go_wp2_with (first
    | (refine wpList_store_blk rfl 27 (.tmp 16) (.tmp 69) rfl w6.heap.size _ (abA (sureA k)) 27 rfl rfl (Blk.new_ _ _ _ rfl) rfl (abA_inf _) (abA_one _) ?_
       intro w7 h7 n7
       have J7 : D2 w w7 (22, y, z, k) s gv (ab0) w6.heap.size (sureA k) := ⟨J6.below (((Below.refl _ w6).alloc (Nat.le_refl _) _).trans (n7.below _ (Nat.le_refl _) (by simp))), h7, hgv⟩
       clear h7 n7 J6 hgv
       obtain ⟨i0, i1, i2, i3, s1, s2, s3, s4, v0, v1⟩ := J7.d.facts
       obtain ⟨o0, o1⟩ := J7.facts)
    | (refine wpList_load_row rfl 40 (.tmp 7) rfl (w.heap.size + 1) rfl 40 (stC s) (0, 0) _ (J7.d.ks.alloc _).blk Tryd.underlying40 rfl (st_inf hl) ?_)
    | (refine wpList_store_blk rfl 72 (.tmp 17) (.tmp 78) rfl (w7.heap.size + 1) nxZ (nxC (.slice (some ⟨w7.heap.size, 0, none⟩) 1 1) s nil0) 72 rfl (congrArg Value.agg (nx_build7 hl _)) (Blk.new_ _ nxZ _ (by simp)) (nxz_size.trans (nx_size hl).symm) (nx_inf hl) nx_one ?_
       intro w8 h8 n8
       have b8 : Below w7.heap.size w7 w8 := (((Below.refl _ w7).alloc (Nat.le_refl _) _).alloc (by simp) _).trans (n8.below _ (by omega) (by simp; omega))
       have hgo := J7.ko.lt
       have hgv := J7.ho
       have hvv := J7.d.hv
       have hlt : w.heap.size + 1 + 1 < w7.heap.size := by omega
       have J8 : D3 w w8 (22, y, z, k) s gv (ab0) w6.heap.size (sureA k) (w7.heap.size + 1) (nxC (.slice (some ⟨w7.heap.size, 0, none⟩) 1 1) s nil0) := ⟨J7.below b8, h8, by omega⟩
       have kp : Blk w8 w7.heap.size #[.int .i64 ((i : Int) + 1)] 3 := n8.blk' ((Blk.new w7 _ _).alloc _) (by omega)
       clear h8 n8 b8 J7 hgo hgv hvv i0 i1 i2 i3 s1 s2 s3 s4 v0 v1 o0 o1
       obtain ⟨i0, i1, i2, i3, s1, s2, s3, s4, v0, v1⟩ := J8.d.d.facts
       obtain ⟨o0, o1⟩ := J8.d.facts)
    | (refine wpList_store_fl7 rfl 70 (.tmp 218) (.const (.slice none 0 0)) rfl (w7.heap.size + 1) 0 (nxC (.slice (some ⟨w7.heap.size, 0, none⟩) 1 1) s nil0) 72 nil0 rfl rfl J8.kn (by rw [nx_size hl]; omega) inf_ints rfl rfl ?_
       intro w9 h9 n9
       rw [nx_p] at h9
       have J9b := J8.put h9 n9
       clear h9 n9 J8 kp i0 i1 i2 i3 s1 s2 s3 s4 v0 v1 o0 o1
       obtain ⟨i0, i1, i2, i3, s1, s2, s3, s4, v0, v1⟩ := J9b.d.d.facts))
  refine (OK2 _).mono ?_
  rintro e wa ⟨rfl, ba⟩
  have Ja := J9b.below ba
  clear J9b ba i0 i1 i2 i3 s1 s2 s3 s4 v0 v1 OK2
  go_wp2_with (first
    | (refine wpList_store_fl7 rfl 69 (.tmp 223) (.tmp 222) rfl (w7.heap.size + 1) 38 (nxC nil0 s nil0) 72 (.slice (some ⟨wa.heap.size, 0, none⟩) 1 1) rfl rfl (Ja.kn.alloc _) (by rw [nx_size hl]; omega) inf_abss rfl rfl ?_
       intro wb hb nb
       rw [nx_r hl] at hb
       have hna := Ja.kn.lt
       have J9c := (Ja.below ((Below.refl _ wa).alloc (Nat.le_refl _) (.cells (abA (sureA k)) 27))).put hb nb
       have kp9c : Blk wb wa.heap.size (abA (sureA k)) 27 := nb.blk' (Blk.new wa _ _) (by omega)
       clear hb nb Ja
       obtain ⟨i0, i1, i2, i3, s1, s2, s3, s4, v0, v1⟩ := J9c.d.d.facts)
    | (refine wpList_store_fl7 rfl 69 (.tmp 229) (.tmp 228) rfl (w7.heap.size + 1) 38 (nxC nil0 s (.slice (some ⟨wa.heap.size, 0, none⟩) 1 1)) 72 (.slice (some ⟨wb.heap.size, 0, none⟩) 1 1) rfl rfl (J9c.kn.alloc _) (by rw [nx_size hl]; omega) inf_abss rfl rfl ?_
       intro wc hc nc
       rw [nx_r hl] at hc
       have hnb := J9c.kn.lt
       have J9 := (J9c.below ((Below.refl _ wb).alloc (Nat.le_refl _) (.cells (abA s.a) 27))).put hc nc
       have kp9 : Blk wc wb.heap.size (abA s.a) 27 := nc.blk' (Blk.new wb _ _) (by omega)
       clear hc nc J9c i0 i1 i2 i3 s1 s2 s3 s4 v0 v1)
    | (refine wpList_load_row rfl 72 (.tmp 17) rfl (w7.heap.size + 1) rfl 72 (nxC nil0 (s) (.slice (some ⟨wb.heap.size, 0, none⟩) 1 1)) (0, 0) _ J9.kn.blk Tryd.underlying72 rfl (nx_inf (t := s) hl) ?_)
    | (refine wpList_store_blk rfl 72 (.tmp 10) (.tmp 245) rfl (w.heap.size + 1 + 1) nxZ (nxC nil0 (s) (.slice (some ⟨wb.heap.size, 0, none⟩) 1 1)) 72 rfl rfl J9.d.d.kz (nxz_size.trans (nx_size (t := s) hl).symm) (nx_inf (t := s) hl) nx_one ?_; intro wz hz nz))
  refine bodyPost_ret (v := .agg (nxC nil0 (s) (.slice (some ⟨wb.heap.size, 0, none⟩) 1 1))) (results_cell_row rfl _ wz (w.heap.size + 1 + 1) 72 (nxC nil0 (s) (.slice (some ⟨wb.heap.size, 0, none⟩) 1 1)) (0, 0) _ rfl hz.blk Tryd.underlying72 rfl (nx_inf (t := s) hl)) rfl ?_
  exact ⟨_, _, rfl, .inl ⟨rfl, rfl⟩, .inr ⟨_, _, rfl, rfl, nz.blk' kp9 (by omega)⟩, J9.d.d.old.trans (nz.below _ (by omega) J9.d.d.old.size)⟩
end Go.Proofs.YtehcijockeecpaaDoor
