/-
  PlC, PlK, PlU, PlN, PlZo, PlU2, PlE: in one file.
-/
import Derived.Test.YtelfdpcenplhjaaGreatDoorQCkN
import Derived.Test.YtelfdpcenplhjaaGreatDoorQCkCheck
import Derived.Test.YtelfdpcenplhjaaGreatDoorQHH
import Derived.Test.YtelfdpcenplhjaaGreatDoorQHE
namespace Go.Proofs.YtelfdpcenplhjaaGreatDoor
open Go.RowKit Go.Shelf
set_option linter.unusedVariables false
set_option linter.unusedSimpArgs false
def idR (L : List Nl) (id : Int) : Nl × Bool := match L.find? (fun x => x.1.i == id) with | some r => (r, true) | none => (nl0, false)
theorem RowR.eq {L : List Nl} {id : Int} {r : Nl} {b : Bool} (h : RowR L id r b) : idR L id = (r, b) := by
  unfold idR
  rcases h with ⟨h, rfl⟩ | ⟨h, rfl, rfl⟩ <;> rw [h]
def chkG (g : List Ins) : Int := (chkI (gF g) g.length).2
def standV (L : List Nl) (x : Nm) : Bool :=
  ((idR L x.p).2 || x.p == 0) && (chkG x.g == 0) && (x.z == IntKind.i64.wrap ((x.g.length : Int) + 4 + (idR L x.p).1.1.z)) && decide (x.z ≤ 256) && decide (max 1 (kidsN L x.i : Int) ≤ x.k)
structure SC (w V : World) (A : Option Addr) (m c : Nat) (x r : Nl) (g5 : Nat) : Prop where
  k2 : Blk V w.heap.size #[.slice A m c] 24
  k3 : Blk V (w.heap.size + 1) (ndC x) 46
  k5 : Blk V g5 (ndC r) 46
  old : Below w.heap.size w V
theorem SC.below {w V V' : World} {A : Option Addr} {m c : Nat} {x r : Nl} {g5 : Nat} (h : SC w V A m c x r g5) (hb : Below V.heap.size V V') : SC w V' A m c x r g5 := ⟨h.k2.below hb h.k2.lt, h.k3.below hb h.k3.lt, h.k5.below hb h.k5.lt, h.old.trans (hb.mono h.old.size)⟩
theorem SC.facts {w V : World} {A : Option Addr} {m c : Nat} {x r : Nl} {g5 : Nat} (h : SC w V A m c x r g5) : V.cell? ⟨w.heap.size, 0, none⟩ = some (.slice A m c) ∧ V.cell? ⟨w.heap.size + 1, 0, none⟩ = some (.int .i64 x.1.i) ∧ V.cell? ⟨w.heap.size + 1, 1, none⟩ = some (.int .i64 x.1.p) ∧ V.cell? ⟨w.heap.size + 1, 2, none⟩ = some (.slice x.2.1 x.1.g.length x.2.2) ∧
    V.cell? ⟨w.heap.size + 1, 3, none⟩ = some (.int .i64 x.1.z) ∧ V.cell? ⟨w.heap.size + 1, 4, none⟩ = some (.int .i64 x.1.k) := ⟨h.k2.cell 0, h.k3.cell 0, h.k3.cell 1, h.k3.cell 2, h.k3.cell 3, h.k3.cell 4⟩
theorem po_info (A : Option Addr) (m c : Nat) : (Tryz.prog.info? 24).map (·.size) = some (#[Value.slice A m c] : Array Value).size := by kernel_rfl
set_option maxRecDepth 100000 in
set_option maxHeartbeats 8000000 in
theorem stands_any (A : Option Addr) (m c : Nat) (L : List Nl) (x : Nl) (w : World) (hK : Kinds w) (hP : Po w w.heap.size A L) (hm : m = L.length) (hmc : m ≤ c) (h6 : m ≤ 1000000) (hx : Nr w w.heap.size x) :
    Calls Tryz.prog 55 #[poV A m c, ndV x] w fun e w' => e = .returned (.bool (standV L x.1)) ∧ Below w.heap.size w w' := by
  have k2 := (Blk.new w #[.slice A m c] 24).alloc (.cells (ndC x) 46)
  have k3 := Blk.new_ (w.alloc (.cells #[.slice A m c] 24)) (ndC x) 46 (n := w.heap.size + 1) (by simp)
  have B0 := ((Below.refl w.heap.size w).alloc (Nat.le_refl _) (.cells #[.slice A m c] 24)).alloc (by simp) (.cells (ndC x) 46)
  have HM := Lib.hid hm
  clear hm
  have q2 : _ = some (Value.slice A m c) := k2.cell 0
  have q1 : _ = some (Value.int .i64 x.1.p) := k3.cell 1
  unfold poV ndV
  go_enter Tryz.func55, Tryz.ntmps55
  go_wp2_with (refine wpList_load_row rfl 24 (.tmp 2) rfl w.heap.size rfl 24 #[.slice A m c] (0, 0) _ k2.blk Tryz.underlying24 rfl (po_info A m c) ?_)
  have HPW := (hP.below B0 (Nat.le_refl _)).more B0.size
  refine (row_any A m c L x.1.p _ HPW HM.out hmc h6).mono ?_
  rintro e w1 ⟨r, b, rfl, hr, bb⟩
  have hre := hr.eq
  have hnr := hr.nr hP.nr
  have hsv : standV L x.1 = ((b || x.1.p == 0) && (chkG x.1.g == 0) && (x.1.z == IntKind.i64.wrap ((x.1.g.length : Int) + 4 + r.1.z)) && decide (x.1.z ≤ 256) && decide (max 1 (kidsN L x.1.i : Int) ≤ x.1.k)) := by
    unfold standV
    rw [hre]
  have HSV := Lib.hid hsv
  have k21 := k2.below bb k2.lt
  have k31 := k3.below bb k3.lt
  have b1 := B0.trans (bb.mono B0.size)
  clear hr hre hsv k2 k3 B0 bb HPW q1 q2
  have hxl := hx.ok.l
  have hg := fun (V : World) (hV : Below w.heap.size w V) => check_any x.2.1 x.1.g.length x.2.2 (gF x.1.g) V (hK.below hV hK.pos) ((hx.ri.below hV (Nat.le_refl _)).more hV.size)
  have hps := fun (V : World) (hV : Below w.heap.size w V) => psize_any x.2.1 x.1.g.length x.2.2 r hnr.ok hxl V
  have hch := fun (V : World) (hV : Below w.heap.size w V) => children_any A m c L x.1.i V ((hP.below hV (Nat.le_refl _)).more hV.size) HM.out hmc h6
  obtain ⟨c1, hc1⟩ : ∃ c1, (chkI (gF x.1.g) x.1.g.length).1 = c1 := ⟨_, rfl⟩
  obtain ⟨c2, hc2⟩ : ∃ c2, (chkI (gF x.1.g) x.1.g.length).2 = c2 := ⟨_, rfl⟩
  obtain ⟨zz, hzz⟩ : ∃ zz, IntKind.i64.wrap ((x.1.g.length : Int) + 4 + r.1.z) = zz := ⟨_, rfl⟩
  obtain ⟨kn, hkn⟩ : ∃ kn, kidsN L x.1.i = kn := ⟨_, rfl⟩
  have hkl : kn ≤ 1000000 := by have := kids_le L x.1.i; have := HM.out; omega
  have HSV2 : Hid (standV L x.1 = ((b || x.1.p == 0) && (c2 == 0) && (x.1.z == zz) && decide (x.1.z ≤ 256) && decide (max 1 (kn : Int) ≤ x.1.k))) := Lib.hid (by rw [HSV.out]; unfold chkG; rw [hc2, hzz, hkn])
  simp only [hc1, hc2] at hg
  rw [hzz] at hps
  simp only [hkn] at hch
  obtain ⟨z0, z1⟩ := hx.ok.z
  obtain ⟨kk0, kk1⟩ := hx.ok.k
  clear hc1 hc2 hzz hkn HSV hP HM hxl
  obtain ⟨gd, hgd⟩ : ∃ gd, (b || x.1.p == 0) = gd := ⟨_, rfl⟩
  have HG := Lib.hid hgd
  unfold ndV at hps ⊢
  cases gd
  · have hb : b = false := by cases b <;> simp_all
    subst hb
    have hp : (x.1.p != 0) = true := by simpa using hgd
    clear hgd
    go_wp2_with (first
      | (refine wpList_store_blk rfl 46 (.tmp 5) (.tmp 14) rfl w1.heap.size (ndC nl0) (ndC r) 46 rfl rfl (Blk.new _ _ _) rfl (nd_inf r) (nd_one r) ?_
         intro w2 h2 n2
         have bb : Below w1.heap.size w1 w2 := ((Below.refl _ w1).alloc (Nat.le_refl _) _).trans (n2.below _ (Nat.le_refl _) (by simp))
         have J2 : SC w w2 A m c x r w1.heap.size := ⟨k21.below bb k21.lt, k31.below bb k31.lt, h2, b1.trans (bb.mono b1.size)⟩
         clear n2 bb h2 k21 k31 b1
         obtain ⟨q0, q1, q2, q3, q4, q5⟩ := J2.facts))
    go_ret
    exact ⟨by rw [HSV2.out, HG.out]; rfl, J2.old⟩
  · have key : b = true ∨ (b = false ∧ (x.1.p != 0) = false) := by cases b <;> simp_all
    clear hgd
    rcases key with rfl | ⟨rfl, hp⟩
    all_goals
      go_wp2_with (first
        | (refine wpList_store_blk rfl 46 (.tmp 5) (.tmp 14) rfl w1.heap.size (ndC nl0) (ndC r) 46 rfl rfl (Blk.new _ _ _) rfl (nd_inf r) (nd_one r) ?_
           intro w2 h2 n2
           have bb : Below w1.heap.size w1 w2 := ((Below.refl _ w1).alloc (Nat.le_refl _) _).trans (n2.below _ (Nat.le_refl _) (by simp))
           have J2 : SC w w2 A m c x r w1.heap.size := ⟨k21.below bb k21.lt, k31.below bb k31.lt, h2, b1.trans (bb.mono b1.size)⟩
           clear n2 bb h2 k21 k31 b1
           obtain ⟨q0, q1, q2, q3, q4, q5⟩ := J2.facts))
      refine (hg w2 J2.old).mono ?_
      rintro e w3 ⟨rfl, bb⟩
      have J3 := J2.below bb
      generalize w1.heap.size = g5 at J3 ⊢
      clear bb J2 hg q0 q1 q2 q3 q4 q5
      by_cases hc0 : c2 = 0
      · have hcc : (c2 != 0) = false := by simpa using hc0
        have hcc2 : (c2 == 0) = true := by simpa using hc0
        have HCC := Lib.hid hcc2
        clear hc0 hcc2
        go_wp2_with fail
        have Jd := J3.below (Below.refl _ _).drew
        have CS := Lib.hid (calls_keep (S := fun V => SC w V A m c x r g5) (fun V V' h hb => h.below hb) (fun V h => hps V h.old))
        have CC := Lib.hid (calls_keep (S := fun V => SC w V A m c x r g5) (fun V V' h hb => h.below hb) (fun V h => hch V h.old))
        have hne : Nonempty (Sig (fun V => SC w V A m c x r g5)) := ⟨⟨_, Jd⟩⟩
        have f0 : ∀ s' : Sig (fun V => SC w V A m c x r g5), s'.V.cell? ⟨w.heap.size, 0, none⟩ = some (.slice A m c) := fun s' => s'.h.facts.1
        have f1 : ∀ s' : Sig (fun V => SC w V A m c x r g5), s'.V.cell? ⟨w.heap.size + 1, 0, none⟩ = some (.int .i64 x.1.i) := fun s' => s'.h.facts.2.1
        have f2 : ∀ s' : Sig (fun V => SC w V A m c x r g5), s'.V.cell? ⟨w.heap.size + 1, 2, none⟩ = some (.slice x.2.1 x.1.g.length x.2.2) := fun s' => s'.h.facts.2.2.2.1
        have f3 : ∀ s' : Sig (fun V => SC w V A m c x r g5), s'.V.cell? ⟨w.heap.size + 1, 3, none⟩ = some (.int .i64 x.1.z) := fun s' => s'.h.facts.2.2.2.2.1
        have f4 : ∀ s' : Sig (fun V => SC w V A m c x r g5), s'.V.cell? ⟨w.heap.size + 1, 4, none⟩ = some (.int .i64 x.1.k) := fun s' => s'.h.facts.2.2.2.2.2
        unfold poV at CC
        cases he1 : (x.1.z == zz)
        · have HE := Lib.hid he1
          refine region_class (S := fun V => SC w V A m c x r g5) (by kernel_rfl) (by kernel_rfl) Jd ?_
          iterate 4 go_big_quiet_step (fail)
          refine class_load (by rfl) 46 (.tmp 5) rfl g5 rfl (ndC r) 46 _ (fun _ h => h.k5) Tryz.underlying46 rfl (nd_inf r) ?_
          simp only [Act.put, List.setIfInBounds_toArray, List.set_cons_zero, List.set_cons_succ]
          repeat (go_big_quiet_step (first | (go_at_call 69; exact class_call _ CS.out)))
          refine wpQuiet_nil ?_
          rintro _ ⟨s7, rfl⟩
          have J7 := s7.h
          clear hne CS CC Jd f0 f1 f2 f3 f4
          go_wp2_with fail
          go_ret
          exact ⟨by rw [HSV2.out, HE.out]; simp, J7.old⟩
        · cases he2 : decide (x.1.z ≤ 256)
          · have HE := Lib.hid he2
            refine region_class (S := fun V => SC w V A m c x r g5) (by kernel_rfl) (by kernel_rfl) Jd ?_
            iterate 4 go_big_quiet_step (fail)
            refine class_load (by rfl) 46 (.tmp 5) rfl g5 rfl (ndC r) 46 _ (fun _ h => h.k5) Tryz.underlying46 rfl (nd_inf r) ?_
            simp only [Act.put, List.setIfInBounds_toArray, List.set_cons_zero, List.set_cons_succ]
            repeat (go_big_quiet_step (first | (go_at_call 69; exact class_call _ CS.out)))
            refine wpQuiet_nil ?_
            rintro _ ⟨s7, rfl⟩
            have J7 := s7.h
            clear hne CS CC Jd f0 f1 f2 f3 f4
            go_wp2_with fail
            go_ret
            exact ⟨by rw [HSV2.out, HE.out]; simp, J7.old⟩
          · have HE1 := Lib.hid he1
            have HE2 := Lib.hid he2
            by_cases hkm : (kn : Int) ≤ 1
            · have hmx := Lib.hid (show max 1 (kn : Int) = 1 by omega)
              refine region_class (S := fun V => SC w V A m c x r g5) (by kernel_rfl) (by kernel_rfl) Jd ?_
              iterate 4 go_big_quiet_step (fail)
              refine class_load (by rfl) 46 (.tmp 5) rfl g5 rfl (ndC r) 46 _ (fun _ h => h.k5) Tryz.underlying46 rfl (nd_inf r) ?_
              simp only [Act.put, List.setIfInBounds_toArray, List.set_cons_zero, List.set_cons_succ]
              repeat (go_big_quiet_step (first | (go_at_call 69; exact class_call _ CS.out) | (go_at_call 45; exact class_call _ CC.out)))
              refine wpQuiet_nil ?_
              rintro _ ⟨s7, rfl⟩
              have J7 := s7.h
              clear hne CS CC Jd f0 f1 f2 f3 f4
              go_wp2_with fail
              go_ret
              exact ⟨by rw [HSV2.out, HG.out, HCC.out, HE1.out, HE2.out, hmx.out]; rfl, J7.old⟩
            · have hmx := Lib.hid (show max 1 (kn : Int) = (kn : Int) by omega)
              have hkm' : (1 : Int) < kn := by omega
              refine region_class (S := fun V => SC w V A m c x r g5) (by kernel_rfl) (by kernel_rfl) Jd ?_
              iterate 4 go_big_quiet_step (fail)
              refine class_load (by rfl) 46 (.tmp 5) rfl g5 rfl (ndC r) 46 _ (fun _ h => h.k5) Tryz.underlying46 rfl (nd_inf r) ?_
              simp only [Act.put, List.setIfInBounds_toArray, List.set_cons_zero, List.set_cons_succ]
              repeat (go_big_quiet_step (first | (go_at_call 69; exact class_call _ CS.out) | (go_at_call 45; exact class_call _ CC.out)))
              refine wpQuiet_nil ?_
              rintro _ ⟨s7, rfl⟩
              have J7 := s7.h
              clear hne CS CC Jd f0 f1 f2 f3 f4
              go_wp2_with fail
              go_ret
              exact ⟨by rw [HSV2.out, HG.out, HCC.out, HE1.out, HE2.out, hmx.out]; rfl, J7.old⟩
      · have hcc : (c2 != 0) = true := by simpa using hc0
        have hcc2 : (c2 == 0) = false := by simpa using hc0
        have HCC := Lib.hid hcc2
        clear hc0 hcc2
        go_wp2_with fail
        go_ret
        exact ⟨by rw [HSV2.out, HCC.out]; simp, J3.old⟩
end Go.Proofs.YtelfdpcenplhjaaGreatDoor
namespace Go.Proofs.YtelfdpcenplhjaaGreatDoor
open Go.RowKit Go.Shelf
set_option linter.unusedVariables false
set_option linter.unusedSimpArgs false
theorem check1_any (A : Option Addr) (m c : Nat) (L : List Nl) (x : Nl) (B : Nat) (w : World) (hK : Kinds w) (hP : Po w w.heap.size A L) (hm : m = L.length) (hmc : m ≤ c) (h6 : m ≤ 1000000) (hB : Blk w B #[.slice A m c] 24) (hx : Nr w w.heap.size x) :
    Calls Tryz.prog 54 #[ndV x, .pointer (some ⟨B, 0, none⟩)] w fun e w' => e = .returned (.bool (!standV L x.1)) ∧ Below w.heap.size w w' := by
  have k1 := hB.alloc (.cells (ndC x) 46)
  have k2 := Blk.new w (ndC x) 46
  have b1 := (Below.refl w.heap.size w).alloc (Nat.le_refl _) (.cells (ndC x) 46)
  have CS := stands_any A m c L x _ (hK.below b1 hK.pos) ((hP.below b1 (Nat.le_refl _)).more b1.size) hm hmc h6 ((hx.below b1 (Nat.le_refl _)).more b1.size)
  clear hm
  unfold poV ndV at CS
  unfold ndV
  go_enter Tryz.func54, Tryz.ntmps54
  go_wp2_with (first
    | (refine wpList_load_row rfl 24 (.tmp 1) rfl B rfl 24 #[.slice A m c] (0, 0) _ k1.blk Tryz.underlying24 rfl (po_info A m c) ?_)
    | (refine wpList_load_row rfl 46 (.tmp 2) rfl w.heap.size rfl 46 (ndC x) (0, 0) _ k2.blk Tryz.underlying46 rfl (nd_inf x) ?_))
  refine CS.mono ?_
  rintro e w1 ⟨rfl, bb⟩
  go_wp2_with fail
  go_ret
  exact ⟨rfl, b1.trans (bb.mono b1.size)⟩
def chkP (L : List Nl) : Int := if riseB 0 L && L.all (fun x => standV L x.1) then 0 else 190
theorem all_of_find {α : Type} {L : List α} {p : α → Bool} : (L.find? (fun x => !p x) = none) → L.all p = true := fun h => by
  rw [List.all_eq_true]
  intro x hx
  have := List.find?_eq_none.1 h x hx
  simpa using this
theorem all_of_found {α : Type} {L : List α} {p : α → Bool} {r : α} : (L.find? (fun x => !p x) = some r) → L.all p = false := fun h => by
  have h1 := List.mem_of_find?_eq_some h
  have h2 := List.find?_some h
  rw [List.all_eq_false]
  exact ⟨r, h1, by simpa using h2⟩
theorem firstK_any (A : Option Addr) (m c : Nat) (L : List Nl) (gv B : Nat) (w : World) (hK : Kinds w) (hP : Po w w.heap.size A L) (hm : m = L.length) (hmc : m ≤ c) (h6 : m ≤ 1000000) (hv : Boxed w gv 22 (.slice A m c)) (hB : Blk w B #[.slice A m c] 24) :
    Calls Tryz.prog 52 #[.func (.func 78) #[] #[.pointer (some ⟨gv, 0, none⟩)], .func (.func 54) #[] #[.pointer (some ⟨B, 0, none⟩)]] w fun e w' =>
      ∃ r b, e = .returned (.tuple #[ndV r, .bool b]) ∧ (b = !(L.all fun x => standV L x.1)) ∧ Below w.heap.size w w' := by
  have h := first_any 78 #[.pointer (some ⟨gv, 0, none⟩)] 54 #[.pointer (some ⟨B, 0, none⟩)] L (fun x => !standV L x) m w (enters_of Tryz.func78 (by kernel_rfl) rfl) (enters_of Tryz.func54 (by kernel_rfl) rfl)
    (fun w' hw' => seq_weak (pvalues_seq 5 (by omega) w w.heap.size gv m c A L w' hw' (hP.below hw' (Nat.le_refl _)) hP.nr (boxed_below hv hw' hv.lt) hm hmc h6 hv.lt hw'.size) fun _ _ h => h.1)
    (fun x W hW hx => check1_any A m c L x B W (hK.below hW hK.pos) ((hP.below hW (Nat.le_refl _)).more hW.size) hm hmc h6 (hB.below hW hB.lt) (hx.more hW.size))
  refine h.mono ?_
  rintro e w' ⟨r, b, h1, h2, h3⟩
  refine ⟨r, b, h1, ?_, h3⟩
  rcases h2 with ⟨hf, rfl⟩ | ⟨hf, _, rfl⟩
  · rw [all_of_found (p := fun x : Nl => standV L x.1) hf]; rfl
  · rw [all_of_find (p := fun x : Nl => standV L x.1) hf]; rfl
set_option maxRecDepth 100000 in
set_option maxHeartbeats 4000000 in
theorem pcheck_any (A : Option Addr) (m c : Nat) (L : List Nl) (w : World) (hK : Kinds w) (hP : Po w w.heap.size A L) (hm : m = L.length) (hmc : m ≤ c) (h6 : m ≤ 1000000) :
    Calls Tryz.prog 19 #[poV A m c] w fun e w' => e = .returned (.int .i64 (chkP L)) ∧ Below w.heap.size w w' := by
  have k1 := Blk.new w #[.slice A m c] 24
  have b0 := (Below.refl w.heap.size w).alloc (Nat.le_refl _) (.cells #[.slice A m c] 24)
  have CR := rise_any A m c L _ ((hP.below b0 (Nat.le_refl _)).more b0.size) hm hmc h6
  have HM := Lib.hid hm
  clear hm
  unfold poV at CR ⊢
  go_enter Tryz.func19, Tryz.ntmps19
  go_wp2_with (refine wpList_load_row rfl 24 (.tmp 1) rfl w.heap.size rfl 24 #[.slice A m c] (0, 0) _ k1.blk Tryz.underlying24 rfl (po_info A m c) ?_)
  refine CR.mono ?_
  rintro e w1 ⟨rfl, bb⟩
  have k11 := k1.below bb k1.lt
  have b1 := b0.trans (bb.mono b0.size)
  have q1 : _ = some (Value.slice A m c) := k11.cell 0
  clear CR k1 b0 bb
  cases hr : riseB 0 L
  · have HR := Lib.hid hr
    clear hr
    go_wp2_with fail
    go_ret
    exact ⟨by unfold chkP; rw [HR.out]; rfl, b1⟩
  · have HR := Lib.hid hr
    clear hr
    go_wp2_with fail
    refine (pvalues_box A m c _).mono ?_
    rintro e w2 ⟨gv, rfl, hv, bb⟩
    have b2 := b1.trans (bb.mono b1.size)
    have k12 := k11.below bb k11.lt
    clear b1 k11 bb q1
    go_wp2_with fail
    have hP2 := (hP.below b2 (Nat.le_refl _)).more b2.size
    have hK2 := hK.below b2 hK.pos
    refine (firstK_any A m c L gv w.heap.size w2 hK2 hP2 HM.out hmc h6 hv k12).mono ?_
    rintro e w3 ⟨r, b, rfl, hf, bb⟩
    have b3 := b2.trans (bb.mono b2.size)
    clear bb b2 hP2 hK2 hv k12
    have HA := Lib.hid hf
    clear hf
    unfold ndV
    cases b
    all_goals
      go_wp2_with (refine wpList_store_blk rfl 46 (.tmp 3) (.tmp 14) rfl w3.heap.size (ndC nl0) (ndC r) 46 rfl rfl (Blk.new _ _ _) rfl (nd_inf r) (nd_one r) ?_
                   intro w4 h4 n4
                   have b4 := (b3.alloc b3.size (.cells (ndC nl0) 46)).trans (n4.below _ b3.size (by simp; have := b3.size; omega))
                   clear n4 h4)
      go_ret
      refine ⟨?_, b4⟩
      unfold chkP
      have ha := HA.out
      cases hq : L.all fun x => standV L x.1 <;> rw [hq] at ha <;> simp at ha
      rw [HR.out]
      rfl
end Go.Proofs.YtelfdpcenplhjaaGreatDoor
namespace Go.Proofs.YtelfdpcenplhjaaGreatDoor
open Go.RowKit Go.Shelf
set_option linter.unusedVariables false
set_option linter.unusedSimpArgs false
inductive Up (L : List Nl) : Int → List Nl → Prop
  | nil {id : Int} : idR L id = (nl0, false) → Up L id []
  | cons {id : Int} {r : Nl} {xs : List Nl} : idR L id = (r, true) → Up L r.1.p xs → Up L id (r :: xs)
theorem up_end {L : List Nl} {id : Int} (h : Up L id []) : idR L id = (nl0, false) := by cases h; assumption
theorem up_next {L : List Nl} {id : Int} {r : Nl} {xs : List Nl} (h : Up L id (r :: xs)) : idR L id = (r, true) ∧ Up L r.1.p xs := by cases h; exact ⟨by assumption, by assumption⟩
theorem drop_consN (U : List Nl) (k : Nat) (h : k < U.length) : U.drop k = U.getD k nl0 :: U.drop (k + 1) := by
  rw [List.drop_eq_getElem_cons h]
  simp [List.getD, h]
theorem up_det {L : List Nl} {id : Int} {xs ys : List Nl} (h : Up L id xs) (k : Up L id ys) : xs = ys := by
  induction h generalizing ys with
  | nil h0 =>
    cases k with
    | nil => rfl
    | cons h1 _ => rw [h0] at h1; cases h1
  | cons h0 _ ih =>
    cases k with
    | nil h1 => rw [h0] at h1; cases h1
    | cons h1 h2 =>
      rw [h0] at h1
      cases h1
      rw [ih h2]
noncomputable def upLen (L : List Nl) (id : Int) : Nat := open Classical in if h : ∃ xs, Up L id xs then h.choose.length else 0
theorem upLen_eq {L : List Nl} {id : Int} {xs : List Nl} (h : Up L id xs) : upLen L id = xs.length := by
  have hx : ∃ xs, Up L id xs := ⟨xs, h⟩
  unfold upLen
  rw [dif_pos hx, up_det hx.choose_spec h]
noncomputable def upM (L : List Nl) (pg pb : Value) (w : World) : Nat :=
  match pg, pb with
  | .pointer (some a), .bool true => match w.cell? ⟨a.block, 1, none⟩ with
    | some (.int _ p) => 1 + upLen L p
    | _ => 0
  | _, _ => 0
theorem upM_true {L : List Nl} {g : Nat} {r : Nl} {w : World} (h : Blk w g (ndC r) 46) : upM L (.pointer (some ⟨g, 0, none⟩)) (.bool true) w = 1 + upLen L r.1.p := by
  have h1 : w.cell? ⟨g, 1, none⟩ = some (.int .i64 r.1.p) := h.cell 1
  simp only [upM, h1]
theorem upM_false {L : List Nl} {pg : Value} {w : World} : upM L pg (.bool false) w = 0 := by
  unfold upM
  split
  · rename_i h; cases h
  · rfl
end Go.Proofs.YtelfdpcenplhjaaGreatDoor
namespace Go.Proofs.YtelfdpcenplhjaaGreatDoor
open Go.RowKit Go.Shelf
set_option linter.unusedVariables false
set_option linter.unusedSimpArgs false
def Ri7 (w : World) (B : Nat) (A : Option Addr) (l : List Int) : Prop := ∀ k, k < l.length → ∃ b off, A = some ⟨b, off, none⟩ ∧ b < B ∧ w.cell? ⟨b, off + k, none⟩ = some (.int .i64 (l.getD k 0))
theorem Ri7.below {w w' : World} {B B' : Nat} {A : Option Addr} {l : List Int} (h : Ri7 w B A l) (hb : Below B' w w') (hB : B ≤ B') : Ri7 w' B A l := fun k hk => by
  obtain ⟨b, off, e, h1, c⟩ := h k hk
  exact ⟨b, off, e, h1, (hb.cell (p := ⟨b, off + k, none⟩) (Nat.lt_of_lt_of_le h1 hB)).trans c⟩
theorem Ri7.more {w : World} {B B' : Nat} {A : Option Addr} {l : List Int} (h : Ri7 w B A l) (hB : B ≤ B') : Ri7 w B' A l := fun k hk => by
  obtain ⟨b, off, e, h1, r⟩ := h k hk
  exact ⟨b, off, e, by omega, r⟩
def IxR (l : List Int) (x r : Int) : Prop := (∃ k : Nat, r = k ∧ k < l.length ∧ l.getD k 0 = x) ∨ r = -1 ∧ ∀ j, j < l.length → l.getD j 0 ≠ x
set_option maxRecDepth 100000 in
set_option maxHeartbeats 2000000 in
theorem indexZ_any (A : Option Addr) (m c : Nat) (l : List Int) (x : Int) (w : World) (hA : Ri7 w w.heap.size A l) (hm : m = l.length) (hmc : m ≤ c) (h6 : m ≤ 1000000) :
    Calls Tryz.prog 77 #[.slice A m c, .int .i64 x] w fun e w' => ∃ r, e = .returned (.int .i64 r) ∧ IxR l x r ∧ Below w.heap.size w w' := by
  have B0 := Below.refl w.heap.size w
  have HM := Lib.hid hm
  clear hm
  go_enter Tryz.func77, Tryz.ntmps77
  go_wp2_with fail
  go_loopw [8] (fun i wr' => ∃ (k : Nat) (wr : World), wr = wr' ∧ k ≤ m ∧ i = .int .i64 k ∧ Hid (∀ j, j < k → l.getD j 0 ≠ x) ∧ Below w.heap.size w wr) (fun i _ => m - (intOf i).toNat)
  case atStart => exact ⟨0, _, rfl, Nat.zero_le _, rfl, Lib.hid (fun j hj => absurd hj (Nat.not_lt_zero j)), B0⟩
  case round =>
    clear B0
    obtain ⟨k, wr, hwr, hk, rfl, hall, hB⟩ := hrel
    subst hwr
    by_cases hlt : k < m
    · have hlt' : (k : Int) < (m : Int) := by omega
      have hkl : k < l.length := by have := HM.out; omega
      obtain ⟨b, off, rfl, hb, hc⟩ := hA.below hB (Nat.le_refl _) k hkl
      obtain ⟨y, hy⟩ : ∃ y, l.getD k 0 = y := ⟨_, rfl⟩
      rw [hy] at hc
      have HY := Lib.hid hy
      have HK := Lib.hid hkl
      clear hy hkl
      cases hxy : (x == y)
      · have HN := Lib.hid (show x ≠ y by simpa using hxy)
        go_wp2_with fail
        first
          | (go_region; go_wp2_with fail)
          | skip
        go_roundw
        case rel =>
          refine ⟨k + 1, _, rfl, by omega, by go_num, Lib.hid (fun j hj => ?_), by first | exact hB.drew | exact hB⟩
          rcases Nat.lt_succ_iff_lt_or_eq.1 hj with h | rfl
          · exact hall.out j h
          · rw [HY.out]; exact fun h => HN.out h.symm
        case measure => simp [intOf]; omega
      · have HN := Lib.hid (show x = y by simpa using hxy)
        go_wp2_with fail
        first
          | (go_region; go_wp2_with fail)
          | skip
        go_ret
        exact ⟨_, rfl, .inl ⟨k, rfl, HK.out, by rw [HY.out, HN.out]⟩, by first | exact hB.drew | exact hB⟩
    · obtain rfl : k = m := by omega
      go_wp2_with fail
      go_ret
      exact ⟨_, rfl, .inr ⟨rfl, by rw [← HM.out]; exact hall.out⟩, hB⟩
theorem IxR.mem {l : List Int} {x r : Int} (h : IxR l x r) : decide (0 ≤ r) = l.contains x := by
  rcases h with ⟨k, rfl, hk, he⟩ | ⟨rfl, hn⟩
  · have h1 : l.contains x = true := by
      rw [List.contains_iff_mem, ← he]
      rw [show l.getD k 0 = l[k] by simp [List.getD, hk]]
      exact List.getElem_mem hk
    rw [h1]
    simp
  · have h1 : l.contains x = false := by
      rw [← Bool.not_eq_true, List.contains_iff_mem]
      intro hm
      obtain ⟨k, hk, he⟩ := List.getElem_of_mem hm
      exact hn k hk (by simpa [List.getD, hk] using he)
    rw [h1]
    rfl
set_option maxRecDepth 100000 in
set_option maxHeartbeats 2000000 in
theorem containsZ_any (A : Option Addr) (m c : Nat) (l : List Int) (x : Int) (w : World) (hA : Ri7 w w.heap.size A l) (hm : m = l.length) (hmc : m ≤ c) (h6 : m ≤ 1000000) :
    Calls Tryz.prog 49 #[.slice A m c, .int .i64 x] w fun e w' => e = .returned (.bool (l.contains x)) ∧ Below w.heap.size w w' := by
  have HI := Lib.hid (indexZ_any A m c l x w hA hm hmc h6)
  clear hm
  go_enter Tryz.func49, Tryz.ntmps49
  go_wp2_with fail
  refine HI.out.mono ?_
  rintro e w1 ⟨r, rfl, hr, b1⟩
  have HR := Lib.hid hr.mem
  clear hr HI
  go_wp2_with fail
  go_ret
  exact ⟨by rw [← HR.out]; rfl, b1⟩
end Go.Proofs.YtelfdpcenplhjaaGreatDoor
namespace Go.Proofs.YtelfdpcenplhjaaGreatDoor
open Go.RowKit Go.Shelf
set_option linter.unusedVariables false
set_option linter.unusedSimpArgs false
def Zp (w : World) (base : Nat) (A : Option Addr) (m c : Nat) (l : List Int) : Prop := w.ownsRow base 3 1 (.slice A m c) m (l.map (Value.int .i64))
theorem zpint_info : (Tryz.prog.info? 3).map (fun i => (i.zero, i.size, i.bytes)) = some (some (.int .i64 0), 1, 8) := by kernel_rfl
theorem zp_get' {l : List Int} {j : Nat} (h : j < l.length) : (l.map (Value.int .i64))[j]? = some (.int .i64 (l.getD j 0)) := by
  rw [List.getElem?_map, List.getElem?_eq_getElem h]
  simp [List.getD, h]
section
variable {w w' : World} {base B m c : Nat} {A : Option Addr} {l : List Int}
theorem Zp.len (h : Zp w base A m c l) : m = l.length := by have := h.1; simpa using this.symm
theorem Zp.down (h : Zp w base A m c l) {b : Nat} (hb : b ≤ base) : Zp w b A m c l := own_base h hb
theorem Zp.below (h : Zp w base A m c l) (hb : Below B w w') (hB : w.heap.size ≤ B) : Zp w' base A m c l := ownsRow_below h hb hB
theorem Zp.ri (h : Zp w base A m c l) : Ri7 w w.heap.size A l := fun k hk => by
  have hm := h.len
  obtain ⟨g, c', hv, hg, hcs⟩ := own_head h (by omega)
  injection hv with hA _ _
  exact ⟨g, 0, hA, hg, by rw [Nat.zero_add]; exact hcs _ _ (zp_get' hk)⟩
theorem Zp.cap (h : Zp w base A m c l) : m ≤ c := by
  rcases h.2 with ⟨hv, h0⟩ | ⟨g, cap, cur, hv, _, _, hnc, _⟩
  · omega
  · injection hv with _ _ h3
    omega
theorem zp_nil (w : World) (base : Nat) : Zp w base none 0 0 [] := World.ownsRow_nil w base _ 1
theorem Zp.row (h : Zp w base A m c l) : ∀ r, (Value.slice A m c).ownBlock = some r → base ≤ r ∧ r < w.heap.size ∧ ∃ cs, w.heap[r]? = some (.cells cs 3 (0, 0)) := fun r e => by
  rcases h.2 with ⟨hv, h0⟩ | ⟨g, cap, cur, hv, hg, hh, _⟩
  · rw [hv] at e; cases e
  · rw [hv] at e; cases e; exact ⟨hg, (Array.getElem?_eq_some_iff.1 hh).1, cur, hh⟩
theorem Zp.kept (h : Zp w base A m c l) {row : Option Nat} (hg : w.grownBy w' row) (hr : ∀ r, row = some r → ∃ o : Obj, w.heap[r]? = some o ∧ o.isCells = false) : Zp w' base A m c l := by
  refine World.ownsRow.kept h hg ?_
  cases e : (Value.slice A m c).ownBlock with
  | none => exact .inl rfl
  | some r =>
    refine .inr fun e2 => ?_
    obtain ⟨o, ho, hc⟩ := hr r e2.symm
    obtain ⟨_, _, cs, hh⟩ := h.row r e
    rw [ho] at hh
    cases hh
    cases hc
theorem Zp.but {g : Nat} (h : Zp w base A m c l) (n : But g w w') (hg : g < base) : Zp w' base A m c l := by
  refine ⟨h.1, ?_⟩
  rcases h.2 with h0 | ⟨g', cap, cur, hv, hb, hh, r⟩
  · exact .inl h0
  · exact .inr ⟨g', cap, cur, hv, hb, (n.block g' (Array.getElem?_eq_some_iff.1 hh).1 (by omega)).trans hh, r⟩
end
theorem nodes_but {B g : Nat} {W W' : World} (n : But g W W') (hne : ∀ cs, ¬ Blk W g cs 46) : NodesFrom B W W' := fun k cs _ hb => n.blk7 hb (fun e => hne cs (e ▸ hb))
theorem nodes_grown {B : Nat} {W W' : World} {row : Option Nat} (hg : W.grownBy W' row) (hr : ∀ r, row = some r → ∃ cs, W.heap[r]? = some (.cells cs 3 (0, 0))) : NodesFrom B W W' := fun k cs _ hb =>
  ⟨(hg.block k hb.lt fun e => by
    obtain ⟨cs', h'⟩ := hr k e.symm
    have := hb.blk.symm.trans h'
    simp at this).trans hb.blk⟩
theorem keeps_grown {B : Nat} {W W' : World} {row : Option Nat} (hg : W.grownBy W' row) (hr : ∀ r, row = some r → ∃ cs, W.heap[r]? = some (.cells cs 3 (0, 0))) : KeepsFrom B W W' := ⟨hg.size, fun k o _ hk ho =>
  (hg.block k (Array.getElem?_eq_some_iff.1 hk).1 fun e => by
    obtain ⟨cs', h'⟩ := hr k e.symm
    rw [hk] at h'
    cases h'
    cases ho).trans hk⟩
theorem keeps_but {B g : Nat} {W W' : World} {cs : Array Value} {t : TypeId} (n : But g W W') (k : Blk W g cs t) : KeepsFrom B W W' := ⟨n.size, fun j o _ hj ho =>
  (n.block j (Array.getElem?_eq_some_iff.1 hj).1 fun e => by
    subst e
    have h := k.blk
    rw [hj] at h
    cases h
    cases ho).trans hj⟩
end Go.Proofs.YtelfdpcenplhjaaGreatDoor
namespace Go.Proofs.YtelfdpcenplhjaaGreatDoor
open Go.RowKit Go.Shelf
attribute [local go_sem] Oper.semAt_some
set_option linter.unusedVariables false
set_option linter.unusedSimpArgs false
structure Ku (n₀ ga gb : Nat) (X Y : World) : Prop where
  os : Y.os = X.os
  tape : Y.tape = X.tape
  output : Y.output = X.output
  size : X.heap.size ≤ Y.heap.size
  block : ∀ k, k < n₀ → k ≠ ga → k ≠ gb → Y.heap[k]? = X.heap[k]?
section
variable {n₀ ga gb n₁ : Nat} {X Y Z : World}
theorem Ku.of (h : Below n₀ X Y) : Ku n₀ ga gb X Y := ⟨h.os, h.tape, h.output, h.size, fun k hk _ _ => h.block k hk⟩
theorem Ku.trans (h : Ku n₀ ga gb X Y) (k : Ku n₀ ga gb Y Z) : Ku n₀ ga gb X Z := ⟨k.os.trans h.os, k.tape.trans h.tape, k.output.trans h.output, Nat.le_trans h.size k.size, fun j hj h1 h2 => (k.block j hj h1 h2).trans (h.block j hj h1 h2)⟩
theorem Ku.below (h : Ku n₀ ga gb X Y) (h1 : n₁ ≤ n₀) (ha : n₁ ≤ ga) (hb : n₁ ≤ gb) : Below n₁ X Y := ⟨h.os, h.tape, h.output, h.size, fun k hk => h.block k (by omega) (by omega) (by omega)⟩
theorem Ku.boxed (h : Ku n₀ ga gb X Y) {g : Nat} {t : TypeId} {v : Value} (k : Boxed X g t v) (hg : g < n₀) (ha : g ≠ ga) (hb : g ≠ gb) : Boxed Y g t v := (h.block g hg ha hb).trans k
theorem Ku.but_a (h : But ga X Y) (hs : n₀ ≤ X.heap.size) : Ku n₀ ga gb X Y := ⟨h.os, h.tape, h.output, h.size, fun k hk h1 _ => h.block k (by omega) h1⟩
theorem Ku.grown {row : Option Nat} (h : X.grownBy Y row) (hs : n₀ ≤ X.heap.size) (hr : ∀ r, row = some r → n₀ ≤ r) : Ku n₀ ga gb X Y := ⟨h.os, h.tape, h.output, h.size, fun k hk _ _ => h.block k (by omega) (fun e => by have := hr k e.symm; omega)⟩
end
set_option maxRecDepth 100000 in
set_option maxHeartbeats 4000000 in
theorem upward2_seq (n : Nat) (hn : 1 ≤ n) (w₀ : World) (n₁ n₀ ga gb gp gi m c : Nat) (h10 : n₁ ≤ n₀) (hga : n₁ ≤ ga) (hgb : n₁ ≤ gb) (hpa : gp ≠ ga) (hpb : gp ≠ gb)  (A : Option Addr) (L U : List Nl) (id : Int) (w : World) (hP : Po w n₁ A L) (hP0 : ∀ x ∈ L, Nr w₀ n₁ x) (bp : Boxed w gp 24 (.slice A m c)) (bi : Boxed w gi 3 (.int .i64 id)) (hm : m = L.length) (hmc : m ≤ c) (h6 : m ≤ 1000000) (hgp : gp < n₀) (hgi : gi < n₀) (hn₀ : n₀ ≤ w.heap.size) (hU : Up L id U) (B : Nat) (hB : B ≤ w.heap.size) :
    SeqStopsK Fence.wide n Tryz.prog 97 #[.pointer (some ⟨gp, 0, none⟩), .pointer (some ⟨gi, 0, none⟩)] (fun x : Nq w₀ n₁ => #[ndV x.1]) (fun X Y => Ku n₀ ga gb X Y ∧ NodesFrom B X Y) (fun xs => xs.map (·.1) = U) (fun pre => ∃ k, k < U.length ∧ pre.map (·.1) = U.take (k + 1)) U.length w := by
  intro lp J Jx W hW hJ hJx hY h0
  have HM := Lib.hid hm
  clear hm
  have bpW : Boxed W gp 24 (.slice A m c) := boxed_below bp hW (by omega)
  have biW : Boxed W gi 3 (.int .i64 id) := boxed_below bi hW (by omega)
  have PW := hP.below hW (Nat.le_trans h10 hn₀)
  have hnW : n₀ ≤ W.heap.size := Nat.le_trans hn₀ hW.size
  have hc1 := biW.cell
  refine callsIn_of_wp Tryz.func97 rfl trivial ?_ rfl
  simp only [Tryz.ntmps97, List.size_toArray, List.length_cons, List.length_nil, Nat.reduceAdd, Nat.reduceSub, Array.replicate_succ, Array.replicate_zero, List.push_toArray, List.append_toArray, List.nil_append, List.cons_append]
  gi_wp2_with (refine wpListIn_load_row rfl 24 (.tmp 1) rfl gp rfl 24 #[.slice A m c] (0, 0) _ bpW Tryz.underlying24 rfl (po_info A m c) ?_)
  refine ⟨trivial, (callsIn_wide.2 (row_any A m c L id W (PW.more (Nat.le_trans h10 hnW)) HM.out hmc h6)).mono ?_⟩
  rintro e w1 ⟨r, b, rfl, hr, bb⟩
  have hre := Lib.hid hr.eq
  have hnr := hr.nr hP0
  clear hr hc1
  have hJ1 := hJ [] W w1 none h0 (grown_of_below bb) (fun r e => by cases e)
  have hB1 : Ku n₀ ga gb W w1 := .of (bb.mono hnW)
  have hs1 : W.heap.size ≤ w1.heap.size := bb.size
  clear h0 bb
  unfold ndV
  gi_wp2_with (refine wpListIn_store_blk rfl 46 (.tmp 4) (.tmp 10) rfl w1.heap.size (ndC nl0) (ndC r) 46 rfl rfl (Blk.new _ _ _) rfl (nd_inf r) (nd_one r) ?_
               intro w2 hw2 hn2
               have b1 : Below w1.heap.size w1 w2 := ((Below.refl _ w1).alloc (Nat.le_refl _) _).trans (hn2.below _ (Nat.le_refl _) (by simp))
               have hJ2 := hJ [] w1 w2 none hJ1 (grown_of_below b1) (fun r e => by cases e)
               have hB2 : Ku n₀ ga gb W w2 := hB1.trans (.of (b1.mono (Nat.le_trans hnW hB1.size)))
               clear hJ1 hB1 b1 hn2)
  generalize w1.heap.size = g1 at hw2 hs1 ⊢
  have hU0 : ∃ cur, idR L cur = (r, b) ∧ Up L cur (U.drop 0) := ⟨id, hre.out, by simpa using hU⟩
  gi_loopw [4, 5] (fun pg pb wr => ∃ (k : Nat) (pre : List (Nq w₀ n₁)) (g : Nat) (r : Nl) (b : Bool) (wz : World), wz = wr ∧ pg = .pointer (some ⟨g, 0, none⟩) ∧ pb = .bool b ∧ k ≤ U.length ∧ Hid (pre.length = k) ∧ Hid (pre.map (·.1) = U.take k) ∧ Hid (∃ cur, idR L cur = (r, b) ∧ Up L cur (U.drop k)) ∧ Nr w₀ n₁ r ∧ Blk wz g (ndC r) 46 ∧ W.heap.size ≤ g ∧ J pre wz ∧ Ku n₀ ga gb W wz) (fun pg pb wr => upM L pg pb wr)
  case atStart => exact ⟨0, [], g1, r, b, _, rfl, rfl, rfl, Nat.zero_le _, Lib.hid rfl, Lib.hid rfl, Lib.hid hU0, hnr, hw2, hs1, hJ2, hB2⟩
  case round =>
    clear hJ2 hB2 hw2 hU0 hre hnr
    obtain ⟨k, pre, g, r, b, wz, hwz, rfl, rfl, hk, HL, HP', HU, hnr, hg, hgs, hJs, hB⟩ := hrel
    subst hwz
    cases b
    · have hend : k = U.length := by
        obtain ⟨cur, h1, h2⟩ := HU.out
        have hd : U.drop k = [] := by
          revert h2
          generalize U.drop k = D
          intro h2
          cases h2 with
          | nil => rfl
          | cons h3 _ => rw [h1] at h3; cases h3
        have := List.drop_eq_nil_iff.1 hd
        omega
      have HE := Lib.hid hend
      clear hend
      gi_wp2
      go_end0
      refine ⟨⟨_, rfl⟩, .inl ⟨pre, ?_, hJs⟩⟩
      rw [HP'.out, HE.out, List.take_length]
    · have hkl : k < U.length ∧ U.getD k nl0 = r ∧ Up L r.1.p (U.drop (k + 1)) := by
        obtain ⟨cur, h1, h2⟩ := HU.out
        have hlt : k < U.length := by
          rcases Nat.lt_or_ge k U.length with h | h
          · exact h
          · rw [List.drop_eq_nil_iff.2 h] at h2
            have := up_end h2
            rw [h1] at this
            cases this
        rw [drop_consN U k hlt] at h2
        obtain ⟨h3, h4⟩ := up_next h2
        rw [h1] at h3
        cases h3
        exact ⟨hlt, rfl, h4⟩
      obtain ⟨hlt, hget, hnext⟩ := hkl
      have HNX := Lib.hid hnext
      have HM0 : Hid (upM L (.pointer (some ⟨g, 0, none⟩)) (.bool true) wz = 1 + (U.length - (k + 1))) := Lib.hid (by rw [upM_true hg, upLen_eq hnext, List.length_drop])
      have hlen : pre.length < U.length := by rw [HL.out]; exact hlt
      have hmap : (pre ++ [(⟨r, hnr⟩ : Nq w₀ n₁)]).map (·.1) = U.take (k + 1) := by rw [take_snocN U k hlt, List.map_append, HP'.out, hget]; rfl
      have HMP := Lib.hid hmap
      have HLT := Lib.hid hlt
      clear hmap hget hnext hlt
      obtain ⟨fn, tmps, assign, body, hy, hRd⟩ := hY pre ⟨r, hnr⟩ wz hJs hlen
      simp only [ndV] at hy
      gi_wp2_with (refine wpListIn_load_row rfl 46 (.tmp 4) rfl g rfl 46 (ndC r) (0, 0) _ hg.blk Tryz.underlying46 rfl (nd_inf r) ?_)
      refine hRd.mono ?_
      rintro e W3 h3
      rcases h3 with ⟨rfl, hJ3, hb3, hn3⟩ | ⟨rfl, hJx3⟩
      · have hg3 := hn3 g _ (by have := hW.size; omega) hg
        have hB3 : Ku n₀ ga gb W W3 := hB.trans hb3
        have hs3 : W.heap.size ≤ W3.heap.size := by have := hg3.lt; omega
        clear hRd hy hJs hB hb3 hn3 hlen hg
        gi_wp2_with (first
          | (refine wpListIn_load_row rfl 46 (.tmp 4) rfl g rfl 46 (ndC r) (0, 0) _ hg3.blk Tryz.underlying46 rfl (nd_inf r) ?_)
          | (refine wpListIn_store_blk rfl 46 (.tmp 4) (.tmp 24) rfl W3.heap.size (ndC nl0) (ndC r) 46 rfl rfl (Blk.new _ _ _) rfl (nd_inf r) (nd_one r) ?_
             intro w4 hw4 hn4
             have b4 : Below W3.heap.size W3 w4 := ((Below.refl _ W3).alloc (Nat.le_refl _) _).trans (hn4.below _ (Nat.le_refl _) (by simp))
             have hB4 : Ku n₀ ga gb W w4 := hB3.trans (.of (b4.mono (Nat.le_trans hnW hs3)))
             have bp4 := hB4.boxed bpW hgp hpa hpb
             have q4 : w4.cell? ⟨W3.heap.size, 1, none⟩ = some (.int .i64 r.1.p) := hw4.cell 1
             clear hB3 hn4 hg3)
          | (refine wpListIn_load_row rfl 24 (.tmp 1) rfl gp rfl 24 #[.slice A m c] (0, 0) _ bp4 Tryz.underlying24 rfl (po_info A m c) ?_))
        refine ⟨trivial, (callsIn_wide.2 (row_any A m c L r.1.p w4 ((PW.below (hB4.below h10 hga hgb) (Nat.le_refl _)).more (Nat.le_trans h10 (Nat.le_trans hnW hB4.size))) HM.out hmc h6)).mono ?_⟩
        rintro e w5 ⟨r5, b5, rfl, hr5, bb⟩
        have hre5 := Lib.hid hr5.eq
        have hnr5 := hr5.nr hP0
        have hs5 := hB4.size
        have b5' := b4.trans (bb.mono b4.size)
        have hB5 : Ku n₀ ga gb W w5 := hB4.trans (.of (bb.mono (Nat.le_trans hnW hs5)))
        have hw5 := hw4.below bb hw4.lt
        clear hr5 bb b4 hB4 hw4 q4 bp4
        unfold ndV
        gi_wp2_with (refine wpListIn_store_blk rfl 46 (.tmp 4) (.tmp 18) rfl W3.heap.size (ndC r) (ndC r5) 46 rfl rfl hw5 rfl (nd_inf r5) (nd_one r5) ?_
                     intro w6 hw6 hn6)
        have b6 : Below W3.heap.size W3 w6 := b5'.trans (hn6.below _ (Nat.le_refl _) b5'.size)
        have hJ6 := hJ _ W3 w6 none hJ3 (grown_of_below b6) (fun r e => by cases e)
        have hB6 : Ku n₀ ga gb W w6 := hB5.trans (.of (hn6.below _ (Nat.le_trans hnW hs3) (Nat.le_trans hnW hB5.size)))
        refine ⟨⟨k + 1, pre ++ [⟨r, hnr⟩], W3.heap.size, r5, b5, w6, rfl, rfl, rfl, HLT.out, Lib.hid ?_, HMP, Lib.hid ⟨r.1.p, hre5.out, HNX.out⟩, hnr5, hw6, hs3, hJ6, hB6⟩, ?_⟩
        · rw [List.length_append, HL.out]; rfl
        · rw [HM0.out]
          cases b5
          · rw [upM_false]; omega
          · rw [upM_true hw6]
            have hnx := HNX.out
            have hlt2 : k + 1 < U.length := by
              rcases Nat.lt_or_ge (k + 1) U.length with h | h
              · exact h
              · rw [List.drop_eq_nil_iff.2 h] at hnx
                have := up_end hnx
                rw [hre5.out] at this
                cases this
            rw [drop_consN U (k + 1) hlt2] at hnx
            obtain ⟨h3, h4⟩ := up_next hnx
            rw [hre5.out] at h3
            cases h3
            rw [upLen_eq h4, List.length_drop]
            omega
      · gi_wp2
        refine bodyPost_ret (results_none rfl _ _ _) rfl ?_
        exact ⟨⟨_, rfl⟩, .inr ⟨_, ⟨k, HLT.out, HMP.out⟩, hJx3⟩⟩
end Go.Proofs.YtelfdpcenplhjaaGreatDoor
namespace Go.Proofs.YtelfdpcenplhjaaGreatDoor
open Go.RowKit Go.Shelf
set_option linter.unusedVariables false
set_option linter.unusedSimpArgs false
def foE (L : List Nl) (id : Int) : Int := if chkP L = 0 then if ((idR L id).2 || id == 0) = true then 0 else 4 else chkP L
theorem upward_any (A : Option Addr) (m c : Nat) (id : Int) (w : World) :
    Calls Tryz.prog 76 #[poV A m c, .int .i64 id] w fun e w' => ∃ gp gi, e = .returned (.func (.func 97) #[] #[.pointer (some ⟨gp, 0, none⟩), .pointer (some ⟨gi, 0, none⟩)]) ∧ Boxed w' gp 24 (.slice A m c) ∧ Boxed w' gi 3 (.int .i64 id) ∧ Below w.heap.size w w' := by
  have B0 := ((Below.refl w.heap.size w).alloc (Nat.le_refl _) (.cells #[.slice A m c] 24)).alloc (by simp) (.cells #[.int .i64 id] 3)
  have k1 := (Boxed.new w 24 (.slice A m c)).alloc (.cells #[.int .i64 id] 3)
  have k2 := Boxed.new (w.alloc (.cells #[.slice A m c] 24)) 3 (.int .i64 id)
  rw [World.size_alloc] at k2
  unfold poV
  go_enter Tryz.func76, Tryz.ntmps76
  go_wp2
  go_ret
  exact ⟨_, _, rfl, k1, k2, B0⟩
set_option maxRecDepth 100000 in
set_option maxHeartbeats 2000000 in
theorem filtersOf_any (A : Option Addr) (m c : Nat) (L : List Nl) (id : Int) (w : World) (hK : Kinds w) (hP : Po w w.heap.size A L) (hm : m = L.length) (hmc : m ≤ c) (h6 : m ≤ 1000000) :
    Calls Tryz.prog 62 #[poV A m c, .int .i64 id] w fun e w' => ∃ v r, e = .returned (.tuple #[v, .int .i64 r]) ∧ r = foE L id ∧
      (r = 0 → ∃ gp gi, v = .func (.func 97) #[] #[.pointer (some ⟨gp, 0, none⟩), .pointer (some ⟨gi, 0, none⟩)] ∧ Boxed w' gp 24 (.slice A m c) ∧ Boxed w' gi 3 (.int .i64 id)) ∧ Below w.heap.size w w' := by
  have k1 := Blk.new w #[.slice A m c] 24
  have B0 := (Below.refl w.heap.size w).alloc (Nat.le_refl _) (.cells #[.slice A m c] 24)
  have CK := pcheck_any A m c L _ (hK.below B0 hK.pos) ((hP.below B0 (Nat.le_refl _)).more B0.size) hm hmc h6
  have HM := Lib.hid hm
  clear hm
  obtain ⟨ck, hck⟩ : ∃ ck, chkP L = ck := ⟨_, rfl⟩
  rw [hck] at CK
  have HC := Lib.hid hck
  clear hck
  unfold poV at CK ⊢
  go_enter Tryz.func62, Tryz.ntmps62
  go_wp2_with (refine wpList_load_row rfl 24 (.tmp 2) rfl w.heap.size rfl 24 #[.slice A m c] (0, 0) _ k1.blk Tryz.underlying24 rfl (po_info A m c) ?_)
  refine CK.mono ?_
  rintro e w1 ⟨rfl, bb⟩
  have k11 := k1.below bb k1.lt
  have b1 := B0.trans (bb.mono B0.size)
  clear CK k1 B0 bb
  by_cases h0 : ck = 0
  · subst h0
    go_wp2_with (refine wpList_load_row rfl 24 (.tmp 2) rfl w.heap.size rfl 24 #[.slice A m c] (0, 0) _ k11.blk Tryz.underlying24 rfl (po_info A m c) ?_)
    refine (row_any A m c L id _ ((hP.below b1 (Nat.le_refl _)).more b1.size) HM.out hmc h6).mono ?_
    rintro e w2 ⟨r, b, rfl, hr, bb⟩
    have hre := Lib.hid hr.eq
    have k12 := k11.below bb k11.lt
    have b2 := b1.trans (bb.mono b1.size)
    clear bb b1 k11 hr
    unfold ndV
    have key : (b = true ∨ (b = false ∧ (id != 0) = false)) ∨ (b = false ∧ (id != 0) = true) := by cases b <;> cases (id != 0) <;> simp
    have hua := upward_any A m c id
    unfold poV at hua
    have HUA := Lib.hid hua
    clear hua
    rcases key with key | ⟨rfl, hp⟩
    · have hok : ((idR L id).2 || id == 0) = true := by
        rw [hre.out]
        rcases key with rfl | ⟨rfl, hp⟩
        · rfl
        · simpa using hp
      have HOK := Lib.hid (show foE L id = 0 by unfold foE; rw [if_pos HC.out, if_pos hok])
      clear hok
      rcases key with rfl | ⟨rfl, hp⟩
      all_goals
        go_wp2_with (first
          | (refine wpList_store_blk rfl 46 (.tmp 7) (.tmp 18) rfl w2.heap.size (ndC nl0) (ndC r) 46 rfl rfl (Blk.new _ _ _) rfl (nd_inf r) (nd_one r) ?_
             intro w3 h3 n3
             have bb : Below w2.heap.size w2 w3 := ((Below.refl _ w2).alloc (Nat.le_refl _) _).trans (n3.below _ (Nat.le_refl _) (by simp))
             have k13 := k12.below bb k12.lt
             have b3 := b2.trans (bb.mono b2.size)
             clear n3 bb b2 k12)
          | (refine wpList_load_row rfl 24 (.tmp 2) rfl w.heap.size rfl 24 #[.slice A m c] (0, 0) _ k13.blk Tryz.underlying24 rfl (po_info A m c) ?_))
        refine (HUA.out w3).mono ?_
        rintro e w4 ⟨gp, gi, rfl, kp, ki, bb⟩
        have b4 := b3.trans (bb.mono b3.size)
        clear bb b3 k13 h3
        go_wp2_with fail
        refine bodyPost_ret (results_tmp2 rfl _ _ _) rfl ?_
        exact ⟨_, _, rfl, HOK.out.symm, fun _ => ⟨gp, gi, rfl, kp, ki⟩, b4⟩
    · go_wp2_with (refine wpList_store_blk rfl 46 (.tmp 7) (.tmp 18) rfl w2.heap.size (ndC nl0) (ndC r) 46 rfl rfl (Blk.new _ _ _) rfl (nd_inf r) (nd_one r) ?_
                   intro w3 h3 n3
                   have bb : Below w2.heap.size w2 w3 := ((Below.refl _ w2).alloc (Nat.le_refl _) _).trans (n3.below _ (Nat.le_refl _) (by simp))
                   have b3 := b2.trans (bb.mono b2.size)
                   clear n3 bb b2 k12)
      refine bodyPost_ret (results_tmp2 rfl _ _ _) rfl ?_
      have he : foE L id = 4 := by
        unfold foE
        rw [if_pos HC.out, hre.out, if_neg (by simpa using hp)]
      exact ⟨_, _, rfl, he.symm, fun h => absurd h (by omega), b3⟩
  · have hne : (ck != 0) = true := by simpa using h0
    have HN := Lib.hid h0
    clear h0
    go_wp2_with fail
    refine bodyPost_ret (results_tmp2 rfl _ _ _) rfl ?_
    exact ⟨_, _, rfl, by unfold foE; rw [HC.out, if_neg HN.out], fun h => absurd h HN.out, b1⟩
theorem idR_some {L : List Nl} {id : Int} {r : Nl} (h : idR L id = (r, true)) : r ∈ L ∧ r.1.i = id := by
  unfold idR at h
  split at h
  · rename_i r' hr
    cases h
    exact ⟨List.mem_of_find?_eq_some hr, by have := List.find?_some hr; simpa using this⟩
  · cases h
theorem idR_none {L : List Nl} {id : Int} {r : Nl} (h : idR L id = (r, false)) : idR L id = (nl0, false) := by
  unfold idR at h ⊢
  split at h
  · cases h
  · rfl
theorem stand_less {L : List Nl} (hL : ∀ x ∈ L, NmOk x.1 ∧ standV L x.1 = true) {x r : Nl} (hx : x ∈ L) (h : idR L x.1.p = (r, true)) : r.1.z < x.1.z := by
  obtain ⟨ox, sx⟩ := hL x hx
  obtain ⟨hr, _⟩ := idR_some h
  obtain ⟨or_, sr⟩ := hL r hr
  unfold standV at sx sr
  rw [h] at sx
  simp only [Bool.and_eq_true, decide_eq_true_eq, beq_iff_eq] at sx sr
  obtain ⟨⟨⟨_, hz⟩, hz2⟩, _⟩ := sx
  obtain ⟨⟨⟨_, _⟩, hr2⟩, _⟩ := sr
  have hl := ox.l
  obtain ⟨r0, r1⟩ := or_.z
  rw [IntKind.wrap_i64] at hz
  omega
theorem up_exists {L : List Nl} (hL : ∀ x ∈ L, NmOk x.1 ∧ standV L x.1 = true) : ∀ (n : Nat) (id : Int), (∀ r, idR L id = (r, true) → (r.1.z + 9223372036854775808).toNat < n) → ∃ U, Up L id U := by
  intro n
  induction n with
  | zero =>
    intro id h
    obtain ⟨r, b, hr⟩ : ∃ r b, idR L id = (r, b) := ⟨_, _, rfl⟩
    cases b
    · exact ⟨[], .nil (idR_none hr)⟩
    · exact absurd (h r hr) (Nat.not_lt_zero _)
  | succ n ih =>
    intro id h
    obtain ⟨r, b, hr⟩ : ∃ r b, idR L id = (r, b) := ⟨_, _, rfl⟩
    cases b
    · exact ⟨[], .nil (idR_none hr)⟩
    · have h1 := h r hr
      have hm := (idR_some hr).1
      obtain ⟨U, hU⟩ := ih r.1.p (fun r' hr' => by
        have h2 := stand_less hL hm hr'
        obtain ⟨q0, _⟩ := (hL r' (idR_some hr').1).1.z
        omega)
      exact ⟨r :: U, .cons hr hU⟩
theorem chk_stand {L : List Nl} (hN : ∀ x ∈ L, NmOk x.1) (h : chkP L = 0) : ∀ x ∈ L, NmOk x.1 ∧ standV L x.1 = true := by
  intro x hx
  refine ⟨hN x hx, ?_⟩
  unfold chkP at h
  split at h
  · rename_i hb
    simp only [Bool.and_eq_true, List.all_eq_true] at hb
    exact hb.2 x hx
  · cases h
theorem chk_up {L : List Nl} (hN : ∀ x ∈ L, NmOk x.1) (h : chkP L = 0) (id : Int) : ∃ U, Up L id U := by
  obtain ⟨r, b, hr⟩ : ∃ r b, idR L id = (r, b) := ⟨_, _, rfl⟩
  exact up_exists (chk_stand hN h) ((r.1.z + 9223372036854775808).toNat + 1) id (fun r' hr' => by rw [hr] at hr'; cases hr'; omega)
end Go.Proofs.YtelfdpcenplhjaaGreatDoor
