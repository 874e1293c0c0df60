/-
  PlD, PlP, PlQ: in one file.
-/
import Derived.Test.YtelfdpcenplhjaaGreatDoorQJC
import Derived.Test.YtelfdpcenplhjaaGreatDoorQCkN
import Derived.Deep.MidRow
namespace Go.Proofs.YtelfdpcenplhjaaGreatDoor
open Go.RowKit Go.Shelf
set_option linter.unusedVariables false
set_option linter.unusedSimpArgs false
theorem eql_nilI (A : Option Addr) (m c : Nat) (w : World) : (binOp .eql 25 (.slice A m c) (.slice none 0 0)).run Tryz.prog w = .ok (.bool A.isNone) w := by
  have h : ∀ d, (Op.equalIn (d + 1) 25 (.slice A m c) (.slice none 0 0)).run Tryz.prog w = .ok A.isNone w := fun d => by
    cases A <;> simp [Op.equalIn, run_underlying Tryz.underlying25]
  have h2 : (Op.equal 25 (.slice A m c) (.slice none 0 0)).run Tryz.prog w = .ok A.isNone w := h 9999
  simp [binOp, h2]
set_option maxRecDepth 100000 in
set_option maxHeartbeats 1000000 in
theorem pclone_any (A : Option Addr) (m c : Nat) (f : Nat → Ins) (w : World) (hA : Ri w w.heap.size A m f) (hm : m ≤ 300) :
    Calls Tryz.prog 81 #[.slice A m c] w fun e w' => ∃ A' c', e = .returned (.slice A' m c') ∧ Ri w' w'.heap.size A' m f ∧ m ≤ c' ∧ Below w.heap.size w w' := by
  have hg := heap_alloc_new w (.cells #[] 111)
  have hb := (Below.refl w.heap.size w).alloc (Nat.le_refl _) (.cells #[] 111)
  have hA1 := hA.below hb (Nat.le_refl _)
  cases A with
  | none =>
    have hm0 : m = 0 := by
      rcases Nat.eq_zero_or_pos m with h | h
      · exact h
      · obtain ⟨b, off, e, _⟩ := hA 0 h
        cases e
    subst hm0
    have en := fun w => eql_nilI none 0 c w
    simp only [Option.isNone_none] at en
    go_enter Tryz.func81, Tryz.ntmps81
    go_wp2
    go_ret
    exact ⟨none, 0, rfl, fun k hk => absurd hk (by omega), Nat.le_refl _, Below.refl _ _⟩
  | some a =>
    have en := fun w => eql_nilI (some a) m c w
    simp only [Option.isNone_some] at en
    go_enter Tryz.func81, Tryz.ntmps81
    go_wp2_with (at_builtin; with_reducible refine wpList_few rfl (.tmp 5) (.tmp 6) rfl w.heap.size rfl hg (some a) w.heap.size m c f rfl hA1 hm ?_; intro A2 c2 w2 ho hb2)
    obtain ⟨r2, hc2⟩ := ri_of_own ho hA.ok
    go_ret
    exact ⟨A2, c2, rfl, r2, hc2, hb.trans hb2⟩
theorem nd_no16 {x : Nl} {j : Nat} {v : Int} : (ndC x)[j]? ≠ some (.int .u16 v) := by
  intro h
  have hm := Array.mem_of_getElem? h
  simp [ndC] at hm
theorem Ri.but {w w' : World} {B g n : Nat} {A : Option Addr} {f : Nat → Ins} {x : Nl} {t : TypeId} (h : Ri w B A n f) (k : Blk w g (ndC x) t) (hB : B ≤ w.heap.size) (hk : ∀ b, b ≠ g → b < w.heap.size → w'.heap[b]? = w.heap[b]?) : Ri w' B A n f := fun j hj => by
  obtain ⟨b, off, e, h1, ⟨c0, c1, c2, c3⟩, ho⟩ := h j hj
  have hne : b ≠ g := by
    rintro rfl
    rw [k.cell] at c0
    exact nd_no16 c0
  have hh := hk b hne (Nat.lt_of_lt_of_le h1 hB)
  have hc : ∀ o, w'.cell? ⟨b, o, none⟩ = w.cell? ⟨b, o, none⟩ := fun o => by simp [World.cell?, hh]
  exact ⟨b, off, e, h1, ⟨(hc _).trans c0, (hc _).trans c1, (hc _).trans c2, (hc _).trans c3⟩, ho⟩
set_option maxHeartbeats 1000000 in
theorem copied_any (x : Nl) (w : World) (hx : Nr w w.heap.size x) (hm : x.1.g.length ≤ 300) :
    Calls Tryz.prog 61 #[ndV x] w fun e w' => ∃ l, e = .returned (ndV (x.1, l)) ∧ Nr w' w'.heap.size (x.1, l) ∧ Below w.heap.size w w' := by
  have k1 := (Blk.new w (ndC x) 46).alloc (.cells (ndC nl0) 46)
  have k2 := Blk.new_ (w.alloc (.cells (ndC x) 46)) (ndC nl0) 46 (n := w.heap.size + 1) (by simp)
  have B0 := ((Below.refl w.heap.size w).alloc (Nat.le_refl _) (.cells (ndC x) 46)).alloc (by simp) (.cells (ndC nl0) 46)
  have q2 : ((w.alloc (.cells (ndC x) 46)).alloc (.cells #[.int .i64 0, .int .i64 0, .slice none 0 0, .int .i64 0, .int .i64 0, .int .u64 0, .int .u64 0] 46)).cell? ⟨w.heap.size, 2, none⟩ = some (Value.slice x.2.1 x.1.g.length x.2.2) := k1.cell 2
  have CC := pclone_any x.2.1 x.1.g.length x.2.2 (gF x.1.g) _ ((hx.ri.below B0 (Nat.le_refl _)).more B0.size) hm
  unfold ndV
  go_enter Tryz.func61, Tryz.ntmps61
  go_wp2_with fail
  refine CC.mono ?_
  rintro e w1 ⟨A', c', rfl, r', hc', bb⟩
  have k11 := k1.below bb k1.lt
  have k21 := k2.below bb k2.lt
  have b1 := B0.trans (bb.mono B0.size)
  clear CC k1 k2 B0 bb q2
  have q2 : _ = some (Value.slice x.2.1 x.1.g.length x.2.2) := k11.cell 2
  have f2 := k11.frozen 2
  go_wp2_with (first
    | (refine wpList_load_row rfl 46 (.tmp 1) rfl w.heap.size rfl 46 (ndC (x.1, (A', c'))) (0, 0) _ (k11.set_ 2 (.slice A' x.1.g.length c')).blk Tryz.underlying46 rfl (nd_inf _) ?_)
    | (refine wpList_store_blk rfl 46 (.tmp 2) (.tmp 7) rfl (w.heap.size + 1) (ndC nl0) (ndC (x.1, (A', c'))) 46 rfl rfl (k21.far (by simp) _) rfl (nd_inf (x.1, (A', c'))) (nd_one _) ?_
       intro w3 h3 n3))
  have b2 : Below w.heap.size w (w1.setCell ⟨w.heap.size, 2, none⟩ (.slice A' x.1.g.length c')) := b1.setCell (p := ⟨w.heap.size, 2, none⟩) (by simp) _
  have rs : Ri (w1.setCell ⟨w.heap.size, 2, none⟩ (.slice A' x.1.g.length c')) w1.heap.size A' x.1.g.length (gF x.1.g) :=
    r'.but k11 (Nat.le_refl _) fun b hb _ => Below.heap_setCell _ ⟨w.heap.size, 2, none⟩ _ b hb
  have ks : Blk (w1.setCell ⟨w.heap.size, 2, none⟩ (.slice A' x.1.g.length c')) (w.heap.size + 1) (ndC nl0) 46 := k21.far (by simp) _
  have hs : (w1.setCell ⟨w.heap.size, 2, none⟩ (.slice A' x.1.g.length c')).heap.size = w1.heap.size := by simp [World.setCell]
  have r3 : Ri w3 w1.heap.size A' x.1.g.length (gF x.1.g) := rs.but ks (by omega) fun b hb hl => n3.block b hl hb
  refine bodyPost_ret (results_cell_row rfl _ w3 (w.heap.size + 1) 46 (ndC (x.1, (A', c'))) (0, 0) _ rfl h3.blk Tryz.underlying46 rfl (nd_inf _)) rfl ⟨(A', c'), rfl, ⟨hx.ok, fun k hk => ?_, hc'⟩, b2.trans (n3.below _ (by omega) b2.size)⟩
  exact (r3.more (B' := w3.heap.size) (by have := n3.size; omega)) k hk
set_option maxRecDepth 100000 in
set_option maxHeartbeats 2000000 in
theorem pfind_any (A : Option Addr) (m c : Nat) (L : List Nl) (id : Int) (w : World) (hK : Kinds w) (hP : Po w w.heap.size A L) (hm : m = L.length) (hmc : m ≤ c) (h6 : m ≤ 1000000) (hg : ∀ x ∈ L, x.1.g.length ≤ 300) :
    Calls Tryz.prog 24 #[poV A m c, .int .i64 id] w fun e w' => ∃ r l b, e = .returned (.tuple #[ndV (r.1, l), .bool b]) ∧ (chkP L = 0 → idR L id = (r, b)) ∧ (¬ chkP L = 0 → r.1 = nm0 ∧ b = false) ∧ Below w.heap.size w w' := by
  have k1 := (Blk.new w #[.slice A m c] 24).alloc (.cells (ndC nl0) 46)
  have k2 := Blk.new_ (w.alloc (.cells #[.slice A m c] 24)) (ndC nl0) 46 (n := w.heap.size + 1) (by simp)
  have B0 := ((Below.refl w.heap.size w).alloc (Nat.le_refl _) (.cells #[.slice A m c] 24)).alloc (by simp) (.cells (ndC nl0) 46)
  have CK := pcheck_any A m c L _ (hK.below B0 hK.pos) ((hP.below B0 (Nat.le_refl _)).more B0.size) hm hmc h6
  have HM := Lib.hid hm
  clear hm
  obtain ⟨ck, hck⟩ : ∃ ck, chkP L = ck := ⟨_, rfl⟩
  rw [hck] at CK
  unfold poV at CK ⊢
  go_enter Tryz.func24, Tryz.ntmps24
  go_wp2_with (refine wpList_load_row rfl 24 (.tmp 2) rfl w.heap.size rfl 24 #[.slice A m c] (0, 0) _ k1.blk Tryz.underlying24 rfl (po_info A m c) ?_)
  refine CK.mono ?_
  rintro e w1 ⟨rfl, bb⟩
  have k11 := k1.below bb k1.lt
  have k21 := k2.below bb k2.lt
  have b1 := B0.trans (bb.mono B0.size)
  have HC := Lib.hid hck
  clear CK k1 k2 B0 bb hck
  by_cases h0 : ck = 0
  · subst h0
    go_wp2_with (refine wpList_load_row rfl 24 (.tmp 2) rfl w.heap.size rfl 24 #[.slice A m c] (0, 0) _ k11.blk Tryz.underlying24 rfl (po_info A m c) ?_)
    refine (row_any A m c L id _ ((hP.below b1 (Nat.le_refl _)).more b1.size) HM.out hmc h6).mono ?_
    rintro e w2 ⟨r, b, rfl, hr, bb⟩
    have hre := Lib.hid hr.eq
    have hnr := hr.nr hP.nr
    have hgl : r.1.g.length ≤ 300 := by
      rcases hr with ⟨h, _⟩ | ⟨_, h, _⟩
      · exact hg _ (List.mem_of_find?_eq_some h)
      · subst h; exact Nat.zero_le _
    have k22 := k21.below bb k21.lt
    have b2 := b1.trans (bb.mono b1.size)
    clear bb b1 k21 k11 hr
    unfold ndV
    go_wp2_with (first
      | (refine wpList_store_blk rfl 46 (.tmp 6) (.tmp 16) rfl w2.heap.size (ndC nl0) (ndC r) 46 rfl rfl (Blk.new _ _ _) rfl (nd_inf r) (nd_one r) ?_
         intro w3 h3 n3
         have bb : Below w2.heap.size w2 w3 := ((Below.refl _ w2).alloc (Nat.le_refl _) _).trans (n3.below _ (Nat.le_refl _) (by simp))
         have k23 := k22.below bb k22.lt
         have b3 := b2.trans (bb.mono b2.size)
         clear n3 bb b2 k22)
      | (refine wpList_load_row rfl 46 (.tmp 6) rfl w2.heap.size rfl 46 (ndC r) (0, 0) _ h3.blk Tryz.underlying46 rfl (nd_inf r) ?_))
    refine (copied_any r w3 ((hnr.below b3 (Nat.le_refl _)).more b3.size) hgl).mono ?_
    rintro e w4 ⟨l, rfl, _, bb⟩
    have k24 := k23.below bb k23.lt
    have b4 := b3.trans (bb.mono b3.size)
    clear bb b3 k23 h3
    unfold ndV
    go_wp2_with (refine wpList_store_blk rfl 46 (.tmp 4) (.tmp 19) rfl (w.heap.size + 1) (ndC nl0) (ndC (r.1, l)) 46 rfl rfl k24 rfl (nd_inf (r.1, l)) (nd_one (r.1, l)) ?_; intro w5 h5 n5)
    refine bodyPost_ret (results_rowT rfl _ _ (w.heap.size + 1) 46 (ndC (r.1, l)) _ rfl h5 Tryz.underlying46 rfl (nd_inf (r.1, l)) _ rfl) rfl ?_
    exact ⟨r, l, b, rfl, fun _ => hre.out, fun h => absurd HC.out h, b4.trans (n5.below _ (by omega) b4.size)⟩
  · have hne : (ck != 0) = true := by simpa using h0
    have HN := Lib.hid h0
    clear h0
    go_wp2_with (refine wpList_store_blk rfl 46 (.tmp 4) (.tmp 11) rfl (w.heap.size + 1) (ndC nl0) (ndC nl0) 46 rfl rfl k21 rfl (nd_inf nl0) (nd_one nl0) ?_; intro w5 h5 n5)
    refine bodyPost_ret (results_rowT rfl _ _ (w.heap.size + 1) 46 (ndC nl0) _ rfl h5 Tryz.underlying46 rfl (nd_inf nl0) _ rfl) rfl ?_
    exact ⟨nl0, loc0, false, rfl, fun h => absurd (HC.out.symm.trans h) HN.out, fun _ => ⟨rfl, rfl⟩, b1.trans (n5.below _ (by omega) b1.size)⟩
end Go.Proofs.YtelfdpcenplhjaaGreatDoor
namespace Go.Proofs.YtelfdpcenplhjaaGreatDoor
open Go.RowKit Go.Shelf
set_option linter.unusedVariables false
set_option linter.unusedSimpArgs false
set_option maxRecDepth 100000 in
set_option maxHeartbeats 1000000 in
theorem pclone2_any (A : Option Addr) (m c : Nat) (f : Nat → Ins) (w : World) (hA : Ri w w.heap.size A m f) (hm : m ≤ 300) :
    Calls Tryz.prog 81 #[.slice A m c] w fun e w' => ∃ A' c', e = .returned (.slice A' m c') ∧ Ri w' w'.heap.size A' m f ∧ m ≤ c' ∧ (∀ a, A' = some a → w.heap.size ≤ a.block) ∧ Below w.heap.size w w' := by
  have hg := heap_alloc_new w (.cells #[] 111)
  have hb := (Below.refl w.heap.size w).alloc (Nat.le_refl _) (.cells #[] 111)
  have hA1 := hA.below hb (Nat.le_refl _)
  cases A with
  | none =>
    have hm0 : m = 0 := by
      rcases Nat.eq_zero_or_pos m with h | h
      · exact h
      · obtain ⟨b, off, e, _⟩ := hA 0 h
        cases e
    subst hm0
    have en := fun w => eql_nilI none 0 c w
    simp only [Option.isNone_none] at en
    go_enter Tryz.func81, Tryz.ntmps81
    go_wp2
    go_ret
    exact ⟨none, 0, rfl, fun k hk => absurd hk (by omega), Nat.le_refl _, fun a e => by (cases e), Below.refl _ _⟩
  | some a =>
    have en := fun w => eql_nilI (some a) m c w
    simp only [Option.isNone_some] at en
    go_enter Tryz.func81, Tryz.ntmps81
    go_wp2_with (at_builtin; with_reducible refine wpList_few rfl (.tmp 5) (.tmp 6) rfl w.heap.size rfl hg (some a) w.heap.size m c f rfl hA1 hm ?_; intro A2 c2 w2 ho hb2)
    obtain ⟨r2, hc2⟩ := ri_of_own ho hA.ok
    go_ret
    exact ⟨A2, c2, rfl, r2, hc2, fun a e => (ho.lt a.block (by rw [e]; rfl)).1, hb.trans hb2⟩
set_option maxHeartbeats 1000000 in
theorem copied2_any (x : Nl) (w : World) (hx : Nr w w.heap.size x) (hm : x.1.g.length ≤ 300) :
    Calls Tryz.prog 61 #[ndV x] w fun e w' => ∃ l, e = .returned (ndV (x.1, l)) ∧ Nr w' w'.heap.size (x.1, l) ∧ (∀ a, l.1 = some a → w.heap.size ≤ a.block) ∧ Below w.heap.size w w' := by
  have k1 := (Blk.new w (ndC x) 46).alloc (.cells (ndC nl0) 46)
  have k2 := Blk.new_ (w.alloc (.cells (ndC x) 46)) (ndC nl0) 46 (n := w.heap.size + 1) (by simp)
  have B0 := ((Below.refl w.heap.size w).alloc (Nat.le_refl _) (.cells (ndC x) 46)).alloc (by simp) (.cells (ndC nl0) 46)
  have q2 : ((w.alloc (.cells (ndC x) 46)).alloc (.cells #[.int .i64 0, .int .i64 0, .slice none 0 0, .int .i64 0, .int .i64 0, .int .u64 0, .int .u64 0] 46)).cell? ⟨w.heap.size, 2, none⟩ = some (Value.slice x.2.1 x.1.g.length x.2.2) := k1.cell 2
  have CC := pclone2_any x.2.1 x.1.g.length x.2.2 (gF x.1.g) _ ((hx.ri.below B0 (Nat.le_refl _)).more B0.size) hm
  have hsz0 : w.heap.size ≤ ((w.alloc (.cells (ndC x) 46)).alloc (.cells (ndC nl0) 46)).heap.size := B0.size
  unfold ndV
  go_enter Tryz.func61, Tryz.ntmps61
  go_wp2_with fail
  refine CC.mono ?_
  rintro e w1 ⟨A', c', rfl, r', hc', hfr, bb⟩
  have k11 := k1.below bb k1.lt
  have k21 := k2.below bb k2.lt
  have b1 := B0.trans (bb.mono B0.size)
  clear CC k1 k2 B0 bb q2
  have q2 : _ = some (Value.slice x.2.1 x.1.g.length x.2.2) := k11.cell 2
  have f2 := k11.frozen 2
  go_wp2_with (first
    | (refine wpList_load_row rfl 46 (.tmp 1) rfl w.heap.size rfl 46 (ndC (x.1, (A', c'))) (0, 0) _ (k11.set_ 2 (.slice A' x.1.g.length c')).blk Tryz.underlying46 rfl (nd_inf _) ?_)
    | (refine wpList_store_blk rfl 46 (.tmp 2) (.tmp 7) rfl (w.heap.size + 1) (ndC nl0) (ndC (x.1, (A', c'))) 46 rfl rfl (k21.far (by simp) _) rfl (nd_inf (x.1, (A', c'))) (nd_one _) ?_
       intro w3 h3 n3))
  have b2 : Below w.heap.size w (w1.setCell ⟨w.heap.size, 2, none⟩ (.slice A' x.1.g.length c')) := b1.setCell (p := ⟨w.heap.size, 2, none⟩) (by simp) _
  have rs : Ri (w1.setCell ⟨w.heap.size, 2, none⟩ (.slice A' x.1.g.length c')) w1.heap.size A' x.1.g.length (gF x.1.g) :=
    r'.but k11 (Nat.le_refl _) fun b hb _ => Below.heap_setCell _ ⟨w.heap.size, 2, none⟩ _ b hb
  have ks : Blk (w1.setCell ⟨w.heap.size, 2, none⟩ (.slice A' x.1.g.length c')) (w.heap.size + 1) (ndC nl0) 46 := k21.far (by simp) _
  have hs : (w1.setCell ⟨w.heap.size, 2, none⟩ (.slice A' x.1.g.length c')).heap.size = w1.heap.size := by simp [World.setCell]
  have r3 : Ri w3 w1.heap.size A' x.1.g.length (gF x.1.g) := rs.but ks (by omega) fun b hb hl => n3.block b hl hb
  refine bodyPost_ret (results_cell_row rfl _ w3 (w.heap.size + 1) 46 (ndC (x.1, (A', c'))) (0, 0) _ rfl h3.blk Tryz.underlying46 rfl (nd_inf _)) rfl ⟨(A', c'), rfl, ⟨hx.ok, fun k hk => ?_, hc'⟩, fun a e => Nat.le_trans hsz0 (hfr a e), b2.trans (n3.below _ (by omega) b2.size)⟩
  exact (r3.more (B' := w3.heap.size) (by have := n3.size; omega)) k hk
def flatN (L : List Nl) : List Value := L.flatMap fun x => (ndC x).toList
theorem ndL_len (x : Nl) : (ndC x).toList.length = 7 := rfl
theorem flatN_snoc (L : List Nl) (x : Nl) : flatN (L ++ [x]) = flatN L ++ (ndC x).toList := by simp [flatN]
theorem flatN_append (L M : List Nl) : flatN (L ++ M) = flatN L ++ flatN M := by simp [flatN]
theorem flatN_len : ∀ (L : List Nl), (flatN L).length = L.length * 7
  | [] => rfl
  | x :: L => by
    have ih := flatN_len L
    simp only [flatN, List.flatMap_cons, List.length_append, ndL_len] at ih ⊢
    rw [ih, List.length_cons]; omega
theorem flatN_get : ∀ (L : List Nl) (k j : Nat), k < L.length → j < 7 → (flatN L)[k * 7 + j]? = (ndC (L.getD k nl0))[j]?
  | [], k, j, h, _ => absurd h (by simp)
  | x :: L, 0, j, _, hj => by
    have e : flatN (x :: L) = (ndC x).toList ++ flatN L := by simp [flatN]
    rw [e, Nat.zero_mul, Nat.zero_add, List.getElem?_append_left (by rw [ndL_len]; exact hj), Array.getElem?_toList]
    rfl
  | x :: L, k + 1, j, h, hj => by
    have e : flatN (x :: L) = (ndC x).toList ++ flatN L := by simp [flatN]
    rw [e, List.getElem?_append_right (by rw [ndL_len]; omega), ndL_len, show (k + 1) * 7 + j - 7 = k * 7 + j by omega, flatN_get L k j (by simpa using h) hj]
    simp [List.getD]
theorem flatN_one (L : List Nl) : ∀ u ∈ flatN L, u.oneCell' = true := by
  intro u hu
  obtain ⟨x, _, hx⟩ := List.mem_flatMap.1 hu
  exact nd_oneL x u hx
theorem nd_info3 : (Tryz.prog.info? 46).map (fun i => (i.zero, i.size, i.bytes)) = some (some (ndV nl0), 7, 72) := by kernel_rfl
structure No (w : World) (base : Nat) (A : Option Addr) (m c : Nat) (L : List Nl) : Prop where
  own : w.ownsRow base 46 7 (.slice A m c) m (flatN L)
  nr : ∀ x ∈ L, Nr w w.heap.size x
  ap : ∀ g, (Value.slice A m c).ownBlock = some g → ∀ x ∈ L, 0 < x.1.g.length → ∀ a, x.2.1 = some a → a.block ≠ g
theorem n_add (b off j : Nat) : (⟨b, off, none⟩ : Addr).add j = ⟨b, off + j, none⟩ := by unfold Addr.add; by_cases h0 : j = 0 <;> simp [h0]
section
variable {w w' : World} {base B B' m c : Nat} {A : Option Addr} {L : List Nl}
theorem No.len (h : No w base A m c L) : m = L.length := by have := h.own.1; rw [flatN_len] at this; omega
theorem No.below (h : No w base A m c L) (hb : Below B w w') (hB : w.heap.size ≤ B) : No w' base A m c L := ⟨ownsRow_below h.own hb hB, fun x hx => ((h.nr x hx).below (hb.mono hB) (Nat.le_refl _)).more hb.size, h.ap⟩
theorem No.down (h : No w base A m c L) {b : Nat} (hb : b ≤ base) : No w b A m c L := ⟨own_base h.own hb, h.nr, h.ap⟩
theorem No.cap (h : No w base A m c L) : m ≤ c := by
  rcases h.own.2 with ⟨hv, h0⟩ | ⟨g, cap, cur, hv, _, _, hnc, _⟩
  · omega
  · injection hv with _ _ h3
    omega
theorem No.po (h : No w base A m c L) : Po w w.heap.size A L := ⟨fun k hk => by
  have hm := h.len
  obtain ⟨g, c', hv, hg, hcs⟩ := own_head h.own (by omega)
  injection hv with hA _ _
  refine ⟨g, 0, hA, hg, fun j v hv => ?_⟩
  have hj : j < 7 := by
    rcases Nat.lt_or_ge j 7 with h1 | h1
    · exact h1
    · rw [List.getElem?_eq_none (by rw [ndL_len]; exact h1)] at hv; cases hv
  rw [Nat.zero_add]
  exact hcs _ _ ((flatN_get L k j hk hj).trans (by rw [← Array.getElem?_toList]; exact hv)), h.nr⟩
theorem no_nil (w : World) (base : Nat) : No w base none 0 0 [] := ⟨World.ownsRow_nil w base _ 7, (fun x hx => by cases hx), (fun g e => by cases e)⟩
theorem Ri.off {n : Nat} {f : Nat → Ins} (h : Ri w B A n f) (hA : 0 < n → ∀ a, A = some a → a.block < w.heap.size → w'.heap[a.block]? = w.heap[a.block]?) (hB : B ≤ w.heap.size) (hB' : B ≤ B') : Ri w' B' A n f := fun k hk => by
  obtain ⟨b, off, e, h1, ⟨c0, c1, c2, c3⟩, ho⟩ := h k hk
  have hh := hA (by omega) ⟨b, off, none⟩ e (Nat.lt_of_lt_of_le h1 hB)
  have hc : ∀ o, w'.cell? ⟨b, o, none⟩ = w.cell? ⟨b, o, none⟩ := fun o => by simp [World.cell?, show w'.heap[b]? = w.heap[b]? from hh]
  exact ⟨b, off, e, Nat.lt_of_lt_of_le h1 hB', ⟨(hc _).trans c0, (hc _).trans c1, (hc _).trans c2, (hc _).trans c3⟩, ho⟩
theorem Nr.off {x : Nl} (h : Nr w w.heap.size x) (hA : 0 < x.1.g.length → ∀ a, x.2.1 = some a → a.block < w.heap.size → w'.heap[a.block]? = w.heap[a.block]?) (hs : w.heap.size ≤ w'.heap.size) : Nr w' w'.heap.size x := ⟨h.ok, h.ri.off hA (Nat.le_refl _) hs, h.le⟩
theorem Nr.prog_lt {x : Nl} (h : Nr w B x) (hl : 0 < x.1.g.length) {a : Addr} (ha : x.2.1 = some a) : a.block < B := by
  obtain ⟨b, off, e, h1, _⟩ := h.ri 0 hl
  rw [ha] at e
  cases e
  exact h1
theorem No.but {g : Nat} (h : No w base A m c L) (n : But g w w') (hg : g < base) (hp : ∀ x ∈ L, 0 < x.1.g.length → ∀ a, x.2.1 = some a → a.block ≠ g) : No w' base A m c L := by
  refine ⟨⟨h.own.1, ?_⟩, fun x hx => (h.nr x hx).off (fun hl a ha hlt => n.block _ hlt (hp x hx hl a ha)) n.size, h.ap⟩
  rcases h.own.2 with h0 | ⟨g', cap, cur, hv, hb, hh, r⟩
  · exact .inl h0
  · exact .inr ⟨g', cap, cur, hv, hb, (n.block g' (Array.getElem?_eq_some_iff.1 hh).1 (by omega)).trans hh, r⟩
end
theorem run_appN {w : World} (ty : TypeId) (base : Nat) (A : Option Addr) (m c : Nat) (L : List Nl) (ho : No w base A m c L) (x : Nl) (hx : Nr w w.heap.size x) (hxa : ∀ g, (Value.slice A m c).ownBlock = some g → 0 < x.1.g.length → ∀ a, x.2.1 = some a → a.block ≠ g) (gb : Nat) (hb : w.heap[gb]? = some (.cells (ndC x) 46 (0, 0))) (hsz : m + 1 ≤ 1000000) (hbase : base ≤ w.heap.size) :
    ∃ A' c' w', (Builtin.append_ #[22, 22] ty #[.slice A m c, .slice (some ⟨gb, 0, none⟩) 1 1]).run Tryz.prog w = .ok (.slice A' (m + 1) c') w' ∧ No w' base A' (m + 1) c' (L ++ [x]) ∧ w.grownBy w' (Value.slice A m c).ownBlock ∧ Below base w w' := by
  obtain ⟨i, hi, hz, hs1, hb1⟩ := info_parts nd_info3
  obtain ⟨v', w', hrun, h1, h2, _, h4⟩ := run_append_own_at (P := Tryz.prog) w base 22 ty 46 i (ndV nl0) 7 72 Tryz.underlying22 hi hz hs1 hb1 rfl (by decide) _ m _ ho.own ⟨gb, 0, none⟩ 1 1 (ndC x).toList
    (by rw [ndL_len]) (by
      intro j u hj
      rw [n_add, Nat.zero_add]
      simp only [World.cell?, hb]
      rw [← Array.getElem?_toList]
      exact hj) (nd_oneL x) (by simp only [maxLen]; omega) (by omega) hbase
  obtain ⟨A'', c'', rfl⟩ := own_slice h1
  refine ⟨A'', c'', w', hrun, ⟨by rw [flatN_snoc]; exact h1, ?_, ?_⟩, h2, (Below.refl _ _).grown h2 hbase fun k hk => (ho.own.lt k hk).1⟩
  · have keep : ∀ y, y ∈ L ∨ y = x → ∀ hy : Nr w w.heap.size y, Nr w' w'.heap.size y := fun y hyL hy =>
      hy.off (fun hl a ha hlt => h2.block _ hlt fun e => by
        rcases hyL with h | rfl
        · exact ho.ap a.block e.symm y h hl a ha rfl
        · exact hxa a.block e.symm hl a ha rfl) h2.size
    intro y hy
    rcases List.mem_append.1 hy with h | h
    · exact keep y (.inl h) (ho.nr y h)
    · simp at h; subst h; exact keep _ (.inr rfl) hx
  · intro g hg y hy hl a ha
    rcases h4 with e | e
    · rw [e] at hg
      rcases List.mem_append.1 hy with h | h
      · exact ho.ap g hg y h hl a ha
      · simp at h; subst h; exact hxa g hg hl a ha
    · rw [e] at hg
      cases hg
      have : a.block < w.heap.size := by
        rcases List.mem_append.1 hy with h | h
        · exact (ho.nr y h).prog_lt hl ha
        · simp at h; subst h; exact hx.prog_lt hl ha
      omega
theorem wp_appN {w : World} {o : Oper} {a : Act} {K : Act → World → Prop} {Q : Exit → Act → World → Prop} (s x' : Operand)
    (ho : o.op = .call { callee := .builtin .append, args := #[s, x'], argTypes := #[22, 22] })
    (base : Nat) (A : Option Addr) (m c : Nat) (L : List Nl) (hs : a.eval s = .slice A m c) (hn : No w base A m c L) (x : Nl) (gb : Nat) (hx' : a.eval x' = .slice (some ⟨gb, 0, none⟩) 1 1) (hx : Nr w w.heap.size x) (hxa : ∀ g, (Value.slice A m c).ownBlock = some g → 0 < x.1.g.length → ∀ a, x.2.1 = some a → a.block ≠ g) (hb : w.heap[gb]? = some (.cells (ndC x) 46 (0, 0))) (hsz : m + 1 ≤ 1000000) (hbase : base ≤ w.heap.size)
    (h : ∀ A' c' w', No w' base A' (m + 1) c' (L ++ [x]) → w.grownBy w' (Value.slice A m c).ownBlock → Below base w w' → K (a.put o.dst (.slice A' (m + 1) c')) w') : o.wp Tryz.prog a w K Q := by
  obtain ⟨A', c', w', hrun, h3, h4, h5⟩ := run_appN o.type base A m c L hn x hx hxa gb hb hsz hbase
  unfold Oper.wp execOp
  simp only [ho, resolve, invoke, builtin, Sem.run_bind, Sem.run_pure, Result.andThen_ok, List.map_toArray, List.map_cons, List.map_nil, hs, hx', hrun]
  exact h A' c' w' h3 h4 h5
end Go.Proofs.YtelfdpcenplhjaaGreatDoor
namespace Go.Proofs.YtelfdpcenplhjaaGreatDoor
open Go.RowKit Go.Shelf
set_option linter.unusedVariables false
set_option linter.unusedSimpArgs false
theorem region_cutZ {α : Type} {P : Program} {id : Nat} {ops : Array Oper} {dr : Bool} {Q : Exit → Act → World → Prop} {a : Act} {w : World} (F : α → Act) (H : α → World → Prop)
    (h1 : (Code.region id ops dr).wp P (fun e a' w' => e = .normal ∧ ∃ x, a' = F x ∧ H x w') a w) (h2 : ∀ x w', H x w' → Q .normal (F x) w') : (Code.region id ops dr).wp P Q a w :=
  Code.wp_mono (fun e a' w' h => by obtain ⟨he, x, ha, hg⟩ := h; subst he ha; exact h2 _ _ hg) h1
structure ChP (w : World) (m : Nat) (M : List Nm) (V : World) (gq : Nat) (A1 : Option Addr) (c1 : Nat) (L1 : List Nl) : Prop where
  b : Below w.heap.size w V
  gt : w.heap.size + 1 < gq
  box : Blk V gq #[.slice A1 m c1] 24
  row : No V (gq + 1) A1 m c1 L1
  names : L1.map (·.1) = M
  pr : ∀ x ∈ L1, ∀ a, x.2.1 = some a → gq < a.block
  res : Blk V (w.heap.size + 1) #[.slice none 0 0] 24
theorem ChP.below {w V V' : World} {m gq c1 : Nat} {M : List Nm} {A1 : Option Addr} {L1 : List Nl} (h : ChP w m M V gq A1 c1 L1) (bb : Below V.heap.size V V') : ChP w m M V' gq A1 c1 L1 :=
  ⟨h.b.trans (bb.mono h.b.size), h.gt, h.box.below bb h.box.lt, h.row.below bb (Nat.le_refl _), h.names, h.pr, h.res.below bb h.res.lt⟩
structure SJq (w : World) (g9 : Nat) (x : Nl) (V : World) : Prop where
  b : Below w.heap.size w V
  k : Blk V g9 (ndC x) 46
theorem SJq.step {w V V' : World} {g9 : Nat} {x : Nl} (h : SJq w g9 x V) (bb : Below V.heap.size V V') : SJq w g9 x V' := ⟨h.b.trans (bb.mono h.b.size), h.k.below bb h.k.lt⟩
theorem SJq.grown {w V V' : World} {g9 : Nat} {x : Nl} {row : Option Nat} (h : SJq w g9 x V) (hg : V.grownBy V' row) (hne : some g9 ≠ row) (hr : ∀ r, row = some r → w.heap.size ≤ r) : SJq w g9 x V' := ⟨h.b.grown hg h.b.size (fun k e => hr k e), ⟨(hg.block g9 h.k.lt hne).trans h.k.blk⟩⟩
theorem SJq.set {w V : World} {g9 g : Nat} {x : Nl} (h : SJq w g9 x V) (hg : w.heap.size ≤ g) (hne : g9 ≠ g) (u : Value) : SJq w g9 x (V.setCell ⟨g, 0, none⟩ u) := ⟨h.b.setCell (p := ⟨g, 0, none⟩) hg u, h.k.far (p := ⟨g, 0, none⟩) hne u⟩
theorem names_snoc {L : List Nl} {L1 : List Nl} {k : Nat} {x : Nm} {l : Loc} (h : L1.map (·.1) = (L.take k).map (·.1)) (hk : k < L.length) (hx : (L.getD k nl0).1 = x) : (L1 ++ [(x, l)]).map (·.1) = (L.take (k + 1)).map (·.1) := by
  rw [List.map_append, h, List.take_succ_eq_append_getElem hk, List.map_append]
  simp only [List.map_cons, List.map_nil]
  rw [← hx]
  simp [List.getD, hk]
set_option maxRecDepth 100000 in
set_option maxHeartbeats 8000000 in
theorem changed_any (cf : Nat) (cb : Array Value) (A : Option Addr) (m c : Nat) (L : List Nl) (w : World) (hK : Kinds w) (hP : Po w w.heap.size A L) (hm : m = L.length) (hmc : m ≤ c) (h6 : m ≤ 100000) (hg : ∀ x ∈ L, x.1.g.length ≤ 300)
    (ec : ∀ args w, (callFunc cf args).run Tryz.prog w = .ok (.enter cf args) w)
    (R : World → Nat → Option Addr → Nat → List Nl → World → Int → Option Addr → Nat → Nat → Prop)
    (hclo : ∀ V gq A1 c1 L1, ChP w m (L.map (·.1)) V gq A1 c1 L1 → chkP L = 0 → Calls Tryz.prog cf (#[.pointer (some ⟨gq, 0, none⟩)] ++ cb) V fun e V' => ∃ er A2 m2 c2, e = .returned (.int .i64 er) ∧ Blk V' gq #[.slice A2 m2 c2] 24 ∧ Blk V' (w.heap.size + 1) #[.slice none 0 0] 24 ∧ R V gq A1 c1 L1 V' er A2 m2 c2) :
    Calls Tryz.prog 33 #[poV A m c, .func (.func cf) #[] cb] w fun e w' =>
      (¬ chkP L = 0 ∧ e = .returned (.tuple #[poV none 0 0, .int .i64 (chkP L)]) ∧ Below w.heap.size w w') ∨
      (chkP L = 0 ∧ ∃ V gq A1 c1 L1 V' er A2 m2 c2, ChP w m (L.map (·.1)) V gq A1 c1 L1 ∧ R V gq A1 c1 L1 V' er A2 m2 c2 ∧ But (w.heap.size + 1) V' w' ∧ ((er = 0 ∧ e = .returned (.tuple #[poV A2 m2 c2, .int .i64 0])) ∨ (¬ er = 0 ∧ e = .returned (.tuple #[poV none 0 0, .int .i64 er])))) := by
  have k2 := (Blk.new w #[.slice A m c] 24).alloc (.cells #[.slice none 0 0] 24)
  have k3 := Blk.new_ (w.alloc (.cells #[.slice A m c] 24)) #[.slice none 0 0] 24 (n := w.heap.size + 1) (by simp)
  have B0 := ((Below.refl w.heap.size w).alloc (Nat.le_refl _) (.cells #[.slice A m c] 24)).alloc (by simp) (.cells #[.slice none 0 0] 24)
  have CK := pcheck_any A m c L _ (hK.below B0 hK.pos) ((hP.below B0 (Nat.le_refl _)).more B0.size) hm hmc (by omega)
  have HM := Lib.hid hm
  have HCL := Lib.hid hclo
  obtain ⟨ck, hck⟩ : ∃ ck, chkP L = ck := ⟨_, rfl⟩
  rw [hck] at CK
  have HC := Lib.hid hck
  clear hm hck hclo
  unfold poV at CK ⊢
  go_enter Tryz.func33, Tryz.ntmps33
  go_wp2_with (refine wpList_load_row rfl 24 (.tmp 2) rfl w.heap.size rfl 24 #[.slice A m c] (0, 0) _ k2.blk Tryz.underlying24 rfl (po_info A m c) ?_)
  refine CK.mono ?_
  rintro e w1 ⟨rfl, bb⟩
  have k21 := k2.below bb k2.lt
  have k31 := k3.below bb k3.lt
  have b1 := B0.trans (bb.mono B0.size)
  clear CK k2 k3 B0 bb
  by_cases h0 : ck = 0
  · subst h0
    have q2 : w1.cell? ⟨w.heap.size, 0, none⟩ = some (.slice A m c) := k21.cell 0
    have kq := Blk.new w1 #[.slice none 0 0] 24
    have ba : Below w1.heap.size w1 (w1.alloc (.cells #[.slice none 0 0] 24)) := (Below.refl _ _).alloc (Nat.le_refl _) _
    have q2' : (w1.alloc (.cells #[.slice none 0 0] 24)).cell? ⟨w.heap.size, 0, none⟩ = some (.slice A m c) := (k21.below ba k21.lt).cell 0
    have k32 := k31.below ba k31.lt
    have b2 := b1.trans (ba.mono b1.size)
    have hgt : w.heap.size + 1 < w1.heap.size := k31.lt
    clear k31 q2 b1
    go_wp2_with fail
    show Code.wp _ _ _ _ (w1.alloc (.cells #[.slice none 0 0] 24))
    have C0 : ChP w 0 ((L.take 0).map (·.1)) (w1.alloc (.cells #[.slice none 0 0] 24)) w1.heap.size none 0 [] := ⟨b2, hgt, kq, no_nil _ _, rfl, (fun x hx => by cases hx), k32⟩
    clear kq k32 b2 ba q2'
    generalize w1.alloc (.cells #[.slice none 0 0] 24) = w2 at C0 ⊢
    go_loopw [20] (fun iv wr' => ∃ (k : Nat) (wr : World) (A1 : Option Addr) (c1 : Nat) (L1 : List Nl), wr = wr' ∧ k ≤ m ∧ iv = .int .i64 k ∧ Hid (ChP w k ((L.take k).map (·.1)) wr w1.heap.size A1 c1 L1)) (fun iv _ => m - (intOf iv).toNat)
    case atStart => exact ⟨0, _, none, 0, [], rfl, Nat.zero_le _, rfl, Lib.hid C0⟩
    case round =>
      clear C0
      obtain ⟨k, wr, A1, c1, L1, hwr, hk, rfl, HCH⟩ := hrel
      subst hwr
      by_cases hlt : k < m
      · have hlt' : (k : Int) < (m : Int) := by omega
        have hkl : k < L.length := by have := HM.out; omega
        obtain ⟨b, off, rfl, hb, hc⟩ := (hP.below HCH.out.b (Nat.le_refl _)).at_ k hkl
        have hxr := (hP.at' hkl)
        have hxg := hg _ (by rw [show L.getD k nl0 = L[k] by simp [List.getD, hkl]]; exact List.getElem_mem hkl : L.getD k nl0 ∈ L)
        have HKL := Lib.hid hkl
        have HLT := Lib.hid hlt
        obtain ⟨x, hx⟩ : ∃ x, L.getD k nl0 = x := ⟨_, rfl⟩
        rw [hx] at hc hxr hxg
        have HX := Lib.hid hx
        have HXR := Lib.hid hxr
        clear hkl hx hlt hxr
        have hs2 : (ndC x).size = 7 := nd_size x
        go_wp2_with (first
          | (refine wpList_load_mid rfl 46 (.tmp 22) rfl b (off + k * 7) rfl (ndC x).toList _ hc Tryz.underlying46 rfl (nd_infL x) ?_)
          | (refine wpList_store_blk rfl 46 (.tmp 9) (.tmp 23) rfl wr.heap.size (ndC nl0) (ndC x) 46 rfl rfl (Blk.new _ _ _) rfl (nd_inf x) (nd_one x) ?_
             intro W1 k9 n9
             have bb : Below wr.heap.size wr W1 := ((Below.refl _ wr).alloc (Nat.le_refl _) _).trans (n9.below _ (Nat.le_refl _) (by simp))
             have C1 := HCH.out.below bb
             clear n9 bb))
        try simp only [Act.put, List.getElem_toArray, List.getElem_cons_zero, List.getElem_cons_succ, List.setIfInBounds_toArray, List.set_cons_zero, List.set_cons_succ]
        refine region_cutZ (α := Loc × Nat × Option Addr × Nat) (fun q => { tmps := #[.agg #[.slice (some ⟨b, off, none⟩) m c], .func (.func cf) #[] cb, .pointer (some ⟨w.heap.size, 0, none⟩), undef, .pointer (some ⟨w.heap.size + 1, 0, none⟩), .int .i64 0, .int .i64 0, .pointer (some ⟨w1.heap.size, 0, none⟩), undef, .pointer (some ⟨wr.heap.size, 0, none⟩), undef, .agg #[.slice (some ⟨b, off, none⟩) m c], .int .i64 0, .int .i64 0, .bool false, undef, undef, .pointer (some ⟨w.heap.size, 0, none⟩), .slice (some ⟨b, off, none⟩) m c, .int .i64 m, .int .i64 k, .bool true, .pointer (some ⟨b, off + k * 7, none⟩), .agg (ndC x), .pointer (some ⟨w1.heap.size, 0, none⟩), .slice A1 k c1, .agg (ndC x), ndV (x.1, q.1), .slice (some ⟨q.2.1, 0, none⟩) 1 1, .slice q.2.2.1 (k + 1) q.2.2.2, .pointer (some ⟨w1.heap.size, 0, none⟩), u31, undef, undef, undef, undef, undef, undef, undef], defers := [] }) (fun q V => ChP w (k + 1) ((L.take (k + 1)).map (·.1)) V w1.heap.size q.2.2.1 q.2.2.2 (L1 ++ [(x.1, q.1)])) ?_ ?_
        · have C := C1.below ((Below.refl _ _).drew)
          have J : SJq w wr.heap.size x W1.drew := ⟨C.b, k9.drew⟩
          have hrow : ∀ g, (Value.slice A1 k c1).ownBlock = some g → g < W1.drew.heap.size := fun g e => (C.row.own.lt g e).2
          have hJs : wr.heap.size < W1.drew.heap.size := k9.lt
          have hown9 : ∀ g, (Value.slice A1 k c1).ownBlock = some g → g < wr.heap.size := fun g e => (HCH.out.row.own.lt g e).2
          have hgq : w1.heap.size < wr.heap.size := HCH.out.box.lt
          refine wp_region_held_drew (S := SJq w wr.heap.size x) (by kernel_rfl) J (fun _ => ?_)
          refine wpAnyH_take (i := 0) (v := .pointer (some ⟨w1.heap.size, 0, none⟩)) rfl (by kernel_rfl) (by kernel_rfl) (by kernel_rfl) (fun _ _ _ h => nomatch h.1) (.inl ⟨by rfl, fun V hV => by go_simp⟩) J ?_
          try simp only [Act.put, List.getElem_toArray, List.getElem_cons_zero, List.getElem_cons_succ, List.setIfInBounds_toArray, List.set_cons_zero, List.set_cons_succ]
          refine wpAnyH_take (i := 2) (v := .agg (ndC x)) rfl (by kernel_rfl) (by kernel_rfl) (by kernel_rfl) (fun _ _ _ h => nomatch h.1) (yieldsIf_blk (by rfl) 46 (.tmp 9) rfl wr.heap.size rfl (ndC x) 46 _ (fun _ h => h.k) Tryz.underlying46 rfl (nd_inf x)) J ?_
          try simp only [Act.put, List.getElem_toArray, List.getElem_cons_zero, List.getElem_cons_succ, List.setIfInBounds_toArray, List.set_cons_zero, List.set_cons_succ]
          generalize W1.drew = W0 at C J hrow hJs ⊢
          refine wpAnyH_ready (rs := [1, 3]) (by kernel_rfl) (by simp) ?_
          refine AllReadyH.cons rfl (fun K hK => ?_) (AllReadyH.cons rfl (fun K hK => ?_) AllReadyH.nil)
          · skip
            try simp only [Act.put, List.getElem_toArray, List.getElem_cons_zero, List.getElem_cons_succ, List.setIfInBounds_toArray, List.set_cons_zero, List.set_cons_succ]
            have q1 : W0.cell? ⟨w1.heap.size, 0, none⟩ = some (.slice A1 k c1) := C.box.cell 0
            go_simp
            clear q1
            refine hK.out _ _ J (fun _ => ?_)
            clear hK K
            try simp only [Act.put, List.getElem_toArray, List.getElem_cons_zero, List.getElem_cons_succ, List.setIfInBounds_toArray, List.set_cons_zero, List.set_cons_succ]
            refine wpAnyH_ready (rs := [3]) (by kernel_rfl) (by simp) ?_
            refine AllReadyH.cons rfl (fun K hK => ?_) AllReadyH.nil
            · skip
              try simp only [Act.put, List.getElem_toArray, List.getElem_cons_zero, List.getElem_cons_succ, List.setIfInBounds_toArray, List.set_cons_zero, List.set_cons_succ]
              go_simp
              refine (copied2_any x W0 ((HXR.out.below C.b (Nat.le_refl _)).more C.b.size) hxg).mono ?_
              rintro e V2 ⟨l, rfl, hn, hfr, bb⟩
              go_wp2_with fail
              have C := C.below bb
              have J := J.step bb
              have hfl : ∀ a, l.1 = some a → W0.heap.size ≤ a.block := hfr
              have hs2 : W0.heap.size ≤ V2.heap.size := bb.size
              clear bb hfr
              refine hK.out _ _ J (fun _ => ?_)
              clear hK K
              try simp only [Act.put, List.getElem_toArray, List.getElem_cons_zero, List.getElem_cons_succ, List.setIfInBounds_toArray, List.set_cons_zero, List.set_cons_succ]
              refine wpAnyH_ready (rs := [4]) (by kernel_rfl) (by simp) ?_
              refine AllReadyH.cons rfl (fun K hK => ?_) AllReadyH.nil
              · skip
                try simp only [Act.put, List.getElem_toArray, List.getElem_cons_zero, List.getElem_cons_succ, List.setIfInBounds_toArray, List.set_cons_zero, List.set_cons_succ]
                unfold ndV ndC
                go_simp
                have hgb := heap_alloc_new V2 (.cells (ndC (x.1, l)) 46)
                have bb : Below V2.heap.size V2 (V2.alloc (.cells (ndC (x.1, l)) 46)) := (Below.refl _ _).alloc (Nat.le_refl _) _
                show K _ (V2.alloc (.cells (ndC (x.1, l)) 46))
                have hn := (hn.below bb (Nat.le_refl _)).more bb.size
                have C := C.below bb
                have J := J.step bb
                have hs3 : V2.heap.size ≤ (V2.alloc (.cells (ndC (x.1, l)) 46)).heap.size := bb.size
                generalize V2.alloc (.cells (ndC (x.1, l)) 46) = V3 at hgb bb hn C J hs3 ⊢
                obtain ⟨gb, egb⟩ : ∃ g, g = V2.heap.size := ⟨_, rfl⟩
                rw [← egb] at hgb ⊢
                clear egb bb
                refine hK.out _ _ J (fun _ => ?_)
                clear hK K
                try simp only [Act.put, List.getElem_toArray, List.getElem_cons_zero, List.getElem_cons_succ, List.setIfInBounds_toArray, List.set_cons_zero, List.set_cons_succ]
                refine wpAnyH_ready (rs := [5]) (by kernel_rfl) (by simp) ?_
                refine AllReadyH.cons rfl (fun K hK => ?_) AllReadyH.nil
                try simp only [Act.put, List.getElem_toArray, List.getElem_cons_zero, List.getElem_cons_succ, List.setIfInBounds_toArray, List.set_cons_zero, List.set_cons_succ]
                rw [if_pos (by rfl)]
                refine wp_appN (.tmp 25) (.tmp 28) rfl (w1.heap.size + 1) A1 k c1 L1 rfl C.row (x.1, l) gb rfl hn (fun g e hl a ha => by have := hfl a ha; have := hrow g e; omega) hgb (by omega) (by have := C.box.lt; omega) ?_
                intro A2 c2 X1 n1 g1 bb
                have J5 := J.grown g1 (fun e => by have := hown9 _ e.symm; omega) (fun r e => by have := (C.row.own.lt r e).1; have := C.gt; omega)
                have kq5 := C.box.below bb (by omega)
                have kr5 := C.res.below bb (by have := C.gt; omega)
                have b5 := C.b.trans (bb.mono (by have := C.gt; omega))
                have nm := C.names
                have pr := C.pr
                have hgt := C.gt
                clear C bb J
                refine hK.out _ _ J5 (fun _ => ?_)
                clear hK K
                try simp only [Act.put, List.getElem_toArray, List.getElem_cons_zero, List.getElem_cons_succ, List.setIfInBounds_toArray, List.set_cons_zero, List.set_cons_succ]
                refine wpAnyH_take (i := 6) (v := .pointer (some ⟨w1.heap.size, 0, none⟩)) rfl (by kernel_rfl) (by kernel_rfl) (by kernel_rfl) (fun _ _ _ h => nomatch h.1) (.inl ⟨by rfl, fun V hV => by go_simp⟩) J5 ?_
                try simp only [Act.put, List.getElem_toArray, List.getElem_cons_zero, List.getElem_cons_succ, List.setIfInBounds_toArray, List.set_cons_zero, List.set_cons_succ]
                refine wpAnyH_ready (rs := [7]) (by kernel_rfl) (by simp) ?_
                refine AllReadyH.cons rfl (fun K hK => ?_) AllReadyH.nil
                try simp only [Act.put, List.getElem_toArray, List.getElem_cons_zero, List.getElem_cons_succ, List.setIfInBounds_toArray, List.set_cons_zero, List.set_cons_succ]
                have q7 : X1.cell? ⟨w1.heap.size, 0, none⟩ = some (.slice A1 k c1) := kq5.cell 0
                have f7 := kq5.frozen 0
                try simp only [Act.put, List.getElem_toArray, List.getElem_cons_zero, List.getElem_cons_succ, List.setIfInBounds_toArray, List.set_cons_zero, List.set_cons_succ]
                go_simp
                have J7 := J5.set (g := w1.heap.size) (by omega) (by omega) (.slice A2 (k + 1) c2)
                refine hK.out _ _ J7 (fun _ => ?_)
                clear hK K
                try simp only [Act.put, List.getElem_toArray, List.getElem_cons_zero, List.getElem_cons_succ, List.setIfInBounds_toArray, List.set_cons_zero, List.set_cons_succ]
                have hpr : ∀ y ∈ L1 ++ [(x.1, l)], ∀ a, y.2.1 = some a → w1.heap.size < a.block := fun y hy a ha => by
                  rcases List.mem_append.1 hy with h | h
                  · exact pr y h a ha
                  · simp at h; subst h; have := hfl a ha; omega
                refine wpAnyH_done (by kernel_rfl) ?_ _
                refine ⟨rfl, (l, gb, A2, c2), rfl, ?_⟩
                exact ⟨b5.setCell (p := ⟨w1.heap.size, 0, none⟩) (by simp; omega) _, hgt, kq5.set_ 0 _, n1.but (g := w1.heap.size) ((But.refl _ X1).setCell (p := ⟨w1.heap.size, 0, none⟩) (.inl rfl) _) (by omega) (fun y hy hl a ha => by have := hpr y hy a ha; omega), names_snoc nm HKL.out (by rw [HX.out]), hpr, kr5.far (by simp; omega) _⟩
          · skip
            try simp only [Act.put, List.getElem_toArray, List.getElem_cons_zero, List.getElem_cons_succ, List.setIfInBounds_toArray, List.set_cons_zero, List.set_cons_succ]
            go_simp
            refine (copied2_any x W0 ((HXR.out.below C.b (Nat.le_refl _)).more C.b.size) hxg).mono ?_
            rintro e V4 ⟨l, rfl, hn, hfr, bb⟩
            go_wp2_with fail
            have C := C.below bb
            have J := J.step bb
            have hfl : ∀ a, l.1 = some a → W0.heap.size ≤ a.block := hfr
            have hs4 : W0.heap.size ≤ V4.heap.size := bb.size
            clear bb hfr
            refine hK.out _ _ J (fun _ => ?_)
            clear hK K
            try simp only [Act.put, List.getElem_toArray, List.getElem_cons_zero, List.getElem_cons_succ, List.setIfInBounds_toArray, List.set_cons_zero, List.set_cons_succ]
            refine wpAnyH_ready (rs := [1, 4]) (by kernel_rfl) (by simp) ?_
            refine AllReadyH.cons rfl (fun K hK => ?_) (AllReadyH.cons rfl (fun K hK => ?_) AllReadyH.nil)
            · skip
              try simp only [Act.put, List.getElem_toArray, List.getElem_cons_zero, List.getElem_cons_succ, List.setIfInBounds_toArray, List.set_cons_zero, List.set_cons_succ]
              have q1 : V4.cell? ⟨w1.heap.size, 0, none⟩ = some (.slice A1 k c1) := C.box.cell 0
              go_simp
              clear q1
              refine hK.out _ _ J (fun _ => ?_)
              clear hK K
              try simp only [Act.put, List.getElem_toArray, List.getElem_cons_zero, List.getElem_cons_succ, List.setIfInBounds_toArray, List.set_cons_zero, List.set_cons_succ]
              refine wpAnyH_ready (rs := [4]) (by kernel_rfl) (by simp) ?_
              refine AllReadyH.cons rfl (fun K hK => ?_) AllReadyH.nil
              · skip
                try simp only [Act.put, List.getElem_toArray, List.getElem_cons_zero, List.getElem_cons_succ, List.setIfInBounds_toArray, List.set_cons_zero, List.set_cons_succ]
                unfold ndV ndC
                go_simp
                have hgb := heap_alloc_new V4 (.cells (ndC (x.1, l)) 46)
                have bb : Below V4.heap.size V4 (V4.alloc (.cells (ndC (x.1, l)) 46)) := (Below.refl _ _).alloc (Nat.le_refl _) _
                show K _ (V4.alloc (.cells (ndC (x.1, l)) 46))
                have hn := (hn.below bb (Nat.le_refl _)).more bb.size
                have C := C.below bb
                have J := J.step bb
                have hs6 : V4.heap.size ≤ (V4.alloc (.cells (ndC (x.1, l)) 46)).heap.size := bb.size
                generalize V4.alloc (.cells (ndC (x.1, l)) 46) = V6 at hgb bb hn C J hs6 ⊢
                obtain ⟨gb, egb⟩ : ∃ g, g = V4.heap.size := ⟨_, rfl⟩
                rw [← egb] at hgb ⊢
                clear egb bb
                refine hK.out _ _ J (fun _ => ?_)
                clear hK K
                try simp only [Act.put, List.getElem_toArray, List.getElem_cons_zero, List.getElem_cons_succ, List.setIfInBounds_toArray, List.set_cons_zero, List.set_cons_succ]
                refine wpAnyH_ready (rs := [5]) (by kernel_rfl) (by simp) ?_
                refine AllReadyH.cons rfl (fun K hK => ?_) AllReadyH.nil
                try simp only [Act.put, List.getElem_toArray, List.getElem_cons_zero, List.getElem_cons_succ, List.setIfInBounds_toArray, List.set_cons_zero, List.set_cons_succ]
                rw [if_pos (by rfl)]
                refine wp_appN (.tmp 25) (.tmp 28) rfl (w1.heap.size + 1) A1 k c1 L1 rfl C.row (x.1, l) gb rfl hn (fun g e hl a ha => by have := hfl a ha; have := hrow g e; omega) hgb (by omega) (by have := C.box.lt; omega) ?_
                intro A2 c2 X1 n1 g1 bb
                have J5 := J.grown g1 (fun e => by have := hown9 _ e.symm; omega) (fun r e => by have := (C.row.own.lt r e).1; have := C.gt; omega)
                have kq5 := C.box.below bb (by omega)
                have kr5 := C.res.below bb (by have := C.gt; omega)
                have b5 := C.b.trans (bb.mono (by have := C.gt; omega))
                have nm := C.names
                have pr := C.pr
                have hgt := C.gt
                clear C bb J
                refine hK.out _ _ J5 (fun _ => ?_)
                clear hK K
                try simp only [Act.put, List.getElem_toArray, List.getElem_cons_zero, List.getElem_cons_succ, List.setIfInBounds_toArray, List.set_cons_zero, List.set_cons_succ]
                refine wpAnyH_take (i := 6) (v := .pointer (some ⟨w1.heap.size, 0, none⟩)) rfl (by kernel_rfl) (by kernel_rfl) (by kernel_rfl) (fun _ _ _ h => nomatch h.1) (.inl ⟨by rfl, fun V hV => by go_simp⟩) J5 ?_
                try simp only [Act.put, List.getElem_toArray, List.getElem_cons_zero, List.getElem_cons_succ, List.setIfInBounds_toArray, List.set_cons_zero, List.set_cons_succ]
                refine wpAnyH_ready (rs := [7]) (by kernel_rfl) (by simp) ?_
                refine AllReadyH.cons rfl (fun K hK => ?_) AllReadyH.nil
                try simp only [Act.put, List.getElem_toArray, List.getElem_cons_zero, List.getElem_cons_succ, List.setIfInBounds_toArray, List.set_cons_zero, List.set_cons_succ]
                have q7 : X1.cell? ⟨w1.heap.size, 0, none⟩ = some (.slice A1 k c1) := kq5.cell 0
                have f7 := kq5.frozen 0
                try simp only [Act.put, List.getElem_toArray, List.getElem_cons_zero, List.getElem_cons_succ, List.setIfInBounds_toArray, List.set_cons_zero, List.set_cons_succ]
                go_simp
                have J7 := J5.set (g := w1.heap.size) (by omega) (by omega) (.slice A2 (k + 1) c2)
                refine hK.out _ _ J7 (fun _ => ?_)
                clear hK K
                try simp only [Act.put, List.getElem_toArray, List.getElem_cons_zero, List.getElem_cons_succ, List.setIfInBounds_toArray, List.set_cons_zero, List.set_cons_succ]
                have hpr : ∀ y ∈ L1 ++ [(x.1, l)], ∀ a, y.2.1 = some a → w1.heap.size < a.block := fun y hy a ha => by
                  rcases List.mem_append.1 hy with h | h
                  · exact pr y h a ha
                  · simp at h; subst h; have := hfl a ha; omega
                refine wpAnyH_done (by kernel_rfl) ?_ _
                refine ⟨rfl, (l, gb, A2, c2), rfl, ?_⟩
                exact ⟨b5.setCell (p := ⟨w1.heap.size, 0, none⟩) (by simp; omega) _, hgt, kq5.set_ 0 _, n1.but (g := w1.heap.size) ((But.refl _ X1).setCell (p := ⟨w1.heap.size, 0, none⟩) (.inl rfl) _) (by omega) (fun y hy hl a ha => by have := hpr y hy a ha; omega), names_snoc nm HKL.out (by rw [HX.out]), hpr, kr5.far (by simp; omega) _⟩
            · skip
              try simp only [Act.put, List.getElem_toArray, List.getElem_cons_zero, List.getElem_cons_succ, List.setIfInBounds_toArray, List.set_cons_zero, List.set_cons_succ]
              unfold ndV ndC
              go_simp
              have hgb := heap_alloc_new V4 (.cells (ndC (x.1, l)) 46)
              have bb : Below V4.heap.size V4 (V4.alloc (.cells (ndC (x.1, l)) 46)) := (Below.refl _ _).alloc (Nat.le_refl _) _
              show K _ (V4.alloc (.cells (ndC (x.1, l)) 46))
              have hn := (hn.below bb (Nat.le_refl _)).more bb.size
              have C := C.below bb
              have J := J.step bb
              have hs7 : V4.heap.size ≤ (V4.alloc (.cells (ndC (x.1, l)) 46)).heap.size := bb.size
              generalize V4.alloc (.cells (ndC (x.1, l)) 46) = V7 at hgb bb hn C J hs7 ⊢
              obtain ⟨gb, egb⟩ : ∃ g, g = V4.heap.size := ⟨_, rfl⟩
              rw [← egb] at hgb ⊢
              clear egb bb
              refine hK.out _ _ J (fun _ => ?_)
              clear hK K
              try simp only [Act.put, List.getElem_toArray, List.getElem_cons_zero, List.getElem_cons_succ, List.setIfInBounds_toArray, List.set_cons_zero, List.set_cons_succ]
              refine wpAnyH_ready (rs := [1]) (by kernel_rfl) (by simp) ?_
              refine AllReadyH.cons rfl (fun K hK => ?_) AllReadyH.nil
              · skip
                try simp only [Act.put, List.getElem_toArray, List.getElem_cons_zero, List.getElem_cons_succ, List.setIfInBounds_toArray, List.set_cons_zero, List.set_cons_succ]
                have q1 : V7.cell? ⟨w1.heap.size, 0, none⟩ = some (.slice A1 k c1) := C.box.cell 0
                go_simp
                clear q1
                refine hK.out _ _ J (fun _ => ?_)
                clear hK K
                try simp only [Act.put, List.getElem_toArray, List.getElem_cons_zero, List.getElem_cons_succ, List.setIfInBounds_toArray, List.set_cons_zero, List.set_cons_succ]
                refine wpAnyH_ready (rs := [5]) (by kernel_rfl) (by simp) ?_
                refine AllReadyH.cons rfl (fun K hK => ?_) AllReadyH.nil
                try simp only [Act.put, List.getElem_toArray, List.getElem_cons_zero, List.getElem_cons_succ, List.setIfInBounds_toArray, List.set_cons_zero, List.set_cons_succ]
                rw [if_pos (by rfl)]
                refine wp_appN (.tmp 25) (.tmp 28) rfl (w1.heap.size + 1) A1 k c1 L1 rfl C.row (x.1, l) gb rfl hn (fun g e hl a ha => by have := hfl a ha; have := hrow g e; omega) hgb (by omega) (by have := C.box.lt; omega) ?_
                intro A2 c2 X1 n1 g1 bb
                have J5 := J.grown g1 (fun e => by have := hown9 _ e.symm; omega) (fun r e => by have := (C.row.own.lt r e).1; have := C.gt; omega)
                have kq5 := C.box.below bb (by omega)
                have kr5 := C.res.below bb (by have := C.gt; omega)
                have b5 := C.b.trans (bb.mono (by have := C.gt; omega))
                have nm := C.names
                have pr := C.pr
                have hgt := C.gt
                clear C bb J
                refine hK.out _ _ J5 (fun _ => ?_)
                clear hK K
                try simp only [Act.put, List.getElem_toArray, List.getElem_cons_zero, List.getElem_cons_succ, List.setIfInBounds_toArray, List.set_cons_zero, List.set_cons_succ]
                refine wpAnyH_take (i := 6) (v := .pointer (some ⟨w1.heap.size, 0, none⟩)) rfl (by kernel_rfl) (by kernel_rfl) (by kernel_rfl) (fun _ _ _ h => nomatch h.1) (.inl ⟨by rfl, fun V hV => by go_simp⟩) J5 ?_
                try simp only [Act.put, List.getElem_toArray, List.getElem_cons_zero, List.getElem_cons_succ, List.setIfInBounds_toArray, List.set_cons_zero, List.set_cons_succ]
                refine wpAnyH_ready (rs := [7]) (by kernel_rfl) (by simp) ?_
                refine AllReadyH.cons rfl (fun K hK => ?_) AllReadyH.nil
                try simp only [Act.put, List.getElem_toArray, List.getElem_cons_zero, List.getElem_cons_succ, List.setIfInBounds_toArray, List.set_cons_zero, List.set_cons_succ]
                have q7 : X1.cell? ⟨w1.heap.size, 0, none⟩ = some (.slice A1 k c1) := kq5.cell 0
                have f7 := kq5.frozen 0
                try simp only [Act.put, List.getElem_toArray, List.getElem_cons_zero, List.getElem_cons_succ, List.setIfInBounds_toArray, List.set_cons_zero, List.set_cons_succ]
                go_simp
                have J7 := J5.set (g := w1.heap.size) (by omega) (by omega) (.slice A2 (k + 1) c2)
                refine hK.out _ _ J7 (fun _ => ?_)
                clear hK K
                try simp only [Act.put, List.getElem_toArray, List.getElem_cons_zero, List.getElem_cons_succ, List.setIfInBounds_toArray, List.set_cons_zero, List.set_cons_succ]
                have hpr : ∀ y ∈ L1 ++ [(x.1, l)], ∀ a, y.2.1 = some a → w1.heap.size < a.block := fun y hy a ha => by
                  rcases List.mem_append.1 hy with h | h
                  · exact pr y h a ha
                  · simp at h; subst h; have := hfl a ha; omega
                refine wpAnyH_done (by kernel_rfl) ?_ _
                refine ⟨rfl, (l, gb, A2, c2), rfl, ?_⟩
                exact ⟨b5.setCell (p := ⟨w1.heap.size, 0, none⟩) (by simp; omega) _, hgt, kq5.set_ 0 _, n1.but (g := w1.heap.size) ((But.refl _ X1).setCell (p := ⟨w1.heap.size, 0, none⟩) (.inl rfl) _) (by omega) (fun y hy hl a ha => by have := hpr y hy a ha; omega), names_snoc nm HKL.out (by rw [HX.out]), hpr, kr5.far (by simp; omega) _⟩
        · rintro ⟨l, gb, A2, c2⟩ V2 C2
          simp only at C2 ⊢
          go_wp2_with fail
          go_roundw
          case rel => exact ⟨k + 1, _, A2, c2, _, rfl, by have := HLT.out; omega, by go_num, Lib.hid C2⟩
          case measure => have := HLT.out; simp [intOf]; omega
      · obtain rfl : k = m := by omega
        have C1 := HCH.out
        rw [HM.out, List.take_length, ← HM.out] at C1
        have CC := HCL.out _ _ _ _ _ C1 HC.out
        go_wp2_with fail
        refine CC.mono ?_
        rintro e V' ⟨er, A2, m2, c2, rfl, hb1, hb2, hR⟩
        have q10 : V'.cell? ⟨w1.heap.size, 0, none⟩ = some (.slice A2 m2 c2) := hb1.cell 0
        have q11 : V'.cell? ⟨w.heap.size + 1, 0, none⟩ = some (.slice none 0 0) := hb2.cell 0
        have f11 := hb2.frozen 0
        clear CC
        by_cases he : er = 0
        · subst he
          go_wp2_with fail
          refine bodyPost_ret (results_row_tmp rfl _ _ (w.heap.size + 1) 24 #[.slice A2 m2 c2] (0, 0) _ rfl (hb2.set_ 0 (.slice A2 m2 c2)).blk Tryz.underlying24 rfl (po_info A2 m2 c2) _ rfl) rfl ?_
          exact .inr ⟨HC.out, _, _, _, _, _, _, _, _, _, _, C1, hR, (But.refl (w.heap.size + 1) V').setCell (p := ⟨w.heap.size + 1, 0, none⟩) (.inl rfl) _, .inl ⟨rfl, rfl⟩⟩
        · have hne : (er != 0) = true := by simpa using he
          have HE := Lib.hid he
          clear he
          go_wp2_with fail
          refine bodyPost_ret (results_row_tmp rfl _ _ (w.heap.size + 1) 24 #[.slice none 0 0] (0, 0) _ rfl (hb2.set_ 0 (.slice none 0 0)).blk Tryz.underlying24 rfl (po_info none 0 0) _ rfl) rfl ?_
          exact .inr ⟨HC.out, _, _, _, _, _, _, _, _, _, _, C1, hR, (But.refl (w.heap.size + 1) V').setCell (p := ⟨w.heap.size + 1, 0, none⟩) (.inl rfl) _, .inr ⟨HE.out, rfl⟩⟩
  · have hne : (ck != 0) = true := by simpa using h0
    have HN := Lib.hid h0
    clear h0
    have q3 : w1.cell? ⟨w.heap.size + 1, 0, none⟩ = some (.slice none 0 0) := k31.cell 0
    have f3 := k31.frozen 0
    go_wp2_with fail
    refine bodyPost_ret (results_row_tmp rfl _ _ (w.heap.size + 1) 24 #[.slice none 0 0] (0, 0) _ rfl (k31.set_ 0 (.slice none 0 0)).blk Tryz.underlying24 rfl (po_info none 0 0) _ rfl) rfl ?_
    exact .inl ⟨fun h => HN.out (HC.out.symm.trans h), by rw [HC.out]; rfl, b1.setCell (p := ⟨w.heap.size + 1, 0, none⟩) (by simp) _⟩
end Go.Proofs.YtelfdpcenplhjaaGreatDoor
