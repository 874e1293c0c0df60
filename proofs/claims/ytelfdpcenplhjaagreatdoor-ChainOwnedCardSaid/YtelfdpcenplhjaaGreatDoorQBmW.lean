/-
  bitmap.Flow: the states ahead of all places, and what is known of what is returned.
-/
import Derived.Test.YtelfdpcenplhjaaGreatDoorQAluU
import Derived.Test.YtelfdpcenplhjaaGreatDoorQHB
import Derived.Test.YtelfdpcenplhjaaGreatDoorQHE
import Derived.Test.YtelfdpcenplhjaaGreatDoorQCkCheck
import Derived.Outline
namespace Go.Proofs.YtelfdpcenplhjaaGreatDoor
open Go.RowKit Go.Shelf
attribute [local go_sem] Oper.semAt_some
set_option linter.unusedVariables false
set_option linter.unusedSimpArgs false
theorem nxt_sub {hd : Int → Int → Int → Bool} {q : Ins} {i : Nat} (hi : i ≤ 255) {s : StS} {p : Nat} (h : p ∈ nxtS hd q i s) : p ∈ nextL q i := by
  unfold nxtS at h
  split at h
  · cases h
  · split at h
    · exact h
    · rename_i hf
      have h56 : formOf q.1 = 5 ∨ formOf q.1 = 6 := Classical.byContradiction fun hn => hf (.inl hn)
      have hr : retI q = false := by
        unfold retI
        simp only [decide_eq_false_iff_not]
        have f6 : ¬ (formOf 6 = 5 ∨ formOf 6 = 6) := by decide +kernel
        have f22 : ¬ (formOf 22 = 5 ∨ formOf 22 = 6) := by decide +kernel
        rintro (e | e)
        · rw [e] at h56; exact f6 h56
        · rw [e] at h56; exact f22 h56
      have e : nextL q i = (if q.2.1 = q.2.2.1 then [i + 1 + q.2.1.toNat] else if q.2.1 < q.2.2.1 then [i + 1 + q.2.1.toNat, i + 1 + q.2.2.1.toNat] else [i + 1 + q.2.2.1.toNat, i + 1 + q.2.1.toNat]) := by
        unfold nextL
        rw [if_neg (by rw [hr]; rintro (h | h | h | ⟨h, _⟩) <;> first | omega | cases h), if_neg (by omega), if_pos h56]
      rw [e]
      split at h
      · rw [List.mem_singleton.1 h]
        by_cases h1 : q.2.1 = q.2.2.1
        · rw [if_pos h1]; simp
        · rw [if_neg h1]; split <;> simp
      · rw [List.mem_singleton.1 h]
        by_cases h1 : q.2.1 = q.2.2.1
        · rw [if_pos h1, h1]; simp
        · rw [if_neg h1]; split <;> simp
theorem nxt_len {hd : Int → Int → Int → Bool} {q : Ins} {i : Nat} {s : StS} : (nxtS hd q i s).length ≤ 2 := by
  have hn : (nextL q i).length ≤ 2 := by
    unfold nextL
    split
    · simp
    · split
      · simp
      · split
        · split
          · simp
          · split <;> simp
        · simp
  unfold nxtS
  split
  · simp
  · split
    · exact hn
    · split <;> simp
theorem fins {m : Nat} : ∀ {L : List Nat}, (∀ p ∈ L, p < m) → ∃ F : List (Fin m), F.map (·.val) = L
  | [], _ => ⟨[], rfl⟩
  | p :: L, h => by
    obtain ⟨F, hF⟩ := fins (L := L) fun x hx => h x (by simp [hx])
    exact ⟨⟨p, h p (by simp)⟩ :: F, by simp [hF]⟩
theorem foldl_fin {m : Nat} (t : StS) : ∀ (F : List (Fin m)) (L : List StS), (F.map (·.val)).foldl (putS t) L = F.foldl (fun L p => putS t L p.val) L
  | [], _ => rfl
  | p :: F, L => by simp only [List.map_cons, List.foldl_cons]; exact foldl_fin t F _
theorem fold_ok {m : Nat} {t : StS} (ht : StOk t) : ∀ (F : List (Fin m)) {L : List StS}, (∀ s ∈ L, StOk s) → ∀ s ∈ F.foldl (fun L p => putS t L p.val) L, StOk s
  | [], _, h => h
  | p :: F, _, h => fold_ok ht F (putS_ok ht h p.val)
theorem fold_len {m : Nat} (t : StS) : ∀ (F : List (Fin m)) (L : List StS), (F.foldl (fun L p => putS t L p.val) L).length = L.length
  | [], _ => rfl
  | p :: F, L => (fold_len t F _).trans (putS_len p.val)
theorem row_no64 {w : World} {g : Nat} {L : List StS} {t : TypeId} (h : Blk w g (rowS L) t) (j : Nat) (v : Value) (x : Int) (hc : w.cell? ⟨g, j, none⟩ = some v) : v ≠ .int .i64 x := by
  rintro rfl
  rw [h.cell] at hc
  unfold rowS at hc
  rw [List.getElem?_toArray] at hc
  have hm := List.mem_of_getElem? hc
  unfold rowL at hm
  obtain ⟨s, _, hs⟩ := List.mem_flatMap.1 hm
  have key : ∀ m : List Ab, Value.int .i64 x ∈ abC m → False := fun m => by
    induction m with
    | nil => intro h; cases h
    | cons a m ih =>
      intro h
      simp only [abC, List.mem_cons] at h
      rcases h with h | h | h
      · cases h
      · cases h
      · exact ih h
  simp only [stC, List.mem_cons] at hs
  rcases hs with h | h | h | h | h | h
  · cases h
  · cases h
  · cases h
  · cases h
  · cases h
  · exact key _ h
structure FI (w V : World) (m ga g11 : Nat) (L : List StS) : Prop where
  k7 : Blk V w.heap.size (abA ab0) 139
  k11 : Blk V g11 #[.slice (some ⟨ga, 0, none⟩) m m] 137
  ka : Blk V ga (rowS L) 158
  h7 : w.heap.size < ga
  h11 : ga < g11
  old : Below w.heap.size w V
structure FJ (w V : World) (m ga g11 g12 : Nat) (L : List StS) (e : EdS) (ds : List Nat) : Prop where
  i : FI w V m ga g11 L
  k12 : Blk V g12 (edC e) 188
  h12 : g11 < g12
  nd : ds.Nodup
  md : ∀ d ∈ ds, g12 < d ∧ V.heap[d]? = some (.deferred (some []))
section
variable {w V V' : World} {m ga g11 g12 : Nat} {L L' : List StS} {e e' : EdS} {ds : List Nat}
theorem FI.below (h : FI w V m ga g11 L) (hb : Below V.heap.size V V') : FI w V' m ga g11 L :=
  ⟨h.k7.below hb h.k7.lt, h.k11.below hb h.k11.lt, h.ka.below hb h.ka.lt, h.h7, h.h11, h.old.trans (hb.mono h.old.size)⟩
theorem FI.seta (h : FI w V m ga g11 L) (k : Blk V' ga (rowS L') 158) (n : But ga V V') : FI w V' m ga g11 L' :=
  have := h.h7
  have := h.h11
  ⟨n.blk' h.k7 (by omega), n.blk' h.k11 (by omega), k, h.h7, h.h11, h.old.trans (n.below w.heap.size (by omega) h.old.size)⟩
theorem FJ.below (h : FJ w V m ga g11 g12 L e ds) (hb : Below V.heap.size V V') : FJ w V' m ga g11 g12 L e ds :=
  ⟨h.i.below hb, h.k12.below hb h.k12.lt, h.h12, h.nd, fun d hd => ⟨(h.md d hd).1, (hb.block d (Array.getElem?_eq_some_iff.1 (h.md d hd).2).1).trans (h.md d hd).2⟩⟩
theorem FJ.seta (h : FJ w V m ga g11 g12 L e ds) (k : Blk V' ga (rowS L') 158) (n : But ga V V') : FJ w V' m ga g11 g12 L' e ds :=
  have := h.i.h11
  have := h.h12
  ⟨h.i.seta k n, n.blk' h.k12 (by omega), h.h12, h.nd, fun d hd => ⟨(h.md d hd).1, (n.block d (Array.getElem?_eq_some_iff.1 (h.md d hd).2).1 (by have := (h.md d hd).1; omega)).trans (h.md d hd).2⟩⟩
theorem FJ.set12 (h : FJ w V m ga g11 g12 L e ds) (k : Blk V' g12 (edC e') 188) (n : But g12 V V') : FJ w V' m ga g11 g12 L e' ds :=
  have := h.i.h11
  have := h.i.h7
  have := h.h12
  ⟨⟨n.blk' h.i.k7 (by omega), n.blk' h.i.k11 (by omega), n.blk' h.i.ka (by omega), h.i.h7, h.i.h11, h.i.old.trans (n.below w.heap.size (by omega) h.i.old.size)⟩, k, h.h12, h.nd,
    fun d hd => ⟨(h.md d hd).1, (n.block d (Array.getElem?_eq_some_iff.1 (h.md d hd).2).1 (by have := (h.md d hd).1; omega)).trans (h.md d hd).2⟩⟩
theorem FJ.grown {row : Option Nat} {B : Nat} (h : FJ w V m ga g11 g12 L e ds) (hg : V.grownBy V' row) (hr : ∀ r, row = some r → B ≤ r) (h12 : g12 < B) (hd : ∀ d ∈ ds, d < B) : FJ w V' m ga g11 g12 L e ds := by
  have h1 := h.i.h11
  have h2 := h.i.h7
  have h3 := h.h12
  have kb : ∀ k, k < B → k < V.heap.size → V'.heap[k]? = V.heap[k]? := fun k hk hl => hg.block k hl (fun e => by have := hr k e.symm; omega)
  refine ⟨⟨⟨(kb _ (by omega) h.i.k7.lt).trans h.i.k7.blk⟩, ⟨(kb _ (by omega) h.i.k11.lt).trans h.i.k11.blk⟩, ⟨(kb _ (by omega) h.i.ka.lt).trans h.i.ka.blk⟩, h.i.h7, h.i.h11, h.i.old.grown hg h.i.old.size (fun k e => by have := hr k e; omega)⟩,
    ⟨(kb _ (by omega) h.k12.lt).trans h.k12.blk⟩, h.h12, h.nd, fun d hd' => ⟨(h.md d hd').1, (kb d (hd d hd') (Array.getElem?_eq_some_iff.1 (h.md d hd').2).1).trans (h.md d hd').2⟩⟩
end
structure FK (w V : World) (m ga g11 g12 g14 : Nat) (L : List StS) (e : EdS) (ds : List Nat) (q : Ins) : Prop where
  j : FJ w V m ga g11 g12 L e ds
  k14 : Blk V g14 (celI q).toArray 111
  h14 : g12 < g14
section
variable {w V V' : World} {m ga g11 g12 g14 : Nat} {L L' : List StS} {e e' : EdS} {ds : List Nat} {q : Ins}
theorem FK.below (h : FK w V m ga g11 g12 g14 L e ds q) (hb : Below V.heap.size V V') : FK w V' m ga g11 g12 g14 L e ds q := ⟨h.j.below hb, h.k14.below hb h.k14.lt, h.h14⟩
theorem FK.drew (h : FK w V m ga g11 g12 g14 L e ds q) : FK w V.drew m ga g11 g12 g14 L e ds q := h.below (Below.refl _ _).drew
theorem FK.set12 (h : FK w V m ga g11 g12 g14 L e ds q) (k : Blk V' g12 (edC e') 188) (n : But g12 V V') : FK w V' m ga g11 g12 g14 L e' ds q :=
  have := h.h14
  ⟨h.j.set12 k n, n.blk' h.k14 (by omega), h.h14⟩
end
structure FR (w W2 V : World) (m ga g11 g12 g16 : Nat) (L : List StS) (e : EdS) (ds : List Nat) (t : StS) : Prop where
  j : FJ w V m ga g11 g12 L e ds
  k16 : Blk V g16 (stC t) 158
  bel : Below W2.heap.size W2 V
theorem FR.below {w W2 V V' : World} {m ga g11 g12 g16 : Nat} {L : List StS} {e : EdS} {ds : List Nat} {t : StS} (h : FR w W2 V m ga g11 g12 g16 L e ds t) (hb : Below V.heap.size V V') : FR w W2 V' m ga g11 g12 g16 L e ds t :=
  ⟨h.j.below hb, h.k16.below hb h.k16.lt, h.bel.trans (hb.mono h.bel.size)⟩
theorem results_flow {fn : Func} (h : fn.results = #[.tmp 6, .cell 7 139, .tmp 8]) (tmps : Array Value) (w : World) (g : Nat) (cs : Array Value) (hp : tmps.getD 7 undef = .pointer (some ⟨g, 0, none⟩)) (hg : Blk w g cs 139) (x y : Value) (hx : tmps.getD 6 undef = x) (hy : tmps.getD 8 undef = y)
    (hi : (Tryz.prog.info? 139).map (·.size) = some cs.size := by kernel_rfl) : (results fn tmps).run Tryz.prog w = .ok (.tuple #[x, .agg cs, y]) w := by
  subst hx hy
  have hp' : tmps[7]?.getD undef = .pointer (some ⟨g, 0, none⟩) := by simpa using hp
  simp [results, h, hp', asAddr, run_loadVar_row w g 139 139 cs (0, 0) _ hg.blk Tryz.underlying139 rfl hi]
def flowI (w : World) (A : Option Addr) (m cap ga g11 g12 : Nat) (nr arch : Int) (f : Nat → Ins) (a : Act) (W : World) : Prop :=
  ∃ (k : Nat) (ds : List Nat) (u13 u14 u15 u16 u36 u37 u38 u39 u40 u41 u42 u43 u44 u45 u46 u47 u48 u49 u50 u51 u52 u53 u54 u55 u56 u57 u58 u59 u60 u61 u62 u63 u64 u65 u66 u67 u68 u69 u70 u71 u72 u73 u74 u75 : Value), k ≤ m ∧ FJ w W m ga g11 g12 (floS alI hdI nr arch f m k).1 (floS alI hdI nr arch f m k).2 ds ∧
    a = { tmps := #[.slice A m cap, .int .u32 nr, .int .u32 arch, undef, undef, undef, .slice none 0 0, .pointer (some ⟨w.heap.size, 0, none⟩), .int .i64 0, .int .i64 0, .int .i64 0, .pointer (some ⟨g11, 0, none⟩), .pointer (some ⟨g12, 0, none⟩), u13, u14, u15, u16, .tuple #[.int .i64 0, .int .i64 0], .slice A m cap, .tuple #[.int .i64 0, .int .i64 0], .int .i64 0, .int .i64 0, .int .i64 0, .bool false, undef, undef, .slice A m cap, .int .i64 (m : Int), .slice (some ⟨ga, 0, none⟩) m m, .slice (some ⟨ga, 0, none⟩) m m, .agg (stC stB), .pointer (some ⟨ga, 0, none⟩), .agg #[.bool false, .int .u32 0, .bool false], .slice A m cap, .int .i64 (m : Int), .int .i64 (k : Int), u36, u37, u38, u39, u40, u41, u42, u43, u44, u45, u46, u47, u48, u49, u50, u51, u52, u53, u54, u55, u56, u57, u58, u59, u60, u61, u62, u63, u64, u65, u66, u67, u68, u69, u70, u71, u72, u73, u74, u75, undef, undef, undef], defers := ds.map mkD }
def flowM (m : Nat) (a : Act) (_ : World) : Nat := m - (intOf (a.tmps.getD 35 undef)).toNat
theorem go_not {nr arch : Int} {f : Nat → Ins} {n k : Nat} (h : ((floS alI hdI nr arch f n k).1.getD k st0).r = false) : floS alI hdI nr arch f n (k + 1) = floS alI hdI nr arch f n k := by
  show goS _ _ _ _ _ _ _ = _
  unfold goS
  rw [if_pos h]
theorem go_yes {nr arch : Int} {f : Nat → Ins} {n k : Nat} {s : StS} (hs : (floS alI hdI nr arch f n k).1.getD k st0 = s) (h : s.r = true) : floS alI hdI nr arch f n (k + 1) =
    ((nxtS hdI (f k) k s).foldl (putS (behS alI nr arch (f k) s)) (floS alI hdI nr arch f n k).1, joinE (floS alI hdI nr arch f n k).2 (endE (f k) s)) := by
  subst hs
  show goS _ _ _ _ _ _ _ = _
  unfold goS
  rw [if_neg (by rw [h]; simp)]
theorem alI_u32 (c a b v : Int) (h0 : 0 ≤ c) (h1 : c ≤ 65535) (ha : U32 a) (hb : U32 b) (h : alI c a b = some v) : U32 v := al_U32 ha hb h
set_option maxRecDepth 100000 in
set_option maxHeartbeats 8000000 in
theorem flow_ok (A : Option Addr) (m cap : Nat) (f : Nat → Ins) (nr arch : Int) (hnr : U32 nr) (har : U32 arch) (w : World) (hK : Kinds w) (hA : Ri w w.heap.size A m f) (hcap : m ≤ cap) (hM : May f m) :
    Calls Tryz.prog 112 #[.slice A m cap, .int .u32 nr, .int .u32 arch] w fun e w' => ∃ g, e = .returned (.tuple #[.slice (some ⟨g, 0, none⟩) m m, abV (floS alI hdI nr arch f m m).2.b, .int .i64 0]) ∧ Blk w' g (rowS (floS alI hdI nr arch f m m).1) 158 ∧ Below w.heap.size w w' := by
  have B7 := (Below.refl w.heap.size w).alloc (Nat.le_refl _) (.cells (abA ab0) 139)
  have K7 := Blk.new w (abA ab0) 139
  have hC := check_any A m cap f _ (hK.below B7 hK.pos) ((hA.below B7 (Nat.le_refl _)).more B7.size)
  rw [chk_may hM] at hC
  have hm64 := hM.hi
  have hm1 := hM.lo
  have hm1' : (0 : Int) < (m : Int) := by omega
  have BG := fun V => beginning_any V
  unfold stV at BG
  refine (callsIn_wide (n := 6)).1 ?_
  refine callsIn_of_wp_marks Tryz.func112 rfl trivial ?_ rfl
  simp only [Tryz.ntmps112, List.size_toArray, List.length_cons, List.length_nil, Nat.reduceAdd, Nat.reduceSub, Array.replicate_succ, Array.replicate_zero, List.push_toArray, List.append_toArray, List.nil_append, List.cons_append]
  refine wpIn_wide.2 ?_
  go_wp2_with fail
  refine hC.mono ?_
  rintro e w1 ⟨rfl, b1⟩
  have K71 := K7.below b1 K7.lt
  have B1 := B7.trans (b1.mono B7.size)
  clear hC b1 B7 K7
  go_wp2_with (refine wpList_make_st rfl (.tmp 27) (.tmp 27) rfl m rfl rfl (by omega) ?_; intro w2 hw2 hn2)
  have I2 : FI w (w2.alloc (.cells #[.slice (some ⟨w1.heap.size, 0, none⟩) m m] 137)) m w1.heap.size w2.heap.size (List.replicate m st0) :=
    ⟨(K71.below hn2 K71.lt).alloc _, Blk.new _ _ _, hw2.alloc _, K71.lt, hw2.lt, (B1.trans (hn2.mono B1.size)).alloc (by have := B1.size; have := hn2.size; omega) _⟩
  have hla0 : Len16 (List.replicate m st0) := fun s hs => by rw [(List.mem_replicate.1 hs).2]; exact st0_len
  clear hw2 hn2 K71 B1
  generalize w2.alloc (.cells #[.slice (some ⟨w1.heap.size, 0, none⟩) m m] 137) = w3 at I2 ⊢
  generalize w2.heap.size = g11 at I2 ⊢
  generalize w1.heap.size = ga at I2 ⊢
  have I0 : FI w w3.drew m ga g11 (List.replicate m st0) := I2.below (Below.refl _ _).drew
  clear I2
  have BG' := Lib.hid (calls_keep (S := fun V => FI w V m ga g11 (List.replicate m st0)) (fun V V' h hb => h.below hb) (fun V _ => BG V))
  have hne : Nonempty (Sig (fun V => FI w V m ga g11 (List.replicate m st0))) := ⟨⟨_, I0⟩⟩
  have hS1 : ∀ s' : Sig (fun V => FI w V m ga g11 (List.replicate m st0)), s'.V.cell? ⟨g11, 0, none⟩ = some (.slice (some ⟨ga, 0, none⟩) m m) := fun s' => s'.h.k11.cell 0
  refine region_class_tail (S := fun V => FI w V m ga g11 (List.replicate m st0)) 3 (by kernel_rfl) (by kernel_rfl) I0 ?_
  simp only [List.take_succ_cons, List.take_zero, List.drop_succ_cons, List.drop_zero]
  repeat (go_big_quiet_step (first | (go_at_call 123; exact class_call _ BG'.out)))
  refine wpQuiet_nil ?_
  rintro ⟨V5, I5⟩
  dsimp only
  clear hS1 hne BG' BG I0
  go_wp2_with (refine wpList_store_row rfl 158 (.tmp 31) (.tmp 30) rfl ga 0 (List.replicate m st0) stB 158 rfl rfl I5.ka hla0 (by simp [stB]) (by simp; omega) st_info ?_
               intro w6 hw6 hn6
               have I6 := I5.seta hw6 hn6
               clear hw6 hn6 I5)
  have J7 : FJ w (w6.alloc (.cells #[.bool false, .int .u32 0, .bool false] 188)) m ga g11 w6.heap.size ((List.replicate m st0).set 0 stB) ed0 [] :=
    ⟨I6.below ((Below.refl _ _).alloc (Nat.le_refl _) _), Blk.new _ _ _, I6.k11.lt, List.nodup_nil, fun d hd => by cases hd⟩
  clear I6
  generalize w6.alloc (.cells #[.bool false, .int .u32 0, .bool false] 188) = w7 at J7 ⊢
  generalize w6.heap.size = g12 at J7 ⊢
  have hio : ∀ i, i < m → insO (f i) := fun i hi => by obtain ⟨_, _, _, _, _, ho⟩ := hA i hi; exact ho
  have hG := may_goes hM hio
  have hF := fun k hk => floS_ok (hd := hdI) (f := f) (n := m) alI_u32 hnr har hio k hk
  have hFl := fun k => floS_len (al := alI) (hd := hdI) nr arch f m k
  clear hla0
  refine (wpIn_wide (n := 6)).1 ?_
  refine wpIn_loop (flowI w A m cap ga g11 g12 nr arch f) (flowM m) ⟨0, [], undef, undef, undef, undef, undef, undef, undef, undef, undef, undef, undef, undef, undef, undef, undef, undef, undef, undef, undef, undef, undef, undef, undef, undef, undef, undef, undef, undef, undef, undef, undef, undef, undef, undef, undef, undef, undef, undef, undef, undef, undef, undef, undef, undef, Nat.zero_le _, J7, rfl⟩ ?_
  clear J7
  rintro a wr ⟨k, ds, u13, u14, u15, u16, u36, u37, u38, u39, u40, u41, u42, u43, u44, u45, u46, u47, u48, u49, u50, u51, u52, u53, u54, u55, u56, u57, u58, u59, u60, u61, u62, u63, u64, u65, u66, u67, u68, u69, u70, u71, u72, u73, u74, u75, hk, Jk, rfl⟩
  have hM35 : ∀ (t : Array Value) (d d' : List Deferred) (W V : World), t.getD 35 undef = .int .i64 ((k + 1 : Nat) : Int) → k < m → flowM m ⟨t, d⟩ W < flowM m ⟨#[.slice A m cap, .int .u32 nr, .int .u32 arch, undef, undef, undef, .slice none 0 0, .pointer (some ⟨w.heap.size, 0, none⟩), .int .i64 0, .int .i64 0, .int .i64 0, .pointer (some ⟨g11, 0, none⟩), .pointer (some ⟨g12, 0, none⟩), u13, u14, u15, u16, .tuple #[.int .i64 0, .int .i64 0], .slice A m cap, .tuple #[.int .i64 0, .int .i64 0], .int .i64 0, .int .i64 0, .int .i64 0, .bool false, undef, undef, .slice A m cap, .int .i64 (m : Int), .slice (some ⟨ga, 0, none⟩) m m, .slice (some ⟨ga, 0, none⟩) m m, .agg (stC stB), .pointer (some ⟨ga, 0, none⟩), .agg #[.bool false, .int .u32 0, .bool false], .slice A m cap, .int .i64 (m : Int), .int .i64 (k : Int), u36, u37, u38, u39, u40, u41, u42, u43, u44, u45, u46, u47, u48, u49, u50, u51, u52, u53, u54, u55, u56, u57, u58, u59, u60, u61, u62, u63, u64, u65, u66, u67, u68, u69, u70, u71, u72, u73, u74, u75, undef, undef, undef], d'⟩ V := fun t d d' W V h hl => by
    unfold flowM
    simp only [h]
    simp [intOf]
    omega
  generalize hds : ds.map mkD = dm
  refine wpIn_wide.2 ?_
  by_cases hlt : k < m
  · have hlt' : (k : Int) < (m : Int) := by omega
    obtain ⟨b, off, rfl, hbl, ⟨p0, p1, p2, p3⟩, ho⟩ := (hA.below Jk.i.old (Nat.le_refl _)) k hlt
    have c11 : wr.cell? ⟨g11, 0, none⟩ = some (.slice (some ⟨ga, 0, none⟩) m m) := Jk.i.k11.cell 0
    have z11 := Jk.i.k11.lt
    have za := Jk.i.ka.lt
    have z12 := Jk.k12.lt
    have hLok := hF k hk
    have hLl := hFl k
    have hgn := go_not (nr := nr) (arch := arch) (f := f) (n := m) (k := k)
    have hgy := fun s => go_yes (nr := nr) (arch := arch) (f := f) (n := m) (k := k) (s := s)
    obtain ⟨⟨L, e⟩, hLe⟩ : ∃ z, floS alI hdI nr arch f m k = z := ⟨_, rfl⟩
    rw [hLe] at Jk hLok hLl hgn hgy
    simp only at Jk hLok hLl hgn hgy
    have hL16 : Len16 L := fun s hs => (hLok.1 s hs).len
    obtain ⟨s, hs⟩ : ∃ s, L.getD k st0 = s := ⟨_, rfl⟩
    have sok : StOk s := hs ▸ getD_ok hLok.1 k
    have r0 := row_cell Jk.i.ka hL16 (k := k) (by omega) (j := 0) (by omega)
    rw [hs] at r0 hgn
    have hrr : (stC s)[0]? = some (.bool s.r) := rfl
    rw [hrr, Nat.add_zero] at r0
    obtain ⟨⟨x, y, z, u⟩, hf⟩ : ∃ q : Ins, f k = q := ⟨_, rfl⟩
    rw [hf] at p0 p1 p2 p3 ho hgy
    simp only at p0 p1 p2 p3
    have HF := Lib.hid hf
    have HLe := Lib.hid hLe
    have HS := Lib.hid hs
    cases hr : s.r
    · rw [hr] at r0
      have hnx := Lib.hid (hgn hr)
      clear hgn hgy hr hrr hf hLe hs
      go_wp2_with fail
      have J9 := Jk.below ((Below.refl _ _).alloc (Nat.le_refl _) (.cells #[.int .u16 x, .int .u8 y, .int .u8 z, .int .u32 u] 111))
      exact ⟨k + 1, ds, _, _, _, _, _, _, _, _, _, _, _, _, _, _, _, _, _, _, _, _, _, _, _, _, _, _, _, _, _, _, _, _, _, _, _, _, _, _, _, _, _, _, _, _, by omega, by rw [hnx.out]; exact J9, by rw [← hds]; rfl⟩
    · rw [hr] at r0
      have hnx := Lib.hid (hgy s hs hr)
      have hrt := Lib.hid hr
      clear hgn hgy hr hrr hf hLe hs
      go_wp2_with fail
      have J9 : FK w (wr.alloc (.cells #[.int .u16 x, .int .u8 y, .int .u8 z, .int .u32 u] 111)) m ga g11 g12 wr.heap.size L e ds (x, y, z, u) :=
        ⟨Jk.below ((Below.refl _ _).alloc (Nat.le_refl _) _), Blk.new _ _ _, z12⟩
      have hdlt : ∀ d ∈ ds, d < wr.heap.size := fun d hd => (Array.getElem?_eq_some_iff.1 (Jk.md d hd).2).1
      generalize wr.alloc (.cells #[.int .u16 x, .int .u8 y, .int .u8 z, .int .u32 u] 111) = w9 at J9 ⊢
      generalize wr.heap.size = g14 at J9 hdlt ⊢
      clear Jk c11 r0 z11 za z12 p0 p1 p2 p3
      have J0 := J9.drew
      clear J9
      have hgs : L.getD k st0 = s := HS.out
      have hkl : k < L.length := by omega
      have CE := Lib.hid (calls_keep (S := fun V => FK w V m ga g11 g12 g14 L e ds (x, y, z, u)) (fun V V' h hb => h.below hb) (fun V h => end_any x y z u s sok V (hK.below h.j.i.old hK.pos)))
      obtain ⟨e2, he2⟩ : ∃ e2, endE (x, y, z, u) s = e2 := ⟨_, rfl⟩
      rw [he2] at CE
      have CJ := Lib.hid (calls_keep (S := fun V => FK w V m ga g11 g12 g14 L e ds (x, y, z, u)) (fun V V' h hb => h.below hb) (fun V h => join_ed e e2 V))
      obtain ⟨e3, he3⟩ : ∃ e3, joinE e e2 = e3 := ⟨_, rfl⟩
      rw [he3] at CJ
      have he23 := Lib.hid (show joinE e (endE (x, y, z, u) s) = e3 by rw [he2, he3])
      have hrg := fun V (h : FK w V m ga g11 g12 g14 L e ds (x, y, z, u)) => hgs ▸ row_range h.j.i.ka hL16 hkl
      have HSL := Lib.hid hgs
      clear he2 he3 hgs
      unfold edV stV insV at CE
      unfold edV at CJ
      have hne : Nonempty (Sig (fun V => FK w V m ga g11 g12 g14 L e ds (x, y, z, u))) := ⟨⟨_, J0⟩⟩
      have hS1 : ∀ s' : Sig (fun V => FK w V m ga g11 g12 g14 L e ds (x, y, z, u)), s'.V.cell? ⟨g11, 0, none⟩ = some (.slice (some ⟨ga, 0, none⟩) m m) := fun s' => s'.h.j.i.k11.cell 0
      refine region_class_tail (S := fun V => FK w V m ga g11 g12 g14 L e ds (x, y, z, u)) 8 (by kernel_rfl) (by kernel_rfl) J0 ?_
      simp only [List.take_succ_cons, List.take_zero, List.drop_succ_cons, List.drop_zero]
      refine class_load (by rfl) 188 (.tmp 12) rfl g12 rfl (edC e) 188 _ (fun _ h => h.j.k12) Tryz.underlying188 rfl (ed_inf _) ?_
      simp only [Act.put, List.setIfInBounds_toArray, List.set_cons_zero, List.set_cons_succ]
      refine class_load (by rfl) 111 (.tmp 14) rfl g14 rfl (celI (x, y, z, u)).toArray 111 _ (fun _ h => h.k14) Tryz.underlying111 rfl (by kernel_rfl) ?_
      simp only [celI, Act.put, List.setIfInBounds_toArray, List.set_cons_zero, List.set_cons_succ]
      go_big_quiet_step (fail)
      go_big_quiet_step (fail)
      go_big_quiet_step (fail)
      refine class_load_row (by rfl) 158 (.tmp 50) rfl ga (k * 37) rfl (stC s) _ hrg Tryz.underlying158 rfl (st_inf sok.len) ?_
      simp only [Act.put, List.setIfInBounds_toArray, List.set_cons_zero, List.set_cons_succ]
      repeat (go_big_quiet_step (first | (go_at_call 125; exact class_call _ CE.out) | (go_at_call 124; exact class_call _ CJ.out)))
      refine wpQuiet_nil ?_
      rintro ⟨V5, J5⟩
      dsimp only
      clear hS1 hne CE CJ J0 hrg
      go_wp2_with (refine wpList_store_blk rfl 188 (.tmp 12) (.tmp 53) rfl g12 (edC e) (edC e3) 188 rfl rfl J5.j.k12 rfl (ed_inf _) (ed_one _) ?_
                   intro V6 hV6 hN6
                   have J6 := J5.set12 hV6 hN6
                   clear hV6 hN6 J5)
      have HS6 : Below V6.heap.size V6 V6.drew := (Below.refl _ _).drew
      have hrg6 := fun V (h : FK w V m ga g11 g12 g14 L e3 ds (x, y, z, u)) => HSL.out ▸ row_range h.j.i.ka hL16 hkl
      have J60 := J6.drew
      refine region_cutG (fun _ => { tmps := #[.slice (some ⟨b, off, none⟩) m cap, .int .u32 nr, .int .u32 arch, undef, undef, undef, .slice none 0 0, .pointer (some ⟨w.heap.size, 0, none⟩), .int .i64 0, .int .i64 0, .int .i64 0, .pointer (some ⟨g11, 0, none⟩), .pointer (some ⟨g12, 0, none⟩), .int .i64 (k : Int), .pointer (some ⟨g14, 0, none⟩), u15, u16, .tuple #[.int .i64 0, .int .i64 0], .slice (some ⟨b, off, none⟩) m cap, .tuple #[.int .i64 0, .int .i64 0], .int .i64 0, .int .i64 0, .int .i64 0, .bool false, undef, undef, .slice (some ⟨b, off, none⟩) m cap, .int .i64 (m : Int), .slice (some ⟨ga, 0, none⟩) m m, .slice (some ⟨ga, 0, none⟩) m m, .agg (stC stB), .pointer (some ⟨ga, 0, none⟩), .agg #[.bool false, .int .u32 0, .bool false], .slice (some ⟨b, off, none⟩) m cap, .int .i64 (m : Int), .int .i64 (k : Int), .bool true, .int .i64 (k : Int), .pointer (some ⟨b, off + k * 4, none⟩), .agg #[.int .u16 x, .int .u8 y, .int .u8 z, .int .u32 u], .slice (some ⟨ga, 0, none⟩) m m, .int .i64 (k : Int), .pointer (some ⟨ga, k * 37, none⟩), .pointer (some ⟨ga, k * 37, none⟩), .bool true, .bool false, .agg (edC e), .agg #[.int .u16 x, .int .u8 y, .int .u8 z, .int .u32 u], .slice (some ⟨ga, 0, none⟩) m m, .int .i64 (k : Int), .pointer (some ⟨ga, k * 37, none⟩), .agg (stC s), .agg (edC e2), .agg (edC e3), .agg #[.int .u16 x, .int .u8 y, .int .u8 z, .int .u32 u], .int .i64 (k : Int), .slice (some ⟨ga, 0, none⟩) m m, .int .i64 (k : Int), .pointer (some ⟨ga, k * 37, none⟩), .agg (stC s), .int .u32 nr, .int .u32 arch, .agg #[.int .u32 nr, .int .u32 arch], .func (.func 141) #[] #[.pointer (some ⟨V6.heap.size, 0, none⟩), .pointer (some ⟨V6.heap.size + 1 + 1, 0, none⟩), .pointer (some ⟨V6.heap.size + 1 + 1 + 1, 0, none⟩), .pointer (some ⟨V6.heap.size + 1, 0, none⟩)], u64, u65, u66, u67, u68, u69, u70, u71, u72, u73, u74, u75, undef, undef, undef], defers := dm }) (fun g V => V = ((((V6.drew.alloc (.cells (celI (x, y, z, u)).toArray 111)).alloc (.cells #[.int .i64 (k : Int)] 3)).alloc (.cells (stC s) 158)).alloc (.cells #[.int .u32 nr, .int .u32 arch] 196))) ?_ ?_
      · refine wp_region_held_drew (S := fun V => FK w V m ga g11 g12 g14 L e3 ds (x, y, z, u)) (by kernel_rfl) J60 (fun _ => ?_)
        refine wpAnyH_take (i := 0) (v := .agg #[.int .u16 x, .int .u8 y, .int .u8 z, .int .u32 u]) rfl (by kernel_rfl) (by kernel_rfl) (by kernel_rfl) (fun _ _ _ h => nomatch h.1) (yieldsIf_blk (by rfl) 111 (.tmp 14) rfl g14 rfl #[.int .u16 x, .int .u8 y, .int .u8 z, .int .u32 u] 111 _ (fun V hV => hV.k14) Tryz.underlying111 rfl (by kernel_rfl)) J60 ?_
        try simp only [Act.put, List.getElem_toArray, List.getElem_cons_zero, List.getElem_cons_succ, List.setIfInBounds_toArray, List.set_cons_zero, List.set_cons_succ]
        refine wpAnyH_take (i := 1) (v := .int .i64 (k : Int)) rfl (by kernel_rfl) (by kernel_rfl) (by kernel_rfl) (fun _ _ _ h => nomatch h.1) (.inl ⟨by rfl, fun V hV => by go_simp⟩) J60 ?_
        try simp only [Act.put, List.getElem_toArray, List.getElem_cons_zero, List.getElem_cons_succ, List.setIfInBounds_toArray, List.set_cons_zero, List.set_cons_succ]
        refine wpAnyH_take (i := 2) (v := .slice (some ⟨ga, 0, none⟩) m m) rfl (by kernel_rfl) (by kernel_rfl) (by kernel_rfl) (fun _ _ _ h => nomatch h.1) (.inl ⟨by rfl, fun V hV => by have c : V.cell? ⟨g11, 0, none⟩ = some (.slice (some ⟨ga, 0, none⟩) m m) := hV.j.i.k11.cell 0; go_simp⟩) J60 ?_
        try simp only [Act.put, List.getElem_toArray, List.getElem_cons_zero, List.getElem_cons_succ, List.setIfInBounds_toArray, List.set_cons_zero, List.set_cons_succ]
        refine wpAnyH_take (i := 3) (v := .int .i64 (k : Int)) rfl (by kernel_rfl) (by kernel_rfl) (by kernel_rfl) (fun _ _ _ h => nomatch h.1) (.inl ⟨by rfl, fun V hV => by go_simp⟩) J60 ?_
        try simp only [Act.put, List.getElem_toArray, List.getElem_cons_zero, List.getElem_cons_succ, List.setIfInBounds_toArray, List.set_cons_zero, List.set_cons_succ]
        refine wpAnyH_take (i := 4) (v := .pointer (some ⟨ga, k * 37, none⟩)) rfl (by kernel_rfl) (by kernel_rfl) (by kernel_rfl) (fun _ _ _ h => nomatch h.1) (.inl ⟨by rfl, fun V hV => by go_simp⟩) J60 ?_
        try simp only [Act.put, List.getElem_toArray, List.getElem_cons_zero, List.getElem_cons_succ, List.setIfInBounds_toArray, List.set_cons_zero, List.set_cons_succ]
        refine wpAnyH_take (i := 5) (v := .agg (stC s)) rfl (by kernel_rfl) (by kernel_rfl) (by kernel_rfl) (fun _ _ _ h => nomatch h.1) (yieldsIf_load_mid (by rfl) 158 (.tmp 58) rfl ga (k * 37) rfl (stC s).toList _ hrg6 Tryz.underlying158 rfl (stL_inf sok.len)) J60 ?_
        try simp only [Act.put, List.getElem_toArray, List.getElem_cons_zero, List.getElem_cons_succ, List.setIfInBounds_toArray, List.set_cons_zero, List.set_cons_succ]
        refine wpAnyH_take (i := 6) (v := .int .u32 nr) rfl (by kernel_rfl) (by kernel_rfl) (by kernel_rfl) (fun _ _ _ h => nomatch h.1) (.inl ⟨by rfl, fun V hV => by go_simp⟩) J60 ?_
        try simp only [Act.put, List.getElem_toArray, List.getElem_cons_zero, List.getElem_cons_succ, List.setIfInBounds_toArray, List.set_cons_zero, List.set_cons_succ]
        refine wpAnyH_take (i := 7) (v := .int .u32 arch) rfl (by kernel_rfl) (by kernel_rfl) (by kernel_rfl) (fun _ _ _ h => nomatch h.1) (.inl ⟨by rfl, fun V hV => by go_simp⟩) J60 ?_
        try simp only [Act.put, List.getElem_toArray, List.getElem_cons_zero, List.getElem_cons_succ, List.setIfInBounds_toArray, List.set_cons_zero, List.set_cons_succ]
        refine wpAnyH_take (i := 8) (v := .agg #[.int .u32 nr, .int .u32 arch]) rfl (by kernel_rfl) (by kernel_rfl) (by kernel_rfl) (fun _ _ _ h => nomatch h.1) (.inl ⟨by rfl, fun V hV => by go_simp⟩) J60 ?_
        try simp only [Act.put, List.getElem_toArray, List.getElem_cons_zero, List.getElem_cons_succ, List.setIfInBounds_toArray, List.set_cons_zero, List.set_cons_succ]
        refine wpAnyH_ready (rs := [9]) (by kernel_rfl) (by simp) ?_
        refine AllReadyH.cons rfl (fun K hK => ?_) AllReadyH.nil
        try simp only [List.getElem_toArray, List.getElem_cons_zero, List.getElem_cons_succ, List.setIfInBounds_toArray, List.set_cons_zero, List.set_cons_succ]
        go_simp
        refine (onward_any (x, y, z, u) k s nr arch V6.drew).mono ?_
        rintro e' V7 ⟨rfl, hV7⟩
        subst hV7
        go_wp2_with fail
        have J61 := J60.below (((((Below.refl V6.drew.heap.size V6.drew).alloc (Nat.le_refl _) (.cells (celI (x, y, z, u)).toArray 111)).alloc (by simp) (.cells #[.int .i64 (k : Int)] 3)).alloc (by simp; omega) (.cells (stC s) 158)).alloc (by simp; omega) (.cells #[.int .u32 nr, .int .u32 arch] 196))
        refine hK.out _ _ J61 (fun _ => ?_)
        clear hK K
        try simp only [Act.put, List.getElem_toArray, List.getElem_cons_zero, List.getElem_cons_succ, List.setIfInBounds_toArray, List.set_cons_zero, List.set_cons_succ]
        refine wpAnyH_done (by kernel_rfl) ?_ _
        exact ⟨rfl, 0, rfl, rfl⟩
      · rintro g V hV
        rename_i K0 hK0
        refine hK0 _ _ ?_
        clear hK0 K0
        have z6 : g14 < V6.heap.size := J6.k14.lt
        have kx : Blk V V6.heap.size (celI (x, y, z, u)).toArray 111 := by rw [hV]; exact (((Blk.new V6.drew _ _).alloc _).alloc _).alloc _
        have ki : Blk V (V6.heap.size + 1) #[.int .i64 (k : Int)] 3 := by rw [hV]; exact ((Blk.new_ _ _ _ (by simp)).alloc _).alloc _
        have ks : Blk V (V6.heap.size + 1 + 1) (stC s) 158 := by rw [hV]; exact (Blk.new_ _ _ _ (by simp)).alloc _
        have kc : Blk V (V6.heap.size + 1 + 1 + 1) #[.int .u32 nr, .int .u32 arch] 196 := by rw [hV]; exact Blk.new_ _ _ _ (by simp)
        have bV : Below V6.heap.size V6 V := by
          rw [hV]
          exact (((((Below.refl V6.heap.size V6).drew).alloc (Nat.le_refl _) _).alloc (by simp) _).alloc (by simp; omega) _).alloc (by simp; omega) _
        have JV := (J6.below bV).j
        have z7 : V6.heap.size ≤ V.heap.size := bV.size
        clear J6 hV bV J60 HS6 hrg6
        have hfk : f k = (x, y, z, u) := HF.out
        have hone := hM.one k hlt
        unfold oneAt at hone
        rw [hfk] at hone
        obtain ⟨_, h3, _, _⟩ := oneL_ok hone
        have hok := hG.ok k hlt
        rw [hfk] at hok
        obtain ⟨F, hF⟩ := fins (m := m) (L := nxtS hdI (x, y, z, u) k s) fun p hp => (hok p (nxt_sub (by omega) hp)).2
        have hF2 : F.length ≤ 100 := by have := nxt_len (hd := hdI) (q := (x, y, z, u)) (i := k) (s := s); rw [← hF, List.length_map] at this; omega
        have sr := hrt.out
        obtain ⟨tok, _⟩ := behS_ok (al := alI) alI_u32 hnr har ho sok sr
        obtain ⟨t, ht⟩ : ∃ t, behS alI nr arch (x, y, z, u) s = t := ⟨_, rfl⟩
        rw [ht] at tok
        have hHT := Lib.hid ht
        have hHF := Lib.hid hF
        have hKV := hK.below JV.i.old hK.pos
        have hzd : ∀ d ∈ ds, d < V.heap.size := fun d hd => (Array.getElem?_eq_some_iff.1 (JV.md d hd).2).1
        have z12' := JV.k12.lt
        have z11' := JV.i.k11.lt
        have za' := JV.i.ka.lt
        have seqF := onward_seq 5 (by omega) ga V6.heap.size (V6.heap.size + 1 + 1) (V6.heap.size + 1 + 1 + 1) (V6.heap.size + 1) (x, y, z, u) k m (by omega) ho h3 s sok nr arch F hF hF2 t ht tok.len V hKV za' (fun j v x hc => row_no64 JV.i.ka j v x hc) kx ks kc ki
        clear kx ki ks kc hKV hone h3 hok hfk sr ht hF
        go_wp2_with fail
        refine (wpIn_wide (n := 6)).1 ?_
        refine wpIn_range4 rfl (by omega) (gf := 141) (lb := #[.pointer (some ⟨V6.heap.size, 0, none⟩), .pointer (some ⟨V6.heap.size + 1 + 1, 0, none⟩), .pointer (some ⟨V6.heap.size + 1 + 1 + 1, 0, none⟩), .pointer (some ⟨V6.heap.size + 1, 0, none⟩)]) rfl trivial (enters_of Tryz.func141 (by kernel_rfl) rfl)
          seqF keepG_t (fun W l o o' _ h a _ => keepG_b ga W l o o' h a) (Below.refl _ _) (fun _ => rfl) (fun (pre : List (Fin m)) W => FJ w W m ga g11 g12 (pre.foldl (fun L p => putS t L p.val) L) e3 ds) ?hI JV ?round ?done
        case hI =>
          rintro pre W W' row h hg hr
          exact h.grown (B := V.heap.size) hg (fun r e => by have := hr r e; omega) z12' hzd
        case round =>
          rintro l pre ⟨pv, hpm⟩ W hJ hlt2 hlen
          clear JV seqF
          obtain ⟨L1, hL1⟩ : ∃ L1, pre.foldl (fun L p => putS t L p.val) L = L1 := ⟨_, rfl⟩
          have hL1ok := fold_ok tok pre hLok.1
          have hL1len := fold_len t pre L
          rw [hL1] at hJ hL1ok hL1len
          have hL116 : Len16 L1 := fun s hs => (hL1ok s hs).len
          have hsn : (pre ++ [(⟨pv, hpm⟩ : Fin m)]).foldl (fun (L : List StS) (p : Fin m) => putS t L p.val) L = L1.set pv (joinS (L1.getD pv st0) t) := by rw [List.foldl_append, hL1]; rfl
          have HSN := Lib.hid hsn
          clear hL1 hsn
          gi_wp2_with (refine wpListIn_store_blk rfl 158 (.tmp 16) (.tmp 65) rfl W.heap.size zstL (stC t) 158 rfl rfl (Blk.new_ _ _ _ rfl) (zst_size.trans (st_size tok.len).symm) (st_inf tok.len) st_one ?_
                       intro W1 hW1 hN1
                       have bW1 : Below W.heap.size W W1 := ((Below.refl _ W).alloc (Nat.le_refl _) _).trans (hN1.below W.heap.size (Nat.le_refl _) (by simp))
                       clear hN1)
          have hs1 : V.heap.size + 1 < W.heap.size := by omega
          refine ⟨⟨bW1.block _ (by omega), bW1.block _ hs1⟩, keepG_below bW1, fun o o' ho hc => ?_⟩
          have J2 : FJ w (W1.putObj (V.heap.size + 1) o') m ga g11 g12 L1 e3 ds := (hJ.below bW1).grown (B := V.heap.size) (grownBy_putObj' W1 _ o') (fun r e => by cases e; omega) z12' hzd
          have k2 : Blk (W1.putObj (V.heap.size + 1) o') W.heap.size (stC t) 158 := ⟨(World.putObj_heap_other (by omega)).trans hW1.blk⟩
          have d2 : (W1.putObj (V.heap.size + 1) o').heap[V.heap.size]? = W1.heap[V.heap.size]? := World.putObj_heap_other (by omega)
          have o2 : (W1.putObj (V.heap.size + 1) o').heap[V.heap.size + 1]? = some o' := World.putObj_heap_same (by have := bW1.size; omega)
          have z2 : V.heap.size + 1 < (W1.putObj (V.heap.size + 1) o').heap.size := (Array.getElem?_eq_some_iff.1 o2).1
          generalize W1.putObj (V.heap.size + 1) o' = W2 at J2 k2 d2 o2 z2 ⊢
          generalize W.heap.size = g16 at k2 ⊢
          clear hJ bW1 hW1 ho hc hs1 hlt2 hlen
          have J20 : FR w W2 W2.drew m ga g11 g12 g16 L1 e3 ds t := ⟨J2.below (Below.refl _ _).drew, k2.drew, (Below.refl _ _).drew⟩
          clear J2 k2
          obtain ⟨sp, hsp⟩ : ∃ sp, L1.getD pv st0 = sp := ⟨_, rfl⟩
          have spok : StOk sp := hsp ▸ getD_ok hL1ok pv
          have CJ := Lib.hid (calls_keep (S := fun V' => FR w W2 V' m ga g11 g12 g16 L1 e3 ds t) (fun V V' h hb => h.below hb) (fun V _ => join_st sp t spok.len tok.len V))
          obtain ⟨r, hr⟩ : ∃ r, joinS sp t = r := ⟨_, rfl⟩
          rw [hr] at CJ
          have rok : StOk r := hr ▸ joinS_ok spok tok
          have hpl : pv < L1.length := by omega
          have hpm' : (pv : Int) < (m : Int) := by omega
          have hrg1 := fun V' (h : FR w W2 V' m ga g11 g12 g16 L1 e3 ds t) => hsp ▸ row_range h.j.i.ka hL116 hpl
          have hsn2 := HSN.out
          rw [hsp, hr] at hsn2
          rw [hsn2]
          unfold stV at CJ
          clear hsn2 HSN hsp hr
          simp only [Act.put]
          refine wpIn_block ?_
          have hne : Nonempty (Sig (fun V' => FR w W2 V' m ga g11 g12 g16 L1 e3 ds t)) := ⟨⟨_, J20⟩⟩
          have hS1 : ∀ s' : Sig (fun V' => FR w W2 V' m ga g11 g12 g16 L1 e3 ds t), s'.V.cell? ⟨g11, 0, none⟩ = some (.slice (some ⟨ga, 0, none⟩) m m) := fun s' => s'.h.j.i.k11.cell 0
          refine region_class_tail_in (S := fun V' => FR w W2 V' m ga g11 g12 g16 L1 e3 ds t) 9 (by kernel_rfl) (by kernel_rfl) (by rintro ⟨a, w', h⟩; cases h.1) (by kernel_rfl) J20 ?_
          simp only [List.take_succ_cons, List.take_zero, List.drop_succ_cons, List.drop_zero]
          go_big_quiet_step (fail)
          go_big_quiet_step (fail)
          go_big_quiet_step (fail)
          go_big_quiet_step (fail)
          go_big_quiet_step (fail)
          refine class_load_row (by rfl) 158 (.tmp 70) rfl ga (pv * 37) rfl (stC sp) _ hrg1 Tryz.underlying158 rfl (st_inf spok.len) ?_
          simp only [Act.put, List.setIfInBounds_toArray, List.set_cons_zero, List.set_cons_succ]
          refine class_load (by rfl) 158 (.tmp 16) rfl g16 rfl (stC t) 158 _ (fun _ h => h.k16) Tryz.underlying158 rfl (st_inf tok.len) ?_
          simp only [Act.put, List.setIfInBounds_toArray, List.set_cons_zero, List.set_cons_succ]
          repeat (go_big_quiet_step (first | (go_at_call 128; exact class_call _ CJ.out)))
          refine wpQuiet_nil ?_
          rintro ⟨V7, J70⟩
          dsimp only
          clear hS1 hne CJ J20 hrg1
          refine wpList_store_row rfl 158 (.tmp 74) (.tmp 73) rfl ga pv L1 r 158 rfl rfl J70.j.i.ka hL116 rok.len hpl st_info ?_
          intro V8 h8 n8
          refine wpList_nil ?_
          have hb7 := J70.bel
          have hz7 := hb7.size
          refine ⟨rfl, ⟨?_, ?_⟩, keepG_t (keepG_below hb7) (keepG_but n8), J70.j.seta h8 n8⟩
          · exact (n8.block _ (by omega) (by omega)).trans ((hb7.block _ (by omega)).trans d2)
          · exact (n8.block _ (by omega) (by omega)).trans ((hb7.block _ z2).trans o2)
        case done =>
          rintro ys W rfl hJ hD
          have hfold := foldl_fin t ys L
          rw [hHF.out] at hfold
          rw [← hfold] at hJ
          have hgo := hnx.out
          rw [hHT.out] at hgo
          have hee := he23.out
          rw [hee] at hgo
          have J9 : FJ w W m ga g11 g12 (floS alI hdI nr arch f m (k + 1)).1 (floS alI hdI nr arch f m (k + 1)).2 (V.heap.size :: ds) := by
            rw [hgo]
            exact ⟨hJ.i, hJ.k12, hJ.h12, List.nodup_cons.2 ⟨fun hm => by have := hzd _ hm; omega, hJ.nd⟩, fun d hd => by
              rcases List.mem_cons.1 hd with rfl | hd
              · exact ⟨z12', hD⟩
              · exact hJ.md d hd⟩
          clear hJ hD hgo hfold JV seqF
          go_wp2_with fail
          exact ⟨⟨k + 1, V.heap.size :: ds, _, _, _, _, _, _, _, _, _, _, _, _, _, _, _, _, _, _, _, _, _, _, _, _, _, _, _, _, _, _, _, _, _, _, _, _, _, _, _, _, _, _, _, _, by omega, J9, by rw [List.map_cons, ← hds]; rfl⟩, hM35 _ _ _ _ _ rfl hlt⟩
  · have hkm : k = m := by omega
    have hlt' : ¬ (k : Int) < (m : Int) := by omega
    rw [hkm] at Jk
    obtain ⟨⟨L, e⟩, hLe⟩ : ∃ z, floS alI hdI nr arch f m m = z := ⟨_, rfl⟩
    rw [hLe] at Jk
    simp only at Jk
    have HL := Lib.hid hLe
    have c11 : wr.cell? ⟨g11, 0, none⟩ = some (.slice (some ⟨ga, 0, none⟩) m m) := Jk.i.k11.cell 0
    clear hLe hM35 hF hFl hG hio hkm hA hM
    go_wp2_with fail
    have J0 : FJ w wr.drew m ga g11 g12 L e ds := Jk.below (Below.refl _ _).drew
    clear Jk c11
    have hne : Nonempty (Sig (fun V => FJ w V m ga g11 g12 L e ds)) := ⟨⟨_, J0⟩⟩
    have hS1 : ∀ s' : Sig (fun V => FJ w V m ga g11 g12 L e ds), s'.V.cell? ⟨g11, 0, none⟩ = some (.slice (some ⟨ga, 0, none⟩) m m) := fun s' => s'.h.i.k11.cell 0
    have hS2 : ∀ s' : Sig (fun V => FJ w V m ga g11 g12 L e ds), s'.V.cell? ⟨g12, 0, none⟩ = some (.bool e.b.k) := fun s' => s'.h.k12.cell 0
    have hS3 : ∀ s' : Sig (fun V => FJ w V m ga g11 g12 L e ds), s'.V.cell? ⟨g12, 1, none⟩ = some (.int .u32 e.b.v) := fun s' => s'.h.k12.cell 1
    refine region_class_tail (S := fun V => FJ w V m ga g11 g12 L e ds) 4 (by kernel_rfl) (by kernel_rfl) J0 ?_
    simp only [List.take_succ_cons, List.take_zero, List.drop_succ_cons, List.drop_zero]
    repeat (go_big_quiet_step (fail))
    refine wpQuiet_nil ?_
    rintro ⟨V5, J5⟩
    dsimp only
    clear hS1 hS2 hS3 hne J0
    go_wp2_with (refine wpList_store_blk rfl 139 (.tmp 7) (.tmp 78) rfl w.heap.size _ (abA e.b) 139 rfl rfl J5.i.k7 rfl (abA_inf _) (abA_one _) ?_; intro V6 hV6 hN6)
    rw [← hds]
    have hbl : Blk V6 ga (rowS L) 158 := hN6.blk' J5.i.ka (by have := J5.i.h7; omega)
    have hmd : ∀ d ∈ ds, V6.heap[d]? = some (.deferred (some [])) := fun d hd => by
      have h1 := J5.md d hd
      have h2 := J5.i.h7
      have h3 := J5.i.h11
      have h4 := J5.h12
      exact (hN6.block d (Array.getElem?_eq_some_iff.1 h1.2).1 (by omega)).trans h1.2
    have hbel := J5.i.old.trans (hN6.below w.heap.size (Nat.le_refl _) J5.i.old.size)
    have hlo : ∀ d ∈ ds, ga < d := fun d hd => by
      have h1 := (J5.md d hd).1
      have h3 := J5.i.h11
      have h4 := J5.h12
      omega
    have h7 := J5.i.h7
    refine leaves_marks ds V6 J5.nd hmd fun W' hs => ?_
    have h77 := hs.blk hV6 (fun hm => by have := hlo _ hm; omega)
    refine ⟨_, results_flow rfl _ W' w.heap.size (abA e.b) rfl h77 _ _ rfl rfl, ga, ?_, ?_, hbel.trans (hs.below fun d hd => by have := hlo d hd; omega)⟩
    · rw [HL.out]
      rfl
    · rw [HL.out]
      exact hs.blk hbl (fun hm => by have := hlo _ hm; omega)
end Go.Proofs.YtelfdpcenplhjaaGreatDoor
