/-
  asm.Parse: the instructions of a text; or the place where the first line begins that is wrong.
-/
import Derived.Test.YtceeinljakcdkaaDoorAsmPl
import Derived.Test.YtceeinljakcdkaaDoorIns
import Derived.Maps.AppendAt
import Derived.WalkMore
namespace Go.Proofs.YtceeinljakcdkaaDoor
open Go.RowKit Go.Shelf
attribute [local go_sem] Oper.semAt_some
set_option linter.unusedVariables false

theorem plns_seq (n : Nat) (hn : 6 ≤ n) (gt : Nat) (l : List UInt8) (hl : l.length ≤ 1048576) (w : World) (hb : Blk w gt #[.string (bs l)] 9) :
    SeqR Fence.wide n Tryd.prog 56 #[.pointer (some ⟨gt, 0, none⟩)] (fun x : AP => #[.int .i64 (x.1 : Int), .string (bs x.2.1)]) (doneP l) (stopP l) (linesL l).length (fun s r => s ≤ r ∧ r < s + 5) w :=
  fun lp J Jx W hW hJ hJx hY h0 => plns_in n hn lp gt l hl J Jx W hJ hJx hY (hb.below hW hb.lt) h0
theorem plines_mk (n : Nat) (s : ByteArray) (w : World) : CallsIn Fence.wide n Tryd.prog 38 #[.string s] w fun e w' => e = .returned (.func (.func 56) #[] #[.pointer (some ⟨w.heap.size, 0, none⟩)]) ∧ w' = w.alloc (.cells #[.string s] 9) := by
  refine callsIn_of_wp Tryd.func38 rfl trivial ?_ rfl
  simp only [Tryd.ntmps38, List.size_toArray, List.length_cons, List.length_nil, Nat.reduceAdd, Nat.reduceSub, Array.replicate_succ, Array.replicate_zero, List.push_toArray, List.append_toArray, List.nil_append, List.cons_append]
  gi_wp2
  go_ret
  exact ⟨rfl, rfl⟩
theorem plc_snd (p : Nat) (ys : List AL) : (plc p ys).map (·.2.1) = ys.map (·.1) := by
  induction ys generalizing p with
  | nil => rfl
  | cons y ys ih => simp only [plc, List.map_cons, ih]
theorem lenA_flat (ys : List AL) : lenA ys = ((ys.map (·.1)).flatten).length := by
  induction ys with
  | nil => rfl
  | cons y ys ih =>
    simp only [lenA, List.map_cons, List.sum_cons] at ih ⊢
    rw [ih, List.flatten_cons, List.length_append]
theorem stepB_no1 {acc : List Ins} {x : List UInt8} (h : Lib.hasSuffix x [10] = false) : stepB acc x = none := by
  unfold stepB
  cases oneB (Lib.trimSuffix x [10]) <;> simp [h]
theorem stepB_no2 {acc : List Ins} {x : List UInt8} (h : oneB (Lib.trimSuffix x [10]) = none) : stepB acc x = none := by
  unfold stepB
  rw [h]
theorem stepB_no3 {acc : List Ins} {x : List UInt8} (h : acc.length = 255) : stepB acc x = none := by
  unfold stepB
  cases oneB (Lib.trimSuffix x [10]) <;> simp [h]
theorem stepB_ok {acc : List Ins} {x : List UInt8} {q : Ins} (h1 : Lib.hasSuffix x [10] = true) (h2 : oneB (Lib.trimSuffix x [10]) = some q) (h3 : acc.length ≠ 255) : stepB acc x = some (acc ++ [q]) := by
  unfold stepB
  rw [h2]
  simp [h1, h3]
theorem runB_snoc {xs : List (List UInt8)} {x : List UInt8} {acc acc' : List Ins} (h : runB xs [] = some acc) (hx : stepB acc x = some acc') : runB (xs ++ [x]) [] = some acc' := by
  rw [runB_append, h]
  simp [runB, hx]
theorem parse_ok {l : List UInt8} {acc : List Ins} (hl : l.length ≤ 8192) (h : runB (linesL l) [] = some acc) : parseB l = (acc, 0, 0) := by
  unfold parseB
  rw [if_neg (by omega), parseR_ok _ _ _ _ h]
theorem parse_no {l : List UInt8} {xs ys : List (List UInt8)} {x : List UInt8} {acc : List Ins} (hl : l.length ≤ 8192) (hx : linesL l = xs ++ x :: ys) (h : runB xs [] = some acc) (hs : stepB acc x = none) : parseB l = ([], xs.flatten.length, 180) := by
  unfold parseB
  rw [if_neg (by omega), hx, parseR_no _ _ _ _ _ _ h hs, Nat.zero_add]
def celA (acc : List Ins) : List Value := acc.flatMap celI
/-- What lies in memory while lines are read: b: the heap's size at the call. -/
structure PI (w : World) (b : Nat) (acc : List Ins) (V : World) : Prop where
  own : ∃ A c, Blk V b #[.slice A acc.length c] 24 ∧ V.ownsRow (b + 10) 32 4 (.slice A acc.length c) acc.length (celA acc)
  bel : Below b w V
def parI (w : World) (b : Nat) (pre : List AP) (V : World) : Prop := ∃ acc, runB (pre.map (·.2.1)) [] = some acc ∧ PI w b acc V ∧ Blk V (b + 1) #[.int .i64 (-1)] 3 ∧ acc.length ≤ 255
def parX (w : World) (b : Nat) (c : Code) (pre : List AP) (V : World) : Prop := c = .exit 0 ∧ ∃ ini x acc, pre = ini ++ [x] ∧ runB (ini.map (·.2.1)) [] = some acc ∧ stepB acc x.2.1 = none ∧ Below b w V ∧ Blk V (b + 1) #[.int .i64 (x.1 : Int)] 3
theorem PI.abide {w : World} {b : Nat} {acc : List Ins} {V V' : World} {row : Option Nat} (h : PI w b acc V) (hg : V.grownBy V' row) (hr : ∀ r, row = some r → b + 3 ≤ r ∧ r < b + 10) (hb : b ≤ V.heap.size) : PI w b acc V' := by
  obtain ⟨⟨A, c, k, o⟩, bl⟩ := h
  refine ⟨⟨A, c, k.grow hg (fun e => by have := hr _ e.symm; omega), o.kept hg ?_⟩, bl.grown hg hb (fun r e => by have := hr r e; omega)⟩
  cases ho : (Value.slice A acc.length c).ownBlock with
  | none => exact .inl rfl
  | some g =>
    right
    intro e
    have h1 := (o.lt g ho).1
    have h2 := hr g e.symm
    omega
theorem par_long (s : ByteArray) (hs : 8192 < s.size) (w : World) : Calls Tryd.prog 15 #[.string s] w fun e w' => e = .returned (.tuple #[.slice none 0 0, .int .i64 0, .int .i64 3]) ∧ Below w.heap.size w w' := by
  have hs' : (8192 : Int) < (s.size : Int) := by omega
  go_enter Tryd.func15, Tryd.ntmps15
  go_wp2
  go_step3
  go_wp2
  rw [Exit.noGoto_ret]
  exact bodyPost_ret (v := .tuple #[.slice none 0 0, .int .i64 0, .int .i64 3]) (by simp [results, Tryd.f15, go_sem]) rfl ⟨rfl, Below.refl _ _⟩
set_option maxRecDepth 100000 in
set_option maxHeartbeats 16000000 in
theorem par_in (s : ByteArray) (hs : s.size ≤ 8192) (w : World) (hT : T8 w) : CallsIn Fence.wide 20 Tryd.prog 15 #[.string s] w fun e w' => ∃ A c, e = .returned (.tuple #[.slice A (parseB s.data.toList).1.length c, .int .i64 ((parseB s.data.toList).2.1 : Nat), .int .i64 (parseB s.data.toList).2.2]) ∧ Below w.heap.size w w' ∧
    w'.ownsRow w.heap.size 32 4 (.slice A (parseB s.data.toList).1.length c) (parseB s.data.toList).1.length (celA (parseB s.data.toList).1) := by
  have hl : s.data.toList.length ≤ 8192 := okB hs
  have hs' : ¬ (8192 : Int) < (s.size : Int) := by omega
  have hse := Lib.hid (bs_of s)
  obtain ⟨l, hle⟩ : ∃ l, s.data.toList = l := ⟨_, rfl⟩
  rw [hle] at hl ⊢
  obtain rfl : bs l = s := by rw [← hle]; exact hse.out
  clear hse hle
  refine callsIn_of_wp_marks Tryd.func15 rfl trivial ?_ rfl
  simp only [Tryd.ntmps15, List.size_toArray, List.length_cons, List.length_nil, Nat.reduceAdd, Nat.reduceSub, Array.replicate_succ, Array.replicate_zero, List.push_toArray, List.append_toArray, List.nil_append, List.cons_append]
  refine wpIn_wide.2 ?_
  go_wp2
  go_step3
  go_wp2
  go_step3
  go_wp2_with (go_at_call 38; refine (callsIn_wide.1 (plines_mk 6 _ _)).mono ?_; rintro e w' ⟨rfl, rfl⟩)
  have g0 := (((Blk.new w #[.slice none 0 0] 24).alloc (.cells #[.int .i64 (-1)] 3)).alloc (.cells #[.string (bs l)] 9))
  have g1 := (Blk.new_ (w.alloc (.cells #[.slice none 0 0] 24)) #[.int .i64 (-1)] 3 (World.size_alloc _ _)).alloc (.cells #[.string (bs l)] 9)
  have g2 := Blk.new_ ((w.alloc (.cells #[.slice none 0 0] 24)).alloc (.cells #[.int .i64 (-1)] 3)) #[.string (bs l)] 9 (n := w.heap.size + 2) (by simp)
  have hB0 : Below w.heap.size w (((w.alloc (.cells #[.slice none 0 0] 24)).alloc (.cells #[.int .i64 (-1)] 3)).alloc (.cells #[.string (bs l)] 9)) := (((Below.refl _ w).alloc (Nat.le_refl _) _).alloc (by simp) _).alloc (by simp; omega) _
  have hsz : (((w.alloc (.cells #[.slice none 0 0] 24)).alloc (.cells #[.int .i64 (-1)] 3)).alloc (.cells #[.string (bs l)] 9)).heap.size = w.heap.size + 3 := by simp
  have eL : ((w.alloc (.cells #[.slice none 0 0] 24)).alloc (.cells #[.int .i64 (-1)] 3)).heap.size = w.heap.size + 2 := by simp
  try rw [eL]
  generalize ((w.alloc (.cells #[.slice none 0 0] 24)).alloc (.cells #[.int .i64 (-1)] 3)).alloc (.cells #[.string (bs l)] 9) = w0 at g0 g1 g2 hB0 hsz ⊢
  clear eL
  have hpl := plns_seq 19 (by omega) (w.heap.size + 2) l (by omega) w0 g2
  have hN := linesL_len l
  have hP0 : parI w w.heap.size [] w0 := ⟨[], rfl, ⟨⟨none, 0, g0, World.ownsRow_nil _ _ _ _⟩, hB0⟩, g1, by simp⟩
  refine (wpIn_wide (n := 20)).1 ?_
  refine wpIn_range6 rfl (by omega) (gf := 56) (lb := #[.pointer (some ⟨w.heap.size + 2, 0, none⟩)]) rfl trivial (enters_of Tryd.func56 (by kernel_rfl) rfl) hpl (fun r hr => by rw [hsz] at hr ⊢; omega) (Below.refl _ _) (fun _ => rfl)
    (parI w w.heap.size) (parX w w.heap.size) (fun r => w.heap.size + 3 ≤ r ∧ r < w.heap.size + 10) (fun r => by rw [hsz]; omega) ?hI ?hIx hP0 ?round ?done ?stop
  case hI =>
    rintro pre V V' row ⟨acc, h1, h2, h3, h4⟩ hg hr
    exact ⟨acc, h1, h2.abide hg hr h2.bel.size, h3.grow hg (fun e => by have := hr _ e.symm; omega), h4⟩
  case hIx =>
    rintro c pre V V' row ⟨h0, ini, x, acc, h1, h2, h3, h4, h5⟩ hg hr
    exact ⟨h0, ini, x, acc, h1, h2, h3, h4.grown hg h4.size (fun r e => by have := hr r e; omega), h5.grow hg (fun e => by have := hr _ e.symm; omega)⟩
  case round =>
    rintro lr pre ⟨pl, x⟩ V ⟨acc, hrun, hP, k1, hacc⟩ hlt hex hlen
    gi_wp2
    refine ⟨KeptAt.refl _ _, Nat.le_refl _, fun o' _ => ?_⟩
    have hs4 : w.heap.size + 10 ≤ V.heap.size := by have := hex (w.heap.size + 9) (by omega); omega
    have hg := grownBy_putObj' V (w0.heap.size + 1) o'
    have hP2 := hP.abide hg (fun r e => by cases e; omega) hP.bel.size
    have k2 := k1.grow hg (fun e => by have := Option.some.inj e; omega)
    have hz : (V.putObj (w0.heap.size + 1) o').heap.size = V.heap.size := by simp
    generalize V.putObj (w0.heap.size + 1) o' = V2 at hP2 k2 hz hg ⊢
    obtain ⟨⟨A, c, k0, ho⟩, hbl⟩ := hP2
    have hT2 := hT.new hbl
    obtain ⟨en, hen⟩ : ∃ en, Lib.hasSuffix x.1 [10] = en := ⟨_, rfl⟩
    obtain ⟨ln, hln⟩ : ∃ ln, Lib.trimSuffix x.1 [10] = ln := ⟨_, rfl⟩
    obtain ⟨o, hon⟩ : ∃ o, oneB ln = o := ⟨_, rfl⟩
    have hxl := x.2
    have hlnl : ln.length ≤ 1048576 := by
      have := Lib.trimSuffix_le x.1 [10]
      rw [hln] at this
      omega
    have hcut : ∀ w, Calls Tryd.prog 39 #[.string (bs x.1), .string ⟨#[10]⟩] w fun e w' => e = .returned (.tuple #[.string (bs ln), .bool en]) ∧ w' = w := fun w => by
      have := cutS_any (bs x.1) ⟨#[10]⟩ (by rw [bs_size]; omega) w
      rw [bs_list] at this
      rw [← hln, ← hen]
      exact this
    have hone : ∀ w, T8 w → Calls Tryd.prog 17 #[.string (bs ln)] w fun e w' => e = .returned (.tuple #[oneV o, .int .i64 (oneE o)]) ∧ Below w.heap.size w w' := fun w hT => by
      have := one_any (bs ln) (by rw [bs_size]; exact hlnl) w hT
      rwa [bs_list, hon] at this
    have HEN := Lib.hid hen
    have HON := Lib.hid (show oneB (Lib.trimSuffix x.1 [10]) = o by rw [hln]; exact hon)
    have HRUN := Lib.hid hrun
    clear hen hln hon hrun hP k1 hex hg hxl hlnl
    have fin : ∀ W3 : World, Below V2.heap.size V2 W3 → stepB acc x.1 = none →
        KeptAt (fun r => w.heap.size + 3 ≤ r ∧ r < w.heap.size + 10) V2 (W3.setCell ⟨w.heap.size + 1, 0, none⟩ (.int .i64 (pl : Int))) ∧ V.heap.size ≤ (W3.setCell ⟨w.heap.size + 1, 0, none⟩ (.int .i64 (pl : Int))).heap.size ∧
          parX w w.heap.size (.exit 0) (pre ++ [(pl, x)]) (W3.setCell ⟨w.heap.size + 1, 0, none⟩ (.int .i64 (pl : Int))) := by
      intro W3 hb h3
      have hs3 := hb.size
      refine ⟨fun r hr => (Below.heap_setCell _ _ _ _ (by simp only; omega)).trans (hb.block r (by omega)), by simp [World.setCell]; omega, rfl, pre, (pl, x), acc, rfl, HRUN.out, h3, (hbl.trans (hb.mono hbl.size)).setCell (p := ⟨w.heap.size + 1, 0, none⟩) (by simp) _, ?_⟩
      simpa using (k2.below hb k2.lt).set_ 0 (.int .i64 (pl : Int))
    obtain ⟨q, hq, hqo⟩ : ∃ q : Ins, oneV o = valI q ∧ ∀ q', o = some q' → q' = q := by
      cases o with
      | none => exact ⟨(0, 0, 0, 0), rfl, fun _ h => by cases h⟩
      | some q => exact ⟨q, rfl, fun _ h => (Option.some.inj h).symm⟩
    obtain ⟨er, her⟩ : ∃ er, oneE o = er := ⟨_, rfl⟩
    rw [hq, her] at hone
    have HER := Lib.hid her
    clear hq her
    obtain ⟨c0, a0, b0, d0⟩ := q
    simp only [valI, insV] at hone
    have hsz4 : ∀ (V3 : World) (o1 : Obj), Below V2.heap.size V2 V3 → Below V2.heap.size V2 (V3.alloc o1) := fun V3 o1 h => h.alloc h.size _
    cases en with
    | false =>
      gi_wp2_with (first
        | (refine ⟨trivial, ?_⟩; gi_at_call 39; refine (CallsIn.inRound lr (callsIn_wide.2 (hcut _))).mono ?_; rintro e w' ⟨rfl, e1⟩; obtain rfl := e1.symm)
        | (refine ⟨trivial, ?_⟩; gi_at_call 17; refine (CallsIn.inRound lr (callsIn_wide.2 (hone _ hT2))).mono ?_; rintro e V3 ⟨rfl, hb3⟩; refine Hid.out ?_))
      refine Lib.hid ?_
      have hb4 := hsz4 V3 (.cells #[.int .u16 c0, .int .u8 a0, .int .u8 b0, .int .u32 d0] 32) hb3
      have k4 := k2.below hb4 k2.lt
      have c4 := k4.cell 0
      have f4 := k4.frozen 0
      simp only [List.getElem?_toArray, List.getElem?_cons_zero] at c4
      have F := fin _ hb4 (stepB_no1 HEN.out)
      clear fin hcut hone hb3 hb4
      gi_wp2
      exact F
    | true =>
      by_cases her : er = 0
      · subst her
        by_cases hlen5 : acc.length = 255
        · have hl5 : (acc.length : Int) = 255 := by omega
          gi_wp2_with (first
            | (refine ⟨trivial, ?_⟩; gi_at_call 39; refine (CallsIn.inRound lr (callsIn_wide.2 (hcut _))).mono ?_; rintro e w' ⟨rfl, e1⟩; obtain rfl := e1.symm)
            | (refine ⟨trivial, ?_⟩; gi_at_call 17; refine (CallsIn.inRound lr (callsIn_wide.2 (hone _ hT2))).mono ?_; rintro e V3 ⟨rfl, hb3⟩; refine Hid.out ?_))
          refine Lib.hid ?_
          have hb4 := hsz4 V3 (.cells #[.int .u16 c0, .int .u8 a0, .int .u8 b0, .int .u32 d0] 32) hb3
          have k4 := k2.below hb4 k2.lt
          have c4 := k4.cell 0
          have f4 := k4.frozen 0
          have k5 := k0.below hb4 k0.lt
          have c5 := k5.cell 0
          simp only [List.getElem?_toArray, List.getElem?_cons_zero] at c4 c5
          have F := fin _ hb4 (stepB_no3 hlen5)
          clear fin hcut hone hb3 hb4
          gi_wp2
          exact F
        · have hl5 : ¬ (acc.length : Int) = 255 := by omega
          gi_wp2_with (first
            | (refine ⟨trivial, ?_⟩; gi_at_call 39; refine (CallsIn.inRound lr (callsIn_wide.2 (hcut _))).mono ?_; rintro e w' ⟨rfl, e1⟩; obtain rfl := e1.symm)
            | (refine ⟨trivial, ?_⟩; gi_at_call 17; refine (CallsIn.inRound lr (callsIn_wide.2 (hone _ hT2))).mono ?_; rintro e V3 ⟨rfl, hb3⟩; refine Hid.out ?_))
          refine Lib.hid ?_
          have hb4 := hsz4 V3 (.cells #[.int .u16 c0, .int .u8 a0, .int .u8 b0, .int .u32 d0] 32) hb3
          have hb5 := hsz4 _ (.cells #[.int .u16 c0, .int .u8 a0, .int .u8 b0, .int .u32 d0] 32) hb4
          have k5 := k0.below hb4 k0.lt
          have c5 := k5.cell 0
          simp only [List.getElem?_toArray, List.getElem?_cons_zero] at c5
          have hs5 := hb5.size
          have hs6 := hb4.size
          have ho5 := ownsRow_below ho hb5 (Nat.le_refl _)
          have hne : ∀ k, k < w.heap.size + 10 → some k ≠ (Value.slice A acc.length c).ownBlock := fun k hk e => by have := (ho.lt k e.symm).1; omega
          have k6 := k0.below hb5 k0.lt
          have k6' := k2.below hb5 k2.lt
          obtain ⟨i0, hi, hz0, hz1, hz2⟩ := info_parts insn_info
          have hnew := news_new (V3.alloc (.cells #[.int .u16 c0, .int .u8 a0, .int .u8 b0, .int .u32 d0] 32)) #[.int .u16 c0, .int .u8 a0, .int .u8 b0, .int .u32 d0] 32
          rw [World.size_alloc] at hnew
          gi_wp2_with (gi_at_builtin; refine wpListIn_append_own _ rfl _ _ 24 rfl (w.heap.size + 10) 32 i0 _ 4 8 Tryd.underlying24 hi hz0 hz1 hz2 rfl (by decide) _ _ _ rfl ho5 ⟨V3.heap.size + 1, 0, none⟩ 1 1 (celI (c0, a0, b0, d0)) rfl rfl hnew (cel_one _) (by simp only [maxLen]; omega) (by omega) (by omega) ?_; intro v' w3 hown' hgrow hnil; refine Hid.out ?_)
          refine Lib.hid ?_
          obtain ⟨A2, c2, rfl⟩ := own_slice hown'
          have k7 := k6.grow hgrow (hne _ (by omega))
          have k7' := k6'.grow hgrow (hne _ (by omega))
          have c7 := k7.cell 0
          have f7 := k7.frozen 0
          simp only [List.getElem?_toArray, List.getElem?_cons_zero] at c7
          have hb7 : Below w.heap.size w w3 := (hbl.trans (hb5.mono hbl.size)).grown hgrow (by have := hbl.size; omega) (fun r e => by have := (ho.lt r e).1; omega)
          have hkp : KeptAt (fun r => w.heap.size + 3 ≤ r ∧ r < w.heap.size + 10) V2 w3 := fun r hr => (hgrow.block r (by omega) (hne r hr.2)).trans (hb5.block r (by omega))
          have hs7 := hgrow.size
          have hso : oneB (Lib.trimSuffix x.1 [10]) = some (c0, a0, b0, d0) := by
            rw [HON.out]
            cases o with
            | none => exact absurd HER.out (by decide)
            | some q => rw [hqo q rfl]
          have hrs := runB_snoc (xs := pre.map (·.2.1)) HRUN.out (stepB_ok HEN.out hso hlen5)
          clear hcut hone hb3 hb4 fin ho5 hgrow hnew hi hz0 hz1 hz2
          gi_wp2
          refine ⟨fun r hr => (Below.heap_setCell _ _ _ _ (by simp only; omega)).trans (hkp r hr), by simp [World.setCell]; omega, acc ++ [(c0, a0, b0, d0)], by simpa using hrs, ⟨⟨A2, c2, by simpa using k7.set_ 0 (.slice A2 (acc.length + 1) c2), ?_⟩, hb7.setCell (p := ⟨w.heap.size, 0, none⟩) (Nat.le_refl _) _⟩, k7'.far (p := ⟨w.heap.size, 0, none⟩) (by simp) _, by simp; omega⟩
          have hq := ownsRow_setCell_below hown' (a := ⟨w.heap.size, 0, none⟩) (by simp only; omega) (.slice A2 (acc.length + 1) c2)
          simpa [celA] using hq
      · gi_wp2_with (first
          | (refine ⟨trivial, ?_⟩; gi_at_call 39; refine (CallsIn.inRound lr (callsIn_wide.2 (hcut _))).mono ?_; rintro e w' ⟨rfl, e1⟩; obtain rfl := e1.symm)
          | (refine ⟨trivial, ?_⟩; gi_at_call 17; refine (CallsIn.inRound lr (callsIn_wide.2 (hone _ hT2))).mono ?_; rintro e V3 ⟨rfl, hb3⟩; refine Hid.out ?_))
        refine Lib.hid ?_
        have hb4 := hsz4 V3 (.cells #[.int .u16 c0, .int .u8 a0, .int .u8 b0, .int .u32 d0] 32) hb3
        have k4 := k2.below hb4 k2.lt
        have c4 := k4.cell 0
        have f4 := k4.frozen 0
        simp only [List.getElem?_toArray, List.getElem?_cons_zero] at c4
        have F := fin _ hb4 (stepB_no2 (HON.out.trans (by
          cases o with
          | none => rfl
          | some q => exact absurd HER.out.symm her)))
        clear fin hcut hone hb3 hb4
        gi_wp2
        exact F
  case done =>
    rintro xs V ⟨ys, rfl, hys⟩ ⟨acc, hrun, ⟨⟨A, c, k0, ho⟩, hbl⟩, k1, hacc⟩ hD
    rw [plc_snd, hys] at hrun
    have hpar := Lib.hid (parse_ok hl hrun)
    clear hrun hys
    have c0 := k0.cell 0
    have c1 := k1.cell 0
    simp only [List.getElem?_toArray, List.getElem?_cons_zero] at c0 c1
    go_wp2
    rw [Exit.noGoto_ret]
    refine ⟨by simp, .inl ⟨_, _, rfl, run_takeDeferred hD, ?_⟩⟩
    refine ⟨.tuple #[.slice A acc.length c, .int .i64 0, .int .i64 0], by simp [results, Tryd.f15, go_sem], A, c, by rw [hpar.out]; rfl, ?_, ?_⟩
    · exact hbl.grown (grownBy_putObj' V _ _) hbl.size (fun r e => by have := Option.some.inj e; omega)
    · rw [hpar.out]
      exact own_base (ownsRow_putObj ho _ hD rfl) (by omega)
  case stop =>
    rintro c pre V ⟨x, ini, post, rfl, hpo⟩ ⟨rfl, ini', x', acc, he, hrun, hst, hbl, k1⟩ hD
    rw [hsz] at hD
    rw [plc_snoc] at he
    obtain ⟨rfl, he2⟩ := List.append_inj' he rfl
    simp only [List.cons.injEq, and_true, Nat.zero_add] at he2
    obtain rfl := he2.symm
    rw [plc_snd] at hrun
    have hpar := Lib.hid (parse_no (xs := ini.map (·.1)) (x := x.1) (ys := post) hl (by rw [hpo]; simp) hrun hst)
    rw [← lenA_flat] at hpar
    have c1 := k1.cell 0
    simp only [List.getElem?_toArray, List.getElem?_cons_zero] at c1
    have hge : (0 : Int) ≤ (lenA ini : Int) := by omega
    clear hrun hst hpo he
    gi_wp2
    go_wp2_with (go_quiet (fail))
    rw [Exit.noGoto_ret]
    refine ⟨by simp, .inl ⟨_, _, rfl, run_takeDeferred hD, ?_⟩⟩
    refine ⟨.tuple #[.slice none 0 0, .int .i64 (lenA ini : Int), .int .i64 180], by simp [results, Tryd.f15, go_sem], none, 0, by rw [hpar.out]; rfl, ?_, ?_⟩
    · exact (below_drewN hbl nq).grown (grownBy_putObj' (V.drewN nq) _ _) hbl.size (fun r e => by cases e; omega)
    · rw [hpar.out]
      exact World.ownsRow_nil _ _ _ _
end Go.Proofs.YtceeinljakcdkaaDoor
