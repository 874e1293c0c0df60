/-
  OctetLies: the walk.
-/
import Derived.Test.YtabccpoolakfiaaLow
import Derived.Test.YtabccpoolakfiaaFirst
import Derived.Deep.RegionHeld3
namespace Go.Proofs.Ytabccpoolakfiaa
open Go.RowKit

theorem nine_rd (w : World) (B : Nat) (hB : w.heap.size + 1 ≤ B) : Rd (w.alloc (.cells #[.int .u8 4, .int .u8 4, .int .u8 4, .int .u8 4, .int .u8 4, .int .u8 4, .int .u8 4, .int .u8 4, .int .u8 4] 5)) B (some ⟨w.heap.size, 0, none⟩) 9 [4, 4, 4, 4, 4, 4, 4, 4, 4] :=
  (Wh.new w [4, 4, 4, 4, 4, 4, 4, 4, 4] (by decide)).rd.more hB

/-- What OctetLies has made for itself, below block g0. -/
structure Li (w W : World) (g0 : Nat) (Aa : Option Addr) (gl gw n : Nat) (l : List Int) : Prop where
  was : Rd W g0 Aa n l
  long : Rd W g0 (some ⟨gl, 0, none⟩) (n + 9) (l ++ [4, 4, 4, 4, 4, 4, 4, 4, 4])
  wid : W.heap[gw]? = some (.cells #[.int .i64 2, .int .i64 4, .int .i64 8] 25 (0, 0))
  wlt : gw < g0
  old : Below w.heap.size w W
  lo : w.heap.size ≤ g0
  hi : g0 ≤ W.heap.size
theorem Li.below {w W W' : World} {g0 : Nat} {Aa : Option Addr} {gl gw n : Nat} {l : List Int} (h : Li w W g0 Aa gl gw n l) (hb : Below g0 W W') : Li w W' g0 Aa gl gw n l :=
  ⟨h.was.below hb, h.long.below hb, (hb.block gw h.wlt).trans h.wid, h.wlt, h.old.trans (hb.mono h.lo), h.lo, Nat.le_trans h.hi hb.size⟩
theorem Li.inn {w W : World} {g0 : Nat} {Aa : Option Addr} {gl gw n : Nat} {l : List Int} (h : Li w W g0 Aa gl gw n l) : Rd W g0 (some ⟨gl, 0, none⟩) n l := by
  have := h.long.take (k := n) (by omega)
  rwa [List.take_append_of_le_length (by rw [h.was.len]; omega), List.take_of_length_le (by rw [h.was.len]; omega)] at this
theorem Li.cell {w W : World} {g0 : Nat} {Aa : Option Addr} {gl gw n : Nat} {l : List Int} (h : Li w W g0 Aa gl gw n l) (k : Nat) : W.cell? ⟨gw, k, none⟩ = #[Value.int .i64 2, .int .i64 4, .int .i64 8][k]? := by
  simp [World.cell?, h.wid]

/-- The three answers from the k-th on. -/
structure Outs (W : World) (k g16 g32 g64 : Nat) (l : List Int) (x : Int) : Prop where
  o0 : k ≤ 0 → Wh W g16 (l ++ low x 2)
  o1 : k ≤ 1 → Wh W g32 (l ++ low x 4)
  o2 : k ≤ 2 → Wh W g64 (l ++ low x 8)
theorem idx3 (a b c : Value) (k : Nat) (hk : k < 3) : ∀ V : World, (Instr.index 31 (.agg #[a, b, c]) (.int .i64 k)).run Try.prog V = .ok (if k = 0 then a else if k = 1 then b else c) V := by
  match k, hk with
  | 0, _ => intro V; kernel_rfl
  | 1, _ => intro V; kernel_rfl
  | 2, _ => intro V; kernel_rfl
theorem pick {w W : World} {g0 : Nat} {Aa : Option Addr} {gl gw n g16 g32 g64 k : Nat} {l : List Int} {x : Int} (hk : k < 3) (hL : Li w W g0 Aa gl gw n l) (hO : Outs W k g16 g32 g64 l x) (d0 : g0 ≤ g16) (d1 : g16 < g32) (d2 : g32 < g64) :
    ∃ g m, (∀ V : World, (Instr.index 31 (.agg #[.slice (some ⟨g16, 0, none⟩) (n + 2) (n + 2), .slice (some ⟨g32, 0, none⟩) (n + 4) (n + 4), .slice (some ⟨g64, 0, none⟩) (n + 8) (n + 8)]) (.int .i64 k)).run Try.prog V = .ok (.slice (some ⟨g, 0, none⟩) (n + m) (n + m)) V) ∧
      Wh W g (l ++ low x m) ∧ W.cell? ⟨gw, k, none⟩ = some (.int .i64 m) ∧ 2 ≤ m ∧ m ≤ 8 ∧ g0 ≤ g ∧ (∀ V, But g W V → Outs V (k + 1) g16 g32 g64 l x) := by
  match k, hk with
  | 0, h =>
    exact ⟨g16, 2, fun V => idx3 _ _ _ 0 h V, hO.o0 (by omega), hL.cell 0, by omega, by omega, by omega, fun V hb => ⟨fun h => absurd h (by omega), fun _ => hb.wh (hO.o1 (by omega)) (by omega), fun _ => hb.wh (hO.o2 (by omega)) (by omega)⟩⟩
  | 1, h =>
    exact ⟨g32, 4, fun V => idx3 _ _ _ 1 h V, hO.o1 (by omega), hL.cell 1, by omega, by omega, by omega, fun V hb => ⟨fun h => absurd h (by omega), fun h => absurd h (by omega), fun _ => hb.wh (hO.o2 (by omega)) (by omega)⟩⟩
  | 2, h =>
    exact ⟨g64, 8, fun V => idx3 _ _ _ 2 h V, hO.o2 (by omega), hL.cell 2, by omega, by omega, by omega, fun V hb => ⟨fun h => absurd h (by omega), fun h => absurd h (by omega), fun h => absurd h (by omega)⟩⟩

/-- What holds through the test of one answer. -/
structure LS (w W V : World) (g g0 : Nat) (Aa : Option Addr) (gl gw n m : Nat) (l : List Int) (x : Int) : Prop where
  wh : Wh V g (l ++ low x m)
  but : But g W V
  li : Li w V g0 Aa gl gw n l
theorem LS.drew {w W V : World} {g g0 : Nat} {Aa : Option Addr} {gl gw n m : Nat} {l : List Int} {x : Int} (h : LS w W V g g0 Aa gl gw n m l x) : LS w W V.drew g g0 Aa gl gw n m l x :=
  ⟨h.wh.drew, h.but.drew, h.li.below (Below.refl _ _).drew⟩
theorem keepL {w W V V' : World} {g g0 : Nat} {Aa : Option Addr} {gl gw n m k : Nat} {l : List Int} {x : Int} {v : Value} (b : Below V.heap.size V V') (hh : V.cell? ⟨gw, k, none⟩ = some v ∧ LS w W V g g0 Aa gl gw n m l x) :
    V'.cell? ⟨gw, k, none⟩ = some v ∧ LS w W V' g g0 Aa gl gw n m l x := by
  have hi := hh.2.li.hi
  have hg := hh.2.li.wlt
  refine ⟨(b.cell (p := ⟨gw, k, none⟩) (show gw < V.heap.size by omega)).trans hh.1, hh.2.wh.below b hh.2.wh.lt, hh.2.but.trans (But.of_below b g), hh.2.li.below (b.mono hi)⟩
theorem sameA (w W V : World) (g g0 : Nat) (Aa : Option Addr) (gl gw n m k ca : Nat) (l : List Int) (x : Int) (hn : n ≤ 3000) (hh : V.cell? ⟨gw, k, none⟩ = some (.int .i64 m) ∧ LS w W V g g0 Aa gl gw n m l x) :
    Calls Try.prog 14 #[.slice (some ⟨g, 0, none⟩) n (n + m), .slice Aa n ca] V fun e w' => e = .returned (.bool true) ∧ Below V.heap.size V w' := by
  have h1 := hh.2.wh.piece 0 n (by rw [List.length_append, hh.2.li.was.len]; omega)
  rw [List.drop_zero, List.take_append_of_le_length (by rw [hh.2.li.was.len]; omega), List.take_of_length_le (by rw [hh.2.li.was.len]; omega)] at h1
  exact same_true _ _ n (n + m) ca _ _ l V h1 hh.2.li.was (by omega) hh.2.wh.lt hh.2.li.hi
theorem sameB (w W V : World) (g g0 : Nat) (Aa A1 : Option Addr) (gl gw n m k c c1 B : Nat) (l : List Int) (x : Int) (hm : m ≤ 8) (hh : V.cell? ⟨gw, k, none⟩ = some (.int .i64 m) ∧ LS w W V g g0 Aa gl gw n m l x) (h1 : Rd V B A1 m (low x m)) (hB : B ≤ V.heap.size) :
    Calls Try.prog 14 #[.slice (some ⟨g, n, none⟩) m c, .slice A1 m c1] V fun e w' => e = .returned (.bool true) ∧ Below V.heap.size V w' := by
  have h2 := hh.2.wh.piece n m (by rw [List.length_append, hh.2.li.was.len, low_length]; omega)
  rw [List.drop_append_of_le_length (by rw [hh.2.li.was.len]; omega), List.drop_eq_nil_of_le (by rw [hh.2.li.was.len]; omega), List.nil_append, List.take_of_length_le (by rw [low_length]; omega)] at h2
  exact same_true _ _ m c c1 _ B (low x m) V h2 h1 (by omega) hh.2.wh.lt hB

theorem tail_cell {w W : World} {g0 : Nat} {Aa : Option Addr} {gl gw n j : Nat} {l : List Int} (h : Li w W g0 Aa gl gw n l) (hj : j < 9) : W.cell? ⟨gl, n + j, none⟩ = some (.int .u8 4) := by
  obtain ⟨b, off, e, _, hc⟩ := h.long.at_ (k := n + j) (by omega)
  injection e with e
  injection e with e1 e2
  subst e1
  subst e2
  rw [Nat.zero_add] at hc
  rw [hc]
  have hl := h.was.len
  have e3 : (l ++ [4, 4, 4, 4, 4, 4, 4, 4, 4]).getD (n + j) 0 = 4 := by
    rw [List.getD_eq_getElem?_getD, List.getElem?_append_right (by omega), show n + j - l.length = j by omega]
    have : ∀ j, j < 9 → ([4, 4, 4, 4, 4, 4, 4, 4, 4] : List Int)[j]?.getD 0 = 4 := by decide
    exact this j hj
  rw [e3]
theorem xor_bd (z : Int) : 0 ≤ bits .xor .u8 z 255 ∧ bits .xor .u8 z 255 ≤ 255 := by
  have e : bits .xor .u8 z 255 = IntKind.u8.wrap ((BitVec.ofInt 8 z ^^^ BitVec.ofInt 8 255).toNat : Int) := rfl
  rw [e, IntKind.wrap_u8']
  omega

set_option maxHeartbeats 4000000 in
theorem lies_small (A : Option Addr) (n c : Nat) (l : List Int) (x : Int) (_hx0 : 0 ≤ x) (w : World) (hr : Rd w w.heap.size A n l) (hn : ¬ 3000 < n) :
    Calls Try.prog 3 #[.slice A n c, .int .u64 x] w fun e w' => e = .returned (.bool true) ∧ Below w.heap.size w w' := by
  go_enter Try.func3, Try.ntmps3
  go_wp2_with fail
  refine (wakes_any w).mono ?_
  rintro e w1 ⟨rfl, b1⟩
  go_wp2_with (first
    | (at_builtin; refine wpList_append_bytes rfl (.tmp 19) (.tmp 20) rfl w1.heap.size _ 0 0 _ rfl (Ow.empty w1 w1.heap.size (Nat.le_refl _)) w.heap.size A n c l rfl ((hr.below b1).alloc_ b1.size _) (by omega) (by simp) ?_; intro Aa ca wa oa ba; have ba' : Below w1.heap.size w1 wa := ((Below.refl _ _).alloc (Nat.le_refl _) _).trans ba)
    | (at_builtin; refine wpList_append_bytes rfl (.tmp 22) (.tmp 23) rfl wa.heap.size _ 0 0 _ rfl (Ow.empty wa wa.heap.size (Nat.le_refl _)) w.heap.size A n c l rfl (((hr.below b1).below (ba'.mono b1.size)).alloc_ (Nat.le_trans b1.size ba'.size) _) (by omega) (by simp) ?_; intro Ab cb wb ob bb; simp only [Nat.zero_add, List.nil_append] at ob; have bb' : Below wa.heap.size wa wb := ((Below.refl _ _).alloc (Nat.le_refl _) _).trans bb)
    | (at_builtin; refine wpList_append_bytes rfl (.tmp 24) (.tmp 25) rfl wa.heap.size Ab n cb l rfl (ob.alloc _) (wb.heap.size + 1) _ 9 9 _ rfl (nine_rd wb _ (Nat.le_refl _)) (by omega) (by have := bb'.size; simp; omega) ?_; intro Al cl wc oc bc; have bc' : Below wa.heap.size wb wc := ((Below.refl _ _).alloc bb'.size _).trans bc; obtain ⟨gl, rfl, hgl0, hgl1⟩ := oc.head (by omega); have hcl := oc.cap; have hcl' : (n : Int) + 9 ≤ cl := by omega))
  have s1 := b1.size
  have s2 := ba'.size
  have s3 := bb'.size
  have s4 := bc'.size
  have xa := oa.rd
  simp only [List.nil_append, Nat.zero_add] at xa
  have K0 : Li w (wc.alloc (.cells #[.int .i64 2, .int .i64 4, .int .i64 8] 25)) (wc.heap.size + 1) Aa gl wc.heap.size n l :=
    ⟨(((xa.below bb').below (bc'.mono (Nat.le_refl _))).alloc_ (by omega) _).more (by omega), (oc.rd.alloc_ (Nat.le_refl _) _).more (by omega), heap_alloc_new _ _, by omega,
      (((b1.trans (ba'.mono s1)).trans (bb'.mono (Nat.le_trans s1 s2))).trans (bc'.mono (Nat.le_trans s1 s2))).alloc (by omega) _, by omega, by simp⟩
  clear b1 ba ba' bb bb' bc bc' s1 s2 s3 s4 oa ob xa hr oc hcl hgl0 hgl1
  refine (put16_any _ n cl l _ (wrap16_bd _).1 (wrap16_bd _).2 _ (K0.inn.more K0.hi) (by omega)).mono ?_
  rintro e w2 ⟨rfl, h2, b2⟩
  rw [low_w16] at h2
  simp only [World.size_alloc] at h2
  have K2 := K0.below (b2.mono K0.hi)
  clear K0 b2
  go_wp2_with fail
  refine (put32_any _ n cl l _ (wrap32_bd _).1 (wrap32_bd _).2 _ (K2.inn.more K2.hi) (by omega)).mono ?_
  rintro e w3 ⟨rfl, h3, b3⟩
  rw [low_w32] at h3
  have h23 := h2.below b3 h2.lt
  have K3 := K2.below (b3.mono K2.hi)
  have d2 := h2.lt
  clear K2 b3 h2
  go_wp2_with fail
  refine (put64_any _ n cl l x _ (K3.inn.more K3.hi) (by omega)).mono ?_
  rintro e w4 ⟨rfl, h4, b4⟩
  have h24 := h23.below b4 h23.lt
  have h34 := h3.below b4 h3.lt
  have K4 := K3.below (b4.mono K3.hi)
  have d3 := h3.lt
  have d4 := K3.hi
  clear K3 b4 h23 h3
  go_wp2_with fail
  go_loopw [44] (fun i wr => ∃ k : Nat, k ≤ 3 ∧ i = .int .i64 k ∧ Li w wr (wc.heap.size + 1) Aa gl wc.heap.size n l ∧ Outs wr k (wc.heap.size + 1) w2.heap.size w3.heap.size l x) (fun i _ => 3 - (intOf i).toNat)
  case atStart => exact ⟨0, by omega, rfl, K4, fun _ => h24, fun _ => h34, fun _ => h4⟩
  case round =>
    obtain ⟨k, hk, rfl, K, hO⟩ := hrel
    obtain ⟨wo, rfl⟩ : ∃ wo : World, wo = wr := ⟨_, rfl⟩
    by_cases hlt : k < 3
    · obtain ⟨g, m, hidx, hwh, hcell, hm2, hm8, hg0, hnext⟩ := pick hlt K hO (Nat.le_refl _) d2 d3
      have HN := Lib.hid hnext
      have hlt' : (k : Int) < 3 := by omega
      have hm0 : ¬ m = 0 := by omega
      have hnm : ¬ n + m = n := by omega
      clear hnext hO
      have hLS : LS w wo wo g (wc.heap.size + 1) Aa gl wc.heap.size n m l x := ⟨hwh, But.refl _ _, K⟩
      go_wp2_with fail
      have hs : IntKind.i64.wrap ((n : Int) + m) = n + m := by rw [IntKind.wrap_i64]; omega
      have hi1 : (0 : Int) ≤ n := by omega
      have hn3 : n ≤ 3000 := by omega
      have hi2 : (n : Int) ≤ (n : Int) + m := by omega
      go_region_held3 (fun V => V.cell? ⟨wc.heap.size, k, none⟩ = some (.int .i64 m) ∧ LS w wo V g (wc.heap.size + 1) Aa gl wc.heap.size n m l x) (first | exact ⟨hcell, hLS.drew⟩ | assumption | exact keepL (by assumption) (by assumption))
        (first
          | (go_at_call 15; refine (low_any x m _ hm8).mono ?_; rintro e wL ⟨A1, c1, rfl, hL, bL⟩)
          | (go_at_call 14; ((with_reducible refine (sameA w wo _ g (wc.heap.size + 1) Aa gl wc.heap.size n m k ca l x hn3 ?_).mono ?_); assumption; rintro e wS ⟨rfl, bS⟩))
          | (go_at_call 14; ((with_reducible refine (sameB w wo _ g (wc.heap.size + 1) Aa A1 gl wc.heap.size n m k _ c1 _ l x hm8 ?_ hL (Nat.le_refl _)).mono ?_); assumption; rintro e wS' ⟨rfl, bS'⟩)))
      have hh : wS'.cell? ⟨wc.heap.size, k, none⟩ = some (.int .i64 m) ∧ LS w wo wS' g (wc.heap.size + 1) Aa gl wc.heap.size n m l x := by assumption
      obtain ⟨_, hLS2⟩ := hh
      clear hLS hL bL bS bS' hcell hwh
      go_wp2_with fail
      have hlen := Lib.hid (show (l ++ low x m).length = n + m by rw [List.length_append, low_length, K.was.len])
      go_loopw [81] (fun i wr => ∃ (j : Nat) (L : List Int), j ≤ n + m ∧ i = .int .i64 j ∧ Hid (L.length = n + m) ∧ Wh wr g L ∧ But g wo wr ∧ Li w wr (wc.heap.size + 1) Aa gl wc.heap.size n l) (fun i _ => n + m - (intOf i).toNat)
      case atStart => exact ⟨0, _, Nat.zero_le _, rfl, hlen, hLS2.wh, hLS2.but, hLS2.li⟩
      case round =>
        obtain ⟨j, L, hj, rfl, hL, hwr, hbut, hli⟩ := hrel
        by_cases hlt2 : j < n + m
        · obtain ⟨z, hz⟩ : ∃ z, z = L.getD j 0 := ⟨_, rfl⟩
          obtain ⟨hz0, hz1⟩ := hwr.byt.at_ j
          have hc := hwr.cell (k := j) (by rw [hL.out]; exact hlt2)
          have hf := hwr.frozen j
          have hlt3 : (j : Int) < (n : Int) + m := by omega
          rw [← hz] at hz0 hz1 hc
          clear hz
          have hset := Lib.hid (fun u hu => hwr.set_ j u hu)
          go_wp2
          go_roundw
          case rel =>
            exact ⟨j + 1, _, by omega, by go_num, (by simpa [Hid] using hL.out), hset.out _ (xor_bd z), hbut.setCell (.inl rfl) _, hli.below ((Below.refl _ _).setCell (by simp; omega) _)⟩
          case measure => simp [intOf]; omega
        · go_wp2_with fail
          exact ⟨⟨k + 1, by omega, by go_num, hli, HN.out _ hbut⟩, by simp [intOf]; omega⟩
    · have hn9 : (n : Int) ≤ cl := by omega
      have hcn : ¬ cl = n := by omega
      go_wp2_with fail
      go_loop [97] (fun i => ∃ j : Nat, j ≤ 9 ∧ i = .int .i64 j) (fun i => 9 - (intOf i).toNat)
      case atStart => exact ⟨0, by omega, rfl⟩
      case round =>
        obtain ⟨j, hj, rfl⟩ := hrel
        by_cases hlt2 : j < 9
        · have hc4 := tail_cell K hlt2
          have hlt3 : (j : Int) < 9 := by omega
          go_wp2
          go_round
          case rel => exact ⟨j + 1, by omega, by go_num⟩
          case measure => simp [intOf]; omega
        · go_wp2_with fail
          refine (same_true (some ⟨gl, 0, none⟩) Aa n cl ca _ _ l wo K.inn K.was (by omega) K.hi K.hi).mono ?_
          rintro e w9 ⟨rfl, b9⟩
          go_wp2
          go_ret
          exact ⟨rfl, K.old.trans (b9.mono K.old.size)⟩

set_option maxHeartbeats 400000 in
theorem lies_big (A : Option Addr) (n c : Nat) (x : Int) (w : World) (h : 3000 < n) :
    Calls Try.prog 3 #[.slice A n c, .int .u64 x] w fun e w' => e = .returned (.bool true) ∧ Below w.heap.size w w' := by
  have h' : (3000 : Int) < n := by omega
  go_enter Try.func3, Try.ntmps3
  go_wp2_with fail
  refine (wakes_any w).mono ?_
  rintro e w1 ⟨rfl, b1⟩
  go_wp2
  all_goals go_ret
  all_goals exact ⟨rfl, b1⟩

theorem lies_walk (A : Option Addr) (n c : Nat) (l : List Int) (x : Int) (hx0 : 0 ≤ x) (w : World) (hr : Rd w w.heap.size A n l) :
    Calls Try.prog 3 #[.slice A n c, .int .u64 x] w fun e w' => e = .returned (.bool true) ∧ Below w.heap.size w w' := by
  by_cases h : 3000 < n
  · exact lies_big A n c x w h
  · exact lies_small A n c l x hx0 w hr h
end Go.Proofs.Ytabccpoolakfiaa
