/-
  The reference's Reach: what is reached.
-/
import Derived.Test.YtgepeckdafeedaaDoorCkRow
import Derived.Test.YtgepeckdafeedaaDoorCkRNext
namespace Go.Proofs.YtgepeckdafeedaaDoor
open Go.RowKit

theorem reach_succ (f : Nat → Ins) (k : Nat) : reachI f (k + 1) = if metL f k k = true then reachI f k ++ [k] else reachI f k := by
  unfold reachI
  rw [List.range_succ, List.filter_append]
  by_cases h : metL f k k = true
  · simp [h]
  · simp [h]
theorem met_no {f : Nat → Ins} {k : Nat} (h : metL f k k = false) (p : Nat) : metL f (k + 1) p = metL f k p := by simp [metL, h]
theorem met_yes {f : Nat → Ins} {k : Nat} (h : metL f k k = true) (p : Nat) : metL f (k + 1) p = (metL f k p || decide (p ∈ nextL (f k) k)) := by simp [metL, h]
theorem reach_len (f : Nat → Ins) (k : Nat) : (reachI f k).length ≤ k := by
  have := List.length_filter_le (fun i => metL f i i) (List.range k)
  simpa [reachI] using this
/-- Numbers do not lie among bools. -/
theorem Rn.apart {w : World} {B g n : Nat} {A : Option Addr} {l : List Nat} {t : TypeId} {us : Nat → Bool} (h : Rn w B A l) (hr : RowV w g t n (fun p => .bool (us p))) {k : Nat} (hk : k < l.length) {b off : Nat} (hA : A = some ⟨b, off, none⟩) : b ≠ g := by
  rintro rfl
  obtain ⟨b', off', e, _, c⟩ := h k hk
  rw [hA] at e
  cases e
  unfold RowV at hr
  simp only [World.cell?, hr] at c
  rcases Nat.lt_or_ge (off + k) n with h1 | h1
  · simp [h1] at c
  · simp [h1] at c
theorem Rn.set_ {w : World} {B g n p : Nat} {A : Option Addr} {l : List Nat} {t : TypeId} {us : Nat → Bool} (h : Rn w B A l) (hr : RowV w g t n (fun p => .bool (us p))) (u : Value) : Rn (w.setCell ⟨g, p, none⟩ u) B A l := fun k hk => by
  obtain ⟨b, off, e, h1, c⟩ := h k hk
  have hne := h.apart hr hk e
  refine ⟨b, off, e, h1, ?_⟩
  rw [World.cell?_setCell_other _ _ _ _ (by intro e'; cases e'; exact hne rfl)]
  exact c

theorem take_mem {L : List Nat} {t x : Nat} (h : t < L.length) : decide (x ∈ L.take (t + 1)) = (decide (x ∈ L.take t) || decide (x = L.getD t 0)) := by
  have e : L[t]?.toList = [L.getD t 0] := by simp [List.getD, h]
  rw [List.take_add_one, e]
  simp only [List.mem_append, List.mem_singleton, Bool.decide_or]
/-- What holds through Reach's loop, behind the first k of them. -/
structure RJ (w V : World) (g m : Nat) (us : Nat → Bool) (A : Option Addr) (c : Nat) (l : List Nat) : Prop where
  row : RowV V g 4 m (fun p => .bool (us p))
  own : V.ownsRow (g + 1) 3 1 (.slice A l.length c) l.length (nv l)
  bel : Below g w V
section
variable {w V V' : World} {g m : Nat} {us : Nat → Bool} {A : Option Addr} {c : Nat} {l : List Nat}
theorem RJ.congr (h : RJ w V g m us A c l) {us' : Nat → Bool} (he : ∀ p, us p = us' p) : RJ w V g m us' A c l := by
  obtain rfl : us = us' := funext he
  exact h
theorem RJ.below (h : RJ w V g m us A c l) (hb : Below V.heap.size V V') : RJ w V' g m us A c l :=
  ⟨h.row.below hb h.row.lt, ownsRow_below h.own hb (Nat.le_refl _), h.bel.trans (hb.mono (Nat.le_of_lt h.row.lt))⟩
theorem RJ.set_ (h : RJ w V g m us A c l) {p : Nat} (hp : p < m) : RJ w (V.setCell ⟨g, p, none⟩ (.bool true)) g m (fun x => us x || decide (x = p)) A c l := by
  refine ⟨(h.row.set_ hp (.bool true)).congr fun j _ => ?_, own_far h.own (p := ⟨g, p, none⟩) (by simp) _, h.bel.setCell (p := ⟨g, p, none⟩) (Nat.le_refl _) _⟩
  by_cases hj : j = p
  · simp [hj]
  · simp [hj]
end

set_option maxRecDepth 100000 in
set_option maxHeartbeats 4000000 in
theorem rreach_any (A : Option Addr) (m cap : Nat) (f : Nat → Ins) (w : World) (hA : Ri w w.heap.size A m f) (h1 : 1 ≤ m) (hm : m ≤ 64) (hG : Goes f m) :
    Calls Tryd.prog 16 #[.slice A m cap] w fun e w' => ∃ A' c', e = .returned (.slice A' (reachI f m).length c') ∧ (reachI f m).length ≤ c' ∧ Rn w' w'.heap.size A' (reachI f m) ∧ Below w.heap.size w w' := by
  have hmi : (0 : Int) < m := by omega
  go_enter Tryd.func16, Tryd.ntmps16
  go_wp2_with (first
    | (refine wpList_make_row Tryd.underlying37 bool_info rfl rfl (.tmp 10) (.tmp 10) rfl m m m rfl rfl rfl rfl (by omega) (by omega) ?_
       intro w1 hr b1
       have q0 := hr.cell (k := 0) (by omega)
       have q1 := hr.frozen 0))
  have hr0 := hr.set_ (k := 0) (by omega) (.bool true)
  have J0 : RJ w (w1.setCell ⟨w.heap.size, 0, none⟩ (.bool true)) w.heap.size m (metL f 0) none 0 (reachI f 0) :=
    ⟨hr0.congr fun p _ => by by_cases hp : p = 0 <;> simp [metL, hp], World.ownsRow_nil _ _ _ _, b1.setCell (p := ⟨w.heap.size, 0, none⟩) (Nat.le_refl _) _⟩
  clear hr hr0 q0 q1 b1
  go_loopw [4, 16] (fun out i wr => ∃ (k : Nat) (A' : Option Addr) (c' : Nat), k ≤ m ∧ i = .int .i64 k ∧ out = .slice A' (reachI f k).length c' ∧ RJ w wr w.heap.size m (metL f k) A' c' (reachI f k)) (fun _ i _ => m - (intOf i).toNat)
  case atStart => exact ⟨0, none, 0, Nat.zero_le _, rfl, rfl, J0⟩
  case round =>
    obtain ⟨k, A', c', hk, rfl, rfl, J⟩ := hrel
    obtain ⟨wo, rfl⟩ : ∃ wo : World, wo = wr := ⟨_, rfl⟩
    by_cases hlt : k < m
    · have hlt' : (k : Int) < m := by omega
      obtain ⟨b, off, rfl, _, ⟨p0, p1, p2, p3⟩, ho⟩ := (hA.below J.bel (Nat.le_refl _)) k hlt
      obtain ⟨⟨x, y, z, u⟩, hf⟩ : ∃ q : Ins, f k = q := ⟨_, rfl⟩
      rw [hf] at p0 p1 p2 p3 ho
      simp only at p0 p1 p2 p3
      have HF := Lib.hid hf
      clear hf
      have ba : Below wo.heap.size wo (wo.alloc (.cells #[.int .u16 x, .int .u8 y, .int .u8 z, .int .u32 u] 42)) := (Below.refl _ _).alloc (Nat.le_refl _) _
      have Ja := J.below ba
      have q0 := Ja.row.cell hlt
      have hrl := reach_len f k
      have hrs := reach_succ f k
      obtain ⟨R, hR⟩ : ∃ R, reachI f k = R := ⟨_, rfl⟩
      rw [hR] at J Ja hrl hrs ⊢
      clear hR
      cases hmt : metL f k k
      · rw [hmt] at q0 hrs
        have HM := Lib.hid hmt
        have HS := Lib.hid hrs
        clear hmt hrs
        go_wp2_with fail
        go_roundw
        case rel => exact ⟨k + 1, A', c', by omega, by go_num, by rw [HS.out]; rfl, by rw [HS.out]; exact Ja.congr fun p => (met_no HM.out p).symm⟩
        case measure => simp [intOf]; omega
      · rw [hmt] at q0 hrs
        have HM := Lib.hid hmt
        have HS := Lib.hid hrs
        clear hmt hrs
        have bb : Below wo.heap.size wo ((wo.alloc (.cells #[.int .u16 x, .int .u8 y, .int .u8 z, .int .u32 u] 42)).alloc (.cells #[.int .i64 (k : Int)] 3)) := ba.alloc ba.size _
        have Jb := J.below bb
        have hnx := fun V => rnext_all (x, y, z, u) k V ho
        have hG' := fun p hp => hG.ok k hlt p hp
        have hmy := met_yes HM.out
        rw [HF.out] at hG' hmy
        simp only [valI, insV] at hnx
        have hL2 := next_len (x, y, z, u) k
        obtain ⟨L, hL⟩ : ∃ L, nextL (x, y, z, u) k = L := ⟨_, rfl⟩
        rw [hL] at hnx hG' hL2 hmy
        have HMY := Lib.hid hmy
        have hltb := Jb.row.lt
        clear hL hmy ho J Ja
        go_wp2_with (first
          | (at_builtin; refine wpList_append_num rfl (.tmp 26) (.tmp 28) rfl (w.heap.size + 1) A' R.length c' R rfl Jb.own (wo.heap.size + 1) k (by simp [Act.eval]) (by simp) (by omega) (by omega) ?_; intro A2 c2 w2 o2 b2; obtain ⟨x0, x1, x2, x3⟩ := (show BoxI w2 wo.heap.size x y z u from b2.2 _ _ ((Below.heap_alloc _ (.cells #[.int .i64 (k : Int)] 3) _ (by simp)).trans (Boxed4_new wo x y z u)) (.inr ⟨_, _, rfl⟩)).cells))
        have J2 : RJ w w2 w.heap.size m (metL f k) A2 c2 (R ++ [k]) := ⟨Jb.row.below b2.1 (by omega), by simpa using o2, Jb.bel.trans (b2.1.mono (by omega))⟩
        clear Jb b2 o2 q0 p0 p1 p2 p3 ba bb
        refine (hnx w2).mono ?_
        rintro e w3 ⟨A6, c6, rfl, hc6, p6, b6⟩
        have J3 := J2.below b6
        clear J2 b6 hnx x0 x1 x2 x3
        go_wp2_with fail
        go_loopw [34] (fun j wr => ∃ t : Nat, t ≤ L.length ∧ j = .int .i64 t ∧ RJ w wr w.heap.size m (fun p => metL f k p || decide (p ∈ L.take t)) A2 c2 (R ++ [k]) ∧ Rn wr w3.heap.size A6 L) (fun j _ => L.length - (intOf j).toNat)
        case atStart => exact ⟨0, Nat.zero_le _, rfl, J3.congr fun p => by simp, p6⟩
        case round =>
          obtain ⟨t, ht, rfl, Jt, hRt⟩ := hrel
          by_cases htl : t < L.length
          · have htl' : (t : Int) < (L.length : Int) := by omega
            have hqm := hG' (L.getD t 0) (by simp [List.getD, htl])
            obtain ⟨b', off', rfl, _, y0⟩ := hRt t htl
            have HT := Lib.hid (fun p => take_mem (L := L) (t := t) (x := p) htl)
            obtain ⟨q, hq⟩ : ∃ q, L.getD t 0 = q := ⟨_, rfl⟩
            rw [hq] at hqm y0 HT
            clear hq
            have hqm' : (q : Int) < m := by omega
            have c0 := Jt.row.cell hqm.2
            have f0 := Jt.row.frozen q
            have J6 := Lib.hid ((Jt.set_ hqm.2).congr (us' := fun p => metL f k p || decide (p ∈ L.take (t + 1))) fun p => by rw [HT.out p, Bool.or_assoc])
            have R6 := Lib.hid (hRt.set_ (p := q) Jt.row (.bool true))
            go_wp2_with fail
            exact ⟨⟨t + 1, by omega, by go_num, J6.out, R6.out⟩, by simp [intOf]; omega⟩
          · obtain rfl : t = L.length := by omega
            have J7 := Jt.congr (us' := metL f (k + 1)) fun p => by rw [HMY.out p, List.take_length]
            rw [show R ++ [k] = reachI f (k + 1) by rw [HS.out]; rfl] at J7
            have hrl2 : (reachI f (k + 1)).length = R.length + 1 := by rw [HS.out]; simp
            go_wp2_with fail
            go_roundw
            case rel => exact ⟨k + 1, A2, c2, by omega, by go_num, by rw [hrl2], J7⟩
            case measure => simp [intOf]; omega
    · obtain rfl : k = m := by omega
      obtain ⟨h1, h2, _⟩ := rn_of_own J.own
      go_wp2_with fail
      go_ret
      exact ⟨A', c', rfl, h2, h1, J.bel⟩
end Go.Proofs.YtgepeckdafeedaaDoor
