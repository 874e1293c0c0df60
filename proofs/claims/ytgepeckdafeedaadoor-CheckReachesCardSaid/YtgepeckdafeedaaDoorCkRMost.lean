/-
  The reference's Most: in how many steps at most.
-/
import Derived.Test.YtgepeckdafeedaaDoorCkRReach
namespace Go.Proofs.YtgepeckdafeedaaDoor
open Go.RowKit

/-- Numbers that lie elsewhere. -/
theorem Rn.else_ {w : World} {B g p : Nat} {A : Option Addr} {l : List Nat} (h : Rn w B A l) (hne : ∀ b off, A = some ⟨b, off, none⟩ → b ≠ g) (u : Value) : Rn (w.setCell ⟨g, p, none⟩ u) B A l := fun k hk => by
  obtain ⟨b, off, e, h1, c⟩ := h k hk
  have hne := hne b off e
  refine ⟨b, off, e, h1, ?_⟩
  rw [World.cell?_setCell_other _ _ _ _ (by intro e'; cases e'; exact hne rfl)]
  exact c
/-- The steps from place k on, nought ahead of it. -/
def stp0 (f : Nat → Ins) (m k p : Nat) : Nat := if k ≤ p then stepsI f m p else 0
/-- .. and some number at place i. -/
def stp1 (f : Nat → Ins) (m i s p : Nat) : Nat := if p = i then s else stp0 f m (i + 1) p
theorem stp1_at (f : Nat → Ins) (m i s : Nat) : stp1 f m i s i = s := by unfold stp1; rw [if_pos rfl]
theorem stp1_up {f : Nat → Ins} {m i s p : Nat} (h : i < p) : stp1 f m i s p = stepsI f m p := by unfold stp1 stp0; rw [if_neg (by omega), if_pos (by omega)]
theorem stp1_end (f : Nat → Ins) (m i p : Nat) : stp1 f m i (stepsI f m i) p = stp0 f m i p := by
  unfold stp1 stp0
  by_cases h : p = i
  · subst h; simp
  · rw [if_neg h]
    by_cases h2 : i + 1 ≤ p
    · rw [if_pos h2, if_pos (by omega)]
    · rw [if_neg h2, if_neg (by omega)]
theorem fold_steps {g : Nat → Nat} {L : List Nat} {t : Nat} (h : t < L.length) : (L.take (t + 1)).foldl (fun a p => max a (1 + g p)) 1 = max ((L.take t).foldl (fun a p => max a (1 + g p)) 1) (1 + g (L.getD t 0)) := by
  have e : L[t]?.toList = [L.getD t 0] := by simp [List.getD, h]
  rw [List.take_add_one, e, List.foldl_append]
  rfl
theorem fold_le {g : Nat → Nat} {L : List Nat} {b : Nat} (t : Nat) (hb : 1 ≤ b) (h : ∀ p ∈ L, 1 + g p ≤ b) : (L.take t).foldl (fun a p => max a (1 + g p)) 1 ≤ b :=
  foldl_max_le (fun p => 1 + g p) _ _ _ hb fun p hp => h p (List.mem_of_mem_take hp)
theorem steps_le {f : Nat → Ins} {m i : Nat} (h : Goes f m) (hi : i < m) : stepsI f m i ≤ m - i := by
  have key : ∀ (d i : Nat), m - i ≤ d → i < m → stepsI f m i ≤ m - i := by
    intro d
    induction d with
    | zero => intro i hd hi; omega
    | succ d ih =>
      intro i hd hi
      rw [steps_eq h hi]
      refine foldl_max_le _ _ _ _ (by omega) fun p hp => ?_
      obtain ⟨h1, h2⟩ := h.ok i hi p hp
      have := ih p (by omega) h2
      omega
  exact key (m - i) i (Nat.le_refl _) hi

set_option maxRecDepth 100000 in
set_option maxHeartbeats 4000000 in
theorem rmost_any (A : Option Addr) (m cap : Nat) (f : Nat → Ins) (w : World) (hA : Ri w w.heap.size A m f) (h1 : 1 ≤ m) (hm : m ≤ 64) (hG : Goes f m) :
    Calls Tryd.prog 17 #[.slice A m cap] w fun e w' => e = .returned (.int .i64 ((mostI f m : Nat) : Int)) ∧ Below w.heap.size w w' := by
  have hmi : (0 : Int) < m := by omega
  rw [most_steps]
  go_enter Tryd.func17, Tryd.ntmps17
  go_wp2_with (first
    | (refine wpList_make_row Tryd.underlying31 int_info rfl rfl (.tmp 8) (.tmp 8) rfl m m m rfl rfl rfl rfl (by omega) (by omega) ?_
       intro w1 hr b1))
  have hR0 : RowV w1 w.heap.size 3 m (fun p => .int .i64 ((stp0 f m m p : Nat) : Int)) := hr.congr fun p hp => by unfold stp0; rw [if_neg (by omega)]; rfl
  clear hr
  go_loopw [4] (fun i wr => ∃ k : Nat, k ≤ m ∧ i = .int .i64 ((k : Int) - 1) ∧ RowV wr w.heap.size 3 m (fun p => .int .i64 ((stp0 f m k p : Nat) : Int)) ∧ Below w.heap.size w wr) (fun i _ => (intOf i + 1).toNat)
  case atStart => exact ⟨m, Nat.le_refl _, rfl, hR0, b1⟩
  case round =>
    obtain ⟨k, hk, rfl, hR, hB⟩ := hrel
    obtain ⟨wo, rfl⟩ : ∃ wo : World, wo = wr := ⟨_, rfl⟩
    rcases k with _ | k
    · have q0 := hR.cell (k := 0) (by omega)
      rw [show stp0 f m 0 0 = stepsI f m 0 by unfold stp0; rw [if_pos (Nat.le_refl _)]] at q0
      go_wp2_with fail
      go_ret
      exact ⟨rfl, hB⟩
    · rw [show (((k + 1 : Nat) : Int)) - 1 = (k : Int) by omega]
      have hlt : k < m := by omega
      have hlt' : (k : Int) < m := by omega
      have hk0 : (0 : Int) ≤ k := by omega
      obtain ⟨b, off, rfl, hbl, ⟨p0, p1, p2, p3⟩, ho⟩ := (hA.below hB (Nat.le_refl _)) k hlt
      obtain ⟨⟨x, y, z, u⟩, hf⟩ : ∃ q : Ins, f k = q := ⟨_, rfl⟩
      rw [hf] at p0 p1 p2 p3 ho
      simp only at p0 p1 p2 p3
      have q0 := hR.cell hlt
      have q1 := hR.frozen k
      have HR1 := Lib.hid ((hR.set_ hlt (.int .i64 1)).congr (us := fun p => .int .i64 ((stp1 f m k 1 p : Nat) : Int)) fun p _ => by unfold stp1; by_cases h : p = k <;> simp [h])
      have hBs : Below w.heap.size w (wo.setCell ⟨w.heap.size, k, none⟩ (.int .i64 1)) := hB.setCell (p := ⟨w.heap.size, k, none⟩) (Nat.le_refl _) _
      have far : ∀ o v, wo.cell? ⟨b, o, none⟩ = some v → (wo.setCell ⟨w.heap.size, k, none⟩ (.int .i64 1)).cell? ⟨b, o, none⟩ = some v := fun o v h => (World.cell?_setCell_other _ _ _ _ (by intro e; cases e; omega)).trans h
      have p0s := far _ _ p0
      have p1s := far _ _ p1
      have p2s := far _ _ p2
      have p3s := far _ _ p3
      have HF := Lib.hid hf
      have hnx := fun V => rnext_new (x, y, z, u) k V ho
      have hG' := fun p hp => hG.ok k hlt p hp
      have hsk := steps_eq hG hlt
      have hsl := steps_le hG hlt
      rw [hf] at hG' hsk
      simp only [valI, insV] at hnx
      have hL2 := next_len (x, y, z, u) k
      obtain ⟨L, hL⟩ : ∃ L, nextL (x, y, z, u) k = L := ⟨_, rfl⟩
      rw [hL] at hnx hG' hL2 hsk
      have HSK := Lib.hid hsk
      clear hL hsk ho far hf hB hR p0 p1 p2 p3
      go_wp2_with fail
      refine (hnx _).mono ?_
      rintro e w3 ⟨A6, c6, rfl, hc6, p6, b6, hnew⟩
      have hR3 := HR1.out.below b6 HR1.out.lt
      have hB3 := hBs.trans (b6.mono hBs.size)
      have HN := Lib.hid (fun b off h => show b ≠ w.heap.size by have := hnew b off h; have := HR1.out.lt; omega)
      clear b6 hnx hBs p0s p1s p2s p3s q0 q1 hnew
      go_wp2_with fail
      go_loopw [27] (fun j wr => ∃ t : Nat, t ≤ L.length ∧ j = .int .i64 t ∧ RowV wr w.heap.size 3 m (fun p => .int .i64 ((stp1 f m k ((L.take t).foldl (fun a p => max a (1 + stepsI f m p)) 1) p : Nat) : Int)) ∧ Rn wr w3.heap.size A6 L ∧ Below w.heap.size w wr) (fun j _ => L.length - (intOf j).toNat)
      case atStart => exact ⟨0, Nat.zero_le _, rfl, hR3, p6.below (Below.refl _ _) (Nat.le_refl _), hB3⟩
      case round =>
        obtain ⟨t, ht, rfl, hRt, hNt, hBt⟩ := hrel
        by_cases htl : t < L.length
        · have htl' : (t : Int) < (L.length : Int) := by omega
          have hqm := hG' (L.getD t 0) (by simp [List.getD, htl])
          have hslq := steps_le hG hqm.2
          have hfl := fold_le (g := stepsI f m) (L := L) (b := m) t (by omega) (fun p hp => by have := steps_le hG (hG' p hp).2; have := (hG' p hp).1; omega)
          obtain ⟨b', off', rfl, _, y0⟩ := hNt t htl
          have HT := Lib.hid (fold_steps (g := stepsI f m) htl)
          obtain ⟨q, hq⟩ : ∃ q, L.getD t 0 = q := ⟨_, rfl⟩
          obtain ⟨s, hs⟩ : ∃ s, (L.take t).foldl (fun a p => max a (1 + stepsI f m p)) 1 = s := ⟨_, rfl⟩
          rw [hq] at hqm y0 HT hslq
          rw [hs] at hRt HT hfl
          clear hq hs
          have c0 := hRt.cell hlt
          have c1 := hRt.cell hqm.2
          rw [stp1_at] at c0
          rw [stp1_up hqm.1] at c1
          obtain ⟨sq, hsq⟩ : ∃ sq, stepsI f m q = sq := ⟨_, rfl⟩
          rw [hsq] at c1 HT hslq
          have f0 := hRt.frozen k
          have hqm' : (q : Int) < m := by omega
          have HR6 := Lib.hid ((hRt.set_ hlt (.int .i64 ((max s (1 + sq) : Nat) : Int))).congr (us := fun p => .int .i64 ((stp1 f m k (max s (1 + sq)) p : Nat) : Int)) fun p _ => by unfold stp1; by_cases h : p = k <;> simp [h])
          have HN6 := Lib.hid (hNt.else_ (p := k) HN.out (.int .i64 ((max s (1 + sq) : Nat) : Int)))
          have hmax : (if (s : Int) < 1 + (sq : Int) then 1 + (sq : Int) else (s : Int)) = ((max s (1 + sq) : Nat) : Int) := by split <;> omega
          clear hsq hRt hNt
          go_wp2_with fail
          go_region
          all_goals go_wp2
          exact ⟨⟨t + 1, by omega, by go_num, by rw [HT.out]; exact HR6.out, HN6.out, (hBt.setCell (p := ⟨w.heap.size, k, none⟩) (Nat.le_refl _) _).drew⟩, by simp [intOf]; omega⟩
        · obtain rfl : t = L.length := by omega
          rw [List.take_length, ← HSK.out] at hRt
          have hR7 : RowV wr w.heap.size 3 m (fun p => .int .i64 ((stp0 f m k p : Nat) : Int)) := hRt.congr fun p _ => by rw [stp1_end]
          go_wp2_with fail
          exact ⟨⟨k, by omega, by go_num, hR7, hBt⟩, by simp [intOf]⟩
end Go.Proofs.YtgepeckdafeedaaDoor
