/-
  OctetLooks: the walk.
-/
import Derived.Test.YtabccpoolakfiaaLookParts
import Derived.Test.YtabccpoolakfiaaWakes
namespace Go.Proofs.Ytabccpoolakfiaa
open Go.RowKit

/-- What stays so from look to look, below block g0: the bytes, and the looks. -/
structure Lo (w W : World) (g0 : Nat) (A A2 : Option Addr) (n m : Nat) (l : List Int) (ls : Nat → Bool × Int) : Prop where
  a : Rd W g0 A n l
  k : Lk W g0 A2 m ls
  old : Below w.heap.size w W
  lo : w.heap.size ≤ g0
  hi : g0 ≤ W.heap.size
theorem Lo.below {w W W' : World} {g0 : Nat} {A A2 : Option Addr} {n m : Nat} {l : List Int} {ls : Nat → Bool × Int} (h : Lo w W g0 A A2 n m l ls) (hb : Below g0 W W') : Lo w W' g0 A A2 n m l ls :=
  ⟨h.a.below hb, h.k.below hb, h.old.trans (hb.mono h.lo), h.lo, Nat.le_trans h.hi hb.size⟩
theorem xor_bd15 (z : Int) : 0 ≤ bits .xor .u8 z 15 ∧ bits .xor .u8 z 15 ≤ 255 := by
  have e : bits .xor .u8 z 15 = IntKind.u8.wrap ((BitVec.ofInt 8 z ^^^ BitVec.ofInt 8 15).toNat : Int) := rfl
  rw [e, IntKind.wrap_u8']
  omega

theorem lt_of_some {W : World} {g : Nat} {o : Obj} (h : W.heap[g]? = some o) : g < W.heap.size := by
  rcases Nat.lt_or_ge g W.heap.size with h1 | h1
  · exact h1
  · rw [Array.getElem?_eq_none h1] at h; cases h
/-- Block g may be written: its first n cells are bytes. -/
def Wr (W : World) (g n : Nat) : Prop := ∃ cur : Array Value, W.heap[g]? = some (.cells cur 5 (0, 0)) ∧ ∀ j, j < n → ∃ z, cur[j]? = some (.int .u8 z)
theorem Wr.cell {W : World} {g n j : Nat} (h : Wr W g n) (hj : j < n) : ∃ z, W.cell? ⟨g, j, none⟩ = some (.int .u8 z) := by
  obtain ⟨cur, hb, hc⟩ := h
  obtain ⟨z, hz⟩ := hc j hj
  exact ⟨z, by simp [World.cell?, hb, hz]⟩
theorem Wr.free {W : World} {g n : Nat} (h : Wr W g n) (j : Nat) : W.frozen? ⟨g, j, none⟩ = false := by
  obtain ⟨cur, hb, _⟩ := h
  simp [World.frozen?, hb]
theorem Wr.set_ {W : World} {g n : Nat} (h : Wr W g n) (j : Nat) (v : Int) : Wr (W.setCell ⟨g, j, none⟩ (.int .u8 v)) g n := by
  obtain ⟨cur, hb, hc⟩ := h
  refine ⟨cur.setIfInBounds j (.int .u8 v), by simp [World.setCell, Array.getElem?_modify, hb], fun i hi => ?_⟩
  obtain ⟨z, hz⟩ := hc i hi
  have hlt : i < cur.size := by
    rcases Nat.lt_or_ge i cur.size with h1 | h1
    · exact h1
    · rw [Array.getElem?_eq_none h1] at hz; cases hz
  by_cases hij : j = i
  · subst hij
    exact ⟨v, by simp [hlt]⟩
  · exact ⟨z, by rw [Array.getElem?_setIfInBounds, if_neg hij]; exact hz⟩
/-- The call's own bytes at Aa may be written. -/
def OwnW (W : World) (Aa : Option Addr) (go n : Nat) : Prop := 0 < n → Aa = some ⟨go, 0, none⟩ ∧ Wr W go n
theorem Ow.wr {W W' : World} {base n c : Nat} {A : Option Addr} {l : List Int} (h : Ow W base A n c l) (hn : 0 < n) (hb : Below W.heap.size W W') : ∃ g, A = some ⟨g, 0, none⟩ ∧ base ≤ g ∧ g < W.heap.size ∧ Wr W' g n := by
  obtain ⟨g, hA, h1, h2⟩ := h.head hn
  refine ⟨g, hA, h1, h2, ?_⟩
  rcases h.own.2 with ⟨_, h0⟩ | ⟨g', cap, cur, hv, _, hh, hnc, _, hsz, ht⟩
  · omega
  · injection hv with hA'
    rw [hA] at hA'
    injection hA' with e
    injection e with e
    subst e
    refine ⟨cur, (hb.block g h2).trans hh, fun j hj => ⟨l.getD j 0, ?_⟩⟩
    have hjl : j < l.length := by rw [h.len]; exact hj
    have h3 : (cur.toList.take (n * 1))[j]? = (bv l)[j]? := by rw [ht]
    rw [List.getElem?_take, if_pos (by omega)] at h3
    rw [← Array.getElem?_toList, h3]
    simp [bv, List.getD, hjl]

set_option maxRecDepth 100000 in
set_option maxHeartbeats 8000000 in
theorem looks_small (A A2 : Option Addr) (n c m c2 : Nat) (l : List Int) (ls : Nat → Bool × Int) (w : World) (hr : Rd w w.heap.size A n l) (hk : Lk w w.heap.size A2 m ls) (hnc : n ≤ c) (hn : ¬ 3000 < n) (hm : ¬ 200 < m) :
    Calls Try.prog 5 #[.slice A n c, .slice A2 m c2] w fun e w' => e = .returned (.bool true) ∧ Below w.heap.size w w' := by
  go_enter Try.func5, Try.ntmps5
  go_wp2_with fail
  refine (wakes_any w).mono ?_
  rintro e w1 ⟨rfl, b1⟩
  go_wp2_with (first
    | (at_builtin; refine wpList_append_bytes rfl (.tmp 27) (.tmp 28) rfl w1.heap.size _ 0 0 _ rfl (Ow.empty w1 w1.heap.size (Nat.le_refl _)) w.heap.size A n c l rfl ((hr.below b1).alloc_ b1.size _) (by omega) (by simp) ?_; intro Aa ca wa oa ba; simp only [Nat.zero_add, List.nil_append] at oa; have ba' : Below w1.heap.size w1 wa := ((Below.refl _ _).alloc (Nat.le_refl _) _).trans ba))
  have s1 := b1.size
  have s2 := ba'.size
  have K : Lo w wa w1.heap.size A A2 n m l ls := ⟨((hr.below b1).below (ba'.mono s1)).more s1, fun i hi => by
    obtain ⟨b, off, e, hlt, h1, h2, h3⟩ := ((hk.below b1).below (ba'.mono s1)) i hi
    exact ⟨b, off, e, by omega, h1, h2, h3⟩, b1.trans (ba'.mono s1), s1, s2⟩
  clear hr hk b1
  refine (read_full Aa n ca l wa oa.rd (by omega)).mono ?_
  rintro e w2 ⟨r, rfl, hr1, hr2, hr3, hr4⟩
  have K2 := K.below (hr4.mono s2)
  have hsz := ba.size
  have s4 := hr4.size
  simp only [World.size_alloc] at hsz
  obtain ⟨go, hgo1, hgo2, hgo⟩ : ∃ go, w1.heap.size ≤ go ∧ go < wa.heap.size ∧ (0 < n → Aa = some ⟨go, 0, none⟩ ∧ Wr w2 go n) := by
    by_cases h0 : 0 < n
    · obtain ⟨g, e, h1, h2, h3⟩ := oa.wr h0 hr4
      exact ⟨g, h1, h2, fun _ => ⟨e, h3⟩⟩
    · exact ⟨w1.heap.size, Nat.le_refl _, by omega, fun h => absurd h h0⟩
  have hlen := Lib.hid K.a.len
  clear K oa ba ba' hsz hr4
  go_wp2_with fail
  go_loopw [34] (fun i wr => ∃ j : Nat, j ≤ n ∧ i = .int .i64 j ∧ OwnW wr Aa go n ∧ But go w2 wr) (fun i _ => n - (intOf i).toNat)
  case atStart => exact ⟨0, Nat.zero_le _, rfl, hgo, But.refl _ _⟩
  case round =>
    obtain ⟨j, hj, rfl, hw, hbut⟩ := hrel
    by_cases hlt : j < n
    · obtain ⟨rfl, hwr⟩ := hw (by omega)
      obtain ⟨z, hc⟩ := hwr.cell hlt
      have hf := hwr.free j
      have hset := Lib.hid (fun v => hwr.set_ j v)
      have hlt' : (j : Int) < n := by omega
      clear hw
      go_wp2
      go_roundw
      case rel => exact ⟨j + 1, by omega, by go_num, fun _ => ⟨rfl, hset.out _⟩, hbut.setCell (.inl rfl) _⟩
      case measure => simp [intOf]; omega
    · have hrd : Rdr wr r l 0 := rdr_of (n := n) hlen.out (by omega) hr1 ((hbut.block r (lt_of_some hr2) (by omega)).trans hr2) (hbut.wh hr3 (by omega))
      have K3 := K2.below (hbut.below _ hgo1 (by omega))
      have hrg : w1.heap.size ≤ r := by omega
      clear hw hbut hr1 hr2 hr3 hgo hgo1 hgo2 K2
      go_wp2_with fail
      clear hlt hj
      go_loopw [8, 9, 46] (fun a f i wr => ∃ (k p : Nat) (fv : Int), k ≤ m ∧ i = .int .i64 k ∧ p ≤ n ∧ a = .int .i64 p ∧ f = .int .i64 fv ∧ Rdr wr r (l.drop p) fv ∧ Lo w wr w1.heap.size A A2 n m l ls) (fun _ _ i _ => m - (intOf i).toNat)
      case atStart => exact ⟨0, 0, 0, Nat.zero_le _, rfl, Nat.zero_le _, rfl, rfl, by simpa using hrd, K3⟩
      case round =>
        clear hrd K3
        obtain ⟨k, p, fv, hk, rfl, hp, rfl, rfl, hrd, K⟩ := hrel
        by_cases hlt : k < m
        · obtain ⟨b2, o2, rfl, _, cN, cV, wfN⟩ := K.k k hlt
          obtain ⟨q, hq⟩ : ∃ q, q = ls k := ⟨_, rfl⟩
          rw [← hq] at cN cV wfN
          clear hq
          obtain ⟨nb, N⟩ := q
          simp only at cN cV wfN
          have hkm : (k : Int) < m := by omega
          have hlR : (l.drop p).length = n - p := by rw [List.length_drop, K.a.len]
          obtain ⟨R, hR⟩ : ∃ R, R = l.drop p := ⟨_, rfl⟩
          rw [← hR] at hrd hlR
          have HR := Lib.hid hR
          have HLR := Lib.hid hlR
          clear hR hlR
          -- CASES
          cases nb
          · by_cases hf : fv = 0
            · subst hf
              by_cases hneg : N < 0
              · have E1 := Lib.hid (show seenI R 0 N = [] by simp [seenI, hneg])
                have E2 := Lib.hid (show leftI R 0 N = R by simp [leftI, hneg])
                have E3 := Lib.hid (show faltI R 0 N = 2 by simp [faltI, hneg])
                have EV := Lib.hid (show reachI p N n = 2 by simp [reachI, hneg])
                have HV := Lib.hid (show ((R.length : Nat) : Int) = ((n : Int) - p) by rw [HLR.out]; omega)
                go_wp2_with fail
                refine (reach_at _ _ _ 2 _ (by omega) (by omega) (by omega) EV.out).mono ?_
                rintro e w' ⟨rfl, rfl⟩
                go_wp2_with fail
                refine (refnumber_at none 0 _ 0 [] 0 _ Rd.none_ (by omega) rfl).mono ?_
                rintro e w' ⟨rfl, rfl⟩
                go_wp2_with fail
                refine (raw_at r N R 0 _ (hrd.below ((Below.refl _ _).alloc (Nat.le_refl _) _) hrd.lt) [] R 2 0 E1.out E2.out E3.out rfl).mono ?_
                rintro e w5 ⟨A1, c1, rfl, h1, h2, h3⟩
                have K5 := (K.below ((Below.refl _ _).alloc K.hi _)).below (h3.below _ hrg (Nat.le_trans K.hi (by simp)))
                go_wp2_with fail
                have hS := same_true A1 none 0 c1 0 w5.heap.size w1.heap.size [] w5 h1 Rd.none_ (by omega) (Nat.le_refl _) K5.hi
                refine hS.mono ?_
                clear hS
                rintro e w6 ⟨rfl, b6⟩
                have h7 := h2.below b6 h2.lt
                have K7 := K5.below (b6.mono K5.hi)
                clear h1 h2 h3 b6 K5
                go_wp2_with fail
                refine (left_at r R 2 ((n : Int) - p) _ h7 HV.out).mono ?_
                rintro e w' ⟨rfl, rfl⟩
                go_wp2_with fail
                refine (err_any r R 2 _ h7).mono ?_
                rintro e w' ⟨rfl, rfl⟩
                go_wp2
                go_roundw
                case rel => exact ⟨k + 1, p, 2, by omega, by go_num, hp, rfl, rfl, (by rw [HR.out] at h7; exact h7), K7⟩
                case measure => simp [intOf]; omega
              · by_cases hbig : (n : Int) - p < N
                · have hNl : ¬ N.toNat ≤ R.length := by rw [HLR.out]; omega
                  have E1 := Lib.hid (show seenI R 0 N = [] by simp [seenI, seen, hneg, hNl])
                  have E2 := Lib.hid (show leftI R 0 N = R by simp [leftI, left, hneg, hNl])
                  have E3 := Lib.hid (show faltI R 0 N = 7 by simp [faltI, falt, hneg, hNl])
                  have EV := Lib.hid (show reachI p N n = 7 by simp [reachI, hneg, hbig])
                  clear hNl
                  have HV := Lib.hid (show ((R.length : Nat) : Int) = ((n : Int) - p) by rw [HLR.out]; omega)
                  go_wp2_with fail
                  refine (reach_at _ _ _ 7 _ (by omega) (by omega) (by omega) EV.out).mono ?_
                  rintro e w' ⟨rfl, rfl⟩
                  go_wp2_with fail
                  refine (refnumber_at none 0 _ 0 [] 0 _ Rd.none_ (by omega) rfl).mono ?_
                  rintro e w' ⟨rfl, rfl⟩
                  go_wp2_with fail
                  refine (raw_at r N R 0 _ (hrd.below ((Below.refl _ _).alloc (Nat.le_refl _) _) hrd.lt) [] R 7 0 E1.out E2.out E3.out rfl).mono ?_
                  rintro e w5 ⟨A1, c1, rfl, h1, h2, h3⟩
                  have K5 := (K.below ((Below.refl _ _).alloc K.hi _)).below (h3.below _ hrg (Nat.le_trans K.hi (by simp)))
                  go_wp2_with fail
                  have hS := same_true A1 none 0 c1 0 w5.heap.size w1.heap.size [] w5 h1 Rd.none_ (by omega) (Nat.le_refl _) K5.hi
                  refine hS.mono ?_
                  clear hS
                  rintro e w6 ⟨rfl, b6⟩
                  have h7 := h2.below b6 h2.lt
                  have K7 := K5.below (b6.mono K5.hi)
                  clear h1 h2 h3 b6 K5
                  go_wp2_with fail
                  refine (left_at r R 7 ((n : Int) - p) _ h7 HV.out).mono ?_
                  rintro e w' ⟨rfl, rfl⟩
                  go_wp2_with fail
                  refine (err_any r R 7 _ h7).mono ?_
                  rintro e w' ⟨rfl, rfl⟩
                  go_wp2
                  go_roundw
                  case rel => exact ⟨k + 1, p, 7, by omega, by go_num, hp, rfl, rfl, (by rw [HR.out] at h7; exact h7), K7⟩
                  case measure => simp [intOf]; omega
                · by_cases hcp : c = p
                  · obtain ⟨kk, rfl⟩ := Int.eq_ofNat_of_zero_le (show 0 ≤ N by omega)
                    obtain rfl : kk = 0 := by omega
                    subst hcp
                    have hkR : 0 ≤ R.length := by rw [HLR.out]; omega
                    have E1 := Lib.hid (show seenI R 0 ((0 : Nat) : Int) = [] by simp [seenI, seen])
                    have E2 := Lib.hid (show leftI R 0 ((0 : Nat) : Int) = R by simp [leftI, left])
                    have E3 := Lib.hid (show faltI R 0 ((0 : Nat) : Int) = 0 by simp [faltI, falt])
                    have EV := Lib.hid (show reachI c ((0 : Nat) : Int) n = 0 by simp [reachI]; omega)
                    have HV := Lib.hid (show ((R.length : Nat) : Int) = ((n : Int) - c) by rw [HLR.out]; omega)
                    go_wp2_with fail
                    refine (reach_at _ _ _ 0 _ (by omega) (by omega) (by omega) EV.out).mono ?_
                    rintro e w' ⟨rfl, rfl⟩
                    go_wp2_with fail
                    refine (refnumber_at A 0 _ 0 [] 0 _ Rd.none_ (by omega) rfl).mono ?_
                    rintro e w' ⟨rfl, rfl⟩
                    go_wp2_with fail
                    refine (raw_at r ((0 : Nat) : Int) R 0 _ (hrd.below ((Below.refl _ _).alloc (Nat.le_refl _) _) hrd.lt) [] R 0 0 E1.out E2.out E3.out rfl).mono ?_
                    rintro e w5 ⟨A1, c1, rfl, h1, h2, h3⟩
                    have K5 := (K.below ((Below.refl _ _).alloc K.hi _)).below (h3.below _ hrg (Nat.le_trans K.hi (by simp)))
                    go_wp2_with fail
                    have hS := same_true A1 A 0 c1 0 w5.heap.size w1.heap.size [] w5 h1 Rd.none_ (by omega) (Nat.le_refl _) K5.hi
                    refine hS.mono ?_
                    clear hS
                    rintro e w6 ⟨rfl, b6⟩
                    have h7 := h2.below b6 h2.lt
                    have K7 := K5.below (b6.mono K5.hi)
                    clear h1 h2 h3 b6 K5
                    go_wp2_with fail
                    refine (left_at r R 0 ((n : Int) - c) _ h7 HV.out).mono ?_
                    rintro e w' ⟨rfl, rfl⟩
                    go_wp2_with fail
                    refine (err_any r R 0 _ h7).mono ?_
                    rintro e w' ⟨rfl, rfl⟩
                    go_wp2
                    go_roundw
                    case rel => exact ⟨k + 1, c, 0, by omega, by go_num, hp, rfl, rfl, (by rw [HR.out] at h7; exact h7), K7⟩
                    case measure => simp [intOf]; omega
                  · obtain ⟨kk, rfl⟩ := Int.eq_ofNat_of_zero_le (show 0 ≤ N by omega)
                    have hkR : kk ≤ R.length := by rw [HLR.out]; omega
                    have hk0 : ¬ ((kk : Int) < 0) := by omega
                    have E1 := Lib.hid (show seenI R 0 kk = R.take kk by simp [seenI, seen, hkR, hk0])
                    have E2 := Lib.hid (show leftI R 0 kk = R.drop kk by simp [leftI, left, hkR, hk0])
                    have E3 := Lib.hid (show faltI R 0 kk = 0 by simp [faltI, falt, hkR, hk0])
                    have EV := Lib.hid (show reachI p kk n = 0 by simp [reachI, hk0, hbig])
                    have HV := Lib.hid (show (((R.drop kk).length : Nat) : Int) = ((n : Int) - ((p : Int) + kk)) by rw [List.length_drop, HLR.out]; omega)
                    have HK := Lib.hid (show (R.take kk).length = kk by rw [List.length_take]; omega)
                    have hW : ∀ W, Lo w W w1.heap.size A (some ⟨b2, o2, none⟩) n m l ls → Rd W w1.heap.size (Option.map (fun x => x.add p) A) kk (R.take kk) := fun W h => by rw [HR.out]; exact (cut_rd h.a hp).take (by have := HLR.out; omega)
                    have hpk : (p : Int) + kk ≤ n := by have := HLR.out; omega
                    have hpk2 : (p : Int) + kk ≤ c := by omega
                    go_wp2_with fail
                    refine (reach_at _ _ _ 0 _ (by omega) (by omega) (by omega) EV.out).mono ?_
                    rintro e w' ⟨rfl, rfl⟩
                    go_wp2_with fail
                    have hk5 : kk ≤ 100000 := by omega
                    have hN := refnumber_at (Option.map (fun x => x.add p) A) kk (c - p) w1.heap.size (R.take kk) (nm (R.take kk)) (wr.alloc (.cells #[.bool false, .int .i64 kk] 41)) (hW _ (K.below ((Below.refl _ _).alloc K.hi _))) hk5 rfl
                    refine hN.mono ?_
                    clear hN
                    rintro e w' ⟨rfl, rfl⟩
                    go_wp2_with fail
                    refine (raw_at r kk R 0 _ (hrd.below ((Below.refl _ _).alloc (Nat.le_refl _) _) hrd.lt) (R.take kk) (R.drop kk) 0 kk E1.out E2.out E3.out HK.out).mono ?_
                    rintro e w5 ⟨A1, c1, rfl, h1, h2, h3⟩
                    have K5 := (K.below ((Below.refl _ _).alloc K.hi _)).below (h3.below _ hrg (Nat.le_trans K.hi (by simp)))
                    go_wp2_with fail
                    have hS := same_true A1 (Option.map (fun x => x.add p) A) kk c1 (c - p) w5.heap.size w1.heap.size (R.take kk) w5 h1 (hW _ K5) (Nat.le_trans hk5 (by decide)) (Nat.le_refl _) K5.hi
                    refine hS.mono ?_
                    clear hS
                    rintro e w6 ⟨rfl, b6⟩
                    have h7 := h2.below b6 h2.lt
                    have K7 := K5.below (b6.mono K5.hi)
                    clear h1 h2 h3 b6 K5
                    go_wp2_with fail
                    refine (left_at r (R.drop kk) 0 ((n : Int) - ((p : Int) + kk)) _ h7 HV.out).mono ?_
                    rintro e w' ⟨rfl, rfl⟩
                    go_wp2_with fail
                    refine (err_any r (R.drop kk) 0 _ h7).mono ?_
                    rintro e w' ⟨rfl, rfl⟩
                    go_wp2
                    go_roundw
                    case rel => exact ⟨k + 1, p + kk, 0, by omega, by go_num, by omega, by go_num, rfl, (by rw [HR.out, List.drop_drop] at h7; exact h7), K7⟩
                    case measure => simp [intOf]; omega
            · have hf1 : (fv == 0) = false := by simpa using hf
              have E1 := Lib.hid (show seenI R fv N = [] by simp [seenI, seen, hf])
              have E2 := Lib.hid (show leftI R fv N = R by simp [leftI, left, hf])
              have E3 := Lib.hid (show faltI R fv N = fv by simp [faltI, falt, hf])
              clear hf
              have HV := Lib.hid (show ((R.length : Nat) : Int) = ((n : Int) - p) by rw [HLR.out]; omega)
              go_wp2_with fail
              refine (refnumber_at none 0 _ 0 [] 0 _ Rd.none_ (by omega) rfl).mono ?_
              rintro e w' ⟨rfl, rfl⟩
              go_wp2_with fail
              refine (raw_at r N R fv _ (hrd.below ((Below.refl _ _).alloc (Nat.le_refl _) _) hrd.lt) [] R fv 0 E1.out E2.out E3.out rfl).mono ?_
              rintro e w5 ⟨A1, c1, rfl, h1, h2, h3⟩
              have K5 := (K.below ((Below.refl _ _).alloc K.hi _)).below (h3.below _ hrg (Nat.le_trans K.hi (by simp)))
              go_wp2_with fail
              have hS := same_true A1 none 0 c1 0 w5.heap.size w1.heap.size [] w5 h1 Rd.none_ (by omega) (Nat.le_refl _) K5.hi
              refine hS.mono ?_
              clear hS
              rintro e w6 ⟨rfl, b6⟩
              have h7 := h2.below b6 h2.lt
              have K7 := K5.below (b6.mono K5.hi)
              clear h1 h2 h3 b6 K5
              go_wp2_with fail
              refine (left_at r R fv ((n : Int) - p) _ h7 HV.out).mono ?_
              rintro e w' ⟨rfl, rfl⟩
              go_wp2_with fail
              refine (err_any r R fv _ h7).mono ?_
              rintro e w' ⟨rfl, rfl⟩
              go_wp2
              go_roundw
              case rel => exact ⟨k + 1, p, fv, by omega, by go_num, hp, rfl, rfl, (by rw [HR.out] at h7; exact h7), K7⟩
              case measure => simp [intOf]; omega
          · obtain ⟨q, hq⟩ : ∃ q, q = IntKind.u64.wrap N := ⟨_, rfl⟩
            have hq0 : 0 ≤ IntKind.u64.wrap N := by rw [IntKind.wrap_u64]; omega
            rcases (show IntKind.u64.wrap N % 4 = 0 ∨ IntKind.u64.wrap N % 4 = 1 ∨ IntKind.u64.wrap N % 4 = 2 ∨ IntKind.u64.wrap N % 4 = 3 by omega) with hq4 | hq4 | hq4 | hq4
            all_goals clear hq
            · by_cases hf : fv = 0
              · subst hf
                by_cases hbig : (n : Int) - p < 1
                · have hNl : ¬ 1 ≤ R.length := by rw [HLR.out]; omega
                  have E1 := Lib.hid (show numL (seen R 0 1) = 0 by simp [seen, hNl, numL])
                  have E2 := Lib.hid (show left R 0 1 = R by simp [left, hNl])
                  have E3 := Lib.hid (show falt R 0 1 = 7 by simp [falt, hNl])
                  have EV := Lib.hid (show reachI p 1 n = 7 by simp [reachI, hbig])
                  clear hNl
                  have HV := Lib.hid (show ((R.length : Nat) : Int) = ((n : Int) - p) by rw [HLR.out]; omega)
                  go_wp2_with fail
                  refine (reach_at _ _ _ 7 _ (by omega) (by omega) (by omega) EV.out).mono ?_
                  rintro e w' ⟨rfl, rfl⟩
                  go_wp2_with fail
                  refine (refnumber_at none 0 _ 0 [] 0 _ Rd.none_ (by omega) rfl).mono ?_
                  rintro e w' ⟨rfl, rfl⟩
                  go_wp2_with fail
                  refine (u8_at' r R 0 _ (hrd.below ((Below.refl _ _).alloc (Nat.le_refl _) _) hrd.lt) 0 R 7 E1.out E2.out E3.out).mono ?_
                  rintro e w5 ⟨rfl, h7, h3⟩
                  have K7 := (K.below ((Below.refl _ _).alloc K.hi _)).below (h3.below _ hrg (Nat.le_trans K.hi (by simp)))
                  clear h3
                  go_wp2_with fail
                  refine (left_at r R 7 ((n : Int) - p) _ h7 HV.out).mono ?_
                  rintro e w' ⟨rfl, rfl⟩
                  go_wp2_with fail
                  refine (err_any r R 7 _ h7).mono ?_
                  rintro e w' ⟨rfl, rfl⟩
                  go_wp2
                  go_roundw
                  case rel => exact ⟨k + 1, p, 7, by omega, by go_num, hp, rfl, rfl, (by rw [HR.out] at h7; exact h7), K7⟩
                  case measure => simp [intOf]; omega
                · have hcp : ¬ c = p := by omega
                  have hkR : 1 ≤ R.length := by rw [HLR.out]; omega
                  obtain ⟨X, hX⟩ : ∃ X, X = numL (R.take 1) := ⟨_, rfl⟩
                  have hBy : Byt (R.take 1) := hrd.byt.take _
                  have hXb := numL_bd hBy
                  rw [List.length_take, Nat.min_eq_left hkR, ← hX] at hXb
                  have hXn := Lib.hid (show nm (R.take 1) = X by rw [hX]; exact nm_small hBy (by rw [List.length_take]; omega))
                  have hXb1 : X ≤ 255 := by have h4 : (256 : Int) ^ 1 = 256 := (by decide); omega
                  have hXb0 : 0 ≤ X := hXb.1
                  have E1 := Lib.hid (show numL (seen R 0 1) = X by rw [hX]; simp [seen, hkR])
                  have E2 := Lib.hid (show left R 0 1 = R.drop 1 by simp [left, hkR])
                  have E3 := Lib.hid (show falt R 0 1 = 0 by simp [falt, hkR])
                  have EV := Lib.hid (show reachI p 1 n = 0 by simp [reachI, hbig])
                  clear hX hBy hXb
                  have HV := Lib.hid (show (((R.drop 1).length : Nat) : Int) = ((n : Int) - ((p : Int) + 1)) by rw [List.length_drop, HLR.out]; omega)
                  have hW : ∀ W, Lo w W w1.heap.size A (some ⟨b2, o2, none⟩) n m l ls → Rd W w1.heap.size (Option.map (fun x => x.add p) A) 1 (R.take 1) := fun W h => by rw [HR.out]; exact (cut_rd h.a hp).take (by have := HLR.out; omega)
                  have hpk : (p : Int) + 1 ≤ n := by have := HLR.out; omega
                  have hpk2 : (p : Int) + 1 ≤ c := by omega
                  go_wp2_with fail
                  refine (reach_at _ _ _ 0 _ (by omega) (by omega) (by omega) EV.out).mono ?_
                  rintro e w' ⟨rfl, rfl⟩
                  go_wp2_with fail
                  have hk5 : 1 ≤ 100000 := by omega
                  have hN := refnumber_at (Option.map (fun x => x.add p) A) 1 (c - p) w1.heap.size (R.take 1) X (wr.alloc (.cells #[.bool true, .int .i64 N] 41)) (hW _ (K.below ((Below.refl _ _).alloc K.hi _))) hk5 hXn.out
                  refine hN.mono ?_
                  clear hN
                  rintro e w' ⟨rfl, rfl⟩
                  go_wp2_with fail
                  refine (u8_at' r R 0 _ (hrd.below ((Below.refl _ _).alloc (Nat.le_refl _) _) hrd.lt) X (R.drop 1) 0 E1.out E2.out E3.out).mono ?_
                  rintro e w5 ⟨rfl, h7, h3⟩
                  have K7 := (K.below ((Below.refl _ _).alloc K.hi _)).below (h3.below _ hrg (Nat.le_trans K.hi (by simp)))
                  clear h3
                  go_wp2_with fail
                  refine (left_at r (R.drop 1) 0 ((n : Int) - ((p : Int) + 1)) _ h7 HV.out).mono ?_
                  rintro e w' ⟨rfl, rfl⟩
                  go_wp2_with fail
                  refine (err_any r (R.drop 1) 0 _ h7).mono ?_
                  rintro e w' ⟨rfl, rfl⟩
                  go_wp2
                  go_roundw
                  case rel => exact ⟨k + 1, p + 1, 0, by omega, by go_num, by omega, by go_num, rfl, (by rw [HR.out, List.drop_drop] at h7; exact h7), K7⟩
                  case measure => simp [intOf]; omega
              · have hf1 : (fv == 0) = false := by simpa using hf
                have E1 := Lib.hid (show numL (seen R fv 1) = 0 by simp [seen, hf, numL])
                have E2 := Lib.hid (show left R fv 1 = R by simp [left, hf])
                have E3 := Lib.hid (show falt R fv 1 = fv by simp [falt, hf])
                clear hf
                have HV := Lib.hid (show ((R.length : Nat) : Int) = ((n : Int) - p) by rw [HLR.out]; omega)
                go_wp2_with fail
                refine (refnumber_at none 0 _ 0 [] 0 _ Rd.none_ (by omega) rfl).mono ?_
                rintro e w' ⟨rfl, rfl⟩
                go_wp2_with fail
                refine (u8_at' r R fv _ (hrd.below ((Below.refl _ _).alloc (Nat.le_refl _) _) hrd.lt) 0 R fv E1.out E2.out E3.out).mono ?_
                rintro e w5 ⟨rfl, h7, h3⟩
                have K7 := (K.below ((Below.refl _ _).alloc K.hi _)).below (h3.below _ hrg (Nat.le_trans K.hi (by simp)))
                clear h3
                go_wp2_with fail
                refine (left_at r R fv ((n : Int) - p) _ h7 HV.out).mono ?_
                rintro e w' ⟨rfl, rfl⟩
                go_wp2_with fail
                refine (err_any r R fv _ h7).mono ?_
                rintro e w' ⟨rfl, rfl⟩
                go_wp2
                go_roundw
                case rel => exact ⟨k + 1, p, fv, by omega, by go_num, hp, rfl, rfl, (by rw [HR.out] at h7; exact h7), K7⟩
                case measure => simp [intOf]; omega
            · by_cases hf : fv = 0
              · subst hf
                by_cases hbig : (n : Int) - p < 2
                · have hNl : ¬ 2 ≤ R.length := by rw [HLR.out]; omega
                  have E1 := Lib.hid (show numL (seen R 0 2) = 0 by simp [seen, hNl, numL])
                  have E2 := Lib.hid (show left R 0 2 = R by simp [left, hNl])
                  have E3 := Lib.hid (show falt R 0 2 = 7 by simp [falt, hNl])
                  have EV := Lib.hid (show reachI p 2 n = 7 by simp [reachI, hbig])
                  clear hNl
                  have HV := Lib.hid (show ((R.length : Nat) : Int) = ((n : Int) - p) by rw [HLR.out]; omega)
                  go_wp2_with fail
                  refine (reach_at _ _ _ 7 _ (by omega) (by omega) (by omega) EV.out).mono ?_
                  rintro e w' ⟨rfl, rfl⟩
                  go_wp2_with fail
                  refine (refnumber_at none 0 _ 0 [] 0 _ Rd.none_ (by omega) rfl).mono ?_
                  rintro e w' ⟨rfl, rfl⟩
                  go_wp2_with fail
                  refine (u16_at' r R 0 _ (hrd.below ((Below.refl _ _).alloc (Nat.le_refl _) _) hrd.lt) 0 R 7 E1.out E2.out E3.out).mono ?_
                  rintro e w5 ⟨rfl, h7, h3⟩
                  have K7 := (K.below ((Below.refl _ _).alloc K.hi _)).below (h3.below _ hrg (Nat.le_trans K.hi (by simp)))
                  clear h3
                  go_wp2_with fail
                  refine (left_at r R 7 ((n : Int) - p) _ h7 HV.out).mono ?_
                  rintro e w' ⟨rfl, rfl⟩
                  go_wp2_with fail
                  refine (err_any r R 7 _ h7).mono ?_
                  rintro e w' ⟨rfl, rfl⟩
                  go_wp2
                  go_roundw
                  case rel => exact ⟨k + 1, p, 7, by omega, by go_num, hp, rfl, rfl, (by rw [HR.out] at h7; exact h7), K7⟩
                  case measure => simp [intOf]; omega
                · have hcp : ¬ c = p := by omega
                  have hkR : 2 ≤ R.length := by rw [HLR.out]; omega
                  obtain ⟨X, hX⟩ : ∃ X, X = numL (R.take 2) := ⟨_, rfl⟩
                  have hBy : Byt (R.take 2) := hrd.byt.take _
                  have hXb := numL_bd hBy
                  rw [List.length_take, Nat.min_eq_left hkR, ← hX] at hXb
                  have hXn := Lib.hid (show nm (R.take 2) = X by rw [hX]; exact nm_small hBy (by rw [List.length_take]; omega))
                  have hXb1 : X ≤ 65535 := by have h4 : (256 : Int) ^ 2 = 65536 := (by decide); omega
                  have hXb0 : 0 ≤ X := hXb.1
                  have E1 := Lib.hid (show numL (seen R 0 2) = X by rw [hX]; simp [seen, hkR])
                  have E2 := Lib.hid (show left R 0 2 = R.drop 2 by simp [left, hkR])
                  have E3 := Lib.hid (show falt R 0 2 = 0 by simp [falt, hkR])
                  have EV := Lib.hid (show reachI p 2 n = 0 by simp [reachI, hbig])
                  clear hX hBy hXb
                  have HV := Lib.hid (show (((R.drop 2).length : Nat) : Int) = ((n : Int) - ((p : Int) + 2)) by rw [List.length_drop, HLR.out]; omega)
                  have hW : ∀ W, Lo w W w1.heap.size A (some ⟨b2, o2, none⟩) n m l ls → Rd W w1.heap.size (Option.map (fun x => x.add p) A) 2 (R.take 2) := fun W h => by rw [HR.out]; exact (cut_rd h.a hp).take (by have := HLR.out; omega)
                  have hpk : (p : Int) + 2 ≤ n := by have := HLR.out; omega
                  have hpk2 : (p : Int) + 2 ≤ c := by omega
                  go_wp2_with fail
                  refine (reach_at _ _ _ 0 _ (by omega) (by omega) (by omega) EV.out).mono ?_
                  rintro e w' ⟨rfl, rfl⟩
                  go_wp2_with fail
                  have hk5 : 2 ≤ 100000 := by omega
                  have hN := refnumber_at (Option.map (fun x => x.add p) A) 2 (c - p) w1.heap.size (R.take 2) X (wr.alloc (.cells #[.bool true, .int .i64 N] 41)) (hW _ (K.below ((Below.refl _ _).alloc K.hi _))) hk5 hXn.out
                  refine hN.mono ?_
                  clear hN
                  rintro e w' ⟨rfl, rfl⟩
                  go_wp2_with fail
                  refine (u16_at' r R 0 _ (hrd.below ((Below.refl _ _).alloc (Nat.le_refl _) _) hrd.lt) X (R.drop 2) 0 E1.out E2.out E3.out).mono ?_
                  rintro e w5 ⟨rfl, h7, h3⟩
                  have K7 := (K.below ((Below.refl _ _).alloc K.hi _)).below (h3.below _ hrg (Nat.le_trans K.hi (by simp)))
                  clear h3
                  go_wp2_with fail
                  refine (left_at r (R.drop 2) 0 ((n : Int) - ((p : Int) + 2)) _ h7 HV.out).mono ?_
                  rintro e w' ⟨rfl, rfl⟩
                  go_wp2_with fail
                  refine (err_any r (R.drop 2) 0 _ h7).mono ?_
                  rintro e w' ⟨rfl, rfl⟩
                  go_wp2
                  go_roundw
                  case rel => exact ⟨k + 1, p + 2, 0, by omega, by go_num, by omega, by go_num, rfl, (by rw [HR.out, List.drop_drop] at h7; exact h7), K7⟩
                  case measure => simp [intOf]; omega
              · have hf1 : (fv == 0) = false := by simpa using hf
                have E1 := Lib.hid (show numL (seen R fv 2) = 0 by simp [seen, hf, numL])
                have E2 := Lib.hid (show left R fv 2 = R by simp [left, hf])
                have E3 := Lib.hid (show falt R fv 2 = fv by simp [falt, hf])
                clear hf
                have HV := Lib.hid (show ((R.length : Nat) : Int) = ((n : Int) - p) by rw [HLR.out]; omega)
                go_wp2_with fail
                refine (refnumber_at none 0 _ 0 [] 0 _ Rd.none_ (by omega) rfl).mono ?_
                rintro e w' ⟨rfl, rfl⟩
                go_wp2_with fail
                refine (u16_at' r R fv _ (hrd.below ((Below.refl _ _).alloc (Nat.le_refl _) _) hrd.lt) 0 R fv E1.out E2.out E3.out).mono ?_
                rintro e w5 ⟨rfl, h7, h3⟩
                have K7 := (K.below ((Below.refl _ _).alloc K.hi _)).below (h3.below _ hrg (Nat.le_trans K.hi (by simp)))
                clear h3
                go_wp2_with fail
                refine (left_at r R fv ((n : Int) - p) _ h7 HV.out).mono ?_
                rintro e w' ⟨rfl, rfl⟩
                go_wp2_with fail
                refine (err_any r R fv _ h7).mono ?_
                rintro e w' ⟨rfl, rfl⟩
                go_wp2
                go_roundw
                case rel => exact ⟨k + 1, p, fv, by omega, by go_num, hp, rfl, rfl, (by rw [HR.out] at h7; exact h7), K7⟩
                case measure => simp [intOf]; omega
            · by_cases hf : fv = 0
              · subst hf
                by_cases hbig : (n : Int) - p < 4
                · have hNl : ¬ 4 ≤ R.length := by rw [HLR.out]; omega
                  have E1 := Lib.hid (show numL (seen R 0 4) = 0 by simp [seen, hNl, numL])
                  have E2 := Lib.hid (show left R 0 4 = R by simp [left, hNl])
                  have E3 := Lib.hid (show falt R 0 4 = 7 by simp [falt, hNl])
                  have EV := Lib.hid (show reachI p 4 n = 7 by simp [reachI, hbig])
                  clear hNl
                  have HV := Lib.hid (show ((R.length : Nat) : Int) = ((n : Int) - p) by rw [HLR.out]; omega)
                  go_wp2_with fail
                  refine (reach_at _ _ _ 7 _ (by omega) (by omega) (by omega) EV.out).mono ?_
                  rintro e w' ⟨rfl, rfl⟩
                  go_wp2_with fail
                  refine (refnumber_at none 0 _ 0 [] 0 _ Rd.none_ (by omega) rfl).mono ?_
                  rintro e w' ⟨rfl, rfl⟩
                  go_wp2_with fail
                  refine (u32_at' r R 0 _ (hrd.below ((Below.refl _ _).alloc (Nat.le_refl _) _) hrd.lt) 0 R 7 E1.out E2.out E3.out).mono ?_
                  rintro e w5 ⟨rfl, h7, h3⟩
                  have K7 := (K.below ((Below.refl _ _).alloc K.hi _)).below (h3.below _ hrg (Nat.le_trans K.hi (by simp)))
                  clear h3
                  go_wp2_with fail
                  refine (left_at r R 7 ((n : Int) - p) _ h7 HV.out).mono ?_
                  rintro e w' ⟨rfl, rfl⟩
                  go_wp2_with fail
                  refine (err_any r R 7 _ h7).mono ?_
                  rintro e w' ⟨rfl, rfl⟩
                  go_wp2
                  go_roundw
                  case rel => exact ⟨k + 1, p, 7, by omega, by go_num, hp, rfl, rfl, (by rw [HR.out] at h7; exact h7), K7⟩
                  case measure => simp [intOf]; omega
                · have hcp : ¬ c = p := by omega
                  have hkR : 4 ≤ R.length := by rw [HLR.out]; omega
                  obtain ⟨X, hX⟩ : ∃ X, X = numL (R.take 4) := ⟨_, rfl⟩
                  have hBy : Byt (R.take 4) := hrd.byt.take _
                  have hXb := numL_bd hBy
                  rw [List.length_take, Nat.min_eq_left hkR, ← hX] at hXb
                  have hXn := Lib.hid (show nm (R.take 4) = X by rw [hX]; exact nm_small hBy (by rw [List.length_take]; omega))
                  have hXb1 : X ≤ 4294967295 := by have h4 : (256 : Int) ^ 4 = 4294967296 := (by decide); omega
                  have hXb0 : 0 ≤ X := hXb.1
                  have E1 := Lib.hid (show numL (seen R 0 4) = X by rw [hX]; simp [seen, hkR])
                  have E2 := Lib.hid (show left R 0 4 = R.drop 4 by simp [left, hkR])
                  have E3 := Lib.hid (show falt R 0 4 = 0 by simp [falt, hkR])
                  have EV := Lib.hid (show reachI p 4 n = 0 by simp [reachI, hbig])
                  clear hX hBy hXb
                  have HV := Lib.hid (show (((R.drop 4).length : Nat) : Int) = ((n : Int) - ((p : Int) + 4)) by rw [List.length_drop, HLR.out]; omega)
                  have hW : ∀ W, Lo w W w1.heap.size A (some ⟨b2, o2, none⟩) n m l ls → Rd W w1.heap.size (Option.map (fun x => x.add p) A) 4 (R.take 4) := fun W h => by rw [HR.out]; exact (cut_rd h.a hp).take (by have := HLR.out; omega)
                  have hpk : (p : Int) + 4 ≤ n := by have := HLR.out; omega
                  have hpk2 : (p : Int) + 4 ≤ c := by omega
                  go_wp2_with fail
                  refine (reach_at _ _ _ 0 _ (by omega) (by omega) (by omega) EV.out).mono ?_
                  rintro e w' ⟨rfl, rfl⟩
                  go_wp2_with fail
                  have hk5 : 4 ≤ 100000 := by omega
                  have hN := refnumber_at (Option.map (fun x => x.add p) A) 4 (c - p) w1.heap.size (R.take 4) X (wr.alloc (.cells #[.bool true, .int .i64 N] 41)) (hW _ (K.below ((Below.refl _ _).alloc K.hi _))) hk5 hXn.out
                  refine hN.mono ?_
                  clear hN
                  rintro e w' ⟨rfl, rfl⟩
                  go_wp2_with fail
                  refine (u32_at' r R 0 _ (hrd.below ((Below.refl _ _).alloc (Nat.le_refl _) _) hrd.lt) X (R.drop 4) 0 E1.out E2.out E3.out).mono ?_
                  rintro e w5 ⟨rfl, h7, h3⟩
                  have K7 := (K.below ((Below.refl _ _).alloc K.hi _)).below (h3.below _ hrg (Nat.le_trans K.hi (by simp)))
                  clear h3
                  go_wp2_with fail
                  refine (left_at r (R.drop 4) 0 ((n : Int) - ((p : Int) + 4)) _ h7 HV.out).mono ?_
                  rintro e w' ⟨rfl, rfl⟩
                  go_wp2_with fail
                  refine (err_any r (R.drop 4) 0 _ h7).mono ?_
                  rintro e w' ⟨rfl, rfl⟩
                  go_wp2
                  go_roundw
                  case rel => exact ⟨k + 1, p + 4, 0, by omega, by go_num, by omega, by go_num, rfl, (by rw [HR.out, List.drop_drop] at h7; exact h7), K7⟩
                  case measure => simp [intOf]; omega
              · have hf1 : (fv == 0) = false := by simpa using hf
                have E1 := Lib.hid (show numL (seen R fv 4) = 0 by simp [seen, hf, numL])
                have E2 := Lib.hid (show left R fv 4 = R by simp [left, hf])
                have E3 := Lib.hid (show falt R fv 4 = fv by simp [falt, hf])
                clear hf
                have HV := Lib.hid (show ((R.length : Nat) : Int) = ((n : Int) - p) by rw [HLR.out]; omega)
                go_wp2_with fail
                refine (refnumber_at none 0 _ 0 [] 0 _ Rd.none_ (by omega) rfl).mono ?_
                rintro e w' ⟨rfl, rfl⟩
                go_wp2_with fail
                refine (u32_at' r R fv _ (hrd.below ((Below.refl _ _).alloc (Nat.le_refl _) _) hrd.lt) 0 R fv E1.out E2.out E3.out).mono ?_
                rintro e w5 ⟨rfl, h7, h3⟩
                have K7 := (K.below ((Below.refl _ _).alloc K.hi _)).below (h3.below _ hrg (Nat.le_trans K.hi (by simp)))
                clear h3
                go_wp2_with fail
                refine (left_at r R fv ((n : Int) - p) _ h7 HV.out).mono ?_
                rintro e w' ⟨rfl, rfl⟩
                go_wp2_with fail
                refine (err_any r R fv _ h7).mono ?_
                rintro e w' ⟨rfl, rfl⟩
                go_wp2
                go_roundw
                case rel => exact ⟨k + 1, p, fv, by omega, by go_num, hp, rfl, rfl, (by rw [HR.out] at h7; exact h7), K7⟩
                case measure => simp [intOf]; omega
            · by_cases hf : fv = 0
              · subst hf
                by_cases hbig : (n : Int) - p < 8
                · have hNl : ¬ 8 ≤ R.length := by rw [HLR.out]; omega
                  have E1 := Lib.hid (show numL (seen R 0 8) = 0 by simp [seen, hNl, numL])
                  have E2 := Lib.hid (show left R 0 8 = R by simp [left, hNl])
                  have E3 := Lib.hid (show falt R 0 8 = 7 by simp [falt, hNl])
                  have EV := Lib.hid (show reachI p 8 n = 7 by simp [reachI, hbig])
                  clear hNl
                  have HV := Lib.hid (show ((R.length : Nat) : Int) = ((n : Int) - p) by rw [HLR.out]; omega)
                  go_wp2_with fail
                  refine (reach_at _ _ _ 7 _ (by omega) (by omega) (by omega) EV.out).mono ?_
                  rintro e w' ⟨rfl, rfl⟩
                  go_wp2_with fail
                  refine (refnumber_at none 0 _ 0 [] 0 _ Rd.none_ (by omega) rfl).mono ?_
                  rintro e w' ⟨rfl, rfl⟩
                  go_wp2_with fail
                  refine (u64_at' r R 0 _ (hrd.below ((Below.refl _ _).alloc (Nat.le_refl _) _) hrd.lt) 0 R 7 E1.out E2.out E3.out).mono ?_
                  rintro e w5 ⟨rfl, h7, h3⟩
                  have K7 := (K.below ((Below.refl _ _).alloc K.hi _)).below (h3.below _ hrg (Nat.le_trans K.hi (by simp)))
                  clear h3
                  go_wp2_with fail
                  refine (left_at r R 7 ((n : Int) - p) _ h7 HV.out).mono ?_
                  rintro e w' ⟨rfl, rfl⟩
                  go_wp2_with fail
                  refine (err_any r R 7 _ h7).mono ?_
                  rintro e w' ⟨rfl, rfl⟩
                  go_wp2
                  go_roundw
                  case rel => exact ⟨k + 1, p, 7, by omega, by go_num, hp, rfl, rfl, (by rw [HR.out] at h7; exact h7), K7⟩
                  case measure => simp [intOf]; omega
                · have hcp : ¬ c = p := by omega
                  have hkR : 8 ≤ R.length := by rw [HLR.out]; omega
                  obtain ⟨X, hX⟩ : ∃ X, X = numL (R.take 8) := ⟨_, rfl⟩
                  have hBy : Byt (R.take 8) := hrd.byt.take _
                  have hXb := numL_bd hBy
                  rw [List.length_take, Nat.min_eq_left hkR, ← hX] at hXb
                  have hXn := Lib.hid (show nm (R.take 8) = X by rw [hX]; exact nm_small hBy (by rw [List.length_take]; omega))
                  have E1 := Lib.hid (show numL (seen R 0 8) = X by rw [hX]; simp [seen, hkR])
                  have E2 := Lib.hid (show left R 0 8 = R.drop 8 by simp [left, hkR])
                  have E3 := Lib.hid (show falt R 0 8 = 0 by simp [falt, hkR])
                  have EV := Lib.hid (show reachI p 8 n = 0 by simp [reachI, hbig])
                  clear hX hBy hXb
                  have HV := Lib.hid (show (((R.drop 8).length : Nat) : Int) = ((n : Int) - ((p : Int) + 8)) by rw [List.length_drop, HLR.out]; omega)
                  have hW : ∀ W, Lo w W w1.heap.size A (some ⟨b2, o2, none⟩) n m l ls → Rd W w1.heap.size (Option.map (fun x => x.add p) A) 8 (R.take 8) := fun W h => by rw [HR.out]; exact (cut_rd h.a hp).take (by have := HLR.out; omega)
                  have hpk : (p : Int) + 8 ≤ n := by have := HLR.out; omega
                  have hpk2 : (p : Int) + 8 ≤ c := by omega
                  go_wp2_with fail
                  refine (reach_at _ _ _ 0 _ (by omega) (by omega) (by omega) EV.out).mono ?_
                  rintro e w' ⟨rfl, rfl⟩
                  go_wp2_with fail
                  have hk5 : 8 ≤ 100000 := by omega
                  have hN := refnumber_at (Option.map (fun x => x.add p) A) 8 (c - p) w1.heap.size (R.take 8) X (wr.alloc (.cells #[.bool true, .int .i64 N] 41)) (hW _ (K.below ((Below.refl _ _).alloc K.hi _))) hk5 hXn.out
                  refine hN.mono ?_
                  clear hN
                  rintro e w' ⟨rfl, rfl⟩
                  go_wp2_with fail
                  refine (u64_at' r R 0 _ (hrd.below ((Below.refl _ _).alloc (Nat.le_refl _) _) hrd.lt) X (R.drop 8) 0 E1.out E2.out E3.out).mono ?_
                  rintro e w5 ⟨rfl, h7, h3⟩
                  have K7 := (K.below ((Below.refl _ _).alloc K.hi _)).below (h3.below _ hrg (Nat.le_trans K.hi (by simp)))
                  clear h3
                  go_wp2_with fail
                  refine (left_at r (R.drop 8) 0 ((n : Int) - ((p : Int) + 8)) _ h7 HV.out).mono ?_
                  rintro e w' ⟨rfl, rfl⟩
                  go_wp2_with fail
                  refine (err_any r (R.drop 8) 0 _ h7).mono ?_
                  rintro e w' ⟨rfl, rfl⟩
                  go_wp2
                  go_roundw
                  case rel => exact ⟨k + 1, p + 8, 0, by omega, by go_num, by omega, by go_num, rfl, (by rw [HR.out, List.drop_drop] at h7; exact h7), K7⟩
                  case measure => simp [intOf]; omega
              · have hf1 : (fv == 0) = false := by simpa using hf
                have E1 := Lib.hid (show numL (seen R fv 8) = 0 by simp [seen, hf, numL])
                have E2 := Lib.hid (show left R fv 8 = R by simp [left, hf])
                have E3 := Lib.hid (show falt R fv 8 = fv by simp [falt, hf])
                clear hf
                have HV := Lib.hid (show ((R.length : Nat) : Int) = ((n : Int) - p) by rw [HLR.out]; omega)
                go_wp2_with fail
                refine (refnumber_at none 0 _ 0 [] 0 _ Rd.none_ (by omega) rfl).mono ?_
                rintro e w' ⟨rfl, rfl⟩
                go_wp2_with fail
                refine (u64_at' r R fv _ (hrd.below ((Below.refl _ _).alloc (Nat.le_refl _) _) hrd.lt) 0 R fv E1.out E2.out E3.out).mono ?_
                rintro e w5 ⟨rfl, h7, h3⟩
                have K7 := (K.below ((Below.refl _ _).alloc K.hi _)).below (h3.below _ hrg (Nat.le_trans K.hi (by simp)))
                clear h3
                go_wp2_with fail
                refine (left_at r R fv ((n : Int) - p) _ h7 HV.out).mono ?_
                rintro e w' ⟨rfl, rfl⟩
                go_wp2_with fail
                refine (err_any r R fv _ h7).mono ?_
                rintro e w' ⟨rfl, rfl⟩
                go_wp2
                go_roundw
                case rel => exact ⟨k + 1, p, fv, by omega, by go_num, hp, rfl, rfl, (by rw [HR.out] at h7; exact h7), K7⟩
                case measure => simp [intOf]; omega
          -- END OF CASES
        · go_wp2_with fail
          refine (u8_nil _).mono ?_
          rintro e x1 ⟨rfl, y1⟩
          go_wp2_with fail
          refine (u16_nil _).mono ?_
          rintro e x2 ⟨rfl, y2⟩
          go_wp2_with fail
          refine (u32_nil _).mono ?_
          rintro e x3 ⟨rfl, y3⟩
          go_wp2_with fail
          refine (u64_nil _).mono ?_
          rintro e x4 ⟨rfl, y4⟩
          go_wp2_with fail
          refine (raw_nil 1 _).mono ?_
          rintro e x5 ⟨rfl, y5⟩
          go_wp2_with fail
          refine (left_nil _).mono ?_
          rintro e w' ⟨rfl, rfl⟩
          go_wp2_with fail
          refine (err_nil _).mono ?_
          rintro e w' ⟨rfl, rfl⟩
          go_wp2
          go_ret
          have t1 := K.old.trans (y1.mono K.old.size)
          have t2 := t1.trans (y2.mono t1.size)
          have t3 := t2.trans (y3.mono t2.size)
          have t4 := t3.trans (y4.mono t3.size)
          exact ⟨rfl, t4.trans (y5.mono t4.size)⟩

set_option maxRecDepth 100000 in
set_option maxHeartbeats 1000000 in
theorem looks_big (A A2 : Option Addr) (n c m c2 : Nat) (w : World) (h : 3000 < n ∨ 200 < m) :
    Calls Try.prog 5 #[.slice A n c, .slice A2 m c2] w fun e w' => e = .returned (.bool true) ∧ Below w.heap.size w w' := by
  have hd : (decide ((3000 : Int) < n) || decide ((200 : Int) < m)) = true := by
    rcases h with h | h
    · simp; omega
    · simp; omega
  go_enter Try.func5, Try.ntmps5
  go_wp2_with fail
  refine (wakes_any w).mono ?_
  rintro e w1 ⟨rfl, b1⟩
  go_wp2
  all_goals go_ret
  all_goals exact ⟨rfl, b1⟩

theorem looks_walk (A A2 : Option Addr) (n c m c2 : Nat) (l : List Int) (ls : Nat → Bool × Int) (w : World) (hr : Rd w w.heap.size A n l) (hk : Lk w w.heap.size A2 m ls) (hnc : n ≤ c) :
    Calls Try.prog 5 #[.slice A n c, .slice A2 m c2] w fun e w' => e = .returned (.bool true) ∧ Below w.heap.size w w' := by
  by_cases hb : 3000 < n ∨ 200 < m
  · exact looks_big A A2 n c m c2 w hb
  · exact looks_small A A2 n c m c2 l ls w hr hk hnc (by omega) (by omega)
end Go.Proofs.Ytabccpoolakfiaa
