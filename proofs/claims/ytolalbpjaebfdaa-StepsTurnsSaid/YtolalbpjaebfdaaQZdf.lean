/-
  slices.IndexFunc and DeleteFunc at numbers: what they do to a row of the call's own.
-/
import Derived.Test.YtolalbpjaebfdaaQScB
import Derived.Laws.CopyRow
namespace Go.Proofs.Ytolalbpjaebfdaa
open Go.RowKit Go.Shelf
set_option linter.unusedVariables false
set_option linter.unusedSimpArgs false
def WhereZ (L : List Int) (bf : Int → Bool) (r : Int) : Prop := (∃ k : Nat, r = k ∧ k < L.length ∧ bf (L.getD k 0) = true ∧ ∀ j, j < k → bf (L.getD j 0) = false) ∨ r = -1 ∧ ∀ j, j < L.length → bf (L.getD j 0) = false
set_option maxRecDepth 100000 in
set_option maxHeartbeats 2000000 in
theorem indexfZ_any (cf : Nat) (cb : Array Value) (bf : Int → Bool) (A : Option Addr) (m c : Nat) (L : List Int) (w : World) (hP : Ri7 w w.heap.size A L) (hm : m = L.length) (h6 : m ≤ 1000000)
    (ec : ∀ args w, (callFunc cf args).run Try.prog w = .ok (.enter cf args) w)
    (hclo : ∀ (x : Int) (W : World), Below w.heap.size w W → Calls Try.prog cf (#[.int .i64 x] ++ cb) W fun e w' => e = .returned (.bool (bf x)) ∧ Below W.heap.size W w') :
    Calls Try.prog 91 #[.slice A m c, .func (.func cf) #[] cb] w fun e w' => ∃ r, e = .returned (.int .i64 r) ∧ WhereZ L bf r ∧ Below w.heap.size w w' := by
  have B0 := Below.refl w.heap.size w
  have HM := Lib.hid hm
  have HC := Lib.hid hclo
  clear hm hclo
  go_enter Try.func91, Try.ntmps91
  go_wp2_with fail
  go_loopw [8] (fun i wr' => ∃ (k : Nat) (wr : World), wr = wr' ∧ k ≤ m ∧ i = .int .i64 k ∧ Hid (∀ j, j < k → bf (L.getD j 0) = false) ∧ Below w.heap.size w wr) (fun i _ => m - (intOf i).toNat)
  case atStart => exact ⟨0, _, rfl, Nat.zero_le _, rfl, Lib.hid (fun j hj => absurd hj (Nat.not_lt_zero j)), B0⟩
  case round =>
    clear B0
    obtain ⟨k, wr, hwr, hk, rfl, hall, hB⟩ := hrel
    subst hwr
    by_cases hlt : k < m
    · have hlt' : (k : Int) < (m : Int) := by omega
      have hkl : k < L.length := by have := HM.out; omega
      obtain ⟨b, off, rfl, hb, hc⟩ := (hP.below hB (Nat.le_refl _)) k hkl
      have hcl := HC.out (L.getD k 0) wr hB
      have HK := Lib.hid hkl
      generalize hx : L.getD k 0 = x at hc hcl
      have HX := Lib.hid hx
      clear hx hkl
      obtain ⟨bo, hbo⟩ : ∃ bo, bf x = bo := ⟨_, rfl⟩
      rw [hbo] at hcl
      have HBO := Lib.hid hbo
      clear hbo
      have HCL := Lib.hid hcl
      clear hcl
      go_wp2_with fail
      refine HCL.out.mono ?_
      rintro e w1 ⟨rfl, bb⟩
      have hB1 := hB.trans (bb.mono hB.size)
      clear bb hc hb
      cases bo
      · go_wp2_with fail
        go_roundw
        case rel =>
          refine ⟨k + 1, _, rfl, by omega, by go_num, Lib.hid (fun j hj => ?_), hB1⟩
          rcases Nat.lt_succ_iff_lt_or_eq.1 hj with h | rfl
          · exact hall.out j h
          · rw [HX.out]; exact HBO.out
        case measure => simp [intOf]; omega
      · go_wp2_with fail
        go_ret
        exact ⟨_, rfl, .inl ⟨k, rfl, HK.out, by rw [HX.out]; exact HBO.out, hall.out⟩, hB1⟩
    · have hkm : m = k := by omega
      subst hkm
      go_wp2_with fail
      go_ret
      exact ⟨_, rfl, .inr ⟨rfl, by rw [← HM.out]; exact hall.out⟩, hB⟩
theorem drop_consZ (L : List Int) (j : Nat) (h : j < L.length) : L.drop j = L.getD j 0 :: L.drop (j + 1) := by
  rw [List.drop_eq_getElem_cons h, show L.getD j 0 = L[j] by simp [List.getD, h]]
theorem df_nextZ {K mid L : List Int} {j : Nat} (hj : j < L.length) : K ++ mid ++ L.drop j = K ++ (mid ++ [L.getD j 0]) ++ L.drop (j + 1) := by
  rw [drop_consZ L j hj]; simp
theorem df_setZ {K mid L : List Int} {i j : Nat} (hj : j < L.length) (hK : K.length = i) (hm : mid ≠ []) : (K ++ mid ++ L.drop j).set i (L.getD j 0) = (K ++ [L.getD j 0]) ++ (mid.tail ++ [L.getD j 0]) ++ L.drop (j + 1) := by
  cases mid with
  | nil => exact absurd rfl hm
  | cons y mid =>
    subst hK
    rw [drop_consZ L j hj, List.append_assoc, List.set_append_right _ _ (Nat.le_refl _), Nat.sub_self]
    simp
theorem filt_snocZ {p : Int → Bool} {L : List Int} {j : Nat} (hj : j < L.length) : (L.take (j + 1)).filter p = (L.take j).filter p ++ (if p (L.getD j 0) = true then [L.getD j 0] else []) := by
  rw [List.take_succ_eq_append_getElem hj, show L.getD j 0 = L[j] by simp [List.getD, hj], List.filter_append]
  congr 1
  rw [List.filter_cons]
  rfl
theorem Zo.set {w : World} {base g m c k : Nat} {L : List Int} (h : Zo w base (some ⟨g, 0, none⟩) m c L) (v : Int) : Zo (w.setCell ⟨g, k, none⟩ (.int .i64 v)) base (some ⟨g, 0, none⟩) m c (L.set k v) := by
  have hs := (World.ownsRow.stored h k (.int .i64 v)).1
  unfold Zo
  rw [List.map_set]
  exact hs
theorem run_clearZ {w : World} {base g m c k : Nat} {L : List Int} (ty : TypeId) (cc : Nat) (h : Zo w base (some ⟨g, 0, none⟩) m c L) (hk : k < L.length) :
    ∃ W, (Builtin.clear_ #[40] ty #[.slice (some ⟨g, k, none⟩) (m - k) cc]).run Try.prog w = .ok (.tuple #[]) W ∧ Zo W base (some ⟨g, 0, none⟩) k c (L.take k) ∧ w.grownBy W (some g) := by
  rcases h.form with ⟨e, _⟩ | ⟨g', e, hb, hlt, cur, hh, h1, h2, h3, h4⟩
  · cases e
  · cases e
    have hm := h.len
    obtain ⟨i, hi, hz, hs1, hb1⟩ := info_parts zint_info
    have hzl : (Builtin.zeroCells (Value.int .i64 0).cells (m - k)).toList.length = m - k := by
      rw [Array.length_toList]; simp [Builtin.zeroCells, Value.cells]
    have hone : ∀ u ∈ (Builtin.zeroCells (Value.int .i64 0).cells (m - k)).toList, u.oneCell' = true := by
      intro u hu
      rw [Array.mem_toList_iff] at hu
      obtain ⟨j, hj, e⟩ := Array.getElem_of_mem hu
      rw [← e]
      simp [Builtin.zeroCells, Value.cells, Value.oneCell', Nat.mod_one]
    have hst := run_storeCells_at Try.prog g k 3 (Builtin.zeroCells (Value.int .i64 0).cells (m - k)).toList 0 cur w hh (by rw [hzl, h3]; omega) hone
    obtain ⟨q, hq⟩ : ∃ q, m - k = q + 1 := ⟨m - k - 1, by omega⟩
    obtain ⟨C, hC⟩ : ∃ C : Array Value, C = (cur.toList.take k ++ (Builtin.zeroCells (Value.int .i64 0).cells (m - k)).toList ++ cur.toList.drop (k + (m - k))).toArray := ⟨_, rfl⟩
    simp only [Nat.add_zero, hzl] at hst
    rw [← hC] at hst
    refine ⟨w.setRow g C, by
      rw [hq] at hst ⊢
      simp [Builtin.clear_, run_underlying Try.underlying40, zeroValue, typeInfo, hi, hz, hst], ?_⟩
    have hgr : w.grownBy (w.setRow g C) (some g) := ⟨rfl, rfl, rfl, by simp, fun j hj hne => setRow_other w g j C (fun e => hne (by rw [e]))⟩
    have hl1 : (cur.toList.take k).length = k := by rw [List.length_take, Array.length_toList, h3]; omega
    refine ⟨zo_block hb (setRow_heap w g cur C _ _ hh) (by omega) h2 (by rw [hC, List.size_toArray, List.length_append, List.length_append, hl1, hzl, List.length_drop, Array.length_toList, h3]; omega) ?_ (by rw [List.length_take]; omega), hgr⟩
    rw [hC, List.append_assoc, List.take_append_of_le_length (by rw [hl1]; exact Nat.le_refl _), List.take_of_length_le (by rw [hl1]; exact Nat.le_refl _), List.map_take, ← h4, List.take_take, Nat.min_eq_left (by omega)]
structure DfZ (w V : World) (base g m c k i : Nat) (bf : Int → Bool) (L : List Int) : Prop where
  row : ∃ mid, mid ≠ [] ∧ Zo V base (some ⟨g, 0, none⟩) m c ((L.take k).filter (fun x => !bf x) ++ mid ++ L.drop k)
  len : ((L.take k).filter fun x => !bf x).length = i
  b : But g w V
set_option maxRecDepth 100000 in
set_option maxHeartbeats 4000000 in
theorem delZ_any (cf : Nat) (cb : Array Value) (bf : Int → Bool) (base g m c : Nat) (A : Option Addr) (L : List Int) (w : World) (hA : A = none ∨ A = some ⟨g, 0, none⟩) (h : Zo w base A m c L) (h6 : m ≤ 1000000)
    (ec : ∀ args w, (callFunc cf args).run Try.prog w = .ok (.enter cf args) w)
    (hclo : ∀ (x : Int) (W : World), But g w W → Calls Try.prog cf (#[.int .i64 x] ++ cb) W fun e w' => e = .returned (.bool (bf x)) ∧ Below W.heap.size W w') :
    Calls Try.prog 76 #[.slice A m c, .func (.func cf) #[] cb] w fun e w' => ∃ m2, e = .returned (.slice A m2 c) ∧ Zo w' base A m2 c (L.filter fun x => !bf x) ∧ But g w w' := by
  have HM := Lib.hid h.len
  have hmc := h.cap
  have IX := indexfZ_any cf cb bf A m c L w h.ri h.len (by omega) ec (fun x W hW => hclo x W (But.of_below hW g))
  have HC := Lib.hid hclo
  clear hclo
  go_enter Try.func76, Try.ntmps76
  go_wp2_with fail
  refine IX.mono ?_
  rintro e w1 ⟨r, rfl, hr, bb⟩
  have h1 := h.below bb (Nat.le_refl _)
  have b1 : But g w w1 := But.of_below bb g
  clear IX bb
  rcases hr with ⟨k, rfl, hk, hbk, hall⟩ | ⟨rfl, hall⟩
  · have hne : ((k : Int) == -1) = false := by simp
    have hA' : A = some ⟨g, 0, none⟩ := by
      rcases hA with rfl | rfl
      · rcases h1.form with ⟨_, _, _, e⟩ | ⟨g', e, _⟩
        · rw [e] at hk; exact absurd hk (by simp)
        · cases e
      · rfl
    subst hA'
    have hkm : k < m := by have := HM.out; omega
    have hI0 : DfZ w w1 base g m c (k + 1) k bf L := by
      have hf : (L.take k).filter (fun x => !bf x) = L.take k := List.filter_eq_self.2 fun x hx => by
        obtain ⟨j, hj, rfl⟩ := List.getElem_of_mem hx
        rw [List.length_take] at hj
        have := hall j (by omega)
        rw [show L.getD j 0 = L[j]'(by omega) by simp [List.getD, show j < L.length by omega]] at this
        rw [List.getElem_take, this]; rfl
      have hf2 : (L.take (k + 1)).filter (fun x => !bf x) = L.take k := by
        rw [filt_snocZ hk, hf, if_neg (by rw [hbk]; decide), List.append_nil]
      refine ⟨⟨[L.getD k 0], by simp, ?_⟩, by rw [hf2, List.length_take]; omega, b1⟩
      rw [hf2, List.append_assoc, List.singleton_append, ← drop_consZ L k hk, List.take_append_drop]
      exact h1
    have HH := Lib.hid (And.intro hk (And.intro hbk hall))
    clear hk hbk hall h1 b1 hA
    go_wp2_with fail
    go_loopw [5, 6] (fun iv jv wr' => ∃ (i j : Nat) (wr : World), wr = wr' ∧ j ≤ m ∧ i < j ∧ iv = .int .i64 i ∧ jv = .int .i64 j ∧ Hid (DfZ w wr base g m c j i bf L)) (fun _ jv _ => m - (intOf jv).toNat)
    case atStart => exact ⟨k, k + 1, _, rfl, by omega, by omega, rfl, by go_num, Lib.hid hI0⟩
    case round =>
      clear hI0
      obtain ⟨i, j, wr, hwr, hj, hij, rfl, rfl, HI⟩ := hrel
      subst hwr
      obtain ⟨⟨mid, hmid, hT⟩, hlen, hB⟩ := HI.out
      have hTl := hT.len
      rw [List.length_append, List.length_append, hlen, List.length_drop, ← HM.out] at hTl
      by_cases hlt : j < m
      · have hlt' : (j : Int) < (m : Int) := by omega
        have hjl : j < L.length := by have := HM.out; omega
        have hmj : i + mid.length = j := by omega
        have hget : ((L.take j).filter (fun x => !bf x) ++ mid ++ L.drop j).getD j 0 = L.getD j 0 := by
          simp only [List.getD]
          rw [List.getElem?_append_right (by rw [List.length_append, hlen]; omega), List.length_append, hlen, hmj, Nat.sub_self, List.getElem?_drop, Nat.add_zero]
        obtain ⟨b, off, e, hb, hc⟩ := hT.ri j (by rw [List.length_append, List.length_append, hlen, List.length_drop, ← HM.out]; omega)
        cases e
        rw [hget, Nat.zero_add] at hc
        have HDN := Lib.hid (df_nextZ (K := (L.take j).filter (fun x => !bf x)) (mid := mid) hjl)
        have HDS := Lib.hid (df_setZ (K := (L.take j).filter (fun x => !bf x)) (mid := mid) hjl hlen hmid)
        have HFS := Lib.hid (filt_snocZ (p := fun x : Int => !bf x) hjl)
        have HLEN := Lib.hid hlen
        have HMID := Lib.hid hmid
        obtain ⟨T, hTe⟩ : ∃ T, (L.take j).filter (fun x => !bf x) ++ mid ++ L.drop j = T := ⟨_, rfl⟩
        rw [hTe] at hT HDN HDS
        obtain ⟨x, hx⟩ : ∃ x, L.getD j 0 = x := ⟨_, rfl⟩
        rw [hx] at hc HDN HDS HFS
        have HTL := Lib.hid hT.len
        have HX := Lib.hid hx
        obtain ⟨bo, hbo⟩ : ∃ bo, bf x = bo := ⟨_, rfl⟩
        have HBO := Lib.hid hbo
        have hcl := HC.out x wr hB
        rw [hbo] at hcl
        have HCL := Lib.hid hcl
        clear hcl hx hbo hlen hTl hget hmid hTe hmj
        go_wp2_with fail
        refine HCL.out.mono ?_
        rintro e W2 ⟨rfl, b2⟩
        have hT2 := hT.below b2 (Nat.le_refl _)
        have hB2 : But g w W2 := hB.trans (But.of_below b2 g)
        clear b2 hc HCL
        cases bo
        · have hT3 := hT2.set (k := i) x
          rw [HDS.out] at hT3
          have hi' : (i : Int) < (m : Int) := by omega
          obtain ⟨bi, oi, ei, _, hci⟩ := hT2.ri i (by have := HTL.out; omega)
          cases ei
          rw [Nat.zero_add] at hci
          have hfi := World.ownsRow.frozenAt hT2 i
          have hB3 : But g w (W2.setCell ⟨g, i, none⟩ (.int .i64 x)) := hB2.setCell (p := ⟨g, i, none⟩) (.inl rfl) _
          have HI2 := Lib.hid (show DfZ w (W2.setCell ⟨g, i, none⟩ (.int .i64 x)) base g m c (j + 1) (i + 1) bf L by
            have hf := HFS.out
            rw [if_pos (by rw [HBO.out]; rfl)] at hf
            exact ⟨⟨mid.tail ++ [x], by simp, by rw [hf]; exact hT3⟩, by rw [hf, List.length_append, HLEN.out]; rfl, hB3⟩)
          clear hT3 hT2 hB3
          go_wp2_with fail
          go_roundw
          case rel => exact ⟨i + 1, j + 1, _, rfl, by omega, by omega, by go_num, by go_num, HI2⟩
          case measure => simp [intOf]; omega
        · have hI : DfZ w W2 base g m c (j + 1) i bf L := by
            have hf := HFS.out
            rw [if_neg (by rw [HBO.out]; decide), List.append_nil] at hf
            exact ⟨⟨mid ++ [x], by simp, by rw [hf, ← HDN.out]; exact hT2⟩, by rw [hf]; exact HLEN.out, hB2⟩
          have HI2 := Lib.hid hI
          clear hI hT2
          go_wp2_with fail
          go_roundw
          case rel => exact ⟨i, j + 1, _, rfl, by omega, by omega, rfl, by go_num, HI2⟩
          case measure => simp [intOf]; omega
      · have hjm : m = j := by omega
        subst hjm
        have hLm : L.take m = L := by rw [HM.out, List.take_length]
        have hdr : L.drop m = [] := by rw [HM.out, List.drop_length]
        rw [hLm, hdr, List.append_nil] at hT
        rw [hLm] at hlen
        have hcap := hT.cap
        have hcm : c ≤ 9223372036854775807 := by
          rcases hT.form with ⟨e, _⟩ | ⟨_, _, _, _, _, _, _, h3, _⟩
          · cases e
          · simp only [maxLen] at h3; omega
        obtain ⟨Wc, hcl, hT4, hg4⟩ : ∃ Wc, (∀ ty, (Builtin.clear_ #[40] ty #[.slice (some ⟨g, i, none⟩) (m - i) (c - i)]).run Try.prog wr = .ok (.tuple #[]) Wc) ∧ Zo Wc base (some ⟨g, 0, none⟩) i c (L.filter fun x => !bf x) ∧ wr.grownBy Wc (some g) := by
          obtain ⟨Wc, h5, h6, h7⟩ := run_clearZ 0 (c - i) hT (k := i) (by rw [List.length_append, hlen]; have := List.length_pos_iff.2 hmid; omega)
          rw [List.take_append_of_le_length (by omega), List.take_of_length_le (by omega)] at h6
          exact ⟨Wc, fun ty => h5, h6, h7⟩
        have hB3 : But g w Wc := hB.trans ⟨hg4.os, hg4.tape, hg4.output, hg4.size, fun k hk hne => hg4.block k hk (fun e => hne (Option.some.inj e))⟩
        have hci : ¬ (c = i) := by omega
        have hil : i ≤ m := by omega
        clear hT hlen hTl hg4 HI hLm hdr
        go_wp2_with fail
        go_ret
        exact ⟨i, rfl, hT4, hB3⟩
  · have hfl : (L.filter fun x => !bf x) = L := by
      refine List.filter_eq_self.2 fun x hx => ?_
      obtain ⟨j, hj, rfl⟩ := List.getElem_of_mem hx
      have := hall j hj
      rw [show L.getD j 0 = L[j] by simp [List.getD, hj]] at this
      rw [this]; rfl
    go_wp2_with fail
    go_ret
    exact ⟨m, rfl, by rw [hfl]; exact h1, b1⟩
end Go.Proofs.Ytolalbpjaebfdaa
