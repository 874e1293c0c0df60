/-
  AsmBack: the walk.
-/
import Derived.Test.YtceeinljakcdkaaDoorAsmWk
import Derived.Test.YtceeinljakcdkaaDoorAsmBk
import Derived.Test.YtceeinljakcdkaaDoorAsmFew
import Derived.Test.YtceeinljakcdkaaDoorCkStore
namespace Go.Proofs.YtceeinljakcdkaaDoor
open Go.RowKit Go.Shelf

def mixF (f : Nat → Ins) (k : Nat) : Nat → Ins := fun i => if i < k then bareI (f i) else f i
theorem mix_zero (f : Nat → Ins) : mixF f 0 = f := by
  funext i
  simp [mixF]
theorem mix_put (f : Nat → Ins) (k m : Nat) : ∀ j, j < m → putI (mixF f k) k (bareI (f k)) j = mixF f (k + 1) j := by
  intro j _
  unfold putI mixF
  by_cases h : j = k
  · subst h
    simp
  · rw [if_neg h]
    by_cases h2 : j < k
    · rw [if_pos h2, if_pos (by omega)]
    · rw [if_neg h2, if_neg (by omega)]
theorem mix_ok {f : Nat → Ins} {n k : Nat} (h : ∀ j, j < n → insO (f j)) : ∀ j, j < n → insO (mixF f k j) := fun j hj => by
  unfold mixF
  split
  · exact bare_okI (h j hj)
  · exact h j hj
theorem celA_flat (acc : List Ins) : celA acc = (List.range acc.length).flatMap fun k => celI (acc.getD k insD) := by
  conv => lhs; rw [← rowF_get acc]
  simp [celA, rowF, List.flatMap_map]
theorem min_bs8 (s : ByteArray) : s.extract 0 (min (s.size : Int) 8192).toNat = bs (s.data.toList.take 8192) := by
  rw [take_bs]
  congr 1
  have h := Lib.size_eq s
  by_cases hn : s.size ≤ 8192
  · rw [List.take_of_length_le (by omega), List.take_of_length_le (by omega)]
  · congr 1
    omega
/-- What is left of the call, once the text is at hand: it is read, and written again. -/
theorem back_text (l : List UInt8) (hl : l.length ≤ 8192) :
    (∃ qs : List Ins, (∀ W, T8 W → Calls Tryd.prog 15 #[.string (bs l)] W fun e w' => ∃ A c, e = .returned (.tuple #[.slice A qs.length c, .int .i64 0, .int .i64 0]) ∧ Below W.heap.size W w' ∧
        ∀ V, Below w'.heap.size w' V → Calls Tryd.prog 9 #[.slice A qs.length c] V fun e V' => e = .returned (.tuple #[.string (bs l), .int .i64 0]) ∧ Below V.heap.size V V') ∧ True) ∨
      ∃ p : Nat, p < l.length ∧ ∀ W, T8 W → Calls Tryd.prog 15 #[.string (bs l)] W fun e w' => (∃ A c, e = .returned (.tuple #[.slice A 0 c, .int .i64 p, .int .i64 180])) ∧ Below W.heap.size W w' := by
  rcases text_cases l hl with ⟨qs, h1, h2, h3, h4⟩ | ⟨p, h1, h2⟩
  · refine .inl ⟨qs, fun W hW => ?_, trivial⟩
    have hp := parse_any (bs l) W hW
    rw [bs_list, h1] at hp
    refine hp.mono ?_
    rintro e w' ⟨A, c, rfl, hb, ho⟩
    refine ⟨A, c, rfl, hb, fun V hV => ?_⟩
    rw [celA_flat] at ho
    have hR := (ri_of_own ho (fun k hk => by
      have : qs.getD k insD = qs[k] := by simp [List.getD, hk]
      rw [this]
      exact h3 _ (List.getElem_mem hk))).1
    have hpr := print_any A qs.length c (fun k => qs.getD k insD) (by omega) V ((hW.new hb).new hV) ((hR.below hV (Nat.le_refl _)).more hV.size)
    rw [h4] at hpr
    exact hpr
  · refine .inr ⟨p, h2, fun W hW => ?_⟩
    have hp := parse_any (bs l) W hW
    rw [bs_list, h1] at hp
    refine hp.mono ?_
    rintro e w' ⟨A, c, rfl, hb, ho⟩
    exact ⟨⟨A, c, rfl⟩, hb⟩
set_option maxRecDepth 100000 in
set_option maxHeartbeats 16000000 in
theorem asmBack_any (A : Option Addr) (n c : Nat) (f : Nat → Ins) (s : ByteArray) (w : World) (hT : T8 w) (hA : Ri w w.heap.size A n f) (hc : n ≤ c) :
    Calls Tryd.prog 5 #[.slice A n c, .string s] w fun e w' => e = .returned (.bool true) ∧ Below w.heap.size w w' := by
  have hwk := wakes8_any w hT
  obtain ⟨m, hm⟩ : ∃ m, m = min n 256 := ⟨_, rfl⟩
  have hmn : m ≤ n := by omega
  have hm3 : m ≤ 256 := by omega
  have hok : ∀ k, k < m → insO (f k) := fun k hk => hA.ok k (by omega)
  have hxt := min_bs8 s
  have hxl : (s.data.toList.take 8192).length ≤ 8192 := by simp; omega
  go_enter Tryd.func5, Tryd.ntmps5
  go_wp2_with (go_at_call 7; refine hwk.mono ?_; rintro e w1 ⟨rfl, hb1⟩; refine Hid.out ?_)
  refine Lib.hid ?_
  have hfew := few8_any A n c f w1 ((hA.below hb1 (Nat.le_refl _)).more hb1.size) hc m hm
  clear hwk hm
  go_wp2_with (go_at_call 8; refine hfew.mono ?_; rintro e w2 ⟨A1, c1, rfl, ho, hb2⟩; refine Hid.out ?_)
  refine Lib.hid ?_
  have hB2 : Below w.heap.size w w2 := hb1.trans (hb2.mono hb1.size)
  have hz1 := hb1.size
  clear hfew hA hmn hc
  go_wp2
  go_loopw [21] (fun i wr => ∃ k : Nat, k ≤ m ∧ i = .int .i64 k ∧ wr.ownsRow w1.heap.size 32 4 (.slice A1 m c1) m (flatI (mixF f k) m) ∧ Below w.heap.size w wr) (fun i _ => m - (intOf i).toNat)
  case atStart => exact ⟨0, Nat.zero_le _, rfl, by rw [mix_zero]; exact ho, hB2⟩
  case round =>
    obtain ⟨k, hk, rfl, hown, hB⟩ := hrel
    by_cases hlt : k < m
    · have hR := (ri_of_own (f := mixF f k) hown (mix_ok hok)).1
      obtain ⟨g, c', hv, hg, _⟩ := own_head hown (by omega)
      injection hv with hA1 _ hcc
      subst hA1
      obtain rfl := hcc.symm
      obtain ⟨b, off, hbo, hbl, ⟨p0, p1, p2, p3⟩, hq⟩ := hR k hlt
      injection hbo with hbo
      injection hbo with e1 e2 _
      subst e1 e2
      have e3 : mixF f k k = f k := by simp [mixF]
      rw [e3] at p0 p1 p2 p3 hq
      simp only [Nat.zero_add] at p0 p1 p2 p3
      have hlt' : (k : Int) < m := by omega
      have hput := Lib.hid (mix_put f k m)
      obtain ⟨q, hqe⟩ : ∃ q, f k = q := ⟨_, rfl⟩
      rw [hqe] at p0 p1 p2 p3 hput
      obtain ⟨c0, a0, b0, d0⟩ := q
      have hbare := bare_any c0 a0 b0 d0 wr (hT.new hB).kinds
      simp only [insV] at hbare
      have HX := Lib.hid hxt
      clear hqe hq hR hxl e3 ho hb2 hxt
      go_wp2_with (first
        | (go_at_call 19; refine hbare.mono ?_; rintro e w3 ⟨rfl, hb3⟩; refine Hid.out ?_))
      refine Lib.hid ?_
      have ho3 := ownsRow_below hown hb3 (Nat.le_refl _)
      have hB3 := hB.trans (hb3.mono hB.size)
      clear hbare p0 p1 p2 p3 hown
      go_wp2_with (refine wpList_store_ins rfl (.tmp 31) (.tmp 30) rfl w1.heap.size m _ g k _ (mixF f k) (bareI (c0, a0, b0, d0)) rfl (by omega) rfl ho3 hlt ?_; intro w4 ho4 hb4)
      go_roundw
      case rel => exact ⟨k + 1, by omega, by go_num, by rw [← flatI_congr hput.out]; exact ho4, hB3.trans (hb4.mono hz1)⟩
      case measure => simp [intOf]; omega
    · obtain rfl : k = m := by omega
      have hFo : ∀ j, j < k → insO (bareI (f j)) := fun j hj => bare_okI (hok j hj)
      have hown' : wr.ownsRow w1.heap.size 32 4 (.slice A1 k c1) k ((List.range k).flatMap fun j => celI (bareI (f j))) := by
        have := flatI_congr (f := mixF f k) (f' := fun j => bareI (f j)) (m := k) (fun j hj => by simp [mixF, hj])
        unfold flatI at this hown
        rw [← this]
        exact hown
      have hR := (ri_of_own (f := fun j => bareI (f j)) hown' hFo).1
      have hpr := print_any A1 k c1 (fun j => bareI (f j)) (by omega) wr (hT.new hB) hR
      obtain ⟨V, hV⟩ : ∃ V, prV (fun j => bareI (f j)) k = V := ⟨_, rfl⟩
      rw [hV] at hpr
      clear hown ho hown' hb2
      by_cases hE : V.2 = 0
      · rw [hE] at hpr
        have hpar : parseB V.1 = (rowF (fun j => bareI (f j)) k, 0, 0) := by rw [← hV]; exact parse_text hFo (by rw [hV]; exact hE)
        have hcn : Lib.countByte V.1 10 = k := by rw [← hV]; exact count_print (by rw [hV]; exact hE)
        clear hV hE
        go_wp2_with (go_at_call 9; refine hpr.mono ?_; rintro e w3 ⟨rfl, hb3⟩; refine Hid.out ?_)
        refine Lib.hid ?_
        have hB3 := hB.trans (hb3.mono hB.size)
        have hp := parse_any (bs V.1) w3 (hT.new hB3)
        rw [bs_list, hpar, rowF_len] at hp
        have hct := fun w => count_any (bs V.1) 10 w
        rw [bs_list, hcn] at hct
        clear hpr hpar hcn
        go_wp2_with (go_at_call 15; refine hp.mono ?_; rintro e w4 ⟨A4, c4, rfl, hb4, ho4⟩; refine Hid.out ?_)
        refine Lib.hid ?_
        have hB4 := hB3.trans (hb4.mono hB3.size)
        have hR4 := (ri_of_own (f := fun j => bareI (f j)) (by simpa [celA, rowF, List.flatMap_map] using ho4) hFo).1
        have heq := equalI_true A1 A4 k c1 c4 _ _ (fun j => bareI (f j)) (fun j => bareI (f j)) w4 ((hR.below hb3 (Nat.le_refl _)).below hb4 hb3.size) hR4 (fun _ _ => rfl) (by omega)
        clear hp ho4 hR4
        go_wp2_with (first
          | (go_at_call 20; refine heq.mono ?_; rintro e w5 ⟨rfl, hb5⟩)
          | (go_at_call 21; refine (hct _).mono ?_; rintro e w' ⟨rfl, e1⟩; obtain rfl := e1.symm)
          | (go_at_call 15; refine Hid.out ?_))
        refine Lib.hid ?_
        have hB5 := hB4.trans (hb5.mono hB4.size)
        have hxl' : (s.data.toList.take 8192).length ≤ 8192 := by simp; omega
        generalize s.data.toList.take 8192 = xs at hxl' ⊢
        rcases back_text xs hxl' with ⟨qs, hq, _⟩ | ⟨p, hp, hq⟩
        · refine (hq _ (hT.new hB5)).mono ?_
          rintro e w7 ⟨A7, c7, rfl, hb7, hpn⟩
          have hpr7 := hpn w7 (Below.refl _ _)
          clear hpn hq
          go_wp2_with (go_at_call 9; refine hpr7.mono ?_; rintro e w8 ⟨rfl, hb8⟩)
          go_ret
          exact ⟨rfl, hB5.trans ((hb7.trans (hb8.mono hb7.size)).mono hB5.size)⟩
        · refine (hq _ (hT.new hB5)).mono ?_
          rintro e w7 ⟨⟨A7, c7, rfl⟩, hb7⟩
          have hp' : (p : Int) < ((bs xs).size : Int) := by rw [bs_size]; omega
          have hp0 : (0 : Int) ≤ (p : Int) := by omega
          go_wp2
          go_ret
          exact ⟨rfl, hB5.trans (hb7.mono hB5.size)⟩
      · have hbadc := containsF_any A1 k c1 (fun j => bareI (f j)) (by omega)
        have hE' : ¬ (V.2 = 0) := hE
        have h3 : (¬ badP (fun j => bareI (f j)) k) → V.2 = 3 := fun h => by
          rw [← hV]
          refine prV_bad (by rw [hV]; exact hE) (fun j hj => ?_)
          exact hasL_bare (fun hlt => h ⟨j, hj, hlt⟩)
        have H3 := Lib.hid h3
        clear hV hE h3
        go_wp2_with (go_at_call 9; refine hpr.mono ?_; rintro e w3 ⟨rfl, hb3⟩; refine Hid.out ?_)
        refine Lib.hid ?_
        have hB3 := hB.trans (hb3.mono hB.size)
        have hcf := hbadc w3 (hT.new hB3).kinds ((hR.below hb3 (Nat.le_refl _)).more hb3.size)
        clear hpr hbadc
        go_wp2_with (go_at_call 22; refine hcf.mono ?_; rintro e w4 ⟨⟨r, rfl, hr⟩, hb4⟩; refine Hid.out ?_)
        refine Lib.hid ?_
        have hB4 := hB3.trans (hb4.mono hB3.size)
        have HR := Lib.hid hr
        clear hcf hr
        cases r with
        | true =>
          go_wp2_with (go_at_call 15; refine Hid.out ?_)
          refine Lib.hid ?_
          have hxl' : (s.data.toList.take 8192).length ≤ 8192 := by simp; omega
          generalize s.data.toList.take 8192 = xs at hxl' ⊢
          rcases back_text xs hxl' with ⟨qs, hq, _⟩ | ⟨p, hp, hq⟩
          · refine (hq _ (hT.new hB4)).mono ?_
            rintro e w7 ⟨A7, c7, rfl, hb7, hpn⟩
            have hpr7 := hpn w7 (Below.refl _ _)
            clear hpn hq
            go_wp2_with (go_at_call 9; refine hpr7.mono ?_; rintro e w8 ⟨rfl, hb8⟩)
            go_ret
            exact ⟨rfl, hB4.trans ((hb7.trans (hb8.mono hb7.size)).mono hB4.size)⟩
          · refine (hq _ (hT.new hB4)).mono ?_
            rintro e w7 ⟨⟨A7, c7, rfl⟩, hb7⟩
            have hp' : (p : Int) < ((bs xs).size : Int) := by rw [bs_size]; omega
            have hp0 : (0 : Int) ≤ (p : Int) := by omega
            go_wp2
            go_ret
            exact ⟨rfl, hB4.trans (hb7.mono hB4.size)⟩
        | false =>
          have hv3 : V.2 = 3 := H3.out (fun h => by have := HR.out.2 h; cases this)
          rw [hv3]
          go_wp2_with (go_at_call 15; refine Hid.out ?_)
          refine Lib.hid ?_
          have hxl' : (s.data.toList.take 8192).length ≤ 8192 := by simp; omega
          generalize s.data.toList.take 8192 = xs at hxl' ⊢
          rcases back_text xs hxl' with ⟨qs, hq, _⟩ | ⟨p, hp, hq⟩
          · refine (hq _ (hT.new hB4)).mono ?_
            rintro e w7 ⟨A7, c7, rfl, hb7, hpn⟩
            have hpr7 := hpn w7 (Below.refl _ _)
            clear hpn hq
            go_wp2_with (go_at_call 9; refine hpr7.mono ?_; rintro e w8 ⟨rfl, hb8⟩)
            go_ret
            exact ⟨rfl, hB4.trans ((hb7.trans (hb8.mono hb7.size)).mono hB4.size)⟩
          · refine (hq _ (hT.new hB4)).mono ?_
            rintro e w7 ⟨⟨A7, c7, rfl⟩, hb7⟩
            have hp' : (p : Int) < ((bs xs).size : Int) := by rw [bs_size]; omega
            have hp0 : (0 : Int) ≤ (p : Int) := by omega
            go_wp2
            go_ret
            exact ⟨rfl, hB4.trans (hb7.mono hB4.size)⟩
end Go.Proofs.YtceeinljakcdkaaDoor
