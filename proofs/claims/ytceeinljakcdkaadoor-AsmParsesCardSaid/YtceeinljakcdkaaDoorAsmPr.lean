/-
  AsmParses: the walk.
-/
import Derived.Test.YtceeinljakcdkaaDoorAsmWk
import Derived.Test.YtceeinljakcdkaaDoorAsmSr
import Derived.Test.YtceeinljakcdkaaDoorAsmBk
import Derived.Test.YtceeinljakcdkaaDoorRefSame
import Derived.Test.YtceeinljakcdkaaDoorTxtO
namespace Go.Proofs.YtceeinljakcdkaaDoor
open Go.RowKit Go.Shelf

theorem cut_bs9 (s : ByteArray) (n : Nat) : s.extract 0 (min (s.size : Int) (n : Int)).toNat = bs (s.data.toList.take n) := by
  rw [take_bs]
  congr 1
  have h := Lib.size_eq s
  by_cases hn : s.size ≤ n
  · rw [List.take_of_length_le (by omega), List.take_of_length_le (by omega)]
  · congr 1
    omega
theorem parse_rows (l : List UInt8) : (parseB l).1.length ≤ 255 ∧ ∀ q ∈ (parseB l).1, insO q := by
  by_cases h : l.length ≤ 8192
  · rcases text_cases l h with ⟨qs, e, h1, h2, _⟩ | ⟨p, e, _⟩
    · rw [e]; exact ⟨h1, h2⟩
    · rw [e]; exact ⟨by simp, by simp⟩
  · unfold parseB
    rw [if_pos (by omega)]
    exact ⟨by simp, by simp⟩
def insC8 (c a b k : Int) : Array Value := #[.int .u16 c, .int .u8 a, .int .u8 b, .int .u32 k]
theorem celA_flat9 (acc : List Ins) : celA acc = (List.range acc.length).flatMap fun k => celI (acc.getD k insD) := by
  conv => lhs; rw [← rowF_get acc]
  simp [celA, rowF, List.flatMap_map]
set_option maxRecDepth 100000 in
set_option maxHeartbeats 16000000 in
theorem asmParses_any (A : Option Addr) (n cap : Nat) (f : Nat → ByteArray) (w : World) (hT : T8 w) (hA : Txts w w.heap.size A n f) (hn : n ≤ maxLen) :
    Calls Tryd.prog 4 #[.slice A n cap] w fun e w' => e = .returned (.bool true) ∧ Below w.heap.size w w' := by
  have hwk := wakes8_any w hT
  have hn' : n ≤ 9223372036854775807 := hn
  clear hn
  go_enter Tryd.func4, Tryd.ntmps4
  go_wp2_with (go_at_call 7; refine hwk.mono ?_; rintro e w1 ⟨rfl, b1⟩; refine Hid.out ?_)
  refine Lib.hid ?_
  clear hwk
  go_wp2
  go_loopw [19] (fun i wr => ∃ k : Nat, k ≤ n ∧ i = .int .i64 k ∧ Below w.heap.size w wr) (fun i _ => n - (intOf i).toNat)
  case atStart => exact ⟨0, Nat.zero_le _, rfl, b1⟩
  case round =>
    obtain ⟨k, hk, rfl, hb⟩ := hrel
    obtain ⟨wo, rfl⟩ : ∃ wo : World, wo = wr := ⟨_, rfl⟩
    have hT1 := hT.new hb
    by_cases hlt : k < n
    · have hlt' : (k : Int) < n := by omega
      obtain ⟨b, off, rfl, _, hc, hsm⟩ := hA.below hb (Nat.le_refl _) k hlt
      by_cases h10 : k = 10
      · subst h10
        go_wp2_with fail
        go_ret
        exact ⟨rfl, hb⟩
      · have h10' : ((k : Int) == 10) = false := by simp; omega
        generalize f k = S at hc hsm
        have hx1 : S.extract 0 (min (S.size : Int) 8193).toNat = bs (S.data.toList.take 8193) := cut_bs9 S 8193
        have hXl : (S.data.toList.take 8193).length ≤ 8193 := by simp; omega
        generalize S.data.toList.take 8193 = X at hx1 hXl
        have hx2 : (bs X).extract 0 (min ((bs X).size : Int) 40).toNat = bs (X.take 40) := by
          have := cut_bs9 (bs X) 40
          rwa [bs_list] at this
        have hYl : (X.take 40).length ≤ 40 := by simp; omega
        have hp := fun w hT => parse_any (bs X) w hT
        have hr := fun w => rparse_any X w
        rw [bs_list] at hp
        obtain ⟨hq1, hq2⟩ := parse_rows X
        have hcf := celA_flat9 (parseB X).1
        generalize parseB X = PB at hp hr hq1 hq2 hcf
        obtain ⟨Q, sp, er⟩ := PB
        simp only at hp hr hq1 hq2 hcf
        rw [hcf] at hp hr
        generalize X.take 40 = Y at hx2 hYl
        have ho1 := fun w hT => one_any (bs Y) (by rw [bs_size]; omega) w hT
        have ho2 := fun w => rone_any Y (by omega) w
        rw [bs_list] at ho1
        have HX := Lib.hid hx2
        clear hYl hXl hcf
        go_wp2_with (go_at_call 15; refine (hp _ hT1).mono ?_; rintro e w2 ⟨A2, c2, rfl, b2, o2⟩; refine Hid.out ?_)
        refine Lib.hid ?_
        have hok : ∀ j, j < Q.length → insO (Q.getD j insD) := fun j hj => by
          have : Q.getD j insD = Q[j] := by simp [List.getD, hj]
          rw [this]
          exact hq2 _ (List.getElem_mem hj)
        have g2 := (ri_of_own o2 hok).1
        have B2 := hb.trans (b2.mono hb.size)
        clear hp b2 o2 hT1 hx1
        go_wp2_with (go_at_call 16; refine (hr _).mono ?_; rintro e w3 ⟨v3, rfl, o3, b3⟩; refine Hid.out ?_)
        refine Lib.hid ?_
        obtain ⟨A3, c3, rfl⟩ := own_slice8 o3
        have g3 := (ri_of_own o3 hok).1
        have B3 := B2.trans (b3.mono B2.size)
        have hsame := refsameI_true A2 A3 Q.length c2 c3 w2.heap.size w3.heap.size _ _ w3 (g2.below b3 (Nat.le_refl _)) g3 (fun _ _ => rfl) (by omega)
        clear hr b3 o3 g2 g3 B2 hok hq1 hq2 hb
        go_wp2_with (go_at_call 13; refine hsame.mono ?_; rintro e w4 ⟨rfl, b4⟩; refine Hid.out ?_)
        refine Lib.hid ?_
        have B4 := B3.trans (b4.mono B3.size)
        have hT4 := hT.new B4
        have hx3 := HX.out
        clear hsame b4 B3
        generalize oneB Y = o at ho1 ho2
        obtain ⟨q, hqv⟩ : ∃ q : Ins, oneV o = valI q := by
          cases o with
          | none => exact ⟨(0, 0, 0, 0), rfl⟩
          | some q => exact ⟨q, rfl⟩
        rw [hqv] at ho1 ho2
        have hfin : (oneE o = 0 ∧ o.isSome = true) ∨ (oneE o = 180 ∧ o.isSome = false) := by
          cases o with
          | none => exact .inr ⟨rfl, rfl⟩
          | some q => exact .inl ⟨rfl, rfl⟩
        generalize oneE o = oe at ho1 hfin
        generalize o.isSome = oi at ho2 hfin
        have hneq := run_neq_ins q q
        simp only [decide_true, Bool.not_true] at hneq
        clear hqv
        have hone1 := ho1 w4 hT4
        obtain ⟨cq, aq, bq, kq⟩ := q
        simp only [valI, insV, celI] at hone1 ho2 hneq
        go_wp2_with (go_at_call 17; refine hone1.mono ?_; rintro e w5 ⟨rfl, b5⟩; refine Hid.out ?_)
        refine Lib.hid ?_
        have B5 := B4.trans (b5.mono B4.size)
        have k5 := Blk.new w5 (insC8 cq aq bq kq) 32
        have B6 : Below w.heap.size w (w5.alloc (.cells (insC8 cq aq bq kq) 32)) := B5.alloc B5.size _
        unfold insC8 at k5 B6
        clear hone1 b5 ho1 B4 hT4
        go_wp2_with (go_at_call 18; refine (ho2 _).mono ?_; rintro e w7 ⟨rfl, b7⟩; refine Hid.out ?_)
        refine Lib.hid ?_
        have k7 := k5.below b7 k5.lt
        have B7 := B6.trans (b7.mono B6.size)
        have k8 := k7.alloc (.cells (insC8 cq aq bq kq) 32)
        have m8 := Blk.new w7 (insC8 cq aq bq kq) 32
        have B8 : Below w.heap.size w (w7.alloc (.cells (insC8 cq aq bq kq) 32)) := B7.alloc B7.size _
        unfold insC8 at k8 m8 B8
        clear b7 k5 k7 B5 B6 ho2
        rcases hfin with ⟨rfl, rfl⟩ | ⟨rfl, rfl⟩
        · go_wp2_with (first
            | (refine wpList_load_in8 rfl (.tmp 12) rfl w5.heap.size rfl _ rfl k8 ?_)
            | (refine wpList_load_in8 rfl (.tmp 13) rfl w7.heap.size rfl _ rfl m8 ?_))
          go_roundw
          case rel => exact ⟨k + 1, by omega, by go_num, B8⟩
          case measure => simp [intOf]; omega
        · go_wp2_with (first
            | (refine wpList_load_in8 rfl (.tmp 12) rfl w5.heap.size rfl _ rfl k8 ?_)
            | (refine wpList_load_in8 rfl (.tmp 13) rfl w7.heap.size rfl _ rfl m8 ?_))
          go_roundw
          case rel => exact ⟨k + 1, by omega, by go_num, B8⟩
          case measure => simp [intOf]; omega
    · obtain rfl : k = n := by omega
      go_wp2_with fail
      go_ret
      exact ⟨rfl, hb⟩
end Go.Proofs.YtceeinljakcdkaaDoor
