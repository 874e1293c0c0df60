/-
  BitmapBits, walked.
-/
import Derived.Test.YtehcijockeecpaaDoorRfAl
import Derived.Test.YtehcijockeecpaaDoorHD
namespace Go.Proofs.YtehcijockeecpaaDoor
open Go.RowKit
set_option linter.unusedVariables false
set_option linter.unusedSimpArgs false

set_option maxRecDepth 100000 in
set_option maxHeartbeats 4000000 in
theorem lbits_walk (A : Option Addr) (m cap : Nat) (f : Nat → Ins) (arch : Int) (w : World) (hK : HK w) (hA : Ri w w.heap.size A m f) (hm : m ≤ 300) (b e : Int)
    (CB : ∀ V A' c', HK V → Ri V V.heap.size A' m f → m ≤ c' → Calls Tryd.prog 11 #[.slice A' m c', .int .u32 arch] V fun x w' => x = .returned (.tuple #[.int .u64 b, .int .i64 e]) ∧ Below V.heap.size V w')
    (CR : ∀ V, Below w.heap.size w V → Calls Tryd.prog 12 #[.slice A m cap, .int .u32 arch] V fun x w' => x = .returned (.tuple #[.int .u64 b, .int .i64 e]) ∧ Below V.heap.size V w') :
    Calls Tryd.prog 4 #[.slice A m cap, .int .u32 arch] w fun e w' => e = .returned (.bool true) ∧ Below w.heap.size w w' := by
  have W := wakes7_any _ hK
  have hb' : ¬ (300 : Int) < m := by omega
  have ob : (b == b) = true := by simp
  have oe : (e == e) = true := by simp
  go_enter Tryd.func4, Tryd.ntmps4
  go_wp2_with fail
  refine W.mono ?_
  rintro x w1 ⟨rfl, b1⟩
  clear W
  have hg1 := heap_alloc_new w1 (.cells #[] 51)
  have B1 := b1.alloc b1.size (.cells #[] 51)
  have hA1 := hA.below B1 (Nat.le_refl _)
  have hs1 := b1.size
  go_wp2_with (at_builtin; with_reducible refine wpList_few rfl (.tmp 15) (.tmp 16) rfl w1.heap.size rfl hg1 A w.heap.size m cap f rfl hA1 hm ?_; intro A2 c2 w2 ho hb2)
  have B2 : Below w.heap.size w w2 := B1.trans (hb2.mono hs1)
  obtain ⟨r2, hc2⟩ := ri_of_own ho hA.ok
  refine (CB w2 A2 c2 (hK.below B2 (Nat.le_refl _)) r2 hc2).mono ?_
  rintro x w3 ⟨rfl, b3⟩
  have B3 := B2.trans (b3.mono B2.size)
  clear CB hg1 B1 hA1 hs1 hb2 ho r2 hc2 b3 B2 b1
  go_wp2_with fail
  refine (CR w3 B3).mono ?_
  rintro x w4 ⟨rfl, b4⟩
  have B4 := B3.trans (b4.mono B3.size)
  clear CR b4 B3
  go_wp2_with fail
  go_ret
  exact ⟨rfl, B4⟩
set_option maxHeartbeats 1000000 in
theorem lbits_big (A : Option Addr) (l cap : Nat) (arch : Int) (w : World) (hK : HK w) (hbig : 300 < l) :
    Calls Tryd.prog 4 #[.slice A l cap, .int .u32 arch] w fun e w' => e = .returned (.bool true) ∧ Below w.heap.size w w' := by
  have hb' : (300 : Int) < l := by omega
  have W := wakes7_any _ hK
  go_enter Tryd.func4, Tryd.ntmps4
  go_wp2_with fail
  refine W.mono ?_
  rintro e w1 ⟨rfl, b1⟩
  clear W
  go_wp2_with fail
  go_ret
  exact ⟨rfl, b1⟩
theorem bitmapBits_any (A : Option Addr) (m cap : Nat) (f : Nat → Ins) (arch : Int) (w : World) (hK : HK w) (hA : Ri w w.heap.size A m f) (hcap : m ≤ cap) (har : U32 arch) :
    Calls Tryd.prog 4 #[.slice A m cap, .int .u32 arch] w fun e w' => e = .returned (.bool true) ∧ Below w.heap.size w w' := by
  by_cases hm : m ≤ 300
  · obtain ⟨⟨r1, r2⟩, hr⟩ : ∃ r, chkI f m = r := ⟨_, rfl⟩
    by_cases h0 : r2 = 0
    · have hM : May f m := may_chk (by rw [hr]; exact h0)
      refine lbits_walk A m cap f arch w hK hA hm _ _ (fun V A' c' hKV hAV hc => bits_ok A' m c' f arch har V hKV hAV hc hM) (fun V hV => ?_)
      exact rbits_ok A m cap f arch har V (hK.below hV (Nat.le_refl _)).k ((hA.below hV (Nat.le_refl _)).more hV.size) hcap hM
    · refine lbits_walk A m cap f arch w hK hA hm _ _ (fun V A' c' hKV hAV hc => bits_no A' m c' f arch V hKV hAV r1 r2 hr h0) (fun V hV => ?_)
      exact rbits_no A m cap f arch V ((hA.below hV (Nat.le_refl _)).more hV.size) r1 r2 hr h0
  · exact lbits_big A m cap arch w hK (by omega)
theorem u32_wf {x : Int} (h : (Lit.int .u32 x).wf = true) : U32 x := by
  simp [Lit.wf, IntKind.min, IntKind.max, IntKind.signed, IntKind.bits] at h
  unfold U32
  omega
theorem bitmapBits_all (A : Option Addr) (m cap : Nat) (f : Nat → Ins) (arch : Int) (w : World) (hK : HK w) (hA : Ri w w.heap.size A m f) (hcap : m ≤ cap) (har : (Lit.int .u32 arch).wf = true) :
    Calls Tryd.prog 4 #[.slice A m cap, .int .u32 arch] w fun e w' => e = .returned (.bool true) ∧ Below w.heap.size w w' := bitmapBits_any A m cap f arch w hK hA hcap (u32_wf har)
end Go.Proofs.YtehcijockeecpaaDoor
