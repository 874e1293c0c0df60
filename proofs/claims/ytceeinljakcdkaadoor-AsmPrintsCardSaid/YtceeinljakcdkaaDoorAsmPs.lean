/-
  AsmPrints: the walk.
-/
import Derived.Test.YtceeinljakcdkaaDoorAsmWk
import Derived.Test.YtceeinljakcdkaaDoorAsmTx
import Derived.Test.YtceeinljakcdkaaDoorAsmFew
import Derived.Test.YtceeinljakcdkaaDoorRefSame
import Derived.Test.YtceeinljakcdkaaDoorRowsI
namespace Go.Proofs.YtceeinljakcdkaaDoor
open Go.RowKit Go.Shelf

def allL (f : Nat → Ins) (k : Nat) : Bool := (List.range k).all fun j => hasL (f j)
theorem allL_succ (f : Nat → Ins) (k : Nat) : allL f (k + 1) = (allL f k && hasL (f k)) := by simp [allL, List.range_succ]
theorem allL_true {f : Nat → Ins} {k : Nat} (h : allL f k = true) : ∀ j, j < k → hasL (f j) = true := fun j hj => List.all_eq_true.1 h j (List.mem_range.2 hj)
theorem allL_false {f : Nat → Ins} {k : Nat} (h : allL f k = false) : ∃ j, j < k ∧ hasL (f j) = false := by
  simp only [allL, List.all_eq_false] at h
  obtain ⟨j, hj, hn⟩ := h
  exact ⟨j, List.mem_range.1 hj, by simpa using hn⟩
set_option maxRecDepth 100000 in
set_option maxHeartbeats 16000000 in
theorem asmPrints_any (A : Option Addr) (n cap : Nat) (R : Nat → RowJ) (w : World) (hT : T8 w) (hR : RowsI w w.heap.size A n R) (hn : n ≤ 9223372036854775807) :
    Calls Tryd.prog 3 #[.slice A n cap] w fun e w' => e = .returned (.bool true) ∧ Below w.heap.size w w' := by
  have hwk := wakes8_any w hT
  go_enter Tryd.func3, Tryd.ntmps3
  go_wp2_with (go_at_call 7; refine hwk.mono ?_; rintro e w1 ⟨rfl, b1⟩; refine Hid.out ?_)
  refine Lib.hid ?_
  clear hwk
  go_wp2
  go_loopw [18] (fun i wr => ∃ k : Nat, k ≤ n ∧ i = .int .i64 k ∧ Below w.heap.size w wr) (fun i _ => n - (intOf i).toNat)
  case atStart => exact ⟨0, Nat.zero_le _, rfl, b1⟩
  case round =>
    obtain ⟨k, hk, rfl, hb⟩ := hrel
    have R1 := hR.below hb
    obtain ⟨wo, rfl⟩ : ∃ wo : World, wo = wr := ⟨_, rfl⟩
    have hT1 := hT.new hb
    by_cases hlt : k < n
    · have hlt' : (k : Int) < n := by omega
      obtain ⟨b, off, rfl, _, hc, hr, h2, h3⟩ := R1 k hlt
      obtain ⟨⟨a, l, c, f⟩, hq⟩ : ∃ q : RowJ, R k = q := ⟨_, rfl⟩
      rw [hq] at hc hr h2 h3
      simp only at hc hr h2 h3
      clear hq R1
      by_cases h6 : k = 6
      · subst h6
        go_wp2_with fail
        go_ret
        exact ⟨rfl, hb⟩
      · have h6' : ((k : Int) == 6) = false := by simp; omega
        have r0 := hr.more hb.size
        clear hr
        obtain ⟨m, hm⟩ : ∃ m, m = min l 256 := ⟨_, rfl⟩
        have HF := Lib.hid (fun w (hA : Ri w w.heap.size a l f) => few8_any a l c f w hA h2 m hm)
        have hO : ∀ j, j < m → insO (f j) := fun j (hj : j < m) => r0.ok j (by omega)
        have hm256 : m ≤ 256 := by omega
        clear hm
        go_wp2_with (go_at_call 8; refine (HF.out _ r0).mono ?_; rintro e w2 ⟨A2, c2, rfl, o2, b2⟩; refine Hid.out ?_)
        refine Lib.hid ?_
        have p2 := (ri_of_own o2 hO).1
        have B2 := hb.trans (b2.mono hb.size)
        have r2 := (r0.below b2 (Nat.le_refl _)).more b2.size
        clear o2 b2 r0
        go_wp2_with (go_at_call 8; refine (HF.out _ r2).mono ?_; rintro e w3 ⟨A3, c3, rfl, o3, b3⟩; refine Hid.out ?_)
        refine Lib.hid ?_
        have p3 := (ri_of_own o3 hO).1
        have p2' := (p2.below b3 (Nat.le_refl _)).more b3.size
        have B3 := B2.trans (b3.mono B2.size)
        clear o3 b3 r2 HF p2 B2
        have hpr := print_any A2 m c2 f (by omega) w3 (hT.new B3) p2'
        obtain ⟨⟨V1, V2⟩, hV⟩ : ∃ V, prV f m = V := ⟨_, rfl⟩
        rw [hV] at hpr
        simp only at hpr
        have HV := Lib.hid hV
        clear hV
        go_wp2_with (go_at_call 9; refine hpr.mono ?_; rintro e w4 ⟨rfl, b4⟩; refine Hid.out ?_)
        refine Lib.hid ?_
        have p2'' := (p2'.below b4 (Nat.le_refl _)).more b4.size
        have p3' := (p3.below b4 (Nat.le_refl _)).more b4.size
        have B4 := B3.trans (b4.mono B3.size)
        clear hpr b4 p2' p3 B3 hb hT1
        have TX := Lib.hid (fun (hF : ∀ k, k < m → 0 ≤ formOf (f k).1) (w : World) hA => rtext_any A3 m c3 f (by omega) hF w hA)
        have SM := Lib.hid (fun (w : World) h h' => refsameI_true A2 A3 m c2 c3 w4.heap.size w4.heap.size f f w h h' (fun _ _ => rfl) (by omega))
        have hT4 := hT.new B4
        have hm4 : m ≤ 9223372036854775807 := by omega
        go_wp2
        go_loopw [9, 36] (fun r i wr => ∃ j : Nat, j ≤ m ∧ i = .int .i64 j ∧ r = .bool (allL f j) ∧ Below w4.heap.size w4 wr) (fun _ i _ => m - (intOf i).toNat)
        case atStart => exact ⟨0, Nat.zero_le _, rfl, rfl, Below.refl _ _⟩
        case round =>
          obtain ⟨j, hj, rfl, rfl, hbj⟩ := hrel
          by_cases hlj : j < m
          · obtain ⟨bj, offj, rfl, hbl, ⟨q0, q1, q2, q3⟩, hq⟩ := (p3'.below hbj (Nat.le_refl _)) j hlj
            have hlj' : (j : Int) < m := by omega
            have hsucc := allL_succ f j
            obtain ⟨q, hqe⟩ : ∃ q, f j = q := ⟨_, rfl⟩
            rw [hqe] at q0 q1 q2 q3 hq hsucc
            have hline := fun w hT => line_any q hq w hT
            have hright := fun w => right_any q hq w
            have hrl := Lib.hid (fun h w => rline_any q hq h w)
            have hTj := hT4.new hbj
            have BX : Below w.heap.size w wr := B4.trans (hbj.mono B4.size)
            clear hqe TX SM p3' p2'' HV hO
            by_cases hh : hasL q = true
            · have hrl' := hrl.out (hasL_form hh)
              have e1 : lineS q = bs (lineB q) := by simp [lineS, hh]
              have e2 : lineE q = 0 := by simp [lineE, hh]
              rw [e1, e2] at hline
              rw [hh] at hright hsucc
              rw [Bool.and_true] at hsucc
              have HS := Lib.hid hsucc
              clear e1 e2 hh hrl hq hsucc
              obtain ⟨cc, ca, cb, ck⟩ := q
              simp only [valI, insV] at hline hright hrl' q0 q1 q2 q3
              generalize bs (lineB (cc, ca, cb, ck)) = L at hline hrl'
              have hbx : Below wr.heap.size wr (wr.alloc (.cells #[.int .u16 cc, .int .u8 ca, .int .u8 cb, .int .u32 ck] 32)) := (Below.refl _ wr).alloc (Nat.le_refl _) _
              have kx : Blk (wr.alloc (.cells (insC cc ca cb ck) 32)) wr.heap.size (insC cc ca cb ck) 32 := Blk.new wr _ _
              have hTx := hTj.new hbx
              go_wp2_with (go_at_call 10; refine (hline _ hTx).mono ?_; rintro e v1 ⟨rfl, d1⟩; refine Hid.out ?_)
              refine Lib.hid ?_
              have k1 := kx.below d1 (by simp)
              have D1 : Below wr.heap.size wr v1 := hbx.trans (d1.mono (by simp))
              obtain ⟨x0, x1, x2, x3⟩ := ins_cells k1
              clear kx hTx hline d1 q0 q1 q2 q3 hbx
              go_wp2_with (go_at_call 11; refine (hright _).mono ?_; rintro e v2 ⟨rfl, d2⟩; refine Hid.out ?_)
              refine Lib.hid ?_
              have k2 := k1.below d2 k1.lt
              have D2 : Below wr.heap.size wr v2 := D1.trans (d2.mono D1.size)
              obtain ⟨y0, y1, y2, y3⟩ := ins_cells k2
              clear k1 hright d2 x0 x1 x2 x3 D1
              go_wp2_with (go_at_call 12; refine (hrl' _).mono ?_; rintro e v3 ⟨rfl, d3⟩; refine Hid.out ?_)
              refine Lib.hid ?_
              have D3 : Below wr.heap.size wr v3 := D2.trans (d3.mono D2.size)
              clear hrl' d3 y0 y1 y2 y3 D2 k2
              go_wp2
              go_roundw
              case rel => exact ⟨j + 1, by omega, by go_num, by rw [HS.out], hbj.trans (D3.mono hbj.size)⟩
              case measure => simp [intOf]; omega
            · have hh' : hasL q = false := by simpa using hh
              have e1 : lineS q = bs [] := by simp [lineS, hh']
              have e2 : lineE q = 2 := by simp [lineE, hh']
              rw [e1, e2] at hline
              rw [hh'] at hright hsucc
              rw [Bool.and_false] at hsucc
              have HS := Lib.hid hsucc
              clear e1 e2 hh hh' hrl hq hsucc
              obtain ⟨cc, ca, cb, ck⟩ := q
              simp only [valI, insV] at hline hright q0 q1 q2 q3
              have hbx : Below wr.heap.size wr (wr.alloc (.cells #[.int .u16 cc, .int .u8 ca, .int .u8 cb, .int .u32 ck] 32)) := (Below.refl _ wr).alloc (Nat.le_refl _) _
              have kx : Blk (wr.alloc (.cells (insC cc ca cb ck) 32)) wr.heap.size (insC cc ca cb ck) 32 := Blk.new wr _ _
              have hTx := hTj.new hbx
              have hbs : bs [] = ⟨#[]⟩ := rfl
              rw [hbs] at hline
              clear hbs
              go_wp2_with (go_at_call 10; refine (hline _ hTx).mono ?_; rintro e v1 ⟨rfl, d1⟩; refine Hid.out ?_)
              refine Lib.hid ?_
              have k1 := kx.below d1 (by simp)
              have D1 : Below wr.heap.size wr v1 := hbx.trans (d1.mono (by simp))
              obtain ⟨x0, x1, x2, x3⟩ := ins_cells k1
              clear kx hTx hline d1 q0 q1 q2 q3 hbx
              go_wp2_with (go_at_call 11; refine (hright _).mono ?_; rintro e v2 ⟨rfl, d2⟩; refine Hid.out ?_)
              refine Lib.hid ?_
              have k2 := k1.below d2 k1.lt
              have D2 : Below wr.heap.size wr v2 := D1.trans (d2.mono D1.size)
              obtain ⟨y0, y1, y2, y3⟩ := ins_cells k2
              clear k1 hright d2 x0 x1 x2 x3 D1
              go_wp2
              go_roundw
              case rel => exact ⟨j + 1, by omega, by go_num, by rw [HS.out], hbj.trans (D2.mono hbj.size)⟩
              case measure => simp [intOf]; omega
          · obtain rfl : j = m := by omega
            have p2j := p2''.below hbj (Nat.le_refl _)
            have p3j := p3'.below hbj (Nat.le_refl _)
            have BJ : Below w.heap.size w wr := B4.trans (hbj.mono B4.size)
            have q3j := p3j.more hbj.size
            clear p2'' p3' hlj
            go_wp2_with (go_at_call 13; refine (SM.out _ p2j p3j).mono ?_; rintro e v5 ⟨rfl, d5⟩; refine Hid.out ?_)
            refine Lib.hid ?_
            have B5 : Below w.heap.size w v5 := BJ.trans (d5.mono BJ.size)
            have q5 := (q3j.below d5 (Nat.le_refl _)).more d5.size
            clear SM p2j p3j q3j d5 BJ hbj hT4
            cases ha : allL f j with
            | false =>
              obtain ⟨z, hz, hzn⟩ := allL_false ha
              have hv := HV.out
              rw [prV_no hz hzn] at hv
              injection hv with hv1 hv2
              subst hv1 hv2
              have hbs : bs [] = ⟨#[]⟩ := rfl
              rw [hbs]
              clear hz hzn TX HV q5
              go_wp2
              go_roundw
              case rel => exact ⟨k + 1, by omega, by go_num, B5⟩
              case measure => simp [intOf]; omega
            | true =>
              have hall := allL_true ha
              have hv := HV.out
              rw [prV_all hall] at hv
              have hT5 := TX.out (fun z hz => hasL_form (hall z hz))
              have hsz := bs_size (textF f j)
              clear TX HV hall
              by_cases g1 : 255 < j
              · rw [if_pos (.inl g1)] at hv
                injection hv with hv1 hv2
                subst hv1 hv2
                have hbs : bs [] = ⟨#[]⟩ := rfl
                rw [hbs]
                have g1' : (255 : Int) < j := by omega
                clear q5 hsz hT5
                go_wp2
                go_roundw
                case rel => exact ⟨k + 1, by omega, by go_num, B5⟩
                case measure => simp [intOf]; omega
              · have g1' : ¬ (255 : Int) < j := by omega
                have hTw := hT5 _ q5
                by_cases g2 : 8192 < (textF f j).length
                · rw [if_pos (.inr g2)] at hv
                  injection hv with hv1 hv2
                  subst hv1 hv2
                  have hbs : bs [] = ⟨#[]⟩ := rfl
                  rw [hbs]
                  have g2' : (8192 : Int) < ((bs (textF f j)).size : Int) := by rw [hsz]; omega
                  generalize bs (textF f j) = T at hTw g2'
                  clear hT5 hsz g2 g1
                  go_wp2_with (go_at_call 14; refine hTw.mono ?_; rintro e v6 ⟨rfl, d6⟩)
                  go_roundw
                  case rel => exact ⟨k + 1, by omega, by go_num, B5.trans (d6.mono B5.size)⟩
                  case measure => simp [intOf]; omega
                · rw [if_neg (by omega)] at hv
                  injection hv with hv1 hv2
                  subst hv1 hv2
                  have g2' : ¬ (8192 : Int) < ((bs (textF f j)).size : Int) := by rw [hsz]; omega
                  generalize bs (textF f j) = T at hTw g2' hT5 ⊢
                  clear hsz g2 g1
                  go_wp2_with (go_at_call 14; refine hTw.mono ?_; rintro e v6 ⟨rfl, d6⟩; refine Hid.out ?_)
                  refine Lib.hid ?_
                  have q6 := (q5.below d6 (Nat.le_refl _)).more d6.size
                  have B6 := B5.trans (d6.mono B5.size)
                  have hTv := hT5 _ q6
                  clear hTw hT5 q5 q6 d6
                  go_wp2_with (go_at_call 14; refine hTv.mono ?_; rintro e v7 ⟨rfl, d7⟩)
                  go_roundw
                  case rel => exact ⟨k + 1, by omega, by go_num, B6.trans (d7.mono B6.size)⟩
                  case measure => simp [intOf]; omega
    · obtain rfl : k = n := by omega
      go_wp2_with fail
      go_ret
      exact ⟨rfl, hb⟩
end Go.Proofs.YtceeinljakcdkaaDoor
