/-
  InsnEncodes, walked: instructions' bytes, and what of them counts.
-/
import Derived.Test.YtndmlbepjcagiaaDoorRefAll
import Derived.Test.YtndmlbepjcagiaaDoorRefSame
import Derived.Test.YtndmlbepjcagiaaDoorEqual
import Derived.Test.YtndmlbepjcagiaaDoorWakesI
import Derived.Test.YtndmlbepjcagiaaDoorAll
namespace Go.Proofs.YtndmlbepjcagiaaDoor
open Go.RowKit

/-- What holds through InsnEncodes. -/
structure EJ (w V : World) (A : Option Addr) (m : Nat) (f : Nat → Ins) : Prop where
  kin : Kinds V
  ri : Ri V V.heap.size A m f
  bel : Below w.heap.size w V
theorem EJ.below {w V V' : World} {A : Option Addr} {m : Nat} {f : Nat → Ins} (h : EJ w V A m f) (hb : Below V.heap.size V V') : EJ w V' A m f :=
  ⟨h.kin.below hb h.kin.pos, (h.ri.below hb (Nat.le_refl _)).more hb.size, h.bel.trans (hb.mono h.bel.size)⟩
theorem EJ.alloc {w V : World} {A : Option Addr} {m : Nat} {f : Nat → Ins} (h : EJ w V A m f) (o : Obj) : EJ w (V.alloc o) A m f := h.below ((Below.refl _ _).alloc (Nat.le_refl _) o)
theorem EJ.drew {w V : World} {A : Option Addr} {m : Nat} {f : Nat → Ins} (h : EJ w V A m f) : EJ w V.drew A m f := h.below (Below.refl _ _).drew
theorem keepE {w V V' : World} {A : Option Addr} {m g : Nat} {f : Nat → Ins} {x y z u : Value} (b : Below V.heap.size V V')
    (hh : V.cell? ⟨g, 0, none⟩ = some x ∧ V.cell? ⟨g, 1, none⟩ = some y ∧ V.cell? ⟨g, 2, none⟩ = some z ∧ V.cell? ⟨g, 3, none⟩ = some u ∧ EJ w V A m f) :
    V'.cell? ⟨g, 0, none⟩ = some x ∧ V'.cell? ⟨g, 1, none⟩ = some y ∧ V'.cell? ⟨g, 2, none⟩ = some z ∧ V'.cell? ⟨g, 3, none⟩ = some u ∧ EJ w V' A m f := by
  have hg : g < V.heap.size := World.block_lt_of_cell? V _ hh.1
  exact ⟨(b.cell (p := ⟨g, 0, none⟩) hg).trans hh.1, (b.cell (p := ⟨g, 1, none⟩) hg).trans hh.2.1, (b.cell (p := ⟨g, 2, none⟩) hg).trans hh.2.2.1, (b.cell (p := ⟨g, 3, none⟩) hg).trans hh.2.2.2.1, hh.2.2.2.2.below b⟩
theorem insV_eq (c a b k : Int) : insV c a b k = .agg #[.int .u16 c, .int .u8 a, .int .u8 b, .int .u32 k] := rfl
theorem eq_self (l : List Int) : decide (l = l) = true := by simp
theorem equal_same (A A' : Option Addr) (n c m c' B B' : Nat) (l : List Int) (w : World) (h : Rd w B A n l) (h' : Rd w B' A' m l) :
    Calls Tryd.prog 19 #[.slice A n c, .slice A' m c'] w fun e w' => e = .returned (.bool true) ∧ w = w' := by
  have := equal_any A A' n c m c' B B' l l w h h'
  rwa [eq_self] at this
theorem kinE {w V : World} {A : Option Addr} {m g : Nat} {f : Nat → Ins} {x y z u : Value}
    (hh : V.cell? ⟨g, 0, none⟩ = some x ∧ V.cell? ⟨g, 1, none⟩ = some y ∧ V.cell? ⟨g, 2, none⟩ = some z ∧ V.cell? ⟨g, 3, none⟩ = some u ∧ EJ w V A m f) : Kinds V := hh.2.2.2.2.kin

theorem lastE {w V : World} {A : Option Addr} {m g : Nat} {f : Nat → Ins} {x y z u : Value}
    (hh : V.cell? ⟨g, 0, none⟩ = some x ∧ V.cell? ⟨g, 1, none⟩ = some y ∧ V.cell? ⟨g, 2, none⟩ = some z ∧ V.cell? ⟨g, 3, none⟩ = some u ∧ EJ w V A m f) : EJ w V A m f := hh.2.2.2.2

set_option maxRecDepth 100000 in
set_option maxHeartbeats 1000000 in
theorem enc_long (A0 : Option Addr) (l0 c0 m : Nat) (f : Nat → Ins) (w : World) (hK : Kinds w) (r0 : Ri w w.heap.size A0 l0 f) (h0 : l0 ≤ c0) (hm : m = min l0 256) (hl : 255 < m) :
    Calls Tryd.prog 4 #[.slice A0 l0 c0] w fun e w' => e = .returned (.bool true) ∧ Below w.heap.size w w' := by
  have HF := Lib.hid (fun w (hA : Ri w w.heap.size A0 l0 f) => few_any A0 l0 c0 f w hA h0 m hm)
  clear hm
  have hli : (255 : Int) < m := by omega
  go_enter Tryd.func4, Tryd.ntmps4
  go_wp2_with fail
  refine (wakes_any w hK).mono ?_
  rintro e w1 ⟨rfl, b1⟩
  have r01 := (r0.below b1 (Nat.le_refl _)).more b1.size
  go_wp2_with fail
  refine (HF.out w1 r01).mono ?_
  rintro e w2 ⟨A2, c2, rfl, o2, b2⟩
  have r02 := (r01.below b2 (Nat.le_refl _)).more b2.size
  go_wp2_with fail
  refine (HF.out w2 r02).mono ?_
  rintro e w3 ⟨A3, c3, rfl, o3, b3⟩
  have B3 := (b1.trans (b2.mono b1.size)).trans (b3.mono (Nat.le_trans b1.size b2.size))
  go_wp2_with fail
  refine (encAll_long A2 m c2 w3 hl).mono ?_
  rintro e w4 ⟨rfl, rfl⟩
  go_wp2_with fail
  go_ret
  exact ⟨rfl, B3⟩

set_option maxRecDepth 100000 in
set_option maxHeartbeats 8000000 in
theorem enc_few (A0 : Option Addr) (l0 c0 m : Nat) (f : Nat → Ins) (w : World) (hK : Kinds w) (r0 : Ri w w.heap.size A0 l0 f) (h0 : l0 ≤ c0) (hm : m = min l0 256) (hl : m ≤ 255) :
    Calls Tryd.prog 4 #[.slice A0 l0 c0] w fun e w' => e = .returned (.bool true) ∧ Below w.heap.size w w' := by
  have HF := Lib.hid (fun w (hA : Ri w w.heap.size A0 l0 f) => few_any A0 l0 c0 f w hA h0 m hm)
  have hml : m ≤ l0 := by omega
  have HO := Lib.hid (fun k (hk : k < m) => show insO (f k) by obtain ⟨_, _, _, _, _, ho⟩ := r0 k (by omega); exact ho)
  clear hm hml
  have hli : (m : Int) ≤ 255 := by omega
  have hlj : ¬ (255 : Int) < m := by omega
  go_enter Tryd.func4, Tryd.ntmps4
  go_wp2_with fail
  refine (wakes_any w hK).mono ?_
  rintro e w1 ⟨rfl, b1⟩
  have r01 := (r0.below b1 (Nat.le_refl _)).more b1.size
  go_wp2_with fail
  refine (HF.out w1 r01).mono ?_
  rintro e w2 ⟨A2, c2, rfl, o2, b2⟩
  have r02 := (r01.below b2 (Nat.le_refl _)).more b2.size
  obtain ⟨r2, k2⟩ := ri_of_own o2 HO.out
  go_wp2_with fail
  refine (HF.out w2 r02).mono ?_
  rintro e w3 ⟨A3, c3, rfl, o3, b3⟩
  obtain ⟨r3, k3⟩ := ri_of_own o3 HO.out
  have r23 := (r2.below b3 (Nat.le_refl _)).more b3.size
  have B3 := (b1.trans (b2.mono b1.size)).trans (b3.mono (Nat.le_trans b1.size b2.size))
  have J3 : EJ w w3 A3 m f := ⟨hK.below B3 hK.pos, r3, B3⟩
  clear r0 r01 r02 r2 r3 b1 b2 b3 o2 o3 B3
  go_wp2_with fail
  refine (encAll_ok A2 m c2 f w3 r23 k2 hl).mono ?_
  rintro e w4 ⟨A4, c4, rfl, o4, b4⟩
  have J4 := J3.below b4
  have r24 := (r23.below b4 (Nat.le_refl _)).more b4.size
  have d4 := o4.rd
  clear J3 r23 b4 o4
  go_wp2_with fail
  refine (refall_any A3 m c3 f w4 J4.ri (by omega)).mono ?_
  rintro e w5 ⟨A5, c5, rfl, o5, b5⟩
  have J5 := J4.below b5
  have r25 := (r24.below b5 (Nat.le_refl _)).more b5.size
  have d5 := d4.below b5
  go_wp2_with fail
  refine (equal_same A4 A5 (8 * m) c4 (8 * m) c5 _ _ _ w5 d5 o5.rd).mono ?_
  rintro e w6 ⟨rfl, rfl⟩
  go_wp2_with fail
  refine (refsameI_true A2 A3 m c2 c3 _ _ f f w5 r25 J5.ri (fun _ _ => rfl) (by omega)).mono ?_
  rintro e w6 ⟨rfl, b6⟩
  have J6 := J5.below b6
  clear J4 J5 r24 r25 d4 d5 o5 b5 b6
  go_wp2_with fail
  go_loopw [46] (fun i wr => ∃ k : Nat, k ≤ m ∧ i = .int .i64 k ∧ EJ w wr A3 m f) (fun i _ => m - (intOf i).toNat)
  case atStart => exact ⟨0, Nat.zero_le _, rfl, J6⟩
  case round =>
    obtain ⟨k, hk, rfl, J⟩ := hrel
    by_cases hlt : k < m
    · have hlt' : (k : Int) < m := by omega
      obtain ⟨b, off, rfl, _, ⟨p0, p1, p2, p3⟩, ho⟩ := J.ri k hlt
      obtain ⟨⟨x, y, z, u⟩, hf⟩ : ∃ q : Ins, f k = q := ⟨_, rfl⟩
      rw [hf] at p0 p1 p2 p3 ho
      have ho' : InsOk x y z u := ho
      simp only at p0 p1 p2 p3
      clear hf ho
      have Ja := (J.alloc (.cells #[.int .u16 x, .int .u8 y, .int .u8 z, .int .u32 u] 48)).drew
      have kb := (Blk.new wr #[.int .u16 x, .int .u8 y, .int .u8 z, .int .u32 u] 48).drew
      have HS := Lib.hid (show _ ∧ _ ∧ _ ∧ _ ∧ _ from ⟨kb.cell 0, kb.cell 1, kb.cell 2, kb.cell 3, Ja⟩)
      have E1 := fun V => enc_any x y z u V ho'
      have E2 := fun V => refbytes_any x y z u V ho'
      have E3 := fun V hK => bare_any x y z u V hK
      have E4 := fun V => refbare_any x y z u V ho'.c0
      obtain ⟨y', hy'⟩ : ∃ q, bareJ x y = q := ⟨_, rfl⟩
      obtain ⟨z', hz'⟩ : ∃ q, bareJ x z = q := ⟨_, rfl⟩
      obtain ⟨u', hu'⟩ : ∃ q, bareK x u = q := ⟨_, rfl⟩
      rw [hy', hz', hu'] at E3 E4
      clear hy' hz' hu'
      rw [insV_eq] at E1 E2 E3 E4
      rw [insV_eq] at E3 E4
      clear Ja kb
      go_wp2_with fail
      clear p0 p1 p2 p3 ho'
      go_region_held3 (fun V => V.cell? ⟨wr.heap.size, 0, none⟩ = some (.int .u16 x) ∧ V.cell? ⟨wr.heap.size, 1, none⟩ = some (.int .u8 y) ∧ V.cell? ⟨wr.heap.size, 2, none⟩ = some (.int .u8 z) ∧ V.cell? ⟨wr.heap.size, 3, none⟩ = some (.int .u32 u) ∧ EJ w V (some ⟨b, off, none⟩) m f)
        (first | exact HS.out | assumption | exact keepE (by assumption) (by assumption))
        (first
          | (go_at_call 22; ((refine (E1 _).mono ?_); rintro e wE ⟨gE, rfl, hgE, hE1, bE⟩))
          | (go_at_call 23; ((refine (E2 _).mono ?_); rintro e wB ⟨AB, cB, rfl, hB1, bB⟩))
          | (go_at_call 19; ((refine (equal_same _ _ 8 _ 8 _ _ _ _ _ ((hE1.below bB hE1.lt).rd) hB1).mono ?_); rintro e w' ⟨rfl, rfl⟩))
          | (go_at_call 24; ((refine (E3 _ (kinE (by assumption))).mono ?_); rintro e wC ⟨rfl, bC⟩))
          | (go_at_call 25; ((refine (E4 _).mono ?_); rintro e wD ⟨rfl, bD⟩)))
      have JD : EJ w wD (some ⟨b, off, none⟩) m f := lastE (by assumption : wD.cell? ⟨wr.heap.size, 0, none⟩ = some (.int .u16 x) ∧ wD.cell? ⟨wr.heap.size, 1, none⟩ = some (.int .u8 y) ∧ wD.cell? ⟨wr.heap.size, 2, none⟩ = some (.int .u8 z) ∧ wD.cell? ⟨wr.heap.size, 3, none⟩ = some (.int .u32 u) ∧ EJ w wD (some ⟨b, off, none⟩) m f)
      clear bE bB bC bD HS E1 E2 E3 E4 hE1 hB1
      go_wp2_with fail
      exact ⟨⟨k + 1, by omega, by go_num, JD⟩, by simp [intOf]; omega⟩
    · obtain rfl : k = m := by omega
      go_wp2_with fail
      go_ret
      exact ⟨rfl, J.bel⟩

theorem insnEncodes_any (A0 : Option Addr) (l0 c0 : Nat) (f : Nat → Ins) (w : World) (hK : Kinds w) (r0 : Ri w w.heap.size A0 l0 f) (h0 : l0 ≤ c0) :
    Calls Tryd.prog 4 #[.slice A0 l0 c0] w fun e w' => e = .returned (.bool true) ∧ Below w.heap.size w w' := by
  obtain ⟨m, hm⟩ : ∃ m, m = min l0 256 := ⟨_, rfl⟩
  rcases Nat.lt_or_ge 255 m with h | h
  · exact enc_long A0 l0 c0 m f w hK r0 h0 hm h
  · exact enc_few A0 l0 c0 m f w hK r0 h0 hm h
end Go.Proofs.YtndmlbepjcagiaaDoor
