/-
  InsnDecodes, walked: which instructions any bytes are.
-/
import Derived.Test.YtndmlbepjcagiaaDoorDecS
import Derived.Test.YtndmlbepjcagiaaDoorRefOne
import Derived.Test.YtndmlbepjcagiaaDoorRefSame
import Derived.Test.YtndmlbepjcagiaaDoorWakesI
import Derived.Test.YtndmlbepjcagiaaDoorIMath
import Derived.Test.YtndmlbepjcagiaaDoorRefBytes
import Derived.Test.YtndmlbepjcagiaaDoorEncW
import Derived.Test.YtndmlbepjcagiaaDoorOwn
namespace Go.Proofs.YtndmlbepjcagiaaDoor
open Go.RowKit

/-- How many instructions bytes are, and the error. -/
def dM (L : Nat) : Nat := if L ≤ 2040 ∧ L % 8 = 0 then L / 8 else 0
def dEr (L : Nat) : Int := if 2040 < L then 3 else if L % 8 = 0 then 0 else 120
theorem dM_le (L : Nat) : dM L ≤ 255 := by unfold dM; split <;> omega
theorem dM_ok {l : List Int} (hl : Byt l) {L : Nat} (h : l.length = L) : ∀ k, k < dM L → insO (dI l k) := by
  intro k hk
  unfold dM at hk
  split at hk
  · rename_i hh
    exact insO_dI hl (m := L / 8) (by omega) hk
  · omega
theorem decAll_any (A : Option Addr) (L cap : Nat) (l : List Int) (w : World) (hA : Rd w w.heap.size A L l) (hcap : L ≤ cap) :
    Calls Tryd.prog 26 #[.slice A L cap] w fun e w' =>
      ∃ A' c', e = .returned (.tuple #[.slice A' (dM L) c', .int .i64 (dEr L)]) ∧ w'.ownsRow w.heap.size 48 4 (.slice A' (dM L) c') (dM L) ((List.range (dM L)).flatMap fun k => celI (dI l k)) ∧ Below w.heap.size w w' := by
  rcases Nat.lt_or_ge 2040 L with h | h
  · have e1 : dM L = 0 := by unfold dM; rw [if_neg (by omega)]
    have e2 : dEr L = 3 := by unfold dEr; rw [if_pos h]
    rw [e1, e2]
    exact (decAll_long A L cap w h).mono fun e w' ⟨he, hw⟩ => by subst hw; exact ⟨none, 0, he, World.ownsRow_nil _ _ _ _, Below.refl _ _⟩
  · by_cases h8 : L % 8 = 0
    · have e1 : dM L = L / 8 := by unfold dM; rw [if_pos ⟨h, h8⟩]
      have e2 : dEr L = 0 := by unfold dEr; rw [if_neg (by omega), if_pos h8]
      rw [e1, e2]
      exact decAll_ok A (L / 8) L cap l w hA (by omega) hcap (by omega)
    · have e1 : dM L = 0 := by unfold dM; rw [if_neg (by omega)]
      have e2 : dEr L = 120 := by unfold dEr; rw [if_neg (by omega), if_neg h8]
      rw [e1, e2]
      exact (decAll_row A L cap w h h8).mono fun e w' ⟨he, hw⟩ => by subst hw; exact ⟨none, 0, he, World.ownsRow_nil _ _ _ _, Below.refl _ _⟩
theorem refAllI_any (A : Option Addr) (L cap : Nat) (l : List Int) (w : World) (hA : Rd w w.heap.size A L l) (hcap : L ≤ cap) :
    Calls Tryd.prog 27 #[.slice A L cap] w fun e w' =>
      ∃ A' c', e = .returned (.tuple #[.slice A' (dM L) c', .int .i64 (dEr L)]) ∧ w'.ownsRow w.heap.size 48 4 (.slice A' (dM L) c') (dM L) ((List.range (dM L)).flatMap fun k => celI (dI l k)) ∧ Below w.heap.size w w' := by
  rcases Nat.lt_or_ge 2040 L with h | h
  · have e1 : dM L = 0 := by unfold dM; rw [if_neg (by omega)]
    have e2 : dEr L = 3 := by unfold dEr; rw [if_pos h]
    rw [e1, e2]
    exact (all_long A L cap w h).mono fun e w' ⟨he, hw⟩ => by subst hw; exact ⟨none, 0, he, World.ownsRow_nil _ _ _ _, Below.refl _ _⟩
  · by_cases h8 : L % 8 = 0
    · have e1 : dM L = L / 8 := by unfold dM; rw [if_pos ⟨h, h8⟩]
      have e2 : dEr L = 0 := by unfold dEr; rw [if_neg (by omega), if_pos h8]
      rw [e1, e2]
      exact all_ok A (L / 8) L cap l w hA (by omega) hcap (by omega)
    · have e1 : dM L = 0 := by unfold dM; rw [if_neg (by omega)]
      have e2 : dEr L = 120 := by unfold dEr; rw [if_neg (by omega), if_neg h8]
      rw [e1, e2]
      exact (all_row A L cap w h h8).mono fun e w' ⟨he, hw⟩ => by subst hw; exact ⟨none, 0, he, World.ownsRow_nil _ _ _ _, Below.refl _ _⟩

/-- A row of bytes that came in: where it lies, how long, its room, its bytes. -/
abbrev Row := Option Addr × Nat × Nat × List Int
def RowsB (w : World) (B : Nat) (A : Option Addr) (n : Nat) (R : Nat → Row) : Prop := ∀ k, k < n → ∃ b off, A = some ⟨b, off, none⟩ ∧ b < B ∧
  w.cell? ⟨b, off + k, none⟩ = some (.slice (R k).1 (R k).2.1 (R k).2.2.1) ∧ Rd w B (R k).1 (R k).2.1 (R k).2.2.2 ∧ (R k).2.1 ≤ (R k).2.2.1 ∧ (R k).2.1 ≤ 9223372036854775807
theorem RowsB.below {w w' : World} {B n : Nat} {A : Option Addr} {R : Nat → Row} (h : RowsB w B A n R) (hb : Below B w w') : RowsB w' B A n R := fun k hk => by
  obtain ⟨b, off, e, h1, hc, hr, h2, h3⟩ := h k hk
  exact ⟨b, off, e, h1, (hb.cell (p := ⟨b, off + k, none⟩) h1).trans hc, hr.below hb, h2, h3⟩
theorem own_far {w : World} {base n size : Nat} {e : TypeId} {v : Value} {cs : List Value} (h : w.ownsRow base e size v n cs) {p : Addr} (hp : p.block < base) (u : Value) : (w.setCell p u).ownsRow base e size v n cs := by
  refine ⟨h.1, ?_⟩
  rcases h.2 with h0 | ⟨g, cap, cur, hv, hg, hh, r⟩
  · exact .inl h0
  · exact .inr ⟨g, cap, cur, hv, hg, (Below.heap_setCell w p u g (by omega)).trans hh, r⟩

/-- What InsnDecodes has made for itself out of one row. -/
structure DJ (w V : World) (A : Option Addr) (n : Nat) (R : Nat → Row) (M b2 : Nat) (A2 : Option Addr) (c2 b4 : Nat) (A4 : Option Addr) (c4 : Nat) (zs : List Int) : Prop where
  rows : RowsB V w.heap.size A n R
  old : Below w.heap.size w V
  o2 : V.ownsRow b2 48 4 (.slice A2 M c2) M ((List.range M).flatMap fun k => celI (dI zs k))
  o4 : V.ownsRow b4 48 4 (.slice A4 M c4) M ((List.range M).flatMap fun k => celI (dI zs k))
section
variable {w V V' : World} {A A2 A4 : Option Addr} {n M b2 b4 c2 c4 : Nat} {R : Nat → Row} {zs : List Int}
theorem DJ.below (h : DJ w V A n R M b2 A2 c2 b4 A4 c4 zs) (hb : Below V.heap.size V V') : DJ w V' A n R M b2 A2 c2 b4 A4 c4 zs :=
  ⟨h.rows.below (hb.mono h.old.size), h.old.trans (hb.mono h.old.size), own_below h.o2 hb (Nat.le_refl _), own_below h.o4 hb (Nat.le_refl _)⟩
theorem DJ.set_ (h : DJ w V A n R M b2 A2 c2 b4 A4 c4 zs) {p : Addr} (h1 : w.heap.size ≤ p.block) (h2 : p.block < b2) (h4 : p.block < b4) (u : Value) : DJ w (V.setCell p u) A n R M b2 A2 c2 b4 A4 c4 zs :=
  ⟨h.rows.below ((Below.refl _ _).setCell h1 u), h.old.setCell h1 u, own_far h.o2 h2 u, own_far h.o4 h4 u⟩
end
theorem keepD {W V V' : World} {g : Nat} {x y z u : Value} (b : Below V.heap.size V V')
    (hh : V.cell? ⟨g, 0, none⟩ = some x ∧ V.cell? ⟨g, 1, none⟩ = some y ∧ V.cell? ⟨g, 2, none⟩ = some z ∧ V.cell? ⟨g, 3, none⟩ = some u ∧ Below W.heap.size W V) :
    V'.cell? ⟨g, 0, none⟩ = some x ∧ V'.cell? ⟨g, 1, none⟩ = some y ∧ V'.cell? ⟨g, 2, none⟩ = some z ∧ V'.cell? ⟨g, 3, none⟩ = some u ∧ Below W.heap.size W V' := by
  have hg : g < V.heap.size := World.block_lt_of_cell? V _ hh.1
  exact ⟨(b.cell (p := ⟨g, 0, none⟩) hg).trans hh.1, (b.cell (p := ⟨g, 1, none⟩) hg).trans hh.2.1, (b.cell (p := ⟨g, 2, none⟩) hg).trans hh.2.2.1, (b.cell (p := ⟨g, 3, none⟩) hg).trans hh.2.2.2.1, hh.2.2.2.2.trans (b.mono hh.2.2.2.2.size)⟩
theorem lastD {W V : World} {g : Nat} {x y z u : Value} (hh : V.cell? ⟨g, 0, none⟩ = some x ∧ V.cell? ⟨g, 1, none⟩ = some y ∧ V.cell? ⟨g, 2, none⟩ = some z ∧ V.cell? ⟨g, 3, none⟩ = some u ∧ Below W.heap.size W V) : Below W.heap.size W V := hh.2.2.2.2

set_option maxRecDepth 100000 in
set_option maxHeartbeats 16000000 in
theorem insnDecodes_any (A : Option Addr) (n cap : Nat) (R : Nat → Row) (w : World) (hK : Kinds w) (hR : RowsB w w.heap.size A n R) (hn : n ≤ 9223372036854775807) :
    Calls Tryd.prog 5 #[.slice A n cap] w fun e w' => e = .returned (.bool true) ∧ Below w.heap.size w w' := by
  go_enter Tryd.func5, Tryd.ntmps5
  go_wp2_with fail
  refine (wakes_any w hK).mono ?_
  rintro e w1 ⟨rfl, b1⟩
  have R1 := hR.below b1
  clear hR hK
  go_wp2_with fail
  go_loopw [17] (fun i wr => ∃ k : Nat, k ≤ n ∧ i = .int .i64 k ∧ RowsB wr w.heap.size A n R ∧ Below w.heap.size w wr) (fun i _ => n - (intOf i).toNat)
  case atStart => exact ⟨0, Nat.zero_le _, rfl, R1, b1⟩
  case round =>
    obtain ⟨k, hk, rfl, hR, hb⟩ := hrel
    obtain ⟨wo, rfl⟩ : ∃ wo : World, wo = wr := ⟨_, rfl⟩
    by_cases hlt : k < n
    · have hlt' : (k : Int) < n := by omega
      obtain ⟨b, off, rfl, _, hc, hr, h2, h3⟩ := hR k hlt
      obtain ⟨⟨a, l, c, z⟩, hq⟩ : ∃ q : Row, R k = q := ⟨_, rfl⟩
      rw [hq] at hc hr h2 h3
      simp only at hc hr h2 h3
      clear hq
      have hli : (l : Int) ≤ 9223372036854775807 := by omega
      by_cases h10 : k = 10
      · subst h10
        go_wp2_with fail
        go_ret
        exact ⟨rfl, hb⟩
      · have h10' : ((k : Int) == 10) = false := by simp; omega
        have s0 := hb.size
        obtain ⟨L, hL⟩ : ∃ L, (min (l : Int) 2048).toNat = L := ⟨_, rfl⟩
        have hLl : L ≤ l := by omega
        have hL2 : L ≤ 2048 := by omega
        have rL := Lib.hid (show Rd wo w.heap.size a (min (l : Int) 2048).toNat (z.take L) by rw [hL]; exact hr.take hLl)
        have HL := Lib.hid hL
        clear hL
        obtain ⟨zs, hzs⟩ : ∃ zs, z.take L = zs := ⟨_, rfl⟩
        rw [hzs] at rL
        clear hzs
        go_wp2_with (at_builtin; refine wpList_append_bytes rfl (.tmp 24) (.tmp 29) rfl wo.heap.size _ 0 0 _ rfl (Ow.empty wo wo.heap.size (Nat.le_refl _)) w.heap.size a (min (l : Int) 2048).toNat c zs rfl (rL.out.alloc_ s0 _) (by rw [HL.out]; omega) (by simp) ?_; intro Ab cb wa oa ba; rw [HL.out] at oa)
        rw [HL.out]
        simp only [Nat.zero_add, List.nil_append] at oa
        have Ba : Below wo.heap.size wo wa := ((Below.refl _ _).alloc (Nat.le_refl _) _).trans ba
        have hba := hb.trans (Ba.mono s0)
        have hRa := hR.below (Ba.mono s0)
        have HG := Lib.hid (fun g (he : Ab = some ⟨g, 0, none⟩) (h0 : 0 < L) => show wo.heap.size ≤ g ∧ g < wa.heap.size by
          obtain ⟨g', e, h1, h2⟩ := oa.head h0
          rw [e] at he
          injection he with he
          injection he with he
          subst he
          exact ⟨h1, h2⟩)
        have HO := Lib.hid (dM_ok oa.byt oa.len)
        have C1 := decAll_any Ab L cb zs wa oa.rd oa.cap
        have C2 := Lib.hid (fun A cap V hA hc => refAllI_any A L cap zs V hA hc)
        have hM := dM_le L
        obtain ⟨M, hM'⟩ : ∃ M, dM L = M := ⟨_, rfl⟩
        obtain ⟨E0, hE⟩ : ∃ E0, dEr L = E0 := ⟨_, rfl⟩
        rw [hM'] at hM HO
        rw [hM', hE] at C1 C2
        clear hM' hE hR hb rL ba Ba
        refine C1.mono ?_
        rintro e w2 ⟨A2, c2, rfl, o2, b2⟩
        have ob := oa.below b2 (Nat.le_refl _)
        have hbb := hba.trans (b2.mono hba.size)
        have hRb := hRa.below (b2.mono hba.size)
        have s2 := b2.size
        have s1 := hba.size
        clear oa hba hRa C1 b2
        go_wp2_with (at_builtin; refine wpList_append_bytes rfl (.tmp 37) (.tmp 38) rfl w2.heap.size _ 0 0 _ rfl (Ow.empty w2 w2.heap.size (Nat.le_refl _)) w2.heap.size Ab L cb zs rfl (ob.rd.alloc_ (Nat.le_refl _) _) (by omega) (by simp) ?_; intro Ac cc wc oc bc)
        simp only [Nat.zero_add, List.nil_append] at oc
        have Bc : Below w2.heap.size w2 wc := ((Below.refl _ _).alloc (Nat.le_refl _) _).trans bc
        have oe := ob.below Bc (Nat.le_refl _)
        have o3 := own_below o2 Bc (Nat.le_refl _)
        have hbc := hbb.trans (Bc.mono hbb.size)
        have hRc := hRb.below (Bc.mono hbb.size)
        have s3 := Bc.size
        clear ob o2 hbb hRb bc Bc
        refine (C2.out Ac cc wc oc.rd oc.cap).mono ?_
        rintro e w4 ⟨A4, c4, rfl, o4, b4⟩
        have oD := oe.below b4 (Nat.le_refl _)
        have J4 : DJ w w4 (some ⟨b, off, none⟩) n R M wa.heap.size A2 c2 wc.heap.size A4 c4 zs := ⟨hRc.below (b4.mono hbc.size), hbc.trans (b4.mono hbc.size), own_below o3 b4 (Nat.le_refl _), o4⟩
        have hcb := oD.cap
        have s4 := b4.size
        clear oe o3 o4 hbc hRc oc C2 b4
        rcases Nat.lt_or_ge L 8 with h8 | h8
        · have h8' : (L : Int) < 8 := by omega
          have D := dec_short Ab L cb zs w4 oD.rd h8 hcb
          rw [insV_eq] at D
          go_wp2_with fail
          refine D.mono ?_
          rintro e w5 ⟨rfl, b5⟩
          have o5 := oD.below b5 (Nat.le_refl _)
          have J5 := J4.below b5
          clear D oD J4 b5
          go_wp2_with (first
            | (refine wpList_store_blk rfl 48 (.tmp 10) (.tmp 46) rfl w5.heap.size (insC 0 0 0 0) (insC 0 0 0 0) 48 rfl rfl (Blk.new_ w5 _ _ rfl) rfl ins_inf (ins_one _ _ _ _) ?_
               intro W kx nx
               have BW : Below w5.heap.size w5 W := ((Below.refl _ _).alloc (Nat.le_refl _) _).trans (nx.below _ (Nat.le_refl _) (by simp))
               have oW := o5.below BW (Nat.le_refl _)
               have JW := J5.below BW
               obtain ⟨x0, x1, x2, x3⟩ := ins_cells kx
               clear o5 J5 nx BW kx))
          clear x0 x1 x2 x3
          go_loopw [69] (fun i wr => ∃ (j : Nat) (ys : List Int), j ≤ L ∧ i = .int .i64 j ∧ Ow wr wo.heap.size Ab L cb ys ∧ DJ w wr (some ⟨b, off, none⟩) n R M wa.heap.size A2 c2 wc.heap.size A4 c4 zs) (fun i _ => L - (intOf i).toNat)
          case atStart => exact ⟨0, zs, Nat.zero_le _, rfl, oW, JW⟩
          case round =>
            obtain ⟨j, ys, hj, rfl, ho, J⟩ := hrel
            by_cases hjl : j < L
            · have hjl' : (j : Int) < L := by omega
              obtain ⟨gb, rfl, hg1, _⟩ := ho.head (by omega)
              have hg2 := HG.out gb rfl (by omega)
              obtain ⟨c9, f9⟩ := ho.at_ hjl
              have hset := Lib.hid (ho.set_ hjl 99 (by decide))
              have JS := Lib.hid (J.set_ (p := ⟨gb, j, none⟩) (by simp; omega) (by simp; omega) (by simp; omega) (.int .u8 99))
              go_wp2_with fail
              exact ⟨⟨j + 1, _, by omega, by go_num, hset.out, JS.out⟩, by simp [intOf]; omega⟩
            · obtain rfl : j = L := by omega
              have r2 := (ri_of_own J.o2 HO.out).1
              have r4 := (ri_of_own J.o4 HO.out).1
              go_wp2_with fail
              refine (refsameI_true A2 A4 M c2 c4 _ _ (dI zs) (dI zs) wr r2 r4 (fun _ _ => rfl) (by omega)).mono ?_
              rintro e w9 ⟨rfl, b9⟩
              have J9 := J.below b9
              clear r2 r4 ho J b9
              go_wp2_with fail
              exact ⟨⟨k + 1, by omega, by go_num, J9.rows, J9.old⟩, by simp [intOf]; omega⟩
        · have h8' : ¬ (L : Int) < 8 := by omega
          have h9' : (8 : Int) ≤ cb := by omega
          have hlz := oD.len
          have D := dec_ok Ab L cb zs w4 oD.rd h8 (by omega) hcb
          have O := fun (W : World) (rW : Rd W W.heap.size Ab L zs) V (hV : Below W.heap.size W V) => one_any Ab cb W.heap.size (zs.take 8) V ((rW.take h8).below hV) hV.size (by omega)
          obtain ⟨x, hx⟩ : ∃ x, dC (zs.take 8) = x := ⟨_, rfl⟩
          obtain ⟨y, hy⟩ : ∃ x, dA (zs.take 8) = x := ⟨_, rfl⟩
          obtain ⟨z', hz⟩ : ∃ x, dB (zs.take 8) = x := ⟨_, rfl⟩
          obtain ⟨u, hu⟩ : ∃ x, dK (zs.take 8) = x := ⟨_, rfl⟩
          rw [hx, hy, hz, hu, insV_eq] at D
          simp only [hx, hy, hz, hu] at O
          have OH := Lib.hid O
          clear hx hy hz hu O hlz
          go_wp2_with fail
          refine D.mono ?_
          rintro e w5 ⟨rfl, b5⟩
          have o5 := oD.below b5 (Nat.le_refl _)
          have J5 := J4.below b5
          clear D oD J4 b5
          go_wp2_with (first
            | (refine wpList_store_blk rfl 48 (.tmp 10) (.tmp 46) rfl w5.heap.size (insC 0 0 0 0) (insC x y z' u) 48 rfl rfl (Blk.new_ w5 _ _ rfl) rfl ins_inf (ins_one _ _ _ _) ?_
               intro W kx nx
               have BW : Below w5.heap.size w5 W := ((Below.refl _ _).alloc (Nat.le_refl _) _).trans (nx.below _ (Nat.le_refl _) (by simp))
               have oV := o5.below BW (Nat.le_refl _)
               have JV := J5.below BW
               clear o5 J5 nx BW))
          have kd := kx.drew
          have HS := Lib.hid (show _ ∧ _ ∧ _ ∧ _ ∧ _ from ⟨kd.cell 0, kd.cell 1, kd.cell 2, kd.cell 3, (Below.refl W.heap.size W).drew⟩)
          have OW := OH.out W oV.rd
          clear kd kx OH
          go_region_held3 (fun V => V.cell? ⟨w5.heap.size, 0, none⟩ = some (.int .u16 x) ∧ V.cell? ⟨w5.heap.size, 1, none⟩ = some (.int .u8 y) ∧ V.cell? ⟨w5.heap.size, 2, none⟩ = some (.int .u8 z') ∧ V.cell? ⟨w5.heap.size, 3, none⟩ = some (.int .u32 u) ∧ Below W.heap.size W V)
            (first | exact HS.out | assumption | exact keepD (by assumption) (by assumption))
            (first
              | (go_at_call 29; ((refine (OW _ (lastD (by assumption))).mono ?_); rintro e wD ⟨rfl, bD⟩)))
          have BD : Below W.heap.size W wD := lastD (by assumption : wD.cell? ⟨w5.heap.size, 0, none⟩ = some (.int .u16 x) ∧ wD.cell? ⟨w5.heap.size, 1, none⟩ = some (.int .u8 y) ∧ wD.cell? ⟨w5.heap.size, 2, none⟩ = some (.int .u8 z') ∧ wD.cell? ⟨w5.heap.size, 3, none⟩ = some (.int .u32 u) ∧ Below W.heap.size W wD)
          have oW := oV.below BD (Nat.le_refl _)
          have JW := JV.below BD
          clear oV JV BD bD HS OW
          go_wp2_with fail
          go_loopw [69] (fun i wr => ∃ (j : Nat) (ys : List Int), j ≤ L ∧ i = .int .i64 j ∧ Ow wr wo.heap.size Ab L cb ys ∧ DJ w wr (some ⟨b, off, none⟩) n R M wa.heap.size A2 c2 wc.heap.size A4 c4 zs) (fun i _ => L - (intOf i).toNat)
          case atStart => exact ⟨0, zs, Nat.zero_le _, rfl, oW, JW⟩
          case round =>
            obtain ⟨j, ys, hj, rfl, ho, J⟩ := hrel
            by_cases hjl : j < L
            · have hjl' : (j : Int) < L := by omega
              obtain ⟨gb, rfl, hg1, _⟩ := ho.head (by omega)
              have hg2 := HG.out gb rfl (by omega)
              obtain ⟨c9, f9⟩ := ho.at_ hjl
              have hset := Lib.hid (ho.set_ hjl 99 (by decide))
              have JS := Lib.hid (J.set_ (p := ⟨gb, j, none⟩) (by simp; omega) (by simp; omega) (by simp; omega) (.int .u8 99))
              go_wp2_with fail
              exact ⟨⟨j + 1, _, by omega, by go_num, hset.out, JS.out⟩, by simp [intOf]; omega⟩
            · obtain rfl : j = L := by omega
              have r2 := (ri_of_own J.o2 HO.out).1
              have r4 := (ri_of_own J.o4 HO.out).1
              go_wp2_with fail
              refine (refsameI_true A2 A4 M c2 c4 _ _ (dI zs) (dI zs) wr r2 r4 (fun _ _ => rfl) (by omega)).mono ?_
              rintro e w9 ⟨rfl, b9⟩
              have J9 := J.below b9
              clear r2 r4 ho J b9
              go_wp2_with fail
              exact ⟨⟨k + 1, by omega, by go_num, J9.rows, J9.old⟩, by simp [intOf]; omega⟩
    · go_wp2_with fail
      go_ret
      exact ⟨rfl, hb⟩
end Go.Proofs.YtndmlbepjcagiaaDoor
