/-
  The reference's Right.
-/
import Derived.Test.YtlelhhgggnjndaaGreatQTqV
import Derived.Test.YtlelhhgggnjndaaGreatQTqM
import Derived.Test.YtlelhhgggnjndaaGreatQTkRc
import Derived.Deep.CutRange
import Derived.Deep.CutBlock
namespace Go.Proofs.YtlelhhgggnjndaaGreat
open Go.RowKit Go.Shelf
set_option linter.unusedVariables false
set_option linter.unusedSimpArgs false
def headB (L : List Pw) (k : Nat) (x : Pw) : Bool := ((((decide (0 < k) && decide (x.1.i ≤ (L.getD (k - 1) pw0).1.i)) || !upB x.1.t) || (x.1.t.length == 0 && x.1.p == 0)) || !rootR L (L.length + 1) x.1.i) || x.1.i == 0
def parB (L : List Pw) (x : Pw) : Bool := x.1.p != 0 && (decide (fndF 0 L x.1.p < 0) || (L.getD (fndF 0 L x.1.p).toNat pw0).1.t.length == 0)
def hitB (k j : Nat) (y : Pw) (id : Int) : Bool := j != k && (y.1.i == id || y.1.t.contains id)
def shrA (k : Nat) (t : List Int) : Nat → List Pw → Bool
  | _, [] => false
  | j, y :: l => t.any (hitB k j y) || shrA k t (j + 1) l
def rgtF (L : List Pw) (U : List Int) : Nat → List Int → Nat → List Pw → Bool
  | _, all, n, [] => decide (n ≤ 8) && U == all
  | k, all, n, x :: l => !headB L k x && (!parB L x && (!shrA k x.1.t 0 L && rgtF L U (k + 1) (withs (withG x.1.i false all) x.1.t) (n + x.1.t.length) l))
def rgtB (a : Int) (U : List Int) (L : List Pw) : Bool := decide (L.length ≤ 6) && (pidE a U == 0 && rgtF L U 0 [] 0 L)
theorem rgtF_drop {L : List Pw} {k : Nat} (h : k < L.length) (U all : List Int) (n : Nat) : rgtF L U k all n (L.drop k) = (!headB L k (L.getD k pw0) && (!parB L (L.getD k pw0) && (!shrA k (L.getD k pw0).1.t 0 L && rgtF L U (k + 1) (withs (withG (L.getD k pw0).1.i false all) (L.getD k pw0).1.t) (n + (L.getD k pw0).1.t.length) (L.drop (k + 1))))) := by
  rw [List.drop_eq_getElem_cons h, rgtF, show L.getD k pw0 = L[k] by simp [List.getD, h]]
theorem shrA_drop {L : List Pw} {j : Nat} (h : j < L.length) (k : Nat) (t : List Int) : shrA k t j (L.drop j) = (t.any (hitB k j (L.getD j pw0)) || shrA k t (j + 1) (L.drop (j + 1))) := by
  rw [List.drop_eq_getElem_cons h, shrA, show L.getD j pw0 = L[j] by simp [List.getD, h]]
theorem withs_drop {t : List Int} {u : Nat} (h : u < t.length) (o : List Int) : withs o (t.drop u) = withs (withG (t.getD u 0) false o) (t.drop (u + 1)) := by
  rw [List.drop_eq_getElem_cons h, withs, show t.getD u 0 = t[u] by simp [List.getD, h]]
structure RW0 (w : World) (a : Int) (Ua : Option Addr) (um uc : Nat) (A : Option Addr) (m c : Nat) (G : Option Addr) (gm gc : Nat) (o : List Int) (V : World) : Prop where
  b : Below w.heap.size w V
  k : Blk V w.heap.size (tkC a Ua um uc A m c) 27
  z : Zo V w.heap.size G gm gc o
structure RW (w : World) (a : Int) (Ua : Option Addr) (um uc : Nat) (A : Option Addr) (m c : Nat) (G : Option Addr) (gm gc : Nat) (o : List Int) (g : Nat) (x : Pw) (V : World) : Prop where
  o : RW0 w a Ua um uc A m c G gm gc o V
  p : Blk V g (prC x) 49
theorem RW0.step {w V V' : World} {a : Int} {Ua : Option Addr} {um uc : Nat} {A : Option Addr} {m c : Nat} {G : Option Addr} {gm gc : Nat} {o : List Int} (h : RW0 w a Ua um uc A m c G gm gc o V) (b : Below V.heap.size V V') : RW0 w a Ua um uc A m c G gm gc o V' := ⟨h.b.trans (b.mono h.b.size), h.k.below b h.k.lt, h.z.below b (Nat.le_refl _)⟩
theorem RW.step {w V V' : World} {a : Int} {Ua : Option Addr} {um uc : Nat} {A : Option Addr} {m c : Nat} {G : Option Addr} {gm gc : Nat} {o : List Int} {g : Nat} {x : Pw} (h : RW w a Ua um uc A m c G gm gc o g x V) (b : Below V.heap.size V V') : RW w a Ua um uc A m c G gm gc o g x V' := ⟨h.o.step b, h.p.below b h.p.lt⟩
theorem len0_int {t : List Int} {l0 : Bool} (h : (t.length == 0) = l0) : ((t.length : Int) == 0) = l0 := by
  rw [← h]
  cases t with
  | nil => rfl
  | cons x l =>
    rw [show ((x :: l).length == 0) = false from rfl, beq_eq_false_iff_ne, List.length_cons]
    omega
def gd (c : Bool) (v : Value) : Value := if c then v else undef
set_option maxRecDepth 100000 in
set_option maxHeartbeats 16000000 in
theorem rright_tk (a : Int) (Ua : Option Addr) (um uc : Nat) (U : List Int) (A : Option Addr) (m c : Nat) (L : List Pw) (w : World) (h : Tk w w.heap.size Ua um uc U A m c L) (hn : (tidF L).length ≤ 1000) :
    Calls Tryz.prog 14 #[tkV a Ua um uc A m c] w fun e w' => e = .returned (.bool (rgtB a U L)) ∧ Below w.heap.size w w' := by
  have k1 := Blk.new w (tkC a Ua um uc A m c) 27
  have B0 := (Below.refl w.heap.size w).alloc (Nat.le_refl _) (.cells (tkC a Ua um uc A m c) 27)
  have q0 : _ = some (Value.int .i64 a) := k1.cell 0
  have q1 : _ = some (Value.slice Ua um uc) := k1.cell 1
  have q2 : _ = some (Value.slice A m c) := k1.cell 2
  have RP := Lib.hid (fun (V : World) (hV : Below w.heap.size w V) => rright_pid a Ua um uc U V ((h.u.below hV (Nat.le_refl _)).more hV.size) h.ul h.u6)
  have RT0 := Lib.hid (fun (i : Int) (V : World) (hV : Below w.heap.size w V) => root_rf a Ua um uc A m c L i V ((h.p.below hV (Nat.le_refl _)).more hV.size) h.pl (by have := h.p6; omega))
  have RF0 := Lib.hid (fun (i : Int) (V : World) (hV : Below w.heap.size w V) => find_rf a Ua um uc A m c L i V ((h.p.below hV (Nat.le_refl _)).more hV.size) h.pl (by have := h.p6; omega))
  have HS := Lib.hid h
  have HM := Lib.hid h.pl
  have hm6 := h.p6
  obtain ⟨E, hE⟩ : ∃ E, rgtB a U L = E := ⟨_, rfl⟩
  rw [hE]
  unfold rgtB at hE
  have HE := Lib.hid hE.symm
  have HNT := Lib.hid hn
  clear h hE hn
  unfold tkV at RT0 RF0 ⊢
  unfold pdV pdC at RP
  by_cases h6 : m ≤ 6
  · have hd : decide ((6 : Int) < (m : Int)) = false := by simp; omega
    have HE1 := Lib.hid (show E = (pidE a U == 0 && rgtF L U 0 [] 0 L) by rw [HE.out, decide_eq_true (show L.length ≤ 6 by have := HM.out; omega)]; rfl)
    clear HE
    cases hp : (pidE a U == 0)
    · have rp := RP.out _ B0
      rw [hp] at rp
      have HI := Lib.hid (show E = false by rw [HE1.out, hp]; rfl)
      clear HE1 hp RT0 RF0
      go_enter Tryz.func14, Tryz.ntmps14
      go_wp2_with (first
        | (refine rp.mono ?_
           clear rp
           rintro e w1 ⟨rfl, bb⟩
           have B1 := B0.trans (bb.mono B0.size)))
      go_ret
      exact ⟨by rw [HI.out]; rfl, B1⟩
    · have rp := RP.out _ B0
      rw [hp] at rp
      have HI0 := Lib.hid (show E = rgtF L U 0 [] 0 (L.drop 0) by rw [HE1.out, hp, List.drop_zero]; rfl)
      clear HE1 hp
      go_enter Tryz.func14, Tryz.ntmps14
      go_wp2_with (first
        | (refine rp.mono ?_
           clear rp q0 q1 q2
           rintro e w1 ⟨rfl, bb⟩
           have J0 : RW0 w a Ua um uc A m c none 0 0 [] w1 := ⟨B0.trans (bb.mono B0.size), k1.below bb k1.lt, zo_nil _ _⟩
           have q2 : w1.cell? ⟨w.heap.size, 2, none⟩ = some (.slice A m c) := J0.k.cell 2
           clear bb k1 B0))
      clear q2
      go_loopw [3, 4, 27] (fun n q i wr' => ∃ (k : Nat) (G : Option Addr) (gm gc : Nat) (o : List Int) (cn : Nat) (wr : World), wr = wr' ∧ k ≤ m ∧ i = .int .i64 k ∧ n = .int .i64 cn ∧ q = .slice G gm gc ∧ cn ≤ 1000 * k ∧ Hid (E = rgtF L U k o cn (L.drop k)) ∧ Hid (o.length ≤ 1001 * k) ∧ RW0 w a Ua um uc A m c G gm gc o wr) (fun _ _ i _ => m - (intOf i).toNat)
      case atStart => exact ⟨0, none, 0, 0, [], 0, _, rfl, Nat.zero_le _, rfl, rfl, rfl, by omega, HI0, Lib.hid (by simp), J0⟩
      case round =>
        clear J0 HI0
        obtain ⟨k, G, gm, gc, o, cn, wr, hwr, hk, rfl, rfl, rfl, hcn, HI, HO, J⟩ := hrel
        subst hwr
        have q2 : wr.cell? ⟨w.heap.size, 2, none⟩ = some (.slice A m c) := J.k.cell 2
        by_cases hlt : k < m
        · have hlt' : (k : Int) < (m : Int) := by omega
          have hkl : k < L.length := by have := HM.out; omega
          obtain ⟨b, off, hA, hb, hc⟩ := HS.out.p.at_ k hkl
          have HT := Lib.hid (HS.out.p.at' hkl)
          have HPR0 := Lib.hid (fun (j : Nat) (hj : j < L.length) (V : World) (hV : Below w.heap.size w V) => (HS.out.p.below hV (Nat.le_refl _)).at_ j hj)
          have hI := HI.out
          rw [rgtF_drop hkl] at hI
          have hxl : (L.getD k pw0).1.t.length ≤ 1000 := by
            have h1 := HNT.out
            have h2 : (tidF (L.drop k)).length ≤ (tidF L).length := by
              have : ∀ (l : List Pw) (n : Nat), (tidF (l.drop n)).length ≤ (tidF l).length := by
                intro l
                induction l with
                | nil => intro n; simp
                | cons x l ih =>
                  intro n
                  rcases n with _ | n
                  · simp
                  · rw [List.drop_succ_cons, tidF_cons, List.length_append]
                    have := ih n
                    omega
              exact this L k
            rw [tidF_drop hkl, List.length_append] at h2
            omega
          clear HI
          subst hA
          have hc := range_belowT hc J.b hb
          have HL := Lib.hid (show ∃ x, L.getD k pw0 = x from ⟨_, rfl⟩)
          obtain ⟨x, hx⟩ := HL.out
          rw [hx] at hc hI HT hxl
          have HX := Lib.hid hx
          have HI := Lib.hid hI
          clear hI hkl hx HL
          have hs3 : (prC x).size = 3 := pr_size x
          have RI := Lib.hid (fun (V : World) (hV : Below w.heap.size w V) => rises_rf x.2.1 x.1.t.length x.2.2 x.1.t V ((HT.out.ri.below hV (Nat.le_refl _)).more hV.size) rfl HT.out.l)
          have RT := Lib.hid (fun (V : World) (hV : Below w.heap.size w V) => RT0.out x.1.i V hV)
          have RF := Lib.hid (fun (V : World) (hV : Below w.heap.size w V) => RF0.out x.1.p V hV)
          go_upto_region 8 with (first
            | (refine wpList_load_mid rfl 49 (.tmp 30) rfl b (off + k * 3) rfl (prC x).toList _ hc Tryz.underlying49 rfl (pr_infL x) ?_)
            | (refine wpList_store_blk rfl 49 (.tmp 6) (.tmp 31) rfl wr.heap.size (prC pw0) (prC x) 49 rfl rfl (Blk.new _ _ _) rfl (pr_inf x) (pr_one x) ?_
               intro W1 k4 n4
               have bb : Below wr.heap.size wr W1 := ((Below.refl _ wr).alloc (Nat.le_refl _) _).trans (n4.below _ (Nat.le_refl _) (by simp))
               have JW : RW w a Ua um uc (some ⟨b, off, none⟩) m c G gm gc o wr.heap.size x W1 := ⟨J.step bb, k4⟩
               clear n4 bb k4 J q2))
          obtain ⟨pb, hpb⟩ : ∃ pb, wr.heap.size = pb := ⟨_, rfl⟩
          simp only [hpb] at JW ⊢
          clear hpb hc
          simp only [Act.put]
          go_cut [74] from 28 to 145 (fun s wx => s = .bool (headB L k x) ∧ Hid (RW w a Ua um uc (some ⟨b, off, none⟩) m c G gm gc o pb x wx))
          case first =>
            have JD := JW.step (Below.refl _ _).drew
            refine region_cutP ?_
            refine wp_region_held_drew (S := RW w a Ua um uc (some ⟨b, off, none⟩) m c G gm gc o pb x) (by kernel_rfl) JD (fun _ => ?_)
            clear JW
            rcases Nat.eq_zero_or_pos k with hk0 | hk0
            · have HKJ := Lib.hid (show (decide (0 < k) && decide (x.1.i ≤ (L.getD (k - 1) pw0).1.i)) = false by rw [decide_eq_false (by omega)]; rfl)
              have HK0 := Lib.hid hk0
              clear hk0
              refine wpAnyH_take (i := 0) (v := .int .i64 k) rfl (by kernel_rfl) (by kernel_rfl) (by kernel_rfl) (fun _ _ _ h => nomatch h.1) (.inl ⟨by rfl, fun V hV => by go_simp⟩) JD ?_
              try simp only [Act.put, qA, qB, qC, qD, qE, qF]
              refine wpAnyH_take (i := 1) (v := .bool false) rfl (by kernel_rfl) (by kernel_rfl) (by kernel_rfl) (fun _ _ _ h => nomatch h.1) (.inl ⟨by rfl, fun V hV => by have hd := HK0.out; go_simp⟩) JD ?_
              try simp only [Act.put, qA, qB, qC, qD, qE, qF]
              refine wpAnyH_take (i := 2) (v := .bool false) rfl (by kernel_rfl) (by kernel_rfl) (by kernel_rfl) (fun _ _ _ h => nomatch h.1) (.inl ⟨by rfl, fun V hV => by go_simp⟩) JD ?_
              try simp only [Act.put, qA, qB, qC, qD, qE, qF]
              refine wpAnyH_take (i := 3) (v := undef) rfl (by kernel_rfl) (by kernel_rfl) (by kernel_rfl) (fun _ _ _ h => nomatch h.1) (.inr ⟨by rfl, rfl⟩) JD ?_
              try simp only [Act.put, qA, qB, qC, qD, qE, qF]
              refine wpAnyH_take (i := 4) (v := undef) rfl (by kernel_rfl) (by kernel_rfl) (by kernel_rfl) (fun _ _ _ h => nomatch h.1) (.inr ⟨by rfl, rfl⟩) JD ?_
              try simp only [Act.put, qA, qB, qC, qD, qE, qF]
              refine wpAnyH_take (i := 5) (v := undef) rfl (by kernel_rfl) (by kernel_rfl) (by kernel_rfl) (fun _ _ _ h => nomatch h.1) (.inr ⟨by rfl, rfl⟩) JD ?_
              try simp only [Act.put, qA, qB, qC, qD, qE, qF]
              refine wpAnyH_take (i := 6) (v := undef) rfl (by kernel_rfl) (by kernel_rfl) (by kernel_rfl) (fun _ _ _ h => nomatch h.1) (.inr ⟨by rfl, rfl⟩) JD ?_
              try simp only [Act.put, qA, qB, qC, qD, qE, qF]
              refine wpAnyH_take (i := 7) (v := undef) rfl (by kernel_rfl) (by kernel_rfl) (by kernel_rfl) (fun _ _ _ h => nomatch h.1) (.inr ⟨by rfl, rfl⟩) JD ?_
              try simp only [Act.put, qA, qB, qC, qD, qE, qF]
              refine wpAnyH_take (i := 8) (v := undef) rfl (by kernel_rfl) (by kernel_rfl) (by kernel_rfl) (fun _ _ _ h => nomatch h.1) (.inr ⟨by rfl, rfl⟩) JD ?_
              try simp only [Act.put, qA, qB, qC, qD, qE, qF]
              refine wpAnyH_take (i := 9) (v := undef) rfl (by kernel_rfl) (by kernel_rfl) (by kernel_rfl) (fun _ _ _ h => nomatch h.1) (.inr ⟨by rfl, rfl⟩) JD ?_
              try simp only [Act.put, qA, qB, qC, qD, qE, qF]
              refine wpAnyH_take (i := 10) (v := undef) rfl (by kernel_rfl) (by kernel_rfl) (by kernel_rfl) (fun _ _ _ h => nomatch h.1) (.inr ⟨by rfl, rfl⟩) JD ?_
              try simp only [Act.put, qA, qB, qC, qD, qE, qF]
              refine wpAnyH_take (i := 11) (v := undef) rfl (by kernel_rfl) (by kernel_rfl) (by kernel_rfl) (fun _ _ _ h => nomatch h.1) (.inr ⟨by rfl, rfl⟩) JD ?_
              try simp only [Act.put, qA, qB, qC, qD, qE, qF]
              refine wpAnyH_take (i := 12) (v := undef) rfl (by kernel_rfl) (by kernel_rfl) (by kernel_rfl) (fun _ _ _ h => nomatch h.1) (.inr ⟨by rfl, rfl⟩) JD ?_
              try simp only [Act.put, qA, qB, qC, qD, qE, qF]
              refine wpAnyH_take (i := 13) (v := .bool false) rfl (by kernel_rfl) (by kernel_rfl) (by kernel_rfl) (fun _ _ _ h => nomatch h.1) (.inl ⟨by rfl, fun V hV => by go_simp⟩) JD ?_
              try simp only [Act.put, qA, qB, qC, qD, qE, qF]
              refine wpAnyH_take (i := 14) (v := .bool false) rfl (by kernel_rfl) (by kernel_rfl) (by kernel_rfl) (fun _ _ _ h => nomatch h.1) (.inl ⟨by rfl, fun V hV => by go_simp⟩) JD ?_
              try simp only [Act.put, qA, qB, qC, qD, qE, qF]
              have HH := Lib.hid (show headB L k x = ((((false || !upB x.1.t) || (x.1.t.length == 0 && x.1.p == 0)) || !rootR L (L.length + 1) x.1.i) || x.1.i == 0) by unfold headB; rw [HKJ.out])
              refine wpAnyH_take (i := 15) (v := .pointer (some ⟨pb, 2, none⟩)) rfl (by kernel_rfl) (by kernel_rfl) (by kernel_rfl) (fun _ _ _ h => nomatch h.1) (.inl ⟨by rfl, fun V hV => by go_simp⟩) JD ?_
              try simp only [Act.put, qA, qB, qC, qD, qE, qF]
              refine wpAnyH_take (i := 16) (v := .slice x.2.1 x.1.t.length x.2.2) rfl (by kernel_rfl) (by kernel_rfl) (by kernel_rfl) (fun _ _ _ h => nomatch h.1) (.inl ⟨by rfl, fun V hV => by have x2 : V.cell? ⟨pb, 2, none⟩ = some (.slice x.2.1 x.1.t.length x.2.2) := hV.p.cell 2; go_simp⟩) JD ?_
              try simp only [Act.put, qA, qB, qC, qD, qE, qF]
              refine wpAnyH_ready (rs := [17]) (by kernel_rfl) (by simp) ?_
              refine AllReadyH.cons rfl (fun K hK => ?_) AllReadyH.nil
              try simp only [Act.put, qA, qB, qC, qD, qE, qF]
              go_simp
              refine (RI.out _ JD.o.b).mono ?_
              rintro e v1 ⟨rfl, b1⟩
              have JD1 := JD.step b1
              refine hK.out _ _ JD1 (fun _ => ?_)
              clear hK K
              try simp only [Act.put, qA, qB, qC, qD, qE, qF]
              cases hup : upB x.1.t
              · rw [hup] at HH
                refine wpAnyH_take (i := 18) (v := .bool true) rfl (by kernel_rfl) (by kernel_rfl) (by kernel_rfl) (fun _ _ _ h => nomatch h.1) (.inl ⟨by rfl, fun V hV => by go_simp⟩) JD1 ?_
                try simp only [Act.put, qA, qB, qC, qD, qE, qF]
                refine wpAnyH_take (i := 19) (v := .bool true) rfl (by kernel_rfl) (by kernel_rfl) (by kernel_rfl) (fun _ _ _ h => nomatch h.1) (.inl ⟨by rfl, fun V hV => by go_simp⟩) JD1 ?_
                try simp only [Act.put, qA, qB, qC, qD, qE, qF]
                refine wpAnyH_take (i := 20) (v := .bool true) rfl (by kernel_rfl) (by kernel_rfl) (by kernel_rfl) (fun _ _ _ h => nomatch h.1) (.inl ⟨by rfl, fun V hV => by go_simp⟩) JD1 ?_
                try simp only [Act.put, qA, qB, qC, qD, qE, qF]
                refine wpAnyH_take (i := 21) (v := undef) rfl (by kernel_rfl) (by kernel_rfl) (by kernel_rfl) (fun _ _ _ h => nomatch h.1) (.inr ⟨by rfl, rfl⟩) JD1 ?_
                try simp only [Act.put, qA, qB, qC, qD, qE, qF]
                refine wpAnyH_take (i := 22) (v := undef) rfl (by kernel_rfl) (by kernel_rfl) (by kernel_rfl) (fun _ _ _ h => nomatch h.1) (.inr ⟨by rfl, rfl⟩) JD1 ?_
                try simp only [Act.put, qA, qB, qC, qD, qE, qF]
                refine wpAnyH_take (i := 23) (v := undef) rfl (by kernel_rfl) (by kernel_rfl) (by kernel_rfl) (fun _ _ _ h => nomatch h.1) (.inr ⟨by rfl, rfl⟩) JD1 ?_
                try simp only [Act.put, qA, qB, qC, qD, qE, qF]
                refine wpAnyH_take (i := 24) (v := undef) rfl (by kernel_rfl) (by kernel_rfl) (by kernel_rfl) (fun _ _ _ h => nomatch h.1) (.inr ⟨by rfl, rfl⟩) JD1 ?_
                try simp only [Act.put, qA, qB, qC, qD, qE, qF]
                refine wpAnyH_take (i := 25) (v := undef) rfl (by kernel_rfl) (by kernel_rfl) (by kernel_rfl) (fun _ _ _ h => nomatch h.1) (.inr ⟨by rfl, rfl⟩) JD1 ?_
                try simp only [Act.put, qA, qB, qC, qD, qE, qF]
                refine wpAnyH_take (i := 26) (v := undef) rfl (by kernel_rfl) (by kernel_rfl) (by kernel_rfl) (fun _ _ _ h => nomatch h.1) (.inr ⟨by rfl, rfl⟩) JD1 ?_
                try simp only [Act.put, qA, qB, qC, qD, qE, qF]
                refine wpAnyH_take (i := 27) (v := undef) rfl (by kernel_rfl) (by kernel_rfl) (by kernel_rfl) (fun _ _ _ h => nomatch h.1) (.inr ⟨by rfl, rfl⟩) JD1 ?_
                try simp only [Act.put, qA, qB, qC, qD, qE, qF]
                refine wpAnyH_take (i := 28) (v := undef) rfl (by kernel_rfl) (by kernel_rfl) (by kernel_rfl) (fun _ _ _ h => nomatch h.1) (.inr ⟨by rfl, rfl⟩) JD1 ?_
                try simp only [Act.put, qA, qB, qC, qD, qE, qF]
                refine wpAnyH_take (i := 29) (v := undef) rfl (by kernel_rfl) (by kernel_rfl) (by kernel_rfl) (fun _ _ _ h => nomatch h.1) (.inr ⟨by rfl, rfl⟩) JD1 ?_
                try simp only [Act.put, qA, qB, qC, qD, qE, qF]
                refine wpAnyH_take (i := 30) (v := .bool true) rfl (by kernel_rfl) (by kernel_rfl) (by kernel_rfl) (fun _ _ _ h => nomatch h.1) (.inl ⟨by rfl, fun V hV => by go_simp⟩) JD1 ?_
                try simp only [Act.put, qA, qB, qC, qD, qE, qF]
                refine wpAnyH_take (i := 31) (v := .bool true) rfl (by kernel_rfl) (by kernel_rfl) (by kernel_rfl) (fun _ _ _ h => nomatch h.1) (.inl ⟨by rfl, fun V hV => by go_simp⟩) JD1 ?_
                try simp only [Act.put, qA, qB, qC, qD, qE, qF]
                refine wpAnyH_take (i := 32) (v := undef) rfl (by kernel_rfl) (by kernel_rfl) (by kernel_rfl) (fun _ _ _ h => nomatch h.1) (.inr ⟨by rfl, rfl⟩) JD1 ?_
                try simp only [Act.put, qA, qB, qC, qD, qE, qF]
                refine wpAnyH_take (i := 33) (v := undef) rfl (by kernel_rfl) (by kernel_rfl) (by kernel_rfl) (fun _ _ _ h => nomatch h.1) (.inr ⟨by rfl, rfl⟩) JD1 ?_
                try simp only [Act.put, qA, qB, qC, qD, qE, qF]
                refine wpAnyH_take (i := 34) (v := undef) rfl (by kernel_rfl) (by kernel_rfl) (by kernel_rfl) (fun _ _ _ h => nomatch h.1) (.inr ⟨by rfl, rfl⟩) JD1 ?_
                try simp only [Act.put, qA, qB, qC, qD, qE, qF]
                refine wpAnyH_take (i := 35) (v := undef) rfl (by kernel_rfl) (by kernel_rfl) (by kernel_rfl) (fun _ _ _ h => nomatch h.1) (.inr ⟨by rfl, rfl⟩) JD1 ?_
                try simp only [Act.put, qA, qB, qC, qD, qE, qF]
                refine wpAnyH_take (i := 36) (v := undef) rfl (by kernel_rfl) (by kernel_rfl) (by kernel_rfl) (fun _ _ _ h => nomatch h.1) (.inr ⟨by rfl, rfl⟩) JD1 ?_
                try simp only [Act.put, qA, qB, qC, qD, qE, qF]
                refine wpAnyH_take (i := 37) (v := .bool true) rfl (by kernel_rfl) (by kernel_rfl) (by kernel_rfl) (fun _ _ _ h => nomatch h.1) (.inl ⟨by rfl, fun V hV => by go_simp⟩) JD1 ?_
                try simp only [Act.put, qA, qB, qC, qD, qE, qF]
                refine wpAnyH_take (i := 38) (v := .bool true) rfl (by kernel_rfl) (by kernel_rfl) (by kernel_rfl) (fun _ _ _ h => nomatch h.1) (.inl ⟨by rfl, fun V hV => by go_simp⟩) JD1 ?_
                try simp only [Act.put, qA, qB, qC, qD, qE, qF]
                refine wpAnyH_take (i := 39) (v := undef) rfl (by kernel_rfl) (by kernel_rfl) (by kernel_rfl) (fun _ _ _ h => nomatch h.1) (.inr ⟨by rfl, rfl⟩) JD1 ?_
                try simp only [Act.put, qA, qB, qC, qD, qE, qF]
                refine wpAnyH_take (i := 40) (v := undef) rfl (by kernel_rfl) (by kernel_rfl) (by kernel_rfl) (fun _ _ _ h => nomatch h.1) (.inr ⟨by rfl, rfl⟩) JD1 ?_
                try simp only [Act.put, qA, qB, qC, qD, qE, qF]
                refine wpAnyH_take (i := 41) (v := undef) rfl (by kernel_rfl) (by kernel_rfl) (by kernel_rfl) (fun _ _ _ h => nomatch h.1) (.inr ⟨by rfl, rfl⟩) JD1 ?_
                try simp only [Act.put, qA, qB, qC, qD, qE, qF]
                refine wpAnyH_take (i := 42) (v := .bool true) rfl (by kernel_rfl) (by kernel_rfl) (by kernel_rfl) (fun _ _ _ h => nomatch h.1) (.inl ⟨by rfl, fun V hV => by go_simp⟩) JD1 ?_
                try simp only [Act.put, qA, qB, qC, qD, qE, qF]
                refine wpAnyH_done (by kernel_rfl) ?_ _
                refine ⟨rfl, ?_⟩
                go_wp2_with fail
                go_meet
                case rel => exact ⟨by first | (rw [HH.out]; rfl) | rw [HH.out], Lib.hid JD1⟩
              · rw [hup] at HH
                refine wpAnyH_take (i := 18) (v := .bool false) rfl (by kernel_rfl) (by kernel_rfl) (by kernel_rfl) (fun _ _ _ h => nomatch h.1) (.inl ⟨by rfl, fun V hV => by go_simp⟩) JD1 ?_
                try simp only [Act.put, qA, qB, qC, qD, qE, qF]
                refine wpAnyH_take (i := 19) (v := .bool false) rfl (by kernel_rfl) (by kernel_rfl) (by kernel_rfl) (fun _ _ _ h => nomatch h.1) (.inl ⟨by rfl, fun V hV => by go_simp⟩) JD1 ?_
                try simp only [Act.put, qA, qB, qC, qD, qE, qF]
                refine wpAnyH_take (i := 20) (v := .bool false) rfl (by kernel_rfl) (by kernel_rfl) (by kernel_rfl) (fun _ _ _ h => nomatch h.1) (.inl ⟨by rfl, fun V hV => by go_simp⟩) JD1 ?_
                try simp only [Act.put, qA, qB, qC, qD, qE, qF]
                refine wpAnyH_take (i := 21) (v := .pointer (some ⟨pb, 2, none⟩)) rfl (by kernel_rfl) (by kernel_rfl) (by kernel_rfl) (fun _ _ _ h => nomatch h.1) (.inl ⟨by rfl, fun V hV => by go_simp⟩) JD1 ?_
                try simp only [Act.put, qA, qB, qC, qD, qE, qF]
                refine wpAnyH_take (i := 22) (v := .slice x.2.1 x.1.t.length x.2.2) rfl (by kernel_rfl) (by kernel_rfl) (by kernel_rfl) (fun _ _ _ h => nomatch h.1) (.inl ⟨by rfl, fun V hV => by have x2 : V.cell? ⟨pb, 2, none⟩ = some (.slice x.2.1 x.1.t.length x.2.2) := hV.p.cell 2; go_simp⟩) JD1 ?_
                try simp only [Act.put, qA, qB, qC, qD, qE, qF]
                refine wpAnyH_take (i := 23) (v := .int .i64 x.1.t.length) rfl (by kernel_rfl) (by kernel_rfl) (by kernel_rfl) (fun _ _ _ h => nomatch h.1) (.inl ⟨by rfl, fun V hV => by go_simp⟩) JD1 ?_
                try simp only [Act.put, qA, qB, qC, qD, qE, qF]
                obtain ⟨l0, hl0⟩ : ∃ l0, (x.1.t.length == 0) = l0 := ⟨_, rfl⟩
                obtain ⟨p0, hp0⟩ : ∃ p0, (x.1.p == 0) = p0 := ⟨_, rfl⟩
                rw [hl0, hp0] at HH
                have hl1 : ((x.1.t.length : Int) == 0) = l0 := len0_int hl0
                have HL0 := Lib.hid hl1
                have HP0 := Lib.hid hp0
                clear hl0 hl1 hp0
                refine wpAnyH_take (i := 24) (v := .bool l0) rfl (by kernel_rfl) (by kernel_rfl) (by kernel_rfl) (fun _ _ _ h => nomatch h.1) (.inl ⟨by rfl, fun V hV => by have hq := HL0.out; go_simp⟩) JD1 ?_
                try simp only [Act.put, qA, qB, qC, qD, qE, qF]
                refine wpAnyH_take (i := 25) (v := .bool l0) rfl (by kernel_rfl) (by kernel_rfl) (by kernel_rfl) (fun _ _ _ h => nomatch h.1) (.inl ⟨by rfl, fun V hV => by go_simp⟩) JD1 ?_
                try simp only [Act.put, qA, qB, qC, qD, qE, qF]
                refine wpAnyH_take (i := 26) (v := gd l0 (.pointer (some ⟨pb, 1, none⟩))) rfl (by kernel_rfl) (by kernel_rfl) (by kernel_rfl) (fun _ _ _ h => nomatch h.1) (by cases l0; exact .inr ⟨by rfl, rfl⟩; exact .inl ⟨by rfl, fun V hV => by simp only [gd]; go_simp⟩) JD1 ?_
                try simp only [Act.put, qA, qB, qC, qD, qE, qF]
                refine wpAnyH_take (i := 27) (v := gd l0 (.int .i64 x.1.p)) rfl (by kernel_rfl) (by kernel_rfl) (by kernel_rfl) (fun _ _ _ h => nomatch h.1) (by cases l0; exact .inr ⟨by rfl, rfl⟩; exact .inl ⟨by rfl, fun V hV => by have x1 : V.cell? ⟨pb, 1, none⟩ = some (.int .i64 x.1.p) := hV.p.cell 1; simp only [gd]; go_simp⟩) JD1 ?_
                try simp only [Act.put, qA, qB, qC, qD, qE, qF]
                refine wpAnyH_take (i := 28) (v := gd l0 (.bool p0)) rfl (by kernel_rfl) (by kernel_rfl) (by kernel_rfl) (fun _ _ _ h => nomatch h.1) (by cases l0; exact .inr ⟨by rfl, rfl⟩; exact .inl ⟨by rfl, fun V hV => by have hq := HP0.out; simp only [gd]; go_simp⟩) JD1 ?_
                try simp only [Act.put, qA, qB, qC, qD, qE, qF]
                refine wpAnyH_take (i := 29) (v := .bool (l0 && p0)) rfl (by kernel_rfl) (by kernel_rfl) (by kernel_rfl) (fun _ _ _ h => nomatch h.1) (by cases l0 <;> exact .inl ⟨by rfl, fun V hV => by simp only [gd]; go_simp⟩) JD1 ?_
                try simp only [Act.put, qA, qB, qC, qD, qE, qF]
                cases hc3 : (l0 && p0)
                · rw [hc3] at HH
                  refine wpAnyH_take (i := 30) (v := .bool false) rfl (by kernel_rfl) (by kernel_rfl) (by kernel_rfl) (fun _ _ _ h => nomatch h.1) (.inl ⟨by rfl, fun V hV => by go_simp⟩) JD1 ?_
                  try simp only [Act.put, qA, qB, qC, qD, qE, qF]
                  refine wpAnyH_take (i := 31) (v := .bool false) rfl (by kernel_rfl) (by kernel_rfl) (by kernel_rfl) (fun _ _ _ h => nomatch h.1) (.inl ⟨by rfl, fun V hV => by go_simp⟩) JD1 ?_
                  try simp only [Act.put, qA, qB, qC, qD, qE, qF]
                  refine wpAnyH_take (i := 32) (v := .agg (tkC a Ua um uc (some ⟨b, off, none⟩) m c)) rfl (by kernel_rfl) (by kernel_rfl) (by kernel_rfl) (fun _ _ _ h => nomatch h.1) (yieldsIf_blk (by rfl) 27 (.tmp 1) rfl w.heap.size rfl (tkC a Ua um uc (some ⟨b, off, none⟩) m c) 27 _ (fun _ h => h.o.k) Tryz.underlying27 rfl (tk_inf _ _ _ _ _ _ _)) JD1 ?_
                  try simp only [Act.put, qA, qB, qC, qD, qE, qF]
                  refine wpAnyH_take (i := 33) (v := .pointer (some ⟨pb, 0, none⟩)) rfl (by kernel_rfl) (by kernel_rfl) (by kernel_rfl) (fun _ _ _ h => nomatch h.1) (.inl ⟨by rfl, fun V hV => by go_simp⟩) JD1 ?_
                  try simp only [Act.put, qA, qB, qC, qD, qE, qF]
                  refine wpAnyH_take (i := 34) (v := .int .i64 x.1.i) rfl (by kernel_rfl) (by kernel_rfl) (by kernel_rfl) (fun _ _ _ h => nomatch h.1) (.inl ⟨by rfl, fun V hV => by have x0 : V.cell? ⟨pb, 0, none⟩ = some (.int .i64 x.1.i) := hV.p.cell 0; go_simp⟩) JD1 ?_
                  try simp only [Act.put, qA, qB, qC, qD, qE, qF]
                  refine wpAnyH_ready (rs := [35]) (by kernel_rfl) (by simp) ?_
                  refine AllReadyH.cons rfl (fun K hK => ?_) AllReadyH.nil
                  try simp only [Act.put, qA, qB, qC, qD, qE, qF]
                  go_simp
                  refine (RT.out _ JD1.o.b).mono ?_
                  rintro e v2 ⟨rfl, b2⟩
                  have JD2 := JD1.step b2
                  refine hK.out _ _ JD2 (fun _ => ?_)
                  clear hK K
                  try simp only [Act.put, qA, qB, qC, qD, qE, qF]
                  cases hrt : rootR L (m + 1) x.1.i
                  · rw [← HM.out, hrt] at HH
                    refine wpAnyH_take (i := 36) (v := .bool true) rfl (by kernel_rfl) (by kernel_rfl) (by kernel_rfl) (fun _ _ _ h => nomatch h.1) (.inl ⟨by rfl, fun V hV => by go_simp⟩) JD2 ?_
                    try simp only [Act.put, qA, qB, qC, qD, qE, qF]
                    refine wpAnyH_take (i := 37) (v := .bool true) rfl (by kernel_rfl) (by kernel_rfl) (by kernel_rfl) (fun _ _ _ h => nomatch h.1) (.inl ⟨by rfl, fun V hV => by go_simp⟩) JD2 ?_
                    try simp only [Act.put, qA, qB, qC, qD, qE, qF]
                    refine wpAnyH_take (i := 38) (v := .bool true) rfl (by kernel_rfl) (by kernel_rfl) (by kernel_rfl) (fun _ _ _ h => nomatch h.1) (.inl ⟨by rfl, fun V hV => by go_simp⟩) JD2 ?_
                    try simp only [Act.put, qA, qB, qC, qD, qE, qF]
                    refine wpAnyH_take (i := 39) (v := undef) rfl (by kernel_rfl) (by kernel_rfl) (by kernel_rfl) (fun _ _ _ h => nomatch h.1) (.inr ⟨by rfl, rfl⟩) JD2 ?_
                    try simp only [Act.put, qA, qB, qC, qD, qE, qF]
                    refine wpAnyH_take (i := 40) (v := undef) rfl (by kernel_rfl) (by kernel_rfl) (by kernel_rfl) (fun _ _ _ h => nomatch h.1) (.inr ⟨by rfl, rfl⟩) JD2 ?_
                    try simp only [Act.put, qA, qB, qC, qD, qE, qF]
                    refine wpAnyH_take (i := 41) (v := undef) rfl (by kernel_rfl) (by kernel_rfl) (by kernel_rfl) (fun _ _ _ h => nomatch h.1) (.inr ⟨by rfl, rfl⟩) JD2 ?_
                    try simp only [Act.put, qA, qB, qC, qD, qE, qF]
                    refine wpAnyH_take (i := 42) (v := .bool true) rfl (by kernel_rfl) (by kernel_rfl) (by kernel_rfl) (fun _ _ _ h => nomatch h.1) (.inl ⟨by rfl, fun V hV => by go_simp⟩) JD2 ?_
                    try simp only [Act.put, qA, qB, qC, qD, qE, qF]
                    refine wpAnyH_done (by kernel_rfl) ?_ _
                    refine ⟨rfl, ?_⟩
                    go_wp2_with fail
                    go_meet
                    case rel => exact ⟨by first | (rw [HH.out]; rfl) | rw [HH.out], Lib.hid JD2⟩
                  · rw [← HM.out, hrt] at HH
                    refine wpAnyH_take (i := 36) (v := .bool false) rfl (by kernel_rfl) (by kernel_rfl) (by kernel_rfl) (fun _ _ _ h => nomatch h.1) (.inl ⟨by rfl, fun V hV => by go_simp⟩) JD2 ?_
                    try simp only [Act.put, qA, qB, qC, qD, qE, qF]
                    refine wpAnyH_take (i := 37) (v := .bool false) rfl (by kernel_rfl) (by kernel_rfl) (by kernel_rfl) (fun _ _ _ h => nomatch h.1) (.inl ⟨by rfl, fun V hV => by go_simp⟩) JD2 ?_
                    try simp only [Act.put, qA, qB, qC, qD, qE, qF]
                    refine wpAnyH_take (i := 38) (v := .bool false) rfl (by kernel_rfl) (by kernel_rfl) (by kernel_rfl) (fun _ _ _ h => nomatch h.1) (.inl ⟨by rfl, fun V hV => by go_simp⟩) JD2 ?_
                    try simp only [Act.put, qA, qB, qC, qD, qE, qF]
                    refine wpAnyH_take (i := 39) (v := .pointer (some ⟨pb, 0, none⟩)) rfl (by kernel_rfl) (by kernel_rfl) (by kernel_rfl) (fun _ _ _ h => nomatch h.1) (.inl ⟨by rfl, fun V hV => by go_simp⟩) JD2 ?_
                    try simp only [Act.put, qA, qB, qC, qD, qE, qF]
                    refine wpAnyH_take (i := 40) (v := .int .i64 x.1.i) rfl (by kernel_rfl) (by kernel_rfl) (by kernel_rfl) (fun _ _ _ h => nomatch h.1) (.inl ⟨by rfl, fun V hV => by have x0 : V.cell? ⟨pb, 0, none⟩ = some (.int .i64 x.1.i) := hV.p.cell 0; go_simp⟩) JD2 ?_
                    try simp only [Act.put, qA, qB, qC, qD, qE, qF]
                    obtain ⟨i0, hi0⟩ : ∃ i0, (x.1.i == 0) = i0 := ⟨_, rfl⟩
                    rw [hi0] at HH
                    refine wpAnyH_take (i := 41) (v := .bool i0) rfl (by kernel_rfl) (by kernel_rfl) (by kernel_rfl) (fun _ _ _ h => nomatch h.1) (.inl ⟨by rfl, fun V hV => by go_simp⟩) JD2 ?_
                    try simp only [Act.put, qA, qB, qC, qD, qE, qF]
                    refine wpAnyH_take (i := 42) (v := .bool i0) rfl (by kernel_rfl) (by kernel_rfl) (by kernel_rfl) (fun _ _ _ h => nomatch h.1) (.inl ⟨by rfl, fun V hV => by go_simp⟩) JD2 ?_
                    try simp only [Act.put, qA, qB, qC, qD, qE, qF]
                    refine wpAnyH_done (by kernel_rfl) ?_ _
                    refine ⟨rfl, ?_⟩
                    go_wp2_with fail
                    go_meet
                    case rel => exact ⟨by first | (rw [HH.out]; rfl) | rw [HH.out], Lib.hid JD2⟩
                · rw [hc3] at HH
                  refine wpAnyH_take (i := 30) (v := .bool true) rfl (by kernel_rfl) (by kernel_rfl) (by kernel_rfl) (fun _ _ _ h => nomatch h.1) (.inl ⟨by rfl, fun V hV => by go_simp⟩) JD1 ?_
                  try simp only [Act.put, qA, qB, qC, qD, qE, qF]
                  refine wpAnyH_take (i := 31) (v := .bool true) rfl (by kernel_rfl) (by kernel_rfl) (by kernel_rfl) (fun _ _ _ h => nomatch h.1) (.inl ⟨by rfl, fun V hV => by go_simp⟩) JD1 ?_
                  try simp only [Act.put, qA, qB, qC, qD, qE, qF]
                  refine wpAnyH_take (i := 32) (v := undef) rfl (by kernel_rfl) (by kernel_rfl) (by kernel_rfl) (fun _ _ _ h => nomatch h.1) (.inr ⟨by rfl, rfl⟩) JD1 ?_
                  try simp only [Act.put, qA, qB, qC, qD, qE, qF]
                  refine wpAnyH_take (i := 33) (v := undef) rfl (by kernel_rfl) (by kernel_rfl) (by kernel_rfl) (fun _ _ _ h => nomatch h.1) (.inr ⟨by rfl, rfl⟩) JD1 ?_
                  try simp only [Act.put, qA, qB, qC, qD, qE, qF]
                  refine wpAnyH_take (i := 34) (v := undef) rfl (by kernel_rfl) (by kernel_rfl) (by kernel_rfl) (fun _ _ _ h => nomatch h.1) (.inr ⟨by rfl, rfl⟩) JD1 ?_
                  try simp only [Act.put, qA, qB, qC, qD, qE, qF]
                  refine wpAnyH_take (i := 35) (v := undef) rfl (by kernel_rfl) (by kernel_rfl) (by kernel_rfl) (fun _ _ _ h => nomatch h.1) (.inr ⟨by rfl, rfl⟩) JD1 ?_
                  try simp only [Act.put, qA, qB, qC, qD, qE, qF]
                  refine wpAnyH_take (i := 36) (v := undef) rfl (by kernel_rfl) (by kernel_rfl) (by kernel_rfl) (fun _ _ _ h => nomatch h.1) (.inr ⟨by rfl, rfl⟩) JD1 ?_
                  try simp only [Act.put, qA, qB, qC, qD, qE, qF]
                  refine wpAnyH_take (i := 37) (v := .bool true) rfl (by kernel_rfl) (by kernel_rfl) (by kernel_rfl) (fun _ _ _ h => nomatch h.1) (.inl ⟨by rfl, fun V hV => by go_simp⟩) JD1 ?_
                  try simp only [Act.put, qA, qB, qC, qD, qE, qF]
                  refine wpAnyH_take (i := 38) (v := .bool true) rfl (by kernel_rfl) (by kernel_rfl) (by kernel_rfl) (fun _ _ _ h => nomatch h.1) (.inl ⟨by rfl, fun V hV => by go_simp⟩) JD1 ?_
                  try simp only [Act.put, qA, qB, qC, qD, qE, qF]
                  refine wpAnyH_take (i := 39) (v := undef) rfl (by kernel_rfl) (by kernel_rfl) (by kernel_rfl) (fun _ _ _ h => nomatch h.1) (.inr ⟨by rfl, rfl⟩) JD1 ?_
                  try simp only [Act.put, qA, qB, qC, qD, qE, qF]
                  refine wpAnyH_take (i := 40) (v := undef) rfl (by kernel_rfl) (by kernel_rfl) (by kernel_rfl) (fun _ _ _ h => nomatch h.1) (.inr ⟨by rfl, rfl⟩) JD1 ?_
                  try simp only [Act.put, qA, qB, qC, qD, qE, qF]
                  refine wpAnyH_take (i := 41) (v := undef) rfl (by kernel_rfl) (by kernel_rfl) (by kernel_rfl) (fun _ _ _ h => nomatch h.1) (.inr ⟨by rfl, rfl⟩) JD1 ?_
                  try simp only [Act.put, qA, qB, qC, qD, qE, qF]
                  refine wpAnyH_take (i := 42) (v := .bool true) rfl (by kernel_rfl) (by kernel_rfl) (by kernel_rfl) (fun _ _ _ h => nomatch h.1) (.inl ⟨by rfl, fun V hV => by go_simp⟩) JD1 ?_
                  try simp only [Act.put, qA, qB, qC, qD, qE, qF]
                  refine wpAnyH_done (by kernel_rfl) ?_ _
                  refine ⟨rfl, ?_⟩
                  go_wp2_with fail
                  go_meet
                  case rel => exact ⟨by first | (rw [HH.out]; rfl) | rw [HH.out], Lib.hid JD1⟩
            · obtain ⟨j0, hj0⟩ : ∃ j0, k = j0 + 1 := ⟨k - 1, by omega⟩
              have HKJ := Lib.hid (show (decide (0 < k) && decide (x.1.i ≤ (L.getD (k - 1) pw0).1.i)) = decide (x.1.i ≤ (L.getD j0 pw0).1.i) by rw [decide_eq_true hk0, Bool.true_and, hj0]; rfl)
              have HPR := Lib.hid (fun (V : World) (hV : Below w.heap.size w V) => (show V.cell? ⟨b, off + j0 * 3, none⟩ = some (.int .i64 (L.getD j0 pw0).1.i) by
                obtain ⟨b', off', e, _, h2⟩ := HPR0.out j0 (by have := HM.out; omega) V hV
                cases e
                exact h2 0 _ rfl))
              have HK0 := Lib.hid hk0
              have HK1 := Lib.hid (show (k : Int) - 1 = (j0 : Int) by omega)
              have HK2 := Lib.hid (show IntKind.i64.wrap (j0 : Int) = (j0 : Int) by rw [IntKind.wrap_i64]; omega)
              have hjm : (j0 : Int) < (m : Int) := by omega
              generalize (L.getD j0 pw0).1.i = z at HKJ HPR
              clear hk0 hj0
              refine wpAnyH_take (i := 0) (v := .int .i64 k) rfl (by kernel_rfl) (by kernel_rfl) (by kernel_rfl) (fun _ _ _ h => nomatch h.1) (.inl ⟨by rfl, fun V hV => by go_simp⟩) JD ?_
              try simp only [Act.put, qA, qB, qC, qD, qE, qF]
              refine wpAnyH_take (i := 1) (v := .bool true) rfl (by kernel_rfl) (by kernel_rfl) (by kernel_rfl) (fun _ _ _ h => nomatch h.1) (.inl ⟨by rfl, fun V hV => by have hd := HK0.out; go_simp⟩) JD ?_
              try simp only [Act.put, qA, qB, qC, qD, qE, qF]
              refine wpAnyH_take (i := 2) (v := .bool true) rfl (by kernel_rfl) (by kernel_rfl) (by kernel_rfl) (fun _ _ _ h => nomatch h.1) (.inl ⟨by rfl, fun V hV => by go_simp⟩) JD ?_
              try simp only [Act.put, qA, qB, qC, qD, qE, qF]
              refine wpAnyH_take (i := 3) (v := .pointer (some ⟨w.heap.size, 2, none⟩)) rfl (by kernel_rfl) (by kernel_rfl) (by kernel_rfl) (fun _ _ _ h => nomatch h.1) (.inl ⟨by rfl, fun V hV => by go_simp⟩) JD ?_
              try simp only [Act.put, qA, qB, qC, qD, qE, qF]
              refine wpAnyH_take (i := 4) (v := .slice (some ⟨b, off, none⟩) m c) rfl (by kernel_rfl) (by kernel_rfl) (by kernel_rfl) (fun _ _ _ h => nomatch h.1) (.inl ⟨by rfl, fun V hV => by have c2 : V.cell? ⟨w.heap.size, 2, none⟩ = some (.slice (some ⟨b, off, none⟩) m c) := hV.o.k.cell 2; go_simp⟩) JD ?_
              try simp only [Act.put, qA, qB, qC, qD, qE, qF]
              refine wpAnyH_take (i := 5) (v := .int .i64 k) rfl (by kernel_rfl) (by kernel_rfl) (by kernel_rfl) (fun _ _ _ h => nomatch h.1) (.inl ⟨by rfl, fun V hV => by go_simp⟩) JD ?_
              try simp only [Act.put, qA, qB, qC, qD, qE, qF]
              refine wpAnyH_take (i := 6) (v := .int .i64 j0) rfl (by kernel_rfl) (by kernel_rfl) (by kernel_rfl) (fun _ _ _ h => nomatch h.1) (.inl ⟨by rfl, fun V hV => by have hd := HK1.out; have hj := HK2.out; go_simp⟩) JD ?_
              try simp only [Act.put, qA, qB, qC, qD, qE, qF]
              refine wpAnyH_take (i := 7) (v := .pointer (some ⟨b, off + j0 * 3, none⟩)) rfl (by kernel_rfl) (by kernel_rfl) (by kernel_rfl) (fun _ _ _ h => nomatch h.1) (.inl ⟨by rfl, fun V hV => by go_simp⟩) JD ?_
              try simp only [Act.put, qA, qB, qC, qD, qE, qF]
              refine wpAnyH_take (i := 8) (v := .pointer (some ⟨b, off + j0 * 3, none⟩)) rfl (by kernel_rfl) (by kernel_rfl) (by kernel_rfl) (fun _ _ _ h => nomatch h.1) (.inl ⟨by rfl, fun V hV => by go_simp⟩) JD ?_
              try simp only [Act.put, qA, qB, qC, qD, qE, qF]
              refine wpAnyH_take (i := 9) (v := .int .i64 z) rfl (by kernel_rfl) (by kernel_rfl) (by kernel_rfl) (fun _ _ _ h => nomatch h.1) (.inl ⟨by rfl, fun V hV => by have c0 := HPR.out V hV.o.b; go_simp⟩) JD ?_
              try simp only [Act.put, qA, qB, qC, qD, qE, qF]
              refine wpAnyH_take (i := 10) (v := .pointer (some ⟨pb, 0, none⟩)) rfl (by kernel_rfl) (by kernel_rfl) (by kernel_rfl) (fun _ _ _ h => nomatch h.1) (.inl ⟨by rfl, fun V hV => by go_simp⟩) JD ?_
              try simp only [Act.put, qA, qB, qC, qD, qE, qF]
              refine wpAnyH_take (i := 11) (v := .int .i64 x.1.i) rfl (by kernel_rfl) (by kernel_rfl) (by kernel_rfl) (fun _ _ _ h => nomatch h.1) (.inl ⟨by rfl, fun V hV => by have x0 : V.cell? ⟨pb, 0, none⟩ = some (.int .i64 x.1.i) := hV.p.cell 0; go_simp⟩) JD ?_
              try simp only [Act.put, qA, qB, qC, qD, qE, qF]
              cases hge : decide (x.1.i ≤ z)
              · have HH := Lib.hid (show headB L k x = ((((false || !upB x.1.t) || (x.1.t.length == 0 && x.1.p == 0)) || !rootR L (L.length + 1) x.1.i) || x.1.i == 0) by unfold headB; rw [HKJ.out, hge])
                refine wpAnyH_take (i := 12) (v := .bool false) rfl (by kernel_rfl) (by kernel_rfl) (by kernel_rfl) (fun _ _ _ h => nomatch h.1) (.inl ⟨by rfl, fun V hV => by go_simp⟩) JD ?_
                try simp only [Act.put, qA, qB, qC, qD, qE, qF]
                refine wpAnyH_take (i := 13) (v := .bool false) rfl (by kernel_rfl) (by kernel_rfl) (by kernel_rfl) (fun _ _ _ h => nomatch h.1) (.inl ⟨by rfl, fun V hV => by go_simp⟩) JD ?_
                try simp only [Act.put, qA, qB, qC, qD, qE, qF]
                refine wpAnyH_take (i := 14) (v := .bool false) rfl (by kernel_rfl) (by kernel_rfl) (by kernel_rfl) (fun _ _ _ h => nomatch h.1) (.inl ⟨by rfl, fun V hV => by go_simp⟩) JD ?_
                try simp only [Act.put, qA, qB, qC, qD, qE, qF]
                refine wpAnyH_take (i := 15) (v := .pointer (some ⟨pb, 2, none⟩)) rfl (by kernel_rfl) (by kernel_rfl) (by kernel_rfl) (fun _ _ _ h => nomatch h.1) (.inl ⟨by rfl, fun V hV => by go_simp⟩) JD ?_
                try simp only [Act.put, qA, qB, qC, qD, qE, qF]
                refine wpAnyH_take (i := 16) (v := .slice x.2.1 x.1.t.length x.2.2) rfl (by kernel_rfl) (by kernel_rfl) (by kernel_rfl) (fun _ _ _ h => nomatch h.1) (.inl ⟨by rfl, fun V hV => by have x2 : V.cell? ⟨pb, 2, none⟩ = some (.slice x.2.1 x.1.t.length x.2.2) := hV.p.cell 2; go_simp⟩) JD ?_
                try simp only [Act.put, qA, qB, qC, qD, qE, qF]
                refine wpAnyH_ready (rs := [17]) (by kernel_rfl) (by simp) ?_
                refine AllReadyH.cons rfl (fun K hK => ?_) AllReadyH.nil
                try simp only [Act.put, qA, qB, qC, qD, qE, qF]
                go_simp
                refine (RI.out _ JD.o.b).mono ?_
                rintro e v1 ⟨rfl, b1⟩
                have JD1 := JD.step b1
                refine hK.out _ _ JD1 (fun _ => ?_)
                clear hK K
                try simp only [Act.put, qA, qB, qC, qD, qE, qF]
                cases hup : upB x.1.t
                · rw [hup] at HH
                  refine wpAnyH_take (i := 18) (v := .bool true) rfl (by kernel_rfl) (by kernel_rfl) (by kernel_rfl) (fun _ _ _ h => nomatch h.1) (.inl ⟨by rfl, fun V hV => by go_simp⟩) JD1 ?_
                  try simp only [Act.put, qA, qB, qC, qD, qE, qF]
                  refine wpAnyH_take (i := 19) (v := .bool true) rfl (by kernel_rfl) (by kernel_rfl) (by kernel_rfl) (fun _ _ _ h => nomatch h.1) (.inl ⟨by rfl, fun V hV => by go_simp⟩) JD1 ?_
                  try simp only [Act.put, qA, qB, qC, qD, qE, qF]
                  refine wpAnyH_take (i := 20) (v := .bool true) rfl (by kernel_rfl) (by kernel_rfl) (by kernel_rfl) (fun _ _ _ h => nomatch h.1) (.inl ⟨by rfl, fun V hV => by go_simp⟩) JD1 ?_
                  try simp only [Act.put, qA, qB, qC, qD, qE, qF]
                  refine wpAnyH_take (i := 21) (v := undef) rfl (by kernel_rfl) (by kernel_rfl) (by kernel_rfl) (fun _ _ _ h => nomatch h.1) (.inr ⟨by rfl, rfl⟩) JD1 ?_
                  try simp only [Act.put, qA, qB, qC, qD, qE, qF]
                  refine wpAnyH_take (i := 22) (v := undef) rfl (by kernel_rfl) (by kernel_rfl) (by kernel_rfl) (fun _ _ _ h => nomatch h.1) (.inr ⟨by rfl, rfl⟩) JD1 ?_
                  try simp only [Act.put, qA, qB, qC, qD, qE, qF]
                  refine wpAnyH_take (i := 23) (v := undef) rfl (by kernel_rfl) (by kernel_rfl) (by kernel_rfl) (fun _ _ _ h => nomatch h.1) (.inr ⟨by rfl, rfl⟩) JD1 ?_
                  try simp only [Act.put, qA, qB, qC, qD, qE, qF]
                  refine wpAnyH_take (i := 24) (v := undef) rfl (by kernel_rfl) (by kernel_rfl) (by kernel_rfl) (fun _ _ _ h => nomatch h.1) (.inr ⟨by rfl, rfl⟩) JD1 ?_
                  try simp only [Act.put, qA, qB, qC, qD, qE, qF]
                  refine wpAnyH_take (i := 25) (v := undef) rfl (by kernel_rfl) (by kernel_rfl) (by kernel_rfl) (fun _ _ _ h => nomatch h.1) (.inr ⟨by rfl, rfl⟩) JD1 ?_
                  try simp only [Act.put, qA, qB, qC, qD, qE, qF]
                  refine wpAnyH_take (i := 26) (v := undef) rfl (by kernel_rfl) (by kernel_rfl) (by kernel_rfl) (fun _ _ _ h => nomatch h.1) (.inr ⟨by rfl, rfl⟩) JD1 ?_
                  try simp only [Act.put, qA, qB, qC, qD, qE, qF]
                  refine wpAnyH_take (i := 27) (v := undef) rfl (by kernel_rfl) (by kernel_rfl) (by kernel_rfl) (fun _ _ _ h => nomatch h.1) (.inr ⟨by rfl, rfl⟩) JD1 ?_
                  try simp only [Act.put, qA, qB, qC, qD, qE, qF]
                  refine wpAnyH_take (i := 28) (v := undef) rfl (by kernel_rfl) (by kernel_rfl) (by kernel_rfl) (fun _ _ _ h => nomatch h.1) (.inr ⟨by rfl, rfl⟩) JD1 ?_
                  try simp only [Act.put, qA, qB, qC, qD, qE, qF]
                  refine wpAnyH_take (i := 29) (v := undef) rfl (by kernel_rfl) (by kernel_rfl) (by kernel_rfl) (fun _ _ _ h => nomatch h.1) (.inr ⟨by rfl, rfl⟩) JD1 ?_
                  try simp only [Act.put, qA, qB, qC, qD, qE, qF]
                  refine wpAnyH_take (i := 30) (v := .bool true) rfl (by kernel_rfl) (by kernel_rfl) (by kernel_rfl) (fun _ _ _ h => nomatch h.1) (.inl ⟨by rfl, fun V hV => by go_simp⟩) JD1 ?_
                  try simp only [Act.put, qA, qB, qC, qD, qE, qF]
                  refine wpAnyH_take (i := 31) (v := .bool true) rfl (by kernel_rfl) (by kernel_rfl) (by kernel_rfl) (fun _ _ _ h => nomatch h.1) (.inl ⟨by rfl, fun V hV => by go_simp⟩) JD1 ?_
                  try simp only [Act.put, qA, qB, qC, qD, qE, qF]
                  refine wpAnyH_take (i := 32) (v := undef) rfl (by kernel_rfl) (by kernel_rfl) (by kernel_rfl) (fun _ _ _ h => nomatch h.1) (.inr ⟨by rfl, rfl⟩) JD1 ?_
                  try simp only [Act.put, qA, qB, qC, qD, qE, qF]
                  refine wpAnyH_take (i := 33) (v := undef) rfl (by kernel_rfl) (by kernel_rfl) (by kernel_rfl) (fun _ _ _ h => nomatch h.1) (.inr ⟨by rfl, rfl⟩) JD1 ?_
                  try simp only [Act.put, qA, qB, qC, qD, qE, qF]
                  refine wpAnyH_take (i := 34) (v := undef) rfl (by kernel_rfl) (by kernel_rfl) (by kernel_rfl) (fun _ _ _ h => nomatch h.1) (.inr ⟨by rfl, rfl⟩) JD1 ?_
                  try simp only [Act.put, qA, qB, qC, qD, qE, qF]
                  refine wpAnyH_take (i := 35) (v := undef) rfl (by kernel_rfl) (by kernel_rfl) (by kernel_rfl) (fun _ _ _ h => nomatch h.1) (.inr ⟨by rfl, rfl⟩) JD1 ?_
                  try simp only [Act.put, qA, qB, qC, qD, qE, qF]
                  refine wpAnyH_take (i := 36) (v := undef) rfl (by kernel_rfl) (by kernel_rfl) (by kernel_rfl) (fun _ _ _ h => nomatch h.1) (.inr ⟨by rfl, rfl⟩) JD1 ?_
                  try simp only [Act.put, qA, qB, qC, qD, qE, qF]
                  refine wpAnyH_take (i := 37) (v := .bool true) rfl (by kernel_rfl) (by kernel_rfl) (by kernel_rfl) (fun _ _ _ h => nomatch h.1) (.inl ⟨by rfl, fun V hV => by go_simp⟩) JD1 ?_
                  try simp only [Act.put, qA, qB, qC, qD, qE, qF]
                  refine wpAnyH_take (i := 38) (v := .bool true) rfl (by kernel_rfl) (by kernel_rfl) (by kernel_rfl) (fun _ _ _ h => nomatch h.1) (.inl ⟨by rfl, fun V hV => by go_simp⟩) JD1 ?_
                  try simp only [Act.put, qA, qB, qC, qD, qE, qF]
                  refine wpAnyH_take (i := 39) (v := undef) rfl (by kernel_rfl) (by kernel_rfl) (by kernel_rfl) (fun _ _ _ h => nomatch h.1) (.inr ⟨by rfl, rfl⟩) JD1 ?_
                  try simp only [Act.put, qA, qB, qC, qD, qE, qF]
                  refine wpAnyH_take (i := 40) (v := undef) rfl (by kernel_rfl) (by kernel_rfl) (by kernel_rfl) (fun _ _ _ h => nomatch h.1) (.inr ⟨by rfl, rfl⟩) JD1 ?_
                  try simp only [Act.put, qA, qB, qC, qD, qE, qF]
                  refine wpAnyH_take (i := 41) (v := undef) rfl (by kernel_rfl) (by kernel_rfl) (by kernel_rfl) (fun _ _ _ h => nomatch h.1) (.inr ⟨by rfl, rfl⟩) JD1 ?_
                  try simp only [Act.put, qA, qB, qC, qD, qE, qF]
                  refine wpAnyH_take (i := 42) (v := .bool true) rfl (by kernel_rfl) (by kernel_rfl) (by kernel_rfl) (fun _ _ _ h => nomatch h.1) (.inl ⟨by rfl, fun V hV => by go_simp⟩) JD1 ?_
                  try simp only [Act.put, qA, qB, qC, qD, qE, qF]
                  refine wpAnyH_done (by kernel_rfl) ?_ _
                  refine ⟨rfl, ?_⟩
                  go_wp2_with fail
                  go_meet
                  case rel => exact ⟨by first | (rw [HH.out]; rfl) | rw [HH.out], Lib.hid JD1⟩
                · rw [hup] at HH
                  refine wpAnyH_take (i := 18) (v := .bool false) rfl (by kernel_rfl) (by kernel_rfl) (by kernel_rfl) (fun _ _ _ h => nomatch h.1) (.inl ⟨by rfl, fun V hV => by go_simp⟩) JD1 ?_
                  try simp only [Act.put, qA, qB, qC, qD, qE, qF]
                  refine wpAnyH_take (i := 19) (v := .bool false) rfl (by kernel_rfl) (by kernel_rfl) (by kernel_rfl) (fun _ _ _ h => nomatch h.1) (.inl ⟨by rfl, fun V hV => by go_simp⟩) JD1 ?_
                  try simp only [Act.put, qA, qB, qC, qD, qE, qF]
                  refine wpAnyH_take (i := 20) (v := .bool false) rfl (by kernel_rfl) (by kernel_rfl) (by kernel_rfl) (fun _ _ _ h => nomatch h.1) (.inl ⟨by rfl, fun V hV => by go_simp⟩) JD1 ?_
                  try simp only [Act.put, qA, qB, qC, qD, qE, qF]
                  refine wpAnyH_take (i := 21) (v := .pointer (some ⟨pb, 2, none⟩)) rfl (by kernel_rfl) (by kernel_rfl) (by kernel_rfl) (fun _ _ _ h => nomatch h.1) (.inl ⟨by rfl, fun V hV => by go_simp⟩) JD1 ?_
                  try simp only [Act.put, qA, qB, qC, qD, qE, qF]
                  refine wpAnyH_take (i := 22) (v := .slice x.2.1 x.1.t.length x.2.2) rfl (by kernel_rfl) (by kernel_rfl) (by kernel_rfl) (fun _ _ _ h => nomatch h.1) (.inl ⟨by rfl, fun V hV => by have x2 : V.cell? ⟨pb, 2, none⟩ = some (.slice x.2.1 x.1.t.length x.2.2) := hV.p.cell 2; go_simp⟩) JD1 ?_
                  try simp only [Act.put, qA, qB, qC, qD, qE, qF]
                  refine wpAnyH_take (i := 23) (v := .int .i64 x.1.t.length) rfl (by kernel_rfl) (by kernel_rfl) (by kernel_rfl) (fun _ _ _ h => nomatch h.1) (.inl ⟨by rfl, fun V hV => by go_simp⟩) JD1 ?_
                  try simp only [Act.put, qA, qB, qC, qD, qE, qF]
                  obtain ⟨l0, hl0⟩ : ∃ l0, (x.1.t.length == 0) = l0 := ⟨_, rfl⟩
                  obtain ⟨p0, hp0⟩ : ∃ p0, (x.1.p == 0) = p0 := ⟨_, rfl⟩
                  rw [hl0, hp0] at HH
                  have hl1 : ((x.1.t.length : Int) == 0) = l0 := len0_int hl0
                  have HL0 := Lib.hid hl1
                  have HP0 := Lib.hid hp0
                  clear hl0 hl1 hp0
                  refine wpAnyH_take (i := 24) (v := .bool l0) rfl (by kernel_rfl) (by kernel_rfl) (by kernel_rfl) (fun _ _ _ h => nomatch h.1) (.inl ⟨by rfl, fun V hV => by have hq := HL0.out; go_simp⟩) JD1 ?_
                  try simp only [Act.put, qA, qB, qC, qD, qE, qF]
                  refine wpAnyH_take (i := 25) (v := .bool l0) rfl (by kernel_rfl) (by kernel_rfl) (by kernel_rfl) (fun _ _ _ h => nomatch h.1) (.inl ⟨by rfl, fun V hV => by go_simp⟩) JD1 ?_
                  try simp only [Act.put, qA, qB, qC, qD, qE, qF]
                  refine wpAnyH_take (i := 26) (v := gd l0 (.pointer (some ⟨pb, 1, none⟩))) rfl (by kernel_rfl) (by kernel_rfl) (by kernel_rfl) (fun _ _ _ h => nomatch h.1) (by cases l0; exact .inr ⟨by rfl, rfl⟩; exact .inl ⟨by rfl, fun V hV => by simp only [gd]; go_simp⟩) JD1 ?_
                  try simp only [Act.put, qA, qB, qC, qD, qE, qF]
                  refine wpAnyH_take (i := 27) (v := gd l0 (.int .i64 x.1.p)) rfl (by kernel_rfl) (by kernel_rfl) (by kernel_rfl) (fun _ _ _ h => nomatch h.1) (by cases l0; exact .inr ⟨by rfl, rfl⟩; exact .inl ⟨by rfl, fun V hV => by have x1 : V.cell? ⟨pb, 1, none⟩ = some (.int .i64 x.1.p) := hV.p.cell 1; simp only [gd]; go_simp⟩) JD1 ?_
                  try simp only [Act.put, qA, qB, qC, qD, qE, qF]
                  refine wpAnyH_take (i := 28) (v := gd l0 (.bool p0)) rfl (by kernel_rfl) (by kernel_rfl) (by kernel_rfl) (fun _ _ _ h => nomatch h.1) (by cases l0; exact .inr ⟨by rfl, rfl⟩; exact .inl ⟨by rfl, fun V hV => by have hq := HP0.out; simp only [gd]; go_simp⟩) JD1 ?_
                  try simp only [Act.put, qA, qB, qC, qD, qE, qF]
                  refine wpAnyH_take (i := 29) (v := .bool (l0 && p0)) rfl (by kernel_rfl) (by kernel_rfl) (by kernel_rfl) (fun _ _ _ h => nomatch h.1) (by cases l0 <;> exact .inl ⟨by rfl, fun V hV => by simp only [gd]; go_simp⟩) JD1 ?_
                  try simp only [Act.put, qA, qB, qC, qD, qE, qF]
                  cases hc3 : (l0 && p0)
                  · rw [hc3] at HH
                    refine wpAnyH_take (i := 30) (v := .bool false) rfl (by kernel_rfl) (by kernel_rfl) (by kernel_rfl) (fun _ _ _ h => nomatch h.1) (.inl ⟨by rfl, fun V hV => by go_simp⟩) JD1 ?_
                    try simp only [Act.put, qA, qB, qC, qD, qE, qF]
                    refine wpAnyH_take (i := 31) (v := .bool false) rfl (by kernel_rfl) (by kernel_rfl) (by kernel_rfl) (fun _ _ _ h => nomatch h.1) (.inl ⟨by rfl, fun V hV => by go_simp⟩) JD1 ?_
                    try simp only [Act.put, qA, qB, qC, qD, qE, qF]
                    refine wpAnyH_take (i := 32) (v := .agg (tkC a Ua um uc (some ⟨b, off, none⟩) m c)) rfl (by kernel_rfl) (by kernel_rfl) (by kernel_rfl) (fun _ _ _ h => nomatch h.1) (yieldsIf_blk (by rfl) 27 (.tmp 1) rfl w.heap.size rfl (tkC a Ua um uc (some ⟨b, off, none⟩) m c) 27 _ (fun _ h => h.o.k) Tryz.underlying27 rfl (tk_inf _ _ _ _ _ _ _)) JD1 ?_
                    try simp only [Act.put, qA, qB, qC, qD, qE, qF]
                    refine wpAnyH_take (i := 33) (v := .pointer (some ⟨pb, 0, none⟩)) rfl (by kernel_rfl) (by kernel_rfl) (by kernel_rfl) (fun _ _ _ h => nomatch h.1) (.inl ⟨by rfl, fun V hV => by go_simp⟩) JD1 ?_
                    try simp only [Act.put, qA, qB, qC, qD, qE, qF]
                    refine wpAnyH_take (i := 34) (v := .int .i64 x.1.i) rfl (by kernel_rfl) (by kernel_rfl) (by kernel_rfl) (fun _ _ _ h => nomatch h.1) (.inl ⟨by rfl, fun V hV => by have x0 : V.cell? ⟨pb, 0, none⟩ = some (.int .i64 x.1.i) := hV.p.cell 0; go_simp⟩) JD1 ?_
                    try simp only [Act.put, qA, qB, qC, qD, qE, qF]
                    refine wpAnyH_ready (rs := [35]) (by kernel_rfl) (by simp) ?_
                    refine AllReadyH.cons rfl (fun K hK => ?_) AllReadyH.nil
                    try simp only [Act.put, qA, qB, qC, qD, qE, qF]
                    go_simp
                    refine (RT.out _ JD1.o.b).mono ?_
                    rintro e v2 ⟨rfl, b2⟩
                    have JD2 := JD1.step b2
                    refine hK.out _ _ JD2 (fun _ => ?_)
                    clear hK K
                    try simp only [Act.put, qA, qB, qC, qD, qE, qF]
                    cases hrt : rootR L (m + 1) x.1.i
                    · rw [← HM.out, hrt] at HH
                      refine wpAnyH_take (i := 36) (v := .bool true) rfl (by kernel_rfl) (by kernel_rfl) (by kernel_rfl) (fun _ _ _ h => nomatch h.1) (.inl ⟨by rfl, fun V hV => by go_simp⟩) JD2 ?_
                      try simp only [Act.put, qA, qB, qC, qD, qE, qF]
                      refine wpAnyH_take (i := 37) (v := .bool true) rfl (by kernel_rfl) (by kernel_rfl) (by kernel_rfl) (fun _ _ _ h => nomatch h.1) (.inl ⟨by rfl, fun V hV => by go_simp⟩) JD2 ?_
                      try simp only [Act.put, qA, qB, qC, qD, qE, qF]
                      refine wpAnyH_take (i := 38) (v := .bool true) rfl (by kernel_rfl) (by kernel_rfl) (by kernel_rfl) (fun _ _ _ h => nomatch h.1) (.inl ⟨by rfl, fun V hV => by go_simp⟩) JD2 ?_
                      try simp only [Act.put, qA, qB, qC, qD, qE, qF]
                      refine wpAnyH_take (i := 39) (v := undef) rfl (by kernel_rfl) (by kernel_rfl) (by kernel_rfl) (fun _ _ _ h => nomatch h.1) (.inr ⟨by rfl, rfl⟩) JD2 ?_
                      try simp only [Act.put, qA, qB, qC, qD, qE, qF]
                      refine wpAnyH_take (i := 40) (v := undef) rfl (by kernel_rfl) (by kernel_rfl) (by kernel_rfl) (fun _ _ _ h => nomatch h.1) (.inr ⟨by rfl, rfl⟩) JD2 ?_
                      try simp only [Act.put, qA, qB, qC, qD, qE, qF]
                      refine wpAnyH_take (i := 41) (v := undef) rfl (by kernel_rfl) (by kernel_rfl) (by kernel_rfl) (fun _ _ _ h => nomatch h.1) (.inr ⟨by rfl, rfl⟩) JD2 ?_
                      try simp only [Act.put, qA, qB, qC, qD, qE, qF]
                      refine wpAnyH_take (i := 42) (v := .bool true) rfl (by kernel_rfl) (by kernel_rfl) (by kernel_rfl) (fun _ _ _ h => nomatch h.1) (.inl ⟨by rfl, fun V hV => by go_simp⟩) JD2 ?_
                      try simp only [Act.put, qA, qB, qC, qD, qE, qF]
                      refine wpAnyH_done (by kernel_rfl) ?_ _
                      refine ⟨rfl, ?_⟩
                      go_wp2_with fail
                      go_meet
                      case rel => exact ⟨by first | (rw [HH.out]; rfl) | rw [HH.out], Lib.hid JD2⟩
                    · rw [← HM.out, hrt] at HH
                      refine wpAnyH_take (i := 36) (v := .bool false) rfl (by kernel_rfl) (by kernel_rfl) (by kernel_rfl) (fun _ _ _ h => nomatch h.1) (.inl ⟨by rfl, fun V hV => by go_simp⟩) JD2 ?_
                      try simp only [Act.put, qA, qB, qC, qD, qE, qF]
                      refine wpAnyH_take (i := 37) (v := .bool false) rfl (by kernel_rfl) (by kernel_rfl) (by kernel_rfl) (fun _ _ _ h => nomatch h.1) (.inl ⟨by rfl, fun V hV => by go_simp⟩) JD2 ?_
                      try simp only [Act.put, qA, qB, qC, qD, qE, qF]
                      refine wpAnyH_take (i := 38) (v := .bool false) rfl (by kernel_rfl) (by kernel_rfl) (by kernel_rfl) (fun _ _ _ h => nomatch h.1) (.inl ⟨by rfl, fun V hV => by go_simp⟩) JD2 ?_
                      try simp only [Act.put, qA, qB, qC, qD, qE, qF]
                      refine wpAnyH_take (i := 39) (v := .pointer (some ⟨pb, 0, none⟩)) rfl (by kernel_rfl) (by kernel_rfl) (by kernel_rfl) (fun _ _ _ h => nomatch h.1) (.inl ⟨by rfl, fun V hV => by go_simp⟩) JD2 ?_
                      try simp only [Act.put, qA, qB, qC, qD, qE, qF]
                      refine wpAnyH_take (i := 40) (v := .int .i64 x.1.i) rfl (by kernel_rfl) (by kernel_rfl) (by kernel_rfl) (fun _ _ _ h => nomatch h.1) (.inl ⟨by rfl, fun V hV => by have x0 : V.cell? ⟨pb, 0, none⟩ = some (.int .i64 x.1.i) := hV.p.cell 0; go_simp⟩) JD2 ?_
                      try simp only [Act.put, qA, qB, qC, qD, qE, qF]
                      obtain ⟨i0, hi0⟩ : ∃ i0, (x.1.i == 0) = i0 := ⟨_, rfl⟩
                      rw [hi0] at HH
                      refine wpAnyH_take (i := 41) (v := .bool i0) rfl (by kernel_rfl) (by kernel_rfl) (by kernel_rfl) (fun _ _ _ h => nomatch h.1) (.inl ⟨by rfl, fun V hV => by go_simp⟩) JD2 ?_
                      try simp only [Act.put, qA, qB, qC, qD, qE, qF]
                      refine wpAnyH_take (i := 42) (v := .bool i0) rfl (by kernel_rfl) (by kernel_rfl) (by kernel_rfl) (fun _ _ _ h => nomatch h.1) (.inl ⟨by rfl, fun V hV => by go_simp⟩) JD2 ?_
                      try simp only [Act.put, qA, qB, qC, qD, qE, qF]
                      refine wpAnyH_done (by kernel_rfl) ?_ _
                      refine ⟨rfl, ?_⟩
                      go_wp2_with fail
                      go_meet
                      case rel => exact ⟨by first | (rw [HH.out]; rfl) | rw [HH.out], Lib.hid JD2⟩
                  · rw [hc3] at HH
                    refine wpAnyH_take (i := 30) (v := .bool true) rfl (by kernel_rfl) (by kernel_rfl) (by kernel_rfl) (fun _ _ _ h => nomatch h.1) (.inl ⟨by rfl, fun V hV => by go_simp⟩) JD1 ?_
                    try simp only [Act.put, qA, qB, qC, qD, qE, qF]
                    refine wpAnyH_take (i := 31) (v := .bool true) rfl (by kernel_rfl) (by kernel_rfl) (by kernel_rfl) (fun _ _ _ h => nomatch h.1) (.inl ⟨by rfl, fun V hV => by go_simp⟩) JD1 ?_
                    try simp only [Act.put, qA, qB, qC, qD, qE, qF]
                    refine wpAnyH_take (i := 32) (v := undef) rfl (by kernel_rfl) (by kernel_rfl) (by kernel_rfl) (fun _ _ _ h => nomatch h.1) (.inr ⟨by rfl, rfl⟩) JD1 ?_
                    try simp only [Act.put, qA, qB, qC, qD, qE, qF]
                    refine wpAnyH_take (i := 33) (v := undef) rfl (by kernel_rfl) (by kernel_rfl) (by kernel_rfl) (fun _ _ _ h => nomatch h.1) (.inr ⟨by rfl, rfl⟩) JD1 ?_
                    try simp only [Act.put, qA, qB, qC, qD, qE, qF]
                    refine wpAnyH_take (i := 34) (v := undef) rfl (by kernel_rfl) (by kernel_rfl) (by kernel_rfl) (fun _ _ _ h => nomatch h.1) (.inr ⟨by rfl, rfl⟩) JD1 ?_
                    try simp only [Act.put, qA, qB, qC, qD, qE, qF]
                    refine wpAnyH_take (i := 35) (v := undef) rfl (by kernel_rfl) (by kernel_rfl) (by kernel_rfl) (fun _ _ _ h => nomatch h.1) (.inr ⟨by rfl, rfl⟩) JD1 ?_
                    try simp only [Act.put, qA, qB, qC, qD, qE, qF]
                    refine wpAnyH_take (i := 36) (v := undef) rfl (by kernel_rfl) (by kernel_rfl) (by kernel_rfl) (fun _ _ _ h => nomatch h.1) (.inr ⟨by rfl, rfl⟩) JD1 ?_
                    try simp only [Act.put, qA, qB, qC, qD, qE, qF]
                    refine wpAnyH_take (i := 37) (v := .bool true) rfl (by kernel_rfl) (by kernel_rfl) (by kernel_rfl) (fun _ _ _ h => nomatch h.1) (.inl ⟨by rfl, fun V hV => by go_simp⟩) JD1 ?_
                    try simp only [Act.put, qA, qB, qC, qD, qE, qF]
                    refine wpAnyH_take (i := 38) (v := .bool true) rfl (by kernel_rfl) (by kernel_rfl) (by kernel_rfl) (fun _ _ _ h => nomatch h.1) (.inl ⟨by rfl, fun V hV => by go_simp⟩) JD1 ?_
                    try simp only [Act.put, qA, qB, qC, qD, qE, qF]
                    refine wpAnyH_take (i := 39) (v := undef) rfl (by kernel_rfl) (by kernel_rfl) (by kernel_rfl) (fun _ _ _ h => nomatch h.1) (.inr ⟨by rfl, rfl⟩) JD1 ?_
                    try simp only [Act.put, qA, qB, qC, qD, qE, qF]
                    refine wpAnyH_take (i := 40) (v := undef) rfl (by kernel_rfl) (by kernel_rfl) (by kernel_rfl) (fun _ _ _ h => nomatch h.1) (.inr ⟨by rfl, rfl⟩) JD1 ?_
                    try simp only [Act.put, qA, qB, qC, qD, qE, qF]
                    refine wpAnyH_take (i := 41) (v := undef) rfl (by kernel_rfl) (by kernel_rfl) (by kernel_rfl) (fun _ _ _ h => nomatch h.1) (.inr ⟨by rfl, rfl⟩) JD1 ?_
                    try simp only [Act.put, qA, qB, qC, qD, qE, qF]
                    refine wpAnyH_take (i := 42) (v := .bool true) rfl (by kernel_rfl) (by kernel_rfl) (by kernel_rfl) (fun _ _ _ h => nomatch h.1) (.inl ⟨by rfl, fun V hV => by go_simp⟩) JD1 ?_
                    try simp only [Act.put, qA, qB, qC, qD, qE, qF]
                    refine wpAnyH_done (by kernel_rfl) ?_ _
                    refine ⟨rfl, ?_⟩
                    go_wp2_with fail
                    go_meet
                    case rel => exact ⟨by first | (rw [HH.out]; rfl) | rw [HH.out], Lib.hid JD1⟩
              · have HH := Lib.hid (show headB L k x = true by unfold headB; rw [HKJ.out, hge]; rfl)
                refine wpAnyH_take (i := 12) (v := .bool true) rfl (by kernel_rfl) (by kernel_rfl) (by kernel_rfl) (fun _ _ _ h => nomatch h.1) (.inl ⟨by rfl, fun V hV => by go_simp⟩) JD ?_
                try simp only [Act.put, qA, qB, qC, qD, qE, qF]
                refine wpAnyH_take (i := 13) (v := .bool true) rfl (by kernel_rfl) (by kernel_rfl) (by kernel_rfl) (fun _ _ _ h => nomatch h.1) (.inl ⟨by rfl, fun V hV => by go_simp⟩) JD ?_
                try simp only [Act.put, qA, qB, qC, qD, qE, qF]
                refine wpAnyH_take (i := 14) (v := .bool true) rfl (by kernel_rfl) (by kernel_rfl) (by kernel_rfl) (fun _ _ _ h => nomatch h.1) (.inl ⟨by rfl, fun V hV => by go_simp⟩) JD ?_
                try simp only [Act.put, qA, qB, qC, qD, qE, qF]
                refine wpAnyH_take (i := 15) (v := undef) rfl (by kernel_rfl) (by kernel_rfl) (by kernel_rfl) (fun _ _ _ h => nomatch h.1) (.inr ⟨by rfl, rfl⟩) JD ?_
                try simp only [Act.put, qA, qB, qC, qD, qE, qF]
                refine wpAnyH_take (i := 16) (v := undef) rfl (by kernel_rfl) (by kernel_rfl) (by kernel_rfl) (fun _ _ _ h => nomatch h.1) (.inr ⟨by rfl, rfl⟩) JD ?_
                try simp only [Act.put, qA, qB, qC, qD, qE, qF]
                refine wpAnyH_take (i := 17) (v := undef) rfl (by kernel_rfl) (by kernel_rfl) (by kernel_rfl) (fun _ _ _ h => nomatch h.1) (.inr ⟨by rfl, rfl⟩) JD ?_
                try simp only [Act.put, qA, qB, qC, qD, qE, qF]
                refine wpAnyH_take (i := 18) (v := undef) rfl (by kernel_rfl) (by kernel_rfl) (by kernel_rfl) (fun _ _ _ h => nomatch h.1) (.inr ⟨by rfl, rfl⟩) JD ?_
                try simp only [Act.put, qA, qB, qC, qD, qE, qF]
                refine wpAnyH_take (i := 19) (v := .bool true) rfl (by kernel_rfl) (by kernel_rfl) (by kernel_rfl) (fun _ _ _ h => nomatch h.1) (.inl ⟨by rfl, fun V hV => by go_simp⟩) JD ?_
                try simp only [Act.put, qA, qB, qC, qD, qE, qF]
                refine wpAnyH_take (i := 20) (v := .bool true) rfl (by kernel_rfl) (by kernel_rfl) (by kernel_rfl) (fun _ _ _ h => nomatch h.1) (.inl ⟨by rfl, fun V hV => by go_simp⟩) JD ?_
                try simp only [Act.put, qA, qB, qC, qD, qE, qF]
                refine wpAnyH_take (i := 21) (v := undef) rfl (by kernel_rfl) (by kernel_rfl) (by kernel_rfl) (fun _ _ _ h => nomatch h.1) (.inr ⟨by rfl, rfl⟩) JD ?_
                try simp only [Act.put, qA, qB, qC, qD, qE, qF]
                refine wpAnyH_take (i := 22) (v := undef) rfl (by kernel_rfl) (by kernel_rfl) (by kernel_rfl) (fun _ _ _ h => nomatch h.1) (.inr ⟨by rfl, rfl⟩) JD ?_
                try simp only [Act.put, qA, qB, qC, qD, qE, qF]
                refine wpAnyH_take (i := 23) (v := undef) rfl (by kernel_rfl) (by kernel_rfl) (by kernel_rfl) (fun _ _ _ h => nomatch h.1) (.inr ⟨by rfl, rfl⟩) JD ?_
                try simp only [Act.put, qA, qB, qC, qD, qE, qF]
                refine wpAnyH_take (i := 24) (v := undef) rfl (by kernel_rfl) (by kernel_rfl) (by kernel_rfl) (fun _ _ _ h => nomatch h.1) (.inr ⟨by rfl, rfl⟩) JD ?_
                try simp only [Act.put, qA, qB, qC, qD, qE, qF]
                refine wpAnyH_take (i := 25) (v := undef) rfl (by kernel_rfl) (by kernel_rfl) (by kernel_rfl) (fun _ _ _ h => nomatch h.1) (.inr ⟨by rfl, rfl⟩) JD ?_
                try simp only [Act.put, qA, qB, qC, qD, qE, qF]
                refine wpAnyH_take (i := 26) (v := undef) rfl (by kernel_rfl) (by kernel_rfl) (by kernel_rfl) (fun _ _ _ h => nomatch h.1) (.inr ⟨by rfl, rfl⟩) JD ?_
                try simp only [Act.put, qA, qB, qC, qD, qE, qF]
                refine wpAnyH_take (i := 27) (v := undef) rfl (by kernel_rfl) (by kernel_rfl) (by kernel_rfl) (fun _ _ _ h => nomatch h.1) (.inr ⟨by rfl, rfl⟩) JD ?_
                try simp only [Act.put, qA, qB, qC, qD, qE, qF]
                refine wpAnyH_take (i := 28) (v := undef) rfl (by kernel_rfl) (by kernel_rfl) (by kernel_rfl) (fun _ _ _ h => nomatch h.1) (.inr ⟨by rfl, rfl⟩) JD ?_
                try simp only [Act.put, qA, qB, qC, qD, qE, qF]
                refine wpAnyH_take (i := 29) (v := undef) rfl (by kernel_rfl) (by kernel_rfl) (by kernel_rfl) (fun _ _ _ h => nomatch h.1) (.inr ⟨by rfl, rfl⟩) JD ?_
                try simp only [Act.put, qA, qB, qC, qD, qE, qF]
                refine wpAnyH_take (i := 30) (v := .bool true) rfl (by kernel_rfl) (by kernel_rfl) (by kernel_rfl) (fun _ _ _ h => nomatch h.1) (.inl ⟨by rfl, fun V hV => by go_simp⟩) JD ?_
                try simp only [Act.put, qA, qB, qC, qD, qE, qF]
                refine wpAnyH_take (i := 31) (v := .bool true) rfl (by kernel_rfl) (by kernel_rfl) (by kernel_rfl) (fun _ _ _ h => nomatch h.1) (.inl ⟨by rfl, fun V hV => by go_simp⟩) JD ?_
                try simp only [Act.put, qA, qB, qC, qD, qE, qF]
                refine wpAnyH_take (i := 32) (v := undef) rfl (by kernel_rfl) (by kernel_rfl) (by kernel_rfl) (fun _ _ _ h => nomatch h.1) (.inr ⟨by rfl, rfl⟩) JD ?_
                try simp only [Act.put, qA, qB, qC, qD, qE, qF]
                refine wpAnyH_take (i := 33) (v := undef) rfl (by kernel_rfl) (by kernel_rfl) (by kernel_rfl) (fun _ _ _ h => nomatch h.1) (.inr ⟨by rfl, rfl⟩) JD ?_
                try simp only [Act.put, qA, qB, qC, qD, qE, qF]
                refine wpAnyH_take (i := 34) (v := undef) rfl (by kernel_rfl) (by kernel_rfl) (by kernel_rfl) (fun _ _ _ h => nomatch h.1) (.inr ⟨by rfl, rfl⟩) JD ?_
                try simp only [Act.put, qA, qB, qC, qD, qE, qF]
                refine wpAnyH_take (i := 35) (v := undef) rfl (by kernel_rfl) (by kernel_rfl) (by kernel_rfl) (fun _ _ _ h => nomatch h.1) (.inr ⟨by rfl, rfl⟩) JD ?_
                try simp only [Act.put, qA, qB, qC, qD, qE, qF]
                refine wpAnyH_take (i := 36) (v := undef) rfl (by kernel_rfl) (by kernel_rfl) (by kernel_rfl) (fun _ _ _ h => nomatch h.1) (.inr ⟨by rfl, rfl⟩) JD ?_
                try simp only [Act.put, qA, qB, qC, qD, qE, qF]
                refine wpAnyH_take (i := 37) (v := .bool true) rfl (by kernel_rfl) (by kernel_rfl) (by kernel_rfl) (fun _ _ _ h => nomatch h.1) (.inl ⟨by rfl, fun V hV => by go_simp⟩) JD ?_
                try simp only [Act.put, qA, qB, qC, qD, qE, qF]
                refine wpAnyH_take (i := 38) (v := .bool true) rfl (by kernel_rfl) (by kernel_rfl) (by kernel_rfl) (fun _ _ _ h => nomatch h.1) (.inl ⟨by rfl, fun V hV => by go_simp⟩) JD ?_
                try simp only [Act.put, qA, qB, qC, qD, qE, qF]
                refine wpAnyH_take (i := 39) (v := undef) rfl (by kernel_rfl) (by kernel_rfl) (by kernel_rfl) (fun _ _ _ h => nomatch h.1) (.inr ⟨by rfl, rfl⟩) JD ?_
                try simp only [Act.put, qA, qB, qC, qD, qE, qF]
                refine wpAnyH_take (i := 40) (v := undef) rfl (by kernel_rfl) (by kernel_rfl) (by kernel_rfl) (fun _ _ _ h => nomatch h.1) (.inr ⟨by rfl, rfl⟩) JD ?_
                try simp only [Act.put, qA, qB, qC, qD, qE, qF]
                refine wpAnyH_take (i := 41) (v := undef) rfl (by kernel_rfl) (by kernel_rfl) (by kernel_rfl) (fun _ _ _ h => nomatch h.1) (.inr ⟨by rfl, rfl⟩) JD ?_
                try simp only [Act.put, qA, qB, qC, qD, qE, qF]
                refine wpAnyH_take (i := 42) (v := .bool true) rfl (by kernel_rfl) (by kernel_rfl) (by kernel_rfl) (fun _ _ _ h => nomatch h.1) (.inl ⟨by rfl, fun V hV => by go_simp⟩) JD ?_
                try simp only [Act.put, qA, qB, qC, qD, qE, qF]
                refine wpAnyH_done (by kernel_rfl) ?_ _
                refine ⟨rfl, ?_⟩
                go_wp2_with fail
                go_meet
                case rel => exact ⟨by first | (rw [HH.out]; rfl) | rw [HH.out], Lib.hid JD⟩
          case rest =>
            obtain ⟨rfl, HW⟩ := hcut
            obtain ⟨hv, hhv⟩ : ∃ v, headB L k x = v := ⟨_, rfl⟩
            rw [hhv] at HI
            simp only [hhv]
            clear hhv JW RI RT
            have JW := HW.out
            clear HW
            cases hv
            case true =>
              have HB := Lib.hid (show E = false by rw [HI.out]; rfl)
              clear HI
              go_wp2_with fail
              go_ret
              exact ⟨by rw [HB.out]; rfl, JW.o.b⟩
            case false =>
              have HI := Lib.hid (show E = (!parB L x && (!shrA k x.1.t 0 L && rgtF L U (k + 1) (withs (withG x.1.i false o) x.1.t) (cn + x.1.t.length) (L.drop (k + 1)))) by rw [HI.out]; rfl)
              have hfo := fndF_or L 0 x.1.p
              obtain ⟨f, hf⟩ : ∃ f, fndF 0 L x.1.p = f := ⟨_, rfl⟩
              rw [hf] at RF hfo
              have HF := Lib.hid (And.intro hf hfo)
              clear hf hfo
              have x1 : wc.cell? ⟨pb, 1, none⟩ = some (.int .i64 x.1.p) := JW.p.cell 1
              go_upto_region 11 with (first
                | (refine wpList_load_row rfl 27 (.tmp 1) rfl w.heap.size rfl 27 (tkC a Ua um uc (some ⟨b, off, none⟩) m c) (0, 0) _ JW.o.k.blk Tryz.underlying27 rfl (tk_inf _ _ _ _ _ _ _) ?_)
                | (refine (RF.out _ JW.o.b).mono ?_
                   clear x1
                   rintro e w2 ⟨rfl, bb⟩
                   have J2 := JW.step bb
                   clear bb JW))
              try simp only [Act.put]
              go_cut [95] from 28 to 145 (fun s wx => s = .bool (parB L x) ∧ Hid (RW w a Ua um uc (some ⟨b, off, none⟩) m c G gm gc o pb x wx))
              case first =>
                have x1 : w2.cell? ⟨pb, 1, none⟩ = some (.int .i64 x.1.p) := J2.p.cell 1
                have q2 : w2.cell? ⟨w.heap.size, 2, none⟩ = some (.slice (some ⟨b, off, none⟩) m c) := J2.o.k.cell 2
                cases hp0 : (x.1.p == 0)
                · have g0 : (x.1.p != 0) = true := by rw [bne, hp0]; rfl
                  rcases HF.out.2 with hfm | ⟨j, hj, hfj⟩
                  · have HP := Lib.hid (show parB L x = true by unfold parB; rw [g0, HF.out.1, hfm]; rfl)
                    subst hfm
                    clear hp0
                    go_wp2_with fail
                    go_meet
                    case rel => exact ⟨by rw [HP.out], Lib.hid J2⟩
                  · rw [Nat.zero_add] at hfj
                    obtain ⟨b', off', e, hb', hcj⟩ := HPR0.out j hj w2 J2.o.b
                    cases e
                    have hjm : (j : Int) < (m : Int) := by have := HM.out; omega
                    obtain ⟨l1, hl1⟩ : ∃ l1, ((L.getD j pw0).1.t.length == 0) = l1 := ⟨_, rfl⟩
                    have HP := Lib.hid (show parB L x = l1 by unfold parB; rw [g0, HF.out.1, hfj, Int.toNat_natCast, hl1, decide_eq_false (by omega)]; rfl)
                    have hl2 := len0_int hl1
                    have y2 : w2.cell? ⟨b, off + j * 3 + 2, none⟩ = some (.slice (L.getD j pw0).2.1 (L.getD j pw0).1.t.length (L.getD j pw0).2.2) := hcj 2 _ rfl
                    have hj0 : decide ((j : Int) < 0) = false := decide_eq_false (by omega)
                    subst hfj
                    generalize (L.getD j pw0).1.t.length = n1 at y2 hl2
                    clear hp0 hl1 hcj hj
                    go_wp2_with fail
                    go_meet
                    case rel => exact ⟨by first | (rw [HP.out]; rfl) | rw [HP.out], Lib.hid J2⟩
                · have g0 : (x.1.p != 0) = false := by rw [bne, hp0]; rfl
                  have HP := Lib.hid (show parB L x = false by unfold parB; rw [g0]; rfl)
                  clear hp0
                  go_wp2_with fail
                  go_meet
                  case rel => exact ⟨by rw [HP.out], Lib.hid J2⟩
              case rest =>
                obtain ⟨rfl, HW⟩ := hcut
                obtain ⟨pv, hpv⟩ : ∃ v, parB L x = v := ⟨_, rfl⟩
                rw [hpv] at HI
                simp only [hpv]
                clear hpv J2 RF HF
                have JW := HW.out
                clear HW
                cases pv
                case true =>
                  have HB := Lib.hid (show E = false by rw [HI.out]; rfl)
                  clear HI
                  go_wp2_with fail
                  go_ret
                  exact ⟨by rw [HB.out]; rfl, JW.o.b⟩
                case false =>
                  have hw9 := JW.o.b.size
                  obtain ⟨RS, hRS⟩ : ∃ r, rgtF L U (k + 1) (withs (withG x.1.i false o) x.1.t) (cn + x.1.t.length) (L.drop (k + 1)) = r := ⟨_, rfl⟩
                  have HI := Lib.hid (show E = (!shrA k x.1.t 0 (L.drop 0) && RS) by rw [HI.out, hRS, List.drop_zero]; rfl)
                  have HRS := Lib.hid hRS
                  clear hRS
                  obtain ⟨N, hN⟩ : ∃ N, x.1.t.length = N := ⟨_, rfl⟩
                  have HN := Lib.hid hN
                  rw [hN] at hxl
                  clear hN
                  have q2 : wc.cell? ⟨w.heap.size, 2, none⟩ = some (.slice (some ⟨b, off, none⟩) m c) := JW.o.k.cell 2
                  go_wp2_with fail
                  clear q2
                  have HJW := Lib.hid JW
                  clear JW
                  go_loopw [99] (fun i wr' => ∃ (j : Nat) (wz : World), wz = wr' ∧ j ≤ m ∧ i = .int .i64 j ∧ Hid (E = (!shrA k x.1.t j (L.drop j) && RS)) ∧ Hid (RW w a Ua um uc (some ⟨b, off, none⟩) m c G gm gc o pb x wz)) (fun i _ => m - (intOf i).toNat)
                  case atStart => exact ⟨0, _, rfl, Nat.zero_le _, rfl, HI, HJW⟩
                  case round =>
                    clear HI HJW
                    obtain ⟨j, wz, hwz, hj, rfl, HI, HJ⟩ := hrel
                    subst hwz
                    have JZ := HJ.out
                    clear HJ
                    by_cases hjt : j < m
                    · have hjt' : (j : Int) < (m : Int) := by omega
                      have hjl : j < L.length := by have := HM.out; omega
                      obtain ⟨b', off', e, hb', hcj⟩ := HPR0.out j hjl wz JZ.o.b
                      cases e
                      have hI := HI.out
                      rw [shrA_drop hjl] at hI
                      have HTY := Lib.hid (HS.out.p.at' hjl)
                      generalize L.getD j pw0 = y at hcj hI HTY
                      have HI := Lib.hid (show E = (!((x.1.t.drop 0).any (hitB k j y) || shrA k x.1.t (j + 1) (L.drop (j + 1))) && RS) by rw [hI, List.drop_zero])
                      have hs3y : (prC y).size = 3 := pr_size y
                      clear hI hjl
                      go_wp2_with (first
                        | (refine wpList_load_mid rfl 49 (.tmp 102) rfl b (off + j * 3) rfl (prC y).toList _ hcj Tryz.underlying49 rfl (pr_infL y) ?_)
                        | (refine wpList_store_blk rfl 49 (.tmp 9) (.tmp 103) rfl wz.heap.size (prC pw0) (prC y) 49 rfl rfl (Blk.new _ _ _) rfl (pr_inf y) (pr_one y) ?_
                           intro W3 k5 n5
                           have bb : Below wz.heap.size wz W3 := ((Below.refl _ wz).alloc (Nat.le_refl _) _).trans (n5.below _ (Nat.le_refl _) (by simp))
                           have J3 := JZ.step bb
                           have x2 : W3.cell? ⟨pb, 2, none⟩ = some (.slice x.2.1 N x.2.2) := (J3.p.cell 2).trans (by rw [← HN.out]; rfl)
                           clear n5 bb JZ hcj))
                      clear x2
                      obtain ⟨pq, hpq⟩ : ∃ pq, wz.heap.size = pq := ⟨_, rfl⟩
                      simp only [hpq] at k5 ⊢
                      have HK5 := Lib.hid k5
                      have HJ3 := Lib.hid J3
                      clear hpq k5 J3
                      go_loopw [107] (fun i wr' => ∃ (u : Nat) (wv : World), wv = wr' ∧ u ≤ N ∧ i = .int .i64 u ∧ Hid (E = (!((x.1.t.drop u).any (hitB k j y) || shrA k x.1.t (j + 1) (L.drop (j + 1))) && RS)) ∧ Hid (RW w a Ua um uc (some ⟨b, off, none⟩) m c G gm gc o pb x wv) ∧ Hid (Blk wv pq (prC y) 49)) (fun i _ => N - (intOf i).toNat)
                      case atStart => exact ⟨0, _, rfl, Nat.zero_le _, rfl, HI, HJ3, HK5⟩
                      case round =>
                        clear HI HJ3 HK5
                        obtain ⟨u, wv, hwv, hu, rfl, HI, HJ3, HK5⟩ := hrel
                        subst hwv
                        have J3 := HJ3.out
                        have k5 := HK5.out
                        clear HJ3 HK5
                        by_cases hun : u < N
                        · have hun' : (u : Int) < (N : Int) := by omega
                          have hul : u < x.1.t.length := by have := HN.out; omega
                          obtain ⟨bq, oq, hAq, hbq, hcq⟩ := (HT.out.ri.below J3.o.b (Nat.le_refl _)) u hul
                          have hI := HI.out
                          rw [List.drop_eq_getElem_cons hul, List.any_cons, show x.1.t[u] = x.1.t.getD u 0 by simp [List.getD, hul]] at hI
                          clear HI hul
                          generalize x.1.t.getD u 0 = id at hcq hI
                          have HC := Lib.hid (fun (V : World) (hV : Below w.heap.size w V) => has_rf y.2.1 y.1.t.length y.2.2 y.1.t id V ((HTY.out.ri.below hV (Nat.le_refl _)).more hV.size) rfl HTY.out.l)
                          have y0 : wv.cell? ⟨pq, 0, none⟩ = some (.int .i64 y.1.i) := k5.cell 0
                          have y2 : wv.cell? ⟨pq, 2, none⟩ = some (.slice y.2.1 y.1.t.length y.2.2) := k5.cell 2
                          obtain ⟨hit, hhit⟩ : ∃ v, hitB k j y id = v := ⟨_, rfl⟩
                          rw [hhit] at hI
                          unfold hitB at hhit
                          have HIT := Lib.hid hhit
                          have HI := Lib.hid hI
                          clear hhit hI
                          obtain ⟨XA, hXA⟩ : ∃ a, x.2.1 = a := ⟨_, rfl⟩
                          rw [hXA] at hAq
                          simp only [hXA]
                          subst hAq
                          clear hXA
                          cases hjk : (j != k)
                          · have HB := Lib.hid (show hit = false by rw [← HIT.out, hjk]; rfl)
                            have g1 : ((j : Int) != (k : Int)) = false := by rw [bne_eq_false_iff_eq] at hjk ⊢; omega
                            clear hjk HIT HC y0 y2
                            have HI1 := Lib.hid (show E = (!((x.1.t.drop (u + 1)).any (hitB k j y) || shrA k x.1.t (j + 1) (L.drop (j + 1))) && RS) by rw [HI.out, HB.out, Bool.false_or])
                            go_wp2_with fail
                            go_roundw
                            case rel => exact ⟨u + 1, _, rfl, by omega, by go_num, HI1, Lib.hid J3, Lib.hid k5⟩
                            case measure => simp [intOf]; omega
                          · have g1 : ((j : Int) != (k : Int)) = true := by rw [bne_iff_ne] at hjk ⊢; omega
                            cases hid : (y.1.i == id)
                            · obtain ⟨ct, hct⟩ : ∃ v, y.1.t.contains id = v := ⟨_, rfl⟩
                              rw [hct] at HC
                              have HB := Lib.hid (show hit = ct by rw [← HIT.out, hjk, hid, hct]; rfl)
                              have HC1 := Lib.hid (HC.out _ J3.o.b)
                              clear hjk HIT HC hct
                              cases ct
                              · have HI1 := Lib.hid (show E = (!((x.1.t.drop (u + 1)).any (hitB k j y) || shrA k x.1.t (j + 1) (L.drop (j + 1))) && RS) by rw [HI.out, HB.out, Bool.false_or])
                                clear HI HB
                                go_wp2_with (first
                                  | (refine HC1.out.mono ?_
                                     clear HC1 y0 y2
                                     rintro e w4 ⟨rfl, bb⟩
                                     have J4 := J3.step bb
                                     have k6 := k5.below bb k5.lt
                                     clear bb J3 k5
                                     go_wp2_with fail))
                                go_roundw
                                case rel => exact ⟨u + 1, _, rfl, by omega, by go_num, HI1, Lib.hid J4, Lib.hid k6⟩
                                case measure => simp [intOf]; omega
                              · have HI1 := Lib.hid (show E = false by rw [HI.out, HB.out]; rfl)
                                clear HI HB
                                go_wp2_with (first
                                  | (refine HC1.out.mono ?_
                                     clear HC1 y0 y2
                                     rintro e w4 ⟨rfl, bb⟩
                                     have J4 := J3.step bb
                                     clear bb J3 k5
                                     go_wp2_with fail))
                                go_ret
                                exact ⟨by rw [HI1.out]; rfl, J4.o.b⟩
                            · have HB := Lib.hid (show hit = true by rw [← HIT.out, hjk, hid]; rfl)
                              have HI1 := Lib.hid (show E = false by rw [HI.out, HB.out]; rfl)
                              clear hjk HIT HC HI HB y2
                              go_wp2_with fail
                              go_ret
                              exact ⟨by rw [HI1.out]; rfl, J3.o.b⟩
                        · obtain rfl : N = u := by omega
                          have hI := HI.out
                          rw [List.drop_of_length_le (by have := HN.out; omega), List.any_nil, Bool.false_or] at hI
                          have HI := Lib.hid hI
                          clear hI k5
                          go_wp2_with fail
                          go_roundw
                          case rel => exact ⟨j + 1, _, rfl, by omega, by go_num, HI, Lib.hid J3⟩
                          case measure => simp [intOf]; omega
                    · obtain rfl : j = m := by omega
                      have hI := HI.out
                      rw [List.drop_of_length_le (by have := HM.out; omega)] at hI
                      have HI := Lib.hid (show E = RS from hI)
                      have x0 : wz.cell? ⟨pb, 0, none⟩ = some (.int .i64 x.1.i) := JZ.p.cell 0
                      have hW := Lib.hid (with_rf G gm gc o x.1.i wz JZ.o.z.ri JZ.o.z.len (by have := JZ.o.z.len; have := HO.out; omega))
                      clear hI
                      go_wp2_with (first
                        | (refine hW.out.mono ?_
                           clear hW x0
                           rintro e w5 ⟨G2, gm2, gc2, rfl, z2, bb⟩
                           have J5 : RW w a Ua um uc (some ⟨b, off, none⟩) j c G2 gm2 gc2 (withG x.1.i false o) pb x w5 := ⟨⟨JZ.o.b.trans (bb.mono JZ.o.b.size), JZ.o.k.below bb JZ.o.k.lt, z2.down JZ.o.b.size⟩, JZ.p.below bb JZ.p.lt⟩
                           have x2 : w5.cell? ⟨pb, 2, none⟩ = some (.slice x.2.1 N x.2.2) := (J5.p.cell 2).trans (by rw [← HN.out]; rfl)
                           clear z2 bb JZ))
                      clear x2
                      have HO2 := Lib.hid (show (withG x.1.i false o).length ≤ 1001 * k + 1 + 0 by
                        have h1 := withG_len x.1.i o false
                        have h2 := HO.out
                        simp only [Bool.false_eq_true, if_false] at h1
                        omega)
                      have HI := Lib.hid (show E = rgtF L U (k + 1) (withs (withG x.1.i false o) (x.1.t.drop 0)) (cn + N) (L.drop (k + 1)) by rw [HI.out, ← HRS.out, List.drop_zero, HN.out])
                      have HJ5 := Lib.hid J5
                      clear J5 HRS
                      go_loopw [3, 4, 135] (fun n q i wr' => ∃ (u : Nat) (G : Option Addr) (gm gc : Nat) (o : List Int) (wv : World), wv = wr' ∧ u ≤ N ∧ i = .int .i64 u ∧ n = .int .i64 ((cn + u : Nat) : Int) ∧ q = .slice G gm gc ∧ Hid (E = rgtF L U (k + 1) (withs o (x.1.t.drop u)) (cn + N) (L.drop (k + 1))) ∧ Hid (o.length ≤ 1001 * k + 1 + u) ∧ Hid (RW w a Ua um uc (some ⟨b, off, none⟩) j c G gm gc o pb x wv)) (fun _ _ i _ => N - (intOf i).toNat)
                      case atStart => exact ⟨0, G2, gm2, gc2, _, _, rfl, Nat.zero_le _, rfl, rfl, rfl, HI, HO2, HJ5⟩
                      case round =>
                        clear HI HO2 HJ5
                        obtain ⟨u, G, gm, gc, o, wv, hwv, hu, rfl, rfl, rfl, HI, HO2, HJ5⟩ := hrel
                        subst hwv
                        have J5 := HJ5.out
                        clear HJ5
                        by_cases hun : u < N
                        · have hun' : (u : Int) < (N : Int) := by omega
                          have hul : u < x.1.t.length := by have := HN.out; omega
                          obtain ⟨bq, oq, hAq, hbq, hcq⟩ := (HT.out.ri.below J5.o.b (Nat.le_refl _)) u hul
                          have hI := HI.out
                          rw [withs_drop hul] at hI
                          clear HI hul
                          generalize x.1.t.getD u 0 = id at hcq hI
                          have HI := Lib.hid hI
                          have hW := Lib.hid (with_rf G gm gc o id wv J5.o.z.ri J5.o.z.len (by have := J5.o.z.len; have := HO2.out; omega))
                          obtain ⟨XA, hXA⟩ : ∃ a, x.2.1 = a := ⟨_, rfl⟩
                          rw [hXA] at hAq
                          simp only [hXA]
                          subst hAq
                          clear hXA hI
                          go_wp2_with (first
                            | (refine hW.out.mono ?_
                               clear hW
                               rintro e w6 ⟨G3, gm3, gc3, rfl, z2, bb⟩
                               have J6 : RW w a Ua um uc (some ⟨b, off, none⟩) j c G3 gm3 gc3 (withG id false o) pb x w6 := ⟨⟨J5.o.b.trans (bb.mono J5.o.b.size), J5.o.k.below bb J5.o.k.lt, z2.down J5.o.b.size⟩, J5.p.below bb J5.p.lt⟩
                               clear z2 bb J5))
                          have HO3 := Lib.hid (show (withG id false o).length ≤ 1001 * k + 1 + (u + 1) by
                            have h1 := withG_len id o false
                            have h2 := HO2.out
                            simp only [Bool.false_eq_true, if_false] at h1
                            omega)
                          go_roundw
                          case rel => exact ⟨u + 1, G3, gm3, gc3, _, _, rfl, by omega, by go_num, by go_num, rfl, HI, HO3, Lib.hid J6⟩
                          case measure => simp [intOf]; omega
                        · obtain rfl : N = u := by omega
                          have hI := HI.out
                          rw [List.drop_of_length_le (by have := HN.out; omega)] at hI
                          have HI := Lib.hid (show E = rgtF L U (k + 1) o (cn + N) (L.drop (k + 1)) from hI)
                          have HO4 := Lib.hid (show o.length ≤ 1001 * (k + 1) by have := HO2.out; omega)
                          clear hI
                          go_wp2_with fail
                          go_roundw
                          case rel => exact ⟨k + 1, G, gm, gc, o, cn + N, _, rfl, by omega, by go_num, by go_num, rfl, by omega, HI, HO4, J5.o⟩
                          case measure => simp [intOf]; omega
        · obtain rfl : k = m := by omega
          have hI := HI.out
          rw [List.drop_of_length_le (by have := HM.out; omega)] at hI
          have q0 : wr.cell? ⟨w.heap.size, 0, none⟩ = some (.int .i64 a) := J.k.cell 0
          have q1 : wr.cell? ⟨w.heap.size, 1, none⟩ = some (.slice Ua um uc) := J.k.cell 1
          clear q2
          by_cases h8 : cn ≤ 8
          · have HI := Lib.hid (show E = (U == o) by rw [hI, rgtF, decide_eq_true h8, Bool.true_and])
            have h8' : decide ((cn : Int) ≤ 8) = true := by simp; omega
            have SM := rsame_pid a Ua um uc U a G gm gc o wr ((HS.out.u.below J.b (Nat.le_refl _)).more J.b.size) HS.out.ul HS.out.u6 J.z.ri J.z.len
            rw [beq_self_eq_true, Bool.true_and] at SM
            unfold pdV pdC at SM
            have HSM := Lib.hid SM
            clear hI SM
            go_wp2_with (first
              | (refine HSM.out.mono ?_
                 clear HSM q0 q1
                 rintro e w7 ⟨rfl, bb⟩
                 have B7 := J.b.trans (bb.mono J.b.size)))
            go_ret
            exact ⟨by rw [HI.out]; rfl, B7⟩
          · have HI := Lib.hid (show E = false by rw [hI, rgtF, decide_eq_false h8]; rfl)
            have h8' : decide ((cn : Int) ≤ 8) = false := by simp; omega
            clear hI
            go_wp2_with fail
            go_ret
            exact ⟨by rw [HI.out]; rfl, J.b⟩
  · have hd : decide ((6 : Int) < (m : Int)) = true := by simp; omega
    have HI := Lib.hid (show E = false by rw [HE.out, decide_eq_false (show ¬ L.length ≤ 6 by have := HM.out; omega)]; rfl)
    clear HE h6
    go_enter Tryz.func14, Tryz.ntmps14
    go_wp2_with fail
    go_ret
    exact ⟨by rw [HI.out]; rfl, B0⟩
end Go.Proofs.YtlelhhgggnjndaaGreat
