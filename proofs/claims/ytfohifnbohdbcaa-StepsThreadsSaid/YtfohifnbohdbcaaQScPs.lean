/-
  The reference's pass.
-/
import Derived.Test.YtfohifnbohdbcaaQScRu
import Derived.Test.YtfohifnbohdbcaaQScLc
import Derived.Test.YtfohifnbohdbcaaQScRf
import Derived.Test.YtfohifnbohdbcaaQScGi
namespace Go.Proofs.Ytfohifnbohdbcaa
open Go.RowKit Go.Shelf
set_option linter.unusedVariables false
set_option linter.unusedSimpArgs false
theorem RoK.base {w : World} {B m c : Nat} {A : Option Addr} {L : List Kw} (h : RoK w B A m c L) {a : Addr} (e : A = some a) : B ≤ a.block := by
  rcases h.form with ⟨e2, _⟩ | ⟨g, e2, h1, _⟩
  · rw [e] at e2; cases e2
  · rw [e] at e2; cases e2; exact h1
theorem RoR.base {w : World} {B m c : Nat} {A : Option Addr} {L : List Rn} (h : RoR w B A m c L) {a : Addr} (e : A = some a) : B ≤ a.block := by
  rcases h.form with ⟨e2, _⟩ | ⟨g, e2, h1, _⟩
  · rw [e] at e2; cases e2
  · rw [e] at e2; cases e2; exact h1
theorem putG_map {α β : Type} (num : α → Int) (num2 : β → Int) (f : α → β) (hf : ∀ x, num2 (f x) = num x) (x : α) : ∀ (L : List α) (p : Bool), (putG num x p L).map f = putG num2 (f x) p (L.map f)
  | [], p => by cases p <;> rfl
  | y :: L, p => by
    rw [putG, List.map_cons, putG, List.map_append, List.map_append, putG_map num num2 f hf x L, hf, hf]
    cases (!p && decide (num x ≤ num y)) <;> cases (num y != num x) <;> simp
theorem putG_len {α : Type} (num : α → Int) (x : α) : ∀ (L : List α) (p : Bool), (putG num x p L).length ≤ L.length + (if p = true then 0 else 1)
  | [], p => by cases p <;> simp [putG]
  | y :: L, p => by
    rw [putG, List.length_append, List.length_append, List.length_cons]
    have h1 := putG_len num x L (p || decide (num x ≤ num y))
    cases p <;> cases hd : decide (num x ≤ num y) <;> cases (num y != num x) <;> rw [hd] at h1 <;> simp at h1 ⊢ <;> omega
theorem putG_mem {α : Type} (num : α → Int) (x : α) : ∀ {L : List α} {p : Bool} {z : α}, z ∈ putG num x p L → z = x ∨ z ∈ L
  | [], p, z, h => by cases p <;> simp [putG] at h; exact .inl h
  | y :: L, p, z, h => by
    rw [putG, List.mem_append, List.mem_append] at h
    rcases h with h | h | h
    · split at h
      · exact .inl (List.mem_singleton.1 h)
      · cases h
    · split at h
      · exact .inr (by rw [List.mem_singleton.1 h]; exact List.mem_cons_self ..)
      · cases h
    · rcases putG_mem num x h with h | h
      · exact .inl h
      · exact .inr (List.mem_cons_of_mem _ h)
def fndN (K : List Kn) (n : Int) : Kn := match K.find? (fun x => x.n == n) with | some x => x | none => kn0
theorem fndK_N (L : List Kw) (n : Int) : (fndK L n).1.1 = fndN (L.map (·.1)) n := by
  unfold fndK lockF fndN
  induction L with
  | nil => rfl
  | cons x L ih =>
    rw [List.map_cons, List.find?_cons, List.find?_cons]
    cases h : (x.1.n == n)
    · exact ih
    · rfl
def passN (R : List Rn) (K : List Kn) (n : Int) : List Rn × List Kn := match (fndN K n).q with
  | [] => (R, putG (·.n) ⟨n, 0, []⟩ true K)
  | h :: t => (putG numR ⟨h, 0, 0⟩ false R, putG (·.n) ⟨n, h, t⟩ (h == 0) K)
def ScQ (w : World) (v : Value) (r : List Rn × List Kn) : Prop := ∃ A m c A2 m2 c2 L, v = scV A m c A2 m2 c2 ∧ Sc w w.heap.size A m c r.1 A2 m2 c2 L ∧ L.map (·.1) = r.2
structure Avd (G : Nat → Prop) (A A2 : Option Addr) (R : List Rn) (L : List Kw) : Prop where
  a : R ≠ [] → ∀ a, A = some a → ¬ G a.block
  a2 : L ≠ [] → ∀ a, A2 = some a → ¬ G a.block
  q : ∀ x ∈ L, x.1.q ≠ [] → ∀ a, x.2.1 = some a → ¬ G a.block
theorem avd_below {w : World} {B : Nat} {A : Option Addr} {m c : Nat} {R : List Rn} {A2 : Option Addr} {m2 c2 : Nat} {L : List Kw} {G : Nat → Prop} (h : Sc w B A m c R A2 m2 c2 L) (hG : ∀ g, G g → B ≤ g) : Avd G A A2 R L := by
  refine ⟨fun hr a e hg => ?_, fun hl a e hg => ?_, fun x hx hq a e hg => ?_⟩
  · obtain ⟨b, off, e2, hb, _⟩ := h.rs 0 (List.length_pos_iff.2 hr)
    rw [e] at e2; cases e2
    have := hG _ hg; simp only at this; omega
  · obtain ⟨b, off, e2, hb, _⟩ := h.ks 0 (List.length_pos_iff.2 hl)
    rw [e] at e2; cases e2
    have := hG _ hg; simp only at this; omega
  · obtain ⟨b, off, e2, hb, _⟩ := (h.q x hx).ri 0 (List.length_pos_iff.2 hq)
    rw [e] at e2; cases e2
    have := hG _ hg; simp only at this; omega
theorem Sc.avd {w w' : World} {g : Nat} {A : Option Addr} {m c : Nat} {R : List Rn} {A2 : Option Addr} {m2 c2 : Nat} {L : List Kw} {G : Nat → Prop} (h : Sc w w.heap.size A m c R A2 m2 c2 L) (v : Avd G A A2 R L) (n : But g w w') (hg : G g) : Sc w' w'.heap.size A m c R A2 m2 c2 L := by
  refine ⟨fun k hk => ?_, fun k hk => ?_, fun x hx => ⟨fun k hk => ?_, (h.q x hx).le, (h.q x hx).l⟩, h.len, h.len2, h.lim, h.lim2⟩
  · obtain ⟨b, off, e, h1, h2⟩ := h.rs k hk
    exact ⟨b, off, e, Nat.lt_of_lt_of_le h1 n.size, range_but n h2 (fun e2 => v.a (fun e3 => by rw [e3] at hk; exact absurd hk (by simp)) _ e (by rw [e2]; exact hg))⟩
  · obtain ⟨b, off, e, h1, h2⟩ := h.ks k hk
    exact ⟨b, off, e, Nat.lt_of_lt_of_le h1 n.size, range_but n h2 (fun e2 => v.a2 (fun e3 => by rw [e3] at hk; exact absurd hk (by simp)) _ e (by rw [e2]; exact hg))⟩
  · obtain ⟨b, off, e, h1, h2⟩ := (h.q x hx).ri k hk
    exact ⟨b, off, e, Nat.lt_of_lt_of_le h1 n.size, cell_but n h2 (fun e2 => v.q x hx (fun e3 => by rw [e3] at hk; exact absurd hk (by simp)) _ e (by rw [show b = g from e2]; exact hg))⟩
def ScQk (w : World) (G : Nat → Prop) (v : Value) (r : List Rn × List Kn) : Prop := ∃ A m c A2 m2 c2 L, v = scV A m c A2 m2 c2 ∧ Sc w w.heap.size A m c r.1 A2 m2 c2 L ∧ L.map (·.1) = r.2 ∧ Avd G A A2 r.1 L
theorem Tq.tail {V : World} {B : Nat} {x : Kw} {h : Int} {t : List Int} {qb qo cq : Nat} (hx : Tq V B x) (hq : x.1.q = h :: t) (he : x.2.1 = some ⟨qb, qo, none⟩) (hc : x.2.2 = cq + 1) (n' h' : Int) :
    Tq V B (⟨n', h', t⟩, (if cq = 0 then some ⟨qb, qo, none⟩ else some ⟨qb, qo + 1, none⟩, cq)) := by
  have hl : t.length ≤ cq := by
    have := hx.le
    rw [hq, hc] at this
    simpa using this
  refine ⟨fun j hj => ?_, hl, ?_⟩
  · have hj' : j < t.length := hj
    obtain ⟨b, off, e, hlt, hcell⟩ := hx.ri (j + 1) (by rw [hq]; simpa using hj')
    rw [he] at e
    cases e
    rw [hq] at hcell
    refine ⟨qb, qo + 1, by rw [if_neg (by omega)], hlt, ?_⟩
    rw [show qo + 1 + j = qo + (j + 1) by omega]
    exact hcell
  · have := hx.l
    rw [hq] at this
    simp only [List.length_cons] at this
    show t.length ≤ 1000000
    omega
theorem fndK_mem {L : List Kw} {n : Int} (h : (fndK L n).1.1.q ≠ []) : (fndK L n).1 ∈ L := by
  unfold fndK lockF at *
  cases hf : L.find? (fun x => x.1.n == n) with
  | none => rw [hf] at h; exact absurd rfl h
  | some x => exact List.mem_of_find?_eq_some hf
set_option maxRecDepth 100000 in
set_option maxHeartbeats 8000000 in
theorem pass_sc (A : Option Addr) (m c : Nat) (R : List Rn) (A2 : Option Addr) (m2 c2 : Nat) (L : List Kw) (n : Int) (w : World) (G : Nat → Prop) (hG : ∀ g, G g → g < w.heap.size) (h : Sc w w.heap.size A m c R A2 m2 c2 L) (ha : Avd G A A2 R L) (h1 : m ≤ 1000) (h2 : m2 ≤ 1000) :
    Calls Try.prog 46 #[scV A m c A2 m2 c2, .int .i64 n] w fun e w' => ∃ v, e = .returned v ∧ ScQk w' G v (passN R (L.map (·.1)) n) ∧ Below w.heap.size w w' := by
  have k2 := (Blk.new w (scC A m c A2 m2 c2) 25).alloc (.cells #[.slice none 0 0, .slice none 0 0] 25)
  have k4 : Blk ((w.alloc (.cells (scC A m c A2 m2 c2) 25)).alloc (.cells #[.slice none 0 0, .slice none 0 0] 25)) (w.heap.size + 1) (scC none 0 0 none 0 0) 25 := Blk.new_ _ _ _ (by simp)
  have B0 := ((Below.refl w.heap.size w).alloc (Nat.le_refl _) (.cells (scC A m c A2 m2 c2) 25)).alloc (by simp) (.cells #[.slice none 0 0, .slice none 0 0] 25)
  have HS := Lib.hid h
  have HA := Lib.hid ha
  have HG := Lib.hid hG
  clear ha hG
  have HF := Lib.hid (find_K A m c R A2 m2 c2 L n _ (h.on B0))
  have hfm : (fndK L n).1.1.q ≠ [] → (fndK L n).1 ∈ L := fndK_mem
  have hfn := fndK_N L n
  unfold passN
  rw [← hfn]
  obtain ⟨⟨x, xb⟩, hx⟩ : ∃ p, fndK L n = p := ⟨_, rfl⟩
  rw [hx] at HF hfm ⊢
  clear hx hfn h
  simp only at hfm ⊢
  unfold scV kwV at HF
  have h4l := k4.lt
  rcases hq0 : x.1.q with _ | ⟨hd, t⟩
  · have hlen : x.1.q.length = 0 := by rw [hq0]; rfl
    simp only
    clear hfm
    have HPU := Lib.hid (fun (V : World) (hV : Below w.heap.size w V) => put_K A2 m2 c2 L (⟨n, 0, []⟩, (none, 0)) V ((HS.out.ks.below hV (Nat.le_refl _)).more hV.size) HS.out.len2 (by omega))
    go_enter Try.func46, Try.ntmps46
    go_wp2_with (first
      | (refine wpList_load_row rfl 25 (.tmp 2) rfl w.heap.size rfl 25 (scC A m c A2 m2 c2) (0, 0) _ k2.blk Try.underlying25 rfl (sc_inf A m c A2 m2 c2) ?_)
      | (refine HF.out.mono ?_
         clear HF
         rintro e w1 ⟨rfl, bb⟩
         have k21 := k2.below bb k2.lt
         have k41 := k4.below bb k4.lt
         have B1 := B0.trans (bb.mono B0.size)
         have h41 := k41.lt
         clear bb k2 k4 B0)
      | (refine wpList_store_blk rfl 48 (.tmp 5) (.tmp 11) rfl w1.heap.size (kwC kw0) (kwC x) 48 rfl rfl (Blk.new _ _ _) rfl (kw_inf x) (kw_one x) ?_
         intro w2 k5 n5
         have bb : Below w1.heap.size w1 w2 := ((Below.refl _ w1).alloc (Nat.le_refl _) _).trans (n5.below _ (Nat.le_refl _) (by simp))
         have k22 := k21.below bb k21.lt
         have k42 := k41.below bb k41.lt
         have B2 := B1.trans (bb.mono B1.size)
         have h51 : w.heap.size + 1 < w1.heap.size := h41
         have q5 : w2.cell? ⟨w1.heap.size, 2, none⟩ = some (.slice x.2.1 0 x.2.2) := by have := k5.cell 2; change _ = some (Value.slice x.2.1 x.1.q.length x.2.2) at this; rw [hlen] at this; exact this
         have q2 : w2.cell? ⟨w.heap.size, 1, none⟩ = some (.slice A2 m2 c2) := k22.cell 1
         clear bb n5 k21 k41 B1)
      | (refine (HPU.out _ B2).mono ?_
         clear HPU
         rintro e w3 ⟨G0, gm, gc, rfl, rg, bb⟩
         have k23 := k22.below bb k22.lt
         have k43 := k42.below bb k42.lt
         have B3 := B2.trans (bb.mono B2.size)
         have rg := rg.down B2.size
         have q3 : w3.cell? ⟨w.heap.size, 1, none⟩ = some (.slice A2 m2 c2) := k23.cell 1
         have f3 := k23.frozen 1
         have n4 : But w.heap.size w3 (w3.setCell ⟨w.heap.size, 1, none⟩ (.slice G0 gm gc)) := (But.refl w.heap.size w3).setCell (p := ⟨w.heap.size, 1, none⟩) (.inl rfl) _
         have k24 : Blk (w3.setCell ⟨w.heap.size, 1, none⟩ (.slice G0 gm gc)) w.heap.size (scC A m c G0 gm gc) 25 := k23.set_ 1 _
         have k44 := n4.blk7 k43 (by omega)
         have rg4 := own_kind rg (grown_but n4) (fun g' e => by cases e; exact ⟨_, _, k23, by decide⟩)
         have B4 := B3.trans (n4.below _ (Nat.le_refl _) B3.size)
         have HZ := Lib.hid (And.intro k44 (And.intro rg4 B4))
         clear k23 k43 B3 rg n4 k44 rg4 B4 q5 q2 k42 bb)
      | (refine wpList_load_row rfl 25 (.tmp 2) rfl w.heap.size rfl 25 (scC A m c G0 gm gc) (0, 0) _ k24.blk Try.underlying25 rfl (sc_inf A m c G0 gm gc) ?_)
      | (refine wpList_store_blk rfl 25 (.tmp 4) (.tmp 23) rfl (w.heap.size + 1) (scC none 0 0 none 0 0) (scC A m c G0 gm gc) 25 rfl rfl HZ.out.1 rfl (sc_inf _ _ _ _ _ _) (sc_one _ _ _ _ _ _) ?_
         intro w5 h5 n5))
    have hz := HZ.out
    refine bodyPost_ret (results_row_one rfl _ _ (w.heap.size + 1) 25 (scC A m c G0 gm gc) (0, 0) _ rfl h5.blk Try.underlying25 rfl (sc_inf _ _ _ _ _ _)) rfl ?_
    have rg5 := own_kind hz.2.1 (grown_but n5) (fun g' e => by cases e; exact ⟨_, _, hz.1, by decide⟩)
    have B5 := hz.2.2.trans (n5.below _ (by omega) hz.2.2.size)
    have rg5 : RoK w5 w.heap.size G0 gm gc (putG numK (((⟨n, 0, []⟩, (none, 0)) : Kw)) true L) := rg5
    have hs5 := HS.out.on B5
    have rgl := rg5.len
    have hgm : gm ≤ L.length + 1 := by rw [rgl]; exact Nat.le_trans (putG_len numK _ L _) (by split <;> omega)
    exact ⟨_, rfl, ⟨A, m, c, G0, gm, gc, _, rfl, ⟨hs5.rs, rg5.rs, fun z hz9 => (by
        rcases putG_mem numK _ hz9 with rfl | hz9
        · exact ⟨fun j hj => absurd hj (by simp), Nat.le_refl _, Nat.zero_le _⟩
        · exact hs5.q z hz9), hs5.len, rgl, hs5.lim, by have := HS.out.len2; omega⟩, putG_map numK (·.n) (·.1) (fun _ => rfl) _ L true, ⟨HA.out.a, fun _ a e hg => by have := HG.out _ hg; have := rg5.base e; omega, fun z hz9 hzq a e => (by
        rcases putG_mem numK _ hz9 with rfl | hz9
        · exact absurd rfl hzq
        · exact HA.out.q z hz9 hzq a e)⟩⟩, B5⟩
  · simp only
    have hxm := hfm (by rw [hq0]; simp)
    have hTQ := HS.out.q x hxm
    have HNG := Lib.hid (fun a e => HA.out.q x hxm (by rw [hq0]; simp) a e)
    obtain ⟨qb, qo, eq, hqb, hqc⟩ := hTQ.ri 0 (by rw [hq0]; simp)
    rw [hq0] at hqc
    simp only [Nat.add_zero, List.getD_cons_zero] at hqc
    have hle := hTQ.le
    have hlen : x.1.q.length = t.length + 1 := by rw [hq0]; rfl
    rw [hlen] at hle
    obtain ⟨cq, hcq⟩ : ∃ cq, x.2.2 = cq + 1 := ⟨x.2.2 - 1, by omega⟩
    rw [hcq] at hle
    have HY := Lib.hid (hTQ.tail hq0 eq hcq n hd)
    obtain ⟨TB, hTB⟩ : ∃ TB : Option Addr, (if cq = 0 then some (⟨qb, qo, none⟩ : Addr) else some ⟨qb, qo + 1, none⟩) = TB := ⟨_, rfl⟩
    rw [hTB] at HY
    have HTB := Lib.hid hTB
    obtain ⟨tl, htl⟩ : ∃ tl, t.length = tl := ⟨_, rfl⟩
    rw [htl] at hle hlen
    have HTL := Lib.hid htl
    have HXV := Lib.hid (show x.2.1 = some ⟨qb, qo, none⟩ ∧ x.2.2 = cq + 1 ∧ x.1.q.length = tl + 1 from ⟨eq, hcq, hlen⟩)
    clear hfm hTB htl hlen eq hcq hTQ hxm
    have HPR := Lib.hid (fun (V : World) (hV : Below w.heap.size w V) => put_R A m c R ⟨hd, 0, 0⟩ V ((HS.out.rs.below hV (Nat.le_refl _)).more hV.size) HS.out.len (by omega))
    have HPU := Lib.hid (fun (V : World) (hV : Below w.heap.size w V) => put_K A2 m2 c2 L (⟨n, hd, t⟩, (TB, cq)) V ((HS.out.ks.below hV (Nat.le_refl _)).more hV.size) HS.out.len2 (by omega))
    have HKC := Lib.hid (show kwC ((⟨n, hd, t⟩, (TB, cq)) : Kw) = #[.int .i64 n, .int .i64 hd, .slice TB tl cq] by rw [← HTL.out]; rfl)
    rw [HKC.out] at HPU
    go_enter Try.func46, Try.ntmps46
    go_wp2_with (first
      | (refine wpList_load_row rfl 25 (.tmp 2) rfl w.heap.size rfl 25 (scC A m c A2 m2 c2) (0, 0) _ k2.blk Try.underlying25 rfl (sc_inf A m c A2 m2 c2) ?_)
      | (refine HF.out.mono ?_
         clear HF
         rintro e w1 ⟨rfl, bb⟩
         have k21 := k2.below bb k2.lt
         have k41 := k4.below bb k4.lt
         have B1 := B0.trans (bb.mono B0.size)
         have h41 := k41.lt
         clear bb k2 k4 B0)
      | (refine wpList_store_blk rfl 48 (.tmp 5) (.tmp 11) rfl w1.heap.size (kwC kw0) (kwC x) 48 rfl rfl (Blk.new _ _ _) rfl (kw_inf x) (kw_one x) ?_
         intro w2 k5 n5
         have bb : Below w1.heap.size w1 w2 := ((Below.refl _ w1).alloc (Nat.le_refl _) _).trans (n5.below _ (Nat.le_refl _) (by simp))
         have k22 := k21.below bb k21.lt
         have k42 := k41.below bb k41.lt
         have B2 := B1.trans (bb.mono B1.size)
         have h51 : w.heap.size + 1 < w1.heap.size := h41
         have q5 : w2.cell? ⟨w1.heap.size, 2, none⟩ = some (.slice (some ⟨qb, qo, none⟩) (tl + 1) (cq + 1)) := by have := k5.cell 2; change _ = some (Value.slice x.2.1 x.1.q.length x.2.2) at this; rw [HXV.out.1, HXV.out.2.1, HXV.out.2.2] at this; exact this
         have qq : w2.cell? ⟨qb, qo, none⟩ = some (.int .i64 hd) := (B2.cell (p := ⟨qb, qo, none⟩) hqb).trans hqc
         have hne : ((tl : Int) + 1 == 0) = false := by simp; omega
         clear bb n5 k21 k41 B1))
    try simp only [Act.put]
    refine region_cutP ?_
    have h5l : w1.heap.size < w2.drew.heap.size := k5.lt
    have J : (fun V' => V'.cell? ⟨w1.heap.size, 2, none⟩ = some (.slice (some ⟨qb, qo, none⟩) (tl + 1) (cq + 1)) ∧ V'.cell? ⟨qb, qo, none⟩ = some (.int .i64 hd)) w2.drew := ⟨q5, qq⟩
    have k22 := k22.drew
    have k42 := k42.drew
    have B2 := B2.drew
    clear q5 qq k5
    refine wp_region_held_drew (S := (fun V' => V'.cell? ⟨w1.heap.size, 2, none⟩ = some (.slice (some ⟨qb, qo, none⟩) (tl + 1) (cq + 1)) ∧ V'.cell? ⟨qb, qo, none⟩ = some (.int .i64 hd))) (by kernel_rfl) J (fun _ => ?_)
    generalize w2.drew = w2d at J k22 k42 B2 h5l ⊢
    refine wpAnyH_take (i := 0) (v := .pointer (some ⟨w.heap.size, 0, none⟩)) rfl (by kernel_rfl) (by kernel_rfl) (by kernel_rfl) (fun _ _ _ h => nomatch h.1) (.inl ⟨by rfl, fun V hV => by go_simp⟩) J ?_
    try simp only [Act.put, List.getElem_toArray, List.getElem_cons_zero, List.getElem_cons_succ, List.setIfInBounds_toArray, List.set_cons_zero, List.set_cons_succ]
    refine wpAnyH_take (i := 2) (v := .pointer (some ⟨w1.heap.size, 2, none⟩)) rfl (by kernel_rfl) (by kernel_rfl) (by kernel_rfl) (fun _ _ _ h => nomatch h.1) (.inl ⟨by rfl, fun V hV => by go_simp⟩) J ?_
    try simp only [Act.put, List.getElem_toArray, List.getElem_cons_zero, List.getElem_cons_succ, List.setIfInBounds_toArray, List.set_cons_zero, List.set_cons_succ]
    refine wpAnyH_take (i := 3) (v := .slice (some ⟨qb, qo, none⟩) (tl + 1) (cq + 1)) rfl (by kernel_rfl) (by kernel_rfl) (by kernel_rfl) (fun _ _ _ h => nomatch h.1) (.inl ⟨by rfl, fun V hV => by have cq5 : V.cell? ⟨w1.heap.size, 2, none⟩ = some (.slice (some ⟨qb, qo, none⟩) (tl + 1) (cq + 1)) := hV.1; go_simp⟩) J ?_
    try simp only [Act.put, List.getElem_toArray, List.getElem_cons_zero, List.getElem_cons_succ, List.setIfInBounds_toArray, List.set_cons_zero, List.set_cons_succ]
    refine wpAnyH_take (i := 4) (v := .pointer (some ⟨qb, qo, none⟩)) rfl (by kernel_rfl) (by kernel_rfl) (by kernel_rfl) (fun _ _ _ h => nomatch h.1) (.inl ⟨by rfl, fun V hV => by have hx1 : (0 : Int) < (tl : Int) + 1 := (by omega); go_simp⟩) J ?_
    try simp only [Act.put, List.getElem_toArray, List.getElem_cons_zero, List.getElem_cons_succ, List.setIfInBounds_toArray, List.set_cons_zero, List.set_cons_succ]
    refine wpAnyH_take (i := 5) (v := .int .i64 hd) rfl (by kernel_rfl) (by kernel_rfl) (by kernel_rfl) (fun _ _ _ h => nomatch h.1) (.inl ⟨by rfl, fun V hV => by have cq5 : V.cell? ⟨qb, qo, none⟩ = some (.int .i64 hd) := hV.2; go_simp⟩) J ?_
    try simp only [Act.put, List.getElem_toArray, List.getElem_cons_zero, List.getElem_cons_succ, List.setIfInBounds_toArray, List.set_cons_zero, List.set_cons_succ]
    refine wpAnyH_take (i := 6) (v := .agg (rnC ⟨hd, 0, 0⟩)) rfl (by kernel_rfl) (by kernel_rfl) (by kernel_rfl) (fun _ _ _ h => nomatch h.1) (.inl ⟨by rfl, fun V hV => by go_simp; rfl⟩) J ?_
    try simp only [Act.put, List.getElem_toArray, List.getElem_cons_zero, List.getElem_cons_succ, List.setIfInBounds_toArray, List.set_cons_zero, List.set_cons_succ]
    refine wpAnyH_ready (rs := [1]) (by kernel_rfl) (by simp) ?_
    refine AllReadyH.cons rfl (fun K hK => ?_) AllReadyH.nil
    try simp only [Act.put, List.getElem_toArray, List.getElem_cons_zero, List.getElem_cons_succ, List.setIfInBounds_toArray, List.set_cons_zero, List.set_cons_succ]
    have qa : w2d.cell? ⟨w.heap.size, 0, none⟩ = some (.slice A m c) := k22.cell 0
    go_simp
    clear qa
    refine hK.out _ _ J (fun _ => ?_)
    clear hK K
    try simp only [Act.put, List.getElem_toArray, List.getElem_cons_zero, List.getElem_cons_succ, List.setIfInBounds_toArray, List.set_cons_zero, List.set_cons_succ]
    refine wpAnyH_ready (rs := [7]) (by kernel_rfl) (by simp) ?_
    refine AllReadyH.cons rfl (fun K hK => ?_) AllReadyH.nil
    try simp only [Act.put, List.getElem_toArray, List.getElem_cons_zero, List.getElem_cons_succ, List.setIfInBounds_toArray, List.set_cons_zero, List.set_cons_succ]
    go_simp
    refine (HPR.out _ B2).mono ?_
    clear HPR
    rintro e w3 ⟨G0, gm, gc, rfl, rr, bb⟩
    go_wp2_with fail
    have rr := rr.down B2.size
    have J : (fun V' => V'.cell? ⟨w1.heap.size, 2, none⟩ = some (.slice (some ⟨qb, qo, none⟩) (tl + 1) (cq + 1)) ∧ V'.cell? ⟨qb, qo, none⟩ = some (.int .i64 hd)) w3 := ⟨(bb.cell (p := ⟨w1.heap.size, 2, none⟩) h5l).trans J.1, (bb.cell (p := ⟨qb, qo, none⟩) (Nat.lt_of_lt_of_le hqb B2.size)).trans J.2⟩
    have k23 := k22.below bb k22.lt
    have k43 := k42.below bb k42.lt
    have h5l := Nat.lt_of_lt_of_le h5l bb.size
    have B3 := B2.trans (bb.mono B2.size)
    clear bb k22 k42 B2
    refine hK.out _ _ J (fun _ => ?_)
    clear hK K
    try simp only [Act.put, List.getElem_toArray, List.getElem_cons_zero, List.getElem_cons_succ, List.setIfInBounds_toArray, List.set_cons_zero, List.set_cons_succ]
    refine wpAnyH_take (i := 8) (v := .pointer (some ⟨w.heap.size, 0, none⟩)) rfl (by kernel_rfl) (by kernel_rfl) (by kernel_rfl) (fun _ _ _ h => nomatch h.1) (.inl ⟨by rfl, fun V hV => by go_simp⟩) J ?_
    try simp only [Act.put, List.getElem_toArray, List.getElem_cons_zero, List.getElem_cons_succ, List.setIfInBounds_toArray, List.set_cons_zero, List.set_cons_succ]
    refine wpAnyH_ready (rs := [9]) (by kernel_rfl) (by simp) ?_
    refine AllReadyH.cons rfl (fun K hK => ?_) AllReadyH.nil
    try simp only [Act.put, List.getElem_toArray, List.getElem_cons_zero, List.getElem_cons_succ, List.setIfInBounds_toArray, List.set_cons_zero, List.set_cons_succ]
    have q3 : w3.cell? ⟨w.heap.size, 0, none⟩ = some (.slice A m c) := k23.cell 0
    have f3 := k23.frozen 0
    go_simp
    clear q3 f3
    have n4 : But w.heap.size w3 (w3.setCell ⟨w.heap.size, 0, none⟩ (.slice G0 gm gc)) := (But.refl w.heap.size w3).setCell (p := ⟨w.heap.size, 0, none⟩) (.inl rfl) _
    have k24 : Blk (w3.setCell ⟨w.heap.size, 0, none⟩ (.slice G0 gm gc)) w.heap.size (scC G0 gm gc A2 m2 c2) 25 := k23.set_ 0 _
    have k44 := n4.blk7 k43 (by omega)
    have rr4 : RoR _ w.heap.size G0 gm gc _ := own_kind rr (grown_but n4) (fun g' e => by cases e; exact ⟨_, _, k23, by decide⟩)
    have B4 := B3.trans (n4.below _ (Nat.le_refl _) B3.size)
    have J : (fun V' => V'.cell? ⟨w1.heap.size, 2, none⟩ = some (.slice (some ⟨qb, qo, none⟩) (tl + 1) (cq + 1)) ∧ V'.cell? ⟨qb, qo, none⟩ = some (.int .i64 hd)) (w3.setCell ⟨w.heap.size, 0, none⟩ (.slice G0 gm gc)) := ⟨cell_but n4 J.1 (by show w1.heap.size ≠ _; omega), cell_but n4 J.2 (by show qb ≠ _; omega)⟩
    have h5l : w1.heap.size < (w3.setCell ⟨w.heap.size, 0, none⟩ (.slice G0 gm gc)).heap.size := Nat.lt_of_lt_of_le h5l n4.size
    clear n4 k23 k43 rr B3
    generalize w3.setCell ⟨w.heap.size, 0, none⟩ (.slice G0 gm gc) = w4 at J k24 k44 rr4 B4 h5l ⊢
    refine hK.out _ _ J (fun _ => ?_)
    clear hK K
    try simp only [Act.put, List.getElem_toArray, List.getElem_cons_zero, List.getElem_cons_succ, List.setIfInBounds_toArray, List.set_cons_zero, List.set_cons_succ]
    refine wpAnyH_done (by kernel_rfl) ?_ _
    refine ⟨rfl, ?_⟩
    go_wp2_with fail
    try simp only [Act.put]
    refine region_cutP ?_
    have bd : Below w4.heap.size w4 w4.drew := (Below.refl _ _).drew
    have J : (fun V' => V'.cell? ⟨w1.heap.size, 2, none⟩ = some (.slice (some ⟨qb, qo, none⟩) (tl + 1) (cq + 1)) ∧ V'.cell? ⟨qb, qo, none⟩ = some (.int .i64 hd)) w4.drew := J
    have k24 := k24.drew
    have k44 := k44.drew
    have rr4 := rr4.below bd (Nat.le_refl _)
    have B4 := B4.drew
    have h5l : w1.heap.size < w4.drew.heap.size := h5l
    clear bd
    refine wp_region_held_drew (S := (fun V' => V'.cell? ⟨w1.heap.size, 2, none⟩ = some (.slice (some ⟨qb, qo, none⟩) (tl + 1) (cq + 1)) ∧ V'.cell? ⟨qb, qo, none⟩ = some (.int .i64 hd))) (by kernel_rfl) J (fun _ => ?_)
    generalize w4.drew = w4d at J k24 k44 rr4 B4 h5l ⊢
    refine wpAnyH_take (i := 0) (v := .pointer (some ⟨w.heap.size, 1, none⟩)) rfl (by kernel_rfl) (by kernel_rfl) (by kernel_rfl) (fun _ _ _ h => nomatch h.1) (.inl ⟨by rfl, fun V hV => by go_simp⟩) J ?_
    try simp only [Act.put, List.getElem_toArray, List.getElem_cons_zero, List.getElem_cons_succ, List.setIfInBounds_toArray, List.set_cons_zero, List.set_cons_succ]
    refine wpAnyH_take (i := 2) (v := .int .i64 n) rfl (by kernel_rfl) (by kernel_rfl) (by kernel_rfl) (fun _ _ _ h => nomatch h.1) (.inl ⟨by rfl, fun V hV => by go_simp⟩) J ?_
    try simp only [Act.put, List.getElem_toArray, List.getElem_cons_zero, List.getElem_cons_succ, List.setIfInBounds_toArray, List.set_cons_zero, List.set_cons_succ]
    refine wpAnyH_take (i := 3) (v := .pointer (some ⟨w1.heap.size, 2, none⟩)) rfl (by kernel_rfl) (by kernel_rfl) (by kernel_rfl) (fun _ _ _ h => nomatch h.1) (.inl ⟨by rfl, fun V hV => by go_simp⟩) J ?_
    try simp only [Act.put, List.getElem_toArray, List.getElem_cons_zero, List.getElem_cons_succ, List.setIfInBounds_toArray, List.set_cons_zero, List.set_cons_succ]
    refine wpAnyH_take (i := 7) (v := .pointer (some ⟨w1.heap.size, 2, none⟩)) rfl (by kernel_rfl) (by kernel_rfl) (by kernel_rfl) (fun _ _ _ h => nomatch h.1) (.inl ⟨by rfl, fun V hV => by go_simp⟩) J ?_
    try simp only [Act.put, List.getElem_toArray, List.getElem_cons_zero, List.getElem_cons_succ, List.setIfInBounds_toArray, List.set_cons_zero, List.set_cons_succ]
    refine wpAnyH_take (i := 4) (v := .slice (some ⟨qb, qo, none⟩) (tl + 1) (cq + 1)) rfl (by kernel_rfl) (by kernel_rfl) (by kernel_rfl) (fun _ _ _ h => nomatch h.1) (.inl ⟨by rfl, fun V hV => by have cq5 : V.cell? ⟨w1.heap.size, 2, none⟩ = some (.slice (some ⟨qb, qo, none⟩) (tl + 1) (cq + 1)) := hV.1; go_simp⟩) J ?_
    try simp only [Act.put, List.getElem_toArray, List.getElem_cons_zero, List.getElem_cons_succ, List.setIfInBounds_toArray, List.set_cons_zero, List.set_cons_succ]
    refine wpAnyH_take (i := 8) (v := .slice (some ⟨qb, qo, none⟩) (tl + 1) (cq + 1)) rfl (by kernel_rfl) (by kernel_rfl) (by kernel_rfl) (fun _ _ _ h => nomatch h.1) (.inl ⟨by rfl, fun V hV => by have cq5 : V.cell? ⟨w1.heap.size, 2, none⟩ = some (.slice (some ⟨qb, qo, none⟩) (tl + 1) (cq + 1)) := hV.1; go_simp⟩) J ?_
    try simp only [Act.put, List.getElem_toArray, List.getElem_cons_zero, List.getElem_cons_succ, List.setIfInBounds_toArray, List.set_cons_zero, List.set_cons_succ]
    refine wpAnyH_take (i := 5) (v := .pointer (some ⟨qb, qo, none⟩)) rfl (by kernel_rfl) (by kernel_rfl) (by kernel_rfl) (fun _ _ _ h => nomatch h.1) (.inl ⟨by rfl, fun V hV => by have hx1 : (0 : Int) < (tl : Int) + 1 := (by omega); go_simp⟩) J ?_
    try simp only [Act.put, List.getElem_toArray, List.getElem_cons_zero, List.getElem_cons_succ, List.setIfInBounds_toArray, List.set_cons_zero, List.set_cons_succ]
    refine wpAnyH_take (i := 9) (v := .slice TB tl cq) rfl (by kernel_rfl) (by kernel_rfl) (by kernel_rfl) (fun _ _ _ h => nomatch h.1) (.inl ⟨by rfl, fun V hV => by have hx1 : (1 : Int) ≤ (tl : Int) + 1 := (by omega); have hx2 : (tl : Int) + 1 ≤ (cq : Int) + 1 := (by omega); have hTB := HTB.out; go_simp⟩) J ?_
    try simp only [Act.put, List.getElem_toArray, List.getElem_cons_zero, List.getElem_cons_succ, List.setIfInBounds_toArray, List.set_cons_zero, List.set_cons_succ]
    refine wpAnyH_take (i := 6) (v := .int .i64 hd) rfl (by kernel_rfl) (by kernel_rfl) (by kernel_rfl) (fun _ _ _ h => nomatch h.1) (.inl ⟨by rfl, fun V hV => by have cq5 : V.cell? ⟨qb, qo, none⟩ = some (.int .i64 hd) := hV.2; go_simp⟩) J ?_
    try simp only [Act.put, List.getElem_toArray, List.getElem_cons_zero, List.getElem_cons_succ, List.setIfInBounds_toArray, List.set_cons_zero, List.set_cons_succ]
    refine wpAnyH_take (i := 10) (v := .agg #[.int .i64 n, .int .i64 hd, .slice TB tl cq]) rfl (by kernel_rfl) (by kernel_rfl) (by kernel_rfl) (fun _ _ _ h => nomatch h.1) (.inl ⟨by rfl, fun V hV => by go_simp⟩) J ?_
    try simp only [Act.put, List.getElem_toArray, List.getElem_cons_zero, List.getElem_cons_succ, List.setIfInBounds_toArray, List.set_cons_zero, List.set_cons_succ]
    refine wpAnyH_ready (rs := [1]) (by kernel_rfl) (by simp) ?_
    refine AllReadyH.cons rfl (fun K hK => ?_) AllReadyH.nil
    try simp only [Act.put, List.getElem_toArray, List.getElem_cons_zero, List.getElem_cons_succ, List.setIfInBounds_toArray, List.set_cons_zero, List.set_cons_succ]
    have qa : w4d.cell? ⟨w.heap.size, 1, none⟩ = some (.slice A2 m2 c2) := k24.cell 1
    go_simp
    clear qa
    refine hK.out _ _ J (fun _ => ?_)
    clear hK K
    try simp only [Act.put, List.getElem_toArray, List.getElem_cons_zero, List.getElem_cons_succ, List.setIfInBounds_toArray, List.set_cons_zero, List.set_cons_succ]
    refine wpAnyH_ready (rs := [11]) (by kernel_rfl) (by simp) ?_
    refine AllReadyH.cons rfl (fun K hK => ?_) AllReadyH.nil
    try simp only [Act.put, List.getElem_toArray, List.getElem_cons_zero, List.getElem_cons_succ, List.setIfInBounds_toArray, List.set_cons_zero, List.set_cons_succ]
    go_simp
    refine (HPU.out _ B4).mono ?_
    clear HPU
    rintro e w5 ⟨G2, gm2, gc2, rfl, rg, bb⟩
    go_wp2_with fail
    have rg := rg.down B4.size
    have J : (fun V' => V'.cell? ⟨w1.heap.size, 2, none⟩ = some (.slice (some ⟨qb, qo, none⟩) (tl + 1) (cq + 1)) ∧ V'.cell? ⟨qb, qo, none⟩ = some (.int .i64 hd)) w5 := ⟨(bb.cell (p := ⟨w1.heap.size, 2, none⟩) h5l).trans J.1, (bb.cell (p := ⟨qb, qo, none⟩) (Nat.lt_of_lt_of_le hqb B4.size)).trans J.2⟩
    have k25 := k24.below bb k24.lt
    have k45 := k44.below bb k44.lt
    have rr5 := rr4.below bb (Nat.le_refl _)
    have B5 := B4.trans (bb.mono B4.size)
    clear bb k24 k44 rr4 B4
    refine hK.out _ _ J (fun _ => ?_)
    clear hK K
    try simp only [Act.put, List.getElem_toArray, List.getElem_cons_zero, List.getElem_cons_succ, List.setIfInBounds_toArray, List.set_cons_zero, List.set_cons_succ]
    refine wpAnyH_take (i := 12) (v := .pointer (some ⟨w.heap.size, 1, none⟩)) rfl (by kernel_rfl) (by kernel_rfl) (by kernel_rfl) (fun _ _ _ h => nomatch h.1) (.inl ⟨by rfl, fun V hV => by go_simp⟩) J ?_
    try simp only [Act.put, List.getElem_toArray, List.getElem_cons_zero, List.getElem_cons_succ, List.setIfInBounds_toArray, List.set_cons_zero, List.set_cons_succ]
    refine wpAnyH_ready (rs := [13]) (by kernel_rfl) (by simp) ?_
    refine AllReadyH.cons rfl (fun K hK => ?_) AllReadyH.nil
    try simp only [Act.put, List.getElem_toArray, List.getElem_cons_zero, List.getElem_cons_succ, List.setIfInBounds_toArray, List.set_cons_zero, List.set_cons_succ]
    have q3 : w5.cell? ⟨w.heap.size, 1, none⟩ = some (.slice A2 m2 c2) := k25.cell 1
    have f3 := k25.frozen 1
    go_simp
    clear q3 f3
    have n6 : But w.heap.size w5 (w5.setCell ⟨w.heap.size, 1, none⟩ (.slice G2 gm2 gc2)) := (But.refl w.heap.size w5).setCell (p := ⟨w.heap.size, 1, none⟩) (.inl rfl) _
    have k26 : Blk (w5.setCell ⟨w.heap.size, 1, none⟩ (.slice G2 gm2 gc2)) w.heap.size (scC G0 gm gc G2 gm2 gc2) 25 := k25.set_ 1 _
    have k46 := n6.blk7 k45 (by omega)
    have rr6 : RoR _ w.heap.size G0 gm gc _ := own_kind rr5 (grown_but n6) (fun g' e => by cases e; exact ⟨_, _, k25, by decide⟩)
    have rg6 : RoK _ w.heap.size G2 gm2 gc2 _ := own_kind rg (grown_but n6) (fun g' e => by cases e; exact ⟨_, _, k25, by decide⟩)
    have B6 := B5.trans (n6.below _ (Nat.le_refl _) B5.size)
    have J : (fun V' => V'.cell? ⟨w1.heap.size, 2, none⟩ = some (.slice (some ⟨qb, qo, none⟩) (tl + 1) (cq + 1)) ∧ V'.cell? ⟨qb, qo, none⟩ = some (.int .i64 hd)) (w5.setCell ⟨w.heap.size, 1, none⟩ (.slice G2 gm2 gc2)) := ⟨cell_but n6 J.1 (by show w1.heap.size ≠ _; omega), cell_but n6 J.2 (by show qb ≠ _; omega)⟩
    clear n6 k25 k45 rr5 rg B5
    generalize w5.setCell ⟨w.heap.size, 1, none⟩ (.slice G2 gm2 gc2) = w6 at J k26 k46 rr6 rg6 B6 ⊢
    refine hK.out _ _ J (fun _ => ?_)
    clear hK K
    try simp only [Act.put, List.getElem_toArray, List.getElem_cons_zero, List.getElem_cons_succ, List.setIfInBounds_toArray, List.set_cons_zero, List.set_cons_succ]
    refine wpAnyH_done (by kernel_rfl) ?_ _
    refine ⟨rfl, ?_⟩
    clear J
    go_wp2_with (first
      | (refine wpList_load_row rfl 25 (.tmp 2) rfl w.heap.size rfl 25 (scC G0 gm gc G2 gm2 gc2) (0, 0) _ k26.blk Try.underlying25 rfl (sc_inf _ _ _ _ _ _) ?_)
      | (refine wpList_store_blk rfl 25 (.tmp 4) (.tmp 46) rfl (w.heap.size + 1) (scC none 0 0 none 0 0) (scC G0 gm gc G2 gm2 gc2) 25 rfl rfl k46 rfl (sc_inf _ _ _ _ _ _) (sc_one _ _ _ _ _ _) ?_
         intro w7 h7 n7))
    refine bodyPost_ret (results_row_one rfl _ _ (w.heap.size + 1) 25 (scC G0 gm gc G2 gm2 gc2) (0, 0) _ rfl h7.blk Try.underlying25 rfl (sc_inf _ _ _ _ _ _)) rfl ?_
    have rr7 : RoR _ w.heap.size G0 gm gc _ := own_kind rr6 (grown_but n7) (fun g' e => by cases e; exact ⟨_, _, k46, by decide⟩)
    have rg7 : RoK _ w.heap.size G2 gm2 gc2 _ := own_kind rg6 (grown_but n7) (fun g' e => by cases e; exact ⟨_, _, k46, by decide⟩)
    have B7 := B6.trans (n7.below _ (by omega) B6.size)
    have rr7 : RoR w7 w.heap.size G0 gm gc (putG numR (⟨hd, 0, 0⟩ : Rn) false R) := rr7
    have rg7 : RoK w7 w.heap.size G2 gm2 gc2 (putG numK ((⟨n, hd, t⟩, (TB, cq)) : Kw) (hd == 0) L) := rg7
    have hs7 := HS.out.on B7
    have hl3 : (putG numK ((⟨n, hd, t⟩, (TB, cq)) : Kw) (hd == 0) L).length ≤ L.length + 1 := Nat.le_trans (putG_len numK _ L _) (by split <;> omega)
    have hl2 : (putG numR (⟨hd, 0, 0⟩ : Rn) false R).length ≤ R.length + 1 := Nat.le_trans (putG_len numR _ R _) (by split <;> omega)
    have rgl := rg7.len
    have rrl := rr7.len
    exact ⟨_, rfl, ⟨G0, gm, gc, G2, gm2, gc2, _, rfl, ⟨rr7.rs, rg7.rs, fun z hz9 => (by
        rcases putG_mem numK _ hz9 with rfl | hz9
        · exact (HY.out.below B7 (Nat.le_refl _)).more B7.size
        · exact hs7.q z hz9), rrl, rgl, (by have := HS.out.len; omega), (by have := HS.out.len2; omega)⟩, putG_map numK (·.n) (·.1) (fun _ => rfl) _ L (hd == 0), ⟨fun _ a e hg => by have := HG.out _ hg; have := rr7.base e; omega, fun _ a e hg => by have := HG.out _ hg; have := rg7.base e; omega, fun z hz9 hzq a e => (by
        rcases putG_mem numK _ hz9 with rfl | hz9
        · have hb := HTB.out
          have h8 := HNG.out _ HXV.out.1
          simp only at e
          rw [e] at hb
          split at hb <;> cases hb <;> exact h8
        · exact HA.out.q z hz9 hzq a e)⟩⟩, B7⟩
end Go.Proofs.Ytfohifnbohdbcaa
