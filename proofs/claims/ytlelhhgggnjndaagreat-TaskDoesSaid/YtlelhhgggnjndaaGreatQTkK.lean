/-
  task.Check.
-/
import Derived.Test.YtlelhhgggnjndaaGreatQTkRc
import Derived.BigQuiet
namespace Go.Proofs.YtlelhhgggnjndaaGreat
open Go.RowKit Go.Shelf
set_option linter.unusedVariables false
set_option linter.unusedSimpArgs false
def fewB (L : List Pw) : Bool := decide (L.length ≤ 6) && decide ((thrF 0 L).length ≤ 8)
def tkE (a : Int) (U : List Int) (L : List Pw) : Int := if fewB L && (pidE a U == 0 && (ordB L && (U == idsF L && !(L.any (rootB L))))) then 0 else 220
structure KS (w : World) (a : Int) (U : Option Addr) (um uc : Nat) (A : Option Addr) (m c : Nat) (V : World) : Prop where
  k : Blk V w.heap.size #[.int .i64 a, .slice U um uc, .slice A m c] 27
  b : Below w.heap.size w V
theorem KS.step {w V V' : World} {a : Int} {U : Option Addr} {um uc : Nat} {A : Option Addr} {m c : Nat} (h : KS w a U um uc A m c V) (b : Below V.heap.size V V') : KS w a U um uc A m c V' := ⟨h.k.below b h.k.lt, h.b.trans (b.mono h.b.size)⟩
set_option maxRecDepth 100000 in
set_option maxHeartbeats 8000000 in
theorem check_tk (a : Int) (Ua : Option Addr) (um uc : Nat) (U : List Int) (A : Option Addr) (m c : Nat) (L : List Pw) (w : World) (hU : Ri7 w w.heap.size Ua U) (hum : um = U.length) (hu6 : um ≤ 1000000) (hP : Ps w w.heap.size A L) (hm : m = L.length) (h6 : m ≤ 1000000) (hN : (thrF 0 L).length ≤ 1000000000) :
    Calls Tryz.prog 13 #[tkV a Ua um uc A m c] w fun e w' => e = .returned (.int .i64 (tkE a U L)) ∧ Below w.heap.size w w' := by
  have k1 := Blk.new w (tkC a Ua um uc A m c) 27
  have B0 := (Below.refl w.heap.size w).alloc (Nat.le_refl _) (.cells (tkC a Ua um uc A m c) 27)
  have CF := Lib.hid (fun (V : World) (hV : Below w.heap.size w V) => few_tk a Ua um uc A m c L V ((hP.below hV (Nat.le_refl _)).more hV.size) hm h6 hN)
  have CP := Lib.hid (fun (V : World) (hV : Below w.heap.size w V) => pcheck_pid a Ua um uc U V ((hU.below hV (Nat.le_refl _)).more hV.size) hum hu6)
  have CO := Lib.hid (fun (h : m ≤ 1000) (V : World) (hV : Below w.heap.size w V) => inOrder_any a Ua um uc A m c L V ((hP.below hV (Nat.le_refl _)).more hV.size) hm h)
  have CI := Lib.hid (fun (h : m ≤ 1000) (h2 : (thrF 0 L).length ≤ 100000) (V : World) (hV : Below w.heap.size w V) => ids_any a Ua um uc A m c L V ((hP.below hV (Nat.le_refl _)).more hV.size) hm h h2)
  have CE := Lib.hid (fun (V' : World) (hV : Below w.heap.size w V') (base : Nat) (G : Option Addr) (gm gc : Nat) (z : Zo V' base G gm gc (idsF L)) => equalZ_any Ua um uc U G gm gc (idsF L) V' ((hU.below hV (Nat.le_refl _)).more hV.size) hum hu6 z.ri z.len)
  have CR := Lib.hid (fun (h : (idsP L).Pairwise (· < ·)) (V : World) (hV : Below w.heap.size w V) => rooted_tk a Ua um uc A m c L V ((hP.below hV (Nat.le_refl _)).more hV.size) hm h6 h)
  obtain ⟨E, hE⟩ : ∃ E, tkE a U L = E := ⟨_, rfl⟩
  rw [hE]
  have HM := Lib.hid hm
  clear hm hum hU hP
  unfold tkV pdV tkC pdC at *
  have JD : KS w a Ua um uc A m c (w.alloc (.cells #[.int .i64 a, .slice Ua um uc, .slice A m c] 27)).drew := ⟨⟨k1.blk⟩, B0.drew⟩
  clear k1 B0
  have hfw : (decide (L.length ≤ 6) && decide ((thrF 0 L).length ≤ 8)) = fewB L := rfl
  rw [hfw] at CF
  clear hfw
  
  cases hf : fewB L
  · rw [hf] at CF
    have hr : E = 220 := by rw [← hE]; unfold tkE; rw [hf]; rfl
    go_enter Tryz.func13, Tryz.ntmps13
    go_wp2_with fail
    refine region_cutP ?_
    refine wp_region_held_drew (S := KS w a Ua um uc A m c) (by kernel_rfl) JD (fun _ => ?_)
    refine wpAnyH_take (i := 0) (v := .agg #[.int .i64 a, .slice Ua um uc, .slice A m c]) rfl (by kernel_rfl) (by kernel_rfl) (by kernel_rfl) (fun _ _ _ h => nomatch h.1) (.inl ⟨by rfl, fun V hV => by have c0 := hV.k.cell 0; have c1 := hV.k.cell 1; have c2 := hV.k.cell 2; simp only [List.getElem?_toArray, List.getElem?_cons_zero, List.getElem?_cons_succ] at c0 c1 c2; go_simp⟩) JD ?_
    try simp only [Act.put, qA, qB, qC, qD, qE, qF]
    refine wpAnyH_ready (rs := [1]) (by kernel_rfl) (by simp) ?_
    refine AllReadyH.cons rfl (fun K hK => ?_) AllReadyH.nil
    try simp only [Act.put, qA, qB, qC, qD, qE, qF]
    go_simp
    refine (CF.out _ JD.b).mono ?_
    rintro e w1 ⟨rfl, b1⟩
    have JD1 := JD.step b1
    refine hK.out _ _ JD1 (fun _ => ?_)
    clear hK K
    try simp only [Act.put, qA, qB, qC, qD, qE, qF]
    refine wpAnyH_take (i := 2) (v := .bool true) rfl (by kernel_rfl) (by kernel_rfl) (by kernel_rfl) (fun _ _ _ h => nomatch h.1) (.inl ⟨by rfl, fun V hV => by go_simp⟩) JD1 ?_
    try simp only [Act.put, qA, qB, qC, qD, qE, qF]
    refine wpAnyH_take (i := 3) (v := .bool true) rfl (by kernel_rfl) (by kernel_rfl) (by kernel_rfl) (fun _ _ _ h => nomatch h.1) (.inl ⟨by rfl, fun V hV => by go_simp⟩) JD1 ?_
    try simp only [Act.put, qA, qB, qC, qD, qE, qF]
    refine wpAnyH_take (i := 4) (v := undef) rfl (by kernel_rfl) (by kernel_rfl) (by kernel_rfl) (fun _ _ _ h => nomatch h.1) (.inr ⟨by rfl, rfl⟩) JD1 ?_
    try simp only [Act.put, qA, qB, qC, qD, qE, qF]
    refine wpAnyH_take (i := 5) (v := undef) rfl (by kernel_rfl) (by kernel_rfl) (by kernel_rfl) (fun _ _ _ h => nomatch h.1) (.inr ⟨by rfl, rfl⟩) JD1 ?_
    try simp only [Act.put, qA, qB, qC, qD, qE, qF]
    refine wpAnyH_take (i := 6) (v := undef) rfl (by kernel_rfl) (by kernel_rfl) (by kernel_rfl) (fun _ _ _ h => nomatch h.1) (.inr ⟨by rfl, rfl⟩) JD1 ?_
    try simp only [Act.put, qA, qB, qC, qD, qE, qF]
    refine wpAnyH_take (i := 7) (v := undef) rfl (by kernel_rfl) (by kernel_rfl) (by kernel_rfl) (fun _ _ _ h => nomatch h.1) (.inr ⟨by rfl, rfl⟩) JD1 ?_
    try simp only [Act.put, qA, qB, qC, qD, qE, qF]
    refine wpAnyH_take (i := 8) (v := .bool true) rfl (by kernel_rfl) (by kernel_rfl) (by kernel_rfl) (fun _ _ _ h => nomatch h.1) (.inl ⟨by rfl, fun V hV => by go_simp⟩) JD1 ?_
    try simp only [Act.put, qA, qB, qC, qD, qE, qF]
    refine wpAnyH_take (i := 9) (v := .bool true) rfl (by kernel_rfl) (by kernel_rfl) (by kernel_rfl) (fun _ _ _ h => nomatch h.1) (.inl ⟨by rfl, fun V hV => by go_simp⟩) JD1 ?_
    try simp only [Act.put, qA, qB, qC, qD, qE, qF]
    refine wpAnyH_take (i := 10) (v := undef) rfl (by kernel_rfl) (by kernel_rfl) (by kernel_rfl) (fun _ _ _ h => nomatch h.1) (.inr ⟨by rfl, rfl⟩) JD1 ?_
    try simp only [Act.put, qA, qB, qC, qD, qE, qF]
    refine wpAnyH_take (i := 11) (v := undef) rfl (by kernel_rfl) (by kernel_rfl) (by kernel_rfl) (fun _ _ _ h => nomatch h.1) (.inr ⟨by rfl, rfl⟩) JD1 ?_
    try simp only [Act.put, qA, qB, qC, qD, qE, qF]
    refine wpAnyH_take (i := 12) (v := undef) rfl (by kernel_rfl) (by kernel_rfl) (by kernel_rfl) (fun _ _ _ h => nomatch h.1) (.inr ⟨by rfl, rfl⟩) JD1 ?_
    try simp only [Act.put, qA, qB, qC, qD, qE, qF]
    refine wpAnyH_take (i := 13) (v := .bool true) rfl (by kernel_rfl) (by kernel_rfl) (by kernel_rfl) (fun _ _ _ h => nomatch h.1) (.inl ⟨by rfl, fun V hV => by go_simp⟩) JD1 ?_
    try simp only [Act.put, qA, qB, qC, qD, qE, qF]
    refine wpAnyH_take (i := 14) (v := .bool true) rfl (by kernel_rfl) (by kernel_rfl) (by kernel_rfl) (fun _ _ _ h => nomatch h.1) (.inl ⟨by rfl, fun V hV => by go_simp⟩) JD1 ?_
    try simp only [Act.put, qA, qB, qC, qD, qE, qF]
    refine wpAnyH_take (i := 15) (v := undef) rfl (by kernel_rfl) (by kernel_rfl) (by kernel_rfl) (fun _ _ _ h => nomatch h.1) (.inr ⟨by rfl, rfl⟩) JD1 ?_
    try simp only [Act.put, qA, qB, qC, qD, qE, qF]
    refine wpAnyH_take (i := 16) (v := undef) rfl (by kernel_rfl) (by kernel_rfl) (by kernel_rfl) (fun _ _ _ h => nomatch h.1) (.inr ⟨by rfl, rfl⟩) JD1 ?_
    try simp only [Act.put, qA, qB, qC, qD, qE, qF]
    refine wpAnyH_take (i := 17) (v := undef) rfl (by kernel_rfl) (by kernel_rfl) (by kernel_rfl) (fun _ _ _ h => nomatch h.1) (.inr ⟨by rfl, rfl⟩) JD1 ?_
    try simp only [Act.put, qA, qB, qC, qD, qE, qF]
    refine wpAnyH_take (i := 18) (v := undef) rfl (by kernel_rfl) (by kernel_rfl) (by kernel_rfl) (fun _ _ _ h => nomatch h.1) (.inr ⟨by rfl, rfl⟩) JD1 ?_
    try simp only [Act.put, qA, qB, qC, qD, qE, qF]
    refine wpAnyH_take (i := 19) (v := undef) rfl (by kernel_rfl) (by kernel_rfl) (by kernel_rfl) (fun _ _ _ h => nomatch h.1) (.inr ⟨by rfl, rfl⟩) JD1 ?_
    try simp only [Act.put, qA, qB, qC, qD, qE, qF]
    refine wpAnyH_take (i := 20) (v := undef) rfl (by kernel_rfl) (by kernel_rfl) (by kernel_rfl) (fun _ _ _ h => nomatch h.1) (.inr ⟨by rfl, rfl⟩) JD1 ?_
    try simp only [Act.put, qA, qB, qC, qD, qE, qF]
    refine wpAnyH_take (i := 21) (v := undef) rfl (by kernel_rfl) (by kernel_rfl) (by kernel_rfl) (fun _ _ _ h => nomatch h.1) (.inr ⟨by rfl, rfl⟩) JD1 ?_
    try simp only [Act.put, qA, qB, qC, qD, qE, qF]
    refine wpAnyH_take (i := 22) (v := .bool true) rfl (by kernel_rfl) (by kernel_rfl) (by kernel_rfl) (fun _ _ _ h => nomatch h.1) (.inl ⟨by rfl, fun V hV => by go_simp⟩) JD1 ?_
    try simp only [Act.put, qA, qB, qC, qD, qE, qF]
    refine wpAnyH_take (i := 23) (v := .bool true) rfl (by kernel_rfl) (by kernel_rfl) (by kernel_rfl) (fun _ _ _ h => nomatch h.1) (.inl ⟨by rfl, fun V hV => by go_simp⟩) JD1 ?_
    try simp only [Act.put, qA, qB, qC, qD, qE, qF]
    refine wpAnyH_take (i := 24) (v := undef) rfl (by kernel_rfl) (by kernel_rfl) (by kernel_rfl) (fun _ _ _ h => nomatch h.1) (.inr ⟨by rfl, rfl⟩) JD1 ?_
    try simp only [Act.put, qA, qB, qC, qD, qE, qF]
    refine wpAnyH_take (i := 25) (v := undef) rfl (by kernel_rfl) (by kernel_rfl) (by kernel_rfl) (fun _ _ _ h => nomatch h.1) (.inr ⟨by rfl, rfl⟩) JD1 ?_
    try simp only [Act.put, qA, qB, qC, qD, qE, qF]
    refine wpAnyH_take (i := 26) (v := undef) rfl (by kernel_rfl) (by kernel_rfl) (by kernel_rfl) (fun _ _ _ h => nomatch h.1) (.inr ⟨by rfl, rfl⟩) JD1 ?_
    try simp only [Act.put, qA, qB, qC, qD, qE, qF]
    refine wpAnyH_take (i := 27) (v := .bool true) rfl (by kernel_rfl) (by kernel_rfl) (by kernel_rfl) (fun _ _ _ h => nomatch h.1) (.inl ⟨by rfl, fun V hV => by go_simp⟩) JD1 ?_
    try simp only [Act.put, qA, qB, qC, qD, qE, qF]
    refine wpAnyH_done (by kernel_rfl) ?_ _
    refine ⟨rfl, ?_⟩
    have bz := JD1.b
    clear JD1 JD
    go_wp2_with fail
    go_ret
    exact ⟨by rw [hr]; rfl, bz⟩
  · rw [hf] at CF
    have hfe : L.length ≤ 6 ∧ (thrF 0 L).length ≤ 8 := by unfold fewB at hf; simpa using hf
    have hm1 : m ≤ 1000 := by have := HM.out; omega
    have hn1 : (thrF 0 L).length ≤ 100000 := by omega
    cases hp : (pidE a U == 0)
    · rcases pidE_or a U with h2 | h2
      · rw [h2] at hp; cases hp
      · rw [h2] at CP hp
        have hr : E = 220 := by rw [← hE]; unfold tkE; rw [hf, h2]; rfl
        go_enter Tryz.func13, Tryz.ntmps13
        go_wp2_with fail
        refine region_cutP ?_
        refine wp_region_held_drew (S := KS w a Ua um uc A m c) (by kernel_rfl) JD (fun _ => ?_)
        refine wpAnyH_take (i := 0) (v := .agg #[.int .i64 a, .slice Ua um uc, .slice A m c]) rfl (by kernel_rfl) (by kernel_rfl) (by kernel_rfl) (fun _ _ _ h => nomatch h.1) (.inl ⟨by rfl, fun V hV => by have c0 := hV.k.cell 0; have c1 := hV.k.cell 1; have c2 := hV.k.cell 2; simp only [List.getElem?_toArray, List.getElem?_cons_zero, List.getElem?_cons_succ] at c0 c1 c2; go_simp⟩) JD ?_
        try simp only [Act.put, qA, qB, qC, qD, qE, qF]
        refine wpAnyH_ready (rs := [1]) (by kernel_rfl) (by simp) ?_
        refine AllReadyH.cons rfl (fun K hK => ?_) AllReadyH.nil
        try simp only [Act.put, qA, qB, qC, qD, qE, qF]
        go_simp
        refine (CF.out _ JD.b).mono ?_
        rintro e w1 ⟨rfl, b1⟩
        have JD1 := JD.step b1
        refine hK.out _ _ JD1 (fun _ => ?_)
        clear hK K
        try simp only [Act.put, qA, qB, qC, qD, qE, qF]
        refine wpAnyH_take (i := 2) (v := .bool false) rfl (by kernel_rfl) (by kernel_rfl) (by kernel_rfl) (fun _ _ _ h => nomatch h.1) (.inl ⟨by rfl, fun V hV => by go_simp⟩) JD1 ?_
        try simp only [Act.put, qA, qB, qC, qD, qE, qF]
        refine wpAnyH_take (i := 3) (v := .bool false) rfl (by kernel_rfl) (by kernel_rfl) (by kernel_rfl) (fun _ _ _ h => nomatch h.1) (.inl ⟨by rfl, fun V hV => by go_simp⟩) JD1 ?_
        try simp only [Act.put, qA, qB, qC, qD, qE, qF]
        refine wpAnyH_take (i := 4) (v := .pointer (some ⟨w.heap.size, 0, none⟩)) rfl (by kernel_rfl) (by kernel_rfl) (by kernel_rfl) (fun _ _ _ h => nomatch h.1) (.inl ⟨by rfl, fun V hV => by go_simp⟩) JD1 ?_
        try simp only [Act.put, qA, qB, qC, qD, qE, qF]
        refine wpAnyH_take (i := 5) (v := .agg #[.int .i64 a, .slice Ua um uc]) rfl (by kernel_rfl) (by kernel_rfl) (by kernel_rfl) (fun _ _ _ h => nomatch h.1) (.inl ⟨by rfl, fun V hV => by have c0 := hV.k.cell 0; have c1 := hV.k.cell 1; have c2 := hV.k.cell 2; simp only [List.getElem?_toArray, List.getElem?_cons_zero, List.getElem?_cons_succ] at c0 c1 c2; go_simp⟩) JD1 ?_
        try simp only [Act.put, qA, qB, qC, qD, qE, qF]
        refine wpAnyH_ready (rs := [6]) (by kernel_rfl) (by simp) ?_
        refine AllReadyH.cons rfl (fun K hK => ?_) AllReadyH.nil
        try simp only [Act.put, qA, qB, qC, qD, qE, qF]
        go_simp
        refine (CP.out _ JD1.b).mono ?_
        rintro e w2 ⟨rfl, b2⟩
        have JD2 := JD1.step b2
        refine hK.out _ _ JD2 (fun _ => ?_)
        clear hK K
        try simp only [Act.put, qA, qB, qC, qD, qE, qF]
        refine wpAnyH_take (i := 7) (v := .bool true) rfl (by kernel_rfl) (by kernel_rfl) (by kernel_rfl) (fun _ _ _ h => nomatch h.1) (.inl ⟨by rfl, fun V hV => by go_simp⟩) JD2 ?_
        try simp only [Act.put, qA, qB, qC, qD, qE, qF]
        refine wpAnyH_take (i := 8) (v := .bool true) rfl (by kernel_rfl) (by kernel_rfl) (by kernel_rfl) (fun _ _ _ h => nomatch h.1) (.inl ⟨by rfl, fun V hV => by go_simp⟩) JD2 ?_
        try simp only [Act.put, qA, qB, qC, qD, qE, qF]
        refine wpAnyH_take (i := 9) (v := .bool true) rfl (by kernel_rfl) (by kernel_rfl) (by kernel_rfl) (fun _ _ _ h => nomatch h.1) (.inl ⟨by rfl, fun V hV => by go_simp⟩) JD2 ?_
        try simp only [Act.put, qA, qB, qC, qD, qE, qF]
        refine wpAnyH_take (i := 10) (v := undef) rfl (by kernel_rfl) (by kernel_rfl) (by kernel_rfl) (fun _ _ _ h => nomatch h.1) (.inr ⟨by rfl, rfl⟩) JD2 ?_
        try simp only [Act.put, qA, qB, qC, qD, qE, qF]
        refine wpAnyH_take (i := 11) (v := undef) rfl (by kernel_rfl) (by kernel_rfl) (by kernel_rfl) (fun _ _ _ h => nomatch h.1) (.inr ⟨by rfl, rfl⟩) JD2 ?_
        try simp only [Act.put, qA, qB, qC, qD, qE, qF]
        refine wpAnyH_take (i := 12) (v := undef) rfl (by kernel_rfl) (by kernel_rfl) (by kernel_rfl) (fun _ _ _ h => nomatch h.1) (.inr ⟨by rfl, rfl⟩) JD2 ?_
        try simp only [Act.put, qA, qB, qC, qD, qE, qF]
        refine wpAnyH_take (i := 13) (v := .bool true) rfl (by kernel_rfl) (by kernel_rfl) (by kernel_rfl) (fun _ _ _ h => nomatch h.1) (.inl ⟨by rfl, fun V hV => by go_simp⟩) JD2 ?_
        try simp only [Act.put, qA, qB, qC, qD, qE, qF]
        refine wpAnyH_take (i := 14) (v := .bool true) rfl (by kernel_rfl) (by kernel_rfl) (by kernel_rfl) (fun _ _ _ h => nomatch h.1) (.inl ⟨by rfl, fun V hV => by go_simp⟩) JD2 ?_
        try simp only [Act.put, qA, qB, qC, qD, qE, qF]
        refine wpAnyH_take (i := 15) (v := undef) rfl (by kernel_rfl) (by kernel_rfl) (by kernel_rfl) (fun _ _ _ h => nomatch h.1) (.inr ⟨by rfl, rfl⟩) JD2 ?_
        try simp only [Act.put, qA, qB, qC, qD, qE, qF]
        refine wpAnyH_take (i := 16) (v := undef) rfl (by kernel_rfl) (by kernel_rfl) (by kernel_rfl) (fun _ _ _ h => nomatch h.1) (.inr ⟨by rfl, rfl⟩) JD2 ?_
        try simp only [Act.put, qA, qB, qC, qD, qE, qF]
        refine wpAnyH_take (i := 17) (v := undef) rfl (by kernel_rfl) (by kernel_rfl) (by kernel_rfl) (fun _ _ _ h => nomatch h.1) (.inr ⟨by rfl, rfl⟩) JD2 ?_
        try simp only [Act.put, qA, qB, qC, qD, qE, qF]
        refine wpAnyH_take (i := 18) (v := undef) rfl (by kernel_rfl) (by kernel_rfl) (by kernel_rfl) (fun _ _ _ h => nomatch h.1) (.inr ⟨by rfl, rfl⟩) JD2 ?_
        try simp only [Act.put, qA, qB, qC, qD, qE, qF]
        refine wpAnyH_take (i := 19) (v := undef) rfl (by kernel_rfl) (by kernel_rfl) (by kernel_rfl) (fun _ _ _ h => nomatch h.1) (.inr ⟨by rfl, rfl⟩) JD2 ?_
        try simp only [Act.put, qA, qB, qC, qD, qE, qF]
        refine wpAnyH_take (i := 20) (v := undef) rfl (by kernel_rfl) (by kernel_rfl) (by kernel_rfl) (fun _ _ _ h => nomatch h.1) (.inr ⟨by rfl, rfl⟩) JD2 ?_
        try simp only [Act.put, qA, qB, qC, qD, qE, qF]
        refine wpAnyH_take (i := 21) (v := undef) rfl (by kernel_rfl) (by kernel_rfl) (by kernel_rfl) (fun _ _ _ h => nomatch h.1) (.inr ⟨by rfl, rfl⟩) JD2 ?_
        try simp only [Act.put, qA, qB, qC, qD, qE, qF]
        refine wpAnyH_take (i := 22) (v := .bool true) rfl (by kernel_rfl) (by kernel_rfl) (by kernel_rfl) (fun _ _ _ h => nomatch h.1) (.inl ⟨by rfl, fun V hV => by go_simp⟩) JD2 ?_
        try simp only [Act.put, qA, qB, qC, qD, qE, qF]
        refine wpAnyH_take (i := 23) (v := .bool true) rfl (by kernel_rfl) (by kernel_rfl) (by kernel_rfl) (fun _ _ _ h => nomatch h.1) (.inl ⟨by rfl, fun V hV => by go_simp⟩) JD2 ?_
        try simp only [Act.put, qA, qB, qC, qD, qE, qF]
        refine wpAnyH_take (i := 24) (v := undef) rfl (by kernel_rfl) (by kernel_rfl) (by kernel_rfl) (fun _ _ _ h => nomatch h.1) (.inr ⟨by rfl, rfl⟩) JD2 ?_
        try simp only [Act.put, qA, qB, qC, qD, qE, qF]
        refine wpAnyH_take (i := 25) (v := undef) rfl (by kernel_rfl) (by kernel_rfl) (by kernel_rfl) (fun _ _ _ h => nomatch h.1) (.inr ⟨by rfl, rfl⟩) JD2 ?_
        try simp only [Act.put, qA, qB, qC, qD, qE, qF]
        refine wpAnyH_take (i := 26) (v := undef) rfl (by kernel_rfl) (by kernel_rfl) (by kernel_rfl) (fun _ _ _ h => nomatch h.1) (.inr ⟨by rfl, rfl⟩) JD2 ?_
        try simp only [Act.put, qA, qB, qC, qD, qE, qF]
        refine wpAnyH_take (i := 27) (v := .bool true) rfl (by kernel_rfl) (by kernel_rfl) (by kernel_rfl) (fun _ _ _ h => nomatch h.1) (.inl ⟨by rfl, fun V hV => by go_simp⟩) JD2 ?_
        try simp only [Act.put, qA, qB, qC, qD, qE, qF]
        refine wpAnyH_done (by kernel_rfl) ?_ _
        refine ⟨rfl, ?_⟩
        have bz := JD2.b
        clear JD2 JD1 JD
        go_wp2_with fail
        go_ret
        exact ⟨by rw [hr]; rfl, bz⟩
    · have h2 : pidE a U = 0 := by simpa using hp
      rw [h2] at CP hp
      cases ho : ordB L
      · rw [ho] at CO
        have hr : E = 220 := by rw [← hE]; unfold tkE; rw [hf, h2, ho]; rfl
        go_enter Tryz.func13, Tryz.ntmps13
        go_wp2_with fail
        refine region_cutP ?_
        refine wp_region_held_drew (S := KS w a Ua um uc A m c) (by kernel_rfl) JD (fun _ => ?_)
        refine wpAnyH_take (i := 0) (v := .agg #[.int .i64 a, .slice Ua um uc, .slice A m c]) rfl (by kernel_rfl) (by kernel_rfl) (by kernel_rfl) (fun _ _ _ h => nomatch h.1) (.inl ⟨by rfl, fun V hV => by have c0 := hV.k.cell 0; have c1 := hV.k.cell 1; have c2 := hV.k.cell 2; simp only [List.getElem?_toArray, List.getElem?_cons_zero, List.getElem?_cons_succ] at c0 c1 c2; go_simp⟩) JD ?_
        try simp only [Act.put, qA, qB, qC, qD, qE, qF]
        refine wpAnyH_ready (rs := [1]) (by kernel_rfl) (by simp) ?_
        refine AllReadyH.cons rfl (fun K hK => ?_) AllReadyH.nil
        try simp only [Act.put, qA, qB, qC, qD, qE, qF]
        go_simp
        refine (CF.out _ JD.b).mono ?_
        rintro e w1 ⟨rfl, b1⟩
        have JD1 := JD.step b1
        refine hK.out _ _ JD1 (fun _ => ?_)
        clear hK K
        try simp only [Act.put, qA, qB, qC, qD, qE, qF]
        refine wpAnyH_take (i := 2) (v := .bool false) rfl (by kernel_rfl) (by kernel_rfl) (by kernel_rfl) (fun _ _ _ h => nomatch h.1) (.inl ⟨by rfl, fun V hV => by go_simp⟩) JD1 ?_
        try simp only [Act.put, qA, qB, qC, qD, qE, qF]
        refine wpAnyH_take (i := 3) (v := .bool false) rfl (by kernel_rfl) (by kernel_rfl) (by kernel_rfl) (fun _ _ _ h => nomatch h.1) (.inl ⟨by rfl, fun V hV => by go_simp⟩) JD1 ?_
        try simp only [Act.put, qA, qB, qC, qD, qE, qF]
        refine wpAnyH_take (i := 4) (v := .pointer (some ⟨w.heap.size, 0, none⟩)) rfl (by kernel_rfl) (by kernel_rfl) (by kernel_rfl) (fun _ _ _ h => nomatch h.1) (.inl ⟨by rfl, fun V hV => by go_simp⟩) JD1 ?_
        try simp only [Act.put, qA, qB, qC, qD, qE, qF]
        refine wpAnyH_take (i := 5) (v := .agg #[.int .i64 a, .slice Ua um uc]) rfl (by kernel_rfl) (by kernel_rfl) (by kernel_rfl) (fun _ _ _ h => nomatch h.1) (.inl ⟨by rfl, fun V hV => by have c0 := hV.k.cell 0; have c1 := hV.k.cell 1; have c2 := hV.k.cell 2; simp only [List.getElem?_toArray, List.getElem?_cons_zero, List.getElem?_cons_succ] at c0 c1 c2; go_simp⟩) JD1 ?_
        try simp only [Act.put, qA, qB, qC, qD, qE, qF]
        refine wpAnyH_ready (rs := [6]) (by kernel_rfl) (by simp) ?_
        refine AllReadyH.cons rfl (fun K hK => ?_) AllReadyH.nil
        try simp only [Act.put, qA, qB, qC, qD, qE, qF]
        go_simp
        refine (CP.out _ JD1.b).mono ?_
        rintro e w2 ⟨rfl, b2⟩
        have JD2 := JD1.step b2
        refine hK.out _ _ JD2 (fun _ => ?_)
        clear hK K
        try simp only [Act.put, qA, qB, qC, qD, qE, qF]
        refine wpAnyH_take (i := 7) (v := .bool false) rfl (by kernel_rfl) (by kernel_rfl) (by kernel_rfl) (fun _ _ _ h => nomatch h.1) (.inl ⟨by rfl, fun V hV => by go_simp⟩) JD2 ?_
        try simp only [Act.put, qA, qB, qC, qD, qE, qF]
        refine wpAnyH_take (i := 8) (v := .bool false) rfl (by kernel_rfl) (by kernel_rfl) (by kernel_rfl) (fun _ _ _ h => nomatch h.1) (.inl ⟨by rfl, fun V hV => by go_simp⟩) JD2 ?_
        try simp only [Act.put, qA, qB, qC, qD, qE, qF]
        refine wpAnyH_take (i := 9) (v := .bool false) rfl (by kernel_rfl) (by kernel_rfl) (by kernel_rfl) (fun _ _ _ h => nomatch h.1) (.inl ⟨by rfl, fun V hV => by go_simp⟩) JD2 ?_
        try simp only [Act.put, qA, qB, qC, qD, qE, qF]
        refine wpAnyH_take (i := 10) (v := .agg #[.int .i64 a, .slice Ua um uc, .slice A m c]) rfl (by kernel_rfl) (by kernel_rfl) (by kernel_rfl) (fun _ _ _ h => nomatch h.1) (.inl ⟨by rfl, fun V hV => by have c0 := hV.k.cell 0; have c1 := hV.k.cell 1; have c2 := hV.k.cell 2; simp only [List.getElem?_toArray, List.getElem?_cons_zero, List.getElem?_cons_succ] at c0 c1 c2; go_simp⟩) JD2 ?_
        try simp only [Act.put, qA, qB, qC, qD, qE, qF]
        refine wpAnyH_ready (rs := [11]) (by kernel_rfl) (by simp) ?_
        refine AllReadyH.cons rfl (fun K hK => ?_) AllReadyH.nil
        try simp only [Act.put, qA, qB, qC, qD, qE, qF]
        go_simp
        refine (CO.out hm1 _ JD2.b).mono ?_
        rintro e w3 ⟨rfl, b3⟩
        have JD3 := JD2.step b3
        refine hK.out _ _ JD3 (fun _ => ?_)
        clear hK K
        try simp only [Act.put, qA, qB, qC, qD, qE, qF]
        refine wpAnyH_take (i := 12) (v := .bool true) rfl (by kernel_rfl) (by kernel_rfl) (by kernel_rfl) (fun _ _ _ h => nomatch h.1) (.inl ⟨by rfl, fun V hV => by go_simp⟩) JD3 ?_
        try simp only [Act.put, qA, qB, qC, qD, qE, qF]
        refine wpAnyH_take (i := 13) (v := .bool true) rfl (by kernel_rfl) (by kernel_rfl) (by kernel_rfl) (fun _ _ _ h => nomatch h.1) (.inl ⟨by rfl, fun V hV => by go_simp⟩) JD3 ?_
        try simp only [Act.put, qA, qB, qC, qD, qE, qF]
        refine wpAnyH_take (i := 14) (v := .bool true) rfl (by kernel_rfl) (by kernel_rfl) (by kernel_rfl) (fun _ _ _ h => nomatch h.1) (.inl ⟨by rfl, fun V hV => by go_simp⟩) JD3 ?_
        try simp only [Act.put, qA, qB, qC, qD, qE, qF]
        refine wpAnyH_take (i := 15) (v := undef) rfl (by kernel_rfl) (by kernel_rfl) (by kernel_rfl) (fun _ _ _ h => nomatch h.1) (.inr ⟨by rfl, rfl⟩) JD3 ?_
        try simp only [Act.put, qA, qB, qC, qD, qE, qF]
        refine wpAnyH_take (i := 16) (v := undef) rfl (by kernel_rfl) (by kernel_rfl) (by kernel_rfl) (fun _ _ _ h => nomatch h.1) (.inr ⟨by rfl, rfl⟩) JD3 ?_
        try simp only [Act.put, qA, qB, qC, qD, qE, qF]
        refine wpAnyH_take (i := 17) (v := undef) rfl (by kernel_rfl) (by kernel_rfl) (by kernel_rfl) (fun _ _ _ h => nomatch h.1) (.inr ⟨by rfl, rfl⟩) JD3 ?_
        try simp only [Act.put, qA, qB, qC, qD, qE, qF]
        refine wpAnyH_take (i := 18) (v := undef) rfl (by kernel_rfl) (by kernel_rfl) (by kernel_rfl) (fun _ _ _ h => nomatch h.1) (.inr ⟨by rfl, rfl⟩) JD3 ?_
        try simp only [Act.put, qA, qB, qC, qD, qE, qF]
        refine wpAnyH_take (i := 19) (v := undef) rfl (by kernel_rfl) (by kernel_rfl) (by kernel_rfl) (fun _ _ _ h => nomatch h.1) (.inr ⟨by rfl, rfl⟩) JD3 ?_
        try simp only [Act.put, qA, qB, qC, qD, qE, qF]
        refine wpAnyH_take (i := 20) (v := undef) rfl (by kernel_rfl) (by kernel_rfl) (by kernel_rfl) (fun _ _ _ h => nomatch h.1) (.inr ⟨by rfl, rfl⟩) JD3 ?_
        try simp only [Act.put, qA, qB, qC, qD, qE, qF]
        refine wpAnyH_take (i := 21) (v := undef) rfl (by kernel_rfl) (by kernel_rfl) (by kernel_rfl) (fun _ _ _ h => nomatch h.1) (.inr ⟨by rfl, rfl⟩) JD3 ?_
        try simp only [Act.put, qA, qB, qC, qD, qE, qF]
        refine wpAnyH_take (i := 22) (v := .bool true) rfl (by kernel_rfl) (by kernel_rfl) (by kernel_rfl) (fun _ _ _ h => nomatch h.1) (.inl ⟨by rfl, fun V hV => by go_simp⟩) JD3 ?_
        try simp only [Act.put, qA, qB, qC, qD, qE, qF]
        refine wpAnyH_take (i := 23) (v := .bool true) rfl (by kernel_rfl) (by kernel_rfl) (by kernel_rfl) (fun _ _ _ h => nomatch h.1) (.inl ⟨by rfl, fun V hV => by go_simp⟩) JD3 ?_
        try simp only [Act.put, qA, qB, qC, qD, qE, qF]
        refine wpAnyH_take (i := 24) (v := undef) rfl (by kernel_rfl) (by kernel_rfl) (by kernel_rfl) (fun _ _ _ h => nomatch h.1) (.inr ⟨by rfl, rfl⟩) JD3 ?_
        try simp only [Act.put, qA, qB, qC, qD, qE, qF]
        refine wpAnyH_take (i := 25) (v := undef) rfl (by kernel_rfl) (by kernel_rfl) (by kernel_rfl) (fun _ _ _ h => nomatch h.1) (.inr ⟨by rfl, rfl⟩) JD3 ?_
        try simp only [Act.put, qA, qB, qC, qD, qE, qF]
        refine wpAnyH_take (i := 26) (v := undef) rfl (by kernel_rfl) (by kernel_rfl) (by kernel_rfl) (fun _ _ _ h => nomatch h.1) (.inr ⟨by rfl, rfl⟩) JD3 ?_
        try simp only [Act.put, qA, qB, qC, qD, qE, qF]
        refine wpAnyH_take (i := 27) (v := .bool true) rfl (by kernel_rfl) (by kernel_rfl) (by kernel_rfl) (fun _ _ _ h => nomatch h.1) (.inl ⟨by rfl, fun V hV => by go_simp⟩) JD3 ?_
        try simp only [Act.put, qA, qB, qC, qD, qE, qF]
        refine wpAnyH_done (by kernel_rfl) ?_ _
        refine ⟨rfl, ?_⟩
        have bz := JD3.b
        clear JD3 JD2 JD1 JD
        go_wp2_with fail
        go_ret
        exact ⟨by rw [hr]; rfl, bz⟩
      · rw [ho] at CO
        have hup : (idsP L).Pairwise (· < ·) := by unfold ordB at ho; rw [Bool.and_eq_true] at ho; exact (upB_iff _).1 ho.2
        cases hq : (U == idsF L)
        · rw [hq] at CE
          have hr : E = 220 := by rw [← hE]; unfold tkE; rw [hf, h2, ho, hq]; rfl
          go_enter Tryz.func13, Tryz.ntmps13
          go_wp2_with fail
          refine region_cutP ?_
          refine wp_region_held_drew (S := KS w a Ua um uc A m c) (by kernel_rfl) JD (fun _ => ?_)
          refine wpAnyH_take (i := 0) (v := .agg #[.int .i64 a, .slice Ua um uc, .slice A m c]) rfl (by kernel_rfl) (by kernel_rfl) (by kernel_rfl) (fun _ _ _ h => nomatch h.1) (.inl ⟨by rfl, fun V hV => by have c0 := hV.k.cell 0; have c1 := hV.k.cell 1; have c2 := hV.k.cell 2; simp only [List.getElem?_toArray, List.getElem?_cons_zero, List.getElem?_cons_succ] at c0 c1 c2; go_simp⟩) JD ?_
          try simp only [Act.put, qA, qB, qC, qD, qE, qF]
          refine wpAnyH_ready (rs := [1]) (by kernel_rfl) (by simp) ?_
          refine AllReadyH.cons rfl (fun K hK => ?_) AllReadyH.nil
          try simp only [Act.put, qA, qB, qC, qD, qE, qF]
          go_simp
          refine (CF.out _ JD.b).mono ?_
          rintro e w1 ⟨rfl, b1⟩
          have JD1 := JD.step b1
          refine hK.out _ _ JD1 (fun _ => ?_)
          clear hK K
          try simp only [Act.put, qA, qB, qC, qD, qE, qF]
          refine wpAnyH_take (i := 2) (v := .bool false) rfl (by kernel_rfl) (by kernel_rfl) (by kernel_rfl) (fun _ _ _ h => nomatch h.1) (.inl ⟨by rfl, fun V hV => by go_simp⟩) JD1 ?_
          try simp only [Act.put, qA, qB, qC, qD, qE, qF]
          refine wpAnyH_take (i := 3) (v := .bool false) rfl (by kernel_rfl) (by kernel_rfl) (by kernel_rfl) (fun _ _ _ h => nomatch h.1) (.inl ⟨by rfl, fun V hV => by go_simp⟩) JD1 ?_
          try simp only [Act.put, qA, qB, qC, qD, qE, qF]
          refine wpAnyH_take (i := 4) (v := .pointer (some ⟨w.heap.size, 0, none⟩)) rfl (by kernel_rfl) (by kernel_rfl) (by kernel_rfl) (fun _ _ _ h => nomatch h.1) (.inl ⟨by rfl, fun V hV => by go_simp⟩) JD1 ?_
          try simp only [Act.put, qA, qB, qC, qD, qE, qF]
          refine wpAnyH_take (i := 5) (v := .agg #[.int .i64 a, .slice Ua um uc]) rfl (by kernel_rfl) (by kernel_rfl) (by kernel_rfl) (fun _ _ _ h => nomatch h.1) (.inl ⟨by rfl, fun V hV => by have c0 := hV.k.cell 0; have c1 := hV.k.cell 1; have c2 := hV.k.cell 2; simp only [List.getElem?_toArray, List.getElem?_cons_zero, List.getElem?_cons_succ] at c0 c1 c2; go_simp⟩) JD1 ?_
          try simp only [Act.put, qA, qB, qC, qD, qE, qF]
          refine wpAnyH_ready (rs := [6]) (by kernel_rfl) (by simp) ?_
          refine AllReadyH.cons rfl (fun K hK => ?_) AllReadyH.nil
          try simp only [Act.put, qA, qB, qC, qD, qE, qF]
          go_simp
          refine (CP.out _ JD1.b).mono ?_
          rintro e w2 ⟨rfl, b2⟩
          have JD2 := JD1.step b2
          refine hK.out _ _ JD2 (fun _ => ?_)
          clear hK K
          try simp only [Act.put, qA, qB, qC, qD, qE, qF]
          refine wpAnyH_take (i := 7) (v := .bool false) rfl (by kernel_rfl) (by kernel_rfl) (by kernel_rfl) (fun _ _ _ h => nomatch h.1) (.inl ⟨by rfl, fun V hV => by go_simp⟩) JD2 ?_
          try simp only [Act.put, qA, qB, qC, qD, qE, qF]
          refine wpAnyH_take (i := 8) (v := .bool false) rfl (by kernel_rfl) (by kernel_rfl) (by kernel_rfl) (fun _ _ _ h => nomatch h.1) (.inl ⟨by rfl, fun V hV => by go_simp⟩) JD2 ?_
          try simp only [Act.put, qA, qB, qC, qD, qE, qF]
          refine wpAnyH_take (i := 9) (v := .bool false) rfl (by kernel_rfl) (by kernel_rfl) (by kernel_rfl) (fun _ _ _ h => nomatch h.1) (.inl ⟨by rfl, fun V hV => by go_simp⟩) JD2 ?_
          try simp only [Act.put, qA, qB, qC, qD, qE, qF]
          refine wpAnyH_take (i := 10) (v := .agg #[.int .i64 a, .slice Ua um uc, .slice A m c]) rfl (by kernel_rfl) (by kernel_rfl) (by kernel_rfl) (fun _ _ _ h => nomatch h.1) (.inl ⟨by rfl, fun V hV => by have c0 := hV.k.cell 0; have c1 := hV.k.cell 1; have c2 := hV.k.cell 2; simp only [List.getElem?_toArray, List.getElem?_cons_zero, List.getElem?_cons_succ] at c0 c1 c2; go_simp⟩) JD2 ?_
          try simp only [Act.put, qA, qB, qC, qD, qE, qF]
          refine wpAnyH_ready (rs := [11]) (by kernel_rfl) (by simp) ?_
          refine AllReadyH.cons rfl (fun K hK => ?_) AllReadyH.nil
          try simp only [Act.put, qA, qB, qC, qD, qE, qF]
          go_simp
          refine (CO.out hm1 _ JD2.b).mono ?_
          rintro e w3 ⟨rfl, b3⟩
          have JD3 := JD2.step b3
          refine hK.out _ _ JD3 (fun _ => ?_)
          clear hK K
          try simp only [Act.put, qA, qB, qC, qD, qE, qF]
          refine wpAnyH_take (i := 12) (v := .bool false) rfl (by kernel_rfl) (by kernel_rfl) (by kernel_rfl) (fun _ _ _ h => nomatch h.1) (.inl ⟨by rfl, fun V hV => by go_simp⟩) JD3 ?_
          try simp only [Act.put, qA, qB, qC, qD, qE, qF]
          refine wpAnyH_take (i := 13) (v := .bool false) rfl (by kernel_rfl) (by kernel_rfl) (by kernel_rfl) (fun _ _ _ h => nomatch h.1) (.inl ⟨by rfl, fun V hV => by go_simp⟩) JD3 ?_
          try simp only [Act.put, qA, qB, qC, qD, qE, qF]
          refine wpAnyH_take (i := 14) (v := .bool false) rfl (by kernel_rfl) (by kernel_rfl) (by kernel_rfl) (fun _ _ _ h => nomatch h.1) (.inl ⟨by rfl, fun V hV => by go_simp⟩) JD3 ?_
          try simp only [Act.put, qA, qB, qC, qD, qE, qF]
          refine wpAnyH_take (i := 15) (v := .pointer (some ⟨w.heap.size, 0, none⟩)) rfl (by kernel_rfl) (by kernel_rfl) (by kernel_rfl) (fun _ _ _ h => nomatch h.1) (.inl ⟨by rfl, fun V hV => by go_simp⟩) JD3 ?_
          try simp only [Act.put, qA, qB, qC, qD, qE, qF]
          refine wpAnyH_take (i := 16) (v := .pointer (some ⟨w.heap.size, 1, none⟩)) rfl (by kernel_rfl) (by kernel_rfl) (by kernel_rfl) (fun _ _ _ h => nomatch h.1) (.inl ⟨by rfl, fun V hV => by go_simp⟩) JD3 ?_
          try simp only [Act.put, qA, qB, qC, qD, qE, qF]
          refine wpAnyH_take (i := 17) (v := .slice Ua um uc) rfl (by kernel_rfl) (by kernel_rfl) (by kernel_rfl) (fun _ _ _ h => nomatch h.1) (.inl ⟨by rfl, fun V hV => by have c0 := hV.k.cell 0; have c1 := hV.k.cell 1; have c2 := hV.k.cell 2; simp only [List.getElem?_toArray, List.getElem?_cons_zero, List.getElem?_cons_succ] at c0 c1 c2; go_simp⟩) JD3 ?_
          try simp only [Act.put, qA, qB, qC, qD, qE, qF]
          refine wpAnyH_take (i := 18) (v := .agg #[.int .i64 a, .slice Ua um uc, .slice A m c]) rfl (by kernel_rfl) (by kernel_rfl) (by kernel_rfl) (fun _ _ _ h => nomatch h.1) (.inl ⟨by rfl, fun V hV => by have c0 := hV.k.cell 0; have c1 := hV.k.cell 1; have c2 := hV.k.cell 2; simp only [List.getElem?_toArray, List.getElem?_cons_zero, List.getElem?_cons_succ] at c0 c1 c2; go_simp⟩) JD3 ?_
          try simp only [Act.put, qA, qB, qC, qD, qE, qF]
          refine wpAnyH_ready (rs := [19]) (by kernel_rfl) (by simp) ?_
          refine AllReadyH.cons rfl (fun K hK => ?_) AllReadyH.nil
          try simp only [Act.put, qA, qB, qC, qD, qE, qF]
          go_simp
          refine (CI.out hm1 hn1 _ JD3.b).mono ?_
          rintro e w4 ⟨G, gm, gc, rfl, z4, b4⟩
          have JD4 := JD3.step b4
          refine hK.out _ _ JD4 (fun _ => ?_)
          clear hK K
          try simp only [Act.put, qA, qB, qC, qD, qE, qF]
          refine wpAnyH_ready (rs := [20]) (by kernel_rfl) (by simp) ?_
          refine AllReadyH.cons rfl (fun K hK => ?_) AllReadyH.nil
          try simp only [Act.put, qA, qB, qC, qD, qE, qF]
          go_simp
          refine (CE.out _ JD4.b _ G gm gc z4).mono ?_
          rintro e w5 ⟨rfl, b5⟩
          have JD5 := JD4.step b5
          refine hK.out _ _ JD5 (fun _ => ?_)
          clear hK K
          try simp only [Act.put, qA, qB, qC, qD, qE, qF]
          refine wpAnyH_take (i := 21) (v := .bool true) rfl (by kernel_rfl) (by kernel_rfl) (by kernel_rfl) (fun _ _ _ h => nomatch h.1) (.inl ⟨by rfl, fun V hV => by go_simp⟩) JD5 ?_
          try simp only [Act.put, qA, qB, qC, qD, qE, qF]
          refine wpAnyH_take (i := 22) (v := .bool true) rfl (by kernel_rfl) (by kernel_rfl) (by kernel_rfl) (fun _ _ _ h => nomatch h.1) (.inl ⟨by rfl, fun V hV => by go_simp⟩) JD5 ?_
          try simp only [Act.put, qA, qB, qC, qD, qE, qF]
          refine wpAnyH_take (i := 23) (v := .bool true) rfl (by kernel_rfl) (by kernel_rfl) (by kernel_rfl) (fun _ _ _ h => nomatch h.1) (.inl ⟨by rfl, fun V hV => by go_simp⟩) JD5 ?_
          try simp only [Act.put, qA, qB, qC, qD, qE, qF]
          refine wpAnyH_take (i := 24) (v := undef) rfl (by kernel_rfl) (by kernel_rfl) (by kernel_rfl) (fun _ _ _ h => nomatch h.1) (.inr ⟨by rfl, rfl⟩) JD5 ?_
          try simp only [Act.put, qA, qB, qC, qD, qE, qF]
          refine wpAnyH_take (i := 25) (v := undef) rfl (by kernel_rfl) (by kernel_rfl) (by kernel_rfl) (fun _ _ _ h => nomatch h.1) (.inr ⟨by rfl, rfl⟩) JD5 ?_
          try simp only [Act.put, qA, qB, qC, qD, qE, qF]
          refine wpAnyH_take (i := 26) (v := undef) rfl (by kernel_rfl) (by kernel_rfl) (by kernel_rfl) (fun _ _ _ h => nomatch h.1) (.inr ⟨by rfl, rfl⟩) JD5 ?_
          try simp only [Act.put, qA, qB, qC, qD, qE, qF]
          refine wpAnyH_take (i := 27) (v := .bool true) rfl (by kernel_rfl) (by kernel_rfl) (by kernel_rfl) (fun _ _ _ h => nomatch h.1) (.inl ⟨by rfl, fun V hV => by go_simp⟩) JD5 ?_
          try simp only [Act.put, qA, qB, qC, qD, qE, qF]
          refine wpAnyH_done (by kernel_rfl) ?_ _
          refine ⟨rfl, ?_⟩
          have bz := JD5.b
          clear JD5 JD4 JD3 JD2 JD1 JD
          go_wp2_with fail
          go_ret
          exact ⟨by rw [hr]; rfl, bz⟩
        · rw [hq] at CE
          cases hx : L.any (rootB L)
          · rw [hx] at CR
            have hr : E = 0 := by rw [← hE]; unfold tkE; rw [hf, h2, ho, hq, hx]; rfl
            go_enter Tryz.func13, Tryz.ntmps13
            go_wp2_with fail
            refine region_cutP ?_
            refine wp_region_held_drew (S := KS w a Ua um uc A m c) (by kernel_rfl) JD (fun _ => ?_)
            refine wpAnyH_take (i := 0) (v := .agg #[.int .i64 a, .slice Ua um uc, .slice A m c]) rfl (by kernel_rfl) (by kernel_rfl) (by kernel_rfl) (fun _ _ _ h => nomatch h.1) (.inl ⟨by rfl, fun V hV => by have c0 := hV.k.cell 0; have c1 := hV.k.cell 1; have c2 := hV.k.cell 2; simp only [List.getElem?_toArray, List.getElem?_cons_zero, List.getElem?_cons_succ] at c0 c1 c2; go_simp⟩) JD ?_
            try simp only [Act.put, qA, qB, qC, qD, qE, qF]
            refine wpAnyH_ready (rs := [1]) (by kernel_rfl) (by simp) ?_
            refine AllReadyH.cons rfl (fun K hK => ?_) AllReadyH.nil
            try simp only [Act.put, qA, qB, qC, qD, qE, qF]
            go_simp
            refine (CF.out _ JD.b).mono ?_
            rintro e w1 ⟨rfl, b1⟩
            have JD1 := JD.step b1
            refine hK.out _ _ JD1 (fun _ => ?_)
            clear hK K
            try simp only [Act.put, qA, qB, qC, qD, qE, qF]
            refine wpAnyH_take (i := 2) (v := .bool false) rfl (by kernel_rfl) (by kernel_rfl) (by kernel_rfl) (fun _ _ _ h => nomatch h.1) (.inl ⟨by rfl, fun V hV => by go_simp⟩) JD1 ?_
            try simp only [Act.put, qA, qB, qC, qD, qE, qF]
            refine wpAnyH_take (i := 3) (v := .bool false) rfl (by kernel_rfl) (by kernel_rfl) (by kernel_rfl) (fun _ _ _ h => nomatch h.1) (.inl ⟨by rfl, fun V hV => by go_simp⟩) JD1 ?_
            try simp only [Act.put, qA, qB, qC, qD, qE, qF]
            refine wpAnyH_take (i := 4) (v := .pointer (some ⟨w.heap.size, 0, none⟩)) rfl (by kernel_rfl) (by kernel_rfl) (by kernel_rfl) (fun _ _ _ h => nomatch h.1) (.inl ⟨by rfl, fun V hV => by go_simp⟩) JD1 ?_
            try simp only [Act.put, qA, qB, qC, qD, qE, qF]
            refine wpAnyH_take (i := 5) (v := .agg #[.int .i64 a, .slice Ua um uc]) rfl (by kernel_rfl) (by kernel_rfl) (by kernel_rfl) (fun _ _ _ h => nomatch h.1) (.inl ⟨by rfl, fun V hV => by have c0 := hV.k.cell 0; have c1 := hV.k.cell 1; have c2 := hV.k.cell 2; simp only [List.getElem?_toArray, List.getElem?_cons_zero, List.getElem?_cons_succ] at c0 c1 c2; go_simp⟩) JD1 ?_
            try simp only [Act.put, qA, qB, qC, qD, qE, qF]
            refine wpAnyH_ready (rs := [6]) (by kernel_rfl) (by simp) ?_
            refine AllReadyH.cons rfl (fun K hK => ?_) AllReadyH.nil
            try simp only [Act.put, qA, qB, qC, qD, qE, qF]
            go_simp
            refine (CP.out _ JD1.b).mono ?_
            rintro e w2 ⟨rfl, b2⟩
            have JD2 := JD1.step b2
            refine hK.out _ _ JD2 (fun _ => ?_)
            clear hK K
            try simp only [Act.put, qA, qB, qC, qD, qE, qF]
            refine wpAnyH_take (i := 7) (v := .bool false) rfl (by kernel_rfl) (by kernel_rfl) (by kernel_rfl) (fun _ _ _ h => nomatch h.1) (.inl ⟨by rfl, fun V hV => by go_simp⟩) JD2 ?_
            try simp only [Act.put, qA, qB, qC, qD, qE, qF]
            refine wpAnyH_take (i := 8) (v := .bool false) rfl (by kernel_rfl) (by kernel_rfl) (by kernel_rfl) (fun _ _ _ h => nomatch h.1) (.inl ⟨by rfl, fun V hV => by go_simp⟩) JD2 ?_
            try simp only [Act.put, qA, qB, qC, qD, qE, qF]
            refine wpAnyH_take (i := 9) (v := .bool false) rfl (by kernel_rfl) (by kernel_rfl) (by kernel_rfl) (fun _ _ _ h => nomatch h.1) (.inl ⟨by rfl, fun V hV => by go_simp⟩) JD2 ?_
            try simp only [Act.put, qA, qB, qC, qD, qE, qF]
            refine wpAnyH_take (i := 10) (v := .agg #[.int .i64 a, .slice Ua um uc, .slice A m c]) rfl (by kernel_rfl) (by kernel_rfl) (by kernel_rfl) (fun _ _ _ h => nomatch h.1) (.inl ⟨by rfl, fun V hV => by have c0 := hV.k.cell 0; have c1 := hV.k.cell 1; have c2 := hV.k.cell 2; simp only [List.getElem?_toArray, List.getElem?_cons_zero, List.getElem?_cons_succ] at c0 c1 c2; go_simp⟩) JD2 ?_
            try simp only [Act.put, qA, qB, qC, qD, qE, qF]
            refine wpAnyH_ready (rs := [11]) (by kernel_rfl) (by simp) ?_
            refine AllReadyH.cons rfl (fun K hK => ?_) AllReadyH.nil
            try simp only [Act.put, qA, qB, qC, qD, qE, qF]
            go_simp
            refine (CO.out hm1 _ JD2.b).mono ?_
            rintro e w3 ⟨rfl, b3⟩
            have JD3 := JD2.step b3
            refine hK.out _ _ JD3 (fun _ => ?_)
            clear hK K
            try simp only [Act.put, qA, qB, qC, qD, qE, qF]
            refine wpAnyH_take (i := 12) (v := .bool false) rfl (by kernel_rfl) (by kernel_rfl) (by kernel_rfl) (fun _ _ _ h => nomatch h.1) (.inl ⟨by rfl, fun V hV => by go_simp⟩) JD3 ?_
            try simp only [Act.put, qA, qB, qC, qD, qE, qF]
            refine wpAnyH_take (i := 13) (v := .bool false) rfl (by kernel_rfl) (by kernel_rfl) (by kernel_rfl) (fun _ _ _ h => nomatch h.1) (.inl ⟨by rfl, fun V hV => by go_simp⟩) JD3 ?_
            try simp only [Act.put, qA, qB, qC, qD, qE, qF]
            refine wpAnyH_take (i := 14) (v := .bool false) rfl (by kernel_rfl) (by kernel_rfl) (by kernel_rfl) (fun _ _ _ h => nomatch h.1) (.inl ⟨by rfl, fun V hV => by go_simp⟩) JD3 ?_
            try simp only [Act.put, qA, qB, qC, qD, qE, qF]
            refine wpAnyH_take (i := 15) (v := .pointer (some ⟨w.heap.size, 0, none⟩)) rfl (by kernel_rfl) (by kernel_rfl) (by kernel_rfl) (fun _ _ _ h => nomatch h.1) (.inl ⟨by rfl, fun V hV => by go_simp⟩) JD3 ?_
            try simp only [Act.put, qA, qB, qC, qD, qE, qF]
            refine wpAnyH_take (i := 16) (v := .pointer (some ⟨w.heap.size, 1, none⟩)) rfl (by kernel_rfl) (by kernel_rfl) (by kernel_rfl) (fun _ _ _ h => nomatch h.1) (.inl ⟨by rfl, fun V hV => by go_simp⟩) JD3 ?_
            try simp only [Act.put, qA, qB, qC, qD, qE, qF]
            refine wpAnyH_take (i := 17) (v := .slice Ua um uc) rfl (by kernel_rfl) (by kernel_rfl) (by kernel_rfl) (fun _ _ _ h => nomatch h.1) (.inl ⟨by rfl, fun V hV => by have c0 := hV.k.cell 0; have c1 := hV.k.cell 1; have c2 := hV.k.cell 2; simp only [List.getElem?_toArray, List.getElem?_cons_zero, List.getElem?_cons_succ] at c0 c1 c2; go_simp⟩) JD3 ?_
            try simp only [Act.put, qA, qB, qC, qD, qE, qF]
            refine wpAnyH_take (i := 18) (v := .agg #[.int .i64 a, .slice Ua um uc, .slice A m c]) rfl (by kernel_rfl) (by kernel_rfl) (by kernel_rfl) (fun _ _ _ h => nomatch h.1) (.inl ⟨by rfl, fun V hV => by have c0 := hV.k.cell 0; have c1 := hV.k.cell 1; have c2 := hV.k.cell 2; simp only [List.getElem?_toArray, List.getElem?_cons_zero, List.getElem?_cons_succ] at c0 c1 c2; go_simp⟩) JD3 ?_
            try simp only [Act.put, qA, qB, qC, qD, qE, qF]
            refine wpAnyH_ready (rs := [19]) (by kernel_rfl) (by simp) ?_
            refine AllReadyH.cons rfl (fun K hK => ?_) AllReadyH.nil
            try simp only [Act.put, qA, qB, qC, qD, qE, qF]
            go_simp
            refine (CI.out hm1 hn1 _ JD3.b).mono ?_
            rintro e w4 ⟨G, gm, gc, rfl, z4, b4⟩
            have JD4 := JD3.step b4
            refine hK.out _ _ JD4 (fun _ => ?_)
            clear hK K
            try simp only [Act.put, qA, qB, qC, qD, qE, qF]
            refine wpAnyH_ready (rs := [20]) (by kernel_rfl) (by simp) ?_
            refine AllReadyH.cons rfl (fun K hK => ?_) AllReadyH.nil
            try simp only [Act.put, qA, qB, qC, qD, qE, qF]
            go_simp
            refine (CE.out _ JD4.b _ G gm gc z4).mono ?_
            rintro e w5 ⟨rfl, b5⟩
            have JD5 := JD4.step b5
            refine hK.out _ _ JD5 (fun _ => ?_)
            clear hK K
            try simp only [Act.put, qA, qB, qC, qD, qE, qF]
            refine wpAnyH_take (i := 21) (v := .bool false) rfl (by kernel_rfl) (by kernel_rfl) (by kernel_rfl) (fun _ _ _ h => nomatch h.1) (.inl ⟨by rfl, fun V hV => by go_simp⟩) JD5 ?_
            try simp only [Act.put, qA, qB, qC, qD, qE, qF]
            refine wpAnyH_take (i := 22) (v := .bool false) rfl (by kernel_rfl) (by kernel_rfl) (by kernel_rfl) (fun _ _ _ h => nomatch h.1) (.inl ⟨by rfl, fun V hV => by go_simp⟩) JD5 ?_
            try simp only [Act.put, qA, qB, qC, qD, qE, qF]
            refine wpAnyH_take (i := 23) (v := .bool false) rfl (by kernel_rfl) (by kernel_rfl) (by kernel_rfl) (fun _ _ _ h => nomatch h.1) (.inl ⟨by rfl, fun V hV => by go_simp⟩) JD5 ?_
            try simp only [Act.put, qA, qB, qC, qD, qE, qF]
            refine wpAnyH_take (i := 24) (v := .agg #[.int .i64 a, .slice Ua um uc, .slice A m c]) rfl (by kernel_rfl) (by kernel_rfl) (by kernel_rfl) (fun _ _ _ h => nomatch h.1) (.inl ⟨by rfl, fun V hV => by have c0 := hV.k.cell 0; have c1 := hV.k.cell 1; have c2 := hV.k.cell 2; simp only [List.getElem?_toArray, List.getElem?_cons_zero, List.getElem?_cons_succ] at c0 c1 c2; go_simp⟩) JD5 ?_
            try simp only [Act.put, qA, qB, qC, qD, qE, qF]
            refine wpAnyH_ready (rs := [25]) (by kernel_rfl) (by simp) ?_
            refine AllReadyH.cons rfl (fun K hK => ?_) AllReadyH.nil
            try simp only [Act.put, qA, qB, qC, qD, qE, qF]
            go_simp
            refine (CR.out hup _ JD5.b).mono ?_
            rintro e w6 ⟨rfl, b6⟩
            have JD6 := JD5.step b6
            refine hK.out _ _ JD6 (fun _ => ?_)
            clear hK K
            try simp only [Act.put, qA, qB, qC, qD, qE, qF]
            refine wpAnyH_take (i := 26) (v := .bool false) rfl (by kernel_rfl) (by kernel_rfl) (by kernel_rfl) (fun _ _ _ h => nomatch h.1) (.inl ⟨by rfl, fun V hV => by go_simp⟩) JD6 ?_
            try simp only [Act.put, qA, qB, qC, qD, qE, qF]
            refine wpAnyH_take (i := 27) (v := .bool false) rfl (by kernel_rfl) (by kernel_rfl) (by kernel_rfl) (fun _ _ _ h => nomatch h.1) (.inl ⟨by rfl, fun V hV => by go_simp⟩) JD6 ?_
            try simp only [Act.put, qA, qB, qC, qD, qE, qF]
            refine wpAnyH_done (by kernel_rfl) ?_ _
            refine ⟨rfl, ?_⟩
            have bz := JD6.b
            clear JD6 JD5 JD4 JD3 JD2 JD1 JD
            go_wp2_with fail
            go_ret
            exact ⟨by rw [hr]; rfl, bz⟩
          · rw [hx] at CR
            have hr : E = 220 := by rw [← hE]; unfold tkE; rw [hf, h2, ho, hq, hx]; rfl
            go_enter Tryz.func13, Tryz.ntmps13
            go_wp2_with fail
            refine region_cutP ?_
            refine wp_region_held_drew (S := KS w a Ua um uc A m c) (by kernel_rfl) JD (fun _ => ?_)
            refine wpAnyH_take (i := 0) (v := .agg #[.int .i64 a, .slice Ua um uc, .slice A m c]) rfl (by kernel_rfl) (by kernel_rfl) (by kernel_rfl) (fun _ _ _ h => nomatch h.1) (.inl ⟨by rfl, fun V hV => by have c0 := hV.k.cell 0; have c1 := hV.k.cell 1; have c2 := hV.k.cell 2; simp only [List.getElem?_toArray, List.getElem?_cons_zero, List.getElem?_cons_succ] at c0 c1 c2; go_simp⟩) JD ?_
            try simp only [Act.put, qA, qB, qC, qD, qE, qF]
            refine wpAnyH_ready (rs := [1]) (by kernel_rfl) (by simp) ?_
            refine AllReadyH.cons rfl (fun K hK => ?_) AllReadyH.nil
            try simp only [Act.put, qA, qB, qC, qD, qE, qF]
            go_simp
            refine (CF.out _ JD.b).mono ?_
            rintro e w1 ⟨rfl, b1⟩
            have JD1 := JD.step b1
            refine hK.out _ _ JD1 (fun _ => ?_)
            clear hK K
            try simp only [Act.put, qA, qB, qC, qD, qE, qF]
            refine wpAnyH_take (i := 2) (v := .bool false) rfl (by kernel_rfl) (by kernel_rfl) (by kernel_rfl) (fun _ _ _ h => nomatch h.1) (.inl ⟨by rfl, fun V hV => by go_simp⟩) JD1 ?_
            try simp only [Act.put, qA, qB, qC, qD, qE, qF]
            refine wpAnyH_take (i := 3) (v := .bool false) rfl (by kernel_rfl) (by kernel_rfl) (by kernel_rfl) (fun _ _ _ h => nomatch h.1) (.inl ⟨by rfl, fun V hV => by go_simp⟩) JD1 ?_
            try simp only [Act.put, qA, qB, qC, qD, qE, qF]
            refine wpAnyH_take (i := 4) (v := .pointer (some ⟨w.heap.size, 0, none⟩)) rfl (by kernel_rfl) (by kernel_rfl) (by kernel_rfl) (fun _ _ _ h => nomatch h.1) (.inl ⟨by rfl, fun V hV => by go_simp⟩) JD1 ?_
            try simp only [Act.put, qA, qB, qC, qD, qE, qF]
            refine wpAnyH_take (i := 5) (v := .agg #[.int .i64 a, .slice Ua um uc]) rfl (by kernel_rfl) (by kernel_rfl) (by kernel_rfl) (fun _ _ _ h => nomatch h.1) (.inl ⟨by rfl, fun V hV => by have c0 := hV.k.cell 0; have c1 := hV.k.cell 1; have c2 := hV.k.cell 2; simp only [List.getElem?_toArray, List.getElem?_cons_zero, List.getElem?_cons_succ] at c0 c1 c2; go_simp⟩) JD1 ?_
            try simp only [Act.put, qA, qB, qC, qD, qE, qF]
            refine wpAnyH_ready (rs := [6]) (by kernel_rfl) (by simp) ?_
            refine AllReadyH.cons rfl (fun K hK => ?_) AllReadyH.nil
            try simp only [Act.put, qA, qB, qC, qD, qE, qF]
            go_simp
            refine (CP.out _ JD1.b).mono ?_
            rintro e w2 ⟨rfl, b2⟩
            have JD2 := JD1.step b2
            refine hK.out _ _ JD2 (fun _ => ?_)
            clear hK K
            try simp only [Act.put, qA, qB, qC, qD, qE, qF]
            refine wpAnyH_take (i := 7) (v := .bool false) rfl (by kernel_rfl) (by kernel_rfl) (by kernel_rfl) (fun _ _ _ h => nomatch h.1) (.inl ⟨by rfl, fun V hV => by go_simp⟩) JD2 ?_
            try simp only [Act.put, qA, qB, qC, qD, qE, qF]
            refine wpAnyH_take (i := 8) (v := .bool false) rfl (by kernel_rfl) (by kernel_rfl) (by kernel_rfl) (fun _ _ _ h => nomatch h.1) (.inl ⟨by rfl, fun V hV => by go_simp⟩) JD2 ?_
            try simp only [Act.put, qA, qB, qC, qD, qE, qF]
            refine wpAnyH_take (i := 9) (v := .bool false) rfl (by kernel_rfl) (by kernel_rfl) (by kernel_rfl) (fun _ _ _ h => nomatch h.1) (.inl ⟨by rfl, fun V hV => by go_simp⟩) JD2 ?_
            try simp only [Act.put, qA, qB, qC, qD, qE, qF]
            refine wpAnyH_take (i := 10) (v := .agg #[.int .i64 a, .slice Ua um uc, .slice A m c]) rfl (by kernel_rfl) (by kernel_rfl) (by kernel_rfl) (fun _ _ _ h => nomatch h.1) (.inl ⟨by rfl, fun V hV => by have c0 := hV.k.cell 0; have c1 := hV.k.cell 1; have c2 := hV.k.cell 2; simp only [List.getElem?_toArray, List.getElem?_cons_zero, List.getElem?_cons_succ] at c0 c1 c2; go_simp⟩) JD2 ?_
            try simp only [Act.put, qA, qB, qC, qD, qE, qF]
            refine wpAnyH_ready (rs := [11]) (by kernel_rfl) (by simp) ?_
            refine AllReadyH.cons rfl (fun K hK => ?_) AllReadyH.nil
            try simp only [Act.put, qA, qB, qC, qD, qE, qF]
            go_simp
            refine (CO.out hm1 _ JD2.b).mono ?_
            rintro e w3 ⟨rfl, b3⟩
            have JD3 := JD2.step b3
            refine hK.out _ _ JD3 (fun _ => ?_)
            clear hK K
            try simp only [Act.put, qA, qB, qC, qD, qE, qF]
            refine wpAnyH_take (i := 12) (v := .bool false) rfl (by kernel_rfl) (by kernel_rfl) (by kernel_rfl) (fun _ _ _ h => nomatch h.1) (.inl ⟨by rfl, fun V hV => by go_simp⟩) JD3 ?_
            try simp only [Act.put, qA, qB, qC, qD, qE, qF]
            refine wpAnyH_take (i := 13) (v := .bool false) rfl (by kernel_rfl) (by kernel_rfl) (by kernel_rfl) (fun _ _ _ h => nomatch h.1) (.inl ⟨by rfl, fun V hV => by go_simp⟩) JD3 ?_
            try simp only [Act.put, qA, qB, qC, qD, qE, qF]
            refine wpAnyH_take (i := 14) (v := .bool false) rfl (by kernel_rfl) (by kernel_rfl) (by kernel_rfl) (fun _ _ _ h => nomatch h.1) (.inl ⟨by rfl, fun V hV => by go_simp⟩) JD3 ?_
            try simp only [Act.put, qA, qB, qC, qD, qE, qF]
            refine wpAnyH_take (i := 15) (v := .pointer (some ⟨w.heap.size, 0, none⟩)) rfl (by kernel_rfl) (by kernel_rfl) (by kernel_rfl) (fun _ _ _ h => nomatch h.1) (.inl ⟨by rfl, fun V hV => by go_simp⟩) JD3 ?_
            try simp only [Act.put, qA, qB, qC, qD, qE, qF]
            refine wpAnyH_take (i := 16) (v := .pointer (some ⟨w.heap.size, 1, none⟩)) rfl (by kernel_rfl) (by kernel_rfl) (by kernel_rfl) (fun _ _ _ h => nomatch h.1) (.inl ⟨by rfl, fun V hV => by go_simp⟩) JD3 ?_
            try simp only [Act.put, qA, qB, qC, qD, qE, qF]
            refine wpAnyH_take (i := 17) (v := .slice Ua um uc) rfl (by kernel_rfl) (by kernel_rfl) (by kernel_rfl) (fun _ _ _ h => nomatch h.1) (.inl ⟨by rfl, fun V hV => by have c0 := hV.k.cell 0; have c1 := hV.k.cell 1; have c2 := hV.k.cell 2; simp only [List.getElem?_toArray, List.getElem?_cons_zero, List.getElem?_cons_succ] at c0 c1 c2; go_simp⟩) JD3 ?_
            try simp only [Act.put, qA, qB, qC, qD, qE, qF]
            refine wpAnyH_take (i := 18) (v := .agg #[.int .i64 a, .slice Ua um uc, .slice A m c]) rfl (by kernel_rfl) (by kernel_rfl) (by kernel_rfl) (fun _ _ _ h => nomatch h.1) (.inl ⟨by rfl, fun V hV => by have c0 := hV.k.cell 0; have c1 := hV.k.cell 1; have c2 := hV.k.cell 2; simp only [List.getElem?_toArray, List.getElem?_cons_zero, List.getElem?_cons_succ] at c0 c1 c2; go_simp⟩) JD3 ?_
            try simp only [Act.put, qA, qB, qC, qD, qE, qF]
            refine wpAnyH_ready (rs := [19]) (by kernel_rfl) (by simp) ?_
            refine AllReadyH.cons rfl (fun K hK => ?_) AllReadyH.nil
            try simp only [Act.put, qA, qB, qC, qD, qE, qF]
            go_simp
            refine (CI.out hm1 hn1 _ JD3.b).mono ?_
            rintro e w4 ⟨G, gm, gc, rfl, z4, b4⟩
            have JD4 := JD3.step b4
            refine hK.out _ _ JD4 (fun _ => ?_)
            clear hK K
            try simp only [Act.put, qA, qB, qC, qD, qE, qF]
            refine wpAnyH_ready (rs := [20]) (by kernel_rfl) (by simp) ?_
            refine AllReadyH.cons rfl (fun K hK => ?_) AllReadyH.nil
            try simp only [Act.put, qA, qB, qC, qD, qE, qF]
            go_simp
            refine (CE.out _ JD4.b _ G gm gc z4).mono ?_
            rintro e w5 ⟨rfl, b5⟩
            have JD5 := JD4.step b5
            refine hK.out _ _ JD5 (fun _ => ?_)
            clear hK K
            try simp only [Act.put, qA, qB, qC, qD, qE, qF]
            refine wpAnyH_take (i := 21) (v := .bool false) rfl (by kernel_rfl) (by kernel_rfl) (by kernel_rfl) (fun _ _ _ h => nomatch h.1) (.inl ⟨by rfl, fun V hV => by go_simp⟩) JD5 ?_
            try simp only [Act.put, qA, qB, qC, qD, qE, qF]
            refine wpAnyH_take (i := 22) (v := .bool false) rfl (by kernel_rfl) (by kernel_rfl) (by kernel_rfl) (fun _ _ _ h => nomatch h.1) (.inl ⟨by rfl, fun V hV => by go_simp⟩) JD5 ?_
            try simp only [Act.put, qA, qB, qC, qD, qE, qF]
            refine wpAnyH_take (i := 23) (v := .bool false) rfl (by kernel_rfl) (by kernel_rfl) (by kernel_rfl) (fun _ _ _ h => nomatch h.1) (.inl ⟨by rfl, fun V hV => by go_simp⟩) JD5 ?_
            try simp only [Act.put, qA, qB, qC, qD, qE, qF]
            refine wpAnyH_take (i := 24) (v := .agg #[.int .i64 a, .slice Ua um uc, .slice A m c]) rfl (by kernel_rfl) (by kernel_rfl) (by kernel_rfl) (fun _ _ _ h => nomatch h.1) (.inl ⟨by rfl, fun V hV => by have c0 := hV.k.cell 0; have c1 := hV.k.cell 1; have c2 := hV.k.cell 2; simp only [List.getElem?_toArray, List.getElem?_cons_zero, List.getElem?_cons_succ] at c0 c1 c2; go_simp⟩) JD5 ?_
            try simp only [Act.put, qA, qB, qC, qD, qE, qF]
            refine wpAnyH_ready (rs := [25]) (by kernel_rfl) (by simp) ?_
            refine AllReadyH.cons rfl (fun K hK => ?_) AllReadyH.nil
            try simp only [Act.put, qA, qB, qC, qD, qE, qF]
            go_simp
            refine (CR.out hup _ JD5.b).mono ?_
            rintro e w6 ⟨rfl, b6⟩
            have JD6 := JD5.step b6
            refine hK.out _ _ JD6 (fun _ => ?_)
            clear hK K
            try simp only [Act.put, qA, qB, qC, qD, qE, qF]
            refine wpAnyH_take (i := 26) (v := .bool true) rfl (by kernel_rfl) (by kernel_rfl) (by kernel_rfl) (fun _ _ _ h => nomatch h.1) (.inl ⟨by rfl, fun V hV => by go_simp⟩) JD6 ?_
            try simp only [Act.put, qA, qB, qC, qD, qE, qF]
            refine wpAnyH_take (i := 27) (v := .bool true) rfl (by kernel_rfl) (by kernel_rfl) (by kernel_rfl) (fun _ _ _ h => nomatch h.1) (.inl ⟨by rfl, fun V hV => by go_simp⟩) JD6 ?_
            try simp only [Act.put, qA, qB, qC, qD, qE, qF]
            refine wpAnyH_done (by kernel_rfl) ?_ _
            refine ⟨rfl, ?_⟩
            have bz := JD6.b
            clear JD6 JD5 JD4 JD3 JD2 JD1 JD
            go_wp2_with fail
            go_ret
            exact ⟨by rw [hr]; rfl, bz⟩
end Go.Proofs.YtlelhhgggnjndaaGreat
