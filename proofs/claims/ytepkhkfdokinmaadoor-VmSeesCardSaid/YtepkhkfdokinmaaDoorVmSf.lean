/-
  VmSees, walked: what a program returns hangs on those words alone that it loads on its way.
  VmSees, walked, where the program may be.
-/
import Derived.Test.YtepkhkfdokinmaaDoorVmTc
import Derived.Test.YtepkhkfdokinmaaDoorVmWk
namespace Go.Proofs.YtepkhkfdokinmaaDoor
open Go.RowKit
set_option linter.unusedVariables false

/-- The data with the word that a machine loads put in, as a has it. -/
def putC (a : Dat) (f : Nat → Ins) (c : Dat) (t : VmS) : Dat := if (f t.pc).1 = 32 then joinD ((wordsL c).set ((f t.pc).2.2.2 / 4).toNat (dW a (f t.pc).2.2.2)) else c
def loadsR (f : Nat → Ins) (t : VmS) : Prop := (f t.pc).1 = 32 → rightB (f t.pc).2.2.2 = true ∧ U32 (f t.pc).2.2.2
theorem putC_ok {a c : Dat} {f : Nat → Ins} {t : VmS} (ha : DatOk a) (hc : DatOk c) : DatOk (putC a f c t) := by
  unfold putC
  split
  · exact join_ok _ (set_U32 (words_bd c hc) _ (dW_bd a ha _))
  · exact hc
theorem putC_at {a c : Dat} {f : Nat → Ins} {t : VmS} (ha : DatOk a) (hc : DatOk c) (hr : loadsR f t) {o : Int} (ho : rightB o = true) (hu : U32 o) : dW (putC a f c t) o = if (f t.pc).1 = 32 ∧ (f t.pc).2.2.2 = o then dW a o else dW c o := by
  unfold putC
  by_cases h : (f t.pc).1 = 32
  · obtain ⟨hr1, hr2⟩ := hr h
    generalize (f t.pc).2.2.2 = u at hr1 hr2 ⊢
    obtain ⟨k, hk, ek, e4⟩ := right_parts o hu ho
    obtain ⟨j, hj, ej, e5⟩ := right_parts u hr2 hr1
    rw [if_pos h]
    have e : dW (joinD ((wordsL c).set (u / 4).toNat (dW a u))) o = ((wordsL c).set j (dW a u)).getD k 0 := by
      have hub := dW_bd a ha u
      generalize dW a u = v at hub ⊢
      unfold dW
      rw [words_join _ (by simp [words_len]) (set_U32 (words_bd c hc) _ hub), ek, ej]
      rfl
    rw [e]
    have ec : dW c o = (wordsL c).getD k 0 := by unfold dW; rw [ek]; rfl
    by_cases huo : u = o
    · subst huo
      rw [if_pos ⟨h, rfl⟩]
      have hkj : k = j := by omega
      subst hkj
      simp [List.getD, words_len, hk]
    · rw [if_neg (fun x => huo x.2), ec]
      have hkj : j ≠ k := by omega
      simp [List.getD, List.getElem?_set_ne hkj]
  · rw [if_neg h, if_neg (fun x => h x.1)]
theorem putC_all {a : Dat} {f : Nat → Ins} (ha : DatOk a) {o : Int} (ho : rightB o = true) (hu : U32 o) : ∀ (L : List VmS) (c : Dat), DatOk c → (∀ t ∈ L, loadsR f t) → ((∃ t ∈ L, (f t.pc).1 = 32 ∧ (f t.pc).2.2.2 = o) ∨ dW c o = dW a o) → dW (L.foldl (putC a f) c) o = dW a o := by
  intro L
  induction L with
  | nil => intro c _ _ h; rcases h with ⟨t, ht, _⟩ | h; exact absurd ht (by simp); exact h
  | cons t L ih =>
    intro c hc hl h
    rw [List.foldl_cons]
    refine ih _ (putC_ok ha hc) (fun x hx => hl x (by simp [hx])) ?_
    by_cases hx : ∃ x ∈ L, (f x.pc).1 = 32 ∧ (f x.pc).2.2.2 = o
    · exact .inl hx
    · right
      rw [putC_at ha hc (hl t (by simp)) ho hu]
      by_cases ht : (f t.pc).1 = 32 ∧ (f t.pc).2.2.2 = o
      · rw [if_pos ht]
      · rw [if_neg ht]
        rcases h with ⟨x, hx', hx2⟩ | h
        · rcases List.mem_cons.1 hx' with rfl | hx'
          · exact absurd hx2 ht
          · exact absurd ⟨x, hx', hx2⟩ hx
        · exact h
theorem fold_ok {a : Dat} {f : Nat → Ins} (ha : DatOk a) : ∀ (L : List VmS) (c : Dat), DatOk c → DatOk (L.foldl (putC a f) c) := by
  intro L
  induction L with
  | nil => intro c hc; exact hc
  | cons t L ih => intro c hc; exact ih _ (putC_ok ha hc)
theorem tra_run (f : Nat → Ins) (d : Int → Int) (n : Nat) : traV f d n = (runV alI hdI f d n vm0).1 := by
  unfold traV allV restV
  rw [pair_fst]
  rfl
/-- Where a run comes, it is within. -/
theorem tra_in {f : Nat → Ins} {d : Int → Int} {n : Nat} (hM : May f n) (ho : ∀ i, i < n → insO (f i)) : ∀ t ∈ traV f d n, t.pc < n := by
  intro t ht
  rw [tra_run] at ht
  have hG := may_goes hM ho
  have h1 : stepsI f n 0 ≤ n := by
    have h := most_reach hG
    rw [most_steps] at h
    omega
  obtain ⟨r, _, _, _, _, h5⟩ := run_ends (al := alI) (hd := hdI) hM ho d n vm0 (by have := hM.lo; exact this) h1
  exact (h5 t ht).2
theorem ret_run {f : Nat → Ins} {d : Int → Int} {n : Nat} (hM : May f n) (ho : ∀ i, i < n → insO (f i)) : (runV alI hdI f d n vm0).2 = some (retV f d n) := by
  have hG := may_goes hM ho
  have h1 : stepsI f n 0 ≤ n := by
    have h := most_reach hG
    rw [most_steps] at h
    omega
  obtain ⟨r, h, _⟩ := run_ends (al := alI) (hd := hdI) hM ho d n vm0 (by have := hM.lo; exact this) h1
  rw [h]
  have := (pair_last n vm0 h).1
  unfold retV allV restV
  rw [show n - vm0.pc = n from rfl, this]
theorem loads_right {f : Nat → Ins} {n : Nat} (hM : May f n) (ho : ∀ i, i < n → insO (f i)) {t : VmS} (ht : t.pc < n) : loadsR f t := fun h32 => by
  have h1 := hM.one t.pc ht
  have h2 := ho t.pc ht
  unfold oneAt at h1
  generalize f t.pc = q at *
  obtain ⟨c, y, z, k⟩ := q
  simp only at h32
  subst h32
  exact ⟨one_word h1, h2.k0, h2.k1⟩
theorem run_16 {f : Nat → Ins} {n : Nat} (hM : May f n) (ho : ∀ i, i < n → insO (f i)) {d : Dat} (hd : DatOk d) : ∀ (k : Nat) (s : VmS), s.pc < n → VmOk s → ∀ t ∈ (runV alI hdI f (dW d) k s).1, VmOk t := by
  intro k
  induction k with
  | zero => intro s _ _ t ht; simp [runV] at ht
  | succ k ih =>
    intro s hs hok t ht
    simp only [runV] at ht
    cases hst : stepV alI hdI (f s.pc) (dW d) s with
    | mk r s' =>
      rw [hst] at ht
      cases r with
      | some r => simp only [List.mem_singleton] at ht; rw [ht]; exact hok
      | none =>
        rcases List.mem_cons.1 ht with rfl | ht
        · exact hok
        · exact ih s' (step_fwd hM ho hs hst).2 (step_ok (ho _ hs) (fun o => dW_bd d hd o) hok hst) t ht
theorem tra_ok {f : Nat → Ins} {n : Nat} {d : Dat} (hd : DatOk d) (hM : May f n) (ho : ∀ i, i < n → insO (f i)) : ∀ t ∈ traV f (dW d) n, VmOk t := by
  rw [tra_run]
  exact run_16 hM ho hd n vm0 hM.lo vm0_ok
theorem tra_16 {f : Nat → Ins} {n : Nat} {d : Dat} (hd : DatOk d) (hM : May f n) (ho : ∀ i, i < n → insO (f i)) : ∀ t ∈ traV f (dW d) n, t.mem.length = 16 := fun t ht => (tra_ok hd hM ho t ht).len
/-- It returns the same. -/
theorem sees_same {f : Nat → Ins} {n : Nat} (hM : May f n) (ho : ∀ i, i < n → insO (f i)) {a b : Dat} (ha : DatOk a) (hb : DatOk b) : retV f (dW ((traV f (dW a) n).foldl (putC a f) b)) n = retV f (dW a) n := by
  have h := run_sees (al := alI) (hd := hdI) (f := f) (d := dW a) (d' := dW ((traV f (dW a) n).foldl (putC a f) b)) n vm0 (fun t ht h32 => by
    rw [← tra_run] at ht
    have hl := fun x (hx : x ∈ traV f (dW a) n) => loads_right hM ho (tra_in hM ho x hx)
    obtain ⟨hr, hu⟩ := hl t ht h32
    exact putC_all ha hr hu _ b hb hl (.inl ⟨t, ht, h32, rfl⟩))
  have e1 := ret_run (d := dW ((traV f (dW a) n).foldl (putC a f) b)) hM ho
  have e2 := ret_run (d := dW a) hM ho
  rw [h, e2] at e1
  injection e1 with e1
  exact e1.symm

set_option maxRecDepth 100000 in
set_option maxHeartbeats 2000000 in
theorem sees_big (A : Option Addr) (l cap : Nat) (a b : Dat) (w : World) (hK : Kinds w) (hbig : 300 < l) :
    Calls Tryd.prog 7 #[.slice A l cap, datV a, datV b] w fun e w' => e = .returned (.bool true) ∧ Below w.heap.size w w' := by
  have hb' : (300 : Int) < l := by omega
  have B0 := ((Below.refl w.heap.size w).alloc (Nat.le_refl _) (.cells (datC a) 32)).alloc (by simp) (.cells (datC b) 32)
  have W5 := wakes5_any _ (hK.below B0 hK.pos)
  unfold datV
  go_enter Tryd.func7, Tryd.ntmps7
  go_wp2_with fail
  refine W5.mono ?_
  rintro e w1 ⟨rfl, b1⟩
  go_wp2_with fail
  go_ret
  exact ⟨rfl, B0.trans (b1.mono (by simp; omega))⟩

set_option maxRecDepth 100000 in
set_option maxHeartbeats 4000000 in
theorem sees_no (A : Option Addr) (l cap : Nat) (f : Nat → Ins) (a b : Dat) (w : World) (hK : Kinds w) (hA : Ri w w.heap.size A l f) (hl : l ≤ 300) (r1 r2 : Int) (hr : chkI f l = (r1, r2)) (h0 : ¬ r2 = 0) :
    Calls Tryd.prog 7 #[.slice A l cap, datV a, datV b] w fun e w' => e = .returned (.bool true) ∧ Below w.heap.size w w' := by
  have hb' : ¬ (300 : Int) < l := by omega
  have B0 := ((Below.refl w.heap.size w).alloc (Nat.le_refl _) (.cells (datC a) 32)).alloc (by simp) (.cells (datC b) 32)
  have W5 := wakes5_any _ (hK.below B0 hK.pos)
  have ka := (Blk.new w (datC a) 32).alloc (.cells (datC b) 32)
  have T := fun V hK hA => trace_no A l cap f a V hK hA r1 r2 hr h0
  unfold datV at T ⊢
  go_enter Tryd.func7, Tryd.ntmps7
  go_wp2_with fail
  refine W5.mono ?_
  rintro e w1 ⟨rfl, b1⟩
  have B1 := B0.trans (b1.mono (by simp; omega))
  have ka1 := ka.below b1 ka.lt
  clear W5 b1
  go_wp2_with (refine wpList_load_row rfl 32 (.tmp 4) rfl w.heap.size rfl 32 (datC a) (0, 0) _ ka1.blk Tryd.underlying32 rfl dat_info ?_)
  refine (T w1 (hK.below B1 hK.pos) ((hA.below B1 (Nat.le_refl _)).more B1.size)).mono ?_
  rintro e w2 ⟨rfl, b2⟩
  go_wp2_with fail
  go_ret
  exact ⟨rfl, B1.trans (b2.mono B1.size)⟩

open Go.RowKit
set_option linter.unusedVariables false

/-- What the loop of VmSees has: all as it was, and the data as far as it has come. -/
structure SI (w2 V : World) (ga gc : Nat) (a c : Dat) : Prop where
  bel : Below w2.heap.size w2 V
  ka : Blk V ga (datC a) 32
  kc : Blk V gc (datC c) 32
section
variable {w2 V V' : World} {ga gc : Nat} {a c c' : Dat}
theorem SI.below (h : SI w2 V ga gc a c) (hb : Below V.heap.size V V') : SI w2 V' ga gc a c := ⟨h.bel.trans (hb.mono h.bel.size), h.ka.below hb h.ka.lt, h.kc.below hb h.kc.lt⟩
end
theorem vm_linf {s : VmS} (h : s.mem.length = 16) : (Tryd.prog.info? 35).map (·.size) = some (vmC s).toList.length := by rw [vmC_len h]; exact vm_info19
theorem cel_all (q : Ins) : (celI q).toArray.all (·.oneCell') = true := by simp [celI, Value.oneCell']
theorem run_len (f : Nat → Ins) (d : Int → Int) : ∀ (k : Nat) (s : VmS), (runV alI hdI f d k s).1.length ≤ k := by
  intro k
  induction k with
  | zero => intro s; simp [runV]
  | succ k ih =>
    intro s
    simp only [runV]
    cases hst : stepV alI hdI (f s.pc) d s with
    | mk r s' =>
      cases r with
      | some r => simp
      | none => simpa using ih s'
theorem traV_le (f : Nat → Ins) (d : Int → Int) (n : Nat) : (traV f d n).length ≤ n := by rw [tra_run]; exact run_len f d n vm0
set_option maxRecDepth 100000 in
set_option maxHeartbeats 8000000 in
theorem sees_ok (A : Option Addr) (l cap : Nat) (f : Nat → Ins) (a b : Dat) (ha : DatOk a) (hb : DatOk b) (w : World) (hK : Kinds w) (hA : Ri w w.heap.size A l f) (hc : l ≤ cap) (hM : May f l) :
    Calls Tryd.prog 7 #[.slice A l cap, datV a, datV b] w fun e w' => e = .returned (.bool true) ∧ Below w.heap.size w w' := by
  have hm64 := hM.hi
  have hb' : ¬ (300 : Int) < l := by omega
  have hio := hA.ok
  have B0 := ((Below.refl w.heap.size w).alloc (Nat.le_refl _) (.cells (datC a) 32)).alloc (by simp) (.cells (datC b) 32)
  have W5 := wakes5_any _ (hK.below B0 hK.pos)
  have ka := (Blk.new w (datC a) 32).alloc (.cells (datC b) 32)
  have kb := Blk.new_ (w.alloc (.cells (datC a) 32)) (datC b) 32 (n := w.heap.size + 1) (by simp)
  have T := fun V hK hA => trace_ok A l cap f a ha V hK hA hc hM
  have RA := Lib.hid (fun V hK hA => run_ok A l cap f a ha V hK hA hc hM)
  have RC := Lib.hid (fun c (hc' : DatOk c) V hK hA => run_ok A l cap f c hc' V hK hA hc hM)
  have hin := Lib.hid (tra_in (d := dW a) hM hio)
  have hld := Lib.hid (fun t (ht : t.pc < l) => loads_right hM hio (t := t) ht)
  have hsm := Lib.hid (sees_same hM hio ha hb)
  have hmem16 := Lib.hid (tra_16 (d := a) ha hM hio)
  have hLl := traV_le f (dW a) l
  generalize traV f (dW a) l = L at T hin hsm hmem16 hLl
  obtain ⟨n, hn⟩ : ∃ n, L.length = n := ⟨_, rfl⟩
  rw [hn] at T hLl
  have HN := Lib.hid hn
  clear hn
  unfold datV at T ⊢
  go_enter Tryd.func7, Tryd.ntmps7
  go_wp2_with fail
  refine W5.mono ?_
  rintro e w1 ⟨rfl, b1⟩
  have B1 := B0.trans (b1.mono (by simp; omega))
  replace ka := ka.below b1 ka.lt
  replace kb := kb.below b1 kb.lt
  have K1 := hK.below B1 hK.pos
  have A1 := (hA.below B1 (Nat.le_refl _)).more B1.size
  clear W5 b1
  go_wp2_with (refine wpList_load_row rfl 32 (.tmp 4) rfl w.heap.size rfl 32 (datC a) (0, 0) _ ka.blk Tryd.underlying32 rfl dat_info ?_)
  refine (T w1 K1 A1).mono ?_
  rintro e w2 ⟨A', c', rfl, hc', hR, b2⟩
  have B2 := B1.trans (b2.mono B1.size)
  replace ka := ka.below b2 ka.lt
  replace kb := kb.below b2 kb.lt
  have K2 := hK.below B2 hK.pos
  have A2 := (hA.below B2 (Nat.le_refl _)).more B2.size
  clear T K1 A1 B1 b2
  go_wp2_with (first
    | (refine wpList_load_row rfl 32 (.tmp 5) rfl (w.heap.size + 1) rfl 32 (datC b) (0, 0) _ kb.blk Tryd.underlying32 rfl dat_info ?_)
    | (refine wpList_store_blk rfl 32 (.tmp 9) (.tmp 34) rfl w2.heap.size _ (datC b) 32 rfl rfl (Blk.new_ _ _ _ rfl) rfl dat_info (dat_one b) ?_; intro w3 hw3 hn3))
  have b3 : Below w2.heap.size w2 w3 := ((Below.refl _ w2).alloc (Nat.le_refl _) _).trans (hn3.below _ (Nat.le_refl _) (by simp))
  have S0 : SI w2 w3 w.heap.size w2.heap.size a b := ⟨b3, ka.below b3 ka.lt, hw3⟩
  have hgc : w.heap.size < w2.heap.size := ka.lt
  clear hn3 hw3 b3 kb
  try simp only [Act.put]
  go_loopw [37] (fun i wr => ∃ k : Nat, k ≤ n ∧ i = .int .i64 k ∧ SI w2 wr w.heap.size w2.heap.size a ((L.take k).foldl (putC a f) b)) (fun i _ => n - (intOf i).toNat)
  case atStart => exact ⟨0, Nat.zero_le _, rfl, S0⟩
  case round =>
    obtain ⟨k, hk, rfl, hS⟩ := hrel
    by_cases hlt : k < n
    · have hlt' : (k : Int) < n := by omega
      have hkL : k < L.length := by rw [HN.out]; exact hlt
      obtain ⟨g, off, rfl, hg, hrg⟩ := (hR.below hS.bel (Nat.le_refl _)) k hkL
      have htm : L.getD k vm0 ∈ L := by
        rw [List.getD_eq_getElem?_getD, List.getElem?_eq_getElem hkL]
        exact List.getElem_mem hkL
      have htake : L.take (k + 1) = L.take k ++ [L.getD k vm0] := by
        rw [List.take_add_one, List.getElem?_eq_getElem hkL, List.getD_eq_getElem?_getD, List.getElem?_eq_getElem hkL]
        rfl
      have hpc := hin.out _ htm
      have h16 := hmem16.out _ htm
      obtain ⟨c2, hc2⟩ : ∃ c2, (L.take (k + 1)).foldl (putC a f) b = c2 := ⟨_, rfl⟩
      have HF := show (L.take (k + 1)).foldl (putC a f) b = putC a f ((L.take k).foldl (putC a f) b) (L.getD k vm0) by rw [htake, List.foldl_append]; rfl
      rw [hc2] at HF
      replace HF := Lib.hid HF
      have HF3 := Lib.hid hc2
      clear hc2
      have hcok := fold_ok (f := f) ha (L.take k) b hb
      generalize (L.take k).foldl (putC a f) b = c at hS HF hcok
      generalize L.getD k vm0 = t at hrg hpc h16 HF
      clear htm htake hkL
      have hpc' : (t.pc : Int) < l := by omega
      have hld1 := hld.out t hpc
      obtain ⟨b', off', rfl, hbb, ⟨p0, p1, p2, p3⟩, ho⟩ := ((A2.below hS.bel (Nat.le_refl _)) t.pc hpc)
      unfold putC at HF
      unfold loadsR at hld1
      obtain ⟨⟨x, y, z, u⟩, hf⟩ : ∃ q : Ins, f t.pc = q := ⟨_, rfl⟩
      rw [hf] at p0 p1 p2 p3 ho HF hld1
      simp only at p0 p1 p2 p3 HF hld1
      clear hf
      by_cases hx : x = 32
      · subst hx
        obtain ⟨hr, hu⟩ := hld1 rfl
        obtain ⟨kk, hkk, ek, e4⟩ := right_parts u hu hr
        have WO := word_ok a ha u hu hr kk hkk ek
        have ev : dW a u = (wordsL a).getD kk 0 := by unfold dW; rw [ek]; rfl
        rw [← ev] at WO
        have hvU := dW_bd a ha u
        have HF2 := HF.out
        rw [if_pos rfl, show (u / 4).toNat = kk by omega] at HF2
        generalize dW a u = v at WO hvU HF2
        have WI := with_ok c hcok u v hu hvU hr kk hkk ek
        rw [← HF2] at WI
        unfold datV at WO WI
        clear HF HF2 ev e4 ek
        go_wp2_with (first
          | (refine wpList_load_mid rfl 35 (.tmp 39) rfl g (off + k * 19) rfl (vmC t).toList _ hrg Tryd.underlying35 rfl (vm_linf h16) ?_)
          | (refine wpList_store_blk rfl 35 (.tmp 11) (.tmp 40) rfl wr.heap.size _ (vmC t) 35 rfl rfl (Blk.new_ _ _ _ rfl) (vm_z19 h16) (mc_inf h16) mc_one ?_
             intro w4 hF4 hn4
             have b4 : Below wr.heap.size wr w4 := ((Below.refl _ wr).alloc (Nat.le_refl _) _).trans (hn4.below _ (Nat.le_refl _) (by simp))
             have S4 := hS.below b4
             have c4 := (hF4.cell 0).trans mc_0
             have hbw : b' < wr.heap.size := Nat.lt_of_lt_of_le hbb hS.bel.size
             obtain ⟨q0, q1, q2, q3⟩ := ri_at b4 hbw ⟨p0, p1, p2, p3⟩
             clear hn4 b4 hS p0 p1 p2 p3 hrg)
          | (refine wpList_store_blk rfl 54 (.tmp 12) (.tmp 45) rfl w4.heap.size _ (celI (32, y, z, u)).toArray 54 rfl rfl (Blk.new_ _ _ _ rfl) rfl (cel_inf _) (cel_all _) ?_
             intro w5 hF5 hn5
             have b5 : Below w4.heap.size w4 w5 := ((Below.refl _ w4).alloc (Nat.le_refl _) _).trans (hn5.below _ (Nat.le_refl _) (by simp))
             have S5 := S4.below b5
             have d0 : w5.cell? ⟨w4.heap.size, 0, none⟩ = some (.int .u16 32) := hF5.cell 0
             have d3 : w5.cell? ⟨w4.heap.size, 3, none⟩ = some (.int .u32 u) := hF5.cell 3
             clear hn5 b5 S4 q0 q1 q2 q3 c4 hF4)
          | (refine wpList_load_row rfl 32 (.tmp 4) rfl w.heap.size rfl 32 (datC a) (0, 0) _ S5.ka.blk Tryd.underlying32 rfl dat_info ?_))
        refine (WO _).mono ?_
        rintro e w6 ⟨rfl, b6⟩
        have S6 := S5.below b6
        have d3' := (b6.cell (p := ⟨w4.heap.size, 3, none⟩) hF5.lt).trans d3
        clear b6 S5 d0 d3
        go_wp2_with (refine wpList_load_row rfl 32 (.tmp 9) rfl w2.heap.size rfl 32 (datC c) (0, 0) _ S6.kc.blk Tryd.underlying32 rfl dat_info ?_)
        refine (WI _).mono ?_
        rintro e w7 ⟨rfl, b7⟩
        have S7 := S6.below b7
        clear b7 S6 d3'
        go_wp2_with (refine wpList_store_blk rfl 32 (.tmp 9) (.tmp 64) rfl w2.heap.size _ (datC c2) 32 rfl rfl S7.kc rfl dat_info (dat_one c2) ?_; intro w8 hF8 hn8)
        have hw8 : Below w2.heap.size w7 w8 := hn8.below _ (Nat.le_refl _) S7.bel.size
        have Sn : SI w2 w8 w.heap.size w2.heap.size a c2 := ⟨S7.bel.trans hw8, hn8.blk' S7.ka (by omega), hF8⟩
        go_wp2_with fail
        exact ⟨⟨k + 1, by omega, by go_num, by rw [HF3.out]; exact Sn⟩, by simp [intOf]; omega⟩
      · have HF2 := HF.out
        rw [if_neg hx] at HF2
        subst HF2
        clear HF hld1
        go_wp2_with (first
          | (refine wpList_load_mid rfl 35 (.tmp 39) rfl g (off + k * 19) rfl (vmC t).toList _ hrg Tryd.underlying35 rfl (vm_linf h16) ?_)
          | (refine wpList_store_blk rfl 35 (.tmp 11) (.tmp 40) rfl wr.heap.size _ (vmC t) 35 rfl rfl (Blk.new_ _ _ _ rfl) (vm_z19 h16) (mc_inf h16) mc_one ?_
             intro w4 hF4 hn4
             have b4 : Below wr.heap.size wr w4 := ((Below.refl _ wr).alloc (Nat.le_refl _) _).trans (hn4.below _ (Nat.le_refl _) (by simp))
             have S4 := hS.below b4
             have c4 := (hF4.cell 0).trans mc_0
             have hbw : b' < wr.heap.size := Nat.lt_of_lt_of_le hbb hS.bel.size
             obtain ⟨q0, q1, q2, q3⟩ := ri_at b4 hbw ⟨p0, p1, p2, p3⟩
             clear hn4 b4 hS p0 p1 p2 p3 hrg)
          | (refine wpList_store_blk rfl 54 (.tmp 12) (.tmp 45) rfl w4.heap.size _ (celI (x, y, z, u)).toArray 54 rfl rfl (Blk.new_ _ _ _ rfl) rfl (cel_inf _) (cel_all _) ?_
             intro w5 hF5 hn5
             have b5 : Below w4.heap.size w4 w5 := ((Below.refl _ w4).alloc (Nat.le_refl _) _).trans (hn5.below _ (Nat.le_refl _) (by simp))
             have S5 := S4.below b5
             have d0 : w5.cell? ⟨w4.heap.size, 0, none⟩ = some (.int .u16 x) := hF5.cell 0
             have d3 : w5.cell? ⟨w4.heap.size, 3, none⟩ = some (.int .u32 u) := hF5.cell 3
             clear hn5 b5 S4 q0 q1 q2 q3 c4 hF4))
        exact ⟨⟨k + 1, by omega, by go_num, by rw [HF3.out]; exact S5⟩, by simp [intOf]; omega⟩
    · obtain rfl : k = n := by omega
      rw [← HN.out, List.take_length] at hS
      have hcok := fold_ok (f := f) ha L b hb
      have e := hsm.out
      have R2 := RC.out _ hcok
      rw [e] at R2
      have R1 := RA.out
      generalize L.foldl (putC a f) b = c at hS hcok R2
      generalize retV f (dW a) l = v at R1 R2
      unfold datV at R1 R2
      have hx : ¬ (k : Int) < k := by omega
      have hBw := hS.bel.size
      have Bwr := B2.trans (hS.bel.mono (by omega))
      go_wp2_with (refine wpList_load_row rfl 32 (.tmp 4) rfl w.heap.size rfl 32 (datC a) (0, 0) _ hS.ka.blk Tryd.underlying32 rfl dat_info ?_)
      refine (R1 wr (hK.below Bwr hK.pos) ((hA.below Bwr (Nat.le_refl _)).more Bwr.size)).mono ?_
      rintro e w4 ⟨rfl, b4⟩
      have S4 := hS.below b4
      have Bw4 := Bwr.trans (b4.mono Bwr.size)
      go_wp2_with (refine wpList_load_row rfl 32 (.tmp 9) rfl w2.heap.size rfl 32 (datC c) (0, 0) _ S4.kc.blk Tryd.underlying32 rfl dat_info ?_)
      refine (R2 w4 (hK.below Bw4 hK.pos) ((hA.below Bw4 (Nat.le_refl _)).more Bw4.size)).mono ?_
      rintro e w5 ⟨rfl, b5⟩
      go_wp2_with fail
      go_ret
      exact ⟨rfl, Bw4.trans (b5.mono Bw4.size)⟩
theorem vmSees_any (A : Option Addr) (l cap : Nat) (f : Nat → Ins) (a b : Dat) (w : World) (hK : Kinds w) (hA : Ri w w.heap.size A l f) (hc : l ≤ cap) (ha : DatOk a) (hb : DatOk b) :
    Calls Tryd.prog 7 #[.slice A l cap, datV a, datV b] w fun e w' => e = .returned (.bool true) ∧ Below w.heap.size w w' := by
  by_cases hl : l ≤ 300
  · obtain ⟨⟨r1, r2⟩, hr⟩ : ∃ r, chkI f l = r := ⟨_, rfl⟩
    by_cases h0 : r2 = 0
    · exact sees_ok A l cap f a b ha hb w hK hA hc (may_chk (by rw [hr]; exact h0))
    · exact sees_no A l cap f a b w hK hA hl r1 r2 hr h0
  · exact sees_big A l cap a b w hK (by omega)
end Go.Proofs.YtepkhkfdokinmaaDoor
