/-
  BmM, BmS, BmF, BmG, BmH: in one file.
-/
import Derived.Test.YtelfdpcenplhjaaGreatDoorQDatN
import Derived.Test.YtelfdpcenplhjaaGreatDoorQHH
import Derived.Deep.MidRow
import Derived.ChangeKeysEq
import Derived.Test.YtelfdpcenplhjaaGreatDoorQHE
import Derived.BigQuiet
import Derived.Test.YtelfdpcenplhjaaGreatDoorQVmH
namespace Go.Proofs.YtelfdpcenplhjaaGreatDoor
open Go.RowKit
set_option linter.unusedVariables false
structure Ab where
  k : Bool
  v : Int
deriving instance DecidableEq for Ab
def ab0 : Ab := ⟨false, 0⟩
def sureA (x : Int) : Ab := ⟨true, x⟩
structure StS where
  r : Bool
  a : Ab
  x : Ab
  m : List Ab
deriving instance DecidableEq for StS
def st0 : StS := ⟨false, ab0, ab0, List.replicate 16 ab0⟩
def stB : StS := ⟨true, sureA 0, sureA 0, List.replicate 16 (sureA 0)⟩
structure EdS where
  b : Ab
  r : Bool
deriving instance DecidableEq for EdS
def ed0 : EdS := ⟨ab0, false⟩
def alikeA (a b : Ab) : Ab := if a.k = true ∧ a = b then a else ab0
def bothS (a b : StS) : StS := ⟨true, alikeA a.a b.a, alikeA a.x b.x, (List.range 16).map fun i => alikeA (a.m.getD i ab0) (b.m.getD i ab0)⟩
def joinS (a b : StS) : StS := if a = st0 then b else if b = st0 then a else bothS a b
def bothE (a b : EdS) : EdS := ⟨alikeA a.b b.b, true⟩
def joinE (a b : EdS) : EdS := if a = ed0 then b else if b = ed0 then a else bothE a b
structure AbOk (a : Ab) : Prop where
  u : U32 a.v
  z : a.k = false → a.v = 0
structure StOk (s : StS) : Prop where
  a : AbOk s.a
  x : AbOk s.x
  len : s.m.length = 16
  m : ∀ b ∈ s.m, AbOk b
  z : s.r = false → s = st0
theorem ab0_ok : AbOk ab0 := ⟨by unfold U32 ab0; simp, fun _ => rfl⟩
theorem sureA_ok {x : Int} (h : U32 x) : AbOk (sureA x) := ⟨h, fun h => by cases h⟩
theorem StOk.at_ {s : StS} (h : StOk s) (k : Nat) : AbOk (s.m.getD k ab0) := by
  rcases Nat.lt_or_ge k s.m.length with hk | hk
  · simp only [List.getD, List.getElem?_eq_getElem hk, Option.getD_some]
    exact h.m _ (List.getElem_mem hk)
  · simp only [List.getD, List.getElem?_eq_none hk, Option.getD_none]
    exact ab0_ok
theorem st0_ok : StOk st0 := ⟨ab0_ok, ab0_ok, by simp [st0], fun b hb => by simp only [st0, List.mem_replicate] at hb; rw [hb.2]; exact ab0_ok, fun _ => rfl⟩
theorem u32_0 : U32 0 := by unfold U32; omega
theorem stB_ok : StOk stB := ⟨sureA_ok u32_0, sureA_ok u32_0, by simp [stB], fun b hb => by simp only [stB, List.mem_replicate] at hb; rw [hb.2]; exact sureA_ok u32_0, fun h => by cases h⟩
theorem alikeA_ok {a b : Ab} (h : AbOk a) : AbOk (alikeA a b) := by
  unfold alikeA
  split
  · exact h
  · exact ab0_ok
theorem bothS_ok {a b : StS} (h : StOk a) (h' : StOk b) : StOk (bothS a b) :=
  ⟨alikeA_ok h.a, alikeA_ok h.x, by simp [bothS], fun c hc => by
    simp only [bothS, List.mem_map] at hc
    obtain ⟨i, _, rfl⟩ := hc
    exact alikeA_ok (h.at_ i), fun h => by cases h⟩
theorem joinS_ok {a b : StS} (h : StOk a) (h' : StOk b) : StOk (joinS a b) := by
  unfold joinS
  split
  · exact h'
  · split
    · exact h
    · exact bothS_ok h h'
structure EdOk (e : EdS) : Prop where
  b : AbOk e.b
  z : e.r = false → e = ed0
theorem ed0_ok : EdOk ed0 := ⟨ab0_ok, fun _ => rfl⟩
theorem joinE_ok {a b : EdS} (h : EdOk a) (h' : EdOk b) : EdOk (joinE a b) := by
  unfold joinE
  split
  · exact h'
  · split
    · exact h
    · exact ⟨alikeA_ok h.b, fun h => by cases h⟩
section
variable (al : Int → Int → Int → Option Int) (hd : Int → Int → Int → Bool)
def othA (q : Ins) (s : StS) : Ab := if q.1 = 132 then s.a else if formOf q.1 = 1 ∨ formOf q.1 = 5 then sureA q.2.2.2 else s.x
def seenA (nr arch o : Int) : Ab := if o = 0 then sureA nr else if o = 4 then sureA arch else ab0
def workA (q : Ins) (s : StS) : Ab := if s.a.k = false ∨ (othA q s).k = false then ab0 else match al q.1 s.a.v (othA q s).v with | some v => sureA v | none => ab0
def behS (nr arch : Int) (q : Ins) (s : StS) : StS :=
  if q.1 = 32 then { s with a := seenA nr arch q.2.2.2 }
  else if q.1 = 128 then { s with a := sureA 64 }
  else if q.1 = 129 then { s with x := sureA 64 }
  else if q.1 = 0 then { s with a := sureA q.2.2.2 }
  else if q.1 = 1 then { s with x := sureA q.2.2.2 }
  else if q.1 = 96 then { s with a := s.m.getD q.2.2.2.toNat ab0 }
  else if q.1 = 97 then { s with x := s.m.getD q.2.2.2.toNat ab0 }
  else if q.1 = 2 then { s with m := s.m.set q.2.2.2.toNat s.a }
  else if q.1 = 3 then { s with m := s.m.set q.2.2.2.toNat s.x }
  else if q.1 = 7 then { s with x := s.a }
  else if q.1 = 135 then { s with a := s.x }
  else if q.1 % 8 = 4 then { s with a := workA al q s }
  else s
def endE (q : Ins) (s : StS) : EdS :=
  if q.1 = 6 then ⟨sureA q.2.2.2, true⟩
  else if q.1 = 22 then ⟨s.a, true⟩
  else if q.1 = 60 ∧ (s.x.k = false ∨ s.x = sureA 0) then ⟨sureA 0, true⟩
  else ed0
def nxtS (q : Ins) (i : Nat) (s : StS) : List Nat :=
  if q.1 = 60 ∧ othA q s = sureA 0 then []
  else if ¬ (formOf q.1 = 5 ∨ formOf q.1 = 6) ∨ s.a.k = false ∨ (othA q s).k = false then nextL q i
  else if hd q.1 s.a.v (othA q s).v = true then [i + 1 + q.2.1.toNat] else [i + 1 + q.2.2.1.toNat]
def putS (t : StS) (L : List StS) (p : Nat) : List StS := L.set p (joinS (L.getD p st0) t)
def goS (nr arch : Int) (q : Ins) (i : Nat) (z : List StS × EdS) : List StS × EdS :=
  if (z.1.getD i st0).r = false then z
  else ((nxtS hd q i (z.1.getD i st0)).foldl (putS (behS al nr arch q (z.1.getD i st0))) z.1, joinE z.2 (endE q (z.1.getD i st0)))
def floS (nr arch : Int) (f : Nat → Ins) (n : Nat) : Nat → List StS × EdS
  | 0 => ((List.replicate n st0).set 0 stB, ed0)
  | k + 1 => goS al hd nr arch (f k) k (floS nr arch f n k)
end
theorem seenA_ok {nr arch o : Int} (h : U32 nr) (h' : U32 arch) : AbOk (seenA nr arch o) := by
  unfold seenA
  split
  · exact sureA_ok h
  · split
    · exact sureA_ok h'
    · exact ab0_ok
section
variable {al : Int → Int → Int → Option Int} {hd : Int → Int → Int → Bool}
theorem workA_ok (hal : ∀ c a b v, 0 ≤ c → c ≤ 65535 → U32 a → U32 b → al c a b = some v → U32 v) {q : Ins} (hq : insO q) {s : StS} (h : StOk s) : AbOk (workA al q s) := by
  unfold workA
  split
  · exact ab0_ok
  · have ho : AbOk (othA q s) := by
      unfold othA
      split
      · exact h.a
      · split
        · exact sureA_ok ⟨hq.k0, hq.k1⟩
        · exact h.x
    cases e : al q.1 s.a.v (othA q s).v with
    | none => exact ab0_ok
    | some v => exact sureA_ok (hal _ _ _ _ hq.c0 hq.c1 h.a.u ho.u e)
theorem StOk.seta {s : StS} (h : StOk s) (hr : s.r = true) {b : Ab} (hb : AbOk b) : StOk { s with a := b } := ⟨hb, h.x, h.len, h.m, fun e => by rw [hr] at e; cases e⟩
theorem StOk.setx {s : StS} (h : StOk s) (hr : s.r = true) {b : Ab} (hb : AbOk b) : StOk { s with x := b } := ⟨h.a, hb, h.len, h.m, fun e => by rw [hr] at e; cases e⟩
theorem StOk.setm {s : StS} (h : StOk s) (hr : s.r = true) {b : Ab} (hb : AbOk b) (k : Nat) : StOk { s with m := s.m.set k b } := ⟨h.a, h.x, by simp [h.len], fun c hc => by
  rcases List.mem_or_eq_of_mem_set hc with hc | rfl
  · exact h.m c hc
  · exact hb, fun e => by rw [hr] at e; cases e⟩
theorem behS_ok (hal : ∀ c a b v, 0 ≤ c → c ≤ 65535 → U32 a → U32 b → al c a b = some v → U32 v) {nr arch : Int} (h0 : U32 nr) (h1 : U32 arch) {q : Ins} (hq : insO q) {s : StS} (h : StOk s) (hr : s.r = true) : StOk (behS al nr arch q s) ∧ (behS al nr arch q s).r = true := by
  have hk : U32 q.2.2.2 := ⟨hq.k0, hq.k1⟩
  have h64 : U32 64 := by unfold U32; omega
  unfold behS
  have P : ∀ (c : Prop) [Decidable c] (a b : StS), (StOk a ∧ a.r = true) → (StOk b ∧ b.r = true) → (StOk (if c then a else b) ∧ (if c then a else b).r = true) := by
    intro c _ a b ha hb
    split
    · exact ha
    · exact hb
  refine P _ _ _ ⟨h.seta hr (seenA_ok h0 h1), hr⟩ (P _ _ _ ⟨h.seta hr (sureA_ok h64), hr⟩ (P _ _ _ ⟨h.setx hr (sureA_ok h64), hr⟩ (P _ _ _ ⟨h.seta hr (sureA_ok hk), hr⟩ (P _ _ _ ⟨h.setx hr (sureA_ok hk), hr⟩
    (P _ _ _ ⟨h.seta hr (h.at_ _), hr⟩ (P _ _ _ ⟨h.setx hr (h.at_ _), hr⟩ (P _ _ _ ⟨h.setm hr h.a _, hr⟩ (P _ _ _ ⟨h.setm hr h.x _, hr⟩ (P _ _ _ ⟨h.setx hr h.a, hr⟩ (P _ _ _ ⟨h.seta hr h.x, hr⟩
    (P _ _ _ ⟨h.seta hr (workA_ok hal hq h), hr⟩ ⟨h, hr⟩)))))))))))
theorem endE_ok {q : Ins} (hq : insO q) {s : StS} (h : StOk s) : EdOk (endE q s) := by
  unfold endE
  split
  · exact ⟨sureA_ok ⟨hq.k0, hq.k1⟩, fun h => by cases h⟩
  split
  · exact ⟨h.a, fun h => by cases h⟩
  split
  · exact ⟨sureA_ok u32_0, fun h => by cases h⟩
  · exact ed0_ok
theorem getD_ok {L : List StS} (h : ∀ s ∈ L, StOk s) (p : Nat) : StOk (L.getD p st0) := by
  rcases Nat.lt_or_ge p L.length with hk | hk
  · simp only [List.getD, List.getElem?_eq_getElem hk, Option.getD_some]
    exact h _ (List.getElem_mem hk)
  · simp only [List.getD, List.getElem?_eq_none hk, Option.getD_none]
    exact st0_ok
theorem putS_ok {t : StS} (ht : StOk t) {L : List StS} (h : ∀ s ∈ L, StOk s) (p : Nat) : ∀ s ∈ putS t L p, StOk s := fun s hs => by
  rcases List.mem_or_eq_of_mem_set hs with hs | rfl
  · exact h s hs
  · exact joinS_ok (getD_ok h p) ht
theorem putS_len {t : StS} {L : List StS} (p : Nat) : (putS t L p).length = L.length := by simp [putS]
theorem puts_ok {t : StS} (ht : StOk t) : ∀ (ps : List Nat) {L : List StS}, (∀ s ∈ L, StOk s) → ∀ s ∈ ps.foldl (putS t) L, StOk s
  | [], _, h => h
  | p :: ps, _, h => puts_ok ht ps (putS_ok ht h p)
theorem puts_len {t : StS} : ∀ (ps : List Nat) {L : List StS}, (ps.foldl (putS t) L).length = L.length
  | [], _ => rfl
  | p :: ps, L => by rw [List.foldl_cons, puts_len ps, putS_len]
theorem floS_len (nr arch : Int) (f : Nat → Ins) (n : Nat) : ∀ k, (floS al hd nr arch f n k).1.length = n
  | 0 => by simp [floS]
  | k + 1 => by
    unfold floS goS
    split
    · exact floS_len nr arch f n k
    · exact (puts_len _).trans (floS_len nr arch f n k)
theorem floS_ok (hal : ∀ c a b v, 0 ≤ c → c ≤ 65535 → U32 a → U32 b → al c a b = some v → U32 v) {nr arch : Int} (h0 : U32 nr) (h1 : U32 arch) {f : Nat → Ins} {n : Nat} (ho : ∀ i, i < n → insO (f i)) : ∀ k, k ≤ n → (∀ s ∈ (floS al hd nr arch f n k).1, StOk s) ∧ EdOk (floS al hd nr arch f n k).2
  | 0, _ => ⟨fun s hs => by
      rcases List.mem_or_eq_of_mem_set hs with hs | rfl
      · rw [(List.mem_replicate.1 hs).2]; exact st0_ok
      · exact stB_ok, ed0_ok⟩
  | k + 1, hk => by
    have ih := floS_ok hal h0 h1 ho k (by omega)
    unfold floS goS
    split
    · exact ih
    · rename_i hr
      have hs := getD_ok ih.1 k
      have hr' : ((floS al hd nr arch f n k).1.getD k st0).r = true := by simpa using hr
      exact ⟨puts_ok (behS_ok hal h0 h1 (ho k (by omega)) hs hr').1 _ ih.1, joinE_ok ih.2 (endE_ok (ho k (by omega)) hs)⟩
end
end Go.Proofs.YtelfdpcenplhjaaGreatDoor
namespace Go.Proofs.YtelfdpcenplhjaaGreatDoor
open Go.RowKit
set_option linter.unusedVariables false
set_option linter.unusedSimpArgs false
def abV (a : Ab) : Value := .agg #[.bool a.k, .int .u32 a.v]
def abC : List Ab → List Value
  | [] => []
  | a :: l => .bool a.k :: .int .u32 a.v :: abC l
def stC (s : StS) : Array Value := (.bool s.r :: .bool s.a.k :: .int .u32 s.a.v :: .bool s.x.k :: .int .u32 s.x.v :: abC s.m).toArray
def stV (s : StS) : Value := .agg (stC s)
def edC (e : EdS) : Array Value := #[.bool e.b.k, .int .u32 e.b.v, .bool e.r]
def edV (e : EdS) : Value := .agg (edC e)
theorem abC_len : ∀ m : List Ab, (abC m).length = m.length * 2
  | [] => rfl
  | a :: l => by simp [abC, abC_len l]; omega
theorem abC_get : ∀ (m : List Ab) (k : Nat), k < m.length → (abC m)[k * 2]? = some (.bool (m.getD k ab0).k) ∧ (abC m)[k * 2 + 1]? = some (.int .u32 (m.getD k ab0).v)
  | [], k, h => absurd h (by simp)
  | a :: l, 0, _ => ⟨rfl, rfl⟩
  | a :: l, k + 1, h => by
    have := abC_get l k (by simpa using h)
    simpa [abC, Nat.succ_mul] using this
theorem abC_set : ∀ (m : List Ab) (k : Nat) (b : Ab), ((abC m).set (k * 2) (.bool b.k)).set (k * 2 + 1) (.int .u32 b.v) = abC (m.set k b)
  | [], k, b => by simp [abC]
  | a :: l, 0, b => rfl
  | a :: l, k + 1, b => by
    have := abC_set l k b
    simpa [abC, Nat.succ_mul] using this
section
variable {s : StS}
theorem st_0 : (stC s)[0]? = some (.bool s.r) := rfl
theorem st_1 : (stC s)[1]? = some (.bool s.a.k) := rfl
theorem st_2 : (stC s)[2]? = some (.int .u32 s.a.v) := rfl
theorem st_3 : (stC s)[3]? = some (.bool s.x.k) := rfl
theorem st_4 : (stC s)[4]? = some (.int .u32 s.x.v) := rfl
theorem st_5 (h : s.m.length = 16) {k : Nat} (hk : k < 16) : (stC s)[5 + k * 2]? = some (.bool (s.m.getD k ab0).k) ∧ (stC s)[5 + k * 2 + 1]? = some (.int .u32 (s.m.getD k ab0).v) := by
  obtain ⟨h1, h2⟩ := abC_get s.m k (by omega)
  have e : ∀ n, (stC s)[5 + n]? = (abC s.m)[n]? := fun n => by
    simp only [stC, List.getElem?_toArray, show 5 + n = n + 1 + 1 + 1 + 1 + 1 by omega, List.getElem?_cons_succ]
  exact ⟨(e _).trans h1, (Nat.add_assoc 5 (k * 2) 1 ▸ (e _).trans h2)⟩
theorem st_size (h : s.m.length = 16) : (stC s).size = 37 := by simp [stC, abC_len, h]
theorem abC_one : ∀ (m : List Ab), ∀ v ∈ abC m, v.oneCell' = true
  | [], v, h => by cases h
  | a :: l, v, h => by
    simp only [abC, List.mem_cons] at h
    rcases h with rfl | rfl | h
    · rfl
    · rfl
    · exact abC_one l v h
theorem st_oneL : ∀ v ∈ (stC s).toList, v.oneCell' = true := fun v hv => by
  simp only [stC, List.mem_cons] at hv
  rcases hv with rfl | rfl | rfl | rfl | rfl | hv
  · rfl
  · rfl
  · rfl
  · rfl
  · rfl
  · exact abC_one _ v hv
theorem st_one : (stC s).all (·.oneCell') = true := by
  rw [Array.all_eq_true_iff_forall_mem]
  exact fun v hv => st_oneL v (by simpa using hv)
theorem st_info : (Tryz.prog.info? 158).map (·.size) = some 37 := by kernel_rfl
theorem st_inf (h : s.m.length = 16) : (Tryz.prog.info? 158).map (·.size) = some (stC s).size := by rw [st_size h]; exact st_info
theorem st_sa (b : Ab) : ((stC s).setIfInBounds 1 (.bool b.k)).setIfInBounds (1 + 1) (.int .u32 b.v) = stC { s with a := b } := by apply Array.ext'; simp [stC]
theorem st_sx (b : Ab) : ((stC s).setIfInBounds 3 (.bool b.k)).setIfInBounds (3 + 1) (.int .u32 b.v) = stC { s with x := b } := by apply Array.ext'; simp [stC]
theorem st_sm (k : Nat) (b : Ab) : ((stC s).setIfInBounds (5 + k * 2) (.bool b.k)).setIfInBounds (5 + k * 2 + 1) (.int .u32 b.v) = stC { s with m := s.m.set k b } := by
  apply Array.ext'
  have := abC_set s.m k b
  simp only [stC, Array.toList_setIfInBounds, show 5 + k * 2 = k * 2 + 1 + 1 + 1 + 1 + 1 by omega, List.set_cons_succ]
  rw [this]
end
def zstL : Array Value := #[.bool false, .bool false, .int .u32 0, .bool false, .int .u32 0, .bool false, .int .u32 0, .bool false, .int .u32 0, .bool false, .int .u32 0, .bool false, .int .u32 0, .bool false, .int .u32 0, .bool false, .int .u32 0, .bool false, .int .u32 0, .bool false, .int .u32 0, .bool false, .int .u32 0, .bool false, .int .u32 0, .bool false, .int .u32 0, .bool false, .int .u32 0, .bool false, .int .u32 0, .bool false, .int .u32 0, .bool false, .int .u32 0, .bool false, .int .u32 0]
theorem zst_st0 : zstL = stC st0 := rfl
theorem zst_size : zstL.size = 37 := rfl
theorem ab_inf : (Tryz.prog.info? 139).map (·.size) = some 2 := by kernel_rfl
theorem ed_inf (e : EdS) : (Tryz.prog.info? 188).map (·.size) = some (edC e).size := (by kernel_rfl : (Tryz.prog.info? 188).map (·.size) = some 3)
theorem ed_one (e : EdS) : (edC e).all (·.oneCell') = true := by simp [edC, Value.oneCell']
theorem ed_ok (e : EdS) : edC e = #[.bool e.b.k, .int .u32 e.b.v, .bool e.r] := rfl
theorem wp_store_ab {P : Program} {o : Oper} {a : Act} {w : World} {K : Act → World → Prop} {Q : Exit → Act → World → Prop} (ty : TypeId) (x y : Operand) (ho : o.op = .store ty x y)
    (g k : Nat) (cs : Array Value) (t : TypeId) (b : Ab) (cs' : Array Value) (hx : a.eval x = .pointer (some ⟨g, k, none⟩)) (hy : a.eval y = abV b) (hb : Blk w g cs t) (hk : k + 1 < cs.size)
    (hi : (P.info? ty).map (·.size) = some 2) (he : (cs.setIfInBounds k (.bool b.k)).setIfInBounds (k + 1) (.int .u32 b.v) = cs') (h : ∀ w', Blk w' g cs' t → But g w w' → K (a.put o.dst undef) w') : o.wp P a w K Q := by
  subst he
  have hs := run_storeCells_at (P := P) g k t [.bool b.k, .int .u32 b.v] 0 cs w hb.blk (by simp; omega) (fun u hu => by simp at hu; rcases hu with rfl | rfl <;> rfl)
  have e : (cs.toList.take (k + 0) ++ [Value.bool b.k, Value.int .u32 b.v] ++ cs.toList.drop (k + 0 + [Value.bool b.k, .int .u32 b.v].length)).toArray = (cs.setIfInBounds k (.bool b.k)).setIfInBounds (k + 1) (.int .u32 b.v) := by
    apply Array.ext'
    apply List.ext_getElem?
    intro j
    simp only [Array.toList_setIfInBounds, Nat.add_zero, List.length_cons, List.length_nil, Nat.zero_add, Nat.reduceAdd, List.getElem?_set, Array.length_toList, List.length_set]
    rw [List.append_assoc, List.getElem?_append]
    simp only [List.length_take, Array.length_toList, Nat.min_eq_left (show k ≤ cs.size by omega)]
    by_cases hj : j < k
    · simp only [hj, if_true, List.getElem?_take, show ¬ k = j by omega, show ¬ k + 1 = j by omega, if_false]
    · simp only [hj, if_false]
      by_cases h0 : j = k
      · subst h0
        simp only [Nat.sub_self, show ¬ j + 1 = j by omega, if_true, if_false, show j < cs.size by omega]
        rfl
      · by_cases h1 : j = k + 1
        · subst h1
          simp only [show k + 1 - k = 1 by omega, if_true, hk]
          rfl
        · simp only [show ¬ k = j by omega, show ¬ k + 1 = j by omega, if_false]
          obtain ⟨i, rfl⟩ : ∃ i, j = k + 2 + i := ⟨j - (k + 2), by omega⟩
          rw [show k + 2 + i - k = i + 1 + 1 by omega]
          simp
  rw [e] at hs
  cases hq : P.info? ty with
  | none => simp [hq] at hi
  | some i =>
    have hs' : i.size = 2 := by simpa [hq] using hi
    have hrun : (storeVar ty ⟨g, k, none⟩ (abV b)).run P w = .ok () (w.setRow g ((cs.setIfInBounds k (.bool b.k)).setIfInBounds (k + 1) (.int .u32 b.v))) := by simp [storeVar, sizeOf, typeInfo, hq, abV, Value.cells, hs', hs]
    unfold Oper.wp execOp
    simp only [ho, hx, hy, Instr.storeAt, Instr.sureAddr, Sem.run_bind, Sem.run_pure, Result.andThen_ok, hrun]
    have q := setRow_blk (cs' := (cs.setIfInBounds k (.bool b.k)).setIfInBounds (k + 1) (.int .u32 b.v)) hb
    exact h _ q.1 q.2
theorem wpList_store_ab {P : Program} {ops : Array Oper} {rest : List Oper} {o : Oper} {a : Act} {w : World} {Q : Exit → Act → World → Prop} (hgd : o.guard = none) (ty : TypeId) (x y : Operand) (ho : o.op = .store ty x y)
    (g k : Nat) (cs : Array Value) (t : TypeId) (b : Ab) (cs' : Array Value) (hx : a.eval x = .pointer (some ⟨g, k, none⟩)) (hy : a.eval y = abV b) (hb : Blk w g cs t) (hk : k + 1 < cs.size)
    (hi : (P.info? ty).map (·.size) = some 2) (he : (cs.setIfInBounds k (.bool b.k)).setIfInBounds (k + 1) (.int .u32 b.v) = cs') (h : ∀ w', Blk w' g cs' t → But g w w' → wpList P ops Q rest (a.put o.dst undef) w') : wpList P ops Q (o :: rest) a w :=
  wpList_plain hgd fun _ hK => wp_store_ab ty x y ho g k cs t b cs' hx hy hb hk hi he fun w' h2 h3 => hK _ _ (h w' h2 h3)
theorem eqF_consB {P : Program} {d : Nat} {xs ys : Array Value} {f : Field} {fs : List Field} {w : World} {a b : Value} {r r' : Bool} (hn : f.name ≠ "_") (ha : (part f.type xs f.offset).run P w = .ok a w) (hb : (part f.type ys f.offset).run P w = .ok b w)
    (hr : (Op.equalIn d f.type a b).run P w = .ok r w) (hf : (Op.eqFields d xs ys fs).run P w = .ok r' w) : (Op.eqFields d xs ys (f :: fs)).run P w = .ok (r && r') w := by
  simp only [Op.eqFields, hn, ne_eq, not_false_eq_true, if_true, Sem.run_bind, ha, hb, hr, Result.andThen_ok]
  cases r <;> simp [hf]
theorem abs_fields : (Tryz.prog.fieldsOf 139).toList = [⟨"Known", 4, 0, false, "", "", 0⟩, ⟨"Value", 61, 1, false, "", "", 4⟩] := by kernel_rfl
theorem run_eqIn_ab (d : Nat) (a b : Ab) (w : World) : (Op.equalIn (d + 2) 139 (abV a) (abV b)).run Tryz.prog w = .ok (decide (a = b)) w := by
  unfold abV
  rw [run_equalIn_struct w (d + 1) 139 _ _ (by kernel_rfl) (by kernel_rfl), abs_fields]
  have h0 := run_equalIn_bool w d 4 a.k b.k Tryz.underlying4
  have h1 := run_equalIn_int w d 61 .u32 .u32 a.v b.v Tryz.underlying61
  have hz : (Op.eqFields (d + 1) #[.bool a.k, .int .u32 a.v] #[.bool b.k, .int .u32 b.v] []).run Tryz.prog w = .ok true w := by simp [Op.eqFields]
  have e := eqF_consB (f := ⟨"Known", 4, 0, false, "", "", 0⟩) (by decide) (run_part_plain w (v := .bool a.k) (by kernel_rfl) rfl) (run_part_plain w (v := .bool b.k) (by kernel_rfl) rfl) h0
    (eqF_consB (f := ⟨"Value", 61, 1, false, "", "", 4⟩) (by decide) (run_part_plain w (v := .int .u32 a.v) (by kernel_rfl) rfl) (run_part_plain w (v := .int .u32 b.v) (by kernel_rfl) rfl) h1 hz)
  have eb : (a.k == b.k && (a.v == b.v && true)) = decide (a = b) := by
    obtain ⟨k, v⟩ := a
    obtain ⟨k', v'⟩ := b
    rw [Bool.eq_iff_iff]
    simp
  rw [e, eb]
theorem run_eql_ab (a b : Ab) (w : World) : (binOp .eql 139 (abV a) (abV b)).run Tryz.prog w = .ok (.bool (decide (a = b))) w := by
  have h := run_eqIn_ab 9998 a b w
  unfold abV at h ⊢
  rw [run_eql_struct, h]
  rfl
theorem ab_guard : Tryz.prog.eqGuardType Tryz.prog.depth 139 = false := by kernel_rfl
theorem run_part_two {cs : Array Value} {k : Nat} {b : Ab} (h0 : cs[k]? = some (.bool b.k)) (h1 : cs[k + 1]? = some (.int .u32 b.v)) (w : World) : (part 139 cs k).run Tryz.prog w = .ok (abV b) w := by
  obtain ⟨i, hi, _, hs, _⟩ := info_parts (show (Tryz.prog.info? 139).map (fun i => (i.zero, i.size, i.bytes)) = some (some (.agg #[.bool false, .int .u32 0]), 2, 8) by kernel_rfl)
  have hk := (Array.getElem?_eq_some_iff.1 h1).1
  have e : cs.extract k (k + 2) = #[.bool b.k, .int .u32 b.v] := by
    apply Array.ext (by simp; omega)
    intro j hj1 hj2
    simp at hj2
    rw [Array.getElem_extract]
    obtain ⟨q0, e0⟩ := Array.getElem?_eq_some_iff.1 h0
    obtain ⟨q1, e1⟩ := Array.getElem?_eq_some_iff.1 h1
    match j, hj2 with
    | 0, _ => exact e0
    | 1, _ => exact e1
  simp [part, isAgg, run_underlying Tryz.underlying139, sizeOf, typeInfo, hi, hs, e, abV]
theorem end_fields : (Tryz.prog.fieldsOf 188).toList = [⟨"Abs", 139, 0, true, "", "", 0⟩, ⟨"reached", 4, 2, false, "", "wicketgate/bitmap", 8⟩] := by kernel_rfl
theorem st_fields : (Tryz.prog.fieldsOf 158).toList = [⟨"Reached", 4, 0, false, "", "", 0⟩, ⟨"A", 139, 1, false, "", "", 4⟩, ⟨"X", 139, 3, false, "", "", 12⟩, ⟨"Mem", 156, 5, false, "", "", 20⟩] := by kernel_rfl
theorem run_eqIn_ed (d : Nat) (a b : EdS) (w : World) : (Op.equalIn (d + 3) 188 (edV a) (edV b)).run Tryz.prog w = .ok (decide (a = b)) w := by
  unfold edV
  rw [run_equalIn_struct w (d + 2) 188 _ _ (by kernel_rfl) (by kernel_rfl), end_fields]
  have e0 := run_eqIn_ab d a.b b.b w
  have e1 := run_equalIn_bool w (d + 1) 4 a.r b.r Tryz.underlying4
  have hz : (Op.eqFields (d + 2) (edC a) (edC b) []).run Tryz.prog w = .ok true w := by simp [Op.eqFields]
  have e := eqF_consB (f := ⟨"Abs", 139, 0, true, "", "", 0⟩) (by decide) (run_part_two (cs := edC a) (k := 0) (b := a.b) rfl rfl w) (run_part_two (cs := edC b) (k := 0) (b := b.b) rfl rfl w) e0
    (eqF_consB (f := ⟨"reached", 4, 2, false, "", "wicketgate/bitmap", 8⟩) (by decide) (run_part_plain w (v := .bool a.r) (by kernel_rfl) rfl) (run_part_plain w (v := .bool b.r) (by kernel_rfl) rfl) e1 hz)
  have eb : (decide (a.b = b.b) && (a.r == b.r && true)) = decide (a = b) := by
    obtain ⟨k, v⟩ := a
    obtain ⟨k', v'⟩ := b
    rw [Bool.eq_iff_iff]
    simp
  rw [e, eb]
theorem run_eql_ed (a b : EdS) (w : World) : (binOp .eql 188 (edV a) (edV b)).run Tryz.prog w = .ok (.bool (decide (a = b))) w := by
  have h := run_eqIn_ed 9997 a b w
  unfold edV at h ⊢
  rw [run_eql_struct, h]
  rfl
theorem eqItems_abs (d : Nat) (w : World) (l l' : List Ab) : ∀ is : List Nat, (∀ i ∈ is, i < l.length ∧ i < l'.length) →
    (Op.eqItems (d + 2) 139 2 (abC l).toArray (abC l').toArray is).run Tryz.prog w = .ok (is.all fun i => decide (l.getD i ab0 = l'.getD i ab0)) w
  | [], _ => by simp [Op.eqItems]
  | i :: is, h => by
    obtain ⟨h1, h2⟩ := h i (by simp)
    have ih := eqItems_abs d w l l' is (fun j hj => h j (by simp [hj]))
    obtain ⟨g0, g1⟩ := abC_get l i h1
    obtain ⟨g2, g3⟩ := abC_get l' i h2
    simp only [Op.eqItems, Sem.run_bind, run_part_two (cs := (abC l).toArray) (b := l.getD i ab0) (by simpa using g0) (by simpa using g1) w, run_part_two (cs := (abC l').toArray) (b := l'.getD i ab0) (by simpa using g2) (by simpa using g3) w, Result.andThen_ok, run_eqIn_ab, List.all_cons]
    cases hq : decide (l.getD i ab0 = l'.getD i ab0)
    · simp
    · simp only [Bool.not_true, Bool.false_eq_true, if_false, Bool.true_and]
      exact ih
theorem all_getA (l l' : List Ab) (n : Nat) (h : l.length = n) (h' : l'.length = n) : ((List.range n).all fun i => decide (l.getD i ab0 = l'.getD i ab0)) = decide (l = l') := by
  rw [Bool.eq_iff_iff]
  simp only [List.all_eq_true, List.mem_range, decide_eq_true_eq]
  refine ⟨fun hh => ?_, fun e i _ => by rw [e]⟩
  apply List.ext_getElem (by omega)
  intro i h1 h2
  have := hh i (by omega)
  simpa [List.getD, h1, h2] using this
theorem run_part_mems {s : StS} (h : s.m.length = 16) (w : World) : (part 156 (stC s) 5).run Tryz.prog w = .ok (.agg (abC s.m).toArray) w := by
  obtain ⟨i, hi⟩ := info_of_underlying (P := Tryz.prog) Tryz.underlying156
  have hs : i.size = 32 := by
    have h : (Tryz.prog.info? 156).map (·.size) = some 32 := by kernel_rfl
    simpa [hi] using h
  have e : (stC s).extract 5 37 = (abC s.m).toArray := by
    have hl := abC_len s.m
    rw [h] at hl
    unfold stC
    simp only [List.extract_toArray]
    simp [List.extract, List.take_of_length_le (show (abC s.m).length ≤ 32 by omega)]
  simp [part, isAgg, run_underlying Tryz.underlying156, sizeOf, typeInfo, hi, hs, e]
theorem run_eqIn_st (d : Nat) {a b : StS} (h : a.m.length = 16) (h' : b.m.length = 16) (w : World) : (Op.equalIn (d + 4) 158 (stV a) (stV b)).run Tryz.prog w = .ok (decide (a = b)) w := by
  unfold stV
  rw [run_equalIn_struct w (d + 3) 158 _ _ (by kernel_rfl) (by kernel_rfl), st_fields]
  have e0 := run_equalIn_bool w (d + 2) 4 a.r b.r Tryz.underlying4
  have e1 := run_eqIn_ab (d + 1) a.a b.a w
  have e2 := run_eqIn_ab (d + 1) a.x b.x w
  obtain ⟨i, hi, _, hs, _⟩ := info_parts (show (Tryz.prog.info? 139).map (fun i => (i.zero, i.size, i.bytes)) = some (some (.agg #[.bool false, .int .u32 0]), 2, 8) by kernel_rfl)
  have hc : Tryz.prog.cellsOf 139 = 2 := by simp [Program.cellsOf, hi, hs]
  have e3 : (Op.equalIn (d + 3) 156 (.agg (abC a.m).toArray) (.agg (abC b.m).toArray)).run Tryz.prog w = .ok (decide (a.m = b.m)) w := by
    rw [run_equalIn_array w (d + 2) _ _ Tryz.underlying156 hi, hc, eqItems_abs d w a.m b.m _ (by intro i hi; simp at hi; omega), all_getA a.m b.m 16 h h']
  have hz : (Op.eqFields (d + 3) (stC a) (stC b) []).run Tryz.prog w = .ok true w := by simp [Op.eqFields]
  have e := eqF_consB (f := ⟨"Reached", 4, 0, false, "", "", 0⟩) (by decide) (run_part_plain w (v := .bool a.r) (by kernel_rfl) st_0) (run_part_plain w (v := .bool b.r) (by kernel_rfl) st_0) e0
    (eqF_consB (f := ⟨"A", 139, 1, false, "", "", 4⟩) (by decide) (run_part_two (b := a.a) st_1 st_2 w) (run_part_two (b := b.a) st_1 st_2 w) e1
    (eqF_consB (f := ⟨"X", 139, 3, false, "", "", 12⟩) (by decide) (run_part_two (b := a.x) st_3 st_4 w) (run_part_two (b := b.x) st_3 st_4 w) e2
    (eqF_consB (f := ⟨"Mem", 156, 5, false, "", "", 20⟩) (by decide) (run_part_mems h w) (run_part_mems h' w) e3 hz)))
  have eb : (a.r == b.r && (decide (a.a = b.a) && (decide (a.x = b.x) && (decide (a.m = b.m) && true)))) = decide (a = b) := by
    obtain ⟨r, ka, xa, m⟩ := a
    obtain ⟨r', ka', xa', m'⟩ := b
    rw [Bool.eq_iff_iff]
    simp
  rw [e, eb]
theorem run_eql_st {a b : StS} (h : a.m.length = 16) (h' : b.m.length = 16) (w : World) : (binOp .eql 158 (stV a) (stV b)).run Tryz.prog w = .ok (.bool (decide (a = b))) w := by
  have h := run_eqIn_st 9996 h h' w
  unfold stV at h ⊢
  rw [run_eql_struct, h]
  rfl
theorem st_guard : Tryz.prog.eqGuardType Tryz.prog.depth 158 = false := by kernel_rfl
theorem ed_guard : Tryz.prog.eqGuardType Tryz.prog.depth 188 = false := by kernel_rfl
theorem wpList_eql_agg {P : Program} {ops : Array Oper} {rest : List Oper} {o : Oper} {a : Act} {w : World} {Q : Exit → Act → World → Prop} (hgd : o.guard = none) (k : BinOp) (hk : k = .eql ∨ k = .neq) (ty : TypeId) (x y : Operand) (ho : o.op = .binOp k ty x y ty)
    (u v : Array Value) (hx : a.eval x = .agg u) (hy : a.eval y = .agg v) (hg : P.eqGuardType P.depth ty = false) (b : Bool) (hr : (binOp k ty (.agg u) (.agg v)).run P w = .ok (.bool b) w)
    (h : wpList P ops Q rest (a.put o.dst (.bool b)) w) : wpList P ops Q (o :: rest) a w := by
  refine wpList_plain hgd fun K hK => ?_
  unfold Oper.wp execOp
  rcases hk with rfl | rfl <;> simp only [ho, hx, hy, Sem.run_bind, run_eqGuard_agg w _ ty x y _ _ hg, hr, Result.andThen_ok] <;> exact hK _ _ h
end Go.Proofs.YtelfdpcenplhjaaGreatDoor
namespace Go.Proofs.YtelfdpcenplhjaaGreatDoor
open Go.RowKit
set_option linter.unusedVariables false
def abA (a : Ab) : Array Value := #[.bool a.k, .int .u32 a.v]
theorem abA_inf (a : Ab) : (Tryz.prog.info? 139).map (·.size) = some (abA a).size := ab_inf
theorem abA_one (a : Ab) : (abA a).all (·.oneCell') = true := by simp [abA, Value.oneCell']
theorem sure_any (x : Int) (w : World) : Calls Tryz.prog 114 #[.int .u32 x] w fun e w' => e = .returned (abV (sureA x)) ∧ Below w.heap.size w w' := by
  go_enter Tryz.func114, Tryz.ntmps114
  go_wp2_with (refine wpList_store_blk rfl 139 (.tmp 2) (.tmp 4) rfl w.heap.size _ (abA (sureA x)) 139 rfl rfl (Blk.new_ _ _ _ rfl) rfl (abA_inf _) (abA_one _) ?_; intro w3 hw3 hn3)
  refine bodyPost_ret (v := abV (sureA x)) (results_cell_row rfl _ _ w.heap.size 139 (abA (sureA x)) (0, 0) _ rfl hw3.blk Tryz.underlying139 rfl (abA_inf _)) rfl ⟨rfl, ?_⟩
  exact ((Below.refl _ w).alloc (Nat.le_refl _) _).trans (hn3.below _ (Nat.le_refl _) (by simp))
set_option maxHeartbeats 1000000 in
theorem alike_any (a b : Ab) (w : World) : Calls Tryz.prog 140 #[abV a, abV b] w fun e w' => e = .returned (abV (alikeA a b)) ∧ Below w.heap.size w w' := by
  have B0 := (((Below.refl _ w).alloc (Nat.le_refl _) (.cells (abA a) 139)).alloc (by simp) (.cells (abA b) 139)).alloc (by simp; omega) (.cells (abA ab0) 139)
  by_cases h : a.k = true ∧ a = b
  · obtain ⟨h, rfl⟩ := h
    have e : alikeA a a = a := by simp [alikeA, h]
    rw [e]
    obtain ⟨k, v⟩ := a
    cases h
    have hv : (v == v) = true := by simp
    unfold abV
    go_enter Tryz.func140, Tryz.ntmps140
    go_wp2_with (refine wpList_store_blk rfl 139 (.tmp 4) (.tmp 12) rfl (w.heap.size + 1 + 1) _ (abA ⟨true, v⟩) 139 rfl rfl (Blk.new_ _ _ _ (by simp)) rfl (abA_inf _) (abA_one _) ?_; intro w3 hw3 hn3)
    refine bodyPost_ret (v := abV ⟨true, v⟩) (results_cell_row rfl _ _ (w.heap.size + 1 + 1) 139 (abA ⟨true, v⟩) (0, 0) _ rfl hw3.blk Tryz.underlying139 rfl (abA_inf _)) rfl ⟨rfl, ?_⟩
    exact B0.trans (hn3.below _ (by omega) (by simp; omega))
  · have e : alikeA a b = ab0 := by simp [alikeA, h]
    rw [e]
    obtain ⟨k, v⟩ := a
    obtain ⟨k', v'⟩ := b
    unfold abV
    cases k
    · go_enter Tryz.func140, Tryz.ntmps140
      go_wp2_with (refine wpList_store_blk rfl 139 (.tmp 4) (.tmp 13) rfl (w.heap.size + 1 + 1) _ (abA ab0) 139 rfl rfl (Blk.new_ _ _ _ (by simp)) rfl (abA_inf _) (abA_one _) ?_; intro w3 hw3 hn3)
      refine bodyPost_ret (v := abV ab0) (results_cell_row rfl _ _ (w.heap.size + 1 + 1) 139 (abA ab0) (0, 0) _ rfl hw3.blk Tryz.underlying139 rfl (abA_inf _)) rfl ⟨rfl, ?_⟩
      exact B0.trans (hn3.below _ (by omega) (by simp; omega))
    · cases k'
      · go_enter Tryz.func140, Tryz.ntmps140
        go_wp2_with (refine wpList_store_blk rfl 139 (.tmp 4) (.tmp 13) rfl (w.heap.size + 1 + 1) _ (abA ab0) 139 rfl rfl (Blk.new_ _ _ _ (by simp)) rfl (abA_inf _) (abA_one _) ?_; intro w3 hw3 hn3)
        refine bodyPost_ret (v := abV ab0) (results_cell_row rfl _ _ (w.heap.size + 1 + 1) 139 (abA ab0) (0, 0) _ rfl hw3.blk Tryz.underlying139 rfl (abA_inf _)) rfl ⟨rfl, ?_⟩
        exact B0.trans (hn3.below _ (by omega) (by simp; omega))
      · have hv : (v == v') = false := by simpa using fun e : v = v' => h ⟨rfl, by rw [e]⟩
        go_enter Tryz.func140, Tryz.ntmps140
        go_wp2_with (refine wpList_store_blk rfl 139 (.tmp 4) (.tmp 13) rfl (w.heap.size + 1 + 1) _ (abA ab0) 139 rfl rfl (Blk.new_ _ _ _ (by simp)) rfl (abA_inf _) (abA_one _) ?_; intro w3 hw3 hn3)
        refine bodyPost_ret (v := abV ab0) (results_cell_row rfl _ _ (w.heap.size + 1 + 1) 139 (abA ab0) (0, 0) _ rfl hw3.blk Tryz.underlying139 rfl (abA_inf _)) rfl ⟨rfl, ?_⟩
        exact B0.trans (hn3.below _ (by omega) (by simp; omega))
def nmB (L : List UInt8) (z : Int) : Bool := ((List.range 41).all fun i => ((kN i).toList == L) == decide (kC i = z)) && (rowC z).isSome && !(L == [])
theorem name_is {L : List UInt8} {z : Int} (h : nmB L z = true) (c : Int) : ((nameOf c).1.toList == L) = decide (c = z) := by
  simp only [nmB, Bool.and_eq_true, List.all_eq_true, List.mem_range, beq_iff_eq, Bool.not_eq_true'] at h
  obtain ⟨⟨h1, h2⟩, h3⟩ := h
  unfold nameOf
  cases hr : rowC c with
  | none =>
    have e : ¬ c = z := by rintro rfl; rw [hr] at h2; cases h2
    simp only [e, decide_false]
    cases L with
    | nil => simp at h3
    | cons x L =>
      rw [show (ByteArray.mk #[]).toList = [] by decide +kernel]
      rfl
  | some i =>
    obtain ⟨hi, rfl⟩ := rowC_some hr
    exact h1 i hi
theorem nm_div : nmB [100, 105, 118, 46, 120] 60 = true := by decide +kernel
theorem nm_neg : nmB [110, 101, 103] 132 = true := by decide +kernel
theorem nm_retk : nmB [114, 101, 116, 46, 107] 6 = true := by decide +kernel
theorem nm_reta : nmB [114, 101, 116, 46, 97] 22 = true := by decide +kernel
set_option maxHeartbeats 1000000 in
theorem divides_any (c y z k : Int) (w : World) (hK : Kinds w) : Calls Tryz.prog 139 #[insV c y z k] w fun e w' => e = .returned (.bool (decide (c = 60))) ∧ Below w.heap.size w w' := by
  have F := fun V (h : Kinds V) => name_any c V h
  have hn := name_is nm_div c
  obtain ⟨⟨r, t⟩, hr⟩ : ∃ r, nameOf c = r := ⟨_, rfl⟩
  rw [hr] at F hn
  simp only at F hn
  rw [← hn]
  unfold insV
  have B := ((Below.refl _ w).alloc (Nat.le_refl _) (.cells #[.int .u16 c, .int .u8 y, .int .u8 z, .int .u32 k] 111))
  have F' := F _ (hK.below B hK.pos)
  clear F hr hn
  go_enter Tryz.func139, Tryz.ntmps139
  go_wp2_with fail
  refine F'.mono ?_
  rintro e w' ⟨rfl, hb⟩
  go_wp2_with fail
  go_ret
  exact ⟨rfl, B.trans (hb.mono (by simp))⟩
set_option maxHeartbeats 1000000 in
theorem btests_any (c y z k : Int) (w : World) (hK : Kinds w) : Calls Tryz.prog 160 #[insV c y z k] w fun e w' => e = .returned (.bool (decide (formOf c = 5 ∨ formOf c = 6))) ∧ Below w.heap.size w w' := by
  have F := fun V (h : Kinds V) => form_any c V h
  obtain ⟨r, hr⟩ : ∃ r, formOf c = r := ⟨_, rfl⟩
  rw [hr] at F ⊢
  unfold insV
  have B := ((Below.refl _ w).alloc (Nat.le_refl _) (.cells #[.int .u16 c, .int .u8 y, .int .u8 z, .int .u32 k] 111))
  have F' := F _ (hK.below B hK.pos)
  clear F hr
  by_cases h5 : r = 5
  · subst h5
    go_enter Tryz.func160, Tryz.ntmps160
    go_wp2_with fail
    refine F'.mono ?_
    rintro e w' ⟨rfl, rfl⟩
    go_wp2_with fail
    go_ret
    exact ⟨rfl, B⟩
  · have h5' : (r == 5) = false := by simpa using h5
    have e : decide (r = 5 ∨ r = 6) = (r == 6) := by rw [Bool.eq_iff_iff]; simp [h5]
    rw [e]
    go_enter Tryz.func160, Tryz.ntmps160
    go_wp2_with fail
    refine F'.mono ?_
    rintro e w' ⟨rfl, rfl⟩
    go_wp2_with fail
    go_ret
    exact ⟨rfl, B⟩
structure IS (w V : World) (q : Ins) (s : StS) : Prop where
  ki : Blk V w.heap.size (celI q).toArray 111
  ks : Blk V (w.heap.size + 1) (stC s) 158
  kk : Kinds V
  old : Below w.heap.size w V
section
variable {w V V' : World} {q : Ins} {s : StS}
theorem IS.below (h : IS w V q s) (hb : Below V.heap.size V V') : IS w V' q s :=
  ⟨h.ki.below hb h.ki.lt, h.ks.below hb h.ks.lt, h.kk.below hb h.kk.pos, h.old.trans (hb.mono h.old.size)⟩
theorem IS.drew (h : IS w V q s) : IS w V.drew q s := h.below (Below.refl _ _).drew
theorem IS.new (w : World) (hK : Kinds w) (q : Ins) (s : StS) : IS w ((w.alloc (.cells (celI q).toArray 111)).alloc (.cells (stC s) 158)) q s :=
  have B := ((Below.refl w.heap.size w).alloc (Nat.le_refl _) (.cells (celI q).toArray 111)).alloc (by simp) (.cells (stC s) 158)
  ⟨(Blk.new w _ _).alloc _, Blk.new_ _ _ _ (by simp), hK.below B hK.pos, B⟩
theorem IS.cells (h : IS w V q s) : V.cell? ⟨w.heap.size, 0, none⟩ = some (.int .u16 q.1) ∧ V.cell? ⟨w.heap.size, 1, none⟩ = some (.int .u8 q.2.1) ∧ V.cell? ⟨w.heap.size, 2, none⟩ = some (.int .u8 q.2.2.1) ∧ V.cell? ⟨w.heap.size, 3, none⟩ = some (.int .u32 q.2.2.2) :=
  ⟨h.ki.cell 0, h.ki.cell 1, h.ki.cell 2, h.ki.cell 3⟩
theorem IS.abs (h : IS w V q s) : V.cell? ⟨w.heap.size + 1, 1, none⟩ = some (.bool s.a.k) ∧ V.cell? ⟨w.heap.size + 1, 2, none⟩ = some (.int .u32 s.a.v) ∧ V.cell? ⟨w.heap.size + 1, 3, none⟩ = some (.bool s.x.k) ∧ V.cell? ⟨w.heap.size + 1, 4, none⟩ = some (.int .u32 s.x.v) :=
  ⟨(h.ks.cell 1).trans st_1, (h.ks.cell 2).trans st_2, (h.ks.cell 3).trans st_3, (h.ks.cell 4).trans st_4⟩
theorem IS.but (h : IS w V q s) {g : Nat} (n : But g V V') (hg : w.heap.size + 1 < g) : IS w V' q s :=
  have hb := n.below (w.heap.size + 1 + 1) (by omega) (by have := h.ks.lt; omega)
  ⟨h.ki.below hb (by omega), h.ks.below hb (by omega), h.kk.below hb (by have := h.kk.pos; have := h.old.size; exact Nat.lt_of_lt_of_le (Nat.lt_of_not_le fun hle => by have := h.ki.lt; omega) (Nat.le_refl _)), h.old.trans (hb.mono (by omega))⟩
end
end Go.Proofs.YtelfdpcenplhjaaGreatDoor
namespace Go.Proofs.YtelfdpcenplhjaaGreatDoor
open Go.RowKit
set_option linter.unusedVariables false
set_option maxRecDepth 100000 in
set_option maxHeartbeats 1000000 in
theorem bsecond_any (c y z k : Int) (s : StS) (hl : s.m.length = 16) (w : World) (hK : Kinds w) :
    Calls Tryz.prog 159 #[insV c y z k, stV s] w fun e w' => e = .returned (abV (othA (c, y, z, k) s)) ∧ Below w.heap.size w w' := by
  have N := fun V (h : Kinds V) => name_any c V h
  have F := fun V (h : Kinds V) => form_any c V h
  have hn := name_is nm_neg c
  have J := IS.new w hK (c, y, z, k) s
  unfold insV stV
  have J0 := J.below ((Below.refl _ _).alloc (Nat.le_refl _) (.cells (abA ab0) 139))
  have R0 := Blk.new_ ((w.alloc (.cells (celI (c, y, z, k)).toArray 111)).alloc (.cells (stC s) 158)) (abA ab0) 139 (n := w.heap.size + 1 + 1) (by simp)
  obtain ⟨⟨r, t⟩, hr⟩ : ∃ r, nameOf c = r := ⟨_, rfl⟩
  obtain ⟨fm, hf⟩ : ∃ r, formOf c = r := ⟨_, rfl⟩
  rw [hr] at N hn
  rw [hf] at F
  simp only at N hn
  have N' := N _ J0.kk
  have i0 := J0.cells.1
  simp only at i0
  clear N hr J
  by_cases h1 : c = 132
  · have e : othA (c, y, z, k) s = s.a := by simp [othA, h1]
    rw [e]
    have hn' : r.toList = [110, 101, 103] := by simpa [h1] using hn
    clear hn F e h1
    go_enter Tryz.func159, Tryz.ntmps159
    go_wp2_with fail
    refine N'.mono ?_
    rintro e w' ⟨rfl, hb⟩
    have J1 := J0.below hb
    obtain ⟨a0, a1, a2, a3⟩ := J1.abs
    have R1 := R0.below hb R0.lt
    clear i0 J0 R0 hb
    go_wp2_with (refine wpList_store_blk rfl 139 (.tmp 4) (.tmp 17) rfl (w.heap.size + 1 + 1) _ (abA s.a) 139 rfl rfl R1 rfl (abA_inf _) (abA_one _) ?_; intro w3 hw3 hn3)
    refine bodyPost_ret (v := abV s.a) (results_cell_row rfl _ _ (w.heap.size + 1 + 1) 139 (abA s.a) (0, 0) _ rfl hw3.blk Tryz.underlying139 rfl (abA_inf _)) rfl ⟨rfl, ?_⟩
    exact J1.old.trans (hn3.below _ (by omega) J1.old.size)
  · have hn' : (r.toList == [110, 101, 103]) = false := by simpa [h1] using hn
    clear hn
    by_cases h2 : fm = 1 ∨ fm = 5
    · have e : othA (c, y, z, k) s = sureA k := by simp [othA, h1, hf, h2]
      rw [e]
      clear e hf h1
      rcases h2 with rfl | rfl
      · go_enter Tryz.func159, Tryz.ntmps159
        go_wp2_with fail
        refine N'.mono ?_
        rintro e w' ⟨rfl, hb⟩
        have J1 := J0.below hb
        have R1 := R0.below hb R0.lt
        have F' := F _ J1.kk
        obtain ⟨i1, _, _, i3⟩ := J1.cells
        simp only at i1 i3
        clear i0 J0 R0 hb F
        go_wp2_with fail
        refine F'.mono ?_
        rintro e w' ⟨rfl, rfl⟩
        go_wp2_with fail
        refine (sure_any k _).mono ?_
        rintro e w4 ⟨rfl, b4⟩
        have R2 := R1.below b4 R1.lt
        have J2 := J1.below b4
        clear R1 J1 b4
        go_wp2_with (refine wpList_store_blk rfl 139 (.tmp 4) (.tmp 29) rfl (w.heap.size + 1 + 1) _ (abA (sureA k)) 139 rfl rfl R2 rfl (abA_inf _) (abA_one _) ?_; intro w3 hw3 hn3)
        refine bodyPost_ret (v := abV (sureA k)) (results_cell_row rfl _ _ (w.heap.size + 1 + 1) 139 (abA (sureA k)) (0, 0) _ rfl hw3.blk Tryz.underlying139 rfl (abA_inf _)) rfl ⟨rfl, ?_⟩
        exact J2.old.trans (hn3.below _ (by omega) J2.old.size)
      · go_enter Tryz.func159, Tryz.ntmps159
        go_wp2_with fail
        refine N'.mono ?_
        rintro e w' ⟨rfl, hb⟩
        have J1 := J0.below hb
        have R1 := R0.below hb R0.lt
        have F' := F _ J1.kk
        obtain ⟨i1, _, _, i3⟩ := J1.cells
        simp only at i1 i3
        clear i0 J0 R0 hb F
        go_wp2_with fail
        refine F'.mono ?_
        rintro e w' ⟨rfl, rfl⟩
        go_wp2_with fail
        refine F'.mono ?_
        rintro e w' ⟨rfl, rfl⟩
        go_wp2_with fail
        refine (sure_any k _).mono ?_
        rintro e w4 ⟨rfl, b4⟩
        have R2 := R1.below b4 R1.lt
        have J2 := J1.below b4
        clear R1 J1 b4
        go_wp2_with (refine wpList_store_blk rfl 139 (.tmp 4) (.tmp 29) rfl (w.heap.size + 1 + 1) _ (abA (sureA k)) 139 rfl rfl R2 rfl (abA_inf _) (abA_one _) ?_; intro w3 hw3 hn3)
        refine bodyPost_ret (v := abV (sureA k)) (results_cell_row rfl _ _ (w.heap.size + 1 + 1) 139 (abA (sureA k)) (0, 0) _ rfl hw3.blk Tryz.underlying139 rfl (abA_inf _)) rfl ⟨rfl, ?_⟩
        exact J2.old.trans (hn3.below _ (by omega) J2.old.size)
    · have e : othA (c, y, z, k) s = s.x := by simp [othA, h1, hf, h2]
      rw [e]
      have f1 : (fm == 1) = false := by simpa using fun e => h2 (.inl e)
      have f5 : (fm == 5) = false := by simpa using fun e => h2 (.inr e)
      clear e hf h2 h1
      go_enter Tryz.func159, Tryz.ntmps159
      go_wp2_with fail
      refine N'.mono ?_
      rintro e w' ⟨rfl, hb⟩
      have J1 := J0.below hb
      have R1 := R0.below hb R0.lt
      have F' := F _ J1.kk
      obtain ⟨i1, _, _, i3⟩ := J1.cells
      obtain ⟨a0, a1, a2, a3⟩ := J1.abs
      simp only at i1 i3
      clear i0 J0 R0 hb F
      go_wp2_with fail
      refine F'.mono ?_
      rintro e w' ⟨rfl, rfl⟩
      go_wp2_with fail
      refine F'.mono ?_
      rintro e w' ⟨rfl, rfl⟩
      go_wp2_with (refine wpList_store_blk rfl 139 (.tmp 4) (.tmp 31) rfl (w.heap.size + 1 + 1) _ (abA s.x) 139 rfl rfl R1 rfl (abA_inf _) (abA_one _) ?_; intro w3 hw3 hn3)
      refine bodyPost_ret (v := abV s.x) (results_cell_row rfl _ _ (w.heap.size + 1 + 1) 139 (abA s.x) (0, 0) _ rfl hw3.blk Tryz.underlying139 rfl (abA_inf _)) rfl ⟨rfl, ?_⟩
      exact J1.old.trans (hn3.below _ (by omega) J1.old.size)
set_option maxHeartbeats 1000000 in
theorem seen_any (o nr arch : Int) (w : World) : Calls Tryz.prog 157 #[.int .u32 o, .agg #[.int .u32 nr, .int .u32 arch]] w fun e w' => e = .returned (abV (seenA nr arch o)) ∧ Below w.heap.size w w' := by
  have B0 := ((Below.refl _ w).alloc (Nat.le_refl _) (.cells #[.int .u32 nr, .int .u32 arch] 196)).alloc (by simp) (.cells (abA ab0) 139)
  have R0 := Blk.new_ (w.alloc (.cells #[.int .u32 nr, .int .u32 arch] 196)) (abA ab0) 139 (n := w.heap.size + 1) (by simp)
  unfold seenA
  by_cases h0 : o = 0
  · rw [if_pos h0]
    subst h0
    go_enter Tryz.func157, Tryz.ntmps157
    go_wp2_with fail
    refine (sure_any nr _).mono ?_
    rintro e w4 ⟨rfl, b4⟩
    have R1 := R0.below b4 R0.lt
    go_wp2_with (refine wpList_store_blk rfl 139 (.tmp 4) (.tmp 10) rfl (w.heap.size + 1) _ (abA (sureA nr)) 139 rfl rfl R1 rfl (abA_inf _) (abA_one _) ?_; intro w3 hw3 hn3)
    refine bodyPost_ret (v := abV (sureA nr)) (results_cell_row rfl _ _ (w.heap.size + 1) 139 (abA (sureA nr)) (0, 0) _ rfl hw3.blk Tryz.underlying139 rfl (abA_inf _)) rfl ⟨rfl, ?_⟩
    have B1 := B0.trans (b4.mono B0.size)
    exact B1.trans (hn3.below _ (by omega) B1.size)
  · rw [if_neg h0]
    have h0' : (o == 0) = false := by simpa using h0
    by_cases h4 : o = 4
    · rw [if_pos h4]
      subst h4
      go_enter Tryz.func157, Tryz.ntmps157
      go_wp2_with fail
      refine (sure_any arch _).mono ?_
      rintro e w4 ⟨rfl, b4⟩
      have R1 := R0.below b4 R0.lt
      go_wp2_with (refine wpList_store_blk rfl 139 (.tmp 4) (.tmp 15) rfl (w.heap.size + 1) _ (abA (sureA arch)) 139 rfl rfl R1 rfl (abA_inf _) (abA_one _) ?_; intro w3 hw3 hn3)
      refine bodyPost_ret (v := abV (sureA arch)) (results_cell_row rfl _ _ (w.heap.size + 1) 139 (abA (sureA arch)) (0, 0) _ rfl hw3.blk Tryz.underlying139 rfl (abA_inf _)) rfl ⟨rfl, ?_⟩
      have B1 := B0.trans (b4.mono B0.size)
      exact B1.trans (hn3.below _ (by omega) B1.size)
    · rw [if_neg h4]
      have h4' : (o == 4) = false := by simpa using h4
      go_enter Tryz.func157, Tryz.ntmps157
      go_wp2_with (refine wpList_store_blk rfl 139 (.tmp 4) (.tmp 16) rfl (w.heap.size + 1) _ (abA ab0) 139 rfl rfl R0 rfl (abA_inf _) (abA_one _) ?_; intro w3 hw3 hn3)
      refine bodyPost_ret (v := abV ab0) (results_cell_row rfl _ _ (w.heap.size + 1) 139 (abA ab0) (0, 0) _ rfl hw3.blk Tryz.underlying139 rfl (abA_inf _)) rfl ⟨rfl, ?_⟩
      exact B0.trans (hn3.below _ (by omega) B0.size)
theorem work_eq {q : Ins} {s : StS} (ha : s.a.k = true) (ho : (othA q s).k = true) : workA alI q s = ⟨aluB q.1 s.a.v (othA q s).v, aluV q.1 s.a.v (othA q s).v⟩ := by
  unfold workA aluB aluV
  rw [if_neg (by simp [ha, ho])]
  cases alI q.1 s.a.v (othA q s).v <;> rfl
theorem oth_ok {q : Ins} (hq : insO q) {s : StS} (h : StOk s) : AbOk (othA q s) := by
  unfold othA
  split
  · exact h.a
  · split
    · exact sureA_ok ⟨hq.k0, hq.k1⟩
    · exact h.x
set_option maxRecDepth 100000 in
set_option maxHeartbeats 2000000 in
theorem worked_any (c y z k : Int) (hq : InsOk c y z k) (s : StS) (hs : StOk s) (w : World) (hK : Kinds w) :
    Calls Tryz.prog 158 #[insV c y z k, stV s] w fun e w' => e = .returned (abV (workA alI (c, y, z, k) s)) ∧ Below w.heap.size w w' := by
  have S := fun V (h : Kinds V) => bsecond_any c y z k s hs.len V h
  have ho := oth_ok (q := (c, y, z, k)) hq hs
  have hw := @work_eq (c, y, z, k) s
  have h0 : s.a.k = false ∨ (othA (c, y, z, k) s).k = false → workA alI (c, y, z, k) s = ab0 := fun h => by unfold workA; rw [if_pos h]
  obtain ⟨⟨ok, ov⟩, eo⟩ : ∃ o, othA (c, y, z, k) s = o := ⟨_, rfl⟩
  obtain ⟨wk, ew⟩ : ∃ o, workA alI (c, y, z, k) s = o := ⟨_, rfl⟩
  rw [eo] at S ho hw h0
  rw [ew] at hw h0 ⊢
  have U := fun V => alu_any c s.a.v ov hq.c0 hq.c1 hs.a.u ho.u V
  have J := IS.new w hK (c, y, z, k) s
  unfold insV stV at S ⊢
  have J0 := J.below ((Below.refl _ _).alloc (Nat.le_refl _) (.cells (abA ab0) 139))
  have R0 := Blk.new_ ((w.alloc (.cells (celI (c, y, z, k)).toArray 111)).alloc (.cells (stC s) 158)) (abA ab0) 139 (n := w.heap.size + 1 + 1) (by simp)
  have S' := S _ J0.kk
  have hl := hs.len
  clear S J eo ew ho hs hq
  have HA : s.a.k = false ∨ (s.a.k = true ∧ ok = false) ∨ (s.a.k = true ∧ ok = true) := by cases s.a.k <;> cases ok <;> simp
  have HB : (s.a.k = false → wk = ab0) ∧ (ok = false → wk = ab0) ∧ (s.a.k = true → ok = true → wk = ⟨aluB c s.a.v ov, aluV c s.a.v ov⟩) := ⟨fun h => h0 (.inl h), fun h => h0 (.inr h), hw⟩
  obtain ⟨E1, E2, E3⟩ := HB
  clear h0 hw
  have HC : (s.a.k = false ∧ wk = ab0) ∨ (s.a.k = true ∧ ok = false ∧ wk = ab0) ∨ (s.a.k = true ∧ ok = true ∧ wk = ⟨aluB c s.a.v ov, aluV c s.a.v ov⟩) := by
    rcases HA with h | ⟨h, h'⟩ | ⟨h, h'⟩
    · exact .inl ⟨h, E1 h⟩
    · exact .inr (.inl ⟨h, h', E2 h'⟩)
    · exact .inr (.inr ⟨h, h', E3 h h'⟩)
  clear E1 E2 E3 HA
  rcases HC with ⟨ha, rfl⟩ | ⟨ha, hok', rfl⟩ | ⟨ha, hok', rfl⟩
  all_goals
    try (have hok := Lib.hid hok'; clear hok')
    have ha' := Lib.hid ha
    clear ha
    go_enter Tryz.func158, Tryz.ntmps158
    go_wp2_with (refine wpList_load_row rfl 158 (.tmp 3) rfl (w.heap.size + 1) rfl 158 (stC s) (0, 0) _ J0.ks.blk Tryz.underlying158 rfl (st_inf hl) ?_)
    refine S'.mono ?_
    rintro e w1 ⟨rfl, b1⟩
    have J1 := J0.below b1
    have R1 := R0.below b1 R0.lt
    clear b1 J0 R0 S'
    go_wp2_with (first
      | (refine wpList_store_blk rfl 139 (.tmp 5) (.tmp 10) rfl w1.heap.size (abA ab0) (abA ⟨ok, ov⟩) 139 rfl rfl (Blk.new_ _ _ _ (by simp)) rfl (abA_inf _) (abA_one _) ?_
         intro w2 hw2 hn2
         have J2 : IS w w2 (c, y, z, k) s := J1.below (((Below.refl _ _).alloc (Nat.le_refl _) _).trans (hn2.below w1.heap.size (Nat.le_refl _) (by simp)))
         have R2 : Blk w2 (w.heap.size + 1 + 1) (abA ab0) 139 := R1.below (((Below.refl _ _).alloc (Nat.le_refl _) _).trans (hn2.below w1.heap.size (Nat.le_refl _) (by simp))) R1.lt
         obtain ⟨a1, a2, _, _⟩ := J2.abs
         rw [ha'.out] at a1
         have i0 := J2.cells.1
         have q0 := hw2.cell 0
         have q1 := hw2.cell 1
         simp only at i0
         simp only [abA, List.getElem?_toArray, List.getElem?_cons_zero, List.getElem?_cons_succ] at q0 q1
         try rw [hok.out] at q0
         clear hn2 J1 R1)
      | (refine wpList_store_blk rfl 139 (.tmp 4) (.tmp 20) rfl (w.heap.size + 1 + 1) _ (abA ab0) 139 rfl rfl R2 rfl (abA_inf _) (abA_one _) ?_; intro w3 hw3 hn3))
  · refine bodyPost_ret (v := abV ab0) (results_cell_row rfl _ _ (w.heap.size + 1 + 1) 139 (abA ab0) (0, 0) _ rfl hw3.blk Tryz.underlying139 rfl (abA_inf _)) rfl ⟨rfl, ?_⟩
    exact J2.old.trans (hn3.below _ (by omega) J2.old.size)
  · refine bodyPost_ret (v := abV ab0) (results_cell_row rfl _ _ (w.heap.size + 1 + 1) 139 (abA ab0) (0, 0) _ rfl hw3.blk Tryz.underlying139 rfl (abA_inf _)) rfl ⟨rfl, ?_⟩
    exact J2.old.trans (hn3.below _ (by omega) J2.old.size)
  · refine (U _).mono ?_
    rintro e w4 ⟨rfl, b4⟩
    have R3 := R2.below b4 R2.lt
    have B3 := J2.old.trans (b4.mono J2.old.size)
    go_wp2_with (refine wpList_store_blk rfl 139 (.tmp 4) (.tmp 34) rfl (w.heap.size + 1 + 1) _ (abA ⟨aluB c s.a.v ov, aluV c s.a.v ov⟩) 139 rfl rfl R3 rfl (abA_inf _) (abA_one _) ?_; intro w3 hw3 hn3)
    refine bodyPost_ret (v := abV ⟨aluB c s.a.v ov, aluV c s.a.v ov⟩) (results_cell_row rfl _ _ (w.heap.size + 1 + 1) 139 (abA ⟨aluB c s.a.v ov, aluV c s.a.v ov⟩) (0, 0) _ rfl hw3.blk Tryz.underlying139 rfl (abA_inf _)) rfl ⟨rfl, ?_⟩
    exact B3.trans (hn3.below _ (by omega) B3.size)
end Go.Proofs.YtelfdpcenplhjaaGreatDoor
namespace Go.Proofs.YtelfdpcenplhjaaGreatDoor
open Go.RowKit
set_option linter.unusedVariables false
theorem sure_raw (x : Int) (w : World) : Calls Tryz.prog 114 #[.int .u32 x] w fun e w' => e = .returned (.agg #[.bool true, .int .u32 x]) ∧ Below w.heap.size w w' := sure_any x w
structure EJ (w V : World) (q : Ins) (s : StS) : Prop where
  j : IS w V q s
  r : Blk V (w.heap.size + 1 + 1) (edC ed0) 188
section
variable {w V V' : World} {q : Ins} {s : StS}
theorem EJ.below (h : EJ w V q s) (hb : Below V.heap.size V V') : EJ w V' q s := ⟨h.j.below hb, h.r.below hb h.r.lt⟩
theorem EJ.drew (h : EJ w V q s) : EJ w V.drew q s := h.below (Below.refl _ _).drew
theorem EJ.new (w : World) (hK : Kinds w) (q : Ins) (s : StS) : EJ w (((w.alloc (.cells (celI q).toArray 111)).alloc (.cells (stC s) 158)).alloc (.cells (edC ed0) 188)) q s :=
  ⟨(IS.new w hK q s).below ((Below.refl _ _).alloc (Nat.le_refl _) _), Blk.new_ _ _ _ (by simp)⟩
end
theorem bend_res {w3 : World} {g : Nat} {e : EdS} (tmps : Array Value) (hp : tmps.getD 4 undef = .pointer (some ⟨g, 0, none⟩)) (h : Blk w3 g (edC e) 188) :
    (results Tryz.f125 tmps).run Tryz.prog w3 = .ok (edV e) w3 :=
  results_cell_row rfl tmps w3 g 188 (edC e) (0, 0) _ hp h.blk Tryz.underlying188 rfl (ed_inf e)
set_option maxRecDepth 100000 in
set_option maxHeartbeats 400000 in
theorem end_6 (c y z k : Int) (s : StS) (hs : StOk s) (w : World) (hK : Kinds w) (h6 : c = 6) :
    Calls Tryz.prog 125 #[insV c y z k, stV s] w fun e w' => e = .returned (edV ⟨sureA k, true⟩) ∧ Below w.heap.size w w' := by
  have N := fun V (h : Kinds V) => name_any c V h
  have D := fun V (h : Kinds V) => divides_any c y z k V h
  have hn6 := name_is nm_retk c
  have hn22 := name_is nm_reta c
  have J := EJ.new w hK (c, y, z, k) s
  unfold insV stV at *
  obtain ⟨⟨r, t⟩, hr⟩ : ∃ r, nameOf c = r := ⟨_, rfl⟩
  rw [hr] at N hn6 hn22
  simp only at N hn6 hn22
  have N' := N _ J.j.kk
  have i0 := J.j.cells.1
  simp only at i0
  have hl := hs.len
  clear N hr hs
  have hn' : r.toList = [114, 101, 116, 46, 107] := by simpa [h6] using hn6
  clear hn6 hn22 h6 D
  go_enter Tryz.func125, Tryz.ntmps125
  go_wp2_with fail
  refine N'.mono ?_
  rintro e w' ⟨rfl, hb⟩
  have J1 := J.below hb
  obtain ⟨i1, _, _, i3⟩ := J1.j.cells
  simp only at i1 i3
  clear i0 J hb
  go_wp2_with fail
  refine (sure_raw k _).mono ?_
  rintro e w4 ⟨rfl, b4⟩
  have J2 := J1.below b4
  clear J1 b4
  go_wp2_with (refine wpList_store_blk rfl 188 (.tmp 4) (.tmp 19) rfl (w.heap.size + 1 + 1) _ (edC ⟨sureA k, true⟩) 188 rfl rfl J2.r rfl (ed_inf _) (ed_one _) ?_; intro w3 hw3 hn3)
  refine bodyPost_ret (v := edV ⟨sureA k, true⟩) (bend_res _ rfl hw3) rfl ⟨rfl, ?_⟩
  exact J2.j.old.trans (hn3.below _ (by omega) J2.j.old.size)
set_option maxRecDepth 100000 in
set_option maxHeartbeats 400000 in
theorem end_22 (c y z k : Int) (s : StS) (hs : StOk s) (w : World) (hK : Kinds w) (h6 : ¬ c = 6) (h22 : c = 22) :
    Calls Tryz.prog 125 #[insV c y z k, stV s] w fun e w' => e = .returned (edV ⟨s.a, true⟩) ∧ Below w.heap.size w w' := by
  have N := fun V (h : Kinds V) => name_any c V h
  have D := fun V (h : Kinds V) => divides_any c y z k V h
  have hn6 := name_is nm_retk c
  have hn22 := name_is nm_reta c
  have J := EJ.new w hK (c, y, z, k) s
  unfold insV stV at *
  obtain ⟨⟨r, t⟩, hr⟩ : ∃ r, nameOf c = r := ⟨_, rfl⟩
  rw [hr] at N hn6 hn22
  simp only at N hn6 hn22
  have N' := N _ J.j.kk
  have i0 := J.j.cells.1
  simp only at i0
  have hl := hs.len
  clear N hr hs
  have hn6' : (r.toList == [114, 101, 116, 46, 107]) = false := by simpa [h6] using hn6
  clear hn6 h6
  have hn' : r.toList = [114, 101, 116, 46, 97] := by simpa [h22] using hn22
  clear hn22 h22 D
  go_enter Tryz.func125, Tryz.ntmps125
  go_wp2_with fail
  refine N'.mono ?_
  rintro e w' ⟨rfl, hb⟩
  have J1 := J.below hb
  obtain ⟨a1, a2, _, _⟩ := J1.j.abs
  clear i0 J hb
  go_wp2_with (refine wpList_store_blk rfl 188 (.tmp 4) (.tmp 25) rfl (w.heap.size + 1 + 1) _ (edC ⟨s.a, true⟩) 188 rfl rfl J1.r rfl (ed_inf _) (ed_one _) ?_; intro w3 hw3 hn3)
  refine bodyPost_ret (v := edV ⟨s.a, true⟩) (bend_res _ rfl hw3) rfl ⟨rfl, ?_⟩
  exact J1.j.old.trans (hn3.below _ (by omega) J1.j.old.size)
set_option maxRecDepth 100000 in
set_option maxHeartbeats 1000000 in
theorem end_1 (c y z k : Int) (s : StS) (hs : StOk s) (w : World) (hK : Kinds w) (h6 : ¬ c = 6) (h22 : ¬ c = 22) (h : ¬ c = 60) :
    Calls Tryz.prog 125 #[insV c y z k, stV s] w fun e w' => e = .returned (edV ed0) ∧ Below w.heap.size w w' := by
  have N := fun V (h : Kinds V) => name_any c V h
  have D := fun V (h : Kinds V) => divides_any c y z k V h
  have hn6 := name_is nm_retk c
  have hn22 := name_is nm_reta c
  have J := EJ.new w hK (c, y, z, k) s
  unfold insV stV at *
  obtain ⟨⟨r, t⟩, hr⟩ : ∃ r, nameOf c = r := ⟨_, rfl⟩
  rw [hr] at N hn6 hn22
  simp only at N hn6 hn22
  have N' := N _ J.j.kk
  have i0 := J.j.cells.1
  simp only at i0
  have hl := hs.len
  clear N hr hs
  have hn6' : (r.toList == [114, 101, 116, 46, 107]) = false := by simpa [h6] using hn6
  have hn22' : (r.toList == [114, 101, 116, 46, 97]) = false := by simpa [h22] using hn22
  clear hn6 hn22 h6 h22
  have D' := Lib.hid (calls_keep (S := fun V => EJ w V (c, y, z, k) s) (fun V V' h hb => h.below hb) (fun V h => D V h.j.kk))
  have U' := Lib.hid (calls_keep (S := fun V => EJ w V (c, y, z, k) s) (fun V V' h hb => h.below hb) (fun V _ => sure_raw 0 V))
  clear D
  rw [decide_eq_false h] at D'
  clear h
  go_enter Tryz.func125, Tryz.ntmps125
  go_wp2_with fail
  refine N'.mono ?_
  rintro e w' ⟨rfl, hb⟩
  have J1 := (J.below hb)
  clear i0 J hb
  go_wp2_with fail
  have J0 := J1.drew
  clear J1
  have hne : Nonempty (Sig (fun V => EJ w V (c, y, z, k) s)) := ⟨⟨_, J0⟩⟩
  refine region_class (S := fun V => EJ w V (c, y, z, k) s) (by kernel_rfl) (by kernel_rfl) J0 ?_
  have hS1 : ∀ s' : Sig (fun V => EJ w V (c, y, z, k) s), s'.V.cell? ⟨w.heap.size + 1, 3, none⟩ = some (.bool s.x.k) := fun s' => s'.h.j.abs.2.2.1
  have hS2 : ∀ s' : Sig (fun V => EJ w V (c, y, z, k) s), s'.V.cell? ⟨w.heap.size + 1, 4, none⟩ = some (.int .u32 s.x.v) := fun s' => s'.h.j.abs.2.2.2
  refine class_load (by rfl) 111 (.tmp 2) rfl w.heap.size rfl _ 111 _ (fun _ h => h.j.ki) Tryz.underlying111 rfl (by kernel_rfl) ?_
  simp only [Act.put, List.setIfInBounds_toArray, List.set_cons_zero, List.set_cons_succ]
  repeat (go_big_quiet_step (first | (go_at_call 139; exact class_call _ D'.out) | (go_at_call 114; exact class_call _ U'.out)))
  refine wpQuiet_nil ?_
  rintro _ ⟨s7, rfl⟩
  have J7 := s7.h
  clear hS1 hS2 hne
  go_wp2_with (refine wpList_store_blk rfl 188 (.tmp 4) (.tmp 43) rfl (w.heap.size + 1 + 1) _ (edC ed0) 188 rfl rfl J7.r rfl (ed_inf _) (ed_one _) ?_; intro w3 hw3 hn3)
  refine bodyPost_ret (v := edV ed0) (bend_res _ rfl hw3) rfl ⟨rfl, ?_⟩
  exact J7.j.old.trans (hn3.below _ (by omega) J7.j.old.size)
set_option maxRecDepth 100000 in
set_option maxHeartbeats 1000000 in
theorem end_2 (c y z k : Int) (s : StS) (hs : StOk s) (w : World) (hK : Kinds w) (h6 : ¬ c = 6) (h22 : ¬ c = 22) (h : c = 60) (h' : s.x.k = false) :
    Calls Tryz.prog 125 #[insV c y z k, stV s] w fun e w' => e = .returned (edV ⟨sureA 0, true⟩) ∧ Below w.heap.size w w' := by
  have N := fun V (h : Kinds V) => name_any c V h
  have D := fun V (h : Kinds V) => divides_any c y z k V h
  have hn6 := name_is nm_retk c
  have hn22 := name_is nm_reta c
  have J := EJ.new w hK (c, y, z, k) s
  unfold insV stV at *
  obtain ⟨⟨r, t⟩, hr⟩ : ∃ r, nameOf c = r := ⟨_, rfl⟩
  rw [hr] at N hn6 hn22
  simp only at N hn6 hn22
  have N' := N _ J.j.kk
  have i0 := J.j.cells.1
  simp only at i0
  have hl := hs.len
  clear N hr hs
  have hn6' : (r.toList == [114, 101, 116, 46, 107]) = false := by simpa [h6] using hn6
  have hn22' : (r.toList == [114, 101, 116, 46, 97]) = false := by simpa [h22] using hn22
  clear hn6 hn22 h6 h22
  have D' := Lib.hid (calls_keep (S := fun V => EJ w V (c, y, z, k) s) (fun V V' h hb => h.below hb) (fun V h => D V h.j.kk))
  have U' := Lib.hid (calls_keep (S := fun V => EJ w V (c, y, z, k) s) (fun V V' h hb => h.below hb) (fun V _ => sure_raw 0 V))
  clear D
  rw [decide_eq_true h] at D'
  have HX := Lib.hid h'
  clear h h'
  go_enter Tryz.func125, Tryz.ntmps125
  go_wp2_with fail
  refine N'.mono ?_
  rintro e w' ⟨rfl, hb⟩
  have J1 := (J.below hb)
  clear i0 J hb
  go_wp2_with fail
  have J0 := J1.drew
  clear J1
  have hne : Nonempty (Sig (fun V => EJ w V (c, y, z, k) s)) := ⟨⟨_, J0⟩⟩
  refine region_class (S := fun V => EJ w V (c, y, z, k) s) (by kernel_rfl) (by kernel_rfl) J0 ?_
  have hS1 : ∀ s' : Sig (fun V => EJ w V (c, y, z, k) s), s'.V.cell? ⟨w.heap.size + 1, 3, none⟩ = some (.bool s.x.k) := fun s' => s'.h.j.abs.2.2.1
  have hS2 : ∀ s' : Sig (fun V => EJ w V (c, y, z, k) s), s'.V.cell? ⟨w.heap.size + 1, 4, none⟩ = some (.int .u32 s.x.v) := fun s' => s'.h.j.abs.2.2.2
  simp only [HX.out] at hS1
  refine class_load (by rfl) 111 (.tmp 2) rfl w.heap.size rfl _ 111 _ (fun _ h => h.j.ki) Tryz.underlying111 rfl (by kernel_rfl) ?_
  simp only [Act.put, List.setIfInBounds_toArray, List.set_cons_zero, List.set_cons_succ]
  repeat (go_big_quiet_step (first | (go_at_call 139; exact class_call _ D'.out) | (go_at_call 114; exact class_call _ U'.out)))
  refine wpQuiet_nil ?_
  rintro _ ⟨s7, rfl⟩
  have J7 := s7.h
  clear hS1 hS2 hne
  go_wp2_with fail
  refine (sure_raw 0 _).mono ?_
  rintro e w4 ⟨rfl, b4⟩
  have J8 := J7.below b4
  clear J7 b4
  go_wp2_with (refine wpList_store_blk rfl 188 (.tmp 4) (.tmp 42) rfl (w.heap.size + 1 + 1) _ (edC ⟨sureA 0, true⟩) 188 rfl rfl J8.r rfl (ed_inf _) (ed_one _) ?_; intro w3 hw3 hn3)
  refine bodyPost_ret (v := edV ⟨sureA 0, true⟩) (bend_res _ rfl hw3) rfl ⟨rfl, ?_⟩
  exact J8.j.old.trans (hn3.below _ (by omega) J8.j.old.size)
set_option maxRecDepth 100000 in
set_option maxHeartbeats 1000000 in
theorem end_3 (c y z k : Int) (s : StS) (hs : StOk s) (w : World) (hK : Kinds w) (h6 : ¬ c = 6) (h22 : ¬ c = 22) (h : c = 60) (h' : s.x.k = true) (h'' : s.x.v = 0) :
    Calls Tryz.prog 125 #[insV c y z k, stV s] w fun e w' => e = .returned (edV ⟨sureA 0, true⟩) ∧ Below w.heap.size w w' := by
  have N := fun V (h : Kinds V) => name_any c V h
  have D := fun V (h : Kinds V) => divides_any c y z k V h
  have hn6 := name_is nm_retk c
  have hn22 := name_is nm_reta c
  have J := EJ.new w hK (c, y, z, k) s
  unfold insV stV at *
  obtain ⟨⟨r, t⟩, hr⟩ : ∃ r, nameOf c = r := ⟨_, rfl⟩
  rw [hr] at N hn6 hn22
  simp only at N hn6 hn22
  have N' := N _ J.j.kk
  have i0 := J.j.cells.1
  simp only at i0
  have hl := hs.len
  clear N hr hs
  have hn6' : (r.toList == [114, 101, 116, 46, 107]) = false := by simpa [h6] using hn6
  have hn22' : (r.toList == [114, 101, 116, 46, 97]) = false := by simpa [h22] using hn22
  clear hn6 hn22 h6 h22
  have D' := Lib.hid (calls_keep (S := fun V => EJ w V (c, y, z, k) s) (fun V V' h hb => h.below hb) (fun V h => D V h.j.kk))
  have U' := Lib.hid (calls_keep (S := fun V => EJ w V (c, y, z, k) s) (fun V V' h hb => h.below hb) (fun V _ => sure_raw 0 V))
  clear D
  rw [decide_eq_true h] at D'
  have HX := Lib.hid h'
  have hq0 : (s.x.v == 0) = true := by simpa using h''
  clear h h' h''
  go_enter Tryz.func125, Tryz.ntmps125
  go_wp2_with fail
  refine N'.mono ?_
  rintro e w' ⟨rfl, hb⟩
  have J1 := (J.below hb)
  clear i0 J hb
  go_wp2_with fail
  have J0 := J1.drew
  clear J1
  have hne : Nonempty (Sig (fun V => EJ w V (c, y, z, k) s)) := ⟨⟨_, J0⟩⟩
  refine region_class (S := fun V => EJ w V (c, y, z, k) s) (by kernel_rfl) (by kernel_rfl) J0 ?_
  have hS1 : ∀ s' : Sig (fun V => EJ w V (c, y, z, k) s), s'.V.cell? ⟨w.heap.size + 1, 3, none⟩ = some (.bool s.x.k) := fun s' => s'.h.j.abs.2.2.1
  have hS2 : ∀ s' : Sig (fun V => EJ w V (c, y, z, k) s), s'.V.cell? ⟨w.heap.size + 1, 4, none⟩ = some (.int .u32 s.x.v) := fun s' => s'.h.j.abs.2.2.2
  simp only [HX.out] at hS1
  refine class_load (by rfl) 111 (.tmp 2) rfl w.heap.size rfl _ 111 _ (fun _ h => h.j.ki) Tryz.underlying111 rfl (by kernel_rfl) ?_
  simp only [Act.put, List.setIfInBounds_toArray, List.set_cons_zero, List.set_cons_succ]
  repeat (go_big_quiet_step (first | (go_at_call 139; exact class_call _ D'.out) | (go_at_call 114; exact class_call _ U'.out)))
  refine wpQuiet_nil ?_
  rintro _ ⟨s7, rfl⟩
  have J7 := s7.h
  clear hS1 hS2 hne
  go_wp2_with fail
  refine (sure_raw 0 _).mono ?_
  rintro e w4 ⟨rfl, b4⟩
  have J8 := J7.below b4
  clear J7 b4
  go_wp2_with (refine wpList_store_blk rfl 188 (.tmp 4) (.tmp 42) rfl (w.heap.size + 1 + 1) _ (edC ⟨sureA 0, true⟩) 188 rfl rfl J8.r rfl (ed_inf _) (ed_one _) ?_; intro w3 hw3 hn3)
  refine bodyPost_ret (v := edV ⟨sureA 0, true⟩) (bend_res _ rfl hw3) rfl ⟨rfl, ?_⟩
  exact J8.j.old.trans (hn3.below _ (by omega) J8.j.old.size)
set_option maxRecDepth 100000 in
set_option maxHeartbeats 1000000 in
theorem end_4 (c y z k : Int) (s : StS) (hs : StOk s) (w : World) (hK : Kinds w) (h6 : ¬ c = 6) (h22 : ¬ c = 22) (h : c = 60) (h' : s.x.k = true) (h'' : ¬ s.x.v = 0) :
    Calls Tryz.prog 125 #[insV c y z k, stV s] w fun e w' => e = .returned (edV ed0) ∧ Below w.heap.size w w' := by
  have N := fun V (h : Kinds V) => name_any c V h
  have D := fun V (h : Kinds V) => divides_any c y z k V h
  have hn6 := name_is nm_retk c
  have hn22 := name_is nm_reta c
  have J := EJ.new w hK (c, y, z, k) s
  unfold insV stV at *
  obtain ⟨⟨r, t⟩, hr⟩ : ∃ r, nameOf c = r := ⟨_, rfl⟩
  rw [hr] at N hn6 hn22
  simp only at N hn6 hn22
  have N' := N _ J.j.kk
  have i0 := J.j.cells.1
  simp only at i0
  have hl := hs.len
  clear N hr hs
  have hn6' : (r.toList == [114, 101, 116, 46, 107]) = false := by simpa [h6] using hn6
  have hn22' : (r.toList == [114, 101, 116, 46, 97]) = false := by simpa [h22] using hn22
  clear hn6 hn22 h6 h22
  have D' := Lib.hid (calls_keep (S := fun V => EJ w V (c, y, z, k) s) (fun V V' h hb => h.below hb) (fun V h => D V h.j.kk))
  have U' := Lib.hid (calls_keep (S := fun V => EJ w V (c, y, z, k) s) (fun V V' h hb => h.below hb) (fun V _ => sure_raw 0 V))
  clear D
  rw [decide_eq_true h] at D'
  have HX := Lib.hid h'
  have hq0 : (s.x.v == 0) = false := by simpa using h''
  clear h h' h''
  go_enter Tryz.func125, Tryz.ntmps125
  go_wp2_with fail
  refine N'.mono ?_
  rintro e w' ⟨rfl, hb⟩
  have J1 := (J.below hb)
  clear i0 J hb
  go_wp2_with fail
  have J0 := J1.drew
  clear J1
  have hne : Nonempty (Sig (fun V => EJ w V (c, y, z, k) s)) := ⟨⟨_, J0⟩⟩
  refine region_class (S := fun V => EJ w V (c, y, z, k) s) (by kernel_rfl) (by kernel_rfl) J0 ?_
  have hS1 : ∀ s' : Sig (fun V => EJ w V (c, y, z, k) s), s'.V.cell? ⟨w.heap.size + 1, 3, none⟩ = some (.bool s.x.k) := fun s' => s'.h.j.abs.2.2.1
  have hS2 : ∀ s' : Sig (fun V => EJ w V (c, y, z, k) s), s'.V.cell? ⟨w.heap.size + 1, 4, none⟩ = some (.int .u32 s.x.v) := fun s' => s'.h.j.abs.2.2.2
  simp only [HX.out] at hS1
  refine class_load (by rfl) 111 (.tmp 2) rfl w.heap.size rfl _ 111 _ (fun _ h => h.j.ki) Tryz.underlying111 rfl (by kernel_rfl) ?_
  simp only [Act.put, List.setIfInBounds_toArray, List.set_cons_zero, List.set_cons_succ]
  repeat (go_big_quiet_step (first | (go_at_call 139; exact class_call _ D'.out) | (go_at_call 114; exact class_call _ U'.out)))
  refine wpQuiet_nil ?_
  rintro _ ⟨s7, rfl⟩
  have J7 := s7.h
  clear hS1 hS2 hne
  go_wp2_with (refine wpList_store_blk rfl 188 (.tmp 4) (.tmp 43) rfl (w.heap.size + 1 + 1) _ (edC ed0) 188 rfl rfl J7.r rfl (ed_inf _) (ed_one _) ?_; intro w3 hw3 hn3)
  refine bodyPost_ret (v := edV ed0) (bend_res _ rfl hw3) rfl ⟨rfl, ?_⟩
  exact J7.j.old.trans (hn3.below _ (by omega) J7.j.old.size)
theorem end_any (c y z k : Int) (s : StS) (hs : StOk s) (w : World) (hK : Kinds w) :
    Calls Tryz.prog 125 #[insV c y z k, stV s] w fun e w' => e = .returned (edV (endE (c, y, z, k) s)) ∧ Below w.heap.size w w' := by
  by_cases h6 : c = 6
  · rw [show endE (c, y, z, k) s = ⟨sureA k, true⟩ by simp [endE, h6]]
    exact end_6 c y z k s hs w hK h6
  · by_cases h22 : c = 22
    · rw [show endE (c, y, z, k) s = ⟨s.a, true⟩ by simp [endE, h22]]
      exact end_22 c y z k s hs w hK h6 h22
    · by_cases h : c = 60
      · cases h' : s.x.k
        · rw [show endE (c, y, z, k) s = ⟨sureA 0, true⟩ by simp [endE, h, h']]
          exact end_2 c y z k s hs w hK h6 h22 h h'
        · by_cases h'' : s.x.v = 0
          · have e : s.x = sureA 0 := by
              obtain ⟨_, _, ⟨a, b⟩, _⟩ := s
              simp only at h' h''
              rw [h', h'']
              rfl
            rw [show endE (c, y, z, k) s = ⟨sureA 0, true⟩ by simp [endE, h, e]]
            exact end_3 c y z k s hs w hK h6 h22 h h' h''
          · have e : ¬ s.x = sureA 0 := fun e => h'' (by rw [e]; rfl)
            rw [show endE (c, y, z, k) s = ed0 by simp [endE, h, h', e]]
            exact end_4 c y z k s hs w hK h6 h22 h h' h''
      · rw [show endE (c, y, z, k) s = ed0 by simp [endE, h6, h22, h]]
        exact end_1 c y z k s hs w hK h6 h22 h
end Go.Proofs.YtelfdpcenplhjaaGreatDoor
