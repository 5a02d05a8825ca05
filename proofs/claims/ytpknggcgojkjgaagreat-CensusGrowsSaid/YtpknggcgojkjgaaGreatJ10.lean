import Derived.Test.YtpknggcgojkjgaaGreatJ09
import Derived.BigRegion
import Derived.BigQuiet
import Derived.Deep.LoopGhost
/-
  CENSUS: boxes of cells, told by a function; the slots in the world.
-/
namespace Go.Proofs.YtpknggcgojkjgaaGreat.Cn
open Go.RowKit Mr Md
set_option linter.unusedVariables false
set_option linter.unusedSimpArgs false
set_option maxRecDepth 100000
def Box (w : World) (b n : Nat) (f : Nat → Value) : Prop := ∃ cs t, w.heap[b]? = some (.cells cs t (0, 0)) ∧ ∀ k, k < n → cs[k]? = some (f k)
def setF (f : Nat → Value) (i : Nat) (v : Value) : Nat → Value := fun k => if k = i then v else f k
section
variable {w w' : World} {b n : Nat} {f g : Nat → Value} {S : Nat → Prop}
theorem Box.lt (h : Box w b n f) : b < w.heap.size := by obtain ⟨cs, t, h, _⟩ := h; exact (Array.getElem?_eq_some_iff.1 h).1
theorem Box.cell (h : Box w b n f) (k : Nat) (hk : k < n) : w.cell? ⟨b, k, none⟩ = some (f k) := by obtain ⟨cs, t, h, hc⟩ := h; rw [cell_blk h]; exact hc k hk
theorem Box.live (h : Box w b n f) (k : Nat) : w.frozen? ⟨b, k, none⟩ = false := by obtain ⟨cs, t, h, hc⟩ := h; simp [World.frozen?, h]
theorem Box.kept (h : Box w b n f) (e : w'.heap[b]? = w.heap[b]?) : Box w' b n f := by obtain ⟨cs, t, h, hc⟩ := h; exact ⟨cs, t, e.trans h, hc⟩
theorem Box.fr (h : Box w b n f) (hf : Fr w w' S) (hS : ¬ S b) : Box w' b n f := h.kept (hf.block b h.lt hS)
theorem Box.below (h : Box w b n f) (hB : Below w.heap.size w w') : Box w' b n f := h.kept (hB.block b h.lt)
theorem Box.congr (h : Box w b n f) (hg : ∀ k, k < n → f k = g k) : Box w b n g := by obtain ⟨cs, t, h, hc⟩ := h; exact ⟨cs, t, h, fun k hk => by rw [hc k hk, hg k hk]⟩
theorem Box.drew (h : Box w b n f) : Box w.drew b n f := h
theorem Box.set (h : Box w b n f) (i : Nat) (hi : i < n) (v : Value) : Box (w.setCell ⟨b, i, none⟩ v) b n (setF f i v) := by
  obtain ⟨cs, t, h, hc⟩ := h
  refine ⟨_, t, setBlk h i v, fun k hk => ?_⟩
  have := hc i hi
  have hs := (Array.getElem?_eq_some_iff.1 this).1
  unfold setF
  by_cases e : k = i
  · subst e; simp [hs]
  · rw [if_neg e, Array.getElem?_setIfInBounds_ne (Ne.symm e)]; exact hc k hk
theorem Box.setOther (h : Box w b n f) {b' : Nat} (hb : b' ≠ b) (i : Nat) (v : Value) : Box (w.setCell ⟨b', i, none⟩ v) b n f := h.kept (Below.heap_setCell w ⟨b', i, none⟩ v b (Ne.symm hb))
end
def updI (f : Nat → Int) (i : Nat) (v : Int) : Nat → Int := fun k => if k = i then v else f k
theorem updI_same (f : Nat → Int) (i : Nat) (v : Int) : updI f i v i = v := by simp [updI]
theorem updI_ne (f : Nat → Int) {i k : Nat} (v : Int) (h : k ≠ i) : updI f i v k = f k := by simp [updI, h]
/-- The slots: states, holders, how many in each state, how many in each thread's cache. -/
structure Sk where
  st : Nat → Int
  hd : Nat → Int
  cn : Nat → Int
  ca : Nat → Int
def sf (s : Sk) (v1 v2 : Value) (k : Nat) : Value := if k = 0 then v1 else if k = 1 then v2 else if k < 8 then .int .i64 (s.cn (k - 2)) else .int .i64 (s.ca (k - 8))
def ntF (f : Nat → Int) (k : Nat) : Value := .int .i64 (f k)
/-- The slots in the world: their box, and the two rows. -/
structure Sw (w : World) (n bs g1 g2 : Nat) (s : Sk) : Prop where
  box : Box w bs 24 (sf s (.slice (some ⟨g1, 0, none⟩) n n) (.slice (some ⟨g2, 0, none⟩) n n))
  r1 : Box w g1 n (ntF s.st)
  r2 : Box w g2 n (ntF s.hd)
  d1 : bs ≠ g1
  d2 : bs ≠ g2
  d3 : g1 ≠ g2
section
variable {w w' : World} {n bs g1 g2 : Nat} {s : Sk} {S : Nat → Prop}
theorem Sw.fr (h : Sw w n bs g1 g2 s) (hf : Fr w w' S) (h0 : ¬ S bs) (h1 : ¬ S g1) (h2 : ¬ S g2) : Sw w' n bs g1 g2 s := ⟨h.box.fr hf h0, h.r1.fr hf h1, h.r2.fr hf h2, h.d1, h.d2, h.d3⟩
theorem Sw.below (h : Sw w n bs g1 g2 s) (hB : Below w.heap.size w w') : Sw w' n bs g1 g2 s := ⟨h.box.below hB, h.r1.below hB, h.r2.below hB, h.d1, h.d2, h.d3⟩
theorem Sw.drew (h : Sw w n bs g1 g2 s) : Sw w.drew n bs g1 g2 s := ⟨h.box.drew, h.r1.drew, h.r2.drew, h.d1, h.d2, h.d3⟩
theorem Sw.setCn (h : Sw w n bs g1 g2 s) (i : Nat) (hi : i < 6) (v : Int) : Sw (w.setCell ⟨bs, 2 + i, none⟩ (.int .i64 v)) n bs g1 g2 { s with cn := updI s.cn i v } :=
  ⟨(h.box.set (2 + i) (by omega) _).congr (fun k hk => by
    unfold setF sf updI
    by_cases e : k = 2 + i
    · subst e; rw [if_pos rfl, if_neg (by omega), if_neg (by omega), if_pos (by omega)]; simp
    · rw [if_neg e]
      by_cases e0 : k = 0
      · simp [e0]
      · by_cases e1 : k = 1
        · simp [e1]
        · by_cases e8 : k < 8
          · simp [e0, e1, e8, show k - 2 ≠ i from by omega]
          · simp [e0, e1, e8]), h.r1.setOther h.d1 _ _, h.r2.setOther h.d2 _ _, h.d1, h.d2, h.d3⟩
theorem Sw.setCa (h : Sw w n bs g1 g2 s) (i : Nat) (hi : i < 16) (v : Int) : Sw (w.setCell ⟨bs, 8 + i, none⟩ (.int .i64 v)) n bs g1 g2 { s with ca := updI s.ca i v } :=
  ⟨(h.box.set (8 + i) (by omega) _).congr (fun k hk => by
    unfold setF sf updI
    by_cases e : k = 8 + i
    · subst e; rw [if_pos rfl, if_neg (by omega), if_neg (by omega), if_neg (by omega)]; simp
    · rw [if_neg e]
      by_cases e0 : k = 0
      · simp [e0]
      · by_cases e1 : k = 1
        · simp [e1]
        · by_cases e8 : k < 8
          · simp [e0, e1, e8]
          · simp [e0, e1, e8, show k - 8 ≠ i from by omega]), h.r1.setOther h.d1 _ _, h.r2.setOther h.d2 _ _, h.d1, h.d2, h.d3⟩
theorem nt_set {f : Nat → Int} {i : Nat} {v : Int} : ∀ k, k < n → setF (ntF f) i (.int .i64 v) k = ntF (updI f i v) k := fun k _ => by unfold setF ntF updI; by_cases e : k = i <;> simp [e]
theorem Sw.setSt (h : Sw w n bs g1 g2 s) (i : Nat) (hi : i < n) (v : Int) : Sw (w.setCell ⟨g1, i, none⟩ (.int .i64 v)) n bs g1 g2 { s with st := updI s.st i v } :=
  ⟨h.box.setOther (Ne.symm h.d1) _ _, (h.r1.set i hi _).congr nt_set, h.r2.setOther h.d3 _ _, h.d1, h.d2, h.d3⟩
theorem Sw.setHd (h : Sw w n bs g1 g2 s) (i : Nat) (hi : i < n) (v : Int) : Sw (w.setCell ⟨g2, i, none⟩ (.int .i64 v)) n bs g1 g2 { s with hd := updI s.hd i v } :=
  ⟨h.box.setOther (Ne.symm h.d2) _ _, h.r1.setOther (Ne.symm h.d3) _ _, (h.r2.set i hi _).congr nt_set, h.d1, h.d2, h.d3⟩
theorem Sw.c0 (h : Sw w n bs g1 g2 s) : w.cell? ⟨bs, 0, none⟩ = some (.slice (some ⟨g1, 0, none⟩) n n) := h.box.cell 0 (by omega)
theorem Sw.c1 (h : Sw w n bs g1 g2 s) : w.cell? ⟨bs, 1, none⟩ = some (.slice (some ⟨g2, 0, none⟩) n n) := h.box.cell 1 (by omega)
theorem Sw.cn (h : Sw w n bs g1 g2 s) (i : Nat) (hi : i < 6) : w.cell? ⟨bs, 2 + i, none⟩ = some (.int .i64 (s.cn i)) := by
  rw [h.box.cell (2 + i) (by omega)]
  unfold sf
  rw [if_neg (by omega), if_neg (by omega), if_pos (by omega), show 2 + i - 2 = i from by omega]
theorem Sw.ca (h : Sw w n bs g1 g2 s) (i : Nat) (hi : i < 16) : w.cell? ⟨bs, 8 + i, none⟩ = some (.int .i64 (s.ca i)) := by
  rw [h.box.cell (8 + i) (by omega)]
  unfold sf
  rw [if_neg (by omega), if_neg (by omega), if_neg (by omega), show 8 + i - 8 = i from by omega]
end
def Sk.note (s : Sk) (i : Nat) (d : Int) : Sk :=
  let s1 : Sk := { s with cn := updI s.cn (s.st i).toNat (wrap64 (s.cn (s.st i).toNat + d)) }
  if s.st i = 1 then { s1 with ca := updI s.ca (s.hd i).toNat (wrap64 (s.ca (s.hd i).toNat + d)) } else s1
/-- States are such, and what is cached is with a thread. -/
def Sk.Ok (s : Sk) (n : Nat) : Prop := ∀ i, i < n → 0 ≤ s.st i ∧ s.st i < 6 ∧ (s.st i = 1 → 0 ≤ s.hd i ∧ s.hd i < 16)
end Go.Proofs.YtpknggcgojkjgaaGreat.Cn
/-
  CENSUS: the judge in the world; its monitors, but for access and shift.
-/
namespace Go.Proofs.YtpknggcgojkjgaaGreat.Cn
open Go.RowKit Mr Md
set_option linter.unusedVariables false
set_option linter.unusedSimpArgs false
set_option maxRecDepth 100000
/-- What a judge has that changes. -/
structure Jg where
  cnt : Nat → Int
  told : Nat → Int
  thr : Int
  busy : Nat → Bool
  wds : List Int
  sl : Sk
/-- What it has that doesn't. -/
structure Jc where
  c : Nat → Int
  used : Int
  v0 : Value
  v1 : Value
  v2 : Value
  v3 : Value
  ev : Value
  wv : Value
  bs : Nat
def jf (K : Jc) (s : Jg) (k : Nat) : Value :=
  if k < 6 then .int .i64 (s.cnt k) else if k < 13 then .int .i64 (K.c (k - 6)) else if k = 13 then .int .i64 K.used else if k = 14 then K.v0 else if k = 15 then K.v1 else if k = 16 then K.v2 else if k = 17 then K.v3 else if k = 18 then K.ev else if k = 19 then K.wv else if k = 20 then .pointer (some ⟨K.bs, 0, none⟩) else if k < 27 then .int .i64 (s.told (k - 21)) else if k = 27 then .int .i64 s.thr else .bool (s.busy (k - 28))
def updB (f : Nat → Bool) (i : Nat) (v : Bool) : Nat → Bool := fun k => if k = i then v else f k
section
variable {w : World} {bj : Nat} {K : Jc} {s : Jg}
theorem low {k : Nat} (h : k ≤ 20) (cnt f f' : Nat → Int) (t t' : Int) (b b' : Nat → Bool) : (if k < 6 then Value.int .i64 (cnt k) else if k < 13 then .int .i64 (K.c (k - 6)) else if k = 13 then .int .i64 K.used else if k = 14 then K.v0 else if k = 15 then K.v1 else if k = 16 then K.v2 else if k = 17 then K.v3 else if k = 18 then K.ev else if k = 19 then K.wv else if k = 20 then .pointer (some ⟨K.bs, 0, none⟩) else if k < 27 then .int .i64 (f (k - 21)) else if k = 27 then .int .i64 t else .bool (b (k - 28))) =
    (if k < 6 then Value.int .i64 (cnt k) else if k < 13 then .int .i64 (K.c (k - 6)) else if k = 13 then .int .i64 K.used else if k = 14 then K.v0 else if k = 15 then K.v1 else if k = 16 then K.v2 else if k = 17 then K.v3 else if k = 18 then K.ev else if k = 19 then K.wv else if k = 20 then .pointer (some ⟨K.bs, 0, none⟩) else if k < 27 then .int .i64 (f' (k - 21)) else if k = 27 then .int .i64 t' else .bool (b' (k - 28))) := by
  have : k < 6 ∨ (¬ k < 6 ∧ k < 13) ∨ k = 13 ∨ k = 14 ∨ k = 15 ∨ k = 16 ∨ k = 17 ∨ k = 18 ∨ k = 19 ∨ k = 20 := by omega
  rcases this with e | ⟨e, e'⟩ | rfl | rfl | rfl | rfl | rfl | rfl | rfl | rfl
  · simp [e]
  · simp [e, e']
  all_goals simp
theorem jf_cnt (i : Nat) (hi : i < 6) (v : Int) : ∀ k, k < 44 → setF (jf K s) i (.int .i64 v) k = jf K { s with cnt := updI s.cnt i v } k := fun k _ => by
  unfold setF jf updI
  by_cases e : k = i
  · subst e; simp [hi]
  · rw [if_neg e]; by_cases h6 : k < 6 <;> simp [h6, e]
theorem jf_told (i : Nat) (hi : i < 6) (v : Int) : ∀ k, k < 44 → setF (jf K s) (21 + i) (.int .i64 v) k = jf K { s with told := updI s.told i v } k := fun k hk => by
  unfold setF jf updI
  by_cases e : k = 21 + i
  · subst e
    rw [if_pos rfl, if_neg (by omega), if_neg (by omega), if_neg (by omega), if_neg (by omega), if_neg (by omega), if_neg (by omega), if_neg (by omega), if_neg (by omega), if_neg (by omega), if_neg (by omega), if_pos (by omega)]
    simp
  · rw [if_neg e]
    by_cases h27 : k < 27
    · by_cases h21 : k ≤ 20
      · exact low h21 s.cnt _ _ _ _ _ _
      · simp [h27, show ¬ k - 21 = i from by omega]
    · simp [h27]
theorem jf_thr (v : Int) : ∀ k, k < 44 → setF (jf K s) 27 (.int .i64 v) k = jf K { s with thr := v } k := fun k hk => by
  unfold setF jf
  by_cases e : k = 27
  · subst e; simp
  · rw [if_neg e]; simp [e]
theorem jf_busy (i : Nat) (hi : i < 16) (v : Bool) : ∀ k, k < 44 → setF (jf K s) (28 + i) (.bool v) k = jf K { s with busy := updB s.busy i v } k := fun k hk => by
  unfold setF jf updB
  by_cases e : k = 28 + i
  · subst e
    rw [if_pos rfl, if_neg (by omega), if_neg (by omega), if_neg (by omega), if_neg (by omega), if_neg (by omega), if_neg (by omega), if_neg (by omega), if_neg (by omega), if_neg (by omega), if_neg (by omega), if_neg (by omega), if_neg (by omega)]
    simp
  · rw [if_neg e]
    by_cases h27 : k ≤ 27
    · by_cases h20 : k ≤ 20
      · exact low h20 s.cnt _ _ _ _ _ _
      · by_cases h27' : k < 27
        · simp [show ¬ k < 6 from by omega, show ¬ k < 13 from by omega, show ¬ k = 13 from by omega, show ¬ k = 14 from by omega, show ¬ k = 15 from by omega, show ¬ k = 16 from by omega, show ¬ k = 17 from by omega, show ¬ k = 18 from by omega, show ¬ k = 19 from by omega, show ¬ k = 20 from by omega, h27']
        · have h27e : k = 27 := by omega
          subst h27e; simp
    · have : ¬ k - 28 = i := by omega
      simp only [this, if_false]
theorem jb_cnt (h : Box w bj 44 (jf K s)) (i : Nat) (hi : i < 6) : w.cell? ⟨bj, i, none⟩ = some (.int .i64 (s.cnt i)) := by rw [h.cell i (by omega)]; unfold jf; rw [if_pos hi]
theorem jb_told (h : Box w bj 44 (jf K s)) (i : Nat) (hi : i < 6) : w.cell? ⟨bj, 21 + i, none⟩ = some (.int .i64 (s.told i)) := by
  rw [h.cell (21 + i) (by omega)]; unfold jf
  rw [if_neg (by omega), if_neg (by omega), if_neg (by omega), if_neg (by omega), if_neg (by omega), if_neg (by omega), if_neg (by omega), if_neg (by omega), if_neg (by omega), if_neg (by omega), if_pos (by omega), show 21 + i - 21 = i from by omega]
theorem jb_thr (h : Box w bj 44 (jf K s)) : w.cell? ⟨bj, 27, none⟩ = some (.int .i64 s.thr) := h.cell 27 (by omega)
theorem jb_busy (h : Box w bj 44 (jf K s)) (i : Nat) (hi : i < 16) : w.cell? ⟨bj, 28 + i, none⟩ = some (.bool (s.busy i)) := by
  rw [h.cell (28 + i) (by omega)]; unfold jf
  rw [if_neg (by omega), if_neg (by omega), if_neg (by omega), if_neg (by omega), if_neg (by omega), if_neg (by omega), if_neg (by omega), if_neg (by omega), if_neg (by omega), if_neg (by omega), if_neg (by omega), if_neg (by omega), show 28 + i - 28 = i from by omega]
end
/-- The fences: which blocks are the judge's. -/
def Js (bj bs g1 g2 gw : Nat) (k : Nat) : Prop := k = bj ∨ k = bs ∨ k = g1 ∨ k = g2 ∨ k = gw
end Go.Proofs.YtpknggcgojkjgaaGreat.Cn
