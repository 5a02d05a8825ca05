import Derived.Test.YtfhkgeoionkonaaGreatDoorJ23
import Derived.Test.YtfhkgeoionkonaaGreatDoorJ14
/-
  SCRIPT, pure: lines that are wrong behind a script; steps and rounds as lines.
-/
namespace Go.Proofs.YtfhkgeoionkonaaGreatDoor.Sc
open Go.RowKit
open Go.Lib (itoa)
set_option linter.unusedVariables false
set_option linter.unusedSimpArgs false
set_option maxRecDepth 100000
theorem bad_push (T : Nat) (ms : List Mv) : entE T ms [[48], [112, 117, 115, 104]] = 170 := by
  have h : (mean T [[48], [112, 117, 115, 104]] (numsL [[48], [112, 117, 115, 104]])).1 = [] := by
    unfold mean
    rw [if_neg (by decide), if_neg (by decide), if_neg (by decide), if_neg (by decide)]
    decide +kernel
  unfold entE
  rw [if_pos h]
theorem bad_digit (T : Nat) (ms : List Mv) : entE T ms [[48], [112, 117, 115, 104], [48, 53]] = 171 := by
  have h : (mean T [[48], [112, 117, 115, 104], [48, 53]] (numsL [[48], [112, 117, 115, 104], [48, 53]])).1 ≠ [] := by
    unfold mean
    rw [if_neg (by decide), if_neg (by decide), if_neg (by decide), if_neg (by decide)]
    decide +kernel
  have h2 : wholeL [[48], [112, 117, 115, 104], [48, 53]] = false := by decide +kernel
  unfold entE
  rw [if_neg h, if_pos h2]
theorem bad_range (T : Nat) (ms : List Mv) : entE T ms [[48], [46], [48]] = 2 := by
  have hm : mean T [[48], [46], [48]] (numsL [[48], [46], [48]]) = ([stp 0], 0) := by
    unfold mean
    rw [if_neg (by decide), if_pos (by decide)]
    have : numsL [[48], [46], [48]] = [0, 0] := by decide +kernel
    rw [this]
    rfl
  have h2 : ¬ wholeL [[48], [46], [48]] = false := by decide +kernel
  unfold entE
  rw [hm]
  dsimp only
  rw [if_neg (by simp), if_neg h2, if_pos (by omega)]
/-- A line that is wrong, behind a script. -/
theorem bad_line (c : Cf) (ms : List Mv) (a behind : List UInt8) (ws : List (List UInt8)) (er : Int) (hc : cfgC c = true) (hm : ∀ m ∈ ms, MvB m) (hl : ms.length ≤ 65536) (ha : ∀ x ∈ a, x ≠ 10) (hw : words a = ws) (hne : ws ≠ []) (he : entE c.c0.toNat ms ws = er) (h0 : er ≠ 0) (ht : (prints (cfL c) ms ++ (a ++ 10 :: behind)).length ≤ 1048576) : parseX (prints (cfL c) ms ++ (a ++ 10 :: behind)) = .inl (1 + nls (prints (cfL c) ms), er) := by
  have hk : lnE (c, ms) (words a) = er := by rw [hw]; unfold lnE; rw [if_neg hne]; dsimp only; rw [if_neg (cfgC_ne hc)]; exact he
  unfold parseX
  rw [if_pos ht, ahead c ms _ hc hm hl, prX_line _ _ _ _ ha, hk, if_neg h0]
theorem bad_1 (c : Cf) (ms : List Mv) (behind : List UInt8) (hc : cfgC c = true) (hm : ∀ m ∈ ms, MvB m) (hl : ms.length ≤ 65536) (ht : (prints (cfL c) ms ++ ([48, 32, 112, 117, 115, 104] ++ 10 :: behind)).length ≤ 1048576) : parseX (prints (cfL c) ms ++ ([48, 32, 112, 117, 115, 104] ++ 10 :: behind)) = .inl (1 + nls (prints (cfL c) ms), 170) :=
  bad_line c ms _ behind [[48], [112, 117, 115, 104]] 170 hc hm hl (by decide) (by decide) (by simp) (bad_push _ _) (by decide) ht
theorem bad_2 (c : Cf) (ms : List Mv) (behind : List UInt8) (hc : cfgC c = true) (hm : ∀ m ∈ ms, MvB m) (hl : ms.length ≤ 65536) (ht : (prints (cfL c) ms ++ ([48, 32, 112, 117, 115, 104, 32, 48, 53] ++ 10 :: behind)).length ≤ 1048576) : parseX (prints (cfL c) ms ++ ([48, 32, 112, 117, 115, 104, 32, 48, 53] ++ 10 :: behind)) = .inl (1 + nls (prints (cfL c) ms), 171) :=
  bad_line c ms _ behind [[48], [112, 117, 115, 104], [48, 53]] 171 hc hm hl (by decide) (by decide) (by simp) (bad_digit _ _) (by decide) ht
theorem bad_3 (c : Cf) (ms : List Mv) (behind : List UInt8) (hc : cfgC c = true) (hm : ∀ m ∈ ms, MvB m) (hl : ms.length ≤ 65536) (ht : (prints (cfL c) ms ++ ([48, 32, 46, 32, 48] ++ 10 :: behind)).length ≤ 1048576) : parseX (prints (cfL c) ms ++ ([48, 32, 46, 32, 48] ++ 10 :: behind)) = .inl (1 + nls (prints (cfL c) ms), 2) :=
  bad_line c ms _ behind [[48], [46], [48]] 2 hc hm hl (by decide) (by decide) (by simp) (bad_range _ _) (by decide) ht
/-- A good line, with others behind it. -/
theorem ln_go {cf : Cf} {done : List Mv} {L : List UInt8} {mv : List Mv} (hcf : cfgC cf = true) (h : Ln cf.c0.toNat done L mv) (b : List UInt8) (k : Nat) : prX (L ++ b).length k (L ++ b) (cf, done) = prX b.length (k + 1) b (cf, done ++ mv) := by
  obtain ⟨ws, e1, e2, e3, e4, e5, e6⟩ := h.ex
  have hwj := words_join ws e2
  have hlnE : lnE (cf, done) (words (Lib.join ws [32])) = 0 := by
    rw [hwj]; unfold lnE; rw [if_neg e4]; dsimp only; rw [if_neg (cfgC_ne hcf)]; exact e5
  have hlnS : lnS (cf, done) (words (Lib.join ws [32])) = (cf, done ++ mv) := by
    rw [hwj]; unfold lnS; rw [if_neg e4]; dsimp only; rw [if_neg (cfgC_ne hcf), e6]
  have e : L ++ b = Lib.join ws [32] ++ 10 :: b := by rw [e1]; simp
  rw [e, prX_line _ _ _ _ (join_no ws e3), if_pos hlnE, hlnS]
/-- A good line at the end, without its newline. -/
theorem ln_last {cf : Cf} {done : List Mv} {L : List UInt8} {mv : List Mv} (hcf : cfgC cf = true) (h : Ln cf.c0.toNat done (L ++ [10]) mv) (hL : L ≠ []) (k : Nat) : prX L.length k L (cf, done) = .inr (cf, done ++ mv) := by
  obtain ⟨ws, e1, e2, e3, e4, e5, e6⟩ := h.ex
  have hwj := words_join ws e2
  have eL : L = Lib.join ws [32] := List.append_cancel_right e1
  have hlnE : lnE (cf, done) (words (Lib.join ws [32])) = 0 := by
    rw [hwj]; unfold lnE; rw [if_neg e4]; dsimp only; rw [if_neg (cfgC_ne hcf)]; exact e5
  have hlnS : lnS (cf, done) (words (Lib.join ws [32])) = (cf, done ++ mv) := by
    rw [hwj]; unfold lnS; rw [if_neg e4]; dsimp only; rw [if_neg (cfgC_ne hcf), e6]
  subst eL
  rw [prX_last _ _ _ hL (join_no ws e3) hlnE, hlnS]
theorem star_ok : Gw [42] ∧ (∀ c ∈ ([42] : List UInt8), c ≠ 10) ∧ numLike [42] = false := ⟨(gw_of [42] (by decide)).1, (gw_of [42] (by decide)).2, by decide⟩
theorem ln_round (T : Nat) (done : List Mv) (n : Nat) (hT : 1 ≤ T) (h1 : 1 ≤ n) (hl : done.length + n * T ≤ 65536) : Ln T done (fil fRounds [(n : Int)] ++ [10]) (List.replicate n (rnds T)).flatten := by
  obtain ⟨g1, g2, g3⟩ := star_ok
  have hnT : n ≤ n * T := Nat.le_mul_of_pos_right _ hT
  have hb : Bd (n : Int) := by unfold Bd; omega
  have hf : formL [[42], itoa (n : Int)] = fRounds := by unfold formL; simp only [List.map_cons, List.map_nil, nrm_itoa _ hb, nrm_w g3]; decide
  have hn : numsL [[42], itoa (n : Int)] = [(n : Int)] := by rw [nums_w g3, nums_i hb, nums_nil]
  have hw : wholeL [[42], itoa (n : Int)] = true := by rw [whole_w g3, whole_i hb, whole_nil]
  have hm : mean T [[42], itoa (n : Int)] (numsL [[42], itoa (n : Int)]) = (rnds T, ((n : Nat) : Int)) := by unfold mean; rw [hf, if_neg (by decide), if_neg (by decide), if_pos rfl, hn]; rfl
  have hne : rnds T ≠ [] := fun e => by have := congrArg List.length e; rw [rnds_len] at this; simp at this; omega
  obtain ⟨e1, e2⟩ := ent_of (done := done) hm hw hne h1 (by rw [rnds_len]; exact hl)
  refine ⟨[[42], itoa (n : Int)], ?_, ?_, ?_, by simp, e1, e2⟩
  · simp [fRounds, fil, Lib.join, List.intercalate]
  · intro x hx
    simp at hx
    rcases hx with rfl | rfl
    · exact g1
    · exact gw_itoa _ hb
  · intro x hx
    simp at hx
    rcases hx with rfl | rfl
    · exact g2
    · exact i_ne _ hb
/-- n lines of one step. -/
def ones (th : Int) : Nat → List UInt8
  | 0 => []
  | n + 1 => ones th n ++ (itoa th ++ [32, 46, 10])
theorem ones_cons (th : Int) : ∀ n, ones th (n + 1) = (itoa th ++ [32, 46, 10]) ++ ones th n
  | 0 => by simp [ones]
  | n + 1 => by
    show ones th (n + 1) ++ _ = _
    rw [ones_cons th n, List.append_assoc]
    congr 1
    exact ones_cons th n
theorem step_fil (th : Int) : fil fStep [th] ++ [10] = itoa th ++ [32, 46, 10] := by simp [fStep, fil]
theorem ones_go (cf : Cf) (hcf : cfgC cf = true) (th : Int) (h : Bd th) : ∀ (n : Nat) (done : List Mv) (k : Nat), done.length + n ≤ 65536 → prX (ones th n).length k (ones th n) (cf, done) = .inr (cf, done ++ List.replicate n (stp th))
  | 0, done, k, _ => by simp [ones, prX]
  | n + 1, done, k, hl => by
    have hs := ln_step cf.c0.toNat done th h (by omega)
    rw [step_fil] at hs
    rw [ones_cons, ln_go hcf hs, ones_go cf hcf th h n (done ++ [stp th]) (k + 1) (by simp; omega)]
    rw [List.append_assoc, List.replicate_succ]
    rfl
theorem ones_len (th : Int) : ∀ n, (ones th n).length = n * ((itoa th).length + 3)
  | 0 => by simp [ones]
  | n + 1 => by
    show (ones th n ++ _).length = _
    rw [List.length_append, ones_len th n, Nat.succ_mul]
    simp
/-- The machine's line by itself. -/
theorem head_len (c : Cf) (hc : cfgC c = true) : (prints (cfL c) []).length ≤ 2000 := by
  obtain ⟨b0, b1, b2, b3, b4, b5, b6⟩ := cf_bd hc
  have h1 := fil_len fMachine (cfL c) (by intro x hx; simp [cfL] at hx; rcases hx with rfl | rfl | rfl | rfl | rfl | rfl | rfl <;> assumption)
  have e : fMachine.length ≤ 80 := by decide
  have e2 : fMachine.length = 72 := by decide
  unfold prints
  simp only [List.length_append, List.length_cons, List.length_nil, lines, linesF]
  have e3 : (cfL c).length = 7 := rfl
  omega
theorem px_of {c : Cf} {rest : List UInt8} {ms : List Mv} (hc : cfgC c = true) (hr : rest.length ≤ 100000) (h : ∀ k, prX rest.length k rest (c, []) = .inr (c, ms)) : parseX (prints (cfL c) [] ++ rest) = .inr (c, ms) := by
  have hh := head_len c hc
  unfold parseX
  rw [if_pos (by rw [List.length_append]; omega), ahead c [] rest hc (by simp) (by simp), h]
  dsimp only
  rw [if_neg (cfgC_ne hc)]
theorem par_ones (c : Cf) (hc : cfgC c = true) (th : Int) (h : Bd th) (n : Nat) (hn : n ≤ 300) : parseX (prints (cfL c) [] ++ ones th n) = .inr (c, List.replicate n (stp th)) := by
  refine px_of hc ?_ (fun k => ?_)
  · rw [ones_len]
    have := itoa_len th h
    have h2 : n * ((itoa th).length + 3) ≤ 300 * 24 := Nat.mul_le_mul hn (by omega)
    omega
  · rw [ones_go c hc th h n [] k (by simp; omega)]; rfl
theorem par_steps (c : Cf) (hc : cfgC c = true) (th : Int) (h : Bd th) (n : Nat) (h1 : 1 ≤ n) (hn : n ≤ 300) : parseX (prints (cfL c) [] ++ (itoa th ++ [32, 46, 32] ++ itoa (n : Int))) = .inr (c, List.replicate n (stp th)) := by
  have hb : Bd (n : Int) := by unfold Bd; omega
  refine px_of hc ?_ (fun k => ?_)
  · have := itoa_len th h
    have := itoa_len (n : Int) hb
    simp
    omega
  · have hs := ln_steps c.c0.toNat [] th n h h1 (by simp; omega)
    have e : fil fSteps [th, (n : Int)] = itoa th ++ [32, 46, 32] ++ itoa (n : Int) := by simp [fSteps, fil]
    rw [e] at hs
    exact ln_last hc hs (by simp) k
theorem par_rounds (c : Cf) (hc : cfgC c = true) (n : Nat) (h1 : 1 ≤ n) (hn : n ≤ 300) : parseX (prints (cfL c) [] ++ ([42, 32] ++ itoa (n : Int))) = .inr (c, (List.replicate n (rnds c.c0.toNat)).flatten) := by
  have hb : Bd (n : Int) := by unfold Bd; omega
  have hc0 := cfgC_c0 hc
  refine px_of hc ?_ (fun k => ?_)
  · have := itoa_len (n : Int) hb
    simp
    omega
  · have h2 : n * c.c0.toNat ≤ 300 * 16 := Nat.mul_le_mul hn (by omega)
    have hs := ln_round c.c0.toNat [] n (by omega) h1 (by simp; omega)
    have e : fil fRounds [(n : Int)] = [42, 32] ++ itoa (n : Int) := by simp [fRounds, fil]
    rw [e] at hs
    exact ln_last hc hs (by simp) k
/-- The moves of rounds, one by one. -/
theorem rnds_get (T n i : Nat) (hT : 1 ≤ T) (hi : i < n * T) : ((List.replicate n (rnds T)).flatten)[i]? = some (stp ((i % T : Nat) : Int)) := by
  induction n generalizing i with
  | zero => simp at hi
  | succ n ih =>
    rw [List.replicate_succ, List.flatten_cons]
    by_cases h : i < T
    · rw [List.getElem?_append_left (by rw [rnds_len]; exact h)]
      simp [rnds, h, Nat.mod_eq_of_lt h]
    · rw [List.getElem?_append_right (by rw [rnds_len]; omega), rnds_len, ih (i - T) (by rw [Nat.succ_mul] at hi; omega)]
      rw [← Nat.mod_eq_sub_mod (by omega)]
end Go.Proofs.YtfhkgeoionkonaaGreatDoor.Sc
/-
  SCRIPT, pure: the chapter's first example.
-/
namespace Go.Proofs.YtfhkgeoionkonaaGreatDoor.Sc
open Go.RowKit
set_option linter.unusedVariables false
set_option linter.unusedSimpArgs false
set_option maxRecDepth 100000
def lineA : List UInt8 := [109, 97, 99, 104, 105, 110, 101, 32, 116, 104, 114, 101, 97, 100, 115, 32, 50, 32, 114, 101, 99, 111, 114, 100, 115, 32, 50, 32, 104, 97, 122, 97, 114, 100, 115, 32, 51, 32, 114, 101, 116, 105, 114, 101, 32, 49, 32, 99, 97, 99, 104, 101, 32, 48, 32, 115, 108, 111, 116, 115, 32, 52, 32, 98, 117, 99, 107, 101, 116, 115, 32, 49, 10]
def tlA : List UInt8 := [48, 32, 114, 101, 103, 105, 115, 116, 101, 114, 32, 35, 32, 102, 105, 114, 115, 116, 10, 48, 32, 46, 32, 50, 10, 10, 49, 32, 112, 117, 115, 104, 32, 45, 53, 10, 42, 32, 49, 10]
def tlB : List UInt8 := [48, 32, 114, 101, 103, 105, 115, 116, 101, 114, 10, 48, 32, 46, 32, 50, 10, 49, 32, 112, 117, 115, 104, 32, 45, 53, 10, 48, 32, 46, 10, 49, 32, 46, 10]
def cfS : Cf := ⟨2, 2, 3, 1, 0, 4, 1⟩
def msS : List Mv := [⟨0, 20, 0, 0⟩, ⟨0, 0, 0, 0⟩, ⟨0, 0, 0, 0⟩, ⟨1, 30, -5, 0⟩, ⟨0, 0, 0, 0⟩, ⟨1, 0, 0, 0⟩]
theorem aw_parse : parseO (lineA ++ tlA) = some (cfS, msS) := by decide +kernel
theorem aw_print : prints [2, 2, 3, 1, 0, 4, 1] msS = lineA ++ tlB := by decide +kernel
end Go.Proofs.YtfhkgeoionkonaaGreatDoor.Sc
