import Derived.Test.YtfhkgeoionkonaaGreatDoorJ17
import Derived.Test.YtfhkgeoionkonaaGreatDoorJ22
/-
  SCRIPT, pure: what is read may be; lines ahead of others; lines without a newline.
-/
namespace Go.Proofs.YtfhkgeoionkonaaGreatDoor.Sc
open Go.RowKit
open Go.Lib (itoa)
set_option linter.unusedVariables false
set_option linter.unusedSimpArgs false
set_option maxRecDepth 100000
theorem numV_Bd (l : List UInt8) : Bd (numV l) := by have := numV_bd l; unfold Bd; omega
theorem nums_Bd (ws : List (List UInt8)) (j : Nat) : Bd ((numsL ws).getD j 0) := by
  rw [List.getD_eq_getElem?_getD]
  cases h : (numsL ws)[j]? with
  | none => unfold Bd; simp
  | some x =>
    have := List.mem_of_getElem? h
    simp only [numsL, List.mem_map] at this
    obtain ⟨l, _, rfl⟩ := this
    exact numV_Bd l
theorem stp_B {t : Int} (h : Bd t) : MvB (stp t) := ⟨h, by unfold Bd; simp [stp], by unfold Bd; simp [stp], by unfold Bd; simp [stp]⟩
theorem opA_Bd (k : Nat) (hk : k < 21) : Bd (opA k) := by
  have := all_below (P := fun k => decide (-9223372036854775808 ≤ opA k) && decide (opA k ≤ 9223372036854775807)) (n := 21) (by decide +kernel) hk
  unfold Bd
  simpa using this
theorem mean_B (T : Nat) (ws : List (List UInt8)) (hT : T ≤ 1000) : ∀ m ∈ (mean T ws (numsL ws)).1, MvB m := by
  unfold mean
  split
  · intro m hm; simp at hm; subst hm; exact stp_B (nums_Bd ws 0)
  · split
    · intro m hm; simp at hm; subst hm; exact stp_B (nums_Bd ws 0)
    · split
      · intro m hm
        simp only [rnds, List.mem_map, List.mem_range] at hm
        obtain ⟨i, hi, rfl⟩ := hm
        exact stp_B (by unfold Bd; omega)
      · split
        · intro m hm
          simp at hm
          subst hm
          have h0 := nums_Bd ws 0
          have h1 := nums_Bd ws 1
          have h2 := nums_Bd ws 2
          have h3 := nums_Bd ws 3
          simp only [List.getD_eq_getElem?_getD] at h0 h1 h2 h3
          exact ⟨h0, h1, h2, h3⟩
        · intro m hm
          dsimp only at hm
          by_cases h2 : ws.length < 2
          · unfold callM at hm; rw [if_pos h2] at hm; simp at hm
          · rw [callM_two h2] at hm
            cases hr : rowN (ws.getD 1 []) with
            | none => rw [hr] at hm; simp at hm
            | some k =>
              rw [hr] at hm
              dsimp only at hm
              split at hm
              · simp only [List.mem_singleton] at hm
                subst hm
                exact ⟨nums_Bd ws 0, opA_Bd k (rowN_some hr).1, nums_Bd ws 1, nums_Bd ws 2⟩
              · simp at hm
theorem entM_B {T : Nat} {ms : List Mv} {ws : List (List UInt8)} (hT : T ≤ 1000) (h : ∀ m ∈ ms, MvB m) : ∀ m ∈ entM T ms ws, MvB m := by
  intro m hm
  unfold entM at hm
  rcases List.mem_append.1 hm with hm | hm
  · exact h m hm
  · rw [List.mem_flatten] at hm
    obtain ⟨l, hl, hm⟩ := hm
    rw [List.mem_replicate] at hl
    rw [hl.2] at hm
    exact mean_B T ws hT m hm
theorem lnS_B {st : Cf × List Mv} {ws : List (List UInt8)} (hG : Gs st) (h : ∀ m ∈ st.2, MvB m) : ∀ m ∈ (lnS st ws).2, MvB m := by
  unfold lnS
  split
  · exact h
  · split
    · exact h
    · rename_i h0 h1
      have := cfgC_c0 (hG.1.resolve_left h1)
      exact entM_B (by omega) h
theorem prX_good : ∀ (n : Nat) (l : List UInt8) (st fin : Cf × List Mv) (k : Nat), l.length ≤ n → Gs st → (∀ m ∈ st.2, MvB m) → prX l.length k l st = .inr fin → Gs fin ∧ ∀ m ∈ fin.2, MvB m
  | n, [], st, fin, k, _, hG, hB, h => by simp [prX] at h; subst h; exact ⟨hG, hB⟩
  | 0, c :: r, st, fin, k, hn, hG, hB, h => by simp at hn
  | n + 1, c :: r, st, fin, k, hn, hG, hB, h => by
    have hc := (cut_len c r).1
    rw [prX_cons] at h
    simp only [List.length_cons] at hc hn
    split at h
    · rename_i hk
      exact prX_good n _ _ fin _ (by omega) (hG.next hk) (lnS_B hG hB) h
    · cases h
/-- What is read may be. -/
theorem parseX_good {l : List UInt8} {c : Cf} {ms : List Mv} (h : parseX l = .inr (c, ms)) : cfgC c = true ∧ ms.length ≤ 65536 ∧ ∀ m ∈ ms, MvB m := by
  unfold parseX at h
  split at h
  · cases hp : prX l.length 1 l (cfZ, []) with
    | inl x => rw [hp] at h; cases h
    | inr st =>
      rw [hp] at h
      dsimp only at h
      split at h
      · cases h
      · rename_i hz
        injection h with h
        subst h
        obtain ⟨hG, hB⟩ := prX_good l.length l (cfZ, []) _ 1 (Nat.le_refl _) ⟨.inl rfl, by simp⟩ (by simp) hp
        exact ⟨hG.1.resolve_left hz, hG.2, hB⟩
  · cases h
theorem prX_line (a b : List UInt8) (k : Nat) (st : Cf × List Mv) (h : ∀ x ∈ a, x ≠ 10) : prX (a ++ 10 :: b).length k (a ++ 10 :: b) st = if lnE st (words a) = 0 then prX b.length (k + 1) b (lnS st (words a)) else .inl (k, lnE st (words a)) := by
  have hc := cut_nl a b h
  generalize hl : a ++ 10 :: b = l at *
  cases l with
  | nil => have := congrArg List.length hl; simp at this
  | cons c r => rw [prX_cons, hc]
/-- The last line, without a newline. -/
theorem cut_no (a : List UInt8) (h : ∀ x ∈ a, x ≠ 10) : Lib.cut a [10] = (a, [], false) := by
  have e : Lib.index a [10] = -1 := by rw [Lib.index_one]; exact ib_no 10 a h
  unfold Lib.cut
  rw [e, if_neg (by omega)]
theorem prX_last (a : List UInt8) (k : Nat) (st : Cf × List Mv) (ha : a ≠ []) (h : ∀ x ∈ a, x ≠ 10) (hk : lnE st (words a) = 0) : prX a.length k a st = .inr (lnS st (words a)) := by
  cases a with
  | nil => exact absurd rfl ha
  | cons c r => rw [prX_cons, cut_no _ h, if_pos hk]; rfl
/-- How many newlines. -/
def nls (l : List UInt8) : Nat := l.count 10
theorem nls_app (a b : List UInt8) : nls (a ++ b) = nls a + nls b := by simp [nls]
theorem nls_no (a : List UInt8) (h : ∀ x ∈ a, x ≠ 10) : nls a = 0 := List.count_eq_zero.2 (fun h' => h 10 h' rfl)
theorem ahead_lines (cf : Cf) (hcf : cfgC cf = true) (rest : List UInt8) : ∀ (n : Nat) (ms done : List Mv) (k : Nat), ms.length ≤ n → (∀ m ∈ ms, MvB m) → done.length + ms.length ≤ 65536 → prX (lines ms ++ rest).length k (lines ms ++ rest) (cf, done) = prX rest.length (k + nls (lines ms)) rest (cf, done ++ ms)
  | n, [], done, k, _, _, _ => by simp [lines, linesF, nls]
  | 0, m :: r, done, k, h, _, _ => by simp at h
  | n + 1, m :: r, done, k, h, hm, hl => by
    obtain ⟨p1, p2⟩ := lineOf_pos m r
    obtain ⟨ws, e1, e2, e3, e4, e5, e6⟩ := (ln_line cf.c0.toNat done m r (hm m (List.mem_cons_self ..)) hl).ex
    have hwj := words_join ws e2
    have hlnE : lnE (cf, done) (words (Lib.join ws [32])) = 0 := by
      rw [hwj]; unfold lnE; rw [if_neg e4]; dsimp only; rw [if_neg (cfgC_ne hcf)]; exact e5
    have hlnS : lnS (cf, done) (words (Lib.join ws [32])) = (cf, done ++ (m :: r).take (lineOf m r).2) := by
      rw [hwj]; unfold lnS; rw [if_neg e4]; dsimp only; rw [if_neg (cfgC_ne hcf), e6]
    have htx : lines (m :: r) ++ rest = Lib.join ws [32] ++ 10 :: (lines ((m :: r).drop (lineOf m r).2) ++ rest) := by rw [lines_cons, e1]; simp
    have hnl : nls (lines (m :: r)) = 1 + nls (lines ((m :: r).drop (lineOf m r).2)) := by
      rw [lines_cons, e1, nls_app, nls_app, nls_no _ (join_no ws e3)]; simp [nls]
    rw [htx, prX_line _ _ _ _ (join_no ws e3), if_pos hlnE, hlnS, hnl]
    have hd : ((m :: r).drop (lineOf m r).2).length ≤ n := by simp at h ⊢; omega
    rw [ahead_lines cf hcf rest n _ _ (k + 1) hd (fun x hx => hm x (List.mem_of_mem_drop hx)) (by
      rw [List.length_append, List.length_take, List.length_drop]; omega)]
    rw [List.append_assoc, List.take_append_drop, Nat.add_assoc]
/-- Whatever stands behind a script that is printed. -/
theorem ahead (c : Cf) (ms : List Mv) (rest : List UInt8) (hc : cfgC c = true) (hm : ∀ m ∈ ms, MvB m) (hl : ms.length ≤ 65536) : prX (prints (cfL c) ms ++ rest).length 1 (prints (cfL c) ms ++ rest) (cfZ, []) = prX rest.length (1 + nls (prints (cfL c) ms)) rest (c, ms) := by
  obtain ⟨ws, e1, e2, e3, e4, e5, e6⟩ := mac_line c hc
  have hwj := words_join ws e2
  have hp : prints (cfL c) ms ++ rest = Lib.join ws [32] ++ 10 :: (lines ms ++ rest) := by unfold prints; rw [e1]; simp
  have hnl : nls (prints (cfL c) ms) = 1 + nls (lines ms) := by unfold prints; rw [e1, nls_app, nls_app, nls_no _ (join_no ws e3)]; simp [nls]
  have hlnE : lnE (cfZ, []) (words (Lib.join ws [32])) = 0 := by rw [hwj]; unfold lnE; rw [if_neg e4, if_pos rfl]; exact e5
  have hlnS : lnS (cfZ, []) (words (Lib.join ws [32])) = (c, []) := by rw [hwj]; unfold lnS; rw [if_neg e4, if_pos rfl, e6]
  rw [hp, prX_line _ _ _ _ (join_no ws e3), if_pos hlnE, hlnS, ahead_lines c hc rest ms.length ms [] 2 (Nat.le_refl _) hm (by simpa using hl), hnl]
  simp only [List.nil_append]
  congr 1
  omega
end Go.Proofs.YtfhkgeoionkonaaGreatDoor.Sc
/-
  SCRIPT, pure: lines that are wrong behind a script; steps and rounds as lines.
-/
namespace Go.Proofs.YtfhkgeoionkonaaGreatDoor.Sc
open Go.RowKit
open Go.Lib (itoa)
set_option linter.unusedVariables false
set_option linter.unusedSimpArgs false
set_option maxRecDepth 100000
theorem bad_push (T : Nat) (ms : List Mv) : entE T ms [[48], [112, 117, 115, 104]] = 170 := by
  have h : (mean T [[48], [112, 117, 115, 104]] (numsL [[48], [112, 117, 115, 104]])).1 = [] := by
    unfold mean
    rw [if_neg (by decide), if_neg (by decide), if_neg (by decide), if_neg (by decide)]
    decide +kernel
  unfold entE
  rw [if_pos h]
theorem bad_digit (T : Nat) (ms : List Mv) : entE T ms [[48], [112, 117, 115, 104], [48, 53]] = 171 := by
  have h : (mean T [[48], [112, 117, 115, 104], [48, 53]] (numsL [[48], [112, 117, 115, 104], [48, 53]])).1 ≠ [] := by
    unfold mean
    rw [if_neg (by decide), if_neg (by decide), if_neg (by decide), if_neg (by decide)]
    decide +kernel
  have h2 : wholeL [[48], [112, 117, 115, 104], [48, 53]] = false := by decide +kernel
  unfold entE
  rw [if_neg h, if_pos h2]
theorem bad_range (T : Nat) (ms : List Mv) : entE T ms [[48], [46], [48]] = 2 := by
  have hm : mean T [[48], [46], [48]] (numsL [[48], [46], [48]]) = ([stp 0], 0) := by
    unfold mean
    rw [if_neg (by decide), if_pos (by decide)]
    have : numsL [[48], [46], [48]] = [0, 0] := by decide +kernel
    rw [this]
    rfl
  have h2 : ¬ wholeL [[48], [46], [48]] = false := by decide +kernel
  unfold entE
  rw [hm]
  dsimp only
  rw [if_neg (by simp), if_neg h2, if_pos (by omega)]
/-- A line that is wrong, behind a script. -/
theorem bad_line (c : Cf) (ms : List Mv) (a behind : List UInt8) (ws : List (List UInt8)) (er : Int) (hc : cfgC c = true) (hm : ∀ m ∈ ms, MvB m) (hl : ms.length ≤ 65536) (ha : ∀ x ∈ a, x ≠ 10) (hw : words a = ws) (hne : ws ≠ []) (he : entE c.c0.toNat ms ws = er) (h0 : er ≠ 0) (ht : (prints (cfL c) ms ++ (a ++ 10 :: behind)).length ≤ 1048576) : parseX (prints (cfL c) ms ++ (a ++ 10 :: behind)) = .inl (1 + nls (prints (cfL c) ms), er) := by
  have hk : lnE (c, ms) (words a) = er := by rw [hw]; unfold lnE; rw [if_neg hne]; dsimp only; rw [if_neg (cfgC_ne hc)]; exact he
  unfold parseX
  rw [if_pos ht, ahead c ms _ hc hm hl, prX_line _ _ _ _ ha, hk, if_neg h0]
theorem bad_1 (c : Cf) (ms : List Mv) (behind : List UInt8) (hc : cfgC c = true) (hm : ∀ m ∈ ms, MvB m) (hl : ms.length ≤ 65536) (ht : (prints (cfL c) ms ++ ([48, 32, 112, 117, 115, 104] ++ 10 :: behind)).length ≤ 1048576) : parseX (prints (cfL c) ms ++ ([48, 32, 112, 117, 115, 104] ++ 10 :: behind)) = .inl (1 + nls (prints (cfL c) ms), 170) :=
  bad_line c ms _ behind [[48], [112, 117, 115, 104]] 170 hc hm hl (by decide) (by decide) (by simp) (bad_push _ _) (by decide) ht
theorem bad_2 (c : Cf) (ms : List Mv) (behind : List UInt8) (hc : cfgC c = true) (hm : ∀ m ∈ ms, MvB m) (hl : ms.length ≤ 65536) (ht : (prints (cfL c) ms ++ ([48, 32, 112, 117, 115, 104, 32, 48, 53] ++ 10 :: behind)).length ≤ 1048576) : parseX (prints (cfL c) ms ++ ([48, 32, 112, 117, 115, 104, 32, 48, 53] ++ 10 :: behind)) = .inl (1 + nls (prints (cfL c) ms), 171) :=
  bad_line c ms _ behind [[48], [112, 117, 115, 104], [48, 53]] 171 hc hm hl (by decide) (by decide) (by simp) (bad_digit _ _) (by decide) ht
theorem bad_3 (c : Cf) (ms : List Mv) (behind : List UInt8) (hc : cfgC c = true) (hm : ∀ m ∈ ms, MvB m) (hl : ms.length ≤ 65536) (ht : (prints (cfL c) ms ++ ([48, 32, 46, 32, 48] ++ 10 :: behind)).length ≤ 1048576) : parseX (prints (cfL c) ms ++ ([48, 32, 46, 32, 48] ++ 10 :: behind)) = .inl (1 + nls (prints (cfL c) ms), 2) :=
  bad_line c ms _ behind [[48], [46], [48]] 2 hc hm hl (by decide) (by decide) (by simp) (bad_range _ _) (by decide) ht
/-- A good line, with others behind it. -/
theorem ln_go {cf : Cf} {done : List Mv} {L : List UInt8} {mv : List Mv} (hcf : cfgC cf = true) (h : Ln cf.c0.toNat done L mv) (b : List UInt8) (k : Nat) : prX (L ++ b).length k (L ++ b) (cf, done) = prX b.length (k + 1) b (cf, done ++ mv) := by
  obtain ⟨ws, e1, e2, e3, e4, e5, e6⟩ := h.ex
  have hwj := words_join ws e2
  have hlnE : lnE (cf, done) (words (Lib.join ws [32])) = 0 := by
    rw [hwj]; unfold lnE; rw [if_neg e4]; dsimp only; rw [if_neg (cfgC_ne hcf)]; exact e5
  have hlnS : lnS (cf, done) (words (Lib.join ws [32])) = (cf, done ++ mv) := by
    rw [hwj]; unfold lnS; rw [if_neg e4]; dsimp only; rw [if_neg (cfgC_ne hcf), e6]
  have e : L ++ b = Lib.join ws [32] ++ 10 :: b := by rw [e1]; simp
  rw [e, prX_line _ _ _ _ (join_no ws e3), if_pos hlnE, hlnS]
/-- A good line at the end, without its newline. -/
theorem ln_last {cf : Cf} {done : List Mv} {L : List UInt8} {mv : List Mv} (hcf : cfgC cf = true) (h : Ln cf.c0.toNat done (L ++ [10]) mv) (hL : L ≠ []) (k : Nat) : prX L.length k L (cf, done) = .inr (cf, done ++ mv) := by
  obtain ⟨ws, e1, e2, e3, e4, e5, e6⟩ := h.ex
  have hwj := words_join ws e2
  have eL : L = Lib.join ws [32] := List.append_cancel_right e1
  have hlnE : lnE (cf, done) (words (Lib.join ws [32])) = 0 := by
    rw [hwj]; unfold lnE; rw [if_neg e4]; dsimp only; rw [if_neg (cfgC_ne hcf)]; exact e5
  have hlnS : lnS (cf, done) (words (Lib.join ws [32])) = (cf, done ++ mv) := by
    rw [hwj]; unfold lnS; rw [if_neg e4]; dsimp only; rw [if_neg (cfgC_ne hcf), e6]
  subst eL
  rw [prX_last _ _ _ hL (join_no ws e3) hlnE, hlnS]
theorem star_ok : Gw [42] ∧ (∀ c ∈ ([42] : List UInt8), c ≠ 10) ∧ numLike [42] = false := ⟨(gw_of [42] (by decide)).1, (gw_of [42] (by decide)).2, by decide⟩
theorem ln_round (T : Nat) (done : List Mv) (n : Nat) (hT : 1 ≤ T) (h1 : 1 ≤ n) (hl : done.length + n * T ≤ 65536) : Ln T done (fil fRounds [(n : Int)] ++ [10]) (List.replicate n (rnds T)).flatten := by
  obtain ⟨g1, g2, g3⟩ := star_ok
  have hnT : n ≤ n * T := Nat.le_mul_of_pos_right _ hT
  have hb : Bd (n : Int) := by unfold Bd; omega
  have hf : formL [[42], itoa (n : Int)] = fRounds := by unfold formL; simp only [List.map_cons, List.map_nil, nrm_itoa _ hb, nrm_w g3]; decide
  have hn : numsL [[42], itoa (n : Int)] = [(n : Int)] := by rw [nums_w g3, nums_i hb, nums_nil]
  have hw : wholeL [[42], itoa (n : Int)] = true := by rw [whole_w g3, whole_i hb, whole_nil]
  have hm : mean T [[42], itoa (n : Int)] (numsL [[42], itoa (n : Int)]) = (rnds T, ((n : Nat) : Int)) := by unfold mean; rw [hf, if_neg (by decide), if_neg (by decide), if_pos rfl, hn]; rfl
  have hne : rnds T ≠ [] := fun e => by have := congrArg List.length e; rw [rnds_len] at this; simp at this; omega
  obtain ⟨e1, e2⟩ := ent_of (done := done) hm hw hne h1 (by rw [rnds_len]; exact hl)
  refine ⟨[[42], itoa (n : Int)], ?_, ?_, ?_, by simp, e1, e2⟩
  · simp [fRounds, fil, Lib.join, List.intercalate]
  · intro x hx
    simp at hx
    rcases hx with rfl | rfl
    · exact g1
    · exact gw_itoa _ hb
  · intro x hx
    simp at hx
    rcases hx with rfl | rfl
    · exact g2
    · exact i_ne _ hb
/-- n lines of one step. -/
def ones (th : Int) : Nat → List UInt8
  | 0 => []
  | n + 1 => ones th n ++ (itoa th ++ [32, 46, 10])
theorem ones_cons (th : Int) : ∀ n, ones th (n + 1) = (itoa th ++ [32, 46, 10]) ++ ones th n
  | 0 => by simp [ones]
  | n + 1 => by
    show ones th (n + 1) ++ _ = _
    rw [ones_cons th n, List.append_assoc]
    congr 1
    exact ones_cons th n
theorem step_fil (th : Int) : fil fStep [th] ++ [10] = itoa th ++ [32, 46, 10] := by simp [fStep, fil]
theorem ones_go (cf : Cf) (hcf : cfgC cf = true) (th : Int) (h : Bd th) : ∀ (n : Nat) (done : List Mv) (k : Nat), done.length + n ≤ 65536 → prX (ones th n).length k (ones th n) (cf, done) = .inr (cf, done ++ List.replicate n (stp th))
  | 0, done, k, _ => by simp [ones, prX]
  | n + 1, done, k, hl => by
    have hs := ln_step cf.c0.toNat done th h (by omega)
    rw [step_fil] at hs
    rw [ones_cons, ln_go hcf hs, ones_go cf hcf th h n (done ++ [stp th]) (k + 1) (by simp; omega)]
    rw [List.append_assoc, List.replicate_succ]
    rfl
theorem ones_len (th : Int) : ∀ n, (ones th n).length = n * ((itoa th).length + 3)
  | 0 => by simp [ones]
  | n + 1 => by
    show (ones th n ++ _).length = _
    rw [List.length_append, ones_len th n, Nat.succ_mul]
    simp
/-- The machine's line by itself. -/
theorem head_len (c : Cf) (hc : cfgC c = true) : (prints (cfL c) []).length ≤ 2000 := by
  obtain ⟨b0, b1, b2, b3, b4, b5, b6⟩ := cf_bd hc
  have h1 := fil_len fMachine (cfL c) (by intro x hx; simp [cfL] at hx; rcases hx with rfl | rfl | rfl | rfl | rfl | rfl | rfl <;> assumption)
  have e : fMachine.length ≤ 80 := by decide
  have e2 : fMachine.length = 72 := by decide
  unfold prints
  simp only [List.length_append, List.length_cons, List.length_nil, lines, linesF]
  have e3 : (cfL c).length = 7 := rfl
  omega
theorem px_of {c : Cf} {rest : List UInt8} {ms : List Mv} (hc : cfgC c = true) (hr : rest.length ≤ 100000) (h : ∀ k, prX rest.length k rest (c, []) = .inr (c, ms)) : parseX (prints (cfL c) [] ++ rest) = .inr (c, ms) := by
  have hh := head_len c hc
  unfold parseX
  rw [if_pos (by rw [List.length_append]; omega), ahead c [] rest hc (by simp) (by simp), h]
  dsimp only
  rw [if_neg (cfgC_ne hc)]
theorem par_ones (c : Cf) (hc : cfgC c = true) (th : Int) (h : Bd th) (n : Nat) (hn : n ≤ 300) : parseX (prints (cfL c) [] ++ ones th n) = .inr (c, List.replicate n (stp th)) := by
  refine px_of hc ?_ (fun k => ?_)
  · rw [ones_len]
    have := itoa_len th h
    have h2 : n * ((itoa th).length + 3) ≤ 300 * 24 := Nat.mul_le_mul hn (by omega)
    omega
  · rw [ones_go c hc th h n [] k (by simp; omega)]; rfl
theorem par_steps (c : Cf) (hc : cfgC c = true) (th : Int) (h : Bd th) (n : Nat) (h1 : 1 ≤ n) (hn : n ≤ 300) : parseX (prints (cfL c) [] ++ (itoa th ++ [32, 46, 32] ++ itoa (n : Int))) = .inr (c, List.replicate n (stp th)) := by
  have hb : Bd (n : Int) := by unfold Bd; omega
  refine px_of hc ?_ (fun k => ?_)
  · have := itoa_len th h
    have := itoa_len (n : Int) hb
    simp
    omega
  · have hs := ln_steps c.c0.toNat [] th n h h1 (by simp; omega)
    have e : fil fSteps [th, (n : Int)] = itoa th ++ [32, 46, 32] ++ itoa (n : Int) := by simp [fSteps, fil]
    rw [e] at hs
    exact ln_last hc hs (by simp) k
theorem par_rounds (c : Cf) (hc : cfgC c = true) (n : Nat) (h1 : 1 ≤ n) (hn : n ≤ 300) : parseX (prints (cfL c) [] ++ ([42, 32] ++ itoa (n : Int))) = .inr (c, (List.replicate n (rnds c.c0.toNat)).flatten) := by
  have hb : Bd (n : Int) := by unfold Bd; omega
  have hc0 := cfgC_c0 hc
  refine px_of hc ?_ (fun k => ?_)
  · have := itoa_len (n : Int) hb
    simp
    omega
  · have h2 : n * c.c0.toNat ≤ 300 * 16 := Nat.mul_le_mul hn (by omega)
    have hs := ln_round c.c0.toNat [] n (by omega) h1 (by simp; omega)
    have e : fil fRounds [(n : Int)] = [42, 32] ++ itoa (n : Int) := by simp [fRounds, fil]
    rw [e] at hs
    exact ln_last hc hs (by simp) k
/-- The moves of rounds, one by one. -/
theorem rnds_get (T n i : Nat) (hT : 1 ≤ T) (hi : i < n * T) : ((List.replicate n (rnds T)).flatten)[i]? = some (stp ((i % T : Nat) : Int)) := by
  induction n generalizing i with
  | zero => simp at hi
  | succ n ih =>
    rw [List.replicate_succ, List.flatten_cons]
    by_cases h : i < T
    · rw [List.getElem?_append_left (by rw [rnds_len]; exact h)]
      simp [rnds, h, Nat.mod_eq_of_lt h]
    · rw [List.getElem?_append_right (by rw [rnds_len]; omega), rnds_len, ih (i - T) (by rw [Nat.succ_mul] at hi; omega)]
      rw [← Nat.mod_eq_sub_mod (by omega)]
end Go.Proofs.YtfhkgeoionkonaaGreatDoor.Sc
