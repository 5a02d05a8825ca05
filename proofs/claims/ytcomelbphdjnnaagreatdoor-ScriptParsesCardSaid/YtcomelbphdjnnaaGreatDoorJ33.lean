import Derived.Test.YtcomelbphdjnnaaGreatDoorJ32
import Derived.Test.YtcomelbphdjnnaaGreatDoorJ17
/-
  SCRIPT: SameMoves of rows that are one; how long a text is.
-/
namespace Go.Proofs.YtcomelbphdjnnaaGreatDoor.Sc
open Go.RowKit Mr
set_option linter.unusedVariables false
set_option linter.unusedSimpArgs false
set_option maxRecDepth 100000
set_option maxHeartbeats 8000000 in
theorem sameMoves_eq (ms : List Mv) (a a' : Option Addr) (n c c' : Nat) (w : World) (h1 : MvAt w a n ms) (h2 : MvAt w a' n ms) (hn : n ≤ 1000000) :
    Calls Tryz.prog 12 #[.slice a n c, .slice a' n c'] w fun e w' => e = .returned (.bool true) ∧ Below w.heap.size w w' := by
  have z : ((n : Int) != (n : Int)) = false := by simp
  have hl := Mr.hid h1.1
  replace h1 := Mr.hid h1
  replace h2 := Mr.hid h2
  go_enter Tryz.func12, Tryz.ntmps12
  go_wp2
  go_loopg [5] n (fun gk s5 wr => ∃ i : Nat, s5 = .int .i64 (i : Int) ∧ i + gk = n ∧ Below w.heap.size w wr)
  case atStart => exact ⟨0, rfl, by omega, Below.refl _ _⟩
  case round =>
    obtain ⟨i, rfl, hi, B⟩ := hrel
    by_cases hlt : i < n
    · have hli : i < ms.length := by have := hl.out; omega
      obtain ⟨x, hx⟩ : ∃ x, ms[i]? = some x := ⟨ms[i], List.getElem?_eq_getElem hli⟩
      have hne : ms ≠ [] := by intro e; rw [e] at hli; simp at hli
      obtain ⟨g, o, rfl, hg, hc⟩ := (h1.out.below B).2.resolve_left hne
      obtain ⟨g', o', rfl, hg', hc'⟩ := (h2.out.below B).2.resolve_left hne
      obtain ⟨d0, d1, d2, d3⟩ := hc i hli
      obtain ⟨f0, f1, f2, f3⟩ := hc' i hli
      rw [hx] at d0 d1 d2 d3 f0 f1 f2 f3
      simp only [Option.getD_some] at d0 d1 d2 d3 f0 f1 f2 f3
      obtain ⟨th, op, ar, da⟩ := x
      dsimp only at d0 d1 d2 d3 f0 f1 f2 f3
      have hlI : (i : Int) < (n : Int) := by omega
      have dl : decide ((i : Int) < (n : Int)) = true := by simpa using hlI
      have hw : IntKind.i64.wrap ((i : Int) + 1) = (i : Int) + 1 := i64x _ (by omega) (by omega)
      have hi' := Mr.hid hi
      replace B := Mr.hid B
      clear hc hc' hx hli hi hne
      go_upto_region 6 with fail
      go_quiet (fail)
      replace B := Mr.hid (B.out.trans ⟨rfl, rfl, rfl, Nat.le_refl _, fun _ _ => rfl⟩ : Below w.heap.size w (wr.drewN nq))
      clear d0 d1 d2 d3 f0 f1 f2 f3 hg hg'
      generalize wr.drewN nq = w6 at *
      go_wp2
      go_roundg (gk - 1)
      case measure => have := hi'.out; omega
      case rel => exact ⟨i + 1, by simp, by have := hi'.out; omega, B.out⟩
    · obtain rfl : i = n := by omega
      have dl : decide ((i : Int) < (i : Int)) = false := by simp
      have dl2 : ¬ (i : Int) < (i : Int) := by omega
      replace B := Mr.hid B
      clear hi hlt
      go_wp2
      go_ret
      exact ⟨rfl, B.out⟩
theorem fCall_len (k : Nat) (hk : k < 21) : (fCall k).length ≤ 20 := by
  have := all_below (P := fun k => decide ((fCall k).length ≤ 20)) (n := 21) (by decide +kernel) hk
  simpa using this
theorem callLn_len2 (m : Mv) (h : MvB m) : (callLn m).length ≤ 421 := by
  obtain ⟨h1, h2, h3, h4⟩ := h
  have ho := fil_len fOp [m.th, m.op, m.arg, m.data] (by simp; exact ⟨h1, h2, h3, h4⟩)
  have e : fOp.length = 10 := rfl
  unfold callLn
  split
  · rename_i k hk
    obtain ⟨hk1, _⟩ := rowOf_some hk
    have z3 := fCall_len k hk1
    have hf := fil_len (fCall k) [m.th, m.arg, m.data] (by simp; exact ⟨h1, h3, h4⟩)
    split <;> simp <;> omega
  · simp; omega
theorem lineOf_len2 (m : Mv) (r : List Mv) (h : MvB m) (hr : (m :: r).length ≤ 1000000000000) : (lineOf m r).1.length ≤ 421 := by
  have h1 := callLn_len2 m h
  have h2 := fil_len fStep [m.th] (by simp; exact h.1)
  have hl := stepsOf_le m.th (m :: r)
  have h3 := fil_len fSteps [m.th, (stepsOf m.th (m :: r) : Int)] (by simp; exact ⟨h.1, by unfold Bd; omega⟩)
  have e1 : fStep.length = 3 := rfl
  have e2 : fSteps.length = 5 := rfl
  unfold lineOf
  split
  · exact h1
  · split <;> simp <;> omega
theorem lines_len : ∀ (n : Nat) (ms : List Mv), ms.length ≤ n → (∀ m ∈ ms, MvB m) → ms.length ≤ 1000000 → (lines ms).length ≤ 421 * ms.length
  | n, [], _, _, _ => by simp [lines, linesF]
  | 0, m :: r, h, _, _ => by simp at h
  | n + 1, m :: r, h, hm, hl => by
    obtain ⟨p1, p2⟩ := lineOf_pos m r
    have h1 := lineOf_len2 m r (hm m (List.mem_cons_self ..)) (by omega)
    have hd : ((m :: r).drop (lineOf m r).2).length ≤ n := by simp at h ⊢; omega
    have h2 := lines_len n _ hd (fun x hx => hm x (List.mem_of_mem_drop hx)) (by simp at hl ⊢; omega)
    rw [lines_cons, List.length_append]
    rw [List.length_drop] at h2
    have h3 : 421 * ((m :: r).length - (lineOf m r).2) + 421 ≤ 421 * (m :: r).length := by omega
    omega
theorem prints_len (c : Cf) (ms : List Mv) (hc : cfgC c = true) (hm : ∀ m ∈ ms, MvB m) (hl : ms.length ≤ 100) : (prints (cfL c) ms).length ≤ 1048576 := by
  obtain ⟨b0, b1, b2, b3, b4, b5, b6⟩ := cf_bd hc
  have h1 := fil_len fMachine (cfL c) (by intro x hx; simp [cfL] at hx; rcases hx with rfl | rfl | rfl | rfl | rfl | rfl | rfl <;> assumption)
  have h2 := lines_len ms.length ms (Nat.le_refl _) hm (by omega)
  have e : fMachine.length ≤ 80 := by decide
  unfold prints
  simp only [List.length_append, List.length_cons, List.length_nil]
  omega
end Go.Proofs.YtcomelbphdjnnaaGreatDoor.Sc
/-
  SCRIPT, pure: what is read may be; lines ahead of others; lines without a newline.
-/
namespace Go.Proofs.YtcomelbphdjnnaaGreatDoor.Sc
open Go.RowKit
open Go.Lib (itoa)
set_option linter.unusedVariables false
set_option linter.unusedSimpArgs false
set_option maxRecDepth 100000
theorem numV_Bd (l : List UInt8) : Bd (numV l) := by have := numV_bd l; unfold Bd; omega
theorem nums_Bd (ws : List (List UInt8)) (j : Nat) : Bd ((numsL ws).getD j 0) := by
  rw [List.getD_eq_getElem?_getD]
  cases h : (numsL ws)[j]? with
  | none => unfold Bd; simp
  | some x =>
    have := List.mem_of_getElem? h
    simp only [numsL, List.mem_map] at this
    obtain ⟨l, _, rfl⟩ := this
    exact numV_Bd l
theorem stp_B {t : Int} (h : Bd t) : MvB (stp t) := ⟨h, by unfold Bd; simp [stp], by unfold Bd; simp [stp], by unfold Bd; simp [stp]⟩
theorem opA_Bd (k : Nat) (hk : k < 21) : Bd (opA k) := by
  have := all_below (P := fun k => decide (-9223372036854775808 ≤ opA k) && decide (opA k ≤ 9223372036854775807)) (n := 21) (by decide +kernel) hk
  unfold Bd
  simpa using this
theorem mean_B (T : Nat) (ws : List (List UInt8)) (hT : T ≤ 1000) : ∀ m ∈ (mean T ws (numsL ws)).1, MvB m := by
  unfold mean
  split
  · intro m hm; simp at hm; subst hm; exact stp_B (nums_Bd ws 0)
  · split
    · intro m hm; simp at hm; subst hm; exact stp_B (nums_Bd ws 0)
    · split
      · intro m hm
        simp only [rnds, List.mem_map, List.mem_range] at hm
        obtain ⟨i, hi, rfl⟩ := hm
        exact stp_B (by unfold Bd; omega)
      · split
        · intro m hm
          simp at hm
          subst hm
          have h0 := nums_Bd ws 0
          have h1 := nums_Bd ws 1
          have h2 := nums_Bd ws 2
          have h3 := nums_Bd ws 3
          simp only [List.getD_eq_getElem?_getD] at h0 h1 h2 h3
          exact ⟨h0, h1, h2, h3⟩
        · intro m hm
          dsimp only at hm
          by_cases h2 : ws.length < 2
          · unfold callM at hm; rw [if_pos h2] at hm; simp at hm
          · rw [callM_two h2] at hm
            cases hr : rowN (ws.getD 1 []) with
            | none => rw [hr] at hm; simp at hm
            | some k =>
              rw [hr] at hm
              dsimp only at hm
              split at hm
              · simp only [List.mem_singleton] at hm
                subst hm
                exact ⟨nums_Bd ws 0, opA_Bd k (rowN_some hr).1, nums_Bd ws 1, nums_Bd ws 2⟩
              · simp at hm
theorem entM_B {T : Nat} {ms : List Mv} {ws : List (List UInt8)} (hT : T ≤ 1000) (h : ∀ m ∈ ms, MvB m) : ∀ m ∈ entM T ms ws, MvB m := by
  intro m hm
  unfold entM at hm
  rcases List.mem_append.1 hm with hm | hm
  · exact h m hm
  · rw [List.mem_flatten] at hm
    obtain ⟨l, hl, hm⟩ := hm
    rw [List.mem_replicate] at hl
    rw [hl.2] at hm
    exact mean_B T ws hT m hm
theorem lnS_B {st : Cf × List Mv} {ws : List (List UInt8)} (hG : Gs st) (h : ∀ m ∈ st.2, MvB m) : ∀ m ∈ (lnS st ws).2, MvB m := by
  unfold lnS
  split
  · exact h
  · split
    · exact h
    · rename_i h0 h1
      have := cfgC_c0 (hG.1.resolve_left h1)
      exact entM_B (by omega) h
theorem prX_good : ∀ (n : Nat) (l : List UInt8) (st fin : Cf × List Mv) (k : Nat), l.length ≤ n → Gs st → (∀ m ∈ st.2, MvB m) → prX l.length k l st = .inr fin → Gs fin ∧ ∀ m ∈ fin.2, MvB m
  | n, [], st, fin, k, _, hG, hB, h => by simp [prX] at h; subst h; exact ⟨hG, hB⟩
  | 0, c :: r, st, fin, k, hn, hG, hB, h => by simp at hn
  | n + 1, c :: r, st, fin, k, hn, hG, hB, h => by
    have hc := (cut_len c r).1
    rw [prX_cons] at h
    simp only [List.length_cons] at hc hn
    split at h
    · rename_i hk
      exact prX_good n _ _ fin _ (by omega) (hG.next hk) (lnS_B hG hB) h
    · cases h
/-- What is read may be. -/
theorem parseX_good {l : List UInt8} {c : Cf} {ms : List Mv} (h : parseX l = .inr (c, ms)) : cfgC c = true ∧ ms.length ≤ 65536 ∧ ∀ m ∈ ms, MvB m := by
  unfold parseX at h
  split at h
  · cases hp : prX l.length 1 l (cfZ, []) with
    | inl x => rw [hp] at h; cases h
    | inr st =>
      rw [hp] at h
      dsimp only at h
      split at h
      · cases h
      · rename_i hz
        injection h with h
        subst h
        obtain ⟨hG, hB⟩ := prX_good l.length l (cfZ, []) _ 1 (Nat.le_refl _) ⟨.inl rfl, by simp⟩ (by simp) hp
        exact ⟨hG.1.resolve_left hz, hG.2, hB⟩
  · cases h
theorem prX_line (a b : List UInt8) (k : Nat) (st : Cf × List Mv) (h : ∀ x ∈ a, x ≠ 10) : prX (a ++ 10 :: b).length k (a ++ 10 :: b) st = if lnE st (words a) = 0 then prX b.length (k + 1) b (lnS st (words a)) else .inl (k, lnE st (words a)) := by
  have hc := cut_nl a b h
  generalize hl : a ++ 10 :: b = l at *
  cases l with
  | nil => have := congrArg List.length hl; simp at this
  | cons c r => rw [prX_cons, hc]
/-- The last line, without a newline. -/
theorem cut_no (a : List UInt8) (h : ∀ x ∈ a, x ≠ 10) : Lib.cut a [10] = (a, [], false) := by
  have e : Lib.index a [10] = -1 := by rw [Lib.index_one]; exact ib_no 10 a h
  unfold Lib.cut
  rw [e, if_neg (by omega)]
theorem prX_last (a : List UInt8) (k : Nat) (st : Cf × List Mv) (ha : a ≠ []) (h : ∀ x ∈ a, x ≠ 10) (hk : lnE st (words a) = 0) : prX a.length k a st = .inr (lnS st (words a)) := by
  cases a with
  | nil => exact absurd rfl ha
  | cons c r => rw [prX_cons, cut_no _ h, if_pos hk]; rfl
/-- How many newlines. -/
def nls (l : List UInt8) : Nat := l.count 10
theorem nls_app (a b : List UInt8) : nls (a ++ b) = nls a + nls b := by simp [nls]
theorem nls_no (a : List UInt8) (h : ∀ x ∈ a, x ≠ 10) : nls a = 0 := List.count_eq_zero.2 (fun h' => h 10 h' rfl)
theorem ahead_lines (cf : Cf) (hcf : cfgC cf = true) (rest : List UInt8) : ∀ (n : Nat) (ms done : List Mv) (k : Nat), ms.length ≤ n → (∀ m ∈ ms, MvB m) → done.length + ms.length ≤ 65536 → prX (lines ms ++ rest).length k (lines ms ++ rest) (cf, done) = prX rest.length (k + nls (lines ms)) rest (cf, done ++ ms)
  | n, [], done, k, _, _, _ => by simp [lines, linesF, nls]
  | 0, m :: r, done, k, h, _, _ => by simp at h
  | n + 1, m :: r, done, k, h, hm, hl => by
    obtain ⟨p1, p2⟩ := lineOf_pos m r
    obtain ⟨ws, e1, e2, e3, e4, e5, e6⟩ := (ln_line cf.c0.toNat done m r (hm m (List.mem_cons_self ..)) hl).ex
    have hwj := words_join ws e2
    have hlnE : lnE (cf, done) (words (Lib.join ws [32])) = 0 := by
      rw [hwj]; unfold lnE; rw [if_neg e4]; dsimp only; rw [if_neg (cfgC_ne hcf)]; exact e5
    have hlnS : lnS (cf, done) (words (Lib.join ws [32])) = (cf, done ++ (m :: r).take (lineOf m r).2) := by
      rw [hwj]; unfold lnS; rw [if_neg e4]; dsimp only; rw [if_neg (cfgC_ne hcf), e6]
    have htx : lines (m :: r) ++ rest = Lib.join ws [32] ++ 10 :: (lines ((m :: r).drop (lineOf m r).2) ++ rest) := by rw [lines_cons, e1]; simp
    have hnl : nls (lines (m :: r)) = 1 + nls (lines ((m :: r).drop (lineOf m r).2)) := by
      rw [lines_cons, e1, nls_app, nls_app, nls_no _ (join_no ws e3)]; simp [nls]
    rw [htx, prX_line _ _ _ _ (join_no ws e3), if_pos hlnE, hlnS, hnl]
    have hd : ((m :: r).drop (lineOf m r).2).length ≤ n := by simp at h ⊢; omega
    rw [ahead_lines cf hcf rest n _ _ (k + 1) hd (fun x hx => hm x (List.mem_of_mem_drop hx)) (by
      rw [List.length_append, List.length_take, List.length_drop]; omega)]
    rw [List.append_assoc, List.take_append_drop, Nat.add_assoc]
/-- Whatever stands behind a script that is printed. -/
theorem ahead (c : Cf) (ms : List Mv) (rest : List UInt8) (hc : cfgC c = true) (hm : ∀ m ∈ ms, MvB m) (hl : ms.length ≤ 65536) : prX (prints (cfL c) ms ++ rest).length 1 (prints (cfL c) ms ++ rest) (cfZ, []) = prX rest.length (1 + nls (prints (cfL c) ms)) rest (c, ms) := by
  obtain ⟨ws, e1, e2, e3, e4, e5, e6⟩ := mac_line c hc
  have hwj := words_join ws e2
  have hp : prints (cfL c) ms ++ rest = Lib.join ws [32] ++ 10 :: (lines ms ++ rest) := by unfold prints; rw [e1]; simp
  have hnl : nls (prints (cfL c) ms) = 1 + nls (lines ms) := by unfold prints; rw [e1, nls_app, nls_app, nls_no _ (join_no ws e3)]; simp [nls]
  have hlnE : lnE (cfZ, []) (words (Lib.join ws [32])) = 0 := by rw [hwj]; unfold lnE; rw [if_neg e4, if_pos rfl]; exact e5
  have hlnS : lnS (cfZ, []) (words (Lib.join ws [32])) = (c, []) := by rw [hwj]; unfold lnS; rw [if_neg e4, if_pos rfl, e6]
  rw [hp, prX_line _ _ _ _ (join_no ws e3), if_pos hlnE, hlnS, ahead_lines c hc rest ms.length ms [] 2 (Nat.le_refl _) hm (by simpa using hl), hnl]
  simp only [List.nil_append]
  congr 1
  omega
end Go.Proofs.YtcomelbphdjnnaaGreatDoor.Sc
