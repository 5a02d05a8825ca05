import Derived.Test.YtfhkgeoionkonaaGreatDoorJ13
import Derived.Lib.AtoiAllCases
import Derived.Lib.IndexBytes
/-
  SCRIPT, pure: numerals there and back, their words; cuts at a newline.
-/
namespace Go.Proofs.YtfhkgeoionkonaaGreatDoor.Sc
open Go.RowKit
open Go.Lib (parseUint10 parseMag atoiAll decDigits itoa)
set_option linter.unusedVariables false
set_option linter.unusedSimpArgs false
theorem pu_snoc (c : UInt8) (hc : 48 ≤ c.toNat ∧ c.toNat ≤ 57) : ∀ (l : List UInt8) (acc a : Nat), parseUint10 acc l = .ok a → a * 10 + (c.toNat - 48) < 18446744073709551616 → parseUint10 acc (l ++ [c]) = .ok (a * 10 + (c.toNat - 48))
  | [], acc, a, h, hb => by
    simp only [parseUint10] at h
    injection h with h
    subst h
    show parseUint10 acc [c] = _
    simp only [parseUint10]
    rw [if_pos hc, if_neg (by omega), if_neg (by omega)]
  | x :: r, acc, a, h, hb => by
    simp only [parseUint10] at h
    show parseUint10 acc (x :: (r ++ [c])) = _
    simp only [parseUint10]
    split at h
    · rename_i h1
      rw [if_pos h1]
      split at h
      · cases h
      · rename_i h2
        rw [if_neg h2]
        split at h
        · cases h
        · rename_i h3
          rw [if_neg h3]
          exact pu_snoc c hc r _ a h hb
    · cases h
theorem dig_nat (d : Nat) (h : d < 10) : (UInt8.ofNat (48 + d)).toNat = 48 + d := by
  rw [UInt8.toNat_ofNat']; omega
theorem dec_digs (u : Nat) : ∀ b ∈ decDigits u, 48 ≤ b.toNat ∧ b.toNat ≤ 57 := by
  induction u using Nat.strongRecOn with
  | _ u ih =>
    by_cases h : u < 10
    · rw [Lib.decDigits_one h]
      intro b hb
      rw [List.mem_singleton] at hb
      subst hb
      rw [dig_nat u h]; omega
    · rw [decDigits, dif_neg h]
      intro b hb
      rcases List.mem_append.1 hb with hb | hb
      · exact ih (u / 10) (by omega) b hb
      · rw [List.mem_singleton] at hb
        subst hb
        rw [dig_nat (u % 10) (by omega)]; omega
theorem dec_ne (u : Nat) : decDigits u ≠ [] := by
  intro h
  have := congrArg List.length h
  rw [Lib.decDigits_length] at this
  have := Lib.nDigits_pos u
  simp at *
  omega
theorem pu_dec (u : Nat) (h : u < 18446744073709551616) : parseUint10 0 (decDigits u) = .ok u := by
  induction u using Nat.strongRecOn with
  | _ u ih =>
    by_cases h1 : u < 10
    · rw [Lib.decDigits_one h1]
      have := pu_snoc (UInt8.ofNat (48 + u)) (by rw [dig_nat u h1]; omega) [] 0 0 rfl (by rw [dig_nat u h1]; omega)
      rw [dig_nat u h1] at this
      rw [show u = 0 * 10 + (48 + u - 48) by omega]
      rw [show 0 * 10 + (48 + u - 48) = u by omega] at *
      simpa using this
    · rw [decDigits, dif_neg h1]
      have := pu_snoc (UInt8.ofNat (48 + u % 10)) (by rw [dig_nat (u % 10) (by omega)]; omega) _ 0 (u / 10) (ih (u / 10) (by omega) (by omega)) (by rw [dig_nat (u % 10) (by omega)]; omega)
      rw [dig_nat (u % 10) (by omega)] at this
      rw [this]
      congr 1
      omega
theorem mag_dec (u : Nat) (h : u < 18446744073709551616) : parseMag (decDigits u) = .ok u := by
  unfold parseMag
  rw [if_neg (dec_ne u)]
  exact pu_dec u h
theorem all_dec (u : Nat) (h : u < 9223372036854775808) : atoiAll (decDigits u) = .ok (u : Int) := by
  cases e : decDigits u with
  | nil => exact absurd e (dec_ne u)
  | cons c r =>
    have hd := dec_digs u c (by rw [e]; exact List.mem_cons_self)
    rw [Lib.atoiAll_plain c r (by omega) (by omega), ← e, mag_dec u (by omega)]
    simp only [Lib.signless]
    rw [if_neg (by omega)]
theorem ib_no (c : UInt8) : ∀ (l : List UInt8), (∀ b ∈ l, b ≠ c) → Lib.indexByte l c = -1
  | [], _ => rfl
  | x :: r, h => by
    have h1 := ib_no c r (fun b hb => h b (List.mem_cons_of_mem _ hb))
    have h2 : x ≠ c := h x List.mem_cons_self
    simp [Lib.indexByte, h1, h2]
theorem ib_at (c : UInt8) (r : List UInt8) : ∀ (l : List UInt8), (∀ b ∈ l, b ≠ c) → Lib.indexByte (l ++ c :: r) c = l.length
  | [], _ => by simp [Lib.indexByte]
  | x :: t, h => by
    have h1 := ib_at c r t (fun b hb => h b (List.mem_cons_of_mem _ hb))
    have h2 : x ≠ c := h x List.mem_cons_self
    rw [List.cons_append]
    simp [Lib.indexByte, h1, h2]
theorem itoa_cases (n : Int) (h : Bd n) : (∃ u : Nat, u < 9223372036854775808 ∧ n = u ∧ itoa n = decDigits u) ∨ ∃ u : Nat, 1 ≤ u ∧ u ≤ 9223372036854775808 ∧ n = -(u : Int) ∧ itoa n = 45 :: decDigits u := by
  unfold Bd at h
  by_cases h0 : 0 ≤ n
  · obtain ⟨u, rfl⟩ : ∃ u : Nat, n = u := ⟨n.toNat, by omega⟩
    exact .inl ⟨u, by omega, rfl, Lib.itoa_nonneg u⟩
  · obtain ⟨u, rfl⟩ : ∃ u : Nat, n = -(u : Int) := ⟨n.natAbs, by omega⟩
    exact .inr ⟨u, by omega, by omega, rfl, Lib.itoa_neg u (by omega)⟩
theorem itoa_bytes (n : Int) (h : Bd n) : ∀ b ∈ itoa n, (48 ≤ b.toNat ∧ b.toNat ≤ 57) ∨ b = 45 := by
  intro b hb
  rcases itoa_cases n h with ⟨u, _, _, e⟩ | ⟨u, _, _, _, e⟩
  · rw [e] at hb; exact .inl (dec_digs u b hb)
  · rw [e] at hb
    rcases List.mem_cons.1 hb with rfl | hb
    · exact .inr rfl
    · exact .inl (dec_digs u b hb)
theorem itoa_byte_ne (n : Int) (h : Bd n) (c : UInt8) (hc : c.toNat < 45) : ∀ b ∈ itoa n, b ≠ c := by
  intro b hb e
  subst e
  rcases itoa_bytes n h b hb with h | h
  · omega
  · rw [h] at hc; exact absurd hc (by decide)
theorem gw_itoa (n : Int) (h : Bd n) : Gw (itoa n) := by
  refine ⟨?_, ?_, ?_⟩
  · rcases itoa_cases n h with ⟨u, _, _, e⟩ | ⟨u, _, _, _, e⟩
    · rw [e]; exact dec_ne u
    · rw [e]; simp
  · intro c hc
    unfold bl
    rw [beq_eq_false_iff_ne.2 (itoa_byte_ne n h 32 (by decide) c hc), beq_eq_false_iff_ne.2 (itoa_byte_ne n h 9 (by decide) c hc), beq_eq_false_iff_ne.2 (itoa_byte_ne n h 13 (by decide) c hc)]
    rfl
  · intro e
    cases hl : itoa n with
    | nil => rw [hl] at e; cases e
    | cons c r =>
      rw [hl] at e
      simp at e
      exact itoa_byte_ne n h 35 (by decide) c (by rw [hl]; exact List.mem_cons_self ..) e
theorem numLike_itoa (n : Int) (h : Bd n) : numLike (itoa n) = true := by
  have key : ∀ u, ∃ c r, decDigits u = c :: r ∧ (decide (48 ≤ c.toNat) && decide (c.toNat ≤ 57)) = true ∧ c ≠ 45 := by
    intro u
    cases hd : decDigits u with
    | nil => exact absurd hd (dec_ne u)
    | cons c r =>
      have := dec_digs u c (by rw [hd]; exact List.mem_cons_self ..)
      refine ⟨c, r, rfl, by simp [this], fun e => ?_⟩
      rw [e] at this
      exact absurd this (by decide)
  unfold numLike Lib.trimPrefix Lib.hasPrefix
  rcases itoa_cases n h with ⟨u, _, _, e⟩ | ⟨u, _, _, _, e⟩
  · obtain ⟨c, r, hd, h1, h2⟩ := key u
    rw [e, hd]
    have : (([45] : List UInt8).isPrefixOf (c :: r)) = false := by simp [List.isPrefixOf]; exact fun e => h2 e.symm
    simp only [this]
    simpa using h1
  · obtain ⟨c, r, hd, h1, h2⟩ := key u
    rw [e, hd]
    have : (([45] : List UInt8).isPrefixOf (45 :: c :: r)) = true := by simp [List.isPrefixOf]
    simp only [this]
    simpa using h1
theorem all_itoa (n : Int) (h : Bd n) : atoiAll (itoa n) = .ok n := by
  rcases itoa_cases n h with ⟨u, hu, rfl, e⟩ | ⟨u, h1, h2, rfl, e⟩
  · rw [e]; exact all_dec u hu
  · rw [e, Lib.atoiAll_minus, mag_dec u (by omega)]
    unfold Lib.signed
    simp
    try omega
theorem numOk_itoa (n : Int) (h : Bd n) : numOk (itoa n) = some n := by
  unfold numOk
  rw [all_itoa n h]
  simp
theorem numV_itoa (n : Int) (h : Bd n) : numV (itoa n) = n := by unfold numV; rw [numOk_itoa n h]; rfl
theorem nrm_itoa (n : Int) (h : Bd n) : nrm (itoa n) = [48] := by unfold nrm; rw [if_pos (numLike_itoa n h)]
/-- A line, and what is behind it. -/
theorem cut_nl (a b : List UInt8) (h : ∀ x ∈ a, x ≠ 10) : Lib.cut (a ++ 10 :: b) [10] = (a, b, true) := by
  have e : Lib.index (a ++ 10 :: b) [10] = a.length := by rw [Lib.index_one]; exact ib_at 10 b a h
  unfold Lib.cut
  rw [e, if_pos (by omega)]
  simp
end Go.Proofs.YtfhkgeoionkonaaGreatDoor.Sc
/-
  SCRIPT, pure: a line that is printed is read as its moves.
-/
namespace Go.Proofs.YtfhkgeoionkonaaGreatDoor.Sc
open Go.RowKit
open Go.Lib (itoa)
set_option linter.unusedVariables false
set_option linter.unusedSimpArgs false
/-- What a line of these words does. -/
structure Ln (T : Nat) (done : List Mv) (L : List UInt8) (mv : List Mv) : Prop where
  ex : ∃ ws, L = Lib.join ws [32] ++ [10] ∧ (∀ x ∈ ws, Gw x) ∧ (∀ x ∈ ws, ∀ c ∈ x, c ≠ 10) ∧ ws ≠ [] ∧ entE T done ws = 0 ∧ entM T done ws = done ++ mv
theorem ent_of {T : Nat} {done : List Mv} {ws : List (List UInt8)} {mv : List Mv} {t : Nat} (hm : mean T ws (numsL ws) = (mv, (t : Int))) (hw : wholeL ws = true) (hn : mv ≠ []) (h1 : 1 ≤ t) (h2 : done.length + t * mv.length ≤ 65536) : entE T done ws = 0 ∧ entM T done ws = done ++ (List.replicate t mv).flatten := by
  have hl : 1 ≤ mv.length := List.length_pos_iff.2 hn
  have h3 : t ≤ t * mv.length := Nat.le_mul_of_pos_right _ hl
  have ht : ((t : Int)).toNat = t := by omega
  unfold entE entM
  rw [hm]
  dsimp only
  rw [if_neg hn, hw, if_neg (by simp), if_neg (by omega), ht, if_neg (by omega)]
  exact ⟨rfl, rfl⟩
theorem nums_two (l : List (List UInt8)) (a : List UInt8) : numsL (a :: l) = (if numLike a = true then [numV a] else []) ++ numsL l := by
  unfold numsL
  by_cases h : numLike a = true <;> simp [h]
theorem whole_two (l : List (List UInt8)) (a : List UInt8) : wholeL (a :: l) = ((!(numLike a) || (numOk a).isSome) && wholeL l) := by
  unfold wholeL
  by_cases h : numLike a = true <;> simp [h]
theorem nums_i {n : Int} (h : Bd n) (l : List (List UInt8)) : numsL (itoa n :: l) = n :: numsL l := by
  rw [nums_two, if_pos (numLike_itoa n h), numV_itoa n h]; rfl
theorem whole_i {n : Int} (h : Bd n) (l : List (List UInt8)) : wholeL (itoa n :: l) = wholeL l := by
  rw [whole_two, numOk_itoa n h]; simp
theorem nums_w {x : List UInt8} (h : numLike x = false) (l : List (List UInt8)) : numsL (x :: l) = numsL l := by
  rw [nums_two, if_neg (by simp [h])]; rfl
theorem whole_w {x : List UInt8} (h : numLike x = false) (l : List (List UInt8)) : wholeL (x :: l) = wholeL l := by
  rw [whole_two, h]; simp
theorem nums_nil : numsL [] = [] := rfl
theorem whole_nil : wholeL [] = true := rfl
theorem nrm_w {x : List UInt8} (h : numLike x = false) : nrm x = x := by unfold nrm; rw [if_neg (by simp [h])]
theorem gw_of (x : List UInt8) (h : (!(x.isEmpty) && x.all (fun c => !(bl c) && !(c == 10)) && !(x.head? == some 35)) = true) : Gw x ∧ ∀ c ∈ x, c ≠ 10 := by
  simp only [Bool.and_eq_true, Bool.not_eq_true', List.all_eq_true, beq_eq_false_iff_ne] at h
  obtain ⟨⟨h1, h2⟩, h3⟩ := h
  exact ⟨⟨(by intro e; rw [e] at h1; cases h1), fun c hc => (h2 c hc).1, h3⟩, fun c hc => (h2 c hc).2⟩
theorem dot_ok : Gw [46] ∧ (∀ c ∈ ([46] : List UInt8), c ≠ 10) ∧ numLike [46] = false := ⟨(gw_of [46] (by decide)).1, (gw_of [46] (by decide)).2, by decide⟩
theorem op_ok : Gw [111, 112] ∧ (∀ c ∈ ([111, 112] : List UInt8), c ≠ 10) ∧ numLike [111, 112] = false := ⟨(gw_of [111, 112] (by decide)).1, (gw_of [111, 112] (by decide)).2, by decide⟩
theorem i_ne (n : Int) (h : Bd n) : ∀ c ∈ itoa n, c ≠ 10 := itoa_byte_ne n h 10 (by decide)
theorem ln_step (T : Nat) (done : List Mv) (th : Int) (h : Bd th) (hl : done.length + 1 ≤ 65536) : Ln T done (fil fStep [th] ++ [10]) [stp th] := by
  obtain ⟨g1, g2, g3⟩ := dot_ok
  have hf : formL [itoa th, [46]] = fStep := by unfold formL; simp only [List.map_cons, List.map_nil, nrm_itoa th h, nrm_w g3]; decide
  have hn : numsL [itoa th, [46]] = [th] := by rw [nums_i h, nums_w g3, nums_nil]
  have hw : wholeL [itoa th, [46]] = true := by rw [whole_i h, whole_w g3, whole_nil]
  have hm : mean T [itoa th, [46]] (numsL [itoa th, [46]]) = ([stp th], ((1 : Nat) : Int)) := by unfold mean; rw [if_pos hf, hn]; rfl
  obtain ⟨e1, e2⟩ := ent_of (done := done) hm hw (by simp) (by omega) (by simpa using hl)
  refine ⟨[itoa th, [46]], ?_, ?_, ?_, by simp, e1, by rw [e2]; simp⟩
  · simp [fStep, fil, Lib.join, List.intercalate]
  · intro x hx
    simp at hx
    rcases hx with rfl | rfl
    · exact gw_itoa th h
    · exact g1
  · intro x hx
    simp at hx
    rcases hx with rfl | rfl
    · exact i_ne th h
    · exact g2
theorem ln_steps (T : Nat) (done : List Mv) (th : Int) (n : Nat) (h : Bd th) (h1 : 1 ≤ n) (hl : done.length + n ≤ 65536) : Ln T done (fil fSteps [th, (n : Int)] ++ [10]) (List.replicate n (stp th)) := by
  obtain ⟨g1, g2, g3⟩ := dot_ok
  have hb : Bd (n : Int) := by unfold Bd; omega
  have hf : formL [itoa th, [46], itoa (n : Int)] = fSteps := by unfold formL; simp only [List.map_cons, List.map_nil, nrm_itoa th h, nrm_itoa _ hb, nrm_w g3]; decide
  have hn : numsL [itoa th, [46], itoa (n : Int)] = [th, (n : Int)] := by rw [nums_i h, nums_w g3, nums_i hb, nums_nil]
  have hw : wholeL [itoa th, [46], itoa (n : Int)] = true := by rw [whole_i h, whole_w g3, whole_i hb, whole_nil]
  have hm : mean T [itoa th, [46], itoa (n : Int)] (numsL [itoa th, [46], itoa (n : Int)]) = ([stp th], ((n : Nat) : Int)) := by unfold mean; rw [hf, if_neg (by decide), if_pos rfl, hn]; rfl
  obtain ⟨e1, e2⟩ := ent_of (done := done) hm hw (by simp) h1 (by simpa using hl)
  refine ⟨[itoa th, [46], itoa (n : Int)], ?_, ?_, ?_, by simp, e1, ?_⟩
  · simp [fSteps, fil, Lib.join, List.intercalate]
  · intro x hx
    simp at hx
    rcases hx with rfl | rfl | rfl
    · exact gw_itoa th h
    · exact g1
    · exact gw_itoa _ hb
  · intro x hx
    simp at hx
    rcases hx with rfl | rfl | rfl
    · exact i_ne th h
    · exact g2
    · exact i_ne _ hb
  · rw [e2, List.flatten_replicate_singleton]
theorem ln_op (T : Nat) (done : List Mv) (m : Mv) (h : MvB m) (hl : done.length + 1 ≤ 65536) : Ln T done (fil fOp [m.th, m.op, m.arg, m.data] ++ [10]) [m] := by
  obtain ⟨h1, h2, h3, h4⟩ := h
  obtain ⟨g1, g2, g3⟩ := op_ok
  have hf : formL [itoa m.th, [111, 112], itoa m.op, itoa m.arg, itoa m.data] = fOp := by unfold formL; simp only [List.map_cons, List.map_nil, nrm_itoa _ h1, nrm_itoa _ h2, nrm_itoa _ h3, nrm_itoa _ h4, nrm_w g3]; decide
  have hn : numsL [itoa m.th, [111, 112], itoa m.op, itoa m.arg, itoa m.data] = [m.th, m.op, m.arg, m.data] := by rw [nums_i h1, nums_w g3, nums_i h2, nums_i h3, nums_i h4, nums_nil]
  have hw : wholeL [itoa m.th, [111, 112], itoa m.op, itoa m.arg, itoa m.data] = true := by rw [whole_i h1, whole_w g3, whole_i h2, whole_i h3, whole_i h4, whole_nil]
  have hm : mean T [itoa m.th, [111, 112], itoa m.op, itoa m.arg, itoa m.data] (numsL [itoa m.th, [111, 112], itoa m.op, itoa m.arg, itoa m.data]) = ([m], ((1 : Nat) : Int)) := by unfold mean; rw [hf, if_neg (by decide), if_neg (by decide), if_neg (by decide), if_pos rfl, hn]; rfl
  obtain ⟨e1, e2⟩ := ent_of (done := done) hm hw (by simp) (by omega) (by simpa using hl)
  refine ⟨[itoa m.th, [111, 112], itoa m.op, itoa m.arg, itoa m.data], ?_, ?_, ?_, by simp, e1, by rw [e2]; simp⟩
  · simp [fOp, fil, Lib.join, List.intercalate]
  · intro x hx
    simp at hx
    rcases hx with rfl | rfl | rfl | rfl | rfl
    · exact gw_itoa _ h1
    · exact g1
    · exact gw_itoa _ h2
    · exact gw_itoa _ h3
    · exact gw_itoa _ h4
  · intro x hx
    simp at hx
    rcases hx with rfl | rfl | rfl | rfl | rfl
    · exact i_ne _ h1
    · exact g2
    · exact i_ne _ h2
    · exact i_ne _ h3
    · exact i_ne _ h4
end Go.Proofs.YtfhkgeoionkonaaGreatDoor.Sc
