/-
  The view's enter and follow by their contracts.
-/
import Derived.Test.YtdggempcfmihpaaPlWord
namespace Go.Proofs.Ytdggempcfmihpaa.Pl
open Go.RowKit Mr Me Wp Wc Wm
set_option linter.unusedVariables false
set_option linter.unusedSimpArgs false
section
variable {W : World} {bv g : Nat} {c : C7} {aw : Addr} {cap : Nat} {ws : List Int} {v : Vs}
set_option maxHeartbeats 2000000 in
theorem enter_any (h : Vw W bv g c aw cap ws v) (s : Int) (hs : -1 ≤ s) (hs2 : s ≤ 4294967294) :
    Calls Try.prog 37 #[.pointer (some ⟨bv, 0, none⟩), .int .i64 s] W fun e w' => e = .returned (.int .i64 (v.ent s).1) ∧ Vw w' bv g c aw cap ws (v.ent s).2 ∧ Fr W w' (fun k => k = bv ∨ k = g) := by
  have hod := h.odd
  have hput := fun s => h.put s
  have hcm := fun s b => h.come (s := s) (b := b)
  obtain ⟨y0, y1, y2, y3, y4, y5, y6, y7, y8, y9⟩ := h.cells
  obtain ⟨f9, fg⟩ := h.thaw
  obtain ⟨l1, l2⟩ := h.lt
  have h5 := h.five
  have fo : Fr W (W.setCell ⟨bv, 9, none⟩ (.bool true)) (fun k => k = bv ∨ k = g) := (Fr.refl _ _).setCell _ _ (.inl (.inl rfl))
  have fp : ∀ s : Nat, Fr W (W.setCell ⟨g, s, none⟩ (.bool true)) (fun k => k = bv ∨ k = g) := fun s => (Fr.refl _ _).setCell _ _ (.inl (.inr rfl))
  rw [h5] at y5
  replace hod := Mr.hid hod
  replace hput := Mr.hid hput
  replace hcm := Mr.hid hcm
  replace fo := Mr.hid fo
  replace fp := Mr.hid fp
  replace fg := Mr.hid fg
  replace h5 := Mr.hid h5
  replace h := Mr.hid h
  by_cases h1 : s = -1
  · subst h1
    have e : v.ent (-1) = (-1, v) := by simp [Vs.ent]
    rw [e]
    go_enter Try.func37, Try.ntmps37
    go_wp2_with fail
    go_ret
    exact ⟨rfl, h.out, Fr.refl _ _⟩
  · obtain ⟨n, rfl⟩ := Int.eq_ofNat_of_zero_le (show 0 ≤ s by omega)
    have d0 : ((n : Int) == -1) = false := by simp
    have hnn : ((n : Int)).toNat = n := by omega
    by_cases h2 : n < v.cm.length
    · obtain ⟨b, hb⟩ : ∃ b, v.cm[n]? = some b := ⟨_, List.getElem?_eq_getElem h2⟩
      have cn := hcm.out n b hb
      have d1 : decide ((v.cm.length : Int) ≤ (n : Int)) = false := decide_eq_false (by omega)
      have fn := fg.out n
      have hput' := hput.out n
      have fp' := fp.out n
      cases b with
      | true =>
        have e : v.ent (n : Int) = (-1, v.bad) := by simp [Vs.ent, hb, h1]
        rw [e]
        clear hput' fp' hput fp hcm
        replace hb := Mr.hid hb
        go_enter Try.func37, Try.ntmps37
        go_wp2_with fail
        go_ret
        exact ⟨rfl, hod.out, fo.out⟩
      | false =>
        have e : v.ent (n : Int) = ((n : Int), v.put n) := by simp [Vs.ent, hb, h1]
        rw [e]
        clear hod fo hput fp hcm
        replace hb := Mr.hid hb
        replace hput' := Mr.hid hput'
        replace fp' := Mr.hid fp'
        go_enter Try.func37, Try.ntmps37
        go_wp2_with fail
        go_ret
        exact ⟨rfl, hput'.out, fp'.out⟩
    · have e : v.ent (n : Int) = (-1, v.bad) := by
        have : v.cm[n]? = none := List.getElem?_eq_none (by omega)
        simp [Vs.ent, this, h1]
      have d1 : decide ((v.cm.length : Int) ≤ (n : Int)) = true := decide_eq_true (by omega)
      rw [e]
      clear hput fp hcm
      go_enter Try.func37, Try.ntmps37
      go_wp2_with fail
      go_ret
      exact ⟨rfl, hod.out, fo.out⟩
set_option maxHeartbeats 2000000 in
theorem follow_any (h : Vw W bv g c aw cap ws v) (m : Bool) (x : Int) (hx : 0 ≤ x) (hx2 : x ≤ 18446744073709551615) :
    Calls Try.prog 42 #[.pointer (some ⟨bv, 0, none⟩), .int .u64 x, .bool m] W fun e w' => e = .returned (.tuple #[.int .i64 (v.fol m x).1, .bool (v.fol m x).2.1]) ∧ Vw w' bv g c aw cap ws (v.fol m x).2.2 ∧ Fr W w' (fun k => k = bv ∨ k = g) := by
  have hod := h.odd
  obtain ⟨y0, y1, y2, y3, y4, y5, y6, y7, y8, y9⟩ := h.cells
  obtain ⟨f9, -⟩ := h.thaw
  obtain ⟨l1, -⟩ := h.lt
  have fo : Fr W (W.setCell ⟨bv, 9, none⟩ (.bool true)) (fun k => k = bv ∨ k = g) := (Fr.refl _ _).setCell _ _ (.inl (.inl rfl))
  clear y0 y1 y2 y3 y4 y5 y6 y7 y8
  by_cases hl : isLinkB x = true
  · have hl' := hl
    simp only [isLinkB, Bool.and_eq_true, decide_eq_true_eq] at hl'
    have U := fun W => unlink_ok x W hx hl'.1 hl'.2
    have hmk : (x / 4294967296 % 2 == 1) = mkd x := rfl
    have hnx : x % 4294967296 - 1 = nxt x := rfl
    rw [hmk, hnx] at U
    have hq1 := nxt_ge x hx
    have hq2 := nxt_le x
    by_cases ho : mkd x = true ∧ m = false
    · obtain ⟨ho1, rfl⟩ := ho
      have e : v.fol false x = (-1, false, v.bad) := by simp [Vs.fol, okl, ho1]
      rw [e]
      rw [ho1] at U
      clear h hl hl' hmk hnx hx hx2 e ho1
      generalize nxt x = s at *
      replace hod := Mr.hid hod
      replace fo := Mr.hid fo
      replace U := Mr.hid U
      go_enter Try.func42, Try.ntmps42
      go_wp2_with (go_at_call 64; refine (U.out _).mono ?_; rintro e w' ⟨rfl, rfl⟩)
      go_ret2
      exact ⟨rfl, hod.out, fo.out⟩
    · have e : v.fol m x = ((v.ent (nxt x)).1, mkd x, (v.ent (nxt x)).2) := by
        have : okl m x = true := by
          simp only [okl, hl, Bool.true_and]
          cases hm : m <;> simp_all
        simp [Vs.fol, this]
      rw [e]
      have E := enter_any h (nxt x) hq1 hq2
      generalize v.ent (nxt x) = r at *
      clear h hl hl' hmk hnx hx hx2 e hod fo
      generalize nxt x = s at *
      generalize mkd x = b at *
      have hor : (b && !m) = false := by cases b <;> cases m <;> simp_all
      clear ho
      replace U := Mr.hid U
      replace E := Mr.hid E
      cases b with
      | false =>
        clear hor
        go_enter Try.func42, Try.ntmps42
        go_wp2_with (first | (go_at_call 64; refine (U.out _).mono ?_; rintro e w' ⟨rfl, rfl⟩) | (go_at_call 37; refine E.out.mono ?_; rintro e w' ⟨rfl, hV, hF⟩; replace hV := Mr.hid hV; replace hF := Mr.hid hF))
        go_ret2
        exact ⟨rfl, hV.out, hF.out⟩
      | true =>
        obtain rfl : m = true := by cases m <;> simp_all
        clear hor
        go_enter Try.func42, Try.ntmps42
        go_wp2_with (first | (go_at_call 64; refine (U.out _).mono ?_; rintro e w' ⟨rfl, rfl⟩) | (go_at_call 37; refine E.out.mono ?_; rintro e w' ⟨rfl, hV, hF⟩; replace hV := Mr.hid hV; replace hF := Mr.hid hF))
        go_ret2
        exact ⟨rfl, hV.out, hF.out⟩
  · have e : v.fol m x = (-1, false, v.bad) := by simp [Vs.fol, okl, hl]
    rw [e]
    have U := fun W => unlink_bad x W hx hx2 (by
      simp only [isLinkB, Bool.and_eq_true, decide_eq_true_eq] at hl
      omega)
    clear h hl hx hx2 e
    replace hod := Mr.hid hod
    replace fo := Mr.hid fo
    replace U := Mr.hid U
    go_enter Try.func42, Try.ntmps42
    go_wp2_with (go_at_call 64; refine (U.out _).mono ?_; rintro e w' ⟨rfl, rfl⟩)
    go_ret2
    exact ⟨rfl, hod.out, fo.out⟩
end
end Go.Proofs.Ytdggempcfmihpaa.Pl
