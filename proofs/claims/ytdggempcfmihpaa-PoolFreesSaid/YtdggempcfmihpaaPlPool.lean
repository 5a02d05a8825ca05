/-
  pool.Free by its contract.
-/
import Derived.Test.YtdggempcfmihpaaPlView
namespace Go.Proofs.Ytdggempcfmihpaa.Pl
open Go.RowKit Mr Me Wp Wc Wm
set_option linter.unusedVariables false
set_option linter.unusedSimpArgs false
/-- What Free answers of words of the right number. -/
def frA (c : C7) (ws : List Int) : List Int × Int := if (fre c ws (vz c.a5.toNat)).2.od then ([], 100) else ((fre c ws (vz c.a5.toNat)).1, 0)
/-- What Free answers. -/
def frE (c : C7) (ws : List Int) : List Int × Int := if c.ok then (if (ws.length : Int) = c.at 14 then frA c ws else ([], 2)) else ([], 1)
section
variable {W : World} {bv g : Nat} {c : C7} {aw : Addr} {a : Option Addr} {n cap : Nat} {ws : List Int} {v : Vs}
set_option maxHeartbeats 2000000 in
theorem shaped_any (h : Vw W bv g c aw cap ws v) (va : Value) :
    Calls Try.prog 14 #[.pointer (some ⟨bv, 0, none⟩), va] W fun e w' => e = .returned (.tuple (if v.od then #[.slice none 0 0, .int .i64 100] else #[va, .int .i64 0])) ∧ w' = W := by
  have y9 := h.cells.2.2.2.2.2.2.2.2.2
  clear h
  cases hv : v.od
  · rw [hv] at y9
    simp only [if_false, Bool.false_eq_true]
    go_enter Try.func14, Try.ntmps14
    go_wp2
    go_ret2
    exact ⟨rfl, rfl⟩
  · rw [hv] at y9
    simp only [if_true]
    go_enter Try.func14, Try.ntmps14
    go_wp2
    go_ret2
    exact ⟨rfl, rfl⟩
set_option maxHeartbeats 4000000 in
theorem Free_any (hr : Rds W a n ws) : Calls Try.prog 5 #[c.val, .slice a n cap] W fun e w' => ∃ va, e = .returned (.tuple #[va, .int .i64 (frE c ws).2]) ∧ Has w' (fun k => W.heap.size ≤ k) 3 1 va (frE c ws).1.length (ints (frE c ws).1) ∧ Below W.heap.size W w' := by
  have hn := hr.1
  unfold frE
  by_cases hc : c.ok = true
  · rw [if_pos hc]
    by_cases hl : (ws.length : Int) = c.at 14
    · rw [if_pos hl]
      have V := fun W' (hB : Below W.heap.size W W') => viewOf_ok (W := W') (c := c) (a := a) (n := n) (cap := cap) (ws := ws) hc (by omega) ⟨hr.1, hr.2.1, fun ad e => (hr.2.2 ad e).fr (S := fun _ => False) (Fr.of_below hB) (fun e => e)⟩
      unfold frA
      generalize hfr : fre c ws (vz c.a5.toNat) = fr at *
      obtain ⟨l, vf⟩ := fr
      simp only
      cases hod : vf.od with
      | false =>
        have bB := fun o : Obj => (Below.refl W.heap.size W).alloc (Nat.le_refl _) o
        have SH := fun (w2 : World) (bv g : Nat) (aw : Addr) (hV2 : Vw w2 bv g c aw cap ws vf) (va : Value) => shaped_any hV2 va
        rw [hod] at SH
        simp only [if_false, Bool.false_eq_true] at SH ⊢
        unfold C7.val at V ⊢
        clear hr hl hn hod
        replace V := Mr.hid V
        replace bB := Mr.hid bB
        replace SH := Mr.hid SH
        replace hfr := Mr.hid hfr
        go_enter Try.func5, Try.ntmps5
        go_upto_region 4 with (go_at_call 13; refine (V.out _ (bB.out _)).mono ?_; clear V; rintro e w1 ⟨bv, g, aw, -, hl1, hl2, rfl, hB1, hV1⟩; replace hV1 := Mr.hid hV1; replace hB1 := Mr.hid ((bB.out _).trans (hB1.mono (by simp))); simp only [World.size_alloc] at hl1 hl2)
        have FR := free_any hV1.out
        have hbv1 := hV1.out.lt
        rw [hfr.out] at FR
        clear hfr hV1
        have fin : ∀ w2, Fr w1 w2 (fun k => k = bv ∨ k = g) → Below W.heap.size W w2 := fun w2 hF => hB1.out.trans (hF.below (by rintro k (e | e) <;> omega) hB1.out.size)
        replace FR := Mr.hid FR
        replace fin := Mr.hid fin
        go_wp2_with (first | (go_at_call 15; refine FR.out.mono ?_; clear FR; rintro e w2 ⟨va, rfl, hva, hV2, hF2⟩; have SH2 := SH.out w2 bv g aw hV2 va; clear hV2; replace hva := Mr.hid hva; replace hF2 := Mr.hid hF2; replace SH2 := Mr.hid SH2) | (go_at_call 14; refine SH2.out.mono ?_; clear SH2; rintro e w3 ⟨rfl, rfl⟩))
        go_ret2
        exact ⟨_, rfl, hva.out.mono (fun k hk => Nat.le_trans hB1.out.size hk), fin.out _ hF2.out⟩
      | true =>
        have bB := fun o : Obj => (Below.refl W.heap.size W).alloc (Nat.le_refl _) o
        have SH := fun (w2 : World) (bv g : Nat) (aw : Addr) (hV2 : Vw w2 bv g c aw cap ws vf) (va : Value) => shaped_any hV2 va
        rw [hod] at SH
        simp only [if_true] at SH ⊢
        unfold C7.val at V ⊢
        clear hr hl hn hod
        replace V := Mr.hid V
        replace bB := Mr.hid bB
        replace SH := Mr.hid SH
        replace hfr := Mr.hid hfr
        go_enter Try.func5, Try.ntmps5
        go_upto_region 4 with (go_at_call 13; refine (V.out _ (bB.out _)).mono ?_; clear V; rintro e w1 ⟨bv, g, aw, -, hl1, hl2, rfl, hB1, hV1⟩; replace hV1 := Mr.hid hV1; replace hB1 := Mr.hid ((bB.out _).trans (hB1.mono (by simp))); simp only [World.size_alloc] at hl1 hl2)
        have FR := free_any hV1.out
        have hbv1 := hV1.out.lt
        rw [hfr.out] at FR
        clear hfr hV1
        have fin : ∀ w2, Fr w1 w2 (fun k => k = bv ∨ k = g) → Below W.heap.size W w2 := fun w2 hF => hB1.out.trans (hF.below (by rintro k (e | e) <;> omega) hB1.out.size)
        replace FR := Mr.hid FR
        replace fin := Mr.hid fin
        go_wp2_with (first | (go_at_call 15; refine FR.out.mono ?_; clear FR; rintro e w2 ⟨va, rfl, hva, hV2, hF2⟩; have SH2 := SH.out w2 bv g aw hV2 va; clear hV2; replace hva := Mr.hid hva; replace hF2 := Mr.hid hF2; replace SH2 := Mr.hid SH2) | (go_at_call 14; refine SH2.out.mono ?_; clear SH2; rintro e w3 ⟨rfl, rfl⟩))
        go_ret2
        exact ⟨_, rfl, Has.nil _ _ _ _, fin.out _ hF2.out⟩
    · rw [if_neg hl]
      have V := fun W' => viewOf_len (W := W') (c := c) (a := a) (n := n) (cap := cap) hc (by omega)
      have bB := fun o : Obj => (Below.refl W.heap.size W).alloc (Nat.le_refl _) o
      unfold C7.val at V ⊢
      clear hr hl hn
      replace V := Mr.hid V
      replace bB := Mr.hid bB
      go_enter Try.func5, Try.ntmps5
      go_wp2_with (go_at_call 13; refine (V.out _).mono ?_; clear V; rintro e w1 ⟨rfl, hB1⟩; replace hB1 := Mr.hid ((bB.out _).trans (hB1.mono (by simp))))
      go_ret2
      exact ⟨_, rfl, Has.nil _ _ _ _, hB1.out⟩
  · rw [if_neg hc]
    have V := fun W' => viewOf_cfg (W := W') (c := c) (a := a) (n := n) (cap := cap) (by simpa using hc)
    have bB := fun o : Obj => (Below.refl W.heap.size W).alloc (Nat.le_refl _) o
    unfold C7.val at V ⊢
    clear hr hn
    replace V := Mr.hid V
    replace bB := Mr.hid bB
    go_enter Try.func5, Try.ntmps5
    go_wp2_with (go_at_call 13; refine (V.out _).mono ?_; clear V; rintro e w1 ⟨rfl, hB1⟩; replace hB1 := Mr.hid ((bB.out _).trans (hB1.mono (by simp))))
    go_ret2
    exact ⟨_, rfl, Has.nil _ _ _ _, hB1.out⟩
end
end Go.Proofs.Ytdggempcfmihpaa.Pl
