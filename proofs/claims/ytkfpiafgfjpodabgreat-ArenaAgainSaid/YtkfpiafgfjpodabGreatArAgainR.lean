import Derived.Test.YtkfpiafgfjpodabGreatJ43
import Derived.Test.YtkfpiafgfjpodabGreatJ40
import Derived.BigQuiet
/-
  Table.rest: a thread's call, stepped to its end.
-/
namespace Go.Proofs.YtkfpiafgfjpodabGreat.Ar
open Go.RowKit Go.Shelf Mr Me Ma Wc Wm Wr
theorem rest_idle {P : Pa} {i : Nat} (hb : busy P i = false) : ∀ n, restP n P i = P
  | 0 => rfl
  | n + 1 => by unfold restP; rw [hb, if_neg (by decide)]
theorem OutA.more {W w1 w2 : World} {U K : Nat → Prop} {f : Fx} {P2 : Pa} {U1 : Nat → Prop} (h1 : ∀ k, U k → U1 k) (h2 : ∀ k, U1 k → U k ∨ W.heap.size ≤ k) (hF : Fr W w1 U) (ho : OutA w1 U1 K f P2 w2) : OutA W U K f P2 w2 := by
  obtain ⟨U2, hh, hR, k1, k2, k3⟩ := ho
  have hs := hF.size
  refine ⟨U2, hh, hR, fun k hk => k1 k (h1 k hk), fun k hk => ?_, hF.trans (k3.mono h2)⟩
  rcases k2 k hk with e | e
  · exact h2 k e
  · exact .inr (by omega)
set_option maxRecDepth 100000 in
set_option maxHeartbeats 2000000 in
theorem rest_any {w W : World} {c : Cf} {tb : Nat} {U K : Nat → Prop} {f : Fx} {h : Wh} {P : Pa} (T : Tb w W c tb U K f h P) (hn : 0 < P.A.sl.length) (i : Nat) :
    Calls Tryz.prog 8 #[.pointer (some ⟨tb, 0, none⟩), .int .i64 (i : Int)] W fun e w' => e = .returned (.tuple #[]) ∧ OutA W U K f (restP 400 P i) w' := by
  have O0 := Mr.hid (OutA.same T.ra (Below.refl _ _))
  replace T := Mr.hid T
  go_enter Tryz.func8, Tryz.ntmps8
  go_wp2
  go_loopg [4] 400 (fun k s wy => ∃ (nn : Nat) (P' : Pa), s = .int .i64 (nn : Int) ∧ nn + k = 400 ∧ restP k P' i = restP 400 P i ∧ P'.A.sl.length = P.A.sl.length ∧ OutA W U K f P' wy)
  case atStart => exact ⟨0, P, rfl, by omega, rfl, rfl, O0.out⟩
  case round =>
    obtain ⟨nn, P', rfl, hnk, hR, hsl, O1⟩ := hrel
    clear O0
    have T1 : ∃ U' h', Tb w wr c tb U' K f h' P' ∧ (∀ k, U k → U' k) ∧ (∀ k, U' k → U k ∨ W.heap.size ≤ k) ∧ Fr W wr U := by
      obtain ⟨U', h', o1, o2, o3, o4⟩ := O1
      have t := T.out
      have hs := t.size
      have hl := t.lt
      refine ⟨U', h', ⟨o1, (o4.block _ (by omega) (fun hk => by have := (t.up _ hk).1; omega)).trans t.s0, (o4.block _ hs (fun hk => (t.up _ hk).2 rfl)).trans t.bt, fun k hk => ?_, hl, t.bel.trans (o4.below (fun k hk => Nat.le_of_lt (t.up k hk).1) (by omega)), t.fc⟩, o2, o3, o4⟩
      rcases o3 k hk with h1 | h1
      · exact t.up k h1
      · exact ⟨by omega, by omega⟩
    obtain ⟨U', h', T1, hu1, hu2, hF⟩ := T1
    clear T
    obtain ⟨⟨y0, y1, y2, y3, y4, y5, y6⟩, x7, x8⟩ := T1.cells
    have BS := busy_any T1.ra (i : Int)
    have hbi : busyI P' (i : Int) = busy P' i := by simp [busyI]
    rw [hbi] at BS
    have hI := T1.ra.inv
    have l1 := T1.size
    by_cases hlt : nn < 400
    · obtain ⟨k, rfl⟩ : ∃ k, gk = k + 1 := ⟨gk - 1, by omega⟩
      have d1 : decide ((nn : Int) < 400) = true := decide_eq_true (by omega)
      cases hbz : busy P' i with
      | false =>
        rw [hbz] at BS
        rw [rest_idle hbz] at hR
        rw [hR] at O1
        replace hR := Mr.hid hR
        replace O1 := Mr.hid O1
        replace BS := Mr.hid BS
        clear hI T1 hu1 hu2 hF hsl
        go_wp2_with (go_at_call 21; refine BS.out.mono ?_; rintro e w' ⟨rfl, hw⟩; obtain rfl := hw.symm)
        go_end0
        exact ⟨rfl, O1.out⟩
      | true =>
        rw [hbz] at BS
        have hR' : restP k (P'.move (i : Int) 0 0 0).1 i = restP 400 P i := by
          rw [← hR]
          conv => rhs; unfold restP
          rw [hbz, if_pos rfl]
        have MV := fun (W' : World) (hB : Below wr.heap.size wr W') => move_arena (T1.ra.below hB) (by rw [hsl]; exact hn) (i : Int) 0 0 0
        have fin := fun (W' w5 : World) (hB : Below wr.heap.size wr W') (hO : OutA W' U' K f (P'.move (i : Int) 0 0 0).1 w5) => OutA.more hu1 hu2 hF (OutA.from (Fr.of_below hB) hO)
        have hs2 := move_sl P' hI (i : Int) 0 0 0
        rw [hsl] at hs2
        generalize P'.move (i : Int) 0 0 0 = PM at *
        replace hR := Mr.hid hR
        replace hR' := Mr.hid hR'
        replace hs2 := Mr.hid hs2
        replace hsl := Mr.hid hsl
        replace MV := Mr.hid MV
        replace fin := Mr.hid fin
        replace T1 := Mr.hid T1
        replace BS := Mr.hid BS
        replace hI := Mr.hid hI
        replace hbz := Mr.hid hbz
        clear O1 hu1 hu2 hF
        go_wp2_with (first | (go_at_call 21; refine BS.out.mono ?_; clear BS; rintro e w' ⟨rfl, hw⟩; obtain rfl := hw.symm) | (go_at_call 7; refine (MV.out _ (Below.refl _ _)).mono ?_; clear MV; rintro e w5 ⟨rfl, hO⟩; have T'' := fin.out _ w5 (Below.refl _ _) hO; clear fin hO; replace T'' := Mr.hid T''))
        go_roundg k
        case measure => omega
        case rel => exact ⟨nn + 1, PM.1, by simp, by omega, hR'.out, hs2.out, T''.out⟩
    · have d1 : decide ((nn : Int) < 400) = false := decide_eq_false (by omega)
      obtain rfl : gk = 0 := by omega
      have hR2 : P' = restP 400 P i := hR
      rw [hR2] at O1
      replace hR := Mr.hid hR
      replace hR2 := Mr.hid hR2
      replace O1 := Mr.hid O1
      replace BS := Mr.hid BS
      clear hI T1 hu1 hu2 hF hsl
      go_wp2_with (go_at_call 21; refine BS.out.mono ?_; rintro e w' ⟨rfl, hw⟩; obtain rfl := hw.symm)
      go_end0
      exact ⟨rfl, O1.out⟩
end Go.Proofs.YtkfpiafgfjpodabGreat.Ar
