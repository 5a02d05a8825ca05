import Derived.Test.YtpknggcgojkjgaaGreatJ30
import Derived.Test.YtpknggcgojkjgaaGreatJ32
/-
  CENSUS: the run that all laws ask first.
-/
namespace Go.Proofs.YtpknggcgojkjgaaGreat.Cn
open Go.RowKit Mr Md
set_option linter.unusedVariables false
set_option linter.unusedSimpArgs false
set_option maxRecDepth 100000
def cqA : Cq := ⟨0, 22, 0, 0, 0, -1, -1, 0, 0⟩
def sxA : Sx := ⟨1, 0, 0, 0, 3⟩
def e10 : Ev := ⟨1, 0, 0, 0⟩
def e20 : Ev := ⟨3, 1, 0, 0⟩
theorem evA0 : evA [cqA] [] [sxA] = [e10, e20] := by decide
theorem es0 {es : List Ev} (hp : es.Perm (evA [cqA] [] [sxA])) (hs : es.Pairwise (fun a b => ¬ Ev.lt b a)) : es = [e10, e20] := by
  rw [evA0] at hp
  have hl := hp.length_eq
  match es, hl, hp, hs with
  | [p, q], _, hp, hs =>
    have hm : p ∈ [e10, e20] := (hp.mem_iff).1 (by simp)
    simp only [List.mem_cons, List.not_mem_nil, or_false] at hm
    rcases hm with rfl | rfl
    · have := (List.perm_cons _).1 hp
      rw [List.perm_singleton] at this
      rw [this]
    · have h2 := hp.trans (List.Perm.swap _ _ _)
      have := (List.perm_cons _).1 h2
      rw [List.perm_singleton] at this
      cases this
      simp [Ev.lt, e10, e20] at hs
theorem read0 {w : World} {T : Nat → Prop} {V0 V1 V2 V3 : Value} (hr : RunAt w T V0 V1 V2 V3 [cqA] [] [sxA] (fstL cS 0 19)) :
    Calls Tryz.prog 42 #[cfgV cS, .int .i64 ((0 : Nat) : Int), rnV V0 V1 V2 V3] w fun r w' => Below w.heap.size w w' ∧ ∃ (ev : Value) (es : List Ev), r = .returned (.tuple #[stV cS ((0 : Nat) : Int) V0 V1 V2 V3 ev, .int .i64 0]) ∧ es.Perm (evA [cqA] [] [sxA]) ∧ es.Pairwise (fun a b => ¬ Ev.lt b a) ∧ Sl w' (fun k => w.heap.size ≤ k) 4 ev es.length (evs es) := by
  refine read_true (n := 2) (used := 0) (N := 19) hr (by decide) cS_N (by decide) rfl (by decide) (by decide) (by decide) (by simp [fstL]) (by decide) ?_ ?_
  · intro x hx
    simp only [List.mem_singleton] at hx
    subst hx
    unfold okC Tim Anw
    decide
  · intro es hp hs
    obtain rfl := es0 hp hs
    refine ⟨?_, ?_⟩
    · rintro (_ | _ | i) e he
      · simp at he; subst he; exact .inl (by decide)
      · simp at he; subst he; exact .inr ⟨rfl, 0, sxA, rfl, rfl, rfl⟩
      · simp at he
    · rintro ⟨c, u, v0, v1, v2, v3, ev, wv, bs⟩ hK
      simp only at hK
      subst hK
      exact ⟨rfl, rfl⟩
theorem faults0 {W : World} {T : Nat → Prop} {V0 V1 V2 V3 : Value} (hr : RunAt W T V0 V1 V2 V3 [cqA] [] [sxA] (fstL cS 0 19)) :
    Calls Tryz.prog 32 #[cfgV cS, .int .i64 ((0 : Nat) : Int), rnV V0 V1 V2 V3] W fun r w' => Below W.heap.size W w' ∧ ∃ fv, r = .returned (.tuple #[fv, .int .i64 0]) ∧ Own w' (fun _ => True) 74 3 fv 1 (fls [(⟨3, 1, 0⟩ : Fl)]) :=
  faults_no (n := 2) hr rfl (by decide) (by decide) (by decide) (fun w h => read0 h) (fun es hp hs => by
    obtain rfl := es0 hp hs
    exact ⟨_, _, rfl, rfl, rfl, rfl⟩) rfl rfl (by decide) (by decide)
end Go.Proofs.YtpknggcgojkjgaaGreat.Cn
/-
  CENSUS: awake.
-/
namespace Go.Proofs.YtpknggcgojkjgaaGreat.Cn
open Go.RowKit Mr Md
set_option linter.unusedVariables false
set_option linter.unusedSimpArgs false
set_option maxRecDepth 100000
def N0 : Value := .slice none 0 0
set_option maxHeartbeats 16000000 in
theorem awake_any (w : World) : Calls Tryz.prog 9 #[] w fun r w' => r = .returned (.bool true) ∧ Below w.heap.size w w' := by
  have SM := Mr.hid small_any
  have LA := Mr.hid (fun w => Listed_any cS w)
  have WA := Mr.hid (fun w => Window_any cS w)
  have BL := Mr.hid blank_any
  have F0 := Mr.hid (fun (W : World) (V0 V1 V2 V3 : Value) (hr : RunAt W (fun _ => True) V0 V1 V2 V3 [cqA] [] [sxA] (fstL cS 0 19)) => faults0 hr)
  obtain ⟨q1, q2, q3⟩ := cS_bounds
  have q4 : Wc.chkN true = 0 := rfl
  rw [q3, if_pos rfl, q1, q4] at LA
  rw [q3, if_pos rfl, q2, q4] at WA
  clear q1 q2 q3 q4
  unfold cfgV at SM LA WA F0
  unfold rnV at BL F0
  simp only [cS] at SM LA WA F0
  have BB : Hid (Below w.heap.size w w) := Below.refl _ _
  go_enter Tryz.func9, Tryz.ntmps9
  go_upto_region 5 with (first | (go_at_call 26; refine (SM.out _).mono ?_; rintro e1 w1 ⟨rfl, hB1⟩; replace BB := Mr.hid (BB.out.trans (hB1.mono BB.out.size)); clear hB1) | (go_at_call 11; refine (LA.out _).mono ?_; clear LA; rintro e2 w2 ⟨rfl, hB2⟩; replace BB := Mr.hid (BB.out.trans (hB2.mono BB.out.size)); clear hB2) | (go_at_call 14; refine (WA.out _).mono ?_; clear WA; rintro e3 w3 ⟨rfl, hB3⟩; replace BB := Mr.hid (BB.out.trans (hB3.mono BB.out.size)); clear hB3))
  go_upto_region 6 with (go_at_call 27; refine (BL.out _).mono ?_; clear BL; rintro e4 w4 ⟨hB4, b, rfl, hbl, hrow⟩; replace BB := Mr.hid (BB.out.trans (hB4.mono BB.out.size)); clear hB4; replace hrow := Mr.hid hrow; replace hbl := Mr.hid hbl)
  have BW5 : Hid (Below w.heap.size w (w4.alloc (rnO N0 N0 N0 (.slice (some ⟨b, 0, none⟩) 19 19)))) := BB.out.alloc BB.out.size _
  have hb5 : Hid ((w4.alloc (rnO N0 N0 N0 (.slice (some ⟨b, 0, none⟩) 19 19))).heap[w4.heap.size]? = some (rnO N0 N0 N0 (.slice (some ⟨b, 0, none⟩) 19 19))) := new_at _ _ _ rfl
  have hr5 : Hid (Wr.Row (w4.alloc (rnO N0 N0 N0 (.slice (some ⟨b, 0, none⟩) 19 19))) b 19 (Wr.fstF 1 3 2 1 0)) := hrow.out.below ((Below.refl _ _).alloc (Nat.le_refl _) _)
  have hbr : Hid (b < w4.heap.size) := hrow.out.size
  have hwr : Hid (w.heap.size ≤ w4.heap.size) := BB.out.size
  clear BB hrow hbl
  unfold rnO N0 at BW5 hb5 hr5
  generalize (w4.alloc _) = w5 at *
  generalize w4.heap.size = r at *
  obtain ⟨k0, k1, k2, k3, kl⟩ := rnO_cells hb5.out
  have zf : ∀ k, w5.frozen? ⟨r, k, none⟩ = false := fun k => by simp [World.frozen?, hb5.out]
  go_upto_region 7 with (fail)
  have F6 : Fr w5 ((w5.setCell ⟨r, 0, none⟩ (.slice (some ⟨w5.heap.size, 0, none⟩) 1 1)).alloc (cqO cqA)) (fun k => k = r) := ((Fr.refl w5 (fun k => k = r)).setCell ⟨r, 0, none⟩ _ (.inl rfl)).alloc _
  have hb6 : Hid (((w5.setCell ⟨r, 0, none⟩ (.slice (some ⟨w5.heap.size, 0, none⟩) 1 1)).alloc (cqO cqA)).heap[r]? = some (rnO (.slice (some ⟨w5.heap.size, 0, none⟩) 1 1) N0 N0 (.slice (some ⟨b, 0, none⟩) 19 19))) := old_at (setBlk hb5.out 0 _) _
  have hc6 : Hid (((w5.setCell ⟨r, 0, none⟩ (.slice (some ⟨w5.heap.size, 0, none⟩) 1 1)).alloc (cqO cqA)).heap[w5.heap.size]? = some (cqO cqA)) := new_at _ _ _ (by simp)
  replace F6 := Mr.hid F6
  have hr6 := Mr.hid (rowFr hr5.out F6.out (Nat.ne_of_lt hbr.out))
  have kr6 := Mr.hid kl
  clear k0 k1 k2 k3 kl zf hb5 hr5
  simp only [cqO, cqA, rnO, N0] at F6 hb6 hc6 hr6
  generalize ((w5.setCell _ _).alloc _) = w6 at *
  generalize hg1 : w5.heap.size = g1 at *
  replace hg1 := Mr.hid hg1
  obtain ⟨k0, k1, k2, k3, kl⟩ := rnO_cells hb6.out
  have zf : ∀ k, w6.frozen? ⟨r, k, none⟩ = false := fun k => by simp [World.frozen?, hb6.out]
  go_upto_region 8 with (fail)
  have F7 : Fr w6 ((w6.setCell ⟨r, 2, none⟩ (.slice (some ⟨w6.heap.size, 0, none⟩) 1 1)).alloc (sxO sxA)) (fun k => k = r) := ((Fr.refl w6 (fun k => k = r)).setCell ⟨r, 2, none⟩ _ (.inl rfl)).alloc _
  have hb7 : Hid (((w6.setCell ⟨r, 2, none⟩ (.slice (some ⟨w6.heap.size, 0, none⟩) 1 1)).alloc (sxO sxA)).heap[r]? = some (rnO (.slice (some ⟨g1, 0, none⟩) 1 1) N0 (.slice (some ⟨w6.heap.size, 0, none⟩) 1 1) (.slice (some ⟨b, 0, none⟩) 19 19))) := old_at (setBlk hb6.out 2 _) _
  have hs7 : Hid (((w6.setCell ⟨r, 2, none⟩ (.slice (some ⟨w6.heap.size, 0, none⟩) 1 1)).alloc (sxO sxA)).heap[w6.heap.size]? = some (sxO sxA)) := new_at _ _ _ (by simp)
  replace F7 := Mr.hid F7
  have hr7 := Mr.hid (rowFr hr6.out F7.out (Nat.ne_of_lt hbr.out))
  have hc7 := Mr.hid ((F7.out.block g1 (Array.getElem?_eq_some_iff.1 hc6.out).1 (Nat.ne_of_gt kr6.out)).trans hc6.out)
  clear k0 k1 k2 k3 kl zf hb6 hr6 hc6
  simp only [sxO, sxA, rnO, N0] at F7 hb7 hs7 hr7 hc7
  generalize ((w6.setCell _ _).alloc _) = w7 at *
  generalize hg2 : w6.heap.size = g2 at *
  replace hg2 := Mr.hid hg2
  obtain ⟨k0, k1, k2, k3, kl⟩ := rnO_cells hb7.out
  have BW7 : Hid (Below w.heap.size w w7) := by
    have h1 := F6.out.trans (F7.out.mono (fun k hk => .inl hk))
    exact ⟨h1.os.trans BW5.out.os, h1.tape.trans BW5.out.tape, h1.output.trans BW5.out.output, Nat.le_trans BW5.out.size h1.size, fun k hk => (h1.block k (Nat.lt_of_lt_of_le hk BW5.out.size) (by have := hwr.out; omega)).trans (BW5.out.block k hk)⟩
  have RA : RunAt w7 (fun _ => True) (.slice (some ⟨g1, 0, none⟩) 1 1) (.slice none 0 0) (.slice (some ⟨g2, 0, none⟩) 1 1) (.slice (some ⟨b, 0, none⟩) 19 19) [cqA] [] [sxA] (fstL cS 0 19) := by
    refine ⟨⟨rfl, _, _, rfl, Nat.le_refl _, .inr ⟨g1, 0, rfl, trivial, (Array.getElem?_eq_some_iff.1 hc7.out).1, fun j u hu => ?_⟩⟩, ⟨rfl, _, _, rfl, Nat.le_refl _, .inl rfl⟩, ⟨rfl, _, _, rfl, Nat.le_refl _, .inr ⟨g2, 0, rfl, trivial, (Array.getElem?_eq_some_iff.1 hs7.out).1, fun j u hu => ?_⟩⟩, ⟨by simp [ws, fstL], some ⟨b, 0, none⟩, 19, by rw [fstL_len], by rw [fstL_len]; exact Nat.le_refl _, .inr ⟨b, 0, rfl, trivial, hr7.out.size, fun j u hu => ?_⟩⟩⟩
    · rw [Nat.zero_add, cell_blk hc7.out]; simpa [cqs, Cq.row, cqA] using hu
    · rw [Nat.zero_add, cell_blk hs7.out]; simpa [sxs, Sx.row, sxA] using hu
    · have hj : j < 19 := by have := (List.getElem?_eq_some_iff.1 hu).1; simpa [ws, fstL] using this
      rw [Nat.zero_add, hr7.out.cell j hj]
      simp [ws, fstL, hj] at hu
      rw [← hu]
      rfl
  have FB := Mr.hid (fun w' (h : Below w7.heap.size w7 w') => F0.out w' _ _ _ _ (RA.below h))
  clear RA F0
  have z0 : ((0 : Nat) : Int) = 0 := rfl
  simp only [z0] at FB
  clear z0
  have S0 : Below w7.heap.size w7 w7.drew := (Below.refl _ _).drew
  refine wp_region_held_drew (S := fun w' => Below w7.heap.size w7 w') (by kernel_rfl) S0 (fun hS => ?_)
  clear S0
  try simp only [Act.put, List.getElem_toArray, List.getElem_cons_zero, List.getElem_cons_succ, List.setIfInBounds_toArray, List.set_cons_zero, List.set_cons_succ]
  refine wpAnyH_take (i := 1) (v := .agg #[.slice (some ⟨g1, 0, none⟩) 1 1, .slice none 0 0, .slice (some ⟨g2, 0, none⟩) 1 1, .slice (some ⟨b, 0, none⟩) 19 19]) rfl (by kernel_rfl) (by kernel_rfl) (by kernel_rfl) (fun _ _ _ h => h) (Or.inl ⟨by kernel_rfl, fun w' hw => ?y1⟩) hS ?_
  case y1 =>
    clear hS
    have z0 := (hw.cell (p := ⟨r, 0, none⟩) kl).trans k0
    have z1 := (hw.cell (p := ⟨r, 1, none⟩) kl).trans k1
    have z2 := (hw.cell (p := ⟨r, 2, none⟩) kl).trans k2
    have z3 := (hw.cell (p := ⟨r, 3, none⟩) kl).trans k3
    clear hw
    go_simp
  try simp only [Act.put, List.getElem_toArray, List.getElem_cons_zero, List.getElem_cons_succ, List.setIfInBounds_toArray, List.set_cons_zero, List.set_cons_succ]
  refine wpAnyH_ready (rs := [0]) (by kernel_rfl) (by simp) ?_
  refine AllReadyH.cons rfl (fun K hK => ?_) AllReadyH.nil
  try simp only [Act.put, List.getElem_toArray, List.getElem_cons_zero, List.getElem_cons_succ, List.setIfInBounds_toArray, List.set_cons_zero, List.set_cons_succ]
  go_simp
  refine (SM.out _).mono ?_
  rintro e8 w8 ⟨rfl, hB8⟩
  refine hK.out _ _ (hS.trans (hB8.mono hS.size)) (fun hS => ?_)
  clear hK K
  try simp only [Act.put, List.getElem_toArray, List.getElem_cons_zero, List.getElem_cons_succ, List.setIfInBounds_toArray, List.set_cons_zero, List.set_cons_succ]
  refine wpAnyH_ready (rs := [2]) (by kernel_rfl) (by simp) ?_
  refine AllReadyH.cons rfl (fun K hK => ?_) AllReadyH.nil
  try simp only [Act.put, List.getElem_toArray, List.getElem_cons_zero, List.getElem_cons_succ, List.setIfInBounds_toArray, List.set_cons_zero, List.set_cons_succ]
  go_simp
  refine (FB.out _ hS).mono ?_
  rintro e9 w9 ⟨hB9, fv, rfl, hO⟩
  obtain ⟨fa, fc, rfl, _, _⟩ := hO.form
  refine hK.out _ _ (hS.trans (hB9.mono hS.size)) (fun hS => ?_)
  clear hK K
  try simp only [Act.put, List.getElem_toArray, List.getElem_cons_zero, List.getElem_cons_succ, List.setIfInBounds_toArray, List.set_cons_zero, List.set_cons_succ]
  refine wpAnyH_take (i := 3) (v := .tuple #[.slice fa 1 fc, .int .i64 0]) rfl (by kernel_rfl) (by kernel_rfl) (by kernel_rfl) (fun _ _ _ h => h) (Or.inl ⟨by kernel_rfl, fun w' hw => ?y3⟩) hS ?_
  case y3 =>
    clear hS
    clear hw
    go_simp
  try simp only [Act.put, List.getElem_toArray, List.getElem_cons_zero, List.getElem_cons_succ, List.setIfInBounds_toArray, List.set_cons_zero, List.set_cons_succ]
  refine wpAnyH_take (i := 4) (v := .slice fa 1 fc) rfl (by kernel_rfl) (by kernel_rfl) (by kernel_rfl) (fun _ _ _ h => h) (Or.inl ⟨by kernel_rfl, fun w' hw => ?y4⟩) hS ?_
  case y4 =>
    clear hS
    clear hw
    go_simp
  try simp only [Act.put, List.getElem_toArray, List.getElem_cons_zero, List.getElem_cons_succ, List.setIfInBounds_toArray, List.set_cons_zero, List.set_cons_succ]
  refine wpAnyH_take (i := 5) (v := .int .i64 0) rfl (by kernel_rfl) (by kernel_rfl) (by kernel_rfl) (fun _ _ _ h => h) (Or.inl ⟨by kernel_rfl, fun w' hw => ?y5⟩) hS ?_
  case y5 =>
    clear hS
    clear hw
    go_simp
  try simp only [Act.put, List.getElem_toArray, List.getElem_cons_zero, List.getElem_cons_succ, List.setIfInBounds_toArray, List.set_cons_zero, List.set_cons_succ]
  refine wpAnyH_take (i := 6) (v := .slice fa 1 fc) rfl (by kernel_rfl) (by kernel_rfl) (by kernel_rfl) (fun _ _ _ h => h) (Or.inl ⟨by kernel_rfl, fun w' hw => ?y6⟩) hS ?_
  case y6 =>
    clear hS
    clear hw
    go_simp
  try simp only [Act.put, List.getElem_toArray, List.getElem_cons_zero, List.getElem_cons_succ, List.setIfInBounds_toArray, List.set_cons_zero, List.set_cons_succ]
  refine wpAnyH_take (i := 7) (v := .int .i64 0) rfl (by kernel_rfl) (by kernel_rfl) (by kernel_rfl) (fun _ _ _ h => h) (Or.inl ⟨by kernel_rfl, fun w' hw => ?y7⟩) hS ?_
  case y7 =>
    clear hS
    clear hw
    go_simp
  try simp only [Act.put, List.getElem_toArray, List.getElem_cons_zero, List.getElem_cons_succ, List.setIfInBounds_toArray, List.set_cons_zero, List.set_cons_succ]
  refine wpAnyH_done (by kernel_rfl) ?_ _
  have BW9 : Hid (Below w.heap.size w w9) := BW7.out.trans (hS.mono BW7.out.size)
  obtain ⟨g, o, cap, cur, hv, _, _, _, hg, hsz, htk⟩ := hO.there (by omega)
  cases hv
  have cc : ∀ j u, (fls [(⟨3, 1, 0⟩ : Fl)])[j]? = some u → w9.cell? ⟨g, o + j, none⟩ = some u := by
    intro j u hu
    rw [cell_blk hg]
    rw [← htk, List.getElem?_take] at hu
    split at hu
    · simpa [List.getElem?_drop] using hu
    · cases hu
  have c0 := cc 0 (.int .i64 3) rfl
  have c1 := cc 1 (.int .i64 1) rfl
  have c2 := cc 2 (.int .i64 0) rfl
  simp only [Nat.add_zero] at c0
  clear cc hg hsz htk hO hB9 hB8 hS k0 k1 k2 k3 kl
  go_wp2
  go_ret
  exact ⟨rfl, BW9.out⟩
end Go.Proofs.YtpknggcgojkjgaaGreat.Cn
