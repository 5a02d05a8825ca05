/-
  SCHEDULE: the law of Seeded.
-/
import Derived.Test.YtfbneodldlcdjaaShSeedR
import Derived.Test.YtfbneodldlcdjaaShRound
import Derived.OpenShut
namespace Go.Proofs.Ytfbneodldlcdjaa.Sh
open Go.RowKit Mr Md
set_option linter.unusedVariables false
set_option linter.unusedSimpArgs false
set_option maxRecDepth 100000
/-- What both answer. -/
theorem seed_any (sd : Int) (hs0 : 0 ≤ sd) (hs1 : sd ≤ 18446744073709551615) (ws : List Int) (s : Int) : ∃ (l : List Int) (e : Int), l.length ≤ 65536 ∧
    (∀ (W : World) (T : Nat → Prop) (v : Value), Sl W T 1 v ws.length (ints ws) → Calls Try.prog 10 #[.int .u64 sd, v, .int .i64 s] W fun r w' => ∃ u, r = .returned (.tuple #[u, .int .i64 e]) ∧ Nw W w' u l) ∧
    (∀ (W : World) (T : Nat → Prop) (v : Value), Sl W T 1 v ws.length (ints ws) → Calls Try.prog 11 #[.int .u64 sd, v, .int .i64 s] W fun r w' => ∃ u, r = .returned (.tuple #[u, .int .i64 e]) ∧ Nw W w' u l) := by
  rcases sr_cases ws s with ⟨e, h⟩ | ⟨n, rfl, hn, h1, h2, h3⟩
  · refine ⟨[], e, by simp, fun W T v hv => (seeded_no hv sd h).mono ?_, fun W T v hv => (rseeded_no hv sd h).mono ?_⟩
    · rintro r w' ⟨rfl, hB⟩
      exact ⟨_, rfl, ⟨hB, Own.zero _ _ _ _ _⟩⟩
    · rintro r w' ⟨rfl, hB⟩
      exact ⟨_, rfl, ⟨hB, Own.zero _ _ _ _ _⟩⟩
  · exact ⟨sdl ws sd n, 0, by rw [sdl_len]; exact hn, fun W T v hv => seeded_ok hv h1 h2 h3 sd hs0 hs1 n hn, fun W T v hv => rseeded_ok hv h1 h2 h3 sd hs0 hs1 n hn⟩
theorem Nw.apps {W w w1 w2 : World} {u' : Value} {n : Nat} {l : List Int} {o : Obj} (hw : w = W) (h1 : w1 = w.alloc o ∨ w1 = w) (hl : n = l.length) (ho : Own w2 (fun k => W.heap.size ≤ k ∨ k = w1.heap.size) 3 1 u' n ([] ++ ints l)) (hf : Fr w1 w2 (fun k => W.heap.size ≤ k)) : Nw W w2 u' l := by
  have B1 : Below W.heap.size W w1 := by
    rcases h1 with h1 | h1
    · subst h1; subst hw; exact (Below.refl _ _).alloc (Nat.le_refl _) _
    · subst h1; subst hw; exact Below.refl _ _
  subst hl
  rw [List.nil_append] at ho
  refine ⟨⟨hf.os.trans B1.os, hf.tape.trans B1.tape, hf.output.trans B1.output, Nat.le_trans B1.size hf.size, fun k hk => (hf.block k (Nat.lt_of_lt_of_le hk B1.size) (by omega)).trans (B1.block k hk)⟩, ?_⟩
  exact ho.mono (fun k hk => by have := B1.size; omega)
theorem sl_src {W : World} {T : Nat → Prop} {a : Option Addr} {n cap : Nat} {l : List Int} (h : Sl W T 1 (.slice a n cap) n (ints l)) : (a = none → n = 0) ∧ ∀ ad, a = some ad → ∀ j u, (ints l)[j]? = some u → W.cell? (ad.add j) = some u := by
  obtain ⟨hl, a', c', e, _, h2⟩ := h
  cases e
  rcases h2 with rfl | ⟨b, o, rfl, _, _, hr⟩
  · refine ⟨fun _ => rfl, fun ad _ j u hu => ?_⟩
    have : (ints l) = [] := List.eq_nil_of_length_eq_zero (by simpa using hl)
    rw [this] at hu; simp at hu
  · refine ⟨fun e => (by cases e), fun ad e j u hu => ?_⟩
    cases e
    rw [add1]; exact hr j u hu
/-- A row's first elements, and its last. -/
theorem nw_cut {W w : World} {b : Option Addr} {n cap : Nat} {ws : List Int} {x : Int} (h : Nw W w (.slice b (n + 1) cap) (ws ++ [x])) (hn : n = ws.length) : n + 1 ≤ cap ∧ Sl w (fun k => W.heap.size ≤ k) 1 (.slice b n cap) ws.length (ints ws) ∧ ∃ g o, b = some ⟨g, o, none⟩ ∧ w.cell? ⟨g, o + n, none⟩ = some (.int .i64 x) ∧ g < w.heap.size := by
  have hl : (ws ++ [x]).length = n + 1 := by simp [hn]
  obtain ⟨g, o, cp, cur, e, hc, _, hS, hg, hs, hx⟩ := h.own.there (by omega)
  injection e with e1 e2 e3
  subst e1
  subst e3
  have hcl : ∀ j u, (ints (ws ++ [x]))[j]? = some u → w.cell? ⟨g, o + j, none⟩ = some u := fun j u hu => own_cells hg hx j u hu
  refine ⟨by omega, ⟨by simp [ints], some ⟨g, o, none⟩, cap, by rw [hn], by omega, .inr ⟨g, o, rfl, hS, (Array.getElem?_eq_some_iff.1 hg).1, fun j u hu => hcl j u ?_⟩⟩, g, o, rfl, hcl n _ (by simp [ints, hn]), (Array.getElem?_eq_some_iff.1 hg).1⟩
  have hj := (List.getElem?_eq_some_iff.1 hu).1
  unfold ints at hu hj ⊢
  rw [List.map_append, List.getElem?_append_left hj]
  exact hu
set_option maxHeartbeats 8000000 in
theorem walk_seeds (sd : Int) (v : Value) (ws : List Int) (s : Int) (W : World) (h0 : (Lit.int .u64 sd).wf = true) (hv : Sl W (fun _ => True) 1 v ws.length (ints ws)) (hr : ws.length * 8 ≤ 140737488351232) (_h2 : (Lit.int .i64 s).wf = true) :
    Calls Try.prog 4 #[.int .u64 sd, v, .int .i64 s] W fun r w' => r = .returned (.bool true) ∧ Below W.heap.size W w' := by
  obtain ⟨i0, hi0, hz0, hz1, hz2⟩ := parts_of wt_int
  have hb : 0 ≤ sd ∧ sd ≤ 18446744073709551615 := bounds_u64 h0
  obtain ⟨l, e, hl, hP, hR⟩ := seed_any sd hb.1 hb.2 ws s
  obtain ⟨a, c, rfl, hc⟩ := hv.form
  obtain ⟨n, hn⟩ : ∃ n, n = ws.length := ⟨_, rfl⟩
  rw [← hn] at hv hr hc ⊢
  have hsrc := sl_src hv
  replace hsrc := Mr.hid hsrc
  have hr0 : n ≤ 17592186043904 := by omega
  replace hn := Mr.hid hn
  replace hv := Mr.hid hv
  replace hl := Mr.hid hl
  replace hP := Mr.hid hP
  replace hR := Mr.hid hR
  clear h0 _h2 hb
  have tk : Hid True := trivial
  have tj : Hid True := trivial
  go_enter Try.func4, Try.ntmps4
  go_upto_region 2 with (first | (clear tk; at_builtin; refine wpList_append_mine _ rfl (.tmp 12) (.tmp 13) 22 rfl (fun k => W.heap.size ≤ k) 3 i0 _ 1 8 Try.underlying22 hi0 hz0 hz1 hz2 rfl _ 0 [] rfl (Own.zero _ _ _ _ _) a n c (ints ws) rfl (by rw [hn.out]; simp [ints]) hsrc.out.1 (fun ad e j u hu => ((hv.out.below ((Below.refl _ _).alloc (Nat.le_refl _) _)) |> sl_src).2 ad e j u hu) (by simp [ints, Value.oneCell']) (by unfold maxLen; omega) (by omega) ?_; intro b9 cap9 w9 hown hfr; rw [Nat.zero_add] at hown; have hX := Mr.hid (Nw.apps rfl (.inl rfl) hn.out hown hfr); clear hown hfr) | (clear tj; at_builtin; (refine wpList_append_mine _ rfl (.tmp 14) (.tmp 15) 22 rfl (fun k => W.heap.size ≤ k) 3 i0 _ 1 8 Try.underlying22 hi0 hz0 hz1 hz2 rfl _ ws.length (ints ws) rfl (hX.out.own.below ((Below.refl _ _).alloc (Nat.le_refl _) _)) (some ⟨w9.heap.size, 0, none⟩) 1 1 [.int .i64 (-77)] rfl rfl (fun e => by cases e) (new1 rfl) (by simp [Value.oneCell']) (by unfold maxLen; have := hn.out; omega) (by have := hn.out; omega) ?_; intro b8 cap8 w8 hown hfr; replace hX := Mr.hid (hX.out.app rfl hown hfr); clear hown hfr)))
  rw [← hn.out] at hX
  try rw [← hn.out]
  obtain ⟨hcp, hsl, hlast⟩ := nw_cut hX.out hn.out
  replace hsl := Mr.hid hsl
  have tk : Hid True := trivial
  have tj : Hid True := trivial
  have hcI : (n : Int) ≤ (cap8 : Int) := by omega
  have hnI : (n : Int) < (n : Int) + 1 := by omega
  have hn0 : (0 : Int) ≤ (n : Int) := by omega
  obtain ⟨g8, o8, rfl, hlc, hlg⟩ := hlast
  clear hlc hlg
  have hXb := Mr.hid hX.out.bel
  go_upto_region 3 with (go_at_call 10; refine (hP.out _ _ _ hsl.out).mono ?_; rintro r w1 ⟨u, rfl, hu⟩; have hB1 := Mr.hid hu.bel; replace hu := Mr.hid hu)
  have hv1 := hv.out
  rw [hn.out] at hv1
  replace hv1 := Mr.hid ((hv1.below hXb.out).below (hB1.out.mono (Nat.le_refl _)))
  go_upto_region 4 with (go_at_call 11; have hR1 := hR.out _ _ _ hv1.out; rw [← hn.out] at hR1; refine hR1.mono ?_; clear hR1; rintro r w2 ⟨v, rfl, hv2⟩; have hB2 := Mr.hid hv2.bel; replace hv2 := Mr.hid hv2)
  have hX2 := (hX.out.below hB1.out).below hB2.out
  obtain ⟨hcp2, hsl2, g9, o9, e9, hlc, hlg⟩ := nw_cut hX2 hn.out
  cases e9
  have hS1 := Mr.hid (sameInts_eq (hu.out.below hB2.out).own.sl hv2.out.own.sl (by have := hl.out; omega))
  have hS2 := Mr.hid (fun w (hB : Below w2.heap.size w2 w) => sameInts_eq (W := w) (hsl2.below hB) ((hv1.out.below hB2.out).below hB) (by have := hn.out; omega))
  rw [← hn.out] at hS2
  replace hX2 := Mr.hid hX2
  replace hsl2 := Mr.hid hsl2
  have hZ := Mr.hid (fun w (hB : Below w2.heap.size w2 w) => (nw_cut (hX2.out.below hB) hn.out).2.2)
  have hBB := Mr.hid hX2.out.bel
  clear hlc hlg
  go_wp2_with (first | (clear tk; go_at_call 8; refine hS1.out.mono ?_; rintro r w3 ⟨rfl, hB3⟩; replace hB3 := Mr.hid hB3; have hS3 := Mr.hid (hS2.out _ hB3.out)) | (go_at_call 9; refine (num_any _ _).mono ?_; rintro r w4 ⟨rfl, rfl⟩) | (clear tj; go_at_call 8; refine hS3.out.mono ?_; rintro r w5 ⟨rfl, hB5⟩; replace hB5 := Mr.hid (hB3.out.trans (hB5.mono hB3.out.size)); obtain ⟨g7, o7, e7, hlc, hlg⟩ := hZ.out _ hB5.out; cases e7))
  go_ret
  exact ⟨rfl, hBB.out.trans (hB5.out.mono hBB.out.size)⟩
end Go.Proofs.Ytfbneodldlcdjaa.Sh
