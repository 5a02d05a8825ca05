/-
  SCHEDULE: the heap's sink.
-/
import Derived.Test.YtailcefgkgpalaaSsRise
namespace Go.Proofs.Ytailcefgkgpalaa.Ss
open Go.RowKit Mr Md Sh
set_option linter.unusedVariables false
set_option linter.unusedSimpArgs false
set_option maxRecDepth 100000
/-- The first one of a pair and those below it that have been looked at. -/
structure Fs (l : List Tr) (q c f : Nat) : Prop where
  own : f = q ∨ (f < c ∧ 2 * q + 1 ≤ f ∧ f < l.length)
  le0 : le (tr l f) (tr l q)
  le1 : ∀ j, 2 * q + 1 ≤ j → j < c → j < l.length → le (tr l f) (tr l j)
theorem Fs.start (l : List Tr) (q : Nat) : Fs l q (2 * q + 1) q := ⟨.inl rfl, le_refl _, fun j h1 h2 _ => by omega⟩
theorem Fs.yes {l : List Tr} {q c f : Nat} (h : Fs l q c f) (hc : 2 * q + 1 ≤ c) (hl : c < l.length) (ha : ahd (tr l c) (tr l f)) : Fs l q (c + 1) c :=
  ⟨.inr ⟨by omega, hc, hl⟩, le_trans (ahd_le ha) h.le0, fun j h1 h2 h3 => by
    by_cases e : j = c
    · subst e; exact le_refl _
    · exact le_trans (ahd_le ha) (h.le1 j h1 (by omega) h3)⟩
theorem Fs.no {l : List Tr} {q c f : Nat} (h : Fs l q c f) (ha : ¬ ahd (tr l c) (tr l f)) : Fs l q (c + 1) f :=
  ⟨h.own.imp id (fun ⟨a, b, d⟩ => ⟨by omega, b, d⟩), h.le0, fun j h1 h2 h3 => by
    by_cases e : j = c
    · subst e; exact ahd_no.1 ha
    · exact h.le1 j h1 (by omega) h3⟩
theorem Fs.stop {l : List Tr} {q c : Nat} (h : Fs l q c q) (hc : 2 * q + 3 ≤ c ∨ l.length ≤ c) (hd : Dn l q) : Hep l :=
  hd.stop (fun j h0 hj e => h.le1 j (by omega) (by omega) hj)
theorem Fs.step {l : List Tr} {q c f : Nat} (h : Fs l q c f) (hc : 2 * q + 3 ≤ c ∨ l.length ≤ c) (hc2 : c ≤ 2 * q + 3) (hn : f ≠ q) (hd : Dn l q) : f < l.length ∧ q < f ∧ q < l.length ∧ Dn (swp l q f) f := by
  rcases h.own with e | ⟨h1, h2, h3⟩
  · exact absurd e hn
  · exact ⟨h3, by omega, by omega, hd.step (by omega) h3 (by omega) h.le0 (fun j h0 hj e => h.le1 j (by omega) (by omega) hj)⟩
set_option maxHeartbeats 8000000 in
theorem sink_any {D : Int → ByteArray → Prop} {w : World} {b : Nat} {S : Nat → Prop} {v : Value} {l : List Tr} {p : Int} (h : Hh w b S v l p) (hlm : l.length ≤ 10000000000000) (hu : Dn l 0) (hC : ∀ k c k' c', D k c → D k' c' → ∀ w, Calls Try.prog 26 #[.string c, .string c'] w fun e w' => e = .returned (.int .i64 (cmpI k k')) ∧ w' = w) (hD : ∀ x ∈ l, D x.k x.c) :
    Calls Try.prog 15 #[.pointer (some ⟨b, 0, none⟩), .int .i64 0] w fun e w' => e = .returned (.tuple #[]) ∧ ∃ l', Hh w' b S v l' p ∧ l'.Perm l ∧ Hep l' ∧ Fr w w' S := by
  obtain ⟨n, hn⟩ : ∃ n, n = l.length := ⟨_, rfl⟩
  obtain ⟨va, vc, rfl, hvc⟩ := h.row.form
  rw [← hn] at hlm h
  rw [← hn]
  replace hn := Mr.hid hn
  replace hC := Mr.hid hC
  replace hD := Mr.hid hD
  replace h := Mr.hid h
  replace hu := Mr.hid hu
  go_enter Try.func15, Try.ntmps15
  go_wp2
  go_loopg [1] n (fun k s1 wr => ∃ (q : Nat) (l' : List Tr), s1 = .int .i64 (q : Int) ∧ q + k = n ∧ Hh wr b S (.slice va n vc) l' p ∧ l'.Perm l ∧ Dn l' q ∧ Fr w wr S)
  case atStart => exact ⟨0, l, rfl, by omega, h.out, List.Perm.refl _, hu.out, Fr.refl _ _⟩
  case round =>
    clear hu
    obtain ⟨q, l', rfl, hq, hh, hp, hu, hf⟩ := hrel
    have hl' : l'.length = n := by rw [hp.length_eq]; exact hn.out.symm
    have hqb : q ≤ n := by omega
    replace hq := Mr.hid hq
    have hw1 : IntKind.i64.wrap (2 * (q : Int)) = 2 * (q : Int) := i64x _ (by omega) (by omega)
    have hw2 : IntKind.i64.wrap (2 * (q : Int) + 1) = 2 * (q : Int) + 1 := i64x _ (by omega) (by omega)
    have hw3 : IntKind.i64.wrap (2 * (q : Int) + 2) = 2 * (q : Int) + 2 := i64x _ (by omega) (by omega)
    replace hp := Mr.hid hp
    replace hu := Mr.hid hu
    go_wp2
    go_loopg [4, 5] 3 (fun k s4 s5 w2 => ∃ (f c : Nat), s4 = .int .i64 (f : Int) ∧ s5 = .int .i64 (c : Int) ∧ c + k = 2 * q + 4 ∧ 2 * q + 1 ≤ c ∧ c ≤ 2 * q + 3 ∧ Fs l' q c f ∧ Hh w2 b S (.slice va n vc) l' p ∧ Fr w w2 S)
    case atStart => exact ⟨q, 2 * q + 1, rfl, by simp, by omega, by omega, by omega, Fs.start _ _, hh, hf⟩
    case round =>
      clear hh hf
      obtain ⟨f, c, rfl, rfl, hc, hc1, hc2, hs, hh, hf⟩ := hrel
      have k0 := hh.c0
      have kl := hh.lt
      have hqf : Hid (q < f ∨ f = q) := by
        rcases hs.own with e | ⟨_, e, _⟩
        · exact .inr e
        · exact .inl (by omega)
      by_cases hgo : c ≤ 2 * q + 2 ∧ c < n
      · obtain ⟨hg1, hg2⟩ := hgo
        have d1 : (c : Int) ≤ 2 * (q : Int) + 2 := by omega
        have d2 : (c : Int) < (n : Int) := by omega
        have hw4 : IntKind.i64.wrap ((c : Int) + 1) = (c : Int) + 1 := i64x _ (by omega) (by omega)
        have hfn : f < l'.length := by
          rcases hs.own with e | ⟨_, _, e⟩
          · omega
          · exact e
        by_cases ha : ahd (tr l' c) (tr l' f)
        · have A := Mr.hid (ahead_any hh c f (by omega) hfn hC.out (hD.out _ (hp.out.subset (tr_mem (by omega)))) (hD.out _ (hp.out.subset (tr_mem hfn))) true ⟨fun _ => ha, fun _ => rfl⟩)
          have hs2 := Mr.hid (hs.yes hc1 (by omega) ha)
          clear hs ha hfn hl'
          replace hh := Mr.hid hh
          replace hf := Mr.hid hf
          go_wp2_with (go_at_call 21; refine A.out.mono ?_; clear A; rintro e w3 ⟨rfl, hB⟩; replace hh := Mr.hid (hh.out.below hB); replace hf := Mr.hid (hf.out.trans (Fr.of_below hB)); clear hB)
          go_roundg (gk - 1)
          case measure => omega
          case rel => exact ⟨c, c + 1, rfl, by simp, by omega, by omega, by omega, hs2.out, hh.out, hf.out⟩
        · have A := Mr.hid (ahead_any hh c f (by omega) hfn hC.out (hD.out _ (hp.out.subset (tr_mem (by omega)))) (hD.out _ (hp.out.subset (tr_mem hfn))) false ⟨fun e => (by cases e), fun e => absurd e ha⟩)
          have hs2 := Mr.hid (hs.no ha)
          clear hs ha hfn hl'
          replace hh := Mr.hid hh
          replace hf := Mr.hid hf
          go_wp2_with (go_at_call 21; refine A.out.mono ?_; clear A; rintro e w3 ⟨rfl, hB⟩; replace hh := Mr.hid (hh.out.below hB); replace hf := Mr.hid (hf.out.trans (Fr.of_below hB)); clear hB)
          go_roundg (gk - 1)
          case measure => omega
          case rel => exact ⟨f, c + 1, rfl, by simp, by omega, by omega, by omega, hs2.out, hh.out, hf.out⟩
      · have hfin : 2 * q + 3 ≤ c ∨ l'.length ≤ c := by omega
        by_cases hg1 : c ≤ 2 * q + 2
        · have d1 : (c : Int) ≤ 2 * (q : Int) + 2 := by omega
          have d2 : decide ((c : Int) < (n : Int)) = false := decide_eq_false (by omega)
          have d3 : decide (c < n) = false := decide_eq_false (by omega)
          clear hgo
          by_cases hfq : f = q
          · have z1 : ((f : Int) == (q : Int)) = true := by simp [hfq]
            have hE : Hep l' := by rw [hfq] at hs; exact hs.stop hfin hu.out
            have hend : Hid (∃ l', Hh wr b S (.slice va n vc) l' p ∧ l'.Perm l ∧ Hep l' ∧ Fr w wr S) := ⟨l', hh, hp.out, hE, hf⟩
            clear hfq hE hh hp hu hf hs hfin hl'
            go_wp2
            (try simp only [Exit.inBlock, Exit.then])
            refine bodyPost_ret (results_none rfl _ _ _) rfl ?_
            exact ⟨rfl, hend.out⟩
          · have z1 : ((f : Int) == (q : Int)) = false := by simp; omega
            obtain ⟨hs1, hs2, hs3, hs4⟩ := hs.step hfin hc2 hfq hu.out
            have X := Mr.hid (exch_any hh q f hs3 hs1 (by omega))
            have hp2 : Hid ((swp l' q f).Perm l) := (swp_perm hs3 hs1).trans hp.out
            have hfn : f < n := by omega
            clear hfq hh hp hu hs hfin hl' hs1 hs3
            replace hs4 := Mr.hid hs4
            replace hf := Mr.hid hf
            go_wp2_with (go_at_call 22; refine X.out.mono ?_; clear X; rintro e w3 ⟨rfl, hh2, hf2⟩; replace hh2 := Mr.hid hh2; replace hf := Mr.hid (hf.out.trans (hf2.mono (fun k hk => Or.inl hk))); clear hf2)
            go_roundg (n - f)
            case measure => have := hq.out; omega
            case rel => exact ⟨f, _, rfl, by omega, hh2.out, hp2.out, hs4.out, hf.out⟩
        · have d1 : decide ((c : Int) ≤ 2 * (q : Int) + 2) = false := decide_eq_false (by omega)
          clear hgo
          by_cases hfq : f = q
          · have z1 : ((f : Int) == (q : Int)) = true := by simp [hfq]
            have hE : Hep l' := by rw [hfq] at hs; exact hs.stop hfin hu.out
            have hend : Hid (∃ l', Hh wr b S (.slice va n vc) l' p ∧ l'.Perm l ∧ Hep l' ∧ Fr w wr S) := ⟨l', hh, hp.out, hE, hf⟩
            clear hfq hE hh hp hu hf hs hfin hl'
            go_wp2
            (try simp only [Exit.inBlock, Exit.then])
            refine bodyPost_ret (results_none rfl _ _ _) rfl ?_
            exact ⟨rfl, hend.out⟩
          · have z1 : ((f : Int) == (q : Int)) = false := by simp; omega
            obtain ⟨hs1, hs2, hs3, hs4⟩ := hs.step hfin hc2 hfq hu.out
            have X := Mr.hid (exch_any hh q f hs3 hs1 (by omega))
            have hp2 : Hid ((swp l' q f).Perm l) := (swp_perm hs3 hs1).trans hp.out
            have hfn : f < n := by omega
            clear hfq hh hp hu hs hfin hl' hs1 hs3
            replace hs4 := Mr.hid hs4
            replace hf := Mr.hid hf
            go_wp2_with (go_at_call 22; refine X.out.mono ?_; clear X; rintro e w3 ⟨rfl, hh2, hf2⟩; replace hh2 := Mr.hid hh2; replace hf := Mr.hid (hf.out.trans (hf2.mono (fun k hk => Or.inl hk))); clear hf2)
            go_roundg (n - f)
            case measure => have := hq.out; omega
            case rel => exact ⟨f, _, rfl, by omega, hh2.out, hp2.out, hs4.out, hf.out⟩
end Go.Proofs.Ytailcefgkgpalaa.Ss
