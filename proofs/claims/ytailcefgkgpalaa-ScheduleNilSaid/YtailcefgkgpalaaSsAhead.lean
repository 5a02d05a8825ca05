/-
  SCHEDULE: the heap's ahead and exchange.
-/
import Derived.Test.YtailcefgkgpalaaSsHeapR
import Derived.Deep.RegionHeld3
namespace Go.Proofs.Ytailcefgkgpalaa.Ss
open Go.RowKit Mr Md Sh
set_option linter.unusedVariables false
set_option linter.unusedSimpArgs false
set_option maxRecDepth 100000
set_option maxHeartbeats 8000000 in
theorem ahead_any {D : Int → ByteArray → Prop} {w : World} {b : Nat} {S : Nat → Prop} {v : Value} {l : List Tr} {p : Int} (h : Hh w b S v l p) (i j : Nat) (hi : i < l.length) (hj : j < l.length) (hC : ∀ k c k' c', D k c → D k' c' → ∀ w, Calls Try.prog 26 #[.string c, .string c'] w fun e w' => e = .returned (.int .i64 (cmpI k k')) ∧ w' = w) (dx : D (tr l i).k (tr l i).c) (dy : D (tr l j).k (tr l j).c) (c : Bool) (hc : c = true ↔ ahd (tr l i) (tr l j)) :
    Calls Try.prog 21 #[.pointer (some ⟨b, 0, none⟩), .int .i64 (i : Int), .int .i64 (j : Int)] w fun e w' => e = .returned (.bool c) ∧ Below w.heap.size w w' := by
  obtain ⟨g, cap, rfl, hS, hgl, hcp, hcm⟩ := h.there (by omega)
  have k0 := h.c0
  have kl := h.lt
  obtain ⟨a0, a1, a2, af⟩ := h.cell hi
  obtain ⟨b0, b1, b2, bf⟩ := h.cell hj
  generalize tr l i = x at *
  generalize tr l j = y at *
  obtain ⟨n, hn⟩ : ∃ n, n = l.length := ⟨_, rfl⟩
  rw [← hn] at hi hj k0
  replace hn := Mr.hid hn
  replace h := Mr.hid h
  have hiI : (i : Int) < (n : Int) := by omega
  have hjI : (j : Int) < (n : Int) := by omega
  have hi0 : (0 : Int) ≤ (i : Int) := by omega
  have hj0 : (0 : Int) ≤ (j : Int) := by omega
  clear a1 b1 af bf hcp hcm
  rcases Int.lt_trichotomy x.k y.k with hk | hk | hk
  · have C := fun w => hC x.k x.c y.k y.c dx dy w
    rw [cmpI_lt hk] at C
    have hct : c = true := hc.2 (.inl hk)
    subst hct
    clear hk a2 b2
    replace C := Mr.hid C
    replace hc := Mr.hid hc
    go_enter Try.func21, Try.ntmps21
    go_upto_region 1 with (fail)
    go_quiet (fail)
    have B := Bx.draws w.heap.size w nq
    generalize w.drewN nq = w1 at *
    replace a0 := (B.cell (p := ⟨g, i * 3, none⟩) hgl).trans a0
    replace b0 := (B.cell (p := ⟨g, j * 3, none⟩) hgl).trans b0
    have hgl1 : g < w1.heap.size := Nat.lt_of_lt_of_le hgl B.size
    replace B := Mr.hid B
    clear k0 kl
    go_upto_region 2 with (fail)
    go_quiet (first | (go_at_call 26; exact Calls.quiet_of_same (C.out _)))
    have B2 := Bx.draws w1.heap.size w1 nq
    generalize w1.drewN nq = w2 at *
    replace B := Mr.hid (B.out.trans (B2.mono B.out.size))
    clear B2 a0 b0
    go_wp2
    go_ret
    exact ⟨rfl, B.out⟩
  · have C := fun w => hC x.k x.c y.k y.c dx dy w
    rw [show cmpI x.k y.k = 0 from by rw [hk]; exact cmpI_eq _] at C
    have hd : Hid (decide (x.n < y.n) = c) := by
      unfold ahd at hc
      by_cases hn : x.n < y.n
      · exact (decide_eq_true hn).trans (hc.2 (.inr ⟨hk, hn⟩)).symm
      · refine (decide_eq_false hn).trans ?_
        cases c
        · rfl
        · exact absurd (hc.1 rfl) (by omega)
    clear hk
    replace C := Mr.hid C
    replace hc := Mr.hid hc
    go_enter Try.func21, Try.ntmps21
    go_upto_region 1 with (fail)
    go_quiet (fail)
    have B := Bx.draws w.heap.size w nq
    generalize w.drewN nq = w1 at *
    replace a0 := (B.cell (p := ⟨g, i * 3, none⟩) hgl).trans a0
    replace b0 := (B.cell (p := ⟨g, j * 3, none⟩) hgl).trans b0
    replace a2 := (B.cell (p := ⟨g, i * 3 + 2, none⟩) hgl).trans a2
    replace b2 := (B.cell (p := ⟨g, j * 3 + 2, none⟩) hgl).trans b2
    have hgl1 : g < w1.heap.size := Nat.lt_of_lt_of_le hgl B.size
    replace B := Mr.hid B
    clear k0 kl
    go_upto_region 2 with (fail)
    go_quiet (first | (go_at_call 26; exact Calls.quiet_of_same (C.out _)))
    have B2 := Bx.draws w1.heap.size w1 nq
    generalize w1.drewN nq = w2 at *
    replace a2 := (B2.cell (p := ⟨g, i * 3 + 2, none⟩) hgl1).trans a2
    replace b2 := (B2.cell (p := ⟨g, j * 3 + 2, none⟩) hgl1).trans b2
    have hgl2 : g < w2.heap.size := Nat.lt_of_lt_of_le hgl1 B2.size
    replace B := Mr.hid (B.out.trans (B2.mono B.out.size))
    clear B2 a0 b0
    go_upto_region 5 with (fail)
    go_quiet (fail)
    replace B := Mr.hid (B.out.trans ((Bx.draws w2.heap.size w2 nq).mono B.out.size))
    clear a2 b2
    generalize w2.drewN nq = w3 at *
    go_wp2
    go_ret
    exact ⟨by rw [hd.out]; rfl, B.out⟩
  · have C := fun w => hC x.k x.c y.k y.c dx dy w
    rw [cmpI_gt hk] at C
    have hct : c = false := by
      cases c
      · rfl
      · have := hc.1 rfl
        unfold ahd at this
        omega
    subst hct
    clear hk a2 b2
    replace C := Mr.hid C
    replace hc := Mr.hid hc
    go_enter Try.func21, Try.ntmps21
    go_upto_region 1 with (fail)
    go_quiet (fail)
    have B := Bx.draws w.heap.size w nq
    generalize w.drewN nq = w1 at *
    replace a0 := (B.cell (p := ⟨g, i * 3, none⟩) hgl).trans a0
    replace b0 := (B.cell (p := ⟨g, j * 3, none⟩) hgl).trans b0
    have hgl1 : g < w1.heap.size := Nat.lt_of_lt_of_le hgl B.size
    replace B := Mr.hid B
    clear k0 kl
    go_upto_region 2 with (fail)
    go_quiet (first | (go_at_call 26; exact Calls.quiet_of_same (C.out _)))
    have B2 := Bx.draws w1.heap.size w1 nq
    generalize w1.drewN nq = w2 at *
    replace B := Mr.hid (B.out.trans (B2.mono B.out.size))
    clear B2 a0 b0
    go_wp2
    go_ret
    exact ⟨rfl, B.out⟩
end Go.Proofs.Ytailcefgkgpalaa.Ss
