/-
  What an arena shows of itself when it is new, beside the document's: one slot, the counts, the caches.
-/
import Derived.Test.YtkimmfdicohoiaaArNewU
import Derived.Test.YtkimmfdicohoiaaArAsk2
import Derived.Test.YtkimmfdicohoiaaArKit
import Derived.Test.YtkimmfdicohoiaaRfMach4
import Derived.Deep.RegionHeld3
namespace Go.Proofs.Ytkimmfdicohoiaa.Ar
open Go.RowKit Go.Shelf Mr Me Ma Wc Wm Wr Rf
set_option linter.unusedVariables false
set_option linter.unusedSimpArgs false
theorem num_any (n : Int) (w : World) : Calls Try.prog 6 #[.int .i64 n] w fun e w' => e = .returned (.int .i64 n) ∧ w' = w := by
  go_enter Try.func6, Try.ntmps6
  go_wp2
  go_ret
  exact ⟨rfl, rfl⟩
/-- A new arena and the document's machine, side by side. -/
structure Bo (W : World) (ba b n nt u : Nat) (c : Cf) (gst cst gho cho gt ct : Nat) : Prop where
  ar : ∃ gs cs vca vs, Ar W (fun k => k < W.heap.size) ba gs cs c vca vs (Ao.newU n nt u)
  lb : b < W.heap.size
  m11 : W.cell? ⟨b, 11, none⟩ = some (.slice (some ⟨gt, 0, none⟩) nt ct)
  m12 : W.cell? ⟨b, 12, none⟩ = some (.slice (some ⟨gst, 0, none⟩) n cst)
  m13 : W.cell? ⟨b, 13, none⟩ = some (.slice (some ⟨gho, 0, none⟩) n cho)
  st : Has W (fun k => k < W.heap.size) 38 1 (.slice (some ⟨gst, 0, none⟩) n cst) n (nums (stsOf u n))
  ho : Has W (fun k => k < W.heap.size) 3 1 (.slice (some ⟨gho, 0, none⟩) n cho) n (nums (List.replicate n (-1)))
  th : Has W (fun k => k < W.heap.size) 66 658 (.slice (some ⟨gt, 0, none⟩) nt ct) nt ((List.replicate nt rt0).flatMap Rt.cells)
  n1 : 1 ≤ n ∧ n ≤ 1024
  t1 : 1 ≤ nt ∧ nt ≤ 16
section
variable {W W' : World} {ba b n nt u : Nat} {c : Cf} {gst cst gho cho gt ct : Nat}
theorem Bo.below (h : Bo W ba b n nt u c gst cst gho cho gt ct) (hB : Below W.heap.size W W') : Bo W' ba b n nt u c gst cst gho cho gt ct := by
  have hs := hB.size
  have hc : ∀ j, W'.cell? ⟨b, j, none⟩ = W.cell? ⟨b, j, none⟩ := fun j => hB.cell (p := ⟨b, j, none⟩) h.lb
  refine ⟨?_, by have := h.lb; omega, (hc 11).trans h.m11, (hc 12).trans h.m12, (hc 13).trans h.m13, (h.st.below hB).mono (fun k hk => by omega), (h.ho.below hB).mono (fun k hk => by omega), (h.th.below hB).mono (fun k hk => by omega), h.n1, h.t1⟩
  obtain ⟨gs, cs, vca, vs, ha⟩ := h.ar
  exact ⟨gs, cs, vca, vs, ha.kept (fun k hk => hB.block k hk) (fun k hk => by omega)⟩
theorem Bo.has (h : Bo W ba b n nt u c gst cst gho cho gt ct) (s : Int) : (Ao.newU n nt u).has s ↔ (0 ≤ s ∧ s < n) := by
  unfold Ao.has
  rw [show (Ao.newU n nt u).sl.length = n from lnk_len u n]
theorem newU_st (n nt u s : Nat) (hs : s < n) : (Ao.newU n nt u).st (s : Int) = (if s < u then 3 else 0, -1) := by
  show ((lnk u n)[(s : Int).toNat]?).getD (0, -1) = _
  rw [Int.toNat_natCast, lnk_get _ _ _ hs]
  rfl
theorem sts_get (u n s : Nat) (hs : s < n) : (nums (stsOf u n))[s]? = some (.int .i64 (if s < u then 3 else 0)) := by
  simp [nums, stsOf, hs]
theorem ho_get (n s : Nat) (hs : s < n) : (nums (List.replicate n (-1)))[s]? = some (.int .i64 (-1)) := by
  simp [nums, hs]
set_option maxRecDepth 100000 in
set_option maxHeartbeats 1000000 in
theorem shown_any (h : Bo W ba b n nt u c gst cst gho cho gt ct) (s : Int) :
    Calls Try.prog 16 #[.pointer (some ⟨ba, 0, none⟩), .pointer (some ⟨b, 0, none⟩), .int .i64 s] W fun e w' => e = .returned (.bool true) ∧ Below W.heap.size W w' := by
  obtain ⟨gs, cs, vca, vs, ha⟩ := h.ar
  have hn := h.n1
  by_cases hx : (Ao.newU n nt u).has s
  · have C := state_yes ha s hx
    rw [h.has] at hx
    obtain ⟨x, rfl⟩ : ∃ x : Nat, s = x := ⟨s.toNat, by omega⟩
    have hxn : x < n := by omega
    rw [newU_st n nt u x hxn] at C
    have e0 : ∀ w1, Below W.heap.size W w1 → w1.cell? ⟨b, 12, none⟩ = some (.slice (some ⟨gst, 0, none⟩) n cst) ∧ w1.cell? ⟨b, 13, none⟩ = some (.slice (some ⟨gho, 0, none⟩) n cho) ∧ w1.cell? ⟨gst, x, none⟩ = some (.int .i64 (if x < u then 3 else 0)) ∧ w1.cell? ⟨gho, x, none⟩ = some (.int .i64 (-1)) := fun w1 hB => by
      have h1 := h.below hB
      exact ⟨h1.m12, h1.m13, h1.st.cells (g := gst) rfl x _ (sts_get u n x hxn), h1.ho.cells (g := gho) rfl x _ (ho_get n x hxn)⟩
    have d0 : decide ((x : Int) < 0) = false := by simp
    have d1 : decide ((n : Int) ≤ (x : Int)) = false := by simp; omega
    have d2 : (x : Int) < (n : Int) := by omega
    generalize (if x < u then (3 : Int) else 0) = y at *
    replace e0 := Mr.hid e0
    clear ha h
    go_enter Try.func16, Try.ntmps16
    go_wp2_with (first | (go_at_call 31; refine C.mono ?_; clear C; rintro e w1 ⟨rfl, hB, hsz⟩; obtain ⟨k0, k1, k2, k3⟩ := e0.out w1 hB; clear e0; replace hB := Mr.hid hB) | (go_at_call 6; refine (num_any _ _).mono ?_; rintro e wn ⟨rfl, rfl⟩))
    go_ret
    exact ⟨rfl, hB.out⟩
  · have C := state_no ha s hx
    rw [h.has] at hx
    have k0 := h.m12
    clear ha h
    by_cases h0 : s < 0
    · have d0 : decide (s < 0) = true := decide_eq_true h0
      go_enter Try.func16, Try.ntmps16
      go_wp2_with (first | (go_at_call 31; refine C.mono ?_; clear C; rintro e w1 ⟨rfl, hw⟩; obtain rfl := hw.symm) | (go_at_call 6; refine (num_any _ _).mono ?_; rintro e wn ⟨rfl, rfl⟩))
      go_ret
      exact ⟨rfl, Below.refl _ _⟩
    · have d0 : decide (s < 0) = false := decide_eq_false h0
      have d1 : decide ((n : Int) ≤ s) = true := decide_eq_true (by omega)
      go_enter Try.func16, Try.ntmps16
      go_wp2_with (first | (go_at_call 31; refine C.mono ?_; clear C; rintro e w1 ⟨rfl, hw⟩; obtain rfl := hw.symm) | (go_at_call 6; refine (num_any _ _).mono ?_; rintro e wn ⟨rfl, rfl⟩))
      go_ret
      exact ⟨rfl, Below.refl _ _⟩
end
end Go.Proofs.Ytkimmfdicohoiaa.Ar
