/-
  CONTRACT of Name, whole.
-/
import Derived.Test.YtpmpdkpnjfidhaaDoorStrName
import Derived.Lib.ItoaLen
namespace Go.Proofs.YtpmpdkpnjfidhaaDoor.St
open Go.RowKit
open Tr
set_option linter.unusedVariables false
/-- A trait in a box. -/
structure Tt (W : World) (b : Nat) (nm : ByteArray) (kd nu : Int) : Prop where
  c0 : W.cell? ⟨b, 0, none⟩ = some (.string nm)
  c1 : W.cell? ⟨b, 1, none⟩ = some (.int .i64 kd)
  c2 : W.cell? ⟨b, 2, none⟩ = some (.int .i64 nu)
  size : b < W.heap.size
theorem Tt.below {W W' : World} {b : Nat} {nm : ByteArray} {kd nu : Int} (h : Tt W b nm kd nu) (hb : Below W.heap.size W W') : Tt W' b nm kd nu :=
  ⟨(hb.cell (p := ⟨b, 0, none⟩) h.size).trans h.c0, (hb.cell (p := ⟨b, 1, none⟩) h.size).trans h.c1, (hb.cell (p := ⟨b, 2, none⟩) h.size).trans h.c2, Nat.lt_of_lt_of_le h.size hb.size⟩
theorem Tt.made (w : World) (nm : ByteArray) (kd nu : Int) (t : TypeId) : Tt (w.alloc (.cells #[.string nm, .int .i64 kd, .int .i64 nu] t)) w.heap.size nm kd nu := by
  refine ⟨?_, ?_, ?_, by simp⟩ <;> (rw [World.cell?_alloc_at _ _ _ _ rfl]; rfl)
theorem tName_size (r : Int) (h1 : 1 ≤ r) (h2 : r ≤ 13) : (tName r).size ≤ 6 := by
  have hr : r = 1 ∨ r = 2 ∨ r = 3 ∨ r = 4 ∨ r = 5 ∨ r = 6 ∨ r = 7 ∨ r = 8 ∨ r = 9 ∨ r = 10 ∨ r = 11 ∨ r = 12 ∨ r = 13 := by omega
  rcases hr with rfl | rfl | rfl | rfl | rfl | rfl | rfl | rfl | rfl | rfl | rfl | rfl | rfl <;> decide
set_option maxHeartbeats 1000000 in
theorem name_ok (r i k : Int) (w : World) (h1 : 1 ≤ r) (h2 : r ≤ 13) (h : (i == bareI r i) = true) (h' : (k == bareK r k) = true) (hi : inB i 0 2147483646 = true) (hk : inB k 0 2147483646 = true) (E0 : Env w) :
    Calls Tryd.prog 6 #[.agg #[.int .i64 r, .int .i64 i, .int .i64 k]] w fun e w' =>
      e = .returned (.tuple #[.string (nameB r i k), .int .i64 0]) ∧ Below w.heap.size w w' := by
  have hn := tNums_cases r h1 h2
  have f1 : Hid (tNums r = 0 → nameB r i k = tName r) := by show tNums r = 0 → _; intro h; unfold nameB; rw [if_pos h]
  have f2 : Hid (tNums r = 1 → nameB r i k = tName r ++ (⟨#[32]⟩ ++ ⟨(Lib.itoa i).toArray⟩)) := by show tNums r = 1 → _; intro h; unfold nameB; rw [if_neg (by omega), if_pos h]
  have f3 : Hid (tNums r = 2 → nameB r i k = (tName r ++ (⟨#[32]⟩ ++ ⟨(Lib.itoa i).toArray⟩)) ++ (⟨#[46]⟩ ++ ⟨(Lib.itoa k).toArray⟩)) := by show tNums r = 2 → _; intro h; unfold nameB; rw [if_neg (by omega), if_neg (by omega)]
  have ib : 0 ≤ i ∧ i ≤ 2147483646 := by simpa [inB] using hi
  have kb : 0 ≤ k ∧ k ≤ 2147483646 := by simpa [inB] using hk
  have li := Lib.itoa_length_le i (by omega) (by omega)
  have lk := Lib.itoa_length_le k (by omega) (by omega)
  have lt := tName_size r h1 h2
  go_enter Tryd.func6, Tryd.ntmps6
  go_wp2_with fail
  go_region_held3 (fun W => W.cell? ⟨w.heap.size, 0, none⟩ = some (.int .i64 r) ∧ W.cell? ⟨w.heap.size, 1, none⟩ = some (.int .i64 i) ∧ W.cell? ⟨w.heap.size, 2, none⟩ = some (.int .i64 k)) (simp [*, go_sem])
    (first
      | (go_at_call 22; refine (isRegion_yes _ _ h1 h2).mono ?_; rintro e w3 ⟨rfl, rfl⟩)
      | (go_at_call 23; refine (bare_any _ _ _ _ h1 h2).mono ?_; rintro e w3 ⟨rfl, hb3⟩; have P3 := (Pl.made w r i k 24).drew.below hb3; have E3 := seqB (((Below.refl _ _).alloc (Nat.le_refl _) _).drew) hb3 (Nat.le_refl _); obtain ⟨p0, p1, p2, ps⟩ := P3))
  have Env3 : Env w3 := E0.below E3
  go_wp2_with (go_at_call 24; refine (within_any _ _ _ _).mono ?_; rintro e w3 ⟨rfl, rfl⟩)
  refine (trait_any _ _ h1 h2).mono ?_
  rintro e w4 ⟨rfl, hb⟩
  have P4 := (show Pl w3 w.heap.size r i k from ⟨p0, p1, p2, ps⟩).below hb
  have E4 := seqB E3 hb (Nat.le_refl _)
  have V4 := Env3.below hb
  clear hb p0 p1 p2 ps E3 Env3
  generalize tNums r = tn at *
  generalize tName r = tm at *
  generalize tKind r = tk
  rcases hn with rfl | rfl | rfl
  · have e1 : Hid (nameB r i k = tm) := f1.out rfl
    clear f1 f2 f3
    go_wp2_with fail
    go_ret2
    exact ⟨by rw [e1.out]; rfl, E4.alloc (by have := E4.size; omega) _⟩
  · have e1 := f2.out rfl
    have e1 : Hid (nameB r i k = tm ++ (⟨#[32]⟩ ++ ⟨(Lib.itoa i).toArray⟩)) := e1
    clear f1 f2 f3
    have al : ∀ o, Below w4.heap.size w4 (w4.alloc o) := fun o => (Below.refl _ _).alloc (Nat.le_refl _) o
    have pc0 : ∀ o, (w4.alloc o).cell? ⟨w.heap.size, 0, none⟩ = some (.int .i64 r) := fun o => (P4.below (al o)).c0
    have pc1 : ∀ o, (w4.alloc o).cell? ⟨w.heap.size, 1, none⟩ = some (.int .i64 i) := fun o => (P4.below (al o)).c1
    go_wp2_with fail
    refine (itoa_any _ _ (by omega) (by omega) (V4.below (al _))).mono ?_
    rintro e w5 ⟨rfl, hb⟩
    have T5 := (Tt.made w4 tm tk 1 61).below hb
    have E5 := seqB (seqB E4 (al _) (Nat.le_refl _)) hb (Nat.le_refl _)
    clear hb pc0 pc1 al
    obtain ⟨t0, t1, t2, ts⟩ := T5
    go_wp2_with fail
    go_ret2
    exact ⟨by rw [e1.out]; rfl, E5⟩
  · have e1 := f3.out rfl
    have e1 : Hid (nameB r i k = (tm ++ (⟨#[32]⟩ ++ ⟨(Lib.itoa i).toArray⟩)) ++ (⟨#[46]⟩ ++ ⟨(Lib.itoa k).toArray⟩)) := e1
    clear f1 f2 f3
    have al : ∀ o, Below w4.heap.size w4 (w4.alloc o) := fun o => (Below.refl _ _).alloc (Nat.le_refl _) o
    have pc0 : ∀ o, (w4.alloc o).cell? ⟨w.heap.size, 0, none⟩ = some (.int .i64 r) := fun o => (P4.below (al o)).c0
    have pc1 : ∀ o, (w4.alloc o).cell? ⟨w.heap.size, 1, none⟩ = some (.int .i64 i) := fun o => (P4.below (al o)).c1
    go_wp2_with fail
    refine (itoa_any _ _ (by omega) (by omega) (V4.below (al _))).mono ?_
    rintro e w5 ⟨rfl, hb⟩
    have T5 := (Tt.made w4 tm tk 2 61).below hb
    have P5 := (P4.below (al _)).below hb
    have V5 := (V4.below (al _)).below hb
    have E5 := seqB (seqB E4 (al _) (Nat.le_refl _)) hb (Nat.le_refl _)
    clear hb pc0 pc1 al
    obtain ⟨t0, t1, t2, ts⟩ := T5
    obtain ⟨p0, p1, p2, ps⟩ := P5
    go_wp2_with fail
    refine (itoa_any _ _ (by omega) (by omega) V5).mono ?_
    rintro e w6 ⟨rfl, hb⟩
    have E6 := seqB E5 hb (Nat.le_refl _)
    clear hb
    go_wp2_with fail
    go_ret2
    exact ⟨by rw [e1.out]; rfl, E6⟩
set_option maxHeartbeats 1000000 in
theorem name_rng (r i k : Int) (w : World) (h1 : 1 ≤ r) (h2 : r ≤ 13) (h : (i == bareI r i) = true) (h' : (k == bareK r k) = true) (hik : inB i 0 2147483646 = false ∨ (inB i 0 2147483646 = true ∧ inB k 0 2147483646 = false)) :
    Calls Tryd.prog 6 #[.agg #[.int .i64 r, .int .i64 i, .int .i64 k]] w fun e w' =>
      e = .returned (.tuple #[.string ⟨#[]⟩, .int .i64 2]) ∧ Below w.heap.size w w' := by
  rcases hik with hi | ⟨hi, hk⟩
  · go_enter Tryd.func6, Tryd.ntmps6
    go_wp2_with fail
    go_region_held3 (fun W => W.cell? ⟨w.heap.size, 0, none⟩ = some (.int .i64 r) ∧ W.cell? ⟨w.heap.size, 1, none⟩ = some (.int .i64 i) ∧ W.cell? ⟨w.heap.size, 2, none⟩ = some (.int .i64 k)) (simp [*, go_sem])
      (first
        | (go_at_call 22; refine (isRegion_yes _ _ h1 h2).mono ?_; rintro e w3 ⟨rfl, rfl⟩)
        | (go_at_call 23; refine (bare_any _ _ _ _ h1 h2).mono ?_; rintro e w3 ⟨rfl, hb3⟩; have P3 := (Pl.made w r i k 24).drew.below hb3; have E3 := seqB (((Below.refl _ _).alloc (Nat.le_refl _) _).drew) hb3 (Nat.le_refl _); obtain ⟨p0, p1, p2, ps⟩ := P3))
    go_wp2_with (go_at_call 24; refine (within_any _ _ _ _).mono ?_; rintro e w3 ⟨rfl, rfl⟩)
    go_ret2
    exact ⟨rfl, E3⟩
  · go_enter Tryd.func6, Tryd.ntmps6
    go_wp2_with fail
    go_region_held3 (fun W => W.cell? ⟨w.heap.size, 0, none⟩ = some (.int .i64 r) ∧ W.cell? ⟨w.heap.size, 1, none⟩ = some (.int .i64 i) ∧ W.cell? ⟨w.heap.size, 2, none⟩ = some (.int .i64 k)) (simp [*, go_sem])
      (first
        | (go_at_call 22; refine (isRegion_yes _ _ h1 h2).mono ?_; rintro e w3 ⟨rfl, rfl⟩)
        | (go_at_call 23; refine (bare_any _ _ _ _ h1 h2).mono ?_; rintro e w3 ⟨rfl, hb3⟩; have P3 := (Pl.made w r i k 24).drew.below hb3; have E3 := seqB (((Below.refl _ _).alloc (Nat.le_refl _) _).drew) hb3 (Nat.le_refl _); obtain ⟨p0, p1, p2, ps⟩ := P3))
    go_wp2_with (go_at_call 24; refine (within_any _ _ _ _).mono ?_; rintro e w3 ⟨rfl, rfl⟩)
    go_ret2
    exact ⟨rfl, E3⟩
/-- Has a place a name? -/
def named (r i k : Int) : Bool := decide (1 ≤ r) && decide (r ≤ 13) && (i == bareI r i) && (k == bareK r k) && inB i 0 2147483646 && inB k 0 2147483646
def nmS (r i k : Int) : ByteArray := if named r i k then nameB r i k else ⟨#[]⟩
def nmE (r i k : Int) : Int := if named r i k then 0 else 2
theorem name_any (r i k : Int) (w : World) (E0 : Env w) :
    Calls Tryd.prog 6 #[.agg #[.int .i64 r, .int .i64 i, .int .i64 k]] w fun e w' =>
      e = .returned (.tuple #[.string (nmS r i k), .int .i64 (nmE r i k)]) ∧ Below w.heap.size w w' := by
  unfold nmS nmE
  by_cases c : r < 1 ∨ 13 < r
  · have e : named r i k = false := by
      unfold named
      rcases c with c | c
      · simp [show ¬ 1 ≤ r by omega]
      · simp [show ¬ r ≤ 13 by omega]
    rw [e]; exact name_reg r i k w c
  have h1 : 1 ≤ r := by omega
  have h2 : r ≤ 13 := by omega
  cases c1 : (i == bareI r i)
  · have e : named r i k = false := by unfold named; rw [c1]; simp
    rw [e]; exact name_bareI r i k w h1 h2 c1
  cases c2 : (k == bareK r k)
  · have e : named r i k = false := by unfold named; rw [c2]; simp
    rw [e]; exact name_bareK r i k w h1 h2 c1 c2
  cases c3 : inB i 0 2147483646
  · have e : named r i k = false := by unfold named; rw [c3]; simp
    rw [e]; exact name_rng r i k w h1 h2 c1 c2 (.inl c3)
  cases c4 : inB k 0 2147483646
  · have e : named r i k = false := by unfold named; rw [c4]; simp
    rw [e]; exact name_rng r i k w h1 h2 c1 c2 (.inr ⟨c3, c4⟩)
  have e : named r i k = true := by unfold named; rw [c1, c2, c3, c4]; simp [h1, h2]
  rw [e]; exact name_ok r i k w h1 h2 c1 c2 c3 c4 E0
end Go.Proofs.YtpmpdkpnjfidhaaDoor.St
