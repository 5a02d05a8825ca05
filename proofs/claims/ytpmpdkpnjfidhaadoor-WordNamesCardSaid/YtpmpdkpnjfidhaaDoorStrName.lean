/-
  CONTRACTS of bare and Name.
-/
import Derived.Test.YtpmpdkpnjfidhaaDoorStrEnv
import Derived.Deep.RegionHeld3
import Derived.Deep.QuietTactic
import Derived.BigQuiet
namespace Go.Proofs.YtpmpdkpnjfidhaaDoor.St
open Go.RowKit
open Tr
set_option linter.unusedVariables false
theorem fld0 (a : ByteArray) (b c : Int) (W : World) : (Instr.field 61 (.agg #[.string a, .int .i64 b, .int .i64 c]) 0).run Tryd.prog W = .ok (.string a) W := by kernel_rfl
theorem fld1 (a : ByteArray) (b c : Int) (W : World) : (Instr.field 61 (.agg #[.string a, .int .i64 b, .int .i64 c]) 1).run Tryd.prog W = .ok (.int .i64 b) W := by kernel_rfl
theorem fld2 (a : ByteArray) (b c : Int) (W : World) : (Instr.field 61 (.agg #[.string a, .int .i64 b, .int .i64 c]) 2).run Tryd.prog W = .ok (.int .i64 c) W := by kernel_rfl
def inB (n a b : Int) : Bool := decide (a ≤ n) && decide (n ≤ b)
theorem within_any (n a b : Int) (w : World) :
    Calls Tryd.prog 24 #[.int .i64 n, .int .i64 a, .int .i64 b] w fun e w' => e = .returned (.bool (inB n a b)) ∧ w' = w := by
  by_cases h : a ≤ n
  · go_enter Tryd.func24, Tryd.ntmps24
    go_wp2
    go_ret
    exact ⟨by simp [inB, h], rfl⟩
  · go_enter Tryd.func24, Tryd.ntmps24
    go_wp2
    go_ret
    exact ⟨by simp [inB]; omega, rfl⟩
theorem isRegion_yes (r : Int) (w : World) (h1 : 1 ≤ r) (h2 : r ≤ 13) :
    Calls Tryd.prog 22 #[.int .i64 r] w fun e w' => e = .returned (.bool true) ∧ w' = w := by
  have hd : decide (r < 14) = true := by simp; omega
  go_enter Tryd.func22, Tryd.ntmps22
  go_wp2
  go_ret
  exact ⟨rfl, rfl⟩
theorem isRegion_no (r : Int) (w : World) (h : r < 1 ∨ 13 < r) :
    Calls Tryd.prog 22 #[.int .i64 r] w fun e w' => e = .returned (.bool false) ∧ w' = w := by
  rcases h with h | h
  · go_enter Tryd.func22, Tryd.ntmps22
    go_wp2
    go_ret
    exact ⟨rfl, rfl⟩
  · have hd : decide (r < 14) = false := by simp; omega
    go_enter Tryd.func22, Tryd.ntmps22
    go_wp2
    go_ret
    exact ⟨rfl, rfl⟩
theorem tNums_cases (r : Int) (h1 : 1 ≤ r) (h2 : r ≤ 13) : tNums r = 0 ∨ tNums r = 1 ∨ tNums r = 2 := by
  have hr : r = 1 ∨ r = 2 ∨ r = 3 ∨ r = 4 ∨ r = 5 ∨ r = 6 ∨ r = 7 ∨ r = 8 ∨ r = 9 ∨ r = 10 ∨ r = 11 ∨ r = 12 ∨ r = 13 := by omega
  rcases hr with rfl | rfl | rfl | rfl | rfl | rfl | rfl | rfl | rfl | rfl | rfl | rfl | rfl <;> decide
/-- A place without the numbers that its region doesn't have. -/
def bareI (r i : Int) : Int := if tNums r = 0 then 0 else i
def bareK (r k : Int) : Int := if tNums r = 2 then k else 0
/-- One box more, wherever the world stands. -/
structure Pl (W : World) (b : Nat) (r i k : Int) : Prop where
  c0 : W.cell? ⟨b, 0, none⟩ = some (.int .i64 r)
  c1 : W.cell? ⟨b, 1, none⟩ = some (.int .i64 i)
  c2 : W.cell? ⟨b, 2, none⟩ = some (.int .i64 k)
  size : b < W.heap.size
theorem Pl.below {W W' : World} {b : Nat} {r i k : Int} (h : Pl W b r i k) (hb : Below W.heap.size W W') : Pl W' b r i k :=
  ⟨(hb.cell (p := ⟨b, 0, none⟩) h.size).trans h.c0, (hb.cell (p := ⟨b, 1, none⟩) h.size).trans h.c1, (hb.cell (p := ⟨b, 2, none⟩) h.size).trans h.c2, Nat.lt_of_lt_of_le h.size hb.size⟩
theorem Pl.drew {W : World} {b : Nat} {r i k : Int} (h : Pl W b r i k) : Pl W.drew b r i k := ⟨h.c0, h.c1, h.c2, h.size⟩
theorem Pl.made (w : World) (r i k : Int) (t : TypeId) : Pl (w.alloc (.cells #[.int .i64 r, .int .i64 i, .int .i64 k] t)) w.heap.size r i k := by
  refine ⟨?_, ?_, ?_, by simp⟩ <;> (rw [World.cell?_alloc_at _ _ _ _ rfl]; rfl)
theorem seqB {n : Nat} {w w1 w2 : World} (h1 : Below n w w1) (h2 : Below w1.heap.size w1 w2) (hn : n ≤ w.heap.size) : Below n w w2 :=
  h1.trans (h2.mono (by have := h1.size; omega))
set_option maxHeartbeats 1000000 in
theorem bare_any (r i k : Int) (w : World) (h1 : 1 ≤ r) (h2 : r ≤ 13) :
    Calls Tryd.prog 23 #[.agg #[.int .i64 r, .int .i64 i, .int .i64 k]] w fun e w' =>
      e = .returned (.agg #[.int .i64 r, .int .i64 (bareI r i), .int .i64 (bareK r k)]) ∧ Below w.heap.size w w' := by
  have hn := tNums_cases r h1 h2
  have hf2 := fld2
  go_enter Tryd.func23, Tryd.ntmps23
  go_wp2_with fail
  refine (trait_any _ _ h1 h2).mono ?_
  rintro e w1 ⟨rfl, hb⟩
  have b0 : Below w.heap.size w ((w.alloc (.cells #[.int .i64 r, .int .i64 i, .int .i64 k] 24)).alloc (.cells #[.int .i64 0, .int .i64 0, .int .i64 0] 24)) := ((Below.refl _ _).alloc (Nat.le_refl _) _).alloc (by simp) _
  have P1 := ((Pl.made w r i k 24).below ((Below.refl _ _).alloc (Nat.le_refl _) (.cells #[.int .i64 0, .int .i64 0, .int .i64 0] 24))).below hb
  have Q1 := (Pl.made (w.alloc (.cells #[.int .i64 r, .int .i64 i, .int .i64 k] 24)) 0 0 0 24).below hb
  have F1 : ∀ o, w1.frozen? ⟨w.heap.size + 1, o, none⟩ = false := fun o => (hb.frozen (p := ⟨w.heap.size + 1, o, none⟩) (by simp)).trans (World.frozen?_alloc_at _ _ _ _ (by simp))
  have E1 := seqB b0 hb (Nat.le_refl _)
  clear hb b0
  rw [show (w.alloc (.cells #[.int .i64 r, .int .i64 i, .int .i64 k] 24)).heap.size = w.heap.size + 1 from by simp] at Q1
  obtain ⟨p0, p1, p2, ps⟩ := P1
  obtain ⟨q0, q1, q2, qs⟩ := Q1
  have f1 : Hid (tNums r = 0 → bareI r i = 0 ∧ bareK r k = 0) := by show tNums r = 0 → _; intro h; unfold bareI bareK; rw [if_pos h, if_neg (by omega)]; exact ⟨rfl, rfl⟩
  have f2 : Hid (tNums r = 1 → bareI r i = i ∧ bareK r k = 0) := by show tNums r = 1 → _; intro h; unfold bareI bareK; rw [if_neg (by omega), if_neg (by omega)]; exact ⟨rfl, rfl⟩
  have f3 : Hid (tNums r = 2 → bareI r i = i ∧ bareK r k = k) := by show tNums r = 2 → _; intro h; unfold bareI bareK; rw [if_neg (by omega), if_pos h]; exact ⟨rfl, rfl⟩
  generalize tNums r = tn at *
  generalize tName r = tm
  generalize tKind r = tk
  rcases hn with rfl | rfl | rfl
  · have e1 : Hid (bareI r i = 0) := (f1.out rfl).1
    have e2 : Hid (bareK r k = 0) := (f1.out rfl).2
    clear f1 f2 f3
    go_wp2_with fail
    refine bodyPost_ret (v := .agg #[.int .i64 r, .int .i64 0, .int .i64 0]) (by simp [results, Tryd.results23, go_sem, q0, q1, q2]) rfl ⟨?_, ?_⟩
    · rw [e1.out, e2.out]
    exact ((E1.setCell (by simp) _).setCell (by simp) _).setCell (by simp) _
  · have e1 : Hid (bareI r i = i) := (f2.out rfl).1
    have e2 : Hid (bareK r k = 0) := (f2.out rfl).2
    clear f1 f2 f3
    go_wp2_with fail
    refine bodyPost_ret (v := .agg #[.int .i64 r, .int .i64 i, .int .i64 0]) (by simp [results, Tryd.results23, go_sem, q0, q1, q2]) rfl ⟨?_, ?_⟩
    · rw [e1.out, e2.out]
    exact ((E1.setCell (by simp) _).setCell (by simp) _).setCell (by simp) _
  · have e1 : Hid (bareI r i = i) := (f3.out rfl).1
    have e2 : Hid (bareK r k = k) := (f3.out rfl).2
    clear f1 f2 f3
    go_wp2_with fail
    refine bodyPost_ret (v := .agg #[.int .i64 r, .int .i64 i, .int .i64 k]) (by simp [results, Tryd.results23, go_sem, q0, q1, q2]) rfl ⟨?_, ?_⟩
    · rw [e1.out, e2.out]
    exact ((E1.setCell (by simp) _).setCell (by simp) _).setCell (by simp) _
/-- A place's name, as text. -/
def nameB (r i k : Int) : ByteArray :=
  if tNums r = 0 then tName r else if tNums r = 1 then tName r ++ (⟨#[32]⟩ ++ ⟨(Lib.itoa i).toArray⟩) else (tName r ++ (⟨#[32]⟩ ++ ⟨(Lib.itoa i).toArray⟩)) ++ (⟨#[46]⟩ ++ ⟨(Lib.itoa k).toArray⟩)
/-- Has a place a name? -/
def nameable (r i k : Int) : Bool := decide (1 ≤ r) && decide (r ≤ 13) && decide (bareI r i = i) && decide (bareK r k = k) && inB i 0 2147483646 && inB k 0 2147483646
set_option maxHeartbeats 1000000 in
theorem name_reg (r i k : Int) (w : World) (h : r < 1 ∨ 13 < r) :
    Calls Tryd.prog 6 #[.agg #[.int .i64 r, .int .i64 i, .int .i64 k]] w fun e w' =>
      e = .returned (.tuple #[.string ⟨#[]⟩, .int .i64 2]) ∧ Below w.heap.size w w' := by
  go_enter Tryd.func6, Tryd.ntmps6
  go_wp2_with fail
  go_quiet ((go_at_call 22; exact Calls.quiet_of_same (isRegion_no _ _ h)))
  go_wp2_with fail
  go_ret2
  exact ⟨rfl, ((Below.refl _ _).alloc (Nat.le_refl _) _).trans ⟨rfl, rfl, rfl, Nat.le_refl _, fun _ _ => rfl⟩⟩
theorem neq_place (r i k i' k' : Int) (W : World) : (binOp .neq 24 (.agg #[.int .i64 r, .int .i64 i, .int .i64 k]) (.agg #[.int .i64 r, .int .i64 i', .int .i64 k'])).run Tryd.prog W = .ok (.bool (!(decide (i = i') && decide (k = k')))) W := by
  by_cases h1 : i = i'
  · by_cases h2 : k = k'
    · subst h1; subst h2
      simp [go_sem]
    · subst h1
      simp [go_sem, h2]
  · simp [go_sem, h1]
set_option maxHeartbeats 1000000 in
theorem name_bareI (r i k : Int) (w : World) (h1 : 1 ≤ r) (h2 : r ≤ 13) (h : (i == bareI r i) = false) :
    Calls Tryd.prog 6 #[.agg #[.int .i64 r, .int .i64 i, .int .i64 k]] w fun e w' =>
      e = .returned (.tuple #[.string ⟨#[]⟩, .int .i64 2]) ∧ Below w.heap.size w w' := by
  go_enter Tryd.func6, Tryd.ntmps6
  go_wp2_with fail
  go_region_held3 (fun W => W.cell? ⟨w.heap.size, 0, none⟩ = some (.int .i64 r) ∧ W.cell? ⟨w.heap.size, 1, none⟩ = some (.int .i64 i) ∧ W.cell? ⟨w.heap.size, 2, none⟩ = some (.int .i64 k)) (simp [*, go_sem])
    (first
      | (go_at_call 22; refine (isRegion_yes _ _ h1 h2).mono ?_; rintro e w3 ⟨rfl, rfl⟩)
      | (go_at_call 23; refine (bare_any _ _ _ _ h1 h2).mono ?_; rintro e w3 ⟨rfl, hb3⟩; have P3 := (Pl.made w r i k 24).drew.below hb3; have E3 := seqB (((Below.refl _ _).alloc (Nat.le_refl _) _).drew) hb3 (Nat.le_refl _); obtain ⟨p0, p1, p2, ps⟩ := P3))
  go_wp2_with fail
  go_ret2
  exact ⟨rfl, E3⟩
set_option maxHeartbeats 1000000 in
theorem name_bareK (r i k : Int) (w : World) (h1 : 1 ≤ r) (h2 : r ≤ 13) (h : (i == bareI r i) = true) (h' : (k == bareK r k) = false) :
    Calls Tryd.prog 6 #[.agg #[.int .i64 r, .int .i64 i, .int .i64 k]] w fun e w' =>
      e = .returned (.tuple #[.string ⟨#[]⟩, .int .i64 2]) ∧ Below w.heap.size w w' := by
  go_enter Tryd.func6, Tryd.ntmps6
  go_wp2_with fail
  go_region_held3 (fun W => W.cell? ⟨w.heap.size, 0, none⟩ = some (.int .i64 r) ∧ W.cell? ⟨w.heap.size, 1, none⟩ = some (.int .i64 i) ∧ W.cell? ⟨w.heap.size, 2, none⟩ = some (.int .i64 k)) (simp [*, go_sem])
    (first
      | (go_at_call 22; refine (isRegion_yes _ _ h1 h2).mono ?_; rintro e w3 ⟨rfl, rfl⟩)
      | (go_at_call 23; refine (bare_any _ _ _ _ h1 h2).mono ?_; rintro e w3 ⟨rfl, hb3⟩; have P3 := (Pl.made w r i k 24).drew.below hb3; have E3 := seqB (((Below.refl _ _).alloc (Nat.le_refl _) _).drew) hb3 (Nat.le_refl _); obtain ⟨p0, p1, p2, ps⟩ := P3))
  go_wp2_with fail
  go_ret2
  exact ⟨rfl, E3⟩
end Go.Proofs.YtpmpdkpnjfidhaaDoor.St
