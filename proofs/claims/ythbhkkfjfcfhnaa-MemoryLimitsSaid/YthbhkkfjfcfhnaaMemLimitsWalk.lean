/-
  THE LAW MemoryLimits.
-/
import Derived.Test.YthbhkkfjfcfhnaaMemAcc
import Derived.Laws.MakeOwn
import Derived.Laws.Entries
import Derived.Laws.NewBlocks
import Derived.Deep.LoopGhost
import Derived.Deep.DeepCutAuto
namespace Go.Proofs.Ythbhkkfjfcfhnaa.Me
open Go.RowKit Mr
set_option linter.unusedVariables false
theorem make_nat (W : World) (n : Nat) (hn : n ≤ 1000000) :
    (Instr.makeSlice 22 (.int .i64 (n : Int)) (.int .i64 (n : Int))).run Try.prog W = .ok (.slice (some ⟨W.heap.size, 0, none⟩) n n) (W.alloc (.cells (madeCells #[.int .u64 0] n) 23)) := by
  obtain ⟨i0, hi, hz0, hz1, hz2⟩ := info_parts info_u64
  have h := run_make (P := Try.prog) W 22 23 i0 (.int .u64 0) Try.underlying22 hi hz0 .i64 .i64 n n (by omega) (Int.le_refl _) (by rw [hz2]; omega) (by omega)
  rw [hz1, Nat.mul_one] at h
  simpa [Value.cells] using h
theorem num_any (x : Int) (w : World) : Calls Try.prog 10 #[.int .i64 x] w fun e w' => e = .returned (.int .i64 x) ∧ w' = w := by
  go_enter Try.func10, Try.ntmps10
  go_wp2
  go_ret
  exact ⟨rfl, rfl⟩
theorem tm4 (a : Int) : -3 ≤ a.tmod 4 ∧ a.tmod 4 ≤ 3 := by
  have h := Int.natAbs_tmod a 4
  have : a.natAbs % 4 < 4 := Nat.mod_lt _ (by decide)
  have e : (4 : Int).natAbs = 4 := rfl
  rw [e] at h
  omega
/-- i zeroes and then k. -/
def lastOnly (i : Nat) : List Int := List.replicate i 0 ++ [(i : Int) + 1]
theorem lastOnly_length (i : Nat) : (lastOnly i).length = i + 1 := by simp [lastOnly]
theorem lastOnly_last (i : Nat) : (lastOnly i)[i]?.getD 0 = (i : Int) + 1 := by simp [lastOnly]
theorem lastOnly_src (W : World) (i : Nat) : Src (W.alloc (.cells ((madeCells #[.int .u64 0] (i + 1)).setIfInBounds i (.int .u64 ((i : Int) + 1))) 23)) (some ⟨W.heap.size, 0, none⟩) (i + 1) (i + 1) (lastOnly i) := by
  refine ⟨(lastOnly_length i).symm, .inr ⟨_, rfl, by simp, fun j u hu => ?_⟩⟩
  have hj : j < i + 1 := by
    have := (List.getElem?_eq_some_iff.1 hu).1
    rw [wrd_length, lastOnly_length] at this; exact this
  have hadd : (⟨W.heap.size, 0, none⟩ : Addr).add j = ⟨W.heap.size, j, none⟩ := by unfold Addr.add; split <;> simp_all
  rw [hadd, World.cell?_alloc_at _ _ _ _ rfl, ← hu, wrd_get _ _ (by rw [lastOnly_length]; exact hj)]
  by_cases e : j = i
  · subst e
    rw [lastOnly_last]
    simp [madeCells]
  · have : j < i := by omega
    simp [lastOnly, this, madeCells, show i ≠ j by omega, hj, Nat.mod_one]
set_option maxHeartbeats 4000000 in
set_option maxRecDepth 100000 in
theorem law_limits (a0 : Int) (w : World) (w0 : (Lit.int .i64 a0).wf = true) :
    Calls Try.prog 3 #[.int .i64 a0] w fun e w' => e = .returned (.bool true) ∧ Below w.heap.size w w' := by
  go_enter Try.func3, Try.ntmps3
  go_upto_if 14 with fail
  go_cut [0] (fun s wc => ∃ m : Nat, s = .int .i64 (m : Int) ∧ m ≤ 3 ∧ wc = w)
  case first =>
    by_cases h : a0.tmod 4 < 0
    · have hm : -3 ≤ a0.tmod 4 := (tm4 a0).1
      generalize a0.tmod 4 = r at *
      go_wp2
      go_meet
      case rel => exact ⟨r.natAbs, by congr 1; omega, by omega, rfl⟩
    · have hm : a0.tmod 4 ≤ 3 := (tm4 a0).2
      generalize a0.tmod 4 = r at *
      have hd : decide (r < 0) = false := by simp; omega
      go_wp2
      go_meet
      case rel => exact ⟨r.natAbs, by congr 1; omega, by omega, rfl⟩
  case rest =>
    obtain ⟨m, rfl, hm, rfl⟩ := hcut
    go_wp2
    go_loopg [3] 10 (fun k s wr => ∃ i : Nat, s = .int .i64 ((i : Int) + 1) ∧ 8189 ≤ i ∧ i ≤ 8191 + m ∧ k + i = 8199 ∧ Below wc.heap.size wc wr)
    case atStart => exact ⟨8189, rfl, by omega, by omega, by omega, Below.refl _ _⟩
    case round =>
      obtain ⟨i, rfl, i1, i2, hk, B⟩ := hrel
      by_cases hle : i ≤ 8190 + m
      · have hd : decide ((i : Int) + 1 ≤ 8191 + (m : Int)) = true := by simp; omega
        have hmk : ∀ W : World, (Instr.makeSlice 22 (.int .i64 ((i : Int) + 1)) (.int .i64 ((i : Int) + 1))).run Try.prog W = .ok (.slice (some ⟨W.heap.size, 0, none⟩) (i + 1) (i + 1)) (W.alloc (.cells (madeCells #[.int .u64 0] (i + 1)) 23)) := fun W => by
          have h := make_nat W (i + 1) (by omega)
          simpa using h
        have hwr : IntKind.u64.wrap ((i : Int) + 1) = (i : Int) + 1 := by simp [IntKind.wrap, IntKind.signed, IntKind.bits]; omega
        have hsr := lastOnly_src wr i
        have hcl : (wr.alloc (.cells (madeCells #[.int .u64 0] (i + 1)) 23)).cell? ⟨wr.heap.size, i, none⟩ = some (.int .u64 0) := by
          rw [World.cell?_alloc_at _ _ _ _ rfl]
          simp [madeCells, Nat.mod_one]
        have hfz : (wr.alloc (.cells (madeCells #[.int .u64 0] (i + 1)) 23)).frozen? ⟨wr.heap.size, i, none⟩ = false := World.frozen?_alloc_at _ _ _ _ rfl
        have hB0 : Below wr.heap.size wr (wr.alloc (.cells ((madeCells #[.int .u64 0] (i + 1)).setIfInBounds i (.int .u64 ((i : Int) + 1))) 23)) := (Below.refl _ _).alloc (Nat.le_refl _) _
        by_cases hbig : i + 1 ≤ 8192
        · have C := new_any _ _ _ _ _ hsr (by omega)
          have hd2 : decide (8192 < (i : Int) + 1) = false := by simp; omega
          have Z : ∀ {W : World} {S : Nat → Prop} {b : Nat} {vw vl va : Value} {mv : Int} {lg : List Acc} {ah : List Int}, Mem W S b vw vl va (lastOnly i) mv lg ah → Calls Try.prog 11 #[.pointer (some ⟨b, 0, none⟩)] W fun e w' => e = .returned (.int .i64 ((i : Int) + 1)) ∧ w' = W := fun hM => by
            have h := size_any hM
            rw [lastOnly_length] at h
            simpa using h
          have D : ∀ {W : World} {S : Nat → Prop} {b : Nat} {vw : Value}, Mem W S b vw (.slice none 0 0) (.slice none 0 0) (lastOnly i) 0 [] [] → Calls Try.prog 12 #[.pointer (some ⟨b, 0, none⟩), .int .i64 0, .int .i64 i] W fun e w' => e = .returned (.tuple #[.int .u64 ((i : Int) + 1), .int .i64 0]) ∧ (∃ (S' : Nat → Prop) (vl' va' : Value) (a : Acc), Mem w' S' b vw vl' va' (lastOnly i) 0 [a] []) ∧ Fr W w' S := fun hM => by
            have h := load_ok hM (by unfold Roomy; simp) 0 i (by rw [lastOnly_length]; omega)
            rw [lastOnly_last] at h
            refine h.mono ?_
            rintro e w' ⟨rfl, ⟨vl', hm⟩, hf⟩
            exact ⟨rfl, ⟨_, _, _, _, hm⟩, hf⟩
          have G : ∀ {W : World} {S : Nat → Prop} {b : Nat} {vw vl va : Value} {mv : Int} {lg : List Acc} {ah : List Int}, Mem W S b vw vl va (lastOnly i) mv lg ah → Calls Try.prog 12 #[.pointer (some ⟨b, 0, none⟩), .int .i64 0, .int .i64 ((i : Int) + 1)] W fun e w' => e = .returned (.tuple #[.int .u64 0, .int .i64 20]) ∧ w' = W := fun hM => load_no hM 0 _ (.inr (by rw [lastOnly_length]; omega))
          have Y : ∀ {W : World} {S : Nat → Prop} {b : Nat} {vw vl va : Value} {mv : Int} {a : Acc} {ah : List Int}, Mem W S b vw vl va (lastOnly i) mv [a] ah → Calls Try.prog 13 #[.pointer (some ⟨b, 0, none⟩)] W fun e w' => e = .returned (.int .i64 1) ∧ w' = W := fun hM => count_any hM
          go_wp2_with (first | (go_at_call 9; refine C.mono ?_; clear C; rintro e w1 ⟨b, vw, rfl, hM, hB1⟩; have Z1 := Z hM; have D1 := D hM; clear hM D Z) | (go_at_call 10; refine (num_any _ _).mono ?_; rintro e w2 ⟨rfl, rfl⟩) | (go_at_call 11; refine Z1.mono ?_; rintro e w3 ⟨rfl, rfl⟩) | (go_at_call 12; refine D1.mono ?_; clear D1 Z1; rintro e w4 ⟨rfl, ⟨S', vl', va', ac, hM4⟩, hf4⟩; have G4 := G hM4; have Y4 := Y hM4; clear hM4 G Y) | (go_at_call 12; refine G4.mono ?_; clear G4; rintro e w5 ⟨rfl, rfl⟩) | (go_at_call 13; refine Y4.mono ?_; clear Y4; rintro e w6 ⟨rfl, rfl⟩))
          go_roundg (gk - 1)
          case measure => omega
          case rel => exact ⟨i + 1, by simp, by omega, by omega, by omega, B.trans ((hB0.trans (hB1.mono (by simp))).trans (hf4.below (n := wr.heap.size) (fun k hk => by simp at hk; omega) (by have := hB1.size; simp at this; omega)) |>.mono B.size)⟩
        · have C := new_long (some ⟨wr.heap.size, 0, none⟩) (i + 1) (i + 1) (wr.alloc (.cells ((madeCells #[.int .u64 0] (i + 1)).setIfInBounds i (.int .u64 ((i : Int) + 1))) 23)) (by omega)
          have hd2 : decide (8192 < (i : Int) + 1) = true := by simp; omega
          go_wp2_with (first | (go_at_call 9; refine C.mono ?_; clear C; rintro e w1 ⟨rfl, rfl⟩) | (go_at_call 10; refine (num_any _ _).mono ?_; rintro e w2 ⟨rfl, rfl⟩))
          go_roundg (gk - 1)
          case measure => omega
          case rel => exact ⟨i + 1, by simp, by omega, by omega, by omega, B.trans (hB0.mono B.size)⟩
      · have hd : decide ((i : Int) + 1 ≤ 8191 + (m : Int)) = false := by simp; omega
        go_wp2
        go_ret
        exact ⟨rfl, B⟩
end Go.Proofs.Ythbhkkfjfcfhnaa.Me
