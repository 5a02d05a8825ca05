/-
  writes, sameWords, awake, made by their contracts.
-/
import Derived.Test.YtkfcfhgjhnmjlaaMemHelp
namespace Go.Proofs.Ytkfcfhgjhnmjlaa.Me
open Go.RowKit Mr
theorem num_any (x : Int) (w : World) : Calls Try.prog 10 #[.int .i64 x] w fun e w' => e = .returned (.int .i64 x) ∧ w' = w := by
  go_enter Try.func10, Try.ntmps10
  go_wp2
  go_ret
  exact ⟨rfl, rfl⟩
set_option maxRecDepth 100000 in
theorem sameWords_same {w : World} {S T : Nat → Prop} {u v : Value} {ws : List Int} (hu : Has w S 31 1 u ws.length (wrd ws)) (hv : Has w T 31 1 v ws.length (wrd ws)) (hsm : ws.length ≤ 1000000) :
    Calls Try.prog 16 #[u, v] w fun e w' => e = .returned (.bool true) ∧ Below w.heap.size w w' := by
  obtain ⟨au, cu, rfl, hcu⟩ := hu.form
  obtain ⟨av, cv, rfl, hcv⟩ := hv.form
  go_enter Try.func16, Try.ntmps16
  go_wp2
  go_loopg [5] ws.length (fun k s wr => ∃ i : Nat, s = .int .i64 (i : Int) ∧ i + k = ws.length ∧ Below w.heap.size w wr)
  case atStart => exact ⟨0, rfl, by omega, Below.refl _ _⟩
  case round =>
    obtain ⟨i, rfl, hi, B⟩ := hrel
    by_cases hlt : i < ws.length
    · obtain ⟨gu, cu', hgu, _, hul, _⟩ := hu.there (by omega)
      obtain ⟨gv, cv', hgv, _, hvl, _⟩ := hv.there (by omega)
      cases hgu
      cases hgv
      have c1 := (B.cell (p := ⟨gu, i, none⟩) hul).trans (hu.cells (g := gu) rfl i _ (wrd_get ws i hlt))
      have c2 := (B.cell (p := ⟨gv, i, none⟩) hvl).trans (hv.cells (g := gv) rfl i _ (wrd_get ws i hlt))
      generalize hy : ws[i]?.getD 0 = y at *
      clear hy
      replace hu := Mr.hid hu
      replace hv := Mr.hid hv
      generalize ws.length = n at *
      have hB := Mr.hid B
      go_wp2
      go_region
      all_goals go_wp2
      all_goals go_roundg (gk - 1)
      case measure => omega
      case rel => exact ⟨i + 1, by simp, by omega, B.drew⟩
    · have hle : ws.length ≤ i := by omega
      go_wp2
      go_ret
      exact ⟨rfl, B⟩
theorem two_src (w : World) (x y : Int) : Src (w.alloc (.cells #[.int .u64 x, .int .u64 y] 31)) (some ⟨w.heap.size, 0, none⟩) 2 2 [x, y] := by
  refine ⟨rfl, .inr ⟨_, rfl, fun j u hu => ?_⟩⟩
  exact newsAt w _ #[.int .u64 x, .int .u64 y] 31 _ rfl rfl j u (by simpa [wrd] using hu)
theorem two_has (w : World) (x y : Int) : Has (w.alloc (.cells #[.int .u64 x, .int .u64 y] 31)) (fun _ => True) 31 1 (.slice (some ⟨w.heap.size, 0, none⟩) 2 2) ([x, y] : List Int).length (wrd [x, y]) :=
  ⟨rfl, .inr ⟨w.heap.size, 2, _, rfl, trivial, heap_alloc_new w _, Nat.le_refl _, by decide, by simp, by simp [wrd]⟩⟩
set_option maxRecDepth 100000 in
set_option maxHeartbeats 1000000 in
theorem awake_any (w : World) : Calls Try.prog 4 #[] w fun e w' => e = .returned (.bool true) ∧ Below w.heap.size w w' := by
  have C := new_any _ _ _ _ _ (two_src w 7 8) (by decide)
  have B0 : ∀ o, Below w.heap.size w (w.alloc o) := fun o => (Below.refl _ _).alloc (Nat.le_refl _) o
  have Z : ∀ {W : World} {S : Nat → Prop} {b : Nat} {vw vl va : Value} {mv : Int} {lg : List Acc} {ah : List Int}, Mem W S b vw vl va [7, 8] mv lg ah → Calls Try.prog 13 #[.pointer (some ⟨b, 0, none⟩)] W fun e w' => e = .returned (.int .i64 2) ∧ w' = W := fun hM => size_any hM
  have D : ∀ {W : World} {S : Nat → Prop} {b : Nat} {vw : Value}, Mem W S b vw (.slice none 0 0) (.slice none 0 0) [7, 8] 0 [] [] → Calls Try.prog 14 #[.pointer (some ⟨b, 0, none⟩), .int .i64 3, .int .i64 1] W fun e w' => e = .returned (.tuple #[.int .u64 8, .int .i64 0]) ∧ (∃ (vl' va' : Value) (a : Acc), Mem w' (fun k => S k ∨ W.heap.size ≤ k) b vw vl' va' [7, 8] 0 [a] []) ∧ Fr W w' S := fun hM => by
    refine (load_ok hM (by unfold Roomy; simp) 3 1 (by decide)).mono ?_
    rintro e w' ⟨rfl, ⟨vl', hm⟩, hf⟩
    exact ⟨rfl, ⟨_, _, _, hm⟩, hf⟩
  have G : ∀ {W : World} {S : Nat → Prop} {b : Nat} {vw vl va : Value} {a : Acc}, Mem W S b vw vl va [7, 8] 0 [a] [] → Calls Try.prog 15 #[.pointer (some ⟨b, 0, none⟩), .int .i64 1, .int .i64 0, .int .u64 7, .int .u64 10] W fun e w' => e = .returned (.tuple #[.int .u64 7, .bool true, .int .i64 0]) ∧ (∃ (vl' va' : Value) (a c : Acc), Mem w' (fun k => S k ∨ W.heap.size ≤ k) b vw vl' va' [10, 8] 0 [a, c] [7]) ∧ Fr W w' S := fun hM => by
    refine (swap_hit hM (by unfold Roomy; simp) 1 7 10 0 (by decide) rfl).mono ?_
    rintro e w' ⟨rfl, ⟨vl', va', hm⟩, hf⟩
    exact ⟨rfl, ⟨_, _, _, _, hm⟩, hf⟩
  have Y : ∀ {W : World} {S : Nat → Prop} {b : Nat} {vw vl va : Value} {ws : List Int} {mv : Int} {a c : Acc} {ah : List Int}, Mem W S b vw vl va ws mv [a, c] ah → Calls Try.prog 9 #[.pointer (some ⟨b, 0, none⟩)] W fun e w' => e = .returned (.int .i64 2) ∧ w' = W := fun hM => count_any hM
  have X : ∀ {W : World} {S : Nat → Prop} {b : Nat} {vw vl va : Value} {mv : Int} {lg : List Acc} {ah : List Int}, Mem W S b vw vl va [10, 8] mv lg ah → _ := fun hM => words_any hM
  go_enter Try.func4, Try.ntmps4
  go_wp2_with (first | (go_at_call 12; refine C.mono ?_; clear C; rintro e w1 ⟨b, vw, rfl, hM, hB1⟩; have Z1 := Z hM; have D1 := D hM; clear hM D Z) | (go_at_call 10; refine (num_any _ _).mono ?_; rintro e w2 ⟨rfl, rfl⟩) | (go_at_call 13; refine Z1.mono ?_; rintro e w3 ⟨rfl, rfl⟩) | (go_at_call 14; refine D1.mono ?_; clear D1 Z1; rintro e w4 ⟨rfl, ⟨vl', va', ac, hM4⟩, hf4⟩; have G4 := G hM4; clear hM4 G) | (go_at_call 15; refine G4.mono ?_; clear G4; rintro e w5 ⟨rfl, ⟨vl5, va5, a5, c5, hM5⟩, hf5⟩; have Y5 := Y hM5; have X5 := X hM5; clear hM5 X Y) | (go_at_call 9; refine Y5.mono ?_; clear Y5; rintro e w6 ⟨rfl, rfl⟩) | (go_at_call 17; refine X5.mono ?_; clear X5; rintro e w7 ⟨v7, rfl, hv7, hB7⟩; have hq7 := hv7.alloc (.cells #[.int .u64 10, .int .u64 8] 31); have hw7 := two_has w7 10 8; obtain ⟨a7, c7, rfl, _⟩ := hv7.form; have V7 := sameWords_same hq7 hw7 (by decide); clear hv7 hq7 hw7) | (go_at_call 16; refine V7.mono ?_; clear V7; rintro e w8 ⟨rfl, hB8⟩))
  go_ret
  have s1 := hB1.size
  have s4 := hf4.size
  have s5 := hf5.size
  have s7 := hB7.size
  have s8 := hB8.size
  simp only [World.size_alloc] at s1 s4 s5 s7 s8 hf4 hf5 hB1 hB8
  refine ⟨rfl, ?_⟩
  have B1 := (B0 _).trans (hB1.mono (show w.heap.size ≤ w.heap.size + 1 by omega))
  have B4 := B1.trans (hf4.below (n := w.heap.size) (fun k hk => by omega) (by omega))
  have B5 := B4.trans (hf5.below (n := w.heap.size) (fun k hk => by rcases hk with hk | hk <;> omega) (by omega))
  exact (B5.trans (hB7.mono (by omega))).trans (((Below.refl _ w7).alloc (by omega) _).trans (hB8.mono (by omega)))
set_option maxRecDepth 100000 in
theorem made_any (a : Option Addr) (n cap : Nat) (ws : List Int) (w : World) (h : Src w a n cap ws) (hn : n ≤ 8192) :
    Calls Try.prog 5 #[.slice a n cap] w fun e w' => ∃ b, e = .returned (.pointer (some ⟨b, 0, none⟩)) ∧ MemS w' (fun k => w.heap.size ≤ k) b ⟨ws, [], []⟩ 0 ∧ Below w.heap.size w w' := by
  have h8 : decide (8192 < (n : Int)) = false := by simp; omega
  have C := fun (w1 : World) (hB : Below w.heap.size w w1) => new_any _ _ _ _ _ (h.below hB) hn
  go_enter Try.func5, Try.ntmps5
  go_wp2_with (first | (go_at_call 4; refine (awake_any _).mono ?_; rintro e w1 ⟨rfl, hB1⟩; have C1 := C w1 hB1; clear C) | (go_at_call 12; refine C1.mono ?_; clear C1; rintro e w2 ⟨b, vw, rfl, hM, hB2⟩) | (go_at_call 10; refine (num_any _ _).mono ?_; rintro e w3 ⟨rfl, rfl⟩))
  go_ret
  have s1 := hB1.size
  exact ⟨b, rfl, ⟨_, _, _, hM.mono (fun k hk => by omega)⟩, hB1.trans (hB2.mono s1)⟩
end Go.Proofs.Ytkfcfhgjhnmjlaa.Me
