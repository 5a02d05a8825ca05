import Derived.Test.YtcomelbphdjnnaaGreatDoorJ28
import Derived.Test.YtcomelbphdjnnaaGreatDoorJ29
import Derived.Test.YtcomelbphdjnnaaGreatDoorJ27
import Derived.Laws.IdiomStrings
namespace Go.Proofs.YtcomelbphdjnnaaGreatDoor.Wc
open Go.RowKit
theorem refConfig (a0 a1 a2 a3 a4 a5 a6 : Int) (w : World) :
    Calls Tryz.prog 15 #[.agg #[.int .i64 a0, .int .i64 a1, .int .i64 a2, .int .i64 a3, .int .i64 a4, .int .i64 a5, .int .i64 a6]] w fun e w' =>
      e = .returned (.bool (cfgB a0 a1 a2 a3 a4 a5 a6)) ∧ Below w.heap.size w w' := by
  by_cases c0 : decide (1 ≤ a0) = true
  rotate_left
  · have f : decide (1 ≤ a0) = false := by simpa using c0
    have e : cfgB a0 a1 a2 a3 a4 a5 a6 = false := by simp [cfgB, inB, f]
    rw [e]
    exact refConfig0 a0 a1 a2 a3 a4 a5 a6 w f
  by_cases c1 : decide (a0 ≤ 16) = true
  rotate_left
  · have f : decide (a0 ≤ 16) = false := by simpa using c1
    have e : cfgB a0 a1 a2 a3 a4 a5 a6 = false := by simp [cfgB, inB, f]
    rw [e]
    exact refConfig1 a0 a1 a2 a3 a4 a5 a6 w c0 f
  by_cases c2 : decide (1 ≤ a1) = true
  rotate_left
  · have f : decide (1 ≤ a1) = false := by simpa using c2
    have e : cfgB a0 a1 a2 a3 a4 a5 a6 = false := by simp [cfgB, inB, f]
    rw [e]
    exact refConfig2 a0 a1 a2 a3 a4 a5 a6 w c0 c1 f
  by_cases c3 : decide (a1 ≤ 16) = true
  rotate_left
  · have f : decide (a1 ≤ 16) = false := by simpa using c3
    have e : cfgB a0 a1 a2 a3 a4 a5 a6 = false := by simp [cfgB, inB, f]
    rw [e]
    exact refConfig3 a0 a1 a2 a3 a4 a5 a6 w c0 c1 c2 f
  by_cases c4 : decide (3 ≤ a2) = true
  rotate_left
  · have f : decide (3 ≤ a2) = false := by simpa using c4
    have e : cfgB a0 a1 a2 a3 a4 a5 a6 = false := by simp [cfgB, inB, f]
    rw [e]
    exact refConfig4 a0 a1 a2 a3 a4 a5 a6 w c0 c1 c2 c3 f
  by_cases c5 : decide (a2 ≤ 8) = true
  rotate_left
  · have f : decide (a2 ≤ 8) = false := by simpa using c5
    have e : cfgB a0 a1 a2 a3 a4 a5 a6 = false := by simp [cfgB, inB, f]
    rw [e]
    exact refConfig5 a0 a1 a2 a3 a4 a5 a6 w c0 c1 c2 c3 c4 f
  by_cases c6 : decide (1 ≤ a3) = true
  rotate_left
  · have f : decide (1 ≤ a3) = false := by simpa using c6
    have e : cfgB a0 a1 a2 a3 a4 a5 a6 = false := by simp [cfgB, inB, f]
    rw [e]
    exact refConfig6 a0 a1 a2 a3 a4 a5 a6 w c0 c1 c2 c3 c4 c5 f
  by_cases c7 : decide (a3 ≤ 1024) = true
  rotate_left
  · have f : decide (a3 ≤ 1024) = false := by simpa using c7
    have e : cfgB a0 a1 a2 a3 a4 a5 a6 = false := by simp [cfgB, inB, f]
    rw [e]
    exact refConfig7 a0 a1 a2 a3 a4 a5 a6 w c0 c1 c2 c3 c4 c5 c6 f
  by_cases c8 : decide (0 ≤ a4) = true
  rotate_left
  · have f : decide (0 ≤ a4) = false := by simpa using c8
    have e : cfgB a0 a1 a2 a3 a4 a5 a6 = false := by simp [cfgB, inB, f]
    rw [e]
    exact refConfig8 a0 a1 a2 a3 a4 a5 a6 w c0 c1 c2 c3 c4 c5 c6 c7 f
  by_cases c9 : decide (a4 ≤ 64) = true
  rotate_left
  · have f : decide (a4 ≤ 64) = false := by simpa using c9
    have e : cfgB a0 a1 a2 a3 a4 a5 a6 = false := by simp [cfgB, inB, f]
    rw [e]
    exact refConfig9 a0 a1 a2 a3 a4 a5 a6 w c0 c1 c2 c3 c4 c5 c6 c7 c8 f
  by_cases c10 : decide (1 ≤ a5) = true
  rotate_left
  · have f : decide (1 ≤ a5) = false := by simpa using c10
    have e : cfgB a0 a1 a2 a3 a4 a5 a6 = false := by simp [cfgB, inB, f]
    rw [e]
    exact refConfig10 a0 a1 a2 a3 a4 a5 a6 w c0 c1 c2 c3 c4 c5 c6 c7 c8 c9 f
  by_cases c11 : decide (a5 ≤ 1024) = true
  rotate_left
  · have f : decide (a5 ≤ 1024) = false := by simpa using c11
    have e : cfgB a0 a1 a2 a3 a4 a5 a6 = false := by simp [cfgB, inB, f]
    rw [e]
    exact refConfig11 a0 a1 a2 a3 a4 a5 a6 w c0 c1 c2 c3 c4 c5 c6 c7 c8 c9 c10 f
  by_cases c12 : decide (1 ≤ a6) = true
  rotate_left
  · have f : decide (1 ≤ a6) = false := by simpa using c12
    have e : cfgB a0 a1 a2 a3 a4 a5 a6 = false := by simp [cfgB, inB, f]
    rw [e]
    exact refConfig12 a0 a1 a2 a3 a4 a5 a6 w c0 c1 c2 c3 c4 c5 c6 c7 c8 c9 c10 c11 f
  by_cases c13 : decide (a6 ≤ 64) = true
  rotate_left
  · have f : decide (a6 ≤ 64) = false := by simpa using c13
    have e : cfgB a0 a1 a2 a3 a4 a5 a6 = false := by simp [cfgB, inB, f]
    rw [e]
    exact refConfig13 a0 a1 a2 a3 a4 a5 a6 w c0 c1 c2 c3 c4 c5 c6 c7 c8 c9 c10 c11 c12 f
  have e : cfgB a0 a1 a2 a3 a4 a5 a6 = true := by simp only [cfgB, inB, c0, c1, c2, c3, c4, c5, c6, c7, c8, c9, c10, c11, c12, c13]; rfl
  rw [e]
  exact refConfig14 a0 a1 a2 a3 a4 a5 a6 w c0 c1 c2 c3 c4 c5 c6 c7 c8 c9 c10 c11 c12 c13
end Go.Proofs.YtcomelbphdjnnaaGreatDoor.Wc
/-
  SCRIPT: the document's Print.
-/
namespace Go.Proofs.YtcomelbphdjnnaaGreatDoor.Sc
open Go.RowKit Mr
open Go.Lib (itoa)
set_option linter.unusedVariables false
set_option linter.unusedSimpArgs false
set_option maxRecDepth 100000
theorem cat2 (x y : List UInt8) : (⟨x.toArray⟩ ++ ⟨y.toArray⟩ : ByteArray) = ⟨(x ++ y).toArray⟩ := cat_list x y
theorem mac_text (c0 c1 c2 c3 c4 c5 c6 : Int) : (⟨#[109, 97, 99, 104, 105, 110, 101, 32, 116, 104, 114, 101, 97, 100, 115, 32]⟩ ++ ito c0 ++ ⟨#[32, 114, 101, 99, 111, 114, 100, 115, 32]⟩ ++ ito c1 ++ ⟨#[32, 104, 97, 122, 97, 114, 100, 115, 32]⟩ ++ ito c2 ++ ⟨#[32, 114, 101, 116, 105, 114, 101, 32]⟩ ++ ito c3 ++ ⟨#[32, 99, 97, 99, 104, 101, 32]⟩ ++ ito c4 ++ ⟨#[32, 115, 108, 111, 116, 115, 32]⟩ ++ ito c5 ++ ⟨#[32, 98, 117, 99, 107, 101, 116, 115, 32]⟩ ++ ito c6 ++ ⟨#[10]⟩ : ByteArray) = ⟨(fil fMachine [c0, c1, c2, c3, c4, c5, c6] ++ [10]).toArray⟩ := by
  have e : fil fMachine [c0, c1, c2, c3, c4, c5, c6] ++ [10] = [109, 97, 99, 104, 105, 110, 101, 32, 116, 104, 114, 101, 97, 100, 115, 32] ++ itoa c0 ++ [32, 114, 101, 99, 111, 114, 100, 115, 32] ++ itoa c1 ++ [32, 104, 97, 122, 97, 114, 100, 115, 32] ++ itoa c2 ++ [32, 114, 101, 116, 105, 114, 101, 32] ++ itoa c3 ++ [32, 99, 97, 99, 104, 101, 32] ++ itoa c4 ++ [32, 115, 108, 111, 116, 115, 32] ++ itoa c5 ++ [32, 98, 117, 99, 107, 101, 116, 115, 32] ++ itoa c6 ++ [10] := by simp [fMachine, fil]
  rw [e]
  rw [ito_list, ito_list, ito_list, ito_list, ito_list, ito_list, ito_list]
  simp only [cat2]
theorem bc_news1 (w : World) (l : List UInt8) (t : TypeId) {g : Nat} (hg : g = w.heap.size) {vs : Array Value} (hv : vs = (Lib.byteCells l).toArray) : ∀ j v, (Lib.byteCells l)[j]? = some v → (w.alloc (.cells vs t)).cell? ((⟨g, 0, none⟩ : Addr).add j) = some v := by
  intro j v hj
  subst hg
  subst hv
  rw [add0, cell_blk (new_at _ _ _ rfl)]
  simpa using hj
theorem drop_cons {α : Type} {l : List α} {i : Nat} (h : i < l.length) : l.drop i = l[i] :: l.drop (i + 1) := List.drop_eq_getElem_cons h
theorem steps_at (t : Int) : ∀ (l : List Mv) (q : Nat), q < stepsOf t l → l[q]? = some (stp t)
  | [], q, h => by simp [stepsOf] at h
  | m :: r, q, h => by
    unfold stepsOf at h
    split at h
    · rename_i e
      cases q with
      | zero => simp [e]
      | succ q => simpa using steps_at t r q (by omega)
    · omega
theorem steps_end (t : Int) : ∀ (l : List Mv) (m : Mv), l[stepsOf t l]? = some m → m ≠ stp t
  | [], m, h => by simp at h
  | x :: r, m, h => by
    unfold stepsOf at h
    split at h
    · exact steps_end t r m (by simpa using h)
    · rename_i e
      simp at h
      rw [← h]; exact e
set_option maxHeartbeats 32000000 in
theorem refPrint_good (c0 c1 c2 c3 c4 c5 c6 : Int) (a : Option Addr) (n cap : Nat) (ms : List Mv) (w : World) (hcf : Wc.cfgB c0 c1 c2 c3 c4 c5 c6 = true) (hM : MvAt w a n ms) (hm : ∀ m ∈ ms, MvB m) (hn : n ≤ 65536) :
    Calls Tryz.prog 7 #[.agg #[.int .i64 c0, .int .i64 c1, .int .i64 c2, .int .i64 c3, .int .i64 c4, .int .i64 c5, .int .i64 c6], .slice a n cap] w fun e w' => e = .returned (.tuple #[.string (prT (Wc.cfgB c0 c1 c2 c3 c4 c5 c6) [c0, c1, c2, c3, c4, c5, c6] ms), .int .i64 (prE (Wc.cfgB c0 c1 c2 c3 c4 c5 c6) [c0, c1, c2, c3, c4, c5, c6] ms)]) ∧ Below w.heap.size w w' := by
  have hcd : cfgC ⟨c0, c1, c2, c3, c4, c5, c6⟩ = true := hcf
  obtain ⟨b0, b1, b2, b3, b4, b5, b6⟩ := cf_bd hcd
  dsimp only at b0 b1 b2 b3 b4 b5 b6
  obtain ⟨i0, hi0, hz0, hz1, hz2⟩ := info_b2
  have hln := hM.1
  have RC := Mr.hid (fun W => Wc.refConfig c0 c1 c2 c3 c4 c5 c6 W)
  rw [hcf] at RC
  have D0 := Mr.hid (fun W => decC c0 W b0)
  have s0 : (ito c0).size ≤ 21 := by unfold ito; rw [sz_list]; exact itoa_len c0 b0
  have D1 := Mr.hid (fun W => decC c1 W b1)
  have s1 : (ito c1).size ≤ 21 := by unfold ito; rw [sz_list]; exact itoa_len c1 b1
  have D2 := Mr.hid (fun W => decC c2 W b2)
  have s2 : (ito c2).size ≤ 21 := by unfold ito; rw [sz_list]; exact itoa_len c2 b2
  have D3 := Mr.hid (fun W => decC c3 W b3)
  have s3 : (ito c3).size ≤ 21 := by unfold ito; rw [sz_list]; exact itoa_len c3 b3
  have D4 := Mr.hid (fun W => decC c4 W b4)
  have s4 : (ito c4).size ≤ 21 := by unfold ito; rw [sz_list]; exact itoa_len c4 b4
  have D5 := Mr.hid (fun W => decC c5 W b5)
  have s5 : (ito c5).size ≤ 21 := by unfold ito; rw [sz_list]; exact itoa_len c5 b5
  have D6 := Mr.hid (fun W => decC c6 W b6)
  have s6 : (ito c6).size ≤ 21 := by unfold ito; rw [sz_list]; exact itoa_len c6 b6
  have hmac := mac_text c0 c1 c2 c3 c4 c5 c6
  have hH : (fil fMachine [c0, c1, c2, c3, c4, c5, c6] ++ [10]).length ≤ 2000 := by
    have h1 := fil_len fMachine [c0, c1, c2, c3, c4, c5, c6] (by intro x hx; simp only [List.mem_cons, List.not_mem_nil, or_false] at hx; rcases hx with rfl | rfl | rfl | rfl | rfl | rfl | rfl <;> assumption)
    have e2 : fMachine.length = 72 := by decide
    rw [List.length_append]
    simp
    omega
  have hprints : prints [c0, c1, c2, c3, c4, c5, c6] ms = fil fMachine [c0, c1, c2, c3, c4, c5, c6] ++ [10] ++ lines ms := rfl
  have hln' := hln
  have hlin : (lines ms).length ≤ 421 * 65536 := Nat.le_trans (lines_len ms.length ms (Nat.le_refl _) hm (by omega)) (Nat.mul_le_mul_left _ (by omega))
  generalize hHH : fil fMachine [c0, c1, c2, c3, c4, c5, c6] ++ [10] = HH at *
  have CV : ∀ (W : World), (convert 9 46 (.string ⟨HH.toArray⟩)).run Tryz.prog W = .ok (.slice (some ⟨W.heap.size, 0, none⟩) HH.length (grownCap W HH.length 0 5)) (Lib.bytesWorld W 5 ⟨HH.toArray⟩) := fun W => by
    have := Lib.run_convert_string_bytes (P := Tryz.prog) W 9 46 5 ⟨HH.toArray⟩ Tryz.underlying9 Tryz.underlying46 Tryz.underlying5
    rw [sz_list] at this
    exact this
  rw [← hmac] at CV
  have MC0 : (∀ (W : World), w.heap.size ≤ W.heap.size → Mb w.heap.size (Lib.bytesWorld W 5 ⟨HH.toArray⟩) (.slice (some ⟨W.heap.size, 0, none⟩) HH.length (grownCap W HH.length 0 5)) HH ∧ Below w.heap.size W (Lib.bytesWorld W 5 ⟨HH.toArray⟩)) := fun W hW => mb_convert W 5 HH (by omega) hW
  rw [← hmac] at MC0
  have MC := Mr.hid MC0
  clear MC0
  have d0 : decide ((65536 : Int) < (n : Int)) = false := decide_eq_false (by omega)
  have d1 : ¬ (65536 : Int) < (n : Int) := by omega
  have B0 : Hid (Below w.heap.size w (w.alloc (.cells #[.int .i64 c0, .int .i64 c1, .int .i64 c2, .int .i64 c3, .int .i64 c4, .int .i64 c5, .int .i64 c6] 23 (0, 0)))) := (Below.refl _ _).alloc (Nat.le_refl _) _
  generalize ito c0 = I0 at *
  generalize ito c1 = I1 at *
  generalize ito c2 = I2 at *
  generalize ito c3 = I3 at *
  generalize ito c4 = I4 at *
  generalize ito c5 = I5 at *
  generalize ito c6 = I6 at *
  have z0 : ¬ 9223372036854775807 < 16 + I0.size := by omega
  have z1 : ¬ 9223372036854775807 < 16 + I0.size + 9 := by omega
  have z2 : ¬ 9223372036854775807 < 16 + I0.size + 9 + I1.size := by omega
  have z3 : ¬ 9223372036854775807 < 16 + I0.size + 9 + I1.size + 9 := by omega
  have z4 : ¬ 9223372036854775807 < 16 + I0.size + 9 + I1.size + 9 + I2.size := by omega
  have z5 : ¬ 9223372036854775807 < 16 + I0.size + 9 + I1.size + 9 + I2.size + 8 := by omega
  have z6 : ¬ 9223372036854775807 < 16 + I0.size + 9 + I1.size + 9 + I2.size + 8 + I3.size := by omega
  have z7 : ¬ 9223372036854775807 < 16 + I0.size + 9 + I1.size + 9 + I2.size + 8 + I3.size + 7 := by omega
  have z8 : ¬ 9223372036854775807 < 16 + I0.size + 9 + I1.size + 9 + I2.size + 8 + I3.size + 7 + I4.size := by omega
  have z9 : ¬ 9223372036854775807 < 16 + I0.size + 9 + I1.size + 9 + I2.size + 8 + I3.size + 7 + I4.size + 7 := by omega
  have z10 : ¬ 9223372036854775807 < 16 + I0.size + 9 + I1.size + 9 + I2.size + 8 + I3.size + 7 + I4.size + 7 + I5.size := by omega
  have z11 : ¬ 9223372036854775807 < 16 + I0.size + 9 + I1.size + 9 + I2.size + 8 + I3.size + 7 + I4.size + 7 + I5.size + 9 := by omega
  have z12 : ¬ 9223372036854775807 < 16 + I0.size + 9 + I1.size + 9 + I2.size + 8 + I3.size + 7 + I4.size + 7 + I5.size + 9 + I6.size := by omega
  have z13 : ¬ 9223372036854775807 < 16 + I0.size + 9 + I1.size + 9 + I2.size + 8 + I3.size + 7 + I4.size + 7 + I5.size + 9 + I6.size + 1 := by omega
  replace hmac := Mr.hid hmac
  replace hln := Mr.hid hln
  replace hprints := Mr.hid hprints
  replace hm := Mr.hid hm
  replace hM := Mr.hid hM
  clear hln' hHH hcd b0 b1 b2 b3 b4 b5 b6
  go_enter Tryz.func7, Tryz.ntmps7
  go_upto_region 5 with (go_at_call 15; refine (RC.out _).mono ?_; clear RC; rintro e w1 ⟨rfl, B1⟩)
  have hbx : w1.heap[w.heap.size]? = some (.cells #[.int .i64 c0, .int .i64 c1, .int .i64 c2, .int .i64 c3, .int .i64 c4, .int .i64 c5, .int .i64 c6] 23 (0, 0)) := (B1.block _ (by simp)).trans (new_at _ _ _ rfl)
  have BB : Hid (Below w.heap.size w w1) := B0.out.trans (B1.mono (by simp))
  have x0 : w1.cell? ⟨w.heap.size, 0, none⟩ = some (.int .i64 c0) := cell_blk hbx 0
  have x1 : w1.cell? ⟨w.heap.size, 1, none⟩ = some (.int .i64 c1) := cell_blk hbx 1
  have x2 : w1.cell? ⟨w.heap.size, 2, none⟩ = some (.int .i64 c2) := cell_blk hbx 2
  have x3 : w1.cell? ⟨w.heap.size, 3, none⟩ = some (.int .i64 c3) := cell_blk hbx 3
  have x4 : w1.cell? ⟨w.heap.size, 4, none⟩ = some (.int .i64 c4) := cell_blk hbx 4
  have x5 : w1.cell? ⟨w.heap.size, 5, none⟩ = some (.int .i64 c5) := cell_blk hbx 5
  have x6 : w1.cell? ⟨w.heap.size, 6, none⟩ = some (.int .i64 c6) := cell_blk hbx 6
  have lx := (Array.getElem?_eq_some_iff.1 hbx).1
  clear hbx B1 B0
  refine wp_region_held_drew (S := (fun W => W.cell? ⟨w.heap.size, 0, none⟩ = some (.int .i64 c0) ∧ W.cell? ⟨w.heap.size, 1, none⟩ = some (.int .i64 c1) ∧ W.cell? ⟨w.heap.size, 2, none⟩ = some (.int .i64 c2) ∧ W.cell? ⟨w.heap.size, 3, none⟩ = some (.int .i64 c3) ∧ W.cell? ⟨w.heap.size, 4, none⟩ = some (.int .i64 c4) ∧ W.cell? ⟨w.heap.size, 5, none⟩ = some (.int .i64 c5) ∧ W.cell? ⟨w.heap.size, 6, none⟩ = some (.int .i64 c6))) (by kernel_rfl) ?_ (fun hHeld => ?_)
  · (try dsimp only)
    simp [*, go_sem]
  refine wpAnyH_take (i := 0) (oi := (⟨_, _, _, _, _, _⟩ : Oper)) (v := ?_) rfl (by kernel_rfl) (by kernel_rfl) (by kernel_rfl) (fun _ _ _ h => h) (Or.inl ⟨by rfl, ?_⟩) (by assumption) ?_
  rotate_left
  · intro w9 hSw
    (try dsimp only at hSw)
    go_simp
    all_goals (with_reducible rfl)
  try simp only [Act.put, List.setIfInBounds_toArray, List.set_cons_zero, List.set_cons_succ]
  refine wpAnyH_take (i := 1) (oi := (⟨_, _, _, _, _, _⟩ : Oper)) (v := ?_) rfl (by kernel_rfl) (by kernel_rfl) (by kernel_rfl) (fun _ _ _ h => h) (Or.inl ⟨by rfl, ?_⟩) (by assumption) ?_
  rotate_left
  · intro w9 hSw
    (try dsimp only at hSw)
    go_simp
    all_goals (with_reducible rfl)
  try simp only [Act.put, List.setIfInBounds_toArray, List.set_cons_zero, List.set_cons_succ]
  refine wpAnyH_take (i := 5) (oi := (⟨_, _, _, _, _, _⟩ : Oper)) (v := ?_) rfl (by kernel_rfl) (by kernel_rfl) (by kernel_rfl) (fun _ _ _ h => h) (Or.inl ⟨by rfl, ?_⟩) (by assumption) ?_
  rotate_left
  · intro w9 hSw
    (try dsimp only at hSw)
    go_simp
    all_goals (with_reducible rfl)
  try simp only [Act.put, List.setIfInBounds_toArray, List.set_cons_zero, List.set_cons_succ]
  refine wpAnyH_take (i := 6) (oi := (⟨_, _, _, _, _, _⟩ : Oper)) (v := ?_) rfl (by kernel_rfl) (by kernel_rfl) (by kernel_rfl) (fun _ _ _ h => h) (Or.inl ⟨by rfl, ?_⟩) (by assumption) ?_
  rotate_left
  · intro w9 hSw
    (try dsimp only at hSw)
    go_simp
    all_goals (with_reducible rfl)
  try simp only [Act.put, List.setIfInBounds_toArray, List.set_cons_zero, List.set_cons_succ]
  refine wpAnyH_take (i := 10) (oi := (⟨_, _, _, _, _, _⟩ : Oper)) (v := ?_) rfl (by kernel_rfl) (by kernel_rfl) (by kernel_rfl) (fun _ _ _ h => h) (Or.inl ⟨by rfl, ?_⟩) (by assumption) ?_
  rotate_left
  · intro w9 hSw
    (try dsimp only at hSw)
    go_simp
    all_goals (with_reducible rfl)
  try simp only [Act.put, List.setIfInBounds_toArray, List.set_cons_zero, List.set_cons_succ]
  refine wpAnyH_take (i := 11) (oi := (⟨_, _, _, _, _, _⟩ : Oper)) (v := ?_) rfl (by kernel_rfl) (by kernel_rfl) (by kernel_rfl) (fun _ _ _ h => h) (Or.inl ⟨by rfl, ?_⟩) (by assumption) ?_
  rotate_left
  · intro w9 hSw
    (try dsimp only at hSw)
    go_simp
    all_goals (with_reducible rfl)
  try simp only [Act.put, List.setIfInBounds_toArray, List.set_cons_zero, List.set_cons_succ]
  refine wpAnyH_take (i := 15) (oi := (⟨_, _, _, _, _, _⟩ : Oper)) (v := ?_) rfl (by kernel_rfl) (by kernel_rfl) (by kernel_rfl) (fun _ _ _ h => h) (Or.inl ⟨by rfl, ?_⟩) (by assumption) ?_
  rotate_left
  · intro w9 hSw
    (try dsimp only at hSw)
    go_simp
    all_goals (with_reducible rfl)
  try simp only [Act.put, List.setIfInBounds_toArray, List.set_cons_zero, List.set_cons_succ]
  refine wpAnyH_take (i := 16) (oi := (⟨_, _, _, _, _, _⟩ : Oper)) (v := ?_) rfl (by kernel_rfl) (by kernel_rfl) (by kernel_rfl) (fun _ _ _ h => h) (Or.inl ⟨by rfl, ?_⟩) (by assumption) ?_
  rotate_left
  · intro w9 hSw
    (try dsimp only at hSw)
    go_simp
    all_goals (with_reducible rfl)
  try simp only [Act.put, List.setIfInBounds_toArray, List.set_cons_zero, List.set_cons_succ]
  refine wpAnyH_take (i := 20) (oi := (⟨_, _, _, _, _, _⟩ : Oper)) (v := ?_) rfl (by kernel_rfl) (by kernel_rfl) (by kernel_rfl) (fun _ _ _ h => h) (Or.inl ⟨by rfl, ?_⟩) (by assumption) ?_
  rotate_left
  · intro w9 hSw
    (try dsimp only at hSw)
    go_simp
    all_goals (with_reducible rfl)
  try simp only [Act.put, List.setIfInBounds_toArray, List.set_cons_zero, List.set_cons_succ]
  refine wpAnyH_take (i := 21) (oi := (⟨_, _, _, _, _, _⟩ : Oper)) (v := ?_) rfl (by kernel_rfl) (by kernel_rfl) (by kernel_rfl) (fun _ _ _ h => h) (Or.inl ⟨by rfl, ?_⟩) (by assumption) ?_
  rotate_left
  · intro w9 hSw
    (try dsimp only at hSw)
    go_simp
    all_goals (with_reducible rfl)
  try simp only [Act.put, List.setIfInBounds_toArray, List.set_cons_zero, List.set_cons_succ]
  refine wpAnyH_take (i := 25) (oi := (⟨_, _, _, _, _, _⟩ : Oper)) (v := ?_) rfl (by kernel_rfl) (by kernel_rfl) (by kernel_rfl) (fun _ _ _ h => h) (Or.inl ⟨by rfl, ?_⟩) (by assumption) ?_
  rotate_left
  · intro w9 hSw
    (try dsimp only at hSw)
    go_simp
    all_goals (with_reducible rfl)
  try simp only [Act.put, List.setIfInBounds_toArray, List.set_cons_zero, List.set_cons_succ]
  refine wpAnyH_take (i := 26) (oi := (⟨_, _, _, _, _, _⟩ : Oper)) (v := ?_) rfl (by kernel_rfl) (by kernel_rfl) (by kernel_rfl) (fun _ _ _ h => h) (Or.inl ⟨by rfl, ?_⟩) (by assumption) ?_
  rotate_left
  · intro w9 hSw
    (try dsimp only at hSw)
    go_simp
    all_goals (with_reducible rfl)
  try simp only [Act.put, List.setIfInBounds_toArray, List.set_cons_zero, List.set_cons_succ]
  refine wpAnyH_take (i := 30) (oi := (⟨_, _, _, _, _, _⟩ : Oper)) (v := ?_) rfl (by kernel_rfl) (by kernel_rfl) (by kernel_rfl) (fun _ _ _ h => h) (Or.inl ⟨by rfl, ?_⟩) (by assumption) ?_
  rotate_left
  · intro w9 hSw
    (try dsimp only at hSw)
    go_simp
    all_goals (with_reducible rfl)
  try simp only [Act.put, List.setIfInBounds_toArray, List.set_cons_zero, List.set_cons_succ]
  refine wpAnyH_take (i := 31) (oi := (⟨_, _, _, _, _, _⟩ : Oper)) (v := ?_) rfl (by kernel_rfl) (by kernel_rfl) (by kernel_rfl) (fun _ _ _ h => h) (Or.inl ⟨by rfl, ?_⟩) (by assumption) ?_
  rotate_left
  · intro w9 hSw
    (try dsimp only at hSw)
    go_simp
    all_goals (with_reducible rfl)
  try simp only [Act.put, List.setIfInBounds_toArray, List.set_cons_zero, List.set_cons_succ]
  refine wpAnyH_ready (rs := [2]) (by kernel_rfl) (by simp) ?_
  refine AllReadyH.cons (o := (⟨_, _, _, _, _, _⟩ : Oper)) rfl (fun K hK => ?_) (AllReadyH.nil)
  go_simp
  (go_at_call 16; refine (D0.out _).mono ?_; clear D0; rintro e v0 ⟨rfl, B0⟩; have q0_0 := (B0.cell (p := ⟨w.heap.size, 0, none⟩) lx).trans x0; have q0_1 := (B0.cell (p := ⟨w.heap.size, 1, none⟩) lx).trans x1; have q0_2 := (B0.cell (p := ⟨w.heap.size, 2, none⟩) lx).trans x2; have q0_3 := (B0.cell (p := ⟨w.heap.size, 3, none⟩) lx).trans x3; have q0_4 := (B0.cell (p := ⟨w.heap.size, 4, none⟩) lx).trans x4; have q0_5 := (B0.cell (p := ⟨w.heap.size, 5, none⟩) lx).trans x5; have q0_6 := (B0.cell (p := ⟨w.heap.size, 6, none⟩) lx).trans x6; have l0 : w.heap.size < v0.heap.size := Nat.lt_of_lt_of_le lx B0.size; have BB0 : Hid (Below w.heap.size w v0) := (BB.out.drew).trans (B0.mono BB.out.size); clear B0)
  refine hK.out _ _ ?_ (fun hHeld9 => ?_)
  · (try dsimp only)
    exact ⟨q0_0, q0_1, q0_2, q0_3, q0_4, q0_5, q0_6⟩
  clear hK K hHeld
  have hHeld := hHeld9
  clear hHeld9
  try simp only [Act.put, List.setIfInBounds_toArray, List.set_cons_zero, List.set_cons_succ]
  refine wpAnyH_take (i := 3) (oi := (⟨_, _, _, _, _, _⟩ : Oper)) (v := ?_) rfl (by kernel_rfl) (by kernel_rfl) (by kernel_rfl) (fun _ _ _ h => h) (Or.inl ⟨by rfl, ?_⟩) (by assumption) ?_
  rotate_left
  · intro w9 hSw
    (try dsimp only at hSw)
    go_simp
    all_goals (with_reducible rfl)
  try simp only [Act.put, List.setIfInBounds_toArray, List.set_cons_zero, List.set_cons_succ]
  refine wpAnyH_take (i := 4) (oi := (⟨_, _, _, _, _, _⟩ : Oper)) (v := ?_) rfl (by kernel_rfl) (by kernel_rfl) (by kernel_rfl) (fun _ _ _ h => h) (Or.inl ⟨by rfl, ?_⟩) (by assumption) ?_
  rotate_left
  · intro w9 hSw
    (try dsimp only at hSw)
    go_simp
    all_goals (with_reducible rfl)
  try simp only [Act.put, List.setIfInBounds_toArray, List.set_cons_zero, List.set_cons_succ]
  refine wpAnyH_ready (rs := [7]) (by kernel_rfl) (by simp) ?_
  refine AllReadyH.cons (o := (⟨_, _, _, _, _, _⟩ : Oper)) rfl (fun K hK => ?_) (AllReadyH.nil)
  go_simp
  (go_at_call 16; refine (D1.out _).mono ?_; clear D1; rintro e v1 ⟨rfl, B1⟩; have q1_0 := (B1.cell (p := ⟨w.heap.size, 0, none⟩) l0).trans q0_0; have q1_1 := (B1.cell (p := ⟨w.heap.size, 1, none⟩) l0).trans q0_1; have q1_2 := (B1.cell (p := ⟨w.heap.size, 2, none⟩) l0).trans q0_2; have q1_3 := (B1.cell (p := ⟨w.heap.size, 3, none⟩) l0).trans q0_3; have q1_4 := (B1.cell (p := ⟨w.heap.size, 4, none⟩) l0).trans q0_4; have q1_5 := (B1.cell (p := ⟨w.heap.size, 5, none⟩) l0).trans q0_5; have q1_6 := (B1.cell (p := ⟨w.heap.size, 6, none⟩) l0).trans q0_6; have l1 : w.heap.size < v1.heap.size := Nat.lt_of_lt_of_le l0 B1.size; have BB1 : Hid (Below w.heap.size w v1) := BB0.out.trans (B1.mono BB0.out.size); clear B1)
  refine hK.out _ _ ?_ (fun hHeld9 => ?_)
  · (try dsimp only)
    exact ⟨q1_0, q1_1, q1_2, q1_3, q1_4, q1_5, q1_6⟩
  clear hK K hHeld
  have hHeld := hHeld9
  clear hHeld9
  try simp only [Act.put, List.setIfInBounds_toArray, List.set_cons_zero, List.set_cons_succ]
  refine wpAnyH_take (i := 8) (oi := (⟨_, _, _, _, _, _⟩ : Oper)) (v := ?_) rfl (by kernel_rfl) (by kernel_rfl) (by kernel_rfl) (fun _ _ _ h => h) (Or.inl ⟨by rfl, ?_⟩) (by assumption) ?_
  rotate_left
  · intro w9 hSw
    (try dsimp only at hSw)
    go_simp
    all_goals (with_reducible rfl)
  try simp only [Act.put, List.setIfInBounds_toArray, List.set_cons_zero, List.set_cons_succ]
  refine wpAnyH_take (i := 9) (oi := (⟨_, _, _, _, _, _⟩ : Oper)) (v := ?_) rfl (by kernel_rfl) (by kernel_rfl) (by kernel_rfl) (fun _ _ _ h => h) (Or.inl ⟨by rfl, ?_⟩) (by assumption) ?_
  rotate_left
  · intro w9 hSw
    (try dsimp only at hSw)
    go_simp
    all_goals (with_reducible rfl)
  try simp only [Act.put, List.setIfInBounds_toArray, List.set_cons_zero, List.set_cons_succ]
  refine wpAnyH_ready (rs := [12]) (by kernel_rfl) (by simp) ?_
  refine AllReadyH.cons (o := (⟨_, _, _, _, _, _⟩ : Oper)) rfl (fun K hK => ?_) (AllReadyH.nil)
  go_simp
  (go_at_call 16; refine (D2.out _).mono ?_; clear D2; rintro e v2 ⟨rfl, B2⟩; have q2_0 := (B2.cell (p := ⟨w.heap.size, 0, none⟩) l1).trans q1_0; have q2_1 := (B2.cell (p := ⟨w.heap.size, 1, none⟩) l1).trans q1_1; have q2_2 := (B2.cell (p := ⟨w.heap.size, 2, none⟩) l1).trans q1_2; have q2_3 := (B2.cell (p := ⟨w.heap.size, 3, none⟩) l1).trans q1_3; have q2_4 := (B2.cell (p := ⟨w.heap.size, 4, none⟩) l1).trans q1_4; have q2_5 := (B2.cell (p := ⟨w.heap.size, 5, none⟩) l1).trans q1_5; have q2_6 := (B2.cell (p := ⟨w.heap.size, 6, none⟩) l1).trans q1_6; have l2 : w.heap.size < v2.heap.size := Nat.lt_of_lt_of_le l1 B2.size; have BB2 : Hid (Below w.heap.size w v2) := BB1.out.trans (B2.mono BB1.out.size); clear B2)
  refine hK.out _ _ ?_ (fun hHeld9 => ?_)
  · (try dsimp only)
    exact ⟨q2_0, q2_1, q2_2, q2_3, q2_4, q2_5, q2_6⟩
  clear hK K hHeld
  have hHeld := hHeld9
  clear hHeld9
  try simp only [Act.put, List.setIfInBounds_toArray, List.set_cons_zero, List.set_cons_succ]
  refine wpAnyH_take (i := 13) (oi := (⟨_, _, _, _, _, _⟩ : Oper)) (v := ?_) rfl (by kernel_rfl) (by kernel_rfl) (by kernel_rfl) (fun _ _ _ h => h) (Or.inl ⟨by rfl, ?_⟩) (by assumption) ?_
  rotate_left
  · intro w9 hSw
    (try dsimp only at hSw)
    go_simp
    all_goals (with_reducible rfl)
  try simp only [Act.put, List.setIfInBounds_toArray, List.set_cons_zero, List.set_cons_succ]
  refine wpAnyH_take (i := 14) (oi := (⟨_, _, _, _, _, _⟩ : Oper)) (v := ?_) rfl (by kernel_rfl) (by kernel_rfl) (by kernel_rfl) (fun _ _ _ h => h) (Or.inl ⟨by rfl, ?_⟩) (by assumption) ?_
  rotate_left
  · intro w9 hSw
    (try dsimp only at hSw)
    go_simp
    all_goals (with_reducible rfl)
  try simp only [Act.put, List.setIfInBounds_toArray, List.set_cons_zero, List.set_cons_succ]
  refine wpAnyH_ready (rs := [17]) (by kernel_rfl) (by simp) ?_
  refine AllReadyH.cons (o := (⟨_, _, _, _, _, _⟩ : Oper)) rfl (fun K hK => ?_) (AllReadyH.nil)
  go_simp
  (go_at_call 16; refine (D3.out _).mono ?_; clear D3; rintro e v3 ⟨rfl, B3⟩; have q3_0 := (B3.cell (p := ⟨w.heap.size, 0, none⟩) l2).trans q2_0; have q3_1 := (B3.cell (p := ⟨w.heap.size, 1, none⟩) l2).trans q2_1; have q3_2 := (B3.cell (p := ⟨w.heap.size, 2, none⟩) l2).trans q2_2; have q3_3 := (B3.cell (p := ⟨w.heap.size, 3, none⟩) l2).trans q2_3; have q3_4 := (B3.cell (p := ⟨w.heap.size, 4, none⟩) l2).trans q2_4; have q3_5 := (B3.cell (p := ⟨w.heap.size, 5, none⟩) l2).trans q2_5; have q3_6 := (B3.cell (p := ⟨w.heap.size, 6, none⟩) l2).trans q2_6; have l3 : w.heap.size < v3.heap.size := Nat.lt_of_lt_of_le l2 B3.size; have BB3 : Hid (Below w.heap.size w v3) := BB2.out.trans (B3.mono BB2.out.size); clear B3)
  refine hK.out _ _ ?_ (fun hHeld9 => ?_)
  · (try dsimp only)
    exact ⟨q3_0, q3_1, q3_2, q3_3, q3_4, q3_5, q3_6⟩
  clear hK K hHeld
  have hHeld := hHeld9
  clear hHeld9
  try simp only [Act.put, List.setIfInBounds_toArray, List.set_cons_zero, List.set_cons_succ]
  refine wpAnyH_take (i := 18) (oi := (⟨_, _, _, _, _, _⟩ : Oper)) (v := ?_) rfl (by kernel_rfl) (by kernel_rfl) (by kernel_rfl) (fun _ _ _ h => h) (Or.inl ⟨by rfl, ?_⟩) (by assumption) ?_
  rotate_left
  · intro w9 hSw
    (try dsimp only at hSw)
    go_simp
    all_goals (with_reducible rfl)
  try simp only [Act.put, List.setIfInBounds_toArray, List.set_cons_zero, List.set_cons_succ]
  refine wpAnyH_take (i := 19) (oi := (⟨_, _, _, _, _, _⟩ : Oper)) (v := ?_) rfl (by kernel_rfl) (by kernel_rfl) (by kernel_rfl) (fun _ _ _ h => h) (Or.inl ⟨by rfl, ?_⟩) (by assumption) ?_
  rotate_left
  · intro w9 hSw
    (try dsimp only at hSw)
    go_simp
    all_goals (with_reducible rfl)
  try simp only [Act.put, List.setIfInBounds_toArray, List.set_cons_zero, List.set_cons_succ]
  refine wpAnyH_ready (rs := [22]) (by kernel_rfl) (by simp) ?_
  refine AllReadyH.cons (o := (⟨_, _, _, _, _, _⟩ : Oper)) rfl (fun K hK => ?_) (AllReadyH.nil)
  go_simp
  (go_at_call 16; refine (D4.out _).mono ?_; clear D4; rintro e v4 ⟨rfl, B4⟩; have q4_0 := (B4.cell (p := ⟨w.heap.size, 0, none⟩) l3).trans q3_0; have q4_1 := (B4.cell (p := ⟨w.heap.size, 1, none⟩) l3).trans q3_1; have q4_2 := (B4.cell (p := ⟨w.heap.size, 2, none⟩) l3).trans q3_2; have q4_3 := (B4.cell (p := ⟨w.heap.size, 3, none⟩) l3).trans q3_3; have q4_4 := (B4.cell (p := ⟨w.heap.size, 4, none⟩) l3).trans q3_4; have q4_5 := (B4.cell (p := ⟨w.heap.size, 5, none⟩) l3).trans q3_5; have q4_6 := (B4.cell (p := ⟨w.heap.size, 6, none⟩) l3).trans q3_6; have l4 : w.heap.size < v4.heap.size := Nat.lt_of_lt_of_le l3 B4.size; have BB4 : Hid (Below w.heap.size w v4) := BB3.out.trans (B4.mono BB3.out.size); clear B4)
  refine hK.out _ _ ?_ (fun hHeld9 => ?_)
  · (try dsimp only)
    exact ⟨q4_0, q4_1, q4_2, q4_3, q4_4, q4_5, q4_6⟩
  clear hK K hHeld
  have hHeld := hHeld9
  clear hHeld9
  try simp only [Act.put, List.setIfInBounds_toArray, List.set_cons_zero, List.set_cons_succ]
  refine wpAnyH_take (i := 23) (oi := (⟨_, _, _, _, _, _⟩ : Oper)) (v := ?_) rfl (by kernel_rfl) (by kernel_rfl) (by kernel_rfl) (fun _ _ _ h => h) (Or.inl ⟨by rfl, ?_⟩) (by assumption) ?_
  rotate_left
  · intro w9 hSw
    (try dsimp only at hSw)
    go_simp
    all_goals (with_reducible rfl)
  try simp only [Act.put, List.setIfInBounds_toArray, List.set_cons_zero, List.set_cons_succ]
  refine wpAnyH_take (i := 24) (oi := (⟨_, _, _, _, _, _⟩ : Oper)) (v := ?_) rfl (by kernel_rfl) (by kernel_rfl) (by kernel_rfl) (fun _ _ _ h => h) (Or.inl ⟨by rfl, ?_⟩) (by assumption) ?_
  rotate_left
  · intro w9 hSw
    (try dsimp only at hSw)
    go_simp
    all_goals (with_reducible rfl)
  try simp only [Act.put, List.setIfInBounds_toArray, List.set_cons_zero, List.set_cons_succ]
  refine wpAnyH_ready (rs := [27]) (by kernel_rfl) (by simp) ?_
  refine AllReadyH.cons (o := (⟨_, _, _, _, _, _⟩ : Oper)) rfl (fun K hK => ?_) (AllReadyH.nil)
  go_simp
  (go_at_call 16; refine (D5.out _).mono ?_; clear D5; rintro e v5 ⟨rfl, B5⟩; have q5_0 := (B5.cell (p := ⟨w.heap.size, 0, none⟩) l4).trans q4_0; have q5_1 := (B5.cell (p := ⟨w.heap.size, 1, none⟩) l4).trans q4_1; have q5_2 := (B5.cell (p := ⟨w.heap.size, 2, none⟩) l4).trans q4_2; have q5_3 := (B5.cell (p := ⟨w.heap.size, 3, none⟩) l4).trans q4_3; have q5_4 := (B5.cell (p := ⟨w.heap.size, 4, none⟩) l4).trans q4_4; have q5_5 := (B5.cell (p := ⟨w.heap.size, 5, none⟩) l4).trans q4_5; have q5_6 := (B5.cell (p := ⟨w.heap.size, 6, none⟩) l4).trans q4_6; have l5 : w.heap.size < v5.heap.size := Nat.lt_of_lt_of_le l4 B5.size; have BB5 : Hid (Below w.heap.size w v5) := BB4.out.trans (B5.mono BB4.out.size); clear B5)
  refine hK.out _ _ ?_ (fun hHeld9 => ?_)
  · (try dsimp only)
    exact ⟨q5_0, q5_1, q5_2, q5_3, q5_4, q5_5, q5_6⟩
  clear hK K hHeld
  have hHeld := hHeld9
  clear hHeld9
  try simp only [Act.put, List.setIfInBounds_toArray, List.set_cons_zero, List.set_cons_succ]
  refine wpAnyH_take (i := 28) (oi := (⟨_, _, _, _, _, _⟩ : Oper)) (v := ?_) rfl (by kernel_rfl) (by kernel_rfl) (by kernel_rfl) (fun _ _ _ h => h) (Or.inl ⟨by rfl, ?_⟩) (by assumption) ?_
  rotate_left
  · intro w9 hSw
    (try dsimp only at hSw)
    go_simp
    all_goals (with_reducible rfl)
  try simp only [Act.put, List.setIfInBounds_toArray, List.set_cons_zero, List.set_cons_succ]
  refine wpAnyH_take (i := 29) (oi := (⟨_, _, _, _, _, _⟩ : Oper)) (v := ?_) rfl (by kernel_rfl) (by kernel_rfl) (by kernel_rfl) (fun _ _ _ h => h) (Or.inl ⟨by rfl, ?_⟩) (by assumption) ?_
  rotate_left
  · intro w9 hSw
    (try dsimp only at hSw)
    go_simp
    all_goals (with_reducible rfl)
  try simp only [Act.put, List.setIfInBounds_toArray, List.set_cons_zero, List.set_cons_succ]
  refine wpAnyH_ready (rs := [32]) (by kernel_rfl) (by simp) ?_
  refine AllReadyH.cons (o := (⟨_, _, _, _, _, _⟩ : Oper)) rfl (fun K hK => ?_) (AllReadyH.nil)
  go_simp
  (go_at_call 16; refine (D6.out _).mono ?_; clear D6; rintro e v6 ⟨rfl, B6⟩; have q6_0 := (B6.cell (p := ⟨w.heap.size, 0, none⟩) l5).trans q5_0; have q6_1 := (B6.cell (p := ⟨w.heap.size, 1, none⟩) l5).trans q5_1; have q6_2 := (B6.cell (p := ⟨w.heap.size, 2, none⟩) l5).trans q5_2; have q6_3 := (B6.cell (p := ⟨w.heap.size, 3, none⟩) l5).trans q5_3; have q6_4 := (B6.cell (p := ⟨w.heap.size, 4, none⟩) l5).trans q5_4; have q6_5 := (B6.cell (p := ⟨w.heap.size, 5, none⟩) l5).trans q5_5; have q6_6 := (B6.cell (p := ⟨w.heap.size, 6, none⟩) l5).trans q5_6; have l6 : w.heap.size < v6.heap.size := Nat.lt_of_lt_of_le l5 B6.size; have BB6 : Hid (Below w.heap.size w v6) := BB5.out.trans (B6.mono BB5.out.size); clear B6)
  refine hK.out _ _ ?_ (fun hHeld9 => ?_)
  · (try dsimp only)
    exact ⟨q6_0, q6_1, q6_2, q6_3, q6_4, q6_5, q6_6⟩
  clear hK K hHeld
  have hHeld := hHeld9
  clear hHeld9
  try simp only [Act.put, List.setIfInBounds_toArray, List.set_cons_zero, List.set_cons_succ]
  refine wpAnyH_take (i := 33) (oi := (⟨_, _, _, _, _, _⟩ : Oper)) (v := ?_) rfl (by kernel_rfl) (by kernel_rfl) (by kernel_rfl) (fun _ _ _ h => h) (Or.inl ⟨by rfl, ?_⟩) (by assumption) ?_
  rotate_left
  · intro w9 hSw
    (try dsimp only at hSw)
    go_simp
    all_goals (with_reducible rfl)
  try simp only [Act.put, List.setIfInBounds_toArray, List.set_cons_zero, List.set_cons_succ]
  refine wpAnyH_take (i := 34) (oi := (⟨_, _, _, _, _, _⟩ : Oper)) (v := ?_) rfl (by kernel_rfl) (by kernel_rfl) (by kernel_rfl) (fun _ _ _ h => h) (Or.inl ⟨by rfl, ?_⟩) (by assumption) ?_
  rotate_left
  · intro w9 hSw
    (try dsimp only at hSw)
    go_simp
    all_goals (with_reducible rfl)
  try simp only [Act.put, List.setIfInBounds_toArray, List.set_cons_zero, List.set_cons_succ]
  refine wpAnyH_ready (rs := [35]) (by kernel_rfl) (by simp) ?_
  refine AllReadyH.cons (o := (⟨_, _, _, _, _, _⟩ : Oper)) rfl (fun K hK => ?_) (AllReadyH.nil)
  go_simp
  refine hK.out _ _ ?_ (fun hHeld9 => ?_)
  · (try dsimp only)
    simp [*, go_sem, Lib.bytesWorld_old]
  clear hK K hHeld
  have hHeld := hHeld9
  clear hHeld9
  try simp only [Act.put, List.setIfInBounds_toArray, List.set_cons_zero, List.set_cons_succ]
  refine wpAnyH_take (i := 36) (oi := (⟨_, _, _, _, _, _⟩ : Oper)) (v := ?_) rfl (by kernel_rfl) (by kernel_rfl) (by kernel_rfl) (fun _ _ _ h => h) (Or.inl ⟨by rfl, ?_⟩) (by assumption) ?_
  rotate_left
  · intro w9 hSw
    (try dsimp only at hSw)
    go_simp
    all_goals (with_reducible rfl)
  try simp only [Act.put, List.setIfInBounds_toArray, List.set_cons_zero, List.set_cons_succ]
  refine wpAnyH_done (by kernel_rfl) ?_ _
  clear hHeld
  obtain ⟨hMb, hBw⟩ := MC.out v6 BB6.out.size
  have BB8 : Below w.heap.size w (Lib.bytesWorld v6 5 (⟨#[109, 97, 99, 104, 105, 110, 101, 32, 116, 104, 114, 101, 97, 100, 115, 32]⟩ ++ I0 ++ ⟨#[32, 114, 101, 99, 111, 114, 100, 115, 32]⟩ ++ I1 ++ ⟨#[32, 104, 97, 122, 97, 114, 100, 115, 32]⟩ ++ I2 ++ ⟨#[32, 114, 101, 116, 105, 114, 101, 32]⟩ ++ I3 ++ ⟨#[32, 99, 97, 99, 104, 101, 32]⟩ ++ I4 ++ ⟨#[32, 115, 108, 111, 116, 115, 32]⟩ ++ I5 ++ ⟨#[32, 98, 117, 99, 107, 101, 116, 115, 32]⟩ ++ I6 ++ ⟨#[10]⟩)) := BB6.out.trans hBw
  clear CV MC hBw BB BB0 BB1 BB2 BB3 BB4 BB5 BB6 q0_0 q0_1 q0_2 q0_3 q0_4 q0_5 q0_6 q1_0 q1_1 q1_2 q1_3 q1_4 q1_5 q1_6 q2_0 q2_1 q2_2 q2_3 q2_4 q2_5 q2_6 q3_0 q3_1 q3_2 q3_3 q3_4 q3_5 q3_6 q4_0 q4_1 q4_2 q4_3 q4_4 q4_5 q4_6 q5_0 q5_1 q5_2 q5_3 q5_4 q5_5 q5_6 q6_0 q6_1 q6_2 q6_3 q6_4 q6_5 q6_6 l0 l1 l2 l3 l4 l5 l6
  generalize Lib.bytesWorld v6 5 (⟨#[109, 97, 99, 104, 105, 110, 101, 32, 116, 104, 114, 101, 97, 100, 115, 32]⟩ ++ I0 ++ ⟨#[32, 114, 101, 99, 111, 114, 100, 115, 32]⟩ ++ I1 ++ ⟨#[32, 104, 97, 122, 97, 114, 100, 115, 32]⟩ ++ I2 ++ ⟨#[32, 114, 101, 116, 105, 114, 101, 32]⟩ ++ I3 ++ ⟨#[32, 99, 97, 99, 104, 101, 32]⟩ ++ I4 ++ ⟨#[32, 115, 108, 111, 116, 115, 32]⟩ ++ I5 ++ ⟨#[32, 98, 117, 99, 107, 101, 116, 115, 32]⟩ ++ I6 ++ ⟨#[10]⟩) = w8 at *
  generalize (Value.slice (some ⟨v6.heap.size, 0, none⟩) HH.length (grownCap v6 HH.length 0 5)) = vT at *
  replace hMb := Mr.hid hMb
  replace BB8 := Mr.hid BB8
  clear z0 z1 z2 z3 z4 z5 z6 z7 z8 z9 z10 z11 z12 z13 s0 s1 s2 s3 s4 s5 s6
  go_upto_region 7 with fail
  go_loopg [6, 7] n (fun gk s6 s7 wr => ∃ (i : Nat) (out : List UInt8) (v : Value), s6 = v ∧ s7 = .int .i64 (i : Int) ∧ i + gk = n ∧ Mb w.heap.size wr v out ∧ out ++ lines (ms.drop i) = prints [c0, c1, c2, c3, c4, c5, c6] ms ∧ Below w.heap.size w wr)
  case atStart => exact ⟨0, HH, vT, rfl, rfl, by omega, hMb.out, by rw [List.drop_zero, hprints.out], BB8.out⟩
  case round =>
    obtain ⟨i, out, v, rfl, rfl, hi, hW, hout, hBr⟩ := hrel
    have hol : out.length ≤ 30000000 := by
      have := congrArg List.length hout
      rw [hprints.out, List.length_append, List.length_append] at this
      omega
    obtain ⟨gT, capT, hvT, hgT, hcT⟩ := hW.form
    subst hvT
    by_cases hlt : i < n
    · have hli : i < ms.length := by have := hln.out; omega
      obtain ⟨m, hmi⟩ : ∃ m, ms[i] = m := ⟨_, rfl⟩
      have hdr : ms.drop i = m :: ms.drop (i + 1) := by rw [drop_cons hli, hmi]
      have hmB : MvB m := hm.out m (by rw [← hmi]; exact List.getElem_mem hli)
      obtain ⟨p1, p2⟩ := lineOf_pos m (ms.drop (i + 1))
      have hT := lineOf_T m (ms.drop (i + 1))
      have hlc := lines_cons m (ms.drop (i + 1))
      rw [hdr] at hout
      rw [hlc, hT] at hout
      have hKS : (stepsOf m.th (m :: ms.drop (i + 1)) = 0 → (lineOf m (ms.drop (i + 1))).2 = 1) ∧ (stepsOf m.th (m :: ms.drop (i + 1)) ≠ 0 → (lineOf m (ms.drop (i + 1))).2 = stepsOf m.th (m :: ms.drop (i + 1))) := by
        constructor
        · intro h; unfold lineOf; rw [if_pos h]
        · intro h
          unfold lineOf
          rw [if_neg h]
          split
          · rename_i h1; rw [h1]
          · rfl
      obtain ⟨K, hK⟩ : ∃ K, (lineOf m (ms.drop (i + 1))).2 = K := ⟨_, rfl⟩
      rw [hK] at hout p1 p2 hKS
      have hKn : i + K ≤ n := by have := hln.out; simp at p2; omega
      have hLl := lnT_len m K hmB (by omega)
      have hLA := Mr.hid (fun W => Line_any m K W hmB (by omega))
      have hnext : Hid ((out ++ lnT m K ++ [10]) ++ lines (ms.drop (i + K)) = prints [c0, c1, c2, c3, c4, c5, c6] ms) := by
        show _ = _
        rw [← hout, List.drop_drop.symm, hdr]
        simp [List.append_assoc]
      have hne : ms ≠ [] := by intro e; rw [e] at hli; simp at hli
      have hmne := Mr.hid hne
      have hMr := Mr.hid (fun W (hB : Below w.heap.size w W) => hM.out.below hB)
      obtain ⟨g, o, rfl, hg, hc⟩ := (hM.out.below hBr).2.resolve_left hne
      obtain ⟨d0, d1, d2, d3⟩ := hc i hli
      rw [List.getElem?_eq_getElem hli, hmi] at d0 d1 d2 d3
      simp only [Option.getD_some] at d0 d1 d2 d3
      have hstep : m = stp m.th ↔ stepsOf m.th (m :: ms.drop (i + 1)) ≠ 0 := by
        constructor
        · intro h; show (if m = stp m.th then _ else _) ≠ 0; rw [if_pos h]; omega
        · intro h
          by_cases e : m = stp m.th
          · exact e
          · exfalso; apply h; show (if m = stp m.th then _ else _) = 0; rw [if_neg e]
      have hSat := Mr.hid (fun q (hq : q < stepsOf m.th (m :: ms.drop (i + 1))) => steps_at m.th (m :: ms.drop (i + 1)) q hq)
      have hSen := Mr.hid (fun m' (h : (m :: ms.drop (i + 1))[stepsOf m.th (m :: ms.drop (i + 1))]? = some m') => steps_end m.th (m :: ms.drop (i + 1)) m' h)
      have hidx : Hid (∀ q, (m :: ms.drop (i + 1))[q]? = ms[i + q]?) := fun q => by rw [← hdr, List.getElem?_drop]
      obtain ⟨S, hS⟩ : ∃ S, stepsOf m.th (m :: ms.drop (i + 1)) = S := ⟨_, rfl⟩
      rw [hS] at hstep hKS hSat hSen
      have hlI : (i : Int) < (n : Int) := by omega
      have dl : decide ((i : Int) < (n : Int)) = true := by simpa using hlI
      have hi' := Mr.hid hi
      obtain ⟨th, op, ar, da⟩ := m
      dsimp only at *
      have BB9 : Below w.heap.size w (wr.alloc (.cells #[.int .i64 th, .int .i64 op, .int .i64 ar, .int .i64 da] 42)) := hBr.alloc hBr.size _
      have hW9 := hW.below ((Below.refl wr.heap.size wr).alloc (Nat.le_refl _) (.cells #[.int .i64 th, .int .i64 op, .int .i64 ar, .int .i64 da] 42))
      have hb9 : (wr.alloc (.cells #[.int .i64 th, .int .i64 op, .int .i64 ar, .int .i64 da] 42)).heap[wr.heap.size]? = some (.cells #[.int .i64 th, .int .i64 op, .int .i64 ar, .int .i64 da] 42 (0, 0)) := new_at _ _ _ rfl
      have hl9 : wr.heap.size < (wr.alloc (.cells #[.int .i64 th, .int .i64 op, .int .i64 ar, .int .i64 da] 42)).heap.size := by simp
      replace BB9 := Mr.hid BB9
      replace hW9 := Mr.hid hW9
      replace hb9 := Mr.hid hb9
      replace hdr := Mr.hid hdr
      clear hout hT hlc hc hmB hmi hK hi hW hcT hgT p2
      go_upto_region 10 with fail
      generalize wr.alloc (.cells #[.int .i64 th, .int .i64 op, .int .i64 ar, .int .i64 da] 42) = w9 at *
      generalize wr.heap.size = b9 at *
      have y0 : w9.cell? ⟨b9, 0, none⟩ = some (.int .i64 th) := cell_blk hb9.out 0
      have y1 : w9.cell? ⟨b9, 1, none⟩ = some (.int .i64 op) := cell_blk hb9.out 1
      have y2 : w9.cell? ⟨b9, 2, none⟩ = some (.int .i64 ar) := cell_blk hb9.out 2
      have y3 : w9.cell? ⟨b9, 3, none⟩ = some (.int .i64 da) := cell_blk hb9.out 3
      clear d0 d1 d2 d3 hg
      go_cut [72] (fun t wq => ∃ bst : Bool, t = .bool bst ∧ bst = (op == 0 && (ar == 0 && da == 0)) ∧ w9 = wq)
      case first =>
        rcases Bool.eq_false_or_eq_true (op == 0) with h1 | h1
        · rcases Bool.eq_false_or_eq_true (ar == 0) with h2 | h2
          · rcases Bool.eq_false_or_eq_true (da == 0) with h3 | h3
            · go_wp2
              go_meet
              case rel => exact ⟨_, rfl, by simp [h1, h2, h3], rfl⟩
            · go_wp2
              go_meet
              case rel => exact ⟨_, rfl, by simp [h1, h2, h3], rfl⟩
          · go_wp2
            go_meet
            case rel => exact ⟨_, rfl, by simp [h1, h2], rfl⟩
        · go_wp2
          go_meet
          case rel => exact ⟨_, rfl, by simp [h1], rfl⟩
      case rest =>
        obtain ⟨bst, rfl, hbst, hwq9⟩ := hcut
        obtain rfl := hwq9
        replace hbst := Mr.hid hbst
        clear y0 y1 y2 y3
        go_upto_if 72 with fail
        go_cut [8] (fun s8 wq => s8 = .int .i64 (K : Int) ∧ Below w9.heap.size w9 wq)
        case first =>
          by_cases hst : (⟨th, op, ar, da⟩ : Mv) = stp th
          · have hS0 := hstep.1 hst
            have hKq : Hid (K = S) := hKS.2 hS0
            have e : op = 0 ∧ ar = 0 ∧ da = 0 := by unfold stp at hst; injection hst with h1 h2 h3 h4; exact ⟨h2, h3, h4⟩
            obtain ⟨rfl, rfl, rfl⟩ := e
            have kt : bst = true := hbst.out
            subst kt
            clear hbst
            clear hst hstep hKS hnext hLA
            go_upto_region 11 with fail
            go_loopg [8] (S - 1) (fun gk s8 wr => ∃ q : Nat, s8 = .int .i64 (q : Int) ∧ 1 ≤ q ∧ q + gk = S ∧ Below w9.heap.size w9 wr)
            case atStart => exact ⟨1, rfl, by omega, by omega, Below.refl _ _⟩
            case round =>
              obtain ⟨q, rfl, hq1, hqk, hBq⟩ := hrel
              have hiqn : i + S ≤ n := by have := hKq.out; omega
              have hMq := hMr.out wr (BB9.out.trans (hBq.mono BB9.out.size))
              obtain ⟨g2, o2, e2, hg2, hc2⟩ := hMq.2.resolve_left hmne.out
              cases e2
              have hbq : wr.heap[b9]? = some (.cells #[.int .i64 th, .int .i64 0, .int .i64 0, .int .i64 0] 42 (0, 0)) := (hBq.block _ hl9).trans hb9.out
              have v0' := cell_blk hbq 0
              have v1' := cell_blk hbq 1
              have v2' := cell_blk hbq 2
              have v3' := cell_blk hbq 3
              have ly := (Array.getElem?_eq_some_iff.1 hbq).1
              have hwq : IntKind.i64.wrap ((i : Int) + (q : Int)) = (i : Int) + (q : Int) := i64x _ (by omega) (by omega)
              clear hbq
              have hqk' := Mr.hid hqk
              by_cases hqS : q < S
              · have hel := hSat.out q hqS
                rw [hidx.out q] at hel
                obtain ⟨f0, f1, f2, f3⟩ := hc2 (i + q) (by have := hln.out; omega)
                rw [hel] at f0 f1 f2 f3
                simp only [Option.getD_some, stp] at f0 f1 f2 f3
                have hwq1 : IntKind.i64.wrap ((q : Int) + 1) = (q : Int) + 1 := i64x _ (by omega) (by omega)
                have hlI2 : (i : Int) + (q : Int) < (n : Int) := by omega
                have dq : decide ((i : Int) + (q : Int) < (n : Int)) = true := by simpa using hlI2
                have hlN : i + q < n := by omega
                have dqn : decide (i + q < n) = true := by simpa using hlN
                replace hBq := Mr.hid hBq
                clear hqk hc2 hel hMq
                go_upto_region 11 with fail
                go_quiet (fail)
                replace hBq := Mr.hid (hBq.out.trans ⟨rfl, rfl, rfl, Nat.le_refl _, fun _ _ => rfl⟩ : Below w9.heap.size w9 (wr.drewN nq))
                clear v0' v1' v2' v3' ly
                generalize wr.drewN nq = w16 at *
                clear f0 f1 f2 f3 hg2
                go_wp2
                go_roundg (gk - 1)
                case measure => have := hqk'.out; omega
                case rel => exact ⟨q + 1, by simp, by omega, by have := hqk'.out; omega, hBq.out⟩
              · have hqe : q = S := by omega
                by_cases hend : i + q < n
                · have hli2 : i + q < ms.length := by have := hln.out; omega
                  obtain ⟨m', hm'⟩ : ∃ m', ms[i + q]? = some m' := ⟨_, List.getElem?_eq_getElem hli2⟩
                  have hne' : m' ≠ stp th := hSen.out m' (by rw [← hqe, hidx.out q]; exact hm')
                  obtain ⟨f0, f1, f2, f3⟩ := hc2 (i + q) hli2
                  rw [hm'] at f0 f1 f2 f3
                  simp only [Option.getD_some] at f0 f1 f2 f3
                  obtain ⟨t', p', r', d'⟩ := m'
                  dsimp only at f0 f1 f2 f3
                  have hlI2 : (i : Int) + (q : Int) < (n : Int) := by omega
                  have dq : decide ((i : Int) + (q : Int) < (n : Int)) = true := by simpa using hlI2
                  have dqn : decide (i + q < n) = true := by simpa using hend
                  have hKe : Hid ((K : Int) = (q : Int)) := by show _ = _; have := hKq.out; omega
                  replace hBq := Mr.hid hBq
                  have hcase : ((t' == th) = false) ∨ ((t' == th) = true ∧ (p' == 0) = false) ∨ ((t' == th) = true ∧ (p' == 0) = true ∧ (r' == 0) = false) ∨ ((t' == th) = true ∧ (p' == 0) = true ∧ (r' == 0) = true ∧ (d' == 0) = false) := by
                    by_cases a1 : t' = th
                    · by_cases a2 : p' = 0
                      · by_cases a3 : r' = 0
                        · by_cases a4 : d' = 0
                          · exact absurd (by unfold stp; rw [a1, a2, a3, a4]) hne'
                          · simp [a1, a2, a3, a4]
                        · simp [a1, a2, a3]
                      · simp [a1, a2]
                    · simp [a1]
                  clear hqk hc2 hm' hne' hMq hqe hqS
                  rcases hcase with w1' | ⟨w1', w2'⟩ | ⟨w1', w2', w3'⟩ | ⟨w1', w2', w3', w4'⟩
                  · go_upto_region 11 with fail
                    go_quiet (fail)
                    replace hBq := Mr.hid (hBq.out.trans ⟨rfl, rfl, rfl, Nat.le_refl _, fun _ _ => rfl⟩ : Below w9.heap.size w9 (wr.drewN nq))
                    clear v0' v1' v2' v3' ly
                    generalize wr.drewN nq = w16 at *
                    clear f0 f1 f2 f3 hg2
                    go_wp2
                    go_meet
                    case rel => exact ⟨by rw [hKe.out], hBq.out⟩
                  · go_upto_region 11 with fail
                    go_quiet (fail)
                    replace hBq := Mr.hid (hBq.out.trans ⟨rfl, rfl, rfl, Nat.le_refl _, fun _ _ => rfl⟩ : Below w9.heap.size w9 (wr.drewN nq))
                    clear v0' v1' v2' v3' ly
                    generalize wr.drewN nq = w16 at *
                    clear f0 f1 f2 f3 hg2
                    go_wp2
                    go_meet
                    case rel => exact ⟨by rw [hKe.out], hBq.out⟩
                  · go_upto_region 11 with fail
                    go_quiet (fail)
                    replace hBq := Mr.hid (hBq.out.trans ⟨rfl, rfl, rfl, Nat.le_refl _, fun _ _ => rfl⟩ : Below w9.heap.size w9 (wr.drewN nq))
                    clear v0' v1' v2' v3' ly
                    generalize wr.drewN nq = w16 at *
                    clear f0 f1 f2 f3 hg2
                    go_wp2
                    go_meet
                    case rel => exact ⟨by rw [hKe.out], hBq.out⟩
                  · go_upto_region 11 with fail
                    go_quiet (fail)
                    replace hBq := Mr.hid (hBq.out.trans ⟨rfl, rfl, rfl, Nat.le_refl _, fun _ _ => rfl⟩ : Below w9.heap.size w9 (wr.drewN nq))
                    clear v0' v1' v2' v3' ly
                    generalize wr.drewN nq = w16 at *
                    clear f0 f1 f2 f3 hg2
                    go_wp2
                    go_meet
                    case rel => exact ⟨by rw [hKe.out], hBq.out⟩
                · have hlI2 : ¬ (i : Int) + (q : Int) < (n : Int) := by omega
                  have dq : decide ((i : Int) + (q : Int) < (n : Int)) = false := decide_eq_false hlI2
                  have dqn : decide (i + q < n) = false := decide_eq_false hend
                  have hKe : Hid ((K : Int) = (q : Int)) := by show _ = _; have := hKq.out; omega
                  replace hBq := Mr.hid hBq
                  clear hqk hc2 hMq hqe hqS
                  go_upto_region 11 with fail
                  go_quiet (fail)
                  replace hBq := Mr.hid (hBq.out.trans ⟨rfl, rfl, rfl, Nat.le_refl _, fun _ _ => rfl⟩ : Below w9.heap.size w9 (wr.drewN nq))
                  clear v0' v1' v2' v3' ly
                  generalize wr.drewN nq = w16 at *
                  clear hg2
                  go_wp2
                  go_meet
                  case rel => exact ⟨by rw [hKe.out], hBq.out⟩
          · have hS0 : S = 0 := by by_cases h : S = 0; · exact h
                                   · exact absurd (hstep.2 h) hst
            have hKq : Hid (K = 1) := hKS.1 hS0
            have kt : (op == 0 && (ar == 0 && da == 0)) = false := by
              cases hh : (op == 0 && (ar == 0 && da == 0)) with
              | false => rfl
              | true =>
                simp only [Bool.and_eq_true, beq_iff_eq] at hh
                exact absurd (by unfold stp; rw [hh.1, hh.2.1, hh.2.2]) hst
            have kb : bst = false := by rw [hbst.out]; exact kt
            subst kb
            clear kt hst hstep hKS hbst
            go_wp2
            go_meet
            case rel => exact ⟨by rw [hKq.out]; rfl, Below.refl _ _⟩
        case rest =>
          obtain ⟨rfl, hBc⟩ := hcut
          have BBc : Below w.heap.size w wc := BB9.out.trans (hBc.mono BB9.out.size)
          have hWc := hW9.out.below hBc
          have hbc9 : wc.heap[b9]? = some (.cells #[.int .i64 th, .int .i64 op, .int .i64 ar, .int .i64 da] 42 (0, 0)) := (hBc.block _ hl9).trans hb9.out
          have v0' := cell_blk hbc9 0
          have v1' := cell_blk hbc9 1
          have v2' := cell_blk hbc9 2
          have v3' := cell_blk hbc9 3
          have ly := (Array.getElem?_eq_some_iff.1 hbc9).1
          have LA := Mr.hid (hLA.out wc)
          replace BBc := Mr.hid BBc
          replace hWc := Mr.hid hWc
          have hwK : IntKind.i64.wrap ((i : Int) + (K : Int)) = (i : Int) + (K : Int) := i64x _ (by omega) (by omega)
          generalize lnT ⟨th, op, ar, da⟩ K = LT at *
          clear hbc9 hBc hW9 hb9 hSat hSen hidx hstep hKS hMr hdr hbst BB9 hLA
          generalize wc = w17 at *
          go_wp2_with (go_at_call 17; refine LA.out.mono ?_; clear LA)
          rintro e w18 ⟨rfl, B18⟩
          have BB18 : Hid (Below w.heap.size w w18) := BBc.out.trans (B18.mono BBc.out.size)
          have hW18 := Mr.hid (hWc.out.below B18)
          clear B18 hWc BBc v0' v1' v2' v3' ly
          go_wp2_with (at_builtin; refine wpList_mb_str _ rfl _ _ 46 9 rfl w.heap.size 5 i0 Tryz.underlying46 Tryz.underlying9 hi0 hz0 hz1 hz2 _ _ rfl hW18.out LT rfl (by omega) BB18.out.size ?_)
          intro v19 w19 hW19 hB19
          have BB19 : Hid (Below w.heap.size w w19) := BB18.out.trans hB19
          obtain ⟨g19, c19, hv19, hg19, hc19⟩ := hW19.form
          subst hv19
          have hl19 : (out ++ LT).length ≤ 30000421 := by rw [List.length_append]; omega
          replace hW19 := Mr.hid hW19
          clear hB19 hW18 BB18 hc19
          go_wp2_with (at_builtin; refine wpList_mb _ rfl _ _ 46 rfl w.heap.size 5 i0 Tryz.underlying46 hi0 hz0 hz1 hz2 _ _ rfl (hW19.out.below ((Below.refl _ _).alloc (Nat.le_refl _) _)) ⟨w19.heap.size, 0, none⟩ 1 1 [10] rfl rfl (bc_news1 _ _ _ rfl rfl) (by show _ + 1 ≤ _; omega) (by simp; have := BB19.out.size; omega) ?_)
          intro v20 w20 hW20 hB20
          have BB20 : Hid (Below w.heap.size w w20) := (BB19.out.alloc BB19.out.size _).trans hB20
          replace hW20 := Mr.hid hW20
          clear hB20 hW19 BB19
          go_wp2
          go_roundg (gk - K)
          case measure => have := hi'.out; omega
          case rel => exact ⟨i + K, out ++ LT ++ [10], v20, rfl, by simp, by have := hi'.out; omega, by rw [List.append_assoc]; exact hW20.out, hnext.out, BB20.out⟩
    · have hie : i = n := by omega
      have hx : out = prints [c0, c1, c2, c3, c4, c5, c6] ms := by
        have e : ms.drop i = [] := List.drop_eq_nil_of_le (by have := hln.out; omega)
        rw [e] at hout
        simpa [lines, linesF] using hout
      have dl : decide ((i : Int) < (n : Int)) = false := decide_eq_false (by omega)
      have dn : decide (i < n) = false := decide_eq_false hlt
      have dn0 : ¬ i < n := hlt
      have hq6 : ms.length ≤ 65536 := by have := hln.out; omega
      have hcb9 : Hid (Wc.cfgB c0 c1 c2 c3 c4 c5 c6 = true) := hcf
      replace hBr := Mr.hid hBr
      by_cases hbig : (prints [c0, c1, c2, c3, c4, c5, c6] ms).length ≤ 1048576
      · have hT : prT (Wc.cfgB c0 c1 c2 c3 c4 c5 c6) [c0, c1, c2, c3, c4, c5, c6] ms = ⟨out.toArray⟩ := by unfold prT; rw [if_pos hcf, if_pos hq6, if_pos hbig, hx]
        have hE : prE (Wc.cfgB c0 c1 c2 c3 c4 c5 c6) [c0, c1, c2, c3, c4, c5, c6] ms = 0 := by unfold prE; rw [if_pos hcf, if_pos hq6, if_pos hbig]
        rw [← hx] at hbig
        have d3 : ¬ (1048576 : Int) < (out.length : Int) := by omega
        have d4 : decide ((1048576 : Int) < (out.length : Int)) = false := decide_eq_false d3
        have d5 : ¬ 1048576 < out.length := by omega
        have hcv := run_convert_bytes_back (P := Tryz.prog) wr 46 9 5 ⟨gT, 0, none⟩ capT out Tryz.underlying46 Tryz.underlying5 Tryz.underlying9 (fun j hj => by rw [add0]; exact hcT j _ (List.getElem?_eq_getElem hj))
        have hres := Mr.hid (And.intro hT hE)
        generalize (⟨out.toArray⟩ : ByteArray) = Z at *
        clear hT hE hx hout hW hcT hi hie hcf hq6
        go_wp2
        go_ret2
        refine ⟨?_, hBr.out⟩
        rw [hres.out.1, hres.out.2]
        rfl
      · have hT : prT (Wc.cfgB c0 c1 c2 c3 c4 c5 c6) [c0, c1, c2, c3, c4, c5, c6] ms = ⟨#[]⟩ := by unfold prT; rw [if_pos hcf, if_pos hq6, if_neg hbig]
        have hE : prE (Wc.cfgB c0 c1 c2 c3 c4 c5 c6) [c0, c1, c2, c3, c4, c5, c6] ms = 3 := by unfold prE; rw [if_pos hcf, if_pos hq6, if_neg hbig]
        rw [← hx] at hbig
        have d3 : (1048576 : Int) < (out.length : Int) := by omega
        have d4 : decide ((1048576 : Int) < (out.length : Int)) = true := decide_eq_true d3
        have d5 : 1048576 < out.length := by omega
        have hres := Mr.hid (And.intro hT hE)
        clear hT hE hx hout hW hcT hi hie hcf hq6
        go_wp2
        go_ret2
        refine ⟨?_, hBr.out⟩
        rw [hres.out.1, hres.out.2]
        rfl
end Go.Proofs.YtcomelbphdjnnaaGreatDoor.Sc
