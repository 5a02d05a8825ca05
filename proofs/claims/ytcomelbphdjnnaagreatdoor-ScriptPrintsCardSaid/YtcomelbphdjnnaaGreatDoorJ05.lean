import Derived.Test.YtcomelbphdjnnaaGreatDoorJ01
import Derived.Test.YtcomelbphdjnnaaGreatDoorJ02
import Derived.Test.YtcomelbphdjnnaaGreatDoorJ04
import Derived.Deep.RegionHeld3
import Derived.Deep.RegionWith
import Derived.BigQuiet
/-
  SCRIPT: callOf, callNamed, Word, Op.
-/
namespace Go.Proofs.YtcomelbphdjnnaaGreatDoor.Sc
open Go.RowKit
set_option linter.unusedVariables false
set_option linter.unusedSimpArgs false
theorem new_at (W : World) (o : Obj) (k : Nat) (hk : k = W.heap.size) : (W.alloc o).heap[k]? = some o := by subst hk; exact heap_alloc_new W o
theorem cell_blk {W : World} {b : Nat} {cs : Array Value} {t : TypeId} {fr : Nat × Nat} (h : W.heap[b]? = some (.cells cs t fr)) (k : Nat) : W.cell? ⟨b, k, none⟩ = cs[k]? := by
  unfold World.cell?
  simp only [h]
  rfl
theorem i64x (x : Int) (h1 : -9223372036854775808 ≤ x) (h2 : x ≤ 9223372036854775807) : IntKind.i64.wrap x = x := by
  simp [IntKind.wrap, IntKind.signed, IntKind.bits]; omega
theorem op_ne (j k : Nat) (hj : j < k) (hk : k < 21) : (opA j == opA k) = false := by
  have := all_below (P := fun k => (List.range k).all fun j => !(opA j == opA k)) (n := 21) (by decide +kernel) hk
  have := all_below (P := fun j => !(opA j == opA k)) this hj
  simpa using this
theorem wd_ne (j k : Nat) (hj : j < k) (hk : k < 21) : ((wdA j).toList == (wdA k).toList) = false := by
  have := all_below (P := fun k => (List.range k).all fun j => !((wdA j).toList == (wdA k).toList)) (n := 21) (by decide +kernel) hk
  have := all_below (P := fun j => !((wdA j).toList == (wdA k).toList)) this hj
  simpa using this
set_option maxHeartbeats 8000000 in
theorem callOf_some (k : Nat) (w : World) (hk : k < 21) :
    Calls Tryz.prog 61 #[.int .i64 (opA k)] w fun e w' => e = .returned (.tuple #[.agg #[.int .i64 (opA k), .string (wdA k), .int .i64 (tkA k)], .bool true]) ∧ Below w.heap.size w w' := by
  have hne := fun (j : Nat) (hj : j < k) => op_ne j k hj hk
  obtain ⟨xo, hxo⟩ : ∃ x, opA k = x := ⟨_, rfl⟩
  obtain ⟨xw, hxw⟩ : ∃ x, wdA k = x := ⟨_, rfl⟩
  obtain ⟨xt, hxt⟩ : ∃ x, tkA k = x := ⟨_, rfl⟩
  rw [hxo, hxw, hxt]
  rw [hxo] at hne
  have hxx : Hid (opA k = xo ∧ wdA k = xw ∧ tkA k = xt) := ⟨hxo, hxw, hxt⟩
  clear hxo hxw hxt
  replace hne := Mr.hid hne
  go_enter Tryz.func61, Tryz.ntmps61
  go_upto_region 2 with (go_at_call 75; refine (callWords_any _).mono ?_; rintro e w1 ⟨g, rfl, B0, T0, hg⟩)
  have hs : w.heap.size < w1.heap.size := Nat.lt_of_lt_of_le (by simp) B0.size
  have hb : w1.heap[w.heap.size]? = some (.cells #[.int .i64 0, .string ⟨#[]⟩, .int .i64 0] 116 (0, 0)) := (B0.block _ (by simp)).trans (new_at _ _ _ rfl)
  have B1 : Below w.heap.size w w1 := ((Below.refl _ _).alloc (Nat.le_refl _) _).trans (B0.mono (by simp))
  replace T0 := Mr.hid T0
  replace B1 := Mr.hid B1
  replace hb := Mr.hid hb
  clear B0 hg
  go_loopg [8] (k + 1) (fun gk s8 wr => ∃ i : Nat, s8 = .int .i64 (i : Int) ∧ i + gk = k + 1 ∧ i ≤ k ∧ Below w1.heap.size w1 wr)
  case atStart => exact ⟨0, rfl, by omega, by omega, Below.refl _ _⟩
  case round =>
    obtain ⟨i, rfl, hi, hik, B⟩ := hrel
    have T1 := T0.out.below B
    have hs2 : w.heap.size < wr.heap.size := Nat.lt_of_lt_of_le hs B.size
    have hb2 : wr.heap[w.heap.size]? = some (.cells #[.int .i64 0, .string ⟨#[]⟩, .int .i64 0] 116 (0, 0)) := (B.block _ hs).trans hb.out
    have c0 := T1.op i (by omega)
    have c1 := T1.wd i (by omega)
    have c2 := T1.tk i (by omega)
    have gl := T1.lt
    have r0 := cell_blk hb2 0
    have r1 := cell_blk hb2 1
    have r2 := cell_blk hb2 2
    have rf : ∀ o, wr.frozen? ⟨w.heap.size, o, none⟩ = false := fun o => by simp [World.frozen?, hb2]
    have dl : decide ((i : Int) < 21) = true := by simp; omega
    have hlI : (i : Int) < 21 := by omega
    have hw1 : IntKind.i64.wrap ((i : Int) + 1) = (i : Int) + 1 := i64x _ (by omega) (by omega)
    have BB : Hid (Below w.heap.size w wr) := B1.out.trans (B.mono (Nat.le_of_lt hs))
    replace B := Mr.hid B
    clear T1 hb2
    have hik' := Mr.hid hik
    by_cases he : i = k
    · rw [he, hxx.out.1] at c0
      rw [he, hxx.out.2.1] at c1
      rw [he, hxx.out.2.2] at c2
      simp only [he] at hlI dl ⊢
      clear he hi hik
      have q1 : (xo == xo) = true := by simp
      go_wp2
      refine bodyPost_ret (v := .tuple #[.agg #[.int .i64 xo, .string xw, .int .i64 xt], .bool true]) (by simp [results, Tryz.results61, go_sem, *]) rfl ⟨rfl, ?_⟩
      exact (((BB.out.setCell (p := ⟨w.heap.size, 0, none⟩) (Nat.le_refl _) _).setCell (p := ⟨w.heap.size, 1, none⟩) (Nat.le_refl _) _).setCell (p := ⟨w.heap.size, 2, none⟩) (Nat.le_refl _) _).alloc (by simp; omega) _
    · have e1 := hne.out i (by omega)
      have hi' : Hid (i + gk = k + 1 ∧ i + 1 ≤ k) := ⟨hi, by omega⟩
      clear he hik hi
      generalize opA i = yo at *
      generalize wdA i = yw at *
      generalize tkA i = yt at *
      go_wp2
      go_roundg (gk - 1)
      case measure => obtain ⟨_, _⟩ := hi'.out; omega
      case rel => exact ⟨i + 1, by simp, by obtain ⟨_, _⟩ := hi'.out; omega, by obtain ⟨_, _⟩ := hi'.out; omega, B.out.alloc B.out.size _⟩
set_option maxHeartbeats 8000000 in
theorem callNamed_some (k : Nat) (w : World) (hk : k < 21) :
    Calls Tryz.prog 98 #[.string (wdA k)] w fun e w' => e = .returned (.tuple #[.agg #[.int .i64 (opA k), .string (wdA k), .int .i64 (tkA k)], .bool true]) ∧ Below w.heap.size w w' := by
  have hne := fun (j : Nat) (hj : j < k) => wd_ne j k hj hk
  obtain ⟨xo, hxo⟩ : ∃ x, opA k = x := ⟨_, rfl⟩
  obtain ⟨xw, hxw⟩ : ∃ x, wdA k = x := ⟨_, rfl⟩
  obtain ⟨xt, hxt⟩ : ∃ x, tkA k = x := ⟨_, rfl⟩
  rw [hxo, hxw, hxt]
  rw [hxw] at hne
  have hxx : Hid (opA k = xo ∧ wdA k = xw ∧ tkA k = xt) := ⟨hxo, hxw, hxt⟩
  clear hxo hxw hxt
  replace hne := Mr.hid hne
  go_enter Tryz.func98, Tryz.ntmps98
  go_upto_region 2 with (go_at_call 75; refine (callWords_any _).mono ?_; rintro e w1 ⟨g, rfl, B0, T0, hg⟩)
  have hs : w.heap.size < w1.heap.size := Nat.lt_of_lt_of_le (by simp) B0.size
  have hb : w1.heap[w.heap.size]? = some (.cells #[.int .i64 0, .string ⟨#[]⟩, .int .i64 0] 116 (0, 0)) := (B0.block _ (by simp)).trans (new_at _ _ _ rfl)
  have B1 : Below w.heap.size w w1 := ((Below.refl _ _).alloc (Nat.le_refl _) _).trans (B0.mono (by simp))
  replace T0 := Mr.hid T0
  replace B1 := Mr.hid B1
  replace hb := Mr.hid hb
  clear B0 hg
  go_loopg [8] (k + 1) (fun gk s8 wr => ∃ i : Nat, s8 = .int .i64 (i : Int) ∧ i + gk = k + 1 ∧ i ≤ k ∧ Below w1.heap.size w1 wr)
  case atStart => exact ⟨0, rfl, by omega, by omega, Below.refl _ _⟩
  case round =>
    obtain ⟨i, rfl, hi, hik, B⟩ := hrel
    have T1 := T0.out.below B
    have hs2 : w.heap.size < wr.heap.size := Nat.lt_of_lt_of_le hs B.size
    have hb2 : wr.heap[w.heap.size]? = some (.cells #[.int .i64 0, .string ⟨#[]⟩, .int .i64 0] 116 (0, 0)) := (B.block _ hs).trans hb.out
    have c0 := T1.op i (by omega)
    have c1 := T1.wd i (by omega)
    have c2 := T1.tk i (by omega)
    have gl := T1.lt
    have r0 := cell_blk hb2 0
    have r1 := cell_blk hb2 1
    have r2 := cell_blk hb2 2
    have rf : ∀ o, wr.frozen? ⟨w.heap.size, o, none⟩ = false := fun o => by simp [World.frozen?, hb2]
    have dl : decide ((i : Int) < 21) = true := by simp; omega
    have hlI : (i : Int) < 21 := by omega
    have hw1 : IntKind.i64.wrap ((i : Int) + 1) = (i : Int) + 1 := i64x _ (by omega) (by omega)
    have BB : Hid (Below w.heap.size w wr) := B1.out.trans (B.mono (Nat.le_of_lt hs))
    replace B := Mr.hid B
    clear T1 hb2
    have hik' := Mr.hid hik
    by_cases he : i = k
    · rw [he, hxx.out.1] at c0
      rw [he, hxx.out.2.1] at c1
      rw [he, hxx.out.2.2] at c2
      simp only [he] at hlI dl ⊢
      clear he hi hik
      have q1 : (xw.toList == xw.toList) = true := by simp
      go_wp2
      refine bodyPost_ret (v := .tuple #[.agg #[.int .i64 xo, .string xw, .int .i64 xt], .bool true]) (by simp [results, Tryz.results98, go_sem, *]) rfl ⟨rfl, ?_⟩
      exact (((BB.out.setCell (p := ⟨w.heap.size, 0, none⟩) (Nat.le_refl _) _).setCell (p := ⟨w.heap.size, 1, none⟩) (Nat.le_refl _) _).setCell (p := ⟨w.heap.size, 2, none⟩) (Nat.le_refl _) _).alloc (by simp; omega) _
    · have e1 := hne.out i (by omega)
      have hi' : Hid (i + gk = k + 1 ∧ i + 1 ≤ k) := ⟨hi, by omega⟩
      clear he hik hi
      generalize opA i = yo at *
      generalize wdA i = yw at *
      generalize tkA i = yt at *
      go_wp2
      go_roundg (gk - 1)
      case measure => obtain ⟨_, _⟩ := hi'.out; omega
      case rel => exact ⟨i + 1, by simp, by obtain ⟨_, _⟩ := hi'.out; omega, by obtain ⟨_, _⟩ := hi'.out; omega, B.out.alloc B.out.size _⟩
set_option maxHeartbeats 8000000 in
theorem callOf_none (op : Int) (w : World) (hne : ∀ j, j < 21 → (opA j == op) = false) :
    Calls Tryz.prog 61 #[.int .i64 op] w fun e w' => e = .returned (.tuple #[.agg #[.int .i64 0, .string ⟨#[]⟩, .int .i64 0], .bool false]) ∧ Below w.heap.size w w' := by
  replace hne := Mr.hid hne
  go_enter Tryz.func61, Tryz.ntmps61
  go_upto_region 2 with (go_at_call 75; refine (callWords_any _).mono ?_; rintro e w1 ⟨g, rfl, B0, T0, hg⟩)
  have hs : w.heap.size < w1.heap.size := Nat.lt_of_lt_of_le (by simp) B0.size
  have hb : w1.heap[w.heap.size]? = some (.cells #[.int .i64 0, .string ⟨#[]⟩, .int .i64 0] 116 (0, 0)) := (B0.block _ (by simp)).trans (new_at _ _ _ rfl)
  have B1 : Below w.heap.size w w1 := ((Below.refl _ _).alloc (Nat.le_refl _) _).trans (B0.mono (by simp))
  replace T0 := Mr.hid T0
  replace B1 := Mr.hid B1
  replace hb := Mr.hid hb
  clear B0 hg
  go_loopg [8] 21 (fun gk s8 wr => ∃ i : Nat, s8 = .int .i64 (i : Int) ∧ i + gk = 21 ∧ Below w1.heap.size w1 wr)
  case atStart => exact ⟨0, rfl, by omega, Below.refl _ _⟩
  case round =>
    obtain ⟨i, rfl, hi, B⟩ := hrel
    have BB : Hid (Below w.heap.size w wr) := B1.out.trans (B.mono (Nat.le_of_lt hs))
    have hs2 : w.heap.size < wr.heap.size := Nat.lt_of_lt_of_le hs B.size
    by_cases hlt : i < 21
    · have T1 := T0.out.below B
      have c0 := T1.op i hlt
      have c1 := T1.wd i hlt
      have c2 := T1.tk i hlt
      have gl := T1.lt
      have dl : decide ((i : Int) < 21) = true := by simp; omega
      have hlI : (i : Int) < 21 := by omega
      have hw1 : IntKind.i64.wrap ((i : Int) + 1) = (i : Int) + 1 := i64x _ (by omega) (by omega)
      have e1 := hne.out i hlt
      have hi' : Hid (i + gk = 21 ∧ i < 21) := ⟨hi, hlt⟩
      replace B := Mr.hid B
      clear T1 hi hlt
      generalize opA i = yo at *
      generalize wdA i = yw at *
      generalize tkA i = yt at *
      go_wp2
      go_roundg (gk - 1)
      case measure => obtain ⟨_, _⟩ := hi'.out; omega
      case rel => exact ⟨i + 1, by simp, by obtain ⟨_, _⟩ := hi'.out; omega, B.out.alloc B.out.size _⟩
    · have hb2 : wr.heap[w.heap.size]? = some (.cells #[.int .i64 0, .string ⟨#[]⟩, .int .i64 0] 116 (0, 0)) := (B.block _ hs).trans hb.out
      have r0 := cell_blk hb2 0
      have r1 := cell_blk hb2 1
      have r2 := cell_blk hb2 2
      have rf : ∀ o, wr.frozen? ⟨w.heap.size, o, none⟩ = false := fun o => by simp [World.frozen?, hb2]
      have dl : decide ((i : Int) < 21) = false := decide_eq_false (by omega)
      replace B := Mr.hid B
      clear hb2 hlt hi
      go_wp2
      refine bodyPost_ret (v := .tuple #[.agg #[.int .i64 0, .string ⟨#[]⟩, .int .i64 0], .bool false]) (by simp [results, Tryz.results61, go_sem, *]) rfl ⟨rfl, ?_⟩
      exact ((BB.out.setCell (p := ⟨w.heap.size, 0, none⟩) (Nat.le_refl _) _).setCell (p := ⟨w.heap.size, 1, none⟩) (Nat.le_refl _) _).setCell (p := ⟨w.heap.size, 2, none⟩) (Nat.le_refl _) _
set_option maxHeartbeats 8000000 in
theorem callNamed_none (s : ByteArray) (w : World) (hne : ∀ j, j < 21 → ((wdA j).toList == s.toList) = false) :
    Calls Tryz.prog 98 #[.string s] w fun e w' => e = .returned (.tuple #[.agg #[.int .i64 0, .string ⟨#[]⟩, .int .i64 0], .bool false]) ∧ Below w.heap.size w w' := by
  replace hne := Mr.hid hne
  go_enter Tryz.func98, Tryz.ntmps98
  go_upto_region 2 with (go_at_call 75; refine (callWords_any _).mono ?_; rintro e w1 ⟨g, rfl, B0, T0, hg⟩)
  have hs : w.heap.size < w1.heap.size := Nat.lt_of_lt_of_le (by simp) B0.size
  have hb : w1.heap[w.heap.size]? = some (.cells #[.int .i64 0, .string ⟨#[]⟩, .int .i64 0] 116 (0, 0)) := (B0.block _ (by simp)).trans (new_at _ _ _ rfl)
  have B1 : Below w.heap.size w w1 := ((Below.refl _ _).alloc (Nat.le_refl _) _).trans (B0.mono (by simp))
  replace T0 := Mr.hid T0
  replace B1 := Mr.hid B1
  replace hb := Mr.hid hb
  clear B0 hg
  go_loopg [8] 21 (fun gk s8 wr => ∃ i : Nat, s8 = .int .i64 (i : Int) ∧ i + gk = 21 ∧ Below w1.heap.size w1 wr)
  case atStart => exact ⟨0, rfl, by omega, Below.refl _ _⟩
  case round =>
    obtain ⟨i, rfl, hi, B⟩ := hrel
    have BB : Hid (Below w.heap.size w wr) := B1.out.trans (B.mono (Nat.le_of_lt hs))
    have hs2 : w.heap.size < wr.heap.size := Nat.lt_of_lt_of_le hs B.size
    by_cases hlt : i < 21
    · have T1 := T0.out.below B
      have c0 := T1.op i hlt
      have c1 := T1.wd i hlt
      have c2 := T1.tk i hlt
      have gl := T1.lt
      have dl : decide ((i : Int) < 21) = true := by simp; omega
      have hlI : (i : Int) < 21 := by omega
      have hw1 : IntKind.i64.wrap ((i : Int) + 1) = (i : Int) + 1 := i64x _ (by omega) (by omega)
      have e1 := hne.out i hlt
      have hi' : Hid (i + gk = 21 ∧ i < 21) := ⟨hi, hlt⟩
      replace B := Mr.hid B
      clear T1 hi hlt
      generalize opA i = yo at *
      generalize wdA i = yw at *
      generalize tkA i = yt at *
      go_wp2
      go_roundg (gk - 1)
      case measure => obtain ⟨_, _⟩ := hi'.out; omega
      case rel => exact ⟨i + 1, by simp, by obtain ⟨_, _⟩ := hi'.out; omega, B.out.alloc B.out.size _⟩
    · have hb2 : wr.heap[w.heap.size]? = some (.cells #[.int .i64 0, .string ⟨#[]⟩, .int .i64 0] 116 (0, 0)) := (B.block _ hs).trans hb.out
      have r0 := cell_blk hb2 0
      have r1 := cell_blk hb2 1
      have r2 := cell_blk hb2 2
      have rf : ∀ o, wr.frozen? ⟨w.heap.size, o, none⟩ = false := fun o => by simp [World.frozen?, hb2]
      have dl : decide ((i : Int) < 21) = false := decide_eq_false (by omega)
      replace B := Mr.hid B
      clear hb2 hlt hi
      go_wp2
      refine bodyPost_ret (v := .tuple #[.agg #[.int .i64 0, .string ⟨#[]⟩, .int .i64 0], .bool false]) (by simp [results, Tryz.results98, go_sem, *]) rfl ⟨rfl, ?_⟩
      exact ((BB.out.setCell (p := ⟨w.heap.size, 0, none⟩) (Nat.le_refl _) _).setCell (p := ⟨w.heap.size, 1, none⟩) (Nat.le_refl _) _).setCell (p := ⟨w.heap.size, 2, none⟩) (Nat.le_refl _) _
end Go.Proofs.YtcomelbphdjnnaaGreatDoor.Sc
/-
  SCRIPT: stepOf, tells, form, callLine, stepsAhead, nextLine.
-/
namespace Go.Proofs.YtcomelbphdjnnaaGreatDoor.Sc
open Go.RowKit Mr
set_option linter.unusedVariables false
set_option linter.unusedSimpArgs false
set_option maxRecDepth 100000
def mvV (m : Mv) : Value := .agg #[.int .i64 m.th, .int .i64 m.op, .int .i64 m.arg, .int .i64 m.data]
theorem stepOf_any (t : Int) (w : World) : Calls Tryz.prog 60 #[.int .i64 t] w fun e w' => e = .returned (.agg #[.int .i64 t, .int .i64 0, .int .i64 0, .int .i64 0]) ∧ Below w.heap.size w w' := by
  go_enter Tryz.func60, Tryz.ntmps60
  go_wp2
  refine bodyPost_ret (v := .agg #[.int .i64 t, .int .i64 0, .int .i64 0, .int .i64 0]) (by simp [results, Tryz.results60, go_sem]) rfl ⟨rfl, ?_⟩
  exact (Below.refl _ _).alloc (Nat.le_refl _) _
def telB (tk ar da : Int) : Bool := (decide (0 < tk) || ar == 0) && (decide (1 < tk) || da == 0)
set_option maxHeartbeats 2000000 in
theorem tells_any (o : Int) (wd : ByteArray) (tk th op ar da : Int) (w : World) :
    Calls Tryz.prog 62 #[.agg #[.int .i64 o, .string wd, .int .i64 tk], .agg #[.int .i64 th, .int .i64 op, .int .i64 ar, .int .i64 da]] w fun e w' => e = .returned (.bool (telB tk ar da)) ∧ Below w.heap.size w w' := by
  have key : ∀ (b1 b2 b3 b4 : Bool), decide (0 < tk) = b1 → (ar == 0) = b2 → decide (1 < tk) = b3 → (da == 0) = b4 → Calls Tryz.prog 62 #[.agg #[.int .i64 o, .string wd, .int .i64 tk], .agg #[.int .i64 th, .int .i64 op, .int .i64 ar, .int .i64 da]] w fun e w' => e = .returned (.bool ((b1 || b2) && (b3 || b4))) ∧ Below w.heap.size w w' := by
    intro b1 b2 b3 b4 e1 e2 e3 e4
    have e1' : decide (tk > 0) = b1 := e1
    have e3' : decide (tk > 1) = b3 := e3
    cases b1 <;> cases b2 <;> cases b3 <;> cases b4 <;> (
      go_enter Tryz.func62, Tryz.ntmps62
      go_wp2
      go_ret
      exact ⟨rfl, ((Below.refl _ _).alloc (Nat.le_refl _) _).alloc (by simp) _⟩)
  exact key _ _ _ _ rfl rfl rfl rfl
def fWd (wd : List UInt8) (tk : Nat) : List UInt8 := [48, 32] ++ wd ++ Lib.repeatL [32, 48] tk
set_option maxHeartbeats 2000000 in
theorem form_any (o : Int) (wd : ByteArray) (tk : Nat) (w : World) (h1 : wd.size ≤ 1000) (h2 : tk ≤ 1000) :
    Calls Tryz.prog 63 #[.agg #[.int .i64 o, .string wd, .int .i64 (tk : Int)]] w fun e w' => e = .returned (.string ⟨(fWd wd.data.toList tk).toArray⟩) ∧ Below w.heap.size w w' := by
  have R : Hid (∀ w, Calls Tryz.prog 76 #[.string ⟨#[32, 48]⟩, .int .i64 (tk : Int)] w fun e w' => e = .returned (.string ⟨(Lib.repeatL [32, 48] tk).toArray⟩) ∧ Below w.heap.size w w') := fun w => Tryz.strings_Repeat ⟨#[32, 48]⟩ tk w (by omega) (by show 2 * tk ≤ _; omega)
  have hl : (⟨(Lib.repeatL [32, 48] tk).toArray⟩ : ByteArray).size ≤ 2000 := by
    have : (Lib.repeatL [32, 48] tk).length = 2 * tk := by rw [Lib.repeatL_length]; simp; omega
    simp [ByteArray.size]; omega
  have hr : Hid ((⟨#[48, 32]⟩ ++ wd) ++ ⟨(Lib.repeatL [32, 48] tk).toArray⟩ = (⟨(fWd wd.data.toList tk).toArray⟩ : ByteArray)) := by
    apply ByteArray.ext
    simp [fWd]
  generalize (⟨(Lib.repeatL [32, 48] tk).toArray⟩ : ByteArray) = T at *
  have k1 : ¬ 9223372036854775807 < 2 + wd.size := by omega
  have k2 : ¬ 9223372036854775807 < 2 + wd.size + T.size := by omega
  go_enter Tryz.func63, Tryz.ntmps63
  go_upto_region 1 with fail
  go_region_held3 (fun W => W.cell? ⟨w.heap.size, 0, none⟩ = some (.int .i64 o) ∧ W.cell? ⟨w.heap.size, 1, none⟩ = some (.string wd) ∧ W.cell? ⟨w.heap.size, 2, none⟩ = some (.int .i64 (tk : Int))) (simp [*, go_sem])
    (first | (go_at_call 76; refine (R.out _).mono ?_; clear R; rintro e w3 ⟨rfl, B3⟩; have E3 : Below w.heap.size w w3 := (((Below.refl _ _).alloc (Nat.le_refl _) _).drew).trans (B3.mono (by simp)); have c0 := (B3.cell (p := ⟨w.heap.size, 0, none⟩) (by simp)); have c1 := (B3.cell (p := ⟨w.heap.size, 1, none⟩) (by simp)); have c2 := (B3.cell (p := ⟨w.heap.size, 2, none⟩) (by simp)); simp at c0 c1 c2; replace E3 := Mr.hid E3; clear B3))
  all_goals (go_wp2; go_ret; exact ⟨by rw [← hr.out]; rfl, E3.out⟩)
theorem rowOf_some {op : Int} {k : Nat} (h : rowOf op = some k) : k < 21 ∧ opA k = op := by
  unfold rowOf at h
  have h1 := List.find?_some h
  have h2 := List.mem_of_find?_eq_some h
  exact ⟨by simpa using h2, by simpa using h1⟩
theorem rowOf_none {op : Int} (h : rowOf op = none) : ∀ j, j < 21 → (opA j == op) = false := by
  unfold rowOf at h
  rw [List.find?_eq_none] at h
  intro j hj
  have := h j (List.mem_range.2 hj)
  simpa using this
theorem fCall_ok (k : Nat) (hk : k < 21) : zer (fCall k) ≤ 3 ∧ (∀ x ∈ fCall k, x.toNat < 128) ∧ (fCall k).length ≤ 1000 ∧ (wdA k).size ≤ 1000 ∧ 0 ≤ tkA k ∧ tkA k ≤ 2 := by
  have := all_below (P := fun k => decide (zer (fCall k) ≤ 3) && (fCall k).all (fun x => decide (x.toNat < 128)) && decide ((fCall k).length ≤ 1000) && decide ((wdA k).size ≤ 1000) && decide (0 ≤ tkA k) && decide (tkA k ≤ 2)) (n := 21) (by decide +kernel) hk
  simp only [Bool.and_eq_true, decide_eq_true_eq, List.all_eq_true] at this
  obtain ⟨⟨⟨⟨⟨h1, h2⟩, h3⟩, h4⟩, h5⟩, h6⟩ := this
  exact ⟨h1, h2, h3, h4, h5, h6⟩
theorem fOp_ok : zer fOp ≤ 4 ∧ (∀ x ∈ fOp, x.toNat < 128) ∧ fOp.length ≤ 1000 := by
  refine ⟨by decide, ?_, by decide⟩
  have : fOp.all (fun x => decide (x.toNat < 128)) = true := by decide
  intro x hx
  simpa using List.all_eq_true.1 this x hx
/-- Numbers that a call has just laid. -/
theorem left_new {w' : World} {g : Nat} (ns : List Int) {vs : Array Value} {t : TypeId} {z : Nat × Nat} (hw : w'.heap[g]? = some (.cells vs t z)) (hv : vs = (ns.map (Value.int .i64)).toArray) : Left w'.heap.size w' (some ⟨g, 0, none⟩) ns.length ns.length ns := by
  subst hv
  have hlt := (Array.getElem?_eq_some_iff.1 hw).1
  refine ⟨⟨rfl, ?_⟩, Nat.le_refl _, ?_⟩
  · by_cases h : ns = []
    · exact .inl h
    · refine .inr ⟨_, 0, rfl, hlt, fun j x hx => ?_⟩
      rw [Nat.zero_add, cell_blk hw]
      simp [hx]
  · rintro b off hb
    cases hb
    exact hlt
def MvB (m : Mv) : Prop := Bd m.th ∧ Bd m.op ∧ Bd m.arg ∧ Bd m.data
end Go.Proofs.YtcomelbphdjnnaaGreatDoor.Sc
