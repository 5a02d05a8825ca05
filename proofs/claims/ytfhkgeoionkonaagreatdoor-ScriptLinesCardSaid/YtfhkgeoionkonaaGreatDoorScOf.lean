/-
  SCRIPT: callOf, callNamed, Word, Op.
-/
import Derived.Test.YtfhkgeoionkonaaGreatDoorScTab
import Derived.Test.YtfhkgeoionkonaaGreatDoorMemRow
namespace Go.Proofs.YtfhkgeoionkonaaGreatDoor.Sc
open Go.RowKit
set_option linter.unusedVariables false
set_option linter.unusedSimpArgs false
theorem new_at (W : World) (o : Obj) (k : Nat) (hk : k = W.heap.size) : (W.alloc o).heap[k]? = some o := by subst hk; exact heap_alloc_new W o
theorem cell_blk {W : World} {b : Nat} {cs : Array Value} {t : TypeId} {fr : Nat × Nat} (h : W.heap[b]? = some (.cells cs t fr)) (k : Nat) : W.cell? ⟨b, k, none⟩ = cs[k]? := by
  unfold World.cell?
  simp only [h]
  rfl
theorem i64x (x : Int) (h1 : -9223372036854775808 ≤ x) (h2 : x ≤ 9223372036854775807) : IntKind.i64.wrap x = x := by
  simp [IntKind.wrap, IntKind.signed, IntKind.bits]; omega
theorem op_ne (j k : Nat) (hj : j < k) (hk : k < 21) : (opA j == opA k) = false := by
  have := all_below (P := fun k => (List.range k).all fun j => !(opA j == opA k)) (n := 21) (by decide +kernel) hk
  have := all_below (P := fun j => !(opA j == opA k)) this hj
  simpa using this
theorem wd_ne (j k : Nat) (hj : j < k) (hk : k < 21) : ((wdA j).toList == (wdA k).toList) = false := by
  have := all_below (P := fun k => (List.range k).all fun j => !((wdA j).toList == (wdA k).toList)) (n := 21) (by decide +kernel) hk
  have := all_below (P := fun j => !((wdA j).toList == (wdA k).toList)) this hj
  simpa using this
set_option maxHeartbeats 8000000 in
theorem callOf_some (k : Nat) (w : World) (hk : k < 21) :
    Calls Tryz.prog 63 #[.int .i64 (opA k)] w fun e w' => e = .returned (.tuple #[.agg #[.int .i64 (opA k), .string (wdA k), .int .i64 (tkA k)], .bool true]) ∧ Below w.heap.size w w' := by
  have hne := fun (j : Nat) (hj : j < k) => op_ne j k hj hk
  obtain ⟨xo, hxo⟩ : ∃ x, opA k = x := ⟨_, rfl⟩
  obtain ⟨xw, hxw⟩ : ∃ x, wdA k = x := ⟨_, rfl⟩
  obtain ⟨xt, hxt⟩ : ∃ x, tkA k = x := ⟨_, rfl⟩
  rw [hxo, hxw, hxt]
  rw [hxo] at hne
  have hxx : Hid (opA k = xo ∧ wdA k = xw ∧ tkA k = xt) := ⟨hxo, hxw, hxt⟩
  clear hxo hxw hxt
  replace hne := Mr.hid hne
  go_enter Tryz.func63, Tryz.ntmps63
  go_upto_region 2 with (go_at_call 77; refine (callWords_any _).mono ?_; rintro e w1 ⟨g, rfl, B0, T0, hg⟩)
  have hs : w.heap.size < w1.heap.size := Nat.lt_of_lt_of_le (by simp) B0.size
  have hb : w1.heap[w.heap.size]? = some (.cells #[.int .i64 0, .string ⟨#[]⟩, .int .i64 0] 125 (0, 0)) := (B0.block _ (by simp)).trans (new_at _ _ _ rfl)
  have B1 : Below w.heap.size w w1 := ((Below.refl _ _).alloc (Nat.le_refl _) _).trans (B0.mono (by simp))
  replace T0 := Mr.hid T0
  replace B1 := Mr.hid B1
  replace hb := Mr.hid hb
  clear B0 hg
  go_loopg [8] (k + 1) (fun gk s8 wr => ∃ i : Nat, s8 = .int .i64 (i : Int) ∧ i + gk = k + 1 ∧ i ≤ k ∧ Below w1.heap.size w1 wr)
  case atStart => exact ⟨0, rfl, by omega, by omega, Below.refl _ _⟩
  case round =>
    obtain ⟨i, rfl, hi, hik, B⟩ := hrel
    have T1 := T0.out.below B
    have hs2 : w.heap.size < wr.heap.size := Nat.lt_of_lt_of_le hs B.size
    have hb2 : wr.heap[w.heap.size]? = some (.cells #[.int .i64 0, .string ⟨#[]⟩, .int .i64 0] 125 (0, 0)) := (B.block _ hs).trans hb.out
    have c0 := T1.op i (by omega)
    have c1 := T1.wd i (by omega)
    have c2 := T1.tk i (by omega)
    have gl := T1.lt
    have r0 := cell_blk hb2 0
    have r1 := cell_blk hb2 1
    have r2 := cell_blk hb2 2
    have rf : ∀ o, wr.frozen? ⟨w.heap.size, o, none⟩ = false := fun o => by simp [World.frozen?, hb2]
    have dl : decide ((i : Int) < 21) = true := by simp; omega
    have hlI : (i : Int) < 21 := by omega
    have hw1 : IntKind.i64.wrap ((i : Int) + 1) = (i : Int) + 1 := i64x _ (by omega) (by omega)
    have BB : Hid (Below w.heap.size w wr) := B1.out.trans (B.mono (Nat.le_of_lt hs))
    replace B := Mr.hid B
    clear T1 hb2
    have hik' := Mr.hid hik
    by_cases he : i = k
    · rw [he, hxx.out.1] at c0
      rw [he, hxx.out.2.1] at c1
      rw [he, hxx.out.2.2] at c2
      simp only [he] at hlI dl ⊢
      clear he hi hik
      have q1 : (xo == xo) = true := by simp
      go_wp2
      refine bodyPost_ret (v := .tuple #[.agg #[.int .i64 xo, .string xw, .int .i64 xt], .bool true]) (by simp [results, Tryz.results63, go_sem, *]) rfl ⟨rfl, ?_⟩
      exact (((BB.out.setCell (p := ⟨w.heap.size, 0, none⟩) (Nat.le_refl _) _).setCell (p := ⟨w.heap.size, 1, none⟩) (Nat.le_refl _) _).setCell (p := ⟨w.heap.size, 2, none⟩) (Nat.le_refl _) _).alloc (by simp; omega) _
    · have e1 := hne.out i (by omega)
      have hi' : Hid (i + gk = k + 1 ∧ i + 1 ≤ k) := ⟨hi, by omega⟩
      clear he hik hi
      generalize opA i = yo at *
      generalize wdA i = yw at *
      generalize tkA i = yt at *
      go_wp2
      go_roundg (gk - 1)
      case measure => obtain ⟨_, _⟩ := hi'.out; omega
      case rel => exact ⟨i + 1, by simp, by obtain ⟨_, _⟩ := hi'.out; omega, by obtain ⟨_, _⟩ := hi'.out; omega, B.out.alloc B.out.size _⟩
set_option maxHeartbeats 8000000 in
theorem callNamed_some (k : Nat) (w : World) (hk : k < 21) :
    Calls Tryz.prog 84 #[.string (wdA k)] w fun e w' => e = .returned (.tuple #[.agg #[.int .i64 (opA k), .string (wdA k), .int .i64 (tkA k)], .bool true]) ∧ Below w.heap.size w w' := by
  have hne := fun (j : Nat) (hj : j < k) => wd_ne j k hj hk
  obtain ⟨xo, hxo⟩ : ∃ x, opA k = x := ⟨_, rfl⟩
  obtain ⟨xw, hxw⟩ : ∃ x, wdA k = x := ⟨_, rfl⟩
  obtain ⟨xt, hxt⟩ : ∃ x, tkA k = x := ⟨_, rfl⟩
  rw [hxo, hxw, hxt]
  rw [hxw] at hne
  have hxx : Hid (opA k = xo ∧ wdA k = xw ∧ tkA k = xt) := ⟨hxo, hxw, hxt⟩
  clear hxo hxw hxt
  replace hne := Mr.hid hne
  go_enter Tryz.func84, Tryz.ntmps84
  go_upto_region 2 with (go_at_call 77; refine (callWords_any _).mono ?_; rintro e w1 ⟨g, rfl, B0, T0, hg⟩)
  have hs : w.heap.size < w1.heap.size := Nat.lt_of_lt_of_le (by simp) B0.size
  have hb : w1.heap[w.heap.size]? = some (.cells #[.int .i64 0, .string ⟨#[]⟩, .int .i64 0] 125 (0, 0)) := (B0.block _ (by simp)).trans (new_at _ _ _ rfl)
  have B1 : Below w.heap.size w w1 := ((Below.refl _ _).alloc (Nat.le_refl _) _).trans (B0.mono (by simp))
  replace T0 := Mr.hid T0
  replace B1 := Mr.hid B1
  replace hb := Mr.hid hb
  clear B0 hg
  go_loopg [8] (k + 1) (fun gk s8 wr => ∃ i : Nat, s8 = .int .i64 (i : Int) ∧ i + gk = k + 1 ∧ i ≤ k ∧ Below w1.heap.size w1 wr)
  case atStart => exact ⟨0, rfl, by omega, by omega, Below.refl _ _⟩
  case round =>
    obtain ⟨i, rfl, hi, hik, B⟩ := hrel
    have T1 := T0.out.below B
    have hs2 : w.heap.size < wr.heap.size := Nat.lt_of_lt_of_le hs B.size
    have hb2 : wr.heap[w.heap.size]? = some (.cells #[.int .i64 0, .string ⟨#[]⟩, .int .i64 0] 125 (0, 0)) := (B.block _ hs).trans hb.out
    have c0 := T1.op i (by omega)
    have c1 := T1.wd i (by omega)
    have c2 := T1.tk i (by omega)
    have gl := T1.lt
    have r0 := cell_blk hb2 0
    have r1 := cell_blk hb2 1
    have r2 := cell_blk hb2 2
    have rf : ∀ o, wr.frozen? ⟨w.heap.size, o, none⟩ = false := fun o => by simp [World.frozen?, hb2]
    have dl : decide ((i : Int) < 21) = true := by simp; omega
    have hlI : (i : Int) < 21 := by omega
    have hw1 : IntKind.i64.wrap ((i : Int) + 1) = (i : Int) + 1 := i64x _ (by omega) (by omega)
    have BB : Hid (Below w.heap.size w wr) := B1.out.trans (B.mono (Nat.le_of_lt hs))
    replace B := Mr.hid B
    clear T1 hb2
    have hik' := Mr.hid hik
    by_cases he : i = k
    · rw [he, hxx.out.1] at c0
      rw [he, hxx.out.2.1] at c1
      rw [he, hxx.out.2.2] at c2
      simp only [he] at hlI dl ⊢
      clear he hi hik
      have q1 : (xw.toList == xw.toList) = true := by simp
      go_wp2
      refine bodyPost_ret (v := .tuple #[.agg #[.int .i64 xo, .string xw, .int .i64 xt], .bool true]) (by simp [results, Tryz.results84, go_sem, *]) rfl ⟨rfl, ?_⟩
      exact (((BB.out.setCell (p := ⟨w.heap.size, 0, none⟩) (Nat.le_refl _) _).setCell (p := ⟨w.heap.size, 1, none⟩) (Nat.le_refl _) _).setCell (p := ⟨w.heap.size, 2, none⟩) (Nat.le_refl _) _).alloc (by simp; omega) _
    · have e1 := hne.out i (by omega)
      have hi' : Hid (i + gk = k + 1 ∧ i + 1 ≤ k) := ⟨hi, by omega⟩
      clear he hik hi
      generalize opA i = yo at *
      generalize wdA i = yw at *
      generalize tkA i = yt at *
      go_wp2
      go_roundg (gk - 1)
      case measure => obtain ⟨_, _⟩ := hi'.out; omega
      case rel => exact ⟨i + 1, by simp, by obtain ⟨_, _⟩ := hi'.out; omega, by obtain ⟨_, _⟩ := hi'.out; omega, B.out.alloc B.out.size _⟩
set_option maxHeartbeats 8000000 in
theorem callOf_none (op : Int) (w : World) (hne : ∀ j, j < 21 → (opA j == op) = false) :
    Calls Tryz.prog 63 #[.int .i64 op] w fun e w' => e = .returned (.tuple #[.agg #[.int .i64 0, .string ⟨#[]⟩, .int .i64 0], .bool false]) ∧ Below w.heap.size w w' := by
  replace hne := Mr.hid hne
  go_enter Tryz.func63, Tryz.ntmps63
  go_upto_region 2 with (go_at_call 77; refine (callWords_any _).mono ?_; rintro e w1 ⟨g, rfl, B0, T0, hg⟩)
  have hs : w.heap.size < w1.heap.size := Nat.lt_of_lt_of_le (by simp) B0.size
  have hb : w1.heap[w.heap.size]? = some (.cells #[.int .i64 0, .string ⟨#[]⟩, .int .i64 0] 125 (0, 0)) := (B0.block _ (by simp)).trans (new_at _ _ _ rfl)
  have B1 : Below w.heap.size w w1 := ((Below.refl _ _).alloc (Nat.le_refl _) _).trans (B0.mono (by simp))
  replace T0 := Mr.hid T0
  replace B1 := Mr.hid B1
  replace hb := Mr.hid hb
  clear B0 hg
  go_loopg [8] 21 (fun gk s8 wr => ∃ i : Nat, s8 = .int .i64 (i : Int) ∧ i + gk = 21 ∧ Below w1.heap.size w1 wr)
  case atStart => exact ⟨0, rfl, by omega, Below.refl _ _⟩
  case round =>
    obtain ⟨i, rfl, hi, B⟩ := hrel
    have BB : Hid (Below w.heap.size w wr) := B1.out.trans (B.mono (Nat.le_of_lt hs))
    have hs2 : w.heap.size < wr.heap.size := Nat.lt_of_lt_of_le hs B.size
    by_cases hlt : i < 21
    · have T1 := T0.out.below B
      have c0 := T1.op i hlt
      have c1 := T1.wd i hlt
      have c2 := T1.tk i hlt
      have gl := T1.lt
      have dl : decide ((i : Int) < 21) = true := by simp; omega
      have hlI : (i : Int) < 21 := by omega
      have hw1 : IntKind.i64.wrap ((i : Int) + 1) = (i : Int) + 1 := i64x _ (by omega) (by omega)
      have e1 := hne.out i hlt
      have hi' : Hid (i + gk = 21 ∧ i < 21) := ⟨hi, hlt⟩
      replace B := Mr.hid B
      clear T1 hi hlt
      generalize opA i = yo at *
      generalize wdA i = yw at *
      generalize tkA i = yt at *
      go_wp2
      go_roundg (gk - 1)
      case measure => obtain ⟨_, _⟩ := hi'.out; omega
      case rel => exact ⟨i + 1, by simp, by obtain ⟨_, _⟩ := hi'.out; omega, B.out.alloc B.out.size _⟩
    · have hb2 : wr.heap[w.heap.size]? = some (.cells #[.int .i64 0, .string ⟨#[]⟩, .int .i64 0] 125 (0, 0)) := (B.block _ hs).trans hb.out
      have r0 := cell_blk hb2 0
      have r1 := cell_blk hb2 1
      have r2 := cell_blk hb2 2
      have rf : ∀ o, wr.frozen? ⟨w.heap.size, o, none⟩ = false := fun o => by simp [World.frozen?, hb2]
      have dl : decide ((i : Int) < 21) = false := decide_eq_false (by omega)
      replace B := Mr.hid B
      clear hb2 hlt hi
      go_wp2
      refine bodyPost_ret (v := .tuple #[.agg #[.int .i64 0, .string ⟨#[]⟩, .int .i64 0], .bool false]) (by simp [results, Tryz.results63, go_sem, *]) rfl ⟨rfl, ?_⟩
      exact ((BB.out.setCell (p := ⟨w.heap.size, 0, none⟩) (Nat.le_refl _) _).setCell (p := ⟨w.heap.size, 1, none⟩) (Nat.le_refl _) _).setCell (p := ⟨w.heap.size, 2, none⟩) (Nat.le_refl _) _
set_option maxHeartbeats 8000000 in
theorem callNamed_none (s : ByteArray) (w : World) (hne : ∀ j, j < 21 → ((wdA j).toList == s.toList) = false) :
    Calls Tryz.prog 84 #[.string s] w fun e w' => e = .returned (.tuple #[.agg #[.int .i64 0, .string ⟨#[]⟩, .int .i64 0], .bool false]) ∧ Below w.heap.size w w' := by
  replace hne := Mr.hid hne
  go_enter Tryz.func84, Tryz.ntmps84
  go_upto_region 2 with (go_at_call 77; refine (callWords_any _).mono ?_; rintro e w1 ⟨g, rfl, B0, T0, hg⟩)
  have hs : w.heap.size < w1.heap.size := Nat.lt_of_lt_of_le (by simp) B0.size
  have hb : w1.heap[w.heap.size]? = some (.cells #[.int .i64 0, .string ⟨#[]⟩, .int .i64 0] 125 (0, 0)) := (B0.block _ (by simp)).trans (new_at _ _ _ rfl)
  have B1 : Below w.heap.size w w1 := ((Below.refl _ _).alloc (Nat.le_refl _) _).trans (B0.mono (by simp))
  replace T0 := Mr.hid T0
  replace B1 := Mr.hid B1
  replace hb := Mr.hid hb
  clear B0 hg
  go_loopg [8] 21 (fun gk s8 wr => ∃ i : Nat, s8 = .int .i64 (i : Int) ∧ i + gk = 21 ∧ Below w1.heap.size w1 wr)
  case atStart => exact ⟨0, rfl, by omega, Below.refl _ _⟩
  case round =>
    obtain ⟨i, rfl, hi, B⟩ := hrel
    have BB : Hid (Below w.heap.size w wr) := B1.out.trans (B.mono (Nat.le_of_lt hs))
    have hs2 : w.heap.size < wr.heap.size := Nat.lt_of_lt_of_le hs B.size
    by_cases hlt : i < 21
    · have T1 := T0.out.below B
      have c0 := T1.op i hlt
      have c1 := T1.wd i hlt
      have c2 := T1.tk i hlt
      have gl := T1.lt
      have dl : decide ((i : Int) < 21) = true := by simp; omega
      have hlI : (i : Int) < 21 := by omega
      have hw1 : IntKind.i64.wrap ((i : Int) + 1) = (i : Int) + 1 := i64x _ (by omega) (by omega)
      have e1 := hne.out i hlt
      have hi' : Hid (i + gk = 21 ∧ i < 21) := ⟨hi, hlt⟩
      replace B := Mr.hid B
      clear T1 hi hlt
      generalize opA i = yo at *
      generalize wdA i = yw at *
      generalize tkA i = yt at *
      go_wp2
      go_roundg (gk - 1)
      case measure => obtain ⟨_, _⟩ := hi'.out; omega
      case rel => exact ⟨i + 1, by simp, by obtain ⟨_, _⟩ := hi'.out; omega, B.out.alloc B.out.size _⟩
    · have hb2 : wr.heap[w.heap.size]? = some (.cells #[.int .i64 0, .string ⟨#[]⟩, .int .i64 0] 125 (0, 0)) := (B.block _ hs).trans hb.out
      have r0 := cell_blk hb2 0
      have r1 := cell_blk hb2 1
      have r2 := cell_blk hb2 2
      have rf : ∀ o, wr.frozen? ⟨w.heap.size, o, none⟩ = false := fun o => by simp [World.frozen?, hb2]
      have dl : decide ((i : Int) < 21) = false := decide_eq_false (by omega)
      replace B := Mr.hid B
      clear hb2 hlt hi
      go_wp2
      refine bodyPost_ret (v := .tuple #[.agg #[.int .i64 0, .string ⟨#[]⟩, .int .i64 0], .bool false]) (by simp [results, Tryz.results84, go_sem, *]) rfl ⟨rfl, ?_⟩
      exact ((BB.out.setCell (p := ⟨w.heap.size, 0, none⟩) (Nat.le_refl _) _).setCell (p := ⟨w.heap.size, 1, none⟩) (Nat.le_refl _) _).setCell (p := ⟨w.heap.size, 2, none⟩) (Nat.le_refl _) _
end Go.Proofs.YtfhkgeoionkonaaGreatDoor.Sc
