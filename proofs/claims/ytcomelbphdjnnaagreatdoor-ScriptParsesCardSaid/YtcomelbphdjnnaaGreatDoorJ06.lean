import Derived.Test.YtcomelbphdjnnaaGreatDoorJ05
import Derived.Test.YtcomelbphdjnnaaGreatDoorJ01
import Derived.Test.YtcomelbphdjnnaaGreatDoorJ02
/-
  SCRIPT: isNumberLike, numberOf, numbersOf.
-/
namespace Go.Proofs.YtcomelbphdjnnaaGreatDoor.Sc
open Go.RowKit Mr
set_option linter.unusedVariables false
set_option linter.unusedSimpArgs false
set_option maxRecDepth 100000
theorem toList_nil0 : ByteArray.toList ⟨#[]⟩ = [] := by rw [ByteArray.toList_eq]
set_option maxHeartbeats 4000000 in
theorem isNum_any (s : ByteArray) (w : World) : Calls Tryz.prog 81 #[.string s] w fun e w' => e = .returned (.bool (numLike s.data.toList)) ∧ w' = w := by
  have C := Mr.hid (fun W => Tryz.strings_TrimPrefix s ⟨#[45]⟩ W)
  have tn := toList_nil0
  have hnl : Hid (numLike s.data.toList = match Lib.trimPrefix s.data.toList [45] with | [] => false | c :: _ => decide (48 ≤ c.toNat) && decide (c.toNat ≤ 57)) := rfl
  rw [hnl.out]
  have e0 : (⟨#[45]⟩ : ByteArray).data.toList = [45] := rfl
  rw [e0] at C
  clear e0 hnl
  cases hd : Lib.trimPrefix s.data.toList [45] with
  | nil =>
    rw [hd] at C
    clear hd
    go_enter Tryz.func81, Tryz.ntmps81
    go_wp2_with (go_at_call 96; refine (C.out _).mono ?_; clear C; rintro e w1 ⟨rfl, hw⟩; obtain rfl := hw.symm)
    go_ret
    exact ⟨rfl, rfl⟩
  | cons c r =>
    rw [hd] at C
    clear hd
    obtain ⟨D, hD⟩ : ∃ D : ByteArray, D = ⟨(c :: r).toArray⟩ := ⟨_, rfl⟩
    have hsz : 0 < D.size := by rw [hD]; simp [ByteArray.size]
    have hc0 : D[0].toNat = c.toNat := by simp only [hD]; rfl
    have hne : ¬ D.toList = [] := by rw [hD, ByteArray.toList_eq]; simp
    have hne2 : D.toList.isEmpty = false := by rw [hD, ByteArray.toList_eq]; simp
    rw [← hD] at C
    have hszI : (0 : Int) < (D.size : Int) := by omega
    have key : ∀ (b1 b2 : Bool), decide (48 ≤ c.toNat) = b1 → decide (c.toNat ≤ 57) = b2 → Calls Tryz.prog 81 #[.string s] w fun e w' => e = .returned (.bool (b1 && b2)) ∧ w' = w := by
      intro b1 b2 e1 e2
      rw [← hc0] at e1 e2
      have f1 : decide ((48 : Int) ≤ (D[0].toNat : Int)) = b1 := by rw [← e1]; congr 1; exact propext ⟨fun h => by omega, fun h => by omega⟩
      have f2 : decide ((D[0].toNat : Int) ≤ 57) = b2 := by rw [← e2]; congr 1; exact propext ⟨fun h => by omega, fun h => by omega⟩
      clear hc0 hD e1 e2
      cases b1 <;> cases b2 <;> (
        go_enter Tryz.func81, Tryz.ntmps81
        go_wp2_with (go_at_call 96; refine (C.out _).mono ?_; rintro e w1 ⟨rfl, hw⟩; obtain rfl := hw.symm)
        go_ret
        exact ⟨rfl, rfl⟩)
    exact key _ _ rfl rfl
theorem ba_ext {a b : ByteArray} (h : a.data.toList = b.data.toList) : a = b := by
  have h : a.data = b.data := Array.toList_inj.mp h
  cases a; cases b; simp_all
set_option maxHeartbeats 4000000 in
theorem numberOf_any (s : ByteArray) (w : World) (hs : s.size ≤ 281474976710656) (E : Env w) :
    Calls Tryz.prog 83 #[.string s] w fun e w' => e = .returned (.tuple #[.int .i64 (numV s.data.toList), .bool (numOk s.data.toList).isSome]) ∧ Below w.heap.size w w' := by
  cases h : Lib.atoiAll s.data.toList with
  | ok v =>
    have hb := Lib.atoiAll_bounds h
    have A1 := Mr.hid (fun W => Tryz.strconv_Atoi_ok s (by omega) v h W)
    have I1 : Hid (∀ W, Below w.heap.size w W → Calls Tryz.prog 44 #[.int .i64 v] W fun e w' => e = .returned (.string (ito v)) ∧ Below W.heap.size W w') := fun W hB => itoa_any v W hb (E.below hB)
    by_cases he : Lib.itoa v = s.data.toList
    · have e1 : Hid (numOk s.data.toList = some v) := by show _ = _; unfold numOk; rw [h]; simp [he]
      have e2 : Hid (numV s.data.toList = v) := by show _ = _; unfold numV; rw [e1.out]; rfl
      rw [e1.out, e2.out]
      have e3 : ito v = s := ba_ext (by simp [ito, he])
      rw [e3] at I1
      clear h he e1 e2 e3 hb E hs
      go_enter Tryz.func83, Tryz.ntmps83
      go_upto_region 2 with (go_at_call 97; refine (A1.out _).mono ?_; clear A1; rintro e w1 ⟨rfl, hw⟩)
      have B1 : Hid (Below w.heap.size w w1) := by
        rcases hw with rfl | ⟨t, rfl⟩
        · exact Below.refl _ _
        · exact Lib.bytesWorld_below _ _ _
      clear hw
      go_wp2_with (go_at_call 44; refine (I1.out _ B1.out).mono ?_; clear I1; rintro e w2 ⟨rfl, B2⟩; replace B2 := Mr.hid B2)
      go_ret2
      exact ⟨rfl, B1.out.trans (B2.out.mono B1.out.size)⟩
    · have e1 : Hid (numOk s.data.toList = none) := by show _ = _; unfold numOk; rw [h]; simp [he]
      have e2 : Hid (numV s.data.toList = 0) := by show _ = _; unfold numV; rw [e1.out]; rfl
      rw [e1.out, e2.out]
      have e3 : ¬ (ito v).toList = s.toList := by rw [ByteArray.toList_eq, ByteArray.toList_eq]; simpa [ito] using he
      have e4 : ((ito v).toList == s.toList) = false := beq_eq_false_iff_ne.2 e3
      generalize ito v = T at *
      clear h he e1 e2 hb E hs
      go_enter Tryz.func83, Tryz.ntmps83
      go_upto_region 2 with (go_at_call 97; refine (A1.out _).mono ?_; clear A1; rintro e w1 ⟨rfl, hw⟩)
      have B1 : Hid (Below w.heap.size w w1) := by
        rcases hw with rfl | ⟨t, rfl⟩
        · exact Below.refl _ _
        · exact Lib.bytesWorld_below _ _ _
      clear hw
      go_wp2_with (go_at_call 44; refine (I1.out _ B1.out).mono ?_; clear I1; rintro e w2 ⟨rfl, B2⟩; replace B2 := Mr.hid B2)
      go_ret2
      exact ⟨rfl, B1.out.trans (B2.out.mono B1.out.size)⟩
  | «syntax» =>
    have e1 : Hid (numOk s.data.toList = none) := by show _ = _; unfold numOk; rw [h]
    have e2 : Hid (numV s.data.toList = 0) := by show _ = _; unfold numV; rw [e1.out]; rfl
    rw [e1.out, e2.out]
    obtain ⟨tp, p, hv⟩ := E.syn
    have A1 := Mr.hid (Tryz.strconv_Atoi_syntax s hs h _ w hv (.inr ⟨_, _, rfl⟩))
    clear h e1 e2 E hs hv
    go_enter Tryz.func83, Tryz.ntmps83
    go_wp2_with (go_at_call 97; refine A1.out.mono ?_; clear A1; rintro e w1 ⟨N, rfl, -, -, B1⟩; replace B1 := Mr.hid B1)
    go_ret2
    exact ⟨rfl, B1.out⟩
  | range =>
    have e1 : Hid (numOk s.data.toList = none) := by show _ = _; unfold numOk; rw [h]
    have e2 : Hid (numV s.data.toList = 0) := by show _ = _; unfold numV; rw [e1.out]; rfl
    rw [e1.out, e2.out]
    obtain ⟨tp, p, hv⟩ := E.rng
    have A1 := Mr.hid (Tryz.strconv_Atoi_range s hs h _ w hv (.inr ⟨_, _, rfl⟩))
    clear h e1 e2 E hs hv
    go_enter Tryz.func83, Tryz.ntmps83
    go_wp2_with (go_at_call 97; refine A1.out.mono ?_; clear A1; rintro e w1 ⟨N, rfl, -, -, B1⟩; replace B1 := Mr.hid B1)
    go_ret2
    exact ⟨rfl, B1.out⟩
end Go.Proofs.YtcomelbphdjnnaaGreatDoor.Sc
/-
  SCRIPT: callOf, callNamed, Word, Op.
-/
namespace Go.Proofs.YtcomelbphdjnnaaGreatDoor.Sc
open Go.RowKit
set_option linter.unusedVariables false
set_option linter.unusedSimpArgs false
theorem new_at (W : World) (o : Obj) (k : Nat) (hk : k = W.heap.size) : (W.alloc o).heap[k]? = some o := by subst hk; exact heap_alloc_new W o
theorem cell_blk {W : World} {b : Nat} {cs : Array Value} {t : TypeId} {fr : Nat × Nat} (h : W.heap[b]? = some (.cells cs t fr)) (k : Nat) : W.cell? ⟨b, k, none⟩ = cs[k]? := by
  unfold World.cell?
  simp only [h]
  rfl
theorem i64x (x : Int) (h1 : -9223372036854775808 ≤ x) (h2 : x ≤ 9223372036854775807) : IntKind.i64.wrap x = x := by
  simp [IntKind.wrap, IntKind.signed, IntKind.bits]; omega
theorem op_ne (j k : Nat) (hj : j < k) (hk : k < 21) : (opA j == opA k) = false := by
  have := all_below (P := fun k => (List.range k).all fun j => !(opA j == opA k)) (n := 21) (by decide +kernel) hk
  have := all_below (P := fun j => !(opA j == opA k)) this hj
  simpa using this
theorem wd_ne (j k : Nat) (hj : j < k) (hk : k < 21) : ((wdA j).toList == (wdA k).toList) = false := by
  have := all_below (P := fun k => (List.range k).all fun j => !((wdA j).toList == (wdA k).toList)) (n := 21) (by decide +kernel) hk
  have := all_below (P := fun j => !((wdA j).toList == (wdA k).toList)) this hj
  simpa using this
set_option maxHeartbeats 8000000 in
theorem callOf_some (k : Nat) (w : World) (hk : k < 21) :
    Calls Tryz.prog 61 #[.int .i64 (opA k)] w fun e w' => e = .returned (.tuple #[.agg #[.int .i64 (opA k), .string (wdA k), .int .i64 (tkA k)], .bool true]) ∧ Below w.heap.size w w' := by
  have hne := fun (j : Nat) (hj : j < k) => op_ne j k hj hk
  obtain ⟨xo, hxo⟩ : ∃ x, opA k = x := ⟨_, rfl⟩
  obtain ⟨xw, hxw⟩ : ∃ x, wdA k = x := ⟨_, rfl⟩
  obtain ⟨xt, hxt⟩ : ∃ x, tkA k = x := ⟨_, rfl⟩
  rw [hxo, hxw, hxt]
  rw [hxo] at hne
  have hxx : Hid (opA k = xo ∧ wdA k = xw ∧ tkA k = xt) := ⟨hxo, hxw, hxt⟩
  clear hxo hxw hxt
  replace hne := Mr.hid hne
  go_enter Tryz.func61, Tryz.ntmps61
  go_upto_region 2 with (go_at_call 75; refine (callWords_any _).mono ?_; rintro e w1 ⟨g, rfl, B0, T0, hg⟩)
  have hs : w.heap.size < w1.heap.size := Nat.lt_of_lt_of_le (by simp) B0.size
  have hb : w1.heap[w.heap.size]? = some (.cells #[.int .i64 0, .string ⟨#[]⟩, .int .i64 0] 116 (0, 0)) := (B0.block _ (by simp)).trans (new_at _ _ _ rfl)
  have B1 : Below w.heap.size w w1 := ((Below.refl _ _).alloc (Nat.le_refl _) _).trans (B0.mono (by simp))
  replace T0 := Mr.hid T0
  replace B1 := Mr.hid B1
  replace hb := Mr.hid hb
  clear B0 hg
  go_loopg [8] (k + 1) (fun gk s8 wr => ∃ i : Nat, s8 = .int .i64 (i : Int) ∧ i + gk = k + 1 ∧ i ≤ k ∧ Below w1.heap.size w1 wr)
  case atStart => exact ⟨0, rfl, by omega, by omega, Below.refl _ _⟩
  case round =>
    obtain ⟨i, rfl, hi, hik, B⟩ := hrel
    have T1 := T0.out.below B
    have hs2 : w.heap.size < wr.heap.size := Nat.lt_of_lt_of_le hs B.size
    have hb2 : wr.heap[w.heap.size]? = some (.cells #[.int .i64 0, .string ⟨#[]⟩, .int .i64 0] 116 (0, 0)) := (B.block _ hs).trans hb.out
    have c0 := T1.op i (by omega)
    have c1 := T1.wd i (by omega)
    have c2 := T1.tk i (by omega)
    have gl := T1.lt
    have r0 := cell_blk hb2 0
    have r1 := cell_blk hb2 1
    have r2 := cell_blk hb2 2
    have rf : ∀ o, wr.frozen? ⟨w.heap.size, o, none⟩ = false := fun o => by simp [World.frozen?, hb2]
    have dl : decide ((i : Int) < 21) = true := by simp; omega
    have hlI : (i : Int) < 21 := by omega
    have hw1 : IntKind.i64.wrap ((i : Int) + 1) = (i : Int) + 1 := i64x _ (by omega) (by omega)
    have BB : Hid (Below w.heap.size w wr) := B1.out.trans (B.mono (Nat.le_of_lt hs))
    replace B := Mr.hid B
    clear T1 hb2
    have hik' := Mr.hid hik
    by_cases he : i = k
    · rw [he, hxx.out.1] at c0
      rw [he, hxx.out.2.1] at c1
      rw [he, hxx.out.2.2] at c2
      simp only [he] at hlI dl ⊢
      clear he hi hik
      have q1 : (xo == xo) = true := by simp
      go_wp2
      refine bodyPost_ret (v := .tuple #[.agg #[.int .i64 xo, .string xw, .int .i64 xt], .bool true]) (by simp [results, Tryz.results61, go_sem, *]) rfl ⟨rfl, ?_⟩
      exact (((BB.out.setCell (p := ⟨w.heap.size, 0, none⟩) (Nat.le_refl _) _).setCell (p := ⟨w.heap.size, 1, none⟩) (Nat.le_refl _) _).setCell (p := ⟨w.heap.size, 2, none⟩) (Nat.le_refl _) _).alloc (by simp; omega) _
    · have e1 := hne.out i (by omega)
      have hi' : Hid (i + gk = k + 1 ∧ i + 1 ≤ k) := ⟨hi, by omega⟩
      clear he hik hi
      generalize opA i = yo at *
      generalize wdA i = yw at *
      generalize tkA i = yt at *
      go_wp2
      go_roundg (gk - 1)
      case measure => obtain ⟨_, _⟩ := hi'.out; omega
      case rel => exact ⟨i + 1, by simp, by obtain ⟨_, _⟩ := hi'.out; omega, by obtain ⟨_, _⟩ := hi'.out; omega, B.out.alloc B.out.size _⟩
set_option maxHeartbeats 8000000 in
theorem callNamed_some (k : Nat) (w : World) (hk : k < 21) :
    Calls Tryz.prog 98 #[.string (wdA k)] w fun e w' => e = .returned (.tuple #[.agg #[.int .i64 (opA k), .string (wdA k), .int .i64 (tkA k)], .bool true]) ∧ Below w.heap.size w w' := by
  have hne := fun (j : Nat) (hj : j < k) => wd_ne j k hj hk
  obtain ⟨xo, hxo⟩ : ∃ x, opA k = x := ⟨_, rfl⟩
  obtain ⟨xw, hxw⟩ : ∃ x, wdA k = x := ⟨_, rfl⟩
  obtain ⟨xt, hxt⟩ : ∃ x, tkA k = x := ⟨_, rfl⟩
  rw [hxo, hxw, hxt]
  rw [hxw] at hne
  have hxx : Hid (opA k = xo ∧ wdA k = xw ∧ tkA k = xt) := ⟨hxo, hxw, hxt⟩
  clear hxo hxw hxt
  replace hne := Mr.hid hne
  go_enter Tryz.func98, Tryz.ntmps98
  go_upto_region 2 with (go_at_call 75; refine (callWords_any _).mono ?_; rintro e w1 ⟨g, rfl, B0, T0, hg⟩)
  have hs : w.heap.size < w1.heap.size := Nat.lt_of_lt_of_le (by simp) B0.size
  have hb : w1.heap[w.heap.size]? = some (.cells #[.int .i64 0, .string ⟨#[]⟩, .int .i64 0] 116 (0, 0)) := (B0.block _ (by simp)).trans (new_at _ _ _ rfl)
  have B1 : Below w.heap.size w w1 := ((Below.refl _ _).alloc (Nat.le_refl _) _).trans (B0.mono (by simp))
  replace T0 := Mr.hid T0
  replace B1 := Mr.hid B1
  replace hb := Mr.hid hb
  clear B0 hg
  go_loopg [8] (k + 1) (fun gk s8 wr => ∃ i : Nat, s8 = .int .i64 (i : Int) ∧ i + gk = k + 1 ∧ i ≤ k ∧ Below w1.heap.size w1 wr)
  case atStart => exact ⟨0, rfl, by omega, by omega, Below.refl _ _⟩
  case round =>
    obtain ⟨i, rfl, hi, hik, B⟩ := hrel
    have T1 := T0.out.below B
    have hs2 : w.heap.size < wr.heap.size := Nat.lt_of_lt_of_le hs B.size
    have hb2 : wr.heap[w.heap.size]? = some (.cells #[.int .i64 0, .string ⟨#[]⟩, .int .i64 0] 116 (0, 0)) := (B.block _ hs).trans hb.out
    have c0 := T1.op i (by omega)
    have c1 := T1.wd i (by omega)
    have c2 := T1.tk i (by omega)
    have gl := T1.lt
    have r0 := cell_blk hb2 0
    have r1 := cell_blk hb2 1
    have r2 := cell_blk hb2 2
    have rf : ∀ o, wr.frozen? ⟨w.heap.size, o, none⟩ = false := fun o => by simp [World.frozen?, hb2]
    have dl : decide ((i : Int) < 21) = true := by simp; omega
    have hlI : (i : Int) < 21 := by omega
    have hw1 : IntKind.i64.wrap ((i : Int) + 1) = (i : Int) + 1 := i64x _ (by omega) (by omega)
    have BB : Hid (Below w.heap.size w wr) := B1.out.trans (B.mono (Nat.le_of_lt hs))
    replace B := Mr.hid B
    clear T1 hb2
    have hik' := Mr.hid hik
    by_cases he : i = k
    · rw [he, hxx.out.1] at c0
      rw [he, hxx.out.2.1] at c1
      rw [he, hxx.out.2.2] at c2
      simp only [he] at hlI dl ⊢
      clear he hi hik
      have q1 : (xw.toList == xw.toList) = true := by simp
      go_wp2
      refine bodyPost_ret (v := .tuple #[.agg #[.int .i64 xo, .string xw, .int .i64 xt], .bool true]) (by simp [results, Tryz.results98, go_sem, *]) rfl ⟨rfl, ?_⟩
      exact (((BB.out.setCell (p := ⟨w.heap.size, 0, none⟩) (Nat.le_refl _) _).setCell (p := ⟨w.heap.size, 1, none⟩) (Nat.le_refl _) _).setCell (p := ⟨w.heap.size, 2, none⟩) (Nat.le_refl _) _).alloc (by simp; omega) _
    · have e1 := hne.out i (by omega)
      have hi' : Hid (i + gk = k + 1 ∧ i + 1 ≤ k) := ⟨hi, by omega⟩
      clear he hik hi
      generalize opA i = yo at *
      generalize wdA i = yw at *
      generalize tkA i = yt at *
      go_wp2
      go_roundg (gk - 1)
      case measure => obtain ⟨_, _⟩ := hi'.out; omega
      case rel => exact ⟨i + 1, by simp, by obtain ⟨_, _⟩ := hi'.out; omega, by obtain ⟨_, _⟩ := hi'.out; omega, B.out.alloc B.out.size _⟩
set_option maxHeartbeats 8000000 in
theorem callOf_none (op : Int) (w : World) (hne : ∀ j, j < 21 → (opA j == op) = false) :
    Calls Tryz.prog 61 #[.int .i64 op] w fun e w' => e = .returned (.tuple #[.agg #[.int .i64 0, .string ⟨#[]⟩, .int .i64 0], .bool false]) ∧ Below w.heap.size w w' := by
  replace hne := Mr.hid hne
  go_enter Tryz.func61, Tryz.ntmps61
  go_upto_region 2 with (go_at_call 75; refine (callWords_any _).mono ?_; rintro e w1 ⟨g, rfl, B0, T0, hg⟩)
  have hs : w.heap.size < w1.heap.size := Nat.lt_of_lt_of_le (by simp) B0.size
  have hb : w1.heap[w.heap.size]? = some (.cells #[.int .i64 0, .string ⟨#[]⟩, .int .i64 0] 116 (0, 0)) := (B0.block _ (by simp)).trans (new_at _ _ _ rfl)
  have B1 : Below w.heap.size w w1 := ((Below.refl _ _).alloc (Nat.le_refl _) _).trans (B0.mono (by simp))
  replace T0 := Mr.hid T0
  replace B1 := Mr.hid B1
  replace hb := Mr.hid hb
  clear B0 hg
  go_loopg [8] 21 (fun gk s8 wr => ∃ i : Nat, s8 = .int .i64 (i : Int) ∧ i + gk = 21 ∧ Below w1.heap.size w1 wr)
  case atStart => exact ⟨0, rfl, by omega, Below.refl _ _⟩
  case round =>
    obtain ⟨i, rfl, hi, B⟩ := hrel
    have BB : Hid (Below w.heap.size w wr) := B1.out.trans (B.mono (Nat.le_of_lt hs))
    have hs2 : w.heap.size < wr.heap.size := Nat.lt_of_lt_of_le hs B.size
    by_cases hlt : i < 21
    · have T1 := T0.out.below B
      have c0 := T1.op i hlt
      have c1 := T1.wd i hlt
      have c2 := T1.tk i hlt
      have gl := T1.lt
      have dl : decide ((i : Int) < 21) = true := by simp; omega
      have hlI : (i : Int) < 21 := by omega
      have hw1 : IntKind.i64.wrap ((i : Int) + 1) = (i : Int) + 1 := i64x _ (by omega) (by omega)
      have e1 := hne.out i hlt
      have hi' : Hid (i + gk = 21 ∧ i < 21) := ⟨hi, hlt⟩
      replace B := Mr.hid B
      clear T1 hi hlt
      generalize opA i = yo at *
      generalize wdA i = yw at *
      generalize tkA i = yt at *
      go_wp2
      go_roundg (gk - 1)
      case measure => obtain ⟨_, _⟩ := hi'.out; omega
      case rel => exact ⟨i + 1, by simp, by obtain ⟨_, _⟩ := hi'.out; omega, B.out.alloc B.out.size _⟩
    · have hb2 : wr.heap[w.heap.size]? = some (.cells #[.int .i64 0, .string ⟨#[]⟩, .int .i64 0] 116 (0, 0)) := (B.block _ hs).trans hb.out
      have r0 := cell_blk hb2 0
      have r1 := cell_blk hb2 1
      have r2 := cell_blk hb2 2
      have rf : ∀ o, wr.frozen? ⟨w.heap.size, o, none⟩ = false := fun o => by simp [World.frozen?, hb2]
      have dl : decide ((i : Int) < 21) = false := decide_eq_false (by omega)
      replace B := Mr.hid B
      clear hb2 hlt hi
      go_wp2
      refine bodyPost_ret (v := .tuple #[.agg #[.int .i64 0, .string ⟨#[]⟩, .int .i64 0], .bool false]) (by simp [results, Tryz.results61, go_sem, *]) rfl ⟨rfl, ?_⟩
      exact ((BB.out.setCell (p := ⟨w.heap.size, 0, none⟩) (Nat.le_refl _) _).setCell (p := ⟨w.heap.size, 1, none⟩) (Nat.le_refl _) _).setCell (p := ⟨w.heap.size, 2, none⟩) (Nat.le_refl _) _
set_option maxHeartbeats 8000000 in
theorem callNamed_none (s : ByteArray) (w : World) (hne : ∀ j, j < 21 → ((wdA j).toList == s.toList) = false) :
    Calls Tryz.prog 98 #[.string s] w fun e w' => e = .returned (.tuple #[.agg #[.int .i64 0, .string ⟨#[]⟩, .int .i64 0], .bool false]) ∧ Below w.heap.size w w' := by
  replace hne := Mr.hid hne
  go_enter Tryz.func98, Tryz.ntmps98
  go_upto_region 2 with (go_at_call 75; refine (callWords_any _).mono ?_; rintro e w1 ⟨g, rfl, B0, T0, hg⟩)
  have hs : w.heap.size < w1.heap.size := Nat.lt_of_lt_of_le (by simp) B0.size
  have hb : w1.heap[w.heap.size]? = some (.cells #[.int .i64 0, .string ⟨#[]⟩, .int .i64 0] 116 (0, 0)) := (B0.block _ (by simp)).trans (new_at _ _ _ rfl)
  have B1 : Below w.heap.size w w1 := ((Below.refl _ _).alloc (Nat.le_refl _) _).trans (B0.mono (by simp))
  replace T0 := Mr.hid T0
  replace B1 := Mr.hid B1
  replace hb := Mr.hid hb
  clear B0 hg
  go_loopg [8] 21 (fun gk s8 wr => ∃ i : Nat, s8 = .int .i64 (i : Int) ∧ i + gk = 21 ∧ Below w1.heap.size w1 wr)
  case atStart => exact ⟨0, rfl, by omega, Below.refl _ _⟩
  case round =>
    obtain ⟨i, rfl, hi, B⟩ := hrel
    have BB : Hid (Below w.heap.size w wr) := B1.out.trans (B.mono (Nat.le_of_lt hs))
    have hs2 : w.heap.size < wr.heap.size := Nat.lt_of_lt_of_le hs B.size
    by_cases hlt : i < 21
    · have T1 := T0.out.below B
      have c0 := T1.op i hlt
      have c1 := T1.wd i hlt
      have c2 := T1.tk i hlt
      have gl := T1.lt
      have dl : decide ((i : Int) < 21) = true := by simp; omega
      have hlI : (i : Int) < 21 := by omega
      have hw1 : IntKind.i64.wrap ((i : Int) + 1) = (i : Int) + 1 := i64x _ (by omega) (by omega)
      have e1 := hne.out i hlt
      have hi' : Hid (i + gk = 21 ∧ i < 21) := ⟨hi, hlt⟩
      replace B := Mr.hid B
      clear T1 hi hlt
      generalize opA i = yo at *
      generalize wdA i = yw at *
      generalize tkA i = yt at *
      go_wp2
      go_roundg (gk - 1)
      case measure => obtain ⟨_, _⟩ := hi'.out; omega
      case rel => exact ⟨i + 1, by simp, by obtain ⟨_, _⟩ := hi'.out; omega, B.out.alloc B.out.size _⟩
    · have hb2 : wr.heap[w.heap.size]? = some (.cells #[.int .i64 0, .string ⟨#[]⟩, .int .i64 0] 116 (0, 0)) := (B.block _ hs).trans hb.out
      have r0 := cell_blk hb2 0
      have r1 := cell_blk hb2 1
      have r2 := cell_blk hb2 2
      have rf : ∀ o, wr.frozen? ⟨w.heap.size, o, none⟩ = false := fun o => by simp [World.frozen?, hb2]
      have dl : decide ((i : Int) < 21) = false := decide_eq_false (by omega)
      replace B := Mr.hid B
      clear hb2 hlt hi
      go_wp2
      refine bodyPost_ret (v := .tuple #[.agg #[.int .i64 0, .string ⟨#[]⟩, .int .i64 0], .bool false]) (by simp [results, Tryz.results98, go_sem, *]) rfl ⟨rfl, ?_⟩
      exact ((BB.out.setCell (p := ⟨w.heap.size, 0, none⟩) (Nat.le_refl _) _).setCell (p := ⟨w.heap.size, 1, none⟩) (Nat.le_refl _) _).setCell (p := ⟨w.heap.size, 2, none⟩) (Nat.le_refl _) _
end Go.Proofs.YtcomelbphdjnnaaGreatDoor.Sc
