/-
  Machine.Move by its cases, whatever the kit.
-/
import Derived.Test.YtpckcfdjgpdooaaMacMove2
namespace Go.Proofs.Ytpckcfdjgpdooaa.Ma
open Go.RowKit Mr Me
section
variable {W : World} {U S : Nat → Prop} {q : Ph} {s : Ss} {X : Nat → Obj → Prop} {vl va : Value}
/-- The world behind the count. -/
def Wn (W : World) (b : Nat) (n : Int) (o : Obj) : World := (W.setCell ⟨b, 2, none⟩ (.int .i64 n)).alloc o
theorem Mch.setN (h : Mch W U S q vl va s X) (n : Int) (o : Obj) : Mch (Wn W q.b n o) U S q vl va { s with n := n } X ∧ Fr W (Wn W q.b n o) U ∧ W.heap.size < (Wn W q.b n o).heap.size := by
  obtain ⟨hx, hm⟩ := h
  have ho : ∀ k, k ≠ q.b → (W.setCell ⟨q.b, 2, none⟩ (.int .i64 n)).heap[k]? = W.heap[k]? := fun k hne => Below.heap_setCell _ _ _ k hne
  have hs : (W.setCell ⟨q.b, 2, none⟩ (.int .i64 n)).heap.size = W.heap.size := by simp
  have h1 : Mch (W.setCell ⟨q.b, 2, none⟩ (.int .i64 n)) U S q vl va { s with n := n } X := by
    refine ⟨fun k o hk => ?_, ⟨by rw [setBlk hm.blk]; rfl, (ho _ hm.bne.symm).trans hm.bk, hm.mem.kept (fun k hs' _ => ho k (fun e => hm.ub.2 (e ▸ hs'))), hm.thr.setCell _ _ (not_row hm.blk hm.thr (by decide)), hm.cal.setCell _ _ (not_row hm.blk hm.cal (by decide)), hm.shf.setCell _ _ (not_row hm.blk hm.shf (by decide)), hm.ub, hm.ubb, hm.su, fun k hk => by rw [hs]; exact hm.ul k hk⟩⟩
    obtain ⟨x1, x2, x3, x4, x5⟩ := hx k o hk
    exact ⟨(ho k x4).trans x1, x2, x3, x4, x5⟩
  refine ⟨h1.below ((Below.refl _ _).alloc (Nat.le_refl _) o), ((Fr.refl _ _).setCell _ _ (.inl hm.ub.1)).alloc o, by unfold Wn; simp⟩
section
variable (th op arg data : Int)
set_option maxRecDepth 100000 in
theorem mv_full (h : Mch W U S q vl va s X) (hn : 65536 ≤ s.n) :
    Calls Try.prog 10 #[.pointer (some ⟨q.b, 0, none⟩), .agg #[.int .i64 th, .int .i64 op, .int .i64 arg, .int .i64 data]] W fun e w' => e = .returned (.bool false) ∧ Below W.heap.size W w' := by
  have C := fun o => made_yes (h.below ((Below.refl _ _).alloc (Nat.le_refl _) o))
  have m2 := fun o => (h.below ((Below.refl _ _).alloc (Nat.le_refl _) o)).2.m2
  have hB := fun o => (Below.refl W.heap.size W).alloc (Nat.le_refl _) o
  have hd : decide (65536 ≤ s.n) = true := by simpa using hn
  clear h
  go_enter Try.func10, Try.ntmps10
  go_wp2_with (go_at_call 24; refine (C _).mono ?_; clear C; rintro e w' ⟨rfl, hw⟩; obtain rfl := hw.symm)
  go_ret
  exact ⟨rfl, hB _⟩
set_option maxRecDepth 100000 in
set_option maxHeartbeats 1000000 in
theorem mv_none (h : Mch W U S q vl va s X) (hn : s.n < 65536) (h0 : 0 ≤ s.n) (hth : th < 0 ∨ (q.nt : Int) ≤ th) :
    Calls Try.prog 10 #[.pointer (some ⟨q.b, 0, none⟩), .agg #[.int .i64 th, .int .i64 op, .int .i64 arg, .int .i64 data]] W fun e w' => e = .returned (.bool false) ∧ w' = Wn W q.b (s.n + 1) (mvO th op arg data) := by
  have C := fun o => made_yes (h.below ((Below.refl _ _).alloc (Nat.le_refl _) o))
  have m2 := fun o => (h.below ((Below.refl _ _).alloc (Nat.le_refl _) o)).2.m2
  have mz := fun o => (h.below ((Below.refl _ _).alloc (Nat.le_refl _) o)).2.mz 2
  have hN := (h.setN (s.n + 1) (mvO th op arg data)).1
  have H := hasT_no hN th hth
  have hd : decide (65536 ≤ s.n) = false := by simp; omega
  have hlt := h.2.lt
  have hne : W.heap.size ≠ q.b := by omega
  have hne' : q.b ≠ W.heap.size := by omega
  clear h
  replace hN := Mr.hid hN
  unfold Wn mvO at H
  clear hth
  go_enter Try.func10, Try.ntmps10
  go_wp2_with (first | (go_at_call 24; refine (C _).mono ?_; clear C; rintro e w' ⟨rfl, hw⟩; obtain rfl := hw.symm) | (go_at_call 25; refine H.mono ?_; clear H; rintro e w' ⟨rfl, hw⟩; obtain rfl := hw.symm))
  go_ret
  exact ⟨rfl, rfl⟩
end
set_option maxRecDepth 100000 in
set_option maxHeartbeats 1000000 in
theorem mv_step (h : Mch W U S q vl va s X) (hn : s.n < 65536) (h0 : 0 ≤ s.n) (i : Nat) (t : Th) (ht : s.ths[i]? = some t) (arg data : Int) {r : Bool} {R : World → Prop} (ST : Calls Try.prog 26 #[.pointer (some ⟨q.b, 0, none⟩), .int .i64 (i : Int), .int .i64 s.n] (Wn W q.b (s.n + 1) (mvO i 0 arg data)) fun e w' => e = .returned (.bool r) ∧ R w') :
    Calls Try.prog 10 #[.pointer (some ⟨q.b, 0, none⟩), .agg #[.int .i64 (i : Int), .int .i64 0, .int .i64 arg, .int .i64 data]] W fun e w' => e = .returned (.bool r) ∧ R w' := by
  have C := fun o => made_yes (h.below ((Below.refl _ _).alloc (Nat.le_refl _) o))
  have m2 := fun o => (h.below ((Below.refl _ _).alloc (Nat.le_refl _) o)).2.m2
  have mz := fun o => (h.below ((Below.refl _ _).alloc (Nat.le_refl _) o)).2.mz 2
  have hN := (h.setN (s.n + 1) (mvO i 0 arg data)).1
  have hi : i < q.nt := by rw [← h.nt]; exact (List.getElem?_eq_some_iff.1 ht).1
  have H := hasT_yes hN i hi
  have hd : decide (65536 ≤ s.n) = false := by simp; omega
  have hlt := h.2.lt
  have hne : W.heap.size ≠ q.b := by omega
  have hne' : q.b ≠ W.heap.size := by omega
  clear h ht
  replace hN := Mr.hid hN
  unfold Wn mvO at H ST
  go_enter Try.func10, Try.ntmps10
  go_wp2_with (first | (go_at_call 24; refine (C _).mono ?_; clear C; rintro e w' ⟨rfl, hw⟩; obtain rfl := hw.symm) | (go_at_call 25; refine H.mono ?_; clear H; rintro e w' ⟨rfl, hw⟩; obtain rfl := hw.symm) | (go_at_call 26; refine ST.mono ?_; clear ST; rintro e w1 ⟨rfl, h1⟩))
  go_ret
  exact ⟨rfl, h1⟩
set_option maxRecDepth 100000 in
set_option maxHeartbeats 1000000 in
theorem mv_busy (h : Mch W U S q vl va s X) (hn : s.n < 65536) (h0 : 0 ≤ s.n) (i : Nat) (t : Th) (ht : s.ths[i]? = some t) (op arg data : Int) (hop : op ≠ 0) (ty : TypeId) (v : Value) (htv : t.tv = .iface ty v) :
    Calls Try.prog 10 #[.pointer (some ⟨q.b, 0, none⟩), .agg #[.int .i64 (i : Int), .int .i64 op, .int .i64 arg, .int .i64 data]] W fun e w' => e = .returned (.bool false) ∧ w' = Wn W q.b (s.n + 1) (mvO i op arg data) := by
  have C := fun o => made_yes (h.below ((Below.refl _ _).alloc (Nat.le_refl _) o))
  have m2 := fun o => (h.below ((Below.refl _ _).alloc (Nat.le_refl _) o)).2.m2
  have mz := fun o => (h.below ((Below.refl _ _).alloc (Nat.le_refl _) o)).2.mz 2
  have hN := (h.setN (s.n + 1) (mvO i op arg data)).1
  have hi : i < q.nt := by rw [← h.nt]; exact (List.getElem?_eq_some_iff.1 ht).1
  have H := hasT_yes hN i hi
  have hd : decide (65536 ≤ s.n) = false := by simp; omega
  have hlt := h.2.lt
  have hne : W.heap.size ≠ q.b := by omega
  have hne' : q.b ≠ W.heap.size := by omega
  have B := busy_yes hN i t ht ty v htv
  have hop' : (op == 0) = false := by simpa using hop
  clear h ht
  replace hN := Mr.hid hN
  unfold Wn mvO at H B
  go_enter Try.func10, Try.ntmps10
  go_wp2_with (first | (go_at_call 24; refine (C _).mono ?_; clear C; rintro e w' ⟨rfl, hw⟩; obtain rfl := hw.symm) | (go_at_call 25; refine H.mono ?_; clear H; rintro e w' ⟨rfl, hw⟩; obtain rfl := hw.symm) | (go_at_call 11; refine B.mono ?_; clear B; rintro e w1 ⟨rfl, hw⟩; obtain rfl := hw.symm))
  go_ret
  exact ⟨rfl, rfl⟩
set_option maxRecDepth 100000 in
set_option maxHeartbeats 1000000 in
theorem mv_begin (h : Mch W U S q vl va s X) (hn : s.n < 65536) (h0 : 0 ≤ s.n) (i : Nat) (t : Th) (ht : s.ths[i]? = some t) (op arg data : Int) (hop : op ≠ 0) (htv : t.tv = .nilIface) {r : Bool} {R : World → Prop} (BG : Calls Try.prog 27 #[.pointer (some ⟨q.b, 0, none⟩), .agg #[.int .i64 (i : Int), .int .i64 op, .int .i64 arg, .int .i64 data], .int .i64 s.n] (Wn W q.b (s.n + 1) (mvO i op arg data)) fun e w' => e = .returned (.bool r) ∧ R w') :
    Calls Try.prog 10 #[.pointer (some ⟨q.b, 0, none⟩), .agg #[.int .i64 (i : Int), .int .i64 op, .int .i64 arg, .int .i64 data]] W fun e w' => e = .returned (.bool r) ∧ R w' := by
  have C := fun o => made_yes (h.below ((Below.refl _ _).alloc (Nat.le_refl _) o))
  have m2 := fun o => (h.below ((Below.refl _ _).alloc (Nat.le_refl _) o)).2.m2
  have mz := fun o => (h.below ((Below.refl _ _).alloc (Nat.le_refl _) o)).2.mz 2
  have hN := (h.setN (s.n + 1) (mvO i op arg data)).1
  have hi : i < q.nt := by rw [← h.nt]; exact (List.getElem?_eq_some_iff.1 ht).1
  have H := hasT_yes hN i hi
  have hd : decide (65536 ≤ s.n) = false := by simp; omega
  have hlt := h.2.lt
  have hne : W.heap.size ≠ q.b := by omega
  have hne' : q.b ≠ W.heap.size := by omega
  have B := busy_no hN i t ht htv
  have hop' : (op == 0) = false := by simpa using hop
  clear h ht
  replace hN := Mr.hid hN
  unfold Wn mvO at H B BG
  go_enter Try.func10, Try.ntmps10
  go_wp2_with (first | (go_at_call 24; refine (C _).mono ?_; clear C; rintro e w' ⟨rfl, hw⟩; obtain rfl := hw.symm) | (go_at_call 25; refine H.mono ?_; clear H; rintro e w' ⟨rfl, hw⟩; obtain rfl := hw.symm) | (go_at_call 11; refine B.mono ?_; clear B; rintro e w1 ⟨rfl, hw⟩; obtain rfl := hw.symm) | (go_at_call 27; refine BG.mono ?_; clear BG; rintro e w1 ⟨rfl, h1⟩))
  go_ret
  exact ⟨rfl, h1⟩
end
end Go.Proofs.Ytpckcfdjgpdooaa.Ma
