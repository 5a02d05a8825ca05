import Derived.Test.YtkimmfdicohoiaaGreatJ20
/-
  made, has, Busy, a step of an idle thread, a call that is refused, by their contracts.
-/
namespace Go.Proofs.YtkimmfdicohoiaaGreat.Ma
open Go.RowKit Mr Me
section
variable {W : World} {U S : Nat → Prop} {q : Ph} {s : Ss} {X : Nat → Obj → Prop} {vl va : Value}
theorem Mch.nt (h : Mch W U S q vl va s X) : s.ths.length = q.nt := by
  obtain ⟨a', c', e, _⟩ := h.2.thr.form
  injection e with e1 e2 e3
  exact e2.symm
theorem Mch.below {W' : World} (h : Mch W U S q vl va s X) (hB : Below W.heap.size W W') : Mch W' U S q vl va s X :=
  ⟨Xs.kept h.1 (fun k hU _ _ _ => hB.block k (h.2.ul k hU)) (fun _ h => h) (fun _ _ h => h), h.2.below hB⟩
theorem made_yes (h : Mch W U S q vl va s X) : Calls Tryz.prog 56 #[.pointer (some ⟨q.b, 0, none⟩)] W fun e w' => e = .returned (.bool true) ∧ w' = W := by
  have m3 := h.2.m3
  clear h
  go_enter Tryz.func56, Tryz.ntmps56
  go_wp2
  go_ret
  exact ⟨rfl, rfl⟩
theorem hasT_yes (h : Mch W U S q vl va s X) (i : Nat) (hi : i < q.nt) : Calls Tryz.prog 57 #[.pointer (some ⟨q.b, 0, none⟩), .int .i64 (i : Int)] W fun e w' => e = .returned (.bool true) ∧ w' = W := by
  have m1 := h.2.m1
  have C := made_yes h
  have hi' : (i : Int) < (q.nt : Int) := by omega
  clear h
  go_enter Tryz.func57, Tryz.ntmps57
  go_wp2_with (go_at_call 56; refine C.mono ?_; clear C; rintro e w' ⟨rfl, hw⟩; obtain rfl := hw.symm)
  go_ret
  exact ⟨rfl, rfl⟩
theorem hasT_no (h : Mch W U S q vl va s X) (x : Int) (hx : x < 0 ∨ (q.nt : Int) ≤ x) : Calls Tryz.prog 57 #[.pointer (some ⟨q.b, 0, none⟩), .int .i64 x] W fun e w' => e = .returned (.bool false) ∧ w' = W := by
  have m1 := h.2.m1
  have C := made_yes h
  clear h
  by_cases h0 : x < 0
  · have d0 : decide (0 ≤ x) = false := by simp; omega
    clear hx
    go_enter Tryz.func57, Tryz.ntmps57
    go_wp2_with (go_at_call 56; refine C.mono ?_; clear C; rintro e w' ⟨rfl, hw⟩; obtain rfl := hw.symm)
    go_ret
    exact ⟨rfl, rfl⟩
  · have d0 : decide (0 ≤ x) = true := by simp; omega
    have d1 : decide (x < (q.nt : Int)) = false := by simp; omega
    clear hx
    go_enter Tryz.func57, Tryz.ntmps57
    go_wp2_with (go_at_call 56; refine C.mono ?_; clear C; rintro e w' ⟨rfl, hw⟩; obtain rfl := hw.symm)
    go_ret
    exact ⟨rfl, rfl⟩
set_option maxRecDepth 100000 in
theorem busy_yes (h : Mch W U S q vl va s X) (i : Nat) (t : Th) (ht : s.ths[i]? = some t) (ty : TypeId) (v : Value) (htv : t.tv = .iface ty v) : Calls Tryz.prog 59 #[.pointer (some ⟨q.b, 0, none⟩), .int .i64 (i : Int)] W fun e w' => e = .returned (.bool true) ∧ w' = W := by
  have hi : i < q.nt := by rw [← h.nt]; exact (List.getElem?_eq_some_iff.1 ht).1
  have hi' : (i : Int) < (q.nt : Int) := by omega
  have C := hasT_yes h i hi
  have m1 := h.2.m1
  have a0 : W.cell? ⟨q.gt, i * 5, none⟩ = some (.iface ty v) := by rw [← htv]; exact h.2.atTh rfl i 0 t _ ht rfl
  clear h
  go_enter Tryz.func59, Tryz.ntmps59
  go_wp2_with (go_at_call 57; refine C.mono ?_; clear C; rintro e w' ⟨rfl, hw⟩; obtain rfl := hw.symm)
  go_ret
  exact ⟨rfl, rfl⟩
set_option maxRecDepth 100000 in
theorem busy_no (h : Mch W U S q vl va s X) (i : Nat) (t : Th) (ht : s.ths[i]? = some t) (htv : t.tv = .nilIface) : Calls Tryz.prog 59 #[.pointer (some ⟨q.b, 0, none⟩), .int .i64 (i : Int)] W fun e w' => e = .returned (.bool false) ∧ w' = W := by
  have hi : i < q.nt := by rw [← h.nt]; exact (List.getElem?_eq_some_iff.1 ht).1
  have hi' : (i : Int) < (q.nt : Int) := by omega
  have C := hasT_yes h i hi
  have m1 := h.2.m1
  have a0 : W.cell? ⟨q.gt, i * 5, none⟩ = some .nilIface := by rw [← htv]; exact h.2.atTh rfl i 0 t _ ht rfl
  clear h
  go_enter Tryz.func59, Tryz.ntmps59
  go_wp2_with (go_at_call 57; refine C.mono ?_; clear C; rintro e w' ⟨rfl, hw⟩; obtain rfl := hw.symm)
  go_ret
  exact ⟨rfl, rfl⟩
set_option maxRecDepth 100000 in
theorem step_idle (h : Mch W U S q vl va s X) (i : Nat) (t : Th) (ht : s.ths[i]? = some t) (htv : t.tv = .nilIface) (now : Int) : Calls Tryz.prog 58 #[.pointer (some ⟨q.b, 0, none⟩), .int .i64 (i : Int), .int .i64 now] W fun e w' => e = .returned (.bool false) ∧ w' = W := by
  have hi : i < q.nt := by rw [← h.nt]; exact (List.getElem?_eq_some_iff.1 ht).1
  have hi' : (i : Int) < (q.nt : Int) := by omega
  have m1 := h.2.m1
  have a0 : W.cell? ⟨q.gt, i * 5, none⟩ = some .nilIface := by rw [← htv]; exact h.2.atTh rfl i 0 t _ ht rfl
  clear h
  go_enter Tryz.func58, Tryz.ntmps58
  go_wp2
  go_ret
  exact ⟨rfl, rfl⟩
set_option maxRecDepth 100000 in
set_option maxHeartbeats 1000000 in
theorem machBegin_none (h : Mch W U S q vl va s X) (th op arg data now : Int) (km : Nat) (hvk : q.vk = .map (some km))
    (KB : Calls Tryz.prog 88 #[q.vk, .agg #[.int .i64 th, .int .i64 op, .int .i64 arg, .int .i64 data]] (W.alloc (mvO th op arg data)).drew fun e w' => e = .returned .nilIface ∧ Below (W.heap.size + 1) (W.alloc (mvO th op arg data)).drew w') :
    Calls Tryz.prog 60 #[.pointer (some ⟨q.b, 0, none⟩), .agg #[.int .i64 th, .int .i64 op, .int .i64 arg, .int .i64 data], .int .i64 now] W fun e w' => e = .returned (.bool false) ∧ Below W.heap.size W w' := by
  have hlt := h.2.lt
  have B1 : Below W.heap.size W (W.alloc (mvO th op arg data)).drew := (Below.drew ((Below.refl _ _).alloc (Nat.le_refl _) (mvO th op arg data)))
  have y : ∀ j u, #[Value.int .i64 th, .int .i64 op, .int .i64 arg, .int .i64 data].toList[j]? = some u → (W.alloc (mvO th op arg data)).cell? ((⟨W.heap.size, 0, none⟩ : Addr).add j) = some u := newsAt W _ #[.int .i64 th, .int .i64 op, .int .i64 arg, .int .i64 data] 55 _ rfl rfl
  have y0 : (W.alloc (mvO th op arg data)).cell? ⟨W.heap.size, 0, none⟩ = some (.int .i64 th) := y 0 _ rfl
  have y1 : (W.alloc (mvO th op arg data)).cell? ⟨W.heap.size, 1, none⟩ = some (.int .i64 op) := y 1 _ rfl
  have y2 : (W.alloc (mvO th op arg data)).cell? ⟨W.heap.size, 2, none⟩ = some (.int .i64 arg) := y 2 _ rfl
  have y3 : (W.alloc (mvO th op arg data)).cell? ⟨W.heap.size, 3, none⟩ = some (.int .i64 data) := y 3 _ rfl
  have n0 : (W.alloc (.cells #[.int .i64 th, .int .i64 op, .int .i64 arg, .int .i64 data] 55)).cell? ⟨q.b, 0, none⟩ = some (.map (some km)) := by rw [World.cell?_alloc_past _ _ _ hlt, ← hvk]; exact h.2.m0
  have cellW := fun (w2 : World) (hB : Below (W.heap.size + 1) (W.alloc (mvO th op arg data)).drew w2) => (show w2.cell? ⟨W.heap.size, 0, none⟩ = some (.int .i64 th) ∧ w2.cell? ⟨W.heap.size, 1, none⟩ = some (.int .i64 op) ∧ w2.cell? ⟨W.heap.size, 2, none⟩ = some (.int .i64 arg) ∧ w2.cell? ⟨W.heap.size, 3, none⟩ = some (.int .i64 data) ∧ w2.cell? ⟨q.b, 0, none⟩ = some (.map (some km)) ∧ Below W.heap.size W w2 from
    ⟨(hB.cell (p := ⟨W.heap.size, 0, none⟩) (by simp)).trans y0, (hB.cell (p := ⟨W.heap.size, 1, none⟩) (by simp)).trans y1, (hB.cell (p := ⟨W.heap.size, 2, none⟩) (by simp)).trans y2, (hB.cell (p := ⟨W.heap.size, 3, none⟩) (by simp)).trans y3, (hB.cell (p := ⟨q.b, 0, none⟩) (by simp; omega)).trans n0, B1.trans (hB.mono (by omega))⟩)
  rw [hvk] at KB
  replace h := Mr.hid h
  clear hvk y
  go_enter Tryz.func60, Tryz.ntmps60
  go_wp2
  go_region_held3 (fun w' => w'.cell? ⟨q.b, 0, none⟩ = some (.map (some km)) ∧ w'.cell? ⟨W.heap.size, 0, none⟩ = some (.int .i64 th) ∧ w'.cell? ⟨W.heap.size, 1, none⟩ = some (.int .i64 op) ∧ w'.cell? ⟨W.heap.size, 2, none⟩ = some (.int .i64 arg) ∧ w'.cell? ⟨W.heap.size, 3, none⟩ = some (.int .i64 data)) (go_keep)
    (first | (go_at_call 88; refine KB.mono ?_; clear KB; rintro e w2 ⟨rfl, hB2⟩; obtain ⟨z0, z1, z2, z3, zb, z4⟩ := cellW w2 hB2))
  go_wp2
  go_ret
  exact ⟨rfl, z4⟩
end
end Go.Proofs.YtkimmfdicohoiaaGreat.Ma
/-
  Machine.Move by its cases, whatever the kit.
-/
namespace Go.Proofs.YtkimmfdicohoiaaGreat.Ma
open Go.RowKit Mr Me
section
variable {W : World} {U S : Nat → Prop} {q : Ph} {s : Ss} {X : Nat → Obj → Prop} {vl va : Value}
/-- The world behind the count. -/
def Wn (W : World) (b : Nat) (n : Int) (o : Obj) : World := (W.setCell ⟨b, 2, none⟩ (.int .i64 n)).alloc o
theorem Mch.setN (h : Mch W U S q vl va s X) (n : Int) (o : Obj) : Mch (Wn W q.b n o) U S q vl va { s with n := n } X ∧ Fr W (Wn W q.b n o) U ∧ W.heap.size < (Wn W q.b n o).heap.size := by
  obtain ⟨hx, hm⟩ := h
  have ho : ∀ k, k ≠ q.b → (W.setCell ⟨q.b, 2, none⟩ (.int .i64 n)).heap[k]? = W.heap[k]? := fun k hne => Below.heap_setCell _ _ _ k hne
  have hs : (W.setCell ⟨q.b, 2, none⟩ (.int .i64 n)).heap.size = W.heap.size := by simp
  have h1 : Mch (W.setCell ⟨q.b, 2, none⟩ (.int .i64 n)) U S q vl va { s with n := n } X := by
    refine ⟨fun k o hk => ?_, ⟨by rw [setBlk hm.blk]; rfl, (ho _ hm.bne.symm).trans hm.bk, hm.mem.kept (fun k hs' _ => ho k (fun e => hm.ub.2 (e ▸ hs'))), hm.thr.setCell _ _ (not_row hm.blk hm.thr (by decide)), hm.cal.setCell _ _ (not_row hm.blk hm.cal (by decide)), hm.shf.setCell _ _ (not_row hm.blk hm.shf (by decide)), hm.ub, hm.ubb, hm.su, fun k hk => by rw [hs]; exact hm.ul k hk⟩⟩
    obtain ⟨x1, x2, x3, x4, x5⟩ := hx k o hk
    exact ⟨(ho k x4).trans x1, x2, x3, x4, x5⟩
  refine ⟨h1.below ((Below.refl _ _).alloc (Nat.le_refl _) o), ((Fr.refl _ _).setCell _ _ (.inl hm.ub.1)).alloc o, by unfold Wn; simp⟩
section
variable (th op arg data : Int)
set_option maxRecDepth 100000 in
theorem mv_full (h : Mch W U S q vl va s X) (hn : 65536 ≤ s.n) :
    Calls Tryz.prog 17 #[.pointer (some ⟨q.b, 0, none⟩), .agg #[.int .i64 th, .int .i64 op, .int .i64 arg, .int .i64 data]] W fun e w' => e = .returned (.bool false) ∧ Below W.heap.size W w' := by
  have C := fun o => made_yes (h.below ((Below.refl _ _).alloc (Nat.le_refl _) o))
  have m2 := fun o => (h.below ((Below.refl _ _).alloc (Nat.le_refl _) o)).2.m2
  have hB := fun o => (Below.refl W.heap.size W).alloc (Nat.le_refl _) o
  have hd : decide (65536 ≤ s.n) = true := by simpa using hn
  clear h
  go_enter Tryz.func17, Tryz.ntmps17
  go_wp2_with (go_at_call 56; refine (C _).mono ?_; clear C; rintro e w' ⟨rfl, hw⟩; obtain rfl := hw.symm)
  go_ret
  exact ⟨rfl, hB _⟩
set_option maxRecDepth 100000 in
set_option maxHeartbeats 1000000 in
theorem mv_none (h : Mch W U S q vl va s X) (hn : s.n < 65536) (h0 : 0 ≤ s.n) (hth : th < 0 ∨ (q.nt : Int) ≤ th) :
    Calls Tryz.prog 17 #[.pointer (some ⟨q.b, 0, none⟩), .agg #[.int .i64 th, .int .i64 op, .int .i64 arg, .int .i64 data]] W fun e w' => e = .returned (.bool false) ∧ w' = Wn W q.b (s.n + 1) (mvO th op arg data) := by
  have C := fun o => made_yes (h.below ((Below.refl _ _).alloc (Nat.le_refl _) o))
  have m2 := fun o => (h.below ((Below.refl _ _).alloc (Nat.le_refl _) o)).2.m2
  have mz := fun o => (h.below ((Below.refl _ _).alloc (Nat.le_refl _) o)).2.mz 2
  have hN := (h.setN (s.n + 1) (mvO th op arg data)).1
  have H := hasT_no hN th hth
  have hd : decide (65536 ≤ s.n) = false := by simp; omega
  have hlt := h.2.lt
  have hne : W.heap.size ≠ q.b := by omega
  have hne' : q.b ≠ W.heap.size := by omega
  clear h
  replace hN := Mr.hid hN
  unfold Wn mvO at H
  clear hth
  go_enter Tryz.func17, Tryz.ntmps17
  go_wp2_with (first | (go_at_call 56; refine (C _).mono ?_; clear C; rintro e w' ⟨rfl, hw⟩; obtain rfl := hw.symm) | (go_at_call 57; refine H.mono ?_; clear H; rintro e w' ⟨rfl, hw⟩; obtain rfl := hw.symm))
  go_ret
  exact ⟨rfl, rfl⟩
end
set_option maxRecDepth 100000 in
set_option maxHeartbeats 1000000 in
theorem mv_step (h : Mch W U S q vl va s X) (hn : s.n < 65536) (h0 : 0 ≤ s.n) (i : Nat) (t : Th) (ht : s.ths[i]? = some t) (arg data : Int) {r : Bool} {R : World → Prop} (ST : Calls Tryz.prog 58 #[.pointer (some ⟨q.b, 0, none⟩), .int .i64 (i : Int), .int .i64 s.n] (Wn W q.b (s.n + 1) (mvO i 0 arg data)) fun e w' => e = .returned (.bool r) ∧ R w') :
    Calls Tryz.prog 17 #[.pointer (some ⟨q.b, 0, none⟩), .agg #[.int .i64 (i : Int), .int .i64 0, .int .i64 arg, .int .i64 data]] W fun e w' => e = .returned (.bool r) ∧ R w' := by
  have C := fun o => made_yes (h.below ((Below.refl _ _).alloc (Nat.le_refl _) o))
  have m2 := fun o => (h.below ((Below.refl _ _).alloc (Nat.le_refl _) o)).2.m2
  have mz := fun o => (h.below ((Below.refl _ _).alloc (Nat.le_refl _) o)).2.mz 2
  have hN := (h.setN (s.n + 1) (mvO i 0 arg data)).1
  have hi : i < q.nt := by rw [← h.nt]; exact (List.getElem?_eq_some_iff.1 ht).1
  have H := hasT_yes hN i hi
  have hd : decide (65536 ≤ s.n) = false := by simp; omega
  have hlt := h.2.lt
  have hne : W.heap.size ≠ q.b := by omega
  have hne' : q.b ≠ W.heap.size := by omega
  clear h ht
  replace hN := Mr.hid hN
  unfold Wn mvO at H ST
  go_enter Tryz.func17, Tryz.ntmps17
  go_wp2_with (first | (go_at_call 56; refine (C _).mono ?_; clear C; rintro e w' ⟨rfl, hw⟩; obtain rfl := hw.symm) | (go_at_call 57; refine H.mono ?_; clear H; rintro e w' ⟨rfl, hw⟩; obtain rfl := hw.symm) | (go_at_call 58; refine ST.mono ?_; clear ST; rintro e w1 ⟨rfl, h1⟩))
  go_ret
  exact ⟨rfl, h1⟩
set_option maxRecDepth 100000 in
set_option maxHeartbeats 1000000 in
theorem mv_busy (h : Mch W U S q vl va s X) (hn : s.n < 65536) (h0 : 0 ≤ s.n) (i : Nat) (t : Th) (ht : s.ths[i]? = some t) (op arg data : Int) (hop : op ≠ 0) (ty : TypeId) (v : Value) (htv : t.tv = .iface ty v) :
    Calls Tryz.prog 17 #[.pointer (some ⟨q.b, 0, none⟩), .agg #[.int .i64 (i : Int), .int .i64 op, .int .i64 arg, .int .i64 data]] W fun e w' => e = .returned (.bool false) ∧ w' = Wn W q.b (s.n + 1) (mvO i op arg data) := by
  have C := fun o => made_yes (h.below ((Below.refl _ _).alloc (Nat.le_refl _) o))
  have m2 := fun o => (h.below ((Below.refl _ _).alloc (Nat.le_refl _) o)).2.m2
  have mz := fun o => (h.below ((Below.refl _ _).alloc (Nat.le_refl _) o)).2.mz 2
  have hN := (h.setN (s.n + 1) (mvO i op arg data)).1
  have hi : i < q.nt := by rw [← h.nt]; exact (List.getElem?_eq_some_iff.1 ht).1
  have H := hasT_yes hN i hi
  have hd : decide (65536 ≤ s.n) = false := by simp; omega
  have hlt := h.2.lt
  have hne : W.heap.size ≠ q.b := by omega
  have hne' : q.b ≠ W.heap.size := by omega
  have B := busy_yes hN i t ht ty v htv
  have hop' : (op == 0) = false := by simpa using hop
  clear h ht
  replace hN := Mr.hid hN
  unfold Wn mvO at H B
  go_enter Tryz.func17, Tryz.ntmps17
  go_wp2_with (first | (go_at_call 56; refine (C _).mono ?_; clear C; rintro e w' ⟨rfl, hw⟩; obtain rfl := hw.symm) | (go_at_call 57; refine H.mono ?_; clear H; rintro e w' ⟨rfl, hw⟩; obtain rfl := hw.symm) | (go_at_call 59; refine B.mono ?_; clear B; rintro e w1 ⟨rfl, hw⟩; obtain rfl := hw.symm))
  go_ret
  exact ⟨rfl, rfl⟩
set_option maxRecDepth 100000 in
set_option maxHeartbeats 1000000 in
theorem mv_begin (h : Mch W U S q vl va s X) (hn : s.n < 65536) (h0 : 0 ≤ s.n) (i : Nat) (t : Th) (ht : s.ths[i]? = some t) (op arg data : Int) (hop : op ≠ 0) (htv : t.tv = .nilIface) {r : Bool} {R : World → Prop} (BG : Calls Tryz.prog 60 #[.pointer (some ⟨q.b, 0, none⟩), .agg #[.int .i64 (i : Int), .int .i64 op, .int .i64 arg, .int .i64 data], .int .i64 s.n] (Wn W q.b (s.n + 1) (mvO i op arg data)) fun e w' => e = .returned (.bool r) ∧ R w') :
    Calls Tryz.prog 17 #[.pointer (some ⟨q.b, 0, none⟩), .agg #[.int .i64 (i : Int), .int .i64 op, .int .i64 arg, .int .i64 data]] W fun e w' => e = .returned (.bool r) ∧ R w' := by
  have C := fun o => made_yes (h.below ((Below.refl _ _).alloc (Nat.le_refl _) o))
  have m2 := fun o => (h.below ((Below.refl _ _).alloc (Nat.le_refl _) o)).2.m2
  have mz := fun o => (h.below ((Below.refl _ _).alloc (Nat.le_refl _) o)).2.mz 2
  have hN := (h.setN (s.n + 1) (mvO i op arg data)).1
  have hi : i < q.nt := by rw [← h.nt]; exact (List.getElem?_eq_some_iff.1 ht).1
  have H := hasT_yes hN i hi
  have hd : decide (65536 ≤ s.n) = false := by simp; omega
  have hlt := h.2.lt
  have hne : W.heap.size ≠ q.b := by omega
  have hne' : q.b ≠ W.heap.size := by omega
  have B := busy_no hN i t ht htv
  have hop' : (op == 0) = false := by simpa using hop
  clear h ht
  replace hN := Mr.hid hN
  unfold Wn mvO at H B BG
  go_enter Tryz.func17, Tryz.ntmps17
  go_wp2_with (first | (go_at_call 56; refine (C _).mono ?_; clear C; rintro e w' ⟨rfl, hw⟩; obtain rfl := hw.symm) | (go_at_call 57; refine H.mono ?_; clear H; rintro e w' ⟨rfl, hw⟩; obtain rfl := hw.symm) | (go_at_call 59; refine B.mono ?_; clear B; rintro e w1 ⟨rfl, hw⟩; obtain rfl := hw.symm) | (go_at_call 60; refine BG.mono ?_; clear BG; rintro e w1 ⟨rfl, h1⟩))
  go_ret
  exact ⟨rfl, h1⟩
end
end Go.Proofs.YtkimmfdicohoiaaGreat.Ma
