/-
  made, has, Busy, a step of an idle thread, a call that is refused, by their contracts.
-/
import Derived.Test.YtpckcfdjgpdooaaMacMove
namespace Go.Proofs.Ytpckcfdjgpdooaa.Ma
open Go.RowKit Mr Me
section
variable {W : World} {U S : Nat → Prop} {q : Ph} {s : Ss} {X : Nat → Obj → Prop} {vl va : Value}
theorem Mch.nt (h : Mch W U S q vl va s X) : s.ths.length = q.nt := by
  obtain ⟨a', c', e, _⟩ := h.2.thr.form
  injection e with e1 e2 e3
  exact e2.symm
theorem Mch.below {W' : World} (h : Mch W U S q vl va s X) (hB : Below W.heap.size W W') : Mch W' U S q vl va s X :=
  ⟨Xs.kept h.1 (fun k hU _ _ _ => hB.block k (h.2.ul k hU)) (fun _ h => h) (fun _ _ h => h), h.2.below hB⟩
theorem made_yes (h : Mch W U S q vl va s X) : Calls Try.prog 24 #[.pointer (some ⟨q.b, 0, none⟩)] W fun e w' => e = .returned (.bool true) ∧ w' = W := by
  have m3 := h.2.m3
  clear h
  go_enter Try.func24, Try.ntmps24
  go_wp2
  go_ret
  exact ⟨rfl, rfl⟩
theorem hasT_yes (h : Mch W U S q vl va s X) (i : Nat) (hi : i < q.nt) : Calls Try.prog 25 #[.pointer (some ⟨q.b, 0, none⟩), .int .i64 (i : Int)] W fun e w' => e = .returned (.bool true) ∧ w' = W := by
  have m1 := h.2.m1
  have C := made_yes h
  have hi' : (i : Int) < (q.nt : Int) := by omega
  clear h
  go_enter Try.func25, Try.ntmps25
  go_wp2_with (go_at_call 24; refine C.mono ?_; clear C; rintro e w' ⟨rfl, hw⟩; obtain rfl := hw.symm)
  go_ret
  exact ⟨rfl, rfl⟩
theorem hasT_no (h : Mch W U S q vl va s X) (x : Int) (hx : x < 0 ∨ (q.nt : Int) ≤ x) : Calls Try.prog 25 #[.pointer (some ⟨q.b, 0, none⟩), .int .i64 x] W fun e w' => e = .returned (.bool false) ∧ w' = W := by
  have m1 := h.2.m1
  have C := made_yes h
  clear h
  by_cases h0 : x < 0
  · have d0 : decide (0 ≤ x) = false := by simp; omega
    clear hx
    go_enter Try.func25, Try.ntmps25
    go_wp2_with (go_at_call 24; refine C.mono ?_; clear C; rintro e w' ⟨rfl, hw⟩; obtain rfl := hw.symm)
    go_ret
    exact ⟨rfl, rfl⟩
  · have d0 : decide (0 ≤ x) = true := by simp; omega
    have d1 : decide (x < (q.nt : Int)) = false := by simp; omega
    clear hx
    go_enter Try.func25, Try.ntmps25
    go_wp2_with (go_at_call 24; refine C.mono ?_; clear C; rintro e w' ⟨rfl, hw⟩; obtain rfl := hw.symm)
    go_ret
    exact ⟨rfl, rfl⟩
set_option maxRecDepth 100000 in
theorem busy_yes (h : Mch W U S q vl va s X) (i : Nat) (t : Th) (ht : s.ths[i]? = some t) (ty : TypeId) (v : Value) (htv : t.tv = .iface ty v) : Calls Try.prog 11 #[.pointer (some ⟨q.b, 0, none⟩), .int .i64 (i : Int)] W fun e w' => e = .returned (.bool true) ∧ w' = W := by
  have hi : i < q.nt := by rw [← h.nt]; exact (List.getElem?_eq_some_iff.1 ht).1
  have hi' : (i : Int) < (q.nt : Int) := by omega
  have C := hasT_yes h i hi
  have m1 := h.2.m1
  have a0 : W.cell? ⟨q.gt, i * 5, none⟩ = some (.iface ty v) := by rw [← htv]; exact h.2.atTh rfl i 0 t _ ht rfl
  clear h
  go_enter Try.func11, Try.ntmps11
  go_wp2_with (go_at_call 25; refine C.mono ?_; clear C; rintro e w' ⟨rfl, hw⟩; obtain rfl := hw.symm)
  go_ret
  exact ⟨rfl, rfl⟩
set_option maxRecDepth 100000 in
theorem busy_no (h : Mch W U S q vl va s X) (i : Nat) (t : Th) (ht : s.ths[i]? = some t) (htv : t.tv = .nilIface) : Calls Try.prog 11 #[.pointer (some ⟨q.b, 0, none⟩), .int .i64 (i : Int)] W fun e w' => e = .returned (.bool false) ∧ w' = W := by
  have hi : i < q.nt := by rw [← h.nt]; exact (List.getElem?_eq_some_iff.1 ht).1
  have hi' : (i : Int) < (q.nt : Int) := by omega
  have C := hasT_yes h i hi
  have m1 := h.2.m1
  have a0 : W.cell? ⟨q.gt, i * 5, none⟩ = some .nilIface := by rw [← htv]; exact h.2.atTh rfl i 0 t _ ht rfl
  clear h
  go_enter Try.func11, Try.ntmps11
  go_wp2_with (go_at_call 25; refine C.mono ?_; clear C; rintro e w' ⟨rfl, hw⟩; obtain rfl := hw.symm)
  go_ret
  exact ⟨rfl, rfl⟩
set_option maxRecDepth 100000 in
theorem step_idle (h : Mch W U S q vl va s X) (i : Nat) (t : Th) (ht : s.ths[i]? = some t) (htv : t.tv = .nilIface) (now : Int) : Calls Try.prog 26 #[.pointer (some ⟨q.b, 0, none⟩), .int .i64 (i : Int), .int .i64 now] W fun e w' => e = .returned (.bool false) ∧ w' = W := by
  have hi : i < q.nt := by rw [← h.nt]; exact (List.getElem?_eq_some_iff.1 ht).1
  have hi' : (i : Int) < (q.nt : Int) := by omega
  have m1 := h.2.m1
  have a0 : W.cell? ⟨q.gt, i * 5, none⟩ = some .nilIface := by rw [← htv]; exact h.2.atTh rfl i 0 t _ ht rfl
  clear h
  go_enter Try.func26, Try.ntmps26
  go_wp2
  go_ret
  exact ⟨rfl, rfl⟩
set_option maxRecDepth 100000 in
set_option maxHeartbeats 1000000 in
theorem machBegin_none (h : Mch W U S q vl va s X) (th op arg data now : Int) (km : Nat) (hvk : q.vk = .map (some km))
    (KB : Calls Try.prog 42 #[q.vk, .agg #[.int .i64 th, .int .i64 op, .int .i64 arg, .int .i64 data]] (W.alloc (mvO th op arg data)).drew fun e w' => e = .returned .nilIface ∧ Below (W.heap.size + 1) (W.alloc (mvO th op arg data)).drew w') :
    Calls Try.prog 27 #[.pointer (some ⟨q.b, 0, none⟩), .agg #[.int .i64 th, .int .i64 op, .int .i64 arg, .int .i64 data], .int .i64 now] W fun e w' => e = .returned (.bool false) ∧ Below W.heap.size W w' := by
  have hlt := h.2.lt
  have B1 : Below W.heap.size W (W.alloc (mvO th op arg data)).drew := (Below.drew ((Below.refl _ _).alloc (Nat.le_refl _) (mvO th op arg data)))
  have y : ∀ j u, #[Value.int .i64 th, .int .i64 op, .int .i64 arg, .int .i64 data].toList[j]? = some u → (W.alloc (mvO th op arg data)).cell? ((⟨W.heap.size, 0, none⟩ : Addr).add j) = some u := newsAt W _ #[.int .i64 th, .int .i64 op, .int .i64 arg, .int .i64 data] 27 _ rfl rfl
  have y0 : (W.alloc (mvO th op arg data)).cell? ⟨W.heap.size, 0, none⟩ = some (.int .i64 th) := y 0 _ rfl
  have y1 : (W.alloc (mvO th op arg data)).cell? ⟨W.heap.size, 1, none⟩ = some (.int .i64 op) := y 1 _ rfl
  have y2 : (W.alloc (mvO th op arg data)).cell? ⟨W.heap.size, 2, none⟩ = some (.int .i64 arg) := y 2 _ rfl
  have y3 : (W.alloc (mvO th op arg data)).cell? ⟨W.heap.size, 3, none⟩ = some (.int .i64 data) := y 3 _ rfl
  have n0 : (W.alloc (.cells #[.int .i64 th, .int .i64 op, .int .i64 arg, .int .i64 data] 27)).cell? ⟨q.b, 0, none⟩ = some (.map (some km)) := by rw [World.cell?_alloc_past _ _ _ hlt, ← hvk]; exact h.2.m0
  have cellW := fun (w2 : World) (hB : Below (W.heap.size + 1) (W.alloc (mvO th op arg data)).drew w2) => (show w2.cell? ⟨W.heap.size, 0, none⟩ = some (.int .i64 th) ∧ w2.cell? ⟨W.heap.size, 1, none⟩ = some (.int .i64 op) ∧ w2.cell? ⟨W.heap.size, 2, none⟩ = some (.int .i64 arg) ∧ w2.cell? ⟨W.heap.size, 3, none⟩ = some (.int .i64 data) ∧ w2.cell? ⟨q.b, 0, none⟩ = some (.map (some km)) ∧ Below W.heap.size W w2 from
    ⟨(hB.cell (p := ⟨W.heap.size, 0, none⟩) (by simp)).trans y0, (hB.cell (p := ⟨W.heap.size, 1, none⟩) (by simp)).trans y1, (hB.cell (p := ⟨W.heap.size, 2, none⟩) (by simp)).trans y2, (hB.cell (p := ⟨W.heap.size, 3, none⟩) (by simp)).trans y3, (hB.cell (p := ⟨q.b, 0, none⟩) (by simp; omega)).trans n0, B1.trans (hB.mono (by omega))⟩)
  rw [hvk] at KB
  replace h := Mr.hid h
  clear hvk y
  go_enter Try.func27, Try.ntmps27
  go_wp2
  go_region_held3 (fun w' => w'.cell? ⟨q.b, 0, none⟩ = some (.map (some km)) ∧ w'.cell? ⟨W.heap.size, 0, none⟩ = some (.int .i64 th) ∧ w'.cell? ⟨W.heap.size, 1, none⟩ = some (.int .i64 op) ∧ w'.cell? ⟨W.heap.size, 2, none⟩ = some (.int .i64 arg) ∧ w'.cell? ⟨W.heap.size, 3, none⟩ = some (.int .i64 data)) (go_keep)
    (first | (go_at_call 42; refine KB.mono ?_; clear KB; rintro e w2 ⟨rfl, hB2⟩; obtain ⟨z0, z1, z2, z3, zb, z4⟩ := cellW w2 hB2))
  go_wp2
  go_ret
  exact ⟨rfl, z4⟩
end
end Go.Proofs.Ytpckcfdjgpdooaa.Ma
