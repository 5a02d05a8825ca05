import Derived.Test.YtglppcoohojmpaaJ15
/-
  Machine.Busy and Machine.Call, asked of a machine: out of range, no call, a call.
-/
namespace Go.Proofs.Ytglppcoohojmpaa.Rf
open Go.RowKit Go.Shelf Mr Me Ma
theorem cl_cells {W : World} {S : Nat → Prop} {g n cap : Nat} {l : List Cl} (h : Has W S 78 9 (.slice (some ⟨g, 0, none⟩) n cap) n (clc l)) {j : Nat} {cl : Cl} (hcl : l[j]? = some cl) :
    W.cell? ⟨g, j * 9, none⟩ = some (.int .i64 cl.th) ∧ W.cell? ⟨g, j * 9 + 1, none⟩ = some (.int .i64 cl.op) ∧ W.cell? ⟨g, j * 9 + 2, none⟩ = some (.int .i64 cl.arg) ∧ W.cell? ⟨g, j * 9 + 3, none⟩ = some (.int .i64 cl.data) ∧ W.cell? ⟨g, j * 9 + 4, none⟩ = some (.int .i64 cl.beg) ∧ W.cell? ⟨g, j * 9 + 5, none⟩ = some (.int .i64 cl.fin) ∧ W.cell? ⟨g, j * 9 + 6, none⟩ = some (.int .i64 cl.pt) ∧ W.cell? ⟨g, j * 9 + 7, none⟩ = some (.int .i64 cl.ak) ∧ W.cell? ⟨g, j * 9 + 8, none⟩ = some (.int .i64 cl.av) := by
  have hce : ∀ t (_ : t < 9) u, cl.cells[t]? = some u → W.cell? ⟨g, j * 9 + t, none⟩ = some u := fun t ht u hu => h.cells (g := g) rfl (j * 9 + t) u (by rw [clc, flat_get cl_len l j t cl hcl ht]; exact hu)
  exact ⟨hce 0 (by decide) _ rfl, hce 1 (by decide) _ rfl, hce 2 (by decide) _ rfl, hce 3 (by decide) _ rfl, hce 4 (by decide) _ rfl, hce 5 (by decide) _ rfl, hce 6 (by decide) _ rfl, hce 7 (by decide) _ rfl, hce 8 (by decide) _ rfl⟩
section
variable {W : World}
theorem busy_out {U S : Nat → Prop} {q : Ph} {s : Ss} {X : Nat → Obj → Prop} {vl va : Value} (hM : Mch W U S q vl va s X) (x : Int) (hx : x < 0 ∨ (q.nt : Int) ≤ x) : Calls Try.prog 27 #[.pointer (some ⟨q.b, 0, none⟩), .int .i64 x] W fun e w' => e = .returned (.bool false) ∧ w' = W := by
  have C := hasT_no hM x hx
  clear hM
  go_enter Try.func27, Try.ntmps27
  go_wp2_with (go_at_call 37; refine C.mono ?_; clear C; rintro e w' ⟨rfl, hw⟩; obtain rfl := hw.symm)
  go_ret
  exact ⟨rfl, rfl⟩
/-- What Call answers. -/
def noCl : Cl := ⟨0, 0, 0, 0, 0, 0, 0, 0, 0⟩
theorem noCl_val : noCl.val = .agg #[.int .i64 0, .int .i64 0, .int .i64 0, .int .i64 0, .int .i64 0, .int .i64 0, .int .i64 0, .int .i64 0, .int .i64 0] := rfl
set_option maxRecDepth 100000 in
set_option maxHeartbeats 1000000 in
theorem call_no {U S : Nat → Prop} {q : Ph} {s : Ss} {X : Nat → Obj → Prop} {vl va : Value} (hM : Mch W U S q vl va s X) (x : Int) (hx : (x < 0 ∨ (q.nt : Int) ≤ x) ∨ ∃ (i : Nat) (t : Th), x = i ∧ s.ths[i]? = some t ∧ t.call = -1) : Calls Try.prog 25 #[.pointer (some ⟨q.b, 0, none⟩), .int .i64 x] W fun e w' => e = .returned (.tuple #[noCl.val, .bool false]) ∧ Below W.heap.size W w' := by
  rw [noCl_val]
  have hB := fun (o : Obj) => (Below.refl W.heap.size W).alloc (Nat.le_refl _) o
  rcases hx with hx | ⟨i, t, rfl, ht, hc⟩
  · have C := fun o => hasT_no (hM.below (hB o)) x hx
    replace hB := Mr.hid hB
    replace C := Mr.hid C
    clear hM hx
    go_enter Try.func25, Try.ntmps25
    go_wp2_with (go_at_call 37; refine (C.out _).mono ?_; clear C; rintro e w' ⟨rfl, hw⟩; obtain rfl := hw.symm)
    obtain ⟨W5, hW5⟩ : ∃ W5, W.alloc (.cells #[.int .i64 0, .int .i64 0, .int .i64 0, .int .i64 0, .int .i64 0, .int .i64 0, .int .i64 0, .int .i64 0, .int .i64 0] 78) = W5 := ⟨_, rfl⟩
    have hn : W5.heap[W.heap.size]? = some (.cells #[.int .i64 0, .int .i64 0, .int .i64 0, .int .i64 0, .int .i64 0, .int .i64 0, .int .i64 0, .int .i64 0, .int .i64 0] 78 (0, 0)) := by rw [← hW5]; exact heap_alloc_new W _
    have hB5 := hB.out (.cells #[.int .i64 0, .int .i64 0, .int .i64 0, .int .i64 0, .int .i64 0, .int .i64 0, .int .i64 0, .int .i64 0, .int .i64 0] 78)
    have d0 : W5.cell? ⟨W.heap.size, 0, none⟩ = some (.int .i64 0) := by simp [World.cell?, hn]
    have d1 : W5.cell? ⟨W.heap.size, 1, none⟩ = some (.int .i64 0) := by simp [World.cell?, hn]
    have d2 : W5.cell? ⟨W.heap.size, 2, none⟩ = some (.int .i64 0) := by simp [World.cell?, hn]
    have d3 : W5.cell? ⟨W.heap.size, 3, none⟩ = some (.int .i64 0) := by simp [World.cell?, hn]
    have d4 : W5.cell? ⟨W.heap.size, 4, none⟩ = some (.int .i64 0) := by simp [World.cell?, hn]
    have d5 : W5.cell? ⟨W.heap.size, 5, none⟩ = some (.int .i64 0) := by simp [World.cell?, hn]
    have d6 : W5.cell? ⟨W.heap.size, 6, none⟩ = some (.int .i64 0) := by simp [World.cell?, hn]
    have d7 : W5.cell? ⟨W.heap.size, 7, none⟩ = some (.int .i64 0) := by simp [World.cell?, hn]
    have d8 : W5.cell? ⟨W.heap.size, 8, none⟩ = some (.int .i64 0) := by simp [World.cell?, hn]
    rw [hW5] at hB5 ⊢
    refine bodyPost_ret (v := .tuple #[.agg #[.int .i64 0, .int .i64 0, .int .i64 0, .int .i64 0, .int .i64 0, .int .i64 0, .int .i64 0, .int .i64 0, .int .i64 0], .bool false]) (by simp [results, Try.f25, go_sem, d0, d1, d2, d3, d4, d5, d6, d7, d8]) rfl ⟨rfl, hB5⟩
  · have hi : i < q.nt := by rw [← hM.nt]; exact (List.getElem?_eq_some_iff.1 ht).1
    have hi' : (i : Int) < (q.nt : Int) := by omega
    have C := fun o => hasT_yes (hM.below (hB o)) i hi
    have m1 := hM.2.m1
    have a0 : W.cell? ⟨q.gt, i * 5 + 2, none⟩ = some (.int .i64 (-1)) := by rw [← hc]; exact hM.2.atTh rfl i 2 t _ ht rfl
    have l1 : q.b < W.heap.size := hM.2.lt
    have l2 : q.gt < W.heap.size := (hM.2.thr.lt q.gt rfl).2
    replace hB := Mr.hid hB
    replace C := Mr.hid C
    clear hM ht hc
    go_enter Try.func25, Try.ntmps25
    go_wp2_with (go_at_call 37; refine (C.out _).mono ?_; clear C; rintro e w' ⟨rfl, hw⟩; obtain rfl := hw.symm)
    obtain ⟨W5, hW5⟩ : ∃ W5, W.alloc (.cells #[.int .i64 0, .int .i64 0, .int .i64 0, .int .i64 0, .int .i64 0, .int .i64 0, .int .i64 0, .int .i64 0, .int .i64 0] 78) = W5 := ⟨_, rfl⟩
    have hn : W5.heap[W.heap.size]? = some (.cells #[.int .i64 0, .int .i64 0, .int .i64 0, .int .i64 0, .int .i64 0, .int .i64 0, .int .i64 0, .int .i64 0, .int .i64 0] 78 (0, 0)) := by rw [← hW5]; exact heap_alloc_new W _
    have hB5 := hB.out (.cells #[.int .i64 0, .int .i64 0, .int .i64 0, .int .i64 0, .int .i64 0, .int .i64 0, .int .i64 0, .int .i64 0, .int .i64 0] 78)
    have d0 : W5.cell? ⟨W.heap.size, 0, none⟩ = some (.int .i64 0) := by simp [World.cell?, hn]
    have d1 : W5.cell? ⟨W.heap.size, 1, none⟩ = some (.int .i64 0) := by simp [World.cell?, hn]
    have d2 : W5.cell? ⟨W.heap.size, 2, none⟩ = some (.int .i64 0) := by simp [World.cell?, hn]
    have d3 : W5.cell? ⟨W.heap.size, 3, none⟩ = some (.int .i64 0) := by simp [World.cell?, hn]
    have d4 : W5.cell? ⟨W.heap.size, 4, none⟩ = some (.int .i64 0) := by simp [World.cell?, hn]
    have d5 : W5.cell? ⟨W.heap.size, 5, none⟩ = some (.int .i64 0) := by simp [World.cell?, hn]
    have d6 : W5.cell? ⟨W.heap.size, 6, none⟩ = some (.int .i64 0) := by simp [World.cell?, hn]
    have d7 : W5.cell? ⟨W.heap.size, 7, none⟩ = some (.int .i64 0) := by simp [World.cell?, hn]
    have d8 : W5.cell? ⟨W.heap.size, 8, none⟩ = some (.int .i64 0) := by simp [World.cell?, hn]
    rw [hW5] at hB5 ⊢
    refine bodyPost_ret (v := .tuple #[.agg #[.int .i64 0, .int .i64 0, .int .i64 0, .int .i64 0, .int .i64 0, .int .i64 0, .int .i64 0, .int .i64 0, .int .i64 0], .bool false]) (by simp [results, Try.f25, go_sem, d0, d1, d2, d3, d4, d5, d6, d7, d8]) rfl ⟨rfl, hB5⟩
theorem box9 {W : World} {b t : Nat} {z0 z1 z2 z3 z4 z5 z6 z7 z8 : Value} (h : W.heap[b]? = some (.cells #[z0, z1, z2, z3, z4, z5, z6, z7, z8] t (0, 0))) (v0 v1 v2 v3 v4 v5 v6 v7 v8 : Value) : (((((((((W.setCell ⟨b, 0, none⟩ v0).setCell ⟨b, 1, none⟩ v1).setCell ⟨b, 2, none⟩ v2).setCell ⟨b, 3, none⟩ v3).setCell ⟨b, 4, none⟩ v4).setCell ⟨b, 5, none⟩ v5).setCell ⟨b, 6, none⟩ v6).setCell ⟨b, 7, none⟩ v7).setCell ⟨b, 8, none⟩ v8).heap[b]? = some (.cells #[v0, v1, v2, v3, v4, v5, v6, v7, v8] t (0, 0)) := by
  have h0 : (W.setCell ⟨b, 0, none⟩ v0).heap[b]? = some (.cells #[v0, z1, z2, z3, z4, z5, z6, z7, z8] t (0, 0)) := setBlk h 0 v0
  have h1 : ((W.setCell ⟨b, 0, none⟩ v0).setCell ⟨b, 1, none⟩ v1).heap[b]? = some (.cells #[v0, v1, z2, z3, z4, z5, z6, z7, z8] t (0, 0)) := setBlk h0 1 v1
  have h2 : (((W.setCell ⟨b, 0, none⟩ v0).setCell ⟨b, 1, none⟩ v1).setCell ⟨b, 2, none⟩ v2).heap[b]? = some (.cells #[v0, v1, v2, z3, z4, z5, z6, z7, z8] t (0, 0)) := setBlk h1 2 v2
  have h3 : ((((W.setCell ⟨b, 0, none⟩ v0).setCell ⟨b, 1, none⟩ v1).setCell ⟨b, 2, none⟩ v2).setCell ⟨b, 3, none⟩ v3).heap[b]? = some (.cells #[v0, v1, v2, v3, z4, z5, z6, z7, z8] t (0, 0)) := setBlk h2 3 v3
  have h4 : (((((W.setCell ⟨b, 0, none⟩ v0).setCell ⟨b, 1, none⟩ v1).setCell ⟨b, 2, none⟩ v2).setCell ⟨b, 3, none⟩ v3).setCell ⟨b, 4, none⟩ v4).heap[b]? = some (.cells #[v0, v1, v2, v3, v4, z5, z6, z7, z8] t (0, 0)) := setBlk h3 4 v4
  have h5 : ((((((W.setCell ⟨b, 0, none⟩ v0).setCell ⟨b, 1, none⟩ v1).setCell ⟨b, 2, none⟩ v2).setCell ⟨b, 3, none⟩ v3).setCell ⟨b, 4, none⟩ v4).setCell ⟨b, 5, none⟩ v5).heap[b]? = some (.cells #[v0, v1, v2, v3, v4, v5, z6, z7, z8] t (0, 0)) := setBlk h4 5 v5
  have h6 : (((((((W.setCell ⟨b, 0, none⟩ v0).setCell ⟨b, 1, none⟩ v1).setCell ⟨b, 2, none⟩ v2).setCell ⟨b, 3, none⟩ v3).setCell ⟨b, 4, none⟩ v4).setCell ⟨b, 5, none⟩ v5).setCell ⟨b, 6, none⟩ v6).heap[b]? = some (.cells #[v0, v1, v2, v3, v4, v5, v6, z7, z8] t (0, 0)) := setBlk h5 6 v6
  have h7 : ((((((((W.setCell ⟨b, 0, none⟩ v0).setCell ⟨b, 1, none⟩ v1).setCell ⟨b, 2, none⟩ v2).setCell ⟨b, 3, none⟩ v3).setCell ⟨b, 4, none⟩ v4).setCell ⟨b, 5, none⟩ v5).setCell ⟨b, 6, none⟩ v6).setCell ⟨b, 7, none⟩ v7).heap[b]? = some (.cells #[v0, v1, v2, v3, v4, v5, v6, v7, z8] t (0, 0)) := setBlk h6 7 v7
  have h8 : (((((((((W.setCell ⟨b, 0, none⟩ v0).setCell ⟨b, 1, none⟩ v1).setCell ⟨b, 2, none⟩ v2).setCell ⟨b, 3, none⟩ v3).setCell ⟨b, 4, none⟩ v4).setCell ⟨b, 5, none⟩ v5).setCell ⟨b, 6, none⟩ v6).setCell ⟨b, 7, none⟩ v7).setCell ⟨b, 8, none⟩ v8).heap[b]? = some (.cells #[v0, v1, v2, v3, v4, v5, v6, v7, v8] t (0, 0)) := setBlk h7 8 v8
  exact h8
theorem below9 {W0 W : World} {n b : Nat} (h : Below n W0 W) (hb : n ≤ b) (v0 v1 v2 v3 v4 v5 v6 v7 v8 : Value) : Below n W0 (((((((((W.setCell ⟨b, 0, none⟩ v0).setCell ⟨b, 1, none⟩ v1).setCell ⟨b, 2, none⟩ v2).setCell ⟨b, 3, none⟩ v3).setCell ⟨b, 4, none⟩ v4).setCell ⟨b, 5, none⟩ v5).setCell ⟨b, 6, none⟩ v6).setCell ⟨b, 7, none⟩ v7).setCell ⟨b, 8, none⟩ v8) := by
  have h0 := h.setCell (p := ⟨b, 0, none⟩) hb v0
  have h1 := h0.setCell (p := ⟨b, 1, none⟩) hb v1
  have h2 := h1.setCell (p := ⟨b, 2, none⟩) hb v2
  have h3 := h2.setCell (p := ⟨b, 3, none⟩) hb v3
  have h4 := h3.setCell (p := ⟨b, 4, none⟩) hb v4
  have h5 := h4.setCell (p := ⟨b, 5, none⟩) hb v5
  have h6 := h5.setCell (p := ⟨b, 6, none⟩) hb v6
  have h7 := h6.setCell (p := ⟨b, 7, none⟩) hb v7
  have h8 := h7.setCell (p := ⟨b, 8, none⟩) hb v8
  exact h8
set_option maxRecDepth 100000 in
set_option maxHeartbeats 1000000 in
theorem call_yes {U S : Nat → Prop} {q : Ph} {s : Ss} {X : Nat → Obj → Prop} {vl va : Value} (hM : Mch W U S q vl va s X) (i : Nat) (t : Th) (ht : s.ths[i]? = some t) (c : Nat) (hc : t.call = c) (x : Cl) (hx : s.cls[c]? = some x) : Calls Try.prog 25 #[.pointer (some ⟨q.b, 0, none⟩), .int .i64 (i : Int)] W fun e w' => e = .returned (.tuple #[x.val, .bool true]) ∧ Below W.heap.size W w' := by
  unfold Cl.val
  have hB := fun (o : Obj) => (Below.refl W.heap.size W).alloc (Nat.le_refl _) o
  have hi : i < q.nt := by rw [← hM.nt]; exact (List.getElem?_eq_some_iff.1 ht).1
  have hi' : (i : Int) < (q.nt : Int) := by omega
  obtain ⟨W1, hW1⟩ : ∃ W1, W.alloc (.cells #[.int .i64 0, .int .i64 0, .int .i64 0, .int .i64 0, .int .i64 0, .int .i64 0, .int .i64 0, .int .i64 0, .int .i64 0] 78) = W1 := ⟨_, rfl⟩
  have hB1 : Below W.heap.size W W1 := by rw [← hW1]; exact hB _
  have hM1 := hM.below hB1
  have C := hasT_yes hM1 i hi
  have m1 := hM1.2.m1
  have m3 := hM1.2.m3
  have a0 : W1.cell? ⟨q.gt, i * 5 + 2, none⟩ = some (.int .i64 (c : Int)) := by rw [← hc]; exact hM1.2.atTh rfl i 2 t _ ht rfl
  have hcl : c < s.cls.length := (List.getElem?_eq_some_iff.1 hx).1
  obtain ⟨gc, cc, hgc, _, gl, gn, gx⟩ := hM1.2.cal.there (by omega)
  have b1 := hM1.2.b1
  have hcal := hM1.2.cal
  rw [hgc] at b1 hcal
  obtain ⟨f0, f1, f2, f3, f4, f5, f6, f7, f8⟩ := cl_cells hcal hx
  unfold maxLen at gx
  have hcl' : (c : Int) < (s.cls.length : Int) := by omega
  have hbox : W1.heap[W.heap.size]? = some (.cells #[.int .i64 0, .int .i64 0, .int .i64 0, .int .i64 0, .int .i64 0, .int .i64 0, .int .i64 0, .int .i64 0, .int .i64 0] 78 (0, 0)) := by rw [← hW1]; exact heap_alloc_new W _
  have d0 : W1.cell? ⟨W.heap.size, 0, none⟩ = some (.int .i64 0) := by simp [World.cell?, hbox]
  have d1 : W1.cell? ⟨W.heap.size, 1, none⟩ = some (.int .i64 0) := by simp [World.cell?, hbox]
  have d2 : W1.cell? ⟨W.heap.size, 2, none⟩ = some (.int .i64 0) := by simp [World.cell?, hbox]
  have d3 : W1.cell? ⟨W.heap.size, 3, none⟩ = some (.int .i64 0) := by simp [World.cell?, hbox]
  have d4 : W1.cell? ⟨W.heap.size, 4, none⟩ = some (.int .i64 0) := by simp [World.cell?, hbox]
  have d5 : W1.cell? ⟨W.heap.size, 5, none⟩ = some (.int .i64 0) := by simp [World.cell?, hbox]
  have d6 : W1.cell? ⟨W.heap.size, 6, none⟩ = some (.int .i64 0) := by simp [World.cell?, hbox]
  have d7 : W1.cell? ⟨W.heap.size, 7, none⟩ = some (.int .i64 0) := by simp [World.cell?, hbox]
  have d8 : W1.cell? ⟨W.heap.size, 8, none⟩ = some (.int .i64 0) := by simp [World.cell?, hbox]
  have hz : ∀ o, W1.frozen? ⟨W.heap.size, o, none⟩ = false := fun o => by simp [World.frozen?, hbox]
  have hs1 : W1.heap.size = W.heap.size + 1 := by rw [← hW1]; simp
  have l1 : q.b < W.heap.size := hM.2.lt
  have l2 : q.gt < W.heap.size := (hM.2.thr.lt q.gt rfl).2
  have l3 : q.bb < W.heap.size := hM.2.ltb
  have l4 : gc < W.heap.size := by
    have := hM.2.cal.lt gc (by rw [hgc]; rfl)
    exact this.2
  have n1 : q.b ≠ W.heap.size := by omega
  have n1' : W.heap.size ≠ q.b := by omega
  have n2 : q.gt ≠ W.heap.size := by omega
  have n2' : W.heap.size ≠ q.gt := by omega
  have n3 : q.bb ≠ W.heap.size := by omega
  have n3' : W.heap.size ≠ q.bb := by omega
  have n4 : gc ≠ W.heap.size := by omega
  have n4' : W.heap.size ≠ gc := by omega
  have n0 : ((c : Int) == -1) = false := by simp
  generalize s.cls.length = NC at *
  replace hB1 := Mr.hid hB1
  replace hbox := Mr.hid hbox
  replace C := Mr.hid C
  clear hB hM hM1 ht hc hx hcal hgc
  go_enter Try.func25, Try.ntmps25
  go_wp2_with (go_at_call 37; refine C.out.mono ?_; clear C; rintro e w' ⟨rfl, hw⟩; obtain rfl := hw.symm)
  go_region_held3 (fun w' => w'.cell? ⟨q.b, 1, none⟩ = some (.slice (some ⟨q.gt, 0, none⟩) q.nt q.ct) ∧ w'.cell? ⟨q.b, 3, none⟩ = some (.pointer (some ⟨q.bb, 0, none⟩)) ∧ w'.cell? ⟨q.bb, 1, none⟩ = some (.slice (some ⟨gc, 0, none⟩) NC cc) ∧ w'.cell? ⟨q.gt, i * 5 + 2, none⟩ = some (.int .i64 (c : Int)) ∧ w'.cell? ⟨gc, c * 9, none⟩ = some (.int .i64 x.th) ∧ w'.cell? ⟨gc, c * 9 + 1, none⟩ = some (.int .i64 x.op) ∧ w'.cell? ⟨gc, c * 9 + 2, none⟩ = some (.int .i64 x.arg) ∧ w'.cell? ⟨gc, c * 9 + 3, none⟩ = some (.int .i64 x.data) ∧ w'.cell? ⟨gc, c * 9 + 4, none⟩ = some (.int .i64 x.beg) ∧ w'.cell? ⟨gc, c * 9 + 5, none⟩ = some (.int .i64 x.fin) ∧ w'.cell? ⟨gc, c * 9 + 6, none⟩ = some (.int .i64 x.pt) ∧ w'.cell? ⟨gc, c * 9 + 7, none⟩ = some (.int .i64 x.ak) ∧ w'.cell? ⟨gc, c * 9 + 8, none⟩ = some (.int .i64 x.av)) (go_keep)
    (fail)
  go_wp2
  obtain ⟨W5, hW5⟩ : ∃ W5, ((((((((W1.setCell ⟨W.heap.size, 0, none⟩ (.int .i64 x.th)).setCell ⟨W.heap.size, 1, none⟩ (.int .i64 x.op)).setCell ⟨W.heap.size, 2, none⟩ (.int .i64 x.arg)).setCell ⟨W.heap.size, 3, none⟩ (.int .i64 x.data)).setCell ⟨W.heap.size, 4, none⟩ (.int .i64 x.beg)).setCell ⟨W.heap.size, 5, none⟩ (.int .i64 x.fin)).setCell ⟨W.heap.size, 6, none⟩ (.int .i64 x.pt)).setCell ⟨W.heap.size, 7, none⟩ (.int .i64 x.ak)).setCell ⟨W.heap.size, 8, none⟩ (.int .i64 x.av) = W5 := ⟨_, rfl⟩
  have hb5 : W5.heap[W.heap.size]? = some (.cells #[.int .i64 x.th, .int .i64 x.op, .int .i64 x.arg, .int .i64 x.data, .int .i64 x.beg, .int .i64 x.fin, .int .i64 x.pt, .int .i64 x.ak, .int .i64 x.av] 78 (0, 0)) := by
    rw [← hW5]
    exact box9 hbox.out _ _ _ _ _ _ _ _ _
  have hB5 : Below W.heap.size W W5.drew := by
    rw [← hW5]
    exact (below9 hB1.out (Nat.le_refl _) _ _ _ _ _ _ _ _ _).drew
  rw [hW5]
  have g0 : W5.drew.cell? ⟨W.heap.size, 0, none⟩ = some (.int .i64 x.th) := by rw [World.cell?_drew]; simp [World.cell?, hb5]
  have g1 : W5.drew.cell? ⟨W.heap.size, 1, none⟩ = some (.int .i64 x.op) := by rw [World.cell?_drew]; simp [World.cell?, hb5]
  have g2 : W5.drew.cell? ⟨W.heap.size, 2, none⟩ = some (.int .i64 x.arg) := by rw [World.cell?_drew]; simp [World.cell?, hb5]
  have g3 : W5.drew.cell? ⟨W.heap.size, 3, none⟩ = some (.int .i64 x.data) := by rw [World.cell?_drew]; simp [World.cell?, hb5]
  have g4 : W5.drew.cell? ⟨W.heap.size, 4, none⟩ = some (.int .i64 x.beg) := by rw [World.cell?_drew]; simp [World.cell?, hb5]
  have g5 : W5.drew.cell? ⟨W.heap.size, 5, none⟩ = some (.int .i64 x.fin) := by rw [World.cell?_drew]; simp [World.cell?, hb5]
  have g6 : W5.drew.cell? ⟨W.heap.size, 6, none⟩ = some (.int .i64 x.pt) := by rw [World.cell?_drew]; simp [World.cell?, hb5]
  have g7 : W5.drew.cell? ⟨W.heap.size, 7, none⟩ = some (.int .i64 x.ak) := by rw [World.cell?_drew]; simp [World.cell?, hb5]
  have g8 : W5.drew.cell? ⟨W.heap.size, 8, none⟩ = some (.int .i64 x.av) := by rw [World.cell?_drew]; simp [World.cell?, hb5]
  refine bodyPost_ret (v := .tuple #[.agg #[.int .i64 x.th, .int .i64 x.op, .int .i64 x.arg, .int .i64 x.data, .int .i64 x.beg, .int .i64 x.fin, .int .i64 x.pt, .int .i64 x.ak, .int .i64 x.av], .bool true]) (by simp [results, Try.f25, go_sem, g0, g1, g2, g3, g4, g5, g6, g7, g8]) rfl ⟨rfl, hB5⟩
end
end Go.Proofs.Ytglppcoohojmpaa.Rf
