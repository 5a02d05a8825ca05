import Derived.Test.YtegbcocbopgghabJ13
/-
  Package model: worldOf.
-/
namespace Go.Proofs.Ytegbcocbopgghab.Md
open Go.RowKit Mr
set_option linter.unusedVariables false
set_option linter.unusedSimpArgs false
set_option maxRecDepth 100000 in
set_option maxHeartbeats 8000000 in
theorem worldOf_any {W : World} {S : Nat → Prop} {u0 u1 u2 u3 u4 : Value} {x : Ct} (hu : CtAt W S u0 u1 u2 u3 u4 x) (hin : CtIn 225100000000000 x) :
    Calls Try.prog 28 #[.agg #[u0, u1, u2, u3, u4]] W fun e w' => ∃ g0 g1 g2 g3 g4 lab, e = .returned (wdV g0 g1 g2 g3 g4) ∧ Wd w' W.heap.size lab g0 g1 g2 g3 g4 x ∧ Below W.heap.size W w' := by
  obtain ⟨a0, c0, rfl, _⟩ := hu.cell.form
  obtain ⟨a1, c1, rfl, _⟩ := hu.stack.form
  obtain ⟨a2, c2, rfl, _⟩ := hu.queue.form
  obtain ⟨a3, c3, rfl, _⟩ := hu.set.form
  obtain ⟨a4, c4, rfl, _⟩ := hu.table.form
  have C0 := fun w' (hB : Below W.heap.size W w') => newCell_any (hu.below hB).cell hin.cell
  have C1 := fun w' (hB : Below W.heap.size W w') => newStack_any (hu.below hB).stack hin.stack
  have C2 := fun w' (hB : Below W.heap.size W w') => newQueue_any (hu.below hB).queue hin.queue
  have C3 := fun w' (hB : Below W.heap.size W w') => newSet_any (hu.below hB).set hin.set
  have C4 := fun w' (hB : Below W.heap.size W w') => newTable_any (hu.below hB).table hin.table
  have hT0 := Tq.new W (ctO (.slice a0 x.cell.length c0) (.slice a1 x.stack.length c1) (.slice a2 x.queue.length c2) (.slice a3 x.set.length c3) (.slice a4 x.table.length c4)) (.cells #[.nilIface, .nilIface, .nilIface, .nilIface, .nilIface] 72 (0, 0))
  unfold ctO at hT0
  replace hT0 := Mr.hid hT0
  clear hu
  replace C0 := Mr.hid C0
  replace C1 := Mr.hid C1
  replace C2 := Mr.hid C2
  replace C3 := Mr.hid C3
  replace C4 := Mr.hid C4
  go_enter Try.func28, Try.ntmps28
  go_wp2
  have hsz : (W.alloc (.cells #[.slice a0 x.cell.length c0, .slice a1 x.stack.length c1, .slice a2 x.queue.length c2, .slice a3 x.set.length c3, .slice a4 x.table.length c4] 25 (0, 0))).heap.size = W.heap.size + 1 := by simp
  obtain ⟨W1, hW1⟩ : ∃ W1, (W.alloc (.cells #[.slice a0 x.cell.length c0, .slice a1 x.stack.length c1, .slice a2 x.queue.length c2, .slice a3 x.set.length c3, .slice a4 x.table.length c4] 25 (0, 0))).alloc (.cells #[.nilIface, .nilIface, .nilIface, .nilIface, .nilIface] 72 (0, 0)) = W1 := ⟨_, rfl⟩
  rw [hW1] at hT0 ⊢
  obtain ⟨bU, hbU⟩ : ∃ b, b = W.heap.size := ⟨_, rfl⟩
  obtain ⟨bR, hbR⟩ : ∃ b, b = W.heap.size + 1 := ⟨_, rfl⟩
  rw [← hbR] at hT0 ⊢
  have hT0' : Tq W W1 bU bR (.cells #[.slice a0 x.cell.length c0, .slice a1 x.stack.length c1, .slice a2 x.queue.length c2, .slice a3 x.set.length c3, .slice a4 x.table.length c4] 25 (0, 0)) (.cells #[.nilIface, .nilIface, .nilIface, .nilIface, .nilIface] 72 (0, 0)) := by rw [hbU]; exact hT0.out
  clear hT0
  rw [show (⟨W.heap.size, 0, none⟩ : Addr) = ⟨bU, 0, none⟩ from by rw [hbU]]
  replace hbU := Mr.hid hbU
  replace hbR := Mr.hid hbR
  replace hW1 := Mr.hid hW1
  clear hsz
  have KS : ∀ w' : World, Tq W w' bU bR (.cells #[.slice a0 x.cell.length c0, .slice a1 x.stack.length c1, .slice a2 x.queue.length c2, .slice a3 x.set.length c3, .slice a4 x.table.length c4] 25 (0, 0)) (.cells #[.nilIface, .nilIface, .nilIface, .nilIface, .nilIface] 72 (0, 0)) → w'.cell? ⟨bU, 0, none⟩ = some (.slice a0 x.cell.length c0) ∧ w'.cell? ⟨bU, 1, none⟩ = some (.slice a1 x.stack.length c1) ∧ w'.cell? ⟨bU, 2, none⟩ = some (.slice a2 x.queue.length c2) ∧ w'.cell? ⟨bU, 3, none⟩ = some (.slice a3 x.set.length c3) ∧ w'.cell? ⟨bU, 4, none⟩ = some (.slice a4 x.table.length c4) := fun w' hT => by
    obtain ⟨k0, k1, k2, k3, k4, _⟩ := ifs_cells hT.2.1
    exact ⟨k0, k1, k2, k3, k4⟩
  replace KS := Mr.hid KS
  have hne : bU < bR := hT0'.2.2.2.2.2.2
  have hT0 := Mr.hid hT0'.drew
  clear hT0'
  have t0 : Hid True := trivial
  have t1 : Hid True := trivial
  have t2 : Hid True := trivial
  have t3 : Hid True := trivial
  have t4 : Hid True := trivial
  go_region_held3 (fun w' => w'.cell? ⟨bU, 0, none⟩ = some (.slice a0 x.cell.length c0) ∧ w'.cell? ⟨bU, 1, none⟩ = some (.slice a1 x.stack.length c1) ∧ w'.cell? ⟨bU, 2, none⟩ = some (.slice a2 x.queue.length c2) ∧ w'.cell? ⟨bU, 3, none⟩ = some (.slice a3 x.set.length c3) ∧ w'.cell? ⟨bU, 4, none⟩ = some (.slice a4 x.table.length c4)) (first | with_reducible exact KS.out _ hT5.out | with_reducible exact KS.out _ hT4.out | with_reducible exact KS.out _ hT3.out | with_reducible exact KS.out _ hT2.out | with_reducible exact KS.out _ hT1.out | with_reducible exact KS.out _ hT0.out | with_reducible exact five_far hH5.out hne _ _ _ _ _ | go_keep) (first | (clear t0; go_at_call 46; refine (C0.out _ hT0.out.1).mono ?_; rintro e w1 ⟨g0, rfl, hO0, hB1⟩; replace hO0 := Mr.hid hO0; have hT1 := Mr.hid (hT0.out.below hB1); replace hB1 := Mr.hid hB1) | (clear t1; go_at_call 47; refine (C1.out _ hT1.out.1).mono ?_; rintro e w2 ⟨g1, rfl, hO1, hB2⟩; replace hO1 := Mr.hid hO1; have hT2 := Mr.hid (hT1.out.below hB2); replace hB2 := Mr.hid hB2) | (clear t2; go_at_call 48; refine (C2.out _ hT2.out.1).mono ?_; rintro e w3 ⟨g2, rfl, hO2, hB3⟩; replace hO2 := Mr.hid hO2; have hT3 := Mr.hid (hT2.out.below hB3); replace hB3 := Mr.hid hB3) | (clear t3; go_at_call 49; refine (C3.out _ hT3.out.1).mono ?_; rintro e w4 ⟨g3, rfl, hO3, hB4⟩; replace hO3 := Mr.hid hO3; have hT4 := Mr.hid (hT3.out.below hB4); replace hB4 := Mr.hid hB4) | (clear t4; go_at_call 50; refine (C4.out _ hT4.out.1).mono ?_; rintro e w5 ⟨g4, rfl, hO4, hB5⟩; replace hO4 := Mr.hid hO4; have hT5 := Mr.hid (hT4.out.below hB5); replace hB5 := Mr.hid hB5; have hH5 := Mr.hid hT5.out.2.1; obtain ⟨y0, y1, y2, y3, y4, y5⟩ := ifs_cells hT5.out.2.2.1; obtain ⟨f0, f1, f2, f3, f4⟩ := ifs_thaw hT5.out.2.2.1))
  have hH := set5_five (.iface 92 (.pointer (some ⟨g0, 0, none⟩))) (.iface 94 (.pointer (some ⟨g1, 0, none⟩))) (.iface 96 (.pointer (some ⟨g2, 0, none⟩))) (.iface 98 (.pointer (some ⟨g3, 0, none⟩))) (.iface 100 (.pointer (some ⟨g4, 0, none⟩))) hT5.out.2.2.1
  obtain ⟨z0, z1, z2, z3, z4, z5⟩ := ifs_cells hH
  have hD := wd_made (w6 := set5 w5 bR (.iface 92 (.pointer (some ⟨g0, 0, none⟩))) (.iface 94 (.pointer (some ⟨g1, 0, none⟩))) (.iface 96 (.pointer (some ⟨g2, 0, none⟩))) (.iface 98 (.pointer (some ⟨g3, 0, none⟩))) (.iface 100 (.pointer (some ⟨g4, 0, none⟩)))) (B := W.heap.size) hO0.out hO1.out hO2.out hO3.out hO4.out hB1.out hB2.out hB3.out hB4.out hB5.out (fun k h1 h2 => set5_far _ _ _ _ _ _ _ k (by have := hbR.out; have h9 := hW1.out; simp only [← h9] at h1; simp at h1; omega)) (by have h9 := hW1.out; simp only [← h9]; simp; omega)
  have hE := set5_below (b := bR) (.iface 92 (.pointer (some ⟨g0, 0, none⟩))) (.iface 94 (.pointer (some ⟨g1, 0, none⟩))) (.iface 96 (.pointer (some ⟨g2, 0, none⟩))) (.iface 98 (.pointer (some ⟨g3, 0, none⟩))) (.iface 100 (.pointer (some ⟨g4, 0, none⟩))) hT5.out.1 (by have := hbR.out; omega)
  unfold set5 at z0 z1 z2 z3 z4 z5 hD hE
  replace hD := Mr.hid hD
  replace hE := Mr.hid hE
  clear hH
  go_wp2
  refine bodyPost_ret (v := wdV g0 g1 g2 g3 g4) (by simp [results, Try.results28, go_sem, z0, z1, z2, z3, z4, wdV]) rfl ⟨g0, g1, g2, g3, g4, _, rfl, hD.out, hE.out⟩
end Go.Proofs.Ytegbcocbopgghab.Md
/-
  Package model: put, of each object.
-/
namespace Go.Proofs.Ytegbcocbopgghab.Md
open Go.RowKit Mr
set_option linter.unusedVariables false
set_option linter.unusedSimpArgs false
theorem ta_0_0 (a : Addr) (w : World) : (Instr.typeAssert (.iface 92 (.pointer (some a))) 70 92 true).run Try.prog w = .ok (.tuple #[.pointer (some a), .bool true]) w := by kernel_rfl
theorem ta_1_0 (a : Addr) (w : World) : (Instr.typeAssert (.iface 94 (.pointer (some a))) 70 92 true).run Try.prog w = .ok (.tuple #[.pointer none, .bool false]) w := by kernel_rfl
theorem ta_1_1 (a : Addr) (w : World) : (Instr.typeAssert (.iface 94 (.pointer (some a))) 70 94 true).run Try.prog w = .ok (.tuple #[.pointer (some a), .bool true]) w := by kernel_rfl
theorem ta_2_0 (a : Addr) (w : World) : (Instr.typeAssert (.iface 96 (.pointer (some a))) 70 92 true).run Try.prog w = .ok (.tuple #[.pointer none, .bool false]) w := by kernel_rfl
theorem ta_2_1 (a : Addr) (w : World) : (Instr.typeAssert (.iface 96 (.pointer (some a))) 70 94 true).run Try.prog w = .ok (.tuple #[.pointer none, .bool false]) w := by kernel_rfl
theorem ta_2_2 (a : Addr) (w : World) : (Instr.typeAssert (.iface 96 (.pointer (some a))) 70 96 true).run Try.prog w = .ok (.tuple #[.pointer (some a), .bool true]) w := by kernel_rfl
theorem ta_3_0 (a : Addr) (w : World) : (Instr.typeAssert (.iface 98 (.pointer (some a))) 70 92 true).run Try.prog w = .ok (.tuple #[.pointer none, .bool false]) w := by kernel_rfl
theorem ta_3_1 (a : Addr) (w : World) : (Instr.typeAssert (.iface 98 (.pointer (some a))) 70 94 true).run Try.prog w = .ok (.tuple #[.pointer none, .bool false]) w := by kernel_rfl
theorem ta_3_2 (a : Addr) (w : World) : (Instr.typeAssert (.iface 98 (.pointer (some a))) 70 96 true).run Try.prog w = .ok (.tuple #[.pointer none, .bool false]) w := by kernel_rfl
theorem ta_3_3 (a : Addr) (w : World) : (Instr.typeAssert (.iface 98 (.pointer (some a))) 70 98 true).run Try.prog w = .ok (.tuple #[.pointer (some a), .bool true]) w := by kernel_rfl
theorem ta_4_0 (a : Addr) (w : World) : (Instr.typeAssert (.iface 100 (.pointer (some a))) 70 92 true).run Try.prog w = .ok (.tuple #[.pointer none, .bool false]) w := by kernel_rfl
theorem ta_4_1 (a : Addr) (w : World) : (Instr.typeAssert (.iface 100 (.pointer (some a))) 70 94 true).run Try.prog w = .ok (.tuple #[.pointer none, .bool false]) w := by kernel_rfl
theorem ta_4_2 (a : Addr) (w : World) : (Instr.typeAssert (.iface 100 (.pointer (some a))) 70 96 true).run Try.prog w = .ok (.tuple #[.pointer none, .bool false]) w := by kernel_rfl
theorem ta_4_3 (a : Addr) (w : World) : (Instr.typeAssert (.iface 100 (.pointer (some a))) 70 98 true).run Try.prog w = .ok (.tuple #[.pointer none, .bool false]) w := by kernel_rfl
theorem ta_4_4 (a : Addr) (w : World) : (Instr.typeAssert (.iface 100 (.pointer (some a))) 70 100 true).run Try.prog w = .ok (.tuple #[.pointer (some a), .bool true]) w := by kernel_rfl
set_option maxRecDepth 100000 in
set_option maxHeartbeats 2000000 in
theorem put_cell {W : World} {S : Nat → Prop} {g b : Nat} {l : List Int} (ho : Ob W S g 104 3 1 l.length (ints l)) {s0 s1 s2 s3 s4 : Value} (hb : W.heap[b]? = some (ctO s0 s1 s2 s3 s4)) (hbS : ¬ S b) (hsm : l.length * 8 ≤ 225100000000000) :
    Calls Try.prog 38 #[.iface 92 (.pointer (some ⟨g, 0, none⟩)), .pointer (some ⟨b, 0, none⟩)] W fun e w' => e = .returned (.tuple #[]) ∧ ∃ v, Own w' (fun k => S k ∨ (W.heap.size ≤ k ∧ k < w'.heap.size)) 3 1 v l.length (ints l) ∧ w'.heap[b]? = some (ctO v s1 s2 s3 s4) ∧ Fr W w' (fun k => k = b) := by
  obtain ⟨v, hS, hg, hO⟩ := ho
  have cg : W.cell? ⟨g, 0, none⟩ = some v := by simp [World.cell?, hg]
  have hgl := (Array.getElem?_eq_some_iff.1 hg).1
  obtain ⟨y0, y1, y2, y3, y4, y5⟩ := ctO_cells hb
  obtain ⟨f0, f1, f2, f3, f4⟩ := ctO_thaw hb
  have ta0 := ta_0_0 ⟨g, 0, none⟩
  have hE : Hid (Own (W.setCell ⟨b, 0, none⟩ v) (fun k => S k ∨ (W.heap.size ≤ k ∧ k < (W.setCell ⟨b, 0, none⟩ v).heap.size)) 3 1 v l.length (ints l) ∧ (W.setCell ⟨b, 0, none⟩ v).heap[b]? = some (ctO v s1 s2 s3 s4) ∧ Fr W (W.setCell ⟨b, 0, none⟩ v) (fun k => k = b)) :=
    ⟨hO.kept2 (fun k hk _ => Below.heap_setCell W _ v k (fun e => hbS ((show k = b from e) ▸ hk.1))) (fun k hk _ => .inl hk.1), setBlk hb 0 v, (Fr.refl W _).setCell _ v (.inl rfl)⟩
  obtain ⟨av, cv, rfl, _, _⟩ := hO.form
  clear hb hg hO hbS hS
  go_enter Try.func38, Try.ntmps38
  go_wp2
  go_end0
  exact ⟨rfl, _, hE.out⟩
set_option maxRecDepth 100000 in
set_option maxHeartbeats 2000000 in
theorem put_stack {W : World} {S : Nat → Prop} {g b : Nat} {l : List Int} (ho : Ob W S g 106 3 1 l.length (ints l.reverse)) {s0 s1 s2 s3 s4 : Value} (hb : W.heap[b]? = some (ctO s0 s1 s2 s3 s4)) (hbS : ¬ S b) (hsm : l.length * 8 ≤ 225100000000000) :
    Calls Try.prog 38 #[.iface 94 (.pointer (some ⟨g, 0, none⟩)), .pointer (some ⟨b, 0, none⟩)] W fun e w' => e = .returned (.tuple #[]) ∧ ∃ v, Own w' (fun k => S k ∨ (W.heap.size ≤ k ∧ k < w'.heap.size)) 3 1 v l.length (ints l) ∧ w'.heap[b]? = some (ctO s0 v s2 s3 s4) ∧ Fr W w' (fun k => k = b) := by
  obtain ⟨v, hS, hg, hO⟩ := ho
  have cg : W.cell? ⟨g, 0, none⟩ = some v := by simp [World.cell?, hg]
  have hgl := (Array.getElem?_eq_some_iff.1 hg).1
  obtain ⟨y0, y1, y2, y3, y4, y5⟩ := ctO_cells hb
  obtain ⟨f0, f1, f2, f3, f4⟩ := ctO_thaw hb
  have ta0 := ta_1_0 ⟨g, 0, none⟩
  have ta1 := ta_1_1 ⟨g, 0, none⟩
  have hO' := hO.sl
  rw [show l.length = l.reverse.length from (List.length_reverse ..).symm] at hO'
  have C := turned_any hO' (by simpa using hsm)
  clear hO'
  simp only [List.length_reverse] at C
  obtain ⟨av, cv, rfl, _, _⟩ := hO.form
  have HB := hb
  clear hb hg hO hS
  replace C := Mr.hid C
  replace HB := Mr.hid HB
  go_enter Try.func38, Try.ntmps38
  go_wp2_with (first | (go_at_call 52; refine C.out.mono ?_; rintro e w1 ⟨v1, rfl, hO1, hB1⟩; obtain ⟨a1, c1, rfl, _, _⟩ := hO1.form; have HB1 := Mr.hid ((hB1.block b y5).trans HB.out); clear y0 y1 y2 y3 y4 f0 f1 f2 f3 f4; obtain ⟨y0, y1, y2, y3, y4, y6⟩ := ctO_cells HB1.out; obtain ⟨f0, f1, f2, f3, f4⟩ := ctO_thaw HB1.out; replace hO1 := Mr.hid hO1; replace hB1 := Mr.hid hB1))
  go_end0
  refine ⟨rfl, _, ?_, setBlk HB1.out 1 _, (Fr.of_below hB1.out).setCell _ _ (.inl rfl)⟩
  have h1 := hO1.out
  rw [List.reverse_reverse] at h1
  exact h1.kept2 (fun k hk _ => Below.heap_setCell _ _ _ k (fun e => by simp at e; omega)) (fun k hk hl => .inr ⟨hk, by simpa using hl⟩)
set_option maxRecDepth 100000 in
set_option maxHeartbeats 2000000 in
theorem put_queue {W : World} {S : Nat → Prop} {g b : Nat} {l : List Int} (ho : Ob W S g 107 3 1 l.length (ints l)) {s0 s1 s2 s3 s4 : Value} (hb : W.heap[b]? = some (ctO s0 s1 s2 s3 s4)) (hbS : ¬ S b) (hsm : l.length * 8 ≤ 225100000000000) :
    Calls Try.prog 38 #[.iface 96 (.pointer (some ⟨g, 0, none⟩)), .pointer (some ⟨b, 0, none⟩)] W fun e w' => e = .returned (.tuple #[]) ∧ ∃ v, Own w' (fun k => S k ∨ (W.heap.size ≤ k ∧ k < w'.heap.size)) 3 1 v l.length (ints l) ∧ w'.heap[b]? = some (ctO s0 s1 v s3 s4) ∧ Fr W w' (fun k => k = b) := by
  obtain ⟨v, hS, hg, hO⟩ := ho
  have cg : W.cell? ⟨g, 0, none⟩ = some v := by simp [World.cell?, hg]
  have hgl := (Array.getElem?_eq_some_iff.1 hg).1
  obtain ⟨y0, y1, y2, y3, y4, y5⟩ := ctO_cells hb
  obtain ⟨f0, f1, f2, f3, f4⟩ := ctO_thaw hb
  have ta0 := ta_2_0 ⟨g, 0, none⟩
  have ta1 := ta_2_1 ⟨g, 0, none⟩
  have ta2 := ta_2_2 ⟨g, 0, none⟩
  have hE : Hid (Own (W.setCell ⟨b, 2, none⟩ v) (fun k => S k ∨ (W.heap.size ≤ k ∧ k < (W.setCell ⟨b, 2, none⟩ v).heap.size)) 3 1 v l.length (ints l) ∧ (W.setCell ⟨b, 2, none⟩ v).heap[b]? = some (ctO s0 s1 v s3 s4) ∧ Fr W (W.setCell ⟨b, 2, none⟩ v) (fun k => k = b)) :=
    ⟨hO.kept2 (fun k hk _ => Below.heap_setCell W _ v k (fun e => hbS ((show k = b from e) ▸ hk.1))) (fun k hk _ => .inl hk.1), setBlk hb 2 v, (Fr.refl W _).setCell _ v (.inl rfl)⟩
  obtain ⟨av, cv, rfl, _, _⟩ := hO.form
  clear hb hg hO hbS hS
  go_enter Try.func38, Try.ntmps38
  go_wp2
  go_end0
  exact ⟨rfl, _, hE.out⟩
set_option maxRecDepth 100000 in
set_option maxHeartbeats 2000000 in
theorem put_set {W : World} {S : Nat → Prop} {g b : Nat} {l : List Int} (ho : Ob W S g 109 3 1 l.length (ints l)) {s0 s1 s2 s3 s4 : Value} (hb : W.heap[b]? = some (ctO s0 s1 s2 s3 s4)) (hbS : ¬ S b) (hsm : l.length * 8 ≤ 225100000000000) :
    Calls Try.prog 38 #[.iface 98 (.pointer (some ⟨g, 0, none⟩)), .pointer (some ⟨b, 0, none⟩)] W fun e w' => e = .returned (.tuple #[]) ∧ ∃ v, Own w' (fun k => S k ∨ (W.heap.size ≤ k ∧ k < w'.heap.size)) 3 1 v l.length (ints l) ∧ w'.heap[b]? = some (ctO s0 s1 s2 v s4) ∧ Fr W w' (fun k => k = b) := by
  obtain ⟨v, hS, hg, hO⟩ := ho
  have cg : W.cell? ⟨g, 0, none⟩ = some v := by simp [World.cell?, hg]
  have hgl := (Array.getElem?_eq_some_iff.1 hg).1
  obtain ⟨y0, y1, y2, y3, y4, y5⟩ := ctO_cells hb
  obtain ⟨f0, f1, f2, f3, f4⟩ := ctO_thaw hb
  have ta0 := ta_3_0 ⟨g, 0, none⟩
  have ta1 := ta_3_1 ⟨g, 0, none⟩
  have ta2 := ta_3_2 ⟨g, 0, none⟩
  have ta3 := ta_3_3 ⟨g, 0, none⟩
  have hE : Hid (Own (W.setCell ⟨b, 3, none⟩ v) (fun k => S k ∨ (W.heap.size ≤ k ∧ k < (W.setCell ⟨b, 3, none⟩ v).heap.size)) 3 1 v l.length (ints l) ∧ (W.setCell ⟨b, 3, none⟩ v).heap[b]? = some (ctO s0 s1 s2 v s4) ∧ Fr W (W.setCell ⟨b, 3, none⟩ v) (fun k => k = b)) :=
    ⟨hO.kept2 (fun k hk _ => Below.heap_setCell W _ v k (fun e => hbS ((show k = b from e) ▸ hk.1))) (fun k hk _ => .inl hk.1), setBlk hb 3 v, (Fr.refl W _).setCell _ v (.inl rfl)⟩
  obtain ⟨av, cv, rfl, _, _⟩ := hO.form
  clear hb hg hO hbS hS
  go_enter Try.func38, Try.ntmps38
  go_wp2
  go_end0
  exact ⟨rfl, _, hE.out⟩
set_option maxRecDepth 100000 in
set_option maxHeartbeats 2000000 in
theorem put_table {W : World} {S : Nat → Prop} {g b : Nat} {l : List (Int × Int)} (ho : Ob W S g 111 81 2 l.length (prs l)) {s0 s1 s2 s3 s4 : Value} (hb : W.heap[b]? = some (ctO s0 s1 s2 s3 s4)) (hbS : ¬ S b) (hsm : l.length * 16 ≤ 225100000000000) :
    Calls Try.prog 38 #[.iface 100 (.pointer (some ⟨g, 0, none⟩)), .pointer (some ⟨b, 0, none⟩)] W fun e w' => e = .returned (.tuple #[]) ∧ ∃ v, Own w' (fun k => S k ∨ (W.heap.size ≤ k ∧ k < w'.heap.size)) 81 2 v l.length (prs l) ∧ w'.heap[b]? = some (ctO s0 s1 s2 s3 v) ∧ Fr W w' (fun k => k = b) := by
  obtain ⟨v, hS, hg, hO⟩ := ho
  have cg : W.cell? ⟨g, 0, none⟩ = some v := by simp [World.cell?, hg]
  have hgl := (Array.getElem?_eq_some_iff.1 hg).1
  obtain ⟨y0, y1, y2, y3, y4, y5⟩ := ctO_cells hb
  obtain ⟨f0, f1, f2, f3, f4⟩ := ctO_thaw hb
  have ta0 := ta_4_0 ⟨g, 0, none⟩
  have ta1 := ta_4_1 ⟨g, 0, none⟩
  have ta2 := ta_4_2 ⟨g, 0, none⟩
  have ta3 := ta_4_3 ⟨g, 0, none⟩
  have ta4 := ta_4_4 ⟨g, 0, none⟩
  have hE : Hid (Own (W.setCell ⟨b, 4, none⟩ v) (fun k => S k ∨ (W.heap.size ≤ k ∧ k < (W.setCell ⟨b, 4, none⟩ v).heap.size)) 81 2 v l.length (prs l) ∧ (W.setCell ⟨b, 4, none⟩ v).heap[b]? = some (ctO s0 s1 s2 s3 v) ∧ Fr W (W.setCell ⟨b, 4, none⟩ v) (fun k => k = b)) :=
    ⟨hO.kept2 (fun k hk _ => Below.heap_setCell W _ v k (fun e => hbS ((show k = b from e) ▸ hk.1))) (fun k hk _ => .inl hk.1), setBlk hb 4 v, (Fr.refl W _).setCell _ v (.inl rfl)⟩
  obtain ⟨av, cv, rfl, _, _⟩ := hO.form
  clear hb hg hO hbS hS
  go_enter Try.func38, Try.ntmps38
  go_wp2
  go_end0
  exact ⟨rfl, _, hE.out⟩
/-- Contents in rows of their own, each list with blocks of its own: those that lab gives its number; all of them are B or above. -/
structure CtOwn (W : World) (B : Nat) (lab : Nat → Nat) (v0 v1 v2 v3 v4 : Value) (x : Ct) : Prop where
  low : ∀ k, lab k < 5 → B ≤ k
  cell : Own W (fun k => lab k = 0) 3 1 v0 x.cell.length (ints x.cell)
  stack : Own W (fun k => lab k = 1) 3 1 v1 x.stack.length (ints x.stack)
  queue : Own W (fun k => lab k = 2) 3 1 v2 x.queue.length (ints x.queue)
  set : Own W (fun k => lab k = 3) 3 1 v3 x.set.length (ints x.set)
  table : Own W (fun k => lab k = 4) 81 2 v4 x.table.length (prs x.table)
theorem CtOwn.at {W : World} {B : Nat} {lab : Nat → Nat} {v0 v1 v2 v3 v4 : Value} {x : Ct} (h : CtOwn W B lab v0 v1 v2 v3 v4 x) : CtAt W (fun k => B ≤ k) v0 v1 v2 v3 v4 x :=
  ⟨h.cell.sl.mono (fun k e => h.low k (by omega)), h.stack.sl.mono (fun k e => h.low k (by omega)), h.queue.sl.mono (fun k e => h.low k (by omega)), h.set.sl.mono (fun k e => h.low k (by omega)), h.table.sl.mono (fun k e => h.low k (by omega))⟩
def labc (n : Nat) (lab : Nat → Nat) (s0 s1 s2 s3 s4 : Nat) (k : Nat) : Nat := if k < n then lab k else labs s0 s1 s2 s3 s4 k
theorem labc_old {n : Nat} {lab : Nat → Nat} {s0 s1 s2 s3 s4 k : Nat} (h : k < n) : labc n lab s0 s1 s2 s3 s4 k = lab k := if_pos h
theorem labc_new {n : Nat} {lab : Nat → Nat} {s0 s1 s2 s3 s4 k : Nat} (h : n ≤ k) : labc n lab s0 s1 s2 s3 s4 k = labs s0 s1 s2 s3 s4 k := if_neg (by omega)
end Go.Proofs.Ytegbcocbopgghab.Md
