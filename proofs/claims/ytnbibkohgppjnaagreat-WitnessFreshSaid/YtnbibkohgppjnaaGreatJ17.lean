import Derived.Test.YtnbibkohgppjnaaGreatJ16
set_option linter.unusedVariables false
set_option linter.unusedSimpArgs false
namespace Go.Proofs.YtnbibkohgppjnaaGreat.Md
open Go.RowKit Mr
set_option maxRecDepth 100000 in
set_option maxHeartbeats 8000000 in
theorem worldOf_any {W : World} {S : Nat → Prop} {u0 u1 u2 u3 u4 : Value} {x : Ct} (hu : CtAt W S u0 u1 u2 u3 u4 x) (hin : CtIn 225100000000000 x) :
  Calls Tryz.prog 75 #[.agg #[u0, u1, u2, u3, u4]] W fun e w' => ∃ g0 g1 g2 g3 g4 lab, e = .returned (wdV g0 g1 g2 g3 g4) ∧ Wd w' W.heap.size lab g0 g1 g2 g3 g4 x ∧ Below W.heap.size W w' := by
 obtain ⟨a0, c0, rfl, _⟩ := hu.cell.form
 obtain ⟨a1, c1, rfl, _⟩ := hu.stack.form
 obtain ⟨a2, c2, rfl, _⟩ := hu.queue.form
 obtain ⟨a3, c3, rfl, _⟩ := hu.set.form
 obtain ⟨a4, c4, rfl, _⟩ := hu.table.form
 have C0 := fun w' (hB : Below W.heap.size W w') => newCell_any (hu.below hB).cell hin.cell
 have C1 := fun w' (hB : Below W.heap.size W w') => newStack_any (hu.below hB).stack hin.stack
 have C2 := fun w' (hB : Below W.heap.size W w') => newQueue_any (hu.below hB).queue hin.queue
 have C3 := fun w' (hB : Below W.heap.size W w') => newSet_any (hu.below hB).set hin.set
 have C4 := fun w' (hB : Below W.heap.size W w') => newTable_any (hu.below hB).table hin.table
 have hT0 := Tq.new W (ctO (.slice a0 x.cell.length c0) (.slice a1 x.stack.length c1) (.slice a2 x.queue.length c2) (.slice a3 x.set.length c3) (.slice a4 x.table.length c4)) (.cells #[.nilIface, .nilIface, .nilIface, .nilIface, .nilIface] 125 (0, 0))
 unfold ctO at hT0
 replace hT0 := Mr.hid hT0
 clear hu
 replace C0 := Mr.hid C0
 replace C1 := Mr.hid C1
 replace C2 := Mr.hid C2
 replace C3 := Mr.hid C3
 replace C4 := Mr.hid C4
 go_enter Tryz.func75, Tryz.ntmps75
 go_wp2
 have hsz : (W.alloc (.cells #[.slice a0 x.cell.length c0, .slice a1 x.stack.length c1, .slice a2 x.queue.length c2, .slice a3 x.set.length c3, .slice a4 x.table.length c4] 55 (0, 0))).heap.size = W.heap.size + 1 := by simp
 obtain ⟨W1, hW1⟩ : ∃ W1, (W.alloc (.cells #[.slice a0 x.cell.length c0, .slice a1 x.stack.length c1, .slice a2 x.queue.length c2, .slice a3 x.set.length c3, .slice a4 x.table.length c4] 55 (0, 0))).alloc (.cells #[.nilIface, .nilIface, .nilIface, .nilIface, .nilIface] 125 (0, 0)) = W1 := ⟨_, rfl⟩
 rw [hW1] at hT0 ⊢
 obtain ⟨bU, hbU⟩ : ∃ b, b = W.heap.size := ⟨_, rfl⟩
 obtain ⟨bR, hbR⟩ : ∃ b, b = W.heap.size + 1 := ⟨_, rfl⟩
 rw [← hbR] at hT0 ⊢
 have hT0' : Tq W W1 bU bR (.cells #[.slice a0 x.cell.length c0, .slice a1 x.stack.length c1, .slice a2 x.queue.length c2, .slice a3 x.set.length c3, .slice a4 x.table.length c4] 55 (0, 0)) (.cells #[.nilIface, .nilIface, .nilIface, .nilIface, .nilIface] 125 (0, 0)) := by rw [hbU]; exact hT0.out
 clear hT0
 rw [show (⟨W.heap.size, 0, none⟩ : Addr) = ⟨bU, 0, none⟩ from by rw [hbU]]
 replace hbU := Mr.hid hbU
 replace hbR := Mr.hid hbR
 replace hW1 := Mr.hid hW1
 clear hsz
 have KS : ∀ w' : World, Tq W w' bU bR (.cells #[.slice a0 x.cell.length c0, .slice a1 x.stack.length c1, .slice a2 x.queue.length c2, .slice a3 x.set.length c3, .slice a4 x.table.length c4] 55 (0, 0)) (.cells #[.nilIface, .nilIface, .nilIface, .nilIface, .nilIface] 125 (0, 0)) → w'.cell? ⟨bU, 0, none⟩ = some (.slice a0 x.cell.length c0) ∧ w'.cell? ⟨bU, 1, none⟩ = some (.slice a1 x.stack.length c1) ∧ w'.cell? ⟨bU, 2, none⟩ = some (.slice a2 x.queue.length c2) ∧ w'.cell? ⟨bU, 3, none⟩ = some (.slice a3 x.set.length c3) ∧ w'.cell? ⟨bU, 4, none⟩ = some (.slice a4 x.table.length c4) := fun w' hT => by
  obtain ⟨k0, k1, k2, k3, k4, _⟩ := ifs_cells hT.2.1
  exact ⟨k0, k1, k2, k3, k4⟩
 replace KS := Mr.hid KS
 have hne : bU < bR := hT0'.2.2.2.2.2.2
 have hT0 := Mr.hid hT0'.drew
 clear hT0'
 have t0 : Hid True := trivial
 have t1 : Hid True := trivial
 have t2 : Hid True := trivial
 have t3 : Hid True := trivial
 have t4 : Hid True := trivial
 go_region_held3 (fun w' => w'.cell? ⟨bU, 0, none⟩ = some (.slice a0 x.cell.length c0) ∧ w'.cell? ⟨bU, 1, none⟩ = some (.slice a1 x.stack.length c1) ∧ w'.cell? ⟨bU, 2, none⟩ = some (.slice a2 x.queue.length c2) ∧ w'.cell? ⟨bU, 3, none⟩ = some (.slice a3 x.set.length c3) ∧ w'.cell? ⟨bU, 4, none⟩ = some (.slice a4 x.table.length c4)) (first | with_reducible exact KS.out _ hT5.out | with_reducible exact KS.out _ hT4.out | with_reducible exact KS.out _ hT3.out | with_reducible exact KS.out _ hT2.out | with_reducible exact KS.out _ hT1.out | with_reducible exact KS.out _ hT0.out | with_reducible exact five_far hH5.out hne _ _ _ _ _ | go_keep) (first | (clear t0; go_at_call 89; refine (C0.out _ hT0.out.1).mono ?_; rintro e w1 ⟨g0, rfl, hO0, hB1⟩; replace hO0 := Mr.hid hO0; have hT1 := Mr.hid (hT0.out.below hB1); replace hB1 := Mr.hid hB1) | (clear t1; go_at_call 90; refine (C1.out _ hT1.out.1).mono ?_; rintro e w2 ⟨g1, rfl, hO1, hB2⟩; replace hO1 := Mr.hid hO1; have hT2 := Mr.hid (hT1.out.below hB2); replace hB2 := Mr.hid hB2) | (clear t2; go_at_call 91; refine (C2.out _ hT2.out.1).mono ?_; rintro e w3 ⟨g2, rfl, hO2, hB3⟩; replace hO2 := Mr.hid hO2; have hT3 := Mr.hid (hT2.out.below hB3); replace hB3 := Mr.hid hB3) | (clear t3; go_at_call 92; refine (C3.out _ hT3.out.1).mono ?_; rintro e w4 ⟨g3, rfl, hO3, hB4⟩; replace hO3 := Mr.hid hO3; have hT4 := Mr.hid (hT3.out.below hB4); replace hB4 := Mr.hid hB4) | (clear t4; go_at_call 93; refine (C4.out _ hT4.out.1).mono ?_; rintro e w5 ⟨g4, rfl, hO4, hB5⟩; replace hO4 := Mr.hid hO4; have hT5 := Mr.hid (hT4.out.below hB5); replace hB5 := Mr.hid hB5; have hH5 := Mr.hid hT5.out.2.1; obtain ⟨y0, y1, y2, y3, y4, y5⟩ := ifs_cells hT5.out.2.2.1; obtain ⟨f0, f1, f2, f3, f4⟩ := ifs_thaw hT5.out.2.2.1))
 have hH := set5_five (.iface 139 (.pointer (some ⟨g0, 0, none⟩))) (.iface 141 (.pointer (some ⟨g1, 0, none⟩))) (.iface 143 (.pointer (some ⟨g2, 0, none⟩))) (.iface 145 (.pointer (some ⟨g3, 0, none⟩))) (.iface 147 (.pointer (some ⟨g4, 0, none⟩))) hT5.out.2.2.1
 obtain ⟨z0, z1, z2, z3, z4, z5⟩ := ifs_cells hH
 have hD := wd_made (w6 := set5 w5 bR (.iface 139 (.pointer (some ⟨g0, 0, none⟩))) (.iface 141 (.pointer (some ⟨g1, 0, none⟩))) (.iface 143 (.pointer (some ⟨g2, 0, none⟩))) (.iface 145 (.pointer (some ⟨g3, 0, none⟩))) (.iface 147 (.pointer (some ⟨g4, 0, none⟩)))) (B := W.heap.size) hO0.out hO1.out hO2.out hO3.out hO4.out hB1.out hB2.out hB3.out hB4.out hB5.out (fun k h1 h2 => set5_far _ _ _ _ _ _ _ k (by have := hbR.out; have h9 := hW1.out; simp only [← h9] at h1; simp at h1; omega)) (by have h9 := hW1.out; simp only [← h9]; simp; omega)
 have hE := set5_below (b := bR) (.iface 139 (.pointer (some ⟨g0, 0, none⟩))) (.iface 141 (.pointer (some ⟨g1, 0, none⟩))) (.iface 143 (.pointer (some ⟨g2, 0, none⟩))) (.iface 145 (.pointer (some ⟨g3, 0, none⟩))) (.iface 147 (.pointer (some ⟨g4, 0, none⟩))) hT5.out.1 (by have := hbR.out; omega)
 unfold set5 at z0 z1 z2 z3 z4 z5 hD hE
 replace hD := Mr.hid hD
 replace hE := Mr.hid hE
 clear hH
 go_wp2
 refine bodyPost_ret (v := wdV g0 g1 g2 g3 g4) (by simp [results, Tryz.results75, go_sem, z0, z1, z2, z3, z4, wdV]) rfl ⟨g0, g1, g2, g3, g4, _, rfl, hD.out, hE.out⟩
end Go.Proofs.YtnbibkohgppjnaaGreat.Md
