import Derived.Test.YtegbcocbopgghacJ13
import Derived.Test.YtegbcocbopgghacJ14
import Derived.Test.YtegbcocbopgghacJ12
/-
  Package model: worldOf.
-/
namespace Go.Proofs.Ytegbcocbopgghac.Md
open Go.RowKit Mr
set_option linter.unusedVariables false
set_option linter.unusedSimpArgs false
set_option maxRecDepth 100000 in
set_option maxHeartbeats 8000000 in
theorem worldOf_any {W : World} {S : Nat → Prop} {u0 u1 u2 u3 u4 : Value} {x : Ct} (hu : CtAt W S u0 u1 u2 u3 u4 x) (hin : CtIn 225100000000000 x) :
    Calls Try.prog 13 #[.agg #[u0, u1, u2, u3, u4]] W fun e w' => ∃ g0 g1 g2 g3 g4 lab, e = .returned (wdV g0 g1 g2 g3 g4) ∧ Wd w' W.heap.size lab g0 g1 g2 g3 g4 x ∧ Below W.heap.size W w' := by
  obtain ⟨a0, c0, rfl, _⟩ := hu.cell.form
  obtain ⟨a1, c1, rfl, _⟩ := hu.stack.form
  obtain ⟨a2, c2, rfl, _⟩ := hu.queue.form
  obtain ⟨a3, c3, rfl, _⟩ := hu.set.form
  obtain ⟨a4, c4, rfl, _⟩ := hu.table.form
  have C0 := fun w' (hB : Below W.heap.size W w') => newCell_any (hu.below hB).cell hin.cell
  have C1 := fun w' (hB : Below W.heap.size W w') => newStack_any (hu.below hB).stack hin.stack
  have C2 := fun w' (hB : Below W.heap.size W w') => newQueue_any (hu.below hB).queue hin.queue
  have C3 := fun w' (hB : Below W.heap.size W w') => newSet_any (hu.below hB).set hin.set
  have C4 := fun w' (hB : Below W.heap.size W w') => newTable_any (hu.below hB).table hin.table
  have hT0 := Tq.new W (ctO (.slice a0 x.cell.length c0) (.slice a1 x.stack.length c1) (.slice a2 x.queue.length c2) (.slice a3 x.set.length c3) (.slice a4 x.table.length c4)) (.cells #[.nilIface, .nilIface, .nilIface, .nilIface, .nilIface] 48 (0, 0))
  unfold ctO at hT0
  replace hT0 := Mr.hid hT0
  clear hu
  replace C0 := Mr.hid C0
  replace C1 := Mr.hid C1
  replace C2 := Mr.hid C2
  replace C3 := Mr.hid C3
  replace C4 := Mr.hid C4
  go_enter Try.func13, Try.ntmps13
  go_wp2
  have hsz : (W.alloc (.cells #[.slice a0 x.cell.length c0, .slice a1 x.stack.length c1, .slice a2 x.queue.length c2, .slice a3 x.set.length c3, .slice a4 x.table.length c4] 25 (0, 0))).heap.size = W.heap.size + 1 := by simp
  obtain ⟨W1, hW1⟩ : ∃ W1, (W.alloc (.cells #[.slice a0 x.cell.length c0, .slice a1 x.stack.length c1, .slice a2 x.queue.length c2, .slice a3 x.set.length c3, .slice a4 x.table.length c4] 25 (0, 0))).alloc (.cells #[.nilIface, .nilIface, .nilIface, .nilIface, .nilIface] 48 (0, 0)) = W1 := ⟨_, rfl⟩
  rw [hW1] at hT0 ⊢
  obtain ⟨bU, hbU⟩ : ∃ b, b = W.heap.size := ⟨_, rfl⟩
  obtain ⟨bR, hbR⟩ : ∃ b, b = W.heap.size + 1 := ⟨_, rfl⟩
  rw [← hbR] at hT0 ⊢
  have hT0' : Tq W W1 bU bR (.cells #[.slice a0 x.cell.length c0, .slice a1 x.stack.length c1, .slice a2 x.queue.length c2, .slice a3 x.set.length c3, .slice a4 x.table.length c4] 25 (0, 0)) (.cells #[.nilIface, .nilIface, .nilIface, .nilIface, .nilIface] 48 (0, 0)) := by rw [hbU]; exact hT0.out
  clear hT0
  rw [show (⟨W.heap.size, 0, none⟩ : Addr) = ⟨bU, 0, none⟩ from by rw [hbU]]
  replace hbU := Mr.hid hbU
  replace hbR := Mr.hid hbR
  replace hW1 := Mr.hid hW1
  clear hsz
  have KS : ∀ w' : World, Tq W w' bU bR (.cells #[.slice a0 x.cell.length c0, .slice a1 x.stack.length c1, .slice a2 x.queue.length c2, .slice a3 x.set.length c3, .slice a4 x.table.length c4] 25 (0, 0)) (.cells #[.nilIface, .nilIface, .nilIface, .nilIface, .nilIface] 48 (0, 0)) → w'.cell? ⟨bU, 0, none⟩ = some (.slice a0 x.cell.length c0) ∧ w'.cell? ⟨bU, 1, none⟩ = some (.slice a1 x.stack.length c1) ∧ w'.cell? ⟨bU, 2, none⟩ = some (.slice a2 x.queue.length c2) ∧ w'.cell? ⟨bU, 3, none⟩ = some (.slice a3 x.set.length c3) ∧ w'.cell? ⟨bU, 4, none⟩ = some (.slice a4 x.table.length c4) := fun w' hT => by
    obtain ⟨k0, k1, k2, k3, k4, _⟩ := ifs_cells hT.2.1
    exact ⟨k0, k1, k2, k3, k4⟩
  replace KS := Mr.hid KS
  have hne : bU < bR := hT0'.2.2.2.2.2.2
  have hT0 := Mr.hid hT0'.drew
  clear hT0'
  have t0 : Hid True := trivial
  have t1 : Hid True := trivial
  have t2 : Hid True := trivial
  have t3 : Hid True := trivial
  have t4 : Hid True := trivial
  go_region_held3 (fun w' => w'.cell? ⟨bU, 0, none⟩ = some (.slice a0 x.cell.length c0) ∧ w'.cell? ⟨bU, 1, none⟩ = some (.slice a1 x.stack.length c1) ∧ w'.cell? ⟨bU, 2, none⟩ = some (.slice a2 x.queue.length c2) ∧ w'.cell? ⟨bU, 3, none⟩ = some (.slice a3 x.set.length c3) ∧ w'.cell? ⟨bU, 4, none⟩ = some (.slice a4 x.table.length c4)) (first | with_reducible exact KS.out _ hT5.out | with_reducible exact KS.out _ hT4.out | with_reducible exact KS.out _ hT3.out | with_reducible exact KS.out _ hT2.out | with_reducible exact KS.out _ hT1.out | with_reducible exact KS.out _ hT0.out | with_reducible exact five_far hH5.out hne _ _ _ _ _ | go_keep) (first | (clear t0; go_at_call 23; refine (C0.out _ hT0.out.1).mono ?_; rintro e w1 ⟨g0, rfl, hO0, hB1⟩; replace hO0 := Mr.hid hO0; have hT1 := Mr.hid (hT0.out.below hB1); replace hB1 := Mr.hid hB1) | (clear t1; go_at_call 24; refine (C1.out _ hT1.out.1).mono ?_; rintro e w2 ⟨g1, rfl, hO1, hB2⟩; replace hO1 := Mr.hid hO1; have hT2 := Mr.hid (hT1.out.below hB2); replace hB2 := Mr.hid hB2) | (clear t2; go_at_call 25; refine (C2.out _ hT2.out.1).mono ?_; rintro e w3 ⟨g2, rfl, hO2, hB3⟩; replace hO2 := Mr.hid hO2; have hT3 := Mr.hid (hT2.out.below hB3); replace hB3 := Mr.hid hB3) | (clear t3; go_at_call 26; refine (C3.out _ hT3.out.1).mono ?_; rintro e w4 ⟨g3, rfl, hO3, hB4⟩; replace hO3 := Mr.hid hO3; have hT4 := Mr.hid (hT3.out.below hB4); replace hB4 := Mr.hid hB4) | (clear t4; go_at_call 27; refine (C4.out _ hT4.out.1).mono ?_; rintro e w5 ⟨g4, rfl, hO4, hB5⟩; replace hO4 := Mr.hid hO4; have hT5 := Mr.hid (hT4.out.below hB5); replace hB5 := Mr.hid hB5; have hH5 := Mr.hid hT5.out.2.1; obtain ⟨y0, y1, y2, y3, y4, y5⟩ := ifs_cells hT5.out.2.2.1; obtain ⟨f0, f1, f2, f3, f4⟩ := ifs_thaw hT5.out.2.2.1))
  have hH := set5_five (.iface 55 (.pointer (some ⟨g0, 0, none⟩))) (.iface 57 (.pointer (some ⟨g1, 0, none⟩))) (.iface 59 (.pointer (some ⟨g2, 0, none⟩))) (.iface 61 (.pointer (some ⟨g3, 0, none⟩))) (.iface 63 (.pointer (some ⟨g4, 0, none⟩))) hT5.out.2.2.1
  obtain ⟨z0, z1, z2, z3, z4, z5⟩ := ifs_cells hH
  have hD := wd_made (w6 := set5 w5 bR (.iface 55 (.pointer (some ⟨g0, 0, none⟩))) (.iface 57 (.pointer (some ⟨g1, 0, none⟩))) (.iface 59 (.pointer (some ⟨g2, 0, none⟩))) (.iface 61 (.pointer (some ⟨g3, 0, none⟩))) (.iface 63 (.pointer (some ⟨g4, 0, none⟩)))) (B := W.heap.size) hO0.out hO1.out hO2.out hO3.out hO4.out hB1.out hB2.out hB3.out hB4.out hB5.out (fun k h1 h2 => set5_far _ _ _ _ _ _ _ k (by have := hbR.out; have h9 := hW1.out; simp only [← h9] at h1; simp at h1; omega)) (by have h9 := hW1.out; simp only [← h9]; simp; omega)
  have hE := set5_below (b := bR) (.iface 55 (.pointer (some ⟨g0, 0, none⟩))) (.iface 57 (.pointer (some ⟨g1, 0, none⟩))) (.iface 59 (.pointer (some ⟨g2, 0, none⟩))) (.iface 61 (.pointer (some ⟨g3, 0, none⟩))) (.iface 63 (.pointer (some ⟨g4, 0, none⟩))) hT5.out.1 (by have := hbR.out; omega)
  unfold set5 at z0 z1 z2 z3 z4 z5 hD hE
  replace hD := Mr.hid hD
  replace hE := Mr.hid hE
  clear hH
  go_wp2
  refine bodyPost_ret (v := wdV g0 g1 g2 g3 g4) (by simp [results, Try.results13, go_sem, z0, z1, z2, z3, z4, wdV]) rfl ⟨g0, g1, g2, g3, g4, _, rfl, hD.out, hE.out⟩
end Go.Proofs.Ytegbcocbopgghac.Md
/-
  Package model: the objects kept, one of them changed; of; the methods by their names.
-/
namespace Go.Proofs.Ytegbcocbopgghac.Md
open Go.RowKit Mr
set_option linter.unusedVariables false
set_option linter.unusedSimpArgs false
def labr (lab : Nat → Nat) (s k : Nat) : Nat := if k < s then lab k else 5
theorem labr_in {lab : Nat → Nat} {s k : Nat} (h : k < s) : labr lab s k = lab k := if_pos h
theorem labr_hi {lab : Nat → Nat} {s k : Nat} (h : labr lab s k < 5) : k < s := by
  by_cases c : k < s
  · exact c
  · unfold labr at h; rw [if_neg c] at h; omega
def labp (lab : Nat → Nat) (s i k : Nat) : Nat := if s ≤ k then i else lab k
theorem labp_in {lab : Nat → Nat} {s i k : Nat} (h : lab k = i ∨ s ≤ k) : labp lab s i k = i := by
  unfold labp
  by_cases c : s ≤ k
  · rw [if_pos c]
  · rw [if_neg c]; exact h.resolve_right c
theorem labp_old {lab : Nat → Nat} {s i k : Nat} (h : k < s) : labp lab s i k = lab k := if_neg (by omega)
theorem Wd.cut {W W' : World} {B : Nat} {lab : Nat → Nat} {g0 g1 g2 g3 g4 : Nat} {x : Ct} (h : Wd W B lab g0 g1 g2 g3 g4 x) (hB : Below W.heap.size W W') : Wd W' B (labr lab W.heap.size) g0 g1 g2 g3 g4 x :=
  ⟨fun k hk => h.low k (by rw [labr_in (labr_hi hk)] at hk; exact hk), h.cell.kept (fun k _ hl => hB.block k hl) (fun k hk hl => by rw [labr_in hl]; exact hk), h.stack.kept (fun k _ hl => hB.block k hl) (fun k hk hl => by rw [labr_in hl]; exact hk), h.queue.kept (fun k _ hl => hB.block k hl) (fun k hk hl => by rw [labr_in hl]; exact hk), h.set.kept (fun k _ hl => hB.block k hl) (fun k hk hl => by rw [labr_in hl]; exact hk), h.table.kept (fun k _ hl => hB.block k hl) (fun k hk hl => by rw [labr_in hl]; exact hk)⟩
theorem Wd.keep {W W' : World} {B : Nat} {lab : Nat → Nat} {g0 g1 g2 g3 g4 : Nat} {x : Ct} (h : Wd W B lab g0 g1 g2 g3 g4 x) (hB : Below W.heap.size W W') : Wd W' B lab g0 g1 g2 g3 g4 x :=
  ⟨h.low, h.cell.kept (fun k _ hl => hB.block k hl) (fun k hk _ => hk), h.stack.kept (fun k _ hl => hB.block k hl) (fun k hk _ => hk), h.queue.kept (fun k _ hl => hB.block k hl) (fun k hk _ => hk), h.set.kept (fun k _ hl => hB.block k hl) (fun k hk _ => hk), h.table.kept (fun k _ hl => hB.block k hl) (fun k hk _ => hk)⟩
theorem Wd.put0 {W W' : World} {B : Nat} {lab : Nat → Nat} {g0 g1 g2 g3 g4 : Nat} {x : Ct} (h : Wd W B lab g0 g1 g2 g3 g4 x) (hBW : B ≤ W.heap.size) {l : List Int} (ho : Ob W' (fun k => lab k = 0 ∨ W.heap.size ≤ k) g0 82 3 1 l.length (ints l)) (hF : Fr W W' (fun k => lab k = 0)) : Wd W' B (labp lab W.heap.size 0) g0 g1 g2 g3 g4 { x with cell := l } := by
  refine ⟨fun k hk => ?_, ?_, h.stack.kept (fun k hk hl => hF.block k hl (fun e => by rw [hk] at e; omega)) (fun k hk hl => by rw [labp_old hl]; exact hk), h.queue.kept (fun k hk hl => hF.block k hl (fun e => by rw [hk] at e; omega)) (fun k hk hl => by rw [labp_old hl]; exact hk), h.set.kept (fun k hk hl => hF.block k hl (fun e => by rw [hk] at e; omega)) (fun k hk hl => by rw [labp_old hl]; exact hk), h.table.kept (fun k hk hl => hF.block k hl (fun e => by rw [hk] at e; omega)) (fun k hk hl => by rw [labp_old hl]; exact hk)⟩
  · by_cases c : W.heap.size ≤ k
    · omega
    · rw [labp_old (by omega)] at hk; exact h.low k hk
  · exact ho.kept (fun _ _ _ => rfl) (fun k hk _ => labp_in hk)
theorem Wd.put1 {W W' : World} {B : Nat} {lab : Nat → Nat} {g0 g1 g2 g3 g4 : Nat} {x : Ct} (h : Wd W B lab g0 g1 g2 g3 g4 x) (hBW : B ≤ W.heap.size) {l : List Int} (ho : Ob W' (fun k => lab k = 1 ∨ W.heap.size ≤ k) g1 83 3 1 l.length (ints l.reverse)) (hF : Fr W W' (fun k => lab k = 1)) : Wd W' B (labp lab W.heap.size 1) g0 g1 g2 g3 g4 { x with stack := l } := by
  refine ⟨fun k hk => ?_, h.cell.kept (fun k hk hl => hF.block k hl (fun e => by rw [hk] at e; omega)) (fun k hk hl => by rw [labp_old hl]; exact hk), ?_, h.queue.kept (fun k hk hl => hF.block k hl (fun e => by rw [hk] at e; omega)) (fun k hk hl => by rw [labp_old hl]; exact hk), h.set.kept (fun k hk hl => hF.block k hl (fun e => by rw [hk] at e; omega)) (fun k hk hl => by rw [labp_old hl]; exact hk), h.table.kept (fun k hk hl => hF.block k hl (fun e => by rw [hk] at e; omega)) (fun k hk hl => by rw [labp_old hl]; exact hk)⟩
  · by_cases c : W.heap.size ≤ k
    · omega
    · rw [labp_old (by omega)] at hk; exact h.low k hk
  · exact ho.kept (fun _ _ _ => rfl) (fun k hk _ => labp_in hk)
theorem Wd.put2 {W W' : World} {B : Nat} {lab : Nat → Nat} {g0 g1 g2 g3 g4 : Nat} {x : Ct} (h : Wd W B lab g0 g1 g2 g3 g4 x) (hBW : B ≤ W.heap.size) {l : List Int} (ho : Ob W' (fun k => lab k = 2 ∨ W.heap.size ≤ k) g2 84 3 1 l.length (ints l)) (hF : Fr W W' (fun k => lab k = 2)) : Wd W' B (labp lab W.heap.size 2) g0 g1 g2 g3 g4 { x with queue := l } := by
  refine ⟨fun k hk => ?_, h.cell.kept (fun k hk hl => hF.block k hl (fun e => by rw [hk] at e; omega)) (fun k hk hl => by rw [labp_old hl]; exact hk), h.stack.kept (fun k hk hl => hF.block k hl (fun e => by rw [hk] at e; omega)) (fun k hk hl => by rw [labp_old hl]; exact hk), ?_, h.set.kept (fun k hk hl => hF.block k hl (fun e => by rw [hk] at e; omega)) (fun k hk hl => by rw [labp_old hl]; exact hk), h.table.kept (fun k hk hl => hF.block k hl (fun e => by rw [hk] at e; omega)) (fun k hk hl => by rw [labp_old hl]; exact hk)⟩
  · by_cases c : W.heap.size ≤ k
    · omega
    · rw [labp_old (by omega)] at hk; exact h.low k hk
  · exact ho.kept (fun _ _ _ => rfl) (fun k hk _ => labp_in hk)
theorem Wd.put3 {W W' : World} {B : Nat} {lab : Nat → Nat} {g0 g1 g2 g3 g4 : Nat} {x : Ct} (h : Wd W B lab g0 g1 g2 g3 g4 x) (hBW : B ≤ W.heap.size) {l : List Int} (ho : Ob W' (fun k => lab k = 3 ∨ W.heap.size ≤ k) g3 86 3 1 l.length (ints l)) (hF : Fr W W' (fun k => lab k = 3)) : Wd W' B (labp lab W.heap.size 3) g0 g1 g2 g3 g4 { x with set := l } := by
  refine ⟨fun k hk => ?_, h.cell.kept (fun k hk hl => hF.block k hl (fun e => by rw [hk] at e; omega)) (fun k hk hl => by rw [labp_old hl]; exact hk), h.stack.kept (fun k hk hl => hF.block k hl (fun e => by rw [hk] at e; omega)) (fun k hk hl => by rw [labp_old hl]; exact hk), h.queue.kept (fun k hk hl => hF.block k hl (fun e => by rw [hk] at e; omega)) (fun k hk hl => by rw [labp_old hl]; exact hk), ?_, h.table.kept (fun k hk hl => hF.block k hl (fun e => by rw [hk] at e; omega)) (fun k hk hl => by rw [labp_old hl]; exact hk)⟩
  · by_cases c : W.heap.size ≤ k
    · omega
    · rw [labp_old (by omega)] at hk; exact h.low k hk
  · exact ho.kept (fun _ _ _ => rfl) (fun k hk _ => labp_in hk)
theorem Wd.put4 {W W' : World} {B : Nat} {lab : Nat → Nat} {g0 g1 g2 g3 g4 : Nat} {x : Ct} (h : Wd W B lab g0 g1 g2 g3 g4 x) (hBW : B ≤ W.heap.size) {l : List (Int × Int)} (ho : Ob W' (fun k => lab k = 4 ∨ W.heap.size ≤ k) g4 89 73 2 l.length (prs l)) (hF : Fr W W' (fun k => lab k = 4)) : Wd W' B (labp lab W.heap.size 4) g0 g1 g2 g3 g4 { x with table := l } := by
  refine ⟨fun k hk => ?_, h.cell.kept (fun k hk hl => hF.block k hl (fun e => by rw [hk] at e; omega)) (fun k hk hl => by rw [labp_old hl]; exact hk), h.stack.kept (fun k hk hl => hF.block k hl (fun e => by rw [hk] at e; omega)) (fun k hk hl => by rw [labp_old hl]; exact hk), h.queue.kept (fun k hk hl => hF.block k hl (fun e => by rw [hk] at e; omega)) (fun k hk hl => by rw [labp_old hl]; exact hk), h.set.kept (fun k hk hl => hF.block k hl (fun e => by rw [hk] at e; omega)) (fun k hk hl => by rw [labp_old hl]; exact hk), ?_⟩
  · by_cases c : W.heap.size ≤ k
    · omega
    · rw [labp_old (by omega)] at hk; exact h.low k hk
  · exact ho.kept (fun _ _ _ => rfl) (fun k hk _ => labp_in hk)
theorem me_answers0 (n : Nat) (a : Addr) (w : World) : (method (n + 1) 55 (.pointer (some a)) "reclaim/model.answers").run Try.prog w = .ok (64, .pointer (some a)) w := by kernel_rfl
theorem me_leave0 (n : Nat) (a : Addr) (w : World) : (method (n + 1) 55 (.pointer (some a)) "reclaim/model.leave").run Try.prog w = .ok (65, .pointer (some a)) w := by kernel_rfl
theorem me_answers1 (n : Nat) (a : Addr) (w : World) : (method (n + 1) 57 (.pointer (some a)) "reclaim/model.answers").run Try.prog w = .ok (68, .pointer (some a)) w := by kernel_rfl
theorem me_leave1 (n : Nat) (a : Addr) (w : World) : (method (n + 1) 57 (.pointer (some a)) "reclaim/model.leave").run Try.prog w = .ok (69, .pointer (some a)) w := by kernel_rfl
theorem me_answers2 (n : Nat) (a : Addr) (w : World) : (method (n + 1) 59 (.pointer (some a)) "reclaim/model.answers").run Try.prog w = .ok (70, .pointer (some a)) w := by kernel_rfl
theorem me_leave2 (n : Nat) (a : Addr) (w : World) : (method (n + 1) 59 (.pointer (some a)) "reclaim/model.leave").run Try.prog w = .ok (71, .pointer (some a)) w := by kernel_rfl
theorem me_answers3 (n : Nat) (a : Addr) (w : World) : (method (n + 1) 61 (.pointer (some a)) "reclaim/model.answers").run Try.prog w = .ok (72, .pointer (some a)) w := by kernel_rfl
theorem me_leave3 (n : Nat) (a : Addr) (w : World) : (method (n + 1) 61 (.pointer (some a)) "reclaim/model.leave").run Try.prog w = .ok (73, .pointer (some a)) w := by kernel_rfl
theorem me_answers4 (n : Nat) (a : Addr) (w : World) : (method (n + 1) 63 (.pointer (some a)) "reclaim/model.answers").run Try.prog w = .ok (83, .pointer (some a)) w := by kernel_rfl
theorem me_leave4 (n : Nat) (a : Addr) (w : World) : (method (n + 1) 63 (.pointer (some a)) "reclaim/model.leave").run Try.prog w = .ok (85, .pointer (some a)) w := by kernel_rfl
set_option maxRecDepth 100000 in
set_option maxHeartbeats 1000000 in
theorem of_0 (g0 g1 g2 g3 g4 : Nat) (op : Int) (ho : obj op = 1) (W : World) : Calls Try.prog 28 #[.agg #[.iface 55 (.pointer (some ⟨g0, 0, none⟩)), .iface 57 (.pointer (some ⟨g1, 0, none⟩)), .iface 59 (.pointer (some ⟨g2, 0, none⟩)), .iface 61 (.pointer (some ⟨g3, 0, none⟩)), .iface 63 (.pointer (some ⟨g4, 0, none⟩))], .int .i64 op] W fun e w' => e = .returned (.iface 55 (.pointer (some ⟨g0, 0, none⟩))) ∧ Below W.heap.size W w' := by
  have C := fun w => mObj op w
  rw [ho] at C
  obtain ⟨y0, y1, y2, y3, y4, y5⟩ := ifs_cells (heap_alloc_new W (.cells #[.iface 55 (.pointer (some ⟨g0, 0, none⟩)), .iface 57 (.pointer (some ⟨g1, 0, none⟩)), .iface 59 (.pointer (some ⟨g2, 0, none⟩)), .iface 61 (.pointer (some ⟨g3, 0, none⟩)), .iface 63 (.pointer (some ⟨g4, 0, none⟩))] 48 (0, 0)))
  clear ho
  replace C := Mr.hid C
  go_enter Try.func28, Try.ntmps28
  go_wp2_with (go_at_call 22; refine (C.out _).mono ?_; rintro e w2 ⟨rfl, rfl⟩)
  go_ret
  exact ⟨rfl, (Below.refl _ _).alloc (Nat.le_refl _) _⟩
set_option maxRecDepth 100000 in
set_option maxHeartbeats 1000000 in
theorem of_1 (g0 g1 g2 g3 g4 : Nat) (op : Int) (ho : obj op = 2) (W : World) : Calls Try.prog 28 #[.agg #[.iface 55 (.pointer (some ⟨g0, 0, none⟩)), .iface 57 (.pointer (some ⟨g1, 0, none⟩)), .iface 59 (.pointer (some ⟨g2, 0, none⟩)), .iface 61 (.pointer (some ⟨g3, 0, none⟩)), .iface 63 (.pointer (some ⟨g4, 0, none⟩))], .int .i64 op] W fun e w' => e = .returned (.iface 57 (.pointer (some ⟨g1, 0, none⟩))) ∧ Below W.heap.size W w' := by
  have C := fun w => mObj op w
  rw [ho] at C
  obtain ⟨y0, y1, y2, y3, y4, y5⟩ := ifs_cells (heap_alloc_new W (.cells #[.iface 55 (.pointer (some ⟨g0, 0, none⟩)), .iface 57 (.pointer (some ⟨g1, 0, none⟩)), .iface 59 (.pointer (some ⟨g2, 0, none⟩)), .iface 61 (.pointer (some ⟨g3, 0, none⟩)), .iface 63 (.pointer (some ⟨g4, 0, none⟩))] 48 (0, 0)))
  clear ho
  replace C := Mr.hid C
  go_enter Try.func28, Try.ntmps28
  go_wp2_with (go_at_call 22; refine (C.out _).mono ?_; rintro e w2 ⟨rfl, rfl⟩)
  go_ret
  exact ⟨rfl, (Below.refl _ _).alloc (Nat.le_refl _) _⟩
set_option maxRecDepth 100000 in
set_option maxHeartbeats 1000000 in
theorem of_2 (g0 g1 g2 g3 g4 : Nat) (op : Int) (ho : obj op = 3) (W : World) : Calls Try.prog 28 #[.agg #[.iface 55 (.pointer (some ⟨g0, 0, none⟩)), .iface 57 (.pointer (some ⟨g1, 0, none⟩)), .iface 59 (.pointer (some ⟨g2, 0, none⟩)), .iface 61 (.pointer (some ⟨g3, 0, none⟩)), .iface 63 (.pointer (some ⟨g4, 0, none⟩))], .int .i64 op] W fun e w' => e = .returned (.iface 59 (.pointer (some ⟨g2, 0, none⟩))) ∧ Below W.heap.size W w' := by
  have C := fun w => mObj op w
  rw [ho] at C
  obtain ⟨y0, y1, y2, y3, y4, y5⟩ := ifs_cells (heap_alloc_new W (.cells #[.iface 55 (.pointer (some ⟨g0, 0, none⟩)), .iface 57 (.pointer (some ⟨g1, 0, none⟩)), .iface 59 (.pointer (some ⟨g2, 0, none⟩)), .iface 61 (.pointer (some ⟨g3, 0, none⟩)), .iface 63 (.pointer (some ⟨g4, 0, none⟩))] 48 (0, 0)))
  clear ho
  replace C := Mr.hid C
  go_enter Try.func28, Try.ntmps28
  go_wp2_with (go_at_call 22; refine (C.out _).mono ?_; rintro e w2 ⟨rfl, rfl⟩)
  go_ret
  exact ⟨rfl, (Below.refl _ _).alloc (Nat.le_refl _) _⟩
set_option maxRecDepth 100000 in
set_option maxHeartbeats 1000000 in
theorem of_3 (g0 g1 g2 g3 g4 : Nat) (op : Int) (ho : obj op = 4) (W : World) : Calls Try.prog 28 #[.agg #[.iface 55 (.pointer (some ⟨g0, 0, none⟩)), .iface 57 (.pointer (some ⟨g1, 0, none⟩)), .iface 59 (.pointer (some ⟨g2, 0, none⟩)), .iface 61 (.pointer (some ⟨g3, 0, none⟩)), .iface 63 (.pointer (some ⟨g4, 0, none⟩))], .int .i64 op] W fun e w' => e = .returned (.iface 61 (.pointer (some ⟨g3, 0, none⟩))) ∧ Below W.heap.size W w' := by
  have C := fun w => mObj op w
  rw [ho] at C
  obtain ⟨y0, y1, y2, y3, y4, y5⟩ := ifs_cells (heap_alloc_new W (.cells #[.iface 55 (.pointer (some ⟨g0, 0, none⟩)), .iface 57 (.pointer (some ⟨g1, 0, none⟩)), .iface 59 (.pointer (some ⟨g2, 0, none⟩)), .iface 61 (.pointer (some ⟨g3, 0, none⟩)), .iface 63 (.pointer (some ⟨g4, 0, none⟩))] 48 (0, 0)))
  clear ho
  replace C := Mr.hid C
  go_enter Try.func28, Try.ntmps28
  go_wp2_with (go_at_call 22; refine (C.out _).mono ?_; rintro e w2 ⟨rfl, rfl⟩)
  go_ret
  exact ⟨rfl, (Below.refl _ _).alloc (Nat.le_refl _) _⟩
set_option maxRecDepth 100000 in
set_option maxHeartbeats 1000000 in
theorem of_4 (g0 g1 g2 g3 g4 : Nat) (op : Int) (ho : obj op = 5) (W : World) : Calls Try.prog 28 #[.agg #[.iface 55 (.pointer (some ⟨g0, 0, none⟩)), .iface 57 (.pointer (some ⟨g1, 0, none⟩)), .iface 59 (.pointer (some ⟨g2, 0, none⟩)), .iface 61 (.pointer (some ⟨g3, 0, none⟩)), .iface 63 (.pointer (some ⟨g4, 0, none⟩))], .int .i64 op] W fun e w' => e = .returned (.iface 63 (.pointer (some ⟨g4, 0, none⟩))) ∧ Below W.heap.size W w' := by
  have C := fun w => mObj op w
  rw [ho] at C
  obtain ⟨y0, y1, y2, y3, y4, y5⟩ := ifs_cells (heap_alloc_new W (.cells #[.iface 55 (.pointer (some ⟨g0, 0, none⟩)), .iface 57 (.pointer (some ⟨g1, 0, none⟩)), .iface 59 (.pointer (some ⟨g2, 0, none⟩)), .iface 61 (.pointer (some ⟨g3, 0, none⟩)), .iface 63 (.pointer (some ⟨g4, 0, none⟩))] 48 (0, 0)))
  clear ho
  replace C := Mr.hid C
  go_enter Try.func28, Try.ntmps28
  go_wp2_with (go_at_call 22; refine (C.out _).mono ?_; rintro e w2 ⟨rfl, rfl⟩)
  go_ret
  exact ⟨rfl, (Below.refl _ _).alloc (Nat.le_refl _) _⟩
end Go.Proofs.Ytegbcocbopgghac.Md
