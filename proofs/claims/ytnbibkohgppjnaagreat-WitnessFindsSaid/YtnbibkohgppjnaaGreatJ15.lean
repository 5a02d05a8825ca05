import Derived.Test.YtnbibkohgppjnaaGreatJ13
import Derived.Test.YtnbibkohgppjnaaGreatJ14
set_option linter.unusedVariables false
set_option linter.unusedSimpArgs false
namespace Go.Proofs.YtnbibkohgppjnaaGreat.Md
open Go.RowKit Mr
def labr (lab : Nat → Nat) (s k : Nat) : Nat := if k < s then lab k else 5
theorem labr_in {lab : Nat → Nat} {s k : Nat} (h : k < s) : labr lab s k = lab k := if_pos h
theorem labr_hi {lab : Nat → Nat} {s k : Nat} (h : labr lab s k < 5) : k < s := by
 by_cases c : k < s
 ·exact c
 ·unfold labr at h; rw [if_neg c] at h; omega
def labp (lab : Nat → Nat) (s i k : Nat) : Nat := if s ≤ k then i else lab k
theorem labp_in {lab : Nat → Nat} {s i k : Nat} (h : lab k = i ∨ s ≤ k) : labp lab s i k = i := by
 unfold labp
 by_cases c : s ≤ k
 ·rw [if_pos c]
 ·rw [if_neg c]; exact h.resolve_right c
theorem labp_old {lab : Nat → Nat} {s i k : Nat} (h : k < s) : labp lab s i k = lab k := if_neg (by omega)
theorem Wd.cut {W W' : World} {B : Nat} {lab : Nat → Nat} {g0 g1 g2 g3 g4 : Nat} {x : Ct} (h : Wd W B lab g0 g1 g2 g3 g4 x) (hB : Below W.heap.size W W') : Wd W' B (labr lab W.heap.size) g0 g1 g2 g3 g4 x :=
 ⟨fun k hk => h.low k (by rw [labr_in (labr_hi hk)] at hk; exact hk), h.cell.kept (fun k _ hl => hB.block k hl) (fun k hk hl => by rw [labr_in hl]; exact hk), h.stack.kept (fun k _ hl => hB.block k hl) (fun k hk hl => by rw [labr_in hl]; exact hk), h.queue.kept (fun k _ hl => hB.block k hl) (fun k hk hl => by rw [labr_in hl]; exact hk), h.set.kept (fun k _ hl => hB.block k hl) (fun k hk hl => by rw [labr_in hl]; exact hk), h.table.kept (fun k _ hl => hB.block k hl) (fun k hk hl => by rw [labr_in hl]; exact hk)⟩
theorem Wd.keep {W W' : World} {B : Nat} {lab : Nat → Nat} {g0 g1 g2 g3 g4 : Nat} {x : Ct} (h : Wd W B lab g0 g1 g2 g3 g4 x) (hB : Below W.heap.size W W') : Wd W' B lab g0 g1 g2 g3 g4 x :=
 ⟨h.low, h.cell.kept (fun k _ hl => hB.block k hl) (fun k hk _ => hk), h.stack.kept (fun k _ hl => hB.block k hl) (fun k hk _ => hk), h.queue.kept (fun k _ hl => hB.block k hl) (fun k hk _ => hk), h.set.kept (fun k _ hl => hB.block k hl) (fun k hk _ => hk), h.table.kept (fun k _ hl => hB.block k hl) (fun k hk _ => hk)⟩
theorem Wd.put0 {W W' : World} {B : Nat} {lab : Nat → Nat} {g0 g1 g2 g3 g4 : Nat} {x : Ct} (h : Wd W B lab g0 g1 g2 g3 g4 x) (hBW : B ≤ W.heap.size) {l : List Int} (ho : Ob W' (fun k => lab k = 0 ∨ W.heap.size ≤ k) g0 171 3 1 l.length (ints l)) (hF : Fr W W' (fun k => lab k = 0)) : Wd W' B (labp lab W.heap.size 0) g0 g1 g2 g3 g4 { x with cell := l } := by
 refine ⟨fun k hk => ?_, ?_, h.stack.kept (fun k hk hl => hF.block k hl (fun e => by rw [hk] at e; omega)) (fun k hk hl => by rw [labp_old hl]; exact hk), h.queue.kept (fun k hk hl => hF.block k hl (fun e => by rw [hk] at e; omega)) (fun k hk hl => by rw [labp_old hl]; exact hk), h.set.kept (fun k hk hl => hF.block k hl (fun e => by rw [hk] at e; omega)) (fun k hk hl => by rw [labp_old hl]; exact hk), h.table.kept (fun k hk hl => hF.block k hl (fun e => by rw [hk] at e; omega)) (fun k hk hl => by rw [labp_old hl]; exact hk)⟩
 ·by_cases c : W.heap.size ≤ k
  ·omega
  ·rw [labp_old (by omega)] at hk; exact h.low k hk
 ·exact ho.kept (fun _ _ _ => rfl) (fun k hk _ => labp_in hk)
theorem Wd.put1 {W W' : World} {B : Nat} {lab : Nat → Nat} {g0 g1 g2 g3 g4 : Nat} {x : Ct} (h : Wd W B lab g0 g1 g2 g3 g4 x) (hBW : B ≤ W.heap.size) {l : List Int} (ho : Ob W' (fun k => lab k = 1 ∨ W.heap.size ≤ k) g1 172 3 1 l.length (ints l.reverse)) (hF : Fr W W' (fun k => lab k = 1)) : Wd W' B (labp lab W.heap.size 1) g0 g1 g2 g3 g4 { x with stack := l } := by
 refine ⟨fun k hk => ?_, h.cell.kept (fun k hk hl => hF.block k hl (fun e => by rw [hk] at e; omega)) (fun k hk hl => by rw [labp_old hl]; exact hk), ?_, h.queue.kept (fun k hk hl => hF.block k hl (fun e => by rw [hk] at e; omega)) (fun k hk hl => by rw [labp_old hl]; exact hk), h.set.kept (fun k hk hl => hF.block k hl (fun e => by rw [hk] at e; omega)) (fun k hk hl => by rw [labp_old hl]; exact hk), h.table.kept (fun k hk hl => hF.block k hl (fun e => by rw [hk] at e; omega)) (fun k hk hl => by rw [labp_old hl]; exact hk)⟩
 ·by_cases c : W.heap.size ≤ k
  ·omega
  ·rw [labp_old (by omega)] at hk; exact h.low k hk
 ·exact ho.kept (fun _ _ _ => rfl) (fun k hk _ => labp_in hk)
theorem Wd.put2 {W W' : World} {B : Nat} {lab : Nat → Nat} {g0 g1 g2 g3 g4 : Nat} {x : Ct} (h : Wd W B lab g0 g1 g2 g3 g4 x) (hBW : B ≤ W.heap.size) {l : List Int} (ho : Ob W' (fun k => lab k = 2 ∨ W.heap.size ≤ k) g2 173 3 1 l.length (ints l)) (hF : Fr W W' (fun k => lab k = 2)) : Wd W' B (labp lab W.heap.size 2) g0 g1 g2 g3 g4 { x with queue := l } := by
 refine ⟨fun k hk => ?_, h.cell.kept (fun k hk hl => hF.block k hl (fun e => by rw [hk] at e; omega)) (fun k hk hl => by rw [labp_old hl]; exact hk), h.stack.kept (fun k hk hl => hF.block k hl (fun e => by rw [hk] at e; omega)) (fun k hk hl => by rw [labp_old hl]; exact hk), ?_, h.set.kept (fun k hk hl => hF.block k hl (fun e => by rw [hk] at e; omega)) (fun k hk hl => by rw [labp_old hl]; exact hk), h.table.kept (fun k hk hl => hF.block k hl (fun e => by rw [hk] at e; omega)) (fun k hk hl => by rw [labp_old hl]; exact hk)⟩
 ·by_cases c : W.heap.size ≤ k
  ·omega
  ·rw [labp_old (by omega)] at hk; exact h.low k hk
 ·exact ho.kept (fun _ _ _ => rfl) (fun k hk _ => labp_in hk)
theorem Wd.put3 {W W' : World} {B : Nat} {lab : Nat → Nat} {g0 g1 g2 g3 g4 : Nat} {x : Ct} (h : Wd W B lab g0 g1 g2 g3 g4 x) (hBW : B ≤ W.heap.size) {l : List Int} (ho : Ob W' (fun k => lab k = 3 ∨ W.heap.size ≤ k) g3 175 3 1 l.length (ints l)) (hF : Fr W W' (fun k => lab k = 3)) : Wd W' B (labp lab W.heap.size 3) g0 g1 g2 g3 g4 { x with set := l } := by
 refine ⟨fun k hk => ?_, h.cell.kept (fun k hk hl => hF.block k hl (fun e => by rw [hk] at e; omega)) (fun k hk hl => by rw [labp_old hl]; exact hk), h.stack.kept (fun k hk hl => hF.block k hl (fun e => by rw [hk] at e; omega)) (fun k hk hl => by rw [labp_old hl]; exact hk), h.queue.kept (fun k hk hl => hF.block k hl (fun e => by rw [hk] at e; omega)) (fun k hk hl => by rw [labp_old hl]; exact hk), ?_, h.table.kept (fun k hk hl => hF.block k hl (fun e => by rw [hk] at e; omega)) (fun k hk hl => by rw [labp_old hl]; exact hk)⟩
 ·by_cases c : W.heap.size ≤ k
  ·omega
  ·rw [labp_old (by omega)] at hk; exact h.low k hk
 ·exact ho.kept (fun _ _ _ => rfl) (fun k hk _ => labp_in hk)
theorem Wd.put4 {W W' : World} {B : Nat} {lab : Nat → Nat} {g0 g1 g2 g3 g4 : Nat} {x : Ct} (h : Wd W B lab g0 g1 g2 g3 g4 x) (hBW : B ≤ W.heap.size) {l : List (Int × Int)} (ho : Ob W' (fun k => lab k = 4 ∨ W.heap.size ≤ k) g4 178 92 2 l.length (prs l)) (hF : Fr W W' (fun k => lab k = 4)) : Wd W' B (labp lab W.heap.size 4) g0 g1 g2 g3 g4 { x with table := l } := by
 refine ⟨fun k hk => ?_, h.cell.kept (fun k hk hl => hF.block k hl (fun e => by rw [hk] at e; omega)) (fun k hk hl => by rw [labp_old hl]; exact hk), h.stack.kept (fun k hk hl => hF.block k hl (fun e => by rw [hk] at e; omega)) (fun k hk hl => by rw [labp_old hl]; exact hk), h.queue.kept (fun k hk hl => hF.block k hl (fun e => by rw [hk] at e; omega)) (fun k hk hl => by rw [labp_old hl]; exact hk), h.set.kept (fun k hk hl => hF.block k hl (fun e => by rw [hk] at e; omega)) (fun k hk hl => by rw [labp_old hl]; exact hk), ?_⟩
 ·by_cases c : W.heap.size ≤ k
  ·omega
  ·rw [labp_old (by omega)] at hk; exact h.low k hk
 ·exact ho.kept (fun _ _ _ => rfl) (fun k hk _ => labp_in hk)
theorem me_answers0 (n : Nat) (a : Addr) (w : World) : (method (n + 1) 139 (.pointer (some a)) "reclaim/model.answers").run Tryz.prog w = .ok (136, .pointer (some a)) w := by kernel_rfl
theorem me_leave0 (n : Nat) (a : Addr) (w : World) : (method (n + 1) 139 (.pointer (some a)) "reclaim/model.leave").run Tryz.prog w = .ok (137, .pointer (some a)) w := by kernel_rfl
theorem me_answers1 (n : Nat) (a : Addr) (w : World) : (method (n + 1) 141 (.pointer (some a)) "reclaim/model.answers").run Tryz.prog w = .ok (140, .pointer (some a)) w := by kernel_rfl
theorem me_leave1 (n : Nat) (a : Addr) (w : World) : (method (n + 1) 141 (.pointer (some a)) "reclaim/model.leave").run Tryz.prog w = .ok (141, .pointer (some a)) w := by kernel_rfl
theorem me_answers2 (n : Nat) (a : Addr) (w : World) : (method (n + 1) 143 (.pointer (some a)) "reclaim/model.answers").run Tryz.prog w = .ok (142, .pointer (some a)) w := by kernel_rfl
theorem me_leave2 (n : Nat) (a : Addr) (w : World) : (method (n + 1) 143 (.pointer (some a)) "reclaim/model.leave").run Tryz.prog w = .ok (143, .pointer (some a)) w := by kernel_rfl
theorem me_answers3 (n : Nat) (a : Addr) (w : World) : (method (n + 1) 145 (.pointer (some a)) "reclaim/model.answers").run Tryz.prog w = .ok (144, .pointer (some a)) w := by kernel_rfl
theorem me_leave3 (n : Nat) (a : Addr) (w : World) : (method (n + 1) 145 (.pointer (some a)) "reclaim/model.leave").run Tryz.prog w = .ok (145, .pointer (some a)) w := by kernel_rfl
theorem me_answers4 (n : Nat) (a : Addr) (w : World) : (method (n + 1) 147 (.pointer (some a)) "reclaim/model.answers").run Tryz.prog w = .ok (154, .pointer (some a)) w := by kernel_rfl
theorem me_leave4 (n : Nat) (a : Addr) (w : World) : (method (n + 1) 147 (.pointer (some a)) "reclaim/model.leave").run Tryz.prog w = .ok (156, .pointer (some a)) w := by kernel_rfl
set_option maxRecDepth 100000 in
set_option maxHeartbeats 1000000 in
theorem of_0 (g0 g1 g2 g3 g4 : Nat) (op : Int) (ho : obj op = 1) (W : World) : Calls Tryz.prog 94 #[.agg #[.iface 139 (.pointer (some ⟨g0, 0, none⟩)), .iface 141 (.pointer (some ⟨g1, 0, none⟩)), .iface 143 (.pointer (some ⟨g2, 0, none⟩)), .iface 145 (.pointer (some ⟨g3, 0, none⟩)), .iface 147 (.pointer (some ⟨g4, 0, none⟩))], .int .i64 op] W fun e w' => e = .returned (.iface 139 (.pointer (some ⟨g0, 0, none⟩))) ∧ Below W.heap.size W w' := by
 have C := fun w => mObj op w
 rw [ho] at C
 obtain ⟨y0, y1, y2, y3, y4, y5⟩ := ifs_cells (heap_alloc_new W (.cells #[.iface 139 (.pointer (some ⟨g0, 0, none⟩)), .iface 141 (.pointer (some ⟨g1, 0, none⟩)), .iface 143 (.pointer (some ⟨g2, 0, none⟩)), .iface 145 (.pointer (some ⟨g3, 0, none⟩)), .iface 147 (.pointer (some ⟨g4, 0, none⟩))] 125 (0, 0)))
 clear ho
 replace C := Mr.hid C
 go_enter Tryz.func94, Tryz.ntmps94
 go_wp2_with (go_at_call 43; refine (C.out _).mono ?_; rintro e w2 ⟨rfl, rfl⟩)
 go_ret
 exact ⟨rfl, (Below.refl _ _).alloc (Nat.le_refl _) _⟩
set_option maxRecDepth 100000 in
set_option maxHeartbeats 1000000 in
theorem of_1 (g0 g1 g2 g3 g4 : Nat) (op : Int) (ho : obj op = 2) (W : World) : Calls Tryz.prog 94 #[.agg #[.iface 139 (.pointer (some ⟨g0, 0, none⟩)), .iface 141 (.pointer (some ⟨g1, 0, none⟩)), .iface 143 (.pointer (some ⟨g2, 0, none⟩)), .iface 145 (.pointer (some ⟨g3, 0, none⟩)), .iface 147 (.pointer (some ⟨g4, 0, none⟩))], .int .i64 op] W fun e w' => e = .returned (.iface 141 (.pointer (some ⟨g1, 0, none⟩))) ∧ Below W.heap.size W w' := by
 have C := fun w => mObj op w
 rw [ho] at C
 obtain ⟨y0, y1, y2, y3, y4, y5⟩ := ifs_cells (heap_alloc_new W (.cells #[.iface 139 (.pointer (some ⟨g0, 0, none⟩)), .iface 141 (.pointer (some ⟨g1, 0, none⟩)), .iface 143 (.pointer (some ⟨g2, 0, none⟩)), .iface 145 (.pointer (some ⟨g3, 0, none⟩)), .iface 147 (.pointer (some ⟨g4, 0, none⟩))] 125 (0, 0)))
 clear ho
 replace C := Mr.hid C
 go_enter Tryz.func94, Tryz.ntmps94
 go_wp2_with (go_at_call 43; refine (C.out _).mono ?_; rintro e w2 ⟨rfl, rfl⟩)
 go_ret
 exact ⟨rfl, (Below.refl _ _).alloc (Nat.le_refl _) _⟩
set_option maxRecDepth 100000 in
set_option maxHeartbeats 1000000 in
theorem of_2 (g0 g1 g2 g3 g4 : Nat) (op : Int) (ho : obj op = 3) (W : World) : Calls Tryz.prog 94 #[.agg #[.iface 139 (.pointer (some ⟨g0, 0, none⟩)), .iface 141 (.pointer (some ⟨g1, 0, none⟩)), .iface 143 (.pointer (some ⟨g2, 0, none⟩)), .iface 145 (.pointer (some ⟨g3, 0, none⟩)), .iface 147 (.pointer (some ⟨g4, 0, none⟩))], .int .i64 op] W fun e w' => e = .returned (.iface 143 (.pointer (some ⟨g2, 0, none⟩))) ∧ Below W.heap.size W w' := by
 have C := fun w => mObj op w
 rw [ho] at C
 obtain ⟨y0, y1, y2, y3, y4, y5⟩ := ifs_cells (heap_alloc_new W (.cells #[.iface 139 (.pointer (some ⟨g0, 0, none⟩)), .iface 141 (.pointer (some ⟨g1, 0, none⟩)), .iface 143 (.pointer (some ⟨g2, 0, none⟩)), .iface 145 (.pointer (some ⟨g3, 0, none⟩)), .iface 147 (.pointer (some ⟨g4, 0, none⟩))] 125 (0, 0)))
 clear ho
 replace C := Mr.hid C
 go_enter Tryz.func94, Tryz.ntmps94
 go_wp2_with (go_at_call 43; refine (C.out _).mono ?_; rintro e w2 ⟨rfl, rfl⟩)
 go_ret
 exact ⟨rfl, (Below.refl _ _).alloc (Nat.le_refl _) _⟩
set_option maxRecDepth 100000 in
set_option maxHeartbeats 1000000 in
theorem of_3 (g0 g1 g2 g3 g4 : Nat) (op : Int) (ho : obj op = 4) (W : World) : Calls Tryz.prog 94 #[.agg #[.iface 139 (.pointer (some ⟨g0, 0, none⟩)), .iface 141 (.pointer (some ⟨g1, 0, none⟩)), .iface 143 (.pointer (some ⟨g2, 0, none⟩)), .iface 145 (.pointer (some ⟨g3, 0, none⟩)), .iface 147 (.pointer (some ⟨g4, 0, none⟩))], .int .i64 op] W fun e w' => e = .returned (.iface 145 (.pointer (some ⟨g3, 0, none⟩))) ∧ Below W.heap.size W w' := by
 have C := fun w => mObj op w
 rw [ho] at C
 obtain ⟨y0, y1, y2, y3, y4, y5⟩ := ifs_cells (heap_alloc_new W (.cells #[.iface 139 (.pointer (some ⟨g0, 0, none⟩)), .iface 141 (.pointer (some ⟨g1, 0, none⟩)), .iface 143 (.pointer (some ⟨g2, 0, none⟩)), .iface 145 (.pointer (some ⟨g3, 0, none⟩)), .iface 147 (.pointer (some ⟨g4, 0, none⟩))] 125 (0, 0)))
 clear ho
 replace C := Mr.hid C
 go_enter Tryz.func94, Tryz.ntmps94
 go_wp2_with (go_at_call 43; refine (C.out _).mono ?_; rintro e w2 ⟨rfl, rfl⟩)
 go_ret
 exact ⟨rfl, (Below.refl _ _).alloc (Nat.le_refl _) _⟩
set_option maxRecDepth 100000 in
set_option maxHeartbeats 1000000 in
theorem of_4 (g0 g1 g2 g3 g4 : Nat) (op : Int) (ho : obj op = 5) (W : World) : Calls Tryz.prog 94 #[.agg #[.iface 139 (.pointer (some ⟨g0, 0, none⟩)), .iface 141 (.pointer (some ⟨g1, 0, none⟩)), .iface 143 (.pointer (some ⟨g2, 0, none⟩)), .iface 145 (.pointer (some ⟨g3, 0, none⟩)), .iface 147 (.pointer (some ⟨g4, 0, none⟩))], .int .i64 op] W fun e w' => e = .returned (.iface 147 (.pointer (some ⟨g4, 0, none⟩))) ∧ Below W.heap.size W w' := by
 have C := fun w => mObj op w
 rw [ho] at C
 obtain ⟨y0, y1, y2, y3, y4, y5⟩ := ifs_cells (heap_alloc_new W (.cells #[.iface 139 (.pointer (some ⟨g0, 0, none⟩)), .iface 141 (.pointer (some ⟨g1, 0, none⟩)), .iface 143 (.pointer (some ⟨g2, 0, none⟩)), .iface 145 (.pointer (some ⟨g3, 0, none⟩)), .iface 147 (.pointer (some ⟨g4, 0, none⟩))] 125 (0, 0)))
 clear ho
 replace C := Mr.hid C
 go_enter Tryz.func94, Tryz.ntmps94
 go_wp2_with (go_at_call 43; refine (C.out _).mono ?_; rintro e w2 ⟨rfl, rfl⟩)
 go_ret
 exact ⟨rfl, (Below.refl _ _).alloc (Nat.le_refl _) _⟩
end Go.Proofs.YtnbibkohgppjnaaGreat.Md
