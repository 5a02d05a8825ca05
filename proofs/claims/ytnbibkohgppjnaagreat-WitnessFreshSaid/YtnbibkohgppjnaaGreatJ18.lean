import Derived.Test.YtnbibkohgppjnaaGreatJ16
import Derived.Test.YtnbibkohgppjnaaGreatJ09
import Derived.Test.YtnbibkohgppjnaaGreatJ17
import Derived.Test.YtnbibkohgppjnaaGreatJ12
set_option linter.unusedVariables false
set_option linter.unusedSimpArgs false
namespace Go.Proofs.YtnbibkohgppjnaaGreat.Md
open Go.RowKit Mr
def labr (lab : Nat → Nat) (s k : Nat) : Nat := if k < s then lab k else 5
theorem labr_in {lab : Nat → Nat} {s k : Nat} (h : k < s) : labr lab s k = lab k := if_pos h
theorem labr_hi {lab : Nat → Nat} {s k : Nat} (h : labr lab s k < 5) : k < s := by
 by_cases c : k < s
 ·exact c
 ·unfold labr at h; rw [if_neg c] at h; omega
def labp (lab : Nat → Nat) (s i k : Nat) : Nat := if s ≤ k then i else lab k
theorem labp_in {lab : Nat → Nat} {s i k : Nat} (h : lab k = i ∨ s ≤ k) : labp lab s i k = i := by
 unfold labp
 by_cases c : s ≤ k
 ·rw [if_pos c]
 ·rw [if_neg c]; exact h.resolve_right c
theorem labp_old {lab : Nat → Nat} {s i k : Nat} (h : k < s) : labp lab s i k = lab k := if_neg (by omega)
theorem Wd.cut {W W' : World} {B : Nat} {lab : Nat → Nat} {g0 g1 g2 g3 g4 : Nat} {x : Ct} (h : Wd W B lab g0 g1 g2 g3 g4 x) (hB : Below W.heap.size W W') : Wd W' B (labr lab W.heap.size) g0 g1 g2 g3 g4 x :=
 ⟨fun k hk => h.low k (by rw [labr_in (labr_hi hk)] at hk; exact hk), h.cell.kept (fun k _ hl => hB.block k hl) (fun k hk hl => by rw [labr_in hl]; exact hk), h.stack.kept (fun k _ hl => hB.block k hl) (fun k hk hl => by rw [labr_in hl]; exact hk), h.queue.kept (fun k _ hl => hB.block k hl) (fun k hk hl => by rw [labr_in hl]; exact hk), h.set.kept (fun k _ hl => hB.block k hl) (fun k hk hl => by rw [labr_in hl]; exact hk), h.table.kept (fun k _ hl => hB.block k hl) (fun k hk hl => by rw [labr_in hl]; exact hk)⟩
theorem Wd.keep {W W' : World} {B : Nat} {lab : Nat → Nat} {g0 g1 g2 g3 g4 : Nat} {x : Ct} (h : Wd W B lab g0 g1 g2 g3 g4 x) (hB : Below W.heap.size W W') : Wd W' B lab g0 g1 g2 g3 g4 x :=
 ⟨h.low, h.cell.kept (fun k _ hl => hB.block k hl) (fun k hk _ => hk), h.stack.kept (fun k _ hl => hB.block k hl) (fun k hk _ => hk), h.queue.kept (fun k _ hl => hB.block k hl) (fun k hk _ => hk), h.set.kept (fun k _ hl => hB.block k hl) (fun k hk _ => hk), h.table.kept (fun k _ hl => hB.block k hl) (fun k hk _ => hk)⟩
theorem Wd.put0 {W W' : World} {B : Nat} {lab : Nat → Nat} {g0 g1 g2 g3 g4 : Nat} {x : Ct} (h : Wd W B lab g0 g1 g2 g3 g4 x) (hBW : B ≤ W.heap.size) {l : List Int} (ho : Ob W' (fun k => lab k = 0 ∨ W.heap.size ≤ k) g0 171 3 1 l.length (ints l)) (hF : Fr W W' (fun k => lab k = 0)) : Wd W' B (labp lab W.heap.size 0) g0 g1 g2 g3 g4 { x with cell := l } := by
 refine ⟨fun k hk => ?_, ?_, h.stack.kept (fun k hk hl => hF.block k hl (fun e => by rw [hk] at e; omega)) (fun k hk hl => by rw [labp_old hl]; exact hk), h.queue.kept (fun k hk hl => hF.block k hl (fun e => by rw [hk] at e; omega)) (fun k hk hl => by rw [labp_old hl]; exact hk), h.set.kept (fun k hk hl => hF.block k hl (fun e => by rw [hk] at e; omega)) (fun k hk hl => by rw [labp_old hl]; exact hk), h.table.kept (fun k hk hl => hF.block k hl (fun e => by rw [hk] at e; omega)) (fun k hk hl => by rw [labp_old hl]; exact hk)⟩
 ·by_cases c : W.heap.size ≤ k
  ·omega
  ·rw [labp_old (by omega)] at hk; exact h.low k hk
 ·exact ho.kept (fun _ _ _ => rfl) (fun k hk _ => labp_in hk)
theorem Wd.put1 {W W' : World} {B : Nat} {lab : Nat → Nat} {g0 g1 g2 g3 g4 : Nat} {x : Ct} (h : Wd W B lab g0 g1 g2 g3 g4 x) (hBW : B ≤ W.heap.size) {l : List Int} (ho : Ob W' (fun k => lab k = 1 ∨ W.heap.size ≤ k) g1 172 3 1 l.length (ints l.reverse)) (hF : Fr W W' (fun k => lab k = 1)) : Wd W' B (labp lab W.heap.size 1) g0 g1 g2 g3 g4 { x with stack := l } := by
 refine ⟨fun k hk => ?_, h.cell.kept (fun k hk hl => hF.block k hl (fun e => by rw [hk] at e; omega)) (fun k hk hl => by rw [labp_old hl]; exact hk), ?_, h.queue.kept (fun k hk hl => hF.block k hl (fun e => by rw [hk] at e; omega)) (fun k hk hl => by rw [labp_old hl]; exact hk), h.set.kept (fun k hk hl => hF.block k hl (fun e => by rw [hk] at e; omega)) (fun k hk hl => by rw [labp_old hl]; exact hk), h.table.kept (fun k hk hl => hF.block k hl (fun e => by rw [hk] at e; omega)) (fun k hk hl => by rw [labp_old hl]; exact hk)⟩
 ·by_cases c : W.heap.size ≤ k
  ·omega
  ·rw [labp_old (by omega)] at hk; exact h.low k hk
 ·exact ho.kept (fun _ _ _ => rfl) (fun k hk _ => labp_in hk)
theorem Wd.put2 {W W' : World} {B : Nat} {lab : Nat → Nat} {g0 g1 g2 g3 g4 : Nat} {x : Ct} (h : Wd W B lab g0 g1 g2 g3 g4 x) (hBW : B ≤ W.heap.size) {l : List Int} (ho : Ob W' (fun k => lab k = 2 ∨ W.heap.size ≤ k) g2 173 3 1 l.length (ints l)) (hF : Fr W W' (fun k => lab k = 2)) : Wd W' B (labp lab W.heap.size 2) g0 g1 g2 g3 g4 { x with queue := l } := by
 refine ⟨fun k hk => ?_, h.cell.kept (fun k hk hl => hF.block k hl (fun e => by rw [hk] at e; omega)) (fun k hk hl => by rw [labp_old hl]; exact hk), h.stack.kept (fun k hk hl => hF.block k hl (fun e => by rw [hk] at e; omega)) (fun k hk hl => by rw [labp_old hl]; exact hk), ?_, h.set.kept (fun k hk hl => hF.block k hl (fun e => by rw [hk] at e; omega)) (fun k hk hl => by rw [labp_old hl]; exact hk), h.table.kept (fun k hk hl => hF.block k hl (fun e => by rw [hk] at e; omega)) (fun k hk hl => by rw [labp_old hl]; exact hk)⟩
 ·by_cases c : W.heap.size ≤ k
  ·omega
  ·rw [labp_old (by omega)] at hk; exact h.low k hk
 ·exact ho.kept (fun _ _ _ => rfl) (fun k hk _ => labp_in hk)
theorem Wd.put3 {W W' : World} {B : Nat} {lab : Nat → Nat} {g0 g1 g2 g3 g4 : Nat} {x : Ct} (h : Wd W B lab g0 g1 g2 g3 g4 x) (hBW : B ≤ W.heap.size) {l : List Int} (ho : Ob W' (fun k => lab k = 3 ∨ W.heap.size ≤ k) g3 175 3 1 l.length (ints l)) (hF : Fr W W' (fun k => lab k = 3)) : Wd W' B (labp lab W.heap.size 3) g0 g1 g2 g3 g4 { x with set := l } := by
 refine ⟨fun k hk => ?_, h.cell.kept (fun k hk hl => hF.block k hl (fun e => by rw [hk] at e; omega)) (fun k hk hl => by rw [labp_old hl]; exact hk), h.stack.kept (fun k hk hl => hF.block k hl (fun e => by rw [hk] at e; omega)) (fun k hk hl => by rw [labp_old hl]; exact hk), h.queue.kept (fun k hk hl => hF.block k hl (fun e => by rw [hk] at e; omega)) (fun k hk hl => by rw [labp_old hl]; exact hk), ?_, h.table.kept (fun k hk hl => hF.block k hl (fun e => by rw [hk] at e; omega)) (fun k hk hl => by rw [labp_old hl]; exact hk)⟩
 ·by_cases c : W.heap.size ≤ k
  ·omega
  ·rw [labp_old (by omega)] at hk; exact h.low k hk
 ·exact ho.kept (fun _ _ _ => rfl) (fun k hk _ => labp_in hk)
theorem Wd.put4 {W W' : World} {B : Nat} {lab : Nat → Nat} {g0 g1 g2 g3 g4 : Nat} {x : Ct} (h : Wd W B lab g0 g1 g2 g3 g4 x) (hBW : B ≤ W.heap.size) {l : List (Int × Int)} (ho : Ob W' (fun k => lab k = 4 ∨ W.heap.size ≤ k) g4 178 92 2 l.length (prs l)) (hF : Fr W W' (fun k => lab k = 4)) : Wd W' B (labp lab W.heap.size 4) g0 g1 g2 g3 g4 { x with table := l } := by
 refine ⟨fun k hk => ?_, h.cell.kept (fun k hk hl => hF.block k hl (fun e => by rw [hk] at e; omega)) (fun k hk hl => by rw [labp_old hl]; exact hk), h.stack.kept (fun k hk hl => hF.block k hl (fun e => by rw [hk] at e; omega)) (fun k hk hl => by rw [labp_old hl]; exact hk), h.queue.kept (fun k hk hl => hF.block k hl (fun e => by rw [hk] at e; omega)) (fun k hk hl => by rw [labp_old hl]; exact hk), h.set.kept (fun k hk hl => hF.block k hl (fun e => by rw [hk] at e; omega)) (fun k hk hl => by rw [labp_old hl]; exact hk), ?_⟩
 ·by_cases c : W.heap.size ≤ k
  ·omega
  ·rw [labp_old (by omega)] at hk; exact h.low k hk
 ·exact ho.kept (fun _ _ _ => rfl) (fun k hk _ => labp_in hk)
theorem me_answers0 (n : Nat) (a : Addr) (w : World) : (method (n + 1) 139 (.pointer (some a)) "reclaim/model.answers").run Tryz.prog w = .ok (136, .pointer (some a)) w := by kernel_rfl
theorem me_leave0 (n : Nat) (a : Addr) (w : World) : (method (n + 1) 139 (.pointer (some a)) "reclaim/model.leave").run Tryz.prog w = .ok (137, .pointer (some a)) w := by kernel_rfl
theorem me_answers1 (n : Nat) (a : Addr) (w : World) : (method (n + 1) 141 (.pointer (some a)) "reclaim/model.answers").run Tryz.prog w = .ok (140, .pointer (some a)) w := by kernel_rfl
theorem me_leave1 (n : Nat) (a : Addr) (w : World) : (method (n + 1) 141 (.pointer (some a)) "reclaim/model.leave").run Tryz.prog w = .ok (141, .pointer (some a)) w := by kernel_rfl
theorem me_answers2 (n : Nat) (a : Addr) (w : World) : (method (n + 1) 143 (.pointer (some a)) "reclaim/model.answers").run Tryz.prog w = .ok (142, .pointer (some a)) w := by kernel_rfl
theorem me_leave2 (n : Nat) (a : Addr) (w : World) : (method (n + 1) 143 (.pointer (some a)) "reclaim/model.leave").run Tryz.prog w = .ok (143, .pointer (some a)) w := by kernel_rfl
theorem me_answers3 (n : Nat) (a : Addr) (w : World) : (method (n + 1) 145 (.pointer (some a)) "reclaim/model.answers").run Tryz.prog w = .ok (144, .pointer (some a)) w := by kernel_rfl
theorem me_leave3 (n : Nat) (a : Addr) (w : World) : (method (n + 1) 145 (.pointer (some a)) "reclaim/model.leave").run Tryz.prog w = .ok (145, .pointer (some a)) w := by kernel_rfl
theorem me_answers4 (n : Nat) (a : Addr) (w : World) : (method (n + 1) 147 (.pointer (some a)) "reclaim/model.answers").run Tryz.prog w = .ok (154, .pointer (some a)) w := by kernel_rfl
theorem me_leave4 (n : Nat) (a : Addr) (w : World) : (method (n + 1) 147 (.pointer (some a)) "reclaim/model.leave").run Tryz.prog w = .ok (156, .pointer (some a)) w := by kernel_rfl
set_option maxRecDepth 100000 in
set_option maxHeartbeats 1000000 in
theorem of_0 (g0 g1 g2 g3 g4 : Nat) (op : Int) (ho : obj op = 1) (W : World) : Calls Tryz.prog 94 #[.agg #[.iface 139 (.pointer (some ⟨g0, 0, none⟩)), .iface 141 (.pointer (some ⟨g1, 0, none⟩)), .iface 143 (.pointer (some ⟨g2, 0, none⟩)), .iface 145 (.pointer (some ⟨g3, 0, none⟩)), .iface 147 (.pointer (some ⟨g4, 0, none⟩))], .int .i64 op] W fun e w' => e = .returned (.iface 139 (.pointer (some ⟨g0, 0, none⟩))) ∧ Below W.heap.size W w' := by
 have C := fun w => mObj op w
 rw [ho] at C
 obtain ⟨y0, y1, y2, y3, y4, y5⟩ := ifs_cells (heap_alloc_new W (.cells #[.iface 139 (.pointer (some ⟨g0, 0, none⟩)), .iface 141 (.pointer (some ⟨g1, 0, none⟩)), .iface 143 (.pointer (some ⟨g2, 0, none⟩)), .iface 145 (.pointer (some ⟨g3, 0, none⟩)), .iface 147 (.pointer (some ⟨g4, 0, none⟩))] 125 (0, 0)))
 clear ho
 replace C := Mr.hid C
 go_enter Tryz.func94, Tryz.ntmps94
 go_wp2_with (go_at_call 43; refine (C.out _).mono ?_; rintro e w2 ⟨rfl, rfl⟩)
 go_ret
 exact ⟨rfl, (Below.refl _ _).alloc (Nat.le_refl _) _⟩
set_option maxRecDepth 100000 in
set_option maxHeartbeats 1000000 in
theorem of_1 (g0 g1 g2 g3 g4 : Nat) (op : Int) (ho : obj op = 2) (W : World) : Calls Tryz.prog 94 #[.agg #[.iface 139 (.pointer (some ⟨g0, 0, none⟩)), .iface 141 (.pointer (some ⟨g1, 0, none⟩)), .iface 143 (.pointer (some ⟨g2, 0, none⟩)), .iface 145 (.pointer (some ⟨g3, 0, none⟩)), .iface 147 (.pointer (some ⟨g4, 0, none⟩))], .int .i64 op] W fun e w' => e = .returned (.iface 141 (.pointer (some ⟨g1, 0, none⟩))) ∧ Below W.heap.size W w' := by
 have C := fun w => mObj op w
 rw [ho] at C
 obtain ⟨y0, y1, y2, y3, y4, y5⟩ := ifs_cells (heap_alloc_new W (.cells #[.iface 139 (.pointer (some ⟨g0, 0, none⟩)), .iface 141 (.pointer (some ⟨g1, 0, none⟩)), .iface 143 (.pointer (some ⟨g2, 0, none⟩)), .iface 145 (.pointer (some ⟨g3, 0, none⟩)), .iface 147 (.pointer (some ⟨g4, 0, none⟩))] 125 (0, 0)))
 clear ho
 replace C := Mr.hid C
 go_enter Tryz.func94, Tryz.ntmps94
 go_wp2_with (go_at_call 43; refine (C.out _).mono ?_; rintro e w2 ⟨rfl, rfl⟩)
 go_ret
 exact ⟨rfl, (Below.refl _ _).alloc (Nat.le_refl _) _⟩
set_option maxRecDepth 100000 in
set_option maxHeartbeats 1000000 in
theorem of_2 (g0 g1 g2 g3 g4 : Nat) (op : Int) (ho : obj op = 3) (W : World) : Calls Tryz.prog 94 #[.agg #[.iface 139 (.pointer (some ⟨g0, 0, none⟩)), .iface 141 (.pointer (some ⟨g1, 0, none⟩)), .iface 143 (.pointer (some ⟨g2, 0, none⟩)), .iface 145 (.pointer (some ⟨g3, 0, none⟩)), .iface 147 (.pointer (some ⟨g4, 0, none⟩))], .int .i64 op] W fun e w' => e = .returned (.iface 143 (.pointer (some ⟨g2, 0, none⟩))) ∧ Below W.heap.size W w' := by
 have C := fun w => mObj op w
 rw [ho] at C
 obtain ⟨y0, y1, y2, y3, y4, y5⟩ := ifs_cells (heap_alloc_new W (.cells #[.iface 139 (.pointer (some ⟨g0, 0, none⟩)), .iface 141 (.pointer (some ⟨g1, 0, none⟩)), .iface 143 (.pointer (some ⟨g2, 0, none⟩)), .iface 145 (.pointer (some ⟨g3, 0, none⟩)), .iface 147 (.pointer (some ⟨g4, 0, none⟩))] 125 (0, 0)))
 clear ho
 replace C := Mr.hid C
 go_enter Tryz.func94, Tryz.ntmps94
 go_wp2_with (go_at_call 43; refine (C.out _).mono ?_; rintro e w2 ⟨rfl, rfl⟩)
 go_ret
 exact ⟨rfl, (Below.refl _ _).alloc (Nat.le_refl _) _⟩
set_option maxRecDepth 100000 in
set_option maxHeartbeats 1000000 in
theorem of_3 (g0 g1 g2 g3 g4 : Nat) (op : Int) (ho : obj op = 4) (W : World) : Calls Tryz.prog 94 #[.agg #[.iface 139 (.pointer (some ⟨g0, 0, none⟩)), .iface 141 (.pointer (some ⟨g1, 0, none⟩)), .iface 143 (.pointer (some ⟨g2, 0, none⟩)), .iface 145 (.pointer (some ⟨g3, 0, none⟩)), .iface 147 (.pointer (some ⟨g4, 0, none⟩))], .int .i64 op] W fun e w' => e = .returned (.iface 145 (.pointer (some ⟨g3, 0, none⟩))) ∧ Below W.heap.size W w' := by
 have C := fun w => mObj op w
 rw [ho] at C
 obtain ⟨y0, y1, y2, y3, y4, y5⟩ := ifs_cells (heap_alloc_new W (.cells #[.iface 139 (.pointer (some ⟨g0, 0, none⟩)), .iface 141 (.pointer (some ⟨g1, 0, none⟩)), .iface 143 (.pointer (some ⟨g2, 0, none⟩)), .iface 145 (.pointer (some ⟨g3, 0, none⟩)), .iface 147 (.pointer (some ⟨g4, 0, none⟩))] 125 (0, 0)))
 clear ho
 replace C := Mr.hid C
 go_enter Tryz.func94, Tryz.ntmps94
 go_wp2_with (go_at_call 43; refine (C.out _).mono ?_; rintro e w2 ⟨rfl, rfl⟩)
 go_ret
 exact ⟨rfl, (Below.refl _ _).alloc (Nat.le_refl _) _⟩
set_option maxRecDepth 100000 in
set_option maxHeartbeats 1000000 in
theorem of_4 (g0 g1 g2 g3 g4 : Nat) (op : Int) (ho : obj op = 5) (W : World) : Calls Tryz.prog 94 #[.agg #[.iface 139 (.pointer (some ⟨g0, 0, none⟩)), .iface 141 (.pointer (some ⟨g1, 0, none⟩)), .iface 143 (.pointer (some ⟨g2, 0, none⟩)), .iface 145 (.pointer (some ⟨g3, 0, none⟩)), .iface 147 (.pointer (some ⟨g4, 0, none⟩))], .int .i64 op] W fun e w' => e = .returned (.iface 147 (.pointer (some ⟨g4, 0, none⟩))) ∧ Below W.heap.size W w' := by
 have C := fun w => mObj op w
 rw [ho] at C
 obtain ⟨y0, y1, y2, y3, y4, y5⟩ := ifs_cells (heap_alloc_new W (.cells #[.iface 139 (.pointer (some ⟨g0, 0, none⟩)), .iface 141 (.pointer (some ⟨g1, 0, none⟩)), .iface 143 (.pointer (some ⟨g2, 0, none⟩)), .iface 145 (.pointer (some ⟨g3, 0, none⟩)), .iface 147 (.pointer (some ⟨g4, 0, none⟩))] 125 (0, 0)))
 clear ho
 replace C := Mr.hid C
 go_enter Tryz.func94, Tryz.ntmps94
 go_wp2_with (go_at_call 43; refine (C.out _).mono ?_; rintro e w2 ⟨rfl, rfl⟩)
 go_ret
 exact ⟨rfl, (Below.refl _ _).alloc (Nat.le_refl _) _⟩
end Go.Proofs.YtnbibkohgppjnaaGreat.Md
namespace Go.Proofs.YtnbibkohgppjnaaGreat.Md
open Go.RowKit Mr
def bads (cs : List Cq) : Bool := cs.any (fun c => obj c.op == 0)
theorem bads_yes {cs : List Cq} {i : Nat} {c : Cq} (h : cs[i]? = some c) (ho : obj c.op = 0) : bads cs = true := by
 unfold bads
 rw [List.any_eq_true]
 exact ⟨c, List.mem_of_getElem? h, by simp [ho]⟩
theorem bads_no {cs : List Cq} (h : ∀ (j : Nat) (c : Cq), cs[j]? = some c → obj c.op ≠ 0) : bads cs = false := by
 unfold bads
 rw [List.any_eq_false]
 intro c hc
 obtain ⟨j, hj, e⟩ := List.getElem_of_mem hc
 have := h j c (by rw [List.getElem?_eq_getElem hj, e])
 simpa using this
set_option maxRecDepth 100000 in
set_option maxHeartbeats 8000000 in
theorem refused_any {W : World} {S : Nat → Prop} {u0 u1 u2 u3 u4 : Value} {x : Ct} (hu : CtAt W S u0 u1 u2 u3 u4 x) (hsx : CtSm x) {T : Nat → Prop} {uc : Value} {cs : List Cq} (hc : Sl W T 9 uc cs.length (cqs cs)) (hsm : cs.length * 72 ≤ 281474976710656) (b : Bool) (hb : b = true ↔ May x) (r : Int) (hr : r = if b then (if bads cs then 110 else 0) else 111) :
  Calls Tryz.prog 74 #[.agg #[u0, u1, u2, u3, u4], uc] W fun e w' => e = .returned (.int .i64 r) ∧ Below W.heap.size W w' := by
 obtain ⟨a0, c0, rfl, _⟩ := hu.cell.form
 obtain ⟨a1, c1, rfl, _⟩ := hu.stack.form
 obtain ⟨a2, c2, rfl, _⟩ := hu.queue.form
 obtain ⟨a3, c3, rfl, _⟩ := hu.set.form
 obtain ⟨a4, c4, rfl, _⟩ := hu.table.form
 obtain ⟨ac, cc, rfl, hcc⟩ := hc.form
 have CM := fun w' (hB : Below W.heap.size W w') => mMay_any (hu.below hB) hsx b hb
 have hB0 := Below.refl (W.heap.size + 1) (W.alloc (ctO (.slice a0 x.cell.length c0) (.slice a1 x.stack.length c1) (.slice a2 x.queue.length c2) (.slice a3 x.set.length c3) (.slice a4 x.table.length c4)))
 have TW := fun w' (hB : Below (W.heap.size + 1) (W.alloc (ctO (.slice a0 x.cell.length c0) (.slice a1 x.stack.length c1) (.slice a2 x.queue.length c2) (.slice a3 x.set.length c3) (.slice a4 x.table.length c4))) w') => (((Below.refl W.heap.size W).alloc (Nat.le_refl _) _).trans (hB.mono (by omega)) : Below W.heap.size W w')
 obtain ⟨y0, y1, y2, y3, y4, y5⟩ := ctO_cells (new_at W (ctO (.slice a0 x.cell.length c0) (.slice a1 x.stack.length c1) (.slice a2 x.queue.length c2) (.slice a3 x.set.length c3) (.slice a4 x.table.length c4)) _ rfl)
 unfold ctO at hB0 TW y0 y1 y2 y3 y4 y5
 obtain ⟨n, hn⟩ : ∃ n, n = cs.length := ⟨_, rfl⟩
 rw [← hn] at hc hsm hcc ⊢
 replace hn := Mr.hid hn
 replace hc := Mr.hid hc
 replace CM := Mr.hid CM
 replace TW := Mr.hid TW
 replace hB0 := Mr.hid hB0
 clear hu hsx hb
 cases b with
 | false =>
  simp only [Bool.false_eq_true, if_false] at hr
  subst hr
  go_enter Tryz.func74, Tryz.ntmps74
  go_wp2_with (first | (go_at_call 88; refine (CM.out _ (TW.out _ hB0.out)).mono ?_; rintro e w1 ⟨rfl, hB1⟩; replace hB1 := Mr.hid (hB0.out.trans (hB1.mono (by simp)))))
  go_ret
  exact ⟨rfl, TW.out _ hB1.out⟩
 | true =>
  simp only [if_true] at hr
  replace hr := Mr.hid hr
  go_enter Tryz.func74, Tryz.ntmps74
  go_wp2_with (first | (go_at_call 88; refine (CM.out _ (TW.out _ hB0.out)).mono ?_; rintro e w1 ⟨rfl, hB1⟩; replace hB1 := Mr.hid (hB0.out.trans (hB1.mono (by simp))); clear y0 y1 y2 y3 y4 y5))
  have HB1 := Mr.hid (TW.out _ hB1.out)
  clear hB1 hB0 TW CM
  go_loopg [12] n (fun k s wr => ∃ i : Nat, s = .int .i64 (i : Int) ∧ i + k = n ∧ Below W.heap.size W wr ∧ ∀ (j : Nat) (c : Cq), j < i → cs[j]? = some c → obj c.op ≠ 0)
  case atStart => exact ⟨0, rfl, by omega, HB1.out, fun j c hj => by omega⟩
  case round =>
   clear HB1
   obtain ⟨i, rfl, hi, B, hok⟩ := hrel
   by_cases hlt : i < n
   ·obtain ⟨c, hci⟩ : ∃ c, cs[i]? = some c := ⟨cs[i]'(by have := hn.out; omega), List.getElem?_eq_getElem _⟩
    obtain ⟨bc, oc, cc', hcv, _, _, hcl, hcr⟩ := (hc.out.below B).there (by omega)
    cases hcv
    have hg := fun j (hj : j < 9) => cqs_get cs i c hci j hj
    have g0 : wr.cell? ⟨bc, oc + i * 9, none⟩ = some (.int .i64 c.th) := hcr (i * 9 + 0) _ (hg 0 (by omega))
    have g1 : wr.cell? ⟨bc, oc + i * 9 + 1, none⟩ = some (.int .i64 c.op) := hcr (i * 9 + 1) _ (hg 1 (by omega))
    have g2 : wr.cell? ⟨bc, oc + i * 9 + 2, none⟩ = some (.int .i64 c.arg) := hcr (i * 9 + 2) _ (hg 2 (by omega))
    have g3 : wr.cell? ⟨bc, oc + i * 9 + 3, none⟩ = some (.int .i64 c.data) := hcr (i * 9 + 3) _ (hg 3 (by omega))
    have g4 : wr.cell? ⟨bc, oc + i * 9 + 4, none⟩ = some (.int .i64 c.beg) := hcr (i * 9 + 4) _ (hg 4 (by omega))
    have g5 : wr.cell? ⟨bc, oc + i * 9 + 5, none⟩ = some (.int .i64 c.fin) := hcr (i * 9 + 5) _ (hg 5 (by omega))
    have g6 : wr.cell? ⟨bc, oc + i * 9 + 6, none⟩ = some (.int .i64 c.pt) := hcr (i * 9 + 6) _ (hg 6 (by omega))
    have g7 : wr.cell? ⟨bc, oc + i * 9 + 7, none⟩ = some (.int .i64 c.ak) := hcr (i * 9 + 7) _ (hg 7 (by omega))
    have g8 : wr.cell? ⟨bc, oc + i * 9 + 8, none⟩ = some (.int .i64 c.av) := hcr (i * 9 + 8) _ (hg 8 (by omega))
    have hlI : (i : Int) < (n : Int) := by omega
    have BA := Mr.hid (B.alloc B.size (.cells #[.int .i64 c.th, .int .i64 c.op, .int .i64 c.arg, .int .i64 c.data, .int .i64 c.beg, .int .i64 c.fin, .int .i64 c.pt, .int .i64 c.ak, .int .i64 c.av] 45 (0, 0)))
    clear hg hcr
    by_cases ho : obj c.op = 0
    ·have hbd := bads_yes hci ho
     have hr2 := hr.out
     rw [hbd] at hr2
     simp only [if_true] at hr2
     subst hr2
     have CO := fun w => mObj c.op w
     rw [ho] at CO
     replace CO := Mr.hid CO
     replace ho := Mr.hid ho
     clear hr hok hbd B
     go_wp2_with (go_at_call 43; refine (CO.out _).mono ?_; rintro e w2 ⟨rfl, rfl⟩)
     go_ret
     exact ⟨rfl, BA.out⟩
    ·have CO := fun w => mObj c.op w
     have ho1 : (obj c.op == 0) = false := by simpa using ho
     have hok2 : ∀ (j : Nat) (d : Cq), j < i + 1 → cs[j]? = some d → obj d.op ≠ 0 := fun j d hj hd => by
      by_cases e : j = i
      ·subst e; rw [hci] at hd; cases hd; exact ho
      ·exact hok j d (by omega) hd
     generalize obj c.op = oo at *
     replace CO := Mr.hid CO
     replace ho := Mr.hid ho
     replace hok2 := Mr.hid hok2
     clear hok B
     go_wp2_with (go_at_call 43; refine (CO.out _).mono ?_; rintro e w2 ⟨rfl, rfl⟩)
     go_roundg (gk - 1)
     case measure => omega
     case rel => exact ⟨i + 1, by simp, by omega, BA.out, hok2.out⟩
   ·have hbd := bads_no (cs := cs) (fun j c hc => hok j c (by have := (List.getElem?_eq_some_iff.1 hc).1; have := hn.out; omega) hc)
    have hr2 := hr.out
    rw [hbd] at hr2
    simp only [Bool.false_eq_true, if_false] at hr2
    subst hr2
    replace B := Mr.hid B
    clear hr hok hbd
    go_wp2
    go_ret
    exact ⟨rfl, B.out⟩
end Go.Proofs.YtnbibkohgppjnaaGreat.Md
