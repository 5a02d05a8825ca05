/-
  Package model: put, of each object.
-/
import Derived.Test.YtegbcocbopgghabMpWorld
namespace Go.Proofs.Ytegbcocbopgghab.Md
open Go.RowKit Mr
set_option linter.unusedVariables false
set_option linter.unusedSimpArgs false
theorem ta_0_0 (a : Addr) (w : World) : (Instr.typeAssert (.iface 92 (.pointer (some a))) 70 92 true).run Try.prog w = .ok (.tuple #[.pointer (some a), .bool true]) w := by kernel_rfl
theorem ta_1_0 (a : Addr) (w : World) : (Instr.typeAssert (.iface 94 (.pointer (some a))) 70 92 true).run Try.prog w = .ok (.tuple #[.pointer none, .bool false]) w := by kernel_rfl
theorem ta_1_1 (a : Addr) (w : World) : (Instr.typeAssert (.iface 94 (.pointer (some a))) 70 94 true).run Try.prog w = .ok (.tuple #[.pointer (some a), .bool true]) w := by kernel_rfl
theorem ta_2_0 (a : Addr) (w : World) : (Instr.typeAssert (.iface 96 (.pointer (some a))) 70 92 true).run Try.prog w = .ok (.tuple #[.pointer none, .bool false]) w := by kernel_rfl
theorem ta_2_1 (a : Addr) (w : World) : (Instr.typeAssert (.iface 96 (.pointer (some a))) 70 94 true).run Try.prog w = .ok (.tuple #[.pointer none, .bool false]) w := by kernel_rfl
theorem ta_2_2 (a : Addr) (w : World) : (Instr.typeAssert (.iface 96 (.pointer (some a))) 70 96 true).run Try.prog w = .ok (.tuple #[.pointer (some a), .bool true]) w := by kernel_rfl
theorem ta_3_0 (a : Addr) (w : World) : (Instr.typeAssert (.iface 98 (.pointer (some a))) 70 92 true).run Try.prog w = .ok (.tuple #[.pointer none, .bool false]) w := by kernel_rfl
theorem ta_3_1 (a : Addr) (w : World) : (Instr.typeAssert (.iface 98 (.pointer (some a))) 70 94 true).run Try.prog w = .ok (.tuple #[.pointer none, .bool false]) w := by kernel_rfl
theorem ta_3_2 (a : Addr) (w : World) : (Instr.typeAssert (.iface 98 (.pointer (some a))) 70 96 true).run Try.prog w = .ok (.tuple #[.pointer none, .bool false]) w := by kernel_rfl
theorem ta_3_3 (a : Addr) (w : World) : (Instr.typeAssert (.iface 98 (.pointer (some a))) 70 98 true).run Try.prog w = .ok (.tuple #[.pointer (some a), .bool true]) w := by kernel_rfl
theorem ta_4_0 (a : Addr) (w : World) : (Instr.typeAssert (.iface 100 (.pointer (some a))) 70 92 true).run Try.prog w = .ok (.tuple #[.pointer none, .bool false]) w := by kernel_rfl
theorem ta_4_1 (a : Addr) (w : World) : (Instr.typeAssert (.iface 100 (.pointer (some a))) 70 94 true).run Try.prog w = .ok (.tuple #[.pointer none, .bool false]) w := by kernel_rfl
theorem ta_4_2 (a : Addr) (w : World) : (Instr.typeAssert (.iface 100 (.pointer (some a))) 70 96 true).run Try.prog w = .ok (.tuple #[.pointer none, .bool false]) w := by kernel_rfl
theorem ta_4_3 (a : Addr) (w : World) : (Instr.typeAssert (.iface 100 (.pointer (some a))) 70 98 true).run Try.prog w = .ok (.tuple #[.pointer none, .bool false]) w := by kernel_rfl
theorem ta_4_4 (a : Addr) (w : World) : (Instr.typeAssert (.iface 100 (.pointer (some a))) 70 100 true).run Try.prog w = .ok (.tuple #[.pointer (some a), .bool true]) w := by kernel_rfl
set_option maxRecDepth 100000 in
set_option maxHeartbeats 2000000 in
theorem put_cell {W : World} {S : Nat → Prop} {g b : Nat} {l : List Int} (ho : Ob W S g 104 3 1 l.length (ints l)) {s0 s1 s2 s3 s4 : Value} (hb : W.heap[b]? = some (ctO s0 s1 s2 s3 s4)) (hbS : ¬ S b) (hsm : l.length * 8 ≤ 225100000000000) :
    Calls Try.prog 38 #[.iface 92 (.pointer (some ⟨g, 0, none⟩)), .pointer (some ⟨b, 0, none⟩)] W fun e w' => e = .returned (.tuple #[]) ∧ ∃ v, Own w' (fun k => S k ∨ (W.heap.size ≤ k ∧ k < w'.heap.size)) 3 1 v l.length (ints l) ∧ w'.heap[b]? = some (ctO v s1 s2 s3 s4) ∧ Fr W w' (fun k => k = b) := by
  obtain ⟨v, hS, hg, hO⟩ := ho
  have cg : W.cell? ⟨g, 0, none⟩ = some v := by simp [World.cell?, hg]
  have hgl := (Array.getElem?_eq_some_iff.1 hg).1
  obtain ⟨y0, y1, y2, y3, y4, y5⟩ := ctO_cells hb
  obtain ⟨f0, f1, f2, f3, f4⟩ := ctO_thaw hb
  have ta0 := ta_0_0 ⟨g, 0, none⟩
  have hE : Hid (Own (W.setCell ⟨b, 0, none⟩ v) (fun k => S k ∨ (W.heap.size ≤ k ∧ k < (W.setCell ⟨b, 0, none⟩ v).heap.size)) 3 1 v l.length (ints l) ∧ (W.setCell ⟨b, 0, none⟩ v).heap[b]? = some (ctO v s1 s2 s3 s4) ∧ Fr W (W.setCell ⟨b, 0, none⟩ v) (fun k => k = b)) :=
    ⟨hO.kept2 (fun k hk _ => Below.heap_setCell W _ v k (fun e => hbS ((show k = b from e) ▸ hk.1))) (fun k hk _ => .inl hk.1), setBlk hb 0 v, (Fr.refl W _).setCell _ v (.inl rfl)⟩
  obtain ⟨av, cv, rfl, _, _⟩ := hO.form
  clear hb hg hO hbS hS
  go_enter Try.func38, Try.ntmps38
  go_wp2
  go_end0
  exact ⟨rfl, _, hE.out⟩
set_option maxRecDepth 100000 in
set_option maxHeartbeats 2000000 in
theorem put_stack {W : World} {S : Nat → Prop} {g b : Nat} {l : List Int} (ho : Ob W S g 106 3 1 l.length (ints l.reverse)) {s0 s1 s2 s3 s4 : Value} (hb : W.heap[b]? = some (ctO s0 s1 s2 s3 s4)) (hbS : ¬ S b) (hsm : l.length * 8 ≤ 225100000000000) :
    Calls Try.prog 38 #[.iface 94 (.pointer (some ⟨g, 0, none⟩)), .pointer (some ⟨b, 0, none⟩)] W fun e w' => e = .returned (.tuple #[]) ∧ ∃ v, Own w' (fun k => S k ∨ (W.heap.size ≤ k ∧ k < w'.heap.size)) 3 1 v l.length (ints l) ∧ w'.heap[b]? = some (ctO s0 v s2 s3 s4) ∧ Fr W w' (fun k => k = b) := by
  obtain ⟨v, hS, hg, hO⟩ := ho
  have cg : W.cell? ⟨g, 0, none⟩ = some v := by simp [World.cell?, hg]
  have hgl := (Array.getElem?_eq_some_iff.1 hg).1
  obtain ⟨y0, y1, y2, y3, y4, y5⟩ := ctO_cells hb
  obtain ⟨f0, f1, f2, f3, f4⟩ := ctO_thaw hb
  have ta0 := ta_1_0 ⟨g, 0, none⟩
  have ta1 := ta_1_1 ⟨g, 0, none⟩
  have hO' := hO.sl
  rw [show l.length = l.reverse.length from (List.length_reverse ..).symm] at hO'
  have C := turned_any hO' (by simpa using hsm)
  clear hO'
  simp only [List.length_reverse] at C
  obtain ⟨av, cv, rfl, _, _⟩ := hO.form
  have HB := hb
  clear hb hg hO hS
  replace C := Mr.hid C
  replace HB := Mr.hid HB
  go_enter Try.func38, Try.ntmps38
  go_wp2_with (first | (go_at_call 52; refine C.out.mono ?_; rintro e w1 ⟨v1, rfl, hO1, hB1⟩; obtain ⟨a1, c1, rfl, _, _⟩ := hO1.form; have HB1 := Mr.hid ((hB1.block b y5).trans HB.out); clear y0 y1 y2 y3 y4 f0 f1 f2 f3 f4; obtain ⟨y0, y1, y2, y3, y4, y6⟩ := ctO_cells HB1.out; obtain ⟨f0, f1, f2, f3, f4⟩ := ctO_thaw HB1.out; replace hO1 := Mr.hid hO1; replace hB1 := Mr.hid hB1))
  go_end0
  refine ⟨rfl, _, ?_, setBlk HB1.out 1 _, (Fr.of_below hB1.out).setCell _ _ (.inl rfl)⟩
  have h1 := hO1.out
  rw [List.reverse_reverse] at h1
  exact h1.kept2 (fun k hk _ => Below.heap_setCell _ _ _ k (fun e => by simp at e; omega)) (fun k hk hl => .inr ⟨hk, by simpa using hl⟩)
set_option maxRecDepth 100000 in
set_option maxHeartbeats 2000000 in
theorem put_queue {W : World} {S : Nat → Prop} {g b : Nat} {l : List Int} (ho : Ob W S g 107 3 1 l.length (ints l)) {s0 s1 s2 s3 s4 : Value} (hb : W.heap[b]? = some (ctO s0 s1 s2 s3 s4)) (hbS : ¬ S b) (hsm : l.length * 8 ≤ 225100000000000) :
    Calls Try.prog 38 #[.iface 96 (.pointer (some ⟨g, 0, none⟩)), .pointer (some ⟨b, 0, none⟩)] W fun e w' => e = .returned (.tuple #[]) ∧ ∃ v, Own w' (fun k => S k ∨ (W.heap.size ≤ k ∧ k < w'.heap.size)) 3 1 v l.length (ints l) ∧ w'.heap[b]? = some (ctO s0 s1 v s3 s4) ∧ Fr W w' (fun k => k = b) := by
  obtain ⟨v, hS, hg, hO⟩ := ho
  have cg : W.cell? ⟨g, 0, none⟩ = some v := by simp [World.cell?, hg]
  have hgl := (Array.getElem?_eq_some_iff.1 hg).1
  obtain ⟨y0, y1, y2, y3, y4, y5⟩ := ctO_cells hb
  obtain ⟨f0, f1, f2, f3, f4⟩ := ctO_thaw hb
  have ta0 := ta_2_0 ⟨g, 0, none⟩
  have ta1 := ta_2_1 ⟨g, 0, none⟩
  have ta2 := ta_2_2 ⟨g, 0, none⟩
  have hE : Hid (Own (W.setCell ⟨b, 2, none⟩ v) (fun k => S k ∨ (W.heap.size ≤ k ∧ k < (W.setCell ⟨b, 2, none⟩ v).heap.size)) 3 1 v l.length (ints l) ∧ (W.setCell ⟨b, 2, none⟩ v).heap[b]? = some (ctO s0 s1 v s3 s4) ∧ Fr W (W.setCell ⟨b, 2, none⟩ v) (fun k => k = b)) :=
    ⟨hO.kept2 (fun k hk _ => Below.heap_setCell W _ v k (fun e => hbS ((show k = b from e) ▸ hk.1))) (fun k hk _ => .inl hk.1), setBlk hb 2 v, (Fr.refl W _).setCell _ v (.inl rfl)⟩
  obtain ⟨av, cv, rfl, _, _⟩ := hO.form
  clear hb hg hO hbS hS
  go_enter Try.func38, Try.ntmps38
  go_wp2
  go_end0
  exact ⟨rfl, _, hE.out⟩
set_option maxRecDepth 100000 in
set_option maxHeartbeats 2000000 in
theorem put_set {W : World} {S : Nat → Prop} {g b : Nat} {l : List Int} (ho : Ob W S g 109 3 1 l.length (ints l)) {s0 s1 s2 s3 s4 : Value} (hb : W.heap[b]? = some (ctO s0 s1 s2 s3 s4)) (hbS : ¬ S b) (hsm : l.length * 8 ≤ 225100000000000) :
    Calls Try.prog 38 #[.iface 98 (.pointer (some ⟨g, 0, none⟩)), .pointer (some ⟨b, 0, none⟩)] W fun e w' => e = .returned (.tuple #[]) ∧ ∃ v, Own w' (fun k => S k ∨ (W.heap.size ≤ k ∧ k < w'.heap.size)) 3 1 v l.length (ints l) ∧ w'.heap[b]? = some (ctO s0 s1 s2 v s4) ∧ Fr W w' (fun k => k = b) := by
  obtain ⟨v, hS, hg, hO⟩ := ho
  have cg : W.cell? ⟨g, 0, none⟩ = some v := by simp [World.cell?, hg]
  have hgl := (Array.getElem?_eq_some_iff.1 hg).1
  obtain ⟨y0, y1, y2, y3, y4, y5⟩ := ctO_cells hb
  obtain ⟨f0, f1, f2, f3, f4⟩ := ctO_thaw hb
  have ta0 := ta_3_0 ⟨g, 0, none⟩
  have ta1 := ta_3_1 ⟨g, 0, none⟩
  have ta2 := ta_3_2 ⟨g, 0, none⟩
  have ta3 := ta_3_3 ⟨g, 0, none⟩
  have hE : Hid (Own (W.setCell ⟨b, 3, none⟩ v) (fun k => S k ∨ (W.heap.size ≤ k ∧ k < (W.setCell ⟨b, 3, none⟩ v).heap.size)) 3 1 v l.length (ints l) ∧ (W.setCell ⟨b, 3, none⟩ v).heap[b]? = some (ctO s0 s1 s2 v s4) ∧ Fr W (W.setCell ⟨b, 3, none⟩ v) (fun k => k = b)) :=
    ⟨hO.kept2 (fun k hk _ => Below.heap_setCell W _ v k (fun e => hbS ((show k = b from e) ▸ hk.1))) (fun k hk _ => .inl hk.1), setBlk hb 3 v, (Fr.refl W _).setCell _ v (.inl rfl)⟩
  obtain ⟨av, cv, rfl, _, _⟩ := hO.form
  clear hb hg hO hbS hS
  go_enter Try.func38, Try.ntmps38
  go_wp2
  go_end0
  exact ⟨rfl, _, hE.out⟩
set_option maxRecDepth 100000 in
set_option maxHeartbeats 2000000 in
theorem put_table {W : World} {S : Nat → Prop} {g b : Nat} {l : List (Int × Int)} (ho : Ob W S g 111 81 2 l.length (prs l)) {s0 s1 s2 s3 s4 : Value} (hb : W.heap[b]? = some (ctO s0 s1 s2 s3 s4)) (hbS : ¬ S b) (hsm : l.length * 16 ≤ 225100000000000) :
    Calls Try.prog 38 #[.iface 100 (.pointer (some ⟨g, 0, none⟩)), .pointer (some ⟨b, 0, none⟩)] W fun e w' => e = .returned (.tuple #[]) ∧ ∃ v, Own w' (fun k => S k ∨ (W.heap.size ≤ k ∧ k < w'.heap.size)) 81 2 v l.length (prs l) ∧ w'.heap[b]? = some (ctO s0 s1 s2 s3 v) ∧ Fr W w' (fun k => k = b) := by
  obtain ⟨v, hS, hg, hO⟩ := ho
  have cg : W.cell? ⟨g, 0, none⟩ = some v := by simp [World.cell?, hg]
  have hgl := (Array.getElem?_eq_some_iff.1 hg).1
  obtain ⟨y0, y1, y2, y3, y4, y5⟩ := ctO_cells hb
  obtain ⟨f0, f1, f2, f3, f4⟩ := ctO_thaw hb
  have ta0 := ta_4_0 ⟨g, 0, none⟩
  have ta1 := ta_4_1 ⟨g, 0, none⟩
  have ta2 := ta_4_2 ⟨g, 0, none⟩
  have ta3 := ta_4_3 ⟨g, 0, none⟩
  have ta4 := ta_4_4 ⟨g, 0, none⟩
  have hE : Hid (Own (W.setCell ⟨b, 4, none⟩ v) (fun k => S k ∨ (W.heap.size ≤ k ∧ k < (W.setCell ⟨b, 4, none⟩ v).heap.size)) 81 2 v l.length (prs l) ∧ (W.setCell ⟨b, 4, none⟩ v).heap[b]? = some (ctO s0 s1 s2 s3 v) ∧ Fr W (W.setCell ⟨b, 4, none⟩ v) (fun k => k = b)) :=
    ⟨hO.kept2 (fun k hk _ => Below.heap_setCell W _ v k (fun e => hbS ((show k = b from e) ▸ hk.1))) (fun k hk _ => .inl hk.1), setBlk hb 4 v, (Fr.refl W _).setCell _ v (.inl rfl)⟩
  obtain ⟨av, cv, rfl, _, _⟩ := hO.form
  clear hb hg hO hbS hS
  go_enter Try.func38, Try.ntmps38
  go_wp2
  go_end0
  exact ⟨rfl, _, hE.out⟩
/-- Contents in rows of their own, each list with blocks of its own: those that lab gives its number; all of them are B or above. -/
structure CtOwn (W : World) (B : Nat) (lab : Nat → Nat) (v0 v1 v2 v3 v4 : Value) (x : Ct) : Prop where
  low : ∀ k, lab k < 5 → B ≤ k
  cell : Own W (fun k => lab k = 0) 3 1 v0 x.cell.length (ints x.cell)
  stack : Own W (fun k => lab k = 1) 3 1 v1 x.stack.length (ints x.stack)
  queue : Own W (fun k => lab k = 2) 3 1 v2 x.queue.length (ints x.queue)
  set : Own W (fun k => lab k = 3) 3 1 v3 x.set.length (ints x.set)
  table : Own W (fun k => lab k = 4) 81 2 v4 x.table.length (prs x.table)
theorem CtOwn.at {W : World} {B : Nat} {lab : Nat → Nat} {v0 v1 v2 v3 v4 : Value} {x : Ct} (h : CtOwn W B lab v0 v1 v2 v3 v4 x) : CtAt W (fun k => B ≤ k) v0 v1 v2 v3 v4 x :=
  ⟨h.cell.sl.mono (fun k e => h.low k (by omega)), h.stack.sl.mono (fun k e => h.low k (by omega)), h.queue.sl.mono (fun k e => h.low k (by omega)), h.set.sl.mono (fun k e => h.low k (by omega)), h.table.sl.mono (fun k e => h.low k (by omega))⟩
def labc (n : Nat) (lab : Nat → Nat) (s0 s1 s2 s3 s4 : Nat) (k : Nat) : Nat := if k < n then lab k else labs s0 s1 s2 s3 s4 k
theorem labc_old {n : Nat} {lab : Nat → Nat} {s0 s1 s2 s3 s4 k : Nat} (h : k < n) : labc n lab s0 s1 s2 s3 s4 k = lab k := if_pos h
theorem labc_new {n : Nat} {lab : Nat → Nat} {s0 s1 s2 s3 s4 k : Nat} (h : n ≤ k) : labc n lab s0 s1 s2 s3 s4 k = labs s0 s1 s2 s3 s4 k := if_neg (by omega)
end Go.Proofs.Ytegbcocbopgghab.Md
