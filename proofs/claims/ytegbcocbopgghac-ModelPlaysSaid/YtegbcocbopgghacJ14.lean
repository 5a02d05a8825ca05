import Derived.Test.YtegbcocbopgghacJ13
import Derived.LoopN
/-
  Package model: put, of each object.
-/
namespace Go.Proofs.Ytegbcocbopgghac.Md
open Go.RowKit Mr
set_option linter.unusedVariables false
set_option linter.unusedSimpArgs false
theorem ta_0_0 (a : Addr) (w : World) : (Instr.typeAssert (.iface 55 (.pointer (some a))) 46 55 true).run Try.prog w = .ok (.tuple #[.pointer (some a), .bool true]) w := by kernel_rfl
theorem ta_1_0 (a : Addr) (w : World) : (Instr.typeAssert (.iface 57 (.pointer (some a))) 46 55 true).run Try.prog w = .ok (.tuple #[.pointer none, .bool false]) w := by kernel_rfl
theorem ta_1_1 (a : Addr) (w : World) : (Instr.typeAssert (.iface 57 (.pointer (some a))) 46 57 true).run Try.prog w = .ok (.tuple #[.pointer (some a), .bool true]) w := by kernel_rfl
theorem ta_2_0 (a : Addr) (w : World) : (Instr.typeAssert (.iface 59 (.pointer (some a))) 46 55 true).run Try.prog w = .ok (.tuple #[.pointer none, .bool false]) w := by kernel_rfl
theorem ta_2_1 (a : Addr) (w : World) : (Instr.typeAssert (.iface 59 (.pointer (some a))) 46 57 true).run Try.prog w = .ok (.tuple #[.pointer none, .bool false]) w := by kernel_rfl
theorem ta_2_2 (a : Addr) (w : World) : (Instr.typeAssert (.iface 59 (.pointer (some a))) 46 59 true).run Try.prog w = .ok (.tuple #[.pointer (some a), .bool true]) w := by kernel_rfl
theorem ta_3_0 (a : Addr) (w : World) : (Instr.typeAssert (.iface 61 (.pointer (some a))) 46 55 true).run Try.prog w = .ok (.tuple #[.pointer none, .bool false]) w := by kernel_rfl
theorem ta_3_1 (a : Addr) (w : World) : (Instr.typeAssert (.iface 61 (.pointer (some a))) 46 57 true).run Try.prog w = .ok (.tuple #[.pointer none, .bool false]) w := by kernel_rfl
theorem ta_3_2 (a : Addr) (w : World) : (Instr.typeAssert (.iface 61 (.pointer (some a))) 46 59 true).run Try.prog w = .ok (.tuple #[.pointer none, .bool false]) w := by kernel_rfl
theorem ta_3_3 (a : Addr) (w : World) : (Instr.typeAssert (.iface 61 (.pointer (some a))) 46 61 true).run Try.prog w = .ok (.tuple #[.pointer (some a), .bool true]) w := by kernel_rfl
theorem ta_4_0 (a : Addr) (w : World) : (Instr.typeAssert (.iface 63 (.pointer (some a))) 46 55 true).run Try.prog w = .ok (.tuple #[.pointer none, .bool false]) w := by kernel_rfl
theorem ta_4_1 (a : Addr) (w : World) : (Instr.typeAssert (.iface 63 (.pointer (some a))) 46 57 true).run Try.prog w = .ok (.tuple #[.pointer none, .bool false]) w := by kernel_rfl
theorem ta_4_2 (a : Addr) (w : World) : (Instr.typeAssert (.iface 63 (.pointer (some a))) 46 59 true).run Try.prog w = .ok (.tuple #[.pointer none, .bool false]) w := by kernel_rfl
theorem ta_4_3 (a : Addr) (w : World) : (Instr.typeAssert (.iface 63 (.pointer (some a))) 46 61 true).run Try.prog w = .ok (.tuple #[.pointer none, .bool false]) w := by kernel_rfl
theorem ta_4_4 (a : Addr) (w : World) : (Instr.typeAssert (.iface 63 (.pointer (some a))) 46 63 true).run Try.prog w = .ok (.tuple #[.pointer (some a), .bool true]) w := by kernel_rfl
set_option maxRecDepth 100000 in
set_option maxHeartbeats 2000000 in
theorem put_cell {W : World} {S : Nat → Prop} {g b : Nat} {l : List Int} (ho : Ob W S g 82 3 1 l.length (ints l)) {s0 s1 s2 s3 s4 : Value} (hb : W.heap[b]? = some (ctO s0 s1 s2 s3 s4)) (hbS : ¬ S b) (hsm : l.length * 8 ≤ 225100000000000) :
    Calls Try.prog 30 #[.iface 55 (.pointer (some ⟨g, 0, none⟩)), .pointer (some ⟨b, 0, none⟩)] W fun e w' => e = .returned (.tuple #[]) ∧ ∃ v, Own w' (fun k => S k ∨ (W.heap.size ≤ k ∧ k < w'.heap.size)) 3 1 v l.length (ints l) ∧ w'.heap[b]? = some (ctO v s1 s2 s3 s4) ∧ Fr W w' (fun k => k = b) := by
  obtain ⟨v, hS, hg, hO⟩ := ho
  have cg : W.cell? ⟨g, 0, none⟩ = some v := by simp [World.cell?, hg]
  have hgl := (Array.getElem?_eq_some_iff.1 hg).1
  obtain ⟨y0, y1, y2, y3, y4, y5⟩ := ctO_cells hb
  obtain ⟨f0, f1, f2, f3, f4⟩ := ctO_thaw hb
  have ta0 := ta_0_0 ⟨g, 0, none⟩
  have hE : Hid (Own (W.setCell ⟨b, 0, none⟩ v) (fun k => S k ∨ (W.heap.size ≤ k ∧ k < (W.setCell ⟨b, 0, none⟩ v).heap.size)) 3 1 v l.length (ints l) ∧ (W.setCell ⟨b, 0, none⟩ v).heap[b]? = some (ctO v s1 s2 s3 s4) ∧ Fr W (W.setCell ⟨b, 0, none⟩ v) (fun k => k = b)) :=
    ⟨hO.kept2 (fun k hk _ => Below.heap_setCell W _ v k (fun e => hbS ((show k = b from e) ▸ hk.1))) (fun k hk _ => .inl hk.1), setBlk hb 0 v, (Fr.refl W _).setCell _ v (.inl rfl)⟩
  obtain ⟨av, cv, rfl, _, _⟩ := hO.form
  clear hb hg hO hbS hS
  go_enter Try.func30, Try.ntmps30
  go_wp2
  go_end0
  exact ⟨rfl, _, hE.out⟩
set_option maxRecDepth 100000 in
set_option maxHeartbeats 2000000 in
theorem put_stack {W : World} {S : Nat → Prop} {g b : Nat} {l : List Int} (ho : Ob W S g 83 3 1 l.length (ints l.reverse)) {s0 s1 s2 s3 s4 : Value} (hb : W.heap[b]? = some (ctO s0 s1 s2 s3 s4)) (hbS : ¬ S b) (hsm : l.length * 8 ≤ 225100000000000) :
    Calls Try.prog 30 #[.iface 57 (.pointer (some ⟨g, 0, none⟩)), .pointer (some ⟨b, 0, none⟩)] W fun e w' => e = .returned (.tuple #[]) ∧ ∃ v, Own w' (fun k => S k ∨ (W.heap.size ≤ k ∧ k < w'.heap.size)) 3 1 v l.length (ints l) ∧ w'.heap[b]? = some (ctO s0 v s2 s3 s4) ∧ Fr W w' (fun k => k = b) := by
  obtain ⟨v, hS, hg, hO⟩ := ho
  have cg : W.cell? ⟨g, 0, none⟩ = some v := by simp [World.cell?, hg]
  have hgl := (Array.getElem?_eq_some_iff.1 hg).1
  obtain ⟨y0, y1, y2, y3, y4, y5⟩ := ctO_cells hb
  obtain ⟨f0, f1, f2, f3, f4⟩ := ctO_thaw hb
  have ta0 := ta_1_0 ⟨g, 0, none⟩
  have ta1 := ta_1_1 ⟨g, 0, none⟩
  have hO' := hO.sl
  rw [show l.length = l.reverse.length from (List.length_reverse ..).symm] at hO'
  have C := turned_any hO' (by simpa using hsm)
  clear hO'
  simp only [List.length_reverse] at C
  obtain ⟨av, cv, rfl, _, _⟩ := hO.form
  have HB := hb
  clear hb hg hO hS
  replace C := Mr.hid C
  replace HB := Mr.hid HB
  go_enter Try.func30, Try.ntmps30
  go_wp2_with (first | (go_at_call 38; refine C.out.mono ?_; rintro e w1 ⟨v1, rfl, hO1, hB1⟩; obtain ⟨a1, c1, rfl, _, _⟩ := hO1.form; have HB1 := Mr.hid ((hB1.block b y5).trans HB.out); clear y0 y1 y2 y3 y4 f0 f1 f2 f3 f4; obtain ⟨y0, y1, y2, y3, y4, y6⟩ := ctO_cells HB1.out; obtain ⟨f0, f1, f2, f3, f4⟩ := ctO_thaw HB1.out; replace hO1 := Mr.hid hO1; replace hB1 := Mr.hid hB1))
  go_end0
  refine ⟨rfl, _, ?_, setBlk HB1.out 1 _, (Fr.of_below hB1.out).setCell _ _ (.inl rfl)⟩
  have h1 := hO1.out
  rw [List.reverse_reverse] at h1
  exact h1.kept2 (fun k hk _ => Below.heap_setCell _ _ _ k (fun e => by simp at e; omega)) (fun k hk hl => .inr ⟨hk, by simpa using hl⟩)
set_option maxRecDepth 100000 in
set_option maxHeartbeats 2000000 in
theorem put_queue {W : World} {S : Nat → Prop} {g b : Nat} {l : List Int} (ho : Ob W S g 84 3 1 l.length (ints l)) {s0 s1 s2 s3 s4 : Value} (hb : W.heap[b]? = some (ctO s0 s1 s2 s3 s4)) (hbS : ¬ S b) (hsm : l.length * 8 ≤ 225100000000000) :
    Calls Try.prog 30 #[.iface 59 (.pointer (some ⟨g, 0, none⟩)), .pointer (some ⟨b, 0, none⟩)] W fun e w' => e = .returned (.tuple #[]) ∧ ∃ v, Own w' (fun k => S k ∨ (W.heap.size ≤ k ∧ k < w'.heap.size)) 3 1 v l.length (ints l) ∧ w'.heap[b]? = some (ctO s0 s1 v s3 s4) ∧ Fr W w' (fun k => k = b) := by
  obtain ⟨v, hS, hg, hO⟩ := ho
  have cg : W.cell? ⟨g, 0, none⟩ = some v := by simp [World.cell?, hg]
  have hgl := (Array.getElem?_eq_some_iff.1 hg).1
  obtain ⟨y0, y1, y2, y3, y4, y5⟩ := ctO_cells hb
  obtain ⟨f0, f1, f2, f3, f4⟩ := ctO_thaw hb
  have ta0 := ta_2_0 ⟨g, 0, none⟩
  have ta1 := ta_2_1 ⟨g, 0, none⟩
  have ta2 := ta_2_2 ⟨g, 0, none⟩
  have hE : Hid (Own (W.setCell ⟨b, 2, none⟩ v) (fun k => S k ∨ (W.heap.size ≤ k ∧ k < (W.setCell ⟨b, 2, none⟩ v).heap.size)) 3 1 v l.length (ints l) ∧ (W.setCell ⟨b, 2, none⟩ v).heap[b]? = some (ctO s0 s1 v s3 s4) ∧ Fr W (W.setCell ⟨b, 2, none⟩ v) (fun k => k = b)) :=
    ⟨hO.kept2 (fun k hk _ => Below.heap_setCell W _ v k (fun e => hbS ((show k = b from e) ▸ hk.1))) (fun k hk _ => .inl hk.1), setBlk hb 2 v, (Fr.refl W _).setCell _ v (.inl rfl)⟩
  obtain ⟨av, cv, rfl, _, _⟩ := hO.form
  clear hb hg hO hbS hS
  go_enter Try.func30, Try.ntmps30
  go_wp2
  go_end0
  exact ⟨rfl, _, hE.out⟩
set_option maxRecDepth 100000 in
set_option maxHeartbeats 2000000 in
theorem put_set {W : World} {S : Nat → Prop} {g b : Nat} {l : List Int} (ho : Ob W S g 86 3 1 l.length (ints l)) {s0 s1 s2 s3 s4 : Value} (hb : W.heap[b]? = some (ctO s0 s1 s2 s3 s4)) (hbS : ¬ S b) (hsm : l.length * 8 ≤ 225100000000000) :
    Calls Try.prog 30 #[.iface 61 (.pointer (some ⟨g, 0, none⟩)), .pointer (some ⟨b, 0, none⟩)] W fun e w' => e = .returned (.tuple #[]) ∧ ∃ v, Own w' (fun k => S k ∨ (W.heap.size ≤ k ∧ k < w'.heap.size)) 3 1 v l.length (ints l) ∧ w'.heap[b]? = some (ctO s0 s1 s2 v s4) ∧ Fr W w' (fun k => k = b) := by
  obtain ⟨v, hS, hg, hO⟩ := ho
  have cg : W.cell? ⟨g, 0, none⟩ = some v := by simp [World.cell?, hg]
  have hgl := (Array.getElem?_eq_some_iff.1 hg).1
  obtain ⟨y0, y1, y2, y3, y4, y5⟩ := ctO_cells hb
  obtain ⟨f0, f1, f2, f3, f4⟩ := ctO_thaw hb
  have ta0 := ta_3_0 ⟨g, 0, none⟩
  have ta1 := ta_3_1 ⟨g, 0, none⟩
  have ta2 := ta_3_2 ⟨g, 0, none⟩
  have ta3 := ta_3_3 ⟨g, 0, none⟩
  have hE : Hid (Own (W.setCell ⟨b, 3, none⟩ v) (fun k => S k ∨ (W.heap.size ≤ k ∧ k < (W.setCell ⟨b, 3, none⟩ v).heap.size)) 3 1 v l.length (ints l) ∧ (W.setCell ⟨b, 3, none⟩ v).heap[b]? = some (ctO s0 s1 s2 v s4) ∧ Fr W (W.setCell ⟨b, 3, none⟩ v) (fun k => k = b)) :=
    ⟨hO.kept2 (fun k hk _ => Below.heap_setCell W _ v k (fun e => hbS ((show k = b from e) ▸ hk.1))) (fun k hk _ => .inl hk.1), setBlk hb 3 v, (Fr.refl W _).setCell _ v (.inl rfl)⟩
  obtain ⟨av, cv, rfl, _, _⟩ := hO.form
  clear hb hg hO hbS hS
  go_enter Try.func30, Try.ntmps30
  go_wp2
  go_end0
  exact ⟨rfl, _, hE.out⟩
set_option maxRecDepth 100000 in
set_option maxHeartbeats 2000000 in
theorem put_table {W : World} {S : Nat → Prop} {g b : Nat} {l : List (Int × Int)} (ho : Ob W S g 89 73 2 l.length (prs l)) {s0 s1 s2 s3 s4 : Value} (hb : W.heap[b]? = some (ctO s0 s1 s2 s3 s4)) (hbS : ¬ S b) (hsm : l.length * 16 ≤ 225100000000000) :
    Calls Try.prog 30 #[.iface 63 (.pointer (some ⟨g, 0, none⟩)), .pointer (some ⟨b, 0, none⟩)] W fun e w' => e = .returned (.tuple #[]) ∧ ∃ v, Own w' (fun k => S k ∨ (W.heap.size ≤ k ∧ k < w'.heap.size)) 73 2 v l.length (prs l) ∧ w'.heap[b]? = some (ctO s0 s1 s2 s3 v) ∧ Fr W w' (fun k => k = b) := by
  obtain ⟨v, hS, hg, hO⟩ := ho
  have cg : W.cell? ⟨g, 0, none⟩ = some v := by simp [World.cell?, hg]
  have hgl := (Array.getElem?_eq_some_iff.1 hg).1
  obtain ⟨y0, y1, y2, y3, y4, y5⟩ := ctO_cells hb
  obtain ⟨f0, f1, f2, f3, f4⟩ := ctO_thaw hb
  have ta0 := ta_4_0 ⟨g, 0, none⟩
  have ta1 := ta_4_1 ⟨g, 0, none⟩
  have ta2 := ta_4_2 ⟨g, 0, none⟩
  have ta3 := ta_4_3 ⟨g, 0, none⟩
  have ta4 := ta_4_4 ⟨g, 0, none⟩
  have hE : Hid (Own (W.setCell ⟨b, 4, none⟩ v) (fun k => S k ∨ (W.heap.size ≤ k ∧ k < (W.setCell ⟨b, 4, none⟩ v).heap.size)) 73 2 v l.length (prs l) ∧ (W.setCell ⟨b, 4, none⟩ v).heap[b]? = some (ctO s0 s1 s2 s3 v) ∧ Fr W (W.setCell ⟨b, 4, none⟩ v) (fun k => k = b)) :=
    ⟨hO.kept2 (fun k hk _ => Below.heap_setCell W _ v k (fun e => hbS ((show k = b from e) ▸ hk.1))) (fun k hk _ => .inl hk.1), setBlk hb 4 v, (Fr.refl W _).setCell _ v (.inl rfl)⟩
  obtain ⟨av, cv, rfl, _, _⟩ := hO.form
  clear hb hg hO hbS hS
  go_enter Try.func30, Try.ntmps30
  go_wp2
  go_end0
  exact ⟨rfl, _, hE.out⟩
/-- Contents in rows of their own, each list with blocks of its own: those that lab gives its number; all of them are B or above. -/
structure CtOwn (W : World) (B : Nat) (lab : Nat → Nat) (v0 v1 v2 v3 v4 : Value) (x : Ct) : Prop where
  low : ∀ k, lab k < 5 → B ≤ k
  cell : Own W (fun k => lab k = 0) 3 1 v0 x.cell.length (ints x.cell)
  stack : Own W (fun k => lab k = 1) 3 1 v1 x.stack.length (ints x.stack)
  queue : Own W (fun k => lab k = 2) 3 1 v2 x.queue.length (ints x.queue)
  set : Own W (fun k => lab k = 3) 3 1 v3 x.set.length (ints x.set)
  table : Own W (fun k => lab k = 4) 73 2 v4 x.table.length (prs x.table)
theorem CtOwn.at {W : World} {B : Nat} {lab : Nat → Nat} {v0 v1 v2 v3 v4 : Value} {x : Ct} (h : CtOwn W B lab v0 v1 v2 v3 v4 x) : CtAt W (fun k => B ≤ k) v0 v1 v2 v3 v4 x :=
  ⟨h.cell.sl.mono (fun k e => h.low k (by omega)), h.stack.sl.mono (fun k e => h.low k (by omega)), h.queue.sl.mono (fun k e => h.low k (by omega)), h.set.sl.mono (fun k e => h.low k (by omega)), h.table.sl.mono (fun k e => h.low k (by omega))⟩
def labc (n : Nat) (lab : Nat → Nat) (s0 s1 s2 s3 s4 : Nat) (k : Nat) : Nat := if k < n then lab k else labs s0 s1 s2 s3 s4 k
theorem labc_old {n : Nat} {lab : Nat → Nat} {s0 s1 s2 s3 s4 k : Nat} (h : k < n) : labc n lab s0 s1 s2 s3 s4 k = lab k := if_pos h
theorem labc_new {n : Nat} {lab : Nat → Nat} {s0 s1 s2 s3 s4 k : Nat} (h : n ≤ k) : labc n lab s0 s1 s2 s3 s4 k = labs s0 s1 s2 s3 s4 k := if_neg (by omega)
end Go.Proofs.Ytegbcocbopgghac.Md
/-
  Package model: contents.
-/
namespace Go.Proofs.Ytegbcocbopgghac.Md
open Go.RowKit Mr
set_option linter.unusedVariables false
set_option linter.unusedSimpArgs false
theorem ct_made {w0 w1 w2 w3 w4 w5 w6 : World} {B n bS bR : Nat} {lab : Nat → Nat} {v0 v1 v2 v3 v4 : Value} {x : Ct} (o0 : Own w1 (fun k => (lab k = 0 ∧ k < n) ∨ (w0.heap.size ≤ k ∧ k < w1.heap.size)) 3 1 v0 x.cell.length (ints x.cell)) (o1 : Own w2 (fun k => (lab k = 1 ∧ k < n) ∨ (w1.heap.size ≤ k ∧ k < w2.heap.size)) 3 1 v1 x.stack.length (ints x.stack)) (o2 : Own w3 (fun k => (lab k = 2 ∧ k < n) ∨ (w2.heap.size ≤ k ∧ k < w3.heap.size)) 3 1 v2 x.queue.length (ints x.queue)) (o3 : Own w4 (fun k => (lab k = 3 ∧ k < n) ∨ (w3.heap.size ≤ k ∧ k < w4.heap.size)) 3 1 v3 x.set.length (ints x.set)) (o4 : Own w5 (fun k => (lab k = 4 ∧ k < n) ∨ (w4.heap.size ≤ k ∧ k < w5.heap.size)) 73 2 v4 x.table.length (prs x.table)) (f1 : Fr w0 w1 (fun k => k = bS)) (f2 : Fr w1 w2 (fun k => k = bS)) (f3 : Fr w2 w3 (fun k => k = bS)) (f4 : Fr w3 w4 (fun k => k = bS)) (f5 : Fr w4 w5 (fun k => k = bS)) (hw : ∀ k, k ≠ bR → w6.heap[k]? = w5.heap[k]?) (low : ∀ k, lab k < 5 → B ≤ k) (hB : B ≤ n) (h1 : n ≤ bS) (h2 : bS < w0.heap.size) (h3 : n ≤ bR) (h4 : bR < w0.heap.size) : CtOwn w6 B (labc n lab w0.heap.size w1.heap.size w2.heap.size w3.heap.size w4.heap.size) v0 v1 v2 v3 v4 x := by
  have s1 := f1.size
  have s2 := f2.size
  have s3 := f3.size
  have s4 := f4.size
  have s5 := f5.size
  refine ⟨fun k hk => ?_, ?_, ?_, ?_, ?_, ?_⟩
  · by_cases h : k < n
    · rw [labc_old h] at hk; exact low k hk
    · omega
  · refine o0.kept2 (fun k hk hl => ?_) (fun k hk hl => ?_)
    · exact (hw k (by omega)).trans ((f5.block k (by omega) (by omega)).trans ((f4.block k (by omega) (by omega)).trans ((f3.block k (by omega) (by omega)).trans (f2.block k (by omega) (by omega)))))
    · rcases hk with hk | hk
      · rw [labc_old hk.2]; exact hk.1
      · rw [labc_new (by omega)]
        unfold labs
        rw [if_neg (by omega)]
        rw [if_pos (by omega)]
  · refine o1.kept2 (fun k hk hl => ?_) (fun k hk hl => ?_)
    · exact (hw k (by omega)).trans ((f5.block k (by omega) (by omega)).trans ((f4.block k (by omega) (by omega)).trans (f3.block k (by omega) (by omega))))
    · rcases hk with hk | hk
      · rw [labc_old hk.2]; exact hk.1
      · rw [labc_new (by omega)]
        unfold labs
        rw [if_neg (by omega)]
        rw [if_neg (by omega)]
        rw [if_pos (by omega)]
  · refine o2.kept2 (fun k hk hl => ?_) (fun k hk hl => ?_)
    · exact (hw k (by omega)).trans ((f5.block k (by omega) (by omega)).trans (f4.block k (by omega) (by omega)))
    · rcases hk with hk | hk
      · rw [labc_old hk.2]; exact hk.1
      · rw [labc_new (by omega)]
        unfold labs
        rw [if_neg (by omega)]
        rw [if_neg (by omega)]
        rw [if_neg (by omega)]
        rw [if_pos (by omega)]
  · refine o3.kept2 (fun k hk hl => ?_) (fun k hk hl => ?_)
    · exact (hw k (by omega)).trans (f5.block k (by omega) (by omega))
    · rcases hk with hk | hk
      · rw [labc_old hk.2]; exact hk.1
      · rw [labc_new (by omega)]
        unfold labs
        rw [if_neg (by omega)]
        rw [if_neg (by omega)]
        rw [if_neg (by omega)]
        rw [if_neg (by omega)]
        rw [if_pos (by omega)]
  · refine o4.kept2 (fun k hk hl => ?_) (fun k hk hl => ?_)
    · exact (hw k (by omega))
    · rcases hk with hk | hk
      · rw [labc_old hk.2]; exact hk.1
      · rw [labc_new (by omega)]
        unfold labs
        rw [if_neg (by omega)]
        rw [if_neg (by omega)]
        rw [if_neg (by omega)]
        rw [if_neg (by omega)]
        rw [if_neg (by omega)]
theorem ix_0 (g0 g1 g2 g3 g4 : Nat) (w : World) : (Instr.index 48 (.agg #[.iface 55 (.pointer (some ⟨g0, 0, none⟩)), .iface 57 (.pointer (some ⟨g1, 0, none⟩)), .iface 59 (.pointer (some ⟨g2, 0, none⟩)), .iface 61 (.pointer (some ⟨g3, 0, none⟩)), .iface 63 (.pointer (some ⟨g4, 0, none⟩))]) (.int .i64 0)).run Try.prog w = .ok (.iface 55 (.pointer (some ⟨g0, 0, none⟩))) w := by kernel_rfl
theorem ix_1 (g0 g1 g2 g3 g4 : Nat) (w : World) : (Instr.index 48 (.agg #[.iface 55 (.pointer (some ⟨g0, 0, none⟩)), .iface 57 (.pointer (some ⟨g1, 0, none⟩)), .iface 59 (.pointer (some ⟨g2, 0, none⟩)), .iface 61 (.pointer (some ⟨g3, 0, none⟩)), .iface 63 (.pointer (some ⟨g4, 0, none⟩))]) (.int .i64 1)).run Try.prog w = .ok (.iface 57 (.pointer (some ⟨g1, 0, none⟩))) w := by kernel_rfl
theorem ix_2 (g0 g1 g2 g3 g4 : Nat) (w : World) : (Instr.index 48 (.agg #[.iface 55 (.pointer (some ⟨g0, 0, none⟩)), .iface 57 (.pointer (some ⟨g1, 0, none⟩)), .iface 59 (.pointer (some ⟨g2, 0, none⟩)), .iface 61 (.pointer (some ⟨g3, 0, none⟩)), .iface 63 (.pointer (some ⟨g4, 0, none⟩))]) (.int .i64 2)).run Try.prog w = .ok (.iface 59 (.pointer (some ⟨g2, 0, none⟩))) w := by kernel_rfl
theorem ix_3 (g0 g1 g2 g3 g4 : Nat) (w : World) : (Instr.index 48 (.agg #[.iface 55 (.pointer (some ⟨g0, 0, none⟩)), .iface 57 (.pointer (some ⟨g1, 0, none⟩)), .iface 59 (.pointer (some ⟨g2, 0, none⟩)), .iface 61 (.pointer (some ⟨g3, 0, none⟩)), .iface 63 (.pointer (some ⟨g4, 0, none⟩))]) (.int .i64 3)).run Try.prog w = .ok (.iface 61 (.pointer (some ⟨g3, 0, none⟩))) w := by kernel_rfl
theorem ix_4 (g0 g1 g2 g3 g4 : Nat) (w : World) : (Instr.index 48 (.agg #[.iface 55 (.pointer (some ⟨g0, 0, none⟩)), .iface 57 (.pointer (some ⟨g1, 0, none⟩)), .iface 59 (.pointer (some ⟨g2, 0, none⟩)), .iface 61 (.pointer (some ⟨g3, 0, none⟩)), .iface 63 (.pointer (some ⟨g4, 0, none⟩))]) (.int .i64 4)).run Try.prog w = .ok (.iface 63 (.pointer (some ⟨g4, 0, none⟩))) w := by kernel_rfl
set_option maxRecDepth 100000 in
set_option maxHeartbeats 8000000 in
theorem contents_any {W : World} {B : Nat} {lab : Nat → Nat} {g0 g1 g2 g3 g4 : Nat} {x : Ct} (hd : Wd W B lab g0 g1 g2 g3 g4 x) (hB : B ≤ W.heap.size) (hin : CtIn 225100000000000 x) :
    Calls Try.prog 15 #[wdV g0 g1 g2 g3 g4] W fun e w' => ∃ v0 v1 v2 v3 v4 lab', e = .returned (.agg #[v0, v1, v2, v3, v4]) ∧ CtOwn w' B lab' v0 v1 v2 v3 v4 x ∧ Below W.heap.size W w' := by
  obtain ⟨n, hn⟩ : ∃ n, n = W.heap.size := ⟨_, rfl⟩
  rw [← hn] at hB
  have P0 := fun (w' : World) (hW : Below W.heap.size W w') (s0 s1 s2 s3 s4 : Value) (hb : w'.heap[n + 2]? = some (ctO s0 s1 s2 s3 s4)) => put_cell (hd.cell.kept (T := fun k => lab k = 0 ∧ k < n) (fun k _ hl => hW.block k hl) (fun k hk hl => ⟨hk, by omega⟩)) hb (fun e => by omega) hin.cell
  have P1 := fun (w' : World) (hW : Below W.heap.size W w') (s0 s1 s2 s3 s4 : Value) (hb : w'.heap[n + 2]? = some (ctO s0 s1 s2 s3 s4)) => put_stack (hd.stack.kept (T := fun k => lab k = 1 ∧ k < n) (fun k _ hl => hW.block k hl) (fun k hk hl => ⟨hk, by omega⟩)) hb (fun e => by omega) hin.stack
  have P2 := fun (w' : World) (hW : Below W.heap.size W w') (s0 s1 s2 s3 s4 : Value) (hb : w'.heap[n + 2]? = some (ctO s0 s1 s2 s3 s4)) => put_queue (hd.queue.kept (T := fun k => lab k = 2 ∧ k < n) (fun k _ hl => hW.block k hl) (fun k hk hl => ⟨hk, by omega⟩)) hb (fun e => by omega) hin.queue
  have P3 := fun (w' : World) (hW : Below W.heap.size W w') (s0 s1 s2 s3 s4 : Value) (hb : w'.heap[n + 2]? = some (ctO s0 s1 s2 s3 s4)) => put_set (hd.set.kept (T := fun k => lab k = 3 ∧ k < n) (fun k _ hl => hW.block k hl) (fun k hk hl => ⟨hk, by omega⟩)) hb (fun e => by omega) hin.set
  have P4 := fun (w' : World) (hW : Below W.heap.size W w') (s0 s1 s2 s3 s4 : Value) (hb : w'.heap[n + 2]? = some (ctO s0 s1 s2 s3 s4)) => put_table (hd.table.kept (T := fun k => lab k = 4 ∧ k < n) (fun k _ hl => hW.block k hl) (fun k hk hl => ⟨hk, by omega⟩)) hb (fun e => by omega) hin.table
  have low := hd.low
  unfold ctO at P0 P1 P2 P3 P4
  have hA : ((W.alloc (.cells #[.iface 55 (.pointer (some ⟨g0, 0, none⟩)), .iface 57 (.pointer (some ⟨g1, 0, none⟩)), .iface 59 (.pointer (some ⟨g2, 0, none⟩)), .iface 61 (.pointer (some ⟨g3, 0, none⟩)), .iface 63 (.pointer (some ⟨g4, 0, none⟩))] 48 (0, 0))).alloc (.cells #[.slice none 0 0, .slice none 0 0, .slice none 0 0, .slice none 0 0, .slice none 0 0] 25 (0, 0))).alloc (.cells #[.slice none 0 0, .slice none 0 0, .slice none 0 0, .slice none 0 0, .slice none 0 0] 25 (0, 0)) = ((W.alloc (.cells #[.iface 55 (.pointer (some ⟨g0, 0, none⟩)), .iface 57 (.pointer (some ⟨g1, 0, none⟩)), .iface 59 (.pointer (some ⟨g2, 0, none⟩)), .iface 61 (.pointer (some ⟨g3, 0, none⟩)), .iface 63 (.pointer (some ⟨g4, 0, none⟩))] 48 (0, 0))).alloc (.cells #[.slice none 0 0, .slice none 0 0, .slice none 0 0, .slice none 0 0, .slice none 0 0] 25 (0, 0))).alloc (.cells #[.slice none 0 0, .slice none 0 0, .slice none 0 0, .slice none 0 0, .slice none 0 0] 25 (0, 0)) := rfl
  have e0 := old_at (old_at (new_at W (.cells #[.iface 55 (.pointer (some ⟨g0, 0, none⟩)), .iface 57 (.pointer (some ⟨g1, 0, none⟩)), .iface 59 (.pointer (some ⟨g2, 0, none⟩)), .iface 61 (.pointer (some ⟨g3, 0, none⟩)), .iface 63 (.pointer (some ⟨g4, 0, none⟩))] 48 (0, 0)) n hn) (.cells #[.slice none 0 0, .slice none 0 0, .slice none 0 0, .slice none 0 0, .slice none 0 0] 25 (0, 0))) (.cells #[.slice none 0 0, .slice none 0 0, .slice none 0 0, .slice none 0 0, .slice none 0 0] 25 (0, 0))
  have e1 := old_at (new_at (W.alloc (.cells #[.iface 55 (.pointer (some ⟨g0, 0, none⟩)), .iface 57 (.pointer (some ⟨g1, 0, none⟩)), .iface 59 (.pointer (some ⟨g2, 0, none⟩)), .iface 61 (.pointer (some ⟨g3, 0, none⟩)), .iface 63 (.pointer (some ⟨g4, 0, none⟩))] 48 (0, 0))) (.cells #[.slice none 0 0, .slice none 0 0, .slice none 0 0, .slice none 0 0, .slice none 0 0] 25 (0, 0)) (n + 1) (by simp [hn])) (.cells #[.slice none 0 0, .slice none 0 0, .slice none 0 0, .slice none 0 0, .slice none 0 0] 25 (0, 0))
  have e2 := new_at ((W.alloc (.cells #[.iface 55 (.pointer (some ⟨g0, 0, none⟩)), .iface 57 (.pointer (some ⟨g1, 0, none⟩)), .iface 59 (.pointer (some ⟨g2, 0, none⟩)), .iface 61 (.pointer (some ⟨g3, 0, none⟩)), .iface 63 (.pointer (some ⟨g4, 0, none⟩))] 48 (0, 0))).alloc (.cells #[.slice none 0 0, .slice none 0 0, .slice none 0 0, .slice none 0 0, .slice none 0 0] 25 (0, 0))) (.cells #[.slice none 0 0, .slice none 0 0, .slice none 0 0, .slice none 0 0, .slice none 0 0] 25 (0, 0)) (n + 2) (by simp [hn])
  have eB : Below W.heap.size W (((W.alloc (.cells #[.iface 55 (.pointer (some ⟨g0, 0, none⟩)), .iface 57 (.pointer (some ⟨g1, 0, none⟩)), .iface 59 (.pointer (some ⟨g2, 0, none⟩)), .iface 61 (.pointer (some ⟨g3, 0, none⟩)), .iface 63 (.pointer (some ⟨g4, 0, none⟩))] 48 (0, 0))).alloc (.cells #[.slice none 0 0, .slice none 0 0, .slice none 0 0, .slice none 0 0, .slice none 0 0] 25 (0, 0))).alloc (.cells #[.slice none 0 0, .slice none 0 0, .slice none 0 0, .slice none 0 0, .slice none 0 0] 25 (0, 0))) := (((Below.refl _ _).alloc (Nat.le_refl _) _).alloc (by simp) _).alloc (by simp; omega) _
  have eS : (((W.alloc (.cells #[.iface 55 (.pointer (some ⟨g0, 0, none⟩)), .iface 57 (.pointer (some ⟨g1, 0, none⟩)), .iface 59 (.pointer (some ⟨g2, 0, none⟩)), .iface 61 (.pointer (some ⟨g3, 0, none⟩)), .iface 63 (.pointer (some ⟨g4, 0, none⟩))] 48 (0, 0))).alloc (.cells #[.slice none 0 0, .slice none 0 0, .slice none 0 0, .slice none 0 0, .slice none 0 0] 25 (0, 0))).alloc (.cells #[.slice none 0 0, .slice none 0 0, .slice none 0 0, .slice none 0 0, .slice none 0 0] 25 (0, 0))).heap.size = n + 3 := by simp [hn]
  clear hA hd
  replace P0 := Mr.hid P0
  replace P1 := Mr.hid P1
  replace P2 := Mr.hid P2
  replace P3 := Mr.hid P3
  replace P4 := Mr.hid P4
  replace low := Mr.hid low
  replace hn := Mr.hid hn
  unfold wdV
  go_enter Try.func15, Try.ntmps15
  go_wp2
  obtain ⟨w0, hw0⟩ : ∃ w0, ((W.alloc (.cells #[.iface 55 (.pointer (some ⟨g0, 0, none⟩)), .iface 57 (.pointer (some ⟨g1, 0, none⟩)), .iface 59 (.pointer (some ⟨g2, 0, none⟩)), .iface 61 (.pointer (some ⟨g3, 0, none⟩)), .iface 63 (.pointer (some ⟨g4, 0, none⟩))] 48 (0, 0))).alloc (.cells #[.slice none 0 0, .slice none 0 0, .slice none 0 0, .slice none 0 0, .slice none 0 0] 25 (0, 0))).alloc (.cells #[.slice none 0 0, .slice none 0 0, .slice none 0 0, .slice none 0 0, .slice none 0 0] 25 (0, 0)) = w0 := ⟨_, rfl⟩
  rw [hw0] at e0 e1 e2 eB eS ⊢
  rw [show (⟨W.heap.size + 1 + 1, 0, none⟩ : Addr) = ⟨n + 2, 0, none⟩ from by rw [hn.out], show (⟨W.heap.size + 1, 0, none⟩ : Addr) = ⟨n + 1, 0, none⟩ from by rw [hn.out], show (⟨W.heap.size, 0, none⟩ : Addr) = ⟨n, 0, none⟩ from by rw [hn.out]]
  clear hw0 e0
  have TB0 := Mr.hid eB
  have HS0 := Mr.hid e2
  have HR0 := Mr.hid e1
  replace eS := Mr.hid eS
  clear e1 e2 eB
  have ix0 := ix_0 g0 g1 g2 g3 g4
  have ix1 := ix_1 g0 g1 g2 g3 g4
  have ix2 := ix_2 g0 g1 g2 g3 g4
  have ix3 := ix_3 g0 g1 g2 g3 g4
  have ix4 := ix_4 g0 g1 g2 g3 g4
  refine wp_loop_rounds 6 ?_
  rw [rounds_succ]
  go_wp2_with (first | (go_at_call 30; refine (P0.out _ TB0.out _ _ _ _ _ HS0.out).mono ?_; rintro e w1 ⟨rfl, v0, hO0, hS0, hF0⟩; obtain ⟨a0, c0, rfl, _, _⟩ := hO0.form))
  have HS1 := Mr.hid hS0
  have TB1 := Mr.hid (TB0.out.trans (hF0.below (n := W.heap.size) (fun k e => by have := hn.out; omega) TB0.out.size))
  have HR1 := Mr.hid ((hF0.block (n + 1) (Array.getElem?_eq_some_iff.1 HR0.out).1 (by omega)).trans HR0.out)
  replace hO0 := Mr.hid hO0
  replace hF0 := Mr.hid hF0
  clear hS0
  rw [rounds_succ]
  go_wp2_with (first | (go_at_call 30; refine (P1.out _ TB1.out _ _ _ _ _ HS1.out).mono ?_; rintro e w2 ⟨rfl, v1, hO1, hS1, hF1⟩; obtain ⟨a1, c1, rfl, _, _⟩ := hO1.form))
  have HS2 := Mr.hid hS1
  have TB2 := Mr.hid (TB1.out.trans (hF1.below (n := W.heap.size) (fun k e => by have := hn.out; omega) TB1.out.size))
  have HR2 := Mr.hid ((hF1.block (n + 1) (Array.getElem?_eq_some_iff.1 HR1.out).1 (by omega)).trans HR1.out)
  replace hO1 := Mr.hid hO1
  replace hF1 := Mr.hid hF1
  clear hS1
  rw [rounds_succ]
  go_wp2_with (first | (go_at_call 30; refine (P2.out _ TB2.out _ _ _ _ _ HS2.out).mono ?_; rintro e w3 ⟨rfl, v2, hO2, hS2, hF2⟩; obtain ⟨a2, c2, rfl, _, _⟩ := hO2.form))
  have HS3 := Mr.hid hS2
  have TB3 := Mr.hid (TB2.out.trans (hF2.below (n := W.heap.size) (fun k e => by have := hn.out; omega) TB2.out.size))
  have HR3 := Mr.hid ((hF2.block (n + 1) (Array.getElem?_eq_some_iff.1 HR2.out).1 (by omega)).trans HR2.out)
  replace hO2 := Mr.hid hO2
  replace hF2 := Mr.hid hF2
  clear hS2
  rw [rounds_succ]
  go_wp2_with (first | (go_at_call 30; refine (P3.out _ TB3.out _ _ _ _ _ HS3.out).mono ?_; rintro e w4 ⟨rfl, v3, hO3, hS3, hF3⟩; obtain ⟨a3, c3, rfl, _, _⟩ := hO3.form))
  have HS4 := Mr.hid hS3
  have TB4 := Mr.hid (TB3.out.trans (hF3.below (n := W.heap.size) (fun k e => by have := hn.out; omega) TB3.out.size))
  have HR4 := Mr.hid ((hF3.block (n + 1) (Array.getElem?_eq_some_iff.1 HR3.out).1 (by omega)).trans HR3.out)
  replace hO3 := Mr.hid hO3
  replace hF3 := Mr.hid hF3
  clear hS3
  rw [rounds_succ]
  go_wp2_with (first | (go_at_call 30; refine (P4.out _ TB4.out _ _ _ _ _ HS4.out).mono ?_; rintro e w5 ⟨rfl, v4, hO4, hS4, hF4⟩; obtain ⟨a4, c4, rfl, _, _⟩ := hO4.form))
  have HS5 := Mr.hid hS4
  have TB5 := Mr.hid (TB4.out.trans (hF4.below (n := W.heap.size) (fun k e => by have := hn.out; omega) TB4.out.size))
  have HR5 := Mr.hid ((hF4.block (n + 1) (Array.getElem?_eq_some_iff.1 HR4.out).1 (by omega)).trans HR4.out)
  replace hO4 := Mr.hid hO4
  replace hF4 := Mr.hid hF4
  clear hS4
  obtain ⟨y0, y1, y2, y3, y4, y5⟩ := ifs_cells HS5.out
  obtain ⟨z0, z1, z2, z3, z4, z5⟩ := ifs_cells HR5.out
  obtain ⟨f0, f1, f2, f3, f4⟩ := ifs_thaw HR5.out
  have hne : n + 1 ≠ n + 2 := by omega
  rw [rounds_succ]
  have hH := set5_five (.slice a0 x.cell.length c0) (.slice a1 x.stack.length c1) (.slice a2 x.queue.length c2) (.slice a3 x.set.length c3) (.slice a4 x.table.length c4) HR5.out
  obtain ⟨x0, x1, x2, x3, x4, x5⟩ := ifs_cells hH
  have hD := ct_made (w6 := set5 w5 (n + 1) (.slice a0 x.cell.length c0) (.slice a1 x.stack.length c1) (.slice a2 x.queue.length c2) (.slice a3 x.set.length c3) (.slice a4 x.table.length c4)) (B := B) (n := n) (bS := n + 2) (bR := n + 1) hO0.out hO1.out hO2.out hO3.out hO4.out hF0.out hF1.out hF2.out hF3.out hF4.out (fun k h => set5_far _ _ _ _ _ _ _ k h) low.out hB (by omega) (by have := eS.out; omega) (by omega) (by have := eS.out; omega)
  have hE := set5_below (b := n + 1) (.slice a0 x.cell.length c0) (.slice a1 x.stack.length c1) (.slice a2 x.queue.length c2) (.slice a3 x.set.length c3) (.slice a4 x.table.length c4) TB5.out (by have := hn.out; omega)
  unfold set5 at x0 x1 x2 x3 x4 x5 hD hE
  replace hD := Mr.hid hD
  replace hE := Mr.hid hE
  clear hH
  go_wp2
  refine bodyPost_ret (v := .agg #[.slice a0 x.cell.length c0, .slice a1 x.stack.length c1, .slice a2 x.queue.length c2, .slice a3 x.set.length c3, .slice a4 x.table.length c4]) (by simp [results, Try.results15, go_sem, x0, x1, x2, x3, x4]) rfl ⟨_, _, _, _, _, _, rfl, hD.out, hE.out⟩
end Go.Proofs.Ytegbcocbopgghac.Md
