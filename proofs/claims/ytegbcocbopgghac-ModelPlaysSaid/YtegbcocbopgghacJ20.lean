import Derived.Test.YtegbcocbopgghacJ18
import Derived.Test.YtegbcocbopgghacJ19
import Derived.Deep.RegionWith
/-
  Package model: lengths behind an insert and a delete.
-/
namespace Go.Proofs.Ytegbcocbopgghac.Md
open Go.RowKit Mr
set_option linter.unusedVariables false
set_option linter.unusedSimpArgs false
theorem insM_len (l : List Int) (k : Int) : (insL l k).length = l.length + 1 := by
  have := plcM_le l k
  unfold insL
  simp; omega
theorem delM_len {l : List Int} {k : Int} (h : inB l k = true) : (delL l k).length = l.length - 1 := by
  have := plcM_lt h
  unfold delL
  simp; omega
theorem keysM_len (t : List (Int × Int)) : (keysOf t).length = t.length := by unfold keysOf; exact List.length_map ..
theorem insMT_len (t : List (Int × Int)) (k d : Int) : (insT t k d).length = t.length + 1 := by
  have := plcM_le (keysOf t) k
  rw [keysM_len] at this
  unfold insT
  simp; omega
theorem delMT_len {t : List (Int × Int)} {k : Int} (h : inB (keysOf t) k = true) : (delT t k).length = t.length - 1 := by
  have := plcM_lt h
  rw [keysM_len] at this
  unfold delT
  simp; omega
end Go.Proofs.Ytegbcocbopgghac.Md
/-
  Package model: what the calls of the set and of the table leave.
-/
namespace Go.Proofs.Ytegbcocbopgghac.Md
open Go.RowKit Mr
set_option linter.unusedVariables false
set_option linter.unusedSimpArgs false
set_option maxRecDepth 100000 in
set_option maxHeartbeats 8000000 in
theorem leave_set {W : World} {S : Nat → Prop} {g : Nat} {l : List Int} (ho : Ob W S g 86 3 1 l.length (ints l)) (hsm : l.length * 8 ≤ 225000000000000) (hR : Ris l) (th op arg data beg fin pt ak av : Int) (l' : List Int) (hl' : l' = if op = 50 then (if inB l arg then l else insL l arg) else if op = 51 then (if inB l arg then delL l arg else l) else l) :
    Calls Try.prog 73 #[.pointer (some ⟨g, 0, none⟩), .agg #[.int .i64 th, .int .i64 op, .int .i64 arg, .int .i64 data, .int .i64 beg, .int .i64 fin, .int .i64 pt, .int .i64 ak, .int .i64 av]] W fun e w' => e = .returned (.tuple #[]) ∧ Ob w' (fun k => S k ∨ W.heap.size ≤ k) g 86 3 1 l'.length (ints l') ∧ Fr W w' S := by
  have ho' := ho
  obtain ⟨v, hS, hg, hO⟩ := ho
  have hgl := (Array.getElem?_eq_some_iff.1 hg).1
  have C := fun w' (hB : Below W.heap.size W w') => bsI_any (hO.sl.below hB) (Nat.le_trans hsm (by decide)) hR arg
  obtain ⟨a, c, rfl, hc, hm⟩ := hO.form
  have hW0 := heap_alloc_new W (.cells #[.int .i64 th, .int .i64 op, .int .i64 arg, .int .i64 data, .int .i64 beg, .int .i64 fin, .int .i64 pt, .int .i64 ak, .int .i64 av] 39 (0, 0))
  obtain ⟨k1, k2, k3, k4⟩ := nine_cells hW0
  have cg : (W.alloc (.cells #[.int .i64 th, .int .i64 op, .int .i64 arg, .int .i64 data, .int .i64 beg, .int .i64 fin, .int .i64 pt, .int .i64 ak, .int .i64 av] 39 (0, 0))).cell? ⟨g, 0, none⟩ = some (.slice a l.length c) := cell_blk (old_at hg _) 0
  have B0 := Mr.hid ((Below.refl W.heap.size W).alloc (Nat.le_refl _) (.cells #[.int .i64 th, .int .i64 op, .int .i64 arg, .int .i64 data, .int .i64 beg, .int .i64 fin, .int .i64 pt, .int .i64 ak, .int .i64 av] 39 (0, 0))).drew
  have B1 := Mr.hid (fun w' (hB : Below (W.alloc (.cells #[.int .i64 th, .int .i64 op, .int .i64 arg, .int .i64 data, .int .i64 beg, .int .i64 fin, .int .i64 pt, .int .i64 ak, .int .i64 av] 39 (0, 0))).heap.size (W.alloc (.cells #[.int .i64 th, .int .i64 op, .int .i64 arg, .int .i64 data, .int .i64 beg, .int .i64 fin, .int .i64 pt, .int .i64 ak, .int .i64 av] 39 (0, 0))) w') => (((Below.refl W.heap.size W).alloc (Nat.le_refl _) (.cells #[.int .i64 th, .int .i64 op, .int .i64 arg, .int .i64 data, .int .i64 beg, .int .i64 fin, .int .i64 pt, .int .i64 ak, .int .i64 av] 39 (0, 0))).trans (hB.mono (by simp)) : Below W.heap.size W w'))
  have KS : ∀ w' : World, Below (W.alloc (.cells #[.int .i64 th, .int .i64 op, .int .i64 arg, .int .i64 data, .int .i64 beg, .int .i64 fin, .int .i64 pt, .int .i64 ak, .int .i64 av] 39 (0, 0))).heap.size (W.alloc (.cells #[.int .i64 th, .int .i64 op, .int .i64 arg, .int .i64 data, .int .i64 beg, .int .i64 fin, .int .i64 pt, .int .i64 ak, .int .i64 av] 39 (0, 0))) w' → w'.cell? ⟨g, 0, none⟩ = some (.slice a l.length c) ∧ w'.cell? ⟨W.heap.size, 2, none⟩ = some (.int .i64 arg) := fun w' hB => ⟨(hB.cell (p := ⟨g, 0, none⟩) (by simp; omega)).trans cg, (nine_cells ((hB.block _ (by simp)).trans hW0)).2.1⟩
  have KR := fun w' (hB : Below (W.alloc (.cells #[.int .i64 th, .int .i64 op, .int .i64 arg, .int .i64 data, .int .i64 beg, .int .i64 fin, .int .i64 pt, .int .i64 ak, .int .i64 av] 39 (0, 0))).heap.size (W.alloc (.cells #[.int .i64 th, .int .i64 op, .int .i64 arg, .int .i64 data, .int .i64 beg, .int .i64 fin, .int .i64 pt, .int .i64 ak, .int .i64 av] 39 (0, 0))) w') => (⟨(hB.block W.heap.size (by simp)).trans hW0, (hB.block g (by simp; omega)).trans (old_at hg _)⟩ : w'.heap[W.heap.size]? = some (.cells #[.int .i64 th, .int .i64 op, .int .i64 arg, .int .i64 data, .int .i64 beg, .int .i64 fin, .int .i64 pt, .int .i64 ak, .int .i64 av] 39 (0, 0)) ∧ w'.heap[g]? = some (.cells #[.slice a l.length c] 86 (0, 0)))
  have KS0 := Mr.hid (KS _ (Below.refl _ _).drew)
  -- what is left where nothing is done
  have NO : Hid (∀ w', Below W.heap.size W w' → Ob w' (fun k => S k ∨ W.heap.size ≤ k) g 86 3 1 l.length (ints l) ∧ Fr W w' S) := fun w' hB => ⟨ho'.kept (fun k _ hl => hB.block k hl) (fun k hk _ => .inl hk), Fr.of_below hB⟩
  -- the row behind new blocks
  have LO : Hid (∀ w', Below W.heap.size W w' → Own w' (fun k => S k ∧ k ≠ g ∧ k < W.heap.size) 3 1 (.slice a l.length c) l.length (ints l)) := fun w' hB => hO.kept2 (fun k _ hl => hB.block k hl) (fun k hk hl => ⟨hk.1, hk.2, hl⟩)
  have PL := Mr.hid (plcM_le l arg : plc l arg ≤ l.length)
  have IL := Mr.hid (insM_len l arg)
  have DL : Hid (inB l arg = true → (delL l arg).length = l.length - 1 ∧ plc l arg < l.length) := fun hb => ⟨delM_len hb, plcM_lt hb⟩
  replace KS := Mr.hid KS
  replace KR := Mr.hid KR
  replace C := Mr.hid C
  replace hl' := Mr.hid hl'
  clear hg hO ho' hW0 cg hR
  obtain ⟨p, hp⟩ : ∃ p, p = plc l arg := ⟨_, rfl⟩
  obtain ⟨b, hb⟩ : ∃ b, b = inB l arg := ⟨_, rfl⟩
  rw [← hb] at hl' DL
  rw [← hp, ← hb] at C
  rw [← hp] at PL DL
  have IE : Hid (insL l arg = l.take p ++ arg :: l.drop p) := by rw [hp]; rfl
  have DE : Hid (delL l arg = l.take p ++ l.drop (p + 1)) := by rw [hp]; rfl
  clear hp hb
  go_enter Try.func73, Try.ntmps73
  go_wp2
  generalize W.alloc (.cells #[.int .i64 th, .int .i64 op, .int .i64 arg, .int .i64 data, .int .i64 beg, .int .i64 fin, .int .i64 pt, .int .i64 ak, .int .i64 av] 39 (0, 0)) = w0 at *
  go_region_held3 (fun w' => w'.cell? ⟨g, 0, none⟩ = some (.slice a l.length c) ∧ w'.cell? ⟨W.heap.size, 2, none⟩ = some (.int .i64 arg)) (first | with_reducible exact KY.out | with_reducible exact KS0.out | go_keep) (first | (go_at_call 74; refine (C.out _ B0.out).mono ?_; rintro e w1 ⟨rfl, hB⟩; replace hB : Below w0.heap.size w0 w1 := ⟨hB.os, hB.tape, hB.output, hB.size, hB.block⟩; have KY := Mr.hid (KS.out w1 hB)))
  obtain ⟨KA, KB⟩ := KR.out w1 hB
  clear KY k1 k2 k3 k4 KS KS0
  obtain ⟨k1, k2, k3, k4⟩ := nine_cells KA
  have eg := cell_blk KB 0
  have hgl1 := (Array.getElem?_eq_some_iff.1 KB).1
  have fg : w1.frozen? ⟨g, 0, none⟩ = false := by simp [World.frozen?, KB]
  replace KA := Mr.hid KA
  replace KB := Mr.hid KB
  replace hB := Mr.hid (B1.out w1 hB)
  by_cases h : op = 50
  · have hl2 := hl'.out
    rw [if_pos h] at hl2
    have d1 : (op == 50) = true := by simpa using h
    have d2 : (op == 51) = false := by simp; omega
    replace h := Mr.hid h
    cases b with
    | true =>
      simp only [if_true] at hl2
      subst hl2
      clear hl'
      go_wp2
      go_end0
      exact ⟨rfl, NO.out _ hB.out⟩
    | false =>
      simp only [Bool.false_eq_true, if_false] at hl2
      subst hl2
      have CI := Mr.hid (insertI_any (LO.out (w1.drew.alloc (.cells #[.int .i64 arg] 3 (0, 0))) (hB.out.drew.alloc hB.out.size _)) hsm p PL.out (bv := w1.drew.heap.size) arg (heap_alloc_new w1.drew _) (fun e => by have := hB.out.size; have h2 : w1.drew.heap.size = w1.heap.size := rfl; omega))
      have hHG : Hid ((w1.drew.alloc (.cells #[.int .i64 arg] 3 (0, 0))).heap[g]? = some (.cells #[.slice a l.length c] 86 (0, 0))) := old_at KB.out _
      have hFR : Hid (Fr W (w1.drew.alloc (.cells #[.int .i64 arg] 3 (0, 0))) S) := Fr.of_below (hB.out.drew.alloc hB.out.size _)
      have hZ : Hid (W.heap.size ≤ w1.heap.size) := hB.out.size
      clear hl'
      go_wp2
      go_region_with (first | (go_at_call 76; refine CI.out.mono ?_; rintro e w3 ⟨v3, rfl, hO3, hF3⟩; obtain ⟨a3, c3, rfl, _, _⟩ := hO3.form; have hg3 := (hF3.block g (Array.getElem?_eq_some_iff.1 hHG.out).1 (fun e => e.2.1 rfl)).trans hHG.out; have cg3 := cell_blk hg3 0; have fg3 : w3.frozen? ⟨g, 0, none⟩ = false := by simp [World.frozen?, hg3]))
      all_goals
        have hO4 := hO3.mono (T := fun k => (S k ∨ W.heap.size ≤ k) ∧ k ≠ g) (fun k hk => by
          rcases hk with hk | hk
          · exact ⟨.inl hk.1, hk.2.1⟩
          · have := hZ.out
            simp at hk
            exact ⟨.inr (by omega), by omega⟩)
        rw [← IE.out] at hO4
        go_wp2
        go_end0
        refine ⟨rfl, ?_, (hFR.out.trans (hF3.mono (fun k h => .inl h.1))).setCell _ _ (.inl hS)⟩
        rw [IL.out]
        exact Ob.put (.inl hS) hg3 hO4
  · have hl2 := hl'.out
    rw [if_neg h] at hl2
    have d1 : (op == 50) = false := by simpa using h
    replace h := Mr.hid h
    by_cases h2 : op = 51
    · rw [if_pos h2] at hl2
      have d2 : (op == 51) = true := by simpa using h2
      replace h2 := Mr.hid h2
      cases b with
      | false =>
        simp only [Bool.false_eq_true, if_false] at hl2
        subst hl2
        clear hl'
        go_wp2
        go_end0
        exact ⟨rfl, NO.out _ hB.out⟩
      | true =>
        simp only [if_true] at hl2
        subst hl2
        obtain ⟨DL1, DL2⟩ := DL.out rfl
        have CD := Mr.hid (deleteI_any (LO.out w1 hB.out) p DL2)
        have hFR : Hid (Fr W w1 S) := Fr.of_below hB.out
        have ew : IntKind.i64.wrap ((p : Int) + 1) = (p : Int) + 1 := i64w _ (by omega) (by omega)
        clear hl'
        replace DL1 := Mr.hid DL1
        go_wp2_with (first | (go_at_call 77; refine CD.out.mono ?_; rintro e w3 ⟨v3, rfl, hO3, hF3⟩; obtain ⟨a3, c3, rfl, _, _⟩ := hO3.form; have hg3 := (hF3.block g hgl1 (fun e => e.2.1 rfl)).trans KB.out; have cg3 := cell_blk hg3 0; have fg3 : w3.frozen? ⟨g, 0, none⟩ = false := (by simp [World.frozen?, hg3]); replace hO3 := Mr.hid hO3; replace hF3 := Mr.hid hF3; replace hg3 := Mr.hid hg3))
        have hO4 := hO3.out.mono (T := fun k => (S k ∨ W.heap.size ≤ k) ∧ k ≠ g) (fun k hk => ⟨.inl hk.1, hk.2.1⟩)
        rw [← DE.out] at hO4
        go_end0
        refine ⟨rfl, ?_, (hFR.out.trans (hF3.out.mono (fun k h => .inl h.1))).setCell _ _ (.inl hS)⟩
        rw [DL1.out]
        exact Ob.put (.inl hS) hg3.out hO4
    · rw [if_neg h2] at hl2
      subst hl2
      have d2 : (op == 51) = false := by simpa using h2
      replace h2 := Mr.hid h2
      clear hl'
      cases b with
      | true =>
        go_wp2
        go_end0
        exact ⟨rfl, NO.out _ hB.out⟩
      | false =>
        go_wp2
        go_end0
        exact ⟨rfl, NO.out _ hB.out⟩
end Go.Proofs.Ytegbcocbopgghac.Md
