import Derived.Test.YtegbcocbopgghacJ18
import Derived.Test.YtegbcocbopgghacJ19
import Derived.Test.YtegbcocbopgghacJ20
import Derived.Deep.RegionWith
import Derived.Test.YtegbcocbopgghacJ14
import Derived.Test.YtegbcocbopgghacJ09
/-
  Package model: what the calls of the set and of the table leave.
-/
namespace Go.Proofs.Ytegbcocbopgghac.Md
open Go.RowKit Mr
set_option linter.unusedVariables false
set_option linter.unusedSimpArgs false
set_option maxRecDepth 100000 in
set_option maxHeartbeats 8000000 in
theorem leave_table {W : World} {S : Nat → Prop} {g : Nat} {l : List (Int × Int)} (ho : Ob W S g 89 73 2 l.length (prs l)) (hsm : l.length * 16 ≤ 225000000000000) (hR : Ris (keysOf l)) (th op arg data beg fin pt ak av : Int) (l' : List (Int × Int)) (hl' : l' = if op = 60 then (if inB (keysOf l) arg then l else insT l arg data) else if op = 61 then (if inB (keysOf l) arg then delT l arg else l) else l) :
    Calls Try.prog 85 #[.pointer (some ⟨g, 0, none⟩), .agg #[.int .i64 th, .int .i64 op, .int .i64 arg, .int .i64 data, .int .i64 beg, .int .i64 fin, .int .i64 pt, .int .i64 ak, .int .i64 av]] W fun e w' => e = .returned (.tuple #[]) ∧ Ob w' (fun k => S k ∨ W.heap.size ≤ k) g 89 73 2 l'.length (prs l') ∧ Fr W w' S := by
  have ho' := ho
  obtain ⟨v, hS, hg, hO⟩ := ho
  have hgl := (Array.getElem?_eq_some_iff.1 hg).1
  have C := fun w' (hB : Below W.heap.size W w') => find_any (ho'.kept (T := S) (fun k _ hl => hB.block k hl) (fun k hk _ => hk)) (Nat.le_trans hsm (by decide)) hR arg
  obtain ⟨a, c, rfl, hc, hm⟩ := hO.form
  have hW0 := heap_alloc_new W (.cells #[.int .i64 th, .int .i64 op, .int .i64 arg, .int .i64 data, .int .i64 beg, .int .i64 fin, .int .i64 pt, .int .i64 ak, .int .i64 av] 39 (0, 0))
  obtain ⟨k1, k2, k3, k4⟩ := nine_cells hW0
  have cg : (W.alloc (.cells #[.int .i64 th, .int .i64 op, .int .i64 arg, .int .i64 data, .int .i64 beg, .int .i64 fin, .int .i64 pt, .int .i64 ak, .int .i64 av] 39 (0, 0))).cell? ⟨g, 0, none⟩ = some (.slice a l.length c) := cell_blk (old_at hg _) 0
  have B0 := Mr.hid ((Below.refl W.heap.size W).alloc (Nat.le_refl _) (.cells #[.int .i64 th, .int .i64 op, .int .i64 arg, .int .i64 data, .int .i64 beg, .int .i64 fin, .int .i64 pt, .int .i64 ak, .int .i64 av] 39 (0, 0)))
  have B1 := Mr.hid (fun w' (hB : Below (W.alloc (.cells #[.int .i64 th, .int .i64 op, .int .i64 arg, .int .i64 data, .int .i64 beg, .int .i64 fin, .int .i64 pt, .int .i64 ak, .int .i64 av] 39 (0, 0))).heap.size (W.alloc (.cells #[.int .i64 th, .int .i64 op, .int .i64 arg, .int .i64 data, .int .i64 beg, .int .i64 fin, .int .i64 pt, .int .i64 ak, .int .i64 av] 39 (0, 0))) w') => (((Below.refl W.heap.size W).alloc (Nat.le_refl _) (.cells #[.int .i64 th, .int .i64 op, .int .i64 arg, .int .i64 data, .int .i64 beg, .int .i64 fin, .int .i64 pt, .int .i64 ak, .int .i64 av] 39 (0, 0))).trans (hB.mono (by simp)) : Below W.heap.size W w'))
  have KS : ∀ w' : World, Below (W.alloc (.cells #[.int .i64 th, .int .i64 op, .int .i64 arg, .int .i64 data, .int .i64 beg, .int .i64 fin, .int .i64 pt, .int .i64 ak, .int .i64 av] 39 (0, 0))).heap.size (W.alloc (.cells #[.int .i64 th, .int .i64 op, .int .i64 arg, .int .i64 data, .int .i64 beg, .int .i64 fin, .int .i64 pt, .int .i64 ak, .int .i64 av] 39 (0, 0))) w' → w'.cell? ⟨g, 0, none⟩ = some (.slice a l.length c) ∧ w'.cell? ⟨W.heap.size, 2, none⟩ = some (.int .i64 arg) := fun w' hB => ⟨(hB.cell (p := ⟨g, 0, none⟩) (by simp; omega)).trans cg, (nine_cells ((hB.block _ (by simp)).trans hW0)).2.1⟩
  have KR := fun w' (hB : Below (W.alloc (.cells #[.int .i64 th, .int .i64 op, .int .i64 arg, .int .i64 data, .int .i64 beg, .int .i64 fin, .int .i64 pt, .int .i64 ak, .int .i64 av] 39 (0, 0))).heap.size (W.alloc (.cells #[.int .i64 th, .int .i64 op, .int .i64 arg, .int .i64 data, .int .i64 beg, .int .i64 fin, .int .i64 pt, .int .i64 ak, .int .i64 av] 39 (0, 0))) w') => (⟨(hB.block W.heap.size (by simp)).trans hW0, (hB.block g (by simp; omega)).trans (old_at hg _)⟩ : w'.heap[W.heap.size]? = some (.cells #[.int .i64 th, .int .i64 op, .int .i64 arg, .int .i64 data, .int .i64 beg, .int .i64 fin, .int .i64 pt, .int .i64 ak, .int .i64 av] 39 (0, 0)) ∧ w'.heap[g]? = some (.cells #[.slice a l.length c] 89 (0, 0)))
  have KS0 := Mr.hid (KS _ (Below.refl _ _).drew)
  -- what is left where nothing is done
  have NO : Hid (∀ w', Below W.heap.size W w' → Ob w' (fun k => S k ∨ W.heap.size ≤ k) g 89 73 2 l.length (prs l) ∧ Fr W w' S) := fun w' hB => ⟨ho'.kept (fun k _ hl => hB.block k hl) (fun k hk _ => .inl hk), Fr.of_below hB⟩
  -- the row behind new blocks
  have LO : Hid (∀ w', Below W.heap.size W w' → Own w' (fun k => S k ∧ k ≠ g ∧ k < W.heap.size) 73 2 (.slice a l.length c) l.length (prs l)) := fun w' hB => hO.kept2 (fun k _ hl => hB.block k hl) (fun k hk hl => ⟨hk.1, hk.2, hl⟩)
  have PL := Mr.hid ((by have := plcM_le (keysOf l) arg; rwa [keysM_len] at this) : plc (keysOf l) arg ≤ l.length)
  have IL := Mr.hid (insMT_len l arg data)
  have DL : Hid (inB (keysOf l) arg = true → (delT l arg).length = l.length - 1 ∧ plc (keysOf l) arg < l.length) := fun hb => ⟨delMT_len hb, (by have := plcM_lt hb; rwa [keysM_len] at this)⟩
  replace KS := Mr.hid KS
  replace KR := Mr.hid KR
  replace C := Mr.hid C
  replace hl' := Mr.hid hl'
  clear hg hO ho' hW0 cg hR
  obtain ⟨p, hp⟩ : ∃ p, p = plc (keysOf l) arg := ⟨_, rfl⟩
  obtain ⟨b, hb⟩ : ∃ b, b = inB (keysOf l) arg := ⟨_, rfl⟩
  rw [← hb] at hl' DL
  rw [← hp, ← hb] at C
  rw [← hp] at PL DL
  have IE : Hid (insT l arg data = l.take p ++ (arg, data) :: l.drop p) := by rw [hp]; rfl
  have DE : Hid (delT l arg = l.take p ++ l.drop (p + 1)) := by rw [hp]; rfl
  clear hp hb
  go_enter Try.func85, Try.ntmps85
  go_upto_region 2 with (first | (go_at_call 84; refine (C.out _ B0.out).mono ?_; rintro e w1 ⟨rfl, hB⟩))
  obtain ⟨KA, KB⟩ := KR.out w1 hB
  clear k1 k2 k3 k4 KS KS0
  obtain ⟨k1, k2, k3, k4⟩ := nine_cells KA
  have eg := cell_blk KB 0
  have hgl1 := (Array.getElem?_eq_some_iff.1 KB).1
  have fg : w1.frozen? ⟨g, 0, none⟩ = false := by simp [World.frozen?, KB]
  replace KA := Mr.hid KA
  replace KB := Mr.hid KB
  replace hB := Mr.hid (B1.out w1 hB)
  by_cases h : op = 60
  · have hl2 := hl'.out
    rw [if_pos h] at hl2
    have d1 : (op == 60) = true := by simpa using h
    have d2 : (op == 61) = false := by simp; omega
    replace h := Mr.hid h
    cases b with
    | true =>
      simp only [if_true] at hl2
      subst hl2
      clear hl'
      go_wp2
      go_end0
      exact ⟨rfl, NO.out _ hB.out⟩
    | false =>
      simp only [Bool.false_eq_true, if_false] at hl2
      subst hl2
      have CI := Mr.hid (insertP_any (LO.out (w1.drew.alloc (.cells #[.int .i64 arg, .int .i64 data] 73 (0, 0))) (hB.out.drew.alloc hB.out.size _)) hsm p PL.out (bv := w1.drew.heap.size) (arg, data) (heap_alloc_new w1.drew _) (fun e => by have := hB.out.size; have h2 : w1.drew.heap.size = w1.heap.size := rfl; omega))
      have hHG : Hid ((w1.drew.alloc (.cells #[.int .i64 arg, .int .i64 data] 73 (0, 0))).heap[g]? = some (.cells #[.slice a l.length c] 89 (0, 0))) := old_at KB.out _
      have hFR : Hid (Fr W (w1.drew.alloc (.cells #[.int .i64 arg, .int .i64 data] 73 (0, 0))) S) := Fr.of_below (hB.out.drew.alloc hB.out.size _)
      have hZ : Hid (W.heap.size ≤ w1.heap.size) := hB.out.size
      clear hl'
      go_wp2
      go_region_with (first | (go_at_call 87; refine CI.out.mono ?_; rintro e w3 ⟨v3, rfl, hO3, hF3⟩; obtain ⟨a3, c3, rfl, _, _⟩ := hO3.form; have hg3 := (hF3.block g (Array.getElem?_eq_some_iff.1 hHG.out).1 (fun e => e.2.1 rfl)).trans hHG.out; have cg3 := cell_blk hg3 0; have fg3 : w3.frozen? ⟨g, 0, none⟩ = false := by simp [World.frozen?, hg3]))
      all_goals
        have hO4 := hO3.mono (T := fun k => (S k ∨ W.heap.size ≤ k) ∧ k ≠ g) (fun k hk => by
          rcases hk with hk | hk
          · exact ⟨.inl hk.1, hk.2.1⟩
          · have := hZ.out
            simp at hk
            exact ⟨.inr (by omega), by omega⟩)
        rw [← IE.out] at hO4
        go_wp2
        go_end0
        refine ⟨rfl, ?_, (hFR.out.trans (hF3.mono (fun k h => .inl h.1))).setCell _ _ (.inl hS)⟩
        rw [IL.out]
        exact Ob.put (.inl hS) hg3 hO4
  · have hl2 := hl'.out
    rw [if_neg h] at hl2
    have d1 : (op == 60) = false := by simpa using h
    replace h := Mr.hid h
    by_cases h2 : op = 61
    · rw [if_pos h2] at hl2
      have d2 : (op == 61) = true := by simpa using h2
      replace h2 := Mr.hid h2
      cases b with
      | false =>
        simp only [Bool.false_eq_true, if_false] at hl2
        subst hl2
        clear hl'
        go_wp2
        go_end0
        exact ⟨rfl, NO.out _ hB.out⟩
      | true =>
        simp only [if_true] at hl2
        subst hl2
        obtain ⟨DL1, DL2⟩ := DL.out rfl
        have CD := Mr.hid (deleteP_any (LO.out w1 hB.out) p DL2)
        have hFR : Hid (Fr W w1 S) := Fr.of_below hB.out
        have ew : IntKind.i64.wrap ((p : Int) + 1) = (p : Int) + 1 := i64w _ (by omega) (by omega)
        clear hl'
        replace DL1 := Mr.hid DL1
        go_wp2_with (first | (go_at_call 88; refine CD.out.mono ?_; rintro e w3 ⟨v3, rfl, hO3, hF3⟩; obtain ⟨a3, c3, rfl, _, _⟩ := hO3.form; have hg3 := (hF3.block g hgl1 (fun e => e.2.1 rfl)).trans KB.out; have cg3 := cell_blk hg3 0; have fg3 : w3.frozen? ⟨g, 0, none⟩ = false := (by simp [World.frozen?, hg3]); replace hO3 := Mr.hid hO3; replace hF3 := Mr.hid hF3; replace hg3 := Mr.hid hg3))
        have hO4 := hO3.out.mono (T := fun k => (S k ∨ W.heap.size ≤ k) ∧ k ≠ g) (fun k hk => ⟨.inl hk.1, hk.2.1⟩)
        rw [← DE.out] at hO4
        go_end0
        refine ⟨rfl, ?_, (hFR.out.trans (hF3.out.mono (fun k h => .inl h.1))).setCell _ _ (.inl hS)⟩
        rw [DL1.out]
        exact Ob.put (.inl hS) hg3.out hO4
    · rw [if_neg h2] at hl2
      subst hl2
      have d2 : (op == 61) = false := by simpa using h2
      replace h2 := Mr.hid h2
      clear hl'
      cases b with
      | true =>
        go_wp2
        go_end0
        exact ⟨rfl, NO.out _ hB.out⟩
      | false =>
        go_wp2
        go_end0
        exact ⟨rfl, NO.out _ hB.out⟩
end Go.Proofs.Ytegbcocbopgghac.Md
/-
  Package model: no contents; labels of one object.
-/
namespace Go.Proofs.Ytegbcocbopgghac.Md
open Go.RowKit Mr
set_option linter.unusedVariables false
def labx (lab : Nat → Nat) (s i k : Nat) : Nat := if lab k = i ∨ s ≤ k then i else 5
theorem labx_in {lab : Nat → Nat} {s i k : Nat} (h : lab k = i ∨ s ≤ k) : labx lab s i k = i := if_pos h
theorem labx_lt {lab : Nat → Nat} {s i k : Nat} (h : labx lab s i k < 5) : lab k = i ∨ s ≤ k := by
  by_cases c : lab k = i ∨ s ≤ k
  · exact c
  · unfold labx at h; rw [if_neg c] at h; omega
theorem ct0_own (w : World) (B : Nat) : CtOwn w B (fun _ => 5) (.slice none 0 0) (.slice none 0 0) (.slice none 0 0) (.slice none 0 0) (.slice none 0 0) ct0 := ⟨fun k h => absurd h (by decide), Own.zero _ _ _ _ _, Own.zero _ _ _ _ _, Own.zero _ _ _ _ _, Own.zero _ _ _ _ _, Own.zero _ _ _ _ _⟩
theorem Tq.res {W w w' : World} {n : Nat} {o r : Obj} {T : Nat → Prop} (h : Tq W w n (n + 1) o r) (hF : Fr w w' T) (hT : ¬ T (n + 1)) : w'.heap[n + 1]? = some r := (hF.block _ h.2.2.2.1 hT).trans h.2.2.1
end Go.Proofs.Ytegbcocbopgghac.Md
