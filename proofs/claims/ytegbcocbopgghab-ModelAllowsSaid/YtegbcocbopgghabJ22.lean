import Derived.Test.YtegbcocbopgghabJ19
import Derived.Test.YtegbcocbopgghabJ20
import Derived.Test.YtegbcocbopgghabJ21
import Derived.Deep.RegionWith
import Derived.Test.YtegbcocbopgghabJ16
import Derived.Test.YtegbcocbopgghabJ17
import Derived.Test.YtegbcocbopgghabJ15
/-
  Package model: what the calls of the set and of the table leave.
-/
namespace Go.Proofs.Ytegbcocbopgghab.Md
open Go.RowKit Mr
set_option linter.unusedVariables false
set_option linter.unusedSimpArgs false
set_option maxRecDepth 100000 in
set_option maxHeartbeats 8000000 in
theorem leave_table {W : World} {S : Nat → Prop} {g : Nat} {l : List (Int × Int)} (ho : Ob W S g 111 81 2 l.length (prs l)) (hsm : l.length * 16 ≤ 225000000000000) (hR : Ris (keysOf l)) (th op arg data beg fin pt ak av : Int) (l' : List (Int × Int)) (hl' : l' = if op = 60 then (if inB (keysOf l) arg then l else insT l arg data) else if op = 61 then (if inB (keysOf l) arg then delT l arg else l) else l) :
    Calls Try.prog 100 #[.pointer (some ⟨g, 0, none⟩), .agg #[.int .i64 th, .int .i64 op, .int .i64 arg, .int .i64 data, .int .i64 beg, .int .i64 fin, .int .i64 pt, .int .i64 ak, .int .i64 av]] W fun e w' => e = .returned (.tuple #[]) ∧ Ob w' (fun k => S k ∨ W.heap.size ≤ k) g 111 81 2 l'.length (prs l') ∧ Fr W w' S := by
  have ho' := ho
  obtain ⟨v, hS, hg, hO⟩ := ho
  have hgl := (Array.getElem?_eq_some_iff.1 hg).1
  have C := fun w' (hB : Below W.heap.size W w') => find_any (ho'.kept (T := S) (fun k _ hl => hB.block k hl) (fun k hk _ => hk)) (Nat.le_trans hsm (by decide)) hR arg
  obtain ⟨a, c, rfl, hc, hm⟩ := hO.form
  have hW0 := heap_alloc_new W (.cells #[.int .i64 th, .int .i64 op, .int .i64 arg, .int .i64 data, .int .i64 beg, .int .i64 fin, .int .i64 pt, .int .i64 ak, .int .i64 av] 50 (0, 0))
  obtain ⟨k1, k2, k3, k4⟩ := nine_cells hW0
  have cg : (W.alloc (.cells #[.int .i64 th, .int .i64 op, .int .i64 arg, .int .i64 data, .int .i64 beg, .int .i64 fin, .int .i64 pt, .int .i64 ak, .int .i64 av] 50 (0, 0))).cell? ⟨g, 0, none⟩ = some (.slice a l.length c) := cell_blk (old_at hg _) 0
  have B0 := Mr.hid ((Below.refl W.heap.size W).alloc (Nat.le_refl _) (.cells #[.int .i64 th, .int .i64 op, .int .i64 arg, .int .i64 data, .int .i64 beg, .int .i64 fin, .int .i64 pt, .int .i64 ak, .int .i64 av] 50 (0, 0)))
  have B1 := Mr.hid (fun w' (hB : Below (W.alloc (.cells #[.int .i64 th, .int .i64 op, .int .i64 arg, .int .i64 data, .int .i64 beg, .int .i64 fin, .int .i64 pt, .int .i64 ak, .int .i64 av] 50 (0, 0))).heap.size (W.alloc (.cells #[.int .i64 th, .int .i64 op, .int .i64 arg, .int .i64 data, .int .i64 beg, .int .i64 fin, .int .i64 pt, .int .i64 ak, .int .i64 av] 50 (0, 0))) w') => (((Below.refl W.heap.size W).alloc (Nat.le_refl _) (.cells #[.int .i64 th, .int .i64 op, .int .i64 arg, .int .i64 data, .int .i64 beg, .int .i64 fin, .int .i64 pt, .int .i64 ak, .int .i64 av] 50 (0, 0))).trans (hB.mono (by simp)) : Below W.heap.size W w'))
  have KS : ∀ w' : World, Below (W.alloc (.cells #[.int .i64 th, .int .i64 op, .int .i64 arg, .int .i64 data, .int .i64 beg, .int .i64 fin, .int .i64 pt, .int .i64 ak, .int .i64 av] 50 (0, 0))).heap.size (W.alloc (.cells #[.int .i64 th, .int .i64 op, .int .i64 arg, .int .i64 data, .int .i64 beg, .int .i64 fin, .int .i64 pt, .int .i64 ak, .int .i64 av] 50 (0, 0))) w' → w'.cell? ⟨g, 0, none⟩ = some (.slice a l.length c) ∧ w'.cell? ⟨W.heap.size, 2, none⟩ = some (.int .i64 arg) := fun w' hB => ⟨(hB.cell (p := ⟨g, 0, none⟩) (by simp; omega)).trans cg, (nine_cells ((hB.block _ (by simp)).trans hW0)).2.1⟩
  have KR := fun w' (hB : Below (W.alloc (.cells #[.int .i64 th, .int .i64 op, .int .i64 arg, .int .i64 data, .int .i64 beg, .int .i64 fin, .int .i64 pt, .int .i64 ak, .int .i64 av] 50 (0, 0))).heap.size (W.alloc (.cells #[.int .i64 th, .int .i64 op, .int .i64 arg, .int .i64 data, .int .i64 beg, .int .i64 fin, .int .i64 pt, .int .i64 ak, .int .i64 av] 50 (0, 0))) w') => (⟨(hB.block W.heap.size (by simp)).trans hW0, (hB.block g (by simp; omega)).trans (old_at hg _)⟩ : w'.heap[W.heap.size]? = some (.cells #[.int .i64 th, .int .i64 op, .int .i64 arg, .int .i64 data, .int .i64 beg, .int .i64 fin, .int .i64 pt, .int .i64 ak, .int .i64 av] 50 (0, 0)) ∧ w'.heap[g]? = some (.cells #[.slice a l.length c] 111 (0, 0)))
  have KS0 := Mr.hid (KS _ (Below.refl _ _).drew)
  -- what is left where nothing is done
  have NO : Hid (∀ w', Below W.heap.size W w' → Ob w' (fun k => S k ∨ W.heap.size ≤ k) g 111 81 2 l.length (prs l) ∧ Fr W w' S) := fun w' hB => ⟨ho'.kept (fun k _ hl => hB.block k hl) (fun k hk _ => .inl hk), Fr.of_below hB⟩
  -- the row behind new blocks
  have LO : Hid (∀ w', Below W.heap.size W w' → Own w' (fun k => S k ∧ k ≠ g ∧ k < W.heap.size) 81 2 (.slice a l.length c) l.length (prs l)) := fun w' hB => hO.kept2 (fun k _ hl => hB.block k hl) (fun k hk hl => ⟨hk.1, hk.2, hl⟩)
  have PL := Mr.hid ((by have := plcM_le (keysOf l) arg; rwa [keysM_len] at this) : plc (keysOf l) arg ≤ l.length)
  have IL := Mr.hid (insMT_len l arg data)
  have DL : Hid (inB (keysOf l) arg = true → (delT l arg).length = l.length - 1 ∧ plc (keysOf l) arg < l.length) := fun hb => ⟨delMT_len hb, (by have := plcM_lt hb; rwa [keysM_len] at this)⟩
  replace KS := Mr.hid KS
  replace KR := Mr.hid KR
  replace C := Mr.hid C
  replace hl' := Mr.hid hl'
  clear hg hO ho' hW0 cg hR
  obtain ⟨p, hp⟩ : ∃ p, p = plc (keysOf l) arg := ⟨_, rfl⟩
  obtain ⟨b, hb⟩ : ∃ b, b = inB (keysOf l) arg := ⟨_, rfl⟩
  rw [← hb] at hl' DL
  rw [← hp, ← hb] at C
  rw [← hp] at PL DL
  have IE : Hid (insT l arg data = l.take p ++ (arg, data) :: l.drop p) := by rw [hp]; rfl
  have DE : Hid (delT l arg = l.take p ++ l.drop (p + 1)) := by rw [hp]; rfl
  clear hp hb
  go_enter Try.func100, Try.ntmps100
  go_upto_region 2 with (first | (go_at_call 99; refine (C.out _ B0.out).mono ?_; rintro e w1 ⟨rfl, hB⟩))
  obtain ⟨KA, KB⟩ := KR.out w1 hB
  clear k1 k2 k3 k4 KS KS0
  obtain ⟨k1, k2, k3, k4⟩ := nine_cells KA
  have eg := cell_blk KB 0
  have hgl1 := (Array.getElem?_eq_some_iff.1 KB).1
  have fg : w1.frozen? ⟨g, 0, none⟩ = false := by simp [World.frozen?, KB]
  replace KA := Mr.hid KA
  replace KB := Mr.hid KB
  replace hB := Mr.hid (B1.out w1 hB)
  by_cases h : op = 60
  · have hl2 := hl'.out
    rw [if_pos h] at hl2
    have d1 : (op == 60) = true := by simpa using h
    have d2 : (op == 61) = false := by simp; omega
    replace h := Mr.hid h
    cases b with
    | true =>
      simp only [if_true] at hl2
      subst hl2
      clear hl'
      go_wp2
      go_end0
      exact ⟨rfl, NO.out _ hB.out⟩
    | false =>
      simp only [Bool.false_eq_true, if_false] at hl2
      subst hl2
      have CI := Mr.hid (insertP_any (LO.out (w1.drew.alloc (.cells #[.int .i64 arg, .int .i64 data] 81 (0, 0))) (hB.out.drew.alloc hB.out.size _)) hsm p PL.out (bv := w1.drew.heap.size) (arg, data) (heap_alloc_new w1.drew _) (fun e => by have := hB.out.size; have h2 : w1.drew.heap.size = w1.heap.size := rfl; omega))
      have hHG : Hid ((w1.drew.alloc (.cells #[.int .i64 arg, .int .i64 data] 81 (0, 0))).heap[g]? = some (.cells #[.slice a l.length c] 111 (0, 0))) := old_at KB.out _
      have hFR : Hid (Fr W (w1.drew.alloc (.cells #[.int .i64 arg, .int .i64 data] 81 (0, 0))) S) := Fr.of_below (hB.out.drew.alloc hB.out.size _)
      have hZ : Hid (W.heap.size ≤ w1.heap.size) := hB.out.size
      clear hl'
      go_wp2
      go_region_with (first | (go_at_call 102; refine CI.out.mono ?_; rintro e w3 ⟨v3, rfl, hO3, hF3⟩; obtain ⟨a3, c3, rfl, _, _⟩ := hO3.form; have hg3 := (hF3.block g (Array.getElem?_eq_some_iff.1 hHG.out).1 (fun e => e.2.1 rfl)).trans hHG.out; have cg3 := cell_blk hg3 0; have fg3 : w3.frozen? ⟨g, 0, none⟩ = false := by simp [World.frozen?, hg3]))
      all_goals
        have hO4 := hO3.mono (T := fun k => (S k ∨ W.heap.size ≤ k) ∧ k ≠ g) (fun k hk => by
          rcases hk with hk | hk
          · exact ⟨.inl hk.1, hk.2.1⟩
          · have := hZ.out
            simp at hk
            exact ⟨.inr (by omega), by omega⟩)
        rw [← IE.out] at hO4
        go_wp2
        go_end0
        refine ⟨rfl, ?_, (hFR.out.trans (hF3.mono (fun k h => .inl h.1))).setCell _ _ (.inl hS)⟩
        rw [IL.out]
        exact Ob.put (.inl hS) hg3 hO4
  · have hl2 := hl'.out
    rw [if_neg h] at hl2
    have d1 : (op == 60) = false := by simpa using h
    replace h := Mr.hid h
    by_cases h2 : op = 61
    · rw [if_pos h2] at hl2
      have d2 : (op == 61) = true := by simpa using h2
      replace h2 := Mr.hid h2
      cases b with
      | false =>
        simp only [Bool.false_eq_true, if_false] at hl2
        subst hl2
        clear hl'
        go_wp2
        go_end0
        exact ⟨rfl, NO.out _ hB.out⟩
      | true =>
        simp only [if_true] at hl2
        subst hl2
        obtain ⟨DL1, DL2⟩ := DL.out rfl
        have CD := Mr.hid (deleteP_any (LO.out w1 hB.out) p DL2)
        have hFR : Hid (Fr W w1 S) := Fr.of_below hB.out
        have ew : IntKind.i64.wrap ((p : Int) + 1) = (p : Int) + 1 := i64w _ (by omega) (by omega)
        clear hl'
        replace DL1 := Mr.hid DL1
        go_wp2_with (first | (go_at_call 103; refine CD.out.mono ?_; rintro e w3 ⟨v3, rfl, hO3, hF3⟩; obtain ⟨a3, c3, rfl, _, _⟩ := hO3.form; have hg3 := (hF3.block g hgl1 (fun e => e.2.1 rfl)).trans KB.out; have cg3 := cell_blk hg3 0; have fg3 : w3.frozen? ⟨g, 0, none⟩ = false := (by simp [World.frozen?, hg3]); replace hO3 := Mr.hid hO3; replace hF3 := Mr.hid hF3; replace hg3 := Mr.hid hg3))
        have hO4 := hO3.out.mono (T := fun k => (S k ∨ W.heap.size ≤ k) ∧ k ≠ g) (fun k hk => ⟨.inl hk.1, hk.2.1⟩)
        rw [← DE.out] at hO4
        go_end0
        refine ⟨rfl, ?_, (hFR.out.trans (hF3.out.mono (fun k h => .inl h.1))).setCell _ _ (.inl hS)⟩
        rw [DL1.out]
        exact Ob.put (.inl hS) hg3.out hO4
    · rw [if_neg h2] at hl2
      subst hl2
      have d2 : (op == 61) = false := by simpa using h2
      replace h2 := Mr.hid h2
      clear hl'
      cases b with
      | true =>
        go_wp2
        go_end0
        exact ⟨rfl, NO.out _ hB.out⟩
      | false =>
        go_wp2
        go_end0
        exact ⟨rfl, NO.out _ hB.out⟩
end Go.Proofs.Ytegbcocbopgghab.Md
/-
  Package model: the boxes within Do; a row of one call.
-/
namespace Go.Proofs.Ytegbcocbopgghab.Md
open Go.RowKit Mr
set_option linter.unusedVariables false
set_option linter.unusedSimpArgs false
/-- Boxes at n (what was handed in), n + 1 (the contents), n + 2 (the answer), n + 3 (the call). -/
structure Dx (W w : World) (oU oC : Obj) : Prop where
  bel : Below W.heap.size W w
  u : w.heap[W.heap.size]? = some oU
  r : w.heap[W.heap.size + 1]? = some (.cells #[.slice none 0 0, .slice none 0 0, .slice none 0 0, .slice none 0 0, .slice none 0 0] 25 (0, 0))
  a : w.heap[W.heap.size + 1 + 1]? = some (.cells #[.int .i64 0, .int .i64 0] 31 (0, 0))
  c : w.heap[W.heap.size + 1 + 1 + 1]? = some oC
theorem Dx.lt {W w : World} {oU oC : Obj} (h : Dx W w oU oC) : W.heap.size + 3 < w.heap.size := (Array.getElem?_eq_some_iff.1 h.c).1
theorem Dx.new (W : World) (oU oC : Obj) : Dx W ((((W.alloc oU).alloc (.cells #[.slice none 0 0, .slice none 0 0, .slice none 0 0, .slice none 0 0, .slice none 0 0] 25 (0, 0))).alloc (.cells #[.int .i64 0, .int .i64 0] 31 (0, 0))).alloc oC) oU oC :=
  ⟨((((Below.refl _ _).alloc (Nat.le_refl _) _).alloc (by simp) _).alloc (by simp; omega) _).alloc (by simp; omega) _, old_at (old_at (old_at (new_at W _ _ rfl) _) _) _, old_at (old_at (new_at _ _ _ (by simp)) _) _, old_at (new_at _ _ _ (by simp)) _, new_at _ _ _ (by simp)⟩
theorem Dx.below {W w w' : World} {oU oC : Obj} (h : Dx W w oU oC) (hB : Below w.heap.size w w') : Dx W w' oU oC := by
  have hl := h.lt
  exact ⟨h.bel.trans (hB.mono h.bel.size), (hB.block _ (by omega)).trans h.u, (hB.block _ (by omega)).trans h.r, (hB.block _ (by omega)).trans h.a, (hB.block _ (by omega)).trans h.c⟩
theorem Dx.fr {W w w' : World} {oU oC : Obj} {S : Nat → Prop} (h : Dx W w oU oC) (hF : Fr w w' S) (hS : ∀ k, S k → W.heap.size + 3 < k) : Dx W w' oU oC := by
  have hl := h.lt
  have q : ∀ k, k ≤ W.heap.size + 3 → ¬ S k := fun k hk e => by have := hS k e; omega
  exact ⟨h.bel.trans (hF.below (n := W.heap.size) (fun k hk => by have := hS k hk; omega) h.bel.size), (hF.block _ (by omega) (q _ (by omega))).trans h.u, (hF.block _ (by omega) (q _ (by omega))).trans h.r, (hF.block _ (by omega) (q _ (by omega))).trans h.a, (hF.block _ (by omega) (q _ (by omega))).trans h.c⟩
theorem CtOwn.kept {W W' : World} {B B' : Nat} {lab : Nat → Nat} {v0 v1 v2 v3 v4 : Value} {x : Ct} (h : CtOwn W B lab v0 v1 v2 v3 v4 x) (hb : ∀ k, B ≤ k → k < W.heap.size → W'.heap[k]? = W.heap[k]?) (hB : B' ≤ B) : CtOwn W' B' lab v0 v1 v2 v3 v4 x :=
  ⟨fun k hk => Nat.le_trans hB (h.low k hk), h.cell.kept2 (fun k hk hl => hb k (h.low k (by omega)) hl) (fun k hk _ => hk), h.stack.kept2 (fun k hk hl => hb k (h.low k (by omega)) hl) (fun k hk _ => hk), h.queue.kept2 (fun k hk hl => hb k (h.low k (by omega)) hl) (fun k hk _ => hk), h.set.kept2 (fun k hk hl => hb k (h.low k (by omega)) hl) (fun k hk _ => hk), h.table.kept2 (fun k hk hl => hb k (h.low k (by omega)) hl) (fun k hk _ => hk)⟩
/-- The two results written. -/
def set7d (w : World) (n : Nat) (v0 v1 v2 v3 v4 : Value) (k v : Int) : World := ((set5 w (n + 1) v0 v1 v2 v3 v4).setCell ⟨n + 1 + 1, 0, none⟩ (.int .i64 k)).setCell ⟨n + 1 + 1, 1, none⟩ (.int .i64 v)
theorem set7d_far (w : World) (n : Nat) (v0 v1 v2 v3 v4 : Value) (k v : Int) (b : Nat) (h1 : b ≠ n + 1) (h2 : b ≠ n + 1 + 1) : (set7d w n v0 v1 v2 v3 v4 k v).heap[b]? = w.heap[b]? := by
  unfold set7d
  rw [Below.heap_setCell _ _ _ b h2, Below.heap_setCell _ _ _ b h2, set5_far w (n + 1) v0 v1 v2 v3 v4 b h1]
theorem do_end {W w : World} {n : Nat} (v0 v1 v2 v3 v4 : Value) (k v : Int) (hB : Below W.heap.size W w) (hn : W.heap.size ≤ n) (hr : w.heap[n + 1]? = some (.cells #[.slice none 0 0, .slice none 0 0, .slice none 0 0, .slice none 0 0, .slice none 0 0] 25 (0, 0))) (ha : w.heap[n + 1 + 1]? = some (.cells #[.int .i64 0, .int .i64 0] 31 (0, 0))) :
    Below W.heap.size W (set7d w n v0 v1 v2 v3 v4 k v) ∧ (set7d w n v0 v1 v2 v3 v4 k v).heap[n + 1]? = some (.cells #[v0, v1, v2, v3, v4] 25 (0, 0)) ∧ (set7d w n v0 v1 v2 v3 v4 k v).cell? ⟨n + 1 + 1, 0, none⟩ = some (.int .i64 k) ∧ (set7d w n v0 v1 v2 v3 v4 k v).cell? ⟨n + 1 + 1, 1, none⟩ = some (.int .i64 v) := by
  have h5 := set5_five v0 v1 v2 v3 v4 hr
  have ha5 : (set5 w (n + 1) v0 v1 v2 v3 v4).heap[n + 1 + 1]? = some (.cells #[.int .i64 0, .int .i64 0] 31 (0, 0)) := (set5_far w (n + 1) v0 v1 v2 v3 v4 (n + 1 + 1) (by omega)).trans ha
  obtain ⟨_, _, _, _, _, e1, e2⟩ := ans_set ha5 k v
  refine ⟨ans_below (set5_below (b := n + 1) v0 v1 v2 v3 v4 hB (by omega)) (by omega) k v, ?_, e1, e2⟩
  unfold set7d
  rw [Below.heap_setCell _ _ _ (n + 1) (by show n + 1 ≠ n + 1 + 1; omega), Below.heap_setCell _ _ _ (n + 1) (by show n + 1 ≠ n + 1 + 1; omega)]
  exact h5
theorem cell_of {w w' : World} {b o : Nat} (h : w'.heap[b]? = w.heap[b]?) : w'.cell? ⟨b, o, none⟩ = w.cell? ⟨b, o, none⟩ := by
  unfold World.cell?
  simp only [h]
theorem do_keep {w : World} {n bW bA : Nat} {i0 i1 i2 i3 i4 a0 a1 : Value} (v0 v1 v2 v3 v4 : Value) (k v : Int) (h1 : n + 1 + 1 < bW) (h2 : n + 1 + 1 < bA) (h : w.cell? ⟨bW, 0, none⟩ = some i0 ∧ w.cell? ⟨bW, 1, none⟩ = some i1 ∧ w.cell? ⟨bW, 2, none⟩ = some i2 ∧ w.cell? ⟨bW, 3, none⟩ = some i3 ∧ w.cell? ⟨bW, 4, none⟩ = some i4 ∧ w.cell? ⟨bA, 0, none⟩ = some a0 ∧ w.cell? ⟨bA, 1, none⟩ = some a1) :
    (set7d w n v0 v1 v2 v3 v4 k v).cell? ⟨bW, 0, none⟩ = some i0 ∧ (set7d w n v0 v1 v2 v3 v4 k v).cell? ⟨bW, 1, none⟩ = some i1 ∧ (set7d w n v0 v1 v2 v3 v4 k v).cell? ⟨bW, 2, none⟩ = some i2 ∧ (set7d w n v0 v1 v2 v3 v4 k v).cell? ⟨bW, 3, none⟩ = some i3 ∧ (set7d w n v0 v1 v2 v3 v4 k v).cell? ⟨bW, 4, none⟩ = some i4 ∧ (set7d w n v0 v1 v2 v3 v4 k v).cell? ⟨bA, 0, none⟩ = some a0 ∧ (set7d w n v0 v1 v2 v3 v4 k v).cell? ⟨bA, 1, none⟩ = some a1 := by
  have eW := set7d_far w n v0 v1 v2 v3 v4 k v bW (by omega) (by omega)
  have eA := set7d_far w n v0 v1 v2 v3 v4 k v bA (by omega) (by omega)
  rw [cell_of eW, cell_of eW, cell_of eW, cell_of eW, cell_of eW, cell_of eA, cell_of eA]
  exact h
theorem do_keep5 {w : World} {n bW bA : Nat} {i0 i1 i2 i3 i4 a0 a1 : Value} (v0 v1 v2 v3 v4 : Value) (h1 : n + 1 + 1 < bW) (h2 : n + 1 + 1 < bA) (h : w.cell? ⟨bW, 0, none⟩ = some i0 ∧ w.cell? ⟨bW, 1, none⟩ = some i1 ∧ w.cell? ⟨bW, 2, none⟩ = some i2 ∧ w.cell? ⟨bW, 3, none⟩ = some i3 ∧ w.cell? ⟨bW, 4, none⟩ = some i4 ∧ w.cell? ⟨bA, 0, none⟩ = some a0 ∧ w.cell? ⟨bA, 1, none⟩ = some a1) :
    (set5 w (n + 1) v0 v1 v2 v3 v4).cell? ⟨bW, 0, none⟩ = some i0 ∧ (set5 w (n + 1) v0 v1 v2 v3 v4).cell? ⟨bW, 1, none⟩ = some i1 ∧ (set5 w (n + 1) v0 v1 v2 v3 v4).cell? ⟨bW, 2, none⟩ = some i2 ∧ (set5 w (n + 1) v0 v1 v2 v3 v4).cell? ⟨bW, 3, none⟩ = some i3 ∧ (set5 w (n + 1) v0 v1 v2 v3 v4).cell? ⟨bW, 4, none⟩ = some i4 ∧ (set5 w (n + 1) v0 v1 v2 v3 v4).cell? ⟨bA, 0, none⟩ = some a0 ∧ (set5 w (n + 1) v0 v1 v2 v3 v4).cell? ⟨bA, 1, none⟩ = some a1 := by
  have eW := set5_far w (n + 1) v0 v1 v2 v3 v4 bW (by omega)
  have eA := set5_far w (n + 1) v0 v1 v2 v3 v4 bA (by omega)
  rw [cell_of eW, cell_of eW, cell_of eW, cell_of eW, cell_of eW, cell_of eA, cell_of eA]
  exact h
def cqM (c : Cq) : Obj := .cells #[.int .i64 c.th, .int .i64 c.op, .int .i64 c.arg, .int .i64 c.data, .int .i64 c.beg, .int .i64 c.fin, .int .i64 c.pt, .int .i64 c.ak, .int .i64 c.av] 50 (0, 0)
theorem sl_call {w : World} {b : Nat} {c : Cq} (h : w.heap[b]? = some (cqM c)) : Sl w (fun _ => True) 9 (.slice (some ⟨b, 0, none⟩) 1 1) [c].length (cqs [c]) := by
  refine ⟨by simp [cqs, Cq.row], _, 1, rfl, Nat.le_refl _, .inr ⟨b, 0, rfl, trivial, (Array.getElem?_eq_some_iff.1 h).1, fun j u hu => ?_⟩⟩
  rw [Nat.zero_add, cell_blk h]
  simpa [cqs, Cq.row] using hu
end Go.Proofs.Ytegbcocbopgghab.Md
