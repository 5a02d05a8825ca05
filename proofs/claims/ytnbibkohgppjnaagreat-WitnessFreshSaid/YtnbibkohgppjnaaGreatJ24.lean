import Derived.Test.YtnbibkohgppjnaaGreatJ21
import Derived.Test.YtnbibkohgppjnaaGreatJ22
import Derived.Test.YtnbibkohgppjnaaGreatJ23
import Derived.Deep.RegionWith
import Derived.Test.YtnbibkohgppjnaaGreatJ16
import Derived.Test.YtnbibkohgppjnaaGreatJ08
import Derived.Test.YtnbibkohgppjnaaGreatJ18
set_option linter.unusedVariables false
set_option linter.unusedSimpArgs false
namespace Go.Proofs.YtnbibkohgppjnaaGreat.Md
open Go.RowKit Mr
theorem insM_len (l : List Int) (k : Int) : (insL l k).length = l.length + 1 := by
 have := plcM_le l k
 unfold insL
 simp; omega
theorem delM_len {l : List Int} {k : Int} (h : inB l k = true) : (delL l k).length = l.length - 1 := by
 have := plcM_lt h
 unfold delL
 simp; omega
theorem keysM_len (t : List (Int × Int)) : (keysOf t).length = t.length := by unfold keysOf; exact List.length_map ..
theorem insMT_len (t : List (Int × Int)) (k d : Int) : (insT t k d).length = t.length + 1 := by
 have := plcM_le (keysOf t) k
 rw [keysM_len] at this
 unfold insT
 simp; omega
theorem delMT_len {t : List (Int × Int)} {k : Int} (h : inB (keysOf t) k = true) : (delT t k).length = t.length - 1 := by
 have := plcM_lt h
 rw [keysM_len] at this
 unfold delT
 simp; omega
end Go.Proofs.YtnbibkohgppjnaaGreat.Md
namespace Go.Proofs.YtnbibkohgppjnaaGreat.Md
open Go.RowKit Mr
set_option maxRecDepth 100000 in
set_option maxHeartbeats 8000000 in
theorem leave_set {W : World} {S : Nat → Prop} {g : Nat} {l : List Int} (ho : Ob W S g 175 3 1 l.length (ints l)) (hsm : l.length * 8 ≤ 225000000000000) (hR : Ris l) (th op arg data beg fin pt ak av : Int) (l' : List Int) (hl' : l' = if op = 50 then (if inB l arg then l else insL l arg) else if op = 51 then (if inB l arg then delL l arg else l) else l) :
  Calls Tryz.prog 145 #[.pointer (some ⟨g, 0, none⟩), .agg #[.int .i64 th, .int .i64 op, .int .i64 arg, .int .i64 data, .int .i64 beg, .int .i64 fin, .int .i64 pt, .int .i64 ak, .int .i64 av]] W fun e w' => e = .returned (.tuple #[]) ∧ Ob w' (fun k => S k ∨ W.heap.size ≤ k) g 175 3 1 l'.length (ints l') ∧ Fr W w' S := by
 have ho' := ho
 obtain ⟨v, hS, hg, hO⟩ := ho
 have hgl := (Array.getElem?_eq_some_iff.1 hg).1
 have C := fun w' (hB : Below W.heap.size W w') => bsI_any (hO.sl.below hB) (Nat.le_trans hsm (by decide)) hR arg
 obtain ⟨a, c, rfl, hc, hm⟩ := hO.form
 have hW0 := heap_alloc_new W (.cells #[.int .i64 th, .int .i64 op, .int .i64 arg, .int .i64 data, .int .i64 beg, .int .i64 fin, .int .i64 pt, .int .i64 ak, .int .i64 av] 45 (0, 0))
 obtain ⟨k1, k2, k3, k4⟩ := nine_cells hW0
 have cg : (W.alloc (.cells #[.int .i64 th, .int .i64 op, .int .i64 arg, .int .i64 data, .int .i64 beg, .int .i64 fin, .int .i64 pt, .int .i64 ak, .int .i64 av] 45 (0, 0))).cell? ⟨g, 0, none⟩ = some (.slice a l.length c) := cell_blk (old_at hg _) 0
 have B0 := Mr.hid ((Below.refl W.heap.size W).alloc (Nat.le_refl _) (.cells #[.int .i64 th, .int .i64 op, .int .i64 arg, .int .i64 data, .int .i64 beg, .int .i64 fin, .int .i64 pt, .int .i64 ak, .int .i64 av] 45 (0, 0))).drew
 have B1 := Mr.hid (fun w' (hB : Below (W.alloc (.cells #[.int .i64 th, .int .i64 op, .int .i64 arg, .int .i64 data, .int .i64 beg, .int .i64 fin, .int .i64 pt, .int .i64 ak, .int .i64 av] 45 (0, 0))).heap.size (W.alloc (.cells #[.int .i64 th, .int .i64 op, .int .i64 arg, .int .i64 data, .int .i64 beg, .int .i64 fin, .int .i64 pt, .int .i64 ak, .int .i64 av] 45 (0, 0))) w') => (((Below.refl W.heap.size W).alloc (Nat.le_refl _) (.cells #[.int .i64 th, .int .i64 op, .int .i64 arg, .int .i64 data, .int .i64 beg, .int .i64 fin, .int .i64 pt, .int .i64 ak, .int .i64 av] 45 (0, 0))).trans (hB.mono (by simp)) : Below W.heap.size W w'))
 have KS : ∀ w' : World, Below (W.alloc (.cells #[.int .i64 th, .int .i64 op, .int .i64 arg, .int .i64 data, .int .i64 beg, .int .i64 fin, .int .i64 pt, .int .i64 ak, .int .i64 av] 45 (0, 0))).heap.size (W.alloc (.cells #[.int .i64 th, .int .i64 op, .int .i64 arg, .int .i64 data, .int .i64 beg, .int .i64 fin, .int .i64 pt, .int .i64 ak, .int .i64 av] 45 (0, 0))) w' → w'.cell? ⟨g, 0, none⟩ = some (.slice a l.length c) ∧ w'.cell? ⟨W.heap.size, 2, none⟩ = some (.int .i64 arg) := fun w' hB => ⟨(hB.cell (p := ⟨g, 0, none⟩) (by simp; omega)).trans cg, (nine_cells ((hB.block _ (by simp)).trans hW0)).2.1⟩
 have KR := fun w' (hB : Below (W.alloc (.cells #[.int .i64 th, .int .i64 op, .int .i64 arg, .int .i64 data, .int .i64 beg, .int .i64 fin, .int .i64 pt, .int .i64 ak, .int .i64 av] 45 (0, 0))).heap.size (W.alloc (.cells #[.int .i64 th, .int .i64 op, .int .i64 arg, .int .i64 data, .int .i64 beg, .int .i64 fin, .int .i64 pt, .int .i64 ak, .int .i64 av] 45 (0, 0))) w') => (⟨(hB.block W.heap.size (by simp)).trans hW0, (hB.block g (by simp; omega)).trans (old_at hg _)⟩ : w'.heap[W.heap.size]? = some (.cells #[.int .i64 th, .int .i64 op, .int .i64 arg, .int .i64 data, .int .i64 beg, .int .i64 fin, .int .i64 pt, .int .i64 ak, .int .i64 av] 45 (0, 0)) ∧ w'.heap[g]? = some (.cells #[.slice a l.length c] 175 (0, 0)))
 have KS0 := Mr.hid (KS _ (Below.refl _ _).drew)
 -- what is left where nothing is done
 have NO : Hid (∀ w', Below W.heap.size W w' → Ob w' (fun k => S k ∨ W.heap.size ≤ k) g 175 3 1 l.length (ints l) ∧ Fr W w' S) := fun w' hB => ⟨ho'.kept (fun k _ hl => hB.block k hl) (fun k hk _ => .inl hk), Fr.of_below hB⟩
 -- the row behind new blocks
 have LO : Hid (∀ w', Below W.heap.size W w' → Own w' (fun k => S k ∧ k ≠ g ∧ k < W.heap.size) 3 1 (.slice a l.length c) l.length (ints l)) := fun w' hB => hO.kept2 (fun k _ hl => hB.block k hl) (fun k hk hl => ⟨hk.1, hk.2, hl⟩)
 have PL := Mr.hid (plcM_le l arg : plc l arg ≤ l.length)
 have IL := Mr.hid (insM_len l arg)
 have DL : Hid (inB l arg = true → (delL l arg).length = l.length - 1 ∧ plc l arg < l.length) := fun hb => ⟨delM_len hb, plcM_lt hb⟩
 replace KS := Mr.hid KS
 replace KR := Mr.hid KR
 replace C := Mr.hid C
 replace hl' := Mr.hid hl'
 clear hg hO ho' hW0 cg hR
 obtain ⟨p, hp⟩ : ∃ p, p = plc l arg := ⟨_, rfl⟩
 obtain ⟨b, hb⟩ : ∃ b, b = inB l arg := ⟨_, rfl⟩
 rw [← hb] at hl' DL
 rw [← hp, ← hb] at C
 rw [← hp] at PL DL
 have IE : Hid (insL l arg = l.take p ++ arg :: l.drop p) := by rw [hp]; rfl
 have DE : Hid (delL l arg = l.take p ++ l.drop (p + 1)) := by rw [hp]; rfl
 clear hp hb
 go_enter Tryz.func145, Tryz.ntmps145
 go_wp2
 generalize W.alloc (.cells #[.int .i64 th, .int .i64 op, .int .i64 arg, .int .i64 data, .int .i64 beg, .int .i64 fin, .int .i64 pt, .int .i64 ak, .int .i64 av] 45 (0, 0)) = w0 at *
 go_region_held3 (fun w' => w'.cell? ⟨g, 0, none⟩ = some (.slice a l.length c) ∧ w'.cell? ⟨W.heap.size, 2, none⟩ = some (.int .i64 arg)) (first | with_reducible exact KY.out | with_reducible exact KS0.out | go_keep) (first | (go_at_call 146; refine (C.out _ B0.out).mono ?_; rintro e w1 ⟨rfl, hB⟩; replace hB : Below w0.heap.size w0 w1 := ⟨hB.os, hB.tape, hB.output, hB.size, hB.block⟩; have KY := Mr.hid (KS.out w1 hB)))
 obtain ⟨KA, KB⟩ := KR.out w1 hB
 clear KY k1 k2 k3 k4 KS KS0
 obtain ⟨k1, k2, k3, k4⟩ := nine_cells KA
 have eg := cell_blk KB 0
 have hgl1 := (Array.getElem?_eq_some_iff.1 KB).1
 have fg : w1.frozen? ⟨g, 0, none⟩ = false := by simp [World.frozen?, KB]
 replace KA := Mr.hid KA
 replace KB := Mr.hid KB
 replace hB := Mr.hid (B1.out w1 hB)
 by_cases h : op = 50
 ·have hl2 := hl'.out
  rw [if_pos h] at hl2
  have d1 : (op == 50) = true := by simpa using h
  have d2 : (op == 51) = false := by simp; omega
  replace h := Mr.hid h
  cases b with
  | true =>
   simp only [if_true] at hl2
   subst hl2
   clear hl'
   go_wp2
   go_end0
   exact ⟨rfl, NO.out _ hB.out⟩
  | false =>
   simp only [Bool.false_eq_true, if_false] at hl2
   subst hl2
   have CI := Mr.hid (insertI_any (LO.out (w1.drew.alloc (.cells #[.int .i64 arg] 3 (0, 0))) (hB.out.drew.alloc hB.out.size _)) hsm p PL.out (bv := w1.drew.heap.size) arg (heap_alloc_new w1.drew _) (fun e => by have := hB.out.size; have h2 : w1.drew.heap.size = w1.heap.size := rfl; omega))
   have hHG : Hid ((w1.drew.alloc (.cells #[.int .i64 arg] 3 (0, 0))).heap[g]? = some (.cells #[.slice a l.length c] 175 (0, 0))) := old_at KB.out _
   have hFR : Hid (Fr W (w1.drew.alloc (.cells #[.int .i64 arg] 3 (0, 0))) S) := Fr.of_below (hB.out.drew.alloc hB.out.size _)
   have hZ : Hid (W.heap.size ≤ w1.heap.size) := hB.out.size
   clear hl'
   go_wp2
   go_region_with (first | (go_at_call 148; refine CI.out.mono ?_; rintro e w3 ⟨v3, rfl, hO3, hF3⟩; obtain ⟨a3, c3, rfl, _, _⟩ := hO3.form; have hg3 := (hF3.block g (Array.getElem?_eq_some_iff.1 hHG.out).1 (fun e => e.2.1 rfl)).trans hHG.out; have cg3 := cell_blk hg3 0; have fg3 : w3.frozen? ⟨g, 0, none⟩ = false := by simp [World.frozen?, hg3]))
   all_goals
    have hO4 := hO3.mono (T := fun k => (S k ∨ W.heap.size ≤ k) ∧ k ≠ g) (fun k hk => by
     rcases hk with hk | hk
     ·exact ⟨.inl hk.1, hk.2.1⟩
     ·have := hZ.out
      simp at hk
      exact ⟨.inr (by omega), by omega⟩)
    rw [← IE.out] at hO4
    go_wp2
    go_end0
    refine ⟨rfl, ?_, (hFR.out.trans (hF3.mono (fun k h => .inl h.1))).setCell _ _ (.inl hS)⟩
    rw [IL.out]
    exact Ob.put (.inl hS) hg3 hO4
 ·have hl2 := hl'.out
  rw [if_neg h] at hl2
  have d1 : (op == 50) = false := by simpa using h
  replace h := Mr.hid h
  by_cases h2 : op = 51
  ·rw [if_pos h2] at hl2
   have d2 : (op == 51) = true := by simpa using h2
   replace h2 := Mr.hid h2
   cases b with
   | false =>
    simp only [Bool.false_eq_true, if_false] at hl2
    subst hl2
    clear hl'
    go_wp2
    go_end0
    exact ⟨rfl, NO.out _ hB.out⟩
   | true =>
    simp only [if_true] at hl2
    subst hl2
    obtain ⟨DL1, DL2⟩ := DL.out rfl
    have CD := Mr.hid (deleteI_any (LO.out w1 hB.out) p DL2)
    have hFR : Hid (Fr W w1 S) := Fr.of_below hB.out
    have ew : IntKind.i64.wrap ((p : Int) + 1) = (p : Int) + 1 := i64w _ (by omega) (by omega)
    clear hl'
    replace DL1 := Mr.hid DL1
    go_wp2_with (first | (go_at_call 149; refine CD.out.mono ?_; rintro e w3 ⟨v3, rfl, hO3, hF3⟩; obtain ⟨a3, c3, rfl, _, _⟩ := hO3.form; have hg3 := (hF3.block g hgl1 (fun e => e.2.1 rfl)).trans KB.out; have cg3 := cell_blk hg3 0; have fg3 : w3.frozen? ⟨g, 0, none⟩ = false := (by simp [World.frozen?, hg3]); replace hO3 := Mr.hid hO3; replace hF3 := Mr.hid hF3; replace hg3 := Mr.hid hg3))
    have hO4 := hO3.out.mono (T := fun k => (S k ∨ W.heap.size ≤ k) ∧ k ≠ g) (fun k hk => ⟨.inl hk.1, hk.2.1⟩)
    rw [← DE.out] at hO4
    go_end0
    refine ⟨rfl, ?_, (hFR.out.trans (hF3.out.mono (fun k h => .inl h.1))).setCell _ _ (.inl hS)⟩
    rw [DL1.out]
    exact Ob.put (.inl hS) hg3.out hO4
  ·rw [if_neg h2] at hl2
   subst hl2
   have d2 : (op == 51) = false := by simpa using h2
   replace h2 := Mr.hid h2
   clear hl'
   cases b with
   | true =>
    go_wp2
    go_end0
    exact ⟨rfl, NO.out _ hB.out⟩
   | false =>
    go_wp2
    go_end0
    exact ⟨rfl, NO.out _ hB.out⟩
end Go.Proofs.YtnbibkohgppjnaaGreat.Md
namespace Go.Proofs.YtnbibkohgppjnaaGreat.Md
open Go.RowKit Mr
set_option maxRecDepth 100000 in
set_option maxHeartbeats 8000000 in
theorem leave_table {W : World} {S : Nat → Prop} {g : Nat} {l : List (Int × Int)} (ho : Ob W S g 178 92 2 l.length (prs l)) (hsm : l.length * 16 ≤ 225000000000000) (hR : Ris (keysOf l)) (th op arg data beg fin pt ak av : Int) (l' : List (Int × Int)) (hl' : l' = if op = 60 then (if inB (keysOf l) arg then l else insT l arg data) else if op = 61 then (if inB (keysOf l) arg then delT l arg else l) else l) :
  Calls Tryz.prog 156 #[.pointer (some ⟨g, 0, none⟩), .agg #[.int .i64 th, .int .i64 op, .int .i64 arg, .int .i64 data, .int .i64 beg, .int .i64 fin, .int .i64 pt, .int .i64 ak, .int .i64 av]] W fun e w' => e = .returned (.tuple #[]) ∧ Ob w' (fun k => S k ∨ W.heap.size ≤ k) g 178 92 2 l'.length (prs l') ∧ Fr W w' S := by
 have ho' := ho
 obtain ⟨v, hS, hg, hO⟩ := ho
 have hgl := (Array.getElem?_eq_some_iff.1 hg).1
 have C := fun w' (hB : Below W.heap.size W w') => find_any (ho'.kept (T := S) (fun k _ hl => hB.block k hl) (fun k hk _ => hk)) (Nat.le_trans hsm (by decide)) hR arg
 obtain ⟨a, c, rfl, hc, hm⟩ := hO.form
 have hW0 := heap_alloc_new W (.cells #[.int .i64 th, .int .i64 op, .int .i64 arg, .int .i64 data, .int .i64 beg, .int .i64 fin, .int .i64 pt, .int .i64 ak, .int .i64 av] 45 (0, 0))
 obtain ⟨k1, k2, k3, k4⟩ := nine_cells hW0
 have cg : (W.alloc (.cells #[.int .i64 th, .int .i64 op, .int .i64 arg, .int .i64 data, .int .i64 beg, .int .i64 fin, .int .i64 pt, .int .i64 ak, .int .i64 av] 45 (0, 0))).cell? ⟨g, 0, none⟩ = some (.slice a l.length c) := cell_blk (old_at hg _) 0
 have B0 := Mr.hid ((Below.refl W.heap.size W).alloc (Nat.le_refl _) (.cells #[.int .i64 th, .int .i64 op, .int .i64 arg, .int .i64 data, .int .i64 beg, .int .i64 fin, .int .i64 pt, .int .i64 ak, .int .i64 av] 45 (0, 0)))
 have B1 := Mr.hid (fun w' (hB : Below (W.alloc (.cells #[.int .i64 th, .int .i64 op, .int .i64 arg, .int .i64 data, .int .i64 beg, .int .i64 fin, .int .i64 pt, .int .i64 ak, .int .i64 av] 45 (0, 0))).heap.size (W.alloc (.cells #[.int .i64 th, .int .i64 op, .int .i64 arg, .int .i64 data, .int .i64 beg, .int .i64 fin, .int .i64 pt, .int .i64 ak, .int .i64 av] 45 (0, 0))) w') => (((Below.refl W.heap.size W).alloc (Nat.le_refl _) (.cells #[.int .i64 th, .int .i64 op, .int .i64 arg, .int .i64 data, .int .i64 beg, .int .i64 fin, .int .i64 pt, .int .i64 ak, .int .i64 av] 45 (0, 0))).trans (hB.mono (by simp)) : Below W.heap.size W w'))
 have KS : ∀ w' : World, Below (W.alloc (.cells #[.int .i64 th, .int .i64 op, .int .i64 arg, .int .i64 data, .int .i64 beg, .int .i64 fin, .int .i64 pt, .int .i64 ak, .int .i64 av] 45 (0, 0))).heap.size (W.alloc (.cells #[.int .i64 th, .int .i64 op, .int .i64 arg, .int .i64 data, .int .i64 beg, .int .i64 fin, .int .i64 pt, .int .i64 ak, .int .i64 av] 45 (0, 0))) w' → w'.cell? ⟨g, 0, none⟩ = some (.slice a l.length c) ∧ w'.cell? ⟨W.heap.size, 2, none⟩ = some (.int .i64 arg) := fun w' hB => ⟨(hB.cell (p := ⟨g, 0, none⟩) (by simp; omega)).trans cg, (nine_cells ((hB.block _ (by simp)).trans hW0)).2.1⟩
 have KR := fun w' (hB : Below (W.alloc (.cells #[.int .i64 th, .int .i64 op, .int .i64 arg, .int .i64 data, .int .i64 beg, .int .i64 fin, .int .i64 pt, .int .i64 ak, .int .i64 av] 45 (0, 0))).heap.size (W.alloc (.cells #[.int .i64 th, .int .i64 op, .int .i64 arg, .int .i64 data, .int .i64 beg, .int .i64 fin, .int .i64 pt, .int .i64 ak, .int .i64 av] 45 (0, 0))) w') => (⟨(hB.block W.heap.size (by simp)).trans hW0, (hB.block g (by simp; omega)).trans (old_at hg _)⟩ : w'.heap[W.heap.size]? = some (.cells #[.int .i64 th, .int .i64 op, .int .i64 arg, .int .i64 data, .int .i64 beg, .int .i64 fin, .int .i64 pt, .int .i64 ak, .int .i64 av] 45 (0, 0)) ∧ w'.heap[g]? = some (.cells #[.slice a l.length c] 178 (0, 0)))
 have KS0 := Mr.hid (KS _ (Below.refl _ _).drew)
 -- what is left where nothing is done
 have NO : Hid (∀ w', Below W.heap.size W w' → Ob w' (fun k => S k ∨ W.heap.size ≤ k) g 178 92 2 l.length (prs l) ∧ Fr W w' S) := fun w' hB => ⟨ho'.kept (fun k _ hl => hB.block k hl) (fun k hk _ => .inl hk), Fr.of_below hB⟩
 -- the row behind new blocks
 have LO : Hid (∀ w', Below W.heap.size W w' → Own w' (fun k => S k ∧ k ≠ g ∧ k < W.heap.size) 92 2 (.slice a l.length c) l.length (prs l)) := fun w' hB => hO.kept2 (fun k _ hl => hB.block k hl) (fun k hk hl => ⟨hk.1, hk.2, hl⟩)
 have PL := Mr.hid ((by have := plcM_le (keysOf l) arg; rwa [keysM_len] at this) : plc (keysOf l) arg ≤ l.length)
 have IL := Mr.hid (insMT_len l arg data)
 have DL : Hid (inB (keysOf l) arg = true → (delT l arg).length = l.length - 1 ∧ plc (keysOf l) arg < l.length) := fun hb => ⟨delMT_len hb, (by have := plcM_lt hb; rwa [keysM_len] at this)⟩
 replace KS := Mr.hid KS
 replace KR := Mr.hid KR
 replace C := Mr.hid C
 replace hl' := Mr.hid hl'
 clear hg hO ho' hW0 cg hR
 obtain ⟨p, hp⟩ : ∃ p, p = plc (keysOf l) arg := ⟨_, rfl⟩
 obtain ⟨b, hb⟩ : ∃ b, b = inB (keysOf l) arg := ⟨_, rfl⟩
 rw [← hb] at hl' DL
 rw [← hp, ← hb] at C
 rw [← hp] at PL DL
 have IE : Hid (insT l arg data = l.take p ++ (arg, data) :: l.drop p) := by rw [hp]; rfl
 have DE : Hid (delT l arg = l.take p ++ l.drop (p + 1)) := by rw [hp]; rfl
 clear hp hb
 go_enter Tryz.func156, Tryz.ntmps156
 go_upto_region 2 with (first | (go_at_call 155; refine (C.out _ B0.out).mono ?_; rintro e w1 ⟨rfl, hB⟩))
 obtain ⟨KA, KB⟩ := KR.out w1 hB
 clear k1 k2 k3 k4 KS KS0
 obtain ⟨k1, k2, k3, k4⟩ := nine_cells KA
 have eg := cell_blk KB 0
 have hgl1 := (Array.getElem?_eq_some_iff.1 KB).1
 have fg : w1.frozen? ⟨g, 0, none⟩ = false := by simp [World.frozen?, KB]
 replace KA := Mr.hid KA
 replace KB := Mr.hid KB
 replace hB := Mr.hid (B1.out w1 hB)
 by_cases h : op = 60
 ·have hl2 := hl'.out
  rw [if_pos h] at hl2
  have d1 : (op == 60) = true := by simpa using h
  have d2 : (op == 61) = false := by simp; omega
  replace h := Mr.hid h
  cases b with
  | true =>
   simp only [if_true] at hl2
   subst hl2
   clear hl'
   go_wp2
   go_end0
   exact ⟨rfl, NO.out _ hB.out⟩
  | false =>
   simp only [Bool.false_eq_true, if_false] at hl2
   subst hl2
   have CI := Mr.hid (insertP_any (LO.out (w1.drew.alloc (.cells #[.int .i64 arg, .int .i64 data] 92 (0, 0))) (hB.out.drew.alloc hB.out.size _)) hsm p PL.out (bv := w1.drew.heap.size) (arg, data) (heap_alloc_new w1.drew _) (fun e => by have := hB.out.size; have h2 : w1.drew.heap.size = w1.heap.size := rfl; omega))
   have hHG : Hid ((w1.drew.alloc (.cells #[.int .i64 arg, .int .i64 data] 92 (0, 0))).heap[g]? = some (.cells #[.slice a l.length c] 178 (0, 0))) := old_at KB.out _
   have hFR : Hid (Fr W (w1.drew.alloc (.cells #[.int .i64 arg, .int .i64 data] 92 (0, 0))) S) := Fr.of_below (hB.out.drew.alloc hB.out.size _)
   have hZ : Hid (W.heap.size ≤ w1.heap.size) := hB.out.size
   clear hl'
   go_wp2
   go_region_with (first | (go_at_call 158; refine CI.out.mono ?_; rintro e w3 ⟨v3, rfl, hO3, hF3⟩; obtain ⟨a3, c3, rfl, _, _⟩ := hO3.form; have hg3 := (hF3.block g (Array.getElem?_eq_some_iff.1 hHG.out).1 (fun e => e.2.1 rfl)).trans hHG.out; have cg3 := cell_blk hg3 0; have fg3 : w3.frozen? ⟨g, 0, none⟩ = false := by simp [World.frozen?, hg3]))
   all_goals
    have hO4 := hO3.mono (T := fun k => (S k ∨ W.heap.size ≤ k) ∧ k ≠ g) (fun k hk => by
     rcases hk with hk | hk
     ·exact ⟨.inl hk.1, hk.2.1⟩
     ·have := hZ.out
      simp at hk
      exact ⟨.inr (by omega), by omega⟩)
    rw [← IE.out] at hO4
    go_wp2
    go_end0
    refine ⟨rfl, ?_, (hFR.out.trans (hF3.mono (fun k h => .inl h.1))).setCell _ _ (.inl hS)⟩
    rw [IL.out]
    exact Ob.put (.inl hS) hg3 hO4
 ·have hl2 := hl'.out
  rw [if_neg h] at hl2
  have d1 : (op == 60) = false := by simpa using h
  replace h := Mr.hid h
  by_cases h2 : op = 61
  ·rw [if_pos h2] at hl2
   have d2 : (op == 61) = true := by simpa using h2
   replace h2 := Mr.hid h2
   cases b with
   | false =>
    simp only [Bool.false_eq_true, if_false] at hl2
    subst hl2
    clear hl'
    go_wp2
    go_end0
    exact ⟨rfl, NO.out _ hB.out⟩
   | true =>
    simp only [if_true] at hl2
    subst hl2
    obtain ⟨DL1, DL2⟩ := DL.out rfl
    have CD := Mr.hid (deleteP_any (LO.out w1 hB.out) p DL2)
    have hFR : Hid (Fr W w1 S) := Fr.of_below hB.out
    have ew : IntKind.i64.wrap ((p : Int) + 1) = (p : Int) + 1 := i64w _ (by omega) (by omega)
    clear hl'
    replace DL1 := Mr.hid DL1
    go_wp2_with (first | (go_at_call 159; refine CD.out.mono ?_; rintro e w3 ⟨v3, rfl, hO3, hF3⟩; obtain ⟨a3, c3, rfl, _, _⟩ := hO3.form; have hg3 := (hF3.block g hgl1 (fun e => e.2.1 rfl)).trans KB.out; have cg3 := cell_blk hg3 0; have fg3 : w3.frozen? ⟨g, 0, none⟩ = false := (by simp [World.frozen?, hg3]); replace hO3 := Mr.hid hO3; replace hF3 := Mr.hid hF3; replace hg3 := Mr.hid hg3))
    have hO4 := hO3.out.mono (T := fun k => (S k ∨ W.heap.size ≤ k) ∧ k ≠ g) (fun k hk => ⟨.inl hk.1, hk.2.1⟩)
    rw [← DE.out] at hO4
    go_end0
    refine ⟨rfl, ?_, (hFR.out.trans (hF3.out.mono (fun k h => .inl h.1))).setCell _ _ (.inl hS)⟩
    rw [DL1.out]
    exact Ob.put (.inl hS) hg3.out hO4
  ·rw [if_neg h2] at hl2
   subst hl2
   have d2 : (op == 61) = false := by simpa using h2
   replace h2 := Mr.hid h2
   clear hl'
   cases b with
   | true =>
    go_wp2
    go_end0
    exact ⟨rfl, NO.out _ hB.out⟩
   | false =>
    go_wp2
    go_end0
    exact ⟨rfl, NO.out _ hB.out⟩
end Go.Proofs.YtnbibkohgppjnaaGreat.Md
namespace Go.Proofs.YtnbibkohgppjnaaGreat.Md
open Go.RowKit Mr
theorem ct0_own (w : World) (B : Nat) : CtOwn w B (fun _ => 5) (.slice none 0 0) (.slice none 0 0) (.slice none 0 0) (.slice none 0 0) (.slice none 0 0) ct0 := ⟨fun k h => absurd h (by decide), Own.zero _ _ _ _ _, Own.zero _ _ _ _ _, Own.zero _ _ _ _ _, Own.zero _ _ _ _ _, Own.zero _ _ _ _ _⟩
theorem Tq.res {W w w' : World} {n : Nat} {o r : Obj} {T : Nat → Prop} (h : Tq W w n (n + 1) o r) (hF : Fr w w' T) (hT : ¬ T (n + 1)) : w'.heap[n + 1]? = some r := (hF.block _ h.2.2.2.1 hT).trans h.2.2.1
end Go.Proofs.YtnbibkohgppjnaaGreat.Md
namespace Go.Proofs.YtnbibkohgppjnaaGreat.Md
open Go.RowKit Mr
structure Dx (W w : World) (oU oC : Obj) : Prop where
 bel : Below W.heap.size W w
 u : w.heap[W.heap.size]? = some oU
 r : w.heap[W.heap.size + 1]? = some (.cells #[.slice none 0 0, .slice none 0 0, .slice none 0 0, .slice none 0 0, .slice none 0 0] 55 (0, 0))
 a : w.heap[W.heap.size + 1 + 1]? = some (.cells #[.int .i64 0, .int .i64 0] 43 (0, 0))
 c : w.heap[W.heap.size + 1 + 1 + 1]? = some oC
theorem Dx.lt {W w : World} {oU oC : Obj} (h : Dx W w oU oC) : W.heap.size + 3 < w.heap.size := (Array.getElem?_eq_some_iff.1 h.c).1
theorem Dx.new (W : World) (oU oC : Obj) : Dx W ((((W.alloc oU).alloc (.cells #[.slice none 0 0, .slice none 0 0, .slice none 0 0, .slice none 0 0, .slice none 0 0] 55 (0, 0))).alloc (.cells #[.int .i64 0, .int .i64 0] 43 (0, 0))).alloc oC) oU oC :=
 ⟨((((Below.refl _ _).alloc (Nat.le_refl _) _).alloc (by simp) _).alloc (by simp; omega) _).alloc (by simp; omega) _, old_at (old_at (old_at (new_at W _ _ rfl) _) _) _, old_at (old_at (new_at _ _ _ (by simp)) _) _, old_at (new_at _ _ _ (by simp)) _, new_at _ _ _ (by simp)⟩
theorem Dx.below {W w w' : World} {oU oC : Obj} (h : Dx W w oU oC) (hB : Below w.heap.size w w') : Dx W w' oU oC := by
 have hl := h.lt
 exact ⟨h.bel.trans (hB.mono h.bel.size), (hB.block _ (by omega)).trans h.u, (hB.block _ (by omega)).trans h.r, (hB.block _ (by omega)).trans h.a, (hB.block _ (by omega)).trans h.c⟩
theorem Dx.fr {W w w' : World} {oU oC : Obj} {S : Nat → Prop} (h : Dx W w oU oC) (hF : Fr w w' S) (hS : ∀ k, S k → W.heap.size + 3 < k) : Dx W w' oU oC := by
 have hl := h.lt
 have q : ∀ k, k ≤ W.heap.size + 3 → ¬ S k := fun k hk e => by have := hS k e; omega
 exact ⟨h.bel.trans (hF.below (n := W.heap.size) (fun k hk => by have := hS k hk; omega) h.bel.size), (hF.block _ (by omega) (q _ (by omega))).trans h.u, (hF.block _ (by omega) (q _ (by omega))).trans h.r, (hF.block _ (by omega) (q _ (by omega))).trans h.a, (hF.block _ (by omega) (q _ (by omega))).trans h.c⟩
theorem CtOwn.kept {W W' : World} {B B' : Nat} {lab : Nat → Nat} {v0 v1 v2 v3 v4 : Value} {x : Ct} (h : CtOwn W B lab v0 v1 v2 v3 v4 x) (hb : ∀ k, B ≤ k → k < W.heap.size → W'.heap[k]? = W.heap[k]?) (hB : B' ≤ B) : CtOwn W' B' lab v0 v1 v2 v3 v4 x :=
 ⟨fun k hk => Nat.le_trans hB (h.low k hk), h.cell.kept2 (fun k hk hl => hb k (h.low k (by omega)) hl) (fun k hk _ => hk), h.stack.kept2 (fun k hk hl => hb k (h.low k (by omega)) hl) (fun k hk _ => hk), h.queue.kept2 (fun k hk hl => hb k (h.low k (by omega)) hl) (fun k hk _ => hk), h.set.kept2 (fun k hk hl => hb k (h.low k (by omega)) hl) (fun k hk _ => hk), h.table.kept2 (fun k hk hl => hb k (h.low k (by omega)) hl) (fun k hk _ => hk)⟩
theorem cell_of {w w' : World} {b o : Nat} (h : w'.heap[b]? = w.heap[b]?) : w'.cell? ⟨b, o, none⟩ = w.cell? ⟨b, o, none⟩ := by
 unfold World.cell?
 simp only [h]
def cqM (c : Cq) : Obj := .cells #[.int .i64 c.th, .int .i64 c.op, .int .i64 c.arg, .int .i64 c.data, .int .i64 c.beg, .int .i64 c.fin, .int .i64 c.pt, .int .i64 c.ak, .int .i64 c.av] 45 (0, 0)
theorem sl_call {w : World} {b : Nat} {c : Cq} (h : w.heap[b]? = some (cqM c)) : Sl w (fun _ => True) 9 (.slice (some ⟨b, 0, none⟩) 1 1) [c].length (cqs [c]) := by
 refine ⟨by simp [cqs, Cq.row], _, 1, rfl, Nat.le_refl _, .inr ⟨b, 0, rfl, trivial, (Array.getElem?_eq_some_iff.1 h).1, fun j u hu => ?_⟩⟩
 rw [Nat.zero_add, cell_blk h]
 simpa [cqs, Cq.row] using hu
end Go.Proofs.YtnbibkohgppjnaaGreat.Md
namespace Go.Proofs.YtnbibkohgppjnaaGreat.Md
open Go.RowKit Mr
theorem nines {W : World} {b : Nat} {v0 v1 v2 v3 v4 v5 v6 v7 v8 : Value} {t : TypeId} (h : W.heap[b]? = some (.cells #[v0, v1, v2, v3, v4, v5, v6, v7, v8] t (0, 0))) : W.cell? ⟨b, 0, none⟩ = some v0 ∧ W.cell? ⟨b, 1, none⟩ = some v1 ∧ W.cell? ⟨b, 2, none⟩ = some v2 ∧ W.cell? ⟨b, 3, none⟩ = some v3 ∧ W.cell? ⟨b, 4, none⟩ = some v4 ∧ W.cell? ⟨b, 5, none⟩ = some v5 ∧ W.cell? ⟨b, 6, none⟩ = some v6 ∧ W.cell? ⟨b, 7, none⟩ = some v7 ∧ W.cell? ⟨b, 8, none⟩ = some v8 ∧ b < W.heap.size :=
 ⟨cell_blk h 0, cell_blk h 1, cell_blk h 2, cell_blk h 3, cell_blk h 4, cell_blk h 5, cell_blk h 6, cell_blk h 7, cell_blk h 8, (Array.getElem?_eq_some_iff.1 h).1⟩
theorem ans_setq {W : World} {S : Nat → Prop} {g : Nat} {l : List Int} (ho : Ob W S g 175 3 1 l.length (ints l)) (hsm : l.length * 8 ≤ 281474976710656) (hR : Ris l) (th op arg data beg fin pt ak av : Int) (q : Int × Int) (hq : q = (if op = 50 then (if inB l arg then 6 else 5) else (if inB l arg then 5 else 6), 0)) :
  Calls Tryz.prog 144 #[.pointer (some ⟨g, 0, none⟩), .agg #[.int .i64 th, .int .i64 op, .int .i64 arg, .int .i64 data, .int .i64 beg, .int .i64 fin, .int .i64 pt, .int .i64 ak, .int .i64 av]] W fun e w' => e = .returned (ans q.1 q.2) ∧ Below W.heap.size W w' := by
 subst hq
 exact ans_set4 ho hsm hR th op arg data beg fin pt ak av _ rfl
theorem obj_1 {op : Int} (h : obj op = 1) : op = 22 ∨ op = 23 := by
 unfold obj at h
 repeat (split at h; first | omega | skip)
 all_goals omega
theorem dan_o1 (x : Ct) {op arg : Int} (h : obj op = 1) : dan x op arg = if op = 22 then (1, 0) else top x.cell := by
 rcases obj_1 h with rfl | rfl
 ·rfl
 ·rfl
theorem dnx_o1 (x : Ct) {op arg data : Int} (h : obj op = 1) : dnx x op arg data = { x with cell := if op = 22 then [arg] else x.cell } := by
 rcases obj_1 h with rfl | rfl
 ·rfl
 ·rfl
theorem obj_2 {op : Int} (h : obj op = 2) : op = 30 ∨ op = 31 := by
 unfold obj at h
 repeat (split at h; first | omega | skip)
 all_goals omega
theorem dan_o2 (x : Ct) {op arg : Int} (h : obj op = 2) : dan x op arg = if op = 30 then (1, 0) else top x.stack := by
 rcases obj_2 h with rfl | rfl
 ·rfl
 ·rfl
theorem dnx_o2 (x : Ct) {op arg data : Int} (h : obj op = 2) : dnx x op arg data = { x with stack := if op = 30 then arg :: x.stack else x.stack.drop 1 } := by
 rcases obj_2 h with rfl | rfl
 ·rfl
 ·rfl
theorem obj_3 {op : Int} (h : obj op = 3) : op = 40 ∨ op = 41 := by
 unfold obj at h
 repeat (split at h; first | omega | skip)
 all_goals omega
theorem dan_o3 (x : Ct) {op arg : Int} (h : obj op = 3) : dan x op arg = if op = 40 then (1, 0) else top x.queue := by
 rcases obj_3 h with rfl | rfl
 ·rfl
 ·rfl
theorem dnx_o3 (x : Ct) {op arg data : Int} (h : obj op = 3) : dnx x op arg data = { x with queue := if op = 40 then x.queue ++ [arg] else x.queue.drop 1 } := by
 rcases obj_3 h with rfl | rfl
 ·rfl
 ·rfl
theorem obj_4 {op : Int} (h : obj op = 4) : op = 50 ∨ op = 51 ∨ op = 52 := by
 unfold obj at h
 repeat (split at h; first | omega | skip)
 all_goals omega
theorem dan_o4 (x : Ct) {op arg : Int} (h : obj op = 4) : dan x op arg = (if op = 50 then (if inB x.set arg then 6 else 5) else (if inB x.set arg then 5 else 6), 0) := by
 rcases obj_4 h with rfl | rfl | rfl
 ·rfl
 ·rfl
 ·rfl
theorem dnx_o4 (x : Ct) {op arg data : Int} (h : obj op = 4) : dnx x op arg data = { x with set := if op = 50 then (if inB x.set arg then x.set else insL x.set arg) else if op = 51 then (if inB x.set arg then delL x.set arg else x.set) else x.set } := by
 rcases obj_4 h with rfl | rfl | rfl
 ·rfl
 ·rfl
 ·rfl
theorem obj_5 {op : Int} (h : obj op = 5) : op = 60 ∨ op = 61 ∨ op = 62 := by
 unfold obj at h
 repeat (split at h; first | omega | skip)
 all_goals omega
theorem dan_o5 (x : Ct) {op arg : Int} (h : obj op = 5) : dan x op arg = if op = 60 then (if inB (keysOf x.table) arg then 6 else 5, 0) else getT x.table arg := by
 rcases obj_5 h with rfl | rfl | rfl
 ·rfl
 ·rfl
 ·rfl
theorem dnx_o5 (x : Ct) {op arg data : Int} (h : obj op = 5) : dnx x op arg data = { x with table := if op = 60 then (if inB (keysOf x.table) arg then x.table else insT x.table arg data) else if op = 61 then (if inB (keysOf x.table) arg then delT x.table arg else x.table) else x.table } := by
 rcases obj_5 h with rfl | rfl | rfl
 ·rfl
 ·rfl
 ·rfl
end Go.Proofs.YtnbibkohgppjnaaGreat.Md
namespace Go.Proofs.YtnbibkohgppjnaaGreat.Md
open Go.RowKit Mr
theorem labrp_old {lab : Nat → Nat} {s s' i k : Nat} (h : labr (labp lab s i) s' k < 5) (hk : k < s) : lab k < 5 := by
 rw [labr_in (labr_hi h), labp_old hk] at h
 exact h
def adm (x : Ct) (c : Cq) : Ct := if (alw x c).2 = true then (alw x c).1 else x
theorem adm_none {x : Ct} {c : Cq} (h : c.ak = 0) : (alw x c).2 = true ∧ adm x c = dnx x c.op c.arg c.data := by
 have e : alw x c = (dnx x c.op c.arg c.data, true) := if_pos h
 unfold adm
 rw [e]
 exact ⟨rfl, rfl⟩
theorem adm_full {x : Ct} {c : Cq} (h0 : c.ak ≠ 0) (h : c.ak = 4) (b : Bool) (hb : b = decide (fullOp c.op)) : (alw x c).2 = b ∧ adm x c = x := by
 have e : alw x c = (if fullOp c.op then (x, true) else (ct0, false)) := by unfold alw; rw [if_neg h0, if_pos h]
 unfold adm
 rw [e]
 by_cases f : fullOp c.op
 ·rw [if_pos f, hb, decide_eq_true f]; exact ⟨rfl, rfl⟩
 ·rw [if_neg f, hb, decide_eq_false f]; exact ⟨rfl, rfl⟩
theorem adm_yes {x : Ct} {c : Cq} (h0 : c.ak ≠ 0) (h4 : c.ak ≠ 4) (h : dan x c.op c.arg = (c.ak, c.av)) : (alw x c).2 = true ∧ adm x c = dnx x c.op c.arg c.data := by
 have e : alw x c = (dnx x c.op c.arg c.data, true) := by unfold alw; rw [if_neg h0, if_neg h4, if_pos h]
 unfold adm
 rw [e]
 exact ⟨rfl, rfl⟩
theorem adm_no {x : Ct} {c : Cq} (h0 : c.ak ≠ 0) (h4 : c.ak ≠ 4) (h : dan x c.op c.arg ≠ (c.ak, c.av)) : (alw x c).2 = false ∧ adm x c = x := by
 have e : alw x c = (ct0, false) := by unfold alw; rw [if_neg h0, if_neg h4, if_neg h]
 unfold adm
 rw [e]
 exact ⟨rfl, rfl⟩
set_option maxHeartbeats 4000000 in
theorem puts_any (op : Int) (w : World) : Calls Tryz.prog 95 #[.int .i64 op] w fun e w' => e = .returned (.bool (decide (fullOp op))) ∧ w' = w := by
 by_cases h : op = 22 ∨ op = 30 ∨ op = 40 ∨ op = 50 ∨ op = 60
 ·rw [decide_eq_true (show fullOp op from h)]
  rcases h with rfl | rfl | rfl | rfl | rfl
  all_goals
   go_enter Tryz.func95, Tryz.ntmps95
   go_wp2
   go_ret
   exact ⟨rfl, rfl⟩
 ·rw [decide_eq_false (show ¬ fullOp op from h)]
  have d : ∀ k : Int, (k = 22 ∨ k = 30 ∨ k = 40 ∨ k = 50 ∨ k = 60) → (op == k) = false := fun k hk => by
   rw [beq_eq_false_iff_ne]; rintro rfl; exact h hk
  have d0 := d 22 (by simp)
  have d1 := d 30 (by simp)
  have d2 := d 40 (by simp)
  have d3 := d 50 (by simp)
  have d4 := d 60 (by simp)
  clear d h
  go_enter Tryz.func95, Tryz.ntmps95
  go_wp2
  go_ret
  exact ⟨rfl, rfl⟩
end Go.Proofs.YtnbibkohgppjnaaGreat.Md
