import Derived.Test.YtglohochdgeonaaJ10
import Derived.Deep.CutRange
/-
  Calls one behind the other, purely; rows of calls; sizes.
-/
namespace Go.Proofs.Ytglohochdgeonaa.Md
open Go.RowKit Mr Me
set_option linter.unusedVariables false
set_option linter.unusedSimpArgs false
/-- Calls one behind the other: what is left, and the first that may not answer so. -/
def plays (x : Ct) : List Cq → Nat → Ct × Int
  | [], _ => (x, -1)
  | c :: cs, i => if (alw x c).2 = true then plays (alw x c).1 cs (i + 1) else (x, (i : Int))
/-- What is left behind the first i of them, if all may. -/
def lefts (x : Ct) (cs : List Cq) (i : Nat) : Ct := (cs.take i).foldl (fun y c => (alw y c).1) x
def okTo (x : Ct) (cs : List Cq) (i : Nat) : Prop := ∀ j, j < i → ∀ c, cs[j]? = some c → (alw (lefts x cs j) c).2 = true
theorem lefts_succ (x : Ct) (cs : List Cq) (i : Nat) (c : Cq) (h : cs[i]? = some c) : lefts x cs (i + 1) = (alw (lefts x cs i) c).1 := by
  unfold lefts
  rw [List.take_add_one, h]
  simp
theorem plays_at (x : Ct) (cs : List Cq) (n : Nat) : ∀ (i : Nat), plays x cs n = if h : ∃ j, j < i ∧ ∃ c, cs[j]? = some c ∧ (alw (lefts x cs j) c).2 = false then plays x cs n else plays (lefts x cs i) (cs.drop i) (n + i) := by
  intro i
  split
  · rfl
  · rename_i hno
    induction cs generalizing x n i with
    | nil => simp [plays, lefts]
    | cons c cs ih =>
      cases i with
      | zero => simp [lefts]
      | succ i =>
        have h0 : (alw x c).2 = true := by
          cases h : (alw x c).2 with
          | true => rfl
          | false => exact absurd ⟨0, by omega, c, rfl, h⟩ hno
        have := ih (alw x c).1 (n + 1) i (fun ⟨j, hj, d, hd, hb⟩ => hno ⟨j + 1, by omega, d, by simpa using hd, by simpa [lefts] using hb⟩)
        simp only [plays, h0, if_true]
        rw [this]
        simp only [lefts, List.take_succ_cons, List.foldl_cons, List.drop_succ_cons]
        rw [show n + 1 + i = n + (i + 1) from by omega]
theorem plays_end {x : Ct} {cs : List Cq} (h : okTo x cs cs.length) : plays x cs 0 = (lefts x cs cs.length, -1) := by
  have := plays_at x cs 0 cs.length
  rw [dif_neg] at this
  · rw [this, List.drop_length]; rfl
  · rintro ⟨j, hj, c, hc, hb⟩
    rw [h j hj c hc] at hb; cases hb
theorem plays_no {x : Ct} {cs : List Cq} {i : Nat} {c : Cq} (h : okTo x cs i) (hc : cs[i]? = some c) (hn : (alw (lefts x cs i) c).2 = false) : plays x cs 0 = (lefts x cs i, (i : Int)) := by
  have := plays_at x cs 0 i
  rw [dif_neg] at this
  · rw [this]
    have hi : i < cs.length := (List.getElem?_eq_some_iff.1 hc).1
    rw [List.drop_eq_getElem_cons hi]
    have e : cs[i] = c := (List.getElem?_eq_some_iff.1 hc).2
    rw [e]
    simp [plays, hn]
  · rintro ⟨j, hj, d, hd, hb⟩
    rw [h j hj d hd] at hb; cases hb
theorem okTo.succ {x : Ct} {cs : List Cq} {i : Nat} {c : Cq} (h : okTo x cs i) (hc : cs[i]? = some c) (hy : (alw (lefts x cs i) c).2 = true) : okTo x cs (i + 1) := fun j hj d hd => by
  by_cases e : j = i
  · subst e; rw [hc] at hd; cases hd; exact hy
  · exact h j (by omega) d hd
theorem insL_len (l : List Int) (k : Int) : (insL l k).length = l.length + 1 := by
  have := plc_le l k
  simp [insL]; omega
theorem delL_len (l : List Int) (k : Int) : (delL l k).length ≤ l.length := by simp [delL]; omega
theorem insT_len (l : List (Int × Int)) (k d : Int) : (insT l k d).length = l.length + 1 := by
  have := plcT_le l k
  simp [insT, keysOf] at this ⊢; omega
theorem delT_len (l : List (Int × Int)) (k : Int) : (delT l k).length ≤ l.length := by simp [delT]; omega
theorem dnx_in {B : Nat} {x : Ct} (h : CtIn B x) (op arg data : Int) : CtIn (B + 16) (dnx x op arg data) := by
  obtain ⟨h0, h1, h2, h3, h4⟩ := h
  have i3 := insL_len x.set arg
  have d3 := delL_len x.set arg
  have i4 := insT_len x.table arg data
  have d4 := delT_len x.table arg
  have hw : CtIn (B + 16) x := ⟨by omega, by omega, by omega, by omega, by omega⟩
  obtain ⟨w0, w1, w2, w3, w4⟩ := hw
  unfold dnx
  split
  · exact ⟨by show 1 * 8 ≤ _; omega, w1, w2, w3, w4⟩
  split
  · exact ⟨w0, by simp; omega, w2, w3, w4⟩
  split
  · exact ⟨w0, by simp; omega, w2, w3, w4⟩
  split
  · exact ⟨w0, w1, by simp; omega, w3, w4⟩
  split
  · exact ⟨w0, w1, by simp; omega, w3, w4⟩
  split
  · refine ⟨w0, w1, w2, ?_, w4⟩
    show (if inB x.set arg = true then x.set else insL x.set arg).length * 8 ≤ _
    split <;> omega
  split
  · refine ⟨w0, w1, w2, ?_, w4⟩
    show (if inB x.set arg = true then delL x.set arg else x.set).length * 8 ≤ _
    split <;> omega
  split
  · refine ⟨w0, w1, w2, w3, ?_⟩
    show (if inB (keysOf x.table) arg = true then x.table else insT x.table arg data).length * 16 ≤ _
    split <;> omega
  split
  · refine ⟨w0, w1, w2, w3, ?_⟩
    show (if inB (keysOf x.table) arg = true then delT x.table arg else x.table).length * 16 ≤ _
    split <;> omega
  · exact ⟨w0, w1, w2, w3, w4⟩
theorem ct0_in (B : Nat) : CtIn B ct0 := ⟨by simp [ct0], by simp [ct0], by simp [ct0], by simp [ct0], by simp [ct0]⟩
theorem alw_in {B : Nat} {x : Ct} (h : CtIn B x) (c : Cq) : CtIn (B + 16) (alw x c).1 := by
  have h' := h.mono (Nat.le_add_right B 16)
  unfold alw
  split
  · exact dnx_in h _ _ _
  split
  · split
    · exact h'
    · exact ct0_in _
  split
  · exact dnx_in h _ _ _
  · exact ct0_in _
theorem lefts_in {B : Nat} {x : Ct} (h : CtIn B x) (cs : List Cq) : ∀ i, CtIn (B + 16 * i) (lefts x cs i) := by
  intro i
  induction i with
  | zero => simpa [lefts] using h
  | succ i ih =>
    cases hc : cs[i]? with
    | some c => rw [lefts_succ x cs i c hc]; exact (alw_in ih c).mono (by omega)
    | none =>
      have : lefts x cs (i + 1) = lefts x cs i := by unfold lefts; rw [List.take_add_one, hc]; simp
      rw [this]; exact ih.mono (by omega)
/-- A call's cells; calls' rows. -/
def Cq.row (c : Cq) : List Value := [.int .i64 c.th, .int .i64 c.op, .int .i64 c.arg, .int .i64 c.data, .int .i64 c.beg, .int .i64 c.fin, .int .i64 c.pt, .int .i64 c.ak, .int .i64 c.av]
def cqs (l : List Cq) : List Value := l.flatMap Cq.row
theorem cqs_get (l : List Cq) (i : Nat) (c : Cq) (h : l[i]? = some c) (j : Nat) (hj : j < 9) : (cqs l)[i * 9 + j]? = c.row[j]? := by
  induction l generalizing i with
  | nil => simp at h
  | cons x l ih =>
    cases i with
    | zero =>
      simp at h; subst h
      simp only [cqs, List.flatMap_cons]
      rw [List.getElem?_append_left (by simp [Cq.row]; omega)]
      simp
    | succ i =>
      have := ih i (by simpa using h)
      simp only [cqs, List.flatMap_cons] at this ⊢
      rw [List.getElem?_append_right (by simp [Cq.row]; omega)]
      rw [← this]
      congr 1
      simp [Cq.row]; omega
theorem cqs_length (l : List Cq) : (cqs l).length = l.length * 9 := by
  induction l with
  | nil => rfl
  | cons x l ih => simp only [cqs, List.flatMap_cons, List.length_append] at ih ⊢; simp [Cq.row] at ih ⊢; omega
end Go.Proofs.Ytglohochdgeonaa.Md
/-
  reclaimref11's functions: they hand on to reclaimmodel's.
-/
namespace Go.Proofs.Ytglohochdgeonaa.Md
open Go.RowKit Mr Me
set_option linter.unusedVariables false
set_option linter.unusedSimpArgs false
set_option maxRecDepth 100000 in
set_option maxHeartbeats 8000000 in
theorem rMay_any {W : World} {S : Nat → Prop} {u0 u1 u2 u3 u4 : Value} {x : Ct} (hu : CtAt W S u0 u1 u2 u3 u4 x) (hsx : CtSm x) (b : Bool) (hb : b = true ↔ May x) :
    Calls Try.prog 16 #[.agg #[u0, u1, u2, u3, u4]] W fun e w' => e = .returned (.bool b) ∧ Below W.heap.size W w' := by
  have C := fun w' (hB : Below W.heap.size W w') => may_any (hu.below hB) hsx b hb
  obtain ⟨a0, c0, rfl, _⟩ := hu.cell.form
  obtain ⟨a1, c1, rfl, _⟩ := hu.stack.form
  obtain ⟨a2, c2, rfl, _⟩ := hu.queue.form
  obtain ⟨a3, c3, rfl, _⟩ := hu.set.form
  obtain ⟨a4, c4, rfl, _⟩ := hu.table.form
  have B0 := (Below.refl W.heap.size W).alloc (Nat.le_refl _) (ctO (.slice a0 x.cell.length c0) (.slice a1 x.stack.length c1) (.slice a2 x.queue.length c2) (.slice a3 x.set.length c3) (.slice a4 x.table.length c4))
  have BE := fun w1 (hB : Below (W.heap.size + 1) (W.alloc (ctO (.slice a0 x.cell.length c0) (.slice a1 x.stack.length c1) (.slice a2 x.queue.length c2) (.slice a3 x.set.length c3) (.slice a4 x.table.length c4))) w1) => B0.trans (hB.mono (by omega))
  clear hu hb
  unfold ctO at B0 BE
  replace C := Mr.hid C
  replace B0 := Mr.hid B0
  replace BE := Mr.hid BE
  go_enter Try.func16, Try.ntmps16
  go_wp2_with (go_at_call 27; refine (C.out _ B0.out).mono ?_; clear C; rintro e w1 ⟨rfl, hB1⟩; simp only [World.size_alloc] at hB1; have hE := Mr.hid (BE.out w1 hB1); clear hB1 BE)
  go_ret
  exact ⟨rfl, hE.out⟩
set_option maxRecDepth 100000 in
set_option maxHeartbeats 8000000 in
theorem rSame_any {W : World} {S : Nat → Prop} {u0 u1 u2 u3 u4 : Value} {x : Ct} (hu : CtAt W S u0 u1 u2 u3 u4 x) {T : Nat → Prop} {v0 v1 v2 v3 v4 : Value} {y : Ct} (hv : CtAt W T v0 v1 v2 v3 v4 y) (hsx : CtSm x) (hsy : CtSm y) :
    Calls Try.prog 14 #[.agg #[u0, u1, u2, u3, u4], .agg #[v0, v1, v2, v3, v4]] W fun e w' => e = .returned (.bool (ctB x y)) ∧ Below W.heap.size W w' := by
  have C := fun w' (hB : Below W.heap.size W w') => same_any (hu.below hB) (hv.below hB) hsx hsy
  obtain ⟨a0, c0, rfl, _⟩ := hu.cell.form
  obtain ⟨a1, c1, rfl, _⟩ := hu.stack.form
  obtain ⟨a2, c2, rfl, _⟩ := hu.queue.form
  obtain ⟨a3, c3, rfl, _⟩ := hu.set.form
  obtain ⟨a4, c4, rfl, _⟩ := hu.table.form
  obtain ⟨b0, d0, rfl, _⟩ := hv.cell.form
  obtain ⟨b1, d1, rfl, _⟩ := hv.stack.form
  obtain ⟨b2, d2, rfl, _⟩ := hv.queue.form
  obtain ⟨b3, d3, rfl, _⟩ := hv.set.form
  obtain ⟨b4, d4, rfl, _⟩ := hv.table.form
  obtain ⟨r, hr⟩ : ∃ r, r = ctB x y := ⟨_, rfl⟩
  rw [← hr] at C ⊢
  replace hr := Mr.hid hr
  have B0 := ((Below.refl W.heap.size W).alloc (Nat.le_refl _) (ctO (.slice a0 x.cell.length c0) (.slice a1 x.stack.length c1) (.slice a2 x.queue.length c2) (.slice a3 x.set.length c3) (.slice a4 x.table.length c4))).alloc (by simp) (ctO (.slice b0 y.cell.length d0) (.slice b1 y.stack.length d1) (.slice b2 y.queue.length d2) (.slice b3 y.set.length d3) (.slice b4 y.table.length d4))
  have BE := fun w1 (hB : Below (W.heap.size + 2) ((W.alloc (ctO (.slice a0 x.cell.length c0) (.slice a1 x.stack.length c1) (.slice a2 x.queue.length c2) (.slice a3 x.set.length c3) (.slice a4 x.table.length c4))).alloc (ctO (.slice b0 y.cell.length d0) (.slice b1 y.stack.length d1) (.slice b2 y.queue.length d2) (.slice b3 y.set.length d3) (.slice b4 y.table.length d4))) w1) => B0.trans (hB.mono (by omega))
  clear hu hv
  unfold ctO at B0 BE
  replace C := Mr.hid C
  replace B0 := Mr.hid B0
  replace BE := Mr.hid BE
  go_enter Try.func14, Try.ntmps14
  go_wp2_with (go_at_call 26; refine (C.out _ B0.out).mono ?_; clear C; rintro e w1 ⟨rfl, hB1⟩; simp only [World.size_alloc] at hB1; have hE := Mr.hid (BE.out w1 hB1); clear hB1 BE)
  go_ret
  exact ⟨rfl, hE.out⟩

set_option maxRecDepth 100000 in
set_option maxHeartbeats 8000000 in
theorem rCopy_any {W : World} {S : Nat → Prop} {u0 u1 u2 u3 u4 : Value} {x : Ct} (hu : CtAt W S u0 u1 u2 u3 u4 x) (hin : CtIn 225000000000000 x) :
    Calls Try.prog 6 #[.agg #[u0, u1, u2, u3, u4]] W fun e w' => ∃ v0 v1 v2 v3 v4, e = .returned (.agg #[v0, v1, v2, v3, v4]) ∧ CtAt w' (fun k => W.heap.size ≤ k) v0 v1 v2 v3 v4 x ∧ Below W.heap.size W w' := by
  have C := fun w' (hB : Below W.heap.size W w') => copy_any (hu.below hB) hin
  obtain ⟨a0, c0, rfl, _⟩ := hu.cell.form
  obtain ⟨a1, c1, rfl, _⟩ := hu.stack.form
  obtain ⟨a2, c2, rfl, _⟩ := hu.queue.form
  obtain ⟨a3, c3, rfl, _⟩ := hu.set.form
  obtain ⟨a4, c4, rfl, _⟩ := hu.table.form
  have B0 := (((Below.refl W.heap.size W).alloc (Nat.le_refl _) (ctO (.slice a0 x.cell.length c0) (.slice a1 x.stack.length c1) (.slice a2 x.queue.length c2) (.slice a3 x.set.length c3) (.slice a4 x.table.length c4))).alloc (by simp) nil5)
  have G0 : (((W.alloc (ctO (.slice a0 x.cell.length c0) (.slice a1 x.stack.length c1) (.slice a2 x.queue.length c2) (.slice a3 x.set.length c3) (.slice a4 x.table.length c4))).alloc nil5)).heap[W.heap.size + 1]? = some nil5 := (new_at _ nil5 _ (by simp))
  have BE := fun w1 (hB : Below (W.heap.size + 2) ((W.alloc (ctO (.slice a0 x.cell.length c0) (.slice a1 x.stack.length c1) (.slice a2 x.queue.length c2) (.slice a3 x.set.length c3) (.slice a4 x.table.length c4))).alloc nil5) w1) => (⟨B0.trans (hB.mono (by omega)), (hB.block (W.heap.size + 1) (by omega)).trans G0⟩ : Below W.heap.size W w1 ∧ w1.heap[W.heap.size + 1]? = some nil5)
  clear hu G0
  unfold nil5 ctO at B0
  unfold ctO at BE
  replace C := Mr.hid C
  replace B0 := Mr.hid B0
  replace BE := Mr.hid BE
  go_enter Try.func6, Try.ntmps6
  go_wp2_with (go_at_call 18; refine (C.out _ B0.out).mono ?_; clear C; rintro e w1 ⟨v0, v1, v2, v3, v4, rfl, hv, -, hB1⟩; simp only [World.size_alloc] at hB1 hv; obtain ⟨hE, hG⟩ := BE.out w1 hB1; obtain ⟨e1, e2, e3⟩ := end5a (v0 := v0) (v1 := v1) (v2 := v2) (v3 := v3) (v4 := v4) hE (b := W.heap.size + 1) (by omega) hG hv.at (fun k hk => by omega); clear hB1 BE hE; obtain ⟨k0, k1, k2, k3, k4, kl⟩ := ctO_cells hG; obtain ⟨f0, f1, f2, f3, f4⟩ := ctO_thaw hG; clear hG; obtain ⟨z0, q0, rfl, _⟩ := hv.cell.form; obtain ⟨z1, q1, rfl, _⟩ := hv.stack.form; obtain ⟨z2, q2, rfl, _⟩ := hv.queue.form; obtain ⟨z3, q3, rfl, _⟩ := hv.set.form; obtain ⟨z4, q4, rfl, _⟩ := hv.table.form; clear hv; replace e1 := Mr.hid e1; replace e2 := Mr.hid e2; replace e3 := Mr.hid e3)
  obtain ⟨d0, d1, d2, d3, d4, -⟩ := ctO_cells e3.out
  replace e1 := e1.out
  replace e2 := e2.out
  unfold set5 at e1 e2 d0 d1 d2 d3 d4
  replace e1 := Mr.hid e1
  replace e2 := Mr.hid e2
  clear e3 k0 k1 k2 k3 k4 f0 f1 f2 f3 f4
  refine bodyPost_ret (v := .agg #[.slice z0 x.cell.length q0, .slice z1 x.stack.length q1, .slice z2 x.queue.length q2, .slice z3 x.set.length q3, .slice z4 x.table.length q4]) (by simp [results, Try.results6, go_sem, d0, d1, d2, d3, d4]) rfl ?_
  exact ⟨_, _, _, _, _, rfl, e1.out, e2.out⟩


end Go.Proofs.Ytglohochdgeonaa.Md
