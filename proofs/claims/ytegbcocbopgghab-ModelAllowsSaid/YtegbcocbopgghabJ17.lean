import Derived.Test.YtegbcocbopgghabJ11
import Derived.Test.YtegbcocbopgghabJ12
import Derived.Test.YtegbcocbopgghabJ13
import Derived.Test.YtegbcocbopgghabJ09
import Derived.Test.YtegbcocbopgghabJ06
/-
  Package model: refused.
-/
namespace Go.Proofs.Ytegbcocbopgghab.Md
open Go.RowKit Mr
set_option linter.unusedVariables false
set_option linter.unusedSimpArgs false
def bads (cs : List Cq) : Bool := cs.any (fun c => obj c.op == 0)
theorem bads_yes {cs : List Cq} {i : Nat} {c : Cq} (h : cs[i]? = some c) (ho : obj c.op = 0) : bads cs = true := by
  unfold bads
  rw [List.any_eq_true]
  exact ⟨c, List.mem_of_getElem? h, by simp [ho]⟩
theorem bads_no {cs : List Cq} (h : ∀ (j : Nat) (c : Cq), cs[j]? = some c → obj c.op ≠ 0) : bads cs = false := by
  unfold bads
  rw [List.any_eq_false]
  intro c hc
  obtain ⟨j, hj, e⟩ := List.getElem_of_mem hc
  have := h j c (by rw [List.getElem?_eq_getElem hj, e])
  simpa using this
set_option maxRecDepth 100000 in
set_option maxHeartbeats 8000000 in
theorem refused_any {W : World} {S : Nat → Prop} {u0 u1 u2 u3 u4 : Value} {x : Ct} (hu : CtAt W S u0 u1 u2 u3 u4 x) (hsx : CtSm x) {T : Nat → Prop} {uc : Value} {cs : List Cq} (hc : Sl W T 9 uc cs.length (cqs cs)) (hsm : cs.length * 72 ≤ 281474976710656) (b : Bool) (hb : b = true ↔ May x) (r : Int) (hr : r = if b then (if bads cs then 110 else 0) else 111) :
    Calls Try.prog 27 #[.agg #[u0, u1, u2, u3, u4], uc] W fun e w' => e = .returned (.int .i64 r) ∧ Below W.heap.size W w' := by
  obtain ⟨a0, c0, rfl, _⟩ := hu.cell.form
  obtain ⟨a1, c1, rfl, _⟩ := hu.stack.form
  obtain ⟨a2, c2, rfl, _⟩ := hu.queue.form
  obtain ⟨a3, c3, rfl, _⟩ := hu.set.form
  obtain ⟨a4, c4, rfl, _⟩ := hu.table.form
  obtain ⟨ac, cc, rfl, hcc⟩ := hc.form
  have CM := fun w' (hB : Below W.heap.size W w') => mMay_any (hu.below hB) hsx b hb
  have hB0 := Below.refl (W.heap.size + 1) (W.alloc (ctO (.slice a0 x.cell.length c0) (.slice a1 x.stack.length c1) (.slice a2 x.queue.length c2) (.slice a3 x.set.length c3) (.slice a4 x.table.length c4)))
  have TW := fun w' (hB : Below (W.heap.size + 1) (W.alloc (ctO (.slice a0 x.cell.length c0) (.slice a1 x.stack.length c1) (.slice a2 x.queue.length c2) (.slice a3 x.set.length c3) (.slice a4 x.table.length c4))) w') => (((Below.refl W.heap.size W).alloc (Nat.le_refl _) _).trans (hB.mono (by omega)) : Below W.heap.size W w')
  obtain ⟨y0, y1, y2, y3, y4, y5⟩ := ctO_cells (new_at W (ctO (.slice a0 x.cell.length c0) (.slice a1 x.stack.length c1) (.slice a2 x.queue.length c2) (.slice a3 x.set.length c3) (.slice a4 x.table.length c4)) _ rfl)
  unfold ctO at hB0 TW y0 y1 y2 y3 y4 y5
  obtain ⟨n, hn⟩ : ∃ n, n = cs.length := ⟨_, rfl⟩
  rw [← hn] at hc hsm hcc ⊢
  replace hn := Mr.hid hn
  replace hc := Mr.hid hc
  replace CM := Mr.hid CM
  replace TW := Mr.hid TW
  replace hB0 := Mr.hid hB0
  clear hu hsx hb
  cases b with
  | false =>
    simp only [Bool.false_eq_true, if_false] at hr
    subst hr
    go_enter Try.func27, Try.ntmps27
    go_wp2_with (first | (go_at_call 13; refine (CM.out _ (TW.out _ hB0.out)).mono ?_; rintro e w1 ⟨rfl, hB1⟩; replace hB1 := Mr.hid (hB0.out.trans (hB1.mono (by simp)))))
    go_ret
    exact ⟨rfl, TW.out _ hB1.out⟩
  | true =>
    simp only [if_true] at hr
    replace hr := Mr.hid hr
    go_enter Try.func27, Try.ntmps27
    go_wp2_with (first | (go_at_call 13; refine (CM.out _ (TW.out _ hB0.out)).mono ?_; rintro e w1 ⟨rfl, hB1⟩; replace hB1 := Mr.hid (hB0.out.trans (hB1.mono (by simp))); clear y0 y1 y2 y3 y4 y5))
    have HB1 := Mr.hid (TW.out _ hB1.out)
    clear hB1 hB0 TW CM
    go_loopg [12] n (fun k s wr => ∃ i : Nat, s = .int .i64 (i : Int) ∧ i + k = n ∧ Below W.heap.size W wr ∧ ∀ (j : Nat) (c : Cq), j < i → cs[j]? = some c → obj c.op ≠ 0)
    case atStart => exact ⟨0, rfl, by omega, HB1.out, fun j c hj => by omega⟩
    case round =>
      clear HB1
      obtain ⟨i, rfl, hi, B, hok⟩ := hrel
      by_cases hlt : i < n
      · obtain ⟨c, hci⟩ : ∃ c, cs[i]? = some c := ⟨cs[i]'(by have := hn.out; omega), List.getElem?_eq_getElem _⟩
        obtain ⟨bc, oc, cc', hcv, _, _, hcl, hcr⟩ := (hc.out.below B).there (by omega)
        cases hcv
        have hg := fun j (hj : j < 9) => cqs_get cs i c hci j hj
        have g0 : wr.cell? ⟨bc, oc + i * 9, none⟩ = some (.int .i64 c.th) := hcr (i * 9 + 0) _ (hg 0 (by omega))
        have g1 : wr.cell? ⟨bc, oc + i * 9 + 1, none⟩ = some (.int .i64 c.op) := hcr (i * 9 + 1) _ (hg 1 (by omega))
        have g2 : wr.cell? ⟨bc, oc + i * 9 + 2, none⟩ = some (.int .i64 c.arg) := hcr (i * 9 + 2) _ (hg 2 (by omega))
        have g3 : wr.cell? ⟨bc, oc + i * 9 + 3, none⟩ = some (.int .i64 c.data) := hcr (i * 9 + 3) _ (hg 3 (by omega))
        have g4 : wr.cell? ⟨bc, oc + i * 9 + 4, none⟩ = some (.int .i64 c.beg) := hcr (i * 9 + 4) _ (hg 4 (by omega))
        have g5 : wr.cell? ⟨bc, oc + i * 9 + 5, none⟩ = some (.int .i64 c.fin) := hcr (i * 9 + 5) _ (hg 5 (by omega))
        have g6 : wr.cell? ⟨bc, oc + i * 9 + 6, none⟩ = some (.int .i64 c.pt) := hcr (i * 9 + 6) _ (hg 6 (by omega))
        have g7 : wr.cell? ⟨bc, oc + i * 9 + 7, none⟩ = some (.int .i64 c.ak) := hcr (i * 9 + 7) _ (hg 7 (by omega))
        have g8 : wr.cell? ⟨bc, oc + i * 9 + 8, none⟩ = some (.int .i64 c.av) := hcr (i * 9 + 8) _ (hg 8 (by omega))
        have hlI : (i : Int) < (n : Int) := by omega
        have BA := Mr.hid (B.alloc B.size (.cells #[.int .i64 c.th, .int .i64 c.op, .int .i64 c.arg, .int .i64 c.data, .int .i64 c.beg, .int .i64 c.fin, .int .i64 c.pt, .int .i64 c.ak, .int .i64 c.av] 50 (0, 0)))
        clear hg hcr
        by_cases ho : obj c.op = 0
        · have hbd := bads_yes hci ho
          have hr2 := hr.out
          rw [hbd] at hr2
          simp only [if_true] at hr2
          subst hr2
          have CO := fun w => mObj c.op w
          rw [ho] at CO
          replace CO := Mr.hid CO
          replace ho := Mr.hid ho
          clear hr hok hbd B
          go_wp2_with (go_at_call 15; refine (CO.out _).mono ?_; rintro e w2 ⟨rfl, rfl⟩)
          go_ret
          exact ⟨rfl, BA.out⟩
        · have CO := fun w => mObj c.op w
          have ho1 : (obj c.op == 0) = false := by simpa using ho
          have hok2 : ∀ (j : Nat) (d : Cq), j < i + 1 → cs[j]? = some d → obj d.op ≠ 0 := fun j d hj hd => by
            by_cases e : j = i
            · subst e; rw [hci] at hd; cases hd; exact ho
            · exact hok j d (by omega) hd
          generalize obj c.op = oo at *
          replace CO := Mr.hid CO
          replace ho := Mr.hid ho
          replace hok2 := Mr.hid hok2
          clear hok B
          go_wp2_with (go_at_call 15; refine (CO.out _).mono ?_; rintro e w2 ⟨rfl, rfl⟩)
          go_roundg (gk - 1)
          case measure => omega
          case rel => exact ⟨i + 1, by simp, by omega, BA.out, hok2.out⟩
      · have hbd := bads_no (cs := cs) (fun j c hc => hok j c (by have := (List.getElem?_eq_some_iff.1 hc).1; have := hn.out; omega) hc)
        have hr2 := hr.out
        rw [hbd] at hr2
        simp only [Bool.false_eq_true, if_false] at hr2
        subst hr2
        replace B := Mr.hid B
        clear hr hok hbd
        go_wp2
        go_ret
        exact ⟨rfl, B.out⟩
end Go.Proofs.Ytegbcocbopgghab.Md
/-
  Package model: only, value, whether; what the calls of the cell, the stack, the queue answer.
-/
namespace Go.Proofs.Ytegbcocbopgghab.Md
open Go.RowKit Mr
set_option linter.unusedVariables false
set_option linter.unusedSimpArgs false
set_option maxHeartbeats 2000000 in
theorem only_any (k : Int) (w : World) : Calls Try.prog 81 #[.int .i64 k] w fun e w' => e = .returned (ans k 0) ∧ Below w.heap.size w w' := by
  go_enter Try.func81, Try.ntmps81
  go_wp2
  refine bodyPost_ret (v := ans k 0) (by simp [results, Try.results81, go_sem, ans]) rfl ?_
  exact ⟨rfl, (Below.refl _ _).alloc (Nat.le_refl _) _⟩
set_option maxHeartbeats 2000000 in
theorem valueM_any (k : Int) (w : World) : Calls Try.prog 82 #[.int .i64 k] w fun e w' => e = .returned (ans 2 k) ∧ Below w.heap.size w w' := by
  go_enter Try.func82, Try.ntmps82
  go_wp2
  refine bodyPost_ret (v := ans 2 k) (by simp [results, Try.results82, go_sem, ans]) rfl ?_
  exact ⟨rfl, (Below.refl _ _).alloc (Nat.le_refl _) _⟩
/-- An answer's box that is written. -/
theorem ans_set {w : World} {b : Nat} (h : w.heap[b]? = some (.cells #[.int .i64 0, .int .i64 0] 31 (0, 0))) (k v : Int) : w.cell? ⟨b, 0, none⟩ = some (.int .i64 0) ∧ w.cell? ⟨b, 1, none⟩ = some (.int .i64 0) ∧ w.frozen? ⟨b, 0, none⟩ = false ∧ w.frozen? ⟨b, 1, none⟩ = false ∧ b < w.heap.size ∧
    ((w.setCell ⟨b, 0, none⟩ (.int .i64 k)).setCell ⟨b, 1, none⟩ (.int .i64 v)).cell? ⟨b, 0, none⟩ = some (.int .i64 k) ∧ ((w.setCell ⟨b, 0, none⟩ (.int .i64 k)).setCell ⟨b, 1, none⟩ (.int .i64 v)).cell? ⟨b, 1, none⟩ = some (.int .i64 v) := by
  have h2 := setBlk (setBlk h 0 (.int .i64 k)) 1 (.int .i64 v)
  exact ⟨cell_blk h 0, cell_blk h 1, by simp [World.frozen?, h], by simp [World.frozen?, h], (Array.getElem?_eq_some_iff.1 h).1, cell_blk h2 0, cell_blk h2 1⟩
theorem ans_below {n : Nat} {a w : World} {b : Nat} (h : Below n a w) (hb : n ≤ b) (k v : Int) : Below n a ((w.setCell ⟨b, 0, none⟩ (.int .i64 k)).setCell ⟨b, 1, none⟩ (.int .i64 v)) := (h.setCell (p := ⟨b, 0, none⟩) hb _).setCell (p := ⟨b, 1, none⟩) hb _
set_option maxHeartbeats 2000000 in
theorem whether_any (b : Bool) (w : World) : Calls Try.prog 90 #[.bool b] w fun e w' => e = .returned (ans (if b then 5 else 6) 0) ∧ Below w.heap.size w w' := by
  have bx := heap_alloc_new w (.cells #[.int .i64 0, .int .i64 0] 31 (0, 0))
  have B0 := (Below.refl w.heap.size w).alloc (Nat.le_refl _) (.cells #[.int .i64 0, .int .i64 0] 31 (0, 0))
  have K := fun (w1 : World) (k : Int) (hB : Below (w.alloc (.cells #[.int .i64 0, .int .i64 0] 31 (0, 0))).heap.size (w.alloc (.cells #[.int .i64 0, .int .i64 0] 31 (0, 0))) w1) => (⟨ans_set ((hB.block w.heap.size (by simp)).trans bx) k 0, ans_below (B0.trans (hB.mono (by simp))) (Nat.le_refl w.heap.size) k 0⟩ : _ ∧ _)
  clear bx B0
  replace K := Mr.hid K
  cases b with
  | false =>
    go_enter Try.func90, Try.ntmps90
    go_wp2_with (go_at_call 81; refine (only_any 6 _).mono ?_; rintro e w1 ⟨rfl, hB⟩; unfold ans; obtain ⟨⟨c0, c1, f0, f1, l1, d0, d1⟩, hE⟩ := K.out w1 6 hB; clear K hB; replace hE := Mr.hid hE)
    refine bodyPost_ret (v := ans 6 0) (by simp [results, Try.results90, go_sem, ans, d0, d1]) rfl ?_
    exact ⟨rfl, hE.out⟩
  | true =>
    go_enter Try.func90, Try.ntmps90
    go_wp2_with (go_at_call 81; refine (only_any 5 _).mono ?_; rintro e w1 ⟨rfl, hB⟩; unfold ans; obtain ⟨⟨c0, c1, f0, f1, l1, d0, d1⟩, hE⟩ := K.out w1 5 hB; clear K hB; replace hE := Mr.hid hE)
    refine bodyPost_ret (v := ans 5 0) (by simp [results, Try.results90, go_sem, ans, d0, d1]) rfl ?_
    exact ⟨rfl, hE.out⟩
theorem far1 (w : World) (b i : Nat) (v : Value) (g o : Nat) (h : g ≠ b) : (w.setCell ⟨b, i, none⟩ v).cell? ⟨g, o, none⟩ = w.cell? ⟨g, o, none⟩ := by
  have e := Below.heap_setCell w ⟨b, i, none⟩ v g h
  unfold World.cell?
  simp only [e]
theorem far2 (w : World) (b : Nat) (u v : Value) (g o : Nat) (h : g ≠ b) : ((w.setCell ⟨b, 0, none⟩ u).setCell ⟨b, 1, none⟩ v).cell? ⟨g, o, none⟩ = w.cell? ⟨g, o, none⟩ := (far1 _ b 1 v g o h).trans (far1 w b 0 u g o h)
/-- A call's box, an answer's box. -/
theorem nine_cells {W : World} {b : Nat} {v0 v1 v2 v3 v4 v5 v6 v7 v8 : Value} {t : TypeId} (h : W.heap[b]? = some (.cells #[v0, v1, v2, v3, v4, v5, v6, v7, v8] t (0, 0))) : W.cell? ⟨b, 1, none⟩ = some v1 ∧ W.cell? ⟨b, 2, none⟩ = some v2 ∧ W.cell? ⟨b, 3, none⟩ = some v3 ∧ b < W.heap.size :=
  ⟨by simp [World.cell?, h], by simp [World.cell?, h], by simp [World.cell?, h], (Array.getElem?_eq_some_iff.1 h).1⟩
set_option maxRecDepth 100000 in
set_option maxHeartbeats 2000000 in
theorem ans_cell {W : World} {S : Nat → Prop} {g : Nat} {l : List Int} (ho : Ob W S g 104 3 1 l.length (ints l)) (th op arg data beg fin pt ak av : Int) (p : Int × Int) (hp : p = if op = 22 then (1, 0) else top l) :
    Calls Try.prog 79 #[.pointer (some ⟨g, 0, none⟩), .agg #[.int .i64 th, .int .i64 op, .int .i64 arg, .int .i64 data, .int .i64 beg, .int .i64 fin, .int .i64 pt, .int .i64 ak, .int .i64 av]] W fun e w' => e = .returned (ans p.1 p.2) ∧ Below W.heap.size W w' := by
  obtain ⟨v, hS, hg, hO⟩ := ho
  have hgl := (Array.getElem?_eq_some_iff.1 hg).1
  have hT0 := Tq.new W (.cells #[.int .i64 th, .int .i64 op, .int .i64 arg, .int .i64 data, .int .i64 beg, .int .i64 fin, .int .i64 pt, .int .i64 ak, .int .i64 av] 50 (0, 0)) (.cells #[.int .i64 0, .int .i64 0] 31 (0, 0))
  obtain ⟨k1, k2, k3, k4⟩ := nine_cells hT0.2.1
  have cg : ((W.alloc (.cells #[.int .i64 th, .int .i64 op, .int .i64 arg, .int .i64 data, .int .i64 beg, .int .i64 fin, .int .i64 pt, .int .i64 ak, .int .i64 av] 50 (0, 0))).alloc (.cells #[.int .i64 0, .int .i64 0] 31 (0, 0))).cell? ⟨g, 0, none⟩ = some v := cell_blk (old_at (old_at hg _) _) 0
  have K := fun (w1 : World) (k v : Int) (hB : Below ((W.alloc (.cells #[.int .i64 th, .int .i64 op, .int .i64 arg, .int .i64 data, .int .i64 beg, .int .i64 fin, .int .i64 pt, .int .i64 ak, .int .i64 av] 50 (0, 0))).alloc (.cells #[.int .i64 0, .int .i64 0] 31 (0, 0))).heap.size ((W.alloc (.cells #[.int .i64 th, .int .i64 op, .int .i64 arg, .int .i64 data, .int .i64 beg, .int .i64 fin, .int .i64 pt, .int .i64 ak, .int .i64 av] 50 (0, 0))).alloc (.cells #[.int .i64 0, .int .i64 0] 31 (0, 0))) w1) => (⟨ans_set ((hT0.below hB).2.2.1) k v, ans_below (hT0.below hB).1 (by omega : W.heap.size ≤ W.heap.size + 1) k v⟩ : _ ∧ _)
  replace K := Mr.hid K
  by_cases h : op = 22
  · rw [if_pos h] at hp
    subst hp
    have d1 : (op == 22) = true := by simpa using h
    subst h
    clear hO hg hT0 cg
    go_enter Try.func79, Try.ntmps79
    go_wp2_with (go_at_call 81; refine (only_any 1 _).mono ?_; rintro e w1 ⟨rfl, hB⟩; unfold ans; obtain ⟨⟨c0, c1, f0, f1, l1, d0, d1⟩, hE⟩ := K.out w1 1 0 hB; clear K hB; replace hE := Mr.hid hE)
    refine bodyPost_ret (v := ans 1 0) (by simp [results, Try.results79, go_sem, ans, d0, d1]) rfl ?_
    exact ⟨rfl, hE.out⟩
  · rw [if_neg h] at hp
    have d1 : (op == 22) = false := by simpa using h
    replace h := Mr.hid h
    by_cases hl : l = []
    · subst hl
      have ht : top [] = (3, 0) := rfl
      rw [ht] at hp
      subst hp
      obtain ⟨a, c, rfl, _, _⟩ := hO.form
      simp only [List.length_nil] at *
      clear hO hg hT0 ht
      go_enter Try.func79, Try.ntmps79
      go_wp2_with (go_at_call 81; refine (only_any 3 _).mono ?_; rintro e w1 ⟨rfl, hB⟩; unfold ans; obtain ⟨⟨c0, c1, f0, f1, l1, d0, d1⟩, hE⟩ := K.out w1 3 0 hB; clear K hB; replace hE := Mr.hid hE)
      refine bodyPost_ret (v := ans 3 0) (by simp [results, Try.results79, go_sem, ans, d0, d1]) rfl ?_
      exact ⟨rfl, hE.out⟩
    · have hn : 0 < l.length := by cases l with | nil => exact absurd rfl hl | cons => simp
      have ht : top l = (2, l[0]?.getD 0) := if_neg hl
      rw [ht] at hp
      subst hp
      obtain ⟨g2, o2, cap, cur, rfl, hc, hm, _, hg2, hs, hx⟩ := hO.there hn
      have ex : (ints l)[0]? = some (.int .i64 (l[0]?.getD 0)) := by exact ints_get l 0 hn
      have cx := own_cells hg2 hx 0 _ ex
      have hg2l := (Array.getElem?_eq_some_iff.1 hg2).1
      have cx2 : ((W.alloc (.cells #[.int .i64 th, .int .i64 op, .int .i64 arg, .int .i64 data, .int .i64 beg, .int .i64 fin, .int .i64 pt, .int .i64 ak, .int .i64 av] 50 (0, 0))).alloc (.cells #[.int .i64 0, .int .i64 0] 31 (0, 0))).cell? ⟨g2, o2, none⟩ = some (.int .i64 (l[0]?.getD 0)) := by
        rw [← cx, cell_blk (old_at (old_at hg2 _) _), cell_blk hg2]
        rfl
      unfold maxLen at hm
      generalize l[0]?.getD 0 = q at *
      generalize l.length = n at *
      have e1 : ((n : Int) == 0) = false := by simp; omega
      have q2 : (0 : Int) < (n : Int) := by omega
      clear hO hg hT0 ht hx hs hg2 cx hl ex
      go_enter Try.func79, Try.ntmps79
      go_wp2_with (go_at_call 82; refine (valueM_any q _).mono ?_; rintro e w1 ⟨rfl, hB⟩; unfold ans; obtain ⟨⟨c0, c1, f0, f1, l1, d0, d1⟩, hE⟩ := K.out w1 2 q hB; clear K hB; replace hE := Mr.hid hE)
      refine bodyPost_ret (v := ans 2 q) (by simp [results, Try.results79, go_sem, ans, d0, d1]) rfl ?_
      exact ⟨rfl, hE.out⟩
set_option maxRecDepth 100000 in
set_option maxHeartbeats 2000000 in
theorem ans_stack {W : World} {S : Nat → Prop} {g : Nat} {l : List Int} (ho : Ob W S g 106 3 1 l.length (ints l.reverse)) (th op arg data beg fin pt ak av : Int) (p : Int × Int) (hp : p = if op = 30 then (1, 0) else top l) :
    Calls Try.prog 83 #[.pointer (some ⟨g, 0, none⟩), .agg #[.int .i64 th, .int .i64 op, .int .i64 arg, .int .i64 data, .int .i64 beg, .int .i64 fin, .int .i64 pt, .int .i64 ak, .int .i64 av]] W fun e w' => e = .returned (ans p.1 p.2) ∧ Below W.heap.size W w' := by
  obtain ⟨v, hS, hg, hO⟩ := ho
  have hgl := (Array.getElem?_eq_some_iff.1 hg).1
  have hT0 := Tq.new W (.cells #[.int .i64 th, .int .i64 op, .int .i64 arg, .int .i64 data, .int .i64 beg, .int .i64 fin, .int .i64 pt, .int .i64 ak, .int .i64 av] 50 (0, 0)) (.cells #[.int .i64 0, .int .i64 0] 31 (0, 0))
  obtain ⟨k1, k2, k3, k4⟩ := nine_cells hT0.2.1
  have cg : ((W.alloc (.cells #[.int .i64 th, .int .i64 op, .int .i64 arg, .int .i64 data, .int .i64 beg, .int .i64 fin, .int .i64 pt, .int .i64 ak, .int .i64 av] 50 (0, 0))).alloc (.cells #[.int .i64 0, .int .i64 0] 31 (0, 0))).cell? ⟨g, 0, none⟩ = some v := cell_blk (old_at (old_at hg _) _) 0
  have K := fun (w1 : World) (k v : Int) (hB : Below ((W.alloc (.cells #[.int .i64 th, .int .i64 op, .int .i64 arg, .int .i64 data, .int .i64 beg, .int .i64 fin, .int .i64 pt, .int .i64 ak, .int .i64 av] 50 (0, 0))).alloc (.cells #[.int .i64 0, .int .i64 0] 31 (0, 0))).heap.size ((W.alloc (.cells #[.int .i64 th, .int .i64 op, .int .i64 arg, .int .i64 data, .int .i64 beg, .int .i64 fin, .int .i64 pt, .int .i64 ak, .int .i64 av] 50 (0, 0))).alloc (.cells #[.int .i64 0, .int .i64 0] 31 (0, 0))) w1) => (⟨ans_set ((hT0.below hB).2.2.1) k v, ans_below (hT0.below hB).1 (by omega : W.heap.size ≤ W.heap.size + 1) k v⟩ : _ ∧ _)
  replace K := Mr.hid K
  by_cases h : op = 30
  · rw [if_pos h] at hp
    subst hp
    have d1 : (op == 30) = true := by simpa using h
    subst h
    clear hO hg hT0 cg
    go_enter Try.func83, Try.ntmps83
    go_wp2_with (go_at_call 81; refine (only_any 1 _).mono ?_; rintro e w1 ⟨rfl, hB⟩; unfold ans; obtain ⟨⟨c0, c1, f0, f1, l1, d0, d1⟩, hE⟩ := K.out w1 1 0 hB; clear K hB; replace hE := Mr.hid hE)
    refine bodyPost_ret (v := ans 1 0) (by simp [results, Try.results83, go_sem, ans, d0, d1]) rfl ?_
    exact ⟨rfl, hE.out⟩
  · rw [if_neg h] at hp
    have d1 : (op == 30) = false := by simpa using h
    replace h := Mr.hid h
    by_cases hl : l = []
    · subst hl
      have ht : top [] = (3, 0) := rfl
      rw [ht] at hp
      subst hp
      obtain ⟨a, c, rfl, _, _⟩ := hO.form
      simp only [List.length_nil] at *
      clear hO hg hT0 ht
      go_enter Try.func83, Try.ntmps83
      go_wp2_with (go_at_call 81; refine (only_any 3 _).mono ?_; rintro e w1 ⟨rfl, hB⟩; unfold ans; obtain ⟨⟨c0, c1, f0, f1, l1, d0, d1⟩, hE⟩ := K.out w1 3 0 hB; clear K hB; replace hE := Mr.hid hE)
      refine bodyPost_ret (v := ans 3 0) (by simp [results, Try.results83, go_sem, ans, d0, d1]) rfl ?_
      exact ⟨rfl, hE.out⟩
    · have hn : 0 < l.length := by cases l with | nil => exact absurd rfl hl | cons => simp
      have ht : top l = (2, l[0]?.getD 0) := if_neg hl
      rw [ht] at hp
      subst hp
      obtain ⟨g2, o2, cap, cur, rfl, hc, hm, _, hg2, hs, hx⟩ := hO.there hn
      have ex : (ints l.reverse)[(l.length - 1)]? = some (.int .i64 (l[0]?.getD 0)) := by rw [ints_get _ _ (by simp; omega), List.getElem?_reverse (by omega), show l.length - 1 - (l.length - 1) = 0 from by omega]
      have cx := own_cells hg2 hx (l.length - 1) _ ex
      have hg2l := (Array.getElem?_eq_some_iff.1 hg2).1
      have cx2 : ((W.alloc (.cells #[.int .i64 th, .int .i64 op, .int .i64 arg, .int .i64 data, .int .i64 beg, .int .i64 fin, .int .i64 pt, .int .i64 ak, .int .i64 av] 50 (0, 0))).alloc (.cells #[.int .i64 0, .int .i64 0] 31 (0, 0))).cell? ⟨g2, o2 + (l.length - 1), none⟩ = some (.int .i64 (l[0]?.getD 0)) := by
        rw [← cx, cell_blk (old_at (old_at hg2 _) _), cell_blk hg2]
      unfold maxLen at hm
      generalize l[0]?.getD 0 = q at *
      generalize l.length = n at *
      have e1 : ((n : Int) == 0) = false := by simp; omega
      obtain ⟨m, rfl⟩ : ∃ m, n = m + 1 := ⟨n - 1, by omega⟩
      rw [show m + 1 - 1 = m from by omega] at cx2
      have q1 : (0 : Int) ≤ (m : Int) := by omega
      have q2 : (m : Int) < (m : Int) + 1 := by omega
      clear hO hg hT0 ht hx hs hg2 cx hl ex
      go_enter Try.func83, Try.ntmps83
      go_wp2
      have KS : ∀ w' : World, Below ((W.alloc (.cells #[.int .i64 th, .int .i64 op, .int .i64 arg, .int .i64 data, .int .i64 beg, .int .i64 fin, .int .i64 pt, .int .i64 ak, .int .i64 av] 50 (0, 0))).alloc (.cells #[.int .i64 0, .int .i64 0] 31 (0, 0))).heap.size ((W.alloc (.cells #[.int .i64 th, .int .i64 op, .int .i64 arg, .int .i64 data, .int .i64 beg, .int .i64 fin, .int .i64 pt, .int .i64 ak, .int .i64 av] 50 (0, 0))).alloc (.cells #[.int .i64 0, .int .i64 0] 31 (0, 0))) w' → w'.cell? ⟨g, 0, none⟩ = some (.slice (some ⟨g2, o2, none⟩) (m + 1) cap) ∧ w'.cell? ⟨g2, o2 + m, none⟩ = some (.int .i64 q) := fun w' hB => ⟨(hB.cell (p := ⟨g, 0, none⟩) (by simp; omega)).trans cg, (hB.cell (p := ⟨g2, o2 + m, none⟩) (by simp; omega)).trans cx2⟩
      have KR : Hid (W.heap.size + 1 < ((W.alloc (.cells #[.int .i64 th, .int .i64 op, .int .i64 arg, .int .i64 data, .int .i64 beg, .int .i64 fin, .int .i64 pt, .int .i64 ak, .int .i64 av] 50 (0, 0))).alloc (.cells #[.int .i64 0, .int .i64 0] 31 (0, 0))).heap.size) := by show _ < _; simp
      have eW : IntKind.i64.wrap ((m : Int) + 1 - 1) = (m : Int) := by rw [show (m : Int) + 1 - 1 = (m : Int) from by omega]; exact i64w _ (by omega) (by omega)
      have eW2 : IntKind.i64.wrap (m : Int) = (m : Int) := i64w _ (by omega) (by omega)
      have KS0 := Mr.hid (KS _ (Below.refl _ _).drew)
      have hgn : g ≠ W.heap.size + 1 := by omega
      have hgn2 : g2 ≠ W.heap.size + 1 := by omega
      replace KS := Mr.hid KS
      generalize ((W.alloc (.cells #[.int .i64 th, .int .i64 op, .int .i64 arg, .int .i64 data, .int .i64 beg, .int .i64 fin, .int .i64 pt, .int .i64 ak, .int .i64 av] 50 (0, 0))).alloc (.cells #[.int .i64 0, .int .i64 0] 31 (0, 0))) = w0 at *
      clear k1 k2 k3 k4 cg cx2
      go_region_held3 (fun w' => w'.cell? ⟨g, 0, none⟩ = some (.slice (some ⟨g2, o2, none⟩) (m + 1) cap) ∧ w'.cell? ⟨g2, o2 + m, none⟩ = some (.int .i64 q)) (first | with_reducible exact KZ.out | with_reducible exact KY.out | with_reducible exact KS0.out | go_keep) (first | (go_at_call 82; refine (valueM_any q _).mono ?_; rintro e w1 ⟨rfl, hB⟩; replace hB : Below w0.heap.size w0 w1 := ⟨hB.os, hB.tape, hB.output, hB.size, hB.block⟩; unfold ans; have KY := Mr.hid (KS.out w1 hB); have KZ : Hid (((w1.setCell ⟨W.heap.size + 1, 0, none⟩ (.int .i64 2)).setCell ⟨W.heap.size + 1, 1, none⟩ (.int .i64 q)).cell? ⟨g, 0, none⟩ = some (.slice (some ⟨g2, o2, none⟩) (m + 1) cap) ∧ ((w1.setCell ⟨W.heap.size + 1, 0, none⟩ (.int .i64 2)).setCell ⟨W.heap.size + 1, 1, none⟩ (.int .i64 q)).cell? ⟨g2, o2 + m, none⟩ = some (.int .i64 q)) := ⟨(far2 _ _ _ _ _ _ hgn).trans KY.out.1, (far2 _ _ _ _ _ _ hgn2).trans KY.out.2⟩; obtain ⟨⟨c0, c1, f0, f1, l1, d0, d1⟩, hE⟩ := K.out w1 2 q hB; clear K hB; replace hE := Mr.hid hE))
      go_wp2
      refine bodyPost_ret (v := ans 2 q) (by simp [results, Try.results83, go_sem, ans, d0, d1]) rfl ?_
      exact ⟨rfl, hE.out⟩
set_option maxRecDepth 100000 in
set_option maxHeartbeats 2000000 in
theorem ans_queue {W : World} {S : Nat → Prop} {g : Nat} {l : List Int} (ho : Ob W S g 107 3 1 l.length (ints l)) (th op arg data beg fin pt ak av : Int) (p : Int × Int) (hp : p = if op = 40 then (1, 0) else top l) :
    Calls Try.prog 85 #[.pointer (some ⟨g, 0, none⟩), .agg #[.int .i64 th, .int .i64 op, .int .i64 arg, .int .i64 data, .int .i64 beg, .int .i64 fin, .int .i64 pt, .int .i64 ak, .int .i64 av]] W fun e w' => e = .returned (ans p.1 p.2) ∧ Below W.heap.size W w' := by
  obtain ⟨v, hS, hg, hO⟩ := ho
  have hgl := (Array.getElem?_eq_some_iff.1 hg).1
  have hT0 := Tq.new W (.cells #[.int .i64 th, .int .i64 op, .int .i64 arg, .int .i64 data, .int .i64 beg, .int .i64 fin, .int .i64 pt, .int .i64 ak, .int .i64 av] 50 (0, 0)) (.cells #[.int .i64 0, .int .i64 0] 31 (0, 0))
  obtain ⟨k1, k2, k3, k4⟩ := nine_cells hT0.2.1
  have cg : ((W.alloc (.cells #[.int .i64 th, .int .i64 op, .int .i64 arg, .int .i64 data, .int .i64 beg, .int .i64 fin, .int .i64 pt, .int .i64 ak, .int .i64 av] 50 (0, 0))).alloc (.cells #[.int .i64 0, .int .i64 0] 31 (0, 0))).cell? ⟨g, 0, none⟩ = some v := cell_blk (old_at (old_at hg _) _) 0
  have K := fun (w1 : World) (k v : Int) (hB : Below ((W.alloc (.cells #[.int .i64 th, .int .i64 op, .int .i64 arg, .int .i64 data, .int .i64 beg, .int .i64 fin, .int .i64 pt, .int .i64 ak, .int .i64 av] 50 (0, 0))).alloc (.cells #[.int .i64 0, .int .i64 0] 31 (0, 0))).heap.size ((W.alloc (.cells #[.int .i64 th, .int .i64 op, .int .i64 arg, .int .i64 data, .int .i64 beg, .int .i64 fin, .int .i64 pt, .int .i64 ak, .int .i64 av] 50 (0, 0))).alloc (.cells #[.int .i64 0, .int .i64 0] 31 (0, 0))) w1) => (⟨ans_set ((hT0.below hB).2.2.1) k v, ans_below (hT0.below hB).1 (by omega : W.heap.size ≤ W.heap.size + 1) k v⟩ : _ ∧ _)
  replace K := Mr.hid K
  by_cases h : op = 40
  · rw [if_pos h] at hp
    subst hp
    have d1 : (op == 40) = true := by simpa using h
    subst h
    clear hO hg hT0 cg
    go_enter Try.func85, Try.ntmps85
    go_wp2_with (go_at_call 81; refine (only_any 1 _).mono ?_; rintro e w1 ⟨rfl, hB⟩; unfold ans; obtain ⟨⟨c0, c1, f0, f1, l1, d0, d1⟩, hE⟩ := K.out w1 1 0 hB; clear K hB; replace hE := Mr.hid hE)
    refine bodyPost_ret (v := ans 1 0) (by simp [results, Try.results85, go_sem, ans, d0, d1]) rfl ?_
    exact ⟨rfl, hE.out⟩
  · rw [if_neg h] at hp
    have d1 : (op == 40) = false := by simpa using h
    replace h := Mr.hid h
    by_cases hl : l = []
    · subst hl
      have ht : top [] = (3, 0) := rfl
      rw [ht] at hp
      subst hp
      obtain ⟨a, c, rfl, _, _⟩ := hO.form
      simp only [List.length_nil] at *
      clear hO hg hT0 ht
      go_enter Try.func85, Try.ntmps85
      go_wp2_with (go_at_call 81; refine (only_any 3 _).mono ?_; rintro e w1 ⟨rfl, hB⟩; unfold ans; obtain ⟨⟨c0, c1, f0, f1, l1, d0, d1⟩, hE⟩ := K.out w1 3 0 hB; clear K hB; replace hE := Mr.hid hE)
      refine bodyPost_ret (v := ans 3 0) (by simp [results, Try.results85, go_sem, ans, d0, d1]) rfl ?_
      exact ⟨rfl, hE.out⟩
    · have hn : 0 < l.length := by cases l with | nil => exact absurd rfl hl | cons => simp
      have ht : top l = (2, l[0]?.getD 0) := if_neg hl
      rw [ht] at hp
      subst hp
      obtain ⟨g2, o2, cap, cur, rfl, hc, hm, _, hg2, hs, hx⟩ := hO.there hn
      have ex : (ints l)[0]? = some (.int .i64 (l[0]?.getD 0)) := by exact ints_get l 0 hn
      have cx := own_cells hg2 hx 0 _ ex
      have hg2l := (Array.getElem?_eq_some_iff.1 hg2).1
      have cx2 : ((W.alloc (.cells #[.int .i64 th, .int .i64 op, .int .i64 arg, .int .i64 data, .int .i64 beg, .int .i64 fin, .int .i64 pt, .int .i64 ak, .int .i64 av] 50 (0, 0))).alloc (.cells #[.int .i64 0, .int .i64 0] 31 (0, 0))).cell? ⟨g2, o2, none⟩ = some (.int .i64 (l[0]?.getD 0)) := by
        rw [← cx, cell_blk (old_at (old_at hg2 _) _), cell_blk hg2]
        rfl
      unfold maxLen at hm
      generalize l[0]?.getD 0 = q at *
      generalize l.length = n at *
      have e1 : ((n : Int) == 0) = false := by simp; omega
      have q2 : (0 : Int) < (n : Int) := by omega
      clear hO hg hT0 ht hx hs hg2 cx hl ex
      go_enter Try.func85, Try.ntmps85
      go_wp2_with (go_at_call 82; refine (valueM_any q _).mono ?_; rintro e w1 ⟨rfl, hB⟩; unfold ans; obtain ⟨⟨c0, c1, f0, f1, l1, d0, d1⟩, hE⟩ := K.out w1 2 q hB; clear K hB; replace hE := Mr.hid hE)
      refine bodyPost_ret (v := ans 2 q) (by simp [results, Try.results85, go_sem, ans, d0, d1]) rfl ?_
      exact ⟨rfl, hE.out⟩
end Go.Proofs.Ytegbcocbopgghab.Md
