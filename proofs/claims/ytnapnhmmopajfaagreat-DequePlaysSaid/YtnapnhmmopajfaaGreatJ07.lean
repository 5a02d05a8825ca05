import Derived.Test.YtnapnhmmopajfaaGreatJ06
import Derived.Defers
import Derived.Recover
/-
  THE DESK: Answer by its contract (Point: SyPoint).
-/
namespace Go.Proofs.YtnapnhmmopajfaaGreat.Ma
open Go.RowKit Mr Me
section
variable {W : World} {U S : Nat → Prop} {b bb bm : Nat} {vk vt vc vs vw vl va : Value} {ths : List Th} {n : Int} {cls : List Cl} {shs : List Sh} {ws : List Int} {mv : Int} {lg : List Acc} {ah : List Int}
theorem Mac.putCl (h : Mac W U S b bb bm vk vt vc vs vw vl va ths n cls shs ws mv lg ah) {gc cc : Nat} (hv : vc = .slice (some ⟨gc, 0, none⟩) cls.length cc) (c j : Nat) (cl cl' : Cl) (u : Value) (hc : cls[c]? = some cl) (hj : j < 9) (hu : cl'.cells = cl.cells.set j u) :
    Mac (W.setCell ⟨gc, c * 9 + j, none⟩ u) U S b bb bm vk vt vc vs vw vl va ths n (cls.set c cl') shs ws mv lg ah := by
  have hg : vc.ownBlock = some gc := by rw [hv]; rfl
  obtain ⟨⟨hgU, hgS⟩, hgl⟩ := h.cal.lt gc hg
  have hk : ∀ k, k ≠ gc → (W.setCell ⟨gc, c * 9 + j, none⟩ u).heap[k]? = W.heap[k]? := fun k hne => Below.heap_setCell _ _ _ k hne
  have n1 : b ≠ gc := fun e => not_row h.blk h.cal (by decide) (e ▸ hg)
  have n2 : bb ≠ gc := fun e => not_row h.bk h.cal (by decide) (e ▸ hg)
  refine ⟨(hk b n1).trans h.blk, (hk bb n2).trans h.bk, h.mem.kept (fun k hs _ => hk k (fun e => hgS (e ▸ hs))), h.thr.setCell _ _ (fun e => has_ne h.thr h.cal (by decide) gc e hg), ?_, h.shf.setCell _ _ (fun e => has_ne h.shf h.cal (by decide) gc e hg), h.ub, h.ubb, h.su, fun k hk => by simpa using h.ul k hk⟩
  have hcal := h.cal
  rw [hv] at hcal ⊢
  have := has_put hcal (c * 9 + j) u
  unfold clc at this ⊢
  rw [flat_set cl_len cls c j cl cl' u hc hj hu] at this
  rw [List.length_set]
  exact this
theorem Mac.putTh (h : Mac W U S b bb bm vk vt vc vs vw vl va ths n cls shs ws mv lg ah) {gt nt ct : Nat} (hv : vt = .slice (some ⟨gt, 0, none⟩) nt ct) (i j : Nat) (t t' : Th) (u : Value) (ht : ths[i]? = some t) (hj : j < 5) (hu : t'.cells = t.cells.set j u) :
    Mac (W.setCell ⟨gt, i * 5 + j, none⟩ u) U S b bb bm vk vt vc vs vw vl va (ths.set i t') n cls shs ws mv lg ah := by
  have hg : vt.ownBlock = some gt := by rw [hv]; rfl
  obtain ⟨⟨hgU, hgS⟩, hgl⟩ := h.thr.lt gt hg
  have hk : ∀ k, k ≠ gt → (W.setCell ⟨gt, i * 5 + j, none⟩ u).heap[k]? = W.heap[k]? := fun k hne => Below.heap_setCell _ _ _ k hne
  have n1 : b ≠ gt := fun e => not_row h.blk h.thr (by decide) (e ▸ hg)
  have n2 : bb ≠ gt := fun e => not_row h.bk h.thr (by decide) (e ▸ hg)
  refine ⟨(hk b n1).trans h.blk, (hk bb n2).trans h.bk, h.mem.kept (fun k hs _ => hk k (fun e => hgS (e ▸ hs))), ?_, h.cal.setCell _ _ (fun e => has_ne h.cal h.thr (by decide) gt e hg), h.shf.setCell _ _ (fun e => has_ne h.shf h.thr (by decide) gt e hg), h.ub, h.ubb, h.su, fun k hk => by simpa using h.ul k hk⟩
  obtain ⟨a', c', e, _⟩ := h.thr.form
  have hthr := h.thr
  rw [hv] at e
  injection e with e1 e2 e3
  subst e2
  rw [hv] at hthr ⊢
  have := has_put hthr (i * 5 + j) u
  unfold thc at this ⊢
  rw [flat_set th_len ths i j t t' u ht hj hu] at this
  rw [List.length_set]
  exact this
theorem Mac.atTh (h : Mac W U S b bb bm vk vt vc vs vw vl va ths n cls shs ws mv lg ah) {gt nt ct : Nat} (hv : vt = .slice (some ⟨gt, 0, none⟩) nt ct) (i j : Nat) (t : Th) (u : Value) (ht : ths[i]? = some t) (hj : t.cells[j]? = some u) : W.cell? ⟨gt, i * 5 + j, none⟩ = some u := by
  have hj5 : j < 5 := by have := (List.getElem?_eq_some_iff.1 hj).1; rw [th_len] at this; exact this
  exact h.thr.cells (g := gt) (by rw [hv]; rfl) _ _ ((flat_get th_len ths i j t ht hj5).trans hj)
theorem Mac.atCl (h : Mac W U S b bb bm vk vt vc vs vw vl va ths n cls shs ws mv lg ah) {gc nc cc : Nat} (hv : vc = .slice (some ⟨gc, 0, none⟩) nc cc) (i j : Nat) (t : Cl) (u : Value) (ht : cls[i]? = some t) (hj : t.cells[j]? = some u) : W.cell? ⟨gc, i * 9 + j, none⟩ = some u := by
  have hj5 : j < 9 := by have := (List.getElem?_eq_some_iff.1 hj).1; rw [cl_len] at this; exact this
  exact h.cal.cells (g := gc) (by rw [hv]; rfl) _ _ ((flat_get cl_len cls i j t ht hj5).trans hj)
end
section
variable {W0 : World} {U0 S0 X0 : Nat → Prop} {p : Ph} {i : Nat} {now : Int} {X : Nat → Obj → Prop} {s : Ss} {W : World} {sp : Bool}
theorem D.putCl (h : D W0 U0 S0 X0 p i now X sp s W) {gc cc : Nat} (hv : p.vc = .slice (some ⟨gc, 0, none⟩) s.cls.length cc) (c j : Nat) (cl cl' : Cl) (u : Value) (hc : s.cls[c]? = some cl) (hj : j < 9) (hu : cl'.cells = cl.cells.set j u) :
    D W0 U0 S0 X0 p i now X sp { s with cls := s.cls.set c cl' } (W.setCell ⟨gc, c * 9 + j, none⟩ u) := by
  obtain ⟨U, S, vl, va, hx, hm, hd, hU, hS0, hU0, hU1, hf⟩ := h
  have hg : p.vc.ownBlock = some gc := by rw [hv]; rfl
  have hgU := (hm.cal.lt gc hg).1.1
  exact ⟨U, S, vl, va, fun k o hk => ⟨(Below.heap_setCell _ _ _ k (fun e => (hx k o hk).2.2.2.2.2.2.1 (e ▸ hg))).trans (hx k o hk).1, (hx k o hk).2⟩, hm.putCl hv c j cl cl' u hc hj hu, hd.kept (Below.heap_setCell _ _ _ _ (fun e => hU.1 (e ▸ hgU))) (Below.heap_setCell _ _ _ _ (fun e => hU.2.1 (e ▸ hgU))), hU, hS0, hU0, hU1, hf.setCell _ _ (.inl (.inr (.inr (.inr hg))))⟩
theorem D.putTh (h : D W0 U0 S0 X0 p i now X sp s W) (k j : Nat) (t t' : Th) (u : Value) (ht : s.ths[k]? = some t) (hj : j < 5) (hu : t'.cells = t.cells.set j u) :
    D W0 U0 S0 X0 p i now X sp { s with ths := s.ths.set k t' } (W.setCell ⟨p.gt, k * 5 + j, none⟩ u) := by
  obtain ⟨U, S, vl, va, hx, hm, hd, hU, hS0, hU0, hU1, hf⟩ := h
  have hgU := (hm.thr.lt p.gt rfl).1.1
  exact ⟨U, S, vl, va, fun k o hk => ⟨(Below.heap_setCell _ _ _ k (hx k o hk).2.2.2.2.2.1).trans (hx k o hk).1, (hx k o hk).2⟩, hm.putTh rfl k j t t' u ht hj hu, hd.kept (Below.heap_setCell _ _ _ _ (fun e => hU.1 (e ▸ hgU))) (Below.heap_setCell _ _ _ _ (fun e => hU.2.1 (e ▸ hgU))), hU, hS0, hU0, hU1, hf.setCell _ _ (.inl (.inr (.inr (.inl rfl))))⟩
theorem D.atTh (h : D W0 U0 S0 X0 p i now X sp s W) (k j : Nat) (t : Th) (u : Value) (ht : s.ths[k]? = some t) (hj : t.cells[j]? = some u) : W.cell? ⟨p.gt, k * 5 + j, none⟩ = some u ∧ W.frozen? ⟨p.gt, k * 5 + j, none⟩ = false := by
  obtain ⟨U, S, vl, va, hx, hm, hd, hU, hS0, hU0, hU1, hf⟩ := h
  exact ⟨hm.atTh rfl k j t u ht hj, hm.thr.frozen (g := p.gt) rfl _⟩
theorem D.atCl (h : D W0 U0 S0 X0 p i now X sp s W) {gc nc cc : Nat} (hv : p.vc = .slice (some ⟨gc, 0, none⟩) nc cc) (k j : Nat) (t : Cl) (u : Value) (ht : s.cls[k]? = some t) (hj : t.cells[j]? = some u) : W.cell? ⟨gc, k * 9 + j, none⟩ = some u ∧ W.frozen? ⟨gc, k * 9 + j, none⟩ = false := by
  obtain ⟨U, S, vl, va, hx, hm, hd, hU, hS0, hU0, hU1, hf⟩ := h
  exact ⟨hm.atCl hv k j t u ht hj, hm.cal.frozen (g := gc) (by rw [hv]; rfl) _⟩
theorem D.vc (h : D W0 U0 S0 X0 p i now X sp s W) (hn : 0 < s.cls.length) : ∃ gc cc, p.vc = .slice (some ⟨gc, 0, none⟩) s.cls.length cc := by
  obtain ⟨U, S, vl, va, hx, hm, hd, hU, hS0, hU0, hU1, hf⟩ := h
  obtain ⟨g, c, e, _⟩ := hm.cal.there hn
  exact ⟨g, c, e⟩
/-- Which blocks are not which. -/
theorem D.gcne (h : D W0 U0 S0 X0 p i now X sp s W) {gc nc cc : Nat} (hv : p.vc = .slice (some ⟨gc, 0, none⟩) nc cc) : gc ≠ p.bd ∧ gc ≠ p.be ∧ gc ≠ p.bb ∧ gc ≠ p.gt := by
  obtain ⟨U, S, vl, va, hx, hm, hd, hU, hS0, hU0, hU1, hf⟩ := h
  have hg : p.vc.ownBlock = some gc := by rw [hv]; rfl
  have hgU := (hm.cal.lt gc hg).1.1
  exact ⟨fun e => hU.1 (e ▸ hgU), fun e => hU.2.1 (e ▸ hgU), fun e => not_row hm.bk hm.cal (by decide) (e ▸ hg), fun e => has_ne hm.cal hm.thr (by decide) gc hg (by rw [e]; rfl)⟩
theorem D.gtne (h : D W0 U0 S0 X0 p i now X sp s W) : p.gt ≠ p.bd ∧ p.gt ≠ p.be ∧ p.gt ≠ p.bb := by
  obtain ⟨U, S, vl, va, hx, hm, hd, hU, hS0, hU0, hU1, hf⟩ := h
  have hgU := (hm.thr.lt p.gt rfl).1.1
  exact ⟨fun e => hU.1 (e ▸ hgU), fun e => hU.2.1 (e ▸ hgU), fun e => not_row hm.bk hm.thr (by decide) (by rw [← e]; rfl)⟩
set_option maxRecDepth 100000 in
set_option maxHeartbeats 1000000 in
theorem answer_any (h : D W0 U0 S0 X0 p i now X sp s W) (t : Th) (ht : s.ths[i]? = some t) (ak av : Int) :
    Calls Tryz.prog 81 #[.pointer (some ⟨p.bd, 0, none⟩), .agg #[.int .i64 ak, .int .i64 av]] W fun e w' => e = .returned (.tuple #[]) ∧ D W0 U0 S0 X0 p i now X sp { s with ths := s.ths.set i { t with ak := ak, av := av } } w' := by
  have h' := fun o => h.alloc o
  have fin := fun (w1 : World) (h1 : D W0 U0 S0 X0 p i now X sp s w1) => by
    have q1 := h1.putTh i 3 t { t with ak := ak } (.int .i64 ak) ht (by decide) rfl
    have q2 := q1.putTh i 4 { t with ak := ak } { t with ak := ak, av := av } (.int .i64 av) (by simp [(List.getElem?_eq_some_iff.1 ht).1]) (by decide) rfl
    simp only [List.set_set] at q2
    exact q2
  have C := fun o => open_yes (h' o).dk
  have c1 := fun o => (h' o).cells.d0
  have c2 := fun o => (h' o).cells.e1
  have a3 := fun o => (h' o).atTh i 3 t _ ht rfl
  have a4 := fun o => (h' o).atTh i 4 t _ ht rfl
  obtain ⟨n1, n2, n3⟩ := h.gtne
  have hn := Mr.hid h
  replace h' := Mr.hid h'
  have d0 := fun o => c1 o
  have lb : p.gt < W.heap.size := by
    obtain ⟨U, S, vl, va, hx, hm, _⟩ := h
    exact (hm.thr.lt p.gt rfl).2
  clear h c1
  go_enter Tryz.func81, Tryz.ntmps81
  go_wp2_with (go_at_call 86; refine (C _).mono ?_; clear C; rintro e w' ⟨rfl, hw⟩; obtain rfl := hw.symm)
  have d1 := d0 (.cells #[.int .i64 ak, .int .i64 av] 59)
  have d2 := c2 (.cells #[.int .i64 ak, .int .i64 av] 59)
  obtain ⟨d3, d3z⟩ := a3 (.cells #[.int .i64 ak, .int .i64 av] 59)
  obtain ⟨d4, d4z⟩ := a4 (.cells #[.int .i64 ak, .int .i64 av] 59)
  have x0 : (W.alloc (.cells #[.int .i64 ak, .int .i64 av] 59)).cell? ⟨W.heap.size, 0, none⟩ = some (.int .i64 ak) := newsAt W _ #[.int .i64 ak, .int .i64 av] 59 _ rfl rfl 0 _ rfl
  have x1 : (W.alloc (.cells #[.int .i64 ak, .int .i64 av] 59)).cell? ⟨W.heap.size, 1, none⟩ = some (.int .i64 av) := newsAt W _ #[.int .i64 ak, .int .i64 av] 59 _ rfl rfl 1 _ rfl
  have ne : p.gt ≠ W.heap.size := by omega
  have fin1 := fin _ (h'.out (.cells #[.int .i64 ak, .int .i64 av] 59))
  generalize (W.alloc (.cells #[.int .i64 ak, .int .i64 av] 59)) = W1 at *
  clear d0 c2 a3 a4 fin h'
  replace fin1 := Mr.hid fin1
  go_region_held3 (fun w' => w'.cell? ⟨p.bd, 0, none⟩ = some (.pointer (some ⟨p.be, 0, none⟩)) ∧ w'.cell? ⟨p.be, 1, none⟩ = some (.pointer (some ⟨p.gt, i * 5, none⟩)) ∧ w'.cell? ⟨W.heap.size, 0, none⟩ = some (.int .i64 ak) ∧ w'.cell? ⟨W.heap.size, 1, none⟩ = some (.int .i64 av)) (go_keep) (fail)
  go_wp2
  go_end0
  exact ⟨rfl, fin1.out.drew⟩
theorem D.at (h : D W0 U0 S0 X0 p i now X sp s W) {k : Nat} {o : Obj} (hk : X k o) : W.heap[k]? = some o := by
  obtain ⟨U, S, vl, va, hx, _⟩ := h
  exact (hx k o hk).1
theorem D.put (h : D W0 U0 S0 X0 p i now X sp s W) {k j : Nat} {cs : Array Value} {t : TypeId} (hk : X k (.cells cs t (0, 0))) (u : Value) (h0 : X0 k ∨ W0.heap.size ≤ k) {X' : Nat → Obj → Prop} (hX : ∀ k' o, X' k' o → (k' = k ∧ o = .cells (cs.setIfInBounds j u) t (0, 0)) ∨ (k' ≠ k ∧ X k' o)) :
    D W0 U0 S0 X0 p i now X' sp s (W.setCell ⟨k, j, none⟩ u) := by
  obtain ⟨U, S, vl, va, hx, hm, hd, hU, hS0, hU0, hU1, hf⟩ := h
  obtain ⟨q1, q2, q3, q4, q5, q6, q7, q8⟩ := hx k _ hk
  have ho : ∀ k', k' ≠ k → (W.setCell ⟨k, j, none⟩ u).heap[k']? = W.heap[k']? := fun k' hne => Below.heap_setCell _ _ _ k' hne
  refine ⟨U, S, vl, va, ?_, ?_, hd.kept (ho _ (fun e => hU.1 (e ▸ q2))) (ho _ (fun e => hU.2.1 (e ▸ q2))), hU, hS0, hU0, hU1, hf.setCell _ _ (h0.elim (fun h => .inl (.inr (.inl h))) .inr)⟩
  · intro k' o hk'
    rcases hX k' o hk' with ⟨rfl, rfl⟩ | ⟨hne, hx'⟩
    · exact ⟨setBlk q1 j u, q2, q3, q4, q5, q6, q7, q8⟩
    · obtain ⟨r1, r2⟩ := hx k' o hx'
      exact ⟨(ho k' hne).trans r1, r2⟩
  · refine ⟨(ho _ q4.symm).trans hm.blk, (ho _ q5.symm).trans hm.bk, hm.mem.kept (fun k' hs _ => ho k' (fun e => q3 (e ▸ hs))), hm.thr.setCell _ _ (fun e => ?_), hm.cal.setCell _ _ (fun e => q7 e), hm.shf.setCell _ _ (fun e => q8 e), hm.ub, hm.ubb, hm.su, fun k' hk' => by simpa using hm.ul k' hk'⟩
    simp [Value.ownBlock] at e
    exact q6 e.symm
end
end Go.Proofs.YtnapnhmmopajfaaGreat.Ma
/-
  work: a task's step through its interface, whatever the task's Step does; a task that does not panic.
-/
namespace Go.Proofs.YtnapnhmmopajfaaGreat.Ma
open Go.RowKit Mr Me
theorem work_idle (w : World) : CallsD Tryz.prog 51 #[] .returning w fun e u' w' => e = .returned (.tuple #[]) ∧ u' = .returning ∧ w' = w := by
  refine callsD_of_wpS Tryz.func51 rfl fun c₀ cs hu => ?_
  apply wpS_region
  simp [wpOpsS, go_sem, recoverD, hu, Tryz.ntmps51, bodyPostS, results, Tryz.results51]
  cases c₀
  simp_all
set_option maxRecDepth 100000 in
/-- A step that is not the first. -/
theorem work_step {ty : TypeId} {v vd : Value} {fs : Nat} {W : World} {r : Bool} {Q : World → Prop} (hm : ∀ n w, (method (n + 1) ty v "Step").run Tryz.prog w = .ok (fs, v) w) (es : ∀ args w, (callFunc fs args).run Tryz.prog w = .ok (.enter fs args) w) (C : Calls Tryz.prog fs #[v, vd] W fun e w' => e = .returned (.bool r) ∧ Q w') :
    Calls Tryz.prog 36 #[.iface ty v, .bool false, vd] W fun e w' => e = .returned (.bool r) ∧ Q w' := by
  go_enter_defers Tryz.func36, Tryz.ntmps36
  go_wp2
  refine C.mono ?_
  clear C
  rintro e w1 ⟨rfl, h1⟩
  go_wp2
  refine leaves_cons (f := 51) (args := #[]) (by simp) (by simp [go_sem]) ?_
  refine (work_idle _).mono ?_
  rintro e u' w2 ⟨rfl, rfl, hw⟩
  obtain rfl := hw.symm
  simp [Leaves, settle, results, Tryz.results36, go_sem, h1]
set_option maxRecDepth 100000 in
/-- A first step whose Ready ends the task. -/
theorem work_yes {ty : TypeId} {v vd : Value} {fr : Nat} {W : World} {Q : World → Prop} (hm : ∀ n w, (method (n + 1) ty v "Ready").run Tryz.prog w = .ok (fr, v) w) (es : ∀ args w, (callFunc fr args).run Tryz.prog w = .ok (.enter fr args) w) (C : Calls Tryz.prog fr #[v, vd] W fun e w' => e = .returned (.bool true) ∧ Q w') :
    Calls Tryz.prog 36 #[.iface ty v, .bool true, vd] W fun e w' => e = .returned (.bool true) ∧ Q w' := by
  go_enter_defers Tryz.func36, Tryz.ntmps36
  go_wp2
  refine C.mono ?_
  clear C
  rintro e w1 ⟨rfl, h1⟩
  go_wp2
  refine leaves_cons (f := 51) (args := #[]) (by simp) (by simp [go_sem]) ?_
  refine (work_idle _).mono ?_
  rintro e u' w2 ⟨rfl, rfl, hw⟩
  obtain rfl := hw.symm
  simp [Leaves, settle, results, Tryz.results36, go_sem, h1]
set_option maxRecDepth 100000 in
/-- A first step whose Ready does not. -/
theorem work_no {ty : TypeId} {v vd : Value} {fr fs : Nat} {W : World} {r : Bool} {Q1 Q : World → Prop} (hm0 : ∀ n w, (method (n + 1) ty v "Ready").run Tryz.prog w = .ok (fr, v) w) (er : ∀ args w, (callFunc fr args).run Tryz.prog w = .ok (.enter fr args) w) (hm : ∀ n w, (method (n + 1) ty v "Step").run Tryz.prog w = .ok (fs, v) w) (es : ∀ args w, (callFunc fs args).run Tryz.prog w = .ok (.enter fs args) w)
    (C1 : Calls Tryz.prog fr #[v, vd] W fun e w' => e = .returned (.bool false) ∧ Q1 w') (C2 : ∀ w1, Q1 w1 → Calls Tryz.prog fs #[v, vd] w1 fun e w' => e = .returned (.bool r) ∧ Q w') :
    Calls Tryz.prog 36 #[.iface ty v, .bool true, vd] W fun e w' => e = .returned (.bool r) ∧ Q w' := by
  go_enter_defers Tryz.func36, Tryz.ntmps36
  go_wp2
  refine C1.mono ?_
  clear C1
  rintro e w1 ⟨rfl, h1⟩
  have C := C2 w1 h1
  clear C2 h1
  go_wp2
  refine C.mono ?_
  clear C
  rintro e w2 ⟨rfl, h2⟩
  go_wp2
  refine leaves_cons (f := 51) (args := #[]) (by simp) (by simp [go_sem]) ?_
  refine (work_idle _).mono ?_
  rintro e u' w3 ⟨rfl, rfl, hw⟩
  obtain rfl := hw.symm
  simp [Leaves, settle, results, Tryz.results36, go_sem, h2]
end Go.Proofs.YtnapnhmmopajfaaGreat.Ma
