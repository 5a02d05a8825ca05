/-
  THE DESK: Point, Answer, by their contracts; tellWord.
-/
import Derived.Test.YtiobchadjcekcaaMacDesk
namespace Go.Proofs.Ytiobchadjcekcaa.Ma
open Go.RowKit Mr Me
section
variable {W : World} {U S : Nat → Prop} {b bb bm : Nat} {vk vt vc vs vw vl va : Value} {ths : List Th} {n : Int} {cls : List Cl} {shs : List Sh} {ws : List Int} {mv : Int} {lg : List Acc} {ah : List Int}
theorem Mac.putCl (h : Mac W U S b bb bm vk vt vc vs vw vl va ths n cls shs ws mv lg ah) {gc cc : Nat} (hv : vc = .slice (some ⟨gc, 0, none⟩) cls.length cc) (c j : Nat) (cl cl' : Cl) (u : Value) (hc : cls[c]? = some cl) (hj : j < 9) (hu : cl'.cells = cl.cells.set j u) :
    Mac (W.setCell ⟨gc, c * 9 + j, none⟩ u) U S b bb bm vk vt vc vs vw vl va ths n (cls.set c cl') shs ws mv lg ah := by
  have hg : vc.ownBlock = some gc := by rw [hv]; rfl
  obtain ⟨⟨hgU, hgS⟩, hgl⟩ := h.cal.lt gc hg
  have hk : ∀ k, k ≠ gc → (W.setCell ⟨gc, c * 9 + j, none⟩ u).heap[k]? = W.heap[k]? := fun k hne => Below.heap_setCell _ _ _ k hne
  have n1 : b ≠ gc := fun e => not_row h.blk h.cal (by decide) (e ▸ hg)
  have n2 : bb ≠ gc := fun e => not_row h.bk h.cal (by decide) (e ▸ hg)
  refine ⟨(hk b n1).trans h.blk, (hk bb n2).trans h.bk, h.mem.kept (fun k hs _ => hk k (fun e => hgS (e ▸ hs))), h.thr.setCell _ _ (fun e => has_ne h.thr h.cal (by decide) gc e hg), ?_, h.shf.setCell _ _ (fun e => has_ne h.shf h.cal (by decide) gc e hg), h.ub, h.ubb, h.su, fun k hk => by simpa using h.ul k hk⟩
  have hcal := h.cal
  rw [hv] at hcal ⊢
  have := has_put hcal (c * 9 + j) u
  unfold clc at this ⊢
  rw [flat_set cl_len cls c j cl cl' u hc hj hu] at this
  rw [List.length_set]
  exact this
theorem Mac.putTh (h : Mac W U S b bb bm vk vt vc vs vw vl va ths n cls shs ws mv lg ah) {gt nt ct : Nat} (hv : vt = .slice (some ⟨gt, 0, none⟩) nt ct) (i j : Nat) (t t' : Th) (u : Value) (ht : ths[i]? = some t) (hj : j < 5) (hu : t'.cells = t.cells.set j u) :
    Mac (W.setCell ⟨gt, i * 5 + j, none⟩ u) U S b bb bm vk vt vc vs vw vl va (ths.set i t') n cls shs ws mv lg ah := by
  have hg : vt.ownBlock = some gt := by rw [hv]; rfl
  obtain ⟨⟨hgU, hgS⟩, hgl⟩ := h.thr.lt gt hg
  have hk : ∀ k, k ≠ gt → (W.setCell ⟨gt, i * 5 + j, none⟩ u).heap[k]? = W.heap[k]? := fun k hne => Below.heap_setCell _ _ _ k hne
  have n1 : b ≠ gt := fun e => not_row h.blk h.thr (by decide) (e ▸ hg)
  have n2 : bb ≠ gt := fun e => not_row h.bk h.thr (by decide) (e ▸ hg)
  refine ⟨(hk b n1).trans h.blk, (hk bb n2).trans h.bk, h.mem.kept (fun k hs _ => hk k (fun e => hgS (e ▸ hs))), ?_, h.cal.setCell _ _ (fun e => has_ne h.cal h.thr (by decide) gt e hg), h.shf.setCell _ _ (fun e => has_ne h.shf h.thr (by decide) gt e hg), h.ub, h.ubb, h.su, fun k hk => by simpa using h.ul k hk⟩
  obtain ⟨a', c', e, _⟩ := h.thr.form
  have hthr := h.thr
  rw [hv] at e
  injection e with e1 e2 e3
  subst e2
  rw [hv] at hthr ⊢
  have := has_put hthr (i * 5 + j) u
  unfold thc at this ⊢
  rw [flat_set th_len ths i j t t' u ht hj hu] at this
  rw [List.length_set]
  exact this
theorem Mac.atTh (h : Mac W U S b bb bm vk vt vc vs vw vl va ths n cls shs ws mv lg ah) {gt nt ct : Nat} (hv : vt = .slice (some ⟨gt, 0, none⟩) nt ct) (i j : Nat) (t : Th) (u : Value) (ht : ths[i]? = some t) (hj : t.cells[j]? = some u) : W.cell? ⟨gt, i * 5 + j, none⟩ = some u := by
  have hj5 : j < 5 := by have := (List.getElem?_eq_some_iff.1 hj).1; rw [th_len] at this; exact this
  exact h.thr.cells (g := gt) (by rw [hv]; rfl) _ _ ((flat_get th_len ths i j t ht hj5).trans hj)
theorem Mac.atCl (h : Mac W U S b bb bm vk vt vc vs vw vl va ths n cls shs ws mv lg ah) {gc nc cc : Nat} (hv : vc = .slice (some ⟨gc, 0, none⟩) nc cc) (i j : Nat) (t : Cl) (u : Value) (ht : cls[i]? = some t) (hj : t.cells[j]? = some u) : W.cell? ⟨gc, i * 9 + j, none⟩ = some u := by
  have hj5 : j < 9 := by have := (List.getElem?_eq_some_iff.1 hj).1; rw [cl_len] at this; exact this
  exact h.cal.cells (g := gc) (by rw [hv]; rfl) _ _ ((flat_get cl_len cls i j t ht hj5).trans hj)
end
section
variable {W0 : World} {U0 S0 X0 : Nat → Prop} {p : Ph} {i : Nat} {now : Int} {X : Nat → Obj → Prop} {s : Ss} {W : World} {sp : Bool}
theorem D.putCl (h : D W0 U0 S0 X0 p i now X sp s W) {gc cc : Nat} (hv : p.vc = .slice (some ⟨gc, 0, none⟩) s.cls.length cc) (c j : Nat) (cl cl' : Cl) (u : Value) (hc : s.cls[c]? = some cl) (hj : j < 9) (hu : cl'.cells = cl.cells.set j u) :
    D W0 U0 S0 X0 p i now X sp { s with cls := s.cls.set c cl' } (W.setCell ⟨gc, c * 9 + j, none⟩ u) := by
  obtain ⟨U, S, vl, va, hx, hm, hd, hU, hS0, hU0, hU1, hf⟩ := h
  have hg : p.vc.ownBlock = some gc := by rw [hv]; rfl
  have hgU := (hm.cal.lt gc hg).1.1
  exact ⟨U, S, vl, va, fun k o hk => ⟨(Below.heap_setCell _ _ _ k (fun e => (hx k o hk).2.2.2.2.2.2.1 (e ▸ hg))).trans (hx k o hk).1, (hx k o hk).2⟩, hm.putCl hv c j cl cl' u hc hj hu, hd.kept (Below.heap_setCell _ _ _ _ (fun e => hU.1 (e ▸ hgU))) (Below.heap_setCell _ _ _ _ (fun e => hU.2.1 (e ▸ hgU))), hU, hS0, hU0, hU1, hf.setCell _ _ (.inl (.inr (.inr (.inr hg))))⟩
theorem D.putTh (h : D W0 U0 S0 X0 p i now X sp s W) (k j : Nat) (t t' : Th) (u : Value) (ht : s.ths[k]? = some t) (hj : j < 5) (hu : t'.cells = t.cells.set j u) :
    D W0 U0 S0 X0 p i now X sp { s with ths := s.ths.set k t' } (W.setCell ⟨p.gt, k * 5 + j, none⟩ u) := by
  obtain ⟨U, S, vl, va, hx, hm, hd, hU, hS0, hU0, hU1, hf⟩ := h
  have hgU := (hm.thr.lt p.gt rfl).1.1
  exact ⟨U, S, vl, va, fun k o hk => ⟨(Below.heap_setCell _ _ _ k (hx k o hk).2.2.2.2.2.1).trans (hx k o hk).1, (hx k o hk).2⟩, hm.putTh rfl k j t t' u ht hj hu, hd.kept (Below.heap_setCell _ _ _ _ (fun e => hU.1 (e ▸ hgU))) (Below.heap_setCell _ _ _ _ (fun e => hU.2.1 (e ▸ hgU))), hU, hS0, hU0, hU1, hf.setCell _ _ (.inl (.inr (.inr (.inl rfl))))⟩
theorem D.atTh (h : D W0 U0 S0 X0 p i now X sp s W) (k j : Nat) (t : Th) (u : Value) (ht : s.ths[k]? = some t) (hj : t.cells[j]? = some u) : W.cell? ⟨p.gt, k * 5 + j, none⟩ = some u ∧ W.frozen? ⟨p.gt, k * 5 + j, none⟩ = false := by
  obtain ⟨U, S, vl, va, hx, hm, hd, hU, hS0, hU0, hU1, hf⟩ := h
  exact ⟨hm.atTh rfl k j t u ht hj, hm.thr.frozen (g := p.gt) rfl _⟩
theorem D.atCl (h : D W0 U0 S0 X0 p i now X sp s W) {gc nc cc : Nat} (hv : p.vc = .slice (some ⟨gc, 0, none⟩) nc cc) (k j : Nat) (t : Cl) (u : Value) (ht : s.cls[k]? = some t) (hj : t.cells[j]? = some u) : W.cell? ⟨gc, k * 9 + j, none⟩ = some u ∧ W.frozen? ⟨gc, k * 9 + j, none⟩ = false := by
  obtain ⟨U, S, vl, va, hx, hm, hd, hU, hS0, hU0, hU1, hf⟩ := h
  exact ⟨hm.atCl hv k j t u ht hj, hm.cal.frozen (g := gc) (by rw [hv]; rfl) _⟩
theorem D.vc (h : D W0 U0 S0 X0 p i now X sp s W) (hn : 0 < s.cls.length) : ∃ gc cc, p.vc = .slice (some ⟨gc, 0, none⟩) s.cls.length cc := by
  obtain ⟨U, S, vl, va, hx, hm, hd, hU, hS0, hU0, hU1, hf⟩ := h
  obtain ⟨g, c, e, _⟩ := hm.cal.there hn
  exact ⟨g, c, e⟩
/-- Which blocks are not which. -/
theorem D.gcne (h : D W0 U0 S0 X0 p i now X sp s W) {gc nc cc : Nat} (hv : p.vc = .slice (some ⟨gc, 0, none⟩) nc cc) : gc ≠ p.bd ∧ gc ≠ p.be ∧ gc ≠ p.bb ∧ gc ≠ p.gt := by
  obtain ⟨U, S, vl, va, hx, hm, hd, hU, hS0, hU0, hU1, hf⟩ := h
  have hg : p.vc.ownBlock = some gc := by rw [hv]; rfl
  have hgU := (hm.cal.lt gc hg).1.1
  exact ⟨fun e => hU.1 (e ▸ hgU), fun e => hU.2.1 (e ▸ hgU), fun e => not_row hm.bk hm.cal (by decide) (e ▸ hg), fun e => has_ne hm.cal hm.thr (by decide) gc hg (by rw [e]; rfl)⟩
theorem D.gtne (h : D W0 U0 S0 X0 p i now X sp s W) : p.gt ≠ p.bd ∧ p.gt ≠ p.be ∧ p.gt ≠ p.bb := by
  obtain ⟨U, S, vl, va, hx, hm, hd, hU, hS0, hU0, hU1, hf⟩ := h
  have hgU := (hm.thr.lt p.gt rfl).1.1
  exact ⟨fun e => hU.1 (e ▸ hgU), fun e => hU.2.1 (e ▸ hgU), fun e => not_row hm.bk hm.thr (by decide) (by rw [← e]; rfl)⟩
set_option maxRecDepth 100000 in
set_option maxHeartbeats 1000000 in
theorem point_any (h : D W0 U0 S0 X0 p i now X sp s W) (t : Th) (ht : s.ths[i]? = some t) (c : Nat) (hcall : t.call = c) (cl : Cl) (hc : s.cls[c]? = some cl) (m : Int) :
    Calls Try.prog 66 #[.pointer (some ⟨p.bd, 0, none⟩), .int .i64 m] W fun e w' => e = .returned (.tuple #[]) ∧ D W0 U0 S0 X0 p i now X sp { s with cls := s.cls.set c { cl with pt := m } } w' := by
  have hcl : c < s.cls.length := (List.getElem?_eq_some_iff.1 hc).1
  obtain ⟨gc, cc, hv⟩ := h.vc (by omega)
  have C := open_yes h.dk
  obtain ⟨d0, e0, e1, e2, e3, e4, e4z, b0, b1⟩ := h.cells
  obtain ⟨a0, a0z⟩ := h.atTh i 2 t _ ht rfl
  obtain ⟨k0, k0z⟩ := h.atCl hv c 6 cl _ hc rfl
  obtain ⟨n1, n2, n3, n4⟩ := h.gcne hv
  have fin := fun (w1 : World) (h1 : D W0 U0 S0 X0 p i now X sp s w1) => h1.putCl hv c 6 cl { cl with pt := m } (.int .i64 m) hc (by decide) rfl
  rw [hcall] at a0
  rw [hv] at b1
  generalize hN : s.cls.length = N at *
  replace hN := Mr.hid hN
  replace h := Mr.hid h
  go_enter Try.func66, Try.ntmps66
  go_wp2_with (go_at_call 71; refine C.mono ?_; clear C; rintro e w' ⟨rfl, hw⟩; obtain rfl := hw.symm)
  go_region_held3 (fun w' => w'.cell? ⟨p.bd, 0, none⟩ = some (.pointer (some ⟨p.be, 0, none⟩)) ∧ w'.cell? ⟨p.be, 0, none⟩ = some (.pointer (some ⟨p.bb, 0, none⟩)) ∧ w'.cell? ⟨p.be, 1, none⟩ = some (.pointer (some ⟨p.gt, i * 5, none⟩)) ∧ w'.cell? ⟨p.bb, 1, none⟩ = some (.slice (some ⟨gc, 0, none⟩) N cc) ∧ w'.cell? ⟨p.gt, i * 5 + 2, none⟩ = some (.int .i64 (c : Int))) (go_keep) (fail)
  go_wp2
  go_end0
  exact ⟨rfl, (fin W h.out).drew⟩
set_option maxRecDepth 100000 in
set_option maxHeartbeats 1000000 in
theorem answer_any (h : D W0 U0 S0 X0 p i now X sp s W) (t : Th) (ht : s.ths[i]? = some t) (ak av : Int) :
    Calls Try.prog 68 #[.pointer (some ⟨p.bd, 0, none⟩), .agg #[.int .i64 ak, .int .i64 av]] W fun e w' => e = .returned (.tuple #[]) ∧ D W0 U0 S0 X0 p i now X sp { s with ths := s.ths.set i { t with ak := ak, av := av } } w' := by
  have h' := fun o => h.alloc o
  have fin := fun (w1 : World) (h1 : D W0 U0 S0 X0 p i now X sp s w1) => by
    have q1 := h1.putTh i 3 t { t with ak := ak } (.int .i64 ak) ht (by decide) rfl
    have q2 := q1.putTh i 4 { t with ak := ak } { t with ak := ak, av := av } (.int .i64 av) (by simp [(List.getElem?_eq_some_iff.1 ht).1]) (by decide) rfl
    simp only [List.set_set] at q2
    exact q2
  have C := fun o => open_yes (h' o).dk
  have c1 := fun o => (h' o).cells.d0
  have c2 := fun o => (h' o).cells.e1
  have a3 := fun o => (h' o).atTh i 3 t _ ht rfl
  have a4 := fun o => (h' o).atTh i 4 t _ ht rfl
  obtain ⟨n1, n2, n3⟩ := h.gtne
  have hn := Mr.hid h
  replace h' := Mr.hid h'
  have d0 := fun o => c1 o
  have lb : p.gt < W.heap.size := by
    obtain ⟨U, S, vl, va, hx, hm, _⟩ := h
    exact (hm.thr.lt p.gt rfl).2
  clear h c1
  go_enter Try.func68, Try.ntmps68
  go_wp2_with (go_at_call 71; refine (C _).mono ?_; clear C; rintro e w' ⟨rfl, hw⟩; obtain rfl := hw.symm)
  have d1 := d0 (.cells #[.int .i64 ak, .int .i64 av] 50)
  have d2 := c2 (.cells #[.int .i64 ak, .int .i64 av] 50)
  obtain ⟨d3, d3z⟩ := a3 (.cells #[.int .i64 ak, .int .i64 av] 50)
  obtain ⟨d4, d4z⟩ := a4 (.cells #[.int .i64 ak, .int .i64 av] 50)
  have x0 : (W.alloc (.cells #[.int .i64 ak, .int .i64 av] 50)).cell? ⟨W.heap.size, 0, none⟩ = some (.int .i64 ak) := newsAt W _ #[.int .i64 ak, .int .i64 av] 50 _ rfl rfl 0 _ rfl
  have x1 : (W.alloc (.cells #[.int .i64 ak, .int .i64 av] 50)).cell? ⟨W.heap.size, 1, none⟩ = some (.int .i64 av) := newsAt W _ #[.int .i64 ak, .int .i64 av] 50 _ rfl rfl 1 _ rfl
  have ne : p.gt ≠ W.heap.size := by omega
  have fin1 := fin _ (h'.out (.cells #[.int .i64 ak, .int .i64 av] 50))
  generalize (W.alloc (.cells #[.int .i64 ak, .int .i64 av] 50)) = W1 at *
  clear d0 c2 a3 a4 fin h'
  replace fin1 := Mr.hid fin1
  go_region_held3 (fun w' => w'.cell? ⟨p.bd, 0, none⟩ = some (.pointer (some ⟨p.be, 0, none⟩)) ∧ w'.cell? ⟨p.be, 1, none⟩ = some (.pointer (some ⟨p.gt, i * 5, none⟩)) ∧ w'.cell? ⟨W.heap.size, 0, none⟩ = some (.int .i64 ak) ∧ w'.cell? ⟨W.heap.size, 1, none⟩ = some (.int .i64 av)) (go_keep) (fail)
  go_wp2
  go_end0
  exact ⟨rfl, fin1.out.drew⟩
/-- The call has its point, the thread's task has told. -/
def Ss.told (s : Ss) (i c : Nat) (cl : Cl) (t : Th) (now ak av : Int) : Ss := { s with cls := s.cls.set c { cl with pt := now }, ths := s.ths.set i { t with ak := ak, av := av } }
set_option maxHeartbeats 1000000 in
theorem tellWord_any (h : D W0 U0 S0 X0 p i now X sp s W) (t : Th) (ht : s.ths[i]? = some t) (c : Nat) (hcall : t.call = c) (cl : Cl) (hc : s.cls[c]? = some cl) (x : Int) :
    Calls Try.prog 64 #[.pointer (some ⟨p.bd, 0, none⟩), .int .u64 x] W fun e w' => e = .returned (.tuple #[]) ∧ D W0 U0 S0 X0 p i now X sp (s.told i c cl t now 2 (wrap64 x)) w' := by
  have N := now_desk h.dk
  have P := point_any h t ht c hcall cl hc now
  have A := fun (w1 : World) (h1 : D W0 U0 S0 X0 p i now X sp { s with cls := s.cls.set c { cl with pt := now } } w1) => answer_any h1 t ht 2 (wrap64 x)
  have e : ({ ({ s with cls := s.cls.set c { cl with pt := now } } : Ss) with ths := s.ths.set i { t with ak := 2, av := wrap64 x } } : Ss) = s.told i c cl t now 2 (wrap64 x) := rfl
  simp only [e] at A
  clear e
  generalize s.told i c cl t now 2 (wrap64 x) = s' at *
  generalize ({ s with cls := s.cls.set c { cl with pt := now } } : Ss) = s1 at *
  clear h hcall hc ht
  go_enter Try.func64, Try.ntmps64
  go_wp2_with (first | (go_at_call 67; refine N.mono ?_; clear N; rintro e w' ⟨rfl, hw⟩; obtain rfl := hw.symm) | (go_at_call 66; refine P.mono ?_; clear P; rintro e w1 ⟨rfl, h1⟩; have A1 := A w1 h1; clear A) | (go_at_call 68; refine A1.mono ?_; clear A1; rintro e w2 ⟨rfl, h2⟩))
  go_end0
  exact ⟨rfl, h2⟩
end
end Go.Proofs.Ytiobchadjcekcaa.Ma
