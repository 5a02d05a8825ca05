import Derived.Test.YtihkcbbbgmjogaaJ32
import Derived.Laws.MakeOwn
/-
  DequeOnce: the machine in hand beside the law's one box; what does not fit.
-/
namespace Go.Proofs.Ytihkcbbbgmjogaa.Dm
open Go.RowKit Go.Shelf Mr Me Ma Gm Dq
set_option linter.unusedVariables false
set_option linter.unusedSimpArgs false
set_option maxRecDepth 100000
structure B1 (w : World) (nt r : Nat) (W : World) : Prop where
  c : W.heap[w.heap.size]? = some (dBox nt r)
  b : Below w.heap.size w W
section
variable {w W W' : World} {nt r : Nat}
theorem B1.lt (h : B1 w nt r W) : w.heap.size + 1 ≤ W.heap.size := (Array.getElem?_eq_some_iff.1 h.c).1
theorem B1.below (h : B1 w nt r W) (hB : Below (w.heap.size + 1) W W') : B1 w nt r W' := ⟨(hB.block _ (by omega)).trans h.c, h.b.trans (hB.mono (by omega))⟩
theorem B1.cells (h : B1 w nt r W) : W.cell? ⟨w.heap.size, 0, none⟩ = some (.int .i64 (nt : Int)) ∧ W.cell? ⟨w.heap.size, 1, none⟩ = some (.int .i64 (r : Int)) := ⟨cell_at h.c 0, cell_at h.c 1⟩
theorem b10 (w : World) (nt r : Nat) : B1 w nt r (w.alloc (dBox nt r)) := ⟨heap_alloc_new w _, (Below.refl _ _).alloc (Nat.le_refl _) _⟩
end
def H1 (w : World) (nt r bc cs c1 c2 km : Nat) (K : Nat → Prop) (q : Ph) (P : Pg Dt Lw) (W : World) : Prop := ∃ U, RG (dqL r bc cs c1 c2) W U K q km P ∧ (∀ k, U k → w.heap.size + 1 ≤ k) ∧ B1 w nt r W
section
variable {w W W' : World} {nt r bc cs c1 c2 km : Nat} {K : Nat → Prop} {q : Ph} {P : Pg Dt Lw}
theorem H1.below (h : H1 w nt r bc cs c1 c2 km K q P W) (hB : Below W.heap.size W W') : H1 w nt r bc cs c1 c2 km K q P W' := by
  obtain ⟨U, h1, h2, h3⟩ := h
  exact ⟨U, h1.below hB, h2, h3.below (hB.mono h3.lt)⟩
theorem H1.bq (h : H1 w nt r bc cs c1 c2 km K q P W) : B1 w nt r W := by obtain ⟨U, h1, h2, h3⟩ := h; exact h3
theorem H1.move (h : H1 w nt r bc cs c1 c2 km K q P W) (hI : Iv r P) (hb : Bd P) (th op arg data : Int) :
    Calls Try.prog 10 #[.pointer (some ⟨q.b, 0, none⟩), .agg #[.int .i64 th, .int .i64 op, .int .i64 arg, .int .i64 data]] W fun e w' => e = .returned (.bool (P.move (dqY r) th op arg data).2) ∧ H1 w nt r bc cs c1 c2 km K q (P.move (dqY r) th op arg data).1 w' := by
  obtain ⟨U, h1, h2, h3⟩ := h
  refine (move_g (step_d r bc cs c1 c2) (beg_d r bc cs c1 c2) h1 hI hb th op arg data).mono ?_
  rintro e w' ⟨rfl, hO⟩
  obtain ⟨U'', f1, f2, f3⟩ := OutG.next (w := w) (nt := nt) h2 h3.lt hO
  exact ⟨rfl, U'', f1, f2, h3.below f3⟩
theorem H1.run (h : H1 w nt r bc cs c1 c2 km K q P W) (hb : Bd P) : Calls Try.prog 12 #[.pointer (some ⟨q.b, 0, none⟩)] W fun e w' => ∃ v1 v2 v3 v4, e = .returned (runV v1 v2 v3 v4) ∧ Has w' (fun k => W.heap.size ≤ k) 53 9 v1 P.cls.length (clc P.cls) ∧ Has w' (fun k => W.heap.size ≤ k) 59 7 v2 P.lg.length (lgc P.lg) ∧ Has w' (fun k => W.heap.size ≤ k) 118 5 v3 0 [] ∧ Has w' (fun k => W.heap.size ≤ k) 56 1 v4 P.ws.length (wrd P.ws) ∧ Below W.heap.size W w' := by
  obtain ⟨U, h1, h2, h3⟩ := h
  exact run_g h1 hb
end
/-- deque.New in the law. -/
theorem new1 {w : World} {nt r : Nat} {W : World} (h : B1 w nt r W) (h1 : 1 ≤ nt) (h2 : nt ≤ 16) (h3 : 1 ≤ r) (h4 : r ≤ 256) : Calls Try.prog 8 #[.agg #[.int .i64 (nt : Int), .int .i64 (r : Int)]] W fun e w' => ∃ bc cs c1 c2 km K q, e = .returned (.tuple #[.pointer (some ⟨q.b, 0, none⟩), .int .i64 0]) ∧ H1 w nt r bc cs c1 c2 km K q (P0 nt r) w' := by
  refine (newD_ok W nt r h1 h2 h3 h4).mono ?_
  rintro e w' ⟨q, U, K, km, bc, cs, c1, c2, rfl, hR, hU, hK, hB⟩
  have hl := h.lt
  exact ⟨bc, cs, c1, c2, km, K, q, rfl, ⟨U, hR, fun k hk => Nat.le_trans hl (hU k hk), h.below (hB.mono hl)⟩⟩
set_option maxHeartbeats 4000000 in
/-- No deque, or too many moves. -/
theorem once_not (w : World) (th rm : Int) (am : Option Addr) (nm cm : Nat) (h : (dqB th rm && decide ((nm : Int) ≤ 65536)) = false) :
    Calls Try.prog 4 #[.agg #[.int .i64 th, .int .i64 rm], .slice am nm cm] w fun e w' => e = .returned (.bool true) ∧ Below w.heap.size w w' := by
  have FT := fun w => fits_any th rm am nm cm w
  rw [h] at FT
  replace FT := Mr.hid FT
  have AW := Mr.hid (fun w => awake_any w)
  have B0 := Mr.hid ((Below.refl w.heap.size w).alloc (Nat.le_refl _) (.cells #[.int .i64 th, .int .i64 rm] 23 (0, 0)))
  clear h
  go_enter Try.func4, Try.ntmps4
  go_wp2_with (first | (go_at_call 6; refine (FT.out _).mono ?_; clear FT; rintro e w1 ⟨rfl, hB⟩; have hB1 := Mr.hid (B0.out.trans (hB.mono B0.out.size)); clear hB B0) | (go_at_call 7; refine (AW.out _).mono ?_; clear AW; rintro e w2 ⟨rfl, hB⟩; have hB2 := Mr.hid (hB1.out.trans (hB.mono hB1.out.size)); clear hB hB1))
  go_ret
  exact ⟨rfl, hB2.out⟩
/-- append of numbers, some or none, onto an empty row of its own. -/
theorem app_is {w : World} {ops : Array Oper} {rest : List Oper} {o : Oper} {a : Act} {Q : Exit → Act → World → Prop} (hgd : o.guard = none) (s x : Operand)
    (ho : o.op = .call { callee := .builtin .append, args := #[s, x], argTypes := #[46, 46] }) (B b : Nat) (hs : a.eval s = .slice (some ⟨b, 0, none⟩) 0 0) (hE : Has w (fun k => B ≤ k) 3 1 (.slice (some ⟨b, 0, none⟩) 0 0) 0 [])
    (a1 : Option Addr) (n1 k1 : Nat) (c : List Int) (hx : a.eval x = .slice a1 n1 k1) (hC : IsAt w a1 n1 c) (hz : n1 * 8 ≤ 140737488351232) (hB : B ≤ w.heap.size)
    (h : ∀ ga ca w', Has w' (fun k => B ≤ k) 3 1 (.slice (some ⟨ga, 0, none⟩) n1 ca) n1 (intsV c) → Below B w w' → wpList Try.prog ops Q rest (a.put o.dst (.slice (some ⟨ga, 0, none⟩) n1 ca)) w') : wpList Try.prog ops Q (o :: rest) a w := by
  obtain ⟨nn, hnn, hn0, hn1, hn2⟩ := Dq.info_i
  have hbl := hE.lt b rfl
  by_cases h0 : n1 = 0
  · subst h0
    have hc : c = [] := List.eq_nil_of_length_eq_zero (by have := hC.1; omega)
    refine wpList_plain hgd fun _ hK => wp_append_zero s x 46 ho 3 nn Try.underlying46 hnn _ 0 0 (Nat.le_refl _) hs _ _ hx (hK _ _ ?_)
    exact h b 0 w (by rw [hc]; exact hE) (Below.refl _ _)
  · have hne : c ≠ [] := fun e => h0 (by have := hC.1; rw [e] at this; simpa using this)
    obtain ⟨g, q, rfl, hg, hcc⟩ := hC.2.resolve_left hne
    have hl := hC.1
    refine wpList_append_has _ hgd s x 46 ho (fun k => B ≤ k) 3 nn _ 1 8 Try.underlying46 hnn hn0 hn1 hn2 rfl _ 0 [] hs hE ⟨g, q, none⟩ n1 k1 (intsV c) hx (by simp [intsV, hl]) ?_ (intsV_one c) (by omega) (by unfold maxLen; omega) (by omega) hB ?_
    · intro j u hu
      rw [add1]
      simp only [intsV, List.getElem?_map] at hu
      cases hx : c[j]? with
      | none => rw [hx] at hu; cases hu
      | some y => rw [hx] at hu; cases hu; exact hcc j y hx
    · intro g2 cap2 w3 hh3 hgr hgg
      simp only [Nat.zero_add, List.nil_append] at hh3 ⊢
      exact h g2 cap2 w3 hh3 ((Below.refl _ _).grown hgr hB (fun k hk => (hE.lt k hk).1))
end Go.Proofs.Ytihkcbbbgmjogaa.Dm
/-
  DequeOnce: what lies in the world while the law counts.
-/
namespace Go.Proofs.Ytihkcbbbgmjogaa.Dm
open Go.RowKit Go.Shelf Mr Me Ma Gm Dq
set_option linter.unusedVariables false
set_option linter.unusedSimpArgs false
set_option maxRecDepth 100000
def runB (v1 v2 v3 v4 : Value) : Obj := .cells #[v1, v2, v3, v4] 43 (0, 0)
structure Ge (w W : World) (nt r B : Nat) (p1 p2 p3 p4 : Option Addr) (n1 q1 n2 q2 n3 q3 n4 q4 : Nat) (cls : List Cl) (ws : List Int) : Prop where
  bel : Below w.heap.size w W
  d : W.heap[w.heap.size]? = some (dBox nt r)
  rn : W.heap[B]? = some (runB (.slice p1 n1 q1) (.slice p2 n2 q2) (.slice p3 n3 q3) (.slice p4 n4 q4))
  h1 : Has W (fun k => w.heap.size ≤ k) 53 9 (.slice p1 n1 q1) cls.length (clc cls)
  h4 : Has W (fun k => w.heap.size ≤ k) 56 1 (.slice p4 n4 q4) ws.length (wrd ws)
  e1 : n1 = cls.length
  e4 : n4 = ws.length
section
variable {w W W' : World} {nt r B : Nat} {p1 p2 p3 p4 : Option Addr} {n1 q1 n2 q2 n3 q3 n4 q4 : Nat} {cls : List Cl} {ws : List Int}
theorem Ge.below (h : Ge w W nt r B p1 p2 p3 p4 n1 q1 n2 q2 n3 q3 n4 q4 cls ws) (hB : Below W.heap.size W W') : Ge w W' nt r B p1 p2 p3 p4 n1 q1 n2 q2 n3 q3 n4 q4 cls ws :=
  ⟨h.bel.trans (hB.mono h.bel.size), (hB.block _ (Array.getElem?_eq_some_iff.1 h.d).1).trans h.d, (hB.block _ (Array.getElem?_eq_some_iff.1 h.rn).1).trans h.rn, h.h1.below hB, h.h4.below hB, h.e1, h.e4⟩
theorem Ge.cells (h : Ge w W nt r B p1 p2 p3 p4 n1 q1 n2 q2 n3 q3 n4 q4 cls ws) : W.cell? ⟨w.heap.size, 0, none⟩ = some (.int .i64 (nt : Int)) ∧ W.cell? ⟨w.heap.size, 1, none⟩ = some (.int .i64 (r : Int)) ∧ W.cell? ⟨B, 0, none⟩ = some (.slice p1 n1 q1) ∧ W.cell? ⟨B, 1, none⟩ = some (.slice p2 n2 q2) ∧ W.cell? ⟨B, 2, none⟩ = some (.slice p3 n3 q3) ∧ W.cell? ⟨B, 3, none⟩ = some (.slice p4 n4 q4) :=
  ⟨cell_at h.d 0, cell_at h.d 1, cell_at h.rn 0, cell_at h.rn 1, cell_at h.rn 2, cell_at h.rn 3⟩
theorem Ge.quiet (h : Ge w W nt r B p1 p2 p3 p4 n1 q1 n2 q2 n3 q3 n4 q4 cls ws) (hn : cls.length ≤ 100000) (hz : ∀ (c : Nat) (x : Cl), cls[c]? = some x → 0 ≤ x.fin) : Calls Try.prog 13 #[.agg #[.slice p1 n1 q1, .slice p2 n2 q2, .slice p3 n3 q3, .slice p4 n4 q4]] W fun e w' => e = .returned (.bool true) ∧ Below W.heap.size W w' :=
  quiet_all cls h.h1 hn hz
theorem Ge.left (h : Ge w W nt r B p1 p2 p3 p4 n1 q1 n2 q2 n3 q3 n4 q4 cls ws) {L : List Int} (hl : lfR (nt : Int) (r : Int) ws = (L, 0)) : Calls Try.prog 14 #[.agg #[.int .i64 (nt : Int), .int .i64 (r : Int)], .slice p4 n4 q4] W fun e w' => ∃ a c, e = .returned (.tuple #[.slice a L.length c, .int .i64 0]) ∧ IsAt w' a L.length L ∧ Below W.heap.size W w' := by
  have h4 := h.h4
  have e4 := h.e4
  subst e4
  have := Left_any (nt : Int) (r : Int) ws p4 ws.length q4 W (has_wd (xs := ws) h4)
  rw [hl] at this
  exact this
/-- A call's nine cells. -/
theorem Ge.call (h : Ge w W nt r B p1 p2 p3 p4 n1 q1 n2 q2 n3 q3 n4 q4 cls ws) {i : Nat} {x : Cl} (hx : cls[i]? = some x) : ∃ g, p1 = some ⟨g, 0, none⟩ ∧ g < W.heap.size ∧
    W.cell? ⟨g, i * 9, none⟩ = some (.int .i64 x.th) ∧ W.cell? ⟨g, i * 9 + 1, none⟩ = some (.int .i64 x.op) ∧ W.cell? ⟨g, i * 9 + 2, none⟩ = some (.int .i64 x.arg) ∧ W.cell? ⟨g, i * 9 + 3, none⟩ = some (.int .i64 x.data) ∧ W.cell? ⟨g, i * 9 + 4, none⟩ = some (.int .i64 x.beg) ∧ W.cell? ⟨g, i * 9 + 5, none⟩ = some (.int .i64 x.fin) ∧ W.cell? ⟨g, i * 9 + 6, none⟩ = some (.int .i64 x.pt) ∧ W.cell? ⟨g, i * 9 + 7, none⟩ = some (.int .i64 x.ak) ∧ W.cell? ⟨g, i * 9 + 8, none⟩ = some (.int .i64 x.av) := by
  have h1 := h.h1
  have e1 := h.e1
  obtain ⟨g, cap, e, _, hg, _⟩ := h1.there (by have := (List.getElem?_eq_some_iff.1 hx).1; omega)
  cases e
  have hc := h1.cells (g := g) rfl
  exact ⟨g, rfl, hg, hc _ _ (clc_at cls i x hx 0 _ rfl (by omega)), hc _ _ (clc_at cls i x hx 1 _ rfl (by omega)), hc _ _ (clc_at cls i x hx 2 _ rfl (by omega)), hc _ _ (clc_at cls i x hx 3 _ rfl (by omega)), hc _ _ (clc_at cls i x hx 4 _ rfl (by omega)), hc _ _ (clc_at cls i x hx 5 _ rfl (by omega)), hc _ _ (clc_at cls i x hx 6 _ rfl (by omega)), hc _ _ (clc_at cls i x hx 7 _ rfl (by omega)), hc _ _ (clc_at cls i x hx 8 _ rfl (by omega))⟩
end
theorem lfR_leng (th rm : Int) (ws : List Int) : (lfR th rm ws).1.length ≤ 1000000 := by
  unfold lfR
  split
  · simp
  · split
    · simp
    · rename_i h1 h2
      split
      · rename_i h3
        have hd : dqB th rm = true := by cases h : dqB th rm; exact absurd h h1; rfl
        obtain ⟨k1, k2, k3, k4⟩ := dqB_in hd
        obtain ⟨q1, q2, q3, q4⟩ := h3
        simp only [lfL, List.length_map, List.length_range]
        omega
      · simp
theorem grown_cell {W W' : World} {row : Option Nat} {b j : Nat} (hg : W.grownBy W' row) (hb : b < W.heap.size) (hne : row ≠ some b) : W'.cell? ⟨b, j, none⟩ = W.cell? ⟨b, j, none⟩ :=
  World.cell?_of_block (a := ⟨b, j, none⟩) (hg.block b hb (fun e => hne e.symm))
/-- What the two growing rows hold behind i calls. -/
structure Rl (wB : World) (L : List Int) (cls : List Cl) (i : Nat) (so si : Value) (W : World) : Prop where
  bel : Below wB.heap.size wB W
  out : Has W (fun k => wB.heap.size ≤ k) 3 1 so (L ++ outL (cls.take i)).length (intsV (L ++ outL (cls.take i)))
  inn : Has W (fun k => wB.heap.size ≤ k) 3 1 si (inL (cls.take i)).length (intsV (inL (cls.take i)))
  dis : ∀ k, so.ownBlock = some k → si.ownBlock ≠ some k
section
variable {wB W W' W'' : World} {L : List Int} {cls : List Cl} {i : Nat} {so si : Value} {x : Cl} {y : Int} {g cap n : Nat}
theorem Rl.keep (h : Rl wB L cls i so si W) (hx : cls[i]? = some x) (h1 : ci x = []) (h2 : co x = []) (hB : Below W.heap.size W W') : Rl wB L cls (i + 1) so si W' := by
  refine ⟨h.bel.trans (hB.mono h.bel.size), ?_, ?_, h.dis⟩
  · rw [outL_step hx, h2, List.append_nil]; exact h.out.below hB
  · rw [inL_step hx, h1, List.append_nil]; exact h.inn.below hB
theorem Rl.addIn (h : Rl wB L cls i so si W) (hx : cls[i]? = some x) (h1 : ci x = [y]) (h2 : co x = []) (hB : Below W.heap.size W W') (hn : n = (inL (cls.take i)).length)
    (hh : Has W'' (fun k => wB.heap.size ≤ k) 3 1 (.slice (some ⟨g, 0, none⟩) (n + 1) cap) (n + 1) (intsV (inL (cls.take i)) ++ [.int .i64 y])) (hgr : W'.grownBy W'' si.ownBlock) (hgg : si.ownBlock = some g ∨ g = W'.heap.size) :
    Rl wB L cls (i + 1) so (.slice (some ⟨g, 0, none⟩) (n + 1) cap) W'' := by
  subst hn
  have hb := h.bel.trans (hB.mono h.bel.size)
  have ho := h.out.below hB
  refine ⟨hb.grown hgr hb.size (fun k hk => (h.inn.lt k hk).1), ?_, ?_, fun k hk => ?_⟩
  · rw [outL_step hx, h2, List.append_nil]
    exact ho.grown hgr (fun k hk => h.dis k hk)
  · rw [inL_step hx, h1]
    have e : intsV (inL (cls.take i) ++ [y]) = intsV (inL (cls.take i)) ++ [.int .i64 y] := by simp [intsV]
    rw [e, List.length_append]
    exact hh
  · intro e
    have e : some g = some k := e
    cases e
    rcases hgg with h9 | h9
    · exact h.dis _ hk h9
    · have := (ho.lt _ hk).2; omega
theorem Rl.addOut (h : Rl wB L cls i so si W) (hx : cls[i]? = some x) (h1 : ci x = []) (h2 : co x = [y]) (hB : Below W.heap.size W W') (hn : n = (L ++ outL (cls.take i)).length)
    (hh : Has W'' (fun k => wB.heap.size ≤ k) 3 1 (.slice (some ⟨g, 0, none⟩) (n + 1) cap) (n + 1) (intsV (L ++ outL (cls.take i)) ++ [.int .i64 y])) (hgr : W'.grownBy W'' so.ownBlock) (hgg : so.ownBlock = some g ∨ g = W'.heap.size) :
    Rl wB L cls (i + 1) (.slice (some ⟨g, 0, none⟩) (n + 1) cap) si W'' := by
  subst hn
  have hb := h.bel.trans (hB.mono h.bel.size)
  have hi := h.inn.below hB
  refine ⟨hb.grown hgr hb.size (fun k hk => (h.out.lt k hk).1), ?_, ?_, fun k hk e => ?_⟩
  · rw [outL_step hx, h2, ← List.append_assoc]
    have e : intsV (L ++ outL (cls.take i) ++ [y]) = intsV (L ++ outL (cls.take i)) ++ [.int .i64 y] := by simp [intsV]
    have el : (L ++ outL (cls.take i) ++ [y]).length = (L ++ outL (cls.take i)).length + 1 := by rw [List.length_append]; rfl
    rw [e, el]
    exact hh
  · rw [inL_step hx, h1, List.append_nil]
    exact hi.grown hgr (fun k hk e => h.dis k e hk)
  · have hk : some g = some k := hk
    cases hk
    rcases hgg with h9 | h9
    · exact h.dis _ h9 e
    · have := (hi.lt _ e).2; omega
end
theorem intsV_put {l : List Int} {k : Nat} {x : Int} : (intsV l).set k (.int .i64 x) = intsV (l.set k x) := by simp [intsV, List.map_set]
/-- What the matching keeps. -/
structure Mq (wB : World) (l : List Int) (m i : Nat) (go gi co' ci' : Nat) (lo : List Int) (W : World) : Prop where
  bel : Below wB.heap.size wB W
  out : Has W (fun k => wB.heap.size ≤ k) 3 1 (.slice (some ⟨go, 0, none⟩) m co') m (intsV lo)
  inn : Has W (fun k => wB.heap.size ≤ k) 3 1 (.slice (some ⟨gi, 0, none⟩) m ci') m (intsV l)
  dis : go ≠ gi
  per : (l.drop i).Perm (lo.drop i)
section
variable {wB W W' : World} {l lo : List Int} {m i go gi co' ci' : Nat}
theorem Mq.len (h : Mq wB l m i go gi co' ci' lo W) : lo.length = m ∧ l.length = m := by
  have h1 := h.out.1
  have h2 := h.inn.1
  simp only [intsV, List.length_map, Nat.mul_one] at h1 h2
  exact ⟨h1, h2⟩
theorem Mq.below (h : Mq wB l m i go gi co' ci' lo W) (hB : Below W.heap.size W W') : Mq wB l m i go gi co' ci' lo W' :=
  ⟨h.bel.trans (hB.mono h.bel.size), h.out.below hB, h.inn.below hB, h.dis, h.per⟩
theorem Mq.co (h : Mq wB l m i go gi co' ci' lo W) {j : Nat} {y : Int} (hy : lo[j]? = some y) : W.cell? ⟨go, j, none⟩ = some (.int .i64 y) ∧ W.frozen? ⟨go, j, none⟩ = false :=
  ⟨h.out.cells (g := go) rfl j _ (by simp [intsV, hy]), h.out.frozen (g := go) rfl j⟩
theorem Mq.ci (h : Mq wB l m i go gi co' ci' lo W) {j : Nat} {y : Int} (hy : l[j]? = some y) : W.cell? ⟨gi, j, none⟩ = some (.int .i64 y) := h.inn.cells (g := gi) rfl j _ (by simp [intsV, hy])
theorem Mq.swap (h : Mq wB l m i go gi co' ci' lo W) {a : Nat} {x y : Int} (hx : l[i]? = some x) (hy : lo[i]? = some y) (ha : lo[a]? = some x) (hia : i ≤ a) :
    Mq wB l m (i + 1) go gi co' ci' ((lo.set i x).set a y) ((W.setCell ⟨go, i, none⟩ (.int .i64 x)).setCell ⟨go, a, none⟩ (.int .i64 y)) := by
  have hgo : wB.heap.size ≤ go := (h.out.lt go rfl).1
  have hne : (Value.slice (some ⟨gi, 0, none⟩) m ci').ownBlock ≠ some go := fun e => h.dis (by cases e; rfl)
  refine ⟨(h.bel.setCell (p := ⟨go, i, none⟩) hgo _).setCell (p := ⟨go, a, none⟩) hgo _, ?_, (h.inn.setCell ⟨go, i, none⟩ _ hne).setCell ⟨go, a, none⟩ _ hne, h.dis, match_step h.per hx hy ha hia⟩
  have h1 := has_put (has_put h.out i (.int .i64 x)) a (.int .i64 y)
  rw [intsV_put, intsV_put] at h1
  exact h1
end
/-- What the search has found. -/
def Fd (lo : List Int) (x : Int) (i kk : Nat) (a : Int) : Prop := (a = -1 ∧ ∀ j, i ≤ j → j < kk → lo[j]? ≠ some x) ∨ ∃ b : Nat, a = (b : Int) ∧ i ≤ b ∧ b < kk ∧ lo[b]? = some x
theorem Fd.none {lo : List Int} {x : Int} (i : Nat) : Fd lo x i i (-1) := .inl ⟨rfl, fun j h1 h2 => by omega⟩
theorem Fd.hit {lo : List Int} {x : Int} {i kk : Nat} (hi : i ≤ kk) (h : lo[kk]? = some x) : Fd lo x i (kk + 1) (kk : Int) := .inr ⟨kk, rfl, hi, by omega, h⟩
theorem Fd.miss {lo : List Int} {x : Int} {i kk : Nat} {a : Int} (h : Fd lo x i kk a) (hn : lo[kk]? ≠ some x) : Fd lo x i (kk + 1) a := by
  rcases h with ⟨rfl, h1⟩ | ⟨b, rfl, h1, h2, h3⟩
  · refine .inl ⟨rfl, fun j g1 g2 => ?_⟩
    by_cases e : j = kk
    · subst e; exact hn
    · exact h1 j g1 (by omega)
  · exact .inr ⟨b, rfl, h1, by omega, h3⟩
theorem Fd.end {l lo : List Int} {x : Int} {i : Nat} {a : Int} (h : Fd lo x i lo.length a) (hp : (l.drop i).Perm (lo.drop i)) (hx : l[i]? = some x) : ∃ b : Nat, a = (b : Int) ∧ i ≤ b ∧ b < lo.length ∧ lo[b]? = some x := by
  rcases h with ⟨rfl, h1⟩ | h
  · obtain ⟨b, g1, g2, g3⟩ := match_find hp hx
    exact absurd g3 (h1 b g1 g2)
  · exact h
end Go.Proofs.Ytihkcbbbgmjogaa.Dm
