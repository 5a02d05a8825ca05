import Derived.Test.YtnapnhmmopajfaaGreatJ23
import Derived.BigQuiet
import Derived.Test.YtnapnhmmopajfaaGreatJ35
/-
  SameRun of two runs that are alike; sameInts of two rows that are alike.
-/
namespace Go.Proofs.YtnapnhmmopajfaaGreat.Rd
open Go.RowKit Go.Shelf Mr Me Ma
theorem cl_cells {W : World} {S : Nat → Prop} {g n cap : Nat} {l : List Cl} (h : Has W S 61 9 (.slice (some ⟨g, 0, none⟩) n cap) n (clc l)) {j : Nat} {cl : Cl} (hcl : l[j]? = some cl) :
    W.cell? ⟨g, j * 9, none⟩ = some (.int .i64 cl.th) ∧ W.cell? ⟨g, j * 9 + 1, none⟩ = some (.int .i64 cl.op) ∧ W.cell? ⟨g, j * 9 + 2, none⟩ = some (.int .i64 cl.arg) ∧ W.cell? ⟨g, j * 9 + 3, none⟩ = some (.int .i64 cl.data) ∧ W.cell? ⟨g, j * 9 + 4, none⟩ = some (.int .i64 cl.beg) ∧ W.cell? ⟨g, j * 9 + 5, none⟩ = some (.int .i64 cl.fin) ∧ W.cell? ⟨g, j * 9 + 6, none⟩ = some (.int .i64 cl.pt) ∧ W.cell? ⟨g, j * 9 + 7, none⟩ = some (.int .i64 cl.ak) ∧ W.cell? ⟨g, j * 9 + 8, none⟩ = some (.int .i64 cl.av) := by
  have hce : ∀ t (_ : t < 9) u, cl.cells[t]? = some u → W.cell? ⟨g, j * 9 + t, none⟩ = some u := fun t ht u hu => h.cells (g := g) rfl (j * 9 + t) u (by rw [clc, flat_get cl_len l j t cl hcl ht]; exact hu)
  exact ⟨hce 0 (by decide) _ rfl, hce 1 (by decide) _ rfl, hce 2 (by decide) _ rfl, hce 3 (by decide) _ rfl, hce 4 (by decide) _ rfl, hce 5 (by decide) _ rfl, hce 6 (by decide) _ rfl, hce 7 (by decide) _ rfl, hce 8 (by decide) _ rfl⟩
theorem ac_cells {W : World} {S : Nat → Prop} {g n cap : Nat} {l : List Acc} (h : Has W S 65 7 (.slice (some ⟨g, 0, none⟩) n cap) n (lgc l)) {j : Nat} {a : Acc} (ha : l[j]? = some a) :
    W.cell? ⟨g, j * 7, none⟩ = some (.int .i64 a.mv) ∧ W.cell? ⟨g, j * 7 + 1, none⟩ = some (.int .i64 a.th) ∧ W.cell? ⟨g, j * 7 + 2, none⟩ = some (.int .i64 a.kd) ∧ W.cell? ⟨g, j * 7 + 3, none⟩ = some (.int .i64 a.ad) ∧ W.cell? ⟨g, j * 7 + 4, none⟩ = some (.int .u64 a.old) ∧ W.cell? ⟨g, j * 7 + 5, none⟩ = some (.int .u64 a.new) ∧ W.cell? ⟨g, j * 7 + 6, none⟩ = some (.int .u64 a.saw) := by
  have hce : ∀ t (_ : t < 7) u, a.cells[t]? = some u → W.cell? ⟨g, j * 7 + t, none⟩ = some u := fun t ht u hu => h.cells (g := g) rfl (j * 7 + t) u (by rw [lgc, flat_get (f := Acc.cells) (m := 7) (fun _ => rfl) l j t a ha ht]; exact hu)
  exact ⟨hce 0 (by decide) _ rfl, hce 1 (by decide) _ rfl, hce 2 (by decide) _ rfl, hce 3 (by decide) _ rfl, hce 4 (by decide) _ rfl, hce 5 (by decide) _ rfl, hce 6 (by decide) _ rfl⟩
theorem bxd (N : Nat) (w : World) (n : Nat) : Below N w (w.drewN n) := ⟨rfl, rfl, rfl, Nat.le_refl _, fun _ _ => rfl⟩
theorem sh_cells {W : World} {S : Nat → Prop} {g n cap : Nat} {l : List Sh} (h : Has W S 68 5 (.slice (some ⟨g, 0, none⟩) n cap) n (shc l)) {j : Nat} {a : Sh} (ha : l[j]? = some a) :
    W.cell? ⟨g, j * 5, none⟩ = some (.int .i64 a.mv) ∧ W.cell? ⟨g, j * 5 + 1, none⟩ = some (.int .i64 a.th) ∧ W.cell? ⟨g, j * 5 + 2, none⟩ = some (.int .i64 a.slot) ∧ W.cell? ⟨g, j * 5 + 3, none⟩ = some (.int .i64 a.fr) ∧ W.cell? ⟨g, j * 5 + 4, none⟩ = some (.int .i64 a.to) := by
  have hce : ∀ t (_ : t < 5) u, a.cells[t]? = some u → W.cell? ⟨g, j * 5 + t, none⟩ = some u := fun t ht u hu => h.cells (g := g) rfl (j * 5 + t) u (by rw [shc, flat_get (f := Sh.cells) (m := 5) (fun _ => rfl) l j t a ha ht]; exact hu)
  exact ⟨hce 0 (by decide) _ rfl, hce 1 (by decide) _ rfl, hce 2 (by decide) _ rfl, hce 3 (by decide) _ rfl, hce 4 (by decide) _ rfl⟩
set_option maxRecDepth 100000 in
set_option maxHeartbeats 4000000 in
theorem same_eq {W : World} {S1 S2 : Nat → Prop} {cls : List Cl} {lg : List Acc} {shs : List Sh} {ws : List Int} {v1 v2 v3 v4 u1 u2 u3 u4 : Value}
    (a1 : Has W S1 61 9 v1 cls.length (clc cls)) (a2 : Has W S1 65 7 v2 lg.length (lgc lg)) (a3 : Has W S1 68 5 v3 shs.length (shc shs)) (a4 : Has W S1 63 1 v4 ws.length (wrd ws))
    (b1 : Has W S2 61 9 u1 cls.length (clc cls)) (b2 : Has W S2 65 7 u2 lg.length (lgc lg)) (b3 : Has W S2 68 5 u3 shs.length (shc shs)) (b4 : Has W S2 63 1 u4 ws.length (wrd ws)) (n1 : cls.length ≤ 100000) (n2 : lg.length ≤ 100000) (n3 : shs.length ≤ 100000) (n4 : ws.length ≤ 100000) :
    Calls Tryz.prog 7 #[runV v1 v2 v3 v4, runV u1 u2 u3 u4] W fun e w' => e = .returned (.bool true) ∧ Below W.heap.size W w' := by
  obtain ⟨p1, q1, rfl, _⟩ := a1.form
  obtain ⟨p2, q2, rfl, _⟩ := a2.form
  obtain ⟨p3, q3, rfl, _⟩ := a3.form
  obtain ⟨p4, q4, rfl, _⟩ := a4.form
  obtain ⟨r1, s1, rfl, _⟩ := b1.form
  obtain ⟨r2, s2, rfl, _⟩ := b2.form
  obtain ⟨r3, s3, rfl, _⟩ := b3.form
  obtain ⟨r4, s4, rfl, _⟩ := b4.form
  unfold runV
  obtain ⟨W2, hW2⟩ : ∃ W2, (W.alloc (.cells #[.slice p1 cls.length q1, .slice p2 lg.length q2, .slice p3 shs.length q3, .slice p4 ws.length q4] 33)).alloc (.cells #[.slice r1 cls.length s1, .slice r2 lg.length s2, .slice r3 shs.length s3, .slice r4 ws.length s4] 33) = W2 := ⟨_, rfl⟩
  have H0 : Below W.heap.size W W2 := by rw [← hW2]; exact ((Below.refl _ _).alloc (Nat.le_refl _) _).alloc (by simp) _
  have x0 : W2.heap[W.heap.size]? = some (.cells #[.slice p1 cls.length q1, .slice p2 lg.length q2, .slice p3 shs.length q3, .slice p4 ws.length q4] 33 (0, 0)) := by rw [← hW2]; exact (Below.heap_alloc _ _ _ (by simp)).trans (heap_alloc_new W _)
  have x1 : W2.heap[W.heap.size + 1]? = some (.cells #[.slice r1 cls.length s1, .slice r2 lg.length s2, .slice r3 shs.length s3, .slice r4 ws.length s4] 33 (0, 0)) := by
    have := heap_alloc_new (W.alloc (.cells #[.slice p1 cls.length q1, .slice p2 lg.length q2, .slice p3 shs.length q3, .slice p4 ws.length q4] 33)) (.cells #[.slice r1 cls.length s1, .slice r2 lg.length s2, .slice r3 shs.length s3, .slice r4 ws.length s4] 33)
    rw [World.size_alloc] at this
    rw [← hW2]
    exact this
  have s20 : W2.heap.size = W.heap.size + 1 + 1 := by rw [← hW2]; simp
  have hs2 : W.heap.size ≤ W2.heap.size := by omega
  have KB := fun (wr : World) (hB : Below W2.heap.size W2 wr) => (show wr.cell? ⟨W.heap.size, 0, none⟩ = some (.slice p1 cls.length q1) ∧ wr.cell? ⟨W.heap.size, 1, none⟩ = some (.slice p2 lg.length q2) ∧ wr.cell? ⟨W.heap.size, 2, none⟩ = some (.slice p3 shs.length q3) ∧ wr.cell? ⟨W.heap.size, 3, none⟩ = some (.slice p4 ws.length q4) ∧ wr.cell? ⟨W.heap.size + 1, 0, none⟩ = some (.slice r1 cls.length s1) ∧ wr.cell? ⟨W.heap.size + 1, 1, none⟩ = some (.slice r2 lg.length s2) ∧ wr.cell? ⟨W.heap.size + 1, 2, none⟩ = some (.slice r3 shs.length s3) ∧ wr.cell? ⟨W.heap.size + 1, 3, none⟩ = some (.slice r4 ws.length s4) from by
    have y0 := (hB.block W.heap.size (by omega)).trans x0
    have y1 := (hB.block (W.heap.size + 1) (by omega)).trans x1
    simp [World.cell?, y0, y1])
  replace a1 := a1.below H0
  replace a2 := a2.below H0
  replace a3 := a3.below H0
  replace a4 := a4.below H0
  replace b1 := b1.below H0
  replace b2 := b2.below H0
  replace b3 := b3.below H0
  replace b4 := b4.below H0
  obtain ⟨c0, c1, c2, c3, d0, d1, d2, d3⟩ := KB W2 (Below.refl _ _)
  clear x0 x1
  replace H0 := Mr.hid H0
  replace hs2 := Mr.hid hs2
  replace KB := Mr.hid KB
  replace a1 := Mr.hid a1
  replace a2 := Mr.hid a2
  replace a3 := Mr.hid a3
  replace a4 := Mr.hid a4
  replace b1 := Mr.hid b1
  replace b2 := Mr.hid b2
  replace b3 := Mr.hid b3
  replace b4 := Mr.hid b4
  go_enter Tryz.func7, Tryz.ntmps7
  go_wp2
  clear c0 c1 c2 c3 d0 d1 d2 d3 hW2
  go_loopg [5] cls.length (fun k s wy => ∃ j : Nat, s = .int .i64 (j : Int) ∧ j + k = cls.length ∧ Below W2.heap.size W2 wy)
  case atStart => exact ⟨0, rfl, by omega, Below.refl _ _⟩
  case round =>
    obtain ⟨j, rfl, hj, hB⟩ := hrel
    obtain ⟨c0, c1, c2, c3, d0, d1, d2, d3⟩ := KB.out wr hB
    have l1 := hB.size
    by_cases hjl : j < cls.length
    · obtain ⟨x, hx⟩ : ∃ x, cls[j]? = some x := ⟨_, List.getElem?_eq_getElem hjl⟩
      have ha' := a1.out
      have hb' := b1.out
      obtain ⟨ga, qa, hga, _, hga2, hga3, hga4⟩ := ha'.there (by omega)
      obtain ⟨gb, qb, hgb, _, hgb2, hgb3, hgb4⟩ := hb'.there (by omega)
      cases hga
      cases hgb
      unfold maxLen at hga4 hgb4
      have fa := cl_cells ha' hx
      have fb := cl_cells hb' hx
      have f0 := (hB.cell (p := ⟨ga, j * 9, none⟩) hga2).trans fa.1
      have g0 := (hB.cell (p := ⟨gb, j * 9, none⟩) hgb2).trans fb.1
      have f1 := (hB.cell (p := ⟨ga, j * 9 + 1, none⟩) hga2).trans fa.2.1
      have g1 := (hB.cell (p := ⟨gb, j * 9 + 1, none⟩) hgb2).trans fb.2.1
      have f2 := (hB.cell (p := ⟨ga, j * 9 + 2, none⟩) hga2).trans fa.2.2.1
      have g2 := (hB.cell (p := ⟨gb, j * 9 + 2, none⟩) hgb2).trans fb.2.2.1
      have f3 := (hB.cell (p := ⟨ga, j * 9 + 3, none⟩) hga2).trans fa.2.2.2.1
      have g3 := (hB.cell (p := ⟨gb, j * 9 + 3, none⟩) hgb2).trans fb.2.2.2.1
      have f4 := (hB.cell (p := ⟨ga, j * 9 + 4, none⟩) hga2).trans fa.2.2.2.2.1
      have g4 := (hB.cell (p := ⟨gb, j * 9 + 4, none⟩) hgb2).trans fb.2.2.2.2.1
      have f5 := (hB.cell (p := ⟨ga, j * 9 + 5, none⟩) hga2).trans fa.2.2.2.2.2.1
      have g5 := (hB.cell (p := ⟨gb, j * 9 + 5, none⟩) hgb2).trans fb.2.2.2.2.2.1
      have f6 := (hB.cell (p := ⟨ga, j * 9 + 6, none⟩) hga2).trans fa.2.2.2.2.2.2.1
      have g6 := (hB.cell (p := ⟨gb, j * 9 + 6, none⟩) hgb2).trans fb.2.2.2.2.2.2.1
      have f7 := (hB.cell (p := ⟨ga, j * 9 + 7, none⟩) hga2).trans fa.2.2.2.2.2.2.2.1
      have g7 := (hB.cell (p := ⟨gb, j * 9 + 7, none⟩) hgb2).trans fb.2.2.2.2.2.2.2.1
      have f8 := (hB.cell (p := ⟨ga, j * 9 + 8, none⟩) hga2).trans fa.2.2.2.2.2.2.2.2
      have g8 := (hB.cell (p := ⟨gb, j * 9 + 8, none⟩) hgb2).trans fb.2.2.2.2.2.2.2.2
      clear fa fb
      have hji : (j : Int) < (cls.length : Int) := by omega
      clear ha' hb'
      replace hx := Mr.hid hx
      have fin := fun nq => hB.trans ((bxd W2.heap.size wr nq))
      replace fin := Mr.hid fin
      replace hB := Mr.hid hB
      go_wp2
      go_quiet (fail)
      go_wp2
      go_roundg (gk - 1)
      case measure => omega
      case rel => exact ⟨j + 1, by simp, by omega, fin.out _⟩
    · replace hB := Mr.hid hB
      go_wp2
      go_loopg [6] lg.length (fun k s wy => ∃ j : Nat, s = .int .i64 (j : Int) ∧ j + k = lg.length ∧ Below W2.heap.size W2 wy)
      case atStart => exact ⟨0, rfl, by omega, hB.out⟩
      case round =>
        obtain ⟨j, rfl, hj, hB⟩ := hrel
        obtain ⟨c0, c1, c2, c3, d0, d1, d2, d3⟩ := KB.out wr hB
        have l1 := hB.size
        by_cases hjl : j < lg.length
        · obtain ⟨x, hx⟩ : ∃ x, lg[j]? = some x := ⟨_, List.getElem?_eq_getElem hjl⟩
          have ha' := a2.out
          have hb' := b2.out
          obtain ⟨ga, qa, hga, _, hga2, hga3, hga4⟩ := ha'.there (by omega)
          obtain ⟨gb, qb, hgb, _, hgb2, hgb3, hgb4⟩ := hb'.there (by omega)
          cases hga
          cases hgb
          unfold maxLen at hga4 hgb4
          have fa := ac_cells ha' hx
          have fb := ac_cells hb' hx
          have f0 := (hB.cell (p := ⟨ga, j * 7, none⟩) hga2).trans fa.1
          have g0 := (hB.cell (p := ⟨gb, j * 7, none⟩) hgb2).trans fb.1
          have f1 := (hB.cell (p := ⟨ga, j * 7 + 1, none⟩) hga2).trans fa.2.1
          have g1 := (hB.cell (p := ⟨gb, j * 7 + 1, none⟩) hgb2).trans fb.2.1
          have f2 := (hB.cell (p := ⟨ga, j * 7 + 2, none⟩) hga2).trans fa.2.2.1
          have g2 := (hB.cell (p := ⟨gb, j * 7 + 2, none⟩) hgb2).trans fb.2.2.1
          have f3 := (hB.cell (p := ⟨ga, j * 7 + 3, none⟩) hga2).trans fa.2.2.2.1
          have g3 := (hB.cell (p := ⟨gb, j * 7 + 3, none⟩) hgb2).trans fb.2.2.2.1
          have f4 := (hB.cell (p := ⟨ga, j * 7 + 4, none⟩) hga2).trans fa.2.2.2.2.1
          have g4 := (hB.cell (p := ⟨gb, j * 7 + 4, none⟩) hgb2).trans fb.2.2.2.2.1
          have f5 := (hB.cell (p := ⟨ga, j * 7 + 5, none⟩) hga2).trans fa.2.2.2.2.2.1
          have g5 := (hB.cell (p := ⟨gb, j * 7 + 5, none⟩) hgb2).trans fb.2.2.2.2.2.1
          have f6 := (hB.cell (p := ⟨ga, j * 7 + 6, none⟩) hga2).trans fa.2.2.2.2.2.2
          have g6 := (hB.cell (p := ⟨gb, j * 7 + 6, none⟩) hgb2).trans fb.2.2.2.2.2.2
          clear fa fb
          have hji : (j : Int) < (lg.length : Int) := by omega
          clear ha' hb'
          replace hx := Mr.hid hx
          have fin := fun nq => hB.trans ((bxd W2.heap.size wr nq))
          replace fin := Mr.hid fin
          replace hB := Mr.hid hB
          go_wp2
          go_quiet (fail)
          go_wp2
          go_roundg (gk - 1)
          case measure => omega
          case rel => exact ⟨j + 1, by simp, by omega, fin.out _⟩
        · replace hB := Mr.hid hB
          go_wp2
          go_loopg [7] shs.length (fun k s wy => ∃ j : Nat, s = .int .i64 (j : Int) ∧ j + k = shs.length ∧ Below W2.heap.size W2 wy)
          case atStart => exact ⟨0, rfl, by omega, hB.out⟩
          case round =>
            obtain ⟨j, rfl, hj, hB⟩ := hrel
            obtain ⟨c0, c1, c2, c3, d0, d1, d2, d3⟩ := KB.out wr hB
            have l1 := hB.size
            by_cases hjl : j < shs.length
            · obtain ⟨x, hx⟩ : ∃ x, shs[j]? = some x := ⟨_, List.getElem?_eq_getElem hjl⟩
              have ha' := a3.out
              have hb' := b3.out
              obtain ⟨ga, qa, hga, _, hga2, hga3, hga4⟩ := ha'.there (by omega)
              obtain ⟨gb, qb, hgb, _, hgb2, hgb3, hgb4⟩ := hb'.there (by omega)
              cases hga
              cases hgb
              unfold maxLen at hga4 hgb4
              have fa := sh_cells ha' hx
              have fb := sh_cells hb' hx
              have f0 := (hB.cell (p := ⟨ga, j * 5, none⟩) hga2).trans fa.1
              have g0 := (hB.cell (p := ⟨gb, j * 5, none⟩) hgb2).trans fb.1
              have f1 := (hB.cell (p := ⟨ga, j * 5 + 1, none⟩) hga2).trans fa.2.1
              have g1 := (hB.cell (p := ⟨gb, j * 5 + 1, none⟩) hgb2).trans fb.2.1
              have f2 := (hB.cell (p := ⟨ga, j * 5 + 2, none⟩) hga2).trans fa.2.2.1
              have g2 := (hB.cell (p := ⟨gb, j * 5 + 2, none⟩) hgb2).trans fb.2.2.1
              have f3 := (hB.cell (p := ⟨ga, j * 5 + 3, none⟩) hga2).trans fa.2.2.2.1
              have g3 := (hB.cell (p := ⟨gb, j * 5 + 3, none⟩) hgb2).trans fb.2.2.2.1
              have f4 := (hB.cell (p := ⟨ga, j * 5 + 4, none⟩) hga2).trans fa.2.2.2.2
              have g4 := (hB.cell (p := ⟨gb, j * 5 + 4, none⟩) hgb2).trans fb.2.2.2.2
              clear fa fb
              have hji : (j : Int) < (shs.length : Int) := by omega
              clear ha' hb'
              replace hx := Mr.hid hx
              have fin := fun nq => hB.trans ((bxd W2.heap.size wr nq))
              replace fin := Mr.hid fin
              replace hB := Mr.hid hB
              go_wp2
              go_quiet (fail)
              go_wp2
              go_roundg (gk - 1)
              case measure => omega
              case rel => exact ⟨j + 1, by simp, by omega, fin.out _⟩
            · replace hB := Mr.hid hB
              go_wp2
              go_loopg [8] ws.length (fun k s wy => ∃ j : Nat, s = .int .i64 (j : Int) ∧ j + k = ws.length ∧ Below W2.heap.size W2 wy)
              case atStart => exact ⟨0, rfl, by omega, hB.out⟩
              case round =>
                obtain ⟨j, rfl, hj, hB⟩ := hrel
                obtain ⟨c0, c1, c2, c3, d0, d1, d2, d3⟩ := KB.out wr hB
                have l1 := hB.size
                by_cases hjl : j < ws.length
                · obtain ⟨x, hx⟩ : ∃ x, ws[j]? = some x := ⟨_, List.getElem?_eq_getElem hjl⟩
                  have ha' := a4.out
                  have hb' := b4.out
                  obtain ⟨ga, qa, hga, _, hga2, hga3, hga4⟩ := ha'.there (by omega)
                  obtain ⟨gb, qb, hgb, _, hgb2, hgb3, hgb4⟩ := hb'.there (by omega)
                  cases hga
                  cases hgb
                  unfold maxLen at hga4 hgb4
                  have f0 := (hB.cell (p := ⟨ga, j, none⟩) hga2).trans (a4.out.cells (g := ga) rfl j (.int .u64 x) (by simp [wrd, hx]))
                  have g0 := (hB.cell (p := ⟨gb, j, none⟩) hgb2).trans (b4.out.cells (g := gb) rfl j (.int .u64 x) (by simp [wrd, hx]))
                  have hji : (j : Int) < (ws.length : Int) := by omega
                  clear ha' hb'
                  replace hx := Mr.hid hx
                  have fin := fun nq => hB.trans ((bxd W2.heap.size wr nq))
                  replace fin := Mr.hid fin
                  replace hB := Mr.hid hB
                  go_wp2
                  go_quiet (fail)
                  go_wp2
                  go_roundg (gk - 1)
                  case measure => omega
                  case rel => exact ⟨j + 1, by simp, by omega, fin.out _⟩
                · replace hB := Mr.hid hB
                  go_wp2
                  go_ret
                  exact ⟨rfl, (H0.out).trans (hB.out.mono hs2.out)⟩
end Go.Proofs.YtnapnhmmopajfaaGreat.Rd
/-
  THE DEQUE: both Plays answer the same, whatever comes in.
-/
namespace Go.Proofs.YtnapnhmmopajfaaGreat.Rd
open Go.RowKit Go.Shelf Mr Me Ma Gm Dm Dq
set_option linter.unusedVariables false
/-- A run that was answered, with a code. -/
def RunQ (cls : List Cl) (lg : List Acc) (ws : List Int) (code : Int) (w : World) (e : Ending) (w' : World) : Prop :=
  ∃ v1 v2 v3 v4, e = .returned (.tuple #[runV v1 v2 v3 v4, .int .i64 code]) ∧ Has w' (fun k => w.heap.size ≤ k) 61 9 v1 cls.length (clc cls) ∧ Has w' (fun k => w.heap.size ≤ k) 65 7 v2 lg.length (lgc lg) ∧ Has w' (fun k => w.heap.size ≤ k) 68 5 v3 0 [] ∧ Has w' (fun k => w.heap.size ≤ k) 63 1 v4 ws.length (wrd ws) ∧ Below w.heap.size w w'
def codeOf (th rm : Int) (nm : Nat) : Int := if dqB th rm = true then (if 65536 < nm then 3 else 0) else 210
theorem runq_nil {w : World} {c : Int} {e : Ending} {w' : World} (h : e = .returned (.tuple #[nilR, .int .i64 c]) ∧ Below w.heap.size w w') : RunQ [] [] [] c w e w' :=
  ⟨_, _, _, _, h.1, Has.nil _ _ _ _, Has.nil _ _ _ _, Has.nil _ _ _ _, Has.nil _ _ _ _, h.2⟩
theorem both_play (th rm : Int) (nm : Nat) (ms : List Mv) (hwd : ∀ i : Nat, Wd (ms[i]?.getD noMv).arg) :
    ∃ (cls : List Cl) (lg : List Acc) (ws : List Int), cls.length ≤ 65536 ∧ lg.length ≤ 65536 ∧ ws.length ≤ 258 ∧
      (∀ (w : World) (am : Option Addr) (cm : Nat), MvAt w am nm ms → Calls Tryz.prog 4 #[.agg #[.int .i64 th, .int .i64 rm], .slice am nm cm] w (RunQ cls lg ws (codeOf th rm nm) w)) ∧
      (∀ (w : World) (am : Option Addr) (cm : Nat), MvAt w am nm ms → Calls Tryz.prog 5 #[.agg #[.int .i64 th, .int .i64 rm], .slice am nm cm] w (RunQ cls lg ws (codeOf th rm nm) w)) := by
  by_cases hd : dqB th rm = true
  · by_cases hn : 65536 < nm
    · have hc : codeOf th rm nm = 3 := by unfold codeOf; rw [if_pos hd, if_pos hn]
      rw [hc]
      exact ⟨[], [], [], by simp, by simp, by simp, fun w am cm _ => (dPlay_no w th rm am nm cm 3 (.inr ⟨hd, hn, rfl⟩)).mono (fun e w' h => runq_nil h), fun w am cm _ => (rPlay_no w th rm am nm cm 3 (.inr ⟨hd, hn, rfl⟩)).mono (fun e w' h => runq_nil h)⟩
    · have hc : codeOf th rm nm = 0 := by unfold codeOf; rw [if_pos hd, if_neg hn]
      rw [hc]
      have h' := hd
      simp only [dqB, Bool.and_eq_true, decide_eq_true_eq] at h'
      obtain ⟨nt, rfl⟩ := Int.eq_ofNat_of_zero_le (show 0 ≤ th by omega)
      obtain ⟨r, rfl⟩ := Int.eq_ofNat_of_zero_le (show 0 ≤ rm by omega)
      obtain ⟨hI, hB⟩ := pl_inv (r := r) ms (p0_inv (nt := nt) (by omega) (by omega)).1 (p0_inv (by omega) (by omega)).2
      refine ⟨(Pl r (P0 nt r) ms).cls, (Pl r (P0 nt r) ms).lg, (Pl r (P0 nt r) ms).ws, Nat.le_trans hB.cls hB.n, Nat.le_trans hB.lg hB.n, by rw [hI.len]; have := hI.r2; omega, fun w am cm hm => ?_, fun w am cm hm => ?_⟩
      · refine (play_d w nt r (by omega) (by omega) (by omega) (by omega) am nm cm ms hm (by omega)).mono ?_
        rintro e w' ⟨v1, v2, v3, v4, rfl, r1, r2, r3, r4, hB⟩
        exact ⟨v1, v2, v3, v4, rfl, r1, r2, r3, r4, hB⟩
      · refine (Play_r w nt r (by omega) (by omega) (by omega) (by omega) am nm cm ms hm (by omega) hwd).mono ?_
        rintro e w' ⟨v1, v2, v4, rfl, r1, r2, r4, hB⟩
        exact ⟨v1, v2, _, v4, rfl, r1, r2, Has.nil _ _ _ _, r4, hB⟩
  · have hd' : dqB th rm = false := by simpa using hd
    have hc : codeOf th rm nm = 210 := by unfold codeOf; rw [if_neg hd]
    rw [hc]
    exact ⟨[], [], [], by simp, by simp, by simp, fun w am cm _ => (dPlay_no w th rm am nm cm 210 (.inl ⟨hd', rfl⟩)).mono (fun e w' h => runq_nil h), fun w am cm _ => (rPlay_no w th rm am nm cm 210 (.inl ⟨hd', rfl⟩)).mono (fun e w' h => runq_nil h)⟩
/-- Their comparison. -/
theorem same_runs {W : World} {S1 S2 : Nat → Prop} {cls : List Cl} {lg : List Acc} {ws : List Int} {v1 v2 v3 v4 u1 u2 u3 u4 : Value}
    (a1 : Has W S1 61 9 v1 cls.length (clc cls)) (a2 : Has W S1 65 7 v2 lg.length (lgc lg)) (a3 : Has W S1 68 5 v3 0 []) (a4 : Has W S1 63 1 v4 ws.length (wrd ws))
    (b1 : Has W S2 61 9 u1 cls.length (clc cls)) (b2 : Has W S2 65 7 u2 lg.length (lgc lg)) (b3 : Has W S2 68 5 u3 0 []) (b4 : Has W S2 63 1 u4 ws.length (wrd ws)) (n1 : cls.length ≤ 65536) (n2 : lg.length ≤ 65536) (n4 : ws.length ≤ 258) :
    Calls Tryz.prog 7 #[runV v1 v2 v3 v4, runV u1 u2 u3 u4] W fun e w' => e = .returned (.bool true) ∧ Below W.heap.size W w' :=
  same_eq (shs := []) a1 a2 a3 a4 b1 b2 b3 b4 (by omega) (by omega) (by simp) (by omega)
end Go.Proofs.YtnapnhmmopajfaaGreat.Rd
