import Derived.Test.YtglohochdgeonaaJ27
/-
  What a law of the model keeps: boxes of contents and of answers.
-/
namespace Go.Proofs.Ytglohochdgeonaa.Md
open Go.RowKit Mr Me
set_option linter.unusedVariables false
set_option linter.unusedSimpArgs false
/-- Contents in their box. -/
structure Cb (w : World) (b : Nat) (v0 v1 v2 v3 v4 : Value) (x : Ct) : Prop where
  box : w.heap[b]? = some (ctO v0 v1 v2 v3 v4)
  at_ : CtAt w (fun _ => True) v0 v1 v2 v3 v4 x
theorem Cb.next {w w' : World} {b : Nat} {v0 v1 v2 v3 v4 : Value} {x : Ct} (h : Cb w b v0 v1 v2 v3 v4 x) (hB : Below w.heap.size w w') : Cb w' b v0 v1 v2 v3 v4 x :=
  ⟨(hB.block _ (Array.getElem?_eq_some_iff.1 h.box).1).trans h.box, h.at_.below hB⟩
/-- An answer in its box. -/
structure Ab (w : World) (b : Nat) (k v : Int) : Prop where
  box : w.heap[b]? = some (ansO k v)
theorem Ab.next {w w' : World} {b : Nat} {k v : Int} (h : Ab w b k v) (hB : Below w.heap.size w w') : Ab w' b k v :=
  ⟨(hB.block _ (Array.getElem?_eq_some_iff.1 h.box).1).trans h.box⟩
structure Bl (w : World) (W : World) : Prop where
  bel : Below W.heap.size W w
theorem Bl.next {w w' W : World} (h : Bl w W) (hB : Below w.heap.size w w') : Bl w' W := ⟨h.bel.trans (hB.mono h.bel.size)⟩
/-- Behind a call of Do: the two boxes made. -/
theorem made {w w1 wM : World} {l0 l1 l2 l3 l4 : Value} {y : Ct} {a c : Int} {T : Nat → Prop} (hM : wM = (w1.alloc (ctO l0 l1 l2 l3 l4)).alloc (ansO a c)) (hB : Below w.heap.size w w1) (hl : CtAt w1 T l0 l1 l2 l3 l4 y) :
    Below w.heap.size w wM ∧ Cb wM w1.heap.size l0 l1 l2 l3 l4 y ∧ Ab wM (w1.heap.size + 1) a c := by
  subst hM
  have Y := ((Below.refl w1.heap.size w1).alloc (Nat.le_refl _) (ctO l0 l1 l2 l3 l4)).alloc (by simp) (ansO a c)
  exact ⟨hB.trans (Y.mono hB.size), ⟨old_at (new_at _ _ _ rfl) _, (hl.mono (fun _ _ => trivial)).below Y⟩, ⟨new_at _ _ _ (by simp)⟩⟩
/-- Behind right: its answer in the contents' own box. -/
theorem righted {W w1 wM : World} {u0 u1 u2 u3 u4 v0 v1 v2 v3 v4 : Value} {y : Ct} (hM : wM = set5 w1 W.heap.size v0 v1 v2 v3 v4) (hB : Below (W.heap.size + 1) (W.alloc (ctO u0 u1 u2 u3 u4)) w1) (hl : CtAt w1 (fun k => W.heap.size + 1 ≤ k) v0 v1 v2 v3 v4 y) :
    Bl wM W ∧ Cb wM W.heap.size v0 v1 v2 v3 v4 y ∧ w1.heap[W.heap.size]? = some (ctO u0 u1 u2 u3 u4) := by
  subst hM
  have B0 := (Below.refl W.heap.size W).alloc (Nat.le_refl _) (ctO u0 u1 u2 u3 u4)
  have g := (hB.block W.heap.size (by omega)).trans (new_at W (ctO u0 u1 u2 u3 u4) _ rfl)
  have B1 := B0.trans (hB.mono (by omega))
  exact ⟨⟨set5_below v0 v1 v2 v3 v4 B1 (Nat.le_refl _)⟩, ⟨set5_at v0 v1 v2 v3 v4 g, (hl.fr (set5_fr w1 W.heap.size v0 v1 v2 v3 v4) (fun k hk _ e => by subst e; omega)).mono (fun _ _ => trivial)⟩, g⟩
end Go.Proofs.Ytglohochdgeonaa.Md
/-
  ModelOwn: spoilt contents; reclaimlaw11.spoilt.
-/
namespace Go.Proofs.Ytglohochdgeonaa.Md
open Go.RowKit Mr Me
set_option linter.unusedVariables false
set_option linter.unusedSimpArgs false
/-- Contents, each list full of its own mark. -/
def spx (x : Ct) (m : Int) : Ct := ⟨List.replicate x.cell.length m, List.replicate x.stack.length (m + 10), List.replicate x.queue.length (m + 20), List.replicate x.set.length (m + 30), List.replicate x.table.length (m + 50, m)⟩
theorem ints_rep (n : Nat) (m : Int) (i : Nat) (h : i < n) : (ints (List.replicate n m))[i]? = some (.int .i64 m) := by simp [ints, h]
theorem prs_rep (n : Nat) (k m : Int) (i : Nat) (h : i < n) : (prs (List.replicate n (k, m)))[i * 2]? = some (.int .i64 k) ∧ (prs (List.replicate n (k, m)))[i * 2 + 1]? = some (.int .i64 m) := by
  have := prs_get (List.replicate n (k, m)) i (by simp [h])
  simpa [h] using this
def lsO (v0 v1 v2 v3 : Value) : Obj := .cells #[v0, v1, v2, v3] 22 (0, 0)
set_option maxRecDepth 100000 in
set_option maxHeartbeats 16000000 in
theorem spoilt_sl {W : World} {T : Nat → Prop} {a0 a1 a2 a3 a4 : Option Addr} {n0 n1 n2 n3 n4 c0 c1 c2 c3 c4 : Nat} {m : Int} (h0 : Sl W T 1 (.slice a0 n0 c0) n0 (ints (List.replicate n0 m))) (h1 : Sl W T 1 (.slice a1 n1 c1) n1 (ints (List.replicate n1 (m + 10)))) (h2 : Sl W T 1 (.slice a2 n2 c2) n2 (ints (List.replicate n2 (m + 20)))) (h3 : Sl W T 1 (.slice a3 n3 c3) n3 (ints (List.replicate n3 (m + 30)))) (h4 : Sl W T 2 (.slice a4 n4 c4) n4 (prs (List.replicate n4 (m + 50, m)))) (i0 : n0 * 8 ≤ 225000000000000) (i1 : n1 * 8 ≤ 225000000000000) (i2 : n2 * 8 ≤ 225000000000000) (i3 : n3 * 8 ≤ 225000000000000) (i4 : n4 * 16 ≤ 225000000000000) (hm0 : 0 ≤ m) (hm1 : m ≤ 1000000) :
    Calls Try.prog 15 #[.agg #[.slice a0 n0 c0, .slice a1 n1 c1, .slice a2 n2 c2, .slice a3 n3 c3, .slice a4 n4 c4], .int .i64 m] W fun e w' => e = .returned (.bool true) ∧ Below W.heap.size W w' := by
  obtain ⟨W2, hW2⟩ : ∃ w, w = (W.alloc (ctO (.slice a0 n0 c0) (.slice a1 n1 c1) (.slice a2 n2 c2) (.slice a3 n3 c3) (.slice a4 n4 c4))).alloc (lsO (.slice a0 n0 c0) (.slice a1 n1 c1) (.slice a2 n2 c2) (.slice a3 n3 c3)) := ⟨_, rfl⟩
  have Y2 : Below W.heap.size W W2 := by rw [hW2]; exact ((Below.refl W.heap.size W).alloc (Nat.le_refl _) _).alloc (by simp) _
  have gb : W2.heap[W.heap.size]? = some (ctO (.slice a0 n0 c0) (.slice a1 n1 c1) (.slice a2 n2 c2) (.slice a3 n3 c3) (.slice a4 n4 c4)) := by rw [hW2]; exact old_at (new_at _ _ _ rfl) _
  have gl : W2.heap[W.heap.size + 1]? = some (lsO (.slice a0 n0 c0) (.slice a1 n1 c1) (.slice a2 n2 c2) (.slice a3 n3 c3)) := by rw [hW2]; exact new_at _ _ _ (by simp)
  have hR0 := Mr.hid (h0.below Y2)
  have hR1 := Mr.hid (h1.below Y2)
  have hR2 := Mr.hid (h2.below Y2)
  have hR3 := Mr.hid (h3.below Y2)
  have hR4 := Mr.hid (h4.below Y2)
  clear h0 h1 h2 h3 h4
  obtain ⟨e0, e1, e2, e3, e4, el⟩ := ctO_cells gb
  have l0 : W2.cell? ⟨W.heap.size + 1, 0, none⟩ = some (.slice a0 n0 c0) := cell_blk gl 0
  have l1 : W2.cell? ⟨W.heap.size + 1, 1, none⟩ = some (.slice a1 n1 c1) := cell_blk gl 1
  have l2 : W2.cell? ⟨W.heap.size + 1, 2, none⟩ = some (.slice a2 n2 c2) := cell_blk gl 2
  have l3 : W2.cell? ⟨W.heap.size + 1, 3, none⟩ = some (.slice a3 n3 c3) := cell_blk gl 3
  have ll := (Array.getElem?_eq_some_iff.1 gl).1
  replace Y2 := Mr.hid Y2
  replace hW2 := Mr.hid hW2
  clear gb gl
  go_enter Try.func15, Try.ntmps15
  go_upto_region 2 with (fail)
  rw [show (W.alloc (.cells #[.slice a0 n0 c0, .slice a1 n1 c1, .slice a2 n2 c2, .slice a3 n3 c3, .slice a4 n4 c4] 25 (0, 0))).alloc (.cells #[.slice a0 n0 c0, .slice a1 n1 c1, .slice a2 n2 c2, .slice a3 n3 c3] 22 (0, 0)) = W2 from by rw [hW2.out]; rfl]
  clear hW2
  go_wp2
  go_loopg [6] 4 (fun k s6 wr => ∃ j : Nat, s6 = .int .i64 (j : Int) ∧ j + k = 4 ∧ wr = W2)
  case atStart => exact ⟨0, rfl, rfl, rfl⟩
  case round =>
    obtain ⟨j, rfl, hj, rfl⟩ := hrel
    obtain ⟨gO, hgO⟩ : ∃ g, g = gk := ⟨_, rfl⟩
    obtain rfl | rfl | rfl | rfl | rfl : j = 0 ∨ j = 1 ∨ j = 2 ∨ j = 3 ∨ j = 4 := by omega
    · go_wp2
      go_loopg [7] n0 (fun k s7 wy => ∃ i : Nat, s7 = .int .i64 (i : Int) ∧ i + k = n0 ∧ wy = wr)
      case atStart => exact ⟨0, rfl, by omega, rfl⟩
      case round =>
        obtain ⟨i, rfl, hi, rfl⟩ := hrel
        by_cases hlt : i < n0
        · obtain ⟨b, o, cc', hv', _, _, hbl, hr⟩ := hR0.out.there (by omega)
          cases hv'
          have G := hr i (.int .i64 (m)) (ints_rep n0 _ i hlt)
          clear hr
          have hlI : (i : Int) < (n0 : Int) := by omega
          have hle : (0 : Int) ≤ (i : Int) := by omega
          have wq : IntKind.i64.wrap (m + 0) = m + 0 := i64w _ (by omega) (by omega)
          have bq : (m + 0 != m + 0) = false := by simp
          have bq' : (m != m) = false := by simp
          go_wp2
          go_roundg (gk - 1)
          case measure => omega
          case rel => exact ⟨i + 1, by simp, by omega, rfl⟩
        · have hge : decide ((i : Int) < (n0 : Int)) = false := decide_eq_false (by omega)
          go_wp2
          go_roundg (gO - 1)
          case measure => omega
          case rel => exact ⟨0 + 1, by simp, by omega, rfl⟩
    · go_wp2
      go_loopg [7] n1 (fun k s7 wy => ∃ i : Nat, s7 = .int .i64 (i : Int) ∧ i + k = n1 ∧ wy = wr)
      case atStart => exact ⟨0, rfl, by omega, rfl⟩
      case round =>
        obtain ⟨i, rfl, hi, rfl⟩ := hrel
        by_cases hlt : i < n1
        · obtain ⟨b, o, cc', hv', _, _, hbl, hr⟩ := hR1.out.there (by omega)
          cases hv'
          have G := hr i (.int .i64 (m + 10)) (ints_rep n1 _ i hlt)
          clear hr
          have hlI : (i : Int) < (n1 : Int) := by omega
          have hle : (0 : Int) ≤ (i : Int) := by omega
          have wq : IntKind.i64.wrap (m + 10) = m + 10 := i64w _ (by omega) (by omega)
          have bq : (m + 10 != m + 10) = false := by simp
          have bq' : (m != m) = false := by simp
          go_wp2
          go_roundg (gk - 1)
          case measure => omega
          case rel => exact ⟨i + 1, by simp, by omega, rfl⟩
        · have hge : decide ((i : Int) < (n1 : Int)) = false := decide_eq_false (by omega)
          go_wp2
          go_roundg (gO - 1)
          case measure => omega
          case rel => exact ⟨1 + 1, by simp, by omega, rfl⟩
    · go_wp2
      go_loopg [7] n2 (fun k s7 wy => ∃ i : Nat, s7 = .int .i64 (i : Int) ∧ i + k = n2 ∧ wy = wr)
      case atStart => exact ⟨0, rfl, by omega, rfl⟩
      case round =>
        obtain ⟨i, rfl, hi, rfl⟩ := hrel
        by_cases hlt : i < n2
        · obtain ⟨b, o, cc', hv', _, _, hbl, hr⟩ := hR2.out.there (by omega)
          cases hv'
          have G := hr i (.int .i64 (m + 20)) (ints_rep n2 _ i hlt)
          clear hr
          have hlI : (i : Int) < (n2 : Int) := by omega
          have hle : (0 : Int) ≤ (i : Int) := by omega
          have wq : IntKind.i64.wrap (m + 20) = m + 20 := i64w _ (by omega) (by omega)
          have bq : (m + 20 != m + 20) = false := by simp
          have bq' : (m != m) = false := by simp
          go_wp2
          go_roundg (gk - 1)
          case measure => omega
          case rel => exact ⟨i + 1, by simp, by omega, rfl⟩
        · have hge : decide ((i : Int) < (n2 : Int)) = false := decide_eq_false (by omega)
          go_wp2
          go_roundg (gO - 1)
          case measure => omega
          case rel => exact ⟨2 + 1, by simp, by omega, rfl⟩
    · go_wp2
      go_loopg [7] n3 (fun k s7 wy => ∃ i : Nat, s7 = .int .i64 (i : Int) ∧ i + k = n3 ∧ wy = wr)
      case atStart => exact ⟨0, rfl, by omega, rfl⟩
      case round =>
        obtain ⟨i, rfl, hi, rfl⟩ := hrel
        by_cases hlt : i < n3
        · obtain ⟨b, o, cc', hv', _, _, hbl, hr⟩ := hR3.out.there (by omega)
          cases hv'
          have G := hr i (.int .i64 (m + 30)) (ints_rep n3 _ i hlt)
          clear hr
          have hlI : (i : Int) < (n3 : Int) := by omega
          have hle : (0 : Int) ≤ (i : Int) := by omega
          have wq : IntKind.i64.wrap (m + 30) = m + 30 := i64w _ (by omega) (by omega)
          have bq : (m + 30 != m + 30) = false := by simp
          have bq' : (m != m) = false := by simp
          go_wp2
          go_roundg (gk - 1)
          case measure => omega
          case rel => exact ⟨i + 1, by simp, by omega, rfl⟩
        · have hge : decide ((i : Int) < (n3 : Int)) = false := decide_eq_false (by omega)
          go_wp2
          go_roundg (gO - 1)
          case measure => omega
          case rel => exact ⟨3 + 1, by simp, by omega, rfl⟩
    · go_wp2
      go_loopg [8] n4 (fun k s8 wy => ∃ i : Nat, s8 = .int .i64 (i : Int) ∧ i + k = n4 ∧ wy = wr)
      case atStart => exact ⟨0, rfl, by omega, rfl⟩
      case round =>
        obtain ⟨i, rfl, hi, rfl⟩ := hrel
        by_cases hlt : i < n4
        · obtain ⟨b, o, cc', hv', _, _, hbl, hr⟩ := hR4.out.there (by omega)
          cases hv'
          have G0 := hr (i * 2) _ (prs_rep n4 _ _ i hlt).1
          have G1 := hr (i * 2 + 1) _ (prs_rep n4 _ _ i hlt).2
          rw [← Nat.add_assoc] at G1
          clear hr
          have hlI : (i : Int) < (n4 : Int) := by omega
          have hle : (0 : Int) ≤ (i : Int) := by omega
          have wq : IntKind.i64.wrap (m + 50) = m + 50 := i64w _ (by omega) (by omega)
          have bq : (m + 50 == m + 50) = true := by simp
          have bq' : (m == m) = true := by simp
          go_wp2
          go_roundg (gk - 1)
          case measure => omega
          case rel => exact ⟨i + 1, by simp, by omega, rfl⟩
        · have hge : decide ((i : Int) < (n4 : Int)) = false := decide_eq_false (by omega)
          go_wp2
          go_ret
          exact ⟨rfl, Y2.out⟩
theorem spoilt_any {W : World} {T : Nat → Prop} {u0 u1 u2 u3 u4 : Value} {x : Ct} {m : Int} (hu : CtAt W T u0 u1 u2 u3 u4 (spx x m)) (hx : CtIn 225000000000000 x) (hm0 : 0 ≤ m) (hm1 : m ≤ 1000000) :
    Calls Try.prog 15 #[.agg #[u0, u1, u2, u3, u4], .int .i64 m] W fun e w' => e = .returned (.bool true) ∧ Below W.heap.size W w' := by
  obtain ⟨h0, h1, h2, h3, h4⟩ := hu
  obtain ⟨a0, c0, rfl, _⟩ := h0.form
  obtain ⟨a1, c1, rfl, _⟩ := h1.form
  obtain ⟨a2, c2, rfl, _⟩ := h2.form
  obtain ⟨a3, c3, rfl, _⟩ := h3.form
  obtain ⟨a4, c4, rfl, _⟩ := h4.form
  simp only [spx, List.length_replicate] at h0 h1 h2 h3 h4 ⊢
  exact spoilt_sl h0 h1 h2 h3 h4 hx.cell hx.stack hx.queue hx.set hx.table hm0 hm1
end Go.Proofs.Ytglohochdgeonaa.Md
