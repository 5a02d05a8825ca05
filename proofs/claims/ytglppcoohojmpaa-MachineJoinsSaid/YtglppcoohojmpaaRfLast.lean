import Derived.Test.YtglppcoohojmpaaRfLcP
import Derived.Test.YtglppcoohojmpaaRfAsk
import Derived.Test.YtglppcoohojmpaaJ23
import Derived.Deep.RegionHeld3
/-
  THE DOCUMENT's machine, asked: a thread's last call.
-/
namespace Go.Proofs.Ytglppcoohojmpaa.Rf
open Go.RowKit Go.Shelf Mr Me Ma
section
variable {W : World} {U : Nat → Prop} {q : Rc} {vc vl vs : Value} {s : Rs}
def noBeg : Cl := ⟨0, 0, 0, 0, -1, 0, 0, 0, 0⟩
set_option maxRecDepth 100000 in
set_option maxHeartbeats 4000000 in
theorem last_some (h : Rm W U q vc vl vs s) (y : Int) (c : Nat) (cl : Cl) (hL : LastAt s.cls y c cl) (hsm : s.cls.length ≤ 100000) :
    Calls Try.prog 26 #[.pointer (some ⟨q.b, 0, none⟩), .int .i64 y] W fun e w' => e = .returned (.tuple #[cl.val, .bool (decide (cl.fin < 0))]) ∧ Below W.heap.size W w' := by
  unfold Cl.val
  have hc : c < s.cls.length := (List.getElem?_eq_some_iff.1 hL.1).1
  replace hL := Mr.hid hL
  obtain ⟨W1, hW1⟩ : ∃ W1, W.alloc (.cells #[.int .i64 0, .int .i64 0, .int .i64 0, .int .i64 0, .int .i64 0, .int .i64 0, .int .i64 0, .int .i64 0, .int .i64 0] 78) = W1 := ⟨_, rfl⟩
  have hB1 : Below W.heap.size W W1 := by rw [← hW1]; exact (Below.refl W.heap.size W).alloc (Nat.le_refl _) _
  have h1 := h.below hB1
  obtain ⟨_, _, x24, _, _⟩ := h1.cells
  have l1 : q.b < W.heap.size := h.lt
  have hbox : W1.heap[W.heap.size]? = some (.cells #[.int .i64 0, .int .i64 0, .int .i64 0, .int .i64 0, .int .i64 0, .int .i64 0, .int .i64 0, .int .i64 0, .int .i64 0] 78 (0, 0)) := by rw [← hW1]; exact heap_alloc_new W _
  have hz : ∀ o, W1.frozen? ⟨W.heap.size, o, none⟩ = false := fun o => by simp [World.frozen?, hbox]
  have d0 : W1.cell? ⟨W.heap.size, 0, none⟩ = some (.int .i64 0) := by simp [World.cell?, hbox]
  have d1 : W1.cell? ⟨W.heap.size, 1, none⟩ = some (.int .i64 0) := by simp [World.cell?, hbox]
  have d2 : W1.cell? ⟨W.heap.size, 2, none⟩ = some (.int .i64 0) := by simp [World.cell?, hbox]
  have d3 : W1.cell? ⟨W.heap.size, 3, none⟩ = some (.int .i64 0) := by simp [World.cell?, hbox]
  have d4 : W1.cell? ⟨W.heap.size, 4, none⟩ = some (.int .i64 0) := by simp [World.cell?, hbox]
  have d5 : W1.cell? ⟨W.heap.size, 5, none⟩ = some (.int .i64 0) := by simp [World.cell?, hbox]
  have d6 : W1.cell? ⟨W.heap.size, 6, none⟩ = some (.int .i64 0) := by simp [World.cell?, hbox]
  have d7 : W1.cell? ⟨W.heap.size, 7, none⟩ = some (.int .i64 0) := by simp [World.cell?, hbox]
  have d8 : W1.cell? ⟨W.heap.size, 8, none⟩ = some (.int .i64 0) := by simp [World.cell?, hbox]
  have hs1 : W1.heap.size = W.heap.size + 1 := by rw [← hW1]; simp
  have n1 : q.b ≠ W.heap.size := by omega
  have n1' : W.heap.size ≠ q.b := by omega
  have hcl := h1.cl
  have hcw : ∀ k, vc.ownBlock = some k → k < W.heap.size := fun k hk => (h.cl.lt k hk).2
  obtain ⟨pv, cv, rfl, _⟩ := hcl.form
  have CE := Mr.hid (fun (j : Nat) (x : Cl) (hx : s.cls[j]? = some x) => (show ∃ gc, pv = some ⟨gc, 0, none⟩ ∧ gc < W.heap.size ∧ cv ≤ 9223372036854775807 ∧ W1.cell? ⟨gc, j * 9, none⟩ = some (.int .i64 x.th) ∧ W1.cell? ⟨gc, j * 9 + 1, none⟩ = some (.int .i64 x.op) ∧ W1.cell? ⟨gc, j * 9 + 2, none⟩ = some (.int .i64 x.arg) ∧ W1.cell? ⟨gc, j * 9 + 3, none⟩ = some (.int .i64 x.data) ∧ W1.cell? ⟨gc, j * 9 + 4, none⟩ = some (.int .i64 x.beg) ∧ W1.cell? ⟨gc, j * 9 + 5, none⟩ = some (.int .i64 x.fin) ∧ W1.cell? ⟨gc, j * 9 + 6, none⟩ = some (.int .i64 x.pt) ∧ W1.cell? ⟨gc, j * 9 + 7, none⟩ = some (.int .i64 x.ak) ∧ W1.cell? ⟨gc, j * 9 + 8, none⟩ = some (.int .i64 x.av) by
    obtain ⟨gc, cc, hgc, _, gl, gn, gx⟩ := hcl.there (by have := (List.getElem?_eq_some_iff.1 hx).1; omega)
    cases hgc
    unfold maxLen at gx
    have cc0 := cl_cells hcl hx
    exact ⟨gc, rfl, hcw gc rfl, by omega, cc0⟩))
  replace hB1 := Mr.hid hB1
  replace hbox := Mr.hid hbox
  replace h := Mr.hid h
  clear h1 hcl hcw
  go_enter Try.func26, Try.ntmps26
  go_wp2
  go_loopg [6] s.cls.length (fun k s6 wr => wr = W1 ∧ k ≤ s.cls.length ∧ c < k ∧ s6 = .int .i64 ((k : Int) - 1))
  case atStart => exact ⟨rfl, Nat.le_refl _, hc, by simp⟩
  case round =>
    obtain ⟨hwr, hk, hinv, rfl⟩ := hrel
    obtain rfl := hwr.symm
    cases gk with
    | zero =>
      omega
    | succ j =>
      obtain ⟨x, hx⟩ : ∃ x, s.cls[j]? = some x := ⟨_, List.getElem?_eq_getElem (by omega)⟩
      obtain ⟨gc, rfl, hgc, hcv, e0, e1, e2, e3, e4, e5, e6, e7, e8⟩ := CE.out j x hx
      have ej : ((j + 1 : Nat) : Int) - 1 = (j : Int) := by omega
      rw [ej]
      have hjl : (j : Int) < (s.cls.length : Int) := by omega
      have n4 : gc ≠ W.heap.size := by omega
      have n4' : W.heap.size ≠ gc := by omega
      by_cases hth : x.th = y
      · have ecj : c = j := by
          rcases Nat.lt_trichotomy c j with e | e | e
          · exact absurd hth (hL.out.2.2 j x e hx)
          · exact e
          · omega
        have ecl : x = cl := by rw [← ecj, hL.out.1] at hx; exact (Option.some.inj hx).symm
        subst ecl
        have bt : (x.th == y) = true := by simpa using hth
        clear hx hth ecj hL CE
        replace hinv := Mr.hid hinv
        generalize s.cls.length = NC at *
        go_wp2
        go_region_held3 (fun w' => w'.cell? ⟨q.b, 24, none⟩ = some (.slice (some ⟨gc, 0, none⟩) NC cv) ∧ w'.cell? ⟨gc, j * 9, none⟩ = some (.int .i64 x.th) ∧ w'.cell? ⟨gc, j * 9 + 1, none⟩ = some (.int .i64 x.op) ∧ w'.cell? ⟨gc, j * 9 + 2, none⟩ = some (.int .i64 x.arg) ∧ w'.cell? ⟨gc, j * 9 + 3, none⟩ = some (.int .i64 x.data) ∧ w'.cell? ⟨gc, j * 9 + 4, none⟩ = some (.int .i64 x.beg) ∧ w'.cell? ⟨gc, j * 9 + 5, none⟩ = some (.int .i64 x.fin) ∧ w'.cell? ⟨gc, j * 9 + 6, none⟩ = some (.int .i64 x.pt) ∧ w'.cell? ⟨gc, j * 9 + 7, none⟩ = some (.int .i64 x.ak) ∧ w'.cell? ⟨gc, j * 9 + 8, none⟩ = some (.int .i64 x.av)) (go_keep)
          (fail)
        go_wp2
        obtain ⟨W5, hW5⟩ : ∃ W5, ((((((((W1.setCell ⟨W.heap.size, 0, none⟩ (.int .i64 x.th)).setCell ⟨W.heap.size, 1, none⟩ (.int .i64 x.op)).setCell ⟨W.heap.size, 2, none⟩ (.int .i64 x.arg)).setCell ⟨W.heap.size, 3, none⟩ (.int .i64 x.data)).setCell ⟨W.heap.size, 4, none⟩ (.int .i64 x.beg)).setCell ⟨W.heap.size, 5, none⟩ (.int .i64 x.fin)).setCell ⟨W.heap.size, 6, none⟩ (.int .i64 x.pt)).setCell ⟨W.heap.size, 7, none⟩ (.int .i64 x.ak)).setCell ⟨W.heap.size, 8, none⟩ (.int .i64 x.av) = W5 := ⟨_, rfl⟩
        have hb5 : W5.heap[W.heap.size]? = some (.cells #[.int .i64 x.th, .int .i64 x.op, .int .i64 x.arg, .int .i64 x.data, .int .i64 x.beg, .int .i64 x.fin, .int .i64 x.pt, .int .i64 x.ak, .int .i64 x.av] 78 (0, 0)) := by
          rw [← hW5]
          exact box9 hbox.out _ _ _ _ _ _ _ _ _
        have hB5 : Below W.heap.size W W5.drew := by
          rw [← hW5]
          exact (below9 hB1.out (Nat.le_refl _) _ _ _ _ _ _ _ _ _).drew
        rw [hW5]
        have g0 : W5.drew.cell? ⟨W.heap.size, 0, none⟩ = some (.int .i64 x.th) := by rw [World.cell?_drew]; simp [World.cell?, hb5]
        have g1 : W5.drew.cell? ⟨W.heap.size, 1, none⟩ = some (.int .i64 x.op) := by rw [World.cell?_drew]; simp [World.cell?, hb5]
        have g2 : W5.drew.cell? ⟨W.heap.size, 2, none⟩ = some (.int .i64 x.arg) := by rw [World.cell?_drew]; simp [World.cell?, hb5]
        have g3 : W5.drew.cell? ⟨W.heap.size, 3, none⟩ = some (.int .i64 x.data) := by rw [World.cell?_drew]; simp [World.cell?, hb5]
        have g4 : W5.drew.cell? ⟨W.heap.size, 4, none⟩ = some (.int .i64 x.beg) := by rw [World.cell?_drew]; simp [World.cell?, hb5]
        have g5 : W5.drew.cell? ⟨W.heap.size, 5, none⟩ = some (.int .i64 x.fin) := by rw [World.cell?_drew]; simp [World.cell?, hb5]
        have g6 : W5.drew.cell? ⟨W.heap.size, 6, none⟩ = some (.int .i64 x.pt) := by rw [World.cell?_drew]; simp [World.cell?, hb5]
        have g7 : W5.drew.cell? ⟨W.heap.size, 7, none⟩ = some (.int .i64 x.ak) := by rw [World.cell?_drew]; simp [World.cell?, hb5]
        have g8 : W5.drew.cell? ⟨W.heap.size, 8, none⟩ = some (.int .i64 x.av) := by rw [World.cell?_drew]; simp [World.cell?, hb5]
        refine bodyPost_ret (v := .tuple #[.agg #[.int .i64 x.th, .int .i64 x.op, .int .i64 x.arg, .int .i64 x.data, .int .i64 x.beg, .int .i64 x.fin, .int .i64 x.pt, .int .i64 x.ak, .int .i64 x.av], .bool (decide (x.fin < 0))]) (by simp [results, Try.f26, go_sem, g0, g1, g2, g3, g4, g5, g6, g7, g8]) rfl ⟨rfl, hB5⟩
      · have bt : (x.th == y) = false := by simpa using hth
        have hx' := Mr.hid hx
        clear hx
        go_wp2
        go_roundg j
        case measure => omega
        case rel => exact ⟨rfl, by omega, by
            rcases Nat.lt_or_ge c j with e | e
            · exact e
            · exfalso
              have : c = j := by omega
              have hx0 := hx'.out
              rw [← this, hL.out.1] at hx0
              obtain rfl := Option.some.inj hx0
              exact hth hL.out.2.1, by simp⟩
set_option maxRecDepth 100000 in
set_option maxHeartbeats 4000000 in
theorem last_none (h : Rm W U q vc vl vs s) (y : Int) (hN : NoneAt s.cls y) (hsm : s.cls.length ≤ 100000) :
    Calls Try.prog 26 #[.pointer (some ⟨q.b, 0, none⟩), .int .i64 y] W fun e w' => e = .returned (.tuple #[noBeg.val, .bool false]) ∧ Below W.heap.size W w' := by
  have e0 : noBeg.val = .agg #[.int .i64 0, .int .i64 0, .int .i64 0, .int .i64 0, .int .i64 (-1), .int .i64 0, .int .i64 0, .int .i64 0, .int .i64 0] := rfl
  rw [e0]
  clear e0
  replace hN := Mr.hid hN
  obtain ⟨W1, hW1⟩ : ∃ W1, W.alloc (.cells #[.int .i64 0, .int .i64 0, .int .i64 0, .int .i64 0, .int .i64 0, .int .i64 0, .int .i64 0, .int .i64 0, .int .i64 0] 78) = W1 := ⟨_, rfl⟩
  have hB1 : Below W.heap.size W W1 := by rw [← hW1]; exact (Below.refl W.heap.size W).alloc (Nat.le_refl _) _
  have h1 := h.below hB1
  obtain ⟨_, _, x24, _, _⟩ := h1.cells
  have l1 : q.b < W.heap.size := h.lt
  have hbox : W1.heap[W.heap.size]? = some (.cells #[.int .i64 0, .int .i64 0, .int .i64 0, .int .i64 0, .int .i64 0, .int .i64 0, .int .i64 0, .int .i64 0, .int .i64 0] 78 (0, 0)) := by rw [← hW1]; exact heap_alloc_new W _
  have hz : ∀ o, W1.frozen? ⟨W.heap.size, o, none⟩ = false := fun o => by simp [World.frozen?, hbox]
  have d0 : W1.cell? ⟨W.heap.size, 0, none⟩ = some (.int .i64 0) := by simp [World.cell?, hbox]
  have d1 : W1.cell? ⟨W.heap.size, 1, none⟩ = some (.int .i64 0) := by simp [World.cell?, hbox]
  have d2 : W1.cell? ⟨W.heap.size, 2, none⟩ = some (.int .i64 0) := by simp [World.cell?, hbox]
  have d3 : W1.cell? ⟨W.heap.size, 3, none⟩ = some (.int .i64 0) := by simp [World.cell?, hbox]
  have d4 : W1.cell? ⟨W.heap.size, 4, none⟩ = some (.int .i64 0) := by simp [World.cell?, hbox]
  have d5 : W1.cell? ⟨W.heap.size, 5, none⟩ = some (.int .i64 0) := by simp [World.cell?, hbox]
  have d6 : W1.cell? ⟨W.heap.size, 6, none⟩ = some (.int .i64 0) := by simp [World.cell?, hbox]
  have d7 : W1.cell? ⟨W.heap.size, 7, none⟩ = some (.int .i64 0) := by simp [World.cell?, hbox]
  have d8 : W1.cell? ⟨W.heap.size, 8, none⟩ = some (.int .i64 0) := by simp [World.cell?, hbox]
  have hs1 : W1.heap.size = W.heap.size + 1 := by rw [← hW1]; simp
  have n1 : q.b ≠ W.heap.size := by omega
  have n1' : W.heap.size ≠ q.b := by omega
  have hcl := h1.cl
  have hcw : ∀ k, vc.ownBlock = some k → k < W.heap.size := fun k hk => (h.cl.lt k hk).2
  obtain ⟨pv, cv, rfl, _⟩ := hcl.form
  have CE := Mr.hid (fun (j : Nat) (x : Cl) (hx : s.cls[j]? = some x) => (show ∃ gc, pv = some ⟨gc, 0, none⟩ ∧ gc < W.heap.size ∧ cv ≤ 9223372036854775807 ∧ W1.cell? ⟨gc, j * 9, none⟩ = some (.int .i64 x.th) ∧ W1.cell? ⟨gc, j * 9 + 1, none⟩ = some (.int .i64 x.op) ∧ W1.cell? ⟨gc, j * 9 + 2, none⟩ = some (.int .i64 x.arg) ∧ W1.cell? ⟨gc, j * 9 + 3, none⟩ = some (.int .i64 x.data) ∧ W1.cell? ⟨gc, j * 9 + 4, none⟩ = some (.int .i64 x.beg) ∧ W1.cell? ⟨gc, j * 9 + 5, none⟩ = some (.int .i64 x.fin) ∧ W1.cell? ⟨gc, j * 9 + 6, none⟩ = some (.int .i64 x.pt) ∧ W1.cell? ⟨gc, j * 9 + 7, none⟩ = some (.int .i64 x.ak) ∧ W1.cell? ⟨gc, j * 9 + 8, none⟩ = some (.int .i64 x.av) by
    obtain ⟨gc, cc, hgc, _, gl, gn, gx⟩ := hcl.there (by have := (List.getElem?_eq_some_iff.1 hx).1; omega)
    cases hgc
    unfold maxLen at gx
    have cc0 := cl_cells hcl hx
    exact ⟨gc, rfl, hcw gc rfl, by omega, cc0⟩))
  replace hB1 := Mr.hid hB1
  replace hbox := Mr.hid hbox
  replace h := Mr.hid h
  clear h1 hcl hcw
  go_enter Try.func26, Try.ntmps26
  go_wp2
  go_loopg [6] s.cls.length (fun k s6 wr => wr = W1 ∧ k ≤ s.cls.length ∧ True ∧ s6 = .int .i64 ((k : Int) - 1))
  case atStart => exact ⟨rfl, Nat.le_refl _, trivial, by simp⟩
  case round =>
    obtain ⟨hwr, hk, hinv, rfl⟩ := hrel
    obtain rfl := hwr.symm
    cases gk with
    | zero =>
        have ej : ((0 : Nat) : Int) - 1 = -1 := rfl
        rw [ej]
        clear CE hN hinv
        go_wp2
        obtain ⟨W5, hW5⟩ : ∃ W5, ((((((((W1.setCell ⟨W.heap.size, 0, none⟩ (.int .i64 0)).setCell ⟨W.heap.size, 1, none⟩ (.int .i64 0)).setCell ⟨W.heap.size, 2, none⟩ (.int .i64 0)).setCell ⟨W.heap.size, 3, none⟩ (.int .i64 0)).setCell ⟨W.heap.size, 4, none⟩ (.int .i64 (-1))).setCell ⟨W.heap.size, 5, none⟩ (.int .i64 0)).setCell ⟨W.heap.size, 6, none⟩ (.int .i64 0)).setCell ⟨W.heap.size, 7, none⟩ (.int .i64 0)).setCell ⟨W.heap.size, 8, none⟩ (.int .i64 0) = W5 := ⟨_, rfl⟩
        have hb5 : W5.heap[W.heap.size]? = some (.cells #[.int .i64 0, .int .i64 0, .int .i64 0, .int .i64 0, .int .i64 (-1), .int .i64 0, .int .i64 0, .int .i64 0, .int .i64 0] 78 (0, 0)) := by
          rw [← hW5]
          exact box9 hbox.out _ _ _ _ _ _ _ _ _
        have hB5 : Below W.heap.size W W5 := by
          rw [← hW5]
          exact (below9 hB1.out (Nat.le_refl _) _ _ _ _ _ _ _ _ _)
        rw [hW5]
        have g0 : W5.cell? ⟨W.heap.size, 0, none⟩ = some (.int .i64 0) := by simp [World.cell?, hb5]
        have g1 : W5.cell? ⟨W.heap.size, 1, none⟩ = some (.int .i64 0) := by simp [World.cell?, hb5]
        have g2 : W5.cell? ⟨W.heap.size, 2, none⟩ = some (.int .i64 0) := by simp [World.cell?, hb5]
        have g3 : W5.cell? ⟨W.heap.size, 3, none⟩ = some (.int .i64 0) := by simp [World.cell?, hb5]
        have g4 : W5.cell? ⟨W.heap.size, 4, none⟩ = some (.int .i64 (-1)) := by simp [World.cell?, hb5]
        have g5 : W5.cell? ⟨W.heap.size, 5, none⟩ = some (.int .i64 0) := by simp [World.cell?, hb5]
        have g6 : W5.cell? ⟨W.heap.size, 6, none⟩ = some (.int .i64 0) := by simp [World.cell?, hb5]
        have g7 : W5.cell? ⟨W.heap.size, 7, none⟩ = some (.int .i64 0) := by simp [World.cell?, hb5]
        have g8 : W5.cell? ⟨W.heap.size, 8, none⟩ = some (.int .i64 0) := by simp [World.cell?, hb5]
        refine bodyPost_ret (v := .tuple #[.agg #[.int .i64 0, .int .i64 0, .int .i64 0, .int .i64 0, .int .i64 (-1), .int .i64 0, .int .i64 0, .int .i64 0, .int .i64 0], .bool (false)]) (by simp [results, Try.f26, go_sem, g0, g1, g2, g3, g4, g5, g6, g7, g8]) rfl ⟨rfl, hB5⟩
    | succ j =>
      obtain ⟨x, hx⟩ : ∃ x, s.cls[j]? = some x := ⟨_, List.getElem?_eq_getElem (by omega)⟩
      obtain ⟨gc, rfl, hgc, hcv, e0, e1, e2, e3, e4, e5, e6, e7, e8⟩ := CE.out j x hx
      have ej : ((j + 1 : Nat) : Int) - 1 = (j : Int) := by omega
      rw [ej]
      have hjl : (j : Int) < (s.cls.length : Int) := by omega
      have n4 : gc ≠ W.heap.size := by omega
      have n4' : W.heap.size ≠ gc := by omega
      by_cases hth : x.th = y
      · exact absurd hth (hN.out j x hx)
      · have bt : (x.th == y) = false := by simpa using hth
        have hx' := Mr.hid hx
        clear hx
        go_wp2
        go_roundg j
        case measure => omega
        case rel => exact ⟨rfl, by omega, trivial, by simp⟩
end
end Go.Proofs.Ytglppcoohojmpaa.Rf
