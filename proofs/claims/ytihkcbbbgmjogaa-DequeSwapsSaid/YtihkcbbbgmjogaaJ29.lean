import Derived.Test.YtihkcbbbgmjogaaJ27
import Derived.Test.YtihkcbbbgmjogaaJ28
import Derived.Test.YtihkcbbbgmjogaaJ24
/-
  DequeSwaps: owned.
-/
namespace Go.Proofs.Ytihkcbbbgmjogaa.Dm
open Go.RowKit Go.Shelf Mr Me Ma Gm Dq
set_option linter.unusedVariables false
set_option linter.unusedSimpArgs false
set_option maxRecDepth 100000
theorem clc_at (cls : List Cl) (i : Nat) (x : Cl) (h : cls[i]? = some x) (j : Nat) (u : Value) (hj : x.cells[j]? = some u) (h9 : j < 9) : (clc cls)[i * 9 + j]? = some u := by
  induction cls generalizing i with
  | nil => simp at h
  | cons y cls ih =>
    have hl : (Cl.cells y).length = 9 := rfl
    have e : clc (y :: cls) = Cl.cells y ++ clc cls := by simp [clc]
    rw [e]
    cases i with
    | zero =>
      simp at h; subst h
      rw [List.getElem?_append_left (by omega)]
      simpa using hj
    | succ i =>
      rw [List.getElem?_append_right (by omega), hl]
      have : (i + 1) * 9 + j - 9 = i * 9 + j := by omega
      rw [this]
      exact ih i (by simpa using h)
def OwP (cls : List Cl) (m : Int) (w : World) (e : Ending) (w' : World) : Prop := ∃ b, e = .returned (.bool b) ∧ (b = true → ¬ Own cls m) ∧ Below w.heap.size w w'
theorem owp {cls : List Cl} {m : Int} {w w' : World} {e : Ending} (b : Bool) (h1 : e = .returned (.bool b)) (h2 : b = true → ¬ Own cls m) (h3 : Below w.heap.size w w') : OwP cls m w e w' := ⟨b, h1, h2, h3⟩
set_option maxHeartbeats 4000000 in
theorem owned_any {w : World} {S : Nat → Prop} {g c1 : Nat} {p2 p3 p4 : Option Addr} {n2 c2 n3 c3 n4 c4 : Nat} (cls : List Cl) (hh : Has w S 53 9 (.slice (some ⟨g, 0, none⟩) cls.length c1) cls.length (clc cls)) (hg : g < w.heap.size) (hn : cls.length ≤ 100000) (m : Int) :
    Calls Try.prog 16 #[.agg #[.slice (some ⟨g, 0, none⟩) cls.length c1, .slice p2 n2 c2, .slice p3 n3 c3, .slice p4 n4 c4], .int .i64 m] w (OwP cls m w) := by
  have hc := hh.cells (g := g) rfl
  obtain ⟨W0, hW0⟩ : ∃ W0, w.alloc (.cells #[.slice (some ⟨g, 0, none⟩) cls.length c1, .slice p2 n2 c2, .slice p3 n3 c3, .slice p4 n4 c4] 43 (0, 0)) = W0 := ⟨_, rfl⟩
  have g0 : W0.heap[w.heap.size]? = some (.cells #[.slice (some ⟨g, 0, none⟩) cls.length c1, .slice p2 n2 c2, .slice p3 n3 c3, .slice p4 n4 c4] 43 (0, 0)) := by rw [← hW0]; exact heap_alloc_new w _
  have B0 : Below w.heap.size w W0 := by rw [← hW0]; exact (Below.refl _ _).alloc (Nat.le_refl _) _
  have y0 : W0.cell? ⟨w.heap.size, 0, none⟩ = some (.slice (some ⟨g, 0, none⟩) cls.length c1) := cell_at g0 0
  have s0 : W0.heap.size = w.heap.size + 1 := by rw [← hW0]; simp
  have atc : Hid (∀ (W : World), Below W0.heap.size W0 W → ∀ (i : Nat) (x : Cl), cls[i]? = some x → W.cell? ⟨w.heap.size, 0, none⟩ = some (.slice (some ⟨g, 0, none⟩) cls.length c1) ∧ W.cell? ⟨g, i * 9, none⟩ = some (.int .i64 x.th) ∧ W.cell? ⟨g, i * 9 + 1, none⟩ = some (.int .i64 x.op) ∧ W.cell? ⟨g, i * 9 + 2, none⟩ = some (.int .i64 x.arg) ∧ W.cell? ⟨g, i * 9 + 3, none⟩ = some (.int .i64 x.data) ∧ W.cell? ⟨g, i * 9 + 4, none⟩ = some (.int .i64 x.beg) ∧ W.cell? ⟨g, i * 9 + 5, none⟩ = some (.int .i64 x.fin) ∧ W.cell? ⟨g, i * 9 + 6, none⟩ = some (.int .i64 x.pt) ∧ W.cell? ⟨g, i * 9 + 7, none⟩ = some (.int .i64 x.ak) ∧ W.cell? ⟨g, i * 9 + 8, none⟩ = some (.int .i64 x.av)) := Mr.hid (fun W hB i x hx => by
    have lift : ∀ j u, (clc cls)[j]? = some u → W.cell? ⟨g, j, none⟩ = some u := fun j u hu => (hB.cell (p := ⟨g, j, none⟩) (by show g < _; omega)).trans ((B0.cell (p := ⟨g, j, none⟩) hg).trans (hc j u hu))
    exact ⟨(hB.cell (p := ⟨w.heap.size, 0, none⟩) (by show w.heap.size < _; omega)).trans y0, lift _ _ (clc_at cls i x hx 0 _ rfl (by omega)), lift _ _ (clc_at cls i x hx 1 _ rfl (by omega)), lift _ _ (clc_at cls i x hx 2 _ rfl (by omega)), lift _ _ (clc_at cls i x hx 3 _ rfl (by omega)), lift _ _ (clc_at cls i x hx 4 _ rfl (by omega)), lift _ _ (clc_at cls i x hx 5 _ rfl (by omega)), lift _ _ (clc_at cls i x hx 6 _ rfl (by omega)), lift _ _ (clc_at cls i x hx 7 _ rfl (by omega)), lift _ _ (clc_at cls i x hx 8 _ rfl (by omega))⟩)
  have yb : Hid (∀ (W : World), Below W0.heap.size W0 W → W.cell? ⟨w.heap.size, 0, none⟩ = some (.slice (some ⟨g, 0, none⟩) cls.length c1)) := Mr.hid (fun W hB => (hB.cell (p := ⟨w.heap.size, 0, none⟩) (by show w.heap.size < _; omega)).trans y0)
  replace B0 := Mr.hid B0
  replace s0 := Mr.hid s0
  clear hh hc g0 y0
  go_enter Try.func16, Try.ntmps16
  go_wp2
  go_loopg [5] cls.length (fun k s wr => ∃ (i : Nat), s = .int .i64 (i : Int) ∧ i + k = cls.length ∧ Below W0.heap.size W0 wr)
  case atStart => exact ⟨0, rfl, by omega, Below.refl _ _⟩
  case round =>
    obtain ⟨i, rfl, hi, hB⟩ := hrel
    by_cases hlt : i < cls.length
    · obtain ⟨x, hx⟩ : ∃ x, cls[i]? = some x := ⟨_, List.getElem?_eq_getElem hlt⟩
      obtain ⟨z, z0, z1, z2, z3, z4, z5, z6, z7, z8⟩ := atc.out wr hB i x hx
      have hBB : Hid (∀ o, Below W0.heap.size W0 (wr.alloc o)) := Mr.hid (fun o => hB.alloc hB.size o)
      have hil : (i : Int) < (cls.length : Int) := by omega
      have no : Hid ((x.th == 0) = true → decide (x.beg < m) = true → (decide (x.fin < 0) = true ∨ decide (m ≤ x.fin) = true) → (x.op == 91) = true → ¬ Own cls m) := Mr.hid (fun e0 e1 e2 e3 ho => by
        have := ho i x hx (by simpa using e0) (by simpa using e3) (by simpa using e1)
        simp at e2
        omega)
      replace hB := Mr.hid hB
      clear hx
      generalize hb0 : (x.th == 0) = b0 at *
      generalize hb1 : decide (x.beg < m) = b1 at *
      generalize hb2 : decide (x.fin < 0) = b2 at *
      generalize hb3 : decide (m ≤ x.fin) = b3 at *
      generalize hb4 : (x.op == 91) = b4 at *
      have fin : Hid (∀ o, Below w.heap.size w (wr.alloc o)) := Mr.hid (fun o => B0.out.trans ((hBB.out o).mono (by have := s0.out; omega)))
      cases b0 with
      | false =>
        go_wp2
        go_roundg (gk - 1)
        case measure => omega
        case rel => exact ⟨i + 1, by simp, by omega, hBB.out _⟩
      | true =>
        cases b1 with
        | false =>
          go_wp2
          go_roundg (gk - 1)
          case measure => omega
          case rel => exact ⟨i + 1, by simp, by omega, hBB.out _⟩
        | true =>
          cases b2 with
          | true =>
            go_wp2
            go_ret
            exact owp b4 (by simp) (fun h => no.out (by simp) (by simp) (by simp) (by simpa using h)) (fin.out _)
          | false =>
            cases b3 with
            | true =>
              go_wp2
              go_ret
              exact owp b4 (by simp) (fun h => no.out (by simp) (by simp) (by simp) (by simpa using h)) (fin.out _)
            | false =>
              go_wp2
              go_roundg (gk - 1)
              case measure => omega
              case rel => exact ⟨i + 1, by simp, by omega, hBB.out _⟩
    · obtain rfl : i = cls.length := by omega
      have y := yb.out wr hB
      replace hB := Mr.hid hB
      go_wp2
      go_ret
      exact owp false (by simp) (fun h => (by cases h)) (B0.out.trans (hB.out.mono (by have := s0.out; omega)))
end Go.Proofs.Ytihkcbbbgmjogaa.Dm
/-
  DequeSwaps, Linear: played.
-/
namespace Go.Proofs.Ytihkcbbbgmjogaa.Dm
open Go.RowKit Go.Shelf Mr Me Ma Gm Dq Cn
set_option linter.unusedVariables false
set_option linter.unusedSimpArgs false
set_option maxRecDepth 100000
/-- What played leaves. -/
def PdP (w : World) (nt r : Nat) (ms : List Mv) (e : Ending) (w' : World) : Prop := ∃ v1 v2 v3 v4, e = .returned (.tuple #[runV v1 v2 v3 v4, .bool true]) ∧ Has w' (fun k => w.heap.size ≤ k) 53 9 v1 (Pl r (P0 nt r) ms).cls.length (clc (Pl r (P0 nt r) ms).cls) ∧ Has w' (fun k => w.heap.size ≤ k) 59 7 v2 (Pl r (P0 nt r) ms).lg.length (lgc (Pl r (P0 nt r) ms).lg) ∧ Has w' (fun k => w.heap.size ≤ k) 118 5 v3 0 [] ∧ Has w' (fun k => w.heap.size ≤ k) 56 1 v4 (Pl r (P0 nt r) ms).ws.length (wrd (Pl r (P0 nt r) ms).ws) ∧ Below w.heap.size w w'
set_option maxHeartbeats 4000000 in
theorem played_any (w : World) (nt r : Nat) (h1 : 1 ≤ nt) (h2 : nt ≤ 16) (h3 : 1 ≤ r) (h4 : r ≤ 256) (am : Option Addr) (nm cm : Nat) (ms : List Mv) (hm : MvAt w am nm ms) (hnm : nm ≤ 65536) :
    Calls Try.prog 15 #[.agg #[.int .i64 (nt : Int), .int .i64 (r : Int)], .slice am nm cm] w (PdP w nt r ms) := by
  obtain ⟨W0, hW0⟩ : ∃ W0, (w.alloc (dBox nt r)).alloc rnO = W0 := ⟨_, rfl⟩
  have B0 : Below w.heap.size w W0 := by rw [← hW0]; exact ((Below.refl _ _).alloc (Nat.le_refl _) _).alloc (by simp) _
  have b0 : Bp w nt r W0 := by
    rw [← hW0]
    refine ⟨(Below.heap_alloc _ _ _ (by simp)).trans (heap_alloc_new w _), ?_, ((Below.refl _ _).alloc (Nat.le_refl _) _).alloc (by simp) _⟩
    have := heap_alloc_new (w.alloc (dBox nt r)) rnO
    rw [World.size_alloc] at this
    exact this
  have y0 : W0.cell? ⟨w.heap.size, 0, none⟩ = some (.int .i64 (nt : Int)) := cell_at b0.c 0
  have y1 : W0.cell? ⟨w.heap.size, 1, none⟩ = some (.int .i64 (r : Int)) := cell_at b0.c 1
  have s0 : W0.heap.size = w.heap.size + 1 + 1 := by rw [← hW0]; simp
  replace b0 := Mr.hid b0
  have PL := play_d W0 nt r h1 h2 h3 h4 am nm cm ms (hm.below B0) hnm
  have AW := Mr.hid (fun w => awake_any w)
  replace PL := Mr.hid PL
  replace B0 := Mr.hid B0
  unfold dBox rnO at hW0
  clear hm
  go_enter Try.func15, Try.ntmps15
  go_wp2_with (first | (go_at_call 18; refine PL.out.mono ?_; clear PL; rintro e w1 ⟨v1, v2, v3, v4, rfl, hv1, hv2, hv3, hv4, hB⟩; obtain ⟨p1, q1, rfl, _⟩ := hv1.form; obtain ⟨p2, q2, rfl, _⟩ := hv2.form; obtain ⟨p3, q3, rfl, _⟩ := hv3.form; obtain ⟨p4, q4, rfl, _⟩ := hv4.form; replace hv1 := Mr.hid hv1; replace hv2 := Mr.hid hv2; replace hv3 := Mr.hid hv3; replace hv4 := Mr.hid hv4; have b1 := b0.out.below (hB.mono (by omega)); clear y0 y1 b0 hW0; obtain ⟨kc, kz⟩ := b1.run; have kc0 := kc 0 (by decide); have kc1 := kc 1 (by decide); have kc2 := kc 2 (by decide); have kc3 := kc 3 (by decide); clear kc; replace b1 := Mr.hid b1; have hs := hB.size; rw [s0] at hs; replace hB := Mr.hid hB; unfold runV))
  generalize hn1 : (Pl r (P0 nt r) ms).cls.length = n1 at *
  generalize hn2 : (Pl r (P0 nt r) ms).lg.length = n2 at *
  generalize hn4 : (Pl r (P0 nt r) ms).ws.length = n4 at *
  have hx : (w1.alloc (.cells #[.slice p1 n1 q1, .slice p2 n2 q2, .slice p3 0 q3, .slice p4 n4 q4] 43 (0, 0))).heap[w1.heap.size]? = some (.cells #[.slice p1 n1 q1, .slice p2 n2 q2, .slice p3 0 q3, .slice p4 n4 q4] 43 (0, 0)) := heap_alloc_new w1 _
  have hb1 : Below w1.heap.size w1 (w1.alloc (.cells #[.slice p1 n1 q1, .slice p2 n2 q2, .slice p3 0 q3, .slice p4 n4 q4] 43 (0, 0))) := (Below.refl _ _).alloc (Nat.le_refl _) _
  generalize w1.alloc (.cells #[.slice p1 n1 q1, .slice p2 n2 q2, .slice p3 0 q3, .slice p4 n4 q4] 43 (0, 0)) = Wc at *
  have hbw : Below w.heap.size w Wc := b1.out.b.trans (hb1.mono (by omega))
  replace hb1 := Mr.hid hb1
  replace hx := Mr.hid hx
  replace hbw := Mr.hid hbw
  replace hn1 := Mr.hid hn1
  replace hn2 := Mr.hid hn2
  replace hn4 := Mr.hid hn4
  refine wp_region_held_drew (S := fun w' => Below w.heap.size w w' ∧ w'.heap[w1.heap.size]? = some (.cells #[.slice p1 n1 q1, .slice p2 n2 q2, .slice p3 0 q3, .slice p4 n4 q4] 43 (0, 0))) (by kernel_rfl) ⟨hbw.out.drew, hx.out⟩ (fun hS => ?_)
  refine wpAnyH_take (i := 0) (oi := (⟨_, _, _, _, _, _⟩ : Oper)) (v := .agg #[.slice p1 n1 q1, .slice p2 n2 q2, .slice p3 0 q3, .slice p4 n4 q4]) rfl (by kernel_rfl) (by kernel_rfl) (by kernel_rfl) (fun _ _ _ h => h) (Or.inl ⟨by kernel_rfl, fun w9 hw9 => ?y0⟩) hS ?_
  case y0 =>
    have u0 := cell_at hw9.2 0
    have u1 := cell_at hw9.2 1
    have u2 := cell_at hw9.2 2
    have u3 := cell_at hw9.2 3
    clear hS
    go_simp
  try simp only [Act.put, List.getElem_toArray, List.getElem_cons_zero, List.getElem_cons_succ, List.setIfInBounds_toArray, List.set_cons_zero, List.set_cons_succ]
  refine wpAnyH_take (i := 1) (oi := (⟨_, _, _, _, _, _⟩ : Oper)) (v := .int .i64 0) rfl (by kernel_rfl) (by kernel_rfl) (by kernel_rfl) (fun _ _ _ h => h) (Or.inl ⟨by kernel_rfl, fun w9 hw9 => ?y1⟩) hS ?_
  case y1 =>
    clear hS
    go_simp
  try simp only [Act.put, List.getElem_toArray, List.getElem_cons_zero, List.getElem_cons_succ, List.setIfInBounds_toArray, List.set_cons_zero, List.set_cons_succ]
  refine wpAnyH_ready (rs := [2]) (by kernel_rfl) (by simp) ?_
  refine AllReadyH.cons (o := (⟨_, _, _, _, _, _⟩ : Oper)) rfl (fun K hK => ?_) AllReadyH.nil
  try simp only [Act.put, List.getElem_toArray, List.getElem_cons_zero, List.getElem_cons_succ, List.setIfInBounds_toArray, List.set_cons_zero, List.set_cons_succ]
  have hSh := Mr.hid hS
  clear hS
  go_simp
  refine (num_any _ _).mono ?_
  rintro e wn ⟨rfl, hw⟩
  obtain rfl := hw.symm
  refine hK.out _ _ hSh.out (fun hS => ?_)
  clear hK K hSh
  try simp only [Act.put, List.getElem_toArray, List.getElem_cons_zero, List.getElem_cons_succ, List.setIfInBounds_toArray, List.set_cons_zero, List.set_cons_succ]
  refine wpAnyH_take (i := 3) (oi := (⟨_, _, _, _, _, _⟩ : Oper)) (v := .bool true) rfl (by kernel_rfl) (by kernel_rfl) (by kernel_rfl) (fun _ _ _ h => h) (Or.inl ⟨by kernel_rfl, fun w9 hw9 => ?y3⟩) hS ?_
  case y3 =>
    clear hS
    go_simp
  try simp only [Act.put, List.getElem_toArray, List.getElem_cons_zero, List.getElem_cons_succ, List.setIfInBounds_toArray, List.set_cons_zero, List.set_cons_succ]
  refine wpAnyH_take (i := 4) (oi := (⟨_, _, _, _, _, _⟩ : Oper)) (v := .bool true) rfl (by kernel_rfl) (by kernel_rfl) (by kernel_rfl) (fun _ _ _ h => h) (Or.inl ⟨by kernel_rfl, fun w9 hw9 => ?y4⟩) hS ?_
  case y4 =>
    clear hS
    go_simp
  try simp only [Act.put, List.getElem_toArray, List.getElem_cons_zero, List.getElem_cons_succ, List.setIfInBounds_toArray, List.set_cons_zero, List.set_cons_succ]
  refine wpAnyH_ready (rs := [5]) (by kernel_rfl) (by simp) ?_
  refine AllReadyH.cons (o := (⟨_, _, _, _, _, _⟩ : Oper)) rfl (fun K hK => ?_) AllReadyH.nil
  try simp only [Act.put, List.getElem_toArray, List.getElem_cons_zero, List.getElem_cons_succ, List.setIfInBounds_toArray, List.set_cons_zero, List.set_cons_succ]
  have hSh := Mr.hid hS
  clear hS
  go_simp
  refine (AW.out _).mono ?_
  rintro e w3 ⟨rfl, hB3⟩
  have hB3' : Below w1.heap.size w1 w3 := Below.trans hb1.out.drew (hB3.mono (by have := hb1.out.size; simpa using this))
  refine hK.out _ _ ⟨hSh.out.1.trans (hB3.mono hSh.out.1.size), (hB3.block _ (Array.getElem?_eq_some_iff.1 hSh.out.2).1).trans hSh.out.2⟩ (fun hS => ?_)
  clear hK K hSh hB3
  try simp only [Act.put, List.getElem_toArray, List.getElem_cons_zero, List.getElem_cons_succ, List.setIfInBounds_toArray, List.set_cons_zero, List.set_cons_succ]
  refine wpAnyH_take (i := 6) (oi := (⟨_, _, _, _, _, _⟩ : Oper)) (v := .bool true) rfl (by kernel_rfl) (by kernel_rfl) (by kernel_rfl) (fun _ _ _ h => h) (Or.inl ⟨by kernel_rfl, fun w9 hw9 => ?y6⟩) hS ?_
  case y6 =>
    clear hS
    go_simp
  try simp only [Act.put, List.getElem_toArray, List.getElem_cons_zero, List.getElem_cons_succ, List.setIfInBounds_toArray, List.set_cons_zero, List.set_cons_succ]
  have b3 := b1.out.below (hB3'.mono b1.out.lt)
  clear kc0 kc1 kc2 kc3 kz
  obtain ⟨kc, kz⟩ := b3.run
  have kc0 := kc 0 (by decide)
  have kc1 := kc 1 (by decide)
  have kc2 := kc 2 (by decide)
  have kc3 := kc 3 (by decide)
  clear kc
  replace b3 := Mr.hid b3
  replace hB3' := Mr.hid hB3'
  refine wpAnyH_ready (rs := [7]) (by kernel_rfl) (by simp) ?_
  refine AllReadyH.cons (o := (⟨_, _, _, _, _, _⟩ : Oper)) rfl (fun K hK => ?_) AllReadyH.nil
  try simp only [Act.put, List.getElem_toArray, List.getElem_cons_zero, List.getElem_cons_succ, List.setIfInBounds_toArray, List.set_cons_zero, List.set_cons_succ]
  have hSh := Mr.hid hS
  clear hS
  go_simp
  refine hK.out _ _ (?sS) (fun hS => ?_)
  case sS => exact ⟨(((hSh.out.1.setCell (p := ⟨w.heap.size + 1, 0, none⟩) (by simp) _).setCell (p := ⟨w.heap.size + 1, 1, none⟩) (by simp) _).setCell (p := ⟨w.heap.size + 1, 2, none⟩) (by simp) _).setCell (p := ⟨w.heap.size + 1, 3, none⟩) (by simp) _, by
    have ne : w1.heap.size ≠ w.heap.size + 1 := by omega
    rw [Below.heap_setCell _ _ _ _ ne, Below.heap_setCell _ _ _ _ ne, Below.heap_setCell _ _ _ _ ne, Below.heap_setCell _ _ _ _ ne]; exact hSh.out.2⟩
  clear hK K
  try simp only [Act.put, List.getElem_toArray, List.getElem_cons_zero, List.getElem_cons_succ, List.setIfInBounds_toArray, List.set_cons_zero, List.set_cons_succ]
  refine wpAnyH_take (i := 8) (oi := (⟨_, _, _, _, _, _⟩ : Oper)) (v := .bool true) rfl (by kernel_rfl) (by kernel_rfl) (by kernel_rfl) (fun _ _ _ h => h) (Or.inl ⟨by kernel_rfl, fun w9 hw9 => ?y8⟩) hS ?_
  case y8 =>
    clear hS
    go_simp
  try simp only [Act.put, List.getElem_toArray, List.getElem_cons_zero, List.getElem_cons_succ, List.setIfInBounds_toArray, List.set_cons_zero, List.set_cons_succ]
  refine wpAnyH_done (by kernel_rfl) ?_ _
  have fin : ∀ W5, ((((w3.setCell ⟨w.heap.size + 1, 0, none⟩ (.slice p1 n1 q1)).setCell ⟨w.heap.size + 1, 1, none⟩ (.slice p2 n2 q2)).setCell ⟨w.heap.size + 1, 2, none⟩ (.slice p3 0 q3)).setCell ⟨w.heap.size + 1, 3, none⟩ (.slice p4 n4 q4)) = W5 → W5.heap[w.heap.size + 1]? = some (.cells #[.slice p1 n1 q1, .slice p2 n2 q2, .slice p3 0 q3, .slice p4 n4 q4] 43 (0, 0)) ∧ PdP w nt r ms (.returned (.tuple #[runV (.slice p1 n1 q1) (.slice p2 n2 q2) (.slice p3 0 q3) (.slice p4 n4 q4), .bool true])) W5 := fun W5 hW5 => by
    have hr6 : w3.heap[w.heap.size + 1]? = some (.cells #[.slice none 0 0, .slice none 0 0, .slice none 0 0, .slice none 0 0] 43 (0, 0)) := b3.out.r
    have hb5 : W5.heap[w.heap.size + 1]? = some (.cells #[.slice p1 n1 q1, .slice p2 n2 q2, .slice p3 0 q3, .slice p4 n4 q4] 43 (0, 0)) := by
      rw [← hW5, setBlk (setBlk (setBlk (setBlk hr6 0 _) 1 _) 2 _) 3 _]
      rfl
    have ho5 : ∀ k, k ≠ w.heap.size + 1 → W5.heap[k]? = w3.heap[k]? := fun k hk => by
      rw [← hW5, Below.heap_setCell _ _ _ k hk, Below.heap_setCell _ _ _ k hk, Below.heap_setCell _ _ _ k hk, Below.heap_setCell _ _ _ k hk]
    have hB5 : Below w.heap.size w W5 := by rw [← hW5]; exact hS.1
    have keep : ∀ {e size m : Nat} {v : Value} {xs : List Value}, Has w1 (fun k => W0.heap.size ≤ k) e size v m xs → Has W5 (fun k => w.heap.size ≤ k) e size v m xs := fun {e size m v xs} hh =>
      hh.kept (fun k hk => by
        have h9 := hh.lt k hk
        exact (ho5 k (fun e' => by have := h9.1; omega)).trans (hB3'.out.block k h9.2)) (fun k hk => by have := (hh.lt k hk).1; omega)
    refine ⟨hb5, _, _, _, _, rfl, ?_, ?_, keep hv3.out, ?_, hB5⟩
    · rw [hn1.out]; exact keep hv1.out
    · rw [hn2.out]; exact keep hv2.out
    · rw [hn4.out]; exact keep hv4.out
  generalize ((((w3.setCell ⟨w.heap.size + 1, 0, none⟩ (.slice p1 n1 q1)).setCell ⟨w.heap.size + 1, 1, none⟩ (.slice p2 n2 q2)).setCell ⟨w.heap.size + 1, 2, none⟩ (.slice p3 0 q3)).setCell ⟨w.heap.size + 1, 3, none⟩ (.slice p4 n4 q4)) = W5 at *
  obtain ⟨hb5, hP⟩ := fin W5 rfl
  have d0 := cell_at hb5 0
  have d1 := cell_at hb5 1
  have d2 := cell_at hb5 2
  have d3 := cell_at hb5 3
  simp at d0 d1 d2 d3
  replace hP := Mr.hid hP
  clear fin hS hb5 kc0 kc1 kc2 kc3 kz hSh
  go_wp2
  refine bodyPost_ret (v := .tuple #[runV (.slice p1 n1 q1) (.slice p2 n2 q2) (.slice p3 0 q3) (.slice p4 n4 q4), .bool true]) (by simp [results, Try.results15, go_sem, d0, d1, d2, d3, runV]) rfl hP.out
end Go.Proofs.Ytihkcbbbgmjogaa.Dm
