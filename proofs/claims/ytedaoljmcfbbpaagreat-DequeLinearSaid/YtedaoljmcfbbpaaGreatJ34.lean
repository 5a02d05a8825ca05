import Derived.Test.YtedaoljmcfbbpaaGreatJ33
import Derived.Test.YtedaoljmcfbbpaaGreatJ24
/-
  awake of reclaimlaw21 (made by mk_dmaw.py); num, fits.
-/
namespace Go.Proofs.YtedaoljmcfbbpaaGreat.Dm
open Go.RowKit Go.Shelf Mr Me Ma Gm Dq
set_option linter.unusedVariables false
set_option linter.unusedSimpArgs false
def awm : List Mv := [⟨0, 90, 5, 0⟩, ⟨0, 0, 0, 0⟩, ⟨0, 0, 0, 0⟩, ⟨0, 0, 0, 0⟩, ⟨0, 0, 0, 0⟩, ⟨0, 90, 6, 0⟩, ⟨0, 0, 0, 0⟩, ⟨0, 0, 0, 0⟩, ⟨0, 0, 0, 0⟩, ⟨0, 0, 0, 0⟩, ⟨1, 92, 0, 0⟩, ⟨1, 0, 0, 0⟩, ⟨1, 0, 0, 0⟩, ⟨1, 0, 0, 0⟩, ⟨1, 0, 0, 0⟩, ⟨0, 91, 0, 0⟩, ⟨0, 0, 0, 0⟩, ⟨0, 0, 0, 0⟩, ⟨0, 0, 0, 0⟩, ⟨0, 0, 0, 0⟩, ⟨0, 0, 0, 0⟩, ⟨0, 0, 0, 0⟩]
theorem aw_cls : (Pl 2 (P0 2 2) awm).cls = [⟨0, 90, 5, 0, 0, 4, 4, 1, 0⟩, ⟨0, 90, 6, 0, 5, 9, 9, 1, 0⟩, ⟨1, 92, 0, 0, 10, 14, 14, 2, 5⟩, ⟨0, 91, 0, 0, 15, 21, 17, 2, 6⟩] := by kernel_rfl
def awo : Obj := .cells #[.int .i64 0, .int .i64 90, .int .i64 5, .int .i64 0, .int .i64 0, .int .i64 0, .int .i64 0, .int .i64 0, .int .i64 0, .int .i64 0, .int .i64 0, .int .i64 0, .int .i64 0, .int .i64 0, .int .i64 0, .int .i64 0, .int .i64 0, .int .i64 0, .int .i64 0, .int .i64 0, .int .i64 0, .int .i64 90, .int .i64 6, .int .i64 0, .int .i64 0, .int .i64 0, .int .i64 0, .int .i64 0, .int .i64 0, .int .i64 0, .int .i64 0, .int .i64 0, .int .i64 0, .int .i64 0, .int .i64 0, .int .i64 0, .int .i64 0, .int .i64 0, .int .i64 0, .int .i64 0, .int .i64 1, .int .i64 92, .int .i64 0, .int .i64 0, .int .i64 1, .int .i64 0, .int .i64 0, .int .i64 0, .int .i64 1, .int .i64 0, .int .i64 0, .int .i64 0, .int .i64 1, .int .i64 0, .int .i64 0, .int .i64 0, .int .i64 1, .int .i64 0, .int .i64 0, .int .i64 0, .int .i64 0, .int .i64 91, .int .i64 0, .int .i64 0, .int .i64 0, .int .i64 0, .int .i64 0, .int .i64 0, .int .i64 0, .int .i64 0, .int .i64 0, .int .i64 0, .int .i64 0, .int .i64 0, .int .i64 0, .int .i64 0, .int .i64 0, .int .i64 0, .int .i64 0, .int .i64 0, .int .i64 0, .int .i64 0, .int .i64 0, .int .i64 0, .int .i64 0, .int .i64 0, .int .i64 0, .int .i64 0] 54 (0, 0)
theorem aw_at (w : World) : MvAt (w.alloc awo) (some ⟨w.heap.size, 0, none⟩) 22 awm := by
  refine ⟨rfl, .inr ⟨_, 0, rfl, by simp, fun j hj => ?_⟩⟩
  have hb : (w.alloc awo).heap[w.heap.size]? = some awo := heap_alloc_new w _
  generalize w.alloc awo = W at *
  have hj' : j = 0 ∨ j = 1 ∨ j = 2 ∨ j = 3 ∨ j = 4 ∨ j = 5 ∨ j = 6 ∨ j = 7 ∨ j = 8 ∨ j = 9 ∨ j = 10 ∨ j = 11 ∨ j = 12 ∨ j = 13 ∨ j = 14 ∨ j = 15 ∨ j = 16 ∨ j = 17 ∨ j = 18 ∨ j = 19 ∨ j = 20 ∨ j = 21 := by simp [awm] at hj; omega
  rcases hj' with rfl | rfl | rfl | rfl | rfl | rfl | rfl | rfl | rfl | rfl | rfl | rfl | rfl | rfl | rfl | rfl | rfl | rfl | rfl | rfl | rfl | rfl <;> exact ⟨cell_at hb _, cell_at hb _, cell_at hb _, cell_at hb _⟩
/-- The example, played. -/
theorem aw_play (w : World) : Calls Tryz.prog 14 #[.agg #[.int .i64 2, .int .i64 2], .slice (some ⟨w.heap.size, 0, none⟩) 22 22] (w.alloc awo) fun e w' => ∃ g1 c1 p2 n2 c2 p3 c3 p4 n4 c4, e = .returned (.tuple #[.agg #[.slice (some ⟨g1, 0, none⟩) 4 c1, .slice p2 n2 c2, .slice p3 0 c3, .slice p4 n4 c4], .int .i64 0]) ∧ g1 < w'.heap.size ∧ (w'.cell? ⟨g1, 25, none⟩ = some (.int .i64 2) ∧ w'.cell? ⟨g1, 26, none⟩ = some (.int .i64 5) ∧ w'.cell? ⟨g1, 33, none⟩ = some (.int .i64 17) ∧ w'.cell? ⟨g1, 34, none⟩ = some (.int .i64 2) ∧ w'.cell? ⟨g1, 35, none⟩ = some (.int .i64 6)) ∧ Below w.heap.size w w' := by
  refine (play_d (w.alloc awo) 2 2 (by decide) (by decide) (by decide) (by decide) _ _ 22 _ (aw_at w) (by decide)).mono ?_
  rintro e w' ⟨v1, v2, v3, v4, rfl, hv1, hv2, hv3, hv4, hB⟩
  rw [aw_cls] at hv1
  obtain ⟨g1, c1, rfl, _, l1, _⟩ := hv1.there (by decide)
  obtain ⟨p3, c3, rfl, _⟩ := hv3.form
  obtain ⟨p2, c2, rfl, _⟩ := hv2.form
  obtain ⟨p4, c4, rfl, _⟩ := hv4.form
  have k1 := hv1.cells (g := g1) rfl
  refine ⟨g1, c1, p2, _, c2, p3, c3, p4, _, c4, rfl, l1, ⟨k1 25 _ rfl, k1 26 _ rfl, k1 33 _ rfl, k1 34 _ rfl, k1 35 _ rfl⟩, ?_⟩
  simp only [World.size_alloc] at hB
  exact ((Below.refl w.heap.size w).alloc (Nat.le_refl _) _).trans (hB.mono (by omega))
theorem num_any (n : Int) (w : World) : Calls Tryz.prog 8 #[.int .i64 n] w fun e w' => e = .returned (.int .i64 n) ∧ w' = w := by
  go_enter Tryz.func8, Tryz.ntmps8
  go_wp2
  go_ret
  exact ⟨rfl, rfl⟩
set_option maxRecDepth 100000 in
set_option maxHeartbeats 2000000 in
theorem awake_any (w : World) : Calls Tryz.prog 5 #[] w fun e w' => e = .returned (.bool true) ∧ Below w.heap.size w w' := by
  have P := aw_play w
  unfold awo at P
  go_enter Tryz.func5, Tryz.ntmps5
  go_wp2_with (first | (go_at_call 8; refine (num_any _ _).mono ?_; rintro e wn ⟨rfl, rfl⟩) | (go_at_call 14; refine P.mono ?_; clear P; rintro e w1 ⟨g1, c1, p2, n2, c2, p3, c3, p4, n4, c4, rfl, l1, ⟨k0, k1, k2, k3, k4⟩, hB⟩; replace hB := Mr.hid hB))
  go_ret
  exact ⟨rfl, hB.out.alloc hB.out.size _⟩
end Go.Proofs.YtedaoljmcfbbpaaGreat.Dm
/-
  DequeSwaps, Linear: played.
-/
namespace Go.Proofs.YtedaoljmcfbbpaaGreat.Dm
open Go.RowKit Go.Shelf Mr Me Ma Gm Dq Cn
set_option linter.unusedVariables false
set_option linter.unusedSimpArgs false
set_option maxRecDepth 100000
/-- What played leaves. -/
def PdP (w : World) (nt r : Nat) (ms : List Mv) (e : Ending) (w' : World) : Prop := ∃ v1 v2 v3 v4, e = .returned (.tuple #[runV v1 v2 v3 v4, .bool true]) ∧ Has w' (fun k => w.heap.size ≤ k) 45 9 v1 (Pl r (P0 nt r) ms).cls.length (clc (Pl r (P0 nt r) ms).cls) ∧ Has w' (fun k => w.heap.size ≤ k) 169 7 v2 (Pl r (P0 nt r) ms).lg.length (lgc (Pl r (P0 nt r) ms).lg) ∧ Has w' (fun k => w.heap.size ≤ k) 136 5 v3 0 [] ∧ Has w' (fun k => w.heap.size ≤ k) 65 1 v4 (Pl r (P0 nt r) ms).ws.length (wrd (Pl r (P0 nt r) ms).ws) ∧ Below w.heap.size w w'
set_option maxHeartbeats 4000000 in
theorem played_any (w : World) (nt r : Nat) (h1 : 1 ≤ nt) (h2 : nt ≤ 16) (h3 : 1 ≤ r) (h4 : r ≤ 256) (am : Option Addr) (nm cm : Nat) (ms : List Mv) (hm : MvAt w am nm ms) (hnm : nm ≤ 65536) :
    Calls Tryz.prog 6 #[.agg #[.int .i64 (nt : Int), .int .i64 (r : Int)], .slice am nm cm] w (PdP w nt r ms) := by
  obtain ⟨W0, hW0⟩ : ∃ W0, (w.alloc (dBox nt r)).alloc rnO = W0 := ⟨_, rfl⟩
  have B0 : Below w.heap.size w W0 := by rw [← hW0]; exact ((Below.refl _ _).alloc (Nat.le_refl _) _).alloc (by simp) _
  have b0 : Bp w nt r W0 := by
    rw [← hW0]
    refine ⟨(Below.heap_alloc _ _ _ (by simp)).trans (heap_alloc_new w _), ?_, ((Below.refl _ _).alloc (Nat.le_refl _) _).alloc (by simp) _⟩
    have := heap_alloc_new (w.alloc (dBox nt r)) rnO
    rw [World.size_alloc] at this
    exact this
  have y0 : W0.cell? ⟨w.heap.size, 0, none⟩ = some (.int .i64 (nt : Int)) := cell_at b0.c 0
  have y1 : W0.cell? ⟨w.heap.size, 1, none⟩ = some (.int .i64 (r : Int)) := cell_at b0.c 1
  have s0 : W0.heap.size = w.heap.size + 1 + 1 := by rw [← hW0]; simp
  replace b0 := Mr.hid b0
  have PL := play_d W0 nt r h1 h2 h3 h4 am nm cm ms (hm.below B0) hnm
  have AW := Mr.hid (fun w => awake_any w)
  replace PL := Mr.hid PL
  replace B0 := Mr.hid B0
  unfold dBox rnO at hW0
  clear hm
  go_enter Tryz.func6, Tryz.ntmps6
  go_wp2_with (first | (go_at_call 14; refine PL.out.mono ?_; clear PL; rintro e w1 ⟨v1, v2, v3, v4, rfl, hv1, hv2, hv3, hv4, hB⟩; obtain ⟨p1, q1, rfl, _⟩ := hv1.form; obtain ⟨p2, q2, rfl, _⟩ := hv2.form; obtain ⟨p3, q3, rfl, _⟩ := hv3.form; obtain ⟨p4, q4, rfl, _⟩ := hv4.form; replace hv1 := Mr.hid hv1; replace hv2 := Mr.hid hv2; replace hv3 := Mr.hid hv3; replace hv4 := Mr.hid hv4; have b1 := b0.out.below (hB.mono (by omega)); clear y0 y1 b0 hW0; obtain ⟨kc, kz⟩ := b1.run; have kc0 := kc 0 (by decide); have kc1 := kc 1 (by decide); have kc2 := kc 2 (by decide); have kc3 := kc 3 (by decide); clear kc; replace b1 := Mr.hid b1; have hs := hB.size; rw [s0] at hs; replace hB := Mr.hid hB; unfold runV))
  generalize hn1 : (Pl r (P0 nt r) ms).cls.length = n1 at *
  generalize hn2 : (Pl r (P0 nt r) ms).lg.length = n2 at *
  generalize hn4 : (Pl r (P0 nt r) ms).ws.length = n4 at *
  have hx : (w1.alloc (.cells #[.slice p1 n1 q1, .slice p2 n2 q2, .slice p3 0 q3, .slice p4 n4 q4] 32 (0, 0))).heap[w1.heap.size]? = some (.cells #[.slice p1 n1 q1, .slice p2 n2 q2, .slice p3 0 q3, .slice p4 n4 q4] 32 (0, 0)) := heap_alloc_new w1 _
  have hb1 : Below w1.heap.size w1 (w1.alloc (.cells #[.slice p1 n1 q1, .slice p2 n2 q2, .slice p3 0 q3, .slice p4 n4 q4] 32 (0, 0))) := (Below.refl _ _).alloc (Nat.le_refl _) _
  generalize w1.alloc (.cells #[.slice p1 n1 q1, .slice p2 n2 q2, .slice p3 0 q3, .slice p4 n4 q4] 32 (0, 0)) = Wc at *
  have hbw : Below w.heap.size w Wc := b1.out.b.trans (hb1.mono (by omega))
  replace hb1 := Mr.hid hb1
  replace hx := Mr.hid hx
  replace hbw := Mr.hid hbw
  replace hn1 := Mr.hid hn1
  replace hn2 := Mr.hid hn2
  replace hn4 := Mr.hid hn4
  refine wp_region_held_drew (S := fun w' => Below w.heap.size w w' ∧ w'.heap[w1.heap.size]? = some (.cells #[.slice p1 n1 q1, .slice p2 n2 q2, .slice p3 0 q3, .slice p4 n4 q4] 32 (0, 0))) (by kernel_rfl) ⟨hbw.out.drew, hx.out⟩ (fun hS => ?_)
  refine wpAnyH_take (i := 0) (oi := (⟨_, _, _, _, _, _⟩ : Oper)) (v := .agg #[.slice p1 n1 q1, .slice p2 n2 q2, .slice p3 0 q3, .slice p4 n4 q4]) rfl (by kernel_rfl) (by kernel_rfl) (by kernel_rfl) (fun _ _ _ h => h) (Or.inl ⟨by kernel_rfl, fun w9 hw9 => ?y0⟩) hS ?_
  case y0 =>
    have u0 := cell_at hw9.2 0
    have u1 := cell_at hw9.2 1
    have u2 := cell_at hw9.2 2
    have u3 := cell_at hw9.2 3
    clear hS
    go_simp
  try simp only [Act.put, List.getElem_toArray, List.getElem_cons_zero, List.getElem_cons_succ, List.setIfInBounds_toArray, List.set_cons_zero, List.set_cons_succ]
  refine wpAnyH_take (i := 1) (oi := (⟨_, _, _, _, _, _⟩ : Oper)) (v := .int .i64 0) rfl (by kernel_rfl) (by kernel_rfl) (by kernel_rfl) (fun _ _ _ h => h) (Or.inl ⟨by kernel_rfl, fun w9 hw9 => ?y1⟩) hS ?_
  case y1 =>
    clear hS
    go_simp
  try simp only [Act.put, List.getElem_toArray, List.getElem_cons_zero, List.getElem_cons_succ, List.setIfInBounds_toArray, List.set_cons_zero, List.set_cons_succ]
  refine wpAnyH_ready (rs := [2]) (by kernel_rfl) (by simp) ?_
  refine AllReadyH.cons (o := (⟨_, _, _, _, _, _⟩ : Oper)) rfl (fun K hK => ?_) AllReadyH.nil
  try simp only [Act.put, List.getElem_toArray, List.getElem_cons_zero, List.getElem_cons_succ, List.setIfInBounds_toArray, List.set_cons_zero, List.set_cons_succ]
  have hSh := Mr.hid hS
  clear hS
  go_simp
  refine (num_any _ _).mono ?_
  rintro e wn ⟨rfl, hw⟩
  obtain rfl := hw.symm
  refine hK.out _ _ hSh.out (fun hS => ?_)
  clear hK K hSh
  try simp only [Act.put, List.getElem_toArray, List.getElem_cons_zero, List.getElem_cons_succ, List.setIfInBounds_toArray, List.set_cons_zero, List.set_cons_succ]
  refine wpAnyH_take (i := 3) (oi := (⟨_, _, _, _, _, _⟩ : Oper)) (v := .bool true) rfl (by kernel_rfl) (by kernel_rfl) (by kernel_rfl) (fun _ _ _ h => h) (Or.inl ⟨by kernel_rfl, fun w9 hw9 => ?y3⟩) hS ?_
  case y3 =>
    clear hS
    go_simp
  try simp only [Act.put, List.getElem_toArray, List.getElem_cons_zero, List.getElem_cons_succ, List.setIfInBounds_toArray, List.set_cons_zero, List.set_cons_succ]
  refine wpAnyH_take (i := 4) (oi := (⟨_, _, _, _, _, _⟩ : Oper)) (v := .bool true) rfl (by kernel_rfl) (by kernel_rfl) (by kernel_rfl) (fun _ _ _ h => h) (Or.inl ⟨by kernel_rfl, fun w9 hw9 => ?y4⟩) hS ?_
  case y4 =>
    clear hS
    go_simp
  try simp only [Act.put, List.getElem_toArray, List.getElem_cons_zero, List.getElem_cons_succ, List.setIfInBounds_toArray, List.set_cons_zero, List.set_cons_succ]
  refine wpAnyH_ready (rs := [5]) (by kernel_rfl) (by simp) ?_
  refine AllReadyH.cons (o := (⟨_, _, _, _, _, _⟩ : Oper)) rfl (fun K hK => ?_) AllReadyH.nil
  try simp only [Act.put, List.getElem_toArray, List.getElem_cons_zero, List.getElem_cons_succ, List.setIfInBounds_toArray, List.set_cons_zero, List.set_cons_succ]
  have hSh := Mr.hid hS
  clear hS
  go_simp
  refine (AW.out _).mono ?_
  rintro e w3 ⟨rfl, hB3⟩
  have hB3' : Below w1.heap.size w1 w3 := Below.trans hb1.out.drew (hB3.mono (by have := hb1.out.size; simpa using this))
  refine hK.out _ _ ⟨hSh.out.1.trans (hB3.mono hSh.out.1.size), (hB3.block _ (Array.getElem?_eq_some_iff.1 hSh.out.2).1).trans hSh.out.2⟩ (fun hS => ?_)
  clear hK K hSh hB3
  try simp only [Act.put, List.getElem_toArray, List.getElem_cons_zero, List.getElem_cons_succ, List.setIfInBounds_toArray, List.set_cons_zero, List.set_cons_succ]
  refine wpAnyH_take (i := 6) (oi := (⟨_, _, _, _, _, _⟩ : Oper)) (v := .bool true) rfl (by kernel_rfl) (by kernel_rfl) (by kernel_rfl) (fun _ _ _ h => h) (Or.inl ⟨by kernel_rfl, fun w9 hw9 => ?y6⟩) hS ?_
  case y6 =>
    clear hS
    go_simp
  try simp only [Act.put, List.getElem_toArray, List.getElem_cons_zero, List.getElem_cons_succ, List.setIfInBounds_toArray, List.set_cons_zero, List.set_cons_succ]
  have b3 := b1.out.below (hB3'.mono b1.out.lt)
  clear kc0 kc1 kc2 kc3 kz
  obtain ⟨kc, kz⟩ := b3.run
  have kc0 := kc 0 (by decide)
  have kc1 := kc 1 (by decide)
  have kc2 := kc 2 (by decide)
  have kc3 := kc 3 (by decide)
  clear kc
  replace b3 := Mr.hid b3
  replace hB3' := Mr.hid hB3'
  refine wpAnyH_ready (rs := [7]) (by kernel_rfl) (by simp) ?_
  refine AllReadyH.cons (o := (⟨_, _, _, _, _, _⟩ : Oper)) rfl (fun K hK => ?_) AllReadyH.nil
  try simp only [Act.put, List.getElem_toArray, List.getElem_cons_zero, List.getElem_cons_succ, List.setIfInBounds_toArray, List.set_cons_zero, List.set_cons_succ]
  have hSh := Mr.hid hS
  clear hS
  go_simp
  refine hK.out _ _ (?sS) (fun hS => ?_)
  case sS => exact ⟨(((hSh.out.1.setCell (p := ⟨w.heap.size + 1, 0, none⟩) (by simp) _).setCell (p := ⟨w.heap.size + 1, 1, none⟩) (by simp) _).setCell (p := ⟨w.heap.size + 1, 2, none⟩) (by simp) _).setCell (p := ⟨w.heap.size + 1, 3, none⟩) (by simp) _, by
    have ne : w1.heap.size ≠ w.heap.size + 1 := by omega
    rw [Below.heap_setCell _ _ _ _ ne, Below.heap_setCell _ _ _ _ ne, Below.heap_setCell _ _ _ _ ne, Below.heap_setCell _ _ _ _ ne]; exact hSh.out.2⟩
  clear hK K
  try simp only [Act.put, List.getElem_toArray, List.getElem_cons_zero, List.getElem_cons_succ, List.setIfInBounds_toArray, List.set_cons_zero, List.set_cons_succ]
  refine wpAnyH_take (i := 8) (oi := (⟨_, _, _, _, _, _⟩ : Oper)) (v := .bool true) rfl (by kernel_rfl) (by kernel_rfl) (by kernel_rfl) (fun _ _ _ h => h) (Or.inl ⟨by kernel_rfl, fun w9 hw9 => ?y8⟩) hS ?_
  case y8 =>
    clear hS
    go_simp
  try simp only [Act.put, List.getElem_toArray, List.getElem_cons_zero, List.getElem_cons_succ, List.setIfInBounds_toArray, List.set_cons_zero, List.set_cons_succ]
  refine wpAnyH_done (by kernel_rfl) ?_ _
  have fin : ∀ W5, ((((w3.setCell ⟨w.heap.size + 1, 0, none⟩ (.slice p1 n1 q1)).setCell ⟨w.heap.size + 1, 1, none⟩ (.slice p2 n2 q2)).setCell ⟨w.heap.size + 1, 2, none⟩ (.slice p3 0 q3)).setCell ⟨w.heap.size + 1, 3, none⟩ (.slice p4 n4 q4)) = W5 → W5.heap[w.heap.size + 1]? = some (.cells #[.slice p1 n1 q1, .slice p2 n2 q2, .slice p3 0 q3, .slice p4 n4 q4] 32 (0, 0)) ∧ PdP w nt r ms (.returned (.tuple #[runV (.slice p1 n1 q1) (.slice p2 n2 q2) (.slice p3 0 q3) (.slice p4 n4 q4), .bool true])) W5 := fun W5 hW5 => by
    have hr6 : w3.heap[w.heap.size + 1]? = some (.cells #[.slice none 0 0, .slice none 0 0, .slice none 0 0, .slice none 0 0] 32 (0, 0)) := b3.out.r
    have hb5 : W5.heap[w.heap.size + 1]? = some (.cells #[.slice p1 n1 q1, .slice p2 n2 q2, .slice p3 0 q3, .slice p4 n4 q4] 32 (0, 0)) := by
      rw [← hW5, setBlk (setBlk (setBlk (setBlk hr6 0 _) 1 _) 2 _) 3 _]
      rfl
    have ho5 : ∀ k, k ≠ w.heap.size + 1 → W5.heap[k]? = w3.heap[k]? := fun k hk => by
      rw [← hW5, Below.heap_setCell _ _ _ k hk, Below.heap_setCell _ _ _ k hk, Below.heap_setCell _ _ _ k hk, Below.heap_setCell _ _ _ k hk]
    have hB5 : Below w.heap.size w W5 := by rw [← hW5]; exact hS.1
    have keep : ∀ {e size m : Nat} {v : Value} {xs : List Value}, Has w1 (fun k => W0.heap.size ≤ k) e size v m xs → Has W5 (fun k => w.heap.size ≤ k) e size v m xs := fun {e size m v xs} hh =>
      hh.kept (fun k hk => by
        have h9 := hh.lt k hk
        exact (ho5 k (fun e' => by have := h9.1; omega)).trans (hB3'.out.block k h9.2)) (fun k hk => by have := (hh.lt k hk).1; omega)
    refine ⟨hb5, _, _, _, _, rfl, ?_, ?_, keep hv3.out, ?_, hB5⟩
    · rw [hn1.out]; exact keep hv1.out
    · rw [hn2.out]; exact keep hv2.out
    · rw [hn4.out]; exact keep hv4.out
  generalize ((((w3.setCell ⟨w.heap.size + 1, 0, none⟩ (.slice p1 n1 q1)).setCell ⟨w.heap.size + 1, 1, none⟩ (.slice p2 n2 q2)).setCell ⟨w.heap.size + 1, 2, none⟩ (.slice p3 0 q3)).setCell ⟨w.heap.size + 1, 3, none⟩ (.slice p4 n4 q4)) = W5 at *
  obtain ⟨hb5, hP⟩ := fin W5 rfl
  have d0 := cell_at hb5 0
  have d1 := cell_at hb5 1
  have d2 := cell_at hb5 2
  have d3 := cell_at hb5 3
  simp at d0 d1 d2 d3
  replace hP := Mr.hid hP
  clear fin hS hb5 kc0 kc1 kc2 kc3 kz hSh
  go_wp2
  refine bodyPost_ret (v := .tuple #[runV (.slice p1 n1 q1) (.slice p2 n2 q2) (.slice p3 0 q3) (.slice p4 n4 q4), .bool true]) (by simp [results, Tryz.results6, go_sem, d0, d1, d2, d3, runV]) rfl hP.out
end Go.Proofs.YtedaoljmcfbbpaaGreat.Dm
