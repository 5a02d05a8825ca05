import Derived.Test.YtfgnaffomglmdaaGreatJ41
import Derived.Test.YtfgnaffomglmdaaGreatJ15
import Derived.Test.YtfgnaffomglmdaaGreatJ12
import Derived.Deep.LoopGhost
import Derived.BigQuiet
/-
  WITNESS: the law's checked.
-/
namespace Go.Proofs.YtfgnaffomglmdaaGreat.Wt
open Go.RowKit Mr Md
set_option linter.unusedVariables false
set_option linter.unusedSimpArgs false
set_option maxRecDepth 100000
theorem sl_lowC {W : World} {T : Nat → Prop} {size n : Nat} {v : Value} {xs : List Value} (h : Sl W T size v n xs) : Sl W (fun k => k < W.heap.size) size v n xs := by
  obtain ⟨h1, a, cap, hv, hc, h2⟩ := h
  refine ⟨h1, a, cap, hv, hc, h2.imp id ?_⟩
  rintro ⟨b, o, ha, _, hl, hr⟩
  exact ⟨b, o, ha, hl, hl, hr⟩
theorem ct_low {W : World} {T : Nat → Prop} {v0 v1 v2 v3 v4 : Value} {x : Ct} (h : CtAt W T v0 v1 v2 v3 v4 x) : CtAt W (fun k => k < W.heap.size) v0 v1 v2 v3 v4 x := ⟨sl_lowC h.cell, sl_lowC h.stack, sl_lowC h.queue, sl_lowC h.set, sl_lowC h.table⟩
/-- The contents that Left told, in their box. -/
structure Ce (W w2 w : World) (v0 v1 v2 v3 v4 : Value) (x : Ct) : Prop where
  bel : Below W.heap.size W w
  box : w.heap[w2.heap.size]? = some (ctO v0 v1 v2 v3 v4)
  at_ : CtAt w (fun k => k < w2.heap.size) v0 v1 v2 v3 v4 x
theorem Ce.below {W w2 w w' : World} {v0 v1 v2 v3 v4 : Value} {x : Ct} (h : Ce W w2 w v0 v1 v2 v3 v4 x) (hB : Below w.heap.size w w') : Ce W w2 w' v0 v1 v2 v3 v4 x :=
  ⟨h.bel.trans (hB.mono h.bel.size), (hB.block _ (Array.getElem?_eq_some_iff.1 h.box).1).trans h.box, h.at_.below hB⟩
theorem ctB_one (x : Ct) : ctB x x = true := by unfold ctB; simp
section
variable {W : World} {T T' T'' : Nat → Prop} {v u l : Value} {cs : List Cq} {o : List Int} {code : Int} {x : Ct}
set_option maxHeartbeats 16000000 in
theorem checked_bad (h : Rs cs o code ct0) (hc0 : (code == 0) = false) (hl : Sl W T'' 9 l cs.length (cqs cs)) (hv : Sl W T 9 v cs.length (cqs cs)) (hu : Sl W T' 1 u o.length (ints o)) (hsm : cs.length * 72 ≤ 140737488355328) (hso : o.length * 8 ≤ 281474976710656) :
    Calls Tryz.prog 5 #[l, v, u] W fun e w' => e = .returned (.bool true) ∧ Below W.heap.size W w' := by
  have CK := fun w' (hB : Below W.heap.size W w') => check_any h (hl.below hB) (hu.below hB) hsm hso
  have LF := fun w' (hB : Below W.heap.size W w') => left_any h (hl.below hB) (hu.below hB) hsm hso
  have RK := fun w' (hB : Below W.heap.size W w') => rCheck_any h (hv.below hB) (hu.below hB) hsm hso
  have NN := fun e w => num_any e w
  have SM : ∀ (w : World) v0 v1 v2 v3 v4, CtAt w (fun _ => True) v0 v1 v2 v3 v4 ct0 → Calls Tryz.prog 15 #[.agg #[v0, v1, v2, v3, v4], .agg #[.slice none 0 0, .slice none 0 0, .slice none 0 0, .slice none 0 0, .slice none 0 0]] w fun e w' => e = .returned (.bool true) ∧ Below w.heap.size w w' := fun w v0 v1 v2 v3 v4 hat => by
    have := same_any hat (ct0_at w (fun _ => True)) ((ct0_in 0).sm (by omega)) ((ct0_in 0).sm (by omega))
    rwa [ctB_one] at this
  obtain ⟨x, hx⟩ : ∃ x, x = ct0 := ⟨_, rfl⟩
  rw [← hx] at LF SM
  obtain ⟨al, cl, rfl, hcl⟩ := hl.form
  obtain ⟨a, cap, rfl, hcap⟩ := hv.form
  obtain ⟨au, cu, rfl, hcu⟩ := hu.form
  generalize cs.length = n at *
  generalize o.length = m at *
  have cc : (code == code) = true := by simp
  replace CK := Mr.hid CK
  replace LF := Mr.hid LF
  replace RK := Mr.hid RK
  replace NN := Mr.hid NN
  replace SM := Mr.hid SM
  replace hx := Mr.hid hx
  clear hl hv hu h
  go_enter Tryz.func5, Tryz.ntmps5
  go_upto_region 4 with (first
    | (go_at_call 10; refine (CK.out _ (Below.refl _ _)).mono ?_; clear CK; rintro e w1 ⟨rfl, hB1⟩; replace hB1 := Mr.hid hB1)
    | (go_at_call 11; refine (LF.out _ hB1.out).mono ?_; clear LF; rintro e w2 ⟨v0, v1, v2, v3, v4, rfl, hat, hB2⟩; have hC2 := (hB1.out.trans (hB2.mono hB1.out.size)); obtain ⟨x0, j0, rfl, _⟩ := hat.cell.form; obtain ⟨x1, j1, rfl, _⟩ := hat.stack.form; obtain ⟨x2, j2, rfl, _⟩ := hat.queue.form; obtain ⟨x3, j3, rfl, _⟩ := hat.set.form; obtain ⟨x4, j4, rfl, _⟩ := hat.table.form; have hS8 : ∀ w3, Below (w2.alloc (ctO (.slice x0 x.cell.length j0) (.slice x1 x.stack.length j1) (.slice x2 x.queue.length j2) (.slice x3 x.set.length j3) (.slice x4 x.table.length j4))).heap.size (w2.alloc (ctO (.slice x0 x.cell.length j0) (.slice x1 x.stack.length j1) (.slice x2 x.queue.length j2) (.slice x3 x.set.length j3) (.slice x4 x.table.length j4))) w3 → Ce W w2 w3 (.slice x0 x.cell.length j0) (.slice x1 x.stack.length j1) (.slice x2 x.queue.length j2) (.slice x3 x.set.length j3) (.slice x4 x.table.length j4) x := (fun w3 h3 => ⟨hC2.trans (((Below.refl w2.heap.size w2).alloc (Nat.le_refl _) _).trans (h3.mono (by simp)) |>.mono hC2.size), (h3.block _ (by simp)).trans (new_at _ _ _ rfl), (((ct_low hat).below ((Below.refl _ _).alloc (Nat.le_refl _) _)).below h3)⟩); have hC3 := (hC2.alloc hC2.size (ctO (.slice x0 x.cell.length j0) (.slice x1 x.stack.length j1) (.slice x2 x.queue.length j2) (.slice x3 x.set.length j3) (.slice x4 x.table.length j4))); unfold ctO at hS8 hC3; replace hS8 := Mr.hid hS8; replace hC3 := Mr.hid hC3; clear hat hB2 hC2)
    | (go_at_call 12; refine (RK.out _ hC3.out).mono ?_; clear RK; rintro e w3 ⟨rfl, hB3⟩; have hE := hS8.out _ hB3; clear hS8 hB3; replace hE := Mr.hid hE))
  have hE4 := hE.out.below ((Below.refl w3.heap.size w3).alloc (Nat.le_refl _) (ctO (.slice none 0 0) (.slice none 0 0) (.slice none 0 0) (.slice none 0 0) (.slice none 0 0)))
  have hz4 : (w3.alloc (ctO (.slice none 0 0) (.slice none 0 0) (.slice none 0 0) (.slice none 0 0) (.slice none 0 0))).heap[w3.heap.size]? = some (ctO (.slice none 0 0) (.slice none 0 0) (.slice none 0 0) (.slice none 0 0) (.slice none 0 0)) := new_at _ _ _ rfl
  unfold ctO at hE4
  unfold ctO at hz4
  replace hE4 := Mr.hid hE4
  go_upto_region 5 with (fail)
  generalize World.alloc w3 _ = w4 at *
  generalize w3.heap.size = b4 at *
  obtain ⟨k0, k1, k2, k3, k4, kl⟩ := ctO_cells hE4.out.box
  obtain ⟨y0, y1, y2, y3, y4, yl⟩ := ctO_cells hz4
  go_wp2_with (first
    | (go_at_call 14; refine (NN.out _ _).mono ?_; rintro e w6 ⟨rfl, rfl⟩)
    | (go_at_call 15; refine (SM.out _ _ _ _ _ _ (hE4.out.at_.mono (fun _ _ => trivial))).mono ?_; clear SM; rintro e w7 ⟨rfl, hB7⟩; have hB8 := Mr.hid (hE4.out.bel.trans (hB7.mono hE4.out.bel.size)); clear hB7))
  go_ret
  exact ⟨rfl, hB8.out⟩
set_option maxHeartbeats 16000000 in
theorem checked_ok (h1 : MayC cs) (h2 : IsOrd cs o) (h3 : InT (ordc cs o) (ordc cs o).length) (h4 : okTo ct0 (ordc cs o) o.length) (hl : Sl W T'' 9 l cs.length (cqs cs)) (hv : Sl W T 9 v cs.length (cqs cs)) (hu : Sl W T' 1 u o.length (ints o)) (hsm : cs.length * 72 ≤ 140737488355328) (hso : o.length * 8 ≤ 281474976710656) :
    Calls Tryz.prog 5 #[l, v, u] W fun e w' => e = .returned (.bool true) ∧ Below W.heap.size W w' := by
  have h := Rs.ok h1 h2 h3 h4
  have CK := fun w' (hB : Below W.heap.size W w') => check_any h (hl.below hB) (hu.below hB) hsm hso
  have LF := fun w' (hB : Below W.heap.size W w') => left_any h (hl.below hB) (hu.below hB) hsm hso
  have RK := fun w' (hB : Below W.heap.size W w') => rCheck_any h (hv.below hB) (hu.below hB) hsm hso
  have RP := fun w' (hB : Below W.heap.size W w') => rPlay_any (hv.below hB) (hu.below hB) hsm h2 true (by simp [h4])
  have NN := fun e w => num_any e w
  have hol := h2.len
  have hxi := (lefts_in (ct0_in 0) (ordc cs o) o.length).sm (by omega)
  simp only [if_true] at RP
  obtain ⟨x, hx⟩ : ∃ x, x = lefts ct0 (ordc cs o) o.length := ⟨_, rfl⟩
  rw [← hx] at LF RP hxi
  have SM : ∀ (w : World) v0 v1 v2 v3 v4 u0 u1 u2 u3 u4, CtAt w (fun _ => True) v0 v1 v2 v3 v4 x → CtAt w (fun _ => True) u0 u1 u2 u3 u4 x → Calls Tryz.prog 15 #[.agg #[v0, v1, v2, v3, v4], .agg #[u0, u1, u2, u3, u4]] w fun e w' => e = .returned (.bool true) ∧ Below w.heap.size w w' := fun w v0 v1 v2 v3 v4 u0 u1 u2 u3 u4 hat hat2 => by
    have := same_any hat hat2 hxi hxi
    rwa [ctB_one] at this
  obtain ⟨al, cl, rfl, hcl⟩ := hl.form
  obtain ⟨a, cap, rfl, hcap⟩ := hv.form
  obtain ⟨au, cu, rfl, hcu⟩ := hu.form
  clear hl hv hu h h1 h2 h3 h4 hx hxi hol
  generalize cs.length = n at *
  generalize o.length = m at *
  replace CK := Mr.hid CK
  replace LF := Mr.hid LF
  replace RK := Mr.hid RK
  replace RP := Mr.hid RP
  replace NN := Mr.hid NN
  replace SM := Mr.hid SM
  go_enter Tryz.func5, Tryz.ntmps5
  go_upto_region 4 with (first
    | (go_at_call 10; refine (CK.out _ (Below.refl _ _)).mono ?_; clear CK; rintro e w1 ⟨rfl, hB1⟩; replace hB1 := Mr.hid hB1)
    | (go_at_call 11; refine (LF.out _ hB1.out).mono ?_; clear LF; rintro e w2 ⟨v0, v1, v2, v3, v4, rfl, hat, hB2⟩; have hC2 := (hB1.out.trans (hB2.mono hB1.out.size)); obtain ⟨x0, j0, rfl, _⟩ := hat.cell.form; obtain ⟨x1, j1, rfl, _⟩ := hat.stack.form; obtain ⟨x2, j2, rfl, _⟩ := hat.queue.form; obtain ⟨x3, j3, rfl, _⟩ := hat.set.form; obtain ⟨x4, j4, rfl, _⟩ := hat.table.form; have hS8 : ∀ w3, Below (w2.alloc (ctO (.slice x0 x.cell.length j0) (.slice x1 x.stack.length j1) (.slice x2 x.queue.length j2) (.slice x3 x.set.length j3) (.slice x4 x.table.length j4))).heap.size (w2.alloc (ctO (.slice x0 x.cell.length j0) (.slice x1 x.stack.length j1) (.slice x2 x.queue.length j2) (.slice x3 x.set.length j3) (.slice x4 x.table.length j4))) w3 → Ce W w2 w3 (.slice x0 x.cell.length j0) (.slice x1 x.stack.length j1) (.slice x2 x.queue.length j2) (.slice x3 x.set.length j3) (.slice x4 x.table.length j4) x := (fun w3 h3 => ⟨hC2.trans (((Below.refl w2.heap.size w2).alloc (Nat.le_refl _) _).trans (h3.mono (by simp)) |>.mono hC2.size), (h3.block _ (by simp)).trans (new_at _ _ _ rfl), (((ct_low hat).below ((Below.refl _ _).alloc (Nat.le_refl _) _)).below h3)⟩); have hC3 := (hC2.alloc hC2.size (ctO (.slice x0 x.cell.length j0) (.slice x1 x.stack.length j1) (.slice x2 x.queue.length j2) (.slice x3 x.set.length j3) (.slice x4 x.table.length j4))); unfold ctO at hS8 hC3; replace hS8 := Mr.hid hS8; replace hC3 := Mr.hid hC3; clear hat hB2 hC2)
    | (go_at_call 12; refine (RK.out _ hC3.out).mono ?_; clear RK; rintro e w3 ⟨rfl, hB3⟩; have hE := hS8.out _ hB3; clear hS8 hB3; replace hE := Mr.hid hE))
  have hE4 := hE.out.below ((Below.refl w3.heap.size w3).alloc (Nat.le_refl _) (ctO (.slice none 0 0) (.slice none 0 0) (.slice none 0 0) (.slice none 0 0) (.slice none 0 0)))
  have hz4 : (w3.alloc (ctO (.slice none 0 0) (.slice none 0 0) (.slice none 0 0) (.slice none 0 0) (.slice none 0 0))).heap[w3.heap.size]? = some (ctO (.slice none 0 0) (.slice none 0 0) (.slice none 0 0) (.slice none 0 0) (.slice none 0 0)) := new_at _ _ _ rfl
  have hb48 : w2.heap.size < w3.heap.size := (Array.getElem?_eq_some_iff.1 hE.out.box).1
  have hbW : W.heap.size ≤ w3.heap.size := hE.out.bel.size
  unfold ctO at hE4
  unfold ctO at hz4
  replace hE4 := Mr.hid hE4
  go_upto_region 5 with (fail)
  generalize World.alloc w3 _ = w4 at *
  generalize w3.heap.size = b4 at *
  replace hz4 := Mr.hid hz4
  go_upto_region 7 with (go_at_call 13; refine (RP.out _ hE4.out.bel).mono ?_; clear RP; rintro e w5 ⟨v0, v1, v2, v3, v4, rfl, hat, hB5⟩; obtain ⟨p0, q0, rfl, _⟩ := hat.cell.form; obtain ⟨p1, q1, rfl, _⟩ := hat.stack.form; obtain ⟨p2, q2, rfl, _⟩ := hat.queue.form; obtain ⟨p3, q3, rfl, _⟩ := hat.set.form; obtain ⟨p4, q4, rfl, _⟩ := hat.table.form; have hE5 := hE4.out.below hB5; have hz5 := (hB5.block _ (Array.getElem?_eq_some_iff.1 hz4.out).1).trans hz4.out; have hb5 := (Array.getElem?_eq_some_iff.1 hz4.out).1; obtain ⟨z0, z1, z2, z3, z4, zl⟩ := ctO_cells hz5; obtain ⟨t0, t1, t2, t3, t4⟩ := ctO_thaw hz5; have hEn : Ce W w2 (set5 w5 b4 (.slice p0 x.cell.length q0) (.slice p1 x.stack.length q1) (.slice p2 x.queue.length q2) (.slice p3 x.set.length q3) (.slice p4 x.table.length q4)) (.slice x0 x.cell.length j0) (.slice x1 x.stack.length j1) (.slice x2 x.queue.length j2) (.slice x3 x.set.length j3) (.slice x4 x.table.length j4) x := ⟨set5_below _ _ _ _ _ hE5.bel hbW, (set5_far w5 b4 _ _ _ _ _ _ (by omega)).trans hE5.box, (hE5.at_.fr (set5_fr w5 b4 _ _ _ _ _) (fun k hk _ e => by omega))⟩; have hPn : (set5 w5 b4 (.slice p0 x.cell.length q0) (.slice p1 x.stack.length q1) (.slice p2 x.queue.length q2) (.slice p3 x.set.length q3) (.slice p4 x.table.length q4)).heap[b4]? = some (ctO (.slice p0 x.cell.length q0) (.slice p1 x.stack.length q1) (.slice p2 x.queue.length q2) (.slice p3 x.set.length q3) (.slice p4 x.table.length q4)) ∧ CtAt (set5 w5 b4 (.slice p0 x.cell.length q0) (.slice p1 x.stack.length q1) (.slice p2 x.queue.length q2) (.slice p3 x.set.length q3) (.slice p4 x.table.length q4)) (fun _ => True) (.slice p0 x.cell.length q0) (.slice p1 x.stack.length q1) (.slice p2 x.queue.length q2) (.slice p3 x.set.length q3) (.slice p4 x.table.length q4) x := ⟨set5_at _ _ _ _ _ hz5, (hat.fr (set5_fr w5 b4 _ _ _ _ _) (fun k hk _ e => by omega)).mono (fun _ _ => trivial)⟩; unfold set5 at hEn hPn; replace hEn := Mr.hid hEn; replace hPn := Mr.hid hPn; clear hat hB5 hE5 hz5)
  obtain ⟨hP1, hP2⟩ := hPn.out
  replace hEn := hEn.out
  clear hPn z0 z1 z2 z3 z4 t0 t1 t2 t3 t4
  generalize World.setCell _ _ _ = w6 at *
  obtain ⟨k0, k1, k2, k3, k4, kl⟩ := ctO_cells hEn.box
  obtain ⟨y0, y1, y2, y3, y4, yl⟩ := ctO_cells hP1
  replace hEn := Mr.hid hEn
  replace hP2 := Mr.hid hP2
  go_wp2_with (first
    | (go_at_call 14; refine (NN.out _ _).mono ?_; rintro e w6 ⟨rfl, rfl⟩)
    | (go_at_call 15; refine (SM.out _ _ _ _ _ _ _ _ _ _ _ (hEn.out.at_.mono (fun _ _ => trivial)) hP2.out).mono ?_; clear SM; rintro e w7 ⟨rfl, hB7⟩; have hB8 := Mr.hid (hEn.out.bel.trans (hB7.mono hEn.out.bel.size)); clear hB7))
  go_ret
  exact ⟨rfl, hB8.out⟩
theorem checked_any (hl : Sl W T'' 9 l cs.length (cqs cs)) (hv : Sl W T 9 v cs.length (cqs cs)) (hu : Sl W T' 1 u o.length (ints o)) (hsm : cs.length * 72 ≤ 140737488355328) (hso : o.length * 8 ≤ 281474976710656) :
    Calls Tryz.prog 5 #[l, v, u] W fun e w' => e = .returned (.bool true) ∧ Below W.heap.size W w' := by
  obtain ⟨code, x, h⟩ := Rs.ex cs o
  cases h with
  | calls h1 => exact checked_bad (.calls h1) (by decide) hl hv hu hsm hso
  | order h1 h2 => exact checked_bad (.order h1 h2) (by decide) hl hv hu hsm hso
  | early h1 h2 h3 => exact checked_bad (.early h1 h2 h3) (by decide) hl hv hu hsm hso
  | answer h1 h2 h3 h4 => exact checked_bad (.answer h1 h2 h3 h4) (by decide) hl hv hu hsm hso
  | ok h1 h2 h3 h4 => exact checked_ok h1 h2 h3 h4 hl hv hu hsm hso
end
end Go.Proofs.YtfgnaffomglmdaaGreat.Wt
/-
  WITNESS: the laws' twin of a row of calls, with a mark behind it.
-/
namespace Go.Proofs.YtfgnaffomglmdaaGreat.Wt
open Go.RowKit Mr Md
set_option linter.unusedVariables false
set_option linter.unusedSimpArgs false
set_option maxRecDepth 100000
theorem wt_call : (Tryz.prog.info? 36).map (fun i => (i.zero, i.size, i.bytes)) = some (some (.agg #[.int .i64 0, .int .i64 0, .int .i64 0, .int .i64 0, .int .i64 0, .int .i64 0, .int .i64 0, .int .i64 0, .int .i64 0]), 9, 72) := by kernel_rfl
/-- The mark. -/
def mk77 : Cq := ⟨-77, 0, 0, 0, 0, 0, 0, 0, 0⟩
theorem cqs_one (l : List Cq) : ∀ u ∈ cqs l, u.oneCell' = true := by
  intro u hu
  obtain ⟨c, _, h⟩ := List.mem_flatMap.1 hu
  simp [Cq.row] at h
  rcases h with rfl | rfl | rfl | rfl | rfl | rfl | rfl | rfl | rfl <;> rfl
theorem cqs_app (a b : List Cq) : cqs (a ++ b) = cqs a ++ cqs b := by simp [cqs]
theorem cqs_sing (c : Cq) : cqs [c] = c.row := by simp [cqs]
/-- A row with one more behind it, cut. -/
theorem sl_cut {W : World} {T : Nat → Prop} {a : Option Addr} {cap : Nat} {cs : List Cq} {m : Cq} (h : Sl W T 9 (.slice a (cs.length + 1) cap) (cs.length + 1) (cqs (cs ++ [m]))) : Sl W T 9 (.slice a cs.length cap) cs.length (cqs cs) := by
  obtain ⟨b, o, cap', hv, hc, hT, hl, hr⟩ := h.there (by omega)
  cases hv
  refine ⟨cqs_length _, _, cap, rfl, by omega, .inr ⟨b, o, rfl, hT, hl, fun k u hu => ?_⟩⟩
  refine hr k u ?_
  rw [cqs_app, List.getElem?_append_left (List.getElem?_eq_some_iff.1 hu).1]; exact hu
theorem new9 {w w1 : World} {c : Cq} (h1 : w1 = w.alloc (cqO c)) : ∀ ad, some (⟨w.heap.size, 0, none⟩ : Addr) = some ad → ∀ j u, (c.row)[j]? = some u → w1.cell? (ad.add j) = some u := by
  rintro ad e j u hu
  cases e
  subst h1
  have hn := new_at w (cqO c) w.heap.size rfl
  rw [add1, Nat.zero_add]
  unfold cqO at hn ⊢
  rw [cell_blk hn]
  simpa [Cq.row] using hu
theorem sl_src {w : World} {T : Nat → Prop} {size n : Nat} {a : Option Addr} {cap : Nat} {xs : List Value} (h : Sl w T size (.slice a n cap) n xs) : (a = none → n = 0) ∧ ∀ w' : World, Below w.heap.size w w' → ∀ ad, a = some ad → ∀ j u, xs[j]? = some u → w'.cell? (ad.add j) = some u := by
  obtain ⟨h1, a', cap', hv, hc, h2⟩ := h
  cases hv
  rcases h2 with rfl | ⟨b, o, rfl, hT, hl, hr⟩
  · refine ⟨fun _ => rfl, fun w' hB ad e j u hu => ?_⟩
    have : xs = [] := List.eq_nil_of_length_eq_zero (by simpa using h1)
    subst this; simp at hu
  · refine ⟨(fun e => by cases e), fun w' hB ad e j u hu => ?_⟩
    cases e
    rw [add1, hB.cell (p := ⟨b, _, none⟩) hl]
    exact hr j u hu
set_option maxHeartbeats 8000000 in
theorem twin_any {W : World} {T : Nat → Prop} {v : Value} {cs : List Cq} (hv : Sl W T 9 v cs.length (cqs cs)) (hsm : cs.length * 72 ≤ 140737488351232) :
    Calls Tryz.prog 4 #[v] W fun e w' => ∃ a cap, e = .returned (.slice a cs.length cap) ∧ Own w' (fun k => W.heap.size ≤ k) 36 9 (.slice a (cs.length + 1) cap) (cs.length + 1) (cqs (cs ++ [mk77])) ∧ Below W.heap.size W w' := by
  obtain ⟨i0, hi0, hz0, hz1, hz2⟩ := parts_of wt_call
  obtain ⟨a, cap, rfl, hcap⟩ := hv.form
  obtain ⟨hs1, hs2⟩ := sl_src hv
  have hl1 := cqs_length cs
  have ho1 := cqs_one cs
  obtain ⟨n, hn⟩ : ∃ n, n = cs.length := ⟨_, rfl⟩
  have AP : ∀ x, cqs cs ++ cqs [x] = cqs (cs ++ [x]) := fun x => (cqs_app cs [x]).symm
  rw [← hn] at hsm hcap hs1 hl1 ⊢
  replace hn := Mr.hid hn
  replace hs1 := Mr.hid hs1
  replace hs2 := Mr.hid hs2
  replace hl1 := Mr.hid hl1
  replace ho1 := Mr.hid ho1
  replace AP := Mr.hid AP
  clear hv
  go_enter Tryz.func4, Tryz.ntmps4
  go_upto_region 2 with (at_builtin; refine wpList_append_mine _ rfl (.tmp 4) (.tmp 5) 22 rfl (fun k => W.heap.size ≤ k) 36 i0 _ 9 72 Tryz.underlying22 hi0 hz0 hz1 hz2 rfl _ 0 [] rfl (Own.zero _ _ _ _ _) a n cap (cqs cs) rfl hl1.out hs1.out (hs2.out _ ((Below.refl _ _).alloc (Nat.le_refl _) _)) ho1.out (by unfold maxLen; omega) (by omega) ?_; intro b1 cap1 w1 hown hfr; have hB1 : Below W.heap.size W w1 := ⟨hfr.os, hfr.tape, hfr.output, Nat.le_trans (by simp) hfr.size, fun k hk => (hfr.block k (by simp <;> omega) (by omega)).trans (Below.heap_alloc _ _ _ hk)⟩; replace hown := hown.mono (T := fun k => W.heap.size ≤ k) (fun k hk => by rcases hk with hk | hk; exact hk; subst hk; simp); rw [Nat.zero_add, List.nil_append] at hown; rw [Nat.zero_add]; clear hfr; replace hown := Mr.hid hown; replace hB1 := Mr.hid hB1)
  have AQ := AP.out mk77
  rw [cqs_sing] at AQ
  clear AP
  replace AQ := Mr.hid AQ
  go_wp2_with (at_builtin; (refine wpList_append_mine _ rfl (.tmp 7) (.tmp 9) 22 rfl (fun k => W.heap.size ≤ k) 36 i0 _ 9 72 Tryz.underlying22 hi0 hz0 hz1 hz2 rfl _ n (cqs cs) rfl (hown.out.below ((Below.refl _ _).alloc (Nat.le_refl _) _)) (some ⟨w1.heap.size, 0, none⟩) 1 1 mk77.row rfl rfl (fun e => by cases e) (new9 rfl) (by rw [← cqs_sing]; exact cqs_one _) (by unfold maxLen; omega) (by omega) ?_; intro b2 cap2 w2 hown2 hfr2; have hB2 : Below W.heap.size W w2 := ⟨hfr2.os.trans hB1.out.os, hfr2.tape.trans hB1.out.tape, hfr2.output.trans hB1.out.output, Nat.le_trans hB1.out.size (Nat.le_trans (by simp) hfr2.size), fun k hk => (hfr2.block k (by have := hB1.out.size; simp <;> omega) (by omega)).trans ((Below.heap_alloc _ _ _ (Nat.lt_of_lt_of_le hk hB1.out.size)).trans (hB1.out.block k hk))⟩; replace hown2 := hown2.mono (T := fun k => W.heap.size ≤ k) (fun k hk => by have := hB1.out.size; rcases hk with hk | hk; exact hk; subst hk; simp <;> omega); rw [AQ.out] at hown2; obtain ⟨_, _, e9, hc9, hm9⟩ := hown2.form; cases e9; have f1 : (0 : Int) ≤ (n : Int) := (by omega); have f2 : (n : Int) ≤ (cap2 : Int) := (by omega); clear hfr2 hown hB1; replace hown2 := Mr.hid hown2; replace hB2 := Mr.hid hB2))
  go_ret
  exact ⟨_, _, rfl, hown2.out, hB2.out⟩
/-- A twin that is as it was made. -/
theorem row_eq (c : Cq) : (Value.agg #[.int .i64 c.th, .int .i64 c.op, .int .i64 c.arg, .int .i64 c.data, .int .i64 c.beg, .int .i64 c.fin, .int .i64 c.pt, .int .i64 c.ak, .int .i64 c.av]) = c.val := rfl
set_option maxHeartbeats 8000000 in
theorem unspoilt_any {W : World} {T T' : Nat → Prop} {a : Option Addr} {cap : Nat} {v : Value} {cs : List Cq} (hl : Sl W T 9 (.slice a (cs.length + 1) cap) (cs.length + 1) (cqs (cs ++ [mk77]))) (hv : Sl W T' 9 v cs.length (cqs cs)) (hsm : cs.length * 72 ≤ 140737488351232) :
    Calls Tryz.prog 9 #[.slice a cs.length cap, v] W fun e w' => e = .returned (.bool true) ∧ Below W.heap.size W w' := by
  have hlc := sl_cut hl
  obtain ⟨av, capv, rfl, hcapv⟩ := hv.form
  obtain ⟨_, _, e9, hc9⟩ := hl.form
  cases e9
  have hlast : ∀ w, Below W.heap.size W w → ∃ b o, a = some ⟨b, o, none⟩ ∧ At9 w b (o + cs.length * 9) mk77 := fun w hB => by
    have h2 := hl.below hB
    rw [show cs.length + 1 = (cs ++ [mk77]).length from by simp] at h2
    exact call_at h2 (by simp)
  obtain ⟨n, hn⟩ : ∃ n, n = cs.length := ⟨_, rfl⟩
  rw [← hn] at hsm hcapv hc9 ⊢
  replace hn := Mr.hid hn
  replace hlc := Mr.hid hlc
  replace hv := Mr.hid hv
  replace hlast := Mr.hid hlast
  clear hl
  go_enter Tryz.func9, Tryz.ntmps9
  go_wp2
  go_loopg [5] n (fun k s5 wr => ∃ i : Nat, s5 = .int .i64 (i : Int) ∧ i + k = n ∧ Below W.heap.size W wr)
  case atStart => exact ⟨0, rfl, by omega, Below.refl _ _⟩
  case round =>
    obtain ⟨i, rfl, hi, hB⟩ := hrel
    by_cases hlt : i < n
    · clear hlast
      obtain ⟨c, hci⟩ := get_of_lt (cs := cs) (i := i) (by have := hn.out; omega)
      obtain ⟨b1, o1, rfl, A1⟩ := call_at (hlc.out.below hB) hci
      obtain ⟨b2, o2, rfl, A2⟩ := call_at (hv.out.below hB) hci
      obtain ⟨hbl, g0, g1, g2, g3, g4, g5, g6, g7, g8⟩ := A1
      obtain ⟨hbl2, k0, k1, k2, k3, k4, k5, k6, k7, k8⟩ := A2
      have hlI : (i : Int) < (n : Int) := by omega
      have hw1 : IntKind.i64.wrap ((i : Int) + 1) = (i : Int) + 1 := i64x _ (by omega) (by omega)
      replace hB := Mr.hid hB
      replace hci := Mr.hid hci
      go_upto_region 4 with (fail)
      go_quiet (fail)
      have hBq := Mr.hid (hB.out.trans (Bx.draws _ _ nq))
      clear g0 g1 g2 g3 g4 g5 g6 g7 g8 k0 k1 k2 k3 k4 k5 k6 k7 k8 hbl hbl2 hB
      generalize wr.drewN nq = w6 at *
      go_wp2
      go_roundg (gk - 1)
      case measure => omega
      case rel => exact ⟨i + 1, by simp, by omega, hBq.out⟩
    · obtain ⟨b1, o1, rfl, A1⟩ := hlast.out _ hB
      obtain ⟨hbl, g0, -, -, -, -, -, -, -, -⟩ := A1
      rw [← hn.out] at g0
      have dl : decide ((i : Int) < (n : Int)) = false := decide_eq_false (by omega)
      have hw1 : IntKind.i64.wrap ((n : Int) + 1) = (n : Int) + 1 := i64x _ (by omega) (by omega)
      have f1 : (0 : Int) ≤ (n : Int) + 1 := by omega
      have f2 : (n : Int) + 1 ≤ (cap : Int) := by omega
      have f3 : (n : Int) < (n : Int) + 1 := by omega
      have f4 : ((n : Int) + 1).toNat = n + 1 := by omega
      have e77 : mk77.th = -77 := rfl
      rw [e77] at g0
      replace hB := Mr.hid hB
      go_wp2
      go_ret
      exact ⟨rfl, hB.out⟩
end Go.Proofs.YtfgnaffomglmdaaGreat.Wt
