import Derived.Test.YtnapnhmmopajfaaGreatJ15
import Derived.Outline
import Derived.Deep.DeepCutAuto
import Derived.BigQuiet
/-
  THE DEQUE's TASKS: a steal (made by mk_dm.py).
-/
namespace Go.Proofs.YtnapnhmmopajfaaGreat.Dm
open Go.RowKit Mr Me Ma Gm
set_option linter.unusedVariables false
set_option linter.unusedSimpArgs false
set_option maxRecDepth 100000
section
variable {W0 : World} {U0 S0 X0 : Nat → Prop} {p : Ph} {i : Nat} {now : Int} {X : Nat → Obj → Prop} {s : Ss} {W : World} {sp : Bool}
set_option maxHeartbeats 4000000 in
theorem steal1 {t v : Int} (h : D W0 U0 S0 X0 p i now X false s W) (hb : Me.Roomy s.lg s.ah) {b bc r : Nat} {lw : Option Addr} (hX : X b (stealO (fnv 50 b) bc t v)) (hC : X bc (comO r lw)) (hbc : b ≠ bc) (h0 : X0 b ∨ W0.heap.size ≤ b) (hl : s.ws.length = 2 + r)  :
    Calls Tryz.prog 50 #[.pointer (some ⟨b, 0, none⟩), .pointer (some ⟨p.bd, 0, none⟩)] W fun e w' => e = .returned (.tuple #[]) ∧ D W0 U0 S0 X0 p i now (Xp X b (stealO (fnv 63 b) bc (wrap64 (rd s.ws 0)) v)) true (s.loads i now 0) w' := by
  have L := load_any h hb 0 (by rw [hl]; omega)
  have CT : Hid (∀ (sp' : Bool) (s' : Ss) (w1 : World), D W0 U0 S0 X0 p i now X sp' s' w1 → w1.heap[b]? = some (stealO (fnv 50 b) bc t v)) := Mr.hid (fun sp' s' w1 h1 => h1.at hX)
  have CC : Hid (∀ (sp' : Bool) (s' : Ss) (w1 : World), D W0 U0 S0 X0 p i now X sp' s' w1 → w1.heap[bc]? = some (comO r lw)) := Mr.hid (fun sp' s' w1 h1 => h1.at hC)
  have fin : Hid (∀ w1, D W0 U0 S0 X0 p i now X true (s.loads i now 0) w1 → ∀ y, D W0 U0 S0 X0 p i now (Xp X b (.cells ((#[.nilFunc, fnv 50 b, .pointer (some ⟨bc, 0, none⟩), .int .i64 t, .int .i64 v].setIfInBounds 3 (.int .i64 y)).setIfInBounds 1 (fnv 63 b)) 136 (0, 0))) true (s.loads i now 0) ((w1.setCell ⟨b, 3, none⟩ (.int .i64 y)).setCell ⟨b, 1, none⟩ (fnv 63 b))) := Mr.hid (fun w1 h1 y => dput (dput (dself h1 hX) 3 (.int .i64 y) h0) 1 (fnv 63 b) h0)
  unfold fnv at fin
  obtain ⟨a0, a1, a2, a3, a4, az⟩ := steal_c (CT.out _ _ _ h)
  obtain ⟨k0, k1, kz⟩ := com_c (CC.out _ _ _ h)
  generalize wrap64 (rd s.ws 0) = y at *
  generalize s.loads i now 0 = s1 at *
  replace h := Mr.hid h
  clear hl hb
  go_enter Tryz.func50, Tryz.ntmps50
  go_wp2_with (go_at_call 60; refine L.mono ?_; rintro e w1 ⟨rfl, h1⟩; clear L; obtain ⟨aa0, aa1, aa2, aa3, aa4, aaz⟩ := steal_c (CT.out _ _ _ h1); have fin1 := Mr.hid (fin.out w1 h1 (y)); clear fin; replace h1 := Mr.hid h1)
  go_end0
  exact ⟨rfl, fin1.out⟩
set_option maxHeartbeats 4000000 in
theorem steal2f {t v : Int} (h : D W0 U0 S0 X0 p i now X false s W) (hb : Me.Roomy s.lg s.ah) {b bc r : Nat} {lw : Option Addr} (hX : X b (stealO (fnv 63 b) bc t v)) (hC : X bc (comO r lw)) (hbc : b ≠ bc) (h0 : X0 b ∨ W0.heap.size ≤ b) (hl : s.ws.length = 2 + r) (r0 : -1 ≤ t ∧ t ≤ 1000000) (r1 : -1 ≤ wrap64 (rd s.ws 1) ∧ wrap64 (rd s.ws 1) ≤ 1000000) (hy : wrap64 (rd s.ws 1) - t ≤ 0) (t0 : Th) (ht : s.ths[i]? = some t0) (c : Nat) (hcall : t0.call = c) (cl : Cl) (hc : s.cls[c]? = some cl) :
    Calls Tryz.prog 63 #[.pointer (some ⟨b, 0, none⟩), .pointer (some ⟨p.bd, 0, none⟩)] W fun e w' => e = .returned (.tuple #[]) ∧ D W0 U0 S0 X0 p i now (Xp X b (stealO .nilFunc bc t v)) true (Ss.ans (Ss.pts (s.loads i now 1) c cl now) i t0 3 0) w' := by
  have CT : Hid (∀ (sp' : Bool) (s' : Ss) (w1 : World), D W0 U0 S0 X0 p i now X sp' s' w1 → w1.heap[b]? = some (stealO (fnv 63 b) bc t v)) := Mr.hid (fun sp' s' w1 h1 => h1.at hX)
  have CC : Hid (∀ (sp' : Bool) (s' : Ss) (w1 : World), D W0 U0 S0 X0 p i now X sp' s' w1 → w1.heap[bc]? = some (comO r lw)) := Mr.hid (fun sp' s' w1 h1 => h1.at hC)
  have EH : Hid (∀ w1, D W0 U0 S0 X0 p i now X true (s.loads i now 1) w1 → _) := Mr.hid (fun w1 h1 => here_any h1 hX (f := 63) (b' := b) rfl h0 t0 ht c hcall cl hc 3)
  obtain ⟨a0, a1, a2, a3, a4, az⟩ := steal_c (CT.out _ _ _ h)
  have Ld := load_any h.drew hb 1 (by rw [hl]; omega)
  generalize wrap64 (rd s.ws 1) = y at *
  have e1 : IntKind.i64.wrap (y - t) = y - t := i64w _ (by omega) (by omega)
  have e2 : decide (y - t ≤ 0) = true := by simp; omega
  generalize s.loads i now 1 = s1 at *
  replace h := Mr.hid h
  clear hl hb r0 r1 hy ht hc hcall
  go_enter Tryz.func63, Tryz.ntmps63
  go_wp2
  go_region_held3 (fun w' => w'.cell? ⟨b, 3, none⟩ = some (.int .i64 t)) (go_keep)
    (first | (go_at_call 60; refine Ld.mono ?_; clear Ld; rintro e w1 ⟨rfl, h1⟩; obtain ⟨g0, g1, g2, g3, g4, gz⟩ := steal_c (CT.out _ _ _ h1); replace h1 := Mr.hid h1))
  have E1 := EH.out _ h1.out
  clear EH
  go_wp2_with (go_at_call 72; refine E1.mono ?_; clear E1; rintro e w2 ⟨rfl, h2⟩; replace h2 := Mr.hid h2)
  refine bodyPost_ret (results_none rfl _ _ _) rfl ?_
  exact ⟨rfl, h2.out⟩
set_option maxHeartbeats 4000000 in
theorem steal2n {t v : Int} (h : D W0 U0 S0 X0 p i now X false s W) (hb : Me.Roomy s.lg s.ah) {b bc r : Nat} {lw : Option Addr} (hX : X b (stealO (fnv 63 b) bc t v)) (hC : X bc (comO r lw)) (hbc : b ≠ bc) (h0 : X0 b ∨ W0.heap.size ≤ b) (hl : s.ws.length = 2 + r) (r0 : -1 ≤ t ∧ t ≤ 1000000) (r1 : -1 ≤ wrap64 (rd s.ws 1) ∧ wrap64 (rd s.ws 1) ≤ 1000000) (hy : ¬ wrap64 (rd s.ws 1) - t ≤ 0) :
    Calls Tryz.prog 63 #[.pointer (some ⟨b, 0, none⟩), .pointer (some ⟨p.bd, 0, none⟩)] W fun e w' => e = .returned (.tuple #[]) ∧ D W0 U0 S0 X0 p i now (Xp X b (stealO (fnv 78 b) bc t v)) true (s.loads i now 1) w' := by
  have CT : Hid (∀ (sp' : Bool) (s' : Ss) (w1 : World), D W0 U0 S0 X0 p i now X sp' s' w1 → w1.heap[b]? = some (stealO (fnv 63 b) bc t v)) := Mr.hid (fun sp' s' w1 h1 => h1.at hX)
  have CC : Hid (∀ (sp' : Bool) (s' : Ss) (w1 : World), D W0 U0 S0 X0 p i now X sp' s' w1 → w1.heap[bc]? = some (comO r lw)) := Mr.hid (fun sp' s' w1 h1 => h1.at hC)
  have fin : Hid (∀ w1, D W0 U0 S0 X0 p i now X true (s.loads i now 1) w1 → _) := Mr.hid (fun w1 h1 => dput (dself h1 hX) 1 (fnv 78 b) h0)
  obtain ⟨a0, a1, a2, a3, a4, az⟩ := steal_c (CT.out _ _ _ h)
  have Ld := load_any h.drew hb 1 (by rw [hl]; omega)
  generalize wrap64 (rd s.ws 1) = y at *
  have e1 : IntKind.i64.wrap (y - t) = y - t := i64w _ (by omega) (by omega)
  have e2 : decide (y - t ≤ 0) = false := by simp; omega
  generalize s.loads i now 1 = s1 at *
  replace h := Mr.hid h
  clear hl hb r0 r1 hy
  go_enter Tryz.func63, Tryz.ntmps63
  go_wp2
  go_region_held3 (fun w' => w'.cell? ⟨b, 3, none⟩ = some (.int .i64 t)) (go_keep)
    (first | (go_at_call 60; refine Ld.mono ?_; clear Ld; rintro e w1 ⟨rfl, h1⟩; obtain ⟨g0, g1, g2, g3, g4, gz⟩ := steal_c (CT.out _ _ _ h1); replace h1 := Mr.hid h1))
  have fin1 := Mr.hid (fin.out _ h1.out)
  clear fin
  unfold fnv at fin1
  go_wp2
  go_end0
  exact ⟨rfl, fin1.out⟩
set_option maxHeartbeats 4000000 in
theorem steal3 {v : Int} {k : Nat} (h : D W0 U0 S0 X0 p i now X false s W) (hb : Me.Roomy s.lg s.ah) {b bc r : Nat} {lw : Option Addr} (hX : X b (stealO (fnv 78 b) bc (k : Int) v)) (hC : X bc (comO r lw)) (hbc : b ≠ bc) (h0 : X0 b ∨ W0.heap.size ≤ b) (hl : s.ws.length = 2 + r) (hr1 : 1 ≤ r) (hr2 : r ≤ 1000) (hk : k ≤ 1000000) :
    Calls Tryz.prog 78 #[.pointer (some ⟨b, 0, none⟩), .pointer (some ⟨p.bd, 0, none⟩)] W fun e w' => e = .returned (.tuple #[]) ∧ D W0 U0 S0 X0 p i now (Xp X b (stealO (fnv 90 b) bc (k : Int) (wrap64 (rd s.ws (cel r (k : Int)))))) true (s.loads i now (cel r (k : Int))) w' := by
  have hce : cel r (k : Int) < s.ws.length := by rw [hl]; unfold cel; have := Nat.mod_lt k (show 0 < r by omega); simp; omega
  have Ld := load_any h.drew hb (cel r (k : Int)) hce
  have CT : Hid (∀ (sp' : Bool) (s' : Ss) (w1 : World), D W0 U0 S0 X0 p i now X sp' s' w1 → w1.heap[b]? = some (stealO (fnv 78 b) bc (k : Int) v)) := Mr.hid (fun sp' s' w1 h1 => h1.at hX)
  have CC : Hid (∀ (sp' : Bool) (s' : Ss) (w1 : World), D W0 U0 S0 X0 p i now X sp' s' w1 → w1.heap[bc]? = some (comO r lw)) := Mr.hid (fun sp' s' w1 h1 => h1.at hC)
  have fin : Hid (∀ (s' : Ss) w1, D W0 U0 S0 X0 p i now X true s' w1 → ∀ y, D W0 U0 S0 X0 p i now (Xp X b (stealO (fnv 78 b) bc (k : Int) y)) true s' (w1.setCell ⟨b, 4, none⟩ (.int .i64 y))) := Mr.hid (fun s' w1 h1 y => dput (dself h1 hX) 4 (.int .i64 y) h0)
  have CB : Hid (∀ (s' : Ss) w1 y, D W0 U0 S0 X0 p i now (Xp X b (stealO (fnv 78 b) bc (k : Int) y)) true s' w1 → w1.heap[b]? = some (stealO (fnv 78 b) bc (k : Int) y)) := Mr.hid (fun s' w1 y h1 => h1.at (.inl ⟨rfl, rfl⟩))
  have CC2 : Hid (∀ (s' : Ss) w1 y, D W0 U0 S0 X0 p i now (Xp X b (stealO (fnv 78 b) bc (k : Int) y)) true s' w1 → w1.heap[bc]? = some (comO r lw)) := Mr.hid (fun s' w1 y h1 => h1.at (.inr ⟨hbc.symm, hC⟩))
  have fin2 : Hid (∀ (s' : Ss) w1 y, D W0 U0 S0 X0 p i now (Xp X b (stealO (fnv 78 b) bc (k : Int) y)) true s' w1 → D W0 U0 S0 X0 p i now (Xp X b (stealO (fnv 90 b) bc (k : Int) y)) true s' (w1.setCell ⟨b, 1, none⟩ (fnv 90 b))) := Mr.hid (fun s' w1 y h1 => dput h1 1 (fnv 90 b) h0)
  obtain ⟨a0, a1, a2, a3, a4, az⟩ := steal_c (CT.out _ _ _ h)
  obtain ⟨k0, k1, kz⟩ := com_c (CC.out _ _ _ h)
  have CE := Mr.hid (cel_any r k hr1 hr2)
  generalize wrap64 (rd s.ws (cel r (k : Int))) = y at *
  generalize s.loads i now (cel r (k : Int)) = s1 at *
  generalize ((cel r (k : Int) : Nat) : Int) = ce at *
  replace h := Mr.hid h
  clear hl hb hce hr1 hr2 hk
  unfold fnv at fin2
  go_enter Tryz.func78, Tryz.ntmps78
  go_wp2
  go_region_held3 (fun w' => w'.cell? ⟨b, 2, none⟩ = some (.pointer (some ⟨bc, 0, none⟩)) ∧ w'.cell? ⟨b, 3, none⟩ = some (.int .i64 (k : Int)) ∧ w'.cell? ⟨bc, 0, none⟩ = some (.int .i64 (r : Int))) (first | with_reducible exact KQ.out | go_keep)
    (first | (go_at_call 82; refine (CE.out _).mono ?_; rintro e w9 ⟨rfl, hw9⟩; obtain rfl := hw9.symm) | (go_at_call 60; refine Ld.mono ?_; clear Ld; rintro e w1 ⟨rfl, h1⟩; obtain ⟨g0, g1, g2, g3, g4, gz⟩ := steal_c (CT.out _ _ _ h1); obtain ⟨l0, l1, lz⟩ := com_c (CC.out _ _ _ h1); have h2 := Mr.hid (fin.out _ w1 h1 y); obtain ⟨-, -, j2, j3, -, -⟩ := steal_c (CB.out _ _ _ h2.out); have KQ := Mr.hid (And.intro j2 (And.intro j3 (com_c (CC2.out _ _ _ h2.out)).1)); clear j2 j3; replace h1 := Mr.hid h1))
  clear KQ
  have h5 := Mr.hid (fin2.out _ _ _ h2.out)
  obtain ⟨q0, q1, q2, q3, q4, qz⟩ := steal_c (CB.out _ _ _ h2.out)
  generalize w1.setCell ⟨b, 4, none⟩ (.int .i64 y) = w2 at *
  clear g0 g1 g2 g3 g4 gz a0 a1 a2 a3 a4 az fin2
  go_wp2
  go_end0
  exact ⟨rfl, h5.out⟩
end
end Go.Proofs.YtnapnhmmopajfaaGreat.Dm
/-
  THE DEQUE's TASKS: a steal: its swap (made by mk_dm.py).
-/
namespace Go.Proofs.YtnapnhmmopajfaaGreat.Dm
open Go.RowKit Mr Me Ma Gm
set_option linter.unusedVariables false
set_option linter.unusedSimpArgs false
set_option maxRecDepth 100000
section
variable {W0 : World} {U0 S0 X0 : Nat → Prop} {p : Ph} {i : Nat} {now : Int} {X : Nat → Obj → Prop} {s : Ss} {W : World} {sp : Bool}
set_option maxHeartbeats 4000000 in
theorem pa_none {b bc r f b' : Nat} {t v : Int} (h : D W0 U0 S0 X0 p i now X sp s W) (hX : X b (stealO (fnv f b') bc t v)) (hC : X bc (comO r none)) (m : Int) :
    Calls Tryz.prog 99 #[.pointer (some ⟨b, 0, none⟩), .int .i64 m] W fun e w' => e = .returned (.int .i64 m) ∧ D W0 U0 S0 X0 p i now X sp s w' := by
  obtain ⟨a0, a1, a2, a3, a4, az⟩ := steal_c (h.at hX)
  obtain ⟨k0, k1, kz⟩ := com_c (h.at hC)
  have hd : Hid (∀ nq, D W0 U0 S0 X0 p i now X sp s (W.drewN nq)) := Mr.hid (fun nq => by
    obtain ⟨U, S, vl, va, hx, hm, hd, hU, hS0, hU0, hU1, hf⟩ := h
    have hB : Below W.heap.size W (W.drewN nq) := ⟨rfl, rfl, rfl, Nat.le_refl _, fun _ _ => rfl⟩
    exact ⟨U, S, vl, va, fun k o hk => hx k o hk, hm.below hB, hd.kept rfl rfl, hU, hS0, hU0, hU1, ⟨hf.os, hf.tape, hf.output, hf.size, fun k q1 q2 => hf.block k q1 q2⟩⟩)
  clear h hX hC
  go_enter Tryz.func99, Tryz.ntmps99
  go_wp2
  go_quiet (fail)
  go_wp2
  go_ret
  exact ⟨rfl, hd.out nq⟩
set_option maxHeartbeats 4000000 in
theorem pa_some {b bc bl r f b' : Nat} {t v m0 k : Int} (h : D W0 U0 S0 X0 p i now X sp s W) (hX : X b (stealO (fnv f b') bc t v)) (hC : X bc (comO r (some ⟨bl, 0, none⟩))) (hL : X bl (lowO m0 k)) (m : Int) :
    Calls Tryz.prog 99 #[.pointer (some ⟨b, 0, none⟩), .int .i64 m] W fun e w' => e = .returned (.int .i64 (if k = t then m0 else m)) ∧ D W0 U0 S0 X0 p i now X sp s w' := by
  obtain ⟨a0, a1, a2, a3, a4, az⟩ := steal_c (h.at hX)
  obtain ⟨k0, k1, kz⟩ := com_c (h.at hC)
  obtain ⟨l0, l1, lz⟩ := low_c (h.at hL)
  have hd := Mr.hid h.drew
  obtain ⟨R, hR⟩ : ∃ R, R = (if k = t then m0 else m) := ⟨_, rfl⟩
  rw [← hR]
  clear h hX hC hL
  by_cases e : k = t
  · have e1 : (k == t) = true := by simp [e]
    rw [if_pos e] at hR
    subst hR
    clear e
    go_enter Tryz.func99, Tryz.ntmps99
    go_wp2
    go_region_held3 (fun w' => w'.cell? ⟨b, 2, none⟩ = some (.pointer (some ⟨bc, 0, none⟩)) ∧ w'.cell? ⟨b, 3, none⟩ = some (.int .i64 t) ∧ w'.cell? ⟨bc, 1, none⟩ = some (.pointer (some ⟨bl, 0, none⟩)) ∧ w'.cell? ⟨bl, 1, none⟩ = some (.int .i64 k)) (go_keep) (fail)
    go_wp2
    go_ret
    exact ⟨rfl, hd.out⟩
  · have e1 : (k == t) = false := by simp [e]
    rw [if_neg e] at hR
    subst hR
    clear e
    go_enter Tryz.func99, Tryz.ntmps99
    go_wp2
    go_region_held3 (fun w' => w'.cell? ⟨b, 2, none⟩ = some (.pointer (some ⟨bc, 0, none⟩)) ∧ w'.cell? ⟨b, 3, none⟩ = some (.int .i64 t) ∧ w'.cell? ⟨bc, 1, none⟩ = some (.pointer (some ⟨bl, 0, none⟩)) ∧ w'.cell? ⟨bl, 1, none⟩ = some (.int .i64 k)) (go_keep) (fail)
    go_wp2
    go_ret
    exact ⟨rfl, hd.out⟩
/-- The point of a steal whose swap succeeds. -/
def pAt (g : Lw) (t now : Int) : Int := match g with | some (m, k) => if k = t then m else now | none => now
theorem pa_any {b bc bl r f b' : Nat} {t v : Int} {g : Lw} (h : D W0 U0 S0 X0 p i now X sp s W) (hX : X b (stealO (fnv f b') bc t v)) (hC : X bc (comO r (lwp bl g))) (hL : ∀ m k, g = some (m, k) → X bl (lowO m k)) (m : Int) :
    Calls Tryz.prog 99 #[.pointer (some ⟨b, 0, none⟩), .int .i64 m] W fun e w' => e = .returned (.int .i64 (pAt g t m)) ∧ D W0 U0 S0 X0 p i now X sp s w' := by
  cases g with
  | none => exact pa_none h hX hC m
  | some x =>
    obtain ⟨m0, k⟩ := x
    exact pa_some h hX hC (hL m0 k rfl) m
set_option maxHeartbeats 4000000 in
theorem steal4y {v : Int} {k : Nat} (h : D W0 U0 S0 X0 p i now X false s W) (hb : Me.Roomy s.lg s.ah) {b bc r : Nat} {bl : Nat} {g : Lw} (hX : X b (stealO (fnv 90 b) bc (k : Int) v)) (hC : X bc (comO r (lwp bl g))) (hbc : b ≠ bc) (h0 : X0 b ∨ W0.heap.size ≤ b) (hl : s.ws.length = 2 + r) (hk : k ≤ 1000000) (hy : rd s.ws 0 = (k : Int)) (hL : ∀ m k, g = some (m, k) → X bl (lowO m k)) (t0 : Th) (ht : s.ths[i]? = some t0) (c : Nat) (hcall : t0.call = c) (cl : Cl) (hc : s.cls[c]? = some cl) :
    Calls Tryz.prog 90 #[.pointer (some ⟨b, 0, none⟩), .pointer (some ⟨p.bd, 0, none⟩)] W fun e w' => e = .returned (.tuple #[]) ∧ D W0 U0 S0 X0 p i now (Xp X b (stealO .nilFunc bc (k : Int) v)) true (Ss.ans (Ss.pts (s.hits i now 0 (k : Int) ((k : Int) + 1)) c cl (pAt g (k : Int) now)) i t0 2 v) w' := by
  have L := raise_hit h hb (by rw [hl]; omega) k hk hy
  have CT : Hid (∀ (sp' : Bool) (s' : Ss) (w1 : World), D W0 U0 S0 X0 p i now X sp' s' w1 → w1.heap[b]? = some (stealO (fnv 90 b) bc (k : Int) v)) := Mr.hid (fun sp' s' w1 h1 => h1.at hX)
  have fin2 : Hid (∀ (s' : Ss) w1, D W0 U0 S0 X0 p i now X true s' w1 → D W0 U0 S0 X0 p i now (Xp X b (stealO .nilFunc bc (k : Int) v)) true s' (w1.setCell ⟨b, 1, none⟩ .nilFunc)) := Mr.hid (fun s' w1 h1 => dput (dself h1 hX) 1 .nilFunc h0)
  have NWc : Hid (∀ (s' : Ss) (W : World), D W0 U0 S0 X0 p i now X true s' W → Calls Tryz.prog 76 #[.pointer (some ⟨p.bd, 0, none⟩)] W fun e w' => e = .returned (.int .i64 now) ∧ w' = W) := Mr.hid (fun s' W h => now_desk h.dk)
  have PAc : Hid (∀ (s' : Ss) (W : World), D W0 U0 S0 X0 p i now X true s' W → Calls Tryz.prog 99 #[.pointer (some ⟨b, 0, none⟩), .int .i64 now] W fun e w' => e = .returned (.int .i64 (pAt g (k : Int) now)) ∧ D W0 U0 S0 X0 p i now X true s' w') := Mr.hid (fun s' W h => pa_any h hX hC hL now)
  have PTc : Hid (∀ (W : World), D W0 U0 S0 X0 p i now X true (s.hits i now 0 (k : Int) ((k : Int) + 1)) W → Calls Tryz.prog 75 #[.pointer (some ⟨p.bd, 0, none⟩), .int .i64 (pAt g (k : Int) now)] W fun e w' => e = .returned (.tuple #[]) ∧ D W0 U0 S0 X0 p i now X true (Ss.pts (s.hits i now 0 (k : Int) ((k : Int) + 1)) c cl (pAt g (k : Int) now)) w') := Mr.hid (fun W h => point_any h t0 ht c hcall cl hc _)
  have ANc : Hid (∀ (W : World), D W0 U0 S0 X0 p i now X true (Ss.pts (s.hits i now 0 (k : Int) ((k : Int) + 1)) c cl (pAt g (k : Int) now)) W → Calls Tryz.prog 81 #[.pointer (some ⟨p.bd, 0, none⟩), .agg #[.int .i64 2, .int .i64 v]] W fun e w' => e = .returned (.tuple #[]) ∧ D W0 U0 S0 X0 p i now X true (Ss.ans (Ss.pts (s.hits i now 0 (k : Int) ((k : Int) + 1)) c cl (pAt g (k : Int) now)) i t0 2 v) w') := Mr.hid (fun W h => answer_any h t0 ht 2 v)
  obtain ⟨a0, a1, a2, a3, a4, az⟩ := steal_c (CT.out _ _ _ h)
  generalize pAt g (k : Int) now = pa at *
  generalize hs2 : Ss.pts (s.hits i now 0 (k : Int) ((k : Int) + 1)) c cl pa = s2 at *
  clear hs2
  generalize s.hits i now 0 (k : Int) ((k : Int) + 1) = s1 at *
  replace h := Mr.hid h
  clear hl hb hk hy ht hc hcall hL
  unfold fnv at fin2
  go_enter Tryz.func90, Tryz.ntmps90
  go_wp2_with (first | (go_at_call 98; refine L.mono ?_; clear L; rintro e w1 ⟨rfl, h1⟩; obtain ⟨g0, g1, g2, g3, g4, gz⟩ := steal_c (CT.out _ _ _ h1); have N1 := NWc.out _ _ h1; have PA1 := PAc.out _ _ h1; clear PAc; replace h1 := Mr.hid h1) | (go_at_call 76; refine N1.mono ?_; clear N1; rintro e w9 ⟨rfl, hw9⟩; obtain rfl := hw9.symm) | (go_at_call 99; refine PA1.mono ?_; clear PA1; rintro e w2 ⟨rfl, h2⟩; have PT1 := PTc.out _ h2; replace h2 := Mr.hid h2) | (go_at_call 75; refine PT1.mono ?_; clear PT1; rintro e w3 ⟨rfl, h3⟩; obtain ⟨q0, q1, q2, q3, q4, qz⟩ := steal_c (CT.out _ _ _ h3); have VA := Mr.hid (va_any v w3); have AN1 := ANc.out _ (h3.alloc (ansO 2 v)); unfold ansO at VA AN1; replace h3 := Mr.hid h3) | (go_at_call 96; refine VA.out.mono ?_; clear VA; rintro e w9 ⟨rfl, hw9⟩; obtain rfl := hw9.symm) | (go_at_call 81; refine AN1.mono ?_; clear AN1; rintro e w5 ⟨rfl, h5⟩; obtain ⟨n0, n1, n2, n3, n4, nz⟩ := steal_c (CT.out _ _ _ h5); have h7 := Mr.hid (fin2.out _ _ h5); replace h5 := Mr.hid h5))
  go_end0
  exact ⟨rfl, h7.out⟩
set_option maxHeartbeats 4000000 in
theorem steal4n {v : Int} {k : Nat} (h : D W0 U0 S0 X0 p i now X false s W) (hb : Me.Roomy s.lg s.ah) {b bc r : Nat} {bl : Nat} {g : Lw} (hX : X b (stealO (fnv 90 b) bc (k : Int) v)) (hC : X bc (comO r (lwp bl g))) (hbc : b ≠ bc) (h0 : X0 b ∨ W0.heap.size ≤ b) (hl : s.ws.length = 2 + r) (hk : k ≤ 1000000) (hy : rd s.ws 0 ≠ (k : Int))  :
    Calls Tryz.prog 90 #[.pointer (some ⟨b, 0, none⟩), .pointer (some ⟨p.bd, 0, none⟩)] W fun e w' => e = .returned (.tuple #[]) ∧ D W0 U0 S0 X0 p i now (Xp X b (stealO (fnv 50 b) bc (k : Int) v)) true (s.misses i now 0 (k : Int) ((k : Int) + 1)) w' := by
  have L := raise_miss h hb (by rw [hl]; omega) k hk hy
  have CT : Hid (∀ (sp' : Bool) (s' : Ss) (w1 : World), D W0 U0 S0 X0 p i now X sp' s' w1 → w1.heap[b]? = some (stealO (fnv 90 b) bc (k : Int) v)) := Mr.hid (fun sp' s' w1 h1 => h1.at hX)
  have fin2 : Hid (∀ (s' : Ss) w1, D W0 U0 S0 X0 p i now X true s' w1 → D W0 U0 S0 X0 p i now (Xp X b (stealO (fnv 50 b) bc (k : Int) v)) true s' (w1.setCell ⟨b, 1, none⟩ (fnv 50 b))) := Mr.hid (fun s' w1 h1 => dput (dself h1 hX) 1 (fnv 50 b) h0)
  obtain ⟨a0, a1, a2, a3, a4, az⟩ := steal_c (CT.out _ _ _ h)
  generalize s.misses i now 0 (k : Int) ((k : Int) + 1) = s1 at *
  replace h := Mr.hid h
  clear hl hb hk hy
  unfold fnv at fin2
  go_enter Tryz.func90, Tryz.ntmps90
  go_wp2_with (go_at_call 98; refine L.mono ?_; clear L; rintro e w1 ⟨rfl, h1⟩; obtain ⟨g0, g1, g2, g3, g4, gz⟩ := steal_c (CT.out _ _ _ h1); have h7 := Mr.hid (fin2.out _ _ h1); replace h1 := Mr.hid h1)
  refine bodyPost_ret (results_none rfl _ _ _) rfl ?_
  exact ⟨rfl, h7.out⟩
end
end Go.Proofs.YtnapnhmmopajfaaGreat.Dm
