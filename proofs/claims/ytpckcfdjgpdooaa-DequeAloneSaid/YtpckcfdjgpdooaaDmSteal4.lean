/-
  THE DEQUE's TASKS: a steal: its swap (made by mk_dm.py).
-/
import Derived.Test.YtpckcfdjgpdooaaDmTell
import Derived.Outline
import Derived.Deep.DeepCutAuto
import Derived.BigQuiet
namespace Go.Proofs.Ytpckcfdjgpdooaa.Dm
open Go.RowKit Mr Me Ma Gm
set_option linter.unusedVariables false
set_option linter.unusedSimpArgs false
set_option maxRecDepth 100000
section
variable {W0 : World} {U0 S0 X0 : Nat → Prop} {p : Ph} {i : Nat} {now : Int} {X : Nat → Obj → Prop} {s : Ss} {W : World} {sp : Bool}
set_option maxHeartbeats 4000000 in
theorem pa_none {b bc r f b' : Nat} {t v : Int} (h : D W0 U0 S0 X0 p i now X sp s W) (hX : X b (stealO (fnv f b') bc t v)) (hC : X bc (comO r none)) (m : Int) :
    Calls Try.prog 92 #[.pointer (some ⟨b, 0, none⟩), .int .i64 m] W fun e w' => e = .returned (.int .i64 m) ∧ D W0 U0 S0 X0 p i now X sp s w' := by
  obtain ⟨a0, a1, a2, a3, a4, az⟩ := steal_c (h.at hX)
  obtain ⟨k0, k1, kz⟩ := com_c (h.at hC)
  have hd : Hid (∀ nq, D W0 U0 S0 X0 p i now X sp s (W.drewN nq)) := Mr.hid (fun nq => by
    obtain ⟨U, S, vl, va, hx, hm, hd, hU, hS0, hU0, hU1, hf⟩ := h
    have hB : Below W.heap.size W (W.drewN nq) := ⟨rfl, rfl, rfl, Nat.le_refl _, fun _ _ => rfl⟩
    exact ⟨U, S, vl, va, fun k o hk => hx k o hk, hm.below hB, hd.kept rfl rfl, hU, hS0, hU0, hU1, ⟨hf.os, hf.tape, hf.output, hf.size, fun k q1 q2 => hf.block k q1 q2⟩⟩)
  clear h hX hC
  go_enter Try.func92, Try.ntmps92
  go_wp2
  go_quiet (fail)
  go_wp2
  go_ret
  exact ⟨rfl, hd.out nq⟩
set_option maxHeartbeats 4000000 in
theorem pa_some {b bc bl r f b' : Nat} {t v m0 k : Int} (h : D W0 U0 S0 X0 p i now X sp s W) (hX : X b (stealO (fnv f b') bc t v)) (hC : X bc (comO r (some ⟨bl, 0, none⟩))) (hL : X bl (lowO m0 k)) (m : Int) :
    Calls Try.prog 92 #[.pointer (some ⟨b, 0, none⟩), .int .i64 m] W fun e w' => e = .returned (.int .i64 (if k = t then m0 else m)) ∧ D W0 U0 S0 X0 p i now X sp s w' := by
  obtain ⟨a0, a1, a2, a3, a4, az⟩ := steal_c (h.at hX)
  obtain ⟨k0, k1, kz⟩ := com_c (h.at hC)
  obtain ⟨l0, l1, lz⟩ := low_c (h.at hL)
  have hd := Mr.hid h.drew
  obtain ⟨R, hR⟩ : ∃ R, R = (if k = t then m0 else m) := ⟨_, rfl⟩
  rw [← hR]
  clear h hX hC hL
  by_cases e : k = t
  · have e1 : (k == t) = true := by simp [e]
    rw [if_pos e] at hR
    subst hR
    clear e
    go_enter Try.func92, Try.ntmps92
    go_wp2
    go_region_held3 (fun w' => w'.cell? ⟨b, 2, none⟩ = some (.pointer (some ⟨bc, 0, none⟩)) ∧ w'.cell? ⟨b, 3, none⟩ = some (.int .i64 t) ∧ w'.cell? ⟨bc, 1, none⟩ = some (.pointer (some ⟨bl, 0, none⟩)) ∧ w'.cell? ⟨bl, 1, none⟩ = some (.int .i64 k)) (go_keep) (fail)
    go_wp2
    go_ret
    exact ⟨rfl, hd.out⟩
  · have e1 : (k == t) = false := by simp [e]
    rw [if_neg e] at hR
    subst hR
    clear e
    go_enter Try.func92, Try.ntmps92
    go_wp2
    go_region_held3 (fun w' => w'.cell? ⟨b, 2, none⟩ = some (.pointer (some ⟨bc, 0, none⟩)) ∧ w'.cell? ⟨b, 3, none⟩ = some (.int .i64 t) ∧ w'.cell? ⟨bc, 1, none⟩ = some (.pointer (some ⟨bl, 0, none⟩)) ∧ w'.cell? ⟨bl, 1, none⟩ = some (.int .i64 k)) (go_keep) (fail)
    go_wp2
    go_ret
    exact ⟨rfl, hd.out⟩
/-- The point of a steal whose swap succeeds. -/
def pAt (g : Lw) (t now : Int) : Int := match g with | some (m, k) => if k = t then m else now | none => now
theorem pa_any {b bc bl r f b' : Nat} {t v : Int} {g : Lw} (h : D W0 U0 S0 X0 p i now X sp s W) (hX : X b (stealO (fnv f b') bc t v)) (hC : X bc (comO r (lwp bl g))) (hL : ∀ m k, g = some (m, k) → X bl (lowO m k)) (m : Int) :
    Calls Try.prog 92 #[.pointer (some ⟨b, 0, none⟩), .int .i64 m] W fun e w' => e = .returned (.int .i64 (pAt g t m)) ∧ D W0 U0 S0 X0 p i now X sp s w' := by
  cases g with
  | none => exact pa_none h hX hC m
  | some x =>
    obtain ⟨m0, k⟩ := x
    exact pa_some h hX hC (hL m0 k rfl) m
set_option maxHeartbeats 4000000 in
theorem steal4y {v : Int} {k : Nat} (h : D W0 U0 S0 X0 p i now X false s W) (hb : Me.Roomy s.lg s.ah) {b bc r : Nat} {bl : Nat} {g : Lw} (hX : X b (stealO (fnv 83 b) bc (k : Int) v)) (hC : X bc (comO r (lwp bl g))) (hbc : b ≠ bc) (h0 : X0 b ∨ W0.heap.size ≤ b) (hl : s.ws.length = 2 + r) (hk : k ≤ 1000000) (hy : rd s.ws 0 = (k : Int)) (hL : ∀ m k, g = some (m, k) → X bl (lowO m k)) (t0 : Th) (ht : s.ths[i]? = some t0) (c : Nat) (hcall : t0.call = c) (cl : Cl) (hc : s.cls[c]? = some cl) :
    Calls Try.prog 83 #[.pointer (some ⟨b, 0, none⟩), .pointer (some ⟨p.bd, 0, none⟩)] W fun e w' => e = .returned (.tuple #[]) ∧ D W0 U0 S0 X0 p i now (Xp X b (stealO .nilFunc bc (k : Int) v)) true (Ss.ans (Ss.pts (s.hits i now 0 (k : Int) ((k : Int) + 1)) c cl (pAt g (k : Int) now)) i t0 2 v) w' := by
  have L := raise_hit h hb (by rw [hl]; omega) k hk hy
  have CT : Hid (∀ (sp' : Bool) (s' : Ss) (w1 : World), D W0 U0 S0 X0 p i now X sp' s' w1 → w1.heap[b]? = some (stealO (fnv 83 b) bc (k : Int) v)) := Mr.hid (fun sp' s' w1 h1 => h1.at hX)
  have fin2 : Hid (∀ (s' : Ss) w1, D W0 U0 S0 X0 p i now X true s' w1 → D W0 U0 S0 X0 p i now (Xp X b (stealO .nilFunc bc (k : Int) v)) true s' (w1.setCell ⟨b, 1, none⟩ .nilFunc)) := Mr.hid (fun s' w1 h1 => dput (dself h1 hX) 1 .nilFunc h0)
  have NWc : Hid (∀ (s' : Ss) (W : World), D W0 U0 S0 X0 p i now X true s' W → Calls Try.prog 70 #[.pointer (some ⟨p.bd, 0, none⟩)] W fun e w' => e = .returned (.int .i64 now) ∧ w' = W) := Mr.hid (fun s' W h => now_desk h.dk)
  have PAc : Hid (∀ (s' : Ss) (W : World), D W0 U0 S0 X0 p i now X true s' W → Calls Try.prog 92 #[.pointer (some ⟨b, 0, none⟩), .int .i64 now] W fun e w' => e = .returned (.int .i64 (pAt g (k : Int) now)) ∧ D W0 U0 S0 X0 p i now X true s' w') := Mr.hid (fun s' W h => pa_any h hX hC hL now)
  have PTc : Hid (∀ (W : World), D W0 U0 S0 X0 p i now X true (s.hits i now 0 (k : Int) ((k : Int) + 1)) W → Calls Try.prog 69 #[.pointer (some ⟨p.bd, 0, none⟩), .int .i64 (pAt g (k : Int) now)] W fun e w' => e = .returned (.tuple #[]) ∧ D W0 U0 S0 X0 p i now X true (Ss.pts (s.hits i now 0 (k : Int) ((k : Int) + 1)) c cl (pAt g (k : Int) now)) w') := Mr.hid (fun W h => point_any h t0 ht c hcall cl hc _)
  have ANc : Hid (∀ (W : World), D W0 U0 S0 X0 p i now X true (Ss.pts (s.hits i now 0 (k : Int) ((k : Int) + 1)) c cl (pAt g (k : Int) now)) W → Calls Try.prog 75 #[.pointer (some ⟨p.bd, 0, none⟩), .agg #[.int .i64 2, .int .i64 v]] W fun e w' => e = .returned (.tuple #[]) ∧ D W0 U0 S0 X0 p i now X true (Ss.ans (Ss.pts (s.hits i now 0 (k : Int) ((k : Int) + 1)) c cl (pAt g (k : Int) now)) i t0 2 v) w') := Mr.hid (fun W h => answer_any h t0 ht 2 v)
  obtain ⟨a0, a1, a2, a3, a4, az⟩ := steal_c (CT.out _ _ _ h)
  generalize pAt g (k : Int) now = pa at *
  generalize hs2 : Ss.pts (s.hits i now 0 (k : Int) ((k : Int) + 1)) c cl pa = s2 at *
  clear hs2
  generalize s.hits i now 0 (k : Int) ((k : Int) + 1) = s1 at *
  replace h := Mr.hid h
  clear hl hb hk hy ht hc hcall hL
  unfold fnv at fin2
  go_enter Try.func83, Try.ntmps83
  go_wp2_with (first | (go_at_call 91; refine L.mono ?_; clear L; rintro e w1 ⟨rfl, h1⟩; obtain ⟨g0, g1, g2, g3, g4, gz⟩ := steal_c (CT.out _ _ _ h1); have N1 := NWc.out _ _ h1; have PA1 := PAc.out _ _ h1; clear PAc; replace h1 := Mr.hid h1) | (go_at_call 70; refine N1.mono ?_; clear N1; rintro e w9 ⟨rfl, hw9⟩; obtain rfl := hw9.symm) | (go_at_call 92; refine PA1.mono ?_; clear PA1; rintro e w2 ⟨rfl, h2⟩; have PT1 := PTc.out _ h2; replace h2 := Mr.hid h2) | (go_at_call 69; refine PT1.mono ?_; clear PT1; rintro e w3 ⟨rfl, h3⟩; obtain ⟨q0, q1, q2, q3, q4, qz⟩ := steal_c (CT.out _ _ _ h3); have VA := Mr.hid (va_any v w3); have AN1 := ANc.out _ (h3.alloc (ansO 2 v)); unfold ansO at VA AN1; replace h3 := Mr.hid h3) | (go_at_call 89; refine VA.out.mono ?_; clear VA; rintro e w9 ⟨rfl, hw9⟩; obtain rfl := hw9.symm) | (go_at_call 75; refine AN1.mono ?_; clear AN1; rintro e w5 ⟨rfl, h5⟩; obtain ⟨n0, n1, n2, n3, n4, nz⟩ := steal_c (CT.out _ _ _ h5); have h7 := Mr.hid (fin2.out _ _ h5); replace h5 := Mr.hid h5))
  go_end0
  exact ⟨rfl, h7.out⟩
set_option maxHeartbeats 4000000 in
theorem steal4n {v : Int} {k : Nat} (h : D W0 U0 S0 X0 p i now X false s W) (hb : Me.Roomy s.lg s.ah) {b bc r : Nat} {bl : Nat} {g : Lw} (hX : X b (stealO (fnv 83 b) bc (k : Int) v)) (hC : X bc (comO r (lwp bl g))) (hbc : b ≠ bc) (h0 : X0 b ∨ W0.heap.size ≤ b) (hl : s.ws.length = 2 + r) (hk : k ≤ 1000000) (hy : rd s.ws 0 ≠ (k : Int))  :
    Calls Try.prog 83 #[.pointer (some ⟨b, 0, none⟩), .pointer (some ⟨p.bd, 0, none⟩)] W fun e w' => e = .returned (.tuple #[]) ∧ D W0 U0 S0 X0 p i now (Xp X b (stealO (fnv 53 b) bc (k : Int) v)) true (s.misses i now 0 (k : Int) ((k : Int) + 1)) w' := by
  have L := raise_miss h hb (by rw [hl]; omega) k hk hy
  have CT : Hid (∀ (sp' : Bool) (s' : Ss) (w1 : World), D W0 U0 S0 X0 p i now X sp' s' w1 → w1.heap[b]? = some (stealO (fnv 83 b) bc (k : Int) v)) := Mr.hid (fun sp' s' w1 h1 => h1.at hX)
  have fin2 : Hid (∀ (s' : Ss) w1, D W0 U0 S0 X0 p i now X true s' w1 → D W0 U0 S0 X0 p i now (Xp X b (stealO (fnv 53 b) bc (k : Int) v)) true s' (w1.setCell ⟨b, 1, none⟩ (fnv 53 b))) := Mr.hid (fun s' w1 h1 => dput (dself h1 hX) 1 (fnv 53 b) h0)
  obtain ⟨a0, a1, a2, a3, a4, az⟩ := steal_c (CT.out _ _ _ h)
  generalize s.misses i now 0 (k : Int) ((k : Int) + 1) = s1 at *
  replace h := Mr.hid h
  clear hl hb hk hy
  unfold fnv at fin2
  go_enter Try.func83, Try.ntmps83
  go_wp2_with (go_at_call 91; refine L.mono ?_; clear L; rintro e w1 ⟨rfl, h1⟩; obtain ⟨g0, g1, g2, g3, g4, gz⟩ := steal_c (CT.out _ _ _ h1); have h7 := Mr.hid (fin2.out _ _ h1); replace h1 := Mr.hid h1)
  refine bodyPost_ret (results_none rfl _ _ _) rfl ?_
  exact ⟨rfl, h7.out⟩
end
end Go.Proofs.Ytpckcfdjgpdooaa.Dm
