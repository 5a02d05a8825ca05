import Derived.Test.YtnapnhmmopajfaaGreatJ15
import Derived.Outline
import Derived.Deep.DeepCutAuto
/-
  THE DEQUE's TASKS: a take (made by mk_dm.py).
-/
namespace Go.Proofs.YtnapnhmmopajfaaGreat.Dm
open Go.RowKit Mr Me Ma Gm
set_option linter.unusedVariables false
set_option linter.unusedSimpArgs false
set_option maxRecDepth 100000
section
variable {W0 : World} {U0 S0 X0 : Nat → Prop} {p : Ph} {i : Nat} {now : Int} {X : Nat → Obj → Prop} {s : Ss} {W : World} {sp : Bool}
set_option maxHeartbeats 4000000 in
theorem take1 {l t v : Int} (h : D W0 U0 S0 X0 p i now X false s W) (hb : Me.Roomy s.lg s.ah) {b bc r : Nat} {lw : Option Addr} (hX : X b (takeO (fnv 49 b) bc l t v)) (hC : X bc (comO r lw)) (hbc : b ≠ bc) (h0 : X0 b ∨ W0.heap.size ≤ b) (hl : s.ws.length = 2 + r) (hy : -1 ≤ wrap64 (rd s.ws 1) ∧ wrap64 (rd s.ws 1) ≤ 1000000) :
    Calls Tryz.prog 49 #[.pointer (some ⟨b, 0, none⟩), .pointer (some ⟨p.bd, 0, none⟩)] W fun e w' => e = .returned (.tuple #[]) ∧ D W0 U0 S0 X0 p i now (Xp X b (takeO (fnv 62 b) bc (wrap64 (rd s.ws 1) - 1) t v)) true (s.loads i now 1) w' := by
  have L := load_any h hb 1 (by rw [hl]; omega)
  have CT : Hid (∀ (sp' : Bool) (s' : Ss) (w1 : World), D W0 U0 S0 X0 p i now X sp' s' w1 → w1.heap[b]? = some (takeO (fnv 49 b) bc l t v)) := Mr.hid (fun sp' s' w1 h1 => h1.at hX)
  have CC : Hid (∀ (sp' : Bool) (s' : Ss) (w1 : World), D W0 U0 S0 X0 p i now X sp' s' w1 → w1.heap[bc]? = some (comO r lw)) := Mr.hid (fun sp' s' w1 h1 => h1.at hC)
  have fin : Hid (∀ w1, D W0 U0 S0 X0 p i now X true (s.loads i now 1) w1 → ∀ y, D W0 U0 S0 X0 p i now (Xp X b (.cells ((#[.nilFunc, fnv 49 b, .pointer (some ⟨bc, 0, none⟩), .int .i64 l, .int .i64 t, .int .i64 v].setIfInBounds 3 (.int .i64 y)).setIfInBounds 1 (fnv 62 b)) 134 (0, 0))) true (s.loads i now 1) ((w1.setCell ⟨b, 3, none⟩ (.int .i64 y)).setCell ⟨b, 1, none⟩ (fnv 62 b))) := Mr.hid (fun w1 h1 y => dput (dput (dself h1 hX) 3 (.int .i64 y) h0) 1 (fnv 62 b) h0)
  unfold fnv at fin
  obtain ⟨a0, a1, a2, a3, a4, a5, az⟩ := take_c (CT.out _ _ _ h)
  obtain ⟨k0, k1, kz⟩ := com_c (CC.out _ _ _ h)
  generalize wrap64 (rd s.ws 1) = y at *
  have e1 : IntKind.i64.wrap (y - 1) = y - 1 := i64w _ (by omega) (by omega)
  clear hy
  generalize s.loads i now 1 = s1 at *
  replace h := Mr.hid h
  clear hl hb
  go_enter Tryz.func49, Tryz.ntmps49
  go_wp2_with (go_at_call 60; refine L.mono ?_; rintro e w1 ⟨rfl, h1⟩; clear L; obtain ⟨aa0, aa1, aa2, aa3, aa4, aa5, aaz⟩ := take_c (CT.out _ _ _ h1); have fin1 := Mr.hid (fin.out w1 h1 (y - 1)); clear fin; replace h1 := Mr.hid h1)
  go_end0
  exact ⟨rfl, fin1.out⟩
set_option maxHeartbeats 4000000 in
theorem take4 {l t v : Int} (h : D W0 U0 S0 X0 p i now X false s W) (hb : Me.Roomy s.lg s.ah) {b bc r : Nat} {lw : Option Addr} (hX : X b (takeO (fnv 88 b) bc l t v)) (hC : X bc (comO r lw)) (hbc : b ≠ bc) (h0 : X0 b ∨ W0.heap.size ≤ b) (hl : s.ws.length = 2 + r) (hc0 : X0 bc ∨ W0.heap.size ≤ bc)  :
    Calls Tryz.prog 88 #[.pointer (some ⟨b, 0, none⟩), .pointer (some ⟨p.bd, 0, none⟩)] W fun e w' => e = .returned (.tuple #[]) ∧ D W0 U0 S0 X0 p i now (Xp (Xp X bc (comO r none)) b (takeO .nilFunc bc l t v)) true (s.stores i now 1 (nU (t))) w' := by
  have L := store_any h hb 1 (by rw [hl]; omega) (t)
  obtain ⟨a0, a1, a2, a3, a4, a5, az⟩ := take_c (h.at hX)
  have EH : Hid (∀ w1, D W0 U0 S0 X0 p i now X true (s.stores i now 1 (nU (t))) w1 → _) := Mr.hid (fun w1 h1 => end_take h1 hX hC hbc h0 hc0)
  generalize s.stores i now 1 (nU (t)) = s1 at *
  replace h := Mr.hid h
  clear hl hb
  go_enter Tryz.func88, Tryz.ntmps88
  go_wp2_with (first | (go_at_call 74; refine L.mono ?_; clear L; rintro e w1 ⟨rfl, h1⟩; have E1 := EH.out w1 h1; replace h1 := Mr.hid h1) | (go_at_call 95; refine E1.mono ?_; clear E1; rintro e w2 ⟨rfl, h2⟩; replace h2 := Mr.hid h2))
  go_end0
  exact ⟨rfl, h2.out⟩
set_option maxHeartbeats 4000000 in
theorem take7 {l t v : Int} (h : D W0 U0 S0 X0 p i now X false s W) (hb : Me.Roomy s.lg s.ah) {b bc r : Nat} {lw : Option Addr} (hX : X b (takeO (fnv 102 b) bc l t v)) (hC : X bc (comO r lw)) (hbc : b ≠ bc) (h0 : X0 b ∨ W0.heap.size ≤ b) (hl : s.ws.length = 2 + r) (hc0 : X0 bc ∨ W0.heap.size ≤ bc) (r0 : -1 ≤ t ∧ t ≤ 1000000) :
    Calls Tryz.prog 102 #[.pointer (some ⟨b, 0, none⟩), .pointer (some ⟨p.bd, 0, none⟩)] W fun e w' => e = .returned (.tuple #[]) ∧ D W0 U0 S0 X0 p i now (Xp (Xp X bc (comO r none)) b (takeO .nilFunc bc l t v)) true (s.stores i now 1 (nU (t + 1))) w' := by
  have L := store_any h hb 1 (by rw [hl]; omega) (t + 1)
  have e1 : IntKind.i64.wrap (t + 1) = t + 1 := i64w _ (by omega) (by omega)
  obtain ⟨a0, a1, a2, a3, a4, a5, az⟩ := take_c (h.at hX)
  have EH : Hid (∀ w1, D W0 U0 S0 X0 p i now X true (s.stores i now 1 (nU (t + 1))) w1 → _) := Mr.hid (fun w1 h1 => end_take h1 hX hC hbc h0 hc0)
  generalize s.stores i now 1 (nU (t + 1)) = s1 at *
  replace h := Mr.hid h
  clear hl hb r0
  go_enter Tryz.func102, Tryz.ntmps102
  go_wp2_with (first | (go_at_call 74; refine L.mono ?_; clear L; rintro e w1 ⟨rfl, h1⟩; have E1 := EH.out w1 h1; replace h1 := Mr.hid h1) | (go_at_call 95; refine E1.mono ?_; clear E1; rintro e w2 ⟨rfl, h2⟩; replace h2 := Mr.hid h2))
  go_end0
  exact ⟨rfl, h2.out⟩
set_option maxHeartbeats 4000000 in
theorem take3y {l t v : Int} (h : D W0 U0 S0 X0 p i now X false s W) (hb : Me.Roomy s.lg s.ah) {b bc r : Nat} {lw : Option Addr} (hX : X b (takeO (fnv 77 b) bc l t v)) (hC : X bc (comO r lw)) (hbc : b ≠ bc) (h0 : X0 b ∨ W0.heap.size ≤ b) (hl : s.ws.length = 2 + r) (hy : l < wrap64 (rd s.ws 0)) (t0 : Th) (ht : s.ths[i]? = some t0) (c : Nat) (hcall : t0.call = c) (cl : Cl) (hc : s.cls[c]? = some cl) :
    Calls Tryz.prog 77 #[.pointer (some ⟨b, 0, none⟩), .pointer (some ⟨p.bd, 0, none⟩)] W fun e w' => e = .returned (.tuple #[]) ∧ D W0 U0 S0 X0 p i now (Xp X b (takeO (fnv 88 b) bc l (wrap64 (rd s.ws 0)) v)) true (Ss.ans (Ss.pts (s.loads i now 0) c cl now) i t0 3 0) w' := by
  have L := load_any h hb 0 (by rw [hl]; omega)
  have CT : Hid (∀ (sp' : Bool) (s' : Ss) (w1 : World), D W0 U0 S0 X0 p i now X sp' s' w1 → w1.heap[b]? = some (takeO (fnv 77 b) bc l t v)) := Mr.hid (fun sp' s' w1 h1 => h1.at hX)
  have CC : Hid (∀ (sp' : Bool) (s' : Ss) (w1 : World), D W0 U0 S0 X0 p i now X sp' s' w1 → w1.heap[bc]? = some (comO r lw)) := Mr.hid (fun sp' s' w1 h1 => h1.at hC)
  have fin : Hid (∀ (s' : Ss) w1, D W0 U0 S0 X0 p i now X true s' w1 → ∀ y, D W0 U0 S0 X0 p i now (Xp X b (takeO (fnv 77 b) bc l y v)) true s' (w1.setCell ⟨b, 4, none⟩ (.int .i64 y))) := Mr.hid (fun s' w1 h1 y => dput (dself h1 hX) 4 (.int .i64 y) h0)
  have fin2 : Hid (∀ (s' : Ss) w1 y, D W0 U0 S0 X0 p i now (Xp X b (takeO (fnv 77 b) bc l y v)) true s' w1 → D W0 U0 S0 X0 p i now (Xp X b (takeO (fnv 88 b) bc l y v)) true s' (w1.setCell ⟨b, 1, none⟩ (fnv 88 b))) := Mr.hid (fun s' w1 y h1 => dput h1 1 (fnv 88 b) h0)
  have CB : Hid (∀ (s' : Ss) w1 y, D W0 U0 S0 X0 p i now (Xp X b (takeO (fnv 77 b) bc l y v)) true s' w1 → w1.heap[b]? = some (takeO (fnv 77 b) bc l y v)) := Mr.hid (fun s' w1 y h1 => h1.at (.inl ⟨rfl, rfl⟩))
  have TE : Hid (∀ y w1, D W0 U0 S0 X0 p i now (Xp X b (takeO (fnv 77 b) bc l y v)) true (s.loads i now 0) w1 → _) := Mr.hid (fun y w1 h1 => tell_any h1 t0 ht c hcall cl hc (.pointer (some ⟨b, 0, none⟩)))
  obtain ⟨a0, a1, a2, a3, a4, a5, az⟩ := take_c (CT.out _ _ _ h)
  obtain ⟨k0, k1, kz⟩ := com_c (CC.out _ _ _ h)
  generalize wrap64 (rd s.ws 0) = y at *
  have e2 : decide (l < y) = true := by simp; omega
  generalize s.loads i now 0 = s1 at *
  replace h := Mr.hid h
  clear hl hb hy ht hc hcall
  unfold fnv at fin2
  go_enter Tryz.func77, Tryz.ntmps77
  go_upto_region 1 with (go_at_call 60; refine L.mono ?_; clear L; rintro e w1 ⟨rfl, h1⟩; obtain ⟨g0, g1, g2, g3, g4, g5, gz⟩ := take_c (CT.out _ _ _ h1); have h2 := Mr.hid (fin.out _ w1 h1 y); replace h1 := Mr.hid h1)
  generalize w1.setCell ⟨b, 4, none⟩ (.int .i64 y) = w2 at *
  obtain ⟨q0, q1, q2, q3, q4, q5, qz⟩ := take_c (CB.out _ _ _ h2.out)
  clear g0 g1 g2 g3 g4 g5 gz
  go_region_held3 (fun w' => w'.cell? ⟨b, 3, none⟩ = some (.int .i64 l) ∧ w'.cell? ⟨b, 4, none⟩ = some (.int .i64 y)) (go_keep) (fail)
  have h3 := Mr.hid h2.out.drew
  have cb := CB.out _ _ _ h3.out
  generalize w2.drew = w3 at *
  obtain ⟨n0, n1, n2, n3, n4, n5, nz⟩ := take_c cb
  clear q0 q1 q2 q3 q4 q5 qz
  have TE1 := TE.out _ _ h3.out
  clear TE
  go_wp2_with (go_at_call 87; refine TE1.mono ?_; clear TE1; rintro e w4 ⟨rfl, h4⟩; obtain ⟨x0, x1, x2, x3, x4, x5, xz⟩ := take_c (CB.out _ _ _ h4); have h5 := Mr.hid (fin2.out _ _ _ h4); replace h4 := Mr.hid h4)
  refine bodyPost_ret (results_none rfl _ _ _) rfl ?_
  exact ⟨rfl, h5.out⟩
set_option maxHeartbeats 4000000 in
theorem take3n {l t v : Int} (h : D W0 U0 S0 X0 p i now X false s W) (hb : Me.Roomy s.lg s.ah) {b bc r : Nat} {lw : Option Addr} (hX : X b (takeO (fnv 77 b) bc l t v)) (hC : X bc (comO r lw)) (hbc : b ≠ bc) (h0 : X0 b ∨ W0.heap.size ≤ b) (hl : s.ws.length = 2 + r) (hy : ¬ l < wrap64 (rd s.ws 0)) :
    Calls Tryz.prog 77 #[.pointer (some ⟨b, 0, none⟩), .pointer (some ⟨p.bd, 0, none⟩)] W fun e w' => e = .returned (.tuple #[]) ∧ D W0 U0 S0 X0 p i now (Xp X b (takeO (fnv 89 b) bc l (wrap64 (rd s.ws 0)) v)) true (s.loads i now 0) w' := by
  have L := load_any h hb 0 (by rw [hl]; omega)
  have CT : Hid (∀ (sp' : Bool) (s' : Ss) (w1 : World), D W0 U0 S0 X0 p i now X sp' s' w1 → w1.heap[b]? = some (takeO (fnv 77 b) bc l t v)) := Mr.hid (fun sp' s' w1 h1 => h1.at hX)
  have CC : Hid (∀ (sp' : Bool) (s' : Ss) (w1 : World), D W0 U0 S0 X0 p i now X sp' s' w1 → w1.heap[bc]? = some (comO r lw)) := Mr.hid (fun sp' s' w1 h1 => h1.at hC)
  have fin : Hid (∀ (s' : Ss) w1, D W0 U0 S0 X0 p i now X true s' w1 → ∀ y, D W0 U0 S0 X0 p i now (Xp X b (takeO (fnv 77 b) bc l y v)) true s' (w1.setCell ⟨b, 4, none⟩ (.int .i64 y))) := Mr.hid (fun s' w1 h1 y => dput (dself h1 hX) 4 (.int .i64 y) h0)
  have fin2 : Hid (∀ (s' : Ss) w1 y, D W0 U0 S0 X0 p i now (Xp X b (takeO (fnv 77 b) bc l y v)) true s' w1 → D W0 U0 S0 X0 p i now (Xp X b (takeO (fnv 89 b) bc l y v)) true s' (w1.setCell ⟨b, 1, none⟩ (fnv 89 b))) := Mr.hid (fun s' w1 y h1 => dput h1 1 (fnv 89 b) h0)
  have CB : Hid (∀ (s' : Ss) w1 y, D W0 U0 S0 X0 p i now (Xp X b (takeO (fnv 77 b) bc l y v)) true s' w1 → w1.heap[b]? = some (takeO (fnv 77 b) bc l y v)) := Mr.hid (fun s' w1 y h1 => h1.at (.inl ⟨rfl, rfl⟩))
  obtain ⟨a0, a1, a2, a3, a4, a5, az⟩ := take_c (CT.out _ _ _ h)
  obtain ⟨k0, k1, kz⟩ := com_c (CC.out _ _ _ h)
  generalize wrap64 (rd s.ws 0) = y at *
  have e2 : decide (l < y) = false := by simp; omega
  generalize s.loads i now 0 = s1 at *
  replace h := Mr.hid h
  clear hl hb hy
  unfold fnv at fin2
  go_enter Tryz.func77, Tryz.ntmps77
  go_upto_region 1 with (go_at_call 60; refine L.mono ?_; clear L; rintro e w1 ⟨rfl, h1⟩; obtain ⟨g0, g1, g2, g3, g4, g5, gz⟩ := take_c (CT.out _ _ _ h1); have h2 := Mr.hid (fin.out _ w1 h1 y); replace h1 := Mr.hid h1)
  generalize w1.setCell ⟨b, 4, none⟩ (.int .i64 y) = w2 at *
  obtain ⟨q0, q1, q2, q3, q4, q5, qz⟩ := take_c (CB.out _ _ _ h2.out)
  clear g0 g1 g2 g3 g4 g5 gz
  go_region_held3 (fun w' => w'.cell? ⟨b, 3, none⟩ = some (.int .i64 l) ∧ w'.cell? ⟨b, 4, none⟩ = some (.int .i64 y)) (go_keep) (fail)
  have h3 := Mr.hid h2.out.drew
  have cb := CB.out _ _ _ h3.out
  generalize w2.drew = w3 at *
  obtain ⟨n0, n1, n2, n3, n4, n5, nz⟩ := take_c cb
  clear q0 q1 q2 q3 q4 q5 qz
  have h5 := Mr.hid (fin2.out _ _ _ h3.out)
  go_wp2
  go_end0
  exact ⟨rfl, h5.out⟩
set_option maxHeartbeats 4000000 in
theorem take5y {t v : Int} {k : Nat} (h : D W0 U0 S0 X0 p i now X false s W) (hb : Me.Roomy s.lg s.ah) {b bc r : Nat} {lw : Option Addr} (hX : X b (takeO (fnv 89 b) bc (k : Int) t v)) (hC : X bc (comO r lw)) (hbc : b ≠ bc) (h0 : X0 b ∨ W0.heap.size ≤ b) (hl : s.ws.length = 2 + r) (hr1 : 1 ≤ r) (hr2 : r ≤ 1000) (hk : k ≤ 1000000) (hy : t < (k : Int)) (hc0 : X0 bc ∨ W0.heap.size ≤ bc) (t0 : Th) (ht : s.ths[i]? = some t0) :
    Calls Tryz.prog 89 #[.pointer (some ⟨b, 0, none⟩), .pointer (some ⟨p.bd, 0, none⟩)] W fun e w' => e = .returned (.tuple #[]) ∧ D W0 U0 S0 X0 p i now (Xp (Xp X bc (comO r none)) b (takeO .nilFunc bc (k : Int) t (wrap64 (rd s.ws (cel r (k : Int)))))) true (Ss.ans (s.loads i now (cel r (k : Int))) i t0 2 (wrap64 (rd s.ws (cel r (k : Int))))) w' := by
  have hce : cel r (k : Int) < s.ws.length := by rw [hl]; unfold cel; have := Nat.mod_lt k (show 0 < r by omega); simp; omega
  have Ld := load_any h.drew hb (cel r (k : Int)) hce
  have CT : Hid (∀ (sp' : Bool) (s' : Ss) (w1 : World), D W0 U0 S0 X0 p i now X sp' s' w1 → w1.heap[b]? = some (takeO (fnv 89 b) bc (k : Int) t v)) := Mr.hid (fun sp' s' w1 h1 => h1.at hX)
  have CC : Hid (∀ (sp' : Bool) (s' : Ss) (w1 : World), D W0 U0 S0 X0 p i now X sp' s' w1 → w1.heap[bc]? = some (comO r lw)) := Mr.hid (fun sp' s' w1 h1 => h1.at hC)
  have fin : Hid (∀ (s' : Ss) w1, D W0 U0 S0 X0 p i now X true s' w1 → ∀ y, D W0 U0 S0 X0 p i now (Xp X b (takeO (fnv 89 b) bc (k : Int) t y)) true s' (w1.setCell ⟨b, 5, none⟩ (.int .i64 y))) := Mr.hid (fun s' w1 h1 y => dput (dself h1 hX) 5 (.int .i64 y) h0)
  have CB : Hid (∀ (s' : Ss) w1 y, D W0 U0 S0 X0 p i now (Xp X b (takeO (fnv 89 b) bc (k : Int) t y)) true s' w1 → w1.heap[b]? = some (takeO (fnv 89 b) bc (k : Int) t y)) := Mr.hid (fun s' w1 y h1 => h1.at (.inl ⟨rfl, rfl⟩))
  have CC2 : Hid (∀ (s' : Ss) w1 y, D W0 U0 S0 X0 p i now (Xp X b (takeO (fnv 89 b) bc (k : Int) t y)) true s' w1 → w1.heap[bc]? = some (comO r lw)) := Mr.hid (fun s' w1 y h1 => h1.at (.inr ⟨hbc.symm, hC⟩))
  have EN : Hid (∀ (s' : Ss) (w1 : World) (y : Int), D W0 U0 S0 X0 p i now (Xp X b (takeO (fnv 89 b) bc (k : Int) t y)) true s' w1 → Calls Tryz.prog 95 #[.pointer (some ⟨b, 0, none⟩)] w1 fun e w' => e = .returned (.tuple #[]) ∧ D W0 U0 S0 X0 p i now (Xp (Xp X bc (comO r none)) b (takeO .nilFunc bc (k : Int) t y)) true s' w') := Mr.hid (fun s' w1 y h1 => by
    refine (end_take h1 (.inl ⟨rfl, rfl⟩) (.inr ⟨hbc.symm, hC⟩) hbc h0 hc0).mono ?_
    rintro e w' ⟨rfl, h2⟩
    refine ⟨rfl, dweak h2 (fun q o hq => ?_)⟩
    rcases hq with ⟨rfl, rfl⟩ | ⟨hne, hq⟩
    · exact .inl ⟨rfl, rfl⟩
    · refine .inr ⟨hne, ?_⟩
      rcases hq with ⟨rfl, rfl⟩ | ⟨hne2, hq⟩
      · exact .inl ⟨rfl, rfl⟩
      · exact .inr ⟨hne2, .inr ⟨hne, hq⟩⟩)
  have AN2 : Hid (∀ (y : Int) (w1 : World), D W0 U0 S0 X0 p i now (Xp X b (takeO (fnv 89 b) bc (k : Int) t y)) true (s.loads i now (cel r (k : Int))) w1 → Calls Tryz.prog 81 #[.pointer (some ⟨p.bd, 0, none⟩), .agg #[.int .i64 2, .int .i64 y]] w1 fun e w' => e = .returned (.tuple #[]) ∧ D W0 U0 S0 X0 p i now (Xp X b (takeO (fnv 89 b) bc (k : Int) t y)) true (Ss.ans (s.loads i now (cel r (k : Int))) i t0 2 y) w') := Mr.hid (fun y w1 h1 => answer_any h1 t0 ht 2 y)
  obtain ⟨a0, a1, a2, a3, a4, a5, az⟩ := take_c (CT.out _ _ _ h)
  obtain ⟨k0, k1, kz⟩ := com_c (CC.out _ _ _ h)
  have CE := Mr.hid (cel_any r k hr1 hr2)
  generalize wrap64 (rd s.ws (cel r (k : Int))) = y at *
  have e2 : decide (t < (k : Int)) = true := by simp; omega
  generalize s.loads i now (cel r (k : Int)) = s1 at *
  generalize ((cel r (k : Int) : Nat) : Int) = ce at *
  replace h := Mr.hid h
  clear hl hb hce hr1 hr2 hk hy ht
  go_enter Tryz.func89, Tryz.ntmps89
  go_wp2
  go_region_held3 (fun w' => w'.cell? ⟨b, 2, none⟩ = some (.pointer (some ⟨bc, 0, none⟩)) ∧ w'.cell? ⟨b, 3, none⟩ = some (.int .i64 (k : Int)) ∧ w'.cell? ⟨bc, 0, none⟩ = some (.int .i64 (r : Int))) (first | with_reducible exact KQ.out | go_keep)
    (first | (go_at_call 82; refine (CE.out _).mono ?_; rintro e w9 ⟨rfl, hw9⟩; obtain rfl := hw9.symm) | (go_at_call 60; refine Ld.mono ?_; clear Ld; rintro e w1 ⟨rfl, h1⟩; obtain ⟨g0, g1, g2, g3, g4, g5, gz⟩ := take_c (CT.out _ _ _ h1); obtain ⟨l0, l1, lz⟩ := com_c (CC.out _ _ _ h1); have h2 := Mr.hid (fin.out _ w1 h1 y); obtain ⟨-, -, j2, j3, -, -, -⟩ := take_c (CB.out _ _ _ h2.out); have KQ := Mr.hid (And.intro j2 (And.intro j3 (com_c (CC2.out _ _ _ h2.out)).1)); clear j2 j3; replace h1 := Mr.hid h1))
  clear KQ
  generalize w1.setCell ⟨b, 5, none⟩ (.int .i64 y) = w2 at *
  obtain ⟨q0, q1, q2, q3, q4, q5, qz⟩ := take_c (CB.out _ _ _ h2.out)
  clear g0 g1 g2 g3 g4 g5 gz a0 a1 a2 a3 a4 a5 az
  go_wp2
  go_region_held3 (fun w' => w'.cell? ⟨b, 3, none⟩ = some (.int .i64 (k : Int)) ∧ w'.cell? ⟨b, 4, none⟩ = some (.int .i64 t)) (go_keep) (fail)
  have h3 := Mr.hid h2.out.drew
  have cb := CB.out _ _ _ h3.out
  generalize w2.drew = w3 at *
  obtain ⟨n0, n1, n2, n3, n4, n5, nz⟩ := take_c cb
  clear q0 q1 q2 q3 q4 q5 qz
  have VA := Mr.hid (va_any y w3)
  have h4 := Mr.hid (h3.out.alloc (ansO 2 y))
  have AN3 := AN2.out _ _ h4.out
  unfold ansO at VA AN3
  go_wp2_with (first | (go_at_call 96; refine VA.out.mono ?_; clear VA; rintro e w9 ⟨rfl, hw9⟩; obtain rfl := hw9.symm) | (go_at_call 81; refine AN3.mono ?_; clear AN3; rintro e w5 ⟨rfl, h5⟩; have EN5 := EN.out _ _ _ h5; replace h5 := Mr.hid h5) | (go_at_call 95; refine EN5.mono ?_; clear EN5; rintro e w6 ⟨rfl, h6⟩; replace h6 := Mr.hid h6))
  refine bodyPost_ret (results_none rfl _ _ _) rfl ?_
  exact ⟨rfl, h6.out⟩
set_option maxHeartbeats 4000000 in
theorem take5n {t v : Int} {k : Nat} (h : D W0 U0 S0 X0 p i now X false s W) (hb : Me.Roomy s.lg s.ah) {b bc r : Nat} {lw : Option Addr} (hX : X b (takeO (fnv 89 b) bc (k : Int) t v)) (hC : X bc (comO r lw)) (hbc : b ≠ bc) (h0 : X0 b ∨ W0.heap.size ≤ b) (hl : s.ws.length = 2 + r) (hr1 : 1 ≤ r) (hr2 : r ≤ 1000) (hk : k ≤ 1000000) (hy : ¬ t < (k : Int))  :
    Calls Tryz.prog 89 #[.pointer (some ⟨b, 0, none⟩), .pointer (some ⟨p.bd, 0, none⟩)] W fun e w' => e = .returned (.tuple #[]) ∧ D W0 U0 S0 X0 p i now (Xp X b (takeO (fnv 97 b) bc (k : Int) t (wrap64 (rd s.ws (cel r (k : Int)))))) true (s.loads i now (cel r (k : Int))) w' := by
  have hce : cel r (k : Int) < s.ws.length := by rw [hl]; unfold cel; have := Nat.mod_lt k (show 0 < r by omega); simp; omega
  have Ld := load_any h.drew hb (cel r (k : Int)) hce
  have CT : Hid (∀ (sp' : Bool) (s' : Ss) (w1 : World), D W0 U0 S0 X0 p i now X sp' s' w1 → w1.heap[b]? = some (takeO (fnv 89 b) bc (k : Int) t v)) := Mr.hid (fun sp' s' w1 h1 => h1.at hX)
  have CC : Hid (∀ (sp' : Bool) (s' : Ss) (w1 : World), D W0 U0 S0 X0 p i now X sp' s' w1 → w1.heap[bc]? = some (comO r lw)) := Mr.hid (fun sp' s' w1 h1 => h1.at hC)
  have fin : Hid (∀ (s' : Ss) w1, D W0 U0 S0 X0 p i now X true s' w1 → ∀ y, D W0 U0 S0 X0 p i now (Xp X b (takeO (fnv 89 b) bc (k : Int) t y)) true s' (w1.setCell ⟨b, 5, none⟩ (.int .i64 y))) := Mr.hid (fun s' w1 h1 y => dput (dself h1 hX) 5 (.int .i64 y) h0)
  have CB : Hid (∀ (s' : Ss) w1 y, D W0 U0 S0 X0 p i now (Xp X b (takeO (fnv 89 b) bc (k : Int) t y)) true s' w1 → w1.heap[b]? = some (takeO (fnv 89 b) bc (k : Int) t y)) := Mr.hid (fun s' w1 y h1 => h1.at (.inl ⟨rfl, rfl⟩))
  have CC2 : Hid (∀ (s' : Ss) w1 y, D W0 U0 S0 X0 p i now (Xp X b (takeO (fnv 89 b) bc (k : Int) t y)) true s' w1 → w1.heap[bc]? = some (comO r lw)) := Mr.hid (fun s' w1 y h1 => h1.at (.inr ⟨hbc.symm, hC⟩))
  have fin2 : Hid (∀ (s' : Ss) w1 y, D W0 U0 S0 X0 p i now (Xp X b (takeO (fnv 89 b) bc (k : Int) t y)) true s' w1 → D W0 U0 S0 X0 p i now (Xp X b (takeO (fnv 97 b) bc (k : Int) t y)) true s' (w1.setCell ⟨b, 1, none⟩ (fnv 97 b))) := Mr.hid (fun s' w1 y h1 => dput h1 1 (fnv 97 b) h0)
  obtain ⟨a0, a1, a2, a3, a4, a5, az⟩ := take_c (CT.out _ _ _ h)
  obtain ⟨k0, k1, kz⟩ := com_c (CC.out _ _ _ h)
  have CE := Mr.hid (cel_any r k hr1 hr2)
  generalize wrap64 (rd s.ws (cel r (k : Int))) = y at *
  have e2 : decide (t < (k : Int)) = false := by simp; omega
  generalize s.loads i now (cel r (k : Int)) = s1 at *
  generalize ((cel r (k : Int) : Nat) : Int) = ce at *
  replace h := Mr.hid h
  clear hl hb hce hr1 hr2 hk hy
  unfold fnv at fin2
  go_enter Tryz.func89, Tryz.ntmps89
  go_wp2
  go_region_held3 (fun w' => w'.cell? ⟨b, 2, none⟩ = some (.pointer (some ⟨bc, 0, none⟩)) ∧ w'.cell? ⟨b, 3, none⟩ = some (.int .i64 (k : Int)) ∧ w'.cell? ⟨bc, 0, none⟩ = some (.int .i64 (r : Int))) (first | with_reducible exact KQ.out | go_keep)
    (first | (go_at_call 82; refine (CE.out _).mono ?_; rintro e w9 ⟨rfl, hw9⟩; obtain rfl := hw9.symm) | (go_at_call 60; refine Ld.mono ?_; clear Ld; rintro e w1 ⟨rfl, h1⟩; obtain ⟨g0, g1, g2, g3, g4, g5, gz⟩ := take_c (CT.out _ _ _ h1); obtain ⟨l0, l1, lz⟩ := com_c (CC.out _ _ _ h1); have h2 := Mr.hid (fin.out _ w1 h1 y); obtain ⟨-, -, j2, j3, -, -, -⟩ := take_c (CB.out _ _ _ h2.out); have KQ := Mr.hid (And.intro j2 (And.intro j3 (com_c (CC2.out _ _ _ h2.out)).1)); clear j2 j3; replace h1 := Mr.hid h1))
  clear KQ
  generalize w1.setCell ⟨b, 5, none⟩ (.int .i64 y) = w2 at *
  obtain ⟨q0, q1, q2, q3, q4, q5, qz⟩ := take_c (CB.out _ _ _ h2.out)
  clear g0 g1 g2 g3 g4 g5 gz a0 a1 a2 a3 a4 a5 az
  go_wp2
  go_region_held3 (fun w' => w'.cell? ⟨b, 3, none⟩ = some (.int .i64 (k : Int)) ∧ w'.cell? ⟨b, 4, none⟩ = some (.int .i64 t)) (go_keep) (fail)
  have h3 := Mr.hid h2.out.drew
  have cb := CB.out _ _ _ h3.out
  generalize w2.drew = w3 at *
  obtain ⟨n0, n1, n2, n3, n4, n5, nz⟩ := take_c cb
  clear q0 q1 q2 q3 q4 q5 qz
  have h5 := Mr.hid (fin2.out _ _ _ h3.out)
  go_wp2
  go_end0
  exact ⟨rfl, h5.out⟩
end
end Go.Proofs.YtnapnhmmopajfaaGreat.Dm
/-
  THE DEQUE's TASKS: a take: its swap, its lowering (made by mk_dm.py).
-/
namespace Go.Proofs.YtnapnhmmopajfaaGreat.Dm
open Go.RowKit Mr Me Ma Gm
set_option linter.unusedVariables false
set_option linter.unusedSimpArgs false
set_option maxRecDepth 100000
section
variable {W0 : World} {U0 S0 X0 : Nat → Prop} {p : Ph} {i : Nat} {now : Int} {X : Nat → Obj → Prop} {s : Ss} {W : World} {sp : Bool}
set_option maxHeartbeats 4000000 in
theorem take6y {l v : Int} {k : Nat} (h : D W0 U0 S0 X0 p i now X false s W) (hb : Me.Roomy s.lg s.ah) {b bc r : Nat} {lw : Option Addr} (hX : X b (takeO (fnv 97 b) bc l (k : Int) v)) (hC : X bc (comO r lw)) (hbc : b ≠ bc) (h0 : X0 b ∨ W0.heap.size ≤ b) (hl : s.ws.length = 2 + r) (hk : k ≤ 1000000) (hy : rd s.ws 0 = (k : Int)) (t0 : Th) (ht : s.ths[i]? = some t0) (c : Nat) (hcall : t0.call = c) (cl : Cl) (hc : s.cls[c]? = some cl) :
    Calls Tryz.prog 97 #[.pointer (some ⟨b, 0, none⟩), .pointer (some ⟨p.bd, 0, none⟩)] W fun e w' => e = .returned (.tuple #[]) ∧ D W0 U0 S0 X0 p i now (Xp X b (takeO (fnv 102 b) bc l (k : Int) v)) true (Ss.ans (s.hits i now 0 (k : Int) ((k : Int) + 1)) i t0 2 v) w' := by
  have L := raise_hit h hb (by rw [hl]; omega) k hk hy
  have CT : Hid (∀ (sp' : Bool) (s' : Ss) (w1 : World), D W0 U0 S0 X0 p i now X sp' s' w1 → w1.heap[b]? = some (takeO (fnv 97 b) bc l (k : Int) v)) := Mr.hid (fun sp' s' w1 h1 => h1.at hX)
  have CC : Hid (∀ (sp' : Bool) (s' : Ss) (w1 : World), D W0 U0 S0 X0 p i now X sp' s' w1 → w1.heap[bc]? = some (comO r lw)) := Mr.hid (fun sp' s' w1 h1 => h1.at hC)
  have fin2 : Hid (∀ (s' : Ss) w1, D W0 U0 S0 X0 p i now X true s' w1 → D W0 U0 S0 X0 p i now (Xp X b (takeO (fnv 102 b) bc l (k : Int) v)) true s' (w1.setCell ⟨b, 1, none⟩ (fnv 102 b))) := Mr.hid (fun s' w1 h1 => dput (dself h1 hX) 1 (fnv 102 b) h0)
  have AN2 : Hid (∀ (w1 : World), D W0 U0 S0 X0 p i now X true (s.hits i now 0 (k : Int) ((k : Int) + 1)) w1 → Calls Tryz.prog 81 #[.pointer (some ⟨p.bd, 0, none⟩), .agg #[.int .i64 2, .int .i64 v]] w1 fun e w' => e = .returned (.tuple #[]) ∧ D W0 U0 S0 X0 p i now X true (Ss.ans (s.hits i now 0 (k : Int) ((k : Int) + 1)) i t0 2 v) w') := Mr.hid (fun w1 h1 => answer_any h1 t0 ht 2 v)
  obtain ⟨a0, a1, a2, a3, a4, a5, az⟩ := take_c (CT.out _ _ _ h)
  generalize s.hits i now 0 (k : Int) ((k : Int) + 1) = s1 at *
  replace h := Mr.hid h
  clear hl hb hk hy ht hc hcall
  unfold fnv at fin2
  go_enter Tryz.func97, Tryz.ntmps97
  go_wp2_with (first | (go_at_call 98; refine L.mono ?_; clear L; rintro e w1 ⟨rfl, h1⟩; obtain ⟨g0, g1, g2, g3, g4, g5, gz⟩ := take_c (CT.out _ _ _ h1); have VA := Mr.hid (va_any v w1); have AN3 := AN2.out _ (h1.alloc (ansO 2 v)); unfold ansO at VA AN3; clear AN2; replace h1 := Mr.hid h1) | (go_at_call 96; refine VA.out.mono ?_; clear VA; rintro e w9 ⟨rfl, hw9⟩; obtain rfl := hw9.symm) | (go_at_call 81; refine AN3.mono ?_; clear AN3; rintro e w5 ⟨rfl, h5⟩; obtain ⟨n0, n1, n2, n3, n4, n5, nz⟩ := take_c (CT.out _ _ _ h5); have h7 := Mr.hid (fin2.out _ _ h5); replace h5 := Mr.hid h5))
  go_end0
  exact ⟨rfl, h7.out⟩
set_option maxHeartbeats 4000000 in
theorem take6n {l v : Int} {k : Nat} (h : D W0 U0 S0 X0 p i now X false s W) (hb : Me.Roomy s.lg s.ah) {b bc r : Nat} {lw : Option Addr} (hX : X b (takeO (fnv 97 b) bc l (k : Int) v)) (hC : X bc (comO r lw)) (hbc : b ≠ bc) (h0 : X0 b ∨ W0.heap.size ≤ b) (hl : s.ws.length = 2 + r) (hk : k ≤ 1000000) (hy : rd s.ws 0 ≠ (k : Int)) (t0 : Th) (ht : s.ths[i]? = some t0) (c : Nat) (hcall : t0.call = c) (cl : Cl) (hc : s.cls[c]? = some cl) :
    Calls Tryz.prog 97 #[.pointer (some ⟨b, 0, none⟩), .pointer (some ⟨p.bd, 0, none⟩)] W fun e w' => e = .returned (.tuple #[]) ∧ D W0 U0 S0 X0 p i now (Xp X b (takeO (fnv 102 b) bc l (k : Int) v)) true (Ss.ans (Ss.pts (s.misses i now 0 (k : Int) ((k : Int) + 1)) c cl now) i t0 3 0) w' := by
  have L := raise_miss h hb (by rw [hl]; omega) k hk hy
  have CT : Hid (∀ (sp' : Bool) (s' : Ss) (w1 : World), D W0 U0 S0 X0 p i now X sp' s' w1 → w1.heap[b]? = some (takeO (fnv 97 b) bc l (k : Int) v)) := Mr.hid (fun sp' s' w1 h1 => h1.at hX)
  have CC : Hid (∀ (sp' : Bool) (s' : Ss) (w1 : World), D W0 U0 S0 X0 p i now X sp' s' w1 → w1.heap[bc]? = some (comO r lw)) := Mr.hid (fun sp' s' w1 h1 => h1.at hC)
  have fin2 : Hid (∀ (s' : Ss) w1, D W0 U0 S0 X0 p i now X true s' w1 → D W0 U0 S0 X0 p i now (Xp X b (takeO (fnv 102 b) bc l (k : Int) v)) true s' (w1.setCell ⟨b, 1, none⟩ (fnv 102 b))) := Mr.hid (fun s' w1 h1 => dput (dself h1 hX) 1 (fnv 102 b) h0)
  have TE : Hid (∀ w1, D W0 U0 S0 X0 p i now X true (s.misses i now 0 (k : Int) ((k : Int) + 1)) w1 → _) := Mr.hid (fun w1 h1 => tell_any h1 t0 ht c hcall cl hc (.pointer (some ⟨b, 0, none⟩)))
  obtain ⟨a0, a1, a2, a3, a4, a5, az⟩ := take_c (CT.out _ _ _ h)
  generalize s.misses i now 0 (k : Int) ((k : Int) + 1) = s1 at *
  replace h := Mr.hid h
  clear hl hb hk hy ht hc hcall
  unfold fnv at fin2
  go_enter Tryz.func97, Tryz.ntmps97
  go_wp2_with (first | (go_at_call 98; refine L.mono ?_; clear L; rintro e w1 ⟨rfl, h1⟩; obtain ⟨g0, g1, g2, g3, g4, g5, gz⟩ := take_c (CT.out _ _ _ h1); have TE1 := TE.out _ h1; clear TE; replace h1 := Mr.hid h1) | (go_at_call 87; refine TE1.mono ?_; clear TE1; rintro e w5 ⟨rfl, h5⟩; obtain ⟨n0, n1, n2, n3, n4, n5, nz⟩ := take_c (CT.out _ _ _ h5); have h7 := Mr.hid (fin2.out _ _ h5); replace h5 := Mr.hid h5))
  go_end0
  exact ⟨rfl, h7.out⟩
set_option maxHeartbeats 4000000 in
theorem take2 {l t v : Int} (h : D W0 U0 S0 X0 p i now X false s W) (hb : Me.Roomy s.lg s.ah) {b bc r : Nat} {lw : Option Addr} (hX : X b (takeO (fnv 62 b) bc l t v)) (hC : X bc (comO r lw)) (hbc : b ≠ bc) (h0 : X0 b ∨ W0.heap.size ≤ b) (hl : s.ws.length = 2 + r) (hc0 : X0 bc ∨ W0.heap.size ≤ bc) (t0 : Th) (ht : s.ths[i]? = some t0) (c : Nat) (hcall : t0.call = c) (cl : Cl) (hc : s.cls[c]? = some cl) :
    Calls Tryz.prog 62 #[.pointer (some ⟨b, 0, none⟩), .pointer (some ⟨p.bd, 0, none⟩)] W fun e w' => e = .returned (.tuple #[]) ∧ ∃ bl, bl ≠ b ∧ bl ≠ bc ∧ (∀ k o, X k o → k ≠ bl) ∧ D W0 U0 S0 X0 p i now (Xp (Xp (fun k o => X k o ∨ (k = bl ∧ o = lowO now l)) bc (comO r (some ⟨bl, 0, none⟩))) b (takeO (fnv 77 b) bc l t v)) true (Ss.pts (s.stores i now 1 (nU l)) c cl now) w' := by
  have L := store_any h hb 1 (by rw [hl]; omega) l
  have CT : Hid (∀ (sp' : Bool) (s' : Ss) (w1 : World), D W0 U0 S0 X0 p i now X sp' s' w1 → w1.heap[b]? = some (takeO (fnv 62 b) bc l t v)) := Mr.hid (fun sp' s' w1 h1 => h1.at hX)
  have CC : Hid (∀ (sp' : Bool) (s' : Ss) (w1 : World), D W0 U0 S0 X0 p i now X sp' s' w1 → w1.heap[bc]? = some (comO r lw)) := Mr.hid (fun sp' s' w1 h1 => h1.at hC)
  have PT1 : Hid (∀ w1, D W0 U0 S0 X0 p i now X true (s.stores i now 1 (nU l)) w1 → _) := Mr.hid (fun w1 h1 => point_any h1 t0 ht c hcall cl hc now)
  have NWc : Hid (∀ (s' : Ss) (W : World), D W0 U0 S0 X0 p i now X true s' W → Calls Tryz.prog 76 #[.pointer (some ⟨p.bd, 0, none⟩)] W fun e w' => e = .returned (.int .i64 now) ∧ w' = W) := Mr.hid (fun s' W h => now_desk h.dk)
  have fin : Hid (∀ (s' : Ss) w1, D W0 U0 S0 X0 p i now X true s' w1 → w1.heap.size ≠ b ∧ w1.heap.size ≠ bc ∧ (∀ k o, X k o → k ≠ w1.heap.size) ∧ D W0 U0 S0 X0 p i now (Xp (Xp (fun k o => X k o ∨ (k = w1.heap.size ∧ o = lowO now l)) bc (comO r (some ⟨w1.heap.size, 0, none⟩))) b (takeO (fnv 62 b) bc l t v)) true s' ((w1.setCell ⟨bc, 1, none⟩ (.pointer (some ⟨w1.heap.size, 0, none⟩))).alloc (lowO now l)).drew) := Mr.hid (fun s' w1 h1 => by
    have xl : ∀ k o, X k o → k ≠ w1.heap.size := fun k o hk e => by
      have := (Array.getElem?_eq_some_iff.1 (h1.at hk)).1; omega
    refine ⟨fun e => xl b _ hX e.symm, fun e => xl bc _ hC e.symm, xl, ?_⟩
    have h2 := dput (dself h1 hC) 1 (.pointer (some ⟨w1.heap.size, 0, none⟩)) hc0
    have h3 := (dnew h2 (lowO now l)).drew
    have hsz : (w1.setCell ⟨bc, 1, none⟩ (.pointer (some ⟨w1.heap.size, 0, none⟩))).heap.size = w1.heap.size := by simp
    rw [hsz] at h3
    refine dweak h3 (fun q o hq => ?_)
    rcases hq with ⟨rfl, rfl⟩ | ⟨hne, hq⟩
    · exact .inl (.inr ⟨hbc, hX⟩)
    · rcases hq with ⟨rfl, rfl⟩ | ⟨hne2, hq⟩
      · exact .inl (.inl ⟨rfl, rfl⟩)
      · rcases hq with hq | ⟨rfl, rfl⟩
        · exact .inl (.inr ⟨hne2, hq⟩)
        · exact .inr ⟨rfl, rfl⟩)
  have finB : Hid (∀ (s' : Ss) w1, D W0 U0 S0 X0 p i now X true s' w1 → D W0 U0 S0 X0 p i now (Xp (Xp (fun k o => X k o ∨ (k = w1.heap.size ∧ o = lowO now l)) bc (comO r (some ⟨w1.heap.size, 0, none⟩))) b (takeO (fnv 77 b) bc l t v)) true s' (((w1.setCell ⟨bc, 1, none⟩ (.pointer (some ⟨w1.heap.size, 0, none⟩))).setCell ⟨b, 1, none⟩ (fnv 77 b)).alloc (lowO now l)).drew) := Mr.hid (fun s' w1 h1 => by
    have h2 := dput (dself h1 hC) 1 (.pointer (some ⟨w1.heap.size, 0, none⟩)) hc0
    have h2b := dput (dself h2 (.inr ⟨hbc, hX⟩)) 1 (fnv 77 b) h0
    have h3 := (dnew h2b (lowO now l)).drew
    have hsz : ((w1.setCell ⟨bc, 1, none⟩ (.pointer (some ⟨w1.heap.size, 0, none⟩))).setCell ⟨b, 1, none⟩ (fnv 77 b)).heap.size = w1.heap.size := by simp
    rw [hsz] at h3
    refine dweak h3 (fun q o hq => ?_)
    rcases hq with ⟨rfl, rfl⟩ | ⟨hne, hq⟩
    · exact .inl (.inl ⟨rfl, rfl⟩)
    · rcases hq with ⟨rfl, rfl⟩ | ⟨hne2, hq⟩
      · exact .inl (.inr ⟨hne, .inl ⟨rfl, rfl⟩⟩)
      · rcases hq with hq | ⟨rfl, rfl⟩
        · exact .inl (.inr ⟨hne, .inr ⟨hne2, hq⟩⟩)
        · exact .inr ⟨rfl, rfl⟩)
  obtain ⟨a0, a1, a2, a3, a4, a5, az⟩ := take_c (CT.out _ _ _ h)
  generalize s.stores i now 1 (nU l) = s1 at *
  replace h := Mr.hid h
  clear hl hb ht hc hcall
  go_enter Tryz.func62, Tryz.ntmps62
  go_upto_region 2 with (first | (go_at_call 74; refine L.mono ?_; clear L; rintro e w1 ⟨rfl, h1⟩; have NW1 := NWc.out _ _ h1; have PT2 := PT1.out _ h1; clear PT1; replace h1 := Mr.hid h1) | (go_at_call 76; refine NW1.mono ?_; clear NW1; rintro e w9 ⟨rfl, hw9⟩; obtain rfl := hw9.symm) | (go_at_call 75; refine PT2.mono ?_; clear PT2; rintro e w2 ⟨rfl, h2⟩; replace h2 := Mr.hid h2))
  have h3 := Mr.hid h2.out.drew
  have NW3 := Mr.hid (NWc.out _ _ h3.out)
  obtain ⟨q0, q1, q2, q3, q4, q5, qz⟩ := take_c (CT.out _ _ _ h2.out)
  obtain ⟨k0, k1, kz⟩ := com_c (CC.out _ _ _ h2.out)
  obtain ⟨f1, f2, f3, f4⟩ := fin.out _ _ h2.out
  replace f3 := Mr.hid f3
  have lbc : bc < w2.heap.size := (Array.getElem?_eq_some_iff.1 (CC.out _ _ _ h2.out)).1
  have lb : b < w2.heap.size := (Array.getElem?_eq_some_iff.1 (CT.out _ _ _ h2.out)).1
  clear a0 a1 a2 a3 a4 a5 az fin
  obtain ⟨x0, x1, x2, x3, x4, x5, xz⟩ := take_c (f4.at (.inl ⟨rfl, rfl⟩))
  unfold lowO at x2 x3
  have KQ := Mr.hid (And.intro x2 x3)
  have F5 := Mr.hid (finB.out _ _ h2.out)
  have F6 : Hid (∀ w5, w5 = (((w2.setCell ⟨bc, 1, none⟩ (.pointer (some ⟨w2.heap.size, 0, none⟩))).setCell ⟨b, 1, none⟩ (fnv 77 b)).alloc (lowO now l)).drew → D W0 U0 S0 X0 p i now (Xp (Xp (fun k o => X k o ∨ (k = w2.heap.size ∧ o = lowO now l)) bc (comO r (some ⟨w2.heap.size, 0, none⟩))) b (takeO (fnv 77 b) bc l t v)) true (Ss.pts s1 c cl now) w5) := Mr.hid (fun w5 e => by subst e; exact F5.out)
  replace f4 := Mr.hid f4
  replace F5 := Mr.hid True.intro
  clear finB
  go_region_held3 (fun w' => w'.cell? ⟨b, 2, none⟩ = some (.pointer (some ⟨bc, 0, none⟩)) ∧ w'.cell? ⟨b, 3, none⟩ = some (.int .i64 l)) (first | with_reducible exact KQ.out | go_keep)
    (first | (go_at_call 76; refine NW3.out.mono ?_; rintro e w9 ⟨rfl, hw9⟩; obtain rfl := hw9.symm))
  clear KQ
  go_wp2
  go_end0
  exact ⟨rfl, _, f1, f2, f3.out, F6.out _ rfl⟩
end
end Go.Proofs.YtnapnhmmopajfaaGreat.Dm
