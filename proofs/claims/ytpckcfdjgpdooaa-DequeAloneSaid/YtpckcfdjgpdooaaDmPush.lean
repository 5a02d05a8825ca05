/-
  THE DEQUE's TASKS: a push (made by mk_dm.py).
-/
import Derived.Test.YtpckcfdjgpdooaaDmTell
namespace Go.Proofs.Ytpckcfdjgpdooaa.Dm
open Go.RowKit Mr Me Ma Gm
set_option linter.unusedVariables false
set_option linter.unusedSimpArgs false
set_option maxRecDepth 100000
section
variable {W0 : World} {U0 S0 X0 : Nat → Prop} {p : Ph} {i : Nat} {now : Int} {X : Nat → Obj → Prop} {s : Ss} {W : World} {sp : Bool}
set_option maxHeartbeats 4000000 in
theorem push1 {v bt : Int} (h : D W0 U0 S0 X0 p i now X false s W) (hb : Me.Roomy s.lg s.ah) {b bc r : Nat} {lw : Option Addr} (hX : X b (pushO (fnv 51 b) bc v bt)) (hC : X bc (comO r lw)) (hbc : b ≠ bc) (h0 : X0 b ∨ W0.heap.size ≤ b) (hl : s.ws.length = 2 + r)  :
    Calls Try.prog 51 #[.pointer (some ⟨b, 0, none⟩), .pointer (some ⟨p.bd, 0, none⟩)] W fun e w' => e = .returned (.tuple #[]) ∧ D W0 U0 S0 X0 p i now (Xp X b (pushO (fnv 61 b) bc v (wrap64 (rd s.ws 1)))) true (s.loads i now 1) w' := by
  have L := load_any h hb 1 (by rw [hl]; omega)
  have CT : Hid (∀ (sp' : Bool) (s' : Ss) (w1 : World), D W0 U0 S0 X0 p i now X sp' s' w1 → w1.heap[b]? = some (pushO (fnv 51 b) bc v bt)) := Mr.hid (fun sp' s' w1 h1 => h1.at hX)
  have CC : Hid (∀ (sp' : Bool) (s' : Ss) (w1 : World), D W0 U0 S0 X0 p i now X sp' s' w1 → w1.heap[bc]? = some (comO r lw)) := Mr.hid (fun sp' s' w1 h1 => h1.at hC)
  have fin : Hid (∀ w1, D W0 U0 S0 X0 p i now X true (s.loads i now 1) w1 → ∀ y, D W0 U0 S0 X0 p i now (Xp X b (.cells ((#[.nilFunc, fnv 51 b, .pointer (some ⟨bc, 0, none⟩), .int .i64 v, .int .i64 bt].setIfInBounds 4 (.int .i64 y)).setIfInBounds 1 (fnv 61 b)) 130 (0, 0))) true (s.loads i now 1) ((w1.setCell ⟨b, 4, none⟩ (.int .i64 y)).setCell ⟨b, 1, none⟩ (fnv 61 b))) := Mr.hid (fun w1 h1 y => dput (dput (dself h1 hX) 4 (.int .i64 y) h0) 1 (fnv 61 b) h0)
  unfold fnv at fin
  obtain ⟨a0, a1, a2, a3, a4, az⟩ := push_c (CT.out _ _ _ h)
  obtain ⟨k0, k1, kz⟩ := com_c (CC.out _ _ _ h)
  generalize wrap64 (rd s.ws 1) = y at *
  generalize s.loads i now 1 = s1 at *
  replace h := Mr.hid h
  clear hl hb
  go_enter Try.func51, Try.ntmps51
  go_wp2_with (go_at_call 60; refine L.mono ?_; rintro e w1 ⟨rfl, h1⟩; clear L; obtain ⟨aa0, aa1, aa2, aa3, aa4, aaz⟩ := push_c (CT.out _ _ _ h1); have fin1 := Mr.hid (fin.out w1 h1 (y)); clear fin; replace h1 := Mr.hid h1)
  go_end0
  exact ⟨rfl, fin1.out⟩
set_option maxHeartbeats 4000000 in
theorem push4 {v bt : Int} (h : D W0 U0 S0 X0 p i now X false s W) (hb : Me.Roomy s.lg s.ah) {b bc r : Nat} {lw : Option Addr} (hX : X b (pushO (fnv 76 b) bc v bt)) (hC : X bc (comO r lw)) (hbc : b ≠ bc) (h0 : X0 b ∨ W0.heap.size ≤ b) (hl : s.ws.length = 2 + r) (r0 : -1 ≤ bt ∧ bt ≤ 1000000) (t0 : Th) (ht : s.ths[i]? = some t0) (c : Nat) (hcall : t0.call = c) (cl : Cl) (hc : s.cls[c]? = some cl) :
    Calls Try.prog 76 #[.pointer (some ⟨b, 0, none⟩), .pointer (some ⟨p.bd, 0, none⟩)] W fun e w' => e = .returned (.tuple #[]) ∧ D W0 U0 S0 X0 p i now (Xp X b (pushO .nilFunc bc v bt)) true (Ss.ans (Ss.pts (s.stores i now 1 (nU (bt + 1))) c cl now) i t0 1 0) w' := by
  have L := store_any h hb 1 (by rw [hl]; omega) (bt + 1)
  have e1 : IntKind.i64.wrap (bt + 1) = bt + 1 := i64w _ (by omega) (by omega)
  obtain ⟨a0, a1, a2, a3, a4, az⟩ := push_c (h.at hX)
  have EH : Hid (∀ w1, D W0 U0 S0 X0 p i now X true (s.stores i now 1 (nU (bt + 1))) w1 → _) := Mr.hid (fun w1 h1 => here_any h1 hX (f := 76) (b' := b) rfl h0 t0 ht c hcall cl hc 1)
  replace h := Mr.hid h
  clear hl hb ht hc hcall r0
  go_enter Try.func76, Try.ntmps76
  go_wp2_with (first | (go_at_call 68; refine L.mono ?_; clear L; rintro e w1 ⟨rfl, h1⟩; have E1 := EH.out w1 h1; replace h1 := Mr.hid h1) | (go_at_call 66; refine E1.mono ?_; clear E1; rintro e w2 ⟨rfl, h2⟩; replace h2 := Mr.hid h2))
  go_end0
  exact ⟨rfl, h2.out⟩
set_option maxHeartbeats 4000000 in
theorem push2f {v bt : Int} (h : D W0 U0 S0 X0 p i now X false s W) (hb : Me.Roomy s.lg s.ah) {b bc r : Nat} {lw : Option Addr} (hX : X b (pushO (fnv 61 b) bc v bt)) (hC : X bc (comO r lw)) (hbc : b ≠ bc) (h0 : X0 b ∨ W0.heap.size ≤ b) (hl : s.ws.length = 2 + r) (r0 : -1 ≤ bt ∧ bt ≤ 1000000) (r1 : -1 ≤ wrap64 (rd s.ws 0) ∧ wrap64 (rd s.ws 0) ≤ 1000000) (hy : (r : Int) ≤ bt - wrap64 (rd s.ws 0)) (t0 : Th) (ht : s.ths[i]? = some t0) (c : Nat) (hcall : t0.call = c) (cl : Cl) (hc : s.cls[c]? = some cl) :
    Calls Try.prog 61 #[.pointer (some ⟨b, 0, none⟩), .pointer (some ⟨p.bd, 0, none⟩)] W fun e w' => e = .returned (.tuple #[]) ∧ D W0 U0 S0 X0 p i now (Xp X b (pushO .nilFunc bc v bt)) true (Ss.ans (Ss.pts (s.loads i now 0) c cl now) i t0 4 0) w' := by
  have L := load_any h hb 0 (by rw [hl]; omega)
  have CT : Hid (∀ (sp' : Bool) (s' : Ss) (w1 : World), D W0 U0 S0 X0 p i now X sp' s' w1 → w1.heap[b]? = some (pushO (fnv 61 b) bc v bt)) := Mr.hid (fun sp' s' w1 h1 => h1.at hX)
  have CC : Hid (∀ (sp' : Bool) (s' : Ss) (w1 : World), D W0 U0 S0 X0 p i now X sp' s' w1 → w1.heap[bc]? = some (comO r lw)) := Mr.hid (fun sp' s' w1 h1 => h1.at hC)
  have EH : Hid (∀ w1, D W0 U0 S0 X0 p i now X true (s.loads i now 0) w1 → _) := Mr.hid (fun w1 h1 => here_any h1 hX (f := 61) (b' := b) rfl h0 t0 ht c hcall cl hc 4)
  obtain ⟨a0, a1, a2, a3, a4, az⟩ := push_c (CT.out _ _ _ h)
  obtain ⟨k0, k1, kz⟩ := com_c (CC.out _ _ _ h)
  have hd := Mr.hid h.drew
  have Ld := load_any h.drew hb 0 (by rw [hl]; omega)
  generalize wrap64 (rd s.ws 0) = y at *
  have e1 : IntKind.i64.wrap (bt - y) = bt - y := i64w _ (by omega) (by omega)
  have e2 : decide ((r : Int) ≤ bt - y) = true := by simp; omega
  generalize s.loads i now 0 = s1 at *
  replace h := Mr.hid h
  clear hl hb r0 r1 hy L ht hc hcall
  go_enter Try.func61, Try.ntmps61
  go_wp2
  go_region_held3 (fun w' => w'.cell? ⟨b, 2, none⟩ = some (.pointer (some ⟨bc, 0, none⟩)) ∧ w'.cell? ⟨b, 4, none⟩ = some (.int .i64 bt) ∧ w'.cell? ⟨bc, 0, none⟩ = some (.int .i64 (r : Int))) (go_keep)
    (first | (go_at_call 60; refine Ld.mono ?_; clear Ld; rintro e w1 ⟨rfl, h1⟩; obtain ⟨g0, g1, g2, g3, g4, gz⟩ := push_c (CT.out _ _ _ h1); obtain ⟨l0, l1, lz⟩ := com_c (CC.out _ _ _ h1); replace h1 := Mr.hid h1))
  have E1 := EH.out _ h1.out
  clear EH
  go_wp2_with (go_at_call 66; refine E1.mono ?_; clear E1; rintro e w2 ⟨rfl, h2⟩; replace h2 := Mr.hid h2)
  refine bodyPost_ret (results_none rfl _ _ _) rfl ?_
  exact ⟨rfl, h2.out⟩
set_option maxHeartbeats 4000000 in
theorem push2n {v bt : Int} (h : D W0 U0 S0 X0 p i now X false s W) (hb : Me.Roomy s.lg s.ah) {b bc r : Nat} {lw : Option Addr} (hX : X b (pushO (fnv 61 b) bc v bt)) (hC : X bc (comO r lw)) (hbc : b ≠ bc) (h0 : X0 b ∨ W0.heap.size ≤ b) (hl : s.ws.length = 2 + r) (r0 : -1 ≤ bt ∧ bt ≤ 1000000) (r1 : -1 ≤ wrap64 (rd s.ws 0) ∧ wrap64 (rd s.ws 0) ≤ 1000000) (hy : ¬ (r : Int) ≤ bt - wrap64 (rd s.ws 0)) :
    Calls Try.prog 61 #[.pointer (some ⟨b, 0, none⟩), .pointer (some ⟨p.bd, 0, none⟩)] W fun e w' => e = .returned (.tuple #[]) ∧ D W0 U0 S0 X0 p i now (Xp X b (pushO (fnv 67 b) bc v bt)) true (s.loads i now 0) w' := by
  have L := load_any h hb 0 (by rw [hl]; omega)
  have CT : Hid (∀ (sp' : Bool) (s' : Ss) (w1 : World), D W0 U0 S0 X0 p i now X sp' s' w1 → w1.heap[b]? = some (pushO (fnv 61 b) bc v bt)) := Mr.hid (fun sp' s' w1 h1 => h1.at hX)
  have CC : Hid (∀ (sp' : Bool) (s' : Ss) (w1 : World), D W0 U0 S0 X0 p i now X sp' s' w1 → w1.heap[bc]? = some (comO r lw)) := Mr.hid (fun sp' s' w1 h1 => h1.at hC)
  have fin : Hid (∀ w1, D W0 U0 S0 X0 p i now X true (s.loads i now 0) w1 → _) := Mr.hid (fun w1 h1 => dput (dself h1 hX) 1 (fnv 67 b) h0)
  obtain ⟨a0, a1, a2, a3, a4, az⟩ := push_c (CT.out _ _ _ h)
  obtain ⟨k0, k1, kz⟩ := com_c (CC.out _ _ _ h)
  have hd := Mr.hid h.drew
  have Ld := load_any h.drew hb 0 (by rw [hl]; omega)
  generalize wrap64 (rd s.ws 0) = y at *
  have e1 : IntKind.i64.wrap (bt - y) = bt - y := i64w _ (by omega) (by omega)
  have e2 : decide ((r : Int) ≤ bt - y) = false := by simp; omega
  generalize s.loads i now 0 = s1 at *
  replace h := Mr.hid h
  clear hl hb r0 r1 hy L
  go_enter Try.func61, Try.ntmps61
  go_wp2
  go_region_held3 (fun w' => w'.cell? ⟨b, 2, none⟩ = some (.pointer (some ⟨bc, 0, none⟩)) ∧ w'.cell? ⟨b, 4, none⟩ = some (.int .i64 bt) ∧ w'.cell? ⟨bc, 0, none⟩ = some (.int .i64 (r : Int))) (go_keep)
    (first | (go_at_call 60; refine Ld.mono ?_; clear Ld; rintro e w1 ⟨rfl, h1⟩; obtain ⟨g0, g1, g2, g3, g4, gz⟩ := push_c (CT.out _ _ _ h1); obtain ⟨l0, l1, lz⟩ := com_c (CC.out _ _ _ h1); replace h1 := Mr.hid h1))
  have fin1 := Mr.hid (fin.out _ h1.out)
  clear fin
  unfold fnv at fin1
  go_wp2
  go_end0
  exact ⟨rfl, fin1.out⟩
set_option maxHeartbeats 4000000 in
theorem push3 {v : Int} {k : Nat} (h : D W0 U0 S0 X0 p i now X false s W) (hb : Me.Roomy s.lg s.ah) {b bc r : Nat} {lw : Option Addr} (hX : X b (pushO (fnv 67 b) bc v (k : Int))) (hC : X bc (comO r lw)) (hbc : b ≠ bc) (h0 : X0 b ∨ W0.heap.size ≤ b) (hl : s.ws.length = 2 + r) (hr1 : 1 ≤ r) (hr2 : r ≤ 1000) (hk : k ≤ 1000000) :
    Calls Try.prog 67 #[.pointer (some ⟨b, 0, none⟩), .pointer (some ⟨p.bd, 0, none⟩)] W fun e w' => e = .returned (.tuple #[]) ∧ D W0 U0 S0 X0 p i now (Xp X b (pushO (fnv 76 b) bc v (k : Int))) true (s.stores i now (cel r (k : Int)) (nU v)) w' := by
  have hce : cel r (k : Int) < s.ws.length := by rw [hl]; unfold cel; have := Nat.mod_lt k (show 0 < r by omega); simp; omega
  have Ld := store_any h.drew hb (cel r (k : Int)) hce v
  have CT : Hid (∀ (sp' : Bool) (s' : Ss) (w1 : World), D W0 U0 S0 X0 p i now X sp' s' w1 → w1.heap[b]? = some (pushO (fnv 67 b) bc v (k : Int))) := Mr.hid (fun sp' s' w1 h1 => h1.at hX)
  have CC : Hid (∀ (sp' : Bool) (s' : Ss) (w1 : World), D W0 U0 S0 X0 p i now X sp' s' w1 → w1.heap[bc]? = some (comO r lw)) := Mr.hid (fun sp' s' w1 h1 => h1.at hC)
  have fin : Hid (∀ w1, D W0 U0 S0 X0 p i now X true (s.stores i now (cel r (k : Int)) (nU v)) w1 → _) := Mr.hid (fun w1 h1 => dput (dself h1 hX) 1 (fnv 76 b) h0)
  obtain ⟨a0, a1, a2, a3, a4, az⟩ := push_c (CT.out _ _ _ h)
  obtain ⟨k0, k1, kz⟩ := com_c (CC.out _ _ _ h)
  have CE := Mr.hid (cel_any r k hr1 hr2)
  generalize s.stores i now (cel r (k : Int)) (nU v) = s1 at *
  generalize ((cel r (k : Int) : Nat) : Int) = ce at *
  replace h := Mr.hid h
  clear hl hb hce hr1 hr2 hk
  go_enter Try.func67, Try.ntmps67
  go_wp2
  go_region_held3 (fun w' => w'.cell? ⟨b, 2, none⟩ = some (.pointer (some ⟨bc, 0, none⟩)) ∧ w'.cell? ⟨b, 3, none⟩ = some (.int .i64 v) ∧ w'.cell? ⟨b, 4, none⟩ = some (.int .i64 (k : Int)) ∧ w'.cell? ⟨bc, 0, none⟩ = some (.int .i64 (r : Int))) (go_keep)
    (first | (go_at_call 30; refine (CE.out _).mono ?_; rintro e w9 ⟨rfl, hw9⟩; obtain rfl := hw9.symm) | (go_at_call 68; refine Ld.mono ?_; clear Ld; rintro e w1 ⟨rfl, h1⟩; obtain ⟨g0, g1, g2, g3, g4, gz⟩ := push_c (CT.out _ _ _ h1); obtain ⟨l0, l1, lz⟩ := com_c (CC.out _ _ _ h1); replace h1 := Mr.hid h1))
  have fin1 := Mr.hid (fin.out _ h1.out)
  clear fin
  unfold fnv at fin1
  go_wp2
  go_end0
  exact ⟨rfl, fin1.out⟩
end
end Go.Proofs.Ytpckcfdjgpdooaa.Dm
