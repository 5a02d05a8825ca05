import Derived.Test.YtnapnhmmopajfaaGreatJ05
import Derived.BigQuiet
import Derived.Test.YtnapnhmmopajfaaGreatJ04
import Derived.Deep.RegionHeld3
/-
  THE DOCUMENT's DEQUE: push, line by line (made by mk_rdstep.py).
-/
namespace Go.Proofs.YtnapnhmmopajfaaGreat.Rd
open Go.RowKit Mr Me Ma
set_option linter.unusedVariables false
set_option linter.unusedSimpArgs false
def ce (r k : Nat) : Nat := 2 + k % r
theorem set_at {α : Type} {l : List α} {i : Nat} {a : α} (x : α) (h : l[i]? = some a) : (l.set i x)[i]? = some x := by
  have := (List.getElem?_eq_some_iff.1 h).1
  simp [this]
theorem OutR.eqv {W0 W : World} {U0 : Nat → Prop} {q : Rc} {s : Rs} (h : OutR W0 U0 q s W) {W' : World} (e1 : W'.heap = W.heap) (e2 : W'.os = W.os) (e3 : W'.tape = W.tape) (e4 : W'.output = W.output) : OutR W0 U0 q s W' := by
  obtain ⟨a1, a2, a3, a4, a5, a6, a7⟩ := h
  have hB : Below W.heap.size W W' := ⟨e2, e3, e4, by rw [e1]; exact Nat.le_refl _, fun k hk => by rw [e1]⟩
  exact ⟨a1, a2, a3, a4.below hB, a5, a6, ⟨e2.trans a7.os, e3.trans a7.tape, e4.trans a7.output, by rw [e1]; exact a7.size, fun k hk1 hk2 => by rw [e1]; exact a7.block k hk1 hk2⟩⟩
theorem w64s (x : Int) (h1 : -1000000 ≤ x) (h2 : x ≤ 1000000) : wrap64 x = x := by unfold wrap64; omega
theorem OutR.neq {W0 W : World} {U0 : Nat → Prop} {q : Rc} {s : Rs} (h : OutR W0 U0 q s W) : q.gt ≠ q.b ∧ q.b ≠ q.gt ∧ q.gw ≠ q.b ∧ q.b ≠ q.gw ∧ q.gw ≠ q.gt ∧ q.gt ≠ q.gw := by
  obtain ⟨_, _, _, hR, _⟩ := h
  exact ⟨hR.gtb, hR.gtb.symm, hR.gwb, hR.gwb.symm, hR.gwt, hR.gwt.symm⟩
section
variable {W0 W : World} {U0 : Nat → Prop} {q : Rc} {s : Rs} {i c : Nat} {b tt v : Int} {cl : Cl}
set_option maxRecDepth 100000 in
set_option maxHeartbeats 2000000 in
theorem push_1 (h0 : OutR W0 U0 q s W) (hl : s.lg.length ≤ 100000) (hr1 : 1 ≤ q.r) (hr : q.r ≤ 256) (ht : s.ths[i]? = some ⟨(c : Int), 1, b, tt, v⟩) (hc : s.cls[c]? = some cl) (x : Int) (hx : s.ws[1]? = some x) :
    Calls Tryz.prog 53 #[.pointer (some ⟨q.b, 0, none⟩), .int .i64 (i : Int)] W fun e w' => e = .returned (.tuple #[]) ∧ OutR W0 U0 q { s with ths := s.ths.set i ⟨(c : Int), 2, x, tt, v⟩, lg := s.lg ++ [⟨s.n, i, 1, ((1 : Nat) : Int), 0, 0, uw x⟩] } w' := by
  have hws : s.ws.length = 2 + q.r := by obtain ⟨_, _, _, hR, _⟩ := h0; exact hR.wn
  have hin : i < q.nt := by obtain ⟨_, _, _, hR, _⟩ := h0; rw [← hR.tn]; exact (List.getElem?_eq_some_iff.1 ht).1
  have hcl : c < s.cls.length := (List.getElem?_eq_some_iff.1 hc).1
  obtain ⟨n1, n2, n3, n4, n5, n6⟩ := h0.neq
  obtain ⟨c0, c1, c2, c3, c6, c7, c8, fb, ft, fw⟩ := h0.b0
  obtain ⟨t0, t1, t2, t3, t4⟩ := h0.ts ht
  obtain ⟨gc, cc, c4, hcl9, fc, m1, m2, m3, _⟩ := h0.cl hc
  have k2 := hcl9 2 _ rfl
  clear hcl9
  generalize hN : s.cls.length = N at *
  replace hN := Mr.hid hN
  replace h0 := Mr.hid h0
  replace hc := Mr.hid hc
  replace ht := Mr.hid ht
  go_enter Tryz.func53, Tryz.ntmps53
  go_wp2
  go_quiet (fail)
  go_wp2_with ((go_at_call 64; have h0p := h0.out; refine (load_any (s := s) (by exact OutR.eqv h0p rfl rfl rfl rfl) hl hr i (1) x hx).mono ?_; rintro e w1 ⟨rfl, h1⟩; replace h1 : OutR W0 U0 q { s with lg := s.lg ++ [⟨s.n, i, 1, ((1 : Nat) : Int), 0, 0, uw x⟩] } w1 := (by simpa only [List.set_set] using h1); clear h0 h0p c0 c1 c2 c3 c6 c7 c8 fb ft fw t0 t1 t2 t3 t4; obtain ⟨c0, c1, c2, c3, c6, c7, c8, fb, ft, fw⟩ := h1.b0; obtain ⟨t0, t1, t2, t3, t4⟩ := h1.ts ht.out; replace h1 := Mr.hid h1))
  go_end0
  have h1p := h1.out
  replace h1p := h1p.setT (t' := ⟨(c : Int), 1, x, tt, v⟩) ht.out 2 (by decide) (u := .int .i64 (x)) rfl
  replace h1p := h1p.setT (t' := ⟨(c : Int), 2, x, tt, v⟩) (set_at _ ht.out) 1 (by decide) (u := .int .i64 (2)) rfl
  refine ⟨rfl, ?_⟩
  simp only [List.set_set] at h1p
  exact OutR.eqv h1p rfl rfl rfl rfl
set_option maxRecDepth 100000 in
set_option maxHeartbeats 2000000 in
theorem push_2a (h0 : OutR W0 U0 q s W) (hl : s.lg.length ≤ 100000) (hr1 : 1 ≤ q.r) (hr : q.r ≤ 256) (ht : s.ths[i]? = some ⟨(c : Int), 2, b, tt, v⟩) (hc : s.cls[c]? = some cl) (x : Int) (hx : s.ws[0]? = some x) (hb : -1 ≤ b ∧ b ≤ 100000) (hx2 : 0 ≤ x ∧ x ≤ 100000) (hy : (q.r : Int) ≤ b - x) :
    Calls Tryz.prog 53 #[.pointer (some ⟨q.b, 0, none⟩), .int .i64 (i : Int)] W fun e w' => e = .returned (.tuple #[]) ∧ OutR W0 U0 q { s with ths := s.ths.set i ⟨-1, 2, b, x, v⟩, cls := s.cls.set c { cl with pt := s.n, fin := s.n, ak := 4, av := 0 }, lg := s.lg ++ [⟨s.n, i, 1, ((0 : Nat) : Int), 0, 0, uw x⟩] } w' := by
  have hws : s.ws.length = 2 + q.r := by obtain ⟨_, _, _, hR, _⟩ := h0; exact hR.wn
  have hin : i < q.nt := by obtain ⟨_, _, _, hR, _⟩ := h0; rw [← hR.tn]; exact (List.getElem?_eq_some_iff.1 ht).1
  have hcl : c < s.cls.length := (List.getElem?_eq_some_iff.1 hc).1
  obtain ⟨n1, n2, n3, n4, n5, n6⟩ := h0.neq
  obtain ⟨c0, c1, c2, c3, c6, c7, c8, fb, ft, fw⟩ := h0.b0
  obtain ⟨t0, t1, t2, t3, t4⟩ := h0.ts ht
  obtain ⟨gc, cc, c4, hcl9, fc, m1, m2, m3, _⟩ := h0.cl hc
  have k2 := hcl9 2 _ rfl
  clear hcl9
  generalize hN : s.cls.length = N at *
  replace hN := Mr.hid hN
  have u1 : wrap64 (b - x) = b - x := w64s _ (by omega) (by omega)
  have d1 : decide ((q.r : Int) ≤ b - x) = true := by simp [hy]
  replace h0 := Mr.hid h0
  replace hc := Mr.hid hc
  replace ht := Mr.hid ht
  go_enter Tryz.func53, Tryz.ntmps53
  go_wp2
  go_quiet (fail)
  go_wp2_with (first | (go_at_call 64; have h0p := h0.out; refine (load_any (s := s) (by exact OutR.eqv h0p rfl rfl rfl rfl) hl hr i (0) x hx).mono ?_; rintro e w1 ⟨rfl, h1⟩; replace h1 : OutR W0 U0 q { s with lg := s.lg ++ [⟨s.n, i, 1, ((0 : Nat) : Int), 0, 0, uw x⟩] } w1 := (by simpa only [List.set_set] using h1); clear h0 h0p c0 c1 c2 c3 c6 c7 c8 fb ft fw t0 t1 t2 t3 t4; obtain ⟨c0, c1, c2, c3, c6, c7, c8, fb, ft, fw⟩ := h1.b0; obtain ⟨t0, t1, t2, t3, t4⟩ := h1.ts ht.out; replace h1 := Mr.hid h1) | (go_at_call 65; have h1p := h1.out; replace h1p := h1p.setT (t' := ⟨(c : Int), 2, b, x, v⟩) ht.out 3 (by decide) (u := .int .i64 (x)) rfl; refine (point_r (s := { s with ths := s.ths.set i ⟨(c : Int), 2, b, x, v⟩, lg := s.lg ++ [⟨s.n, i, 1, ((0 : Nat) : Int), 0, 0, uw x⟩] }) (by exact OutR.eqv h1p rfl rfl rfl rfl) i _ (set_at _ ht.out) c rfl _ hc.out (s.n)).mono ?_; rintro e w2 ⟨rfl, h2⟩; replace h2 : OutR W0 U0 q { s with ths := s.ths.set i ⟨(c : Int), 2, b, x, v⟩, cls := s.cls.set c { cl with pt := s.n }, lg := s.lg ++ [⟨s.n, i, 1, ((0 : Nat) : Int), 0, 0, uw x⟩] } w2 := (by simpa only [List.set_set] using h2); clear h1 h1p c0 c1 c2 c3 c6 c7 c8 fb ft fw t0 t1 t2 t3 t4; obtain ⟨c0, c1, c2, c3, c6, c7, c8, fb, ft, fw⟩ := h2.b0; obtain ⟨t0, t1, t2, t3, t4⟩ := h2.ts (set_at _ ht.out); replace h2 := Mr.hid h2) | (go_at_call 66; have h2p := h2.out; refine (end_r (s := { s with ths := s.ths.set i ⟨(c : Int), 2, b, x, v⟩, cls := s.cls.set c { cl with pt := s.n }, lg := s.lg ++ [⟨s.n, i, 1, ((0 : Nat) : Int), 0, 0, uw x⟩] }) (by exact OutR.eqv h2p rfl rfl rfl rfl) i _ (set_at _ ht.out) c rfl _ (set_at _ hc.out) 4 (0)).mono ?_; rintro e w3 ⟨rfl, h3⟩; replace h3 : OutR W0 U0 q { s with ths := s.ths.set i ⟨-1, 2, b, x, v⟩, cls := s.cls.set c { cl with pt := s.n, fin := s.n, ak := 4, av := 0 }, lg := s.lg ++ [⟨s.n, i, 1, ((0 : Nat) : Int), 0, 0, uw x⟩] } w3 := (by simpa only [List.set_set] using h3); clear h2 h2p c0 c1 c2 c3 c6 c7 c8 fb ft fw t0 t1 t2 t3 t4; obtain ⟨c0, c1, c2, c3, c6, c7, c8, fb, ft, fw⟩ := h3.b0; obtain ⟨t0, t1, t2, t3, t4⟩ := h3.ts (set_at _ ht.out); replace h3 := Mr.hid h3))
  go_quiet (fail)
  go_wp2_with (first | (go_at_call 64; have h0p := h0.out; refine (load_any (s := s) (by exact OutR.eqv h0p rfl rfl rfl rfl) hl hr i (0) x hx).mono ?_; rintro e w1 ⟨rfl, h1⟩; replace h1 : OutR W0 U0 q { s with lg := s.lg ++ [⟨s.n, i, 1, ((0 : Nat) : Int), 0, 0, uw x⟩] } w1 := (by simpa only [List.set_set] using h1); clear h0 h0p c0 c1 c2 c3 c6 c7 c8 fb ft fw t0 t1 t2 t3 t4; obtain ⟨c0, c1, c2, c3, c6, c7, c8, fb, ft, fw⟩ := h1.b0; obtain ⟨t0, t1, t2, t3, t4⟩ := h1.ts ht.out; replace h1 := Mr.hid h1) | (go_at_call 65; have h1p := h1.out; replace h1p := h1p.setT (t' := ⟨(c : Int), 2, b, x, v⟩) ht.out 3 (by decide) (u := .int .i64 (x)) rfl; refine (point_r (s := { s with ths := s.ths.set i ⟨(c : Int), 2, b, x, v⟩, lg := s.lg ++ [⟨s.n, i, 1, ((0 : Nat) : Int), 0, 0, uw x⟩] }) (by exact OutR.eqv h1p rfl rfl rfl rfl) i _ (set_at _ ht.out) c rfl _ hc.out (s.n)).mono ?_; rintro e w2 ⟨rfl, h2⟩; replace h2 : OutR W0 U0 q { s with ths := s.ths.set i ⟨(c : Int), 2, b, x, v⟩, cls := s.cls.set c { cl with pt := s.n }, lg := s.lg ++ [⟨s.n, i, 1, ((0 : Nat) : Int), 0, 0, uw x⟩] } w2 := (by simpa only [List.set_set] using h2); clear h1 h1p c0 c1 c2 c3 c6 c7 c8 fb ft fw t0 t1 t2 t3 t4; obtain ⟨c0, c1, c2, c3, c6, c7, c8, fb, ft, fw⟩ := h2.b0; obtain ⟨t0, t1, t2, t3, t4⟩ := h2.ts (set_at _ ht.out); replace h2 := Mr.hid h2) | (go_at_call 66; have h2p := h2.out; refine (end_r (s := { s with ths := s.ths.set i ⟨(c : Int), 2, b, x, v⟩, cls := s.cls.set c { cl with pt := s.n }, lg := s.lg ++ [⟨s.n, i, 1, ((0 : Nat) : Int), 0, 0, uw x⟩] }) (by exact OutR.eqv h2p rfl rfl rfl rfl) i _ (set_at _ ht.out) c rfl _ (set_at _ hc.out) 4 (0)).mono ?_; rintro e w3 ⟨rfl, h3⟩; replace h3 : OutR W0 U0 q { s with ths := s.ths.set i ⟨-1, 2, b, x, v⟩, cls := s.cls.set c { cl with pt := s.n, fin := s.n, ak := 4, av := 0 }, lg := s.lg ++ [⟨s.n, i, 1, ((0 : Nat) : Int), 0, 0, uw x⟩] } w3 := (by simpa only [List.set_set] using h3); clear h2 h2p c0 c1 c2 c3 c6 c7 c8 fb ft fw t0 t1 t2 t3 t4; obtain ⟨c0, c1, c2, c3, c6, c7, c8, fb, ft, fw⟩ := h3.b0; obtain ⟨t0, t1, t2, t3, t4⟩ := h3.ts (set_at _ ht.out); replace h3 := Mr.hid h3))
  (try simp only [Exit.inBlock, Exit.then]); refine bodyPost_ret (results_none rfl _ _ _) rfl ?_
  exact ⟨rfl, OutR.eqv h3.out rfl rfl rfl rfl⟩
set_option maxRecDepth 100000 in
set_option maxHeartbeats 2000000 in
theorem push_2b (h0 : OutR W0 U0 q s W) (hl : s.lg.length ≤ 100000) (hr1 : 1 ≤ q.r) (hr : q.r ≤ 256) (ht : s.ths[i]? = some ⟨(c : Int), 2, b, tt, v⟩) (hc : s.cls[c]? = some cl) (x : Int) (hx : s.ws[0]? = some x) (hb : -1 ≤ b ∧ b ≤ 100000) (hx2 : 0 ≤ x ∧ x ≤ 100000) (hy : ¬ (q.r : Int) ≤ b - x) :
    Calls Tryz.prog 53 #[.pointer (some ⟨q.b, 0, none⟩), .int .i64 (i : Int)] W fun e w' => e = .returned (.tuple #[]) ∧ OutR W0 U0 q { s with ths := s.ths.set i ⟨(c : Int), 3, b, x, v⟩, lg := s.lg ++ [⟨s.n, i, 1, ((0 : Nat) : Int), 0, 0, uw x⟩] } w' := by
  have hws : s.ws.length = 2 + q.r := by obtain ⟨_, _, _, hR, _⟩ := h0; exact hR.wn
  have hin : i < q.nt := by obtain ⟨_, _, _, hR, _⟩ := h0; rw [← hR.tn]; exact (List.getElem?_eq_some_iff.1 ht).1
  have hcl : c < s.cls.length := (List.getElem?_eq_some_iff.1 hc).1
  obtain ⟨n1, n2, n3, n4, n5, n6⟩ := h0.neq
  obtain ⟨c0, c1, c2, c3, c6, c7, c8, fb, ft, fw⟩ := h0.b0
  obtain ⟨t0, t1, t2, t3, t4⟩ := h0.ts ht
  obtain ⟨gc, cc, c4, hcl9, fc, m1, m2, m3, _⟩ := h0.cl hc
  have k2 := hcl9 2 _ rfl
  clear hcl9
  generalize hN : s.cls.length = N at *
  replace hN := Mr.hid hN
  have u1 : wrap64 (b - x) = b - x := w64s _ (by omega) (by omega)
  have d1 : decide ((q.r : Int) ≤ b - x) = false := by simp; omega
  replace h0 := Mr.hid h0
  replace hc := Mr.hid hc
  replace ht := Mr.hid ht
  go_enter Tryz.func53, Tryz.ntmps53
  go_wp2
  go_quiet (fail)
  go_wp2_with ((go_at_call 64; have h0p := h0.out; refine (load_any (s := s) (by exact OutR.eqv h0p rfl rfl rfl rfl) hl hr i (0) x hx).mono ?_; rintro e w1 ⟨rfl, h1⟩; replace h1 : OutR W0 U0 q { s with lg := s.lg ++ [⟨s.n, i, 1, ((0 : Nat) : Int), 0, 0, uw x⟩] } w1 := (by simpa only [List.set_set] using h1); clear h0 h0p c0 c1 c2 c3 c6 c7 c8 fb ft fw t0 t1 t2 t3 t4; obtain ⟨c0, c1, c2, c3, c6, c7, c8, fb, ft, fw⟩ := h1.b0; obtain ⟨t0, t1, t2, t3, t4⟩ := h1.ts ht.out; replace h1 := Mr.hid h1))
  go_quiet (fail)
  go_wp2
  go_end0
  have h1p := h1.out
  replace h1p := h1p.setT (t' := ⟨(c : Int), 2, b, x, v⟩) ht.out 3 (by decide) (u := .int .i64 (x)) rfl
  replace h1p := h1p.setT (t' := ⟨(c : Int), 3, b, x, v⟩) (set_at _ ht.out) 1 (by decide) (u := .int .i64 (3)) rfl
  refine ⟨rfl, ?_⟩
  simp only [List.set_set] at h1p
  exact OutR.eqv h1p rfl rfl rfl rfl
set_option maxRecDepth 100000 in
set_option maxHeartbeats 2000000 in
theorem push_3 {k : Nat} (h0 : OutR W0 U0 q s W) (hl : s.lg.length ≤ 100000) (hr1 : 1 ≤ q.r) (hr : q.r ≤ 256) (ht : s.ths[i]? = some ⟨(c : Int), 3, (k : Int), tt, v⟩) (hc : s.cls[c]? = some cl) (hk : k ≤ 100000) :
    Calls Tryz.prog 53 #[.pointer (some ⟨q.b, 0, none⟩), .int .i64 (i : Int)] W fun e w' => e = .returned (.tuple #[]) ∧ OutR W0 U0 q { s with ws := s.ws.set (ce q.r k) (cl.arg), ths := s.ths.set i ⟨(c : Int), 4, (k : Int), tt, v⟩, lg := s.lg ++ [⟨s.n, i, 2, ((ce q.r k : Nat) : Int), 0, uw (cl.arg), 0⟩] } w' := by
  have hws : s.ws.length = 2 + q.r := by obtain ⟨_, _, _, hR, _⟩ := h0; exact hR.wn
  have hin : i < q.nt := by obtain ⟨_, _, _, hR, _⟩ := h0; rw [← hR.tn]; exact (List.getElem?_eq_some_iff.1 ht).1
  have hcl : c < s.cls.length := (List.getElem?_eq_some_iff.1 hc).1
  obtain ⟨n1, n2, n3, n4, n5, n6⟩ := h0.neq
  obtain ⟨c0, c1, c2, c3, c6, c7, c8, fb, ft, fw⟩ := h0.b0
  obtain ⟨t0, t1, t2, t3, t4⟩ := h0.ts ht
  obtain ⟨gc, cc, c4, hcl9, fc, m1, m2, m3, _⟩ := h0.cl hc
  have k2 := hcl9 2 _ rfl
  clear hcl9
  generalize hN : s.cls.length = N at *
  replace hN := Mr.hid hN
  have hm := Nat.mod_lt k (show 0 < q.r by omega)
  have had : ce q.r k < 2 + q.r := by unfold ce; omega
  have e0 : ((ce q.r k : Nat) : Int) = 2 + ((k % q.r : Nat) : Int) := by unfold ce; simp
  have e1 : Int.tmod (k : Int) (q.r : Int) = ((k % q.r : Nat) : Int) := by rw [Int.tmod_eq_emod_of_nonneg (by omega)]; simp
  have e2 : IntKind.i64.wrap (2 + ((k % q.r : Nat) : Int)) = ((ce q.r k : Nat) : Int) := by rw [e0]; simp [IntKind.wrap, IntKind.signed, IntKind.bits]; omega
  have e2b : wrap64 (2 + ((k % q.r : Nat) : Int)) = ((ce q.r k : Nat) : Int) := by rw [e0]; unfold wrap64; omega
  have e3 : (q.r : Int) ≠ 0 := by omega
  have e4 : ((q.r : Int) == 0) = false := by first | (simp; done) | (simp; omega)
  have e5 : ((q.r : Int) == -1) = false := by first | (simp; done) | (simp; omega)
  have e6 : (k : Int) % (q.r : Int) = ((k % q.r : Nat) : Int) := by simp
  have e7 : q.r ≠ 0 := by omega
  have e8 : (q.r == 0) = false := by simp; omega
  generalize ((k % q.r : Nat) : Int) = m at *
  clear hm e0
  replace h0 := Mr.hid h0
  replace hc := Mr.hid hc
  replace ht := Mr.hid ht
  go_enter Tryz.func53, Tryz.ntmps53
  go_wp2
  go_quiet (fail)
  go_wp2
  go_region_held3 (fun w' => w'.cell? ⟨q.b, 1, none⟩ = some (.int .i64 (q.r : Int)) ∧ w'.cell? ⟨q.gt, i * 5 + 2, none⟩ = some (.int .i64 (k : Int))) (go_keep) ((go_at_call 67; have h0p := h0.out; refine (store_any (s := s) (by exact OutR.eqv h0p rfl rfl rfl rfl) hl hr i (ce q.r k) (cl.arg) had).mono ?_; rintro e w1 ⟨rfl, h1⟩; replace h1 : OutR W0 U0 q { s with ws := s.ws.set (ce q.r k) (cl.arg), lg := s.lg ++ [⟨s.n, i, 2, ((ce q.r k : Nat) : Int), 0, uw (cl.arg), 0⟩] } w1 := (by simpa only [List.set_set] using h1); clear h0 h0p c0 c1 c2 c3 c6 c7 c8 fb ft fw t0 t1 t2 t3 t4; obtain ⟨c0, c1, c2, c3, c6, c7, c8, fb, ft, fw⟩ := h1.b0; obtain ⟨t0, t1, t2, t3, t4⟩ := h1.ts ht.out; replace h1 := Mr.hid h1))
  go_wp2
  go_end0
  have h1p := h1.out
  replace h1p := h1p.setT (t' := ⟨(c : Int), 4, (k : Int), tt, v⟩) ht.out 1 (by decide) (u := .int .i64 (4)) rfl
  refine ⟨rfl, ?_⟩
  simp only [List.set_set] at h1p
  exact OutR.eqv h1p rfl rfl rfl rfl
set_option maxRecDepth 100000 in
set_option maxHeartbeats 2000000 in
theorem push_4 (h0 : OutR W0 U0 q s W) (hl : s.lg.length ≤ 100000) (hr1 : 1 ≤ q.r) (hr : q.r ≤ 256) (ht : s.ths[i]? = some ⟨(c : Int), 4, b, tt, v⟩) (hc : s.cls[c]? = some cl) (hb : -1 ≤ b ∧ b ≤ 100000) :
    Calls Tryz.prog 53 #[.pointer (some ⟨q.b, 0, none⟩), .int .i64 (i : Int)] W fun e w' => e = .returned (.tuple #[]) ∧ OutR W0 U0 q { s with ws := s.ws.set (1) (b + 1), ths := s.ths.set i ⟨-1, 4, b, tt, v⟩, cls := s.cls.set c { cl with pt := s.n, fin := s.n, ak := 1, av := 0 }, lg := s.lg ++ [⟨s.n, i, 2, ((1 : Nat) : Int), 0, uw (b + 1), 0⟩] } w' := by
  have hws : s.ws.length = 2 + q.r := by obtain ⟨_, _, _, hR, _⟩ := h0; exact hR.wn
  have hin : i < q.nt := by obtain ⟨_, _, _, hR, _⟩ := h0; rw [← hR.tn]; exact (List.getElem?_eq_some_iff.1 ht).1
  have hcl : c < s.cls.length := (List.getElem?_eq_some_iff.1 hc).1
  obtain ⟨n1, n2, n3, n4, n5, n6⟩ := h0.neq
  obtain ⟨c0, c1, c2, c3, c6, c7, c8, fb, ft, fw⟩ := h0.b0
  obtain ⟨t0, t1, t2, t3, t4⟩ := h0.ts ht
  obtain ⟨gc, cc, c4, hcl9, fc, m1, m2, m3, _⟩ := h0.cl hc
  have k2 := hcl9 2 _ rfl
  clear hcl9
  generalize hN : s.cls.length = N at *
  replace hN := Mr.hid hN
  have u1 : wrap64 (b + 1) = b + 1 := w64s _ (by omega) (by omega)
  replace h0 := Mr.hid h0
  replace hc := Mr.hid hc
  replace ht := Mr.hid ht
  go_enter Tryz.func53, Tryz.ntmps53
  go_wp2
  go_quiet (fail)
  go_wp2_with (first | (go_at_call 67; have h0p := h0.out; refine (store_any (s := s) (by exact OutR.eqv h0p rfl rfl rfl rfl) hl hr i (1) (b + 1) (by omega)).mono ?_; rintro e w1 ⟨rfl, h1⟩; replace h1 : OutR W0 U0 q { s with ws := s.ws.set (1) (b + 1), lg := s.lg ++ [⟨s.n, i, 2, ((1 : Nat) : Int), 0, uw (b + 1), 0⟩] } w1 := (by simpa only [List.set_set] using h1); clear h0 h0p c0 c1 c2 c3 c6 c7 c8 fb ft fw t0 t1 t2 t3 t4; obtain ⟨c0, c1, c2, c3, c6, c7, c8, fb, ft, fw⟩ := h1.b0; obtain ⟨t0, t1, t2, t3, t4⟩ := h1.ts ht.out; replace h1 := Mr.hid h1) | (go_at_call 65; have h1p := h1.out; refine (point_r (s := { s with ws := s.ws.set (1) (b + 1), lg := s.lg ++ [⟨s.n, i, 2, ((1 : Nat) : Int), 0, uw (b + 1), 0⟩] }) (by exact OutR.eqv h1p rfl rfl rfl rfl) i _ ht.out c rfl _ hc.out (s.n)).mono ?_; rintro e w2 ⟨rfl, h2⟩; replace h2 : OutR W0 U0 q { s with ws := s.ws.set (1) (b + 1), cls := s.cls.set c { cl with pt := s.n }, lg := s.lg ++ [⟨s.n, i, 2, ((1 : Nat) : Int), 0, uw (b + 1), 0⟩] } w2 := (by simpa only [List.set_set] using h2); clear h1 h1p c0 c1 c2 c3 c6 c7 c8 fb ft fw t0 t1 t2 t3 t4; obtain ⟨c0, c1, c2, c3, c6, c7, c8, fb, ft, fw⟩ := h2.b0; obtain ⟨t0, t1, t2, t3, t4⟩ := h2.ts ht.out; replace h2 := Mr.hid h2) | (go_at_call 66; have h2p := h2.out; refine (end_r (s := { s with ws := s.ws.set (1) (b + 1), cls := s.cls.set c { cl with pt := s.n }, lg := s.lg ++ [⟨s.n, i, 2, ((1 : Nat) : Int), 0, uw (b + 1), 0⟩] }) (by exact OutR.eqv h2p rfl rfl rfl rfl) i _ ht.out c rfl _ (set_at _ hc.out) 1 (0)).mono ?_; rintro e w3 ⟨rfl, h3⟩; replace h3 : OutR W0 U0 q { s with ws := s.ws.set (1) (b + 1), ths := s.ths.set i ⟨-1, 4, b, tt, v⟩, cls := s.cls.set c { cl with pt := s.n, fin := s.n, ak := 1, av := 0 }, lg := s.lg ++ [⟨s.n, i, 2, ((1 : Nat) : Int), 0, uw (b + 1), 0⟩] } w3 := (by simpa only [List.set_set] using h3); clear h2 h2p c0 c1 c2 c3 c6 c7 c8 fb ft fw t0 t1 t2 t3 t4; obtain ⟨c0, c1, c2, c3, c6, c7, c8, fb, ft, fw⟩ := h3.b0; obtain ⟨t0, t1, t2, t3, t4⟩ := h3.ts (set_at _ ht.out); replace h3 := Mr.hid h3))
  (try simp only [Exit.inBlock, Exit.then]); refine bodyPost_ret (results_none rfl _ _ _) rfl ?_
  exact ⟨rfl, OutR.eqv h3.out rfl rfl rfl rfl⟩
end
end Go.Proofs.YtnapnhmmopajfaaGreat.Rd
/-
  THE DESK, for the time of one step: open, Now, access, Load, Swap, Point, Answer by their contracts.
-/
namespace Go.Proofs.YtnapnhmmopajfaaGreat.Ma
open Go.RowKit Mr Me
/-- Where the parts of a machine lie. -/
structure Ph where
  b : Nat
  bb : Nat
  bm : Nat
  bd : Nat
  be : Nat
  gt : Nat
  nt : Nat
  ct : Nat
  vk : Value
  vc : Value
  vs : Value
  vw : Value
/-- What a machine holds. -/
structure Ss where
  ths : List Th
  n : Int
  cls : List Cl
  shs : List Sh
  ws : List Int
  mv : Int
  lg : List Acc
  ah : List Int
structure Dk (W : World) (bd be bb : Nat) (pt : Addr) (i now : Int) (sp : Bool) : Prop where
  dk : W.heap[bd]? = some (.cells #[.pointer (some ⟨be, 0, none⟩)] 114 (0, 0))
  bn : W.heap[be]? = some (.cells #[.pointer (some ⟨bb, 0, none⟩), .pointer (some pt), .int .i64 i, .int .i64 now, .bool sp] 110 (0, 0))
section
variable {W : World} {bd be bb : Nat} {pt : Addr} {i now : Int} {sp : Bool}
theorem Dk.d0 (h : Dk W bd be bb pt i now sp) : W.cell? ⟨bd, 0, none⟩ = some (.pointer (some ⟨be, 0, none⟩)) := by simp [World.cell?, h.dk]
theorem Dk.e0 (h : Dk W bd be bb pt i now sp) : W.cell? ⟨be, 0, none⟩ = some (.pointer (some ⟨bb, 0, none⟩)) := by simp [World.cell?, h.bn]
theorem Dk.e1 (h : Dk W bd be bb pt i now sp) : W.cell? ⟨be, 1, none⟩ = some (.pointer (some pt)) := by simp [World.cell?, h.bn]
theorem Dk.e2 (h : Dk W bd be bb pt i now sp) : W.cell? ⟨be, 2, none⟩ = some (.int .i64 i) := by simp [World.cell?, h.bn]
theorem Dk.e3 (h : Dk W bd be bb pt i now sp) : W.cell? ⟨be, 3, none⟩ = some (.int .i64 now) := by simp [World.cell?, h.bn]
theorem Dk.e4 (h : Dk W bd be bb pt i now sp) : W.cell? ⟨be, 4, none⟩ = some (.bool sp) := by simp [World.cell?, h.bn]
theorem Dk.ez (h : Dk W bd be bb pt i now sp) (o : Nat) : W.frozen? ⟨be, o, none⟩ = false := by simp [World.frozen?, h.bn]
theorem Dk.ltd (h : Dk W bd be bb pt i now sp) : bd < W.heap.size := (Array.getElem?_eq_some_iff.1 h.dk).1
theorem Dk.lte (h : Dk W bd be bb pt i now sp) : be < W.heap.size := (Array.getElem?_eq_some_iff.1 h.bn).1
theorem Dk.ne (h : Dk W bd be bb pt i now sp) : bd ≠ be := fun e => by
  have h1 := h.dk
  rw [e, h.bn] at h1
  simp at h1
theorem Dk.kept {W' : World} (h : Dk W bd be bb pt i now sp) (h1 : W'.heap[bd]? = W.heap[bd]?) (h2 : W'.heap[be]? = W.heap[be]?) : Dk W' bd be bb pt i now sp := ⟨h1.trans h.dk, h2.trans h.bn⟩
theorem open_yes (h : Dk W bd be bb pt i now sp) : Calls Tryz.prog 86 #[.pointer (some ⟨bd, 0, none⟩)] W fun e w' => e = .returned (.bool true) ∧ w' = W := by
  have d0 := h.d0
  have e0 := h.e0
  clear h
  go_enter Tryz.func86, Tryz.ntmps86
  go_wp2
  go_ret
  exact ⟨rfl, rfl⟩
end
/-- Objects beside it: each lies where X says, no part of the machine but its own. -/
def Xs (W : World) (U S : Nat → Prop) (p : Ph) (X : Nat → Obj → Prop) : Prop :=
  ∀ k o, X k o → W.heap[k]? = some o ∧ U k ∧ ¬ S k ∧ k ≠ p.b ∧ k ≠ p.bb ∧ k ≠ p.gt ∧ p.vc.ownBlock ≠ some k ∧ p.vs.ownBlock ≠ some k
/-- The state within a step: since W0, when the memory had the blocks S0 and the machine U0, nothing else has turned but the rows of the threads and of the calls, the blocks X0, and new blocks. -/
def D (W0 : World) (U0 S0 X0 : Nat → Prop) (p : Ph) (i : Nat) (now : Int) (X : Nat → Obj → Prop) (sp : Bool) (s : Ss) (W : World) : Prop :=
  ∃ U S vl va, Xs W U S p X ∧ Mac W U S p.b p.bb p.bm p.vk (.slice (some ⟨p.gt, 0, none⟩) p.nt p.ct) p.vc p.vs p.vw vl va s.ths s.n s.cls s.shs s.ws s.mv s.lg s.ah ∧ Dk W p.bd p.be p.bb ⟨p.gt, i * 5, none⟩ i now sp ∧ (¬ U p.bd ∧ ¬ U p.be ∧ W0.heap.size ≤ p.bd ∧ W0.heap.size ≤ p.be) ∧
    (∀ k, S k → S0 k ∨ W0.heap.size ≤ k) ∧ (∀ k, U k → U0 k ∨ W0.heap.size ≤ k) ∧ (∀ k, U0 k → U k) ∧ Fr W0 W (fun k => S0 k ∨ X0 k ∨ k = p.gt ∨ p.vc.ownBlock = some k)
section
variable {W0 : World} {U0 S0 X0 : Nat → Prop} {p : Ph} {i : Nat} {now : Int} {X : Nat → Obj → Prop} {s : Ss} {W : World}
theorem D.dk {sp : Bool} (h : D W0 U0 S0 X0 p i now X sp s W) : Dk W p.bd p.be p.bb ⟨p.gt, i * 5, none⟩ i now sp := by obtain ⟨U, S, vl, va, hx, hm, hd, _⟩ := h; exact hd
/-- The memory alone has turned. -/
theorem D.turned {W' : World} {sp : Bool} {U S : Nat → Prop} {vl va vl' va' : Value} {ws' : List Int} {mv' : Int} {lg' : List Acc} {ah' : List Int}
    (hx : Xs W U S p X) (hm : Mac W U S p.b p.bb p.bm p.vk (.slice (some ⟨p.gt, 0, none⟩) p.nt p.ct) p.vc p.vs p.vw vl va s.ths s.n s.cls s.shs s.ws s.mv s.lg s.ah) (hd : Dk W p.bd p.be p.bb ⟨p.gt, i * 5, none⟩ i now sp) (hU : ¬ U p.bd ∧ ¬ U p.be ∧ W0.heap.size ≤ p.bd ∧ W0.heap.size ≤ p.be)
    (hS0 : ∀ k, S k → S0 k ∨ W0.heap.size ≤ k) (hU0 : ∀ k, U k → U0 k ∨ W0.heap.size ≤ k) (hU1 : ∀ k, U0 k → U k) (hf : Fr W0 W (fun k => S0 k ∨ X0 k ∨ k = p.gt ∨ p.vc.ownBlock = some k))
    (hm' : Mem W' (fun k => S k ∨ W.heap.size ≤ k) p.bm p.vw vl' va' ws' mv' lg' ah') (hf' : Fr W W' S) : D W0 U0 S0 X0 p i now X sp { s with ws := ws', mv := mv', lg := lg', ah := ah' } W' := by
  have h0 := hf.size
  have h1 := hf'.size
  have ld := hd.ltd
  have le := hd.lte
  have nd : ¬ S p.bd := fun e => hU.1 (hm.su _ e)
  have nb : ¬ S p.be := fun e => hU.2.1 (hm.su _ e)
  have hX : Xs W' (fun k => (U k ∨ W.heap.size ≤ k) ∧ k < W'.heap.size) (fun k => (S k ∨ W.heap.size ≤ k) ∧ k < W'.heap.size) p X := fun k o hk => by
    obtain ⟨x1, x2, x3, x4⟩ := hx k o hk
    have hl := hm.ul k x2
    refine ⟨(hf'.block k hl x3).trans x1, ⟨.inl x2, by omega⟩, ?_, x4⟩
    rintro ⟨h | h, _⟩
    · exact x3 h
    · omega
  refine ⟨_, _, vl', va', hX, hm.turned hm' hf', hd.kept (hf'.block _ ld nd) (hf'.block _ le nb), ⟨?_, ?_, hU.2.2⟩, ?_, ?_, ?_, ?_⟩
  · rintro ⟨h | h, _⟩
    · exact hU.1 h
    · omega
  · rintro ⟨h | h, _⟩
    · exact hU.2.1 h
    · omega
  · rintro k ⟨h | h, _⟩
    · exact hS0 k h
    · exact .inr (by omega)
  · rintro k ⟨h | h, _⟩
    · exact hU0 k h
    · exact .inr (by omega)
  · exact fun k hk => ⟨.inl (hU1 k hk), Nat.lt_of_lt_of_le (hm.ul k (hU1 k hk)) h1⟩
  · exact hf.trans (hf'.mono (fun k hk => (hS0 k hk).elim (fun h => .inl (.inl h)) .inr))
set_option maxRecDepth 100000 in
theorem access_yes (h : D W0 U0 S0 X0 p i now X false s W) :
    Calls Tryz.prog 79 #[.pointer (some ⟨p.bd, 0, none⟩)] W fun e w' => e = .returned (.bool true) ∧ D W0 U0 S0 X0 p i now X false { s with mv := now } w' := by
  obtain ⟨U, S, vl, va, hx, hm, hd, hU, hS0, hU0, hU1, hf⟩ := h
  have C := open_yes hd
  have N := fun (w1 : World) (B : Below W.heap.size W w1) => now_any (hm.mem.below B) now
  have hdr : Below W.heap.size W W.drew := (Below.refl _ _).drew
  have fin := fun (w' : World) (h1 : Mem w' S p.bm p.vw vl va s.ws now s.lg s.ah) (h2 : Fr W w' S) => D.turned hx hm hd hU hS0 hU0 hU1 hf (h1.mono (fun _ => .inl)) h2
  have d0 := hd.d0
  have e0 := hd.e0
  have e3 := hd.e3
  have e4 := hd.e4
  have b0 := hm.b0
  have ld := hd.ltd
  have le := hd.lte
  have lb := hm.ltb
  have nd : ¬ S p.bd := fun e => hU.1 (hm.su _ e)
  have nb : ¬ S p.be := fun e => hU.2.1 (hm.su _ e)
  have nbb := hm.ubb.2
  replace hm := Mr.hid hm
  replace hd := Mr.hid hd
  clear hf hS0 hU0 hU1
  go_enter Tryz.func79, Tryz.ntmps79
  go_wp2_with (go_at_call 86; refine C.mono ?_; clear C; rintro e w' ⟨rfl, hw⟩; obtain rfl := hw.symm)
  go_region_held3 (fun w' => w'.cell? ⟨p.bd, 0, none⟩ = some (.pointer (some ⟨p.be, 0, none⟩)) ∧ w'.cell? ⟨p.be, 0, none⟩ = some (.pointer (some ⟨p.bb, 0, none⟩)) ∧ w'.cell? ⟨p.be, 3, none⟩ = some (.int .i64 now) ∧ w'.cell? ⟨p.bb, 0, none⟩ = some (.pointer (some ⟨p.bm, 0, none⟩))) (go_keep)
    (first | (go_at_call 91; refine (N _ hdr).mono ?_; clear N; rintro e w1 ⟨rfl, h1, h2⟩; have g1 := (World.cell?_of_block (h2.block p.bd ld nd)).trans d0; have g2 := (World.cell?_of_block (h2.block p.be le nb)).trans e0; have g3 := (World.cell?_of_block (h2.block p.be le nb)).trans e3; have g4 := (World.cell?_of_block (h2.block p.bb lb nbb)).trans b0))
  go_wp2
  go_ret
  exact ⟨rfl, fin _ h1 ((Fr.refl W S).drew.trans (h2.mono (fun _ => .inl)))⟩
/-- What the desk's cells and the book's hold. -/
structure Dc (p : Ph) (i : Nat) (now : Int) (sp : Bool) (W : World) : Prop where
  d0 : W.cell? ⟨p.bd, 0, none⟩ = some (.pointer (some ⟨p.be, 0, none⟩))
  e0 : W.cell? ⟨p.be, 0, none⟩ = some (.pointer (some ⟨p.bb, 0, none⟩))
  e1 : W.cell? ⟨p.be, 1, none⟩ = some (.pointer (some ⟨p.gt, i * 5, none⟩))
  e2 : W.cell? ⟨p.be, 2, none⟩ = some (.int .i64 i)
  e3 : W.cell? ⟨p.be, 3, none⟩ = some (.int .i64 now)
  e4 : W.cell? ⟨p.be, 4, none⟩ = some (.bool sp)
  e4z : W.frozen? ⟨p.be, 4, none⟩ = false
  b0 : W.cell? ⟨p.bb, 0, none⟩ = some (.pointer (some ⟨p.bm, 0, none⟩))
  b1 : W.cell? ⟨p.bb, 1, none⟩ = some p.vc
theorem D.cells {sp : Bool} (h : D W0 U0 S0 X0 p i now X sp s W) : Dc p i now sp W := by
  obtain ⟨U, S, vl, va, hx, hm, hd, _⟩ := h
  exact ⟨hd.d0, hd.e0, hd.e1, hd.e2, hd.e3, hd.e4, hd.ez 4, hm.b0, hm.b1⟩
theorem D.drew {sp : Bool} (h : D W0 U0 S0 X0 p i now X sp s W) : D W0 U0 S0 X0 p i now X sp s W.drew := by
  obtain ⟨U, S, vl, va, hx, hm, hd, hU, hS0, hU0, hU1, hf⟩ := h
  exact ⟨U, S, vl, va, hx, hm.below (Below.refl _ _).drew, hd.kept rfl rfl, hU, hS0, hU0, hU1, hf.drew⟩
theorem D.alloc {sp : Bool} (h : D W0 U0 S0 X0 p i now X sp s W) (o : Obj) : D W0 U0 S0 X0 p i now X sp s (W.alloc o) := by
  obtain ⟨U, S, vl, va, hx, hm, hd, hU, hS0, hU0, hU1, hf⟩ := h
  exact ⟨U, S, vl, va, fun k o' hk => ⟨(Below.heap_alloc _ _ _ (hm.ul k (hx k o' hk).2.1)).trans (hx k o' hk).1, (hx k o' hk).2⟩, hm.below ((Below.refl _ _).alloc (Nat.le_refl _) o), hd.kept (Below.heap_alloc _ _ _ hd.ltd) (Below.heap_alloc _ _ _ hd.lte), hU, hS0, hU0, hU1, hf.alloc o⟩
theorem D.size {sp : Bool} (h : D W0 U0 S0 X0 p i now X sp s W) : W0.heap.size ≤ W.heap.size := by
  obtain ⟨U, S, vl, va, hx, hm, hd, hU, hS0, hU0, hU1, hf⟩ := h
  exact hf.size
theorem D.spent {sp : Bool} (h : D W0 U0 S0 X0 p i now X sp s W) (sp' : Bool) : D W0 U0 S0 X0 p i now X sp' s (W.setCell ⟨p.be, 4, none⟩ (.bool sp')) := by
  obtain ⟨U, S, vl, va, hx, hm, hd, hU, hS0, hU0, hU1, hf⟩ := h
  have hk : ∀ k, k ≠ p.be → (W.setCell ⟨p.be, 4, none⟩ (.bool sp')).heap[k]? = W.heap[k]? := fun k hne => Below.heap_setCell _ _ _ k hne
  refine ⟨U, S, vl, va, fun k o' hk' => ⟨(hk k (fun e => hU.2.1 (e ▸ (hx k o' hk').2.1))).trans (hx k o' hk').1, (hx k o' hk').2⟩, hm.kept (fun k hk' => hk k (fun e => hU.2.1 (e ▸ hk'))) (fun _ h => h) (fun k h => by simpa using hm.ul k h), ⟨(hk _ hd.ne).trans hd.dk, ?_⟩, hU, hS0, hU0, hU1, hf.setCell _ _ (.inr hU.2.2.2)⟩
  rw [setBlk hd.bn]; rfl
/-- What a load makes of it. -/
def Ss.loads (s : Ss) (i : Nat) (now : Int) (ad : Nat) : Ss := { s with mv := now, lg := s.lg ++ [⟨now, i, 1, ad, 0, 0, s.ws[ad]?.getD 0⟩] }
set_option maxRecDepth 100000 in
set_option maxHeartbeats 1000000 in
theorem desk_load (h : D W0 U0 S0 X0 p i now X false s W) (hb : Me.Roomy s.lg s.ah) (ad : Nat) (hi : ad < s.ws.length) :
    Calls Tryz.prog 71 #[.pointer (some ⟨p.bd, 0, none⟩), .int .i64 (ad : Int)] W fun e w' => e = .returned (.int .u64 (s.ws[ad]?.getD 0)) ∧ D W0 U0 S0 X0 p i now X true (s.loads i now ad) w' := by
  have C := access_yes h
  have L : ∀ w1, D W0 U0 S0 X0 p i now X false { s with mv := now } w1 → Calls Tryz.prog 80 #[.pointer (some ⟨p.bm, 0, none⟩), .int .i64 (i : Int), .int .i64 (ad : Int)] w1 fun e w' => e = .returned (.tuple #[.int .u64 (s.ws[ad]?.getD 0), .int .i64 0]) ∧ D W0 U0 S0 X0 p i now X false (s.loads i now ad) w' := fun w1 h1 => by
    obtain ⟨U, S, vl, va, hx, hm, hd, hU, hS0, hU0, hU1, hf⟩ := h1
    refine (load_ok hm.mem hb i ad hi).mono ?_
    rintro e w' ⟨rfl, ⟨vl', hm'⟩, hf'⟩
    exact ⟨rfl, D.turned (s := { s with mv := now }) hx hm hd hU hS0 hU0 hU1 hf hm' hf'⟩
  clear h hb
  generalize s.ws[ad]?.getD 0 = x at *
  generalize s.loads i now ad = s' at *
  generalize ({ s with mv := now } : Ss) = s1 at *
  clear hi
  go_enter Tryz.func71, Tryz.ntmps71
  go_wp2_with (go_at_call 79; refine C.mono ?_; clear C; rintro e w1 ⟨rfl, h1⟩; obtain ⟨d0, e0, e1, e2, e3, e4, e4z, b0, b1⟩ := h1.cells)
  replace h1 := Mr.hid h1
  go_region_held3 (fun w' => w'.cell? ⟨p.bd, 0, none⟩ = some (.pointer (some ⟨p.be, 0, none⟩)) ∧ w'.cell? ⟨p.be, 0, none⟩ = some (.pointer (some ⟨p.bb, 0, none⟩)) ∧ w'.cell? ⟨p.be, 2, none⟩ = some (.int .i64 (i : Int)) ∧ w'.cell? ⟨p.bb, 0, none⟩ = some (.pointer (some ⟨p.bm, 0, none⟩))) (go_keep)
    (first | (go_at_call 80; refine (L _ h1.out.drew).mono ?_; clear L; rintro e w2 ⟨rfl, h2⟩; obtain ⟨g0, g1, g2, g3, g4, g5, g5z, g6, g7⟩ := h2.cells; replace h2 := Mr.hid h2))
  go_wp2
  go_ret
  exact ⟨rfl, h2.out.spent true⟩
def Ss.hits (s : Ss) (i : Nat) (now : Int) (ad : Nat) (old x : Int) : Ss := { s with mv := now, ws := s.ws.set ad x, lg := s.lg ++ [⟨now, i, 3, ad, old, x, old⟩], ah := s.ah ++ [old] }
def Ss.misses (s : Ss) (i : Nat) (now : Int) (ad : Nat) (old x : Int) : Ss := { s with mv := now, lg := s.lg ++ [⟨now, i, 3, ad, old, x, s.ws[ad]?.getD 0⟩] }
set_option maxRecDepth 100000 in
set_option maxHeartbeats 1000000 in
theorem desk_swap {r : Bool} {s' s1 : Ss} {y : Int} (C : Calls Tryz.prog 79 #[.pointer (some ⟨p.bd, 0, none⟩)] W fun e w' => e = .returned (.bool true) ∧ D W0 U0 S0 X0 p i now X false s1 w') (ad : Nat) (old x : Int)
    (L : ∀ w1, D W0 U0 S0 X0 p i now X false s1 w1 → Calls Tryz.prog 104 #[.pointer (some ⟨p.bm, 0, none⟩), .int .i64 (i : Int), .int .i64 (ad : Int), .int .u64 old, .int .u64 x] w1 fun e w' => e = .returned (.tuple #[.int .u64 y, .bool r, .int .i64 0]) ∧ D W0 U0 S0 X0 p i now X false s' w') :
    Calls Tryz.prog 103 #[.pointer (some ⟨p.bd, 0, none⟩), .int .i64 (ad : Int), .int .u64 old, .int .u64 x] W fun e w' => e = .returned (.bool r) ∧ D W0 U0 S0 X0 p i now X true s' w' := by
  go_enter Tryz.func103, Tryz.ntmps103
  go_wp2_with (go_at_call 79; refine C.mono ?_; clear C; rintro e w1 ⟨rfl, h1⟩; obtain ⟨d0, e0, e1, e2, e3, e4, e4z, b0, b1⟩ := h1.cells)
  replace h1 := Mr.hid h1
  go_region_held3 (fun w' => w'.cell? ⟨p.bd, 0, none⟩ = some (.pointer (some ⟨p.be, 0, none⟩)) ∧ w'.cell? ⟨p.be, 0, none⟩ = some (.pointer (some ⟨p.bb, 0, none⟩)) ∧ w'.cell? ⟨p.be, 2, none⟩ = some (.int .i64 (i : Int)) ∧ w'.cell? ⟨p.bb, 0, none⟩ = some (.pointer (some ⟨p.bm, 0, none⟩))) (go_keep)
    (first | (go_at_call 104; refine (L _ h1.out.drew).mono ?_; clear L; rintro e w2 ⟨rfl, h2⟩; obtain ⟨g0, g1, g2, g3, g4, g5, g5z, g6, g7⟩ := h2.cells; replace h2 := Mr.hid h2))
  go_wp2
  go_ret
  exact ⟨rfl, h2.out.spent true⟩
theorem desk_hit (h : D W0 U0 S0 X0 p i now X false s W) (hb : Me.Roomy s.lg s.ah) (ad : Nat) (hi : ad < s.ws.length) (old x : Int) (ho : s.ws[ad]?.getD 0 = old) :
    Calls Tryz.prog 103 #[.pointer (some ⟨p.bd, 0, none⟩), .int .i64 (ad : Int), .int .u64 old, .int .u64 x] W fun e w' => e = .returned (.bool true) ∧ D W0 U0 S0 X0 p i now X true (s.hits i now ad old x) w' :=
  desk_swap (access_yes h) ad old x fun w1 h1 => by
    obtain ⟨U, S, vl, va, hx, hm, hd, hU, hS0, hU0, hU1, hf⟩ := h1
    refine (swap_hit hm.mem hb i old x ad hi ho).mono ?_
    rintro e w' ⟨rfl, ⟨vl', va', hm'⟩, hf'⟩
    exact ⟨rfl, D.turned (s := { s with mv := now }) hx hm hd hU hS0 hU0 hU1 hf hm' hf'⟩
theorem desk_miss (h : D W0 U0 S0 X0 p i now X false s W) (hb : Me.Roomy s.lg s.ah) (ad : Nat) (hi : ad < s.ws.length) (old x : Int) (ho : s.ws[ad]?.getD 0 ≠ old) :
    Calls Tryz.prog 103 #[.pointer (some ⟨p.bd, 0, none⟩), .int .i64 (ad : Int), .int .u64 old, .int .u64 x] W fun e w' => e = .returned (.bool false) ∧ D W0 U0 S0 X0 p i now X true (s.misses i now ad old x) w' :=
  desk_swap (access_yes h) ad old x fun w1 h1 => by
    obtain ⟨U, S, vl, va, hx, hm, hd, hU, hS0, hU0, hU1, hf⟩ := h1
    refine (swap_miss hm.mem hb i old x ad hi ho).mono ?_
    rintro e w' ⟨rfl, ⟨vl', hm'⟩, hf'⟩
    exact ⟨rfl, D.turned (s := { s with mv := now }) hx hm hd hU hS0 hU0 hU1 hf hm' hf'⟩
end
end Go.Proofs.YtnapnhmmopajfaaGreat.Ma
