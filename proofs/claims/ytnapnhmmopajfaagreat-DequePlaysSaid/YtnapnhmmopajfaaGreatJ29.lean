import Derived.Test.YtnapnhmmopajfaaGreatJ06
import Derived.BigQuiet
/-
  THE DOCUMENT's DEQUE: take, line by line (made by mk_rdstep.py).
-/
namespace Go.Proofs.YtnapnhmmopajfaaGreat.Rd
open Go.RowKit Mr Me Ma
set_option linter.unusedVariables false
set_option linter.unusedSimpArgs false
section
variable {W0 W : World} {U0 : Nat → Prop} {q : Rc} {s : Rs} {i c : Nat} {b tt v : Int} {cl : Cl}
set_option maxRecDepth 100000 in
set_option maxHeartbeats 2000000 in
theorem take_1 (h0 : OutR W0 U0 q s W) (hl : s.lg.length ≤ 100000) (hr1 : 1 ≤ q.r) (hr : q.r ≤ 256) (ht : s.ths[i]? = some ⟨(c : Int), 1, b, tt, v⟩) (hc : s.cls[c]? = some cl) (x : Int) (hx : s.ws[1]? = some x) (hb : 0 ≤ b ∧ b ≤ 100000) :
    Calls Tryz.prog 54 #[.pointer (some ⟨q.b, 0, none⟩), .int .i64 (i : Int)] W fun e w' => e = .returned (.tuple #[]) ∧ OutR W0 U0 q { s with ths := s.ths.set i ⟨(c : Int), 2, x, tt, v⟩, lg := s.lg ++ [⟨s.n, i, 1, ((1 : Nat) : Int), 0, 0, uw x⟩] } w' := by
  have hws : s.ws.length = 2 + q.r := by obtain ⟨_, _, _, hR, _⟩ := h0; exact hR.wn
  have hin : i < q.nt := by obtain ⟨_, _, _, hR, _⟩ := h0; rw [← hR.tn]; exact (List.getElem?_eq_some_iff.1 ht).1
  have hcl : c < s.cls.length := (List.getElem?_eq_some_iff.1 hc).1
  obtain ⟨n1, n2, n3, n4, n5, n6⟩ := h0.neq
  obtain ⟨c0, c1, c2, c3, c6, c7, c8, fb, ft, fw⟩ := h0.b0
  obtain ⟨t0, t1, t2, t3, t4⟩ := h0.ts ht
  have u1 : wrap64 (b - 1) = b - 1 := w64s _ (by omega) (by omega)
  replace h0 := Mr.hid h0
  replace hc := Mr.hid hc
  replace ht := Mr.hid ht
  go_enter Tryz.func54, Tryz.ntmps54
  go_wp2_with ((go_at_call 64; have h0p := h0.out; refine (load_any (s := s) (by exact OutR.eqv h0p rfl rfl rfl rfl) hl hr i (1) x hx).mono ?_; rintro e w1 ⟨rfl, h1⟩; replace h1 : OutR W0 U0 q { s with lg := s.lg ++ [⟨s.n, i, 1, ((1 : Nat) : Int), 0, 0, uw x⟩] } w1 := (by simpa only [List.set_set] using h1); clear h0 h0p c0 c1 c2 c3 c6 c7 c8 fb ft fw t0 t1 t2 t3 t4; obtain ⟨c0, c1, c2, c3, c6, c7, c8, fb, ft, fw⟩ := h1.b0; obtain ⟨t0, t1, t2, t3, t4⟩ := h1.ts ht.out; replace h1 := Mr.hid h1))
  go_end0
  have h1p := h1.out
  replace h1p := h1p.setT (t' := ⟨(c : Int), 1, x, tt, v⟩) ht.out 2 (by decide) (u := .int .i64 (x)) rfl
  replace h1p := h1p.setT (t' := ⟨(c : Int), 2, x, tt, v⟩) (set_at _ ht.out) 1 (by decide) (u := .int .i64 (2)) rfl
  refine ⟨rfl, ?_⟩
  simp only [List.set_set] at h1p
  exact OutR.eqv h1p rfl rfl rfl rfl
set_option maxRecDepth 100000 in
set_option maxHeartbeats 2000000 in
theorem take_2 (h0 : OutR W0 U0 q s W) (hl : s.lg.length ≤ 100000) (hr1 : 1 ≤ q.r) (hr : q.r ≤ 256) (ht : s.ths[i]? = some ⟨(c : Int), 2, b, tt, v⟩) (hc : s.cls[c]? = some cl) (hb : 0 ≤ b ∧ b ≤ 100000) :
    Calls Tryz.prog 54 #[.pointer (some ⟨q.b, 0, none⟩), .int .i64 (i : Int)] W fun e w' => e = .returned (.tuple #[]) ∧ OutR W0 U0 q { s with ws := s.ws.set (1) (b - 1), ths := s.ths.set i ⟨(c : Int), 3, b, tt, v⟩, cls := s.cls.set c { cl with pt := s.n }, lg := s.lg ++ [⟨s.n, i, 2, ((1 : Nat) : Int), 0, uw (b - 1), 0⟩], dn := s.n, la := b - 1 } w' := by
  have hws : s.ws.length = 2 + q.r := by obtain ⟨_, _, _, hR, _⟩ := h0; exact hR.wn
  have hin : i < q.nt := by obtain ⟨_, _, _, hR, _⟩ := h0; rw [← hR.tn]; exact (List.getElem?_eq_some_iff.1 ht).1
  have hcl : c < s.cls.length := (List.getElem?_eq_some_iff.1 hc).1
  obtain ⟨n1, n2, n3, n4, n5, n6⟩ := h0.neq
  obtain ⟨c0, c1, c2, c3, c6, c7, c8, fb, ft, fw⟩ := h0.b0
  obtain ⟨t0, t1, t2, t3, t4⟩ := h0.ts ht
  have u1 : wrap64 (b - 1) = b - 1 := w64s _ (by omega) (by omega)
  replace h0 := Mr.hid h0
  replace hc := Mr.hid hc
  replace ht := Mr.hid ht
  go_enter Tryz.func54, Tryz.ntmps54
  go_wp2_with (first | (go_at_call 67; have h0p := h0.out; refine (store_any (s := s) (by exact OutR.eqv h0p rfl rfl rfl rfl) hl hr i (1) (b - 1) (by omega)).mono ?_; rintro e w1 ⟨rfl, h1⟩; replace h1 : OutR W0 U0 q { s with ws := s.ws.set (1) (b - 1), lg := s.lg ++ [⟨s.n, i, 2, ((1 : Nat) : Int), 0, uw (b - 1), 0⟩] } w1 := (by simpa only [List.set_set] using h1); clear h0 h0p c0 c1 c2 c3 c6 c7 c8 fb ft fw t0 t1 t2 t3 t4; obtain ⟨c0, c1, c2, c3, c6, c7, c8, fb, ft, fw⟩ := h1.b0; obtain ⟨t0, t1, t2, t3, t4⟩ := h1.ts ht.out; replace h1 := Mr.hid h1) | (go_at_call 65; have h1p := h1.out; refine (point_r (s := { s with ws := s.ws.set (1) (b - 1), lg := s.lg ++ [⟨s.n, i, 2, ((1 : Nat) : Int), 0, uw (b - 1), 0⟩] }) (by exact OutR.eqv h1p rfl rfl rfl rfl) i _ ht.out c rfl _ hc.out (s.n)).mono ?_; rintro e w2 ⟨rfl, h2⟩; replace h2 : OutR W0 U0 q { s with ws := s.ws.set (1) (b - 1), cls := s.cls.set c { cl with pt := s.n }, lg := s.lg ++ [⟨s.n, i, 2, ((1 : Nat) : Int), 0, uw (b - 1), 0⟩] } w2 := (by simpa only [List.set_set] using h2); clear h1 h1p c0 c1 c2 c3 c6 c7 c8 fb ft fw t0 t1 t2 t3 t4; obtain ⟨c0, c1, c2, c3, c6, c7, c8, fb, ft, fw⟩ := h2.b0; obtain ⟨t0, t1, t2, t3, t4⟩ := h2.ts ht.out; replace h2 := Mr.hid h2))
  go_end0
  have h2p := h2.out
  replace h2p := h2p.setD (s.n)
  replace h2p := h2p.setL (b - 1)
  replace h2p := h2p.setT (t' := ⟨(c : Int), 3, b, tt, v⟩) ht.out 1 (by decide) (u := .int .i64 (3)) rfl
  refine ⟨rfl, ?_⟩
  simp only [List.set_set] at h2p
  exact OutR.eqv h2p rfl rfl rfl rfl
set_option maxRecDepth 100000 in
set_option maxHeartbeats 2000000 in
theorem take_3a (h0 : OutR W0 U0 q s W) (hl : s.lg.length ≤ 100000) (hr1 : 1 ≤ q.r) (hr : q.r ≤ 256) (ht : s.ths[i]? = some ⟨(c : Int), 3, b, tt, v⟩) (hc : s.cls[c]? = some cl) (x : Int) (hx : s.ws[0]? = some x) (hb : 0 ≤ b ∧ b ≤ 100000) (hy : b - 1 < x) :
    Calls Tryz.prog 54 #[.pointer (some ⟨q.b, 0, none⟩), .int .i64 (i : Int)] W fun e w' => e = .returned (.tuple #[]) ∧ OutR W0 U0 q { s with ths := s.ths.set i ⟨(c : Int), 4, b, x, v⟩, cls := s.cls.set c { cl with pt := s.n }, lg := s.lg ++ [⟨s.n, i, 1, ((0 : Nat) : Int), 0, 0, uw x⟩] } w' := by
  have hws : s.ws.length = 2 + q.r := by obtain ⟨_, _, _, hR, _⟩ := h0; exact hR.wn
  have hin : i < q.nt := by obtain ⟨_, _, _, hR, _⟩ := h0; rw [← hR.tn]; exact (List.getElem?_eq_some_iff.1 ht).1
  have hcl : c < s.cls.length := (List.getElem?_eq_some_iff.1 hc).1
  obtain ⟨n1, n2, n3, n4, n5, n6⟩ := h0.neq
  obtain ⟨c0, c1, c2, c3, c6, c7, c8, fb, ft, fw⟩ := h0.b0
  obtain ⟨t0, t1, t2, t3, t4⟩ := h0.ts ht
  have u1 : wrap64 (b - 1) = b - 1 := w64s _ (by omega) (by omega)
  have d1 : decide (b - 1 < x) = true := by simp; omega
  replace h0 := Mr.hid h0
  replace hc := Mr.hid hc
  replace ht := Mr.hid ht
  go_enter Tryz.func54, Tryz.ntmps54
  go_wp2_with (first | (go_at_call 64; have h0p := h0.out; refine (load_any (s := s) (by exact OutR.eqv h0p rfl rfl rfl rfl) hl hr i (0) x hx).mono ?_; rintro e w1 ⟨rfl, h1⟩; replace h1 : OutR W0 U0 q { s with lg := s.lg ++ [⟨s.n, i, 1, ((0 : Nat) : Int), 0, 0, uw x⟩] } w1 := (by simpa only [List.set_set] using h1); clear h0 h0p c0 c1 c2 c3 c6 c7 c8 fb ft fw t0 t1 t2 t3 t4; obtain ⟨c0, c1, c2, c3, c6, c7, c8, fb, ft, fw⟩ := h1.b0; obtain ⟨t0, t1, t2, t3, t4⟩ := h1.ts ht.out; replace h1 := Mr.hid h1) | (go_at_call 65; have h1p := h1.out; replace h1p := h1p.setT (t' := ⟨(c : Int), 3, b, x, v⟩) ht.out 3 (by decide) (u := .int .i64 (x)) rfl; refine (point_r (s := { s with ths := s.ths.set i ⟨(c : Int), 3, b, x, v⟩, lg := s.lg ++ [⟨s.n, i, 1, ((0 : Nat) : Int), 0, 0, uw x⟩] }) (by exact OutR.eqv h1p rfl rfl rfl rfl) i _ (set_at _ ht.out) c rfl _ hc.out (s.n)).mono ?_; rintro e w2 ⟨rfl, h2⟩; replace h2 : OutR W0 U0 q { s with ths := s.ths.set i ⟨(c : Int), 3, b, x, v⟩, cls := s.cls.set c { cl with pt := s.n }, lg := s.lg ++ [⟨s.n, i, 1, ((0 : Nat) : Int), 0, 0, uw x⟩] } w2 := (by simpa only [List.set_set] using h2); clear h1 h1p c0 c1 c2 c3 c6 c7 c8 fb ft fw t0 t1 t2 t3 t4; obtain ⟨c0, c1, c2, c3, c6, c7, c8, fb, ft, fw⟩ := h2.b0; obtain ⟨t0, t1, t2, t3, t4⟩ := h2.ts (set_at _ ht.out); replace h2 := Mr.hid h2))
  go_end0
  have h2p := h2.out
  replace h2p := h2p.setT (t' := ⟨(c : Int), 4, b, x, v⟩) (set_at _ ht.out) 1 (by decide) (u := .int .i64 (4)) rfl
  refine ⟨rfl, ?_⟩
  simp only [List.set_set] at h2p
  exact OutR.eqv h2p rfl rfl rfl rfl
set_option maxRecDepth 100000 in
set_option maxHeartbeats 2000000 in
theorem take_3b (h0 : OutR W0 U0 q s W) (hl : s.lg.length ≤ 100000) (hr1 : 1 ≤ q.r) (hr : q.r ≤ 256) (ht : s.ths[i]? = some ⟨(c : Int), 3, b, tt, v⟩) (hc : s.cls[c]? = some cl) (x : Int) (hx : s.ws[0]? = some x) (hb : 0 ≤ b ∧ b ≤ 100000) (hy : ¬ b - 1 < x) :
    Calls Tryz.prog 54 #[.pointer (some ⟨q.b, 0, none⟩), .int .i64 (i : Int)] W fun e w' => e = .returned (.tuple #[]) ∧ OutR W0 U0 q { s with ths := s.ths.set i ⟨(c : Int), 5, b, x, v⟩, lg := s.lg ++ [⟨s.n, i, 1, ((0 : Nat) : Int), 0, 0, uw x⟩] } w' := by
  have hws : s.ws.length = 2 + q.r := by obtain ⟨_, _, _, hR, _⟩ := h0; exact hR.wn
  have hin : i < q.nt := by obtain ⟨_, _, _, hR, _⟩ := h0; rw [← hR.tn]; exact (List.getElem?_eq_some_iff.1 ht).1
  have hcl : c < s.cls.length := (List.getElem?_eq_some_iff.1 hc).1
  obtain ⟨n1, n2, n3, n4, n5, n6⟩ := h0.neq
  obtain ⟨c0, c1, c2, c3, c6, c7, c8, fb, ft, fw⟩ := h0.b0
  obtain ⟨t0, t1, t2, t3, t4⟩ := h0.ts ht
  have u1 : wrap64 (b - 1) = b - 1 := w64s _ (by omega) (by omega)
  have d1 : decide (b - 1 < x) = false := by simp; omega
  replace h0 := Mr.hid h0
  replace hc := Mr.hid hc
  replace ht := Mr.hid ht
  go_enter Tryz.func54, Tryz.ntmps54
  go_wp2_with ((go_at_call 64; have h0p := h0.out; refine (load_any (s := s) (by exact OutR.eqv h0p rfl rfl rfl rfl) hl hr i (0) x hx).mono ?_; rintro e w1 ⟨rfl, h1⟩; replace h1 : OutR W0 U0 q { s with lg := s.lg ++ [⟨s.n, i, 1, ((0 : Nat) : Int), 0, 0, uw x⟩] } w1 := (by simpa only [List.set_set] using h1); clear h0 h0p c0 c1 c2 c3 c6 c7 c8 fb ft fw t0 t1 t2 t3 t4; obtain ⟨c0, c1, c2, c3, c6, c7, c8, fb, ft, fw⟩ := h1.b0; obtain ⟨t0, t1, t2, t3, t4⟩ := h1.ts ht.out; replace h1 := Mr.hid h1))
  go_end0
  have h1p := h1.out
  replace h1p := h1p.setT (t' := ⟨(c : Int), 3, b, x, v⟩) ht.out 3 (by decide) (u := .int .i64 (x)) rfl
  replace h1p := h1p.setT (t' := ⟨(c : Int), 5, b, x, v⟩) (set_at _ ht.out) 1 (by decide) (u := .int .i64 (5)) rfl
  refine ⟨rfl, ?_⟩
  simp only [List.set_set] at h1p
  exact OutR.eqv h1p rfl rfl rfl rfl
set_option maxRecDepth 100000 in
set_option maxHeartbeats 2000000 in
theorem take_4 (h0 : OutR W0 U0 q s W) (hl : s.lg.length ≤ 100000) (hr1 : 1 ≤ q.r) (hr : q.r ≤ 256) (ht : s.ths[i]? = some ⟨(c : Int), 4, b, tt, v⟩) (hc : s.cls[c]? = some cl) (hb : 0 ≤ b ∧ b ≤ 100000) :
    Calls Tryz.prog 54 #[.pointer (some ⟨q.b, 0, none⟩), .int .i64 (i : Int)] W fun e w' => e = .returned (.tuple #[]) ∧ OutR W0 U0 q { s with ws := s.ws.set (1) (tt), ths := s.ths.set i ⟨-1, 4, b, tt, v⟩, cls := s.cls.set c { cl with fin := s.n, ak := 3, av := 0 }, lg := s.lg ++ [⟨s.n, i, 2, ((1 : Nat) : Int), 0, uw (tt), 0⟩], dn := -1 } w' := by
  have hws : s.ws.length = 2 + q.r := by obtain ⟨_, _, _, hR, _⟩ := h0; exact hR.wn
  have hin : i < q.nt := by obtain ⟨_, _, _, hR, _⟩ := h0; rw [← hR.tn]; exact (List.getElem?_eq_some_iff.1 ht).1
  have hcl : c < s.cls.length := (List.getElem?_eq_some_iff.1 hc).1
  obtain ⟨n1, n2, n3, n4, n5, n6⟩ := h0.neq
  obtain ⟨c0, c1, c2, c3, c6, c7, c8, fb, ft, fw⟩ := h0.b0
  obtain ⟨t0, t1, t2, t3, t4⟩ := h0.ts ht
  have u1 : wrap64 (b - 1) = b - 1 := w64s _ (by omega) (by omega)
  replace h0 := Mr.hid h0
  replace hc := Mr.hid hc
  replace ht := Mr.hid ht
  go_enter Tryz.func54, Tryz.ntmps54
  go_wp2_with (first | (go_at_call 67; have h0p := h0.out; refine (store_any (s := s) (by exact OutR.eqv h0p rfl rfl rfl rfl) hl hr i (1) (tt) (by omega)).mono ?_; rintro e w1 ⟨rfl, h1⟩; replace h1 : OutR W0 U0 q { s with ws := s.ws.set (1) (tt), lg := s.lg ++ [⟨s.n, i, 2, ((1 : Nat) : Int), 0, uw (tt), 0⟩] } w1 := (by simpa only [List.set_set] using h1); clear h0 h0p c0 c1 c2 c3 c6 c7 c8 fb ft fw t0 t1 t2 t3 t4; obtain ⟨c0, c1, c2, c3, c6, c7, c8, fb, ft, fw⟩ := h1.b0; obtain ⟨t0, t1, t2, t3, t4⟩ := h1.ts ht.out; replace h1 := Mr.hid h1) | (go_at_call 66; have h1p := h1.out; replace h1p := h1p.setD (-1); refine (end_r (s := { s with ws := s.ws.set (1) (tt), lg := s.lg ++ [⟨s.n, i, 2, ((1 : Nat) : Int), 0, uw (tt), 0⟩], dn := -1 }) (by exact OutR.eqv h1p rfl rfl rfl rfl) i _ ht.out c rfl _ hc.out 3 (0)).mono ?_; rintro e w2 ⟨rfl, h2⟩; replace h2 : OutR W0 U0 q { s with ws := s.ws.set (1) (tt), ths := s.ths.set i ⟨-1, 4, b, tt, v⟩, cls := s.cls.set c { cl with fin := s.n, ak := 3, av := 0 }, lg := s.lg ++ [⟨s.n, i, 2, ((1 : Nat) : Int), 0, uw (tt), 0⟩], dn := -1 } w2 := (by simpa only [List.set_set] using h2); clear h1 h1p c0 c1 c2 c3 c6 c7 c8 fb ft fw t0 t1 t2 t3 t4; obtain ⟨c0, c1, c2, c3, c6, c7, c8, fb, ft, fw⟩ := h2.b0; obtain ⟨t0, t1, t2, t3, t4⟩ := h2.ts (set_at _ ht.out); replace h2 := Mr.hid h2))
  (try simp only [Exit.inBlock, Exit.then]); refine bodyPost_ret (results_none rfl _ _ _) rfl ?_
  exact ⟨rfl, OutR.eqv h2.out rfl rfl rfl rfl⟩
set_option maxRecDepth 100000 in
set_option maxHeartbeats 2000000 in
theorem take_5a {k : Nat} (h0 : OutR W0 U0 q s W) (hl : s.lg.length ≤ 100000) (hr1 : 1 ≤ q.r) (hr : q.r ≤ 256) (ht : s.ths[i]? = some ⟨(c : Int), 5, ((k : Int) + 1), tt, v⟩) (hc : s.cls[c]? = some cl) (hk : k ≤ 100000) (x : Int) (hx : s.ws[ce q.r k]? = some x) (hy : tt < (k : Int)) :
    Calls Tryz.prog 54 #[.pointer (some ⟨q.b, 0, none⟩), .int .i64 (i : Int)] W fun e w' => e = .returned (.tuple #[]) ∧ OutR W0 U0 q { s with ths := s.ths.set i ⟨-1, 5, ((k : Int) + 1), tt, x⟩, cls := s.cls.set c { cl with fin := s.n, ak := 2, av := x }, lg := s.lg ++ [⟨s.n, i, 1, ((ce q.r k : Nat) : Int), 0, 0, uw x⟩], dn := -1 } w' := by
  have hws : s.ws.length = 2 + q.r := by obtain ⟨_, _, _, hR, _⟩ := h0; exact hR.wn
  have hin : i < q.nt := by obtain ⟨_, _, _, hR, _⟩ := h0; rw [← hR.tn]; exact (List.getElem?_eq_some_iff.1 ht).1
  have hcl : c < s.cls.length := (List.getElem?_eq_some_iff.1 hc).1
  obtain ⟨n1, n2, n3, n4, n5, n6⟩ := h0.neq
  obtain ⟨c0, c1, c2, c3, c6, c7, c8, fb, ft, fw⟩ := h0.b0
  obtain ⟨t0, t1, t2, t3, t4⟩ := h0.ts ht
  have u1 : wrap64 ((k : Int)) = (k : Int) := w64s _ (by omega) (by omega)
  have d1 : decide (tt < (k : Int)) = true := by simp; omega
  have hm := Nat.mod_lt k (show 0 < q.r by omega)
  have had : ce q.r k < 2 + q.r := by unfold ce; omega
  have e0 : ((ce q.r k : Nat) : Int) = 2 + ((k % q.r : Nat) : Int) := by unfold ce; simp
  have e1 : Int.tmod (k : Int) (q.r : Int) = ((k % q.r : Nat) : Int) := by rw [Int.tmod_eq_emod_of_nonneg (by omega)]; simp
  have e2 : IntKind.i64.wrap (2 + ((k % q.r : Nat) : Int)) = ((ce q.r k : Nat) : Int) := by rw [e0]; simp [IntKind.wrap, IntKind.signed, IntKind.bits]; omega
  have e2b : wrap64 (2 + ((k % q.r : Nat) : Int)) = ((ce q.r k : Nat) : Int) := by rw [e0]; unfold wrap64; omega
  have e3 : (q.r : Int) ≠ 0 := by omega
  have e4 : ((q.r : Int) == 0) = false := by first | (simp; done) | (simp; omega)
  have e5 : ((q.r : Int) == -1) = false := by first | (simp; done) | (simp; omega)
  have e6 : (k : Int) % (q.r : Int) = ((k % q.r : Nat) : Int) := by simp
  have e7 : q.r ≠ 0 := by omega
  have e8 : (q.r == 0) = false := by simp; omega
  generalize ((k % q.r : Nat) : Int) = m at *
  clear hm e0
  replace h0 := Mr.hid h0
  replace hc := Mr.hid hc
  replace ht := Mr.hid ht
  go_enter Tryz.func54, Tryz.ntmps54
  go_wp2_with (first | (go_at_call 64; have h0p := h0.out; refine (load_any (s := s) (by exact OutR.eqv h0p rfl rfl rfl rfl) hl hr i (ce q.r k) x hx).mono ?_; rintro e w1 ⟨rfl, h1⟩; replace h1 : OutR W0 U0 q { s with lg := s.lg ++ [⟨s.n, i, 1, ((ce q.r k : Nat) : Int), 0, 0, uw x⟩] } w1 := (by simpa only [List.set_set] using h1); clear h0 h0p c0 c1 c2 c3 c6 c7 c8 fb ft fw t0 t1 t2 t3 t4; obtain ⟨c0, c1, c2, c3, c6, c7, c8, fb, ft, fw⟩ := h1.b0; obtain ⟨t0, t1, t2, t3, t4⟩ := h1.ts ht.out; replace h1 := Mr.hid h1) | (go_at_call 66; have h1p := h1.out; replace h1p := h1p.setT (t' := ⟨(c : Int), 5, ((k : Int) + 1), tt, x⟩) ht.out 4 (by decide) (u := .int .i64 (x)) rfl; replace h1p := h1p.setD (-1); refine (end_r (s := { s with ths := s.ths.set i ⟨(c : Int), 5, ((k : Int) + 1), tt, x⟩, lg := s.lg ++ [⟨s.n, i, 1, ((ce q.r k : Nat) : Int), 0, 0, uw x⟩], dn := -1 }) (by exact OutR.eqv h1p rfl rfl rfl rfl) i _ (set_at _ ht.out) c rfl _ hc.out 2 (x)).mono ?_; rintro e w2 ⟨rfl, h2⟩; replace h2 : OutR W0 U0 q { s with ths := s.ths.set i ⟨-1, 5, ((k : Int) + 1), tt, x⟩, cls := s.cls.set c { cl with fin := s.n, ak := 2, av := x }, lg := s.lg ++ [⟨s.n, i, 1, ((ce q.r k : Nat) : Int), 0, 0, uw x⟩], dn := -1 } w2 := (by simpa only [List.set_set] using h2); clear h1 h1p c0 c1 c2 c3 c6 c7 c8 fb ft fw t0 t1 t2 t3 t4; obtain ⟨c0, c1, c2, c3, c6, c7, c8, fb, ft, fw⟩ := h2.b0; obtain ⟨t0, t1, t2, t3, t4⟩ := h2.ts (set_at _ ht.out); replace h2 := Mr.hid h2))
  (try simp only [Exit.inBlock, Exit.then]); refine bodyPost_ret (results_none rfl _ _ _) rfl ?_
  exact ⟨rfl, OutR.eqv h2.out rfl rfl rfl rfl⟩
set_option maxRecDepth 100000 in
set_option maxHeartbeats 2000000 in
theorem take_5b {k : Nat} (h0 : OutR W0 U0 q s W) (hl : s.lg.length ≤ 100000) (hr1 : 1 ≤ q.r) (hr : q.r ≤ 256) (ht : s.ths[i]? = some ⟨(c : Int), 5, ((k : Int) + 1), tt, v⟩) (hc : s.cls[c]? = some cl) (hk : k ≤ 100000) (x : Int) (hx : s.ws[ce q.r k]? = some x) (hy : ¬ tt < (k : Int)) :
    Calls Tryz.prog 54 #[.pointer (some ⟨q.b, 0, none⟩), .int .i64 (i : Int)] W fun e w' => e = .returned (.tuple #[]) ∧ OutR W0 U0 q { s with ths := s.ths.set i ⟨(c : Int), 6, ((k : Int) + 1), tt, x⟩, lg := s.lg ++ [⟨s.n, i, 1, ((ce q.r k : Nat) : Int), 0, 0, uw x⟩] } w' := by
  have hws : s.ws.length = 2 + q.r := by obtain ⟨_, _, _, hR, _⟩ := h0; exact hR.wn
  have hin : i < q.nt := by obtain ⟨_, _, _, hR, _⟩ := h0; rw [← hR.tn]; exact (List.getElem?_eq_some_iff.1 ht).1
  have hcl : c < s.cls.length := (List.getElem?_eq_some_iff.1 hc).1
  obtain ⟨n1, n2, n3, n4, n5, n6⟩ := h0.neq
  obtain ⟨c0, c1, c2, c3, c6, c7, c8, fb, ft, fw⟩ := h0.b0
  obtain ⟨t0, t1, t2, t3, t4⟩ := h0.ts ht
  have u1 : wrap64 ((k : Int)) = (k : Int) := w64s _ (by omega) (by omega)
  have d1 : decide (tt < (k : Int)) = false := by simp; omega
  have hm := Nat.mod_lt k (show 0 < q.r by omega)
  have had : ce q.r k < 2 + q.r := by unfold ce; omega
  have e0 : ((ce q.r k : Nat) : Int) = 2 + ((k % q.r : Nat) : Int) := by unfold ce; simp
  have e1 : Int.tmod (k : Int) (q.r : Int) = ((k % q.r : Nat) : Int) := by rw [Int.tmod_eq_emod_of_nonneg (by omega)]; simp
  have e2 : IntKind.i64.wrap (2 + ((k % q.r : Nat) : Int)) = ((ce q.r k : Nat) : Int) := by rw [e0]; simp [IntKind.wrap, IntKind.signed, IntKind.bits]; omega
  have e2b : wrap64 (2 + ((k % q.r : Nat) : Int)) = ((ce q.r k : Nat) : Int) := by rw [e0]; unfold wrap64; omega
  have e3 : (q.r : Int) ≠ 0 := by omega
  have e4 : ((q.r : Int) == 0) = false := by first | (simp; done) | (simp; omega)
  have e5 : ((q.r : Int) == -1) = false := by first | (simp; done) | (simp; omega)
  have e6 : (k : Int) % (q.r : Int) = ((k % q.r : Nat) : Int) := by simp
  have e7 : q.r ≠ 0 := by omega
  have e8 : (q.r == 0) = false := by simp; omega
  generalize ((k % q.r : Nat) : Int) = m at *
  clear hm e0
  replace h0 := Mr.hid h0
  replace hc := Mr.hid hc
  replace ht := Mr.hid ht
  go_enter Tryz.func54, Tryz.ntmps54
  go_wp2_with ((go_at_call 64; have h0p := h0.out; refine (load_any (s := s) (by exact OutR.eqv h0p rfl rfl rfl rfl) hl hr i (ce q.r k) x hx).mono ?_; rintro e w1 ⟨rfl, h1⟩; replace h1 : OutR W0 U0 q { s with lg := s.lg ++ [⟨s.n, i, 1, ((ce q.r k : Nat) : Int), 0, 0, uw x⟩] } w1 := (by simpa only [List.set_set] using h1); clear h0 h0p c0 c1 c2 c3 c6 c7 c8 fb ft fw t0 t1 t2 t3 t4; obtain ⟨c0, c1, c2, c3, c6, c7, c8, fb, ft, fw⟩ := h1.b0; obtain ⟨t0, t1, t2, t3, t4⟩ := h1.ts ht.out; replace h1 := Mr.hid h1))
  go_end0
  have h1p := h1.out
  replace h1p := h1p.setT (t' := ⟨(c : Int), 5, ((k : Int) + 1), tt, x⟩) ht.out 4 (by decide) (u := .int .i64 (x)) rfl
  replace h1p := h1p.setT (t' := ⟨(c : Int), 6, ((k : Int) + 1), tt, x⟩) (set_at _ ht.out) 1 (by decide) (u := .int .i64 (6)) rfl
  refine ⟨rfl, ?_⟩
  simp only [List.set_set] at h1p
  exact OutR.eqv h1p rfl rfl rfl rfl
set_option maxRecDepth 100000 in
set_option maxHeartbeats 2000000 in
theorem take_6a (h0 : OutR W0 U0 q s W) (hl : s.lg.length ≤ 100000) (hr1 : 1 ≤ q.r) (hr : q.r ≤ 256) (ht : s.ths[i]? = some ⟨(c : Int), 6, b, tt, v⟩) (hc : s.cls[c]? = some cl) (hx : s.ws[0]? = some tt) (hb : 0 ≤ b ∧ b ≤ 100000) (ho : 0 ≤ tt ∧ tt ≤ 100000) :
    Calls Tryz.prog 54 #[.pointer (some ⟨q.b, 0, none⟩), .int .i64 (i : Int)] W fun e w' => e = .returned (.tuple #[]) ∧ OutR W0 U0 q { s with ws := s.ws.set 0 (tt + 1), ths := s.ths.set i ⟨(c : Int), 7, b, tt, v⟩, lg := s.lg ++ [⟨s.n, i, 3, 0, uw tt, uw (tt + 1), uw tt⟩] } w' := by
  have hws : s.ws.length = 2 + q.r := by obtain ⟨_, _, _, hR, _⟩ := h0; exact hR.wn
  have hin : i < q.nt := by obtain ⟨_, _, _, hR, _⟩ := h0; rw [← hR.tn]; exact (List.getElem?_eq_some_iff.1 ht).1
  have hcl : c < s.cls.length := (List.getElem?_eq_some_iff.1 hc).1
  obtain ⟨n1, n2, n3, n4, n5, n6⟩ := h0.neq
  obtain ⟨c0, c1, c2, c3, c6, c7, c8, fb, ft, fw⟩ := h0.b0
  obtain ⟨t0, t1, t2, t3, t4⟩ := h0.ts ht
  have u1 : wrap64 (b - 1) = b - 1 := w64s _ (by omega) (by omega)
  replace h0 := Mr.hid h0
  replace hc := Mr.hid hc
  replace ht := Mr.hid ht
  go_enter Tryz.func54, Tryz.ntmps54
  go_wp2_with ((go_at_call 68; have h0p := h0.out; refine (swap_yes (s := s) (by exact OutR.eqv h0p rfl rfl rfl rfl) hl hr i tt hx ho).mono ?_; rintro e w1 ⟨rfl, h1⟩; replace h1 : OutR W0 U0 q { s with ws := s.ws.set 0 (tt + 1), lg := s.lg ++ [⟨s.n, i, 3, 0, uw tt, uw (tt + 1), uw tt⟩] } w1 := (by simpa only [List.set_set] using h1); clear h0 h0p c0 c1 c2 c3 c6 c7 c8 fb ft fw t0 t1 t2 t3 t4; obtain ⟨c0, c1, c2, c3, c6, c7, c8, fb, ft, fw⟩ := h1.b0; obtain ⟨t0, t1, t2, t3, t4⟩ := h1.ts ht.out; replace h1 := Mr.hid h1))
  go_end0
  have h1p := h1.out
  replace h1p := h1p.setT (t' := ⟨(c : Int), 7, b, tt, v⟩) ht.out 1 (by decide) (u := .int .i64 (7)) rfl
  refine ⟨rfl, ?_⟩
  simp only [List.set_set] at h1p
  exact OutR.eqv h1p rfl rfl rfl rfl
set_option maxRecDepth 100000 in
set_option maxHeartbeats 2000000 in
theorem take_6b (h0 : OutR W0 U0 q s W) (hl : s.lg.length ≤ 100000) (hr1 : 1 ≤ q.r) (hr : q.r ≤ 256) (ht : s.ths[i]? = some ⟨(c : Int), 6, b, tt, v⟩) (hc : s.cls[c]? = some cl) (x : Int) (hx : s.ws[0]? = some x) (hne : x ≠ tt) (hb : 0 ≤ b ∧ b ≤ 100000) (ho : 0 ≤ tt ∧ tt ≤ 100000) :
    Calls Tryz.prog 54 #[.pointer (some ⟨q.b, 0, none⟩), .int .i64 (i : Int)] W fun e w' => e = .returned (.tuple #[]) ∧ OutR W0 U0 q { s with ths := s.ths.set i ⟨(c : Int), 8, b, tt, v⟩, cls := s.cls.set c { cl with pt := s.n }, lg := s.lg ++ [⟨s.n, i, 3, 0, uw tt, uw (tt + 1), uw x⟩] } w' := by
  have hws : s.ws.length = 2 + q.r := by obtain ⟨_, _, _, hR, _⟩ := h0; exact hR.wn
  have hin : i < q.nt := by obtain ⟨_, _, _, hR, _⟩ := h0; rw [← hR.tn]; exact (List.getElem?_eq_some_iff.1 ht).1
  have hcl : c < s.cls.length := (List.getElem?_eq_some_iff.1 hc).1
  obtain ⟨n1, n2, n3, n4, n5, n6⟩ := h0.neq
  obtain ⟨c0, c1, c2, c3, c6, c7, c8, fb, ft, fw⟩ := h0.b0
  obtain ⟨t0, t1, t2, t3, t4⟩ := h0.ts ht
  have u1 : wrap64 (b - 1) = b - 1 := w64s _ (by omega) (by omega)
  replace h0 := Mr.hid h0
  replace hc := Mr.hid hc
  replace ht := Mr.hid ht
  go_enter Tryz.func54, Tryz.ntmps54
  go_wp2_with (first | (go_at_call 68; have h0p := h0.out; refine (swap_no (s := s) (by exact OutR.eqv h0p rfl rfl rfl rfl) hl hr i x tt hx hne ho).mono ?_; rintro e w1 ⟨rfl, h1⟩; replace h1 : OutR W0 U0 q { s with lg := s.lg ++ [⟨s.n, i, 3, 0, uw tt, uw (tt + 1), uw x⟩] } w1 := (by simpa only [List.set_set] using h1); clear h0 h0p c0 c1 c2 c3 c6 c7 c8 fb ft fw t0 t1 t2 t3 t4; obtain ⟨c0, c1, c2, c3, c6, c7, c8, fb, ft, fw⟩ := h1.b0; obtain ⟨t0, t1, t2, t3, t4⟩ := h1.ts ht.out; replace h1 := Mr.hid h1) | (go_at_call 65; have h1p := h1.out; refine (point_r (s := { s with lg := s.lg ++ [⟨s.n, i, 3, 0, uw tt, uw (tt + 1), uw x⟩] }) (by exact OutR.eqv h1p rfl rfl rfl rfl) i _ ht.out c rfl _ hc.out (s.n)).mono ?_; rintro e w2 ⟨rfl, h2⟩; replace h2 : OutR W0 U0 q { s with cls := s.cls.set c { cl with pt := s.n }, lg := s.lg ++ [⟨s.n, i, 3, 0, uw tt, uw (tt + 1), uw x⟩] } w2 := (by simpa only [List.set_set] using h2); clear h1 h1p c0 c1 c2 c3 c6 c7 c8 fb ft fw t0 t1 t2 t3 t4; obtain ⟨c0, c1, c2, c3, c6, c7, c8, fb, ft, fw⟩ := h2.b0; obtain ⟨t0, t1, t2, t3, t4⟩ := h2.ts ht.out; replace h2 := Mr.hid h2))
  go_end0
  have h2p := h2.out
  replace h2p := h2p.setT (t' := ⟨(c : Int), 8, b, tt, v⟩) ht.out 1 (by decide) (u := .int .i64 (8)) rfl
  refine ⟨rfl, ?_⟩
  simp only [List.set_set] at h2p
  exact OutR.eqv h2p rfl rfl rfl rfl
set_option maxRecDepth 100000 in
set_option maxHeartbeats 2000000 in
theorem take_7 (h0 : OutR W0 U0 q s W) (hl : s.lg.length ≤ 100000) (hr1 : 1 ≤ q.r) (hr : q.r ≤ 256) (ht : s.ths[i]? = some ⟨(c : Int), 7, b, tt, v⟩) (hc : s.cls[c]? = some cl) (hb : 0 ≤ b ∧ b ≤ 100000) (ho : 0 ≤ tt ∧ tt ≤ 100000) :
    Calls Tryz.prog 54 #[.pointer (some ⟨q.b, 0, none⟩), .int .i64 (i : Int)] W fun e w' => e = .returned (.tuple #[]) ∧ OutR W0 U0 q { s with ws := s.ws.set (1) (tt + 1), ths := s.ths.set i ⟨-1, 7, b, tt, v⟩, cls := s.cls.set c { cl with fin := s.n, ak := 2, av := v }, lg := s.lg ++ [⟨s.n, i, 2, ((1 : Nat) : Int), 0, uw (tt + 1), 0⟩], dn := -1 } w' := by
  have hws : s.ws.length = 2 + q.r := by obtain ⟨_, _, _, hR, _⟩ := h0; exact hR.wn
  have hin : i < q.nt := by obtain ⟨_, _, _, hR, _⟩ := h0; rw [← hR.tn]; exact (List.getElem?_eq_some_iff.1 ht).1
  have hcl : c < s.cls.length := (List.getElem?_eq_some_iff.1 hc).1
  obtain ⟨n1, n2, n3, n4, n5, n6⟩ := h0.neq
  obtain ⟨c0, c1, c2, c3, c6, c7, c8, fb, ft, fw⟩ := h0.b0
  obtain ⟨t0, t1, t2, t3, t4⟩ := h0.ts ht
  have u1 : wrap64 (b - 1) = b - 1 := w64s _ (by omega) (by omega)
  have u2 : wrap64 (tt + 1) = tt + 1 := w64s _ (by omega) (by omega)
  replace h0 := Mr.hid h0
  replace hc := Mr.hid hc
  replace ht := Mr.hid ht
  go_enter Tryz.func54, Tryz.ntmps54
  go_wp2_with (first | (go_at_call 67; have h0p := h0.out; refine (store_any (s := s) (by exact OutR.eqv h0p rfl rfl rfl rfl) hl hr i (1) (tt + 1) (by omega)).mono ?_; rintro e w1 ⟨rfl, h1⟩; replace h1 : OutR W0 U0 q { s with ws := s.ws.set (1) (tt + 1), lg := s.lg ++ [⟨s.n, i, 2, ((1 : Nat) : Int), 0, uw (tt + 1), 0⟩] } w1 := (by simpa only [List.set_set] using h1); clear h0 h0p c0 c1 c2 c3 c6 c7 c8 fb ft fw t0 t1 t2 t3 t4; obtain ⟨c0, c1, c2, c3, c6, c7, c8, fb, ft, fw⟩ := h1.b0; obtain ⟨t0, t1, t2, t3, t4⟩ := h1.ts ht.out; replace h1 := Mr.hid h1) | (go_at_call 66; have h1p := h1.out; replace h1p := h1p.setD (-1); refine (end_r (s := { s with ws := s.ws.set (1) (tt + 1), lg := s.lg ++ [⟨s.n, i, 2, ((1 : Nat) : Int), 0, uw (tt + 1), 0⟩], dn := -1 }) (by exact OutR.eqv h1p rfl rfl rfl rfl) i _ ht.out c rfl _ hc.out 2 (v)).mono ?_; rintro e w2 ⟨rfl, h2⟩; replace h2 : OutR W0 U0 q { s with ws := s.ws.set (1) (tt + 1), ths := s.ths.set i ⟨-1, 7, b, tt, v⟩, cls := s.cls.set c { cl with fin := s.n, ak := 2, av := v }, lg := s.lg ++ [⟨s.n, i, 2, ((1 : Nat) : Int), 0, uw (tt + 1), 0⟩], dn := -1 } w2 := (by simpa only [List.set_set] using h2); clear h1 h1p c0 c1 c2 c3 c6 c7 c8 fb ft fw t0 t1 t2 t3 t4; obtain ⟨c0, c1, c2, c3, c6, c7, c8, fb, ft, fw⟩ := h2.b0; obtain ⟨t0, t1, t2, t3, t4⟩ := h2.ts (set_at _ ht.out); replace h2 := Mr.hid h2))
  (try simp only [Exit.inBlock, Exit.then]); refine bodyPost_ret (results_none rfl _ _ _) rfl ?_
  exact ⟨rfl, OutR.eqv h2.out rfl rfl rfl rfl⟩
set_option maxRecDepth 100000 in
set_option maxHeartbeats 2000000 in
theorem take_8 (h0 : OutR W0 U0 q s W) (hl : s.lg.length ≤ 100000) (hr1 : 1 ≤ q.r) (hr : q.r ≤ 256) (ht : s.ths[i]? = some ⟨(c : Int), 8, b, tt, v⟩) (hc : s.cls[c]? = some cl) (hb : 0 ≤ b ∧ b ≤ 100000) (ho : 0 ≤ tt ∧ tt ≤ 100000) :
    Calls Tryz.prog 54 #[.pointer (some ⟨q.b, 0, none⟩), .int .i64 (i : Int)] W fun e w' => e = .returned (.tuple #[]) ∧ OutR W0 U0 q { s with ws := s.ws.set (1) (tt + 1), ths := s.ths.set i ⟨-1, 8, b, tt, v⟩, cls := s.cls.set c { cl with fin := s.n, ak := 3, av := 0 }, lg := s.lg ++ [⟨s.n, i, 2, ((1 : Nat) : Int), 0, uw (tt + 1), 0⟩], dn := -1 } w' := by
  have hws : s.ws.length = 2 + q.r := by obtain ⟨_, _, _, hR, _⟩ := h0; exact hR.wn
  have hin : i < q.nt := by obtain ⟨_, _, _, hR, _⟩ := h0; rw [← hR.tn]; exact (List.getElem?_eq_some_iff.1 ht).1
  have hcl : c < s.cls.length := (List.getElem?_eq_some_iff.1 hc).1
  obtain ⟨n1, n2, n3, n4, n5, n6⟩ := h0.neq
  obtain ⟨c0, c1, c2, c3, c6, c7, c8, fb, ft, fw⟩ := h0.b0
  obtain ⟨t0, t1, t2, t3, t4⟩ := h0.ts ht
  have u1 : wrap64 (b - 1) = b - 1 := w64s _ (by omega) (by omega)
  have u2 : wrap64 (tt + 1) = tt + 1 := w64s _ (by omega) (by omega)
  replace h0 := Mr.hid h0
  replace hc := Mr.hid hc
  replace ht := Mr.hid ht
  go_enter Tryz.func54, Tryz.ntmps54
  go_wp2_with (first | (go_at_call 67; have h0p := h0.out; refine (store_any (s := s) (by exact OutR.eqv h0p rfl rfl rfl rfl) hl hr i (1) (tt + 1) (by omega)).mono ?_; rintro e w1 ⟨rfl, h1⟩; replace h1 : OutR W0 U0 q { s with ws := s.ws.set (1) (tt + 1), lg := s.lg ++ [⟨s.n, i, 2, ((1 : Nat) : Int), 0, uw (tt + 1), 0⟩] } w1 := (by simpa only [List.set_set] using h1); clear h0 h0p c0 c1 c2 c3 c6 c7 c8 fb ft fw t0 t1 t2 t3 t4; obtain ⟨c0, c1, c2, c3, c6, c7, c8, fb, ft, fw⟩ := h1.b0; obtain ⟨t0, t1, t2, t3, t4⟩ := h1.ts ht.out; replace h1 := Mr.hid h1) | (go_at_call 66; have h1p := h1.out; replace h1p := h1p.setD (-1); refine (end_r (s := { s with ws := s.ws.set (1) (tt + 1), lg := s.lg ++ [⟨s.n, i, 2, ((1 : Nat) : Int), 0, uw (tt + 1), 0⟩], dn := -1 }) (by exact OutR.eqv h1p rfl rfl rfl rfl) i _ ht.out c rfl _ hc.out 3 (0)).mono ?_; rintro e w2 ⟨rfl, h2⟩; replace h2 : OutR W0 U0 q { s with ws := s.ws.set (1) (tt + 1), ths := s.ths.set i ⟨-1, 8, b, tt, v⟩, cls := s.cls.set c { cl with fin := s.n, ak := 3, av := 0 }, lg := s.lg ++ [⟨s.n, i, 2, ((1 : Nat) : Int), 0, uw (tt + 1), 0⟩], dn := -1 } w2 := (by simpa only [List.set_set] using h2); clear h1 h1p c0 c1 c2 c3 c6 c7 c8 fb ft fw t0 t1 t2 t3 t4; obtain ⟨c0, c1, c2, c3, c6, c7, c8, fb, ft, fw⟩ := h2.b0; obtain ⟨t0, t1, t2, t3, t4⟩ := h2.ts (set_at _ ht.out); replace h2 := Mr.hid h2))
  (try simp only [Exit.inBlock, Exit.then]); refine bodyPost_ret (results_none rfl _ _ _) rfl ?_
  exact ⟨rfl, OutR.eqv h2.out rfl rfl rfl rfl⟩
end
end Go.Proofs.YtnapnhmmopajfaaGreat.Rd
/-
  THE DOCUMENT's DEQUE: steal, line by line (made by mk_rdstep.py).
-/
namespace Go.Proofs.YtnapnhmmopajfaaGreat.Rd
open Go.RowKit Mr Me Ma
set_option linter.unusedVariables false
set_option linter.unusedSimpArgs false
section
variable {W0 W : World} {U0 : Nat → Prop} {q : Rc} {s : Rs} {i c : Nat} {b tt v : Int} {cl : Cl}
set_option maxRecDepth 100000 in
set_option maxHeartbeats 2000000 in
theorem steal_1 (h0 : OutR W0 U0 q s W) (hl : s.lg.length ≤ 100000) (hr1 : 1 ≤ q.r) (hr : q.r ≤ 256) (ht : s.ths[i]? = some ⟨(c : Int), 1, b, tt, v⟩) (hc : s.cls[c]? = some cl) (x : Int) (hx : s.ws[0]? = some x) :
    Calls Tryz.prog 55 #[.pointer (some ⟨q.b, 0, none⟩), .int .i64 (i : Int)] W fun e w' => e = .returned (.tuple #[]) ∧ OutR W0 U0 q { s with ths := s.ths.set i ⟨(c : Int), 2, b, x, v⟩, lg := s.lg ++ [⟨s.n, i, 1, ((0 : Nat) : Int), 0, 0, uw x⟩] } w' := by
  have hws : s.ws.length = 2 + q.r := by obtain ⟨_, _, _, hR, _⟩ := h0; exact hR.wn
  have hin : i < q.nt := by obtain ⟨_, _, _, hR, _⟩ := h0; rw [← hR.tn]; exact (List.getElem?_eq_some_iff.1 ht).1
  have hcl : c < s.cls.length := (List.getElem?_eq_some_iff.1 hc).1
  obtain ⟨n1, n2, n3, n4, n5, n6⟩ := h0.neq
  obtain ⟨c0, c1, c2, c3, c6, c7, c8, fb, ft, fw⟩ := h0.b0
  obtain ⟨t0, t1, t2, t3, t4⟩ := h0.ts ht
  replace h0 := Mr.hid h0
  replace hc := Mr.hid hc
  replace ht := Mr.hid ht
  go_enter Tryz.func55, Tryz.ntmps55
  go_wp2_with ((go_at_call 64; have h0p := h0.out; refine (load_any (s := s) (by exact OutR.eqv h0p rfl rfl rfl rfl) hl hr i (0) x hx).mono ?_; rintro e w1 ⟨rfl, h1⟩; replace h1 : OutR W0 U0 q { s with lg := s.lg ++ [⟨s.n, i, 1, ((0 : Nat) : Int), 0, 0, uw x⟩] } w1 := (by simpa only [List.set_set] using h1); clear h0 h0p c0 c1 c2 c3 c6 c7 c8 fb ft fw t0 t1 t2 t3 t4; obtain ⟨c0, c1, c2, c3, c6, c7, c8, fb, ft, fw⟩ := h1.b0; obtain ⟨t0, t1, t2, t3, t4⟩ := h1.ts ht.out; replace h1 := Mr.hid h1))
  go_end0
  have h1p := h1.out
  replace h1p := h1p.setT (t' := ⟨(c : Int), 1, b, x, v⟩) ht.out 3 (by decide) (u := .int .i64 (x)) rfl
  replace h1p := h1p.setT (t' := ⟨(c : Int), 2, b, x, v⟩) (set_at _ ht.out) 1 (by decide) (u := .int .i64 (2)) rfl
  refine ⟨rfl, ?_⟩
  simp only [List.set_set] at h1p
  exact OutR.eqv h1p rfl rfl rfl rfl
set_option maxRecDepth 100000 in
set_option maxHeartbeats 2000000 in
theorem steal_2a (h0 : OutR W0 U0 q s W) (hl : s.lg.length ≤ 100000) (hr1 : 1 ≤ q.r) (hr : q.r ≤ 256) (ht : s.ths[i]? = some ⟨(c : Int), 2, b, tt, v⟩) (hc : s.cls[c]? = some cl) (x : Int) (hx : s.ws[1]? = some x) (ho : 0 ≤ tt ∧ tt ≤ 100000) (hx2 : -1 ≤ x ∧ x ≤ 100000) (hy : x - tt ≤ 0) :
    Calls Tryz.prog 55 #[.pointer (some ⟨q.b, 0, none⟩), .int .i64 (i : Int)] W fun e w' => e = .returned (.tuple #[]) ∧ OutR W0 U0 q { s with ths := s.ths.set i ⟨-1, 2, x, tt, v⟩, cls := s.cls.set c { cl with pt := s.n, fin := s.n, ak := 3, av := 0 }, lg := s.lg ++ [⟨s.n, i, 1, ((1 : Nat) : Int), 0, 0, uw x⟩] } w' := by
  have hws : s.ws.length = 2 + q.r := by obtain ⟨_, _, _, hR, _⟩ := h0; exact hR.wn
  have hin : i < q.nt := by obtain ⟨_, _, _, hR, _⟩ := h0; rw [← hR.tn]; exact (List.getElem?_eq_some_iff.1 ht).1
  have hcl : c < s.cls.length := (List.getElem?_eq_some_iff.1 hc).1
  obtain ⟨n1, n2, n3, n4, n5, n6⟩ := h0.neq
  obtain ⟨c0, c1, c2, c3, c6, c7, c8, fb, ft, fw⟩ := h0.b0
  obtain ⟨t0, t1, t2, t3, t4⟩ := h0.ts ht
  have u1 : wrap64 (x - tt) = x - tt := w64s _ (by omega) (by omega)
  have d1 : decide (x - tt ≤ 0) = true := by simp; omega
  replace h0 := Mr.hid h0
  replace hc := Mr.hid hc
  replace ht := Mr.hid ht
  go_enter Tryz.func55, Tryz.ntmps55
  go_wp2_with (first | (go_at_call 64; have h0p := h0.out; refine (load_any (s := s) (by exact OutR.eqv h0p rfl rfl rfl rfl) hl hr i (1) x hx).mono ?_; rintro e w1 ⟨rfl, h1⟩; replace h1 : OutR W0 U0 q { s with lg := s.lg ++ [⟨s.n, i, 1, ((1 : Nat) : Int), 0, 0, uw x⟩] } w1 := (by simpa only [List.set_set] using h1); clear h0 h0p c0 c1 c2 c3 c6 c7 c8 fb ft fw t0 t1 t2 t3 t4; obtain ⟨c0, c1, c2, c3, c6, c7, c8, fb, ft, fw⟩ := h1.b0; obtain ⟨t0, t1, t2, t3, t4⟩ := h1.ts ht.out; replace h1 := Mr.hid h1) | (go_at_call 65; have h1p := h1.out; replace h1p := h1p.setT (t' := ⟨(c : Int), 2, x, tt, v⟩) ht.out 2 (by decide) (u := .int .i64 (x)) rfl; refine (point_r (s := { s with ths := s.ths.set i ⟨(c : Int), 2, x, tt, v⟩, lg := s.lg ++ [⟨s.n, i, 1, ((1 : Nat) : Int), 0, 0, uw x⟩] }) (by exact OutR.eqv h1p rfl rfl rfl rfl) i _ (set_at _ ht.out) c rfl _ hc.out (s.n)).mono ?_; rintro e w2 ⟨rfl, h2⟩; replace h2 : OutR W0 U0 q { s with ths := s.ths.set i ⟨(c : Int), 2, x, tt, v⟩, cls := s.cls.set c { cl with pt := s.n }, lg := s.lg ++ [⟨s.n, i, 1, ((1 : Nat) : Int), 0, 0, uw x⟩] } w2 := (by simpa only [List.set_set] using h2); clear h1 h1p c0 c1 c2 c3 c6 c7 c8 fb ft fw t0 t1 t2 t3 t4; obtain ⟨c0, c1, c2, c3, c6, c7, c8, fb, ft, fw⟩ := h2.b0; obtain ⟨t0, t1, t2, t3, t4⟩ := h2.ts (set_at _ ht.out); replace h2 := Mr.hid h2) | (go_at_call 66; have h2p := h2.out; refine (end_r (s := { s with ths := s.ths.set i ⟨(c : Int), 2, x, tt, v⟩, cls := s.cls.set c { cl with pt := s.n }, lg := s.lg ++ [⟨s.n, i, 1, ((1 : Nat) : Int), 0, 0, uw x⟩] }) (by exact OutR.eqv h2p rfl rfl rfl rfl) i _ (set_at _ ht.out) c rfl _ (set_at _ hc.out) 3 (0)).mono ?_; rintro e w3 ⟨rfl, h3⟩; replace h3 : OutR W0 U0 q { s with ths := s.ths.set i ⟨-1, 2, x, tt, v⟩, cls := s.cls.set c { cl with pt := s.n, fin := s.n, ak := 3, av := 0 }, lg := s.lg ++ [⟨s.n, i, 1, ((1 : Nat) : Int), 0, 0, uw x⟩] } w3 := (by simpa only [List.set_set] using h3); clear h2 h2p c0 c1 c2 c3 c6 c7 c8 fb ft fw t0 t1 t2 t3 t4; obtain ⟨c0, c1, c2, c3, c6, c7, c8, fb, ft, fw⟩ := h3.b0; obtain ⟨t0, t1, t2, t3, t4⟩ := h3.ts (set_at _ ht.out); replace h3 := Mr.hid h3))
  go_quiet (fail)
  go_wp2_with (first | (go_at_call 64; have h0p := h0.out; refine (load_any (s := s) (by exact OutR.eqv h0p rfl rfl rfl rfl) hl hr i (1) x hx).mono ?_; rintro e w1 ⟨rfl, h1⟩; replace h1 : OutR W0 U0 q { s with lg := s.lg ++ [⟨s.n, i, 1, ((1 : Nat) : Int), 0, 0, uw x⟩] } w1 := (by simpa only [List.set_set] using h1); clear h0 h0p c0 c1 c2 c3 c6 c7 c8 fb ft fw t0 t1 t2 t3 t4; obtain ⟨c0, c1, c2, c3, c6, c7, c8, fb, ft, fw⟩ := h1.b0; obtain ⟨t0, t1, t2, t3, t4⟩ := h1.ts ht.out; replace h1 := Mr.hid h1) | (go_at_call 65; have h1p := h1.out; replace h1p := h1p.setT (t' := ⟨(c : Int), 2, x, tt, v⟩) ht.out 2 (by decide) (u := .int .i64 (x)) rfl; refine (point_r (s := { s with ths := s.ths.set i ⟨(c : Int), 2, x, tt, v⟩, lg := s.lg ++ [⟨s.n, i, 1, ((1 : Nat) : Int), 0, 0, uw x⟩] }) (by exact OutR.eqv h1p rfl rfl rfl rfl) i _ (set_at _ ht.out) c rfl _ hc.out (s.n)).mono ?_; rintro e w2 ⟨rfl, h2⟩; replace h2 : OutR W0 U0 q { s with ths := s.ths.set i ⟨(c : Int), 2, x, tt, v⟩, cls := s.cls.set c { cl with pt := s.n }, lg := s.lg ++ [⟨s.n, i, 1, ((1 : Nat) : Int), 0, 0, uw x⟩] } w2 := (by simpa only [List.set_set] using h2); clear h1 h1p c0 c1 c2 c3 c6 c7 c8 fb ft fw t0 t1 t2 t3 t4; obtain ⟨c0, c1, c2, c3, c6, c7, c8, fb, ft, fw⟩ := h2.b0; obtain ⟨t0, t1, t2, t3, t4⟩ := h2.ts (set_at _ ht.out); replace h2 := Mr.hid h2) | (go_at_call 66; have h2p := h2.out; refine (end_r (s := { s with ths := s.ths.set i ⟨(c : Int), 2, x, tt, v⟩, cls := s.cls.set c { cl with pt := s.n }, lg := s.lg ++ [⟨s.n, i, 1, ((1 : Nat) : Int), 0, 0, uw x⟩] }) (by exact OutR.eqv h2p rfl rfl rfl rfl) i _ (set_at _ ht.out) c rfl _ (set_at _ hc.out) 3 (0)).mono ?_; rintro e w3 ⟨rfl, h3⟩; replace h3 : OutR W0 U0 q { s with ths := s.ths.set i ⟨-1, 2, x, tt, v⟩, cls := s.cls.set c { cl with pt := s.n, fin := s.n, ak := 3, av := 0 }, lg := s.lg ++ [⟨s.n, i, 1, ((1 : Nat) : Int), 0, 0, uw x⟩] } w3 := (by simpa only [List.set_set] using h3); clear h2 h2p c0 c1 c2 c3 c6 c7 c8 fb ft fw t0 t1 t2 t3 t4; obtain ⟨c0, c1, c2, c3, c6, c7, c8, fb, ft, fw⟩ := h3.b0; obtain ⟨t0, t1, t2, t3, t4⟩ := h3.ts (set_at _ ht.out); replace h3 := Mr.hid h3))
  (try simp only [Exit.inBlock, Exit.then]); refine bodyPost_ret (results_none rfl _ _ _) rfl ?_
  exact ⟨rfl, OutR.eqv h3.out rfl rfl rfl rfl⟩
set_option maxRecDepth 100000 in
set_option maxHeartbeats 2000000 in
theorem steal_2b (h0 : OutR W0 U0 q s W) (hl : s.lg.length ≤ 100000) (hr1 : 1 ≤ q.r) (hr : q.r ≤ 256) (ht : s.ths[i]? = some ⟨(c : Int), 2, b, tt, v⟩) (hc : s.cls[c]? = some cl) (x : Int) (hx : s.ws[1]? = some x) (ho : 0 ≤ tt ∧ tt ≤ 100000) (hx2 : -1 ≤ x ∧ x ≤ 100000) (hy : ¬ x - tt ≤ 0) :
    Calls Tryz.prog 55 #[.pointer (some ⟨q.b, 0, none⟩), .int .i64 (i : Int)] W fun e w' => e = .returned (.tuple #[]) ∧ OutR W0 U0 q { s with ths := s.ths.set i ⟨(c : Int), 3, x, tt, v⟩, lg := s.lg ++ [⟨s.n, i, 1, ((1 : Nat) : Int), 0, 0, uw x⟩] } w' := by
  have hws : s.ws.length = 2 + q.r := by obtain ⟨_, _, _, hR, _⟩ := h0; exact hR.wn
  have hin : i < q.nt := by obtain ⟨_, _, _, hR, _⟩ := h0; rw [← hR.tn]; exact (List.getElem?_eq_some_iff.1 ht).1
  have hcl : c < s.cls.length := (List.getElem?_eq_some_iff.1 hc).1
  obtain ⟨n1, n2, n3, n4, n5, n6⟩ := h0.neq
  obtain ⟨c0, c1, c2, c3, c6, c7, c8, fb, ft, fw⟩ := h0.b0
  obtain ⟨t0, t1, t2, t3, t4⟩ := h0.ts ht
  have u1 : wrap64 (x - tt) = x - tt := w64s _ (by omega) (by omega)
  have d1 : decide (x - tt ≤ 0) = false := by simp; omega
  replace h0 := Mr.hid h0
  replace hc := Mr.hid hc
  replace ht := Mr.hid ht
  go_enter Tryz.func55, Tryz.ntmps55
  go_wp2_with ((go_at_call 64; have h0p := h0.out; refine (load_any (s := s) (by exact OutR.eqv h0p rfl rfl rfl rfl) hl hr i (1) x hx).mono ?_; rintro e w1 ⟨rfl, h1⟩; replace h1 : OutR W0 U0 q { s with lg := s.lg ++ [⟨s.n, i, 1, ((1 : Nat) : Int), 0, 0, uw x⟩] } w1 := (by simpa only [List.set_set] using h1); clear h0 h0p c0 c1 c2 c3 c6 c7 c8 fb ft fw t0 t1 t2 t3 t4; obtain ⟨c0, c1, c2, c3, c6, c7, c8, fb, ft, fw⟩ := h1.b0; obtain ⟨t0, t1, t2, t3, t4⟩ := h1.ts ht.out; replace h1 := Mr.hid h1))
  go_quiet (fail)
  go_wp2
  go_end0
  have h1p := h1.out
  replace h1p := h1p.setT (t' := ⟨(c : Int), 2, x, tt, v⟩) ht.out 2 (by decide) (u := .int .i64 (x)) rfl
  replace h1p := h1p.setT (t' := ⟨(c : Int), 3, x, tt, v⟩) (set_at _ ht.out) 1 (by decide) (u := .int .i64 (3)) rfl
  refine ⟨rfl, ?_⟩
  simp only [List.set_set] at h1p
  exact OutR.eqv h1p rfl rfl rfl rfl
set_option maxRecDepth 100000 in
set_option maxHeartbeats 2000000 in
theorem steal_3 {k : Nat} (h0 : OutR W0 U0 q s W) (hl : s.lg.length ≤ 100000) (hr1 : 1 ≤ q.r) (hr : q.r ≤ 256) (ht : s.ths[i]? = some ⟨(c : Int), 3, b, (k : Int), v⟩) (hc : s.cls[c]? = some cl) (hk : k ≤ 100000) (x : Int) (hx : s.ws[ce q.r k]? = some x) :
    Calls Tryz.prog 55 #[.pointer (some ⟨q.b, 0, none⟩), .int .i64 (i : Int)] W fun e w' => e = .returned (.tuple #[]) ∧ OutR W0 U0 q { s with ths := s.ths.set i ⟨(c : Int), 4, b, (k : Int), x⟩, lg := s.lg ++ [⟨s.n, i, 1, ((ce q.r k : Nat) : Int), 0, 0, uw x⟩] } w' := by
  have hws : s.ws.length = 2 + q.r := by obtain ⟨_, _, _, hR, _⟩ := h0; exact hR.wn
  have hin : i < q.nt := by obtain ⟨_, _, _, hR, _⟩ := h0; rw [← hR.tn]; exact (List.getElem?_eq_some_iff.1 ht).1
  have hcl : c < s.cls.length := (List.getElem?_eq_some_iff.1 hc).1
  obtain ⟨n1, n2, n3, n4, n5, n6⟩ := h0.neq
  obtain ⟨c0, c1, c2, c3, c6, c7, c8, fb, ft, fw⟩ := h0.b0
  obtain ⟨t0, t1, t2, t3, t4⟩ := h0.ts ht
  have hm := Nat.mod_lt k (show 0 < q.r by omega)
  have had : ce q.r k < 2 + q.r := by unfold ce; omega
  have e0 : ((ce q.r k : Nat) : Int) = 2 + ((k % q.r : Nat) : Int) := by unfold ce; simp
  have e1 : Int.tmod (k : Int) (q.r : Int) = ((k % q.r : Nat) : Int) := by rw [Int.tmod_eq_emod_of_nonneg (by omega)]; simp
  have e2 : IntKind.i64.wrap (2 + ((k % q.r : Nat) : Int)) = ((ce q.r k : Nat) : Int) := by rw [e0]; simp [IntKind.wrap, IntKind.signed, IntKind.bits]; omega
  have e2b : wrap64 (2 + ((k % q.r : Nat) : Int)) = ((ce q.r k : Nat) : Int) := by rw [e0]; unfold wrap64; omega
  have e3 : (q.r : Int) ≠ 0 := by omega
  have e4 : ((q.r : Int) == 0) = false := by first | (simp; done) | (simp; omega)
  have e5 : ((q.r : Int) == -1) = false := by first | (simp; done) | (simp; omega)
  have e6 : (k : Int) % (q.r : Int) = ((k % q.r : Nat) : Int) := by simp
  have e7 : q.r ≠ 0 := by omega
  have e8 : (q.r == 0) = false := by simp; omega
  generalize ((k % q.r : Nat) : Int) = m at *
  clear hm e0
  replace h0 := Mr.hid h0
  replace hc := Mr.hid hc
  replace ht := Mr.hid ht
  go_enter Tryz.func55, Tryz.ntmps55
  go_wp2
  go_region_held3 (fun w' => w'.cell? ⟨q.b, 1, none⟩ = some (.int .i64 (q.r : Int)) ∧ w'.cell? ⟨q.gt, i * 5 + 3, none⟩ = some (.int .i64 (k : Int))) (first | with_reducible exact KQ.out | go_keep) ((go_at_call 64; have h0p := h0.out; refine (load_any (s := s) (by exact OutR.eqv h0p rfl rfl rfl rfl) hl hr i (ce q.r k) x hx).mono ?_; rintro e w1 ⟨rfl, h1⟩; replace h1 : OutR W0 U0 q { s with lg := s.lg ++ [⟨s.n, i, 1, ((ce q.r k : Nat) : Int), 0, 0, uw x⟩] } w1 := (by simpa only [List.set_set] using h1); clear h0 h0p c0 c1 c2 c3 c6 c7 c8 fb ft fw t0 t1 t2 t3 t4; obtain ⟨c0, c1, c2, c3, c6, c7, c8, fb, ft, fw⟩ := h1.b0; obtain ⟨t0, t1, t2, t3, t4⟩ := h1.ts ht.out; replace h1 := Mr.hid h1; have hq := h1.out.setT (t' := ⟨(c : Int), 3, b, (k : Int), x⟩) ht.out 4 (by decide) (u := .int .i64 x) rfl; have KQ := Mr.hid (And.intro hq.b0.2.1 (hq.ts (set_at _ ht.out)).2.2.2.1); clear hq))
  go_wp2
  go_end0
  have h1p := h1.out
  replace h1p := h1p.setT (t' := ⟨(c : Int), 3, b, (k : Int), x⟩) ht.out 4 (by decide) (u := .int .i64 (x)) rfl
  replace h1p := h1p.setT (t' := ⟨(c : Int), 4, b, (k : Int), x⟩) (set_at _ ht.out) 1 (by decide) (u := .int .i64 (4)) rfl
  refine ⟨rfl, ?_⟩
  simp only [List.set_set] at h1p
  exact OutR.eqv h1p rfl rfl rfl rfl
set_option maxRecDepth 100000 in
set_option maxHeartbeats 2000000 in
theorem steal_4a (h0 : OutR W0 U0 q s W) (hl : s.lg.length ≤ 100000) (hr1 : 1 ≤ q.r) (hr : q.r ≤ 256) (ht : s.ths[i]? = some ⟨(c : Int), 4, b, tt, v⟩) (hc : s.cls[c]? = some cl) (hx : s.ws[0]? = some tt) (ho : 0 ≤ tt ∧ tt ≤ 100000) (hd : s.dn < 0) :
    Calls Tryz.prog 55 #[.pointer (some ⟨q.b, 0, none⟩), .int .i64 (i : Int)] W fun e w' => e = .returned (.tuple #[]) ∧ OutR W0 U0 q { s with ws := s.ws.set 0 (tt + 1), ths := s.ths.set i ⟨-1, 4, b, tt, v⟩, cls := s.cls.set c { cl with pt := s.n, fin := s.n, ak := 2, av := v }, lg := s.lg ++ [⟨s.n, i, 3, 0, uw tt, uw (tt + 1), uw tt⟩] } w' := by
  have hws : s.ws.length = 2 + q.r := by obtain ⟨_, _, _, hR, _⟩ := h0; exact hR.wn
  have hin : i < q.nt := by obtain ⟨_, _, _, hR, _⟩ := h0; rw [← hR.tn]; exact (List.getElem?_eq_some_iff.1 ht).1
  have hcl : c < s.cls.length := (List.getElem?_eq_some_iff.1 hc).1
  obtain ⟨n1, n2, n3, n4, n5, n6⟩ := h0.neq
  obtain ⟨c0, c1, c2, c3, c6, c7, c8, fb, ft, fw⟩ := h0.b0
  obtain ⟨t0, t1, t2, t3, t4⟩ := h0.ts ht
  have d1 : decide (0 ≤ s.dn) = false := by simp; omega
  replace h0 := Mr.hid h0
  replace hc := Mr.hid hc
  replace ht := Mr.hid ht
  go_enter Tryz.func55, Tryz.ntmps55
  go_wp2_with (first | (go_at_call 68; have h0p := h0.out; refine (swap_yes (s := s) (by exact OutR.eqv h0p rfl rfl rfl rfl) hl hr i tt hx ho).mono ?_; rintro e w1 ⟨rfl, h1⟩; replace h1 : OutR W0 U0 q { s with ws := s.ws.set 0 (tt + 1), lg := s.lg ++ [⟨s.n, i, 3, 0, uw tt, uw (tt + 1), uw tt⟩] } w1 := (by simpa only [List.set_set] using h1); clear h0 h0p c0 c1 c2 c3 c6 c7 c8 fb ft fw t0 t1 t2 t3 t4; obtain ⟨c0, c1, c2, c3, c6, c7, c8, fb, ft, fw⟩ := h1.b0; obtain ⟨t0, t1, t2, t3, t4⟩ := h1.ts ht.out; replace h1 := Mr.hid h1) | (go_at_call 65; have h1p := h1.out; refine (point_r (s := { s with ws := s.ws.set 0 (tt + 1), lg := s.lg ++ [⟨s.n, i, 3, 0, uw tt, uw (tt + 1), uw tt⟩] }) (by exact OutR.eqv h1p rfl rfl rfl rfl) i _ ht.out c rfl _ hc.out (s.n)).mono ?_; rintro e w2 ⟨rfl, h2⟩; replace h2 : OutR W0 U0 q { s with ws := s.ws.set 0 (tt + 1), cls := s.cls.set c { cl with pt := s.n }, lg := s.lg ++ [⟨s.n, i, 3, 0, uw tt, uw (tt + 1), uw tt⟩] } w2 := (by simpa only [List.set_set] using h2); clear h1 h1p c0 c1 c2 c3 c6 c7 c8 fb ft fw t0 t1 t2 t3 t4; obtain ⟨c0, c1, c2, c3, c6, c7, c8, fb, ft, fw⟩ := h2.b0; obtain ⟨t0, t1, t2, t3, t4⟩ := h2.ts ht.out; replace h2 := Mr.hid h2) | (go_at_call 66; have h2p := h2.out; refine (end_r (s := { s with ws := s.ws.set 0 (tt + 1), cls := s.cls.set c { cl with pt := s.n }, lg := s.lg ++ [⟨s.n, i, 3, 0, uw tt, uw (tt + 1), uw tt⟩] }) (by exact OutR.eqv h2p rfl rfl rfl rfl) i _ ht.out c rfl _ (set_at _ hc.out) 2 (v)).mono ?_; rintro e w3 ⟨rfl, h3⟩; replace h3 : OutR W0 U0 q { s with ws := s.ws.set 0 (tt + 1), ths := s.ths.set i ⟨-1, 4, b, tt, v⟩, cls := s.cls.set c { cl with pt := s.n, fin := s.n, ak := 2, av := v }, lg := s.lg ++ [⟨s.n, i, 3, 0, uw tt, uw (tt + 1), uw tt⟩] } w3 := (by simpa only [List.set_set] using h3); clear h2 h2p c0 c1 c2 c3 c6 c7 c8 fb ft fw t0 t1 t2 t3 t4; obtain ⟨c0, c1, c2, c3, c6, c7, c8, fb, ft, fw⟩ := h3.b0; obtain ⟨t0, t1, t2, t3, t4⟩ := h3.ts (set_at _ ht.out); replace h3 := Mr.hid h3))
  go_quiet (fail)
  go_wp2_with (first | (go_at_call 68; have h0p := h0.out; refine (swap_yes (s := s) (by exact OutR.eqv h0p rfl rfl rfl rfl) hl hr i tt hx ho).mono ?_; rintro e w1 ⟨rfl, h1⟩; replace h1 : OutR W0 U0 q { s with ws := s.ws.set 0 (tt + 1), lg := s.lg ++ [⟨s.n, i, 3, 0, uw tt, uw (tt + 1), uw tt⟩] } w1 := (by simpa only [List.set_set] using h1); clear h0 h0p c0 c1 c2 c3 c6 c7 c8 fb ft fw t0 t1 t2 t3 t4; obtain ⟨c0, c1, c2, c3, c6, c7, c8, fb, ft, fw⟩ := h1.b0; obtain ⟨t0, t1, t2, t3, t4⟩ := h1.ts ht.out; replace h1 := Mr.hid h1) | (go_at_call 65; have h1p := h1.out; refine (point_r (s := { s with ws := s.ws.set 0 (tt + 1), lg := s.lg ++ [⟨s.n, i, 3, 0, uw tt, uw (tt + 1), uw tt⟩] }) (by exact OutR.eqv h1p rfl rfl rfl rfl) i _ ht.out c rfl _ hc.out (s.n)).mono ?_; rintro e w2 ⟨rfl, h2⟩; replace h2 : OutR W0 U0 q { s with ws := s.ws.set 0 (tt + 1), cls := s.cls.set c { cl with pt := s.n }, lg := s.lg ++ [⟨s.n, i, 3, 0, uw tt, uw (tt + 1), uw tt⟩] } w2 := (by simpa only [List.set_set] using h2); clear h1 h1p c0 c1 c2 c3 c6 c7 c8 fb ft fw t0 t1 t2 t3 t4; obtain ⟨c0, c1, c2, c3, c6, c7, c8, fb, ft, fw⟩ := h2.b0; obtain ⟨t0, t1, t2, t3, t4⟩ := h2.ts ht.out; replace h2 := Mr.hid h2) | (go_at_call 66; have h2p := h2.out; refine (end_r (s := { s with ws := s.ws.set 0 (tt + 1), cls := s.cls.set c { cl with pt := s.n }, lg := s.lg ++ [⟨s.n, i, 3, 0, uw tt, uw (tt + 1), uw tt⟩] }) (by exact OutR.eqv h2p rfl rfl rfl rfl) i _ ht.out c rfl _ (set_at _ hc.out) 2 (v)).mono ?_; rintro e w3 ⟨rfl, h3⟩; replace h3 : OutR W0 U0 q { s with ws := s.ws.set 0 (tt + 1), ths := s.ths.set i ⟨-1, 4, b, tt, v⟩, cls := s.cls.set c { cl with pt := s.n, fin := s.n, ak := 2, av := v }, lg := s.lg ++ [⟨s.n, i, 3, 0, uw tt, uw (tt + 1), uw tt⟩] } w3 := (by simpa only [List.set_set] using h3); clear h2 h2p c0 c1 c2 c3 c6 c7 c8 fb ft fw t0 t1 t2 t3 t4; obtain ⟨c0, c1, c2, c3, c6, c7, c8, fb, ft, fw⟩ := h3.b0; obtain ⟨t0, t1, t2, t3, t4⟩ := h3.ts (set_at _ ht.out); replace h3 := Mr.hid h3))
  (try simp only [Exit.inBlock, Exit.then]); refine bodyPost_ret (results_none rfl _ _ _) rfl ?_
  exact ⟨rfl, OutR.eqv h3.out rfl rfl rfl rfl⟩
set_option maxRecDepth 100000 in
set_option maxHeartbeats 2000000 in
theorem steal_4b (h0 : OutR W0 U0 q s W) (hl : s.lg.length ≤ 100000) (hr1 : 1 ≤ q.r) (hr : q.r ≤ 256) (ht : s.ths[i]? = some ⟨(c : Int), 4, b, tt, v⟩) (hc : s.cls[c]? = some cl) (hx : s.ws[0]? = some tt) (ho : 0 ≤ tt ∧ tt ≤ 100000) (hd : 0 ≤ s.dn) (he : s.la = tt) :
    Calls Tryz.prog 55 #[.pointer (some ⟨q.b, 0, none⟩), .int .i64 (i : Int)] W fun e w' => e = .returned (.tuple #[]) ∧ OutR W0 U0 q { s with ws := s.ws.set 0 (tt + 1), ths := s.ths.set i ⟨-1, 4, b, tt, v⟩, cls := s.cls.set c { cl with pt := s.dn, fin := s.n, ak := 2, av := v }, lg := s.lg ++ [⟨s.n, i, 3, 0, uw tt, uw (tt + 1), uw tt⟩] } w' := by
  have hws : s.ws.length = 2 + q.r := by obtain ⟨_, _, _, hR, _⟩ := h0; exact hR.wn
  have hin : i < q.nt := by obtain ⟨_, _, _, hR, _⟩ := h0; rw [← hR.tn]; exact (List.getElem?_eq_some_iff.1 ht).1
  have hcl : c < s.cls.length := (List.getElem?_eq_some_iff.1 hc).1
  obtain ⟨n1, n2, n3, n4, n5, n6⟩ := h0.neq
  obtain ⟨c0, c1, c2, c3, c6, c7, c8, fb, ft, fw⟩ := h0.b0
  obtain ⟨t0, t1, t2, t3, t4⟩ := h0.ts ht
  have d1 : decide (0 ≤ s.dn) = true := by simp; omega
  have d2 : decide (s.la = tt) = true := by simp; omega
  have d3 : (s.la == tt) = true := by simp; omega
  replace he := Mr.hid he
  replace h0 := Mr.hid h0
  replace hc := Mr.hid hc
  replace ht := Mr.hid ht
  go_enter Tryz.func55, Tryz.ntmps55
  go_wp2_with (first | (go_at_call 68; have h0p := h0.out; refine (swap_yes (s := s) (by exact OutR.eqv h0p rfl rfl rfl rfl) hl hr i tt hx ho).mono ?_; rintro e w1 ⟨rfl, h1⟩; replace h1 : OutR W0 U0 q { s with ws := s.ws.set 0 (tt + 1), lg := s.lg ++ [⟨s.n, i, 3, 0, uw tt, uw (tt + 1), uw tt⟩] } w1 := (by simpa only [List.set_set] using h1); clear h0 h0p c0 c1 c2 c3 c6 c7 c8 fb ft fw t0 t1 t2 t3 t4; obtain ⟨c0, c1, c2, c3, c6, c7, c8, fb, ft, fw⟩ := h1.b0; obtain ⟨t0, t1, t2, t3, t4⟩ := h1.ts ht.out; replace h1 := Mr.hid h1) | (go_at_call 65; have h1p := h1.out; refine (point_r (s := { s with ws := s.ws.set 0 (tt + 1), lg := s.lg ++ [⟨s.n, i, 3, 0, uw tt, uw (tt + 1), uw tt⟩] }) (by exact OutR.eqv h1p rfl rfl rfl rfl) i _ ht.out c rfl _ hc.out (s.n)).mono ?_; rintro e w2 ⟨rfl, h2⟩; replace h2 : OutR W0 U0 q { s with ws := s.ws.set 0 (tt + 1), cls := s.cls.set c { cl with pt := s.n }, lg := s.lg ++ [⟨s.n, i, 3, 0, uw tt, uw (tt + 1), uw tt⟩] } w2 := (by simpa only [List.set_set] using h2); clear h1 h1p c0 c1 c2 c3 c6 c7 c8 fb ft fw t0 t1 t2 t3 t4; obtain ⟨c0, c1, c2, c3, c6, c7, c8, fb, ft, fw⟩ := h2.b0; obtain ⟨t0, t1, t2, t3, t4⟩ := h2.ts ht.out; replace h2 := Mr.hid h2) | (go_at_call 65; have h2p := h2.out; refine (point_r (s := { s with ws := s.ws.set 0 (tt + 1), cls := s.cls.set c { cl with pt := s.n }, lg := s.lg ++ [⟨s.n, i, 3, 0, uw tt, uw (tt + 1), uw tt⟩] }) (by exact OutR.eqv h2p rfl rfl rfl rfl) i _ ht.out c rfl _ (set_at _ hc.out) (s.dn)).mono ?_; rintro e w3 ⟨rfl, h3⟩; replace h3 : OutR W0 U0 q { s with ws := s.ws.set 0 (tt + 1), cls := s.cls.set c { cl with pt := s.dn }, lg := s.lg ++ [⟨s.n, i, 3, 0, uw tt, uw (tt + 1), uw tt⟩] } w3 := (by simpa only [List.set_set] using h3); clear h2 h2p c0 c1 c2 c3 c6 c7 c8 fb ft fw t0 t1 t2 t3 t4; obtain ⟨c0, c1, c2, c3, c6, c7, c8, fb, ft, fw⟩ := h3.b0; obtain ⟨t0, t1, t2, t3, t4⟩ := h3.ts ht.out; replace h3 := Mr.hid h3) | (go_at_call 66; have h3p := h3.out; refine (end_r (s := { s with ws := s.ws.set 0 (tt + 1), cls := s.cls.set c { cl with pt := s.dn }, lg := s.lg ++ [⟨s.n, i, 3, 0, uw tt, uw (tt + 1), uw tt⟩] }) (by exact OutR.eqv h3p rfl rfl rfl rfl) i _ ht.out c rfl _ (set_at _ hc.out) 2 (v)).mono ?_; rintro e w4 ⟨rfl, h4⟩; replace h4 : OutR W0 U0 q { s with ws := s.ws.set 0 (tt + 1), ths := s.ths.set i ⟨-1, 4, b, tt, v⟩, cls := s.cls.set c { cl with pt := s.dn, fin := s.n, ak := 2, av := v }, lg := s.lg ++ [⟨s.n, i, 3, 0, uw tt, uw (tt + 1), uw tt⟩] } w4 := (by simpa only [List.set_set] using h4); clear h3 h3p c0 c1 c2 c3 c6 c7 c8 fb ft fw t0 t1 t2 t3 t4; obtain ⟨c0, c1, c2, c3, c6, c7, c8, fb, ft, fw⟩ := h4.b0; obtain ⟨t0, t1, t2, t3, t4⟩ := h4.ts (set_at _ ht.out); replace h4 := Mr.hid h4))
  go_quiet (fail)
  go_wp2_with (first | (go_at_call 68; have h0p := h0.out; refine (swap_yes (s := s) (by exact OutR.eqv h0p rfl rfl rfl rfl) hl hr i tt hx ho).mono ?_; rintro e w1 ⟨rfl, h1⟩; replace h1 : OutR W0 U0 q { s with ws := s.ws.set 0 (tt + 1), lg := s.lg ++ [⟨s.n, i, 3, 0, uw tt, uw (tt + 1), uw tt⟩] } w1 := (by simpa only [List.set_set] using h1); clear h0 h0p c0 c1 c2 c3 c6 c7 c8 fb ft fw t0 t1 t2 t3 t4; obtain ⟨c0, c1, c2, c3, c6, c7, c8, fb, ft, fw⟩ := h1.b0; obtain ⟨t0, t1, t2, t3, t4⟩ := h1.ts ht.out; replace h1 := Mr.hid h1) | (go_at_call 65; have h1p := h1.out; refine (point_r (s := { s with ws := s.ws.set 0 (tt + 1), lg := s.lg ++ [⟨s.n, i, 3, 0, uw tt, uw (tt + 1), uw tt⟩] }) (by exact OutR.eqv h1p rfl rfl rfl rfl) i _ ht.out c rfl _ hc.out (s.n)).mono ?_; rintro e w2 ⟨rfl, h2⟩; replace h2 : OutR W0 U0 q { s with ws := s.ws.set 0 (tt + 1), cls := s.cls.set c { cl with pt := s.n }, lg := s.lg ++ [⟨s.n, i, 3, 0, uw tt, uw (tt + 1), uw tt⟩] } w2 := (by simpa only [List.set_set] using h2); clear h1 h1p c0 c1 c2 c3 c6 c7 c8 fb ft fw t0 t1 t2 t3 t4; obtain ⟨c0, c1, c2, c3, c6, c7, c8, fb, ft, fw⟩ := h2.b0; obtain ⟨t0, t1, t2, t3, t4⟩ := h2.ts ht.out; replace h2 := Mr.hid h2) | (go_at_call 65; have h2p := h2.out; refine (point_r (s := { s with ws := s.ws.set 0 (tt + 1), cls := s.cls.set c { cl with pt := s.n }, lg := s.lg ++ [⟨s.n, i, 3, 0, uw tt, uw (tt + 1), uw tt⟩] }) (by exact OutR.eqv h2p rfl rfl rfl rfl) i _ ht.out c rfl _ (set_at _ hc.out) (s.dn)).mono ?_; rintro e w3 ⟨rfl, h3⟩; replace h3 : OutR W0 U0 q { s with ws := s.ws.set 0 (tt + 1), cls := s.cls.set c { cl with pt := s.dn }, lg := s.lg ++ [⟨s.n, i, 3, 0, uw tt, uw (tt + 1), uw tt⟩] } w3 := (by simpa only [List.set_set] using h3); clear h2 h2p c0 c1 c2 c3 c6 c7 c8 fb ft fw t0 t1 t2 t3 t4; obtain ⟨c0, c1, c2, c3, c6, c7, c8, fb, ft, fw⟩ := h3.b0; obtain ⟨t0, t1, t2, t3, t4⟩ := h3.ts ht.out; replace h3 := Mr.hid h3) | (go_at_call 66; have h3p := h3.out; refine (end_r (s := { s with ws := s.ws.set 0 (tt + 1), cls := s.cls.set c { cl with pt := s.dn }, lg := s.lg ++ [⟨s.n, i, 3, 0, uw tt, uw (tt + 1), uw tt⟩] }) (by exact OutR.eqv h3p rfl rfl rfl rfl) i _ ht.out c rfl _ (set_at _ hc.out) 2 (v)).mono ?_; rintro e w4 ⟨rfl, h4⟩; replace h4 : OutR W0 U0 q { s with ws := s.ws.set 0 (tt + 1), ths := s.ths.set i ⟨-1, 4, b, tt, v⟩, cls := s.cls.set c { cl with pt := s.dn, fin := s.n, ak := 2, av := v }, lg := s.lg ++ [⟨s.n, i, 3, 0, uw tt, uw (tt + 1), uw tt⟩] } w4 := (by simpa only [List.set_set] using h4); clear h3 h3p c0 c1 c2 c3 c6 c7 c8 fb ft fw t0 t1 t2 t3 t4; obtain ⟨c0, c1, c2, c3, c6, c7, c8, fb, ft, fw⟩ := h4.b0; obtain ⟨t0, t1, t2, t3, t4⟩ := h4.ts (set_at _ ht.out); replace h4 := Mr.hid h4))
  (try simp only [Exit.inBlock, Exit.then]); refine bodyPost_ret (results_none rfl _ _ _) rfl ?_
  exact ⟨rfl, OutR.eqv h4.out rfl rfl rfl rfl⟩
set_option maxRecDepth 100000 in
set_option maxHeartbeats 2000000 in
theorem steal_4d (h0 : OutR W0 U0 q s W) (hl : s.lg.length ≤ 100000) (hr1 : 1 ≤ q.r) (hr : q.r ≤ 256) (ht : s.ths[i]? = some ⟨(c : Int), 4, b, tt, v⟩) (hc : s.cls[c]? = some cl) (hx : s.ws[0]? = some tt) (ho : 0 ≤ tt ∧ tt ≤ 100000) (hd : 0 ≤ s.dn) (he : s.la ≠ tt) :
    Calls Tryz.prog 55 #[.pointer (some ⟨q.b, 0, none⟩), .int .i64 (i : Int)] W fun e w' => e = .returned (.tuple #[]) ∧ OutR W0 U0 q { s with ws := s.ws.set 0 (tt + 1), ths := s.ths.set i ⟨-1, 4, b, tt, v⟩, cls := s.cls.set c { cl with pt := s.n, fin := s.n, ak := 2, av := v }, lg := s.lg ++ [⟨s.n, i, 3, 0, uw tt, uw (tt + 1), uw tt⟩] } w' := by
  have hws : s.ws.length = 2 + q.r := by obtain ⟨_, _, _, hR, _⟩ := h0; exact hR.wn
  have hin : i < q.nt := by obtain ⟨_, _, _, hR, _⟩ := h0; rw [← hR.tn]; exact (List.getElem?_eq_some_iff.1 ht).1
  have hcl : c < s.cls.length := (List.getElem?_eq_some_iff.1 hc).1
  obtain ⟨n1, n2, n3, n4, n5, n6⟩ := h0.neq
  obtain ⟨c0, c1, c2, c3, c6, c7, c8, fb, ft, fw⟩ := h0.b0
  obtain ⟨t0, t1, t2, t3, t4⟩ := h0.ts ht
  have d1 : decide (0 ≤ s.dn) = true := by simp; omega
  have d2 : decide (s.la = tt) = false := by simp; omega
  have d3 : (s.la == tt) = false := by simp; omega
  replace h0 := Mr.hid h0
  replace hc := Mr.hid hc
  replace ht := Mr.hid ht
  go_enter Tryz.func55, Tryz.ntmps55
  go_wp2_with (first | (go_at_call 68; have h0p := h0.out; refine (swap_yes (s := s) (by exact OutR.eqv h0p rfl rfl rfl rfl) hl hr i tt hx ho).mono ?_; rintro e w1 ⟨rfl, h1⟩; replace h1 : OutR W0 U0 q { s with ws := s.ws.set 0 (tt + 1), lg := s.lg ++ [⟨s.n, i, 3, 0, uw tt, uw (tt + 1), uw tt⟩] } w1 := (by simpa only [List.set_set] using h1); clear h0 h0p c0 c1 c2 c3 c6 c7 c8 fb ft fw t0 t1 t2 t3 t4; obtain ⟨c0, c1, c2, c3, c6, c7, c8, fb, ft, fw⟩ := h1.b0; obtain ⟨t0, t1, t2, t3, t4⟩ := h1.ts ht.out; replace h1 := Mr.hid h1) | (go_at_call 65; have h1p := h1.out; refine (point_r (s := { s with ws := s.ws.set 0 (tt + 1), lg := s.lg ++ [⟨s.n, i, 3, 0, uw tt, uw (tt + 1), uw tt⟩] }) (by exact OutR.eqv h1p rfl rfl rfl rfl) i _ ht.out c rfl _ hc.out (s.n)).mono ?_; rintro e w2 ⟨rfl, h2⟩; replace h2 : OutR W0 U0 q { s with ws := s.ws.set 0 (tt + 1), cls := s.cls.set c { cl with pt := s.n }, lg := s.lg ++ [⟨s.n, i, 3, 0, uw tt, uw (tt + 1), uw tt⟩] } w2 := (by simpa only [List.set_set] using h2); clear h1 h1p c0 c1 c2 c3 c6 c7 c8 fb ft fw t0 t1 t2 t3 t4; obtain ⟨c0, c1, c2, c3, c6, c7, c8, fb, ft, fw⟩ := h2.b0; obtain ⟨t0, t1, t2, t3, t4⟩ := h2.ts ht.out; replace h2 := Mr.hid h2) | (go_at_call 66; have h2p := h2.out; refine (end_r (s := { s with ws := s.ws.set 0 (tt + 1), cls := s.cls.set c { cl with pt := s.n }, lg := s.lg ++ [⟨s.n, i, 3, 0, uw tt, uw (tt + 1), uw tt⟩] }) (by exact OutR.eqv h2p rfl rfl rfl rfl) i _ ht.out c rfl _ (set_at _ hc.out) 2 (v)).mono ?_; rintro e w3 ⟨rfl, h3⟩; replace h3 : OutR W0 U0 q { s with ws := s.ws.set 0 (tt + 1), ths := s.ths.set i ⟨-1, 4, b, tt, v⟩, cls := s.cls.set c { cl with pt := s.n, fin := s.n, ak := 2, av := v }, lg := s.lg ++ [⟨s.n, i, 3, 0, uw tt, uw (tt + 1), uw tt⟩] } w3 := (by simpa only [List.set_set] using h3); clear h2 h2p c0 c1 c2 c3 c6 c7 c8 fb ft fw t0 t1 t2 t3 t4; obtain ⟨c0, c1, c2, c3, c6, c7, c8, fb, ft, fw⟩ := h3.b0; obtain ⟨t0, t1, t2, t3, t4⟩ := h3.ts (set_at _ ht.out); replace h3 := Mr.hid h3))
  go_quiet (fail)
  go_wp2_with (first | (go_at_call 68; have h0p := h0.out; refine (swap_yes (s := s) (by exact OutR.eqv h0p rfl rfl rfl rfl) hl hr i tt hx ho).mono ?_; rintro e w1 ⟨rfl, h1⟩; replace h1 : OutR W0 U0 q { s with ws := s.ws.set 0 (tt + 1), lg := s.lg ++ [⟨s.n, i, 3, 0, uw tt, uw (tt + 1), uw tt⟩] } w1 := (by simpa only [List.set_set] using h1); clear h0 h0p c0 c1 c2 c3 c6 c7 c8 fb ft fw t0 t1 t2 t3 t4; obtain ⟨c0, c1, c2, c3, c6, c7, c8, fb, ft, fw⟩ := h1.b0; obtain ⟨t0, t1, t2, t3, t4⟩ := h1.ts ht.out; replace h1 := Mr.hid h1) | (go_at_call 65; have h1p := h1.out; refine (point_r (s := { s with ws := s.ws.set 0 (tt + 1), lg := s.lg ++ [⟨s.n, i, 3, 0, uw tt, uw (tt + 1), uw tt⟩] }) (by exact OutR.eqv h1p rfl rfl rfl rfl) i _ ht.out c rfl _ hc.out (s.n)).mono ?_; rintro e w2 ⟨rfl, h2⟩; replace h2 : OutR W0 U0 q { s with ws := s.ws.set 0 (tt + 1), cls := s.cls.set c { cl with pt := s.n }, lg := s.lg ++ [⟨s.n, i, 3, 0, uw tt, uw (tt + 1), uw tt⟩] } w2 := (by simpa only [List.set_set] using h2); clear h1 h1p c0 c1 c2 c3 c6 c7 c8 fb ft fw t0 t1 t2 t3 t4; obtain ⟨c0, c1, c2, c3, c6, c7, c8, fb, ft, fw⟩ := h2.b0; obtain ⟨t0, t1, t2, t3, t4⟩ := h2.ts ht.out; replace h2 := Mr.hid h2) | (go_at_call 66; have h2p := h2.out; refine (end_r (s := { s with ws := s.ws.set 0 (tt + 1), cls := s.cls.set c { cl with pt := s.n }, lg := s.lg ++ [⟨s.n, i, 3, 0, uw tt, uw (tt + 1), uw tt⟩] }) (by exact OutR.eqv h2p rfl rfl rfl rfl) i _ ht.out c rfl _ (set_at _ hc.out) 2 (v)).mono ?_; rintro e w3 ⟨rfl, h3⟩; replace h3 : OutR W0 U0 q { s with ws := s.ws.set 0 (tt + 1), ths := s.ths.set i ⟨-1, 4, b, tt, v⟩, cls := s.cls.set c { cl with pt := s.n, fin := s.n, ak := 2, av := v }, lg := s.lg ++ [⟨s.n, i, 3, 0, uw tt, uw (tt + 1), uw tt⟩] } w3 := (by simpa only [List.set_set] using h3); clear h2 h2p c0 c1 c2 c3 c6 c7 c8 fb ft fw t0 t1 t2 t3 t4; obtain ⟨c0, c1, c2, c3, c6, c7, c8, fb, ft, fw⟩ := h3.b0; obtain ⟨t0, t1, t2, t3, t4⟩ := h3.ts (set_at _ ht.out); replace h3 := Mr.hid h3))
  (try simp only [Exit.inBlock, Exit.then]); refine bodyPost_ret (results_none rfl _ _ _) rfl ?_
  exact ⟨rfl, OutR.eqv h3.out rfl rfl rfl rfl⟩
set_option maxRecDepth 100000 in
set_option maxHeartbeats 2000000 in
theorem steal_4c (h0 : OutR W0 U0 q s W) (hl : s.lg.length ≤ 100000) (hr1 : 1 ≤ q.r) (hr : q.r ≤ 256) (ht : s.ths[i]? = some ⟨(c : Int), 4, b, tt, v⟩) (hc : s.cls[c]? = some cl) (x : Int) (hx : s.ws[0]? = some x) (hne : x ≠ tt) (ho : 0 ≤ tt ∧ tt ≤ 100000) :
    Calls Tryz.prog 55 #[.pointer (some ⟨q.b, 0, none⟩), .int .i64 (i : Int)] W fun e w' => e = .returned (.tuple #[]) ∧ OutR W0 U0 q { s with ths := s.ths.set i ⟨(c : Int), 1, b, tt, v⟩, lg := s.lg ++ [⟨s.n, i, 3, 0, uw tt, uw (tt + 1), uw x⟩] } w' := by
  have hws : s.ws.length = 2 + q.r := by obtain ⟨_, _, _, hR, _⟩ := h0; exact hR.wn
  have hin : i < q.nt := by obtain ⟨_, _, _, hR, _⟩ := h0; rw [← hR.tn]; exact (List.getElem?_eq_some_iff.1 ht).1
  have hcl : c < s.cls.length := (List.getElem?_eq_some_iff.1 hc).1
  obtain ⟨n1, n2, n3, n4, n5, n6⟩ := h0.neq
  obtain ⟨c0, c1, c2, c3, c6, c7, c8, fb, ft, fw⟩ := h0.b0
  obtain ⟨t0, t1, t2, t3, t4⟩ := h0.ts ht
  replace h0 := Mr.hid h0
  replace hc := Mr.hid hc
  replace ht := Mr.hid ht
  go_enter Tryz.func55, Tryz.ntmps55
  go_wp2_with ((go_at_call 68; have h0p := h0.out; refine (swap_no (s := s) (by exact OutR.eqv h0p rfl rfl rfl rfl) hl hr i x tt hx hne ho).mono ?_; rintro e w1 ⟨rfl, h1⟩; replace h1 : OutR W0 U0 q { s with lg := s.lg ++ [⟨s.n, i, 3, 0, uw tt, uw (tt + 1), uw x⟩] } w1 := (by simpa only [List.set_set] using h1); clear h0 h0p c0 c1 c2 c3 c6 c7 c8 fb ft fw t0 t1 t2 t3 t4; obtain ⟨c0, c1, c2, c3, c6, c7, c8, fb, ft, fw⟩ := h1.b0; obtain ⟨t0, t1, t2, t3, t4⟩ := h1.ts ht.out; replace h1 := Mr.hid h1))
  go_end0
  have h1p := h1.out
  replace h1p := h1p.setT (t' := ⟨(c : Int), 1, b, tt, v⟩) ht.out 1 (by decide) (u := .int .i64 (1)) rfl
  refine ⟨rfl, ?_⟩
  simp only [List.set_set] at h1p
  exact OutR.eqv h1p rfl rfl rfl rfl
end
end Go.Proofs.YtnapnhmmopajfaaGreat.Rd
