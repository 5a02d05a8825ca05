import Derived.Test.YtglppcoohojmpaaJ17
/-
  THE DOCUMENT's MACHINE: a call ends.
-/
namespace Go.Proofs.Ytglppcoohojmpaa.Rf
open Go.RowKit Mr Me Ma
section
variable {W : World} {U : Nat → Prop} {q : Rc} {vc vl vs : Value} {s : Rs} {i : Nat} {t : Rt}
theorem Rm.endB (h : Rm W U q vc vl vs s) (ht : s.ths[i]? = some t) : Rm (W.setCell ⟨q.gt, i * 658, none⟩ (.bool false)) U q vc vl vs (s.put i { t with busy := false }) := by
  have := h.putT ht 0 (by decide) (rt_setBusy t false)
  rw [Nat.add_zero] at this
  exact this
theorem Rm.endC (h : Rm W U q vc vl vs s) (ht : s.ths[i]? = some t) {n gc cc : Nat} {cl : Cl} (hcl : s.cls[n]? = some cl) (hv : vc = .slice (some ⟨gc, 0, none⟩) s.cls.length cc) (hgU : U gc) (d v : Int) :
    Rm ((((W.setCell ⟨gc, n * 9 + 5, none⟩ (.int .i64 s.n)).setCell ⟨gc, n * 9 + 7, none⟩ (.int .i64 d)).setCell ⟨gc, n * 9 + 8, none⟩ (.int .i64 v)).setCell ⟨q.gt, i * 658, none⟩ (.bool false)) U q vc vl vs ((s.put i { t with busy := false }).putC n { cl with fin := s.n, ak := d, av := v }) ∧ Fr W ((((W.setCell ⟨gc, n * 9 + 5, none⟩ (.int .i64 s.n)).setCell ⟨gc, n * 9 + 7, none⟩ (.int .i64 d)).setCell ⟨gc, n * 9 + 8, none⟩ (.int .i64 v)).setCell ⟨q.gt, i * 658, none⟩ (.bool false)) U := by
  have hl := (List.getElem?_eq_some_iff.1 hcl).1
  have h1 := h.putC (x' := { cl with fin := s.n }) hv hcl 5 (by decide) (u := .int .i64 s.n) rfl
  have h2 := h1.putC (x := { cl with fin := s.n }) (x' := { cl with fin := s.n, ak := d }) (gc := gc) (cc := cc) (by simp [hv]) (c := n) (by simp [hl]) 7 (by decide) (u := .int .i64 d) rfl
  have h3 := h2.putC (x := { cl with fin := s.n, ak := d }) (x' := { cl with fin := s.n, ak := d, av := v }) (gc := gc) (cc := cc) (by simp [hv]) (c := n) (by simp [hl]) 8 (by decide) (u := .int .i64 v) rfl
  have h4 := h3.endB (i := i) (t := t) ht
  refine ⟨?_, ((((Fr.refl W U).setCell _ _ (.inl hgU)).setCell _ _ (.inl hgU)).setCell _ _ (.inl hgU)).setCell _ _ (.inl h.gtl.1)⟩
  have e : ((s.cls.set n { cl with fin := s.n }).set n { cl with fin := s.n, ak := d }).set n { cl with fin := s.n, ak := d, av := v } = s.cls.set n { cl with fin := s.n, ak := d, av := v } := by simp
  unfold Rs.putC Rs.put
  rw [← e]
  exact h4
theorem Rm.endD (h : Rm W U q vc vl vs s) (ht : s.ths[i]? = some t) {n gc cc : Nat} {cl : Cl} (hcl : s.cls[n]? = some cl) (hv : vc = .slice (some ⟨gc, 0, none⟩) s.cls.length cc) (hgU : U gc) (d : Int) :
    Rm (((W.setCell ⟨gc, n * 9 + 5, none⟩ (.int .i64 s.n)).setCell ⟨gc, n * 9 + 7, none⟩ (.int .i64 d)).setCell ⟨q.gt, i * 658, none⟩ (.bool false)) U q vc vl vs ((s.put i { t with busy := false }).putC n { cl with fin := s.n, ak := d }) ∧ Fr W (((W.setCell ⟨gc, n * 9 + 5, none⟩ (.int .i64 s.n)).setCell ⟨gc, n * 9 + 7, none⟩ (.int .i64 d)).setCell ⟨q.gt, i * 658, none⟩ (.bool false)) U := by
  have hl := (List.getElem?_eq_some_iff.1 hcl).1
  have h1 := h.putC (x' := { cl with fin := s.n }) hv hcl 5 (by decide) (u := .int .i64 s.n) rfl
  have h2 := h1.putC (x := { cl with fin := s.n }) (x' := { cl with fin := s.n, ak := d }) (gc := gc) (cc := cc) (by simp [hv]) (c := n) (by simp [hl]) 7 (by decide) (u := .int .i64 d) rfl
  have h4 := h2.endB (i := i) (t := t) ht
  refine ⟨?_, (((Fr.refl W U).setCell _ _ (.inl hgU)).setCell _ _ (.inl hgU)).setCell _ _ (.inl h.gtl.1)⟩
  have e : (s.cls.set n { cl with fin := s.n }).set n { cl with fin := s.n, ak := d } = s.cls.set n { cl with fin := s.n, ak := d } := by simp
  unfold Rs.putC Rs.put
  rw [← e]
  exact h4
set_option maxRecDepth 100000 in
set_option maxHeartbeats 2000000 in
theorem end_two (h : Rm W U q vc vl vs s) (ht : s.ths[i]? = some t) (kd : Int) (a : Nat) (ha : a < 48) (b c to : Int)  {n : Nat} {cl : Cl} (hc : t.call = n) (hcl : s.cls[n]? = some cl) :
    Calls Try.prog 68 #[.pointer (some ⟨q.b, 0, none⟩), .int .i64 (i : Int), .agg #[.int .i64 kd, .int .i64 (a : Int), .int .i64 b, .int .i64 c, .int .i64 2, .int .i64 to]] W fun e w' => e = .returned (.tuple #[]) ∧ OutR W U q vs ((s.put i { t with busy := false }).putC n { cl with fin := s.n, ak := 2, av := wrap64 (t.R a) }) w' := by
  obtain ⟨⟨x7, x8, x9, x10, x11⟩, x23, x24, x25, x26⟩ := h.cells
  have l1 := h.lt
  have l2 := h.gtl.2
  have hi : (i : Int) < (q.nt : Int) := by have := h.il ht; omega
  have hn := h.ntl ht
  have t0 := h.tcell ht 0 (by decide) (rt_busy t)
  rw [Nat.add_zero] at t0
  have t1 := h.tcell ht 1 (by decide) (rt_call t)
  have f2 := h.tfrz
  have ngb := h.gtb
  have ngb' := ngb.symm
  have hnl := (List.getElem?_eq_some_iff.1 hcl).1
  obtain ⟨gc, cc, hvc, hgU, hgl, hcn, hcx, ngc, ngd⟩ := h.cthere hcl
  have ngc' := ngc.symm
  have ngd' := ngd.symm
  have x24' := x24
  rw [hvc] at x24
  clear x24'
  rw [hc] at t1
  have hni : (n : Int) < (s.cls.length : Int) := by omega
  have k5 := h.ccell hcl hvc 5 (by decide) (u := .int .i64 cl.fin) rfl
  have k7 := h.ccell hcl hvc 7 (by decide) (u := .int .i64 cl.ak) rfl
  have k8 := h.ccell hcl hvc 8 (by decide) (u := .int .i64 cl.av) rfl
  have f6 := h.cfrz hvc
  have hai : (a : Int) < 48 := by omega
  have rA := h.reg ht a ha
  have FN := fun w' => outs (w' := w') (h.endC ht hcl hvc hgU 2 (wrap64 (t.R a)))
  clear hcl hvc
  replace FN := Mr.hid FN
  replace ht := Mr.hid ht
  replace h := Mr.hid h
  go_enter Try.func68, Try.ntmps68
  go_wp2
  go_region
  all_goals go_wp2
  all_goals go_region
  all_goals go_wp2
  all_goals go_end0
  all_goals exact ⟨rfl, FN.out _ (by first | exact ((Below.refl _ _).alloc (Nat.le_refl _) _).drew.drew | exact ((Below.refl _ _).alloc (Nat.le_refl _) _).drew | exact (Below.refl _ _).alloc (Nat.le_refl _) _)⟩
set_option maxRecDepth 100000 in
set_option maxHeartbeats 2000000 in
theorem end_one (h : Rm W U q vc vl vs s) (ht : s.ths[i]? = some t) (kd : Int) (a : Nat) (ha : a < 48) (b c to : Int) (d : Int) (hd : d ≠ 2) {n : Nat} {cl : Cl} (hc : t.call = n) (hcl : s.cls[n]? = some cl) :
    Calls Try.prog 68 #[.pointer (some ⟨q.b, 0, none⟩), .int .i64 (i : Int), .agg #[.int .i64 kd, .int .i64 (a : Int), .int .i64 b, .int .i64 c, .int .i64 d, .int .i64 to]] W fun e w' => e = .returned (.tuple #[]) ∧ OutR W U q vs ((s.put i { t with busy := false }).putC n { cl with fin := s.n, ak := d }) w' := by
  obtain ⟨⟨x7, x8, x9, x10, x11⟩, x23, x24, x25, x26⟩ := h.cells
  have l1 := h.lt
  have l2 := h.gtl.2
  have hi : (i : Int) < (q.nt : Int) := by have := h.il ht; omega
  have hn := h.ntl ht
  have t0 := h.tcell ht 0 (by decide) (rt_busy t)
  rw [Nat.add_zero] at t0
  have t1 := h.tcell ht 1 (by decide) (rt_call t)
  have f2 := h.tfrz
  have ngb := h.gtb
  have ngb' := ngb.symm
  have hnl := (List.getElem?_eq_some_iff.1 hcl).1
  obtain ⟨gc, cc, hvc, hgU, hgl, hcn, hcx, ngc, ngd⟩ := h.cthere hcl
  have ngc' := ngc.symm
  have ngd' := ngd.symm
  have x24' := x24
  rw [hvc] at x24
  clear x24'
  rw [hc] at t1
  have hni : (n : Int) < (s.cls.length : Int) := by omega
  have k5 := h.ccell hcl hvc 5 (by decide) (u := .int .i64 cl.fin) rfl
  have k7 := h.ccell hcl hvc 7 (by decide) (u := .int .i64 cl.ak) rfl
  have k8 := h.ccell hcl hvc 8 (by decide) (u := .int .i64 cl.av) rfl
  have f6 := h.cfrz hvc
  have hai : (a : Int) < 48 := by omega
  have rA := h.reg ht a ha
  have FN := fun w' => outs (w' := w') (h.endD ht hcl hvc hgU d)
  clear hcl hvc
  replace FN := Mr.hid FN
  replace ht := Mr.hid ht
  replace h := Mr.hid h
  have bd : (d == 2) = false := by simpa using hd
  go_enter Try.func68, Try.ntmps68
  go_wp2
  go_region
  all_goals go_wp2
  all_goals go_end0
  all_goals exact ⟨rfl, FN.out _ (by first | exact ((Below.refl _ _).alloc (Nat.le_refl _) _).drew | exact (Below.refl _ _).alloc (Nat.le_refl _) _)⟩
end
end Go.Proofs.Ytglppcoohojmpaa.Rf
/-
  THE DOCUMENT's MACHINE: the instruction that ends a call.
-/
namespace Go.Proofs.Ytglppcoohojmpaa.Rf
open Go.RowKit Mr Me Ma
section
variable {W : World} {U : Nat → Prop} {q : Rc} {vc vl vs : Value} {s : Rs} {i : Nat} {t : Rt}
set_option maxRecDepth 100000 in
set_option maxHeartbeats 2000000 in
theorem local_end2 (h : Rm W U q vc vl vs s) (ht : s.ths[i]? = some t) (hp : 0 ≤ t.pc ∧ t.pc < 1000) (a : Nat) (ha : a < 48) (b c to : Int) {n : Nat} {cl : Cl} (hc : t.call = n) (hcl : s.cls[n]? = some cl) :
    Calls Try.prog 64 #[.pointer (some ⟨q.b, 0, none⟩), .int .i64 (i : Int), .agg #[.int .i64 14, .int .i64 (a : Int), .int .i64 b, .int .i64 c, .int .i64 2, .int .i64 to]] W fun e w' => e = .returned (.tuple #[]) ∧ OutR W U q vs ((s.put i { t with pc := t.pc + 1, busy := false }).putC n { cl with fin := s.n, ak := 2, av := wrap64 (t.R a) }) w' := by
  obtain ⟨⟨x7, x8, x9, x10, x11⟩, x23, x24, x25, x26⟩ := h.cells
  have l1 := h.lt
  have l2 := h.gtl.2
  have hi : (i : Int) < (q.nt : Int) := by have := h.il ht; omega
  have hn := h.ntl ht
  have t1 := h.tcell ht 1 (by decide) (rt_call t)
  have t2 := h.tcell ht 2 (by decide) (rt_pc t)
  have f2 := h.tfrz
  have hw : wrap64 (t.pc + 1) = t.pc + 1 := wrap64_sm _ (by omega) (by omega)
  have ngb := h.gtb
  have ngb' := ngb.symm
  have h1 := h.pcP ht (t.pc + 1)
  have EN := fun o => end_two (h1.1.below ((Below.refl _ _).alloc (Nat.le_refl _) o)) (put_get s ht _) 14 a ha b c to hc hcl
  simp only [put_put] at EN
  have FN := fun (o : Obj) (w' : World) (hO : OutR ((W.setCell ⟨q.gt, i * 658 + 2, none⟩ (.int .i64 (t.pc + 1))).alloc o) U q vs ((s.put i { t with pc := t.pc + 1, busy := false }).putC n { cl with fin := s.n, ak := 2, av := wrap64 (t.R a) }) w') => OutR.trans (fun _ h => h) (fun _ h => .inl h) (h1.2.alloc o) hO
  replace EN := Mr.hid EN
  clear h1 hcl
  replace FN := Mr.hid FN
  replace ht := Mr.hid ht
  replace h := Mr.hid h
  go_enter Try.func64, Try.ntmps64
  go_wp2_with (go_at_call 68; refine (EN.out _).mono ?_; clear EN; rintro e w' ⟨rfl, hO⟩; have F9 := FN.out _ w' hO; clear FN hO; replace F9 := Mr.hid F9)
  go_end0
  exact ⟨rfl, F9.out⟩
set_option maxRecDepth 100000 in
set_option maxHeartbeats 2000000 in
theorem local_end1 (h : Rm W U q vc vl vs s) (ht : s.ths[i]? = some t) (hp : 0 ≤ t.pc ∧ t.pc < 1000) (a : Nat) (ha : a < 48) (b c to : Int) (d : Int) (hd : d ≠ 2) {n : Nat} {cl : Cl} (hc : t.call = n) (hcl : s.cls[n]? = some cl) :
    Calls Try.prog 64 #[.pointer (some ⟨q.b, 0, none⟩), .int .i64 (i : Int), .agg #[.int .i64 14, .int .i64 (a : Int), .int .i64 b, .int .i64 c, .int .i64 d, .int .i64 to]] W fun e w' => e = .returned (.tuple #[]) ∧ OutR W U q vs ((s.put i { t with pc := t.pc + 1, busy := false }).putC n { cl with fin := s.n, ak := d }) w' := by
  obtain ⟨⟨x7, x8, x9, x10, x11⟩, x23, x24, x25, x26⟩ := h.cells
  have l1 := h.lt
  have l2 := h.gtl.2
  have hi : (i : Int) < (q.nt : Int) := by have := h.il ht; omega
  have hn := h.ntl ht
  have t1 := h.tcell ht 1 (by decide) (rt_call t)
  have t2 := h.tcell ht 2 (by decide) (rt_pc t)
  have f2 := h.tfrz
  have hw : wrap64 (t.pc + 1) = t.pc + 1 := wrap64_sm _ (by omega) (by omega)
  have ngb := h.gtb
  have ngb' := ngb.symm
  have h1 := h.pcP ht (t.pc + 1)
  have EN := fun o => end_one (h1.1.below ((Below.refl _ _).alloc (Nat.le_refl _) o)) (put_get s ht _) 14 a ha b c to d hd hc hcl
  simp only [put_put] at EN
  have FN := fun (o : Obj) (w' : World) (hO : OutR ((W.setCell ⟨q.gt, i * 658 + 2, none⟩ (.int .i64 (t.pc + 1))).alloc o) U q vs ((s.put i { t with pc := t.pc + 1, busy := false }).putC n { cl with fin := s.n, ak := d }) w') => OutR.trans (fun _ h => h) (fun _ h => .inl h) (h1.2.alloc o) hO
  replace EN := Mr.hid EN
  clear h1 hcl
  replace FN := Mr.hid FN
  replace ht := Mr.hid ht
  replace h := Mr.hid h
  go_enter Try.func64, Try.ntmps64
  go_wp2_with (go_at_call 68; refine (EN.out _).mono ?_; clear EN; rintro e w' ⟨rfl, hO⟩; have F9 := FN.out _ w' hO; clear FN hO; replace F9 := Mr.hid F9)
  go_end0
  exact ⟨rfl, F9.out⟩
end
end Go.Proofs.Ytglppcoohojmpaa.Rf
