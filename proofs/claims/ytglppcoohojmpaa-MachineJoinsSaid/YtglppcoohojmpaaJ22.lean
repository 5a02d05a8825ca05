import Derived.Test.YtglppcoohojmpaaJ21
/-
  THE DOCUMENT's MACHINE: a move.
-/
namespace Go.Proofs.Ytglppcoohojmpaa.Rf
open Go.RowKit Mr Me Ma
def mvB (i : Nat) (op arg data : Int) : Obj := .cells #[.int .i64 (i : Int), .int .i64 op, .int .i64 arg, .int .i64 data] 46
/-- What becomes of a call that is asked for. -/
def Rs.beg (s : Rs) (i : Nat) (t : Rt) (op arg data : Int) (labf : En → Int) (f : Option En) : Bool × Rs := match f with
  | none => (false, s)
  | some x => (true, { s.put i (t.begun s.cls.length (labf x)) with cls := s.cls ++ [⟨i, op, arg, data, s.n, -1, -1, 0, 0⟩] })
section
variable {W : World} {U : Nat → Prop} {q : Rc} {vc vl vs : Value} {s : Rs} {i : Nat} {t : Rt}
theorem OutR.below {w' : World} (h : Rm W U q vc vl vs s) (hB : Below W.heap.size W w') : OutR W U q vs s w' := OutR.of (h.below hB) (Fr.of_below hB)
set_option maxRecDepth 100000 in
set_option maxHeartbeats 4000000 in
theorem move_out (h : Rm W U q vc vl vs s) (th op arg data : Int) (ho : th < 0 ∨ (q.nt : Int) ≤ th) :
    Calls Try.prog 40 #[.pointer (some ⟨q.b, 0, none⟩), .agg #[.int .i64 th, .int .i64 op, .int .i64 arg, .int .i64 data]] W fun e w' => e = .returned (.bool false) ∧ OutR W U q vs s w' := by
  obtain ⟨⟨x7, x8, x9, x10, x11⟩, _⟩ := h.cells
  have l1 := h.lt
  have FN := fun nq => OutR.below h (drawn ((Below.refl W.heap.size W).alloc (Nat.le_refl _) (.cells #[.int .i64 th, .int .i64 op, .int .i64 arg, .int .i64 data] 46)) nq)
  replace FN := Mr.hid FN
  replace h := Mr.hid h
  by_cases h0 : th < 0
  · have d0 : decide (th < 0) = true := decide_eq_true h0
    clear ho h0
    go_enter Try.func40, Try.ntmps40
    go_wp2
    go_quiet (fail)
    go_wp2
    go_ret
    exact ⟨rfl, FN.out _⟩
  · have d0 : decide (th < 0) = false := decide_eq_false h0
    have d1 : decide ((q.nt : Int) ≤ th) = true := decide_eq_true (by omega)
    clear ho h0
    go_enter Try.func40, Try.ntmps40
    go_wp2
    go_quiet (fail)
    go_wp2
    go_ret
    exact ⟨rfl, FN.out _⟩
set_option maxRecDepth 100000 in
set_option maxHeartbeats 4000000 in
/-- A step, or none. -/
theorem move_step (h : Rm W U q vc vl vs s) (ht : s.ths[i]? = some t) (arg data : Int) {k : Nat} {s' : Rs} (E : t.busy = true → Exe q vs i k false s s') :
    Calls Try.prog 40 #[.pointer (some ⟨q.b, 0, none⟩), .agg #[.int .i64 (i : Int), .int .i64 0, .int .i64 arg, .int .i64 data]] W fun e w' => e = .returned (.bool t.busy) ∧ OutR W U q vs (if t.busy = true then s' else s) w' := by
  obtain ⟨⟨x7, x8, x9, x10, x11⟩, _⟩ := h.cells
  have l1 := h.lt
  have l2 := h.gtl.2
  have hi : (i : Int) < (q.nt : Int) := by have := h.il ht; omega
  have hil := h.il ht
  have hn := h.ntl ht
  have t0 := h.tcell ht 0 (by decide) (rt_busy t)
  rw [Nat.add_zero] at t0
  have d0 : decide ((i : Int) < 0) = false := by simp
  have d1 : decide ((q.nt : Int) ≤ (i : Int)) = false := decide_eq_false (by omega)
  have BL := fun nq => drawn ((Below.refl W.heap.size W).alloc (Nat.le_refl _) (.cells #[.int .i64 (i : Int), .int .i64 0, .int .i64 arg, .int .i64 data] 46)) nq
  have FN := fun (w4 : World) (hB : Below W.heap.size W w4) => OutR.below h hB
  cases hb : t.busy with
  | false =>
    rw [hb] at t0
    simp only [Bool.false_eq_true, if_false]
    replace FN := Mr.hid FN
    replace BL := Mr.hid BL
    replace h := Mr.hid h
    clear E hb ht
    go_enter Try.func40, Try.ntmps40
    go_wp2
    go_quiet (fail)
    go_wp2
    go_region
    go_wp2
    go_ret
    exact ⟨rfl, FN.out _ (by first | exact (BL.out _).drew | exact BL.out _)⟩
  | true =>
    rw [hb] at t0
    simp only [if_true]
    have ST := fun (w4 : World) (hB : Below W.heap.size W w4) => step_any (h.below hB) (E hb) hil
    have F5 := fun (w4 w5 : World) (hB : Below W.heap.size W w4) (hO : OutR w4 U q vs s' w5) => OutR.trans (fun _ h => h) (fun _ h => .inl h) (Fr.of_below hB) hO
    replace ST := Mr.hid ST
    replace F5 := Mr.hid F5
    replace BL := Mr.hid BL
    replace h := Mr.hid h
    clear E hb ht FN
    go_enter Try.func40, Try.ntmps40
    go_wp2
    go_quiet (fail)
    go_wp2
    go_region
    go_wp2_with (go_at_call 53; refine (ST.out _ (by first | exact (BL.out _).drew | exact BL.out _)).mono ?_; clear ST; rintro e w5 ⟨rfl, hO⟩; have F9 := F5.out _ w5 (by first | exact (BL.out _).drew | exact BL.out _) hO; clear F5 hO; replace F9 := Mr.hid F9)
    go_ret
    exact ⟨rfl, F9.out⟩
set_option maxRecDepth 100000 in
set_option maxHeartbeats 4000000 in
theorem move_busy (h : Rm W U q vc vl vs s) (ht : s.ths[i]? = some t) (hb : t.busy = true) (op arg data : Int) (hop : op ≠ 0) :
    Calls Try.prog 40 #[.pointer (some ⟨q.b, 0, none⟩), .agg #[.int .i64 (i : Int), .int .i64 op, .int .i64 arg, .int .i64 data]] W fun e w' => e = .returned (.bool false) ∧ OutR W U q vs s w' := by
  obtain ⟨⟨x7, x8, x9, x10, x11⟩, _⟩ := h.cells
  have l1 := h.lt
  have l2 := h.gtl.2
  have hi : (i : Int) < (q.nt : Int) := by have := h.il ht; omega
  have hn := h.ntl ht
  have t0 := h.tcell ht 0 (by decide) (rt_busy t)
  rw [Nat.add_zero, hb] at t0
  have d0 : decide ((i : Int) < 0) = false := by simp
  have d1 : decide ((q.nt : Int) ≤ (i : Int)) = false := decide_eq_false (by omega)
  have bo : (op == 0) = false := by simpa using hop
  have BL := fun nq => drawn ((Below.refl W.heap.size W).alloc (Nat.le_refl _) (.cells #[.int .i64 (i : Int), .int .i64 op, .int .i64 arg, .int .i64 data] 46)) nq
  have FN := fun (w4 : World) (hB : Below W.heap.size W w4) => OutR.below h hB
  replace FN := Mr.hid FN
  replace BL := Mr.hid BL
  replace h := Mr.hid h
  clear hb ht hop
  go_enter Try.func40, Try.ntmps40
  go_wp2
  go_quiet (fail)
  go_wp2
  go_region
  go_wp2
  go_ret
  exact ⟨rfl, FN.out _ (by first | exact (BL.out _).drew | exact BL.out _)⟩
set_option maxRecDepth 100000 in
set_option maxHeartbeats 4000000 in
/-- A call is asked for. -/
theorem move_new (h : Rm W U q vc vl vs s) (ht : s.ths[i]? = some t) (hb : t.busy = false) (op arg data : Int) (hop : op ≠ 0) (hl : s.cls.length ≤ 100000) (mp : En → Bool) (labf : En → Int)
    (hmay : ∀ e ∈ q.ens, ∀ (W : World) (U : Nat → Prop) (vc vl : Value), Rm W U q vc vl vs s → Calls Try.prog 54 #[.pointer (some ⟨q.b, 0, none⟩), .agg #[.int .i64 (i : Int), .int .i64 op, .int .i64 arg, .int .i64 data], .int .i64 e.nd] W fun r w' => r = .returned (.bool (mp e)) ∧ Below W.heap.size W w')
    (hlab : ∀ e ∈ q.ens, ∃ l : Nat, e.lb = l ∧ q.labs[l]? = some (labf e)) :
    Calls Try.prog 40 #[.pointer (some ⟨q.b, 0, none⟩), .agg #[.int .i64 (i : Int), .int .i64 op, .int .i64 arg, .int .i64 data]] W fun e w' => e = .returned (.bool (s.beg i t op arg data labf (q.ens.find? (fun x => (x.op == op) && mp x))).1) ∧ OutR W U q vs (s.beg i t op arg data labf (q.ens.find? (fun x => (x.op == op) && mp x))).2 w' := by
  obtain ⟨⟨x7, x8, x9, x10, x11⟩, _⟩ := h.cells
  have l1 := h.lt
  have l2 := h.gtl.2
  have hi : (i : Int) < (q.nt : Int) := by have := h.il ht; omega
  have hn := h.ntl ht
  have t0 := h.tcell ht 0 (by decide) (rt_busy t)
  rw [Nat.add_zero, hb] at t0
  have d0 : decide ((i : Int) < 0) = false := by simp
  have d1 : decide ((q.nt : Int) ≤ (i : Int)) = false := decide_eq_false (by omega)
  have d1' : decide (q.nt ≤ i) = false := decide_eq_false (by omega)
  have bo : (op == 0) = false := by simpa using hop
  obtain ⟨ae, ce, hve, hce⟩ := h.en.form
  rw [hve] at x10
  have BL := fun nq => drawn ((Below.refl W.heap.size W).alloc (Nat.le_refl _) (.cells #[.int .i64 (i : Int), .int .i64 op, .int .i64 arg, .int .i64 data] 46)) nq
  have BB : ∀ nq, (((W.alloc (.cells #[.int .i64 (i : Int), .int .i64 op, .int .i64 arg, .int .i64 data] 46)).drewN nq).drew).heap[W.heap.size]? = some (.cells #[.int .i64 (i : Int), .int .i64 op, .int .i64 arg, .int .i64 data] 46 (0, 0)) := fun nq => heap_alloc_new W _
  have hlen : q.ens.length ≤ 9223372036854775807 := by
    by_cases e0 : q.ens.length = 0
    · omega
    · obtain ⟨_, _, e, _, _, _, hq⟩ := h.en.there (by omega)
      unfold maxLen at hq
      have := hce
      rw [hve] at e
      injection e with e1 e2 e3
      omega
  replace BL := Mr.hid BL
  replace BB := Mr.hid BB
  replace h := Mr.hid h
  replace ht := Mr.hid ht
  replace hmay := Mr.hid hmay
  replace hlab := Mr.hid hlab
  replace hve := Mr.hid hve
  clear hb hop
  go_enter Try.func40, Try.ntmps40
  go_wp2
  go_quiet (fail)
  go_wp2
  go_region
  go_wp2
  go_loopg [48] q.ens.length (fun k z wy => ∃ j : Nat, z = .int .i64 (j : Int) ∧ j + k = q.ens.length ∧ (∀ (p : Nat) (x : En), p < j → q.ens[p]? = some x → ((x.op == op) && mp x) = false) ∧ Below W.heap.size W wy ∧ wy.heap[W.heap.size]? = some (.cells #[.int .i64 (i : Int), .int .i64 op, .int .i64 arg, .int .i64 data] 46 (0, 0)))
  case atStart => exact ⟨0, rfl, by omega, fun p x hp => by omega, (BL.out _).drew, BB.out _⟩
  case round =>
    obtain ⟨j, rfl, hjk, hno, hBy, hbx⟩ := hrel
    clear BL BB
    by_cases hj : j < q.ens.length
    · obtain ⟨x, hx⟩ : ∃ x, q.ens[j]? = some x := ⟨_, List.getElem?_eq_getElem hj⟩
      have hm := List.mem_of_getElem? hx
      obtain ⟨l, hlb, hll⟩ := hlab.out x hm
      have hq := h.out.below hBy
      obtain ⟨ge, ce', hve', _, hgl, _, hcx⟩ := hq.en.there (by omega)
      have hae : ae = some ⟨ge, 0, none⟩ := by
        have e := hve.out
        rw [hve'] at e
        injection e with e1 e2 e3
        exact e1.symm
      subst hae
      have cE : ∀ (p : Nat) (u : Value), p < 3 → x.cells[p]? = some u → wr.cell? ⟨ge, j * 3 + p, none⟩ = some u := fun p u hp hu => hq.en.cells (g := ge) (by rw [hve']; rfl) _ _ (by rw [flat_get en_len _ _ _ x hx hp]; exact hu)
      have e0 := cE 0 _ (by decide) rfl
      rw [Nat.add_zero] at e0
      have e1 := cE 1 _ (by decide) rfl
      have e2 := cE 2 _ (by decide) rfl
      rw [hlb] at e1
      have m : wr.cell? ⟨W.heap.size, 0, none⟩ = some (.int .i64 (i : Int)) ∧ wr.cell? ⟨W.heap.size, 1, none⟩ = some (.int .i64 op) ∧ wr.cell? ⟨W.heap.size, 2, none⟩ = some (.int .i64 arg) ∧ wr.cell? ⟨W.heap.size, 3, none⟩ = some (.int .i64 data) := by simp [World.cell?, hbx]
      obtain ⟨m0, m1, m2, m3⟩ := m
      have lw : W.heap.size < wr.heap.size := (Array.getElem?_eq_some_iff.1 hbx).1
      have dj : decide ((j : Int) < (q.ens.length : Int)) = true := decide_eq_true (by omega)
      have hji : (j : Int) < (q.ens.length : Int) := by omega
      have MY := fun (o : Obj) => hmay.out x hm (wr.alloc o) U vc vl (hq.below ((Below.refl _ _).alloc (Nat.le_refl _) o))
      have BN := fun (o : Obj) (w5 : World) (hB : Below (wr.alloc o).heap.size (wr.alloc o) w5) => (show Below W.heap.size W w5 ∧ w5.heap[W.heap.size]? = some (.cells #[.int .i64 (i : Int), .int .i64 op, .int .i64 arg, .int .i64 data] 46 (0, 0)) ∧ w5.heap[wr.heap.size]? = some o from by
        have hBa : Below wr.heap.size wr (wr.alloc o) := (Below.refl _ _).alloc (Nat.le_refl _) o
        have hBw : Below wr.heap.size wr w5 := hBa.trans (hB.mono (by simp))
        exact ⟨hBy.trans (hBw.mono hBy.size), (hBw.block _ lw).trans hbx, (hB.block _ (by simp)).trans (heap_alloc_new wr o)⟩)
      have B0 := fun (o : Obj) => BN o (wr.alloc o) (Below.refl _ _)
      have nx : ((x.op == op) && mp x) = false → ∀ (p : Nat) (x' : En), p < j + 1 → q.ens[p]? = some x' → ((x'.op == op) && mp x') = false := fun hf p x' hp hx' => by
        by_cases e : p = j
        · subst e
          rw [hx] at hx'
          cases hx'
          exact hf
        · exact hno p x' (by omega) hx'
      have hnU : ¬ U W.heap.size ∧ ¬ U wr.heap.size := ⟨fun hu => by have := h.out.ul _ hu; omega, fun hu => by have := h.out.ul _ hu; omega⟩
      have hfd : ((x.op == op) && mp x) = true → q.ens.find? (fun x => (x.op == op) && mp x) = some x := fun hf => by
        rw [List.find?_eq_some_iff_getElem]
        refine ⟨hf, j, hj, (List.getElem?_eq_some_iff.1 hx).2, fun p hp => ?_⟩
        have := hno p _ hp (List.getElem?_eq_getElem (by omega))
        simp [this]
      replace hno := Mr.hid hno
      replace hBy := Mr.hid hBy
      replace hbx := Mr.hid hbx
      replace hq := Mr.hid hq
      replace MY := Mr.hid MY
      replace BN := Mr.hid BN
      replace B0 := Mr.hid B0
      replace nx := Mr.hid nx
      replace hfd := Mr.hid hfd
      replace hll := Mr.hid hll
      replace hve' := Mr.hid hve'
      replace hlb := Mr.hid hlb
      replace hcx : ce' ≤ 9223372036854775807 := by unfold maxLen at hcx; omega
      clear cE hx hm
      cases b1 : (x.op == op) with
      | false =>
        have nx' := Mr.hid (nx.out (by rw [b1]; rfl))
        clear nx hfd MY
        go_wp2
        go_roundg (gk - 1)
        case measure => omega
        case rel => exact ⟨j + 1, by simp, by omega, nx'.out, (B0.out _).1, (B0.out _).2.1⟩
      | true =>
        cases b2 : mp x with
        | false =>
          have nx' := Mr.hid (nx.out (by rw [b1, b2]; rfl))
          rw [b2] at MY
          replace b2 := Mr.hid b2
          clear nx hfd
          go_wp2_with (go_at_call 54; refine (MY.out _).mono ?_; clear MY; rintro e w5 ⟨rfl, hB5⟩; have F9 := BN.out _ w5 hB5; clear BN hB5; replace F9 := Mr.hid F9)
          go_roundg (gk - 1)
          case measure => omega
          case rel => exact ⟨j + 1, by simp, by omega, nx'.out, F9.out.1, F9.out.2.1⟩
        | true =>
          have hf := hfd.out (by rw [b1, b2]; rfl)
          replace hf := Mr.hid hf
          rw [b2] at MY
          replace b2 := Mr.hid b2
          clear nx hfd
          go_upto_if 63 with (go_at_call 54; refine (MY.out _).mono ?_; clear MY; rintro e w5 ⟨rfl, hB5⟩; have F9 := BN.out _ w5 hB5; clear BN hB5; replace F9 := Mr.hid F9)
          go_step
          refine wp_mono (begin_one (W0 := W) (R := fun tm w' => tm[4]? = some (.bool true) ∧ OutR W U q vs (s.beg i t op arg data labf (some x)).2 w') (h.out.below F9.out.1) ht.out (Fr.of_below F9.out.1) F9.out.2.1 hnU.1 F9.out.2.2 hnU.2 hll.out hl (fun tm w' h1 h2 => ⟨h1, h2⟩)) ?_
          intro e a' w' hq'
          cases e with
          | ret =>
            obtain ⟨⟨r1, r2⟩, r3⟩ := hq'
            simp only [Exit.inBlock, Exit.then]
            refine bodyPost_ret (results_tmp rfl _ _ _) r3 ?_
            rw [hf.out]
            refine ⟨?_, r2⟩
            have e : a'.tmps.getD 4 undef = .bool true := by rw [Array.getD_eq_getD_getElem?, r1]; rfl
            rw [e]
            rfl
          | normal => exact hq'.elim
          | exit id => exact hq'.elim
          | goto l => exact hq'.elim
          | panic ch => exact hq'.elim
          | outgrown => exact hq'.elim
    · obtain rfl : j = q.ens.length := by omega
      have hf : q.ens.find? (fun x => (x.op == op) && mp x) = none := by
        rw [List.find?_eq_none]
        intro x hx
        obtain ⟨p, hp, rfl⟩ := List.mem_iff_getElem.1 hx
        have := hno p _ hp (List.getElem?_eq_getElem hp)
        simp [this]
      have F9 := Mr.hid (OutR.below h.out hBy)
      have d2 : decide ((q.ens.length : Int) < (q.ens.length : Int)) = false := by simp
      replace hno := Mr.hid hno
      replace hBy := Mr.hid hBy
      go_wp2
      go_ret
      rw [hf]
      exact ⟨rfl, F9.out⟩
end
end Go.Proofs.Ytglppcoohojmpaa.Rf
/-
  THE DOCUMENT's MACHINE: Move.
-/
namespace Go.Proofs.Ytglppcoohojmpaa.Rf
open Go.RowKit Mr Me Ma
section
variable {W : World} {U : Nat → Prop} {q : Rc} {vc vl vs : Value} {s : Rs} {i : Nat} {t : Rt}
theorem Rm.setN (h : Rm W U q vc vl vs s) (n : Int) : Rm (W.setCell ⟨q.b, 23, none⟩ (.int .i64 n)) U q vc vl vs { s with n := n } ∧ Fr W (W.setCell ⟨q.b, 23, none⟩ (.int .i64 n)) U := by
  have f : ∀ {e sz m : Nat} {v : Value} {xs : List Value}, Has W U e sz v m xs → e ≠ 73 → Has (W.setCell ⟨q.b, 23, none⟩ (.int .i64 n)) U e sz v m xs := fun hv hne => hv.setCell _ _ (not_row h.bx hv (fun e => hne e.symm))
  refine ⟨⟨?_, f h.wd (by decide), f h.cd (by decide), f h.lb (by decide), f h.en (by decide), f h.th (by decide), h.tn, f h.cl (by decide), f h.lg (by decide), h.ub, fun k hk => by simpa [World.setCell] using h.ul k hk⟩, (Fr.refl W U).setCell _ _ (.inl h.ub)⟩
  have h0 := h.bx
  unfold Rc.box at h0 ⊢
  rw [setBlk h0]
  rfl
set_option maxRecDepth 100000 in
set_option maxHeartbeats 4000000 in
theorem Move_full (h : Rm W U q vc vl vs s) (hn : 65536 ≤ s.n) (th op arg data : Int) :
    Calls Try.prog 15 #[.pointer (some ⟨q.b, 0, none⟩), .agg #[.int .i64 th, .int .i64 op, .int .i64 arg, .int .i64 data]] W fun e w' => e = .returned (.bool false) ∧ OutR W U q vs s w' := by
  obtain ⟨_, x23, _⟩ := h.cells
  have l1 := h.lt
  have d0 : decide (65536 ≤ s.n) = true := decide_eq_true hn
  have FN := OutR.below h ((Below.refl W.heap.size W).alloc (Nat.le_refl _) (.cells #[.int .i64 th, .int .i64 op, .int .i64 arg, .int .i64 data] 46))
  replace FN := Mr.hid FN
  replace h := Mr.hid h
  clear hn
  go_enter Try.func15, Try.ntmps15
  go_wp2
  go_ret
  exact ⟨rfl, FN.out⟩
set_option maxRecDepth 100000 in
set_option maxHeartbeats 4000000 in
theorem Move_of (h : Rm W U q vc vl vs s) (hn : 0 ≤ s.n ∧ s.n < 65536) (th op arg data : Int) {r : Bool} {s1 : Rs} (h1 : s1.n = s.n)
    (MV : ∀ (W : World) (U : Nat → Prop) (vc vl : Value), Rm W U q vc vl vs s → Calls Try.prog 40 #[.pointer (some ⟨q.b, 0, none⟩), .agg #[.int .i64 th, .int .i64 op, .int .i64 arg, .int .i64 data]] W fun e w' => e = .returned (.bool r) ∧ OutR W U q vs s1 w') :
    Calls Try.prog 15 #[.pointer (some ⟨q.b, 0, none⟩), .agg #[.int .i64 th, .int .i64 op, .int .i64 arg, .int .i64 data]] W fun e w' => e = .returned (.bool r) ∧ OutR W U q vs { s1 with n := s.n + 1 } w' := by
  obtain ⟨_, x23, _⟩ := h.cells
  have l1 := h.lt
  have d0 : decide (65536 ≤ s.n) = false := decide_eq_false (by omega)
  have hw : wrap64 (s.n + 1) = s.n + 1 := wrap64_sm _ (by omega) (by omega)
  have MW := fun (o : Obj) => MV (W.alloc o) U vc vl (h.below ((Below.refl _ _).alloc (Nat.le_refl _) o))
  have FN := fun (o : Obj) (w5 : World) (hO : OutR (W.alloc o) U q vs s1 w5) => (show w5.cell? ⟨q.b, 23, none⟩ = some (.int .i64 s.n) ∧ w5.frozen? ⟨q.b, 23, none⟩ = false ∧ OutR W U q vs { s1 with n := s.n + 1 } (w5.setCell ⟨q.b, 23, none⟩ (.int .i64 (s.n + 1))) from by
    obtain ⟨U1, vc1, vl1, m1, o1, o2, o3⟩ := hO
    obtain ⟨_, k23, _⟩ := m1.cells
    rw [h1] at k23
    refine ⟨k23, m1.frz 23, ?_⟩
    obtain ⟨m2, m3⟩ := m1.setN (s.n + 1)
    have hF : Fr W (W.alloc o) U := (Fr.refl W U).alloc o
    have hs : W.heap.size ≤ (W.alloc o).heap.size := hF.size
    refine ⟨U1, vc1, vl1, m2, o1, fun k hk => ?_, (hF.trans (o3.mono (fun _ hk => .inl hk))).trans (m3.mono (fun k hk => ?_))⟩
    · rcases o2 k hk with e | e
      · exact .inl e
      · exact .inr (by omega)
    · rcases o2 k hk with e | e
      · exact .inl e
      · exact .inr (by omega))
  replace MW := Mr.hid MW
  replace FN := Mr.hid FN
  replace h := Mr.hid h
  clear MV h1
  go_enter Try.func15, Try.ntmps15
  go_wp2_with (go_at_call 40; refine (MW.out _).mono ?_; clear MW; rintro e w5 ⟨rfl, hO⟩; obtain ⟨f1, f2, f3⟩ := FN.out _ w5 hO; clear FN hO; replace f3 := Mr.hid f3)
  go_ret
  exact ⟨rfl, f3.out⟩
end
end Go.Proofs.Ytglppcoohojmpaa.Rf
