import Derived.Test.YtmejblmeaipahaaDoorJ25
/-
  TSO: the document's Turn.
-/
namespace Go.Proofs.YtmejblmeaipahaaDoor.Ts
open Go.RowKit Mr
set_option linter.unusedVariables false
set_option linter.unusedSimpArgs false
set_option maxRecDepth 100000
set_option maxHeartbeats 16000000 in
theorem rturn_1 (l : Lt) (s : Sv) (o : Int) (B : Nat) (G : Gs) (aw ah : Option Addr) (nw cw nt ct tk : Nat) (ad0 : Int) (r : Rg) (pc : Nat) (b : List Pd) (w0 w : World) (c : List In) (a : Option Addr) (n k ga qa : Nat) (h : Dp l s o B G ah nw nt tk r pc b w0 w c a n k ga qa) (vl fr ol ct0 : Int) (rn an : Nat) (hi : c[pc]? = some ⟨1, (rn : Int), (an : Int), vl, fr, ol, ct0⟩) (hrn : rn < 4) (han : an < nw) (v : Int) (hv : s.ws[an]? = some v) :
    Calls Tryd.prog 20 #[.agg #[.slice aw nw cw, .slice ah nt ct], .int .i64 o, .pointer (some ⟨G.p, 0, none⟩), .agg #[.int .i64 (tk : Int), .bool false, .int .i64 ad0]] w fun e w' => RuP (ins o c (vw s tk)) s tk e (fun s' => Ds w' B G s' nw nt ∧ Below B w w') := by
  obtain rfl := h.ah
  have B2 := bxT_below w aw (some ⟨ga, qa, none⟩) nw cw nt ct tk false ad0
  have b0 := bxT_0 w aw (some ⟨ga, qa, none⟩) nw cw nt ct tk false ad0
  have b1 := bxT_1 w aw (some ⟨ga, qa, none⟩) nw cw nt ct tk false ad0
  have D2 := h.D.below B2
  have x0 := cell_blk b0 1
  have y0 := cell_blk b1 0
  have y1 := cell_blk b1 1
  have l0 := (Array.getElem?_eq_some_iff.1 b0).1
  have l1 := (Array.getElem?_eq_some_iff.1 b1).1
  have p2 := D2.c2
  have lp := D2.lts.1
  have l3 := D2.lts.2.2.2.1
  obtain ⟨q3, f3⟩ := D2.pc h.V.p
  have gw : ga < w.heap.size := Nat.lt_of_lt_of_le h.gaB h.Bw
  have qc := (B2.cell (p := ⟨ga, qa + tk, none⟩) gw).trans h.cell
  have lga : ga < (bxT w aw (some ⟨ga, qa, none⟩) nw cw nt ct tk false ad0).heap.size := Nat.lt_of_lt_of_le gw B2.size
  have htI : (tk : Int) < (nt : Int) := by have := h.t; omega
  have d1 : decide ((tk : Int) < 0) = false := decide_eq_false (by omega)
  have d1' : ¬ (tk : Int) < 0 := by omega
  have d2 : decide ((nt : Int) ≤ (tk : Int)) = false := decide_eq_false (by omega)
  have d2' : ¬ (nt : Int) ≤ (tk : Int) := by omega
  have hpl : pc < n := by have := (List.getElem?_eq_some_iff.1 hi).1; have := h.cd.1; omega
  have dq : ((pc : Int) == (n : Int)) = false := beq_eq_false_iff_ne.2 (by omega)
  have lpI : (pc : Int) < (n : Int) := by omega
  obtain ⟨gc, qd, rfl, lgc, i0, i1, i2, i3, i4, i5, i6⟩ := h.cd.at hi
  have gcB := h.cdB (by intro e; rw [e] at hi; simp at hi) gc qd rfl
  dsimp only at i0 i1 i2 i3 i4 i5 i6
  have lgc2 := Nat.lt_of_lt_of_le lgc B2.size
  replace i0 := (B2.cell (p := ⟨gc, qd + pc * 7, none⟩) lgc).trans i0
  replace i1 := (B2.cell (p := ⟨gc, qd + pc * 7 + 1, none⟩) lgc).trans i1
  replace i2 := (B2.cell (p := ⟨gc, qd + pc * 7 + 2, none⟩) lgc).trans i2
  replace i3 := (B2.cell (p := ⟨gc, qd + pc * 7 + 3, none⟩) lgc).trans i3
  replace i4 := (B2.cell (p := ⟨gc, qd + pc * 7 + 4, none⟩) lgc).trans i4
  replace i5 := (B2.cell (p := ⟨gc, qd + pc * 7 + 5, none⟩) lgc).trans i5
  replace i6 := (B2.cell (p := ⟨gc, qd + pc * 7 + 6, none⟩) lgc).trans i6
  have hcl := Mr.hid h.cd.1
  have hD := Mr.hid h.D
  have hBw := Mr.hid h.Bw
  have gaB := h.gaB
  have hok := Mr.hid h.D.ok
  have hV := h.V
  have ht := h.t
  have hnt := h.nt4
  have hnw := h.nw6
  have hfit := h.fit _ (List.mem_of_getElem? hi)
  have hlen := h.D.len
  have hn10 := h.n10
  replace hi := Mr.hid hi
  have hins : Hid (ins o c (vw s tk) = some { (⟨s.ws, r.put rn (seeP v b (an : Int)), (pc : Int), b⟩ : Th) with pc := min ((pc : Int) + 1) (n : Int) }) := by show _ = _; rw [ins_of h.V hi h.cd.1]; simp [stp, List.getD_eq_getElem?_getD, hv]
  have hfin : upd s tk ⟨s.ws, r.put rn (seeP v b (an : Int)), min ((pc : Int) + 1) (n : Int), b⟩ = { s with rg := s.rg.set tk (r.put rn (seeP v b (an : Int))), pl := s.pl.set tk (min ((pc : Int) + 1) (n : Int)) } := by simp only [upd, set_same h.V.b]
  have hP1 : s.pl[tk]? = some (pc : Int) := h.V.p
  have lrn : (rn : Int) < 4 := by omega
  have SE : Hid (∀ W, Ds W B G s nw nt → Calls Tryd.prog 33 #[.pointer (some ⟨G.p, 0, none⟩), .int .i64 (tk : Int), .int .i64 (an : Int)] W fun e w' => e = .returned (.int .i64 (seeP v b (an : Int))) ∧ w' = W) := fun W hW => see_any s G.p nw nt tk an v b W hW.st hv h.V.b (by have := h.bl; omega) (by have := h.t; have := h.nt4; omega) (by have := h.nw6; omega)
  replace B2 := Mr.hid B2
  clear h D2 b0 b1 f3
  go_enter Tryd.func20, Tryd.ntmps20
  go_upto_region 6 with fail
  show Code.wp _ _ _ _ (bxT w aw (some ⟨ga, qa, none⟩) nw cw nt ct tk false ad0)
  generalize (bxT w aw (some ⟨ga, qa, none⟩) nw cw nt ct tk false ad0) = w2 at *
  go_region_held3 (fun W => W.cell? ⟨G.p, 2, none⟩ = some (.slice (some ⟨G.g3, 0, none⟩) nt G.c3) ∧ W.cell? ⟨G.g3, tk, none⟩ = some (.int .i64 (pc : Int)) ∧ W.cell? ⟨w.heap.size, 1, none⟩ = some (.slice (some ⟨ga, qa, none⟩) nt ct) ∧ W.cell? ⟨ga, qa + tk, none⟩ = some (.slice (some ⟨gc, qd, none⟩) n k)) (simp [*, go_sem]) (fail)
  have B3 : Below w.heap.size w w2.drew := B2.out.drew
  replace x0 : w2.drew.cell? ⟨w.heap.size, 1, none⟩ = some (.slice (some ⟨ga, qa, none⟩) nt ct) := x0
  replace qc : w2.drew.cell? ⟨ga, qa + tk, none⟩ = some (.slice (some ⟨gc, qd, none⟩) n k) := qc
  replace i0 : w2.drew.cell? ⟨gc, qd + pc * 7, none⟩ = some (.int .i64 1) := i0
  replace i1 : w2.drew.cell? ⟨gc, qd + pc * 7 + 1, none⟩ = some (.int .i64 (rn : Int)) := i1
  replace i2 : w2.drew.cell? ⟨gc, qd + pc * 7 + 2, none⟩ = some (.int .i64 (an : Int)) := i2
  replace i3 : w2.drew.cell? ⟨gc, qd + pc * 7 + 3, none⟩ = some (.int .i64 vl) := i3
  replace i4 : w2.drew.cell? ⟨gc, qd + pc * 7 + 4, none⟩ = some (.int .i64 fr) := i4
  replace i5 : w2.drew.cell? ⟨gc, qd + pc * 7 + 5, none⟩ = some (.int .i64 ol) := i5
  replace i6 : w2.drew.cell? ⟨gc, qd + pc * 7 + 6, none⟩ = some (.int .i64 ct0) := i6
  replace l0 : w.heap.size < w2.drew.heap.size := l0
  clear p2 q3 lp l3 y0 y1 l1 lga lgc2 B2
  generalize w2.drew = w3 at *
  have j2 := (hD.out.below B3).c2
  have q3 := ((hD.out.below B3).pc hV.p).1
  go_upto_region 8 with fail
  have lp3 := (hD.out.below B3).lts.1
  have l33 := (hD.out.below B3).lts.2.2.2.1
  have lga3 : ga < w3.heap.size := Nat.lt_of_lt_of_le gw B3.size
  have lgc3 : gc < w3.heap.size := Nat.lt_of_lt_of_le lgc B3.size
  have z1 : ¬ G.p = w3.heap.size := by omega
  have z2 : ¬ G.g3 = w3.heap.size := by omega
  have z3 : ¬ w.heap.size = w3.heap.size := by omega
  have z4 : ¬ ga = w3.heap.size := by omega
  have z5 : ¬ gc = w3.heap.size := by omega
  go_region_held3 (fun W => W.cell? ⟨G.p, 2, none⟩ = some (.slice (some ⟨G.g3, 0, none⟩) nt G.c3) ∧ W.cell? ⟨G.g3, tk, none⟩ = some (.int .i64 (pc : Int)) ∧ W.cell? ⟨w.heap.size, 1, none⟩ = some (.slice (some ⟨ga, qa, none⟩) nt ct) ∧ W.cell? ⟨ga, qa + tk, none⟩ = some (.slice (some ⟨gc, qd, none⟩) n k) ∧ W.cell? ⟨gc, qd + pc * 7, none⟩ = some (.int .i64 1) ∧ W.cell? ⟨gc, qd + pc * 7 + 1, none⟩ = some (.int .i64 (rn : Int)) ∧ W.cell? ⟨gc, qd + pc * 7 + 2, none⟩ = some (.int .i64 (an : Int)) ∧ W.cell? ⟨gc, qd + pc * 7 + 3, none⟩ = some (.int .i64 vl) ∧ W.cell? ⟨gc, qd + pc * 7 + 4, none⟩ = some (.int .i64 fr) ∧ W.cell? ⟨gc, qd + pc * 7 + 5, none⟩ = some (.int .i64 ol) ∧ W.cell? ⟨gc, qd + pc * 7 + 6, none⟩ = some (.int .i64 ct0)) (simp [*, go_sem]) (fail)
  have lo := hD.out.lts
  have R0 : Tl w (w3.alloc (.cells #[.int .i64 1, .int .i64 (rn : Int), .int .i64 (an : Int), .int .i64 vl, .int .i64 fr, .int .i64 ol, .int .i64 ct0] 73)).drew B G s nw nt ct tk n k ga qa gc qd w3.heap.size ⟨1, (rn : Int), (an : Int), vl, fr, ol, ct0⟩ := Tl.below (W := (w3.alloc (.cells #[.int .i64 1, .int .i64 (rn : Int), .int .i64 (an : Int), .int .i64 vl, .int .i64 fr, .int .i64 ol, .int .i64 ct0] 73))) ⟨(hD.out.below B3).below ((Below.refl _ _).alloc (Nat.le_refl _) _), (Below.cell ((Below.refl w3.heap.size w3).alloc (Nat.le_refl _) _) (p := ⟨w.heap.size, 1, none⟩) l0).trans x0, (Below.cell ((Below.refl w3.heap.size w3).alloc (Nat.le_refl _) _) (p := ⟨ga, qa + tk, none⟩) lga3).trans qc, new_at _ _ _ rfl, lo, l0, gaB, hBw.out, (B3.alloc B3.size _).mono hBw.out⟩ (Below.refl _ _).drew
  replace R0 := Mr.hid R0
  have E4 : Hid (Below w.heap.size w (w3.alloc (.cells #[.int .i64 1, .int .i64 (rn : Int), .int .i64 (an : Int), .int .i64 vl, .int .i64 fr, .int .i64 ol, .int .i64 ct0] 73)).drew) := (B3.alloc B3.size _).drew
  clear x0 qc i0 i1 i2 i3 i4 i5 i6 j2 q3 lp3 l33 lga3 lgc3 z1 z2 z3 z4 z5 B3
  generalize (w3.alloc (.cells #[.int .i64 1, .int .i64 (rn : Int), .int .i64 (an : Int), .int .i64 vl, .int .i64 fr, .int .i64 ol, .int .i64 ct0] 73)).drew = w4 at *
  generalize w3.heap.size = hi0 at *
  clear l0
  obtain ⟨ur, fr2⟩ := R0.out.D.r hV.r hrn
  have lg2 := R0.out.D.lts.2.2.1
  have i0 := R0.out.i0
  have i1 := R0.out.i1
  have i2 := R0.out.i2
  have p1 := R0.out.D.c1
  try dsimp only at i0 i1 i2
  have ok := hok.out
  have lo9 := R0.out.lo
  have up9 := R0.out.up
  obtain ⟨o1, o2, o3, o4⟩ := ok
  have ne1a : ¬ G.p = G.g1 := by omega
  have ne1b : ¬ G.g1 = G.p := by omega
  have ne1c : ¬ hi0 = G.g1 := by omega
  have ne1d : ¬ G.g1 = hi0 := by omega
  have ne1e : ¬ w.heap.size = G.g1 := by omega
  have ne1f : ¬ ga = G.g1 := by omega
  have ne2a : ¬ G.p = G.g2 := by omega
  have ne2b : ¬ G.g2 = G.p := by omega
  have ne2c : ¬ hi0 = G.g2 := by omega
  have ne2d : ¬ G.g2 = hi0 := by omega
  have ne2e : ¬ w.heap.size = G.g2 := by omega
  have ne2f : ¬ ga = G.g2 := by omega
  have ne3a : ¬ G.p = G.g3 := by omega
  have ne3b : ¬ G.g3 = G.p := by omega
  have ne3c : ¬ hi0 = G.g3 := by omega
  have ne3d : ¬ G.g3 = hi0 := by omega
  have ne3e : ¬ w.heap.size = G.g3 := by omega
  have ne3f : ¬ ga = G.g3 := by omega
  have ne4a : ¬ G.p = G.g4 := by omega
  have ne4b : ¬ G.g4 = G.p := by omega
  have ne4c : ¬ hi0 = G.g4 := by omega
  have ne4d : ¬ G.g4 = hi0 := by omega
  have ne4e : ¬ w.heap.size = G.g4 := by omega
  have ne4f : ¬ ga = G.g4 := by omega
  clear o1 o2 o3 o4 lo9 up9
  have lp4 := R0.out.D.lts.1
  generalize hsx : seeP v b (an : Int) = sx at *
  replace hsx := Mr.hid hsx
  have R0d := Mr.hid (R0.out.drew)
  go_upto_region 12 with fail
  go_region_held3 (fun W => W.cell? ⟨G.p, 1, none⟩ = some (.slice (some ⟨G.g2, 0, none⟩) nt G.c2) ∧ W.cell? ⟨hi0, 1, none⟩ = some (.int .i64 (rn : Int)) ∧ W.cell? ⟨hi0, 2, none⟩ = some (.int .i64 (an : Int))) (simp [*, go_sem])
    (first | (go_at_call 33; refine (SE.out _ R0d.out.D).mono ?_; rintro e w9 ⟨rfl, hw9⟩; obtain rfl := hw9.symm))
  have R1 := Mr.hid ((R0.out.setR hV.r hrn sx).drew)
  clear ur fr2 lg2 i0 i1 i2 p1 lp4 R0d
  generalize (w4.setCell ⟨G.g2, tk * 4 + rn, none⟩ (.int .i64 sx)).drew = w5 at *
  have hwf : IntKind.i64.wrap ((pc : Int) + 1) = (pc : Int) + 1 := i64x _ (by omega) (by omega)
  have hmn : min ((pc : Int) + 1) (n : Int) = (pc : Int) + 1 := by omega
  have hlt : ¬ (n : Int) < (pc : Int) + 1 := by omega
  go_upto_region 37 with fail
  have p2 := R1.out.D.c2
  have x := R1.out.x
  have q := R1.out.q
  obtain ⟨u3, f3⟩ := R1.out.D.pc hP1
  have l3 := R1.out.D.lts.2.2.2.1
  have lp := R1.out.D.lts.1
  refine wp_region_held_drew (S := (fun W => W.cell? ⟨G.p, 2, none⟩ = some (.slice (some ⟨G.g3, 0, none⟩) nt G.c3) ∧ W.cell? ⟨w.heap.size, 1, none⟩ = some (.slice (some ⟨ga, qa, none⟩) nt ct) ∧ W.cell? ⟨ga, qa + tk, none⟩ = some (.slice (some ⟨gc, qd, none⟩) n k))) (by kernel_rfl) ⟨p2, x, q⟩ (fun hHeld => ?_)
  try simp only [Act.put, List.setIfInBounds_toArray, List.set_cons_zero, List.set_cons_succ]
  refine wpAnyH_take (i := 0) (oi := (⟨_, _, _, _, _, _⟩ : Oper)) (v := ?_) rfl (by kernel_rfl) (by kernel_rfl) (by kernel_rfl) (fun _ _ _ h => h) (Or.inl ⟨by rfl, ?_⟩) (by assumption) ?_
  rotate_left
  · intro w9 hSw
    (try dsimp only at hSw)
    go_simp
    all_goals (with_reducible rfl)
  try simp only [Act.put, List.setIfInBounds_toArray, List.set_cons_zero, List.set_cons_succ]
  refine wpAnyH_take (i := 1) (oi := (⟨_, _, _, _, _, _⟩ : Oper)) (v := ?_) rfl (by kernel_rfl) (by kernel_rfl) (by kernel_rfl) (fun _ _ _ h => h) (Or.inl ⟨by rfl, ?_⟩) (by assumption) ?_
  rotate_left
  · intro w9 hSw
    (try dsimp only at hSw)
    go_simp
    all_goals (with_reducible rfl)
  try simp only [Act.put, List.setIfInBounds_toArray, List.set_cons_zero, List.set_cons_succ]
  refine wpAnyH_take (i := 2) (oi := (⟨_, _, _, _, _, _⟩ : Oper)) (v := ?_) rfl (by kernel_rfl) (by kernel_rfl) (by kernel_rfl) (fun _ _ _ h => h) (Or.inl ⟨by rfl, ?_⟩) (by assumption) ?_
  rotate_left
  · intro w9 hSw
    (try dsimp only at hSw)
    go_simp
    all_goals (with_reducible rfl)
  try simp only [Act.put, List.setIfInBounds_toArray, List.set_cons_zero, List.set_cons_succ]
  refine wpAnyH_take (i := 3) (oi := (⟨_, _, _, _, _, _⟩ : Oper)) (v := ?_) rfl (by kernel_rfl) (by kernel_rfl) (by kernel_rfl) (fun _ _ _ h => h) (Or.inl ⟨by rfl, ?_⟩) (by assumption) ?_
  rotate_left
  · intro w9 hSw
    (try dsimp only at hSw)
    go_simp
    all_goals (with_reducible rfl)
  try simp only [Act.put, List.setIfInBounds_toArray, List.set_cons_zero, List.set_cons_succ]
  refine wpAnyH_take (i := 4) (oi := (⟨_, _, _, _, _, _⟩ : Oper)) (v := ?_) rfl (by kernel_rfl) (by kernel_rfl) (by kernel_rfl) (fun _ _ _ h => h) (Or.inl ⟨by rfl, ?_⟩) (by assumption) ?_
  rotate_left
  · intro w9 hSw
    (try dsimp only at hSw)
    go_simp
    all_goals (with_reducible rfl)
  try simp only [Act.put, List.setIfInBounds_toArray, List.set_cons_zero, List.set_cons_succ]
  refine wpAnyH_take (i := 5) (oi := (⟨_, _, _, _, _, _⟩ : Oper)) (v := ?_) rfl (by kernel_rfl) (by kernel_rfl) (by kernel_rfl) (fun _ _ _ h => h) (Or.inl ⟨by rfl, ?_⟩) (by assumption) ?_
  rotate_left
  · intro w9 hSw
    (try dsimp only at hSw)
    go_simp
    all_goals (with_reducible rfl)
  try simp only [Act.put, List.setIfInBounds_toArray, List.set_cons_zero, List.set_cons_succ]
  refine wpAnyH_take (i := 6) (oi := (⟨_, _, _, _, _, _⟩ : Oper)) (v := ?_) rfl (by kernel_rfl) (by kernel_rfl) (by kernel_rfl) (fun _ _ _ h => h) (Or.inl ⟨by rfl, ?_⟩) (by assumption) ?_
  rotate_left
  · intro w9 hSw
    (try dsimp only at hSw)
    go_simp
    all_goals (with_reducible rfl)
  try simp only [Act.put, List.setIfInBounds_toArray, List.set_cons_zero, List.set_cons_succ]
  refine wpAnyH_take (i := 7) (oi := (⟨_, _, _, _, _, _⟩ : Oper)) (v := ?_) rfl (by kernel_rfl) (by kernel_rfl) (by kernel_rfl) (fun _ _ _ h => h) (Or.inl ⟨by rfl, ?_⟩) (by assumption) ?_
  rotate_left
  · intro w9 hSw
    (try dsimp only at hSw)
    go_simp
    all_goals (with_reducible rfl)
  try simp only [Act.put, List.setIfInBounds_toArray, List.set_cons_zero, List.set_cons_succ]
  refine wpAnyH_take (i := 8) (oi := (⟨_, _, _, _, _, _⟩ : Oper)) (v := ?_) rfl (by kernel_rfl) (by kernel_rfl) (by kernel_rfl) (fun _ _ _ h => h) (Or.inl ⟨by rfl, ?_⟩) (by assumption) ?_
  rotate_left
  · intro w9 hSw
    (try dsimp only at hSw)
    go_simp
    all_goals (with_reducible rfl)
  try simp only [Act.put, List.setIfInBounds_toArray, List.set_cons_zero, List.set_cons_succ]
  refine wpAnyH_take (i := 9) (oi := (⟨_, _, _, _, _, _⟩ : Oper)) (v := ?_) rfl (by kernel_rfl) (by kernel_rfl) (by kernel_rfl) (fun _ _ _ h => h) (Or.inl ⟨by rfl, ?_⟩) (by assumption) ?_
  rotate_left
  · intro w9 hSw
    (try dsimp only at hSw)
    go_simp
    all_goals (with_reducible rfl)
  try simp only [Act.put, List.setIfInBounds_toArray, List.set_cons_zero, List.set_cons_succ]
  refine wpAnyH_take (i := 10) (oi := (⟨_, _, _, _, _, _⟩ : Oper)) (v := ?_) rfl (by kernel_rfl) (by kernel_rfl) (by kernel_rfl) (fun _ _ _ h => h) (Or.inl ⟨by rfl, ?_⟩) (by assumption) ?_
  rotate_left
  · intro w9 hSw
    (try dsimp only at hSw)
    go_simp
    all_goals (with_reducible rfl)
  try simp only [Act.put, List.setIfInBounds_toArray, List.set_cons_zero, List.set_cons_succ]
  refine wpAnyH_take (i := 12) (oi := (⟨_, _, _, _, _, _⟩ : Oper)) (v := ?_) rfl (by kernel_rfl) (by kernel_rfl) (by kernel_rfl) (fun _ _ _ h => h) (Or.inl ⟨by rfl, ?_⟩) (by assumption) ?_
  rotate_left
  · intro w9 hSw
    (try dsimp only at hSw)
    go_simp
    all_goals (with_reducible rfl)
  try simp only [Act.put, List.setIfInBounds_toArray, List.set_cons_zero, List.set_cons_succ]
  refine wpAnyH_take (i := 14) (oi := (⟨_, _, _, _, _, _⟩ : Oper)) (v := ?_) rfl (by kernel_rfl) (by kernel_rfl) (by kernel_rfl) (fun _ _ _ h => h) (Or.inl ⟨by rfl, ?_⟩) (by assumption) ?_
  rotate_left
  · intro w9 hSw
    (try dsimp only at hSw)
    go_simp
    all_goals (with_reducible rfl)
  try simp only [Act.put, List.setIfInBounds_toArray, List.set_cons_zero, List.set_cons_succ]
  refine wpAnyH_take (i := 15) (oi := (⟨_, _, _, _, _, _⟩ : Oper)) (v := ?_) rfl (by kernel_rfl) (by kernel_rfl) (by kernel_rfl) (fun _ _ _ h => h) (Or.inl ⟨by rfl, ?_⟩) (by assumption) ?_
  rotate_left
  · intro w9 hSw
    (try dsimp only at hSw)
    go_simp
    all_goals (with_reducible rfl)
  try simp only [Act.put, List.setIfInBounds_toArray, List.set_cons_zero, List.set_cons_succ]
  refine wpAnyH_take (i := 16) (oi := (⟨_, _, _, _, _, _⟩ : Oper)) (v := ?_) rfl (by kernel_rfl) (by kernel_rfl) (by kernel_rfl) (fun _ _ _ h => h) (Or.inl ⟨by rfl, ?_⟩) (by assumption) ?_
  rotate_left
  · intro w9 hSw
    (try dsimp only at hSw)
    go_simp
    all_goals (with_reducible rfl)
  try simp only [Act.put, List.setIfInBounds_toArray, List.set_cons_zero, List.set_cons_succ]
  refine wpAnyH_take (i := 17) (oi := (⟨_, _, _, _, _, _⟩ : Oper)) (v := ?_) rfl (by kernel_rfl) (by kernel_rfl) (by kernel_rfl) (fun _ _ _ h => h) (Or.inl ⟨by rfl, ?_⟩) (by assumption) ?_
  rotate_left
  · intro w9 hSw
    (try dsimp only at hSw)
    go_simp
    all_goals (with_reducible rfl)
  try simp only [Act.put, List.setIfInBounds_toArray, List.set_cons_zero, List.set_cons_succ]
  refine wpAnyH_take (i := 18) (oi := (⟨_, _, _, _, _, _⟩ : Oper)) (v := ?_) rfl (by kernel_rfl) (by kernel_rfl) (by kernel_rfl) (fun _ _ _ h => h) (Or.inl ⟨by rfl, ?_⟩) (by assumption) ?_
  rotate_left
  · intro w9 hSw
    (try dsimp only at hSw)
    go_simp
    all_goals (with_reducible rfl)
  try simp only [Act.put, List.setIfInBounds_toArray, List.set_cons_zero, List.set_cons_succ]
  refine wpAnyH_take (i := 19) (oi := (⟨_, _, _, _, _, _⟩ : Oper)) (v := ?_) rfl (by kernel_rfl) (by kernel_rfl) (by kernel_rfl) (fun _ _ _ h => h) (Or.inl ⟨by rfl, ?_⟩) (by assumption) ?_
  rotate_left
  · intro w9 hSw
    (try dsimp only at hSw)
    go_simp
    all_goals (with_reducible rfl)
  try simp only [Act.put, List.setIfInBounds_toArray, List.set_cons_zero, List.set_cons_succ]
  have R8 := Mr.hid R1.out.drew
  replace p2 := R8.out.D.c2
  replace x := R8.out.x
  replace q := R8.out.q
  obtain ⟨u4, f4⟩ := R8.out.D.pc hP1
  replace l3 := R8.out.D.lts.2.2.2.1
  replace lp := R8.out.D.lts.1
  clear u3 f3
  generalize w5.drew = w8 at *
  refine wpAnyH_ready (rs := [11]) (by kernel_rfl) (by simp) ?_
  refine AllReadyH.cons (o := (⟨_, _, _, _, _, _⟩ : Oper)) rfl (fun K hK => ?_) (AllReadyH.nil)
  go_simp
  refine hK.out _ _ ⟨p2, x, q⟩ (fun hHeld9 => ?_)
  clear hK K hHeld
  have hHeld := hHeld9
  clear hHeld9
  try simp only [Act.put, List.setIfInBounds_toArray, List.set_cons_zero, List.set_cons_succ]
  refine wpAnyH_take (i := 13) (oi := (⟨_, _, _, _, _, _⟩ : Oper)) (v := ?_) rfl (by kernel_rfl) (by kernel_rfl) (by kernel_rfl) (fun _ _ _ h => h) (Or.inl ⟨by rfl, ?_⟩) (by assumption) ?_
  rotate_left
  · intro w9 hSw
    (try dsimp only at hSw)
    go_simp
    all_goals (with_reducible rfl)
  try simp only [Act.put, List.setIfInBounds_toArray, List.set_cons_zero, List.set_cons_succ]
  refine wpAnyH_take (i := 20) (oi := (⟨_, _, _, _, _, _⟩ : Oper)) (v := ?_) rfl (by kernel_rfl) (by kernel_rfl) (by kernel_rfl) (fun _ _ _ h => h) (Or.inl ⟨by rfl, ?_⟩) (by assumption) ?_
  rotate_left
  · intro w9 hSw
    (try dsimp only at hSw)
    go_simp
    all_goals (with_reducible rfl)
  try simp only [Act.put, List.setIfInBounds_toArray, List.set_cons_zero, List.set_cons_succ]
  refine wpAnyH_take (i := 21) (oi := (⟨_, _, _, _, _, _⟩ : Oper)) (v := ?_) rfl (by kernel_rfl) (by kernel_rfl) (by kernel_rfl) (fun _ _ _ h => h) (Or.inl ⟨by rfl, ?_⟩) (by assumption) ?_
  rotate_left
  · intro w9 hSw
    (try dsimp only at hSw)
    go_simp
    all_goals (with_reducible rfl)
  try simp only [Act.put, List.setIfInBounds_toArray, List.set_cons_zero, List.set_cons_succ]
  refine wpAnyH_ready (rs := [22]) (by kernel_rfl) (by simp) ?_
  refine AllReadyH.cons (o := (⟨_, _, _, _, _, _⟩ : Oper)) rfl (fun K hK => ?_) (AllReadyH.nil)
  have R9 := R8.out.setP (min ((pc : Int) + 1) (n : Int))
  rw [hmn] at R9
  have r2 := R9.D.c2
  have rx := R9.x
  have rq := R9.q
  replace R9 := Mr.hid R9
  go_simp
  refine hK.out _ _ ⟨r2, rx, rq⟩ (fun hHeld9 => ?_)
  clear hK K hHeld
  have hHeld := hHeld9
  clear hHeld9
  try simp only [Act.put, List.setIfInBounds_toArray, List.set_cons_zero, List.set_cons_succ]
  refine wpAnyH_done (by kernel_rfl) ?_ _
  clear hHeld r2 rx rq
  go_wp2
  go_ret
  refine .inr ⟨_, hins.out, rfl, ?_⟩
  rw [hfin, hmn]
  exact ⟨R9.out.D, R9.out.BB⟩
end Go.Proofs.YtmejblmeaipahaaDoor.Ts
/-
  TSO: the document's Turn.
-/
namespace Go.Proofs.YtmejblmeaipahaaDoor.Ts
open Go.RowKit Mr
set_option linter.unusedVariables false
set_option linter.unusedSimpArgs false
set_option maxRecDepth 100000
set_option maxHeartbeats 16000000 in
theorem rturn_2vw (l : Lt) (s : Sv) (o : Int) (B : Nat) (G : Gs) (aw ah : Option Addr) (nw cw nt ct tk : Nat) (ad0 : Int) (r : Rg) (pc : Nat) (b : List Pd) (w0 w : World) (c : List In) (a : Option Addr) (n k ga qa : Nat) (h : Dp l s o B G ah nw nt tk r pc b w0 w c a n k ga qa) (rg vl ol ct0 : Int) (an : Nat) (hi : c[pc]? = some ⟨2, rg, (an : Int), vl, (-1), ol, ct0⟩) (han : an < nw) (v : Int) (hv : s.ws[an]? = some v) (ho : o = 1) :
    Calls Tryd.prog 20 #[.agg #[.slice aw nw cw, .slice ah nt ct], .int .i64 o, .pointer (some ⟨G.p, 0, none⟩), .agg #[.int .i64 (tk : Int), .bool false, .int .i64 ad0]] w fun e w' => RuP (ins o c (vw s tk)) s tk e (fun s' => Ds w' B G s' nw nt ∧ Below B w w') := by
  obtain rfl := h.ah
  have B2 := bxT_below w aw (some ⟨ga, qa, none⟩) nw cw nt ct tk false ad0
  have b0 := bxT_0 w aw (some ⟨ga, qa, none⟩) nw cw nt ct tk false ad0
  have b1 := bxT_1 w aw (some ⟨ga, qa, none⟩) nw cw nt ct tk false ad0
  have D2 := h.D.below B2
  have x0 := cell_blk b0 1
  have y0 := cell_blk b1 0
  have y1 := cell_blk b1 1
  have l0 := (Array.getElem?_eq_some_iff.1 b0).1
  have l1 := (Array.getElem?_eq_some_iff.1 b1).1
  have p2 := D2.c2
  have lp := D2.lts.1
  have l3 := D2.lts.2.2.2.1
  obtain ⟨q3, f3⟩ := D2.pc h.V.p
  have gw : ga < w.heap.size := Nat.lt_of_lt_of_le h.gaB h.Bw
  have qc := (B2.cell (p := ⟨ga, qa + tk, none⟩) gw).trans h.cell
  have lga : ga < (bxT w aw (some ⟨ga, qa, none⟩) nw cw nt ct tk false ad0).heap.size := Nat.lt_of_lt_of_le gw B2.size
  have htI : (tk : Int) < (nt : Int) := by have := h.t; omega
  have d1 : decide ((tk : Int) < 0) = false := decide_eq_false (by omega)
  have d1' : ¬ (tk : Int) < 0 := by omega
  have d2 : decide ((nt : Int) ≤ (tk : Int)) = false := decide_eq_false (by omega)
  have d2' : ¬ (nt : Int) ≤ (tk : Int) := by omega
  have hpl : pc < n := by have := (List.getElem?_eq_some_iff.1 hi).1; have := h.cd.1; omega
  have dq : ((pc : Int) == (n : Int)) = false := beq_eq_false_iff_ne.2 (by omega)
  have lpI : (pc : Int) < (n : Int) := by omega
  obtain ⟨gc, qd, rfl, lgc, i0, i1, i2, i3, i4, i5, i6⟩ := h.cd.at hi
  have gcB := h.cdB (by intro e; rw [e] at hi; simp at hi) gc qd rfl
  dsimp only at i0 i1 i2 i3 i4 i5 i6
  have lgc2 := Nat.lt_of_lt_of_le lgc B2.size
  replace i0 := (B2.cell (p := ⟨gc, qd + pc * 7, none⟩) lgc).trans i0
  replace i1 := (B2.cell (p := ⟨gc, qd + pc * 7 + 1, none⟩) lgc).trans i1
  replace i2 := (B2.cell (p := ⟨gc, qd + pc * 7 + 2, none⟩) lgc).trans i2
  replace i3 := (B2.cell (p := ⟨gc, qd + pc * 7 + 3, none⟩) lgc).trans i3
  replace i4 := (B2.cell (p := ⟨gc, qd + pc * 7 + 4, none⟩) lgc).trans i4
  replace i5 := (B2.cell (p := ⟨gc, qd + pc * 7 + 5, none⟩) lgc).trans i5
  replace i6 := (B2.cell (p := ⟨gc, qd + pc * 7 + 6, none⟩) lgc).trans i6
  have hcl := Mr.hid h.cd.1
  have hD := Mr.hid h.D
  have hBw := Mr.hid h.Bw
  have gaB := h.gaB
  have hok := Mr.hid h.D.ok
  have hV := h.V
  have ht := h.t
  have hnt := h.nt4
  have hnw := h.nw6
  have hfit := h.fit _ (List.mem_of_getElem? hi)
  have hlen := h.D.len
  have hn10 := h.n10
  replace hi := Mr.hid hi
  have hins : Hid (ins o c (vw s tk) = some { (⟨s.ws.set an vl, r, (pc : Int), b⟩ : Th) with pc := min ((pc : Int) + 1) (n : Int) }) := by show _ = _; rw [ins_of h.V hi h.cd.1]; simp [stp, ho]
  have hfin : upd s tk ⟨s.ws.set an vl, r, min ((pc : Int) + 1) (n : Int), b⟩ = { s with ws := s.ws.set an vl, pl := s.pl.set tk (min ((pc : Int) + 1) (n : Int)) } := by simp only [upd, set_same h.V.r, set_same h.V.b]
  have hP1 : s.pl[tk]? = some (pc : Int) := h.V.p
  have lan : (an : Int) < (nw : Int) := by omega
  have dO : (o == 1) = true := by rw [ho]; simp
  replace ho := Mr.hid ho
  replace hv := Mr.hid hv
  replace B2 := Mr.hid B2
  clear h D2 b0 b1 f3
  go_enter Tryd.func20, Tryd.ntmps20
  go_upto_region 6 with fail
  show Code.wp _ _ _ _ (bxT w aw (some ⟨ga, qa, none⟩) nw cw nt ct tk false ad0)
  generalize (bxT w aw (some ⟨ga, qa, none⟩) nw cw nt ct tk false ad0) = w2 at *
  go_region_held3 (fun W => W.cell? ⟨G.p, 2, none⟩ = some (.slice (some ⟨G.g3, 0, none⟩) nt G.c3) ∧ W.cell? ⟨G.g3, tk, none⟩ = some (.int .i64 (pc : Int)) ∧ W.cell? ⟨w.heap.size, 1, none⟩ = some (.slice (some ⟨ga, qa, none⟩) nt ct) ∧ W.cell? ⟨ga, qa + tk, none⟩ = some (.slice (some ⟨gc, qd, none⟩) n k)) (simp [*, go_sem]) (fail)
  have B3 : Below w.heap.size w w2.drew := B2.out.drew
  replace x0 : w2.drew.cell? ⟨w.heap.size, 1, none⟩ = some (.slice (some ⟨ga, qa, none⟩) nt ct) := x0
  replace qc : w2.drew.cell? ⟨ga, qa + tk, none⟩ = some (.slice (some ⟨gc, qd, none⟩) n k) := qc
  replace i0 : w2.drew.cell? ⟨gc, qd + pc * 7, none⟩ = some (.int .i64 2) := i0
  replace i1 : w2.drew.cell? ⟨gc, qd + pc * 7 + 1, none⟩ = some (.int .i64 rg) := i1
  replace i2 : w2.drew.cell? ⟨gc, qd + pc * 7 + 2, none⟩ = some (.int .i64 (an : Int)) := i2
  replace i3 : w2.drew.cell? ⟨gc, qd + pc * 7 + 3, none⟩ = some (.int .i64 vl) := i3
  replace i4 : w2.drew.cell? ⟨gc, qd + pc * 7 + 4, none⟩ = some (.int .i64 (-1)) := i4
  replace i5 : w2.drew.cell? ⟨gc, qd + pc * 7 + 5, none⟩ = some (.int .i64 ol) := i5
  replace i6 : w2.drew.cell? ⟨gc, qd + pc * 7 + 6, none⟩ = some (.int .i64 ct0) := i6
  replace l0 : w.heap.size < w2.drew.heap.size := l0
  clear p2 q3 lp l3 y0 y1 l1 lga lgc2 B2
  generalize w2.drew = w3 at *
  have j2 := (hD.out.below B3).c2
  have q3 := ((hD.out.below B3).pc hV.p).1
  go_upto_region 8 with fail
  have lp3 := (hD.out.below B3).lts.1
  have l33 := (hD.out.below B3).lts.2.2.2.1
  have lga3 : ga < w3.heap.size := Nat.lt_of_lt_of_le gw B3.size
  have lgc3 : gc < w3.heap.size := Nat.lt_of_lt_of_le lgc B3.size
  have z1 : ¬ G.p = w3.heap.size := by omega
  have z2 : ¬ G.g3 = w3.heap.size := by omega
  have z3 : ¬ w.heap.size = w3.heap.size := by omega
  have z4 : ¬ ga = w3.heap.size := by omega
  have z5 : ¬ gc = w3.heap.size := by omega
  go_region_held3 (fun W => W.cell? ⟨G.p, 2, none⟩ = some (.slice (some ⟨G.g3, 0, none⟩) nt G.c3) ∧ W.cell? ⟨G.g3, tk, none⟩ = some (.int .i64 (pc : Int)) ∧ W.cell? ⟨w.heap.size, 1, none⟩ = some (.slice (some ⟨ga, qa, none⟩) nt ct) ∧ W.cell? ⟨ga, qa + tk, none⟩ = some (.slice (some ⟨gc, qd, none⟩) n k) ∧ W.cell? ⟨gc, qd + pc * 7, none⟩ = some (.int .i64 2) ∧ W.cell? ⟨gc, qd + pc * 7 + 1, none⟩ = some (.int .i64 rg) ∧ W.cell? ⟨gc, qd + pc * 7 + 2, none⟩ = some (.int .i64 (an : Int)) ∧ W.cell? ⟨gc, qd + pc * 7 + 3, none⟩ = some (.int .i64 vl) ∧ W.cell? ⟨gc, qd + pc * 7 + 4, none⟩ = some (.int .i64 (-1)) ∧ W.cell? ⟨gc, qd + pc * 7 + 5, none⟩ = some (.int .i64 ol) ∧ W.cell? ⟨gc, qd + pc * 7 + 6, none⟩ = some (.int .i64 ct0)) (simp [*, go_sem]) (fail)
  have lo := hD.out.lts
  have R0 : Tl w (w3.alloc (.cells #[.int .i64 2, .int .i64 rg, .int .i64 (an : Int), .int .i64 vl, .int .i64 (-1), .int .i64 ol, .int .i64 ct0] 73)).drew B G s nw nt ct tk n k ga qa gc qd w3.heap.size ⟨2, rg, (an : Int), vl, (-1), ol, ct0⟩ := Tl.below (W := (w3.alloc (.cells #[.int .i64 2, .int .i64 rg, .int .i64 (an : Int), .int .i64 vl, .int .i64 (-1), .int .i64 ol, .int .i64 ct0] 73))) ⟨(hD.out.below B3).below ((Below.refl _ _).alloc (Nat.le_refl _) _), (Below.cell ((Below.refl w3.heap.size w3).alloc (Nat.le_refl _) _) (p := ⟨w.heap.size, 1, none⟩) l0).trans x0, (Below.cell ((Below.refl w3.heap.size w3).alloc (Nat.le_refl _) _) (p := ⟨ga, qa + tk, none⟩) lga3).trans qc, new_at _ _ _ rfl, lo, l0, gaB, hBw.out, (B3.alloc B3.size _).mono hBw.out⟩ (Below.refl _ _).drew
  replace R0 := Mr.hid R0
  have E4 : Hid (Below w.heap.size w (w3.alloc (.cells #[.int .i64 2, .int .i64 rg, .int .i64 (an : Int), .int .i64 vl, .int .i64 (-1), .int .i64 ol, .int .i64 ct0] 73)).drew) := (B3.alloc B3.size _).drew
  clear x0 qc i0 i1 i2 i3 i4 i5 i6 j2 q3 lp3 l33 lga3 lgc3 z1 z2 z3 z4 z5 B3
  generalize (w3.alloc (.cells #[.int .i64 2, .int .i64 rg, .int .i64 (an : Int), .int .i64 vl, .int .i64 (-1), .int .i64 ol, .int .i64 ct0] 73)).drew = w4 at *
  generalize w3.heap.size = hi0 at *
  clear l0
  have i0 := R0.out.i0
  have i3 := R0.out.i3
  have i4 := R0.out.i4
  try dsimp only at i0 i3 i4
  have i2 := R0.out.i2
  have p0 := R0.out.D.c0
  try dsimp only at i2
  have ok := hok.out
  have lo9 := R0.out.lo
  have up9 := R0.out.up
  obtain ⟨o1, o2, o3, o4⟩ := ok
  have ne1a : ¬ G.p = G.g1 := by omega
  have ne1b : ¬ G.g1 = G.p := by omega
  have ne1c : ¬ hi0 = G.g1 := by omega
  have ne1d : ¬ G.g1 = hi0 := by omega
  have ne1e : ¬ w.heap.size = G.g1 := by omega
  have ne1f : ¬ ga = G.g1 := by omega
  have ne2a : ¬ G.p = G.g2 := by omega
  have ne2b : ¬ G.g2 = G.p := by omega
  have ne2c : ¬ hi0 = G.g2 := by omega
  have ne2d : ¬ G.g2 = hi0 := by omega
  have ne2e : ¬ w.heap.size = G.g2 := by omega
  have ne2f : ¬ ga = G.g2 := by omega
  have ne3a : ¬ G.p = G.g3 := by omega
  have ne3b : ¬ G.g3 = G.p := by omega
  have ne3c : ¬ hi0 = G.g3 := by omega
  have ne3d : ¬ G.g3 = hi0 := by omega
  have ne3e : ¬ w.heap.size = G.g3 := by omega
  have ne3f : ¬ ga = G.g3 := by omega
  have ne4a : ¬ G.p = G.g4 := by omega
  have ne4b : ¬ G.g4 = G.p := by omega
  have ne4c : ¬ hi0 = G.g4 := by omega
  have ne4d : ¬ G.g4 = hi0 := by omega
  have ne4e : ¬ w.heap.size = G.g4 := by omega
  have ne4f : ¬ ga = G.g4 := by omega
  clear o1 o2 o3 o4 lo9 up9
  obtain ⟨uw, fw⟩ := R0.out.D.w hv.out
  have lg1 := R0.out.D.lts.2.1
  have lp4 := R0.out.D.lts.1
  go_upto_region 18 with fail
  go_region_held3 (fun W => W.cell? ⟨G.p, 0, none⟩ = some (.slice (some ⟨G.g1, 0, none⟩) nw G.c1) ∧ W.cell? ⟨hi0, 2, none⟩ = some (.int .i64 (an : Int))) (simp [*, go_sem]) (fail)
  have R2 := Mr.hid ((R0.out.setW an vl).drew)
  clear uw fw lg1 lp4 i2 p0
  generalize (w4.setCell ⟨G.g1, an, none⟩ (.int .i64 vl)).drew = w6 at *
  have hwf : IntKind.i64.wrap ((pc : Int) + 1) = (pc : Int) + 1 := i64x _ (by omega) (by omega)
  have hmn : min ((pc : Int) + 1) (n : Int) = (pc : Int) + 1 := by omega
  have hlt : ¬ (n : Int) < (pc : Int) + 1 := by omega
  go_upto_region 37 with fail
  have p2 := R2.out.D.c2
  have x := R2.out.x
  have q := R2.out.q
  obtain ⟨u3, f3⟩ := R2.out.D.pc hP1
  have l3 := R2.out.D.lts.2.2.2.1
  have lp := R2.out.D.lts.1
  refine wp_region_held_drew (S := (fun W => W.cell? ⟨G.p, 2, none⟩ = some (.slice (some ⟨G.g3, 0, none⟩) nt G.c3) ∧ W.cell? ⟨w.heap.size, 1, none⟩ = some (.slice (some ⟨ga, qa, none⟩) nt ct) ∧ W.cell? ⟨ga, qa + tk, none⟩ = some (.slice (some ⟨gc, qd, none⟩) n k))) (by kernel_rfl) ⟨p2, x, q⟩ (fun hHeld => ?_)
  try simp only [Act.put, List.setIfInBounds_toArray, List.set_cons_zero, List.set_cons_succ]
  refine wpAnyH_take (i := 0) (oi := (⟨_, _, _, _, _, _⟩ : Oper)) (v := ?_) rfl (by kernel_rfl) (by kernel_rfl) (by kernel_rfl) (fun _ _ _ h => h) (Or.inl ⟨by rfl, ?_⟩) (by assumption) ?_
  rotate_left
  · intro w9 hSw
    (try dsimp only at hSw)
    go_simp
    all_goals (with_reducible rfl)
  try simp only [Act.put, List.setIfInBounds_toArray, List.set_cons_zero, List.set_cons_succ]
  refine wpAnyH_take (i := 1) (oi := (⟨_, _, _, _, _, _⟩ : Oper)) (v := ?_) rfl (by kernel_rfl) (by kernel_rfl) (by kernel_rfl) (fun _ _ _ h => h) (Or.inl ⟨by rfl, ?_⟩) (by assumption) ?_
  rotate_left
  · intro w9 hSw
    (try dsimp only at hSw)
    go_simp
    all_goals (with_reducible rfl)
  try simp only [Act.put, List.setIfInBounds_toArray, List.set_cons_zero, List.set_cons_succ]
  refine wpAnyH_take (i := 2) (oi := (⟨_, _, _, _, _, _⟩ : Oper)) (v := ?_) rfl (by kernel_rfl) (by kernel_rfl) (by kernel_rfl) (fun _ _ _ h => h) (Or.inl ⟨by rfl, ?_⟩) (by assumption) ?_
  rotate_left
  · intro w9 hSw
    (try dsimp only at hSw)
    go_simp
    all_goals (with_reducible rfl)
  try simp only [Act.put, List.setIfInBounds_toArray, List.set_cons_zero, List.set_cons_succ]
  refine wpAnyH_take (i := 3) (oi := (⟨_, _, _, _, _, _⟩ : Oper)) (v := ?_) rfl (by kernel_rfl) (by kernel_rfl) (by kernel_rfl) (fun _ _ _ h => h) (Or.inl ⟨by rfl, ?_⟩) (by assumption) ?_
  rotate_left
  · intro w9 hSw
    (try dsimp only at hSw)
    go_simp
    all_goals (with_reducible rfl)
  try simp only [Act.put, List.setIfInBounds_toArray, List.set_cons_zero, List.set_cons_succ]
  refine wpAnyH_take (i := 4) (oi := (⟨_, _, _, _, _, _⟩ : Oper)) (v := ?_) rfl (by kernel_rfl) (by kernel_rfl) (by kernel_rfl) (fun _ _ _ h => h) (Or.inl ⟨by rfl, ?_⟩) (by assumption) ?_
  rotate_left
  · intro w9 hSw
    (try dsimp only at hSw)
    go_simp
    all_goals (with_reducible rfl)
  try simp only [Act.put, List.setIfInBounds_toArray, List.set_cons_zero, List.set_cons_succ]
  refine wpAnyH_take (i := 5) (oi := (⟨_, _, _, _, _, _⟩ : Oper)) (v := ?_) rfl (by kernel_rfl) (by kernel_rfl) (by kernel_rfl) (fun _ _ _ h => h) (Or.inl ⟨by rfl, ?_⟩) (by assumption) ?_
  rotate_left
  · intro w9 hSw
    (try dsimp only at hSw)
    go_simp
    all_goals (with_reducible rfl)
  try simp only [Act.put, List.setIfInBounds_toArray, List.set_cons_zero, List.set_cons_succ]
  refine wpAnyH_take (i := 6) (oi := (⟨_, _, _, _, _, _⟩ : Oper)) (v := ?_) rfl (by kernel_rfl) (by kernel_rfl) (by kernel_rfl) (fun _ _ _ h => h) (Or.inl ⟨by rfl, ?_⟩) (by assumption) ?_
  rotate_left
  · intro w9 hSw
    (try dsimp only at hSw)
    go_simp
    all_goals (with_reducible rfl)
  try simp only [Act.put, List.setIfInBounds_toArray, List.set_cons_zero, List.set_cons_succ]
  refine wpAnyH_take (i := 7) (oi := (⟨_, _, _, _, _, _⟩ : Oper)) (v := ?_) rfl (by kernel_rfl) (by kernel_rfl) (by kernel_rfl) (fun _ _ _ h => h) (Or.inl ⟨by rfl, ?_⟩) (by assumption) ?_
  rotate_left
  · intro w9 hSw
    (try dsimp only at hSw)
    go_simp
    all_goals (with_reducible rfl)
  try simp only [Act.put, List.setIfInBounds_toArray, List.set_cons_zero, List.set_cons_succ]
  refine wpAnyH_take (i := 8) (oi := (⟨_, _, _, _, _, _⟩ : Oper)) (v := ?_) rfl (by kernel_rfl) (by kernel_rfl) (by kernel_rfl) (fun _ _ _ h => h) (Or.inl ⟨by rfl, ?_⟩) (by assumption) ?_
  rotate_left
  · intro w9 hSw
    (try dsimp only at hSw)
    go_simp
    all_goals (with_reducible rfl)
  try simp only [Act.put, List.setIfInBounds_toArray, List.set_cons_zero, List.set_cons_succ]
  refine wpAnyH_take (i := 9) (oi := (⟨_, _, _, _, _, _⟩ : Oper)) (v := ?_) rfl (by kernel_rfl) (by kernel_rfl) (by kernel_rfl) (fun _ _ _ h => h) (Or.inl ⟨by rfl, ?_⟩) (by assumption) ?_
  rotate_left
  · intro w9 hSw
    (try dsimp only at hSw)
    go_simp
    all_goals (with_reducible rfl)
  try simp only [Act.put, List.setIfInBounds_toArray, List.set_cons_zero, List.set_cons_succ]
  refine wpAnyH_take (i := 10) (oi := (⟨_, _, _, _, _, _⟩ : Oper)) (v := ?_) rfl (by kernel_rfl) (by kernel_rfl) (by kernel_rfl) (fun _ _ _ h => h) (Or.inl ⟨by rfl, ?_⟩) (by assumption) ?_
  rotate_left
  · intro w9 hSw
    (try dsimp only at hSw)
    go_simp
    all_goals (with_reducible rfl)
  try simp only [Act.put, List.setIfInBounds_toArray, List.set_cons_zero, List.set_cons_succ]
  refine wpAnyH_take (i := 12) (oi := (⟨_, _, _, _, _, _⟩ : Oper)) (v := ?_) rfl (by kernel_rfl) (by kernel_rfl) (by kernel_rfl) (fun _ _ _ h => h) (Or.inl ⟨by rfl, ?_⟩) (by assumption) ?_
  rotate_left
  · intro w9 hSw
    (try dsimp only at hSw)
    go_simp
    all_goals (with_reducible rfl)
  try simp only [Act.put, List.setIfInBounds_toArray, List.set_cons_zero, List.set_cons_succ]
  refine wpAnyH_take (i := 14) (oi := (⟨_, _, _, _, _, _⟩ : Oper)) (v := ?_) rfl (by kernel_rfl) (by kernel_rfl) (by kernel_rfl) (fun _ _ _ h => h) (Or.inl ⟨by rfl, ?_⟩) (by assumption) ?_
  rotate_left
  · intro w9 hSw
    (try dsimp only at hSw)
    go_simp
    all_goals (with_reducible rfl)
  try simp only [Act.put, List.setIfInBounds_toArray, List.set_cons_zero, List.set_cons_succ]
  refine wpAnyH_take (i := 15) (oi := (⟨_, _, _, _, _, _⟩ : Oper)) (v := ?_) rfl (by kernel_rfl) (by kernel_rfl) (by kernel_rfl) (fun _ _ _ h => h) (Or.inl ⟨by rfl, ?_⟩) (by assumption) ?_
  rotate_left
  · intro w9 hSw
    (try dsimp only at hSw)
    go_simp
    all_goals (with_reducible rfl)
  try simp only [Act.put, List.setIfInBounds_toArray, List.set_cons_zero, List.set_cons_succ]
  refine wpAnyH_take (i := 16) (oi := (⟨_, _, _, _, _, _⟩ : Oper)) (v := ?_) rfl (by kernel_rfl) (by kernel_rfl) (by kernel_rfl) (fun _ _ _ h => h) (Or.inl ⟨by rfl, ?_⟩) (by assumption) ?_
  rotate_left
  · intro w9 hSw
    (try dsimp only at hSw)
    go_simp
    all_goals (with_reducible rfl)
  try simp only [Act.put, List.setIfInBounds_toArray, List.set_cons_zero, List.set_cons_succ]
  refine wpAnyH_take (i := 17) (oi := (⟨_, _, _, _, _, _⟩ : Oper)) (v := ?_) rfl (by kernel_rfl) (by kernel_rfl) (by kernel_rfl) (fun _ _ _ h => h) (Or.inl ⟨by rfl, ?_⟩) (by assumption) ?_
  rotate_left
  · intro w9 hSw
    (try dsimp only at hSw)
    go_simp
    all_goals (with_reducible rfl)
  try simp only [Act.put, List.setIfInBounds_toArray, List.set_cons_zero, List.set_cons_succ]
  refine wpAnyH_take (i := 18) (oi := (⟨_, _, _, _, _, _⟩ : Oper)) (v := ?_) rfl (by kernel_rfl) (by kernel_rfl) (by kernel_rfl) (fun _ _ _ h => h) (Or.inl ⟨by rfl, ?_⟩) (by assumption) ?_
  rotate_left
  · intro w9 hSw
    (try dsimp only at hSw)
    go_simp
    all_goals (with_reducible rfl)
  try simp only [Act.put, List.setIfInBounds_toArray, List.set_cons_zero, List.set_cons_succ]
  refine wpAnyH_take (i := 19) (oi := (⟨_, _, _, _, _, _⟩ : Oper)) (v := ?_) rfl (by kernel_rfl) (by kernel_rfl) (by kernel_rfl) (fun _ _ _ h => h) (Or.inl ⟨by rfl, ?_⟩) (by assumption) ?_
  rotate_left
  · intro w9 hSw
    (try dsimp only at hSw)
    go_simp
    all_goals (with_reducible rfl)
  try simp only [Act.put, List.setIfInBounds_toArray, List.set_cons_zero, List.set_cons_succ]
  have R8 := Mr.hid R2.out.drew
  replace p2 := R8.out.D.c2
  replace x := R8.out.x
  replace q := R8.out.q
  obtain ⟨u4, f4⟩ := R8.out.D.pc hP1
  replace l3 := R8.out.D.lts.2.2.2.1
  replace lp := R8.out.D.lts.1
  clear u3 f3
  generalize w6.drew = w8 at *
  refine wpAnyH_ready (rs := [11]) (by kernel_rfl) (by simp) ?_
  refine AllReadyH.cons (o := (⟨_, _, _, _, _, _⟩ : Oper)) rfl (fun K hK => ?_) (AllReadyH.nil)
  go_simp
  refine hK.out _ _ ⟨p2, x, q⟩ (fun hHeld9 => ?_)
  clear hK K hHeld
  have hHeld := hHeld9
  clear hHeld9
  try simp only [Act.put, List.setIfInBounds_toArray, List.set_cons_zero, List.set_cons_succ]
  refine wpAnyH_take (i := 13) (oi := (⟨_, _, _, _, _, _⟩ : Oper)) (v := ?_) rfl (by kernel_rfl) (by kernel_rfl) (by kernel_rfl) (fun _ _ _ h => h) (Or.inl ⟨by rfl, ?_⟩) (by assumption) ?_
  rotate_left
  · intro w9 hSw
    (try dsimp only at hSw)
    go_simp
    all_goals (with_reducible rfl)
  try simp only [Act.put, List.setIfInBounds_toArray, List.set_cons_zero, List.set_cons_succ]
  refine wpAnyH_take (i := 20) (oi := (⟨_, _, _, _, _, _⟩ : Oper)) (v := ?_) rfl (by kernel_rfl) (by kernel_rfl) (by kernel_rfl) (fun _ _ _ h => h) (Or.inl ⟨by rfl, ?_⟩) (by assumption) ?_
  rotate_left
  · intro w9 hSw
    (try dsimp only at hSw)
    go_simp
    all_goals (with_reducible rfl)
  try simp only [Act.put, List.setIfInBounds_toArray, List.set_cons_zero, List.set_cons_succ]
  refine wpAnyH_take (i := 21) (oi := (⟨_, _, _, _, _, _⟩ : Oper)) (v := ?_) rfl (by kernel_rfl) (by kernel_rfl) (by kernel_rfl) (fun _ _ _ h => h) (Or.inl ⟨by rfl, ?_⟩) (by assumption) ?_
  rotate_left
  · intro w9 hSw
    (try dsimp only at hSw)
    go_simp
    all_goals (with_reducible rfl)
  try simp only [Act.put, List.setIfInBounds_toArray, List.set_cons_zero, List.set_cons_succ]
  refine wpAnyH_ready (rs := [22]) (by kernel_rfl) (by simp) ?_
  refine AllReadyH.cons (o := (⟨_, _, _, _, _, _⟩ : Oper)) rfl (fun K hK => ?_) (AllReadyH.nil)
  have R9 := R8.out.setP (min ((pc : Int) + 1) (n : Int))
  rw [hmn] at R9
  have r2 := R9.D.c2
  have rx := R9.x
  have rq := R9.q
  replace R9 := Mr.hid R9
  go_simp
  refine hK.out _ _ ⟨r2, rx, rq⟩ (fun hHeld9 => ?_)
  clear hK K hHeld
  have hHeld := hHeld9
  clear hHeld9
  try simp only [Act.put, List.setIfInBounds_toArray, List.set_cons_zero, List.set_cons_succ]
  refine wpAnyH_done (by kernel_rfl) ?_ _
  clear hHeld r2 rx rq
  go_wp2
  go_ret
  refine .inr ⟨_, hins.out, rfl, ?_⟩
  rw [hfin, hmn]
  exact ⟨R9.out.D, R9.out.BB⟩
end Go.Proofs.YtmejblmeaipahaaDoor.Ts
