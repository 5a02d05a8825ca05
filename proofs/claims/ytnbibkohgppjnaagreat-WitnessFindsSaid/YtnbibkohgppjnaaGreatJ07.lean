import Derived.Test.YtnbibkohgppjnaaGreatJ06
set_option linter.unusedVariables false
set_option linter.unusedSimpArgs false
namespace Go.Proofs.YtnbibkohgppjnaaGreat.Md
open Go.RowKit Mr Me
theorem key_any {W : World} {S : Nat → Prop} {u0 u1 u2 u3 u4 : Value} {x : Ct} (hu : CtHas W S u0 u1 u2 u3 u4 x) (hin : CtIn 225000000000000 x) (op arg data : Int) (ho : op = 50 ∨ op = 51 ∨ op = 52 ∨ op = 60 ∨ op = 61 ∨ op = 62) :
  Calls Tryz.prog 80 #[.agg #[u0, u1, u2, u3, u4], .int .i64 op, .int .i64 arg, .int .i64 data] W fun e w' => ∃ v0 v1 v2 v3 v4, e = .returned (.tuple #[.agg #[v0, v1, v2, v3, v4], ans (dan x op arg).1 (dan x op arg).2]) ∧ CtAt w' (Tk S W.heap.size) v0 v1 v2 v3 v4 (dnx x op arg data) ∧ Below W.heap.size W w' := by
 have hs : inB x.set arg = true ∨ inB x.set arg = false := by cases inB x.set arg <;> simp
 have ht : inB (keysOf x.table) arg = true ∨ inB (keysOf x.table) arg = false := by cases inB (keysOf x.table) arg <;> simp
 rcases ho with rfl | rfl | rfl | rfl | rfl | rfl
 ·rcases hs with h | h
  ·exact key_50y hu hin arg data (Mr.hid h)
  ·exact key_50n hu hin arg data (Mr.hid h)
 ·rcases hs with h | h
  ·exact key_51y hu hin arg data (Mr.hid h)
  ·exact key_51n hu hin arg data (Mr.hid h)
 ·exact key_52 hu hin arg data
 ·rcases ht with h | h
  ·exact key_60y hu hin arg data (Mr.hid h)
  ·exact key_60n hu hin arg data (Mr.hid h)
 ·rcases ht with h | h
  ·exact key_61y hu hin arg data (Mr.hid h)
  ·exact key_61n hu hin arg data (Mr.hid h)
 ·rcases ht with h | h
  ·exact key_62y hu hin arg data (Mr.hid h)
  ·exact key_62n hu hin arg data (Mr.hid h)
theorem ends_any {W w : World} {T : Nat → Prop} {v0 v1 v2 v3 v4 : Value} {y : Ct} {u0 u1 u2 u3 u4 : Value} {a b : Int} (hb : Below W.heap.size W w) (hr : w.heap[W.heap.size + 1]? = some (ctO u0 u1 u2 u3 u4)) (ha : w.heap[W.heap.size + 2]? = some (ansO a b)) (hat : CtAt w T v0 v1 v2 v3 v4 y) (hT : ∀ k, T k → W.heap.size ≤ k ∧ k ≠ W.heap.size + 1 ∧ k ≠ W.heap.size + 2) (k v : Int) :
  CtAt (set7 w (W.heap.size + 1) v0 v1 v2 v3 v4 (W.heap.size + 2) k v) (fun q => W.heap.size ≤ q) v0 v1 v2 v3 v4 y ∧ Below W.heap.size W (set7 w (W.heap.size + 1) v0 v1 v2 v3 v4 (W.heap.size + 2) k v) ∧
  (set7 w (W.heap.size + 1) v0 v1 v2 v3 v4 (W.heap.size + 2) k v).heap[W.heap.size + 1]? = some (ctO v0 v1 v2 v3 v4) ∧ (set7 w (W.heap.size + 1) v0 v1 v2 v3 v4 (W.heap.size + 2) k v).heap[W.heap.size + 2]? = some (ansO k v) := by
 have h1 := set5_at v0 v1 v2 v3 v4 hr
 have h2 := set5_below v0 v1 v2 v3 v4 hb (Nat.le_succ _)
 have h3 := (set5_far w (W.heap.size + 1) v0 v1 v2 v3 v4 (W.heap.size + 2) (by omega)).trans ha
 have hf := (set5_fr w (W.heap.size + 1) v0 v1 v2 v3 v4).mono (T := fun q => q = W.heap.size + 1 ∨ q = W.heap.size + 2) (fun q hq => .inl hq)
 unfold set7
 generalize set5 w (W.heap.size + 1) v0 v1 v2 v3 v4 = w5 at *
 have h4 := setBlk (setBlk h3 0 (.int .i64 k)) 1 (.int .i64 v)
 have hf2 : ∀ q, q ≠ W.heap.size + 2 → ((w5.setCell ⟨W.heap.size + 2, 0, none⟩ (.int .i64 k)).setCell ⟨W.heap.size + 2, 1, none⟩ (.int .i64 v)).heap[q]? = w5.heap[q]? := fun q hq => by
  rw [Below.heap_setCell _ _ _ q hq, Below.heap_setCell _ _ _ q hq]
 have hfr : Fr w ((w5.setCell ⟨W.heap.size + 2, 0, none⟩ (.int .i64 k)).setCell ⟨W.heap.size + 2, 1, none⟩ (.int .i64 v)) (fun q => q = W.heap.size + 1 ∨ q = W.heap.size + 2) :=
  (hf.setCell ⟨W.heap.size + 2, 0, none⟩ (.int .i64 k) (Or.inl (Or.inr rfl))).setCell ⟨W.heap.size + 2, 1, none⟩ (.int .i64 v) (Or.inl (Or.inr rfl))
 exact ⟨(hat.fr hfr (fun q hq hl e => by have := hT q hq; omega)).mono (fun q hq => (hT q hq).1), (h2.setCell (p := ⟨W.heap.size + 2, 0, none⟩) (Nat.le_add_right _ 2) _).setCell (p := ⟨W.heap.size + 2, 1, none⟩) (Nat.le_add_right _ 2) _, (hf2 _ (by omega)).trans h1, h4⟩
set_option maxRecDepth 100000 in
set_option maxHeartbeats 8000000 in
theorem do_key {W : World} {S : Nat → Prop} {u0 u1 u2 u3 u4 : Value} {x : Ct} (hu : CtAt W S u0 u1 u2 u3 u4 x) (hin : CtIn 225000000000000 x) (arg data : Int) (op : Int) (ho : op = 50 ∨ op = 51 ∨ op = 52 ∨ op = 60 ∨ op = 61 ∨ op = 62) :
  Calls Tryz.prog 56 #[.agg #[u0, u1, u2, u3, u4], .int .i64 op, .int .i64 arg, .int .i64 data] W fun e w' => ∃ v0 v1 v2 v3 v4, e = .returned (.tuple #[.agg #[v0, v1, v2, v3, v4], ans (dan x op arg).1 (dan x op arg).2]) ∧ CtAt w' (fun k => W.heap.size ≤ k) v0 v1 v2 v3 v4 (dnx x op arg data) ∧ Below W.heap.size W w' := by
 obtain ⟨ak, av, hak⟩ : ∃ a b, (dan x op arg) = (a, b) := ⟨_, _, rfl⟩
 rw [hak]
 replace hak := Mr.hid hak
 have C := fun w' (hB : Below W.heap.size W w') => copy_any (hu.below hB) hin
 obtain ⟨a0, c0, rfl, _⟩ := hu.cell.form
 obtain ⟨a1, c1, rfl, _⟩ := hu.stack.form
 obtain ⟨a2, c2, rfl, _⟩ := hu.queue.form
 obtain ⟨a3, c3, rfl, _⟩ := hu.set.form
 obtain ⟨a4, c4, rfl, _⟩ := hu.table.form
 have B0 := (((Below.refl W.heap.size W).alloc (Nat.le_refl _) (ctO (.slice a0 x.cell.length c0) (.slice a1 x.stack.length c1) (.slice a2 x.queue.length c2) (.slice a3 x.set.length c3) (.slice a4 x.table.length c4))).alloc (by simp) nil5).alloc (by simp; omega) (ansO 0 0)
 have DP := fun w1 v0 v1 v2 v3 v4 (hv : CtHas w1 (fun k => W.heap.size + 3 ≤ k) v0 v1 v2 v3 v4 x) => do_pre (W := W) (w1 := w1) (o := ctO (.slice a0 x.cell.length c0) (.slice a1 x.stack.length c1) (.slice a2 x.queue.length c2) (.slice a3 x.set.length c3) (.slice a4 x.table.length c4)) hv
 have BX := fun w1 (hB : Below (W.heap.size + 3) (((W.alloc (ctO (.slice a0 x.cell.length c0) (.slice a1 x.stack.length c1) (.slice a2 x.queue.length c2) (.slice a3 x.set.length c3) (.slice a4 x.table.length c4))).alloc nil5).alloc (ansO 0 0)) w1) => (show W.heap.size + 3 ≤ w1.heap.size from by have := hB.size; simp only [World.size_alloc] at this; omega)
 clear hu
 have q22 : (op == 22) = false := by rw [beq_eq_false_iff_ne]; omega
 have q23 : (op == 23) = false := by rw [beq_eq_false_iff_ne]; omega
 have q30 : (op == 30) = false := by rw [beq_eq_false_iff_ne]; omega
 have q31 : (op == 31) = false := by rw [beq_eq_false_iff_ne]; omega
 have q40 : (op == 40) = false := by rw [beq_eq_false_iff_ne]; omega
 have q41 : (op == 41) = false := by rw [beq_eq_false_iff_ne]; omega
 replace ho := Mr.hid ho
 unfold nil5 ctO ansO at B0 BX
 unfold ctO ansO at DP
 replace C := Mr.hid C
 replace B0 := Mr.hid B0
 replace BX := Mr.hid BX
 replace DP := Mr.hid DP
 go_enter Tryz.func56, Tryz.ntmps56
 go_upto_region 2 with (go_at_call 57; refine (C.out _ B0.out).mono ?_; clear C; rintro e w1 ⟨v0, v1, v2, v3, v4, rfl, hv, hJ, hB1⟩; simp only [World.size_alloc] at hB1 hv; have hsz := BX.out w1 hB1; obtain ⟨hD, hH⟩ := DP.out _ _ _ _ _ _ hv hB1; clear DP BX; obtain ⟨pv0, qv0, rfl, _⟩ := hv.cell.form; obtain ⟨pv1, qv1, rfl, _⟩ := hv.stack.form; obtain ⟨pv2, qv2, rfl, _⟩ := hv.queue.form; obtain ⟨pv3, qv3, rfl, _⟩ := hv.set.form; obtain ⟨pv4, qv4, rfl, _⟩ := hv.table.form; clear hv hB1 B0; replace hD := Mr.hid hD; replace hH := Mr.hid hH; replace hJ := Mr.hid hJ)
 rw [show W.heap.size + 1 + 1 = W.heap.size + 2 from rfl]
 obtain ⟨bs, hbs⟩ : ∃ b, b = w1.heap.size := ⟨_, rfl⟩
 rw [← hbs] at hD hH ⊢
 have hlt : bs < (w1.alloc (ctO (.slice pv0 x.cell.length qv0) (.slice pv1 x.stack.length qv1) (.slice pv2 x.queue.length qv2) (.slice pv3 x.set.length qv3) (.slice pv4 x.table.length qv4))).heap.size := by rw [World.size_alloc]; omega
 unfold ctO at hlt
 generalize w1.alloc (.cells #[.slice pv0 x.cell.length qv0, .slice pv1 x.stack.length qv1, .slice pv2 x.queue.length qv2, .slice pv3 x.set.length qv3, .slice pv4 x.table.length qv4] 55 (0, 0)) = w2 at *
 have hb3 : W.heap.size + 3 ≤ bs := by omega
 clear hsz hbs w1
 obtain ⟨k0, k1, k2, k3, k4, -⟩ := ctO_cells hD.out.box
 obtain ⟨f0, f1, f2, f3, f4⟩ := ctO_thaw hD.out.box
 have CK := key_any hH.out hin op arg data ho.out
 have EK := fun w4 v0 v1 v2 v3 v4 (hat : CtAt w4 (Tk (Tr W.heap.size bs) w2.heap.size) v0 v1 v2 v3 v4 (dnx x op arg data)) (hB : Below w2.heap.size w2 w4) => ends_any (W := W) (hD.out.below hB).bel (hD.out.below hB).res (hD.out.below hB).ans hat (fun k hk => by have hs := hD.out.bel.size; unfold Tk Tr at hk; omega) ak av
 have RK := fun w4 (hB : Below w2.heap.size w2 w4) => (hD.out.below hB)
 rw [hak.out] at CK
 replace CK := Mr.hid CK
 replace EK := Mr.hid EK
 replace RK := Mr.hid RK
 clear hD hH hJ hin
 go_wp2_with (first | (go_at_call 80; refine CK.out.mono ?_; clear CK; rintro e w4 ⟨v0, v1, v2, v3, v4, rfl, hat, hB4⟩; have hD4 := RK.out w4 hB4; obtain ⟨e1, e2, e3, e4⟩ := EK.out w4 v0 v1 v2 v3 v4 hat hB4; clear EK RK; obtain ⟨z0, y0, rfl, _⟩ := hat.cell.form; obtain ⟨z1, y1, rfl, _⟩ := hat.stack.form; obtain ⟨z2, y2, rfl, _⟩ := hat.queue.form; obtain ⟨z3, y3, rfl, _⟩ := hat.set.form; obtain ⟨z4, y4, rfl, _⟩ := hat.table.form; clear hat hB4; unfold ans; obtain ⟨r0, r1, r2, r3, r4, hr⟩ := ctO_cells hD4.res; obtain ⟨f0, f1, f2, f3, f4⟩ := ctO_thaw hD4.res; obtain ⟨s0, s1, hs, s2, s3⟩ := ansO_cells hD4.ans; clear hD4; replace e1 := Mr.hid e1; replace e2 := Mr.hid e2; replace e3 := Mr.hid e3; replace e4 := Mr.hid e4))
 obtain ⟨d0, d1, d2, d3, d4, -⟩ := ctO_cells e3.out
 obtain ⟨g0, g1, -, -, -⟩ := ansO_cells e4.out
 replace e1 := e1.out
 replace e2 := e2.out
 unfold set7 set5 at e1 e2 d0 d1 d2 d3 d4 g0 g1
 replace e1 := Mr.hid e1
 replace e2 := Mr.hid e2
 clear e3 e4 r0 r1 r2 r3 r4 f0 f1 f2 f3 f4 s0 s1 s2 s3
 refine bodyPost_ret (v := .tuple #[.agg #[.slice z0 (dnx x op arg data).cell.length y0, .slice z1 (dnx x op arg data).stack.length y1, .slice z2 (dnx x op arg data).queue.length y2, .slice z3 (dnx x op arg data).set.length y3, .slice z4 (dnx x op arg data).table.length y4], .agg #[.int .i64 ak, .int .i64 av]]) (by simp [results, Tryz.results56, go_sem, d0, d1, d2, d3, d4, g0, g1]) rfl ?_
 exact ⟨_, _, _, _, _, rfl, e1.out, e2.out⟩
theorem ne_pos {α : Type} {l : List α} (h : l ≠ []) : 0 < l.length := by cases l with
 | nil => exact absurd rfl h
 | cons a l => simp
theorem do_any {W : World} {S : Nat → Prop} {u0 u1 u2 u3 u4 : Value} {x : Ct} (hu : CtAt W S u0 u1 u2 u3 u4 x) (hin : CtIn 225000000000000 x) (op arg data : Int) (ho : obj op ≠ 0) :
  Calls Tryz.prog 56 #[.agg #[u0, u1, u2, u3, u4], .int .i64 op, .int .i64 arg, .int .i64 data] W fun e w' => ∃ v0 v1 v2 v3 v4, e = .returned (.tuple #[.agg #[v0, v1, v2, v3, v4], ans (dan x op arg).1 (dan x op arg).2]) ∧ CtAt w' (fun k => W.heap.size ≤ k) v0 v1 v2 v3 v4 (dnx x op arg data) ∧ Below W.heap.size W w' := by
 have h : op = 22 ∨ op = 23 ∨ op = 30 ∨ op = 31 ∨ op = 40 ∨ op = 41 ∨ (op = 50 ∨ op = 51 ∨ op = 52 ∨ op = 60 ∨ op = 61 ∨ op = 62) := by
  unfold obj at ho
  by_cases h1 : op = 22 ∨ op = 23
  ·omega
  rw [if_neg h1] at ho
  by_cases h2 : op = 30 ∨ op = 31
  ·omega
  rw [if_neg h2] at ho
  by_cases h3 : op = 40 ∨ op = 41
  ·omega
  rw [if_neg h3] at ho
  by_cases h4 : op = 50 ∨ op = 51 ∨ op = 52
  ·omega
  rw [if_neg h4] at ho
  by_cases h5 : op = 60 ∨ op = 61 ∨ op = 62
  ·omega
  rw [if_neg h5] at ho
  exact absurd rfl ho
 rcases h with rfl | rfl | rfl | rfl | rfl | rfl | h
 ·exact do_22 hu hin arg data
 ·by_cases he : x.cell = []
  ·exact do_23e hu hin arg data he
  ·exact do_23n hu hin arg data (ne_pos he)
 ·exact do_30 hu hin arg data
 ·by_cases he : x.stack = []
  ·exact do_31e hu hin arg data he
  ·exact do_31n hu hin arg data (ne_pos he)
 ·exact do_40 hu hin arg data
 ·by_cases he : x.queue = []
  ·exact do_41e hu hin arg data he
  ·exact do_41n hu hin arg data (ne_pos he)
 ·exact do_key hu hin arg data op h
end Go.Proofs.YtnbibkohgppjnaaGreat.Md
