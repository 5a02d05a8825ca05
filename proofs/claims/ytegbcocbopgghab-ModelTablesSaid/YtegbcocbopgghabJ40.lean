import Derived.Test.YtegbcocbopgghabJ02
import Derived.Test.YtegbcocbopgghabJ34
import Derived.Deep.RegionHeld3
import Derived.Deep.Cut
/-
  OPENING a struct of contents and three numbers (reclaimlaw11.Adding) that came in.
-/
namespace Go.Proofs.Ytegbcocbopgghab.Md
open Go.ChangeShapes Go.WideShapes Go.ChangeAt Go.RowKit Go.Deep
open Mr
set_option linter.unusedVariables false
set_option maxRecDepth 100000
theorem cells_cd : Try.prog.cellsOf 27 = 8 := by kernel_rfl
section
variable {H : Type} {enc : TypeId × Value → H} {w : World} {base : Nat} {spare : Nat → Bool} {held : Bool}
theorem trod_ct {fuel : Nat} {cs : List Value} {x : DataW H × List MemPlace} (hf : DataW.trod enc Try.prog w base spare held fuel 25 cs = some x) (hsz : (x.1.weights Try.prog 25).all (· ≤ reachBytes) = true) :
    ∃ v0 v1 v2 v3 v4 y, cs = [v0, v1, v2, v3, v4] ∧ CtAt w (fun _ => True) v0 v1 v2 v3 v4 y ∧ CtIn 140737488351232 y := by
  obtain ⟨xs, n, _, hxx, hl, hxl, hx⟩ := DataW.trod_struct Try.underlying25 hf
  rw [cells_ct] at hl
  match cs, hl with
  | [x0, x1, x2, x3, x4], _ =>
    have q0 := hx 0 _ rfl
    have q1 := hx 1 _ rfl
    have q2 := hx 2 _ rfl
    have q3 := hx 3 _ rfl
    have q4 := hx 4 _ rfl
    have hxs : xs.length = 5 := by simpa using hxl
    match xs, hxs with
    | [y0, y1, y2, y3, y4], _ =>
      obtain ⟨w0, l0, e0, s0⟩ := open_isl q0
      obtain ⟨w1, l1, e1, s1⟩ := open_isl q1
      obtain ⟨w2, l2, e2, s2⟩ := open_isl q2
      obtain ⟨w3, l3, e3, s3⟩ := open_isl q3
      obtain ⟨w4, l4, e4, s4⟩ := open_psl q4
      have f0 := len_slice Try.underlying22 q0 e0 s0
      have f1 := len_slice Try.underlying22 q1 e1 s1
      have f2 := len_slice Try.underlying22 q2 e2 s2
      have f3 := len_slice Try.underlying22 q3 e3 s3
      have f4 := len_slice Try.underlying23 q4 e4 s4
      have hd : x.1 = .agg [y0.1, y1.1, y2.1, y3.1, y4.1] := by simpa using congrArg Prod.fst hxx
      rw [hd] at hsz
      simp only [DataW.weights, Try.underlying25] at hsz
      have g0 := reach_of hsz (j := 0) (t := 22) rfl rfl Try.underlying22 bytes_i64 f0
      have g1 := reach_of hsz (j := 1) (t := 22) rfl rfl Try.underlying22 bytes_i64 f1
      have g2 := reach_of hsz (j := 2) (t := 22) rfl rfl Try.underlying22 bytes_i64 f2
      have g3 := reach_of hsz (j := 3) (t := 22) rfl rfl Try.underlying22 bytes_i64 f3
      have g4 := reach_of hsz (j := 4) (t := 23) rfl rfl Try.underlying23 bytes_pr f4
      simp [cells_li] at e0 e1 e2 e3
      simp [cells_lp] at e4
      subst e0; subst e1; subst e2; subst e3; subst e4
      exact ⟨_, _, _, _, _, ⟨l0, l1, l2, l3, l4⟩, rfl, ⟨s0, s1, s2, s3, s4⟩, ⟨g0, g1, g2, g3, g4⟩⟩
theorem open_cd {r : Reach} {b0 : Nat} {v : Value} {d : DataW H} {p : List MemPlace} (hv : Value.okWide Try.prog w r b0 27 v) (h : DataW.Trod enc Try.prog w base spare held 27 v d p) (hsz : (d.weights Try.prog 27).all (· ≤ reachBytes) = true) :
    ∃ v0 v1 v2 v3 v4 y, ∃ a b c : Int, v = .agg #[v0, v1, v2, v3, v4, .int .i64 a, .int .i64 b, .int .i64 c] ∧ CtAt w (fun _ => True) v0 v1 v2 v3 v4 y ∧ CtIn 140737488351232 y := by
  obtain ⟨cs, rfl, hcz⟩ := okWide_struct Try.underlying27 hv
  rw [cells_cd] at hcz
  obtain ⟨fuel, hfu⟩ := h
  obtain ⟨xs, n, _, hxx, hl, hxl, hx⟩ := DataW.trod_struct Try.underlying27 hfu
  have hcs : (Value.agg cs).cells.toList = cs.toList := rfl
  rw [hcs] at hx
  obtain ⟨l, rfl⟩ : ∃ l : List Value, cs = l.toArray := ⟨cs.toList, by simp⟩
  match l, hcz with
  | [x0, x1, x2, x3, x4, x5, x6, x7], _ =>
    have q0 := hx 0 _ rfl
    have q1 := hx 1 _ rfl
    have q2 := hx 2 _ rfl
    have q3 := hx 3 _ rfl
    have hxs : xs.length = 4 := by simpa using hxl
    match xs, hxs with
    | [y0, y1, y2, y3], _ =>
      have hd : d = .agg [y0.1, y1.1, y2.1, y3.1] := by simpa using congrArg Prod.fst hxx
      subst hd
      simp only [DataW.weights, Try.underlying27] at hsz
      have s0 : (y0.1.weights Try.prog 25).all (· ≤ reachBytes) = true := List.all_eq_true.2 fun m hm => List.all_eq_true.1 hsz m (DataW.weights_mem_each (j := 0) rfl rfl m hm)
      simp [cells_ct, cells_i64] at q0 q1 q2 q3
      obtain ⟨v0, v1, v2, v3, v4, y, e0, h1, h2⟩ := trod_ct q0 s0
      obtain ⟨a, ea, _⟩ := DataW.trod_int Try.underlying3 q1
      obtain ⟨b, eb, _⟩ := DataW.trod_int Try.underlying3 q2
      obtain ⟨c, ec, _⟩ := DataW.trod_int Try.underlying3 q3
      simp at e0 ea eb ec
      obtain ⟨r0, r1, r2, r3, r4⟩ := e0
      subst r0; subst r1; subst r2; subst r3; subst r4; subst ea; subst eb; subst ec
      exact ⟨_, _, _, _, _, y, a, b, c, rfl, h1, h2⟩
end
end Go.Proofs.Ytegbcocbopgghab.Md
/-
  ModelTables: the walk.
-/
namespace Go.Proofs.Ytegbcocbopgghab.Md
open Go.RowKit Mr Me
set_option linter.unusedVariables false
set_option linter.unusedSimpArgs false
theorem may_tab {y : Ct} (h : May y) {l : List (Int × Int)} (hl : (keysOf l).Pairwise (· < ·)) : May { y with table := l } := ⟨h.1, h.2.1, ris_pw.2 hl⟩
theorem cells8 {W : World} {b : Nat} {v0 v1 v2 v3 v4 v5 v6 v7 : Value} {t : TypeId} (h : W.heap[b]? = some (.cells #[v0, v1, v2, v3, v4, v5, v6, v7] t (0, 0))) : W.cell? ⟨b, 0, none⟩ = some v0 ∧ W.cell? ⟨b, 1, none⟩ = some v1 ∧ W.cell? ⟨b, 2, none⟩ = some v2 ∧ W.cell? ⟨b, 3, none⟩ = some v3 ∧ W.cell? ⟨b, 4, none⟩ = some v4 ∧ W.cell? ⟨b, 5, none⟩ = some v5 ∧ W.cell? ⟨b, 6, none⟩ = some v6 ∧ W.cell? ⟨b, 7, none⟩ = some v7 :=
  ⟨cell_blk h 0, cell_blk h 1, cell_blk h 2, cell_blk h 3, cell_blk h 4, cell_blk h 5, cell_blk h 6, cell_blk h 7⟩
set_option maxRecDepth 100000 in
set_option maxHeartbeats 32000000 in
theorem tables_in (u0 u1 u2 u3 u4 : Value) (x : Ct) (key one two : Int) (W : World) (hu : CtAt W (fun _ => True) u0 u1 u2 u3 u4 x) (y : Ct) (hm : May y) (hy : CtIn 140737488351232 y)
    (CRT : ∀ (W : World) (S : Nat → Prop) (u0 u1 u2 u3 u4 : Value), CtAt W S u0 u1 u2 u3 u4 x → Calls Try.prog 9 #[.agg #[u0, u1, u2, u3, u4]] W fun e w' => ∃ v0 v1 v2 v3 v4, e = .returned (.agg #[v0, v1, v2, v3, v4]) ∧ CtAt w' (fun k => W.heap.size ≤ k) v0 v1 v2 v3 v4 y ∧ Below W.heap.size W w')
    (hk : inB (keysOf y.table) key = true) :
    Calls Try.prog 3 #[.agg #[u0, u1, u2, u3, u4, .int .i64 key, .int .i64 one, .int .i64 two]] W fun e w' => e = .returned (.bool true) ∧ Below W.heap.size W w' := by
  obtain ⟨a0, c0, rfl, _⟩ := hu.cell.form
  obtain ⟨a1, c1, rfl, _⟩ := hu.stack.form
  obtain ⟨a2, c2, rfl, _⟩ := hu.queue.form
  obtain ⟨a3, c3, rfl, _⟩ := hu.set.form
  obtain ⟨a4, c4, rfl, _⟩ := hu.table.form
  have pw : (keysOf y.table).Pairwise (· < ·) := ris_pw.1 hm.2.2
  obtain ⟨z, hz⟩ : ∃ z, z = ({ y with table := delT y.table key } : Ct) := ⟨_, rfl⟩
  obtain ⟨gv, hgv⟩ : ∃ v, v = (y.table[plc (keysOf y.table) key]?.getD (0, 0)).2 := ⟨_, rfl⟩
  have d60 : dan y 60 key = (6, 0) := by rw [dan_60, hk]; rfl
  have n60 : ∀ d, dnx y 60 key d = y := fun d => by rw [dnx_60, hk]; rfl
  have d62 : dan y 62 key = (2, gv) := by rw [dan_62, getT_y hk, hgv]
  have d61 : dan y 61 key = (2, gv) := by rw [dan_61, getT_y hk, hgv]
  have n61 : dnx y 61 key 0 = z := by rw [dnx_61, hk, hz]; rfl
  have hzk : inB (keysOf z.table) key = false := by rw [hz]; show inB (keysOf (delT y.table key)) key = false; rw [keys_del]; exact in_del pw hk
  have mz : May z := by rw [hz]; exact may_tab hm (by rw [keys_del]; exact pw_del pw hk)
  have ef : dan z 62 key = (6, 0) := by rw [dan_62, getT_n hzk]
  have iz : CtIn 140737488351248 z := by rw [← n61]; exact dnx_in hy 61 key 0
  have hlen : z.table.length + 1 = y.table.length := by
    have hlt := inT_lt hk
    rw [hz]
    show (delT y.table key).length + 1 = _
    simp only [delT, keysOf, List.length_append, List.length_take, List.length_drop]
    omega
  have hyi := hy.mono (show 140737488351232 ≤ 225000000000000 by decide)
  have hzi := iz.mono (show 140737488351248 ≤ 225000000000000 by decide)
  have sy := hy.sm (show 140737488351232 ≤ 281474976710656 by decide)
  have sz := iz.sm (show 140737488351248 ≤ 281474976710656 by decide)
  have X0 := (Below.refl W.heap.size W).alloc (Nat.le_refl _) (.cells #[.slice a0 x.cell.length c0, .slice a1 x.stack.length c1, .slice a2 x.queue.length c2, .slice a3 x.set.length c3, .slice a4 x.table.length c4, .int .i64 key, .int .i64 one, .int .i64 two] 27 (0, 0))
  have bx0 : (W.alloc (.cells #[.slice a0 x.cell.length c0, .slice a1 x.stack.length c1, .slice a2 x.queue.length c2, .slice a3 x.set.length c3, .slice a4 x.table.length c4, .int .i64 key, .int .i64 one, .int .i64 two] 27 (0, 0))).heap[W.heap.size]? = some (.cells #[.slice a0 x.cell.length c0, .slice a1 x.stack.length c1, .slice a2 x.queue.length c2, .slice a3 x.set.length c3, .slice a4 x.table.length c4, .int .i64 key, .int .i64 one, .int .i64 two] 27 (0, 0)) := new_at W _ _ rfl
  have U0 := hu.below X0
  obtain ⟨e0, e1, e2, e3, e4, e5, e6, e7⟩ := cells8 bx0
  clear bx0 hu
  replace X0 := Mr.hid X0
  replace U0 := Mr.hid U0
  replace CRT := Mr.hid CRT
  replace hm := Mr.hid hm
  replace mz := Mr.hid mz
  replace hz := Mr.hid hz
  replace hk := Mr.hid hk
  replace hzk := Mr.hid hzk
  replace d60 := Mr.hid d60
  replace n60 := Mr.hid n60
  replace d62 := Mr.hid d62
  replace d61 := Mr.hid d61
  replace n61 := Mr.hid n61
  replace ef := Mr.hid ef
  replace hlen := Mr.hid hlen
  replace hgv := Mr.hid hgv
  go_enter Try.func3, Try.ntmps3
  go_upto_region 1 with (fail)
  have hsz0 : W.heap.size < (W.alloc (.cells #[.slice a0 x.cell.length c0, .slice a1 x.stack.length c1, .slice a2 x.queue.length c2, .slice a3 x.set.length c3, .slice a4 x.table.length c4, .int .i64 key, .int .i64 one, .int .i64 two] 27 (0, 0))).heap.size := by simp
  generalize W.alloc (.cells #[.slice a0 x.cell.length c0, .slice a1 x.stack.length c1, .slice a2 x.queue.length c2, .slice a3 x.set.length c3, .slice a4 x.table.length c4, .int .i64 key, .int .i64 one, .int .i64 two] 27 (0, 0)) = w0 at *
  have CA := fun w' (hB : Below w0.heap.size w0 w') => CRT.out _ _ _ _ _ _ _ (U0.out.below hB)
  have MT := fun (b7 : Nat) v0 v1 v2 v3 v4 (wx : World) (h1 : Below w0.heap.size w0 wx) (h2 : wx.heap[b7]? = some (ctO v0 v1 v2 v3 v4)) (h3 : CtAt wx (fun _ => True) v0 v1 v2 v3 v4 y) => (⟨⟨X0.out.trans (h1.mono X0.out.size)⟩, ⟨h2, h3⟩⟩ : Bl wx W ∧ Cb wx b7 v0 v1 v2 v3 v4 y)
  replace CA := Mr.hid CA
  replace MT := Mr.hid MT
  clear CRT
  go_cut [3, 4, 5, 6] from 7 (fun s3 s4 s5 s6 wx => ∃ (b7 : Nat) (v0 v1 v2 v3 v4 : Value), s3 = .pointer (some ⟨b7, 0, none⟩) ∧ s4 = .int .i64 key ∧ s5 = .int .i64 one ∧ s6 = .int .i64 two ∧ Bl wx W ∧ Cb wx b7 v0 v1 v2 v3 v4 y)
  case first =>
    go_region_held3 (fun w' => w'.cell? ⟨W.heap.size, 0, none⟩ = some (.slice a0 x.cell.length c0) ∧ w'.cell? ⟨W.heap.size, 1, none⟩ = some (.slice a1 x.stack.length c1) ∧ w'.cell? ⟨W.heap.size, 2, none⟩ = some (.slice a2 x.queue.length c2) ∧ w'.cell? ⟨W.heap.size, 3, none⟩ = some (.slice a3 x.set.length c3) ∧ w'.cell? ⟨W.heap.size, 4, none⟩ = some (.slice a4 x.table.length c4) ∧ w'.cell? ⟨W.heap.size, 5, none⟩ = some (.int .i64 key) ∧ w'.cell? ⟨W.heap.size, 6, none⟩ = some (.int .i64 one) ∧ w'.cell? ⟨W.heap.size, 7, none⟩ = some (.int .i64 two)) (first | with_reducible exact K5.out | go_keep) (first | (go_at_call 9; refine (CA.out _ (Below.refl _ _).drew).mono ?_; rintro e w4 ⟨v0, v1, v2, v3, v4, rfl, hat4, hB4⟩; have B4 : Below w0.heap.size w0 w4 := (((Below.refl _ _).drew).trans hB4); clear hB4 CA; obtain ⟨x0_, j0_, rfl, _⟩ := hat4.cell.form; obtain ⟨x1_, j1_, rfl, _⟩ := hat4.stack.form; obtain ⟨x2_, j2_, rfl, _⟩ := hat4.queue.form; obtain ⟨x3_, j3_, rfl, _⟩ := hat4.set.form; obtain ⟨x4_, j4_, rfl, _⟩ := hat4.table.form; have e0 := (B4.cell (p := ⟨W.heap.size, 0, none⟩) hsz0).trans e0; have e1 := (B4.cell (p := ⟨W.heap.size, 1, none⟩) hsz0).trans e1; have e2 := (B4.cell (p := ⟨W.heap.size, 2, none⟩) hsz0).trans e2; have e3 := (B4.cell (p := ⟨W.heap.size, 3, none⟩) hsz0).trans e3; have e4 := (B4.cell (p := ⟨W.heap.size, 4, none⟩) hsz0).trans e4; have e5 := (B4.cell (p := ⟨W.heap.size, 5, none⟩) hsz0).trans e5; have e6 := (B4.cell (p := ⟨W.heap.size, 6, none⟩) hsz0).trans e6; have e7 := (B4.cell (p := ⟨W.heap.size, 7, none⟩) hsz0).trans e7; have hsz4 : W.heap.size < w4.heap.size := Nat.lt_of_lt_of_le hsz0 B4.size;  have E5 := MT.out w4.heap.size _ _ _ _ _ (w4.alloc (ctO (.slice x0_ y.cell.length j0_) (.slice x1_ y.stack.length j1_) (.slice x2_ y.queue.length j2_) (.slice x3_ y.set.length j3_) (.slice x4_ y.table.length j4_))) (B4.alloc B4.size _) (new_at _ _ _ rfl) ((hat4.mono (fun _ _ => trivial)).below ((Below.refl _ _).alloc (Nat.le_refl _) _)); clear hat4; unfold ctO at E5; replace E5 := Mr.hid E5; replace B4 := Mr.hid B4) | (go_at_call 9; refine (CA.out _ ((Below.refl _ _).alloc (Nat.le_refl _) _).drew).mono ?_; rintro e w4 ⟨v0, v1, v2, v3, v4, rfl, hat4, hB4⟩; have B4 : Below w0.heap.size w0 w4 := (((Below.refl _ _).alloc (Nat.le_refl _) _).drew.trans (hB4.mono (by simp))); have bx4 := (hB4.block w0.heap.size (by simp)).trans (new_at w0 nil5 _ rfl); clear hB4 CA; obtain ⟨h0, h1, h2, h3, h4, hl4⟩ := ctO_cells bx4; obtain ⟨i0, i1, i2, i3, i4⟩ := ctO_thaw bx4; obtain ⟨x0_, j0_, rfl, _⟩ := hat4.cell.form; obtain ⟨x1_, j1_, rfl, _⟩ := hat4.stack.form; obtain ⟨x2_, j2_, rfl, _⟩ := hat4.queue.form; obtain ⟨x3_, j3_, rfl, _⟩ := hat4.set.form; obtain ⟨x4_, j4_, rfl, _⟩ := hat4.table.form; have e0 := (B4.cell (p := ⟨W.heap.size, 0, none⟩) hsz0).trans e0; have e1 := (B4.cell (p := ⟨W.heap.size, 1, none⟩) hsz0).trans e1; have e2 := (B4.cell (p := ⟨W.heap.size, 2, none⟩) hsz0).trans e2; have e3 := (B4.cell (p := ⟨W.heap.size, 3, none⟩) hsz0).trans e3; have e4 := (B4.cell (p := ⟨W.heap.size, 4, none⟩) hsz0).trans e4; have e5 := (B4.cell (p := ⟨W.heap.size, 5, none⟩) hsz0).trans e5; have e6 := (B4.cell (p := ⟨W.heap.size, 6, none⟩) hsz0).trans e6; have e7 := (B4.cell (p := ⟨W.heap.size, 7, none⟩) hsz0).trans e7; have hsz4 : W.heap.size < w4.heap.size := Nat.lt_of_lt_of_le hsz0 B4.size;  have E5 := MT.out w0.heap.size _ _ _ _ _ (set5 w4 w0.heap.size (.slice x0_ y.cell.length j0_) (.slice x1_ y.stack.length j1_) (.slice x2_ y.queue.length j2_) (.slice x3_ y.set.length j3_) (.slice x4_ y.table.length j4_)) (set5_below _ _ _ _ _ B4 (Nat.le_refl _)) (set5_at _ _ _ _ _ bx4) ((hat4.mono (T' := fun k => w0.heap.size + 1 ≤ k) (fun k hk => by simpa using hk)).fr (set5_fr w4 w0.heap.size _ _ _ _ _) (fun k hk _ e => by subst e; omega) |>.mono (fun _ _ => trivial)); have K5 := And.intro (far5 (b := w0.heap.size) (v0 := (.slice x0_ y.cell.length j0_)) (v1 := (.slice x1_ y.stack.length j1_)) (v2 := (.slice x2_ y.queue.length j2_)) (v3 := (.slice x3_ y.set.length j3_)) (v4 := (.slice x4_ y.table.length j4_)) e0 (by omega)) (And.intro (far5 (b := w0.heap.size) (v0 := (.slice x0_ y.cell.length j0_)) (v1 := (.slice x1_ y.stack.length j1_)) (v2 := (.slice x2_ y.queue.length j2_)) (v3 := (.slice x3_ y.set.length j3_)) (v4 := (.slice x4_ y.table.length j4_)) e1 (by omega)) (And.intro (far5 (b := w0.heap.size) (v0 := (.slice x0_ y.cell.length j0_)) (v1 := (.slice x1_ y.stack.length j1_)) (v2 := (.slice x2_ y.queue.length j2_)) (v3 := (.slice x3_ y.set.length j3_)) (v4 := (.slice x4_ y.table.length j4_)) e2 (by omega)) (And.intro (far5 (b := w0.heap.size) (v0 := (.slice x0_ y.cell.length j0_)) (v1 := (.slice x1_ y.stack.length j1_)) (v2 := (.slice x2_ y.queue.length j2_)) (v3 := (.slice x3_ y.set.length j3_)) (v4 := (.slice x4_ y.table.length j4_)) e3 (by omega)) (And.intro (far5 (b := w0.heap.size) (v0 := (.slice x0_ y.cell.length j0_)) (v1 := (.slice x1_ y.stack.length j1_)) (v2 := (.slice x2_ y.queue.length j2_)) (v3 := (.slice x3_ y.set.length j3_)) (v4 := (.slice x4_ y.table.length j4_)) e4 (by omega)) (And.intro (far5 (b := w0.heap.size) (v0 := (.slice x0_ y.cell.length j0_)) (v1 := (.slice x1_ y.stack.length j1_)) (v2 := (.slice x2_ y.queue.length j2_)) (v3 := (.slice x3_ y.set.length j3_)) (v4 := (.slice x4_ y.table.length j4_)) e5 (by omega)) (And.intro (far5 (b := w0.heap.size) (v0 := (.slice x0_ y.cell.length j0_)) (v1 := (.slice x1_ y.stack.length j1_)) (v2 := (.slice x2_ y.queue.length j2_)) (v3 := (.slice x3_ y.set.length j3_)) (v4 := (.slice x4_ y.table.length j4_)) e6 (by omega)) (far5 (b := w0.heap.size) (v0 := (.slice x0_ y.cell.length j0_)) (v1 := (.slice x1_ y.stack.length j1_)) (v2 := (.slice x2_ y.queue.length j2_)) (v3 := (.slice x3_ y.set.length j3_)) (v4 := (.slice x4_ y.table.length j4_)) e7 (by omega)))))))); unfold set5 at K5; replace K5 := Mr.hid K5; clear hat4 bx4; unfold set5 at E5; replace E5 := Mr.hid E5; replace B4 := Mr.hid B4))
    all_goals
      go_wp2
      go_meet
      case rel => exact ⟨_, _, _, _, _, _, rfl, rfl, rfl, rfl, E5.out⟩
  case rest =>
    obtain ⟨b3, v0, v1, v2, v3, v4, rfl, rfl, rfl, rfl, hD, hS⟩ := hcut
    clear MT CA X0 U0 e0 e1 e2 e3 e4 e5 e6 e7 hsz0
    obtain ⟨x0_, j0_, rfl, _⟩ := hS.at_.cell.form
    obtain ⟨x1_, j1_, rfl, _⟩ := hS.at_.stack.form
    obtain ⟨x2_, j2_, rfl, _⟩ := hS.at_.queue.form
    obtain ⟨x3_, j3_, rfl, _⟩ := hS.at_.set.form
    obtain ⟨x4_, j4_, rfl, _⟩ := hS.at_.table.form
    replace hD := Mr.hid hD
    replace hS := Mr.hid hS
    have C := mDo_any hS.out.at_ (hyi) (hm.out) 60 key one (by decide)
    rw [d60.out, n60.out] at C
    replace C := Mr.hid C
    obtain ⟨e0, e1, e2, e3, e4, el⟩ := ctO_cells hS.out.box
    go_upto_region 3 with (first | (go_at_call 10; refine C.out.mono ?_; clear C; rintro e y1 ⟨v0, v1, v2, v3, v4, rfl, hl, hB⟩; unfold ans; obtain ⟨z1_0, m1_0, rfl, _⟩ := hl.cell.form; obtain ⟨z1_1, m1_1, rfl, _⟩ := hl.stack.form; obtain ⟨z1_2, m1_2, rfl, _⟩ := hl.queue.form; obtain ⟨z1_3, m1_3, rfl, _⟩ := hl.set.form; obtain ⟨z1_4, m1_4, rfl, _⟩ := hl.table.form;  clear e0 e1 e2 e3 e4 el; replace hl := Mr.hid hl; replace hB := Mr.hid hB))
    obtain ⟨x1, hM⟩ : ∃ w', w' = (y1.alloc (ctO (.slice z1_0 y.cell.length m1_0) (.slice z1_1 y.stack.length m1_1) (.slice z1_2 y.queue.length m1_2) (.slice z1_3 y.set.length m1_3) (.slice z1_4 y.table.length m1_4))).alloc (ansO 6 0) := ⟨_, rfl⟩
    obtain ⟨Z, fstc, fsta⟩ := made hM hB.out hl.out
    rw [show (y1.alloc (.cells #[.slice z1_0 y.cell.length m1_0, .slice z1_1 y.stack.length m1_1, .slice z1_2 y.queue.length m1_2, .slice z1_3 y.set.length m1_3, .slice z1_4 y.table.length m1_4] 25 (0, 0))).alloc (.cells #[.int .i64 6, .int .i64 0] 31 (0, 0)) = x1 from by rw [hM]; rfl]
    obtain ⟨b1, hb⟩ : ∃ b, b = y1.heap.size := ⟨_, rfl⟩
    rw [← hb] at fstc fsta ⊢
    replace hD := Mr.hid (hD.out.next Z)
    replace hS := Mr.hid (hS.out.next Z)
    replace fstc := Mr.hid fstc
    replace fsta := Mr.hid fsta
    clear Z hM hb hl hB
    have C := mDo_any fstc.out.at_ (hyi) (hm.out) 60 key two (by decide)
    rw [d60.out, n60.out] at C
    replace C := Mr.hid C
    obtain ⟨e0, e1, e2, e3, e4, el⟩ := ctO_cells fstc.out.box
    go_upto_region 4 with (first | (go_at_call 10; refine C.out.mono ?_; clear C; rintro e y2 ⟨v0, v1, v2, v3, v4, rfl, hl, hB⟩; unfold ans; obtain ⟨z2_0, m2_0, rfl, _⟩ := hl.cell.form; obtain ⟨z2_1, m2_1, rfl, _⟩ := hl.stack.form; obtain ⟨z2_2, m2_2, rfl, _⟩ := hl.queue.form; obtain ⟨z2_3, m2_3, rfl, _⟩ := hl.set.form; obtain ⟨z2_4, m2_4, rfl, _⟩ := hl.table.form;  clear e0 e1 e2 e3 e4 el; replace hl := Mr.hid hl; replace hB := Mr.hid hB))
    obtain ⟨x2, hM⟩ : ∃ w', w' = (y2.alloc (ctO (.slice z2_0 y.cell.length m2_0) (.slice z2_1 y.stack.length m2_1) (.slice z2_2 y.queue.length m2_2) (.slice z2_3 y.set.length m2_3) (.slice z2_4 y.table.length m2_4))).alloc (ansO 6 0) := ⟨_, rfl⟩
    obtain ⟨Z, sndc, snda⟩ := made hM hB.out hl.out
    rw [show (y2.alloc (.cells #[.slice z2_0 y.cell.length m2_0, .slice z2_1 y.stack.length m2_1, .slice z2_2 y.queue.length m2_2, .slice z2_3 y.set.length m2_3, .slice z2_4 y.table.length m2_4] 25 (0, 0))).alloc (.cells #[.int .i64 6, .int .i64 0] 31 (0, 0)) = x2 from by rw [hM]; rfl]
    obtain ⟨b2, hb⟩ : ∃ b, b = y2.heap.size := ⟨_, rfl⟩
    rw [← hb] at sndc snda ⊢
    replace hD := Mr.hid (hD.out.next Z)
    replace hS := Mr.hid (hS.out.next Z)
    replace fstc := Mr.hid (fstc.out.next Z)
    replace fsta := Mr.hid (fsta.out.next Z)
    replace sndc := Mr.hid sndc
    replace snda := Mr.hid snda
    clear Z hM hb hl hB
    have C := mDo_any sndc.out.at_ (hyi) (hm.out) 62 key 0 (by decide)
    rw [d62.out, show dnx y 62 key 0 = y from rfl] at C
    replace C := Mr.hid C
    obtain ⟨e0, e1, e2, e3, e4, el⟩ := ctO_cells sndc.out.box
    go_upto_region 5 with (first | (go_at_call 10; refine C.out.mono ?_; clear C; rintro e y3 ⟨v0, v1, v2, v3, v4, rfl, hl, hB⟩; unfold ans; obtain ⟨z3_0, m3_0, rfl, _⟩ := hl.cell.form; obtain ⟨z3_1, m3_1, rfl, _⟩ := hl.stack.form; obtain ⟨z3_2, m3_2, rfl, _⟩ := hl.queue.form; obtain ⟨z3_3, m3_3, rfl, _⟩ := hl.set.form; obtain ⟨z3_4, m3_4, rfl, _⟩ := hl.table.form;  clear e0 e1 e2 e3 e4 el; replace hl := Mr.hid hl; replace hB := Mr.hid hB))
    obtain ⟨x3, hM⟩ : ∃ w', w' = (y3.alloc (ctO (.slice z3_0 y.cell.length m3_0) (.slice z3_1 y.stack.length m3_1) (.slice z3_2 y.queue.length m3_2) (.slice z3_3 y.set.length m3_3) (.slice z3_4 y.table.length m3_4))).alloc (ansO 2 gv) := ⟨_, rfl⟩
    obtain ⟨Z, gotc, gota⟩ := made hM hB.out hl.out
    rw [show (y3.alloc (.cells #[.slice z3_0 y.cell.length m3_0, .slice z3_1 y.stack.length m3_1, .slice z3_2 y.queue.length m3_2, .slice z3_3 y.set.length m3_3, .slice z3_4 y.table.length m3_4] 25 (0, 0))).alloc (.cells #[.int .i64 2, .int .i64 gv] 31 (0, 0)) = x3 from by rw [hM]; rfl]
    obtain ⟨b3, hb⟩ : ∃ b, b = y3.heap.size := ⟨_, rfl⟩
    rw [← hb] at gotc gota ⊢
    replace hD := Mr.hid (hD.out.next Z)
    replace hS := Mr.hid (hS.out.next Z)
    replace fstc := Mr.hid (fstc.out.next Z)
    replace fsta := Mr.hid (fsta.out.next Z)
    replace sndc := Mr.hid (sndc.out.next Z)
    replace snda := Mr.hid (snda.out.next Z)
    replace gotc := Mr.hid gotc
    replace gota := Mr.hid gota
    clear Z hM hb hl hB
    have C := mDo_any sndc.out.at_ (hyi) (hm.out) 61 key 0 (by decide)
    rw [d61.out, n61.out] at C
    replace C := Mr.hid C
    obtain ⟨e0, e1, e2, e3, e4, el⟩ := ctO_cells sndc.out.box
    go_upto_region 6 with (first | (go_at_call 10; refine C.out.mono ?_; clear C; rintro e y4 ⟨v0, v1, v2, v3, v4, rfl, hl, hB⟩; unfold ans; obtain ⟨z4_0, m4_0, rfl, _⟩ := hl.cell.form; obtain ⟨z4_1, m4_1, rfl, _⟩ := hl.stack.form; obtain ⟨z4_2, m4_2, rfl, _⟩ := hl.queue.form; obtain ⟨z4_3, m4_3, rfl, _⟩ := hl.set.form; obtain ⟨z4_4, m4_4, rfl, _⟩ := hl.table.form;  clear e0 e1 e2 e3 e4 el; replace hl := Mr.hid hl; replace hB := Mr.hid hB))
    obtain ⟨x4, hM⟩ : ∃ w', w' = (y4.alloc (ctO (.slice z4_0 z.cell.length m4_0) (.slice z4_1 z.stack.length m4_1) (.slice z4_2 z.queue.length m4_2) (.slice z4_3 z.set.length m4_3) (.slice z4_4 z.table.length m4_4))).alloc (ansO 2 gv) := ⟨_, rfl⟩
    obtain ⟨Z, outc, outa⟩ := made hM hB.out hl.out
    rw [show (y4.alloc (.cells #[.slice z4_0 z.cell.length m4_0, .slice z4_1 z.stack.length m4_1, .slice z4_2 z.queue.length m4_2, .slice z4_3 z.set.length m4_3, .slice z4_4 z.table.length m4_4] 25 (0, 0))).alloc (.cells #[.int .i64 2, .int .i64 gv] 31 (0, 0)) = x4 from by rw [hM]; rfl]
    obtain ⟨b4, hb⟩ : ∃ b, b = y4.heap.size := ⟨_, rfl⟩
    rw [← hb] at outc outa ⊢
    replace hD := Mr.hid (hD.out.next Z)
    replace hS := Mr.hid (hS.out.next Z)
    replace fstc := Mr.hid (fstc.out.next Z)
    replace fsta := Mr.hid (fsta.out.next Z)
    replace sndc := Mr.hid (sndc.out.next Z)
    replace snda := Mr.hid (snda.out.next Z)
    replace gotc := Mr.hid (gotc.out.next Z)
    replace gota := Mr.hid (gota.out.next Z)
    replace outc := Mr.hid outc
    replace outa := Mr.hid outa
    clear Z hM hb hl hB
    have C := mDo_any outc.out.at_ (hzi) (mz.out) 62 key 0 (by decide)
    rw [ef.out, show dnx z 62 key 0 = z from rfl] at C
    replace C := Mr.hid C
    obtain ⟨e0, e1, e2, e3, e4, el⟩ := ctO_cells outc.out.box
    go_upto_region 7 with (first | (go_at_call 10; refine C.out.mono ?_; clear C; rintro e y5 ⟨v0, v1, v2, v3, v4, rfl, hl, hB⟩; unfold ans; obtain ⟨z5_0, m5_0, rfl, _⟩ := hl.cell.form; obtain ⟨z5_1, m5_1, rfl, _⟩ := hl.stack.form; obtain ⟨z5_2, m5_2, rfl, _⟩ := hl.queue.form; obtain ⟨z5_3, m5_3, rfl, _⟩ := hl.set.form; obtain ⟨z5_4, m5_4, rfl, _⟩ := hl.table.form;  clear e0 e1 e2 e3 e4 el; replace hl := Mr.hid hl; replace hB := Mr.hid hB))
    obtain ⟨x5, hM⟩ : ∃ w', w' = (y5.alloc (ctO (.slice z5_0 z.cell.length m5_0) (.slice z5_1 z.stack.length m5_1) (.slice z5_2 z.queue.length m5_2) (.slice z5_3 z.set.length m5_3) (.slice z5_4 z.table.length m5_4))).alloc (ansO 6 0) := ⟨_, rfl⟩
    obtain ⟨Z, nonc, nona⟩ := made hM hB.out hl.out
    rw [show (y5.alloc (.cells #[.slice z5_0 z.cell.length m5_0, .slice z5_1 z.stack.length m5_1, .slice z5_2 z.queue.length m5_2, .slice z5_3 z.set.length m5_3, .slice z5_4 z.table.length m5_4] 25 (0, 0))).alloc (.cells #[.int .i64 6, .int .i64 0] 31 (0, 0)) = x5 from by rw [hM]; rfl]
    obtain ⟨b5, hb⟩ : ∃ b, b = y5.heap.size := ⟨_, rfl⟩
    rw [← hb] at nonc nona ⊢
    replace hD := Mr.hid (hD.out.next Z)
    replace hS := Mr.hid (hS.out.next Z)
    replace fstc := Mr.hid (fstc.out.next Z)
    replace fsta := Mr.hid (fsta.out.next Z)
    replace sndc := Mr.hid (sndc.out.next Z)
    replace snda := Mr.hid (snda.out.next Z)
    replace gotc := Mr.hid (gotc.out.next Z)
    replace gota := Mr.hid (gota.out.next Z)
    replace outc := Mr.hid (outc.out.next Z)
    replace outa := Mr.hid (outa.out.next Z)
    replace nonc := Mr.hid nonc
    replace nona := Mr.hid nona
    clear Z hM hb hl hB
    have t0 : Hid True := trivial
    have t1 : Hid True := trivial
    have t2 : Hid True := trivial
    have bv : (gv == gv) = true := by simp
    have bw : (gv != gv) = false := by simp
    go_upto_region 13 with (first | (clear t0; go_at_call 11; refine (awake_any _).mono ?_; rintro e w8 ⟨rfl, hB⟩; have hD := Mr.hid (hD.out.next hB); have hS := Mr.hid (hS.out.next hB); have fstc := Mr.hid (fstc.out.next hB); have fsta := Mr.hid (fsta.out.next hB); have sndc := Mr.hid (sndc.out.next hB); have snda := Mr.hid (snda.out.next hB); have gotc := Mr.hid (gotc.out.next hB); have gota := Mr.hid (gota.out.next hB); have outc := Mr.hid (outc.out.next hB); have outa := Mr.hid (outa.out.next hB); have nonc := Mr.hid (nonc.out.next hB); have nona := Mr.hid (nona.out.next hB); clear hB; obtain ⟨q0_0, q0_1, q0_2, q0_3, q0_4, q0_5⟩ := ctO_cells fstc.out.box; obtain ⟨q1_0, q1_1, q1_2, q1_3, q1_4, q1_5⟩ := ctO_cells hS.out.box; obtain ⟨q2_0, q2_1, q2_2, q2_3, q2_4, q2_5⟩ := ctO_cells sndc.out.box; obtain ⟨q3_0, q3_1, q3_2, q3_3, q3_4, q3_5⟩ := ctO_cells outc.out.box; obtain ⟨r0_0, r0_1, r0_2, -, -⟩ := ansO_cells fsta.out.box; obtain ⟨r1_0, r1_1, r1_2, -, -⟩ := ansO_cells snda.out.box; obtain ⟨r2_0, r2_1, r2_2, -, -⟩ := ansO_cells gota.out.box; obtain ⟨r3_0, r3_1, r3_2, -, -⟩ := ansO_cells outa.out.box; obtain ⟨r4_0, r4_1, r4_2, -, -⟩ := ansO_cells nona.out.box) | (clear t1; go_at_call 12; refine (sameT fstc.out sndc.out sy).mono ?_; clear q0_0 q0_1 q0_2 q0_3 q0_4 q0_5 q1_0 q1_1 q1_2 q1_3 q1_4 q1_5 q2_0 q2_1 q2_2 q2_3 q2_4 q2_5 q3_0 q3_1 q3_2 q3_3 q3_4 q3_5; clear r0_0 r0_1 r0_2 r1_0 r1_1 r1_2 r2_0 r2_1 r2_2 r3_0 r3_1 r3_2 r4_0 r4_1 r4_2; rintro e w9 ⟨rfl, hB⟩; have hD := Mr.hid (hD.out.next hB); have hS := Mr.hid (hS.out.next hB); have fstc := Mr.hid (fstc.out.next hB); have fsta := Mr.hid (fsta.out.next hB); have sndc := Mr.hid (sndc.out.next hB); have snda := Mr.hid (snda.out.next hB); have gotc := Mr.hid (gotc.out.next hB); have gota := Mr.hid (gota.out.next hB); have outc := Mr.hid (outc.out.next hB); have outa := Mr.hid (outa.out.next hB); have nonc := Mr.hid (nonc.out.next hB); have nona := Mr.hid (nona.out.next hB); clear hB; obtain ⟨q0_0, q0_1, q0_2, q0_3, q0_4, q0_5⟩ := ctO_cells fstc.out.box; obtain ⟨q1_0, q1_1, q1_2, q1_3, q1_4, q1_5⟩ := ctO_cells hS.out.box; obtain ⟨q2_0, q2_1, q2_2, q2_3, q2_4, q2_5⟩ := ctO_cells sndc.out.box; obtain ⟨q3_0, q3_1, q3_2, q3_3, q3_4, q3_5⟩ := ctO_cells outc.out.box; obtain ⟨r0_0, r0_1, r0_2, -, -⟩ := ansO_cells fsta.out.box; obtain ⟨r1_0, r1_1, r1_2, -, -⟩ := ansO_cells snda.out.box; obtain ⟨r2_0, r2_1, r2_2, -, -⟩ := ansO_cells gota.out.box; obtain ⟨r3_0, r3_1, r3_2, -, -⟩ := ansO_cells outa.out.box; obtain ⟨r4_0, r4_1, r4_2, -, -⟩ := ansO_cells nona.out.box) | (clear t2; go_at_call 13; refine (mayT outc.out sz mz.out).mono ?_; clear q0_0 q0_1 q0_2 q0_3 q0_4 q0_5 q1_0 q1_1 q1_2 q1_3 q1_4 q1_5 q2_0 q2_1 q2_2 q2_3 q2_4 q2_5 q3_0 q3_1 q3_2 q3_3 q3_4 q3_5; clear r0_0 r0_1 r0_2 r1_0 r1_1 r1_2 r2_0 r2_1 r2_2 r3_0 r3_1 r3_2 r4_0 r4_1 r4_2; rintro e w10 ⟨rfl, hB⟩; have hD := Mr.hid (hD.out.next hB); have hS := Mr.hid (hS.out.next hB); have fstc := Mr.hid (fstc.out.next hB); have fsta := Mr.hid (fsta.out.next hB); have sndc := Mr.hid (sndc.out.next hB); have snda := Mr.hid (snda.out.next hB); have gotc := Mr.hid (gotc.out.next hB); have gota := Mr.hid (gota.out.next hB); have outc := Mr.hid (outc.out.next hB); have outa := Mr.hid (outa.out.next hB); have nonc := Mr.hid (nonc.out.next hB); have nona := Mr.hid (nona.out.next hB); clear hB; obtain ⟨q0_0, q0_1, q0_2, q0_3, q0_4, q0_5⟩ := ctO_cells fstc.out.box; obtain ⟨q1_0, q1_1, q1_2, q1_3, q1_4, q1_5⟩ := ctO_cells hS.out.box; obtain ⟨q2_0, q2_1, q2_2, q2_3, q2_4, q2_5⟩ := ctO_cells sndc.out.box; obtain ⟨q3_0, q3_1, q3_2, q3_3, q3_4, q3_5⟩ := ctO_cells outc.out.box; obtain ⟨r0_0, r0_1, r0_2, -, -⟩ := ansO_cells fsta.out.box; obtain ⟨r1_0, r1_1, r1_2, -, -⟩ := ansO_cells snda.out.box; obtain ⟨r2_0, r2_1, r2_2, -, -⟩ := ansO_cells gota.out.box; obtain ⟨r3_0, r3_1, r3_2, -, -⟩ := ansO_cells outa.out.box; obtain ⟨r4_0, r4_1, r4_2, -, -⟩ := ansO_cells nona.out.box))
    clear q0_0 q0_1 q0_2 q0_3 q0_4 q0_5 q1_0 q1_1 q1_2 q1_3 q1_4 q1_5 q2_0 q2_1 q2_2 q2_3 q2_4 q2_5 q3_0 q3_1 q3_2 q3_3 q3_4 q3_5
    clear r0_0 r0_1 r0_2 r1_0 r1_1 r1_2 r2_0 r2_1 r2_2 r3_0 r3_1 r3_2 r4_0 r4_1 r4_2
    have C := mDo_any hS.out.at_ (hyi) (hm.out) 62 key 0 (by decide)
    rw [d62.out, show dnx y 62 key 0 = y from rfl] at C
    replace C := Mr.hid C
    obtain ⟨e0, e1, e2, e3, e4, el⟩ := ctO_cells hS.out.box
    go_upto_region 14 with (first | (go_at_call 10; refine C.out.mono ?_; clear C; rintro e y6 ⟨v0, v1, v2, v3, v4, rfl, hl, hB⟩; unfold ans; obtain ⟨z6_0, m6_0, rfl, _⟩ := hl.cell.form; obtain ⟨z6_1, m6_1, rfl, _⟩ := hl.stack.form; obtain ⟨z6_2, m6_2, rfl, _⟩ := hl.queue.form; obtain ⟨z6_3, m6_3, rfl, _⟩ := hl.set.form; obtain ⟨z6_4, m6_4, rfl, _⟩ := hl.table.form;  clear e0 e1 e2 e3 e4 el; replace hl := Mr.hid hl; replace hB := Mr.hid hB))
    obtain ⟨x6, hM⟩ : ∃ w', w' = (y6.alloc (ctO (.slice z6_0 y.cell.length m6_0) (.slice z6_1 y.stack.length m6_1) (.slice z6_2 y.queue.length m6_2) (.slice z6_3 y.set.length m6_3) (.slice z6_4 y.table.length m6_4))).alloc (ansO 2 gv) := ⟨_, rfl⟩
    obtain ⟨Z, oldc, olda⟩ := made hM hB.out hl.out
    rw [show (y6.alloc (.cells #[.slice z6_0 y.cell.length m6_0, .slice z6_1 y.stack.length m6_1, .slice z6_2 y.queue.length m6_2, .slice z6_3 y.set.length m6_3, .slice z6_4 y.table.length m6_4] 25 (0, 0))).alloc (.cells #[.int .i64 2, .int .i64 gv] 31 (0, 0)) = x6 from by rw [hM]; rfl]
    obtain ⟨b6, hb⟩ : ∃ b, b = y6.heap.size := ⟨_, rfl⟩
    rw [← hb] at oldc olda ⊢
    replace hD := Mr.hid (hD.out.next Z)
    replace hS := Mr.hid (hS.out.next Z)
    replace fstc := Mr.hid (fstc.out.next Z)
    replace fsta := Mr.hid (fsta.out.next Z)
    replace sndc := Mr.hid (sndc.out.next Z)
    replace snda := Mr.hid (snda.out.next Z)
    replace gotc := Mr.hid (gotc.out.next Z)
    replace gota := Mr.hid (gota.out.next Z)
    replace outc := Mr.hid (outc.out.next Z)
    replace outa := Mr.hid (outa.out.next Z)
    replace nonc := Mr.hid (nonc.out.next Z)
    replace nona := Mr.hid (nona.out.next Z)
    replace oldc := Mr.hid oldc
    replace olda := Mr.hid olda
    clear Z hM hb hl hB
    obtain ⟨r0_0, r0_1, r0_2, -, -⟩ := ansO_cells fsta.out.box
    obtain ⟨r1_0, r1_1, r1_2, -, -⟩ := ansO_cells olda.out.box
    obtain ⟨r2_0, r2_1, r2_2, -, -⟩ := ansO_cells gota.out.box
    obtain ⟨r3_0, r3_1, r3_2, r3_3, r3_4, r3_5⟩ := ctO_cells outc.out.box
    obtain ⟨r4_0, r4_1, r4_2, r4_3, r4_4, r4_5⟩ := ctO_cells hS.out.box
    have hw1 : IntKind.i64.wrap ((z.table.length : Int) + 1) = (y.table.length : Int) := by
      have := hlen.out
      have := hyi.table
      rw [show (z.table.length : Int) + 1 = (y.table.length : Int) from by omega]
      exact i64w _ (by omega) (by omega)
    have hw2 : ((z.table.length : Int) + 1 == (y.table.length : Int)) = true := by have := hlen.out; rw [beq_iff_eq]; omega
    have hw3 : ((y.table.length : Int) == (y.table.length : Int)) = true := by simp
    have hw4 : (z.table.length + 1 == y.table.length) = true := by have := hlen.out; rw [beq_iff_eq]; omega
    have hw5 : (y.table.length == y.table.length) = true := by simp
    go_wp2
    go_ret
    exact ⟨rfl, hD.out.bel⟩
set_option maxRecDepth 100000 in
set_option maxHeartbeats 32000000 in
theorem tables_out (u0 u1 u2 u3 u4 : Value) (x : Ct) (key one two : Int) (W : World) (hu : CtAt W (fun _ => True) u0 u1 u2 u3 u4 x) (y : Ct) (hm : May y) (hy : CtIn 140737488351232 y)
    (CRT : ∀ (W : World) (S : Nat → Prop) (u0 u1 u2 u3 u4 : Value), CtAt W S u0 u1 u2 u3 u4 x → Calls Try.prog 9 #[.agg #[u0, u1, u2, u3, u4]] W fun e w' => ∃ v0 v1 v2 v3 v4, e = .returned (.agg #[v0, v1, v2, v3, v4]) ∧ CtAt w' (fun k => W.heap.size ≤ k) v0 v1 v2 v3 v4 y ∧ Below W.heap.size W w')
    (hk : inB (keysOf y.table) key = false) :
    Calls Try.prog 3 #[.agg #[u0, u1, u2, u3, u4, .int .i64 key, .int .i64 one, .int .i64 two]] W fun e w' => e = .returned (.bool true) ∧ Below W.heap.size W w' := by
  obtain ⟨a0, c0, rfl, _⟩ := hu.cell.form
  obtain ⟨a1, c1, rfl, _⟩ := hu.stack.form
  obtain ⟨a2, c2, rfl, _⟩ := hu.queue.form
  obtain ⟨a3, c3, rfl, _⟩ := hu.set.form
  obtain ⟨a4, c4, rfl, _⟩ := hu.table.form
  have pw : (keysOf y.table).Pairwise (· < ·) := ris_pw.1 hm.2.2
  obtain ⟨z, hz⟩ : ∃ z, z = ({ y with table := insT y.table key one } : Ct) := ⟨_, rfl⟩
  have d60 : dan y 60 key = (5, 0) := by rw [dan_60, hk]; rfl
  have n60 : dnx y 60 key one = z := by rw [dnx_60, hk, hz]; rfl
  have hzk : inB (keysOf z.table) key = true := by rw [hz]; show inB (keysOf (insT y.table key one)) key = true; rw [keys_ins]; exact in_ins _ _
  have mz : May z := by rw [hz]; exact may_tab hm (by rw [keys_ins]; exact pw_ins pw hk)
  have e60 : dan z 60 key = (6, 0) := by rw [dan_60, hzk]; rfl
  have m60 : dnx z 60 key two = z := by rw [dnx_60, hzk]; rfl
  have gz : getT z.table key = (2, one) := by rw [hz]; exact getT_ins _ _ _
  have d62 : dan z 62 key = (2, one) := by rw [dan_62, gz]
  have d61 : dan z 61 key = (2, one) := by rw [dan_61, gz]
  have n61 : dnx z 61 key 0 = y := by rw [dnx_61, hzk, hz]; show { y with table := delT (insT y.table key one) key } = y; rw [delT_insT]
  have ef : dan y 62 key = (6, 0) := by rw [dan_62, getT_n hk]
  have iz : CtIn 140737488351248 z := by rw [← n60]; exact dnx_in hy 60 key one
  have hyi := hy.mono (show 140737488351232 ≤ 225000000000000 by decide)
  have hzi := iz.mono (show 140737488351248 ≤ 225000000000000 by decide)
  have sy := hy.sm (show 140737488351232 ≤ 281474976710656 by decide)
  have sz := iz.sm (show 140737488351248 ≤ 281474976710656 by decide)
  have X0 := (Below.refl W.heap.size W).alloc (Nat.le_refl _) (.cells #[.slice a0 x.cell.length c0, .slice a1 x.stack.length c1, .slice a2 x.queue.length c2, .slice a3 x.set.length c3, .slice a4 x.table.length c4, .int .i64 key, .int .i64 one, .int .i64 two] 27 (0, 0))
  have bx0 : (W.alloc (.cells #[.slice a0 x.cell.length c0, .slice a1 x.stack.length c1, .slice a2 x.queue.length c2, .slice a3 x.set.length c3, .slice a4 x.table.length c4, .int .i64 key, .int .i64 one, .int .i64 two] 27 (0, 0))).heap[W.heap.size]? = some (.cells #[.slice a0 x.cell.length c0, .slice a1 x.stack.length c1, .slice a2 x.queue.length c2, .slice a3 x.set.length c3, .slice a4 x.table.length c4, .int .i64 key, .int .i64 one, .int .i64 two] 27 (0, 0)) := new_at W _ _ rfl
  have U0 := hu.below X0
  obtain ⟨e0, e1, e2, e3, e4, e5, e6, e7⟩ := cells8 bx0
  clear bx0 hu
  replace X0 := Mr.hid X0
  replace U0 := Mr.hid U0
  replace CRT := Mr.hid CRT
  replace hm := Mr.hid hm
  replace mz := Mr.hid mz
  replace hz := Mr.hid hz
  replace hk := Mr.hid hk
  replace hzk := Mr.hid hzk
  replace d60 := Mr.hid d60
  replace n60 := Mr.hid n60
  replace d62 := Mr.hid d62
  replace d61 := Mr.hid d61
  replace n61 := Mr.hid n61
  replace ef := Mr.hid ef
  replace e60 := Mr.hid e60
  replace m60 := Mr.hid m60
  replace gz := Mr.hid gz
  go_enter Try.func3, Try.ntmps3
  go_upto_region 1 with (fail)
  have hsz0 : W.heap.size < (W.alloc (.cells #[.slice a0 x.cell.length c0, .slice a1 x.stack.length c1, .slice a2 x.queue.length c2, .slice a3 x.set.length c3, .slice a4 x.table.length c4, .int .i64 key, .int .i64 one, .int .i64 two] 27 (0, 0))).heap.size := by simp
  generalize W.alloc (.cells #[.slice a0 x.cell.length c0, .slice a1 x.stack.length c1, .slice a2 x.queue.length c2, .slice a3 x.set.length c3, .slice a4 x.table.length c4, .int .i64 key, .int .i64 one, .int .i64 two] 27 (0, 0)) = w0 at *
  have CA := fun w' (hB : Below w0.heap.size w0 w') => CRT.out _ _ _ _ _ _ _ (U0.out.below hB)
  have MT := fun (b7 : Nat) v0 v1 v2 v3 v4 (wx : World) (h1 : Below w0.heap.size w0 wx) (h2 : wx.heap[b7]? = some (ctO v0 v1 v2 v3 v4)) (h3 : CtAt wx (fun _ => True) v0 v1 v2 v3 v4 y) => (⟨⟨X0.out.trans (h1.mono X0.out.size)⟩, ⟨h2, h3⟩⟩ : Bl wx W ∧ Cb wx b7 v0 v1 v2 v3 v4 y)
  replace CA := Mr.hid CA
  replace MT := Mr.hid MT
  clear CRT
  go_cut [3, 4, 5, 6] from 7 (fun s3 s4 s5 s6 wx => ∃ (b7 : Nat) (v0 v1 v2 v3 v4 : Value), s3 = .pointer (some ⟨b7, 0, none⟩) ∧ s4 = .int .i64 key ∧ s5 = .int .i64 one ∧ s6 = .int .i64 two ∧ Bl wx W ∧ Cb wx b7 v0 v1 v2 v3 v4 y)
  case first =>
    go_region_held3 (fun w' => w'.cell? ⟨W.heap.size, 0, none⟩ = some (.slice a0 x.cell.length c0) ∧ w'.cell? ⟨W.heap.size, 1, none⟩ = some (.slice a1 x.stack.length c1) ∧ w'.cell? ⟨W.heap.size, 2, none⟩ = some (.slice a2 x.queue.length c2) ∧ w'.cell? ⟨W.heap.size, 3, none⟩ = some (.slice a3 x.set.length c3) ∧ w'.cell? ⟨W.heap.size, 4, none⟩ = some (.slice a4 x.table.length c4) ∧ w'.cell? ⟨W.heap.size, 5, none⟩ = some (.int .i64 key) ∧ w'.cell? ⟨W.heap.size, 6, none⟩ = some (.int .i64 one) ∧ w'.cell? ⟨W.heap.size, 7, none⟩ = some (.int .i64 two)) (first | with_reducible exact K5.out | go_keep) (first | (go_at_call 9; refine (CA.out _ (Below.refl _ _).drew).mono ?_; rintro e w4 ⟨v0, v1, v2, v3, v4, rfl, hat4, hB4⟩; have B4 : Below w0.heap.size w0 w4 := (((Below.refl _ _).drew).trans hB4); clear hB4 CA; obtain ⟨x0_, j0_, rfl, _⟩ := hat4.cell.form; obtain ⟨x1_, j1_, rfl, _⟩ := hat4.stack.form; obtain ⟨x2_, j2_, rfl, _⟩ := hat4.queue.form; obtain ⟨x3_, j3_, rfl, _⟩ := hat4.set.form; obtain ⟨x4_, j4_, rfl, _⟩ := hat4.table.form; have e0 := (B4.cell (p := ⟨W.heap.size, 0, none⟩) hsz0).trans e0; have e1 := (B4.cell (p := ⟨W.heap.size, 1, none⟩) hsz0).trans e1; have e2 := (B4.cell (p := ⟨W.heap.size, 2, none⟩) hsz0).trans e2; have e3 := (B4.cell (p := ⟨W.heap.size, 3, none⟩) hsz0).trans e3; have e4 := (B4.cell (p := ⟨W.heap.size, 4, none⟩) hsz0).trans e4; have e5 := (B4.cell (p := ⟨W.heap.size, 5, none⟩) hsz0).trans e5; have e6 := (B4.cell (p := ⟨W.heap.size, 6, none⟩) hsz0).trans e6; have e7 := (B4.cell (p := ⟨W.heap.size, 7, none⟩) hsz0).trans e7; have hsz4 : W.heap.size < w4.heap.size := Nat.lt_of_lt_of_le hsz0 B4.size;  have E5 := MT.out w4.heap.size _ _ _ _ _ (w4.alloc (ctO (.slice x0_ y.cell.length j0_) (.slice x1_ y.stack.length j1_) (.slice x2_ y.queue.length j2_) (.slice x3_ y.set.length j3_) (.slice x4_ y.table.length j4_))) (B4.alloc B4.size _) (new_at _ _ _ rfl) ((hat4.mono (fun _ _ => trivial)).below ((Below.refl _ _).alloc (Nat.le_refl _) _)); clear hat4; unfold ctO at E5; replace E5 := Mr.hid E5; replace B4 := Mr.hid B4) | (go_at_call 9; refine (CA.out _ ((Below.refl _ _).alloc (Nat.le_refl _) _).drew).mono ?_; rintro e w4 ⟨v0, v1, v2, v3, v4, rfl, hat4, hB4⟩; have B4 : Below w0.heap.size w0 w4 := (((Below.refl _ _).alloc (Nat.le_refl _) _).drew.trans (hB4.mono (by simp))); have bx4 := (hB4.block w0.heap.size (by simp)).trans (new_at w0 nil5 _ rfl); clear hB4 CA; obtain ⟨h0, h1, h2, h3, h4, hl4⟩ := ctO_cells bx4; obtain ⟨i0, i1, i2, i3, i4⟩ := ctO_thaw bx4; obtain ⟨x0_, j0_, rfl, _⟩ := hat4.cell.form; obtain ⟨x1_, j1_, rfl, _⟩ := hat4.stack.form; obtain ⟨x2_, j2_, rfl, _⟩ := hat4.queue.form; obtain ⟨x3_, j3_, rfl, _⟩ := hat4.set.form; obtain ⟨x4_, j4_, rfl, _⟩ := hat4.table.form; have e0 := (B4.cell (p := ⟨W.heap.size, 0, none⟩) hsz0).trans e0; have e1 := (B4.cell (p := ⟨W.heap.size, 1, none⟩) hsz0).trans e1; have e2 := (B4.cell (p := ⟨W.heap.size, 2, none⟩) hsz0).trans e2; have e3 := (B4.cell (p := ⟨W.heap.size, 3, none⟩) hsz0).trans e3; have e4 := (B4.cell (p := ⟨W.heap.size, 4, none⟩) hsz0).trans e4; have e5 := (B4.cell (p := ⟨W.heap.size, 5, none⟩) hsz0).trans e5; have e6 := (B4.cell (p := ⟨W.heap.size, 6, none⟩) hsz0).trans e6; have e7 := (B4.cell (p := ⟨W.heap.size, 7, none⟩) hsz0).trans e7; have hsz4 : W.heap.size < w4.heap.size := Nat.lt_of_lt_of_le hsz0 B4.size;  have E5 := MT.out w0.heap.size _ _ _ _ _ (set5 w4 w0.heap.size (.slice x0_ y.cell.length j0_) (.slice x1_ y.stack.length j1_) (.slice x2_ y.queue.length j2_) (.slice x3_ y.set.length j3_) (.slice x4_ y.table.length j4_)) (set5_below _ _ _ _ _ B4 (Nat.le_refl _)) (set5_at _ _ _ _ _ bx4) ((hat4.mono (T' := fun k => w0.heap.size + 1 ≤ k) (fun k hk => by simpa using hk)).fr (set5_fr w4 w0.heap.size _ _ _ _ _) (fun k hk _ e => by subst e; omega) |>.mono (fun _ _ => trivial)); have K5 := And.intro (far5 (b := w0.heap.size) (v0 := (.slice x0_ y.cell.length j0_)) (v1 := (.slice x1_ y.stack.length j1_)) (v2 := (.slice x2_ y.queue.length j2_)) (v3 := (.slice x3_ y.set.length j3_)) (v4 := (.slice x4_ y.table.length j4_)) e0 (by omega)) (And.intro (far5 (b := w0.heap.size) (v0 := (.slice x0_ y.cell.length j0_)) (v1 := (.slice x1_ y.stack.length j1_)) (v2 := (.slice x2_ y.queue.length j2_)) (v3 := (.slice x3_ y.set.length j3_)) (v4 := (.slice x4_ y.table.length j4_)) e1 (by omega)) (And.intro (far5 (b := w0.heap.size) (v0 := (.slice x0_ y.cell.length j0_)) (v1 := (.slice x1_ y.stack.length j1_)) (v2 := (.slice x2_ y.queue.length j2_)) (v3 := (.slice x3_ y.set.length j3_)) (v4 := (.slice x4_ y.table.length j4_)) e2 (by omega)) (And.intro (far5 (b := w0.heap.size) (v0 := (.slice x0_ y.cell.length j0_)) (v1 := (.slice x1_ y.stack.length j1_)) (v2 := (.slice x2_ y.queue.length j2_)) (v3 := (.slice x3_ y.set.length j3_)) (v4 := (.slice x4_ y.table.length j4_)) e3 (by omega)) (And.intro (far5 (b := w0.heap.size) (v0 := (.slice x0_ y.cell.length j0_)) (v1 := (.slice x1_ y.stack.length j1_)) (v2 := (.slice x2_ y.queue.length j2_)) (v3 := (.slice x3_ y.set.length j3_)) (v4 := (.slice x4_ y.table.length j4_)) e4 (by omega)) (And.intro (far5 (b := w0.heap.size) (v0 := (.slice x0_ y.cell.length j0_)) (v1 := (.slice x1_ y.stack.length j1_)) (v2 := (.slice x2_ y.queue.length j2_)) (v3 := (.slice x3_ y.set.length j3_)) (v4 := (.slice x4_ y.table.length j4_)) e5 (by omega)) (And.intro (far5 (b := w0.heap.size) (v0 := (.slice x0_ y.cell.length j0_)) (v1 := (.slice x1_ y.stack.length j1_)) (v2 := (.slice x2_ y.queue.length j2_)) (v3 := (.slice x3_ y.set.length j3_)) (v4 := (.slice x4_ y.table.length j4_)) e6 (by omega)) (far5 (b := w0.heap.size) (v0 := (.slice x0_ y.cell.length j0_)) (v1 := (.slice x1_ y.stack.length j1_)) (v2 := (.slice x2_ y.queue.length j2_)) (v3 := (.slice x3_ y.set.length j3_)) (v4 := (.slice x4_ y.table.length j4_)) e7 (by omega)))))))); unfold set5 at K5; replace K5 := Mr.hid K5; clear hat4 bx4; unfold set5 at E5; replace E5 := Mr.hid E5; replace B4 := Mr.hid B4))
    all_goals
      go_wp2
      go_meet
      case rel => exact ⟨_, _, _, _, _, _, rfl, rfl, rfl, rfl, E5.out⟩
  case rest =>
    obtain ⟨b3, v0, v1, v2, v3, v4, rfl, rfl, rfl, rfl, hD, hS⟩ := hcut
    clear MT CA X0 U0 e0 e1 e2 e3 e4 e5 e6 e7 hsz0
    obtain ⟨x0_, j0_, rfl, _⟩ := hS.at_.cell.form
    obtain ⟨x1_, j1_, rfl, _⟩ := hS.at_.stack.form
    obtain ⟨x2_, j2_, rfl, _⟩ := hS.at_.queue.form
    obtain ⟨x3_, j3_, rfl, _⟩ := hS.at_.set.form
    obtain ⟨x4_, j4_, rfl, _⟩ := hS.at_.table.form
    replace hD := Mr.hid hD
    replace hS := Mr.hid hS
    have C := mDo_any hS.out.at_ (hyi) (hm.out) 60 key one (by decide)
    rw [d60.out, n60.out] at C
    replace C := Mr.hid C
    obtain ⟨e0, e1, e2, e3, e4, el⟩ := ctO_cells hS.out.box
    go_upto_region 3 with (first | (go_at_call 10; refine C.out.mono ?_; clear C; rintro e y1 ⟨v0, v1, v2, v3, v4, rfl, hl, hB⟩; unfold ans; obtain ⟨z1_0, m1_0, rfl, _⟩ := hl.cell.form; obtain ⟨z1_1, m1_1, rfl, _⟩ := hl.stack.form; obtain ⟨z1_2, m1_2, rfl, _⟩ := hl.queue.form; obtain ⟨z1_3, m1_3, rfl, _⟩ := hl.set.form; obtain ⟨z1_4, m1_4, rfl, _⟩ := hl.table.form;  clear e0 e1 e2 e3 e4 el; replace hl := Mr.hid hl; replace hB := Mr.hid hB))
    obtain ⟨x1, hM⟩ : ∃ w', w' = (y1.alloc (ctO (.slice z1_0 z.cell.length m1_0) (.slice z1_1 z.stack.length m1_1) (.slice z1_2 z.queue.length m1_2) (.slice z1_3 z.set.length m1_3) (.slice z1_4 z.table.length m1_4))).alloc (ansO 5 0) := ⟨_, rfl⟩
    obtain ⟨Z, fstc, fsta⟩ := made hM hB.out hl.out
    rw [show (y1.alloc (.cells #[.slice z1_0 z.cell.length m1_0, .slice z1_1 z.stack.length m1_1, .slice z1_2 z.queue.length m1_2, .slice z1_3 z.set.length m1_3, .slice z1_4 z.table.length m1_4] 25 (0, 0))).alloc (.cells #[.int .i64 5, .int .i64 0] 31 (0, 0)) = x1 from by rw [hM]; rfl]
    obtain ⟨b1, hb⟩ : ∃ b, b = y1.heap.size := ⟨_, rfl⟩
    rw [← hb] at fstc fsta ⊢
    replace hD := Mr.hid (hD.out.next Z)
    replace hS := Mr.hid (hS.out.next Z)
    replace fstc := Mr.hid fstc
    replace fsta := Mr.hid fsta
    clear Z hM hb hl hB
    have C := mDo_any fstc.out.at_ (hzi) (mz.out) 60 key two (by decide)
    rw [e60.out, m60.out] at C
    replace C := Mr.hid C
    obtain ⟨e0, e1, e2, e3, e4, el⟩ := ctO_cells fstc.out.box
    go_upto_region 4 with (first | (go_at_call 10; refine C.out.mono ?_; clear C; rintro e y2 ⟨v0, v1, v2, v3, v4, rfl, hl, hB⟩; unfold ans; obtain ⟨z2_0, m2_0, rfl, _⟩ := hl.cell.form; obtain ⟨z2_1, m2_1, rfl, _⟩ := hl.stack.form; obtain ⟨z2_2, m2_2, rfl, _⟩ := hl.queue.form; obtain ⟨z2_3, m2_3, rfl, _⟩ := hl.set.form; obtain ⟨z2_4, m2_4, rfl, _⟩ := hl.table.form;  clear e0 e1 e2 e3 e4 el; replace hl := Mr.hid hl; replace hB := Mr.hid hB))
    obtain ⟨x2, hM⟩ : ∃ w', w' = (y2.alloc (ctO (.slice z2_0 z.cell.length m2_0) (.slice z2_1 z.stack.length m2_1) (.slice z2_2 z.queue.length m2_2) (.slice z2_3 z.set.length m2_3) (.slice z2_4 z.table.length m2_4))).alloc (ansO 6 0) := ⟨_, rfl⟩
    obtain ⟨Z, sndc, snda⟩ := made hM hB.out hl.out
    rw [show (y2.alloc (.cells #[.slice z2_0 z.cell.length m2_0, .slice z2_1 z.stack.length m2_1, .slice z2_2 z.queue.length m2_2, .slice z2_3 z.set.length m2_3, .slice z2_4 z.table.length m2_4] 25 (0, 0))).alloc (.cells #[.int .i64 6, .int .i64 0] 31 (0, 0)) = x2 from by rw [hM]; rfl]
    obtain ⟨b2, hb⟩ : ∃ b, b = y2.heap.size := ⟨_, rfl⟩
    rw [← hb] at sndc snda ⊢
    replace hD := Mr.hid (hD.out.next Z)
    replace hS := Mr.hid (hS.out.next Z)
    replace fstc := Mr.hid (fstc.out.next Z)
    replace fsta := Mr.hid (fsta.out.next Z)
    replace sndc := Mr.hid sndc
    replace snda := Mr.hid snda
    clear Z hM hb hl hB
    have C := mDo_any sndc.out.at_ (hzi) (mz.out) 62 key 0 (by decide)
    rw [d62.out, show dnx z 62 key 0 = z from rfl] at C
    replace C := Mr.hid C
    obtain ⟨e0, e1, e2, e3, e4, el⟩ := ctO_cells sndc.out.box
    go_upto_region 5 with (first | (go_at_call 10; refine C.out.mono ?_; clear C; rintro e y3 ⟨v0, v1, v2, v3, v4, rfl, hl, hB⟩; unfold ans; obtain ⟨z3_0, m3_0, rfl, _⟩ := hl.cell.form; obtain ⟨z3_1, m3_1, rfl, _⟩ := hl.stack.form; obtain ⟨z3_2, m3_2, rfl, _⟩ := hl.queue.form; obtain ⟨z3_3, m3_3, rfl, _⟩ := hl.set.form; obtain ⟨z3_4, m3_4, rfl, _⟩ := hl.table.form;  clear e0 e1 e2 e3 e4 el; replace hl := Mr.hid hl; replace hB := Mr.hid hB))
    obtain ⟨x3, hM⟩ : ∃ w', w' = (y3.alloc (ctO (.slice z3_0 z.cell.length m3_0) (.slice z3_1 z.stack.length m3_1) (.slice z3_2 z.queue.length m3_2) (.slice z3_3 z.set.length m3_3) (.slice z3_4 z.table.length m3_4))).alloc (ansO 2 one) := ⟨_, rfl⟩
    obtain ⟨Z, gotc, gota⟩ := made hM hB.out hl.out
    rw [show (y3.alloc (.cells #[.slice z3_0 z.cell.length m3_0, .slice z3_1 z.stack.length m3_1, .slice z3_2 z.queue.length m3_2, .slice z3_3 z.set.length m3_3, .slice z3_4 z.table.length m3_4] 25 (0, 0))).alloc (.cells #[.int .i64 2, .int .i64 one] 31 (0, 0)) = x3 from by rw [hM]; rfl]
    obtain ⟨b3, hb⟩ : ∃ b, b = y3.heap.size := ⟨_, rfl⟩
    rw [← hb] at gotc gota ⊢
    replace hD := Mr.hid (hD.out.next Z)
    replace hS := Mr.hid (hS.out.next Z)
    replace fstc := Mr.hid (fstc.out.next Z)
    replace fsta := Mr.hid (fsta.out.next Z)
    replace sndc := Mr.hid (sndc.out.next Z)
    replace snda := Mr.hid (snda.out.next Z)
    replace gotc := Mr.hid gotc
    replace gota := Mr.hid gota
    clear Z hM hb hl hB
    have C := mDo_any sndc.out.at_ (hzi) (mz.out) 61 key 0 (by decide)
    rw [d61.out, n61.out] at C
    replace C := Mr.hid C
    obtain ⟨e0, e1, e2, e3, e4, el⟩ := ctO_cells sndc.out.box
    go_upto_region 6 with (first | (go_at_call 10; refine C.out.mono ?_; clear C; rintro e y4 ⟨v0, v1, v2, v3, v4, rfl, hl, hB⟩; unfold ans; obtain ⟨z4_0, m4_0, rfl, _⟩ := hl.cell.form; obtain ⟨z4_1, m4_1, rfl, _⟩ := hl.stack.form; obtain ⟨z4_2, m4_2, rfl, _⟩ := hl.queue.form; obtain ⟨z4_3, m4_3, rfl, _⟩ := hl.set.form; obtain ⟨z4_4, m4_4, rfl, _⟩ := hl.table.form;  clear e0 e1 e2 e3 e4 el; replace hl := Mr.hid hl; replace hB := Mr.hid hB))
    obtain ⟨x4, hM⟩ : ∃ w', w' = (y4.alloc (ctO (.slice z4_0 y.cell.length m4_0) (.slice z4_1 y.stack.length m4_1) (.slice z4_2 y.queue.length m4_2) (.slice z4_3 y.set.length m4_3) (.slice z4_4 y.table.length m4_4))).alloc (ansO 2 one) := ⟨_, rfl⟩
    obtain ⟨Z, outc, outa⟩ := made hM hB.out hl.out
    rw [show (y4.alloc (.cells #[.slice z4_0 y.cell.length m4_0, .slice z4_1 y.stack.length m4_1, .slice z4_2 y.queue.length m4_2, .slice z4_3 y.set.length m4_3, .slice z4_4 y.table.length m4_4] 25 (0, 0))).alloc (.cells #[.int .i64 2, .int .i64 one] 31 (0, 0)) = x4 from by rw [hM]; rfl]
    obtain ⟨b4, hb⟩ : ∃ b, b = y4.heap.size := ⟨_, rfl⟩
    rw [← hb] at outc outa ⊢
    replace hD := Mr.hid (hD.out.next Z)
    replace hS := Mr.hid (hS.out.next Z)
    replace fstc := Mr.hid (fstc.out.next Z)
    replace fsta := Mr.hid (fsta.out.next Z)
    replace sndc := Mr.hid (sndc.out.next Z)
    replace snda := Mr.hid (snda.out.next Z)
    replace gotc := Mr.hid (gotc.out.next Z)
    replace gota := Mr.hid (gota.out.next Z)
    replace outc := Mr.hid outc
    replace outa := Mr.hid outa
    clear Z hM hb hl hB
    have C := mDo_any outc.out.at_ (hyi) (hm.out) 62 key 0 (by decide)
    rw [ef.out, show dnx y 62 key 0 = y from rfl] at C
    replace C := Mr.hid C
    obtain ⟨e0, e1, e2, e3, e4, el⟩ := ctO_cells outc.out.box
    go_upto_region 7 with (first | (go_at_call 10; refine C.out.mono ?_; clear C; rintro e y5 ⟨v0, v1, v2, v3, v4, rfl, hl, hB⟩; unfold ans; obtain ⟨z5_0, m5_0, rfl, _⟩ := hl.cell.form; obtain ⟨z5_1, m5_1, rfl, _⟩ := hl.stack.form; obtain ⟨z5_2, m5_2, rfl, _⟩ := hl.queue.form; obtain ⟨z5_3, m5_3, rfl, _⟩ := hl.set.form; obtain ⟨z5_4, m5_4, rfl, _⟩ := hl.table.form;  clear e0 e1 e2 e3 e4 el; replace hl := Mr.hid hl; replace hB := Mr.hid hB))
    obtain ⟨x5, hM⟩ : ∃ w', w' = (y5.alloc (ctO (.slice z5_0 y.cell.length m5_0) (.slice z5_1 y.stack.length m5_1) (.slice z5_2 y.queue.length m5_2) (.slice z5_3 y.set.length m5_3) (.slice z5_4 y.table.length m5_4))).alloc (ansO 6 0) := ⟨_, rfl⟩
    obtain ⟨Z, nonc, nona⟩ := made hM hB.out hl.out
    rw [show (y5.alloc (.cells #[.slice z5_0 y.cell.length m5_0, .slice z5_1 y.stack.length m5_1, .slice z5_2 y.queue.length m5_2, .slice z5_3 y.set.length m5_3, .slice z5_4 y.table.length m5_4] 25 (0, 0))).alloc (.cells #[.int .i64 6, .int .i64 0] 31 (0, 0)) = x5 from by rw [hM]; rfl]
    obtain ⟨b5, hb⟩ : ∃ b, b = y5.heap.size := ⟨_, rfl⟩
    rw [← hb] at nonc nona ⊢
    replace hD := Mr.hid (hD.out.next Z)
    replace hS := Mr.hid (hS.out.next Z)
    replace fstc := Mr.hid (fstc.out.next Z)
    replace fsta := Mr.hid (fsta.out.next Z)
    replace sndc := Mr.hid (sndc.out.next Z)
    replace snda := Mr.hid (snda.out.next Z)
    replace gotc := Mr.hid (gotc.out.next Z)
    replace gota := Mr.hid (gota.out.next Z)
    replace outc := Mr.hid (outc.out.next Z)
    replace outa := Mr.hid (outa.out.next Z)
    replace nonc := Mr.hid nonc
    replace nona := Mr.hid nona
    clear Z hM hb hl hB
    have t0 : Hid True := trivial
    have t1 : Hid True := trivial
    have t2 : Hid True := trivial
    have t3 : Hid True := trivial
    have bv : (one == one) = true := by simp
    have bw : (one != one) = false := by simp
    go_wp2_with (first | (clear t0; go_at_call 11; refine (awake_any _).mono ?_; rintro e w8 ⟨rfl, hB⟩; have hD := Mr.hid (hD.out.next hB); have hS := Mr.hid (hS.out.next hB); have fstc := Mr.hid (fstc.out.next hB); have fsta := Mr.hid (fsta.out.next hB); have sndc := Mr.hid (sndc.out.next hB); have snda := Mr.hid (snda.out.next hB); have gotc := Mr.hid (gotc.out.next hB); have gota := Mr.hid (gota.out.next hB); have outc := Mr.hid (outc.out.next hB); have outa := Mr.hid (outa.out.next hB); have nonc := Mr.hid (nonc.out.next hB); have nona := Mr.hid (nona.out.next hB); clear hB; obtain ⟨q0_0, q0_1, q0_2, q0_3, q0_4, q0_5⟩ := ctO_cells fstc.out.box; obtain ⟨q1_0, q1_1, q1_2, q1_3, q1_4, q1_5⟩ := ctO_cells hS.out.box; obtain ⟨q2_0, q2_1, q2_2, q2_3, q2_4, q2_5⟩ := ctO_cells sndc.out.box; obtain ⟨q3_0, q3_1, q3_2, q3_3, q3_4, q3_5⟩ := ctO_cells outc.out.box; obtain ⟨r0_0, r0_1, r0_2, -, -⟩ := ansO_cells fsta.out.box; obtain ⟨r1_0, r1_1, r1_2, -, -⟩ := ansO_cells snda.out.box; obtain ⟨r2_0, r2_1, r2_2, -, -⟩ := ansO_cells gota.out.box; obtain ⟨r3_0, r3_1, r3_2, -, -⟩ := ansO_cells outa.out.box; obtain ⟨r4_0, r4_1, r4_2, -, -⟩ := ansO_cells nona.out.box) | (clear t1; go_at_call 12; refine (sameT fstc.out sndc.out sz).mono ?_; clear q0_0 q0_1 q0_2 q0_3 q0_4 q0_5 q1_0 q1_1 q1_2 q1_3 q1_4 q1_5 q2_0 q2_1 q2_2 q2_3 q2_4 q2_5 q3_0 q3_1 q3_2 q3_3 q3_4 q3_5; clear r0_0 r0_1 r0_2 r1_0 r1_1 r1_2 r2_0 r2_1 r2_2 r3_0 r3_1 r3_2 r4_0 r4_1 r4_2; rintro e w9 ⟨rfl, hB⟩; have hD := Mr.hid (hD.out.next hB); have hS := Mr.hid (hS.out.next hB); have fstc := Mr.hid (fstc.out.next hB); have fsta := Mr.hid (fsta.out.next hB); have sndc := Mr.hid (sndc.out.next hB); have snda := Mr.hid (snda.out.next hB); have gotc := Mr.hid (gotc.out.next hB); have gota := Mr.hid (gota.out.next hB); have outc := Mr.hid (outc.out.next hB); have outa := Mr.hid (outa.out.next hB); have nonc := Mr.hid (nonc.out.next hB); have nona := Mr.hid (nona.out.next hB); clear hB; obtain ⟨q0_0, q0_1, q0_2, q0_3, q0_4, q0_5⟩ := ctO_cells fstc.out.box; obtain ⟨q1_0, q1_1, q1_2, q1_3, q1_4, q1_5⟩ := ctO_cells hS.out.box; obtain ⟨q2_0, q2_1, q2_2, q2_3, q2_4, q2_5⟩ := ctO_cells sndc.out.box; obtain ⟨q3_0, q3_1, q3_2, q3_3, q3_4, q3_5⟩ := ctO_cells outc.out.box; obtain ⟨r0_0, r0_1, r0_2, -, -⟩ := ansO_cells fsta.out.box; obtain ⟨r1_0, r1_1, r1_2, -, -⟩ := ansO_cells snda.out.box; obtain ⟨r2_0, r2_1, r2_2, -, -⟩ := ansO_cells gota.out.box; obtain ⟨r3_0, r3_1, r3_2, -, -⟩ := ansO_cells outa.out.box; obtain ⟨r4_0, r4_1, r4_2, -, -⟩ := ansO_cells nona.out.box) | (clear t2; go_at_call 13; refine (mayT outc.out sy hm.out).mono ?_; clear q0_0 q0_1 q0_2 q0_3 q0_4 q0_5 q1_0 q1_1 q1_2 q1_3 q1_4 q1_5 q2_0 q2_1 q2_2 q2_3 q2_4 q2_5 q3_0 q3_1 q3_2 q3_3 q3_4 q3_5; clear r0_0 r0_1 r0_2 r1_0 r1_1 r1_2 r2_0 r2_1 r2_2 r3_0 r3_1 r3_2 r4_0 r4_1 r4_2; rintro e w10 ⟨rfl, hB⟩; have hD := Mr.hid (hD.out.next hB); have hS := Mr.hid (hS.out.next hB); have fstc := Mr.hid (fstc.out.next hB); have fsta := Mr.hid (fsta.out.next hB); have sndc := Mr.hid (sndc.out.next hB); have snda := Mr.hid (snda.out.next hB); have gotc := Mr.hid (gotc.out.next hB); have gota := Mr.hid (gota.out.next hB); have outc := Mr.hid (outc.out.next hB); have outa := Mr.hid (outa.out.next hB); have nonc := Mr.hid (nonc.out.next hB); have nona := Mr.hid (nona.out.next hB); clear hB; obtain ⟨q0_0, q0_1, q0_2, q0_3, q0_4, q0_5⟩ := ctO_cells fstc.out.box; obtain ⟨q1_0, q1_1, q1_2, q1_3, q1_4, q1_5⟩ := ctO_cells hS.out.box; obtain ⟨q2_0, q2_1, q2_2, q2_3, q2_4, q2_5⟩ := ctO_cells sndc.out.box; obtain ⟨q3_0, q3_1, q3_2, q3_3, q3_4, q3_5⟩ := ctO_cells outc.out.box; obtain ⟨r0_0, r0_1, r0_2, -, -⟩ := ansO_cells fsta.out.box; obtain ⟨r1_0, r1_1, r1_2, -, -⟩ := ansO_cells snda.out.box; obtain ⟨r2_0, r2_1, r2_2, -, -⟩ := ansO_cells gota.out.box; obtain ⟨r3_0, r3_1, r3_2, -, -⟩ := ansO_cells outa.out.box; obtain ⟨r4_0, r4_1, r4_2, -, -⟩ := ansO_cells nona.out.box) | (clear t3; go_at_call 12; refine (sameT outc.out hS.out sy).mono ?_; clear q0_0 q0_1 q0_2 q0_3 q0_4 q0_5 q1_0 q1_1 q1_2 q1_3 q1_4 q1_5 q2_0 q2_1 q2_2 q2_3 q2_4 q2_5 q3_0 q3_1 q3_2 q3_3 q3_4 q3_5; clear r0_0 r0_1 r0_2 r1_0 r1_1 r1_2 r2_0 r2_1 r2_2 r3_0 r3_1 r3_2 r4_0 r4_1 r4_2; rintro e w11 ⟨rfl, hB⟩; have hD := Mr.hid (hD.out.next hB); have hS := Mr.hid (hS.out.next hB); have fstc := Mr.hid (fstc.out.next hB); have fsta := Mr.hid (fsta.out.next hB); have sndc := Mr.hid (sndc.out.next hB); have snda := Mr.hid (snda.out.next hB); have gotc := Mr.hid (gotc.out.next hB); have gota := Mr.hid (gota.out.next hB); have outc := Mr.hid (outc.out.next hB); have outa := Mr.hid (outa.out.next hB); have nonc := Mr.hid (nonc.out.next hB); have nona := Mr.hid (nona.out.next hB); clear hB; obtain ⟨q0_0, q0_1, q0_2, q0_3, q0_4, q0_5⟩ := ctO_cells fstc.out.box; obtain ⟨q1_0, q1_1, q1_2, q1_3, q1_4, q1_5⟩ := ctO_cells hS.out.box; obtain ⟨q2_0, q2_1, q2_2, q2_3, q2_4, q2_5⟩ := ctO_cells sndc.out.box; obtain ⟨q3_0, q3_1, q3_2, q3_3, q3_4, q3_5⟩ := ctO_cells outc.out.box; obtain ⟨r0_0, r0_1, r0_2, -, -⟩ := ansO_cells fsta.out.box; obtain ⟨r1_0, r1_1, r1_2, -, -⟩ := ansO_cells snda.out.box; obtain ⟨r2_0, r2_1, r2_2, -, -⟩ := ansO_cells gota.out.box; obtain ⟨r3_0, r3_1, r3_2, -, -⟩ := ansO_cells outa.out.box; obtain ⟨r4_0, r4_1, r4_2, -, -⟩ := ansO_cells nona.out.box))
    go_ret
    exact ⟨rfl, hD.out.bel⟩
/-- ModelTables, of any contents, key and data. -/
theorem walk_tables (u0 u1 u2 u3 u4 : Value) (x : Ct) (key one two : Int) (W : World) (hu : CtAt W (fun _ => True) u0 u1 u2 u3 u4 x) (hx : CtIn 140737488351232 x) :
    Calls Try.prog 3 #[.agg #[u0, u1, u2, u3, u4, .int .i64 key, .int .i64 one, .int .i64 two]] W fun e w' => e = .returned (.bool true) ∧ Below W.heap.size W w' := by
  obtain ⟨y, hm, hy, C⟩ := right_any hx
  cases hk : inB (keysOf y.table) key with
  | true => exact tables_in u0 u1 u2 u3 u4 x key one two W hu y hm hy C hk
  | false => exact tables_out u0 u1 u2 u3 u4 x key one two W hu y hm hy C hk
end Go.Proofs.Ytegbcocbopgghab.Md
