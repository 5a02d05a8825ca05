import Derived.Test.YtpknggcgojkjgaaGreatJ09
import Derived.Test.YtpknggcgojkjgaaGreatJ18
import Derived.Laws.MakeOwn
import Derived.RowKit
/-
  CENSUS: eventsOf.
-/
namespace Go.Proofs.YtpknggcgojkjgaaGreat.Cn
open Go.RowKit Mr Md
set_option linter.unusedVariables false
set_option linter.unusedSimpArgs false
set_option maxRecDepth 100000
theorem parts_of {a : Option TypeInfo} {z : Option Value} {n b : Nat} (h : a.map (fun i => (i.zero, i.size, i.bytes)) = some (z, n, b)) : ∃ i, a = some i ∧ i.zero = z ∧ i.size = n ∧ i.bytes = b := by
  cases a with
  | none => simp at h
  | some i => simp at h; exact ⟨i, rfl, h.1, h.2.1, h.2.2⟩
theorem wt_ev : (Tryz.prog.info? 85).map (fun i => (i.zero, i.size, i.bytes)) = some (some (.agg #[.int .i64 0, .int .i64 0, .int .i64 0, .int .i64 0]), 4, 32) := by kernel_rfl
/-- What a slice of one event, just made, holds. -/
theorem new4 {w w1 : World} {e : Ev} (h1 : w1 = w.alloc (evO e)) : ∀ ad, some (⟨w.heap.size, 0, none⟩ : Addr) = some ad → ∀ j u, (e.row)[j]? = some u → w1.cell? (ad.add j) = some u := by
  rintro ad e0 j u hu
  cases e0
  subst h1
  unfold evO
  rw [add1, Nat.zero_add, cell_blk (new_at w _ _ rfl)]
  simpa [Ev.row] using hu
/-- A box at b, and a row of events of one's own beside it. -/
structure Ew (W w : World) (b : Nat) (ob : Obj) (u : Value) (l : List Ev) : Prop where
  bel : Below W.heap.size W w
  up : W.heap.size ≤ b
  box : w.heap[b]? = some ob
  own : Own w (fun k => W.heap.size ≤ k ∧ k ≠ b) 85 4 u l.length (evs l)
theorem own_kept {W W' : World} {S T : Nat → Prop} {e : TypeId} {size n : Nat} {v : Value} {xs : List Value} (h : Own W S e size v n xs) (hb : ∀ k, S k → k < W.heap.size → W'.heap[k]? = W.heap[k]? ∧ T k) : Own W' T e size v n xs := by
  obtain ⟨h1, a, cap, hv, hc, hm, h2⟩ := h
  refine ⟨h1, a, cap, hv, hc, hm, h2.imp id ?_⟩
  rintro ⟨g, o, cur, ha, hS, hg, hs, hx⟩
  have := hb g hS (Array.getElem?_eq_some_iff.1 hg).1
  exact ⟨g, o, cur, ha, this.2, this.1.trans hg, hs, hx⟩
theorem Ew.first {W w w1 : World} {u : Value} {l : List Ev} (hB : Below W.heap.size W w) (ho : Own w (fun k => W.heap.size ≤ k) 85 4 u l.length (evs l)) (ob : Obj) (h1 : w1 = w.alloc ob) : Ew W w1 w.heap.size ob u l := by
  subst h1
  exact ⟨hB.alloc hB.size _, hB.size, new_at _ _ _ rfl, own_kept ho (fun k hk hl => ⟨Below.heap_alloc _ _ _ hl, hk, by omega⟩)⟩
theorem Ew.below {W w w' : World} {b : Nat} {ob : Obj} {u : Value} {l : List Ev} (h : Ew W w b ob u l) (hB : Below w.heap.size w w') : Ew W w' b ob u l :=
  ⟨h.bel.trans (hB.mono h.bel.size), h.up, (hB.block _ (Array.getElem?_eq_some_iff.1 h.box).1).trans h.box, h.own.below hB⟩
theorem Ew.app {W w w1 w2 : World} {b : Nat} {ob : Obj} {u u' : Value} {l : List Ev} {x : Ev} {o : Obj} (h : Ew W w b ob u l) (h1 : w1 = w.alloc o) (ho : Own w2 (fun k => (W.heap.size ≤ k ∧ k ≠ b) ∨ k = w1.heap.size) 85 4 u' (l.length + 1) (evs l ++ x.row)) (hf : Fr w1 w2 (fun k => W.heap.size ≤ k ∧ k ≠ b)) : Ew W w2 b ob u' (l ++ [x]) := by
  have hb := (Array.getElem?_eq_some_iff.1 h.box).1
  have hs := h.bel.size
  have B1 : Below W.heap.size W w1 := by subst h1; exact h.bel.alloc hs _
  have hb1 : w1.heap[b]? = some ob := by subst h1; exact old_at h.box _
  have hb1l := (Array.getElem?_eq_some_iff.1 hb1).1
  refine ⟨⟨hf.os.trans B1.os, hf.tape.trans B1.tape, hf.output.trans B1.output, Nat.le_trans B1.size hf.size, fun k hk => (hf.block k (Nat.lt_of_lt_of_le hk B1.size) (by omega)).trans (B1.block k hk)⟩, h.up, (hf.block b hb1l (by simp)).trans hb1, ?_⟩
  have e : evs l ++ x.row = evs (l ++ [x]) := by simp [evs]
  rw [e] at ho
  rw [List.length_append]
  exact ho.mono (fun k hk => by have := B1.size; omega)
theorem Ew.done {W w : World} {b : Nat} {ob : Obj} {u : Value} {l : List Ev} (h : Ew W w b ob u l) : Own w (fun k => W.heap.size ≤ k) 85 4 u l.length (evs l) := h.own.mono (fun k hk => hk.1)
theorem evC_take {cs : List Cq} {i : Nat} {c : Cq} (h : cs[i]? = some c) : ∀ {k : Nat}, evC (cs.take (i + 1)) k = evC (cs.take i) k ++ (bev c (k + i) :: if c.fin = -1 then [] else [fev c (k + i)]) := by
  induction cs generalizing i with
  | nil => simp at h
  | cons d cs ih =>
    intro k
    cases i with
    | zero => simp at h; subst h; simp [evC]
    | succ i =>
      have := ih (i := i) (by simpa using h) (k := k + 1)
      simp only [List.take_succ_cons, evC, this]
      rw [show k + 1 + i = k + (i + 1) from by omega, List.append_assoc]
theorem evT_take {cs : List Ax} {i : Nat} {c : Ax} (h : cs[i]? = some c) : ∀ {k : Nat}, evT (cs.take (i + 1)) k = evT (cs.take i) k ++ [aev c (k + i)] := by
  induction cs generalizing i with
  | nil => simp at h
  | cons d cs ih =>
    intro k
    cases i with
    | zero => simp at h; subst h; simp [evT]
    | succ i =>
      have := ih (i := i) (by simpa using h) (k := k + 1)
      simp only [List.take_succ_cons, evT, this]
      rw [show k + 1 + i = k + (i + 1) from by omega]; rfl
theorem evS_take {cs : List Sx} {i : Nat} {c : Sx} (h : cs[i]? = some c) : ∀ {k : Nat}, evS (cs.take (i + 1)) k = evS (cs.take i) k ++ [sev c (k + i)] := by
  induction cs generalizing i with
  | nil => simp at h
  | cons d cs ih =>
    intro k
    cases i with
    | zero => simp at h; subst h; simp [evS]
    | succ i =>
      have := ih (i := i) (by simpa using h) (k := k + 1)
      simp only [List.take_succ_cons, evS, this]
      rw [show k + 1 + i = k + (i + 1) from by omega]; rfl
theorem evC_len (cs : List Cq) : ∀ k, (evC cs k).length ≤ 2 * cs.length := by
  induction cs with
  | nil => simp [evC]
  | cons c cs ih => intro k; have := ih (k + 1); rw [evC, List.length_append]; by_cases h : c.fin = -1 <;> simp [h] <;> omega
theorem evT_len (cs : List Ax) : ∀ k, (evT cs k).length = cs.length := by
  induction cs with
  | nil => simp [evT]
  | cons c cs ih => intro k; simp [evT, ih]
theorem evS_len (cs : List Sx) : ∀ k, (evS cs k).length = cs.length := by
  induction cs with
  | nil => simp [evS]
  | cons c cs ih => intro k; simp [evS, ih]
theorem make_evs (W : World) (n : Nat) (hn : n * 32 ≤ 281474976710656) :
    (Instr.makeSlice 76 (.int .i64 0) (.int .i64 (n : Int))).run Tryz.prog W = .ok (.slice (some ⟨W.heap.size, 0, none⟩) 0 n) (W.alloc (.cells (madeCells (Value.agg #[.int .i64 0, .int .i64 0, .int .i64 0, .int .i64 0]).cells (n * 4)) 85 (0, 0))) := by
  obtain ⟨i0, hi, hz0, hz1, hz2⟩ := parts_of wt_ev
  have h := run_make (P := Tryz.prog) W 76 85 i0 _ Tryz.underlying76 hi hz0 .i64 .i64 (0 : Int) (n : Int) (by omega) (by omega) (by rw [hz2]; omega) (by omega)
  have e : (n : Int).toNat = n := by omega
  rw [e, hz1] at h
  exact h
theorem room32 {m N : Nat} (h : m ≤ N) (hN : (N + N / 4 + 192) * 32 ≤ 281474976710656) : (m + m / 4 + 192) * 32 ≤ 281474976710656 :=
  Nat.le_trans (Nat.mul_le_mul_right _ (Nat.add_le_add_right (Nat.add_le_add h (Nat.div_le_div_right h)) _)) hN
theorem room_le {m N : Nat} (h : m ≤ N) (hN : N ≤ 8796093022208) : m ≤ maxLen := by unfold maxLen; omega
theorem room_made {N : Nat} (hN : N ≤ 8796093022208) : N ≤ maxLen := by unfold maxLen; omega
theorem own_made (W : World) (N : Nat) (hN : N ≤ 8796093022208) : Own (W.alloc (.cells (madeCells (Value.agg #[.int .i64 0, .int .i64 0, .int .i64 0, .int .i64 0]).cells (N * 4)) 85 (0, 0))) (fun k => W.heap.size ≤ k) 85 4 (.slice (some ⟨W.heap.size, 0, none⟩) 0 N) 0 [] := by
  refine ⟨rfl, _, _, rfl, Nat.zero_le _, room_made hN, .inr ⟨W.heap.size, 0, _, rfl, Nat.le_refl _, new_at _ _ _ rfl, ?_, ?_⟩⟩
  · rw [size_madeCells]; omega
  · simp
set_option maxHeartbeats 200000 in
theorem ended_any (c : Cq) (b : Bool) (hb : b = (c.fin != -1)) (w : World) : Calls Tryz.prog 113 #[c.val] w fun e w' => e = .returned (.bool b) ∧ Below w.heap.size w w' := by
  subst hb
  unfold Cq.val
  go_enter Tryz.func113, Tryz.ntmps113
  go_wp2
  go_ret
  exact ⟨rfl, (Below.refl _ _).alloc (Nat.le_refl _) _⟩
set_option maxHeartbeats 16000000 in
theorem eventsOf_any {W0 : World} {T : Nat → Prop} {v0 v1 v2 v3 : Value} {cs : List Cq} {tr : List Ax} {sh : List Sx} {wl : List Int} (hr : RunAt W0 T v0 v1 v2 v3 cs tr sh wl) (hsz : ((2 * cs.length + tr.length + sh.length) + (2 * cs.length + tr.length + sh.length) / 4 + 192) * 32 ≤ 281474976710656) :
    Calls Tryz.prog 77 #[rnV v0 v1 v2 v3] W0 fun e w' => Below W0.heap.size W0 w' ∧ ∃ (u : Value) (es : List Ev), e = .returned u ∧ es.Perm (evA cs tr sh) ∧ es.Pairwise (fun a b => ¬ Ev.lt b a) ∧ Sl w' (fun k => W0.heap.size ≤ k) 4 u es.length (evs es) := by
  obtain ⟨i0, hi0, hz0, hz1, hz2⟩ := parts_of wt_ev
  obtain ⟨a0, p0, rfl, hp0⟩ := hr.calls.form
  obtain ⟨a1, p1, rfl, hp1⟩ := hr.trace.form
  obtain ⟨a2, p2, rfl, hp2⟩ := hr.shifts.form
  obtain ⟨a3, p3, rfl, hp3⟩ := hr.words.form
  obtain ⟨nc, hnc⟩ : ∃ n, n = cs.length := ⟨_, rfl⟩
  obtain ⟨nt, hnt⟩ : ∃ n, n = tr.length := ⟨_, rfl⟩
  obtain ⟨ns, hns⟩ : ∃ n, n = sh.length := ⟨_, rfl⟩
  obtain ⟨nw, hnw⟩ : ∃ n, n = wl.length := ⟨_, rfl⟩
  rw [← hnc, ← hnt, ← hns] at hsz
  have hR1 : Hid (RunAt (W0.alloc (rnO (.slice a0 cs.length p0) (.slice a1 tr.length p1) (.slice a2 sh.length p2) (.slice a3 wl.length p3))) T (.slice a0 cs.length p0) (.slice a1 tr.length p1) (.slice a2 sh.length p2) (.slice a3 wl.length p3) cs tr sh wl) := hr.below ((Below.refl _ _).alloc (Nat.le_refl _) _)
  have hB0 : Hid (Below W0.heap.size W0 (W0.alloc (rnO (.slice a0 cs.length p0) (.slice a1 tr.length p1) (.slice a2 sh.length p2) (.slice a3 wl.length p3)))) := (Below.refl _ _).alloc (Nat.le_refl _) _
  have hbx : Hid ((W0.alloc (rnO (.slice a0 cs.length p0) (.slice a1 tr.length p1) (.slice a2 sh.length p2) (.slice a3 wl.length p3))).heap[W0.heap.size]? = some (rnO (.slice a0 cs.length p0) (.slice a1 tr.length p1) (.slice a2 sh.length p2) (.slice a3 wl.length p3))) := heap_alloc_new _ _
  clear hr hp0 hp1 hp2 hp3
  unfold rnV
  rw [← hnc, ← hnt, ← hns, ← hnw] at hR1 hB0 hbx ⊢
  unfold rnO at hR1 hB0 hbx
  rw [hnc, hnt, hns, hnw] at hR1
  replace hnc := Mr.hid hnc
  replace hnt := Mr.hid hnt
  replace hns := Mr.hid hns
  replace hnw := Mr.hid hnw
  replace hi0 := Mr.hid hi0
  replace hz0 := Mr.hid hz0
  replace hz1 := Mr.hid hz1
  replace hz2 := Mr.hid hz2
  go_enter Tryz.func77, Tryz.ntmps77
  go_upto_region 1 with (fail)
  rw [← hnc.out, ← hnt.out, ← hns.out, ← hnw.out] at hR1
  generalize (W0.alloc _) = W at *
  rw [hnc.out, hnt.out, hns.out, hnw.out] at hR1
  generalize hBe : W0.heap.size = B0 at *
  replace hBe := Mr.hid hBe
  have hb := rnO_cells hbx.out
  obtain ⟨x0, x1, x2, x3, hbl⟩ := hb
  have hmk := make_evs W (2 * nc + nt + ns) (by omega)
  rw [show (((2 * nc + nt + ns : Nat)) : Int) = 2 * (nc : Int) + (nt : Int) + (ns : Int) from by omega] at hmk
  have hzz : 2 * nc + nt + ns ≤ 8796093022208 := by omega
  have z1 : (nc : Int) ≤ 4398046511104 := by omega
  have z2 : (nt : Int) ≤ 8796093022208 := by omega
  have z3 : (ns : Int) ≤ 8796093022208 := by omega
  replace hsz := Mr.hid hsz
  replace hzz := Mr.hid hzz
  go_upto_region 2 with (fail)
  have hw1 : Hid (Below W.heap.size W (W.alloc (.cells (madeCells (Value.agg #[.int .i64 0, .int .i64 0, .int .i64 0, .int .i64 0]).cells ((2 * nc + nt + ns) * 4)) 85 (0, 0)))) := (Below.refl _ _).alloc (Nat.le_refl _) _
  have hO1 : Hid (Own (W.alloc (.cells (madeCells (Value.agg #[.int .i64 0, .int .i64 0, .int .i64 0, .int .i64 0]).cells ((2 * nc + nt + ns) * 4)) 85 (0, 0))) (fun k => W.heap.size ≤ k) 85 4 (.slice (some ⟨W.heap.size, 0, none⟩) 0 (2 * nc + nt + ns)) 0 []) := own_made W _ hzz.out
  have hby : Hid (∀ m, m ≤ 2 * nc + nt + ns → (m + m / 4 + 192) * 32 ≤ 281474976710656) := fun m hm => room32 hm hsz.out
  have hml : Hid (∀ m, m ≤ 2 * nc + nt + ns → m ≤ maxLen) := fun m hm => room_le hm hzz.out
  clear hmk
  simp only [Value.cells] at hw1 hO1
  generalize (W.alloc _) = w1 at *
  generalize (Value.slice (some ⟨W.heap.size, 0, none⟩) 0 (2 * nc + nt + ns)) = sv at *
  have hK : Hid (∀ w', Below W.heap.size W w' → w'.cell? ⟨B0, 0, none⟩ = some (.slice a0 nc p0) ∧ w'.cell? ⟨B0, 1, none⟩ = some (.slice a1 nt p1) ∧ w'.cell? ⟨B0, 2, none⟩ = some (.slice a2 ns p2) ∧ w'.cell? ⟨B0, 3, none⟩ = some (.slice a3 nw p3) ∧ B0 < w'.heap.size) := fun w' h => ⟨(h.cell hbl).trans x0, (h.cell hbl).trans x1, (h.cell hbl).trans x2, (h.cell hbl).trans x3, Nat.lt_of_lt_of_le hbl h.size⟩
  clear x0 x1 x2 x3
  have hRW : Hid (∀ w', Below W.heap.size W w' → RunAt w' T (.slice a0 cs.length p0) (.slice a1 tr.length p1) (.slice a2 sh.length p2) (.slice a3 wl.length p3) cs tr sh wl) := fun w' h => hR1.out.below h
  clear hR1
  obtain ⟨y0, y1, y2, y3, hbl1⟩ := hK.out _ hw1.out
  go_upto_region 3 with (fail)
  clear y0 y1 y2 y3 hbl1
  go_loopg [3, 26] nc (fun k s3 s26 wr => ∃ i : Nat, s26 = .int .i64 (i : Int) ∧ i + k = nc ∧ Below W.heap.size W wr ∧ Own wr (fun k => W.heap.size ≤ k) 85 4 s3 (evC (cs.take i) 0).length (evs (evC (cs.take i) 0)))
  case atStart => exact ⟨0, rfl, by omega, hw1.out, hO1.out⟩
  case round =>
    clear hw1 hO1
    obtain ⟨i, rfl, hi, B, hO⟩ := hrel
    obtain ⟨l, hl⟩ : ∃ l, l = evC (cs.take i) 0 := ⟨_, rfl⟩
    rw [← hl] at hO
    have hll : l.length ≤ 2 * i := by rw [hl]; have := evC_len (cs.take i) 0; simp at this; omega
    by_cases hlt : i < nc
    · obtain ⟨c, hci⟩ : ∃ c, cs[i]? = some c := ⟨cs[i]'(by have := hnc.out; omega), List.getElem?_eq_getElem _⟩
      obtain ⟨bc, oc, rfl, _, A9⟩ := cqx_at (hRW.out _ B).calls hci
      obtain ⟨hcl, g0, g1, g2, g3, g4, g5, g6, g7, g8⟩ := A9
      have hnx := evC_take hci (k := 0)
      rw [← hl, Nat.zero_add] at hnx
      have hlI : (i : Int) < (nc : Int) := by omega
      have AF := Mr.hid (Ew.first (w1 := wr.alloc (cqO c)) B hO (cqO c) rfl)
      obtain ⟨s3a, s3c, rfl, _, _⟩ := hO.form
      have ED := Mr.hid (fun w => ended_any c _ rfl w)
      replace hnx := Mr.hid hnx
      replace hci := Mr.hid hci
      replace B := Mr.hid B
      replace hO := Mr.hid hO
      replace hl := Mr.hid hl
      go_upto_region 5 with (fail)
      have hA := AF
      unfold cqO at hA
      clear AF g0 g1 g2 g3 g4 g5 g6 g7 g8 hcl B hO
      generalize (wr.alloc _) = w5 at *
      generalize wr.heap.size = bx at *
      clear wr
      obtain ⟨k0, k1, k2, k3, k4, k5, k6, k7, k8, kl⟩ := cq_cells hA.out.box
      go_upto_region 6 with (at_builtin; refine wpList_append_mine _ rfl (.tmp 31) (.tmp 38) 76 rfl (fun k => W.heap.size ≤ k ∧ k ≠ bx) 85 i0 _ 4 32 Tryz.underlying76 hi0 hz0 hz1 hz2 rfl _ (l).length (evs (l)) rfl (hA.out.own.below ((Below.refl _ _).alloc (Nat.le_refl _) _)) (some ⟨w5.heap.size, 0, none⟩) 1 1 (Ev.row (bev c i)) rfl rfl (fun e => by cases e) (new4 rfl) (by simp [Ev.row, Value.oneCell']) (hml.out _ (by omega)) (hby.out _ (by omega)) ?_; intro b5 cap5 w6 hown hfr; have hX := Mr.hid (hA.out.app rfl hown hfr); clear hown hfr)
      clear k0 k1 k2 k3 k4 k5 k6 k7 k8 kl hA
      obtain ⟨k0, k1, k2, k3, k4, k5, k6, k7, k8, kl⟩ := cq_cells hX.out.box
      obtain ⟨l1, hl1⟩ : ∃ l1, l1 = l ++ [bev c i] := ⟨_, rfl⟩
      have ql1 : l.length + 1 = l1.length := by rw [hl1]; simp
      rw [← hl1, ql1] at hX
      rw [ql1]
      replace ql1 : l1.length ≤ 2 * i + 1 := by omega
      by_cases he : c.fin = -1
      · have hfin : Hid (evC (cs.take (i + 1)) 0 = l1) := by show _ = _; rw [hnx.out, hl1, if_pos he]
        have e1 : (c.fin != -1) = false := by simp [he]
        replace ED := ED.out
        unfold Cq.val at ED
        rw [e1] at ED
        replace ED := Mr.hid ED
        replace he := Mr.hid he
        replace hl1 := Mr.hid hl1
        go_wp2_with (go_at_call 113; refine (ED.out _).mono ?_; clear ED; rintro e w7 ⟨rfl, hB7⟩; replace hX := Mr.hid (hX.out.below hB7))
        go_roundg (gk - 1)
        case measure => omega
        case rel => exact ⟨i + 1, by simp, by omega, hX.out.bel, by rw [hfin.out]; exact hX.out.done⟩
      · have hfin : Hid (evC (cs.take (i + 1)) 0 = l1 ++ [fev c i]) := by show _ = _; rw [hnx.out, hl1, if_neg he]; simp
        have e1 : (c.fin != -1) = true := by simp [he]
        replace ED := ED.out
        unfold Cq.val at ED
        rw [e1] at ED
        replace ED := Mr.hid ED
        replace he := Mr.hid he
        replace hl1 := Mr.hid hl1
        go_upto_region 7 with (go_at_call 113; refine (ED.out _).mono ?_; clear ED; rintro e w7 ⟨rfl, hB7⟩; have hA := Mr.hid (hX.out.below hB7); clear hX hB7)
        clear k0 k1 k2 k3 k4 k5 k6 k7 k8 kl
        obtain ⟨k0, k1, k2, k3, k4, k5, k6, k7, k8, kl⟩ := cq_cells hA.out.box
        go_wp2_with (at_builtin; refine wpList_append_mine _ rfl (.tmp 42) (.tmp 49) 76 rfl (fun k => W.heap.size ≤ k ∧ k ≠ bx) 85 i0 _ 4 32 Tryz.underlying76 hi0 hz0 hz1 hz2 rfl _ (l1).length (evs (l1)) rfl (hA.out.own.below ((Below.refl _ _).alloc (Nat.le_refl _) _)) (some ⟨w7.heap.size, 0, none⟩) 1 1 (Ev.row (fev c i)) rfl rfl (fun e => by cases e) (new4 rfl) (by simp [Ev.row, Value.oneCell']) (hml.out _ (by omega)) (hby.out _ (by omega)) ?_; intro b5 cap5 w8 hown hfr; have hX := Mr.hid (hA.out.app rfl hown hfr); clear hown hfr)
        go_roundg (gk - 1)
        case measure => omega
        case rel => exact ⟨i + 1, by simp, by omega, hX.out.bel, by rw [hfin.out]; have := hX.out.done; simpa using this⟩
    · have hie : i = nc := by omega
      have q1 : decide ((i : Int) < (nc : Int)) = false := decide_eq_false (by omega)
      have q2 : decide (i < nc) = false := decide_eq_false hlt
      have hlC : Hid (l = evC cs 0) := by show _ = _; rw [hl, hie, hnc.out, List.take_length]
      clear hl hie
      replace hO := Mr.hid hO
      obtain ⟨y0, y1, y2, y3, hbl1⟩ := hK.out _ B
      replace B := Mr.hid B
      obtain ⟨s3a, s3c, rfl, _, _⟩ := hO.out.form
      go_upto_region 10 with (fail)
      clear y0 y1 y2 y3 hbl1
      generalize (Value.slice s3a _ s3c) = sv2 at *
      go_loopg [3, 55] nt (fun k s3 s55 wr => ∃ i : Nat, s55 = .int .i64 (i : Int) ∧ i + k = nt ∧ Below W.heap.size W wr ∧ Own wr (fun k => W.heap.size ≤ k) 85 4 s3 (l ++ evT (tr.take i) 0).length (evs (l ++ evT (tr.take i) 0)))
      case atStart => exact ⟨0, rfl, by omega, B.out, by have := hO.out; simpa [evT] using this⟩
      case round =>
        clear B hO
        obtain ⟨i, rfl, hi, B, hO⟩ := hrel
        obtain ⟨m, hm⟩ : ∃ m, m = l ++ evT (tr.take i) 0 := ⟨_, rfl⟩
        rw [← hm] at hO
        have hml2 : m.length ≤ 2 * nc + i := by
          rw [hm]
          have h1 := evC_len cs 0
          have h2 := evT_len tr 0
          have h3 := evT_len (tr.take i) 0
          have h4 := hlC.out
          have h5 := hnc.out
          have h6 := hnt.out
          simp only [List.length_append, List.length_take] at h3 ⊢
          first | (rw [h4]; omega) | omega
        by_cases hlt : i < nt
        · obtain ⟨c, hci⟩ : ∃ c, tr[i]? = some c := ⟨tr[i]'(by have := hnt.out; omega), List.getElem?_eq_getElem _⟩
          obtain ⟨bc, oc, rfl, _, A9⟩ := ax_at (hRW.out _ B).trace hci
          obtain ⟨hcl, g0, g1, g2, g3, g4, g5, g6⟩ := A9
          have hnx := evT_take hci (k := 0)
          rw [Nat.zero_add] at hnx
          have hfin : Hid (l ++ evT (tr.take (i + 1)) 0 = m ++ [aev c i]) := by show _ = _; rw [hm, hnx]; simp
          have hlI : (i : Int) < (nt : Int) := by omega
          have AF := Mr.hid (Ew.first (w1 := wr.alloc (axO c)) B hO (axO c) rfl)
          obtain ⟨s3a, s3c, rfl, _, _⟩ := hO.form
          clear hnx
          replace hci := Mr.hid hci
          replace B := Mr.hid B
          replace hO := Mr.hid hO
          replace hm := Mr.hid hm
          go_upto_region 12 with (fail)
          have hA := AF
          unfold axO at hA
          clear AF g0 g1 g2 g3 g4 g5 g6 hcl B hO
          generalize (wr.alloc _) = w5 at *
          generalize wr.heap.size = bx at *
          clear wr
          obtain ⟨kl, k0, k1, k2, k3, k4, k5, k6⟩ := axO_cells hA.out.box
          go_wp2_with (at_builtin; refine wpList_append_mine _ rfl (.tmp 60) (.tmp 67) 76 rfl (fun k => W.heap.size ≤ k ∧ k ≠ bx) 85 i0 _ 4 32 Tryz.underlying76 hi0 hz0 hz1 hz2 rfl _ (m).length (evs (m)) rfl (hA.out.own.below ((Below.refl _ _).alloc (Nat.le_refl _) _)) (some ⟨w5.heap.size, 0, none⟩) 1 1 (Ev.row (aev c i)) rfl rfl (fun e => by cases e) (new4 rfl) (by simp [Ev.row, Value.oneCell']) (hml.out _ (by omega)) (hby.out _ (by omega)) ?_; intro b5 cap5 w6 hown hfr; have hX := Mr.hid (hA.out.app rfl hown hfr); clear hown hfr)
          go_roundg (gk - 1)
          case measure => omega
          case rel => exact ⟨i + 1, by simp, by omega, hX.out.bel, by rw [hfin.out]; have := hX.out.done; simpa using this⟩
        · have hie : i = nt := by omega
          have q1 : decide ((i : Int) < (nt : Int)) = false := decide_eq_false (by omega)
          have q2 : decide (i < nt) = false := decide_eq_false hlt
          have hm2 : Hid (m = l ++ evT tr 0) := by show _ = _; rw [hm, hie, hnt.out, List.take_length]
          clear hm hie
          replace hO := Mr.hid hO
          obtain ⟨y0, y1, y2, y3, hbl1⟩ := hK.out _ B
          replace B := Mr.hid B
          obtain ⟨s3a, s3c, rfl, _, _⟩ := hO.out.form
          have hlC2 := Mr.hid (show m = evC cs 0 ++ evT tr 0 by rw [hm2.out, hlC.out])
          have hl2 : m.length ≤ 2 * nc + nt := by rw [hlC2.out, List.length_append, evT_len, hnc.out, hnt.out]; have := evC_len cs 0; omega
          clear hll hml2 hm2 hlC
          have hlC := hlC2
          clear hlC2
          go_upto_region 15 with (fail)
          clear y0 y1 y2 y3 hbl1
          generalize (Value.slice s3a _ s3c) = sv2 at *
          go_loopg [3, 73] ns (fun k s3 s73 wr => ∃ i : Nat, s73 = .int .i64 (i : Int) ∧ i + k = ns ∧ Below W.heap.size W wr ∧ Own wr (fun k => W.heap.size ≤ k) 85 4 s3 (m ++ evS (sh.take i) 0).length (evs (m ++ evS (sh.take i) 0)))
          case atStart => exact ⟨0, rfl, by omega, B.out, by have := hO.out; simpa [evS] using this⟩
          case round =>
            clear B hO
            obtain ⟨i, rfl, hi, B, hO⟩ := hrel
            obtain ⟨m2, hm⟩ : ∃ m2, m2 = m ++ evS (sh.take i) 0 := ⟨_, rfl⟩
            rw [← hm] at hO
            have hml2 : m2.length ≤ 2 * nc + nt + i := by
              rw [hm]
              have h1 := evC_len cs 0
              have h2 := evT_len tr 0
              have h3 := evS_len (sh.take i) 0
              have h4 := hlC.out
              have h5 := hnc.out
              have h6 := hnt.out
              simp only [List.length_append, List.length_take] at h3 ⊢
              first | (rw [h4]; omega) | omega
            by_cases hlt : i < ns
            · obtain ⟨c, hci⟩ : ∃ c, sh[i]? = some c := ⟨sh[i]'(by have := hns.out; omega), List.getElem?_eq_getElem _⟩
              obtain ⟨bc, oc, rfl, _, A9⟩ := sx_at (hRW.out _ B).shifts hci
              obtain ⟨hcl, g0, g1, g2, g3, g4⟩ := A9
              have hnx := evS_take hci (k := 0)
              rw [Nat.zero_add] at hnx
              have hfin : Hid (m ++ evS (sh.take (i + 1)) 0 = m2 ++ [sev c i]) := by show _ = _; rw [hm, hnx]; simp
              have hlI : (i : Int) < (ns : Int) := by omega
              have AF := Mr.hid (Ew.first (w1 := wr.alloc (sxO c)) B hO (sxO c) rfl)
              obtain ⟨s3a, s3c, rfl, _, _⟩ := hO.form
              clear hnx
              replace hci := Mr.hid hci
              replace B := Mr.hid B
              replace hO := Mr.hid hO
              replace hm := Mr.hid hm
              go_upto_region 17 with (fail)
              have hA := AF
              unfold sxO at hA
              clear AF g0 g1 g2 g3 g4 hcl B hO
              generalize (wr.alloc _) = w5 at *
              generalize wr.heap.size = bx at *
              clear wr
              obtain ⟨kl, k0, k1, k2, k3, k4⟩ := sxO_cells hA.out.box
              go_wp2_with (at_builtin; refine wpList_append_mine _ rfl (.tmp 78) (.tmp 85) 76 rfl (fun k => W.heap.size ≤ k ∧ k ≠ bx) 85 i0 _ 4 32 Tryz.underlying76 hi0 hz0 hz1 hz2 rfl _ (m2).length (evs (m2)) rfl (hA.out.own.below ((Below.refl _ _).alloc (Nat.le_refl _) _)) (some ⟨w5.heap.size, 0, none⟩) 1 1 (Ev.row (sev c i)) rfl rfl (fun e => by cases e) (new4 rfl) (by simp [Ev.row, Value.oneCell']) (hml.out _ (by omega)) (hby.out _ (by omega)) ?_; intro b5 cap5 w6 hown hfr; have hX := Mr.hid (hA.out.app rfl hown hfr); clear hown hfr)
              go_roundg (gk - 1)
              case measure => omega
              case rel => exact ⟨i + 1, by simp, by omega, hX.out.bel, by rw [hfin.out]; have := hX.out.done; simpa using this⟩
            · have hie : i = ns := by omega
              have q1 : decide ((i : Int) < (ns : Int)) = false := decide_eq_false (by omega)
              have q2 : decide (i < ns) = false := decide_eq_false hlt
              have hm2 : Hid (m2 = m ++ evS sh 0) := by show _ = _; rw [hm, hie, hns.out, List.take_length]
              clear hm hie
              replace hO := Mr.hid hO
              obtain ⟨y0, y1, y2, y3, hbl1⟩ := hK.out _ B
              replace B := Mr.hid B
              have hA : Hid (m2 = evA cs tr sh) := by show _ = _; rw [hm2.out, hlC.out]; rfl
              have SC := Mr.hid (sortE_any hO.out (by have h1 := hml2; have h2 := hzz.out; omega))
              go_wp2_with (go_at_call 114; refine SC.out.mono ?_; rintro e w9 ⟨rfl, hF9, l9, hp9, hs9, hl9⟩; replace hF9 := Mr.hid hF9; replace hp9 := Mr.hid hp9; replace hs9 := Mr.hid hs9; replace hl9 := Mr.hid hl9)
              go_ret
              have hbl' : W0.heap.size < W.heap.size := by rw [hBe.out]; exact hbl
              have hB0' : Below W0.heap.size W0 W := by rw [hBe.out]; exact hB0.out
              refine ⟨hB0'.trans ((B.out.trans (hF9.out.below (fun k hk => hk) B.out.size)).mono (Nat.le_of_lt hbl')), _, l9, rfl, by rw [← hA.out]; exact hp9.out, hs9.out, hl9.out.mono (fun k hk => Nat.le_trans (Nat.le_of_lt hbl') hk)⟩
end Go.Proofs.YtpknggcgojkjgaaGreat.Cn
/-
  PLAIN: how the regions lie. No Go in sight.
-/
namespace Go.Proofs.YtpknggcgojkjgaaGreat.Wm
/-- How many of a region's things (of buckets, records, slots). -/
def items (a1 a5 a6 : Int) (r : Int) : Int := if r = 7 then a6 else if r = 8 then a1 else if r = 9 then a1 else if 10 ≤ r ∧ r ≤ 13 then a5 else 1
/-- How many words for each. -/
def each (a2 : Int) (r : Int) : Int := if r = 9 then a2 else 1
def many (a1 a2 a5 a6 : Int) (r : Int) : Int := items a1 a5 a6 r * each a2 r
/-- Where region k begins. -/
def base (a1 a2 a5 a6 : Int) : Nat → Int
  | 0 => 0
  | 1 => 0
  | (k + 2) => base a1 a2 a5 a6 (k + 1) + many a1 a2 a5 a6 ((k + 1 : Nat) : Int)
theorem base_succ (a1 a2 a5 a6 : Int) (k : Nat) (h : 1 ≤ k) : base a1 a2 a5 a6 (k + 1) = base a1 a2 a5 a6 k + many a1 a2 a5 a6 (k : Int) := by
  obtain ⟨j, rfl⟩ : ∃ j, k = j + 1 := ⟨k - 1, by omega⟩
  rfl
/-- The bounds of a configuration that may be. -/
def Ok (a1 a2 a5 a6 : Int) : Prop := 1 ≤ a1 ∧ a1 ≤ 16 ∧ 3 ≤ a2 ∧ a2 ≤ 8 ∧ 1 ≤ a5 ∧ a5 ≤ 1024 ∧ 1 ≤ a6 ∧ a6 ≤ 64
theorem items_bd {a1 a2 a5 a6 : Int} (h : Ok a1 a2 a5 a6) (r : Int) : 1 ≤ items a1 a5 a6 r ∧ items a1 a5 a6 r ≤ 1024 := by
  obtain ⟨h1, h2, h3, h4, h5, h6, h7, h8⟩ := h
  unfold items; (repeat' split) <;> omega
theorem each_bd {a1 a2 a5 a6 : Int} (h : Ok a1 a2 a5 a6) (r : Int) : 1 ≤ each a2 r ∧ each a2 r ≤ 8 := by
  obtain ⟨h1, h2, h3, h4, h5, h6, h7, h8⟩ := h
  unfold each; split <;> omega
theorem many_bd {a1 a2 a5 a6 : Int} (h : Ok a1 a2 a5 a6) (r : Int) : 1 ≤ many a1 a2 a5 a6 r ∧ many a1 a2 a5 a6 r ≤ 1024 := by
  have hh := h
  obtain ⟨h1, h2, h3, h4, h5, h6, h7, h8⟩ := h
  unfold many
  by_cases e : r = 9
  · subst e
    simp only [items, each]
    simp only [show ¬ ((9 : Int) = 7) from by decide, show ¬ ((9 : Int) = 8) from by decide, if_true, if_false]
    constructor
    · have := Int.mul_le_mul h1 h3 (by omega) (by omega); omega
    · have := Int.mul_le_mul h2 h4 (by omega) (by omega); omega
  · have e1 : each a2 r = 1 := by unfold each; rw [if_neg e]
    rw [e1]; have := items_bd hh r; omega
theorem base_bd {a1 a2 a5 a6 : Int} (h : Ok a1 a2 a5 a6) : ∀ k : Nat, 0 ≤ base a1 a2 a5 a6 k ∧ base a1 a2 a5 a6 k ≤ 1024 * (k : Int)
  | 0 => by simp [base]
  | 1 => by simp [base]
  | (k + 2) => by
    have i := base_bd h (k + 1)
    have m := many_bd h ((k + 1 : Nat) : Int)
    simp only [base]; omega
end Go.Proofs.YtpknggcgojkjgaaGreat.Wm
