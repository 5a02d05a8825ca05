/-
  chain.Addr, the view's word, enter, follow by their contracts.
-/
import Derived.Test.YtdggempcfmihpaaPlRep
namespace Go.Proofs.Ytdggempcfmihpaa.Pl
open Go.RowKit Mr Me Wp Wc Wm
set_option linter.unusedVariables false
set_option linter.unusedSimpArgs false
theorem bmono {a1 a2 a5 a6 : Int} (h : Ok a1 a2 a5 a6) (j k : Nat) (h1 : 1 ≤ j) (hjk : j < k) : base a1 a2 a5 a6 j + many a1 a2 a5 a6 (j : Int) ≤ base a1 a2 a5 a6 k := by
  induction k with
  | zero => omega
  | succ k ih =>
    rw [base_succ _ _ _ _ k (by omega)]
    by_cases e : j = k
    · subst e; omega
    · have := ih (by omega); have := many_bd h (k : Int); omega
/-- A place that there is, of one word a thing. -/
structure At (c : C7) (r i : Int) : Prop where
  ok : c.ok = true
  r1 : 1 ≤ r
  r2 : r ≤ 13
  r9 : r ≠ 9
  i0 : 0 ≤ i
  i1 : i < items c.a1 c.a5 c.a6 r
theorem At.sum {c : C7} {r i : Int} (h : At c r i) : base c.a1 c.a2 c.a5 c.a6 r.toNat + i * each c.a2 r + 0 = c.at r.toNat + i := by
  have : each c.a2 r = 1 := by unfold each; rw [if_neg h.r9]
  rw [this]; show _ = base _ _ _ _ _ + i; omega
theorem At.lt {c : C7} {r i : Int} (h : At c r i) : 0 ≤ c.at r.toNat + i ∧ c.at r.toNat + i < c.at 14 := by
  have hok := ok_of (show cfgB c.a0 c.a1 c.a2 c.a3 c.a4 c.a5 c.a6 = true from h.ok)
  have b := base_bd hok r.toNat
  have e : each c.a2 r = 1 := by unfold each; rw [if_neg h.r9]
  have m := bmono hok r.toNat 14 (by have := h.r1; omega) (by have := h.r2; omega)
  rw [show ((r.toNat : Nat) : Int) = r from by have := h.r1; omega] at m
  unfold many at m
  rw [e] at m
  have := h.i0
  have := h.i1
  unfold C7.at
  omega
set_option maxHeartbeats 1000000 in
theorem chAddr (c : C7) (r i : Int) (h : At c r i) (w : World) :
    Calls Try.prog 61 #[c.val, .agg #[.int .i64 r, .int .i64 i, .int .i64 0]] w fun e w' => e = .returned (.int .i64 (c.at r.toNat + i)) ∧ Below w.heap.size w w' := by
  have he : each c.a2 r = 1 := by unfold each; rw [if_neg h.r9]
  have A := fun W => addr_ok c.a0 c.a1 c.a2 c.a3 c.a4 c.a5 c.a6 r i 0 W h.ok h.r1 h.r2 (by have := h.i0; have := h.i1; simp [inB]; omega) (by rw [he]; simp [inB])
  rw [h.sum] at A
  generalize c.at r.toNat + i = z at *
  clear h he
  unfold C7.val
  replace A := Mr.hid A
  go_enter Try.func61, Try.ntmps61
  go_wp2_with (go_at_call 73; refine (A.out _).mono ?_; rintro e w1 ⟨rfl, hb1⟩; have B1 := Bx.twoSeq (Bx.two0 _ _ _) hb1; clear hb1; replace B1 := Mr.hid B1)
  go_ret
  exact ⟨rfl, Bx.twoEnd B1.out⟩
theorem add_fld (aw : Addr) (j : Nat) : aw.add j = aw.add j := rfl
set_option maxHeartbeats 2000000 in
theorem word_any {W : World} {bv g : Nat} {c : C7} {aw : Addr} {cap : Nat} {ws : List Int} {v : Vs} (h : Vw W bv g c aw cap ws v) (r i : Int) (hr : At c r i) :
    Calls Try.prog 35 #[.pointer (some ⟨bv, 0, none⟩), .int .i64 r, .int .i64 i] W fun e w' => e = .returned (.int .u64 (wat ws (c.at r.toNat + i).toNat)) ∧ Below W.heap.size W w' := by
  have A := fun W => chAddr c r i hr W
  have hl := hr.lt
  rw [h.sz] at hl
  obtain ⟨j, hj⟩ := Int.eq_ofNat_of_zero_le hl.1
  rw [hj] at A hl ⊢
  have hjl : j < ws.length := by omega
  have Q : ∀ w', Below W.heap.size W w' → w'.cell? (aw.add j) = some (.int .u64 (wat ws j)) := fun w' hB => (h.below hB).wds.rd j _ (wat_some hjl)
  have hjj : ((j : Int)).toNat = j := by omega
  rw [hjj]
  have hcs := fun w' (hB : Below W.heap.size W w') => (h.below hB).cells
  obtain ⟨y0, y1, y2, y3, y4, y5, y6, y7, -, -⟩ := hcs W (Below.refl _ _)
  have q0 := Q W (Below.refl _ _)
  have hbv := h.lt.1
  clear h hr hj
  unfold C7.val at A
  replace A := Mr.hid A
  replace Q := Mr.hid Q
  replace hcs := Mr.hid hcs
  go_enter Try.func35, Try.ntmps35
  go_wp2_with fail
  go_region_held3 (fun w' => w'.cell? ⟨bv, 0, none⟩ = some (.int .i64 c.a0) ∧ w'.cell? ⟨bv, 1, none⟩ = some (.int .i64 c.a1) ∧ w'.cell? ⟨bv, 2, none⟩ = some (.int .i64 c.a2) ∧ w'.cell? ⟨bv, 3, none⟩ = some (.int .i64 c.a3) ∧ w'.cell? ⟨bv, 4, none⟩ = some (.int .i64 c.a4) ∧ w'.cell? ⟨bv, 5, none⟩ = some (.int .i64 c.a5) ∧ w'.cell? ⟨bv, 6, none⟩ = some (.int .i64 c.a6) ∧ w'.cell? ⟨bv, 7, none⟩ = some (.slice (some aw) ws.length cap) ∧ w'.cell? (aw.add j) = some (.int .u64 (wat ws j))) (simp [*])
    (first | (go_at_call 61; refine (A.out _).mono ?_; clear A; rintro e w3 ⟨rfl, hb⟩; replace hb := ((Below.refl W.heap.size W).drew).trans hb; have z0 := Q.out w3 hb; obtain ⟨x0, x1, x2, x3, x4, x5, x6, x7, -, -⟩ := hcs.out w3 hb; replace hb := Mr.hid hb))
  go_wp2_with fail
  go_ret
  exact ⟨rfl, hb.out⟩
end Go.Proofs.Ytdggempcfmihpaa.Pl
