import Derived.Test.YtegbcocbopgghabJ34
/-
  Calls of the objects, purely: what is left may be; a call's own object alone; calls of unlike objects change places.
-/
namespace Go.Proofs.Ytegbcocbopgghab.Md
open Go.RowKit Mr Me
set_option linter.unusedVariables false
theorem obj_ops {op : Int} (ho : obj op ≠ 0) : op = 22 ∨ op = 23 ∨ op = 30 ∨ op = 31 ∨ op = 40 ∨ op = 41 ∨ op = 50 ∨ op = 51 ∨ op = 52 ∨ op = 60 ∨ op = 61 ∨ op = 62 := by
  unfold obj at ho
  by_cases h1 : op = 22 ∨ op = 23
  · omega
  rw [if_neg h1] at ho
  by_cases h2 : op = 30 ∨ op = 31
  · omega
  rw [if_neg h2] at ho
  by_cases h3 : op = 40 ∨ op = 41
  · omega
  rw [if_neg h3] at ho
  by_cases h4 : op = 50 ∨ op = 51 ∨ op = 52
  · omega
  rw [if_neg h4] at ho
  by_cases h5 : op = 60 ∨ op = 61 ∨ op = 62
  · omega
  rw [if_neg h5] at ho
  exact absurd rfl ho
theorem may_dnx {x : Ct} (h : May x) {op : Int} (ho : obj op ≠ 0) (arg data : Int) : May (dnx x op arg data) := by
  obtain ⟨h0, h1, h2⟩ := h
  have p1 := ris_pw.1 h1
  have p2 : (keysOf x.table).Pairwise (· < ·) := ris_pw.1 h2
  rcases obj_ops ho with rfl | rfl | rfl | rfl | rfl | rfl | rfl | rfl | rfl | rfl | rfl | rfl
  · exact ⟨by show ([arg] : List Int).length ≤ 1; simp, h1, h2⟩
  · exact ⟨h0, h1, h2⟩
  · exact ⟨h0, h1, h2⟩
  · exact ⟨h0, h1, h2⟩
  · exact ⟨h0, h1, h2⟩
  · exact ⟨h0, h1, h2⟩
  · refine ⟨h0, ?_, h2⟩
    show Ris (if inB x.set arg then x.set else insL x.set arg)
    cases hb : inB x.set arg with
    | true => exact h1
    | false => exact ris_pw.2 (pw_ins p1 hb)
  · refine ⟨h0, ?_, h2⟩
    show Ris (if inB x.set arg then delL x.set arg else x.set)
    cases hb : inB x.set arg with
    | true => exact ris_pw.2 (pw_del p1 hb)
    | false => exact h1
  · exact ⟨h0, h1, h2⟩
  · refine ⟨h0, h1, ?_⟩
    show Ris (keysOf (if inB (keysOf x.table) arg then x.table else insT x.table arg data))
    cases hb : inB (keysOf x.table) arg with
    | true => exact h2
    | false => exact ris_pw.2 (by show (keysOf (insT x.table arg data)).Pairwise (· < ·); rw [keys_ins]; exact pw_ins p2 hb)
  · refine ⟨h0, h1, ?_⟩
    show Ris (keysOf (if inB (keysOf x.table) arg then delT x.table arg else x.table))
    cases hb : inB (keysOf x.table) arg with
    | true => exact ris_pw.2 (by show (keysOf (delT x.table arg)).Pairwise (· < ·); rw [keys_del]; exact pw_del p2 hb)
    | false => exact h2
  · exact ⟨h0, h1, h2⟩
theorem may_prt {x : Ct} (h : May x) (k : Int) : May (prt x k) := by
  obtain ⟨h0, h1, h2⟩ := h
  have e : Ris [] := fun j hj => by simp at hj
  refine ⟨?_, ?_, ?_⟩
  · show (if k = 1 then x.cell else []).length ≤ 1; split; exact h0; simp
  · show Ris (if k = 4 then x.set else []); split; exact h1; exact e
  · show Ris ((if k = 5 then x.table else []).map Prod.fst); split; exact h2; exact e
theorem dan_prt (x : Ct) {op : Int} (ho : obj op ≠ 0) (arg : Int) : dan (prt x (obj op)) op arg = dan x op arg := by
  rcases obj_ops ho with rfl | rfl | rfl | rfl | rfl | rfl | rfl | rfl | rfl | rfl | rfl | rfl <;> rfl
theorem dnx_prt (x : Ct) {op : Int} (ho : obj op ≠ 0) (arg data : Int) : dnx (prt x (obj op)) op arg data = prt (dnx x op arg data) (obj op) := by
  rcases obj_ops ho with rfl | rfl | rfl | rfl | rfl | rfl | rfl | rfl | rfl | rfl | rfl | rfl <;> rfl
theorem obj_in {op : Int} (ho : obj op ≠ 0) : 1 ≤ obj op ∧ obj op ≤ 5 := by
  rcases obj_ops ho with rfl | rfl | rfl | rfl | rfl | rfl | rfl | rfl | rfl | rfl | rfl | rfl <;> decide
theorem prt_ne (x : Ct) {op : Int} (ho : obj op ≠ 0) (arg data k : Int) (hk : k ≠ obj op) : prt (dnx x op arg data) k = prt x k := by
  rcases obj_ops ho with rfl | rfl | rfl | rfl | rfl | rfl | rfl | rfl | rfl | rfl | rfl | rfl
  · have h : k ≠ 1 := hk
    unfold prt; simp only [if_neg h]; rfl
  · rfl
  · have h : k ≠ 2 := hk
    unfold prt; simp only [if_neg h]; rfl
  · have h : k ≠ 2 := hk
    unfold prt; simp only [if_neg h]; rfl
  · have h : k ≠ 3 := hk
    unfold prt; simp only [if_neg h]; rfl
  · have h : k ≠ 3 := hk
    unfold prt; simp only [if_neg h]; rfl
  · have h : k ≠ 4 := hk
    unfold prt; simp only [if_neg h]; rfl
  · have h : k ≠ 4 := hk
    unfold prt; simp only [if_neg h]; rfl
  · rfl
  · have h : k ≠ 5 := hk
    unfold prt; simp only [if_neg h]; rfl
  · have h : k ≠ 5 := hk
    unfold prt; simp only [if_neg h]; rfl
  · rfl
theorem swap_ops (x : Ct) {a b : Int} (ha : obj a ≠ 0) (hb : obj b ≠ 0) (hne : obj b ≠ obj a) (p d p' d' : Int) : dan (dnx x a p d) b p' = dan x b p' ∧ dnx (dnx x a p d) b p' d' = dnx (dnx x b p' d') a p d := by
  rcases obj_ops ha with rfl | rfl | rfl | rfl | rfl | rfl | rfl | rfl | rfl | rfl | rfl | rfl <;>
  rcases obj_ops hb with rfl | rfl | rfl | rfl | rfl | rfl | rfl | rfl | rfl | rfl | rfl | rfl <;>
  first | exact absurd rfl hne | exact ⟨rfl, rfl⟩
/-- A call that answers what Do tells is allowed; one that tells another answer is not. -/
theorem alw_own (x : Ct) (c : Cq) (h : dan x c.op c.arg = (c.ak, c.av)) (h4 : c.ak ≠ 4) : alw x c = (dnx x c.op c.arg c.data, true) := by
  unfold alw
  by_cases h0 : c.ak = 0
  · rw [if_pos h0]
  · rw [if_neg h0, if_neg h4, if_pos h]
theorem alw_other (x : Ct) (c : Cq) (h : dan x c.op c.arg ≠ (c.ak, c.av)) (h0 : c.ak ≠ 0) (h4 : c.ak ≠ 4) : alw x c = (ct0, false) := by
  unfold alw
  rw [if_neg h0, if_neg h4, if_neg h]
theorem dan_kind (x : Ct) {op : Int} (ho : obj op ≠ 0) (arg : Int) : (dan x op arg).1 ≠ 0 ∧ (dan x op arg).1 ≠ 4 := by
  have ht : ∀ l : List Int, (top l).1 ≠ 0 ∧ (top l).1 ≠ 4 := fun l => by unfold top; split <;> simp
  have hg : ∀ l k, (getT l k).1 ≠ 0 ∧ (getT l k).1 ≠ 4 := fun l k => by unfold getT; split <;> simp
  rcases obj_ops ho with rfl | rfl | rfl | rfl | rfl | rfl | rfl | rfl | rfl | rfl | rfl | rfl
  · show (1 : Int) ≠ 0 ∧ (1 : Int) ≠ 4; decide
  · exact ht _
  · show (1 : Int) ≠ 0 ∧ (1 : Int) ≠ 4; decide
  · exact ht _
  · show (1 : Int) ≠ 0 ∧ (1 : Int) ≠ 4; decide
  · exact ht _
  · show (if inB x.set arg then 6 else 5 : Int) ≠ 0 ∧ (if inB x.set arg then 6 else 5 : Int) ≠ 4; split <;> decide
  · show (if inB x.set arg then 5 else 6 : Int) ≠ 0 ∧ (if inB x.set arg then 5 else 6 : Int) ≠ 4; split <;> decide
  · show (if inB x.set arg then 5 else 6 : Int) ≠ 0 ∧ (if inB x.set arg then 5 else 6 : Int) ≠ 4; split <;> decide
  · show (if inB (keysOf x.table) arg then 6 else 5 : Int) ≠ 0 ∧ (if inB (keysOf x.table) arg then 6 else 5 : Int) ≠ 4; split <;> decide
  · exact hg _ _
  · exact hg _ _
theorem plays_snoc (x : Ct) (cs : List Cq) (c : Cq) (y : Ct) (n : Nat) (h : plays x cs n = (y, -1)) (hc : (alw y c).2 = true) : plays x (cs ++ [c]) n = ((alw y c).1, -1) := by
  induction cs generalizing x n with
  | nil =>
    unfold plays at h
    have e : x = y := by simpa using congrArg Prod.fst h
    subst e
    simp only [List.nil_append, plays]
    rw [if_pos hc]
  | cons d cs ih =>
    simp only [List.cons_append, plays] at h ⊢
    by_cases hd : (alw x d).2 = true
    · rw [if_pos hd] at h ⊢
      exact ih _ _ h
    · rw [if_neg hd] at h
      have := congrArg Prod.snd h
      simp at this
end Go.Proofs.Ytegbcocbopgghab.Md
/-
  reclaimlaw11: ops, pick.
-/
namespace Go.Proofs.Ytegbcocbopgghab.Md
open Go.RowKit Mr Me
set_option linter.unusedVariables false
set_option linter.unusedSimpArgs false
def opsL : List Int := [22, 23, 30, 31, 40, 41, 50, 51, 52, 60, 61, 62]
set_option maxRecDepth 100000 in
set_option maxHeartbeats 4000000 in
theorem ops_any (w : World) : Calls Try.prog 37 #[] w fun e w' => e = .returned (.slice (some ⟨w.heap.size, 0, none⟩) 12 12) ∧ w'.heap[w.heap.size]? = some (.cells (ints opsL).toArray 3 (0, 0)) ∧ Below w.heap.size w w' := by
  go_enter Try.func37, Try.ntmps37
  go_wp2
  go_ret
  exact ⟨rfl, new_at w _ _ rfl, (Below.refl _ _).alloc (Nat.le_refl _) _⟩
theorem ops_obj (j : Nat) (h : j < 12) : ∃ a, opsL[j]? = some a ∧ obj a ≠ 0 := by
  have : ∀ j : Fin 12, ∃ a, opsL[j.val]? = some a ∧ obj a ≠ 0 := by
    intro j
    refine ⟨opsL[j.val]'(by show j.val < 12; exact j.isLt), List.getElem?_eq_getElem _, ?_⟩
    revert j; decide
  exact this ⟨j, h⟩
set_option maxRecDepth 100000 in
set_option maxHeartbeats 4000000 in
theorem pick_any (n : Int) : ∃ a, obj a ≠ 0 ∧ ∀ w : World, Calls Try.prog 14 #[.int .i64 n] w fun e w' => e = .returned (.int .i64 a) ∧ Below w.heap.size w w' := by
  obtain ⟨m, hm, hr⟩ : ∃ m : Nat, m < 12 ∧ wrap64 ((IntKind.u64.wrap n).tmod 12) = (m : Int) := by
    have h0 : 0 ≤ IntKind.u64.wrap n := by simp [IntKind.wrap, IntKind.signed, IntKind.bits]; omega
    have h1 : (IntKind.u64.wrap n).tmod 12 = IntKind.u64.wrap n % 12 := Int.tmod_eq_emod_of_nonneg h0
    have h2 : 0 ≤ IntKind.u64.wrap n % 12 := Int.emod_nonneg _ (by decide)
    have h3 : IntKind.u64.wrap n % 12 < 12 := Int.emod_lt_of_pos _ (by decide)
    refine ⟨(IntKind.u64.wrap n % 12).toNat, by omega, ?_⟩
    rw [h1]
    generalize IntKind.u64.wrap n % 12 = z at *
    unfold wrap64
    omega
  obtain ⟨a, ha, ho⟩ := ops_obj m hm
  refine ⟨a, ho, fun w => ?_⟩
  have C := Mr.hid (ops_any w)
  have hlt : (m : Int) < 12 := by omega
  have hge : (0 : Int) ≤ (m : Int) := by omega
  go_enter Try.func14, Try.ntmps14
  go_wp2_with (first | (go_at_call 37; refine C.out.mono ?_; clear C; rintro e w1 ⟨rfl, hb, hB⟩; have hc : w1.cell? ⟨w.heap.size, m, none⟩ = some (.int .i64 a) := (by rw [cell_blk hb m]; simp [ints, ha]); have hl := (Array.getElem?_eq_some_iff.1 hb).1; clear hb; replace hB := Mr.hid hB))
  go_ret
  exact ⟨rfl, hB.out⟩
end Go.Proofs.Ytegbcocbopgghab.Md
