import Derived.Test.YtegbcocbopgghabJ03
/-
  reclaimmodel.Object, kind, value, yes; set and table: where a key stands.
-/
namespace Go.Proofs.Ytegbcocbopgghab.Md
open Go.RowKit Mr
set_option linter.unusedVariables false
set_option linter.unusedSimpArgs false
/-- The number of an op's object. -/
def obj (op : Int) : Int := if op = 22 ∨ op = 23 then 1 else if op = 30 ∨ op = 31 then 2 else if op = 40 ∨ op = 41 then 3 else if op = 50 ∨ op = 51 ∨ op = 52 then 4 else if op = 60 ∨ op = 61 ∨ op = 62 then 5 else 0
set_option maxHeartbeats 4000000 in
theorem object_any (op : Int) (w : World) : Calls Try.prog 43 #[.int .i64 op] w fun e w' => e = .returned (.int .i64 (obj op)) ∧ w' = w := by
  by_cases h : op = 22 ∨ op = 23 ∨ op = 30 ∨ op = 31 ∨ op = 40 ∨ op = 41 ∨ op = 50 ∨ op = 51 ∨ op = 52 ∨ op = 60 ∨ op = 61 ∨ op = 62
  · rcases h with rfl | rfl | rfl | rfl | rfl | rfl | rfl | rfl | rfl | rfl | rfl | rfl
    all_goals
      go_enter Try.func43, Try.ntmps43
      go_wp2
      go_ret
      exact ⟨rfl, rfl⟩
  · have e : obj op = 0 := by
      unfold obj
      rw [if_neg (by omega), if_neg (by omega), if_neg (by omega), if_neg (by omega), if_neg (by omega)]
    rw [e]
    have d : ∀ k : Int, (k = 22 ∨ k = 23 ∨ k = 30 ∨ k = 31 ∨ k = 40 ∨ k = 41 ∨ k = 50 ∨ k = 51 ∨ k = 52 ∨ k = 60 ∨ k = 61 ∨ k = 62) → (op == k) = false := fun k hk => by
      rw [beq_eq_false_iff_ne]; rintro rfl; exact h hk
    have d0 := d 22 (by simp)
    have d1 := d 23 (by simp)
    have d2 := d 30 (by simp)
    have d3 := d 31 (by simp)
    have d4 := d 40 (by simp)
    have d5 := d 41 (by simp)
    have d6 := d 50 (by simp)
    have d7 := d 51 (by simp)
    have d8 := d 52 (by simp)
    have d9 := d 60 (by simp)
    have da := d 61 (by simp)
    have db := d 62 (by simp)
    clear d h e
    go_enter Try.func43, Try.ntmps43
    go_wp2
    go_ret
    exact ⟨rfl, rfl⟩
/-- Where a key stands in a rising list; whether it is there. -/
def plc (l : List Int) (k : Int) : Nat := (l.takeWhile (fun x => decide (x < k))).length
def inB (l : List Int) (k : Int) : Bool := l[plc l k]? == some k
theorem in_eq {l : List Int} {i : Nat} {k : Int} (h : i < l.length) : (l[i]? == some k) = (l[i]?.getD 0 == k) := by rw [List.getElem?_eq_getElem h]; simp
theorem in_no {l : List Int} {i : Nat} {k : Int} (h : l.length ≤ i) : (l[i]? == some k) = false := by rw [List.getElem?_eq_none h]; rfl
theorem plc_eq {l : List Int} {i : Nat} {k : Int} (h : ∀ j, j < i → l[j]?.getD 0 < k) (he : i = l.length ∨ (i < l.length ∧ ¬ l[i]?.getD 0 < k)) : plc l k = i := by
  induction l generalizing i with
  | nil => rcases he with he | ⟨he, _⟩ <;> simp at he; subst he; rfl
  | cons x l ih =>
    cases i with
    | zero =>
      rcases he with he | ⟨_, he⟩
      · simp at he
      · simp at he
        unfold plc
        rw [List.takeWhile_cons, if_neg (by simpa using he)]; rfl
    | succ i =>
      have h0 := h 0 (by omega)
      simp at h0
      unfold plc
      rw [List.takeWhile_cons, if_pos (by simpa using h0), List.length_cons]
      have := ih (i := i) (fun j hj => by simpa using h (j + 1) (by omega)) (by
        rcases he with he | ⟨he, hq⟩
        · exact .inl (by simpa using he)
        · exact .inr ⟨by simpa using he, by simpa using hq⟩)
      unfold plc at this
      omega
set_option maxRecDepth 100000 in
set_option maxHeartbeats 4000000 in
theorem set_any {w : World} {T : Nat → Prop} {v : Value} {l : List Int} (hl : Sl w T 1 v l.length (ints l)) (hsm : l.length * 8 ≤ 281474976710656) (key : Int) :
    Calls Try.prog 61 #[v, .int .i64 key] w fun e w' => e = .returned (.tuple #[.int .i64 (plc (l) key : Int), .bool (inB (l) key)]) ∧ Below w.heap.size w w' := by
  obtain ⟨av, cv, rfl, hcv⟩ := hl.form
  obtain ⟨n, hn⟩ : ∃ n, n = l.length := ⟨_, rfl⟩
  rw [← hn] at hsm hcv hl ⊢
  obtain ⟨ks, hks⟩ : ∃ ks, ks = l := ⟨_, rfl⟩
  rw [← hks]
  have hkn : ks.length = n := by rw [hks, hn]
  replace hl := Mr.hid hl
  replace hn := Mr.hid hn
  replace hks := Mr.hid hks
  replace hkn := Mr.hid hkn
  go_enter Try.func61, Try.ntmps61
  go_wp2
  go_loopg [6] n (fun k s wr => ∃ i : Nat, s = .int .i64 (i : Int) ∧ i + k = n ∧ Below w.heap.size w wr ∧ ∀ j, j < i → ks[j]?.getD 0 < key)
  case atStart => exact ⟨0, rfl, by omega, Below.refl _ _, fun j hj => by omega⟩
  case round =>
    obtain ⟨i, rfl, hi, B, ht⟩ := hrel
    by_cases hlt : i < n
    · obtain ⟨gu, ou, cu', hgu, _, _, hul, ru⟩ := (hl.out.below B).there (by omega)
      cases hgu
      have k1 := ru _ _ (ints_get l i (by have := hn.out; omega))
      rw [← hks.out] at k1
      have hli : (i : Int) < (n : Int) := by omega
      have dl : decide ((i : Int) < (n : Int)) = true := by simpa using hli
      by_cases hq : ks[i]?.getD 0 < key
      · have st : ∀ j, j < i + 1 → ks[j]?.getD 0 < key := fun j hj => by
          by_cases e : j = i
          · rw [e]; exact hq
          · exact ht j (by omega)
        generalize ks[i]?.getD 0 = q1 at *
        have d1 : decide (q1 < key) = true := decide_eq_true hq
        clear ru ht hq
        replace st := Mr.hid st
        replace B := Mr.hid B
        go_wp2
        go_roundg (gk - 1)
        case measure => omega
        case rel => exact ⟨i + 1, by simp, by omega, B.out, st.out⟩
      · have ep := plc_eq ht (.inr ⟨by have := hkn.out; omega, hq⟩)
        have ei : inB ks key = (ks[i]?.getD 0 == key) := by unfold inB; rw [ep]; exact in_eq (by have := hkn.out; omega)
        generalize ks[i]?.getD 0 = q1 at *
        have d1 : decide (q1 < key) = false := decide_eq_false hq
        clear ru ht hq
        replace B := Mr.hid B
        replace ep := Mr.hid ep
        replace ei := Mr.hid ei
        go_wp2
        go_quiet (fail)
        have hBq := Bx.draws wr.heap.size wr nq
        have hB := B.out.trans (hBq.mono B.out.size)
        clear hBq k1 hul B
        generalize wr.drewN nq = W6 at *
        replace hB := Mr.hid hB
        go_wp2
        go_ret2
        exact ⟨by rw [ep.out, ei.out]; rfl, hB.out⟩
    · obtain rfl : i = n := by omega
      have ep := plc_eq ht (.inl hkn.out.symm)
      have ei : inB ks key = false := by unfold inB; rw [ep]; exact in_no (by have := hkn.out; omega)
      have dl : decide ((i : Int) < (i : Int)) = false := by simp
      clear ht
      replace B := Mr.hid B
      replace ep := Mr.hid ep
      replace ei := Mr.hid ei
      go_wp2
      go_quiet (fail)
      have hBq := Bx.draws wr.heap.size wr nq
      have hB := B.out.trans (hBq.mono B.out.size)
      clear hBq B
      generalize wr.drewN nq = W6 at *
      replace hB := Mr.hid hB
      go_wp2
      go_ret2
      exact ⟨by rw [ep.out, ei.out]; rfl, hB.out⟩
set_option maxRecDepth 100000 in
set_option maxHeartbeats 4000000 in
theorem table_any {w : World} {T : Nat → Prop} {v : Value} {l : List (Int × Int)} (hl : Sl w T 2 v l.length (prs l)) (hsm : l.length * 8 ≤ 281474976710656) (key : Int) :
    Calls Try.prog 62 #[v, .int .i64 key] w fun e w' => e = .returned (.tuple #[.int .i64 (plc (l.map Prod.fst) key : Int), .bool (inB (l.map Prod.fst) key)]) ∧ Below w.heap.size w w' := by
  obtain ⟨av, cv, rfl, hcv⟩ := hl.form
  obtain ⟨n, hn⟩ : ∃ n, n = l.length := ⟨_, rfl⟩
  rw [← hn] at hsm hcv hl ⊢
  obtain ⟨ks, hks⟩ : ∃ ks, ks = l.map Prod.fst := ⟨_, rfl⟩
  rw [← hks]
  have hkn : ks.length = n := by rw [hks, hn]; simp
  replace hl := Mr.hid hl
  replace hn := Mr.hid hn
  replace hks := Mr.hid hks
  replace hkn := Mr.hid hkn
  go_enter Try.func62, Try.ntmps62
  go_wp2
  go_loopg [6] n (fun k s wr => ∃ i : Nat, s = .int .i64 (i : Int) ∧ i + k = n ∧ Below w.heap.size w wr ∧ ∀ j, j < i → ks[j]?.getD 0 < key)
  case atStart => exact ⟨0, rfl, by omega, Below.refl _ _, fun j hj => by omega⟩
  case round =>
    obtain ⟨i, rfl, hi, B, ht⟩ := hrel
    by_cases hlt : i < n
    · obtain ⟨gu, ou, cu', hgu, _, _, hul, ru⟩ := (hl.out.below B).there (by omega)
      cases hgu
      have k1 := ru _ _ (prs_get l i (by have := hn.out; omega)).1
      rw [← key_get, ← hks.out] at k1
      have hli : (i : Int) < (n : Int) := by omega
      have dl : decide ((i : Int) < (n : Int)) = true := by simpa using hli
      by_cases hq : ks[i]?.getD 0 < key
      · have st : ∀ j, j < i + 1 → ks[j]?.getD 0 < key := fun j hj => by
          by_cases e : j = i
          · rw [e]; exact hq
          · exact ht j (by omega)
        generalize ks[i]?.getD 0 = q1 at *
        have d1 : decide (q1 < key) = true := decide_eq_true hq
        clear ru ht hq
        replace st := Mr.hid st
        replace B := Mr.hid B
        go_wp2
        go_roundg (gk - 1)
        case measure => omega
        case rel => exact ⟨i + 1, by simp, by omega, B.out, st.out⟩
      · have ep := plc_eq ht (.inr ⟨by have := hkn.out; omega, hq⟩)
        have ei : inB ks key = (ks[i]?.getD 0 == key) := by unfold inB; rw [ep]; exact in_eq (by have := hkn.out; omega)
        generalize ks[i]?.getD 0 = q1 at *
        have d1 : decide (q1 < key) = false := decide_eq_false hq
        clear ru ht hq
        replace B := Mr.hid B
        replace ep := Mr.hid ep
        replace ei := Mr.hid ei
        go_wp2
        go_quiet (fail)
        have hBq := Bx.draws wr.heap.size wr nq
        have hB := B.out.trans (hBq.mono B.out.size)
        clear hBq k1 hul B
        generalize wr.drewN nq = W6 at *
        replace hB := Mr.hid hB
        go_wp2
        go_ret2
        exact ⟨by rw [ep.out, ei.out]; rfl, hB.out⟩
    · obtain rfl : i = n := by omega
      have ep := plc_eq ht (.inl hkn.out.symm)
      have ei : inB ks key = false := by unfold inB; rw [ep]; exact in_no (by have := hkn.out; omega)
      have dl : decide ((i : Int) < (i : Int)) = false := by simp
      clear ht
      replace B := Mr.hid B
      replace ep := Mr.hid ep
      replace ei := Mr.hid ei
      go_wp2
      go_quiet (fail)
      have hBq := Bx.draws wr.heap.size wr nq
      have hB := B.out.trans (hBq.mono B.out.size)
      clear hBq B
      generalize wr.drewN nq = W6 at *
      replace hB := Mr.hid hB
      go_wp2
      go_ret2
      exact ⟨by rw [ep.out, ei.out]; rfl, hB.out⟩
end Go.Proofs.Ytegbcocbopgghab.Md
/-
  reclaimmodel's answers: kind, value, yes.
-/
namespace Go.Proofs.Ytegbcocbopgghab.Md
open Go.RowKit Mr
set_option linter.unusedVariables false
set_option linter.unusedSimpArgs false
def ans (k v : Int) : Value := .agg #[.int .i64 k, .int .i64 v]
set_option maxHeartbeats 2000000 in
theorem kind_any (k : Int) (w : World) : Calls Try.prog 55 #[.int .i64 k] w fun e w' => e = .returned (ans k 0) ∧ Below w.heap.size w w' := by
  go_enter Try.func55, Try.ntmps55
  go_wp2
  refine bodyPost_ret (v := ans k 0) (by simp [results, Try.results55, go_sem, ans]) rfl ?_
  exact ⟨rfl, (Below.refl _ _).alloc (Nat.le_refl _) _⟩
set_option maxHeartbeats 2000000 in
theorem value_any (k : Int) (w : World) : Calls Try.prog 56 #[.int .i64 k] w fun e w' => e = .returned (ans 2 k) ∧ Below w.heap.size w w' := by
  go_enter Try.func56, Try.ntmps56
  go_wp2
  refine bodyPost_ret (v := ans 2 k) (by simp [results, Try.results56, go_sem, ans]) rfl ?_
  exact ⟨rfl, (Below.refl _ _).alloc (Nat.le_refl _) _⟩
set_option maxHeartbeats 2000000 in
theorem yes_any (b : Bool) (w : World) : Calls Try.prog 63 #[.bool b] w fun e w' => e = .returned (ans (if b then 5 else 6) 0) ∧ Below w.heap.size w w' := by
  have bx := heap_alloc_new w (.cells #[.int .i64 0, .int .i64 0] 31 (0, 0))
  have B0 := (Below.refl w.heap.size w).alloc (Nat.le_refl _) (.cells #[.int .i64 0, .int .i64 0] 31 (0, 0))
  have K := fun (w1 : World) (k : Int) (hB : Below (w.heap.size + 1) (w.alloc (.cells #[.int .i64 0, .int .i64 0] 31 (0, 0))) w1) => (show (w1.cell? ⟨w.heap.size, 0, none⟩ = some (.int .i64 0) ∧ w1.cell? ⟨w.heap.size, 1, none⟩ = some (.int .i64 0) ∧ w1.frozen? ⟨w.heap.size, 0, none⟩ = false ∧ w1.frozen? ⟨w.heap.size, 1, none⟩ = false ∧ w.heap.size < w1.heap.size) ∧ ((w1.setCell ⟨w.heap.size, 0, none⟩ (.int .i64 k)).setCell ⟨w.heap.size, 1, none⟩ (.int .i64 0)).cell? ⟨w.heap.size, 0, none⟩ = some (.int .i64 k) ∧ ((w1.setCell ⟨w.heap.size, 0, none⟩ (.int .i64 k)).setCell ⟨w.heap.size, 1, none⟩ (.int .i64 0)).cell? ⟨w.heap.size, 1, none⟩ = some (.int .i64 0) ∧ Below w.heap.size w ((w1.setCell ⟨w.heap.size, 0, none⟩ (.int .i64 k)).setCell ⟨w.heap.size, 1, none⟩ (.int .i64 0)) from by
    have h1 := (hB.block _ (by omega)).trans bx
    have h2 := setBlk (setBlk h1 0 (.int .i64 k)) 1 (.int .i64 0)
    have h3 : Below w.heap.size w w1 := B0.trans (hB.mono (by omega))
    refine ⟨⟨cell_blk h1 0, cell_blk h1 1, ?_, ?_, (Array.getElem?_eq_some_iff.1 h1).1⟩, cell_blk h2 0, cell_blk h2 1, (h3.setCell (p := ⟨w.heap.size, 0, none⟩) (Nat.le_refl _) _).setCell (p := ⟨w.heap.size, 1, none⟩) (Nat.le_refl _) _⟩ <;> simp [World.frozen?, h1])
  clear bx B0
  replace K := Mr.hid K
  cases b with
  | false =>
    go_enter Try.func63, Try.ntmps63
    go_wp2_with (go_at_call 55; refine (kind_any 6 _).mono ?_; rintro e w1 ⟨rfl, hB⟩; unfold ans; simp only [World.size_alloc] at hB; obtain ⟨⟨c0, c1, f0, f1, l1⟩, d0, d1, hE⟩ := K.out w1 6 hB; clear K hB; replace hE := Mr.hid hE)
    refine bodyPost_ret (v := ans 6 0) (by simp [results, Try.results63, go_sem, ans, d0, d1]) rfl ?_
    exact ⟨rfl, hE.out⟩
  | true =>
    go_enter Try.func63, Try.ntmps63
    go_wp2_with (go_at_call 55; refine (kind_any 5 _).mono ?_; rintro e w1 ⟨rfl, hB⟩; unfold ans; simp only [World.size_alloc] at hB; obtain ⟨⟨c0, c1, f0, f1, l1⟩, d0, d1, hE⟩ := K.out w1 5 hB; clear K hB; replace hE := Mr.hid hE)
    refine bodyPost_ret (v := ans 5 0) (by simp [results, Try.results63, go_sem, ans, d0, d1]) rfl ?_
    exact ⟨rfl, hE.out⟩
end Go.Proofs.Ytegbcocbopgghab.Md
