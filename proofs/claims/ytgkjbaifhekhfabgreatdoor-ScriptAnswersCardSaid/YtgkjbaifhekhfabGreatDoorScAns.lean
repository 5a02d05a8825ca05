/-
  SCRIPT: Answer, the document's Answer, ScriptAnswers.
-/
import Derived.Test.YtgkjbaifhekhfabGreatDoorScAw
import Derived.Test.YtgkjbaifhekhfabGreatDoorRefShow
namespace Go.Proofs.YtgkjbaifhekhfabGreatDoor.Sc
open Go.RowKit Mr
set_option linter.unusedVariables false
set_option linter.unusedSimpArgs false
set_option maxRecDepth 100000
/-- What an answer of a kind without a value is called. -/
def awd (k : Int) : ByteArray := if k = 0 then ⟨#[45]⟩ else if k = 1 then ⟨#[100, 111, 110, 101]⟩ else if k = 3 then ⟨#[101, 109, 112, 116, 121]⟩ else if k = 4 then ⟨#[102, 117, 108, 108]⟩ else if k = 5 then ⟨#[121, 101, 115]⟩ else if k = 6 then ⟨#[110, 111]⟩ else ⟨#[]⟩
theorem k_cases (k : Int) : (k = 0 ∨ k = 1 ∨ k = 3 ∨ k = 4 ∨ k = 5 ∨ k = 6) ∨ k = 2 ∨ ((k == 0) = false ∧ (k == 1) = false ∧ (k == 2) = false ∧ (k == 3) = false ∧ (k == 4) = false ∧ (k == 5) = false ∧ (k == 6) = false) := by
  by_cases h : (k = 0 ∨ k = 1 ∨ k = 3 ∨ k = 4 ∨ k = 5 ∨ k = 6) ∨ k = 2
  · rcases h with h | h
    · exact .inl h
    · exact .inr (.inl h)
  · refine .inr (.inr ⟨?_, ?_, ?_, ?_, ?_, ?_, ?_⟩) <;> exact beq_eq_false_iff_ne.2 (by omega)
theorem awd_none {k : Int} (h : (k == 0) = false ∧ (k == 1) = false ∧ (k == 2) = false ∧ (k == 3) = false ∧ (k == 4) = false ∧ (k == 5) = false ∧ (k == 6) = false) : awd k = ⟨#[]⟩ := by
  obtain ⟨h0, h1, h2, h3, h4, h5, h6⟩ := h
  simp at h0 h1 h2 h3 h4 h5 h6
  simp [awd, h0, h1, h3, h4, h5, h6]
theorem answerWord_lit (k : Int) (w : World) (h : k = 0 ∨ k = 1 ∨ k = 3 ∨ k = 4 ∨ k = 5 ∨ k = 6) : Calls Tryz.prog 17 #[.int .i64 k] w fun e w' => e = .returned (.string (awd k)) ∧ w' = w := by
  rcases h with rfl | rfl | rfl | rfl | rfl | rfl
  all_goals (go_enter Tryz.func17, Tryz.ntmps17; go_wp2; go_ret; exact ⟨rfl, rfl⟩)
theorem answerWord_none (k : Int) (w : World) (h : (k == 0) = false ∧ (k == 1) = false ∧ (k == 2) = false ∧ (k == 3) = false ∧ (k == 4) = false ∧ (k == 5) = false ∧ (k == 6) = false) : Calls Tryz.prog 17 #[.int .i64 k] w fun e w' => e = .returned (.string ⟨#[]⟩) ∧ w' = w := by
  obtain ⟨h0, h1, h2, h3, h4, h5, h6⟩ := h
  go_enter Tryz.func17, Tryz.ntmps17
  go_wp2
  go_ret
  exact ⟨rfl, rfl⟩
/-- An answer's text and its error's number. -/
def anT (k x : Int) : ByteArray := if k = 2 then ⟨#[118, 97, 108, 117, 101, 32]⟩ ++ ito x else if x = 0 then awd k else ⟨#[]⟩
def anK (k x : Int) : Bool := k == 2 || ((k == 0 || k == 1 || k == 3 || k == 4 || k == 5 || k == 6) && x == 0)
theorem ito_size (x : Int) (h : Bd x) : (ito x).size ≤ 21 := by
  have e : (ito x).size = (Lib.itoa x).length := by simp [ito, ByteArray.size]
  rw [e]; exact itoa_len x h
set_option maxHeartbeats 4000000 in
theorem Answer_val (x : Int) (w : World) (E : Env w) (hx : Bd x) : Calls Tryz.prog 6 #[.agg #[.int .i64 2, .int .i64 x]] w fun e w' => e = .returned (.tuple #[.string (⟨#[118, 97, 108, 117, 101, 32]⟩ ++ ito x), .int .i64 0]) ∧ Below w.heap.size w w' := by
  have B0 : Hid (Below w.heap.size w (w.alloc (.cells #[.int .i64 2, .int .i64 x] 24))) := (Below.refl _ _).alloc (Nat.le_refl _) _
  have I := Mr.hid (itoa_any x _ hx (E.below B0.out))
  have hs := ito_size x hx
  generalize ito x = T at *
  have z1 : ¬ 9223372036854775807 < 6 + T.size := by omega
  go_enter Tryz.func6, Tryz.ntmps6
  go_wp2_with (go_at_call 16; refine I.out.mono ?_; clear I; rintro e w1 ⟨rfl, B1⟩; replace B1 := Mr.hid B1)
  go_ret2
  exact ⟨rfl, B0.out.trans (B1.out.mono (by simp))⟩
set_option maxHeartbeats 4000000 in
theorem refAnswer_val (x : Int) (w : World) (hx : Bd x) : Calls Tryz.prog 7 #[.agg #[.int .i64 2, .int .i64 x]] w fun e w' => e = .returned (.tuple #[.string (⟨#[118, 97, 108, 117, 101, 32]⟩ ++ ito x), .bool true]) ∧ Below w.heap.size w w' := by
  have D : Hid (∀ W, Calls Tryz.prog 18 #[.int .i64 x] W fun e w' => e = .returned (.string (ito x)) ∧ Below W.heap.size W w') := fun W => St.decimal_any x W hx.1 hx.2
  have hs := ito_size x hx
  generalize ito x = T at *
  have z1 : ¬ 9223372036854775807 < 6 + T.size := by omega
  go_enter Tryz.func7, Tryz.ntmps7
  go_wp2_with (go_at_call 18; refine (D.out _).mono ?_; clear D; rintro e w1 ⟨rfl, B1⟩; replace B1 := Mr.hid B1)
  go_ret2
  exact ⟨rfl, (((Below.refl _ _).alloc (Nat.le_refl _) _).alloc (by simp) _).trans (B1.out.mono (by simp; omega))⟩
set_option maxHeartbeats 4000000 in
theorem both_lit (k : Int) (w : World) (h : k = 0 ∨ k = 1 ∨ k = 3 ∨ k = 4 ∨ k = 5 ∨ k = 6) :
    (Calls Tryz.prog 6 #[.agg #[.int .i64 k, .int .i64 0]] w fun e w' => e = .returned (.tuple #[.string (awd k), .int .i64 0]) ∧ Below w.heap.size w w') ∧
    (Calls Tryz.prog 7 #[.agg #[.int .i64 k, .int .i64 0]] w fun e w' => e = .returned (.tuple #[.string (awd k), .bool true]) ∧ Below w.heap.size w w') := by
  have A := Mr.hid (fun W => answerWord_lit k W h)
  have hne : Hid (¬ (awd k).toList = [] ∧ ((awd k).toList == []) = false ∧ (awd k).toList.isEmpty = false) := by
    rcases h with rfl | rfl | rfl | rfl | rfl | rfl <;> (simp only [awd]; refine ⟨?_, ?_, ?_⟩ <;> (rw [ByteArray.toList_eq]; decide))
  refine ⟨?_, ?_⟩
  · have kb : (k == 2) = false := beq_eq_false_iff_ne.2 (by omega)
    obtain ⟨n1, n2, n3⟩ := hne.out
    clear h
    generalize awd k = T at *
    go_enter Tryz.func6, Tryz.ntmps6
    go_wp2_with (go_at_call 17; refine (A.out _).mono ?_; clear A; rintro e w1 ⟨rfl, hw⟩; obtain rfl := hw.symm)
    go_ret2
    exact ⟨rfl, (Below.refl _ _).alloc (Nat.le_refl _) _⟩
  · clear A hne
    rcases h with rfl | rfl | rfl | rfl | rfl | rfl
    all_goals (
      go_enter Tryz.func7, Tryz.ntmps7
      go_wp2
      go_ret2
      exact ⟨rfl, ((Below.refl _ _).alloc (Nat.le_refl _) _).alloc (by simp) _⟩)
set_option maxHeartbeats 4000000 in
theorem both_bad (k x : Int) (w : World) (h : ((k = 0 ∨ k = 1 ∨ k = 3 ∨ k = 4 ∨ k = 5 ∨ k = 6) ∧ ¬ x = 0) ∨ ((k == 0) = false ∧ (k == 1) = false ∧ (k == 2) = false ∧ (k == 3) = false ∧ (k == 4) = false ∧ (k == 5) = false ∧ (k == 6) = false)) :
    (Calls Tryz.prog 6 #[.agg #[.int .i64 k, .int .i64 x]] w fun e w' => e = .returned (.tuple #[.string ⟨#[]⟩, .int .i64 2]) ∧ Below w.heap.size w w') ∧
    (Calls Tryz.prog 7 #[.agg #[.int .i64 k, .int .i64 x]] w fun e w' => e = .returned (.tuple #[.string ⟨#[]⟩, .bool false]) ∧ Below w.heap.size w w') := by
  have tn := toList_nil0
  rcases h with ⟨h, hx⟩ | h
  · have A := Mr.hid (fun W => answerWord_lit k W h)
    have hne : Hid (¬ (awd k).toList = [] ∧ ((awd k).toList == []) = false ∧ (awd k).toList.isEmpty = false) := by
      rcases h with rfl | rfl | rfl | rfl | rfl | rfl <;> (simp only [awd]; refine ⟨?_, ?_, ?_⟩ <;> (rw [ByteArray.toList_eq]; decide))
    have hx1 : (x == 0) = false := beq_eq_false_iff_ne.2 hx
    have hx2 : (x != 0) = true := by simp [hx]
    have kb : (k == 2) = false := beq_eq_false_iff_ne.2 (by omega)
    refine ⟨?_, ?_⟩
    · obtain ⟨n1, n2, n3⟩ := hne.out
      clear h
      generalize awd k = T at *
      go_enter Tryz.func6, Tryz.ntmps6
      go_wp2_with (go_at_call 17; refine (A.out _).mono ?_; clear A; rintro e w1 ⟨rfl, hw⟩; obtain rfl := hw.symm)
      go_ret2
      exact ⟨rfl, (Below.refl _ _).alloc (Nat.le_refl _) _⟩
    · have kc : (k != 2) = true := by rw [bne, kb]; rfl
      have k0 : decide (k < 0) = false := decide_eq_false (by omega)
      have k6 : decide (6 < k) = false := decide_eq_false (by omega)
      have k1 : ¬ k < 0 := by omega
      have k7 : ¬ 6 < k := by omega
      clear A hne h
      go_enter Tryz.func7, Tryz.ntmps7
      go_wp2
      go_ret2
      exact ⟨rfl, ((Below.refl _ _).alloc (Nat.le_refl _) _).alloc (by simp) _⟩
  · have A := Mr.hid (fun W => answerWord_none k W h)
    obtain ⟨h0, h1, h2, h3, h4, h5, h6⟩ := h
    refine ⟨?_, ?_⟩
    · clear h0 h1 h3 h4 h5 h6
      go_enter Tryz.func6, Tryz.ntmps6
      go_wp2_with (go_at_call 17; refine (A.out _).mono ?_; clear A; rintro e w1 ⟨rfl, hw⟩; obtain rfl := hw.symm)
      go_ret2
      exact ⟨rfl, (Below.refl _ _).alloc (Nat.le_refl _) _⟩
    · clear A
      simp at h0 h1 h2 h3 h4 h5 h6
      by_cases hk : k < 0
      · have k0 : decide (k < 0) = true := by simpa using hk
        clear h0 h1 h2 h3 h4 h5 h6
        go_enter Tryz.func7, Tryz.ntmps7
        go_wp2
        go_ret2
        exact ⟨rfl, ((Below.refl _ _).alloc (Nat.le_refl _) _).alloc (by simp) _⟩
      · have k0 : decide (k < 0) = false := decide_eq_false hk
        have k7 : 6 < k := by omega
        have k6 : decide (6 < k) = true := by simpa using k7
        clear h0 h1 h2 h3 h4 h5 h6
        go_enter Tryz.func7, Tryz.ntmps7
        go_wp2
        go_ret2
        exact ⟨rfl, ((Below.refl _ _).alloc (Nat.le_refl _) _).alloc (by simp) _⟩
theorem v3 : (⟨#[118, 97, 108, 117, 101, 32]⟩ ++ ito (-3) : ByteArray) = ⟨#[118, 97, 108, 117, 101, 32, 45, 51]⟩ := by decide +kernel
set_option maxHeartbeats 8000000 in
theorem answers_some (k x : Int) (T : ByteArray) (w : World) (E : Env w) (h1 : ∀ W, Below w.heap.size w W → Calls Tryz.prog 6 #[.agg #[.int .i64 k, .int .i64 x]] W fun e w' => e = .returned (.tuple #[.string T, .int .i64 0]) ∧ Below W.heap.size W w') (h2 : ∀ W, Below w.heap.size w W → Calls Tryz.prog 7 #[.agg #[.int .i64 k, .int .i64 x]] W fun e w' => e = .returned (.tuple #[.string T, .bool true]) ∧ Below W.heap.size W w') :
    Calls Tryz.prog 3 #[.agg #[.int .i64 k, .int .i64 x]] w fun e w' => e = .returned (.bool true) ∧ Below w.heap.size w w' := by
  have V3 : Hid (∀ W, Below w.heap.size w W → Calls Tryz.prog 6 #[.agg #[.int .i64 2, .int .i64 (-3)]] W fun e w' => e = .returned (.tuple #[.string ⟨#[118, 97, 108, 117, 101, 32, 45, 51]⟩, .int .i64 0]) ∧ Below W.heap.size W w') := fun W hB => by
    have := Answer_val (-3) W (E.below hB) (by unfold Bd; decide)
    rw [v3] at this
    exact this
  have B0 : Hid (Below w.heap.size w (w.alloc (.cells #[.int .i64 k, .int .i64 x] 24))) := (Below.refl _ _).alloc (Nat.le_refl _) _
  have A1 := Mr.hid (h1 _ B0.out)
  have h2' := Mr.hid h2
  have eT : (T.toList == T.toList) = true := by simp
  clear h1 h2 E
  go_enter Tryz.func3, Tryz.ntmps3
  go_upto_region 2 with (go_at_call 6; refine A1.out.mono ?_; clear A1; rintro e w1 ⟨rfl, B1⟩)
  have hbx : w1.heap[w.heap.size]? = some (.cells #[.int .i64 k, .int .i64 x] 24 (0, 0)) := (B1.block _ (by simp)).trans (new_at _ _ _ rfl)
  have c0 := cell_blk hbx 0
  have c1 := cell_blk hbx 1
  have l1 := (Array.getElem?_eq_some_iff.1 hbx).1
  have BB : Below w.heap.size w w1 := B0.out.trans (B1.mono (by simp))
  have A2 := Mr.hid (h2'.out w1 BB)
  replace BB := Mr.hid BB
  clear hbx h2' B1 B0
  go_upto_region 5 with (go_at_call 7; refine A2.out.mono ?_; clear A2; rintro e w2 ⟨rfl, B2⟩)
  have BC : Below w.heap.size w w2 := BB.out.trans (B2.mono BB.out.size)
  have A3 := Mr.hid (V3.out w2 BC)
  replace BC := Mr.hid BC
  clear V3 B2
  go_wp2_with (go_at_call 6; refine A3.out.mono ?_; clear A3; rintro e w3 ⟨rfl, B3⟩; replace B3 := Mr.hid B3)
  go_ret
  exact ⟨rfl, BC.out.trans (B3.out.mono BC.out.size)⟩
set_option maxHeartbeats 8000000 in
theorem answers_bad (k x : Int) (w : World) (E : Env w) (h1 : ∀ W, Calls Tryz.prog 6 #[.agg #[.int .i64 k, .int .i64 x]] W fun e w' => e = .returned (.tuple #[.string ⟨#[]⟩, .int .i64 2]) ∧ Below W.heap.size W w') (h2 : ∀ W, Calls Tryz.prog 7 #[.agg #[.int .i64 k, .int .i64 x]] W fun e w' => e = .returned (.tuple #[.string ⟨#[]⟩, .bool false]) ∧ Below W.heap.size W w') :
    Calls Tryz.prog 3 #[.agg #[.int .i64 k, .int .i64 x]] w fun e w' => e = .returned (.bool true) ∧ Below w.heap.size w w' := by
  have AW := Mr.hid (fun W (hB : Below w.heap.size w W) => awake_any W (E.below hB))
  have B0 : Hid (Below w.heap.size w (w.alloc (.cells #[.int .i64 k, .int .i64 x] 24))) := (Below.refl _ _).alloc (Nat.le_refl _) _
  have A1 := Mr.hid (h1 (w.alloc (.cells #[.int .i64 k, .int .i64 x] 24)))
  have h2' := Mr.hid h2
  have tn := toList_nil0
  clear h1 h2 E
  go_enter Tryz.func3, Tryz.ntmps3
  go_upto_region 2 with (go_at_call 6; refine A1.out.mono ?_; clear A1; rintro e w1 ⟨rfl, B1⟩)
  have hbx : w1.heap[w.heap.size]? = some (.cells #[.int .i64 k, .int .i64 x] 24 (0, 0)) := (B1.block _ (by simp)).trans (new_at _ _ _ rfl)
  have c0 := cell_blk hbx 0
  have c1 := cell_blk hbx 1
  have l1 := (Array.getElem?_eq_some_iff.1 hbx).1
  have BB : Below w.heap.size w w1 := B0.out.trans (B1.mono (by simp))
  have A2 := Mr.hid (h2'.out w1)
  replace BB := Mr.hid BB
  clear hbx h2' B1 B0
  go_upto_region 4 with (go_at_call 7; refine A2.out.mono ?_; clear A2; rintro e w2 ⟨rfl, B2⟩)
  have BC : Below w.heap.size w w2 := BB.out.trans (B2.mono BB.out.size)
  have A3 := Mr.hid (AW.out w2 BC)
  replace BC := Mr.hid BC
  clear AW B2
  go_wp2_with (go_at_call 8; refine A3.out.mono ?_; clear A3; rintro e w3 ⟨rfl, B3⟩; replace B3 := Mr.hid B3)
  go_ret
  exact ⟨rfl, BC.out.trans (B3.out.mono BC.out.size)⟩
theorem law_answers (k x : Int) (w : World) (hw : (Lit.int .i64 k).wf = true ∧ (Lit.int .i64 x).wf = true) (E : Env w) :
    Calls Tryz.prog 3 #[.agg #[.int .i64 k, .int .i64 x]] w fun e w' => e = .returned (.bool true) ∧ Below w.heap.size w w' := by
  have hx : Bd x := bounds_i64 hw.2
  rcases k_cases k with h | rfl | h
  · by_cases h0 : x = 0
    · subst h0
      exact answers_some k 0 (awd k) w E (fun W _ => (both_lit k W h).1) (fun W _ => (both_lit k W h).2)
    · exact answers_bad k x w E (fun W => (both_bad k x W (.inl ⟨h, h0⟩)).1) (fun W => (both_bad k x W (.inl ⟨h, h0⟩)).2)
  · exact answers_some 2 x _ w E (fun W hB => Answer_val x W (E.below hB) hx) (fun W hB => refAnswer_val x W hx)
  · exact answers_bad k x w E (fun W => (both_bad k x W (.inr h)).1) (fun W => (both_bad k x W (.inr h)).2)
end Go.Proofs.YtgkjbaifhekhfabGreatDoor.Sc
