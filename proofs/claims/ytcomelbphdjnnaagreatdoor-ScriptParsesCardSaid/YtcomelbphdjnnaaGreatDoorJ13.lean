import Derived.Test.YtcomelbphdjnnaaGreatDoorJ11
import Derived.Test.YtcomelbphdjnnaaGreatDoorJ12
/-
  SCRIPT: Print.
-/
namespace Go.Proofs.YtcomelbphdjnnaaGreatDoor.Sc
open Go.RowKit Mr
set_option linter.unusedVariables false
set_option linter.unusedSimpArgs false
set_option maxRecDepth 100000
/-- What Print answers: a text and an error's number. -/
def prT (b : Bool) (c : List Int) (ms : List Mv) : ByteArray := if b = true then (if ms.length ≤ 65536 then (if (prints c ms).length ≤ 1048576 then ⟨(prints c ms).toArray⟩ else ⟨#[]⟩) else ⟨#[]⟩) else ⟨#[]⟩
def prE (b : Bool) (c : List Int) (ms : List Mv) : Int := if b = true then (if ms.length ≤ 65536 then (if (prints c ms).length ≤ 1048576 then 0 else 3) else 3) else 1
set_option maxHeartbeats 8000000 in
theorem Print_any (c0 c1 c2 c3 c4 c5 c6 : Int) (a : Option Addr) (n c : Nat) (ms : List Mv) (w : World) (E : Env w) (hM : MvAt w a n ms) (hm : ∀ m ∈ ms, MvB m) (hb : ∀ x ∈ [c0, c1, c2, c3, c4, c5, c6], Bd x) (hc : n ≤ c) :
    Calls Tryz.prog 6 #[.agg #[.int .i64 c0, .int .i64 c1, .int .i64 c2, .int .i64 c3, .int .i64 c4, .int .i64 c5, .int .i64 c6], .slice a n c] w fun e w' => e = .returned (.tuple #[.string (prT (Wc.cfgB c0 c1 c2 c3 c4 c5 c6) [c0, c1, c2, c3, c4, c5, c6] ms), .int .i64 (prE (Wc.cfgB c0 c1 c2 c3 c4 c5 c6) [c0, c1, c2, c3, c4, c5, c6] ms)]) ∧ Below w.heap.size w w' := by
  have Ck := Mr.hid (fun W => Wc.check_any c0 c1 c2 c3 c4 c5 c6 W)
  have hl := hM.1
  have B0 : Hid (Below w.heap.size w (w.alloc (.cells #[.int .i64 c0, .int .i64 c1, .int .i64 c2, .int .i64 c3, .int .i64 c4, .int .i64 c5, .int .i64 c6] 23))) := (Below.refl _ _).alloc (Nat.le_refl _) _
  cases hcf : Wc.cfgB c0 c1 c2 c3 c4 c5 c6 with
  | false =>
    have e1 : Hid (prT false [c0, c1, c2, c3, c4, c5, c6] ms = ⟨#[]⟩ ∧ prE false [c0, c1, c2, c3, c4, c5, c6] ms = 1) := ⟨rfl, rfl⟩
    rw [e1.out.1, e1.out.2]
    rw [hcf] at Ck
    have e2 : Wc.chkN false = 1 := rfl
    rw [e2] at Ck
    clear e1 e2 hcf hM hm hb hl
    go_enter Tryz.func6, Tryz.ntmps6
    go_wp2_with (go_at_call 13; refine (Ck.out _).mono ?_; clear Ck; rintro e w1 ⟨rfl, B1⟩)
    go_ret2
    exact ⟨rfl, B0.out.trans (B1.mono (by simp))⟩
  | true =>
    rw [hcf] at Ck
    have e2 : Wc.chkN true = 0 := rfl
    rw [e2] at Ck
    clear e2 hcf
    by_cases hn : n ≤ 65536
    · have hbx : Hid ((w.alloc (.cells #[.int .i64 c0, .int .i64 c1, .int .i64 c2, .int .i64 c3, .int .i64 c4, .int .i64 c5, .int .i64 c6] 23)).heap[w.heap.size]? = some (.cells #[.int .i64 c0, .int .i64 c1, .int .i64 c2, .int .i64 c3, .int .i64 c4, .int .i64 c5, .int .i64 c6] 23 (0, 0))) := new_at _ _ _ rfl
      have W : Hid (∀ W, Below w.heap.size w W → Calls Tryz.prog 14 #[.agg #[.int .i64 c0, .int .i64 c1, .int .i64 c2, .int .i64 c3, .int .i64 c4, .int .i64 c5, .int .i64 c6], .slice a n c] W fun e w' => e = .returned (.string ⟨(prints [c0, c1, c2, c3, c4, c5, c6] ms).toArray⟩) ∧ Below W.heap.size W w') := fun W hB => written_any c0 c1 c2 c3 c4 c5 c6 a n c ms W (E.below hB) (hM.below hB) hm hb hn hc
      have d0 : decide ((n : Int) > 65536) = false := decide_eq_false (by omega)
      have d1 : ¬ (65536 : Int) < (n : Int) := by omega
      have hp : Hid (prT true [c0, c1, c2, c3, c4, c5, c6] ms = (if (prints [c0, c1, c2, c3, c4, c5, c6] ms).length ≤ 1048576 then ⟨(prints [c0, c1, c2, c3, c4, c5, c6] ms).toArray⟩ else ⟨#[]⟩) ∧ prE true [c0, c1, c2, c3, c4, c5, c6] ms = (if (prints [c0, c1, c2, c3, c4, c5, c6] ms).length ≤ 1048576 then 0 else 3)) := by
        have h1 : ms.length ≤ 65536 := by omega
        exact ⟨by unfold prT; rw [if_pos rfl, if_pos h1], by unfold prE; rw [if_pos rfl, if_pos h1]⟩
      rw [hp.out.1, hp.out.2]
      clear hp hM hm hb hl E hc hn
      have hsz := sz_list (prints [c0, c1, c2, c3, c4, c5, c6] ms)
      by_cases hq : (prints [c0, c1, c2, c3, c4, c5, c6] ms).length ≤ 1048576
      · rw [if_pos hq, if_pos hq]
        rw [← hsz] at hq
        clear hsz
        generalize (⟨(prints [c0, c1, c2, c3, c4, c5, c6] ms).toArray⟩ : ByteArray) = T at *
        have d2 : decide ((T.size : Int) > 1048576) = false := decide_eq_false (by omega)
        have d3 : ¬ (1048576 : Int) < (T.size : Int) := by omega
        go_enter Tryz.func6, Tryz.ntmps6
        go_upto_region 6 with (go_at_call 13; refine (Ck.out _).mono ?_; clear Ck; rintro e w1 ⟨rfl, B1⟩)
        have hb1 : w1.heap[w.heap.size]? = some (.cells #[.int .i64 c0, .int .i64 c1, .int .i64 c2, .int .i64 c3, .int .i64 c4, .int .i64 c5, .int .i64 c6] 23 (0, 0)) := (B1.block _ (by simp)).trans hbx.out
        have k0 := cell_blk hb1 0
        have k1 := cell_blk hb1 1
        have k2 := cell_blk hb1 2
        have k3 := cell_blk hb1 3
        have k4 := cell_blk hb1 4
        have k5 := cell_blk hb1 5
        have k6 := cell_blk hb1 6
        have BB : Hid (Below w.heap.size w w1) := B0.out.trans (B1.mono (by simp))
        have W1 := Mr.hid (W.out w1 BB.out)
        clear hb1 B1 W hbx B0
        go_wp2_with (go_at_call 14; refine W1.out.mono ?_; clear W1; rintro e w2 ⟨rfl, B2⟩)
        go_ret2
        exact ⟨rfl, BB.out.trans (B2.mono BB.out.size)⟩
      · rw [if_neg hq, if_neg hq]
        rw [← hsz] at hq
        clear hsz
        generalize (⟨(prints [c0, c1, c2, c3, c4, c5, c6] ms).toArray⟩ : ByteArray) = T at *
        have d2 : decide ((T.size : Int) > 1048576) = true := by simp; omega
        have d3 : (1048576 : Int) < (T.size : Int) := by omega
        go_enter Tryz.func6, Tryz.ntmps6
        go_upto_region 6 with (go_at_call 13; refine (Ck.out _).mono ?_; clear Ck; rintro e w1 ⟨rfl, B1⟩)
        have hb1 : w1.heap[w.heap.size]? = some (.cells #[.int .i64 c0, .int .i64 c1, .int .i64 c2, .int .i64 c3, .int .i64 c4, .int .i64 c5, .int .i64 c6] 23 (0, 0)) := (B1.block _ (by simp)).trans hbx.out
        have k0 := cell_blk hb1 0
        have k1 := cell_blk hb1 1
        have k2 := cell_blk hb1 2
        have k3 := cell_blk hb1 3
        have k4 := cell_blk hb1 4
        have k5 := cell_blk hb1 5
        have k6 := cell_blk hb1 6
        have BB : Hid (Below w.heap.size w w1) := B0.out.trans (B1.mono (by simp))
        have W1 := Mr.hid (W.out w1 BB.out)
        clear hb1 B1 W hbx B0
        go_wp2_with (go_at_call 14; refine W1.out.mono ?_; clear W1; rintro e w2 ⟨rfl, B2⟩)
        go_ret2
        exact ⟨rfl, BB.out.trans (B2.mono BB.out.size)⟩
    · have hp : Hid (prT true [c0, c1, c2, c3, c4, c5, c6] ms = ⟨#[]⟩ ∧ prE true [c0, c1, c2, c3, c4, c5, c6] ms = 3) := by
        have h1 : ¬ ms.length ≤ 65536 := by omega
        exact ⟨by unfold prT; rw [if_pos rfl, if_neg h1], by unfold prE; rw [if_pos rfl, if_neg h1]⟩
      rw [hp.out.1, hp.out.2]
      have d0 : decide ((n : Int) > 65536) = true := by simp; omega
      have d1 : (65536 : Int) < (n : Int) := by omega
      clear hp hM hm hb hl E hc hn
      go_enter Tryz.func6, Tryz.ntmps6
      go_wp2_with (go_at_call 13; refine (Ck.out _).mono ?_; clear Ck; rintro e w1 ⟨rfl, B1⟩)
      go_ret2
      exact ⟨rfl, B0.out.trans (B1.mono (by simp))⟩
end Go.Proofs.YtcomelbphdjnnaaGreatDoor.Sc
/-
  SCRIPT: line, text, Parse, where nothing is wrong.
-/
namespace Go.Proofs.YtcomelbphdjnnaaGreatDoor.Sc
open Go.RowKit Mr
set_option linter.unusedVariables false
set_option linter.unusedSimpArgs false
set_option maxRecDepth 100000
def cfZ : Cf := ⟨0, 0, 0, 0, 0, 0, 0⟩
/-- What a line comes to, and what it leaves. -/
def lnE (st : Cf × List Mv) (ws : List (List UInt8)) : Int := if ws = [] then 0 else if st.1 = cfZ then macE ws else entE st.1.c0.toNat st.2 ws
def lnS (st : Cf × List Mv) (ws : List (List UInt8)) : Cf × List Mv := if ws = [] then st else if st.1 = cfZ then (cfN (numsL ws), st.2) else (st.1, entM st.1.c0.toNat st.2 ws)
/-- What a text leaves, if nothing is wrong with it. -/
def prO : Nat → List UInt8 → Cf × List Mv → Option (Cf × List Mv)
  | _, [], st => some st
  | 0, _ :: _, _ => none
  | f + 1, c :: r, st => if lnE st (words (Lib.cut (c :: r) [10]).1) = 0 then prO f (Lib.cut (c :: r) [10]).2.1 (lnS st (words (Lib.cut (c :: r) [10]).1)) else none
def parseO (l : List UInt8) : Option (Cf × List Mv) := if l.length ≤ 1048576 then (match prO l.length l (cfZ, []) with | some st => if st.1 = cfZ then none else some st | none => none) else none
/-- A state that a reader may have. -/
def Gs (st : Cf × List Mv) : Prop := (st.1 = cfZ ∨ cfgC st.1 = true) ∧ st.2.length ≤ 65536
theorem cfgC_c0 {c : Cf} (h : cfgC c = true) : 1 ≤ c.c0 ∧ c.c0 ≤ 16 := by
  unfold cfgC Wc.cfgB Wc.inB at h
  simp only [Bool.and_eq_true, decide_eq_true_eq] at h
  omega
theorem cfgC_ne {c : Cf} (h : cfgC c = true) : c ≠ cfZ := fun e => by have := (cfgC_c0 h).1; rw [e] at this; exact absurd this (by decide)
theorem macE_ok {ws : List (List UInt8)} (h : macE ws = 0) : cfgC (cfN (numsL ws)) = true := by
  unfold macE at h
  split at h
  · split at h
    · split at h
      · assumption
      · cases h
    · cases h
  · cases h
theorem entE_ok {T : Nat} {ms : List Mv} {ws : List (List UInt8)} (h : entE T ms ws = 0) : (entM T ms ws).length ≤ 65536 := by
  unfold entE at h
  split at h
  · cases h
  · split at h
    · cases h
    · split at h
      · cases h
      · split at h
        · cases h
        · unfold entM
          rw [List.length_append, rep_len]
          omega
theorem Gs.next {st : Cf × List Mv} {ws : List (List UInt8)} (h : Gs st) (hk : lnE st ws = 0) : Gs (lnS st ws) := by
  unfold lnE at hk
  unfold lnS
  split at hk
  · rename_i h0; rw [if_pos h0]; exact h
  · rename_i h0
    rw [if_neg h0]
    split at hk
    · rename_i h1; rw [if_pos h1]; exact ⟨.inr (macE_ok hk), h.2⟩
    · rename_i h1; rw [if_neg h1]; exact ⟨h.1, entE_ok hk⟩
set_option maxHeartbeats 8000000 in
theorem line_ok (w0 : World) (R : Nat) (st : Cf × List Mv) (v : Value) (ws : List (List UInt8)) (a : Option Addr) (n c : Nat) (w : World) (E : Env w0) (hB : Below w0.heap.size w0 w) (hR : Rd w0.heap.size R w st.1 v st.2) (hW : WsAt w a n ws) (hg : ∀ x ∈ ws, Gw x) (hn : n ≤ 1048576) (hsz : ∀ x ∈ ws, x.length ≤ 1048576) (hG : Gs st) (hok : lnE st ws = 0) :
    Calls Tryz.prog 35 #[.pointer (some ⟨R, 0, none⟩), .slice a n c] w fun e w' => ∃ v', e = .returned .nilIface ∧ Rd w0.heap.size R w' (lnS st ws).1 v' (lnS st ws).2 ∧ Below w0.heap.size w0 w' := by
  obtain ⟨cf, ms⟩ := st
  dsimp only at *
  have hbx := hR.box
  unfold cfO at hbx
  have x0 := cell_blk hbx 0
  have x1 := cell_blk hbx 1
  have x2 := cell_blk hbx 2
  have x3 := cell_blk hbx 3
  have x4 := cell_blk hbx 4
  have x5 := cell_blk hbx 5
  have x6 := cell_blk hbx 6
  have hRl := hR.lt
  by_cases h0 : ws = []
  · have hn0 : n = 0 := by rw [hW.1, h0]; rfl
    have e1 : Hid (lnS (cf, ms) ws = (cf, ms)) := by show _ = _; unfold lnS; rw [if_pos h0]
    rw [e1.out]
    subst hn0
    replace hR := Mr.hid hR
    replace hB := Mr.hid hB
    clear hbx x0 x1 x2 x3 x4 x5 x6 hW hg hsz hG hok e1
    go_enter Tryz.func35, Tryz.ntmps35
    go_wp2
    go_ret
    exact ⟨v, rfl, hR.out, hB.out⟩
  · have hn0 : ¬ n = 0 := by rw [hW.1]; intro e; exact h0 (List.eq_nil_of_length_eq_zero e)
    have k0 : ((n : Int) == 0) = false := beq_eq_false_iff_ne.2 (by omega)
    unfold lnE at hok
    rw [if_neg h0] at hok
    unfold lnS
    rw [if_neg h0]
    by_cases h1 : cf = cfZ
    · rw [if_pos h1] at hok ⊢
      dsimp only at hok ⊢
      have M := Mr.hid (machine_ok w0 R cf v ms ws a n c w E hB hR hW hg hn hsz hok)
      subst h1
      clear hbx hB hR hW hg hsz hok hG h0
      dsimp only [cfZ] at x0 x1 x2 x3 x4 x5 x6
      generalize cfN (numsL ws) = cn at *
      go_enter Tryz.func35, Tryz.ntmps35
      go_wp2_with (go_at_call 48; refine M.out.mono ?_; clear M; rintro e w2 ⟨rfl, hR2, hB2⟩; replace hR2 := Mr.hid hR2; replace hB2 := Mr.hid hB2)
      go_ret
      exact ⟨v, rfl, hR2.out, hB2.out⟩
    · rw [if_neg h1] at hok ⊢
      dsimp only at hok ⊢
      have hc := cfgC_c0 (hG.1.resolve_left h1)
      dsimp only at hc
      have M := Mr.hid (entry_ok w0 R cf.c0.toNat cf v ms ws a n c w E hB hR hW hg hn hsz (by omega) (by omega) hok hG.2)
      obtain ⟨n0, n1, n2, n3, n4, n5, n6⟩ := cf
      dsimp only at *
      have kc : (n0 == 0) = false := beq_eq_false_iff_ne.2 (by omega)
      have kc2 : ¬ n0 = 0 := by omega
      clear hbx hB hR hW hg hsz hok hG h0 h1 hc
      generalize entM n0.toNat ms ws = em at *
      go_enter Tryz.func35, Tryz.ntmps35
      go_wp2_with (go_at_call 49; refine M.out.mono ?_; clear M; rintro e w2 ⟨v2, rfl, hR2, hB2⟩; replace hR2 := Mr.hid hR2; replace hB2 := Mr.hid hB2)
      go_ret
      exact ⟨v2, rfl, hR2.out, hB2.out⟩
theorem cut_len (c : UInt8) (r : List UInt8) : (Lib.cut (c :: r) [10]).2.1.length < (c :: r).length ∧ (Lib.cut (c :: r) [10]).1.length ≤ (c :: r).length := by
  unfold Lib.cut
  split
  · dsimp only
    rw [List.length_drop, List.length_take]
    simp only [List.length_cons, List.length_nil]
    omega
  · simp
theorem wgo_sum : ∀ (l : List UInt8) (cur : Option (List UInt8)), ((wgo cur l).map (fun x => x.length)).sum ≤ (cur.getD []).length + l.length ∧ (wgo cur l).length ≤ 1 + l.length ∧ (cur = none → (wgo cur l).length ≤ l.length)
  | [], none => by simp [wgo]
  | [], some a => by simp [wgo]
  | c :: r, none => by
    unfold wgo
    split
    · obtain ⟨h1, h2, h3⟩ := wgo_sum r none
      have := h3 rfl
      simp at h1 ⊢
      omega
    · split
      · simp
      · obtain ⟨h1, h2, h3⟩ := wgo_sum r (some [c])
        simp at h1 ⊢
        omega
  | c :: r, some a => by
    unfold wgo
    split
    · obtain ⟨h1, h2, h3⟩ := wgo_sum r none
      have := h3 rfl
      simp at h1 ⊢
      omega
    · obtain ⟨h1, h2, h3⟩ := wgo_sum r (some (a ++ [c]))
      simp at h1 ⊢
      omega
theorem le_sum_mem : ∀ (l : List (List UInt8)) (x : List UInt8), x ∈ l → x.length ≤ (l.map (fun x => x.length)).sum
  | [], _, h => by simp at h
  | y :: r, x, h => by
    rcases List.mem_cons.1 h with rfl | h
    · simp
    · have := le_sum_mem r x h; simp; omega
theorem words_len (l : List UInt8) : (words l).length ≤ l.length ∧ ∀ x ∈ words l, x.length ≤ l.length := by
  obtain ⟨h1, h2, h3⟩ := wgo_sum l none
  refine ⟨h3 rfl, fun x hx => ?_⟩
  have : x.length ≤ ((words l).map (fun x => x.length)).sum := le_sum_mem _ x hx
  simp at h1
  unfold words at this
  omega
theorem prO_fuel : ∀ (f : Nat) (l : List UInt8) (st : Cf × List Mv), l.length ≤ f → prO f l st = prO l.length l st := by
  intro f
  induction f using Nat.strongRecOn with
  | ind f ih =>
    intro l st h
    cases l with
    | nil => cases f <;> rfl
    | cons c r =>
      cases f with
      | zero => simp at h
      | succ f =>
        have hc := (cut_len c r).1
        simp only [List.length_cons] at hc h ⊢
        simp only [prO]
        split
        · by_cases e : f = r.length
          · rw [e]
          · rw [ih f (by omega) _ _ (by omega), ih r.length (by omega) _ _ (by omega)]
        · rfl
theorem prO_cons {c : UInt8} {r : List UInt8} {st fin : Cf × List Mv} (h : prO (c :: r).length (c :: r) st = some fin) : lnE st (words (Lib.cut (c :: r) [10]).1) = 0 ∧ prO (Lib.cut (c :: r) [10]).2.1.length (Lib.cut (c :: r) [10]).2.1 (lnS st (words (Lib.cut (c :: r) [10]).1)) = some fin := by
  have hc := (cut_len c r).1
  simp only [List.length_cons] at hc
  simp only [List.length_cons, prO] at h
  split at h
  · rename_i hk
    refine ⟨hk, ?_⟩
    rw [prO_fuel r.length _ _ (by omega)] at h
    exact h
  · cases h
/-- What a reading that goes well leaves. -/
def TxA (w0 : World) (R : Nat) (fin : Cf × List Mv) (e : Ending) (w' : World) : Prop := ∃ v', e = .returned .nilIface ∧ Rd w0.heap.size R w' fin.1 v' fin.2 ∧ Below w0.heap.size w0 w'
set_option maxHeartbeats 8000000 in
theorem text_ok (w0 : World) (R : Nat) (v : Value) (l : List UInt8) (fin : Cf × List Mv) (w : World) (E : Env w0) (hB : Below w0.heap.size w0 w) (hR : Rd w0.heap.size R w cfZ v []) (hl : l.length ≤ 1048576) (hok : prO l.length l (cfZ, []) = some fin) (hne : fin.1 ≠ cfZ) :
    Calls Tryz.prog 20 #[.pointer (some ⟨R, 0, none⟩), .string ⟨l.toArray⟩] w (TxA w0 R fin) := by
  have hsz := sz_list l
  obtain ⟨X, hX⟩ : ∃ X : ByteArray, X = ⟨l.toArray⟩ := ⟨_, rfl⟩
  rw [← hX] at hsz ⊢
  have d0 : decide ((1048576 : Int) < (X.size : Int)) = false := decide_eq_false (by omega)
  have d1 : ¬ (1048576 : Int) < (X.size : Int) := by omega
  replace hB := Mr.hid hB
  replace hR := Mr.hid hR
  replace hok := Mr.hid hok
  replace hX := Mr.hid hX
  replace E := Mr.hid E
  replace hsz := Mr.hid hsz
  have tn := toList_nil0
  go_enter Tryz.func20, Tryz.ntmps20
  go_upto_region 4 with fail
  go_loopg [1, 5] (l.length + 1) (fun gk s1 s5 wr => ∃ (m : List UInt8) (num : Nat) (st : Cf × List Mv) (vv : Value), s1 = .string ⟨m.toArray⟩ ∧ s5 = .int .i64 (num : Int) ∧ m.length + 1 = gk ∧ 1 ≤ num ∧ num + m.length ≤ l.length + 1 ∧ prO m.length m st = some fin ∧ Gs st ∧ Rd w0.heap.size R wr st.1 vv st.2 ∧ Below w0.heap.size w0 wr)
  case atStart => exact ⟨l, 1, (cfZ, []), v, by rw [hX.out], rfl, rfl, by omega, by omega, hok.out, ⟨.inl rfl, by simp⟩, hR.out, hB.out⟩
  case round =>
    obtain ⟨m, num, st, vv, rfl, rfl, hgk, hn1, hnum, hpr, hG, hRr, hBr⟩ := hrel
    cases m with
    | nil =>
      have hst : st = fin := by simpa [prO] using hpr
      subst hst
      obtain ⟨⟨n0, n1, n2, n3, n4, n5, n6⟩, ms⟩ := st
      dsimp only at *
      have hc := cfgC_c0 (hG.1.resolve_left hne)
      dsimp only at hc
      have hbx := hRr.box
      unfold cfO at hbx
      have x0 := cell_blk hbx 0
      have x1 := cell_blk hbx 1
      have x2 := cell_blk hbx 2
      have x3 := cell_blk hbx 3
      have x4 := cell_blk hbx 4
      have x5 := cell_blk hbx 5
      have x6 := cell_blk hbx 6
      have hRl := hRr.lt
      have kc : (n0 == 0) = false := beq_eq_false_iff_ne.2 (by omega)
      have kc2 : ¬ n0 = 0 := by omega
      replace hRr := Mr.hid hRr
      replace hBr := Mr.hid hBr
      clear hbx hpr hG hc hne hok hgk hnum
      go_wp2
      go_ret
      exact ⟨vv, rfl, hRr.out, hBr.out⟩
    | cons c r =>
      obtain ⟨hk, hrest⟩ := prO_cons hpr
      obtain ⟨cl1, cl2⟩ := cut_len c r
      obtain ⟨m0, hm0⟩ := (E.out.below hBr).mx
      have hmm : (c :: r).length ≤ 1048576 := by omega
      have CU := Mr.hid (Tryz.strings_Cut ⟨(c :: r).toArray⟩ ⟨#[10]⟩ m0 wr (by rw [sz_list]; omega) hm0)
      have e10 : (⟨#[10]⟩ : ByteArray).data.toList = [10] := rfl
      rw [e10] at CU
      simp only [List.toList_toArray] at CU
      have ne1 : (⟨(c :: r).toArray⟩ : ByteArray).toList.isEmpty = false := by rw [toList_of]; rfl
      have ne2 : ¬ (⟨(c :: r).toArray⟩ : ByteArray).toList = [] := by rw [toList_of]; simp
      have hwn : IntKind.i64.wrap ((num : Int) + 1) = (num : Int) + 1 := i64x _ (by omega) (by omega)
      generalize hcu : Lib.cut (c :: r) [10] = cu at *
      obtain ⟨ln, rest, fd⟩ := cu
      dsimp only at *
      have WO := Mr.hid (fun W => wordsOf_any ⟨ln.toArray⟩ W (by rw [sz_list]; omega))
      simp only [List.toList_toArray] at WO
      obtain ⟨wl1, wl2⟩ := words_len ln
      have hgd := words_good ln
      have hGn := hG.next hk
      have LN : Hid (∀ (W : World) (vv' : Value) (a : Option Addr) (n cc : Nat), Below w0.heap.size w0 W → Rd w0.heap.size R W st.1 vv' st.2 → WsAt W a n (words ln) → Calls Tryz.prog 35 #[.pointer (some ⟨R, 0, none⟩), .slice a n cc] W fun e w' => ∃ v', e = .returned .nilIface ∧ Rd w0.heap.size R w' (lnS st (words ln)).1 v' (lnS st (words ln)).2 ∧ Below w0.heap.size w0 w') := fun W vv' a n cc hBW hRW hWW => line_ok w0 R st vv' (words ln) a n cc W E.out hBW hRW hWW hgd (by have := hWW.1; omega) (fun x hx => by have := wl2 x hx; omega) hG hk
      generalize hws : words ln = ws at *
      generalize (⟨(c :: r).toArray⟩ : ByteArray) = Y at *
      generalize (⟨ln.toArray⟩ : ByteArray) = YL at *
      replace hRr := Mr.hid hRr
      replace hBr := Mr.hid hBr
      replace hrest := Mr.hid hrest
      replace hGn := Mr.hid hGn
      have hgk' := Mr.hid hgk
      have hnum' := Mr.hid hnum
      clear hpr hk hG hm0 hcu hws hgd e10 hgk hnum
      go_upto_region 7 with (go_at_call 34; refine CU.out.mono ?_; clear CU; rintro e w1 ⟨rfl, nd, rfl⟩)
      have hB1 : Hid (Below w0.heap.size w0 (wr.drewN nd)) := hBr.out.trans ⟨rfl, rfl, rfl, Nat.le_refl _, fun _ _ => rfl⟩
      have hR1 : Hid (Rd w0.heap.size R (wr.drewN nd) st.1 vv st.2) := hRr.out.below ⟨rfl, rfl, rfl, Nat.le_refl _, fun _ _ => rfl⟩
      generalize wr.drewN nd = w1 at *
      clear hRr hBr
      go_upto_region 8 with (first | (go_at_call 36; refine (WO.out _).mono ?_; clear WO; rintro e w2 ⟨wv, rfl, hwv, B2⟩; obtain ⟨aw, cw, rfl, -⟩ := hwv.form; have L2 := Mr.hid (LN.out w2 vv aw ws.length cw (hB1.out.trans (B2.mono hB1.out.size)) (hR1.out.below B2) (WsAt.of hwv)); clear LN hwv B2) | (go_at_call 35; refine L2.out.mono ?_; clear L2; rintro e w3 ⟨v3, rfl, hR3, hB3⟩; replace hR3 := Mr.hid hR3; replace hB3 := Mr.hid hB3))
      go_wp2
      go_roundg (rest.length + 1)
      case measure => have := hgk'.out; simp only [List.length_cons] at this cl1; omega
      case rel => exact ⟨rest, num + 1, lnS st ws, v3, rfl, by simp, rfl, by omega, by have := hnum'.out; simp at this cl1; omega, hrest.out, hGn.out, hR3.out, hB3.out⟩
end Go.Proofs.YtcomelbphdjnnaaGreatDoor.Sc
