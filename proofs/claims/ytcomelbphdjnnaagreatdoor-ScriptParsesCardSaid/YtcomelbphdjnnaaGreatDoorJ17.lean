import Derived.Test.YtcomelbphdjnnaaGreatDoorJ13
import Derived.Test.YtcomelbphdjnnaaGreatDoorJ14
import Derived.Test.YtcomelbphdjnnaaGreatDoorJ16
/-
  SCRIPT, pure: what any text comes to: what is read, or the line and the number of what is wrong.
-/
namespace Go.Proofs.YtcomelbphdjnnaaGreatDoor.Sc
open Go.RowKit
set_option linter.unusedVariables false
set_option linter.unusedSimpArgs false
/-- The lines from number k on. -/
def prX : Nat → Nat → List UInt8 → Cf × List Mv → (Nat × Int) ⊕ (Cf × List Mv)
  | _, _, [], st => .inr st
  | 0, _, _ :: _, _ => .inl (0, 0)
  | f + 1, k, c :: r, st => if lnE st (words (Lib.cut (c :: r) [10]).1) = 0 then prX f (k + 1) (Lib.cut (c :: r) [10]).2.1 (lnS st (words (Lib.cut (c :: r) [10]).1)) else .inl (k, lnE st (words (Lib.cut (c :: r) [10]).1))
theorem prX_fuel : ∀ (f k : Nat) (l : List UInt8) (st : Cf × List Mv), l.length ≤ f → prX f k l st = prX l.length k l st := by
  intro f
  induction f using Nat.strongRecOn with
  | ind f ih =>
    intro k l st h
    cases l with
    | nil => cases f <;> rfl
    | cons c r =>
      cases f with
      | zero => simp at h
      | succ f =>
        have hc := (cut_len c r).1
        simp only [List.length_cons] at hc h ⊢
        simp only [prX]
        split
        · by_cases e : f = r.length
          · rw [e]
          · rw [ih f (by omega) _ _ _ (by omega), ih r.length (by omega) _ _ _ (by omega)]
        · rfl
theorem prX_cons (c : UInt8) (r : List UInt8) (k : Nat) (st : Cf × List Mv) : prX (c :: r).length k (c :: r) st = if lnE st (words (Lib.cut (c :: r) [10]).1) = 0 then prX (Lib.cut (c :: r) [10]).2.1.length (k + 1) (Lib.cut (c :: r) [10]).2.1 (lnS st (words (Lib.cut (c :: r) [10]).1)) else .inl (k, lnE st (words (Lib.cut (c :: r) [10]).1)) := by
  have hc := (cut_len c r).1
  simp only [List.length_cons] at hc
  simp only [List.length_cons, prX]
  rw [prX_fuel r.length _ _ _ (by omega)]
theorem prO_prX : ∀ (n : Nat) (l : List UInt8) (st : Cf × List Mv) (k : Nat), l.length ≤ n → prO l.length l st = (match prX l.length k l st with | .inr x => some x | .inl _ => none)
  | n, [], st, k, _ => rfl
  | 0, c :: r, st, k, h => by simp at h
  | n + 1, c :: r, st, k, h => by
    have hc := (cut_len c r).1
    rw [prX_cons]
    simp only [List.length_cons] at hc h
    simp only [List.length_cons, prO]
    split
    · rw [prO_fuel r.length _ _ (by omega)]
      exact prO_prX n _ _ _ (by omega)
    · rfl
/-- What any text comes to. -/
def parseX (l : List UInt8) : (Nat × Int) ⊕ (Cf × List Mv) :=
  if l.length ≤ 1048576 then (match prX l.length 1 l (cfZ, []) with | .inr st => if st.1 = cfZ then .inl (0, 172) else .inr st | .inl x => .inl x) else .inl (0, 3)
theorem parseO_X (l : List UInt8) : parseO l = (match parseX l with | .inr x => some x | .inl _ => none) := by
  unfold parseO parseX
  split
  · rw [prO_prX l.length l _ 1 (Nat.le_refl _)]
    cases prX l.length 1 l (cfZ, []) with
    | inl x => rfl
    | inr st => dsimp only; split <;> rfl
  · rfl
theorem parseX_inr {l : List UInt8} {st : Cf × List Mv} (h : parseX l = .inr st) : parseO l = some st := by rw [parseO_X, h]
theorem parseX_of {l : List UInt8} {st : Cf × List Mv} (h : parseO l = some st) : parseX l = .inr st := by
  rw [parseO_X] at h
  cases hx : parseX l with
  | inl x => rw [hx] at h; cases h
  | inr s => rw [hx] at h; cases h; rfl
/-- An error's number: what lines come to. -/
theorem macE_cases (ws : List (List UInt8)) : macE ws = 0 ∨ macE ws = 1 ∨ macE ws = 170 ∨ macE ws = 171 := by
  unfold macE; repeat' split
  all_goals simp
theorem entE_cases (T : Nat) (ms : List Mv) (ws : List (List UInt8)) : entE T ms ws = 0 ∨ entE T ms ws = 2 ∨ entE T ms ws = 3 ∨ entE T ms ws = 170 ∨ entE T ms ws = 171 := by
  unfold entE; repeat' split
  all_goals simp
theorem lnE_cases (st : Cf × List Mv) (ws : List (List UInt8)) : lnE st ws = 0 ∨ lnE st ws = 1 ∨ lnE st ws = 2 ∨ lnE st ws = 3 ∨ lnE st ws = 170 ∨ lnE st ws = 171 := by
  unfold lnE
  split
  · exact .inl rfl
  · split
    · have := macE_cases ws; omega
    · have := entE_cases st.1.c0.toNat st.2 ws; omega
theorem prX_inl : ∀ (n : Nat) (l : List UInt8) (st : Cf × List Mv) (k j : Nat) (e : Int), l.length ≤ n → prX l.length k l st = .inl (j, e) → k ≤ j ∧ j < k + l.length ∧ 1 ≤ e ∧ e ≤ 171
  | n, [], st, k, j, e, _, h => by simp [prX] at h
  | 0, c :: r, st, k, j, e, hn, h => by simp at hn
  | n + 1, c :: r, st, k, j, e, hn, h => by
    have hc := (cut_len c r).1
    rw [prX_cons] at h
    simp only [List.length_cons] at hc hn ⊢
    split at h
    · have := prX_inl n _ _ _ _ _ (by omega) h
      omega
    · rename_i h0
      injection h with h
      injection h with h1 h2
      have := lnE_cases st (words (Lib.cut (c :: r) [10]).1)
      omega
end Go.Proofs.YtcomelbphdjnnaaGreatDoor.Sc
/-
  SCRIPT: line and text, where something is wrong.
-/
namespace Go.Proofs.YtcomelbphdjnnaaGreatDoor.Sc
open Go.RowKit Mr
set_option linter.unusedVariables false
set_option linter.unusedSimpArgs false
set_option maxRecDepth 100000
set_option maxHeartbeats 8000000 in
theorem line_err (w0 : World) (R : Nat) (st : Cf × List Mv) (v : Value) (ws : List (List UInt8)) (a : Option Addr) (n c : Nat) (w : World) (E : Env w0) (hB : Below w0.heap.size w0 w) (hR : Rd w0.heap.size R w st.1 v st.2) (hW : WsAt w a n ws) (hg : ∀ x ∈ ws, Gw x) (hn : n ≤ 1048576) (hsz : ∀ x ∈ ws, x.length ≤ 1048576) (hG : Gs st) (hok : lnE st ws ≠ 0) :
    Calls Tryz.prog 35 #[.pointer (some ⟨R, 0, none⟩), .slice a n c] w fun e w' => e = .returned (flt (lnE st ws)) ∧ Below w0.heap.size w0 w' := by
  obtain ⟨cf, ms⟩ := st
  dsimp only at *
  have hbx := hR.box
  unfold cfO at hbx
  have x0 := cell_blk hbx 0
  have x1 := cell_blk hbx 1
  have x2 := cell_blk hbx 2
  have x3 := cell_blk hbx 3
  have x4 := cell_blk hbx 4
  have x5 := cell_blk hbx 5
  have x6 := cell_blk hbx 6
  have hRl := hR.lt
  have h0 : ws ≠ [] := fun e => hok (by unfold lnE; rw [if_pos e])
  have hn0 : ¬ n = 0 := by rw [hW.1]; intro e; exact h0 (List.eq_nil_of_length_eq_zero e)
  have k0 : ((n : Int) == 0) = false := beq_eq_false_iff_ne.2 (by omega)
  unfold lnE at hok ⊢
  rw [if_neg h0] at hok ⊢
  by_cases h1 : cf = cfZ
  · rw [if_pos h1] at hok ⊢
    have M := Mr.hid (machine_err w0 R cf v ms ws a n c w E hB hW hg hn hsz hok)
    subst h1
    unfold flt at M ⊢
    clear hbx hB hR hW hg hsz hok hG h0 E
    dsimp only [cfZ] at x0 x1 x2 x3 x4 x5 x6
    generalize macE ws = me at *
    go_enter Tryz.func35, Tryz.ntmps35
    go_wp2_with (go_at_call 48; refine M.out.mono ?_; clear M; rintro e w2 ⟨rfl, hB2⟩; replace hB2 := Mr.hid hB2)
    go_ret
    exact ⟨rfl, hB2.out⟩
  · rw [if_neg h1] at hok ⊢
    dsimp only at hok ⊢
    have hc := cfgC_c0 (hG.1.resolve_left h1)
    dsimp only at hc
    have M := Mr.hid (entry_err w0 R cf.c0.toNat cf v ms ws a n c w E hB hR hW hg hn hsz (by omega) (by omega) (by omega) hG.2 hok)
    obtain ⟨n0, n1, n2, n3, n4, n5, n6⟩ := cf
    unfold flt at M ⊢
    dsimp only at *
    have kc : (n0 == 0) = false := beq_eq_false_iff_ne.2 (by omega)
    have kc2 : ¬ n0 = 0 := by omega
    clear hbx hB hR hW hg hsz hok hG h0 h1 hc E
    generalize entE n0.toNat ms ws = em at *
    go_enter Tryz.func35, Tryz.ntmps35
    go_wp2_with (go_at_call 49; refine M.out.mono ?_; clear M; rintro e w2 ⟨rfl, hB2⟩; replace hB2 := Mr.hid hB2)
    go_ret
    exact ⟨rfl, hB2.out⟩
/-- An error of a text: of the whole (k = 0), or of a line. -/
def erv (k : Nat) (e : Int) : Value := if k = 0 then flt e else .iface 82 (.agg #[.int .i64 (k : Int), flt e])
def ErA (w0 : World) (v : Value) (e : Ending) (w' : World) : Prop := e = .returned v ∧ Below w0.heap.size w0 w'
set_option maxHeartbeats 8000000 in
theorem text_long (w0 : World) (R : Nat) (l : List UInt8) (w : World) (hB : Below w0.heap.size w0 w) (hl : ¬ l.length ≤ 1048576) :
    Calls Tryz.prog 20 #[.pointer (some ⟨R, 0, none⟩), .string ⟨l.toArray⟩] w (ErA w0 (erv 0 3)) := by
  have hsz := sz_list l
  obtain ⟨X, hX⟩ : ∃ X : ByteArray, X = ⟨l.toArray⟩ := ⟨_, rfl⟩
  rw [← hX] at hsz ⊢
  have d1 : (1048576 : Int) < (X.size : Int) := by omega
  have d0 : decide ((1048576 : Int) < (X.size : Int)) = true := decide_eq_true d1
  unfold ErA erv flt
  rw [if_pos rfl]
  replace hB := Mr.hid hB
  clear hX hsz hl
  go_enter Tryz.func20, Tryz.ntmps20
  go_wp2
  go_ret
  exact ⟨rfl, hB.out⟩
set_option maxHeartbeats 8000000 in
theorem text_err (w0 : World) (R : Nat) (v : Value) (l : List UInt8) (k : Nat) (er : Int) (w : World) (E : Env w0) (hB : Below w0.heap.size w0 w) (hR : Rd w0.heap.size R w cfZ v []) (hl : l.length ≤ 1048576) (hok : parseX l = .inl (k, er)) :
    Calls Tryz.prog 20 #[.pointer (some ⟨R, 0, none⟩), .string ⟨l.toArray⟩] w (ErA w0 (erv k er)) := by
  have hsz := sz_list l
  obtain ⟨X, hX⟩ : ∃ X : ByteArray, X = ⟨l.toArray⟩ := ⟨_, rfl⟩
  rw [← hX] at hsz ⊢
  have d0 : decide ((1048576 : Int) < (X.size : Int)) = false := decide_eq_false (by omega)
  have d1 : ¬ (1048576 : Int) < (X.size : Int) := by omega
  unfold parseX at hok
  rw [if_pos hl] at hok
  obtain ⟨G, hG0⟩ : ∃ G, prX l.length 1 l (cfZ, []) = G := ⟨_, rfl⟩
  rw [hG0] at hok
  replace hB := Mr.hid hB
  replace hR := Mr.hid hR
  replace hok := Mr.hid hok
  replace hX := Mr.hid hX
  replace hG0 := Mr.hid hG0
  replace E := Mr.hid E
  replace hsz := Mr.hid hsz
  have tn := toList_nil0
  go_enter Tryz.func20, Tryz.ntmps20
  go_upto_region 4 with fail
  go_loopg [1, 5] (l.length + 1) (fun gk s1 s5 wr => ∃ (m : List UInt8) (num : Nat) (st : Cf × List Mv) (vv : Value), s1 = .string ⟨m.toArray⟩ ∧ s5 = .int .i64 (num : Int) ∧ m.length + 1 = gk ∧ 1 ≤ num ∧ num + m.length ≤ l.length + 1 ∧ prX m.length num m st = G ∧ Gs st ∧ Rd w0.heap.size R wr st.1 vv st.2 ∧ Below w0.heap.size w0 wr)
  case atStart => exact ⟨l, 1, (cfZ, []), v, by rw [hX.out], rfl, rfl, by omega, by omega, hG0.out, ⟨.inl rfl, by simp⟩, hR.out, hB.out⟩
  case round =>
    obtain ⟨m, num, st, vv, rfl, rfl, hgk, hn1, hnum, hpr, hG, hRr, hBr⟩ := hrel
    cases m with
    | nil =>
      have hst : G = .inr st := by rw [← hpr]; rfl
      have hok2 := hok.out
      rw [hst] at hok2
      dsimp only at hok2
      have hz : st.1 = cfZ := by
        by_cases h : st.1 = cfZ
        · exact h
        · rw [if_neg h] at hok2; cases hok2
      rw [if_pos hz] at hok2
      have hke : k = 0 ∧ er = 172 := by injection hok2 with h; injection h with h1 h2; exact ⟨h1.symm, h2.symm⟩
      obtain ⟨hk0, he0⟩ := hke
      obtain ⟨cf, ms⟩ := st
      dsimp only at hz
      subst hz
      have hbx := hRr.box
      unfold cfO at hbx
      dsimp only [cfZ] at hbx
      have x0 := cell_blk hbx 0
      have x1 := cell_blk hbx 1
      have x2 := cell_blk hbx 2
      have x3 := cell_blk hbx 3
      have x4 := cell_blk hbx 4
      have x5 := cell_blk hbx 5
      have x6 := cell_blk hbx 6
      have hRl := hRr.lt
      replace hBr := Mr.hid hBr
      have hv : Hid (erv k er = .iface 77 (.int .i64 172)) := by show _ = _; unfold erv flt; rw [if_pos hk0, he0]
      clear hbx hpr hG hok2 hst hok hgk hnum hk0 he0 hRr hR hB hG0
      go_wp2
      go_ret
      refine ⟨?_, hBr.out⟩
      rw [hv.out]
      rfl
    | cons c r =>
      rw [prX_cons] at hpr
      obtain ⟨cl1, cl2⟩ := cut_len c r
      obtain ⟨m0, hm0⟩ := (E.out.below hBr).mx
      have hmm : (c :: r).length ≤ 1048576 := by omega
      have CU := Mr.hid (Tryz.strings_Cut ⟨(c :: r).toArray⟩ ⟨#[10]⟩ m0 wr (by rw [sz_list]; omega) hm0)
      have e10 : (⟨#[10]⟩ : ByteArray).data.toList = [10] := rfl
      rw [e10] at CU
      simp only [List.toList_toArray] at CU
      have ne1 : (⟨(c :: r).toArray⟩ : ByteArray).toList.isEmpty = false := by rw [toList_of]; rfl
      have ne2 : ¬ (⟨(c :: r).toArray⟩ : ByteArray).toList = [] := by rw [toList_of]; simp
      have hwn : IntKind.i64.wrap ((num : Int) + 1) = (num : Int) + 1 := i64x _ (by omega) (by omega)
      generalize hcu : Lib.cut (c :: r) [10] = cu at *
      obtain ⟨ln, rest, fd⟩ := cu
      dsimp only at *
      have WO := Mr.hid (fun W => wordsOf_any ⟨ln.toArray⟩ W (by rw [sz_list]; omega))
      simp only [List.toList_toArray] at WO
      obtain ⟨wl1, wl2⟩ := words_len ln
      have hgd := words_good ln
      by_cases hk : lnE st (words ln) = 0
      · rw [if_pos hk] at hpr
        have hGn := hG.next hk
        have LN : Hid (∀ (W : World) (vv' : Value) (a : Option Addr) (n cc : Nat), Below w0.heap.size w0 W → Rd w0.heap.size R W st.1 vv' st.2 → WsAt W a n (words ln) → Calls Tryz.prog 35 #[.pointer (some ⟨R, 0, none⟩), .slice a n cc] W fun e w' => ∃ v', e = .returned .nilIface ∧ Rd w0.heap.size R w' (lnS st (words ln)).1 v' (lnS st (words ln)).2 ∧ Below w0.heap.size w0 w') := fun W vv' a n cc hBW hRW hWW => line_ok w0 R st vv' (words ln) a n cc W E.out hBW hRW hWW hgd (by have := hWW.1; omega) (fun x hx => by have := wl2 x hx; omega) hG hk
        generalize hws : words ln = ws at *
        generalize (⟨(c :: r).toArray⟩ : ByteArray) = Y at *
        generalize (⟨ln.toArray⟩ : ByteArray) = YL at *
        replace hRr := Mr.hid hRr
        replace hBr := Mr.hid hBr
        replace hpr := Mr.hid hpr
        replace hGn := Mr.hid hGn
        have hgk' := Mr.hid hgk
        have hnum' := Mr.hid hnum
        clear hk hG hm0 hcu hws hgd e10 hgk hnum
        go_upto_region 7 with (go_at_call 34; refine CU.out.mono ?_; clear CU; rintro e w1 ⟨rfl, nd, rfl⟩)
        have hB1 : Hid (Below w0.heap.size w0 (wr.drewN nd)) := hBr.out.trans ⟨rfl, rfl, rfl, Nat.le_refl _, fun _ _ => rfl⟩
        have hR1 : Hid (Rd w0.heap.size R (wr.drewN nd) st.1 vv st.2) := hRr.out.below ⟨rfl, rfl, rfl, Nat.le_refl _, fun _ _ => rfl⟩
        generalize wr.drewN nd = w1 at *
        clear hRr hBr
        go_upto_region 8 with (first | (go_at_call 36; refine (WO.out _).mono ?_; clear WO; rintro e w2 ⟨wv, rfl, hwv, B2⟩; obtain ⟨aw, cw, rfl, -⟩ := hwv.form; have L2 := Mr.hid (LN.out w2 vv aw ws.length cw (hB1.out.trans (B2.mono hB1.out.size)) (hR1.out.below B2) (WsAt.of hwv)); clear LN hwv B2) | (go_at_call 35; refine L2.out.mono ?_; clear L2; rintro e w3 ⟨v3, rfl, hR3, hB3⟩; replace hR3 := Mr.hid hR3; replace hB3 := Mr.hid hB3))
        go_wp2
        go_roundg (rest.length + 1)
        case measure => have := hgk'.out; simp only [List.length_cons] at this cl1; omega
        case rel => exact ⟨rest, num + 1, lnS st ws, v3, rfl, by simp, rfl, by omega, by have := hnum'.out; simp at this cl1; omega, hpr.out, hGn.out, hR3.out, hB3.out⟩
      · rw [if_neg hk] at hpr
        have hok2 := hok.out
        rw [← hpr] at hok2
        dsimp only at hok2
        have hke : k = num ∧ er = lnE st (words ln) := by injection hok2 with h; injection h with h1 h2; exact ⟨h1.symm, h2.symm⟩
        have hv : Hid (erv k er = .iface 82 (.agg #[.int .i64 (num : Int), .iface 77 (.int .i64 (lnE st (words ln)))])) := by show _ = _; unfold erv flt; rw [hke.1, hke.2, if_neg (by omega)]
        have LN : Hid (∀ (W : World) (vv' : Value) (a : Option Addr) (n cc : Nat), Below w0.heap.size w0 W → Rd w0.heap.size R W st.1 vv' st.2 → WsAt W a n (words ln) → Calls Tryz.prog 35 #[.pointer (some ⟨R, 0, none⟩), .slice a n cc] W fun e w' => e = .returned (.iface 77 (.int .i64 (lnE st (words ln)))) ∧ Below w0.heap.size w0 w') := fun W vv' a n cc hBW hRW hWW => line_err w0 R st vv' (words ln) a n cc W E.out hBW hRW hWW hgd (by have := hWW.1; omega) (fun x hx => by have := wl2 x hx; omega) hG hk
        generalize hle : lnE st (words ln) = le at *
        generalize hws : words ln = ws at *
        generalize (⟨(c :: r).toArray⟩ : ByteArray) = Y at *
        generalize (⟨ln.toArray⟩ : ByteArray) = YL at *
        replace hRr := Mr.hid hRr
        replace hBr := Mr.hid hBr
        clear hk hG hm0 hcu hws hgd e10 hgk hnum hpr hok2 hke hle hok
        go_upto_region 7 with (go_at_call 34; refine CU.out.mono ?_; clear CU; rintro e w1 ⟨rfl, nd, rfl⟩)
        have hB1 : Hid (Below w0.heap.size w0 (wr.drewN nd)) := hBr.out.trans ⟨rfl, rfl, rfl, Nat.le_refl _, fun _ _ => rfl⟩
        have hR1 : Hid (Rd w0.heap.size R (wr.drewN nd) st.1 vv st.2) := hRr.out.below ⟨rfl, rfl, rfl, Nat.le_refl _, fun _ _ => rfl⟩
        generalize wr.drewN nd = w1 at *
        clear hRr hBr
        go_wp2_with (first | (go_at_call 36; refine (WO.out _).mono ?_; clear WO; rintro e w2 ⟨wv, rfl, hwv, B2⟩; obtain ⟨aw, cw, rfl, -⟩ := hwv.form; have L2 := Mr.hid (LN.out w2 vv aw ws.length cw (hB1.out.trans (B2.mono hB1.out.size)) (hR1.out.below B2) (WsAt.of hwv)); clear LN hwv B2) | (go_at_call 35; refine L2.out.mono ?_; clear L2; rintro e w3 ⟨rfl, hB3⟩; replace hB3 := Mr.hid hB3))
        go_ret
        refine ⟨?_, hB3.out⟩
        rw [hv.out]
        rfl
end Go.Proofs.YtcomelbphdjnnaaGreatDoor.Sc
