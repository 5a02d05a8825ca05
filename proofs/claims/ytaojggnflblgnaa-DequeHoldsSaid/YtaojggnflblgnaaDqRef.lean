/-
  DEQUE: the document's Left.
-/
import Derived.Test.YtaojggnflblgnaaDqLeftW
namespace Go.Proofs.Ytaojggnflblgnaa.Dq
open Go.RowKit Mr
set_option linter.unusedVariables false
set_option linter.unusedSimpArgs false
set_option maxRecDepth 100000
set_option maxHeartbeats 8000000 in
theorem rLeft_chk (th rm : Int) (ws : List Int) (a : Option Addr) (n c : Nat) (w : World) (hW : WdAt w a n ws) (hd : dqB th rm = false) :
    Calls Try.prog 26 #[dV th rm, .slice a n c] w fun e w' => LfP w w' (lfR th rm ws) e := by
  have B0 := bxd_below w th rm
  have b0 := bxd_0 w th rm
  have c0 := cell_blk b0 0
  have c1 := cell_blk b0 1
  have CK := Mr.hid (rCheck_any th rm (w.alloc (.cells #[.int .i64 th, .int .i64 rm] 23)))
  rw [hd] at CK
  have hfin : Hid (∀ W, Below w.heap.size w W → LfP w W (lfR th rm ws) (.returned (.tuple #[.slice none 0 0, .int .i64 210]))) := fun W hB => LfP.no (by unfold lfR; rw [if_pos hd]) hB
  replace B0 := Mr.hid B0
  clear b0 hW hd
  unfold dV at *
  go_enter Try.func26, Try.ntmps26
  go_wp2_with (go_at_call 15; refine CK.out.mono ?_; clear CK; rintro e w2 ⟨rfl, B2⟩; have BB := Mr.hid (B0.out.trans (B2.mono B0.out.size)); clear B2)
  go_ret2
  exact hfin.out _ BB.out
set_option maxHeartbeats 8000000 in
theorem rLeft_len (th rm : Int) (ws : List Int) (a : Option Addr) (n c : Nat) (w : World) (hW : WdAt w a n ws) (hd : dqB th rm = true) (hl : (ws.length : Int) ≠ 2 + rm) :
    Calls Try.prog 26 #[dV th rm, .slice a n c] w fun e w' => LfP w w' (lfR th rm ws) e := by
  have B0 := bxd_below w th rm
  have b0 := bxd_0 w th rm
  have c0 := cell_blk b0 0
  have c1 := cell_blk b0 1
  obtain ⟨k1, k2, k3, k4⟩ := dqB_in hd
  have CK := Mr.hid (rCheck_any th rm (w.alloc (.cells #[.int .i64 th, .int .i64 rm] 23)))
  rw [hd] at CK
  have hfin : Hid (∀ W, Below w.heap.size w W → LfP w W (lfR th rm ws) (.returned (.tuple #[.slice none 0 0, .int .i64 211]))) := fun W hB => LfP.no (lfR_no hd (.inl hl)) hB
  have hz : ((n : Int) != 2 + rm) = true := bne_iff_ne.2 (by have := hW.1; omega)
  have hsz0 : IntKind.i64.wrap (2 + rm) = 2 + rm := i64x _ (by omega) (by omega)
  replace B0 := Mr.hid B0
  have b0' := Mr.hid b0
  clear b0 hW hd hl k1 k2 k3 k4
  unfold dV at *
  go_enter Try.func26, Try.ntmps26
  go_wp2_with (go_at_call 15; refine CK.out.mono ?_; clear CK; rintro e w2 ⟨rfl, B2⟩; have d0 := (B2.block _ (Array.getElem?_eq_some_iff.1 b0'.out).1).trans b0'.out; have e0 := cell_blk d0 0; have e1 := cell_blk d0 1; have ld := (Array.getElem?_eq_some_iff.1 d0).1; have BC := Mr.hid (B0.out.trans (B2.mono B0.out.size)); clear B2)
  go_ret2
  exact hfin.out _ BC.out
set_option maxHeartbeats 16000000 in
theorem rLeft_go (th : Int) (rn : Nat) (ws : List Int) (a : Option Addr) (n c : Nat) (w : World) (hW : WdAt w a n ws) (hd : dqB th rn = true) (hl : (ws.length : Int) = 2 + rn) :
    Calls Try.prog 26 #[dV th rn, .slice a n c] w fun e w' => LfP w w' (lfR th rn ws) e := by
  have B0 := bxd_below w th rn
  have b0 := bxd_0 w th rn
  have c0 := cell_blk b0 0
  have c1 := cell_blk b0 1
  obtain ⟨k1, k2, k3, k4⟩ := dqB_in hd
  have CK := Mr.hid (rCheck_any th rn (w.alloc (.cells #[.int .i64 th, .int .i64 rn] 23)))
  have hsz0 : IntKind.i64.wrap (2 + (rn : Int)) = 2 + (rn : Int) := i64x _ (by omega) (by omega)
  rw [hd] at CK
  have hz : ((n : Int) != 2 + (rn : Int)) = false := by have := hW.1; rw [show (n : Int) = 2 + (rn : Int) by omega]; simp
  have hwl := hW.1
  obtain ⟨b, q, rfl, hb, hcell⟩ := hW.2.resolve_left (fun e => by rw [e] at hl; simp at hl; omega)
  have r0 := hcell 0 _ (List.getElem?_eq_getElem (show 0 < ws.length by omega))
  have r1 := hcell 1 _ (List.getElem?_eq_getElem (show 1 < ws.length by omega))
  rw [Nat.add_zero] at r0
  have et : lfT ws = wrap64 (ws[0]'(by omega)) := by unfold lfT; rw [List.getD_eq_getElem?_getD, List.getElem?_eq_getElem (show 0 < ws.length by omega)]; rfl
  have eb : lfB ws = wrap64 (ws[1]'(by omega)) := by unfold lfB; rw [List.getD_eq_getElem?_getD, List.getElem?_eq_getElem (show 1 < ws.length by omega)]; rfl
  generalize (ws[0]'(by omega)) = x0 at r0 et
  generalize (ws[1]'(by omega)) = x1 at r1 eb
  have n0 : (0 : Int) < (n : Int) := by omega
  have n1 : (1 : Int) < (n : Int) := by omega
  have hlz := Mr.hid hl
  replace B0 := Mr.hid B0
  have b0' := Mr.hid b0
  have hcell' := Mr.hid hcell
  have hwl' := Mr.hid hwl
  have hd' := Mr.hid hd
  have bdT := Mr.hid (wrap64_bd x0)
  have bdB := Mr.hid (wrap64_bd x1)
  replace et := Mr.hid et
  replace eb := Mr.hid eb
  have kk : Hid (1 ≤ rn ∧ rn ≤ 256) := by constructor <;> omega
  clear b0 hW hd hl k1 k2 k3 k4 hcell hwl
  unfold dV at *
  go_enter Try.func26, Try.ntmps26
  have q0' : Hid (w.cell? ⟨b, q, none⟩ = some (.int .u64 x0)) := r0
  have q1' : Hid (w.cell? ⟨b, q + 1, none⟩ = some (.int .u64 x1)) := r1
  have hb0 := Mr.hid hb
  clear r0 r1 hb
  go_upto_region 7 with (go_at_call 15; refine CK.out.mono ?_; clear CK; rintro e w4 ⟨rfl, B2⟩; have d0' := (B2.block _ (Array.getElem?_eq_some_iff.1 b0'.out).1).trans b0'.out; have e1 := cell_blk d0' 1; have le := (Array.getElem?_eq_some_iff.1 d0').1; have hBz := Mr.hid (B0.out.trans (B2.mono B0.out.size)); have r0 := (hBz.out.cell (p := ⟨b, q, none⟩) hb0.out).trans q0'.out; have r1 := (hBz.out.cell (p := ⟨b, q + 1, none⟩) hb0.out).trans q1'.out; have hb3 := Nat.lt_of_lt_of_le hb0.out hBz.out.size; clear B2)
  clear c0 c1 hz B0 b0' r0 r1 hb3 hsz0
  generalize wrap64 x0 = t at *
  generalize wrap64 x1 = bb at *
  by_cases p0 : t < 0
  · have q0 : decide (t < 0) = true := decide_eq_true p0
    have hfin : Hid (LfP w w4 (lfR th rn ws) (.returned (.tuple #[.slice none 0 0, .int .i64 211]))) := LfP.no (lfR_no hd'.out (.inr (fun h => by have := h.1; rw [et.out] at this; omega))) hBz.out
    go_wp2
    go_ret2
    exact hfin.out
  have q0 : decide (t < 0) = false := decide_eq_false p0
  by_cases p1 : 65536 < t
  · have q1 : decide (65536 < t) = true := decide_eq_true p1
    have hfin : Hid (LfP w w4 (lfR th rn ws) (.returned (.tuple #[.slice none 0 0, .int .i64 211]))) := LfP.no (lfR_no hd'.out (.inr (fun h => by have := h.2.1; rw [et.out] at this; omega))) hBz.out
    go_wp2
    go_ret2
    exact hfin.out
  have q1 : decide (65536 < t) = false := decide_eq_false p1
  have hw1 : IntKind.i64.wrap (t - 1) = t - 1 := i64x _ (by omega) (by omega)
  have hw2 : IntKind.i64.wrap (t + (rn : Int)) = t + (rn : Int) := i64x _ (by omega) (by have := kk.out; omega)
  by_cases p2 : bb < t - 1
  · have q2 : decide (bb < t - 1) = true := decide_eq_true p2
    have hfin : Hid (LfP w w4 (lfR th rn ws) (.returned (.tuple #[.slice none 0 0, .int .i64 211]))) := LfP.no (lfR_no hd'.out (.inr (fun h => by have := h.2.2.1; rw [et.out, eb.out] at this; omega))) hBz.out
    go_wp2
    go_ret2
    exact hfin.out
  have q2 : decide (bb < t - 1) = false := decide_eq_false p2
  by_cases p3 : t + (rn : Int) < bb
  · have q3 : decide (t + (rn : Int) < bb) = true := decide_eq_true p3
    have hfin : Hid (LfP w w4 (lfR th rn ws) (.returned (.tuple #[.slice none 0 0, .int .i64 211]))) := LfP.no (lfR_no hd'.out (.inr (fun h => by have := h.2.2.2; rw [et.out, eb.out] at this; omega))) hBz.out
    go_wp2
    go_ret2
    exact hfin.out
  have q3 : decide (t + (rn : Int) < bb) = false := decide_eq_false p3
  obtain ⟨tn, rfl⟩ := Int.eq_ofNat_of_zero_le (show 0 ≤ t by omega)
  obtain ⟨m, hm⟩ : ∃ m, m = (bb - (tn : Int)).toNat := ⟨_, rfl⟩
  have hfin : Hid (∀ (v : Option Addr) (cv : Nat) (W : World), IsAt W v m (lfL rn ws tn m) → Below w.heap.size w W → LfP w W (lfR th rn ws) (.returned (.tuple #[.slice v m cv, .int .i64 0]))) := fun v cv W hI hB => by
    have e := lfR_ok hd'.out hlz.out (show lfOk rn ws from ⟨by rw [et.out]; omega, by rw [et.out]; omega, by rw [et.out, eb.out]; omega, by rw [et.out, eb.out]; omega⟩)
    rw [et.out, eb.out, Int.toNat_natCast, Int.toNat_natCast, ← hm] at e
    rw [e]
    have hll : (lfL rn ws tn m).length = m := by simp [lfL]
    exact ⟨v, cv, by dsimp only; rw [hll], by dsimp only; rw [hll]; exact hI, hB⟩
  have hmb : Hid (m ≤ 256 ∧ tn ≤ 65536 ∧ (∀ i : Nat, i < m → ((tn + i : Nat) : Int) < bb) ∧ ∀ i : Nat, i = m → ¬ ((tn + i : Nat) : Int) < bb) := ⟨by have := kk.out; omega, by omega, fun i hi => by omega, fun i hi => by omega⟩
  replace hm := Mr.hid hm
  have hd0 := Mr.hid d0'
  go_upto_region 11 with fail
  clear q0 q1 q2 q3 p0 p1 p2 p3 hw1 hw2 e1 le d0' n0 n1 q0' q1'
  go_loopg [8, 9] m (fun gk s9 s10 wr => ∃ (i : Nat) (v : Value), s9 = v ∧ s10 = .int .i64 ((tn + i : Nat) : Int) ∧ i + gk = m ∧ Has wr (fun k => w4.heap.size ≤ k) 3 1 v i (intsV (lfL rn ws tn i)) ∧ Below w4.heap.size w4 wr)
  case atStart => exact ⟨0, _, rfl, rfl, by omega, Has.nil _ _ _ _, Below.refl _ _⟩
  case round =>
    obtain ⟨i, v, rfl, rfl, hi, hH, hB⟩ := hrel
    obtain ⟨av, cv, rfl, hcv⟩ := hH.form
    have hBw : Hid (Below w.heap.size w wr) := hBz.out.trans (hB.mono hBz.out.size)
    by_cases hlt : i < m
    · have hI := hmb.out.2.2.1 i hlt
      have dl : decide (((tn + i : Nat) : Int) < bb) = true := decide_eq_true hI
      have d1 := (hB.block _ (Array.getElem?_eq_some_iff.1 hd0.out).1).trans hd0.out
      have e1 := cell_blk d1 1
      have le := (Array.getElem?_eq_some_iff.1 d1).1
      obtain ⟨ix, hix⟩ : ∃ ix, ix = 2 + (tn + i) % rn := ⟨_, rfl⟩
      have hixl : ix < ws.length := by have := Nat.mod_lt (tn + i) (show 0 < rn by have := kk.out; omega); have := hlz.out; omega
      have hc := hcell'.out ix _ (List.getElem?_eq_getElem hixl)
      have hc2 := (hBw.out.cell (p := ⟨b, q + ix, none⟩) hb0.out).trans hc
      have lb := Nat.lt_of_lt_of_le hb0.out hBw.out.size
      have hr : (rn : Int) ≠ 0 := by have := kk.out; omega
      have hzr : ((rn : Int) == 0) = false := by simpa using hr
      have em1 : (((tn + i : Nat) : Int)).tmod (rn : Int) = (((tn + i) % rn : Nat) : Int) := by rw [Int.tmod_eq_emod_of_nonneg (by omega)]; simp
      have em2 : (((tn + i : Nat) : Int)) % (rn : Int) = (((tn + i) % rn : Nat) : Int) := by simp
      obtain ⟨mr, hmr⟩ : ∃ mr, mr = (tn + i) % rn := ⟨_, rfl⟩
      have hmrl : Hid (mr < rn) := by show _ < _; rw [hmr]; exact Nat.mod_lt _ (by have := kk.out; omega)
      rw [← hmr] at em1 em2 hix
      have hwr : IntKind.i64.wrap (2 + (mr : Int)) = (ix : Int) := (i64x _ (by omega) (by have := hmrl.out; have := kk.out; omega)).trans (by omega)
      have hwr0 : IntKind.i64.wrap (mr : Int) = (mr : Int) := i64x _ (by omega) (by have := hmrl.out; have := kk.out; omega)
      have hxI : (ix : Int) < (n : Int) := by have := hwl'.out; omega
      have hval : Hid (lfV rn ws tn i = wrap64 (ws[ix]'hixl)) := by show _ = _; unfold lfV; rw [← hmr, ← hix, List.getD_eq_getElem?_getD, List.getElem?_eq_getElem hixl]; rfl
      have hnx : Hid (wrap64 (((tn + i : Nat) : Int) + 1) = ((tn + (i + 1) : Nat) : Int)) := by show _ = _; unfold wrap64; have := hmb.out; omega
      have hlt' := Mr.hid hlt
      generalize (ws[ix]'hixl) = xv at hc2 hval
      have hH' := Mr.hid hH
      have hB' := Mr.hid hB
      have hi' := Mr.hid hi
      generalize hk0 : ((tn + i : Nat) : Int) = kI at *
      replace hix := Mr.hid hix
      replace hmr := Mr.hid hmr
      obtain ⟨ii, hii, hi0, hi1, hi2⟩ := info_i
      have nq1 := new_at wr (.cells #[.int .i64 (wrap64 xv)] 3) _ rfl
      have hro : Hid (Has (wr.alloc (.cells #[.int .i64 (wrap64 xv)] 3)) (fun k => w4.heap.size ≤ k) 3 1 (.slice av i cv) i (intsV (lfL rn ws tn i))) := hH.alloc _
      have hsz : Hid (w4.heap.size ≤ wr.heap.size) := hB.size
      clear hH hB hi hlt hc d1 hI hixl
      go_wp2_with (first
        | (at_builtin; refine wpList_append_has _ rfl _ _ 37 rfl (fun k => w4.heap.size ≤ k) 3 ii _ 1 8 Try.underlying37 hii hi0 hi1 hi2 rfl (.slice av i cv) i (intsV (lfL rn ws tn i)) rfl hro.out ⟨wr.heap.size, 0, none⟩ 1 1 [.int .i64 (wrap64 xv)] rfl rfl (by
            intro j u hj
            rw [add1]
            match j, hj with
            | 0, hj => cases hj; exact cell_blk nq1 0) (by simp [Value.oneCell']) (by omega) (by have := hmb.out; have := hi'.out; unfold maxLen; omega) (by have := hmb.out; have := hi'.out; omega) (by have := hsz.out; simp; omega) ?_; intro g4 cap4 w9 hh9 hgr9 hgg9))
      have RN : Hid (Has w9 (fun k => w4.heap.size ≤ k) 3 1 (.slice (some ⟨g4, 0, none⟩) (i + 1) cap4) (i + 1) (intsV (lfL rn ws tn (i + 1)))) := by
        show Has _ _ _ _ _ _ _
        rw [lfL_succ, hval.out]
        have e : intsV (lfL rn ws tn i ++ [wrap64 xv]) = intsV (lfL rn ws tn i) ++ [.int .i64 (wrap64 xv)] := by simp [intsV]
        rw [e]; exact hh9
      have BN : Hid (Below w4.heap.size w4 w9) := (hB'.out.alloc hB'.out.size _).grown hgr9 (by have := hsz.out; simp; omega) (fun k hk => (hro.out.lt k hk).1)
      clear hh9 hgr9 hgg9
      go_roundg (gk - 1)
      case measure => have := hi'.out; have := hlt'.out; omega
      case rel => exact ⟨i + 1, _, rfl, by rw [← hnx.out], by have := hi'.out; have := hlt'.out; omega, RN.out, BN.out⟩
    · obtain rfl : i = m := by omega
      have hI := hmb.out.2.2.2 i rfl
      have dl : decide (((tn + i : Nat) : Int) < bb) = false := decide_eq_false (by omega)
      have FN := Mr.hid (hfin.out av cv wr (has_is hH) hBw.out)
      generalize ((tn + i : Nat) : Int) = kI at *
      clear hi hlt hH hB
      go_wp2
      go_ret2
      exact FN.out
theorem rLeft_any (th rm : Int) (ws : List Int) (a : Option Addr) (n c : Nat) (w : World) (hW : WdAt w a n ws) :
    Calls Try.prog 26 #[dV th rm, .slice a n c] w fun e w' => LfP w w' (lfR th rm ws) e := by
  cases hd : dqB th rm with
  | false => exact rLeft_chk th rm ws a n c w hW hd
  | true =>
    by_cases hl : (ws.length : Int) = 2 + rm
    · obtain ⟨rn, rfl⟩ := Int.eq_ofNat_of_zero_le (show 0 ≤ rm by have := dqB_in hd; omega)
      exact rLeft_go th rn ws a n c w hW hd hl
    · exact rLeft_len th rm ws a n c w hW hd hl
end Go.Proofs.Ytaojggnflblgnaa.Dq
