import Derived.Test.YtcomelbphdjnnaaGreatDoorJ10
import Derived.Test.YtcomelbphdjnnaaGreatDoorJ09
/-
  SCRIPT: written, Print.
-/
namespace Go.Proofs.YtcomelbphdjnnaaGreatDoor.Sc
open Go.RowKit Mr
set_option linter.unusedVariables false
set_option linter.unusedSimpArgs false
set_option maxRecDepth 100000
theorem fMachine_ok : zer fMachine ≤ 7 ∧ (∀ x ∈ fMachine, x.toNat < 128) := by
  refine ⟨by decide, ?_⟩
  have : fMachine.all (fun x => decide (x.toNat < 128)) = true := by decide
  intro x hx
  simpa using List.all_eq_true.1 this x hx
theorem callLn_len (m : Mv) (h : MvB m) : (callLn m).length ≤ 22000 := by
  obtain ⟨h1, h2, h3, h4⟩ := h
  have ho := fil_len fOp [m.th, m.op, m.arg, m.data] (by simp; exact ⟨h1, h2, h3, h4⟩)
  have e : fOp.length = 10 := rfl
  unfold callLn
  split
  · rename_i k hk
    obtain ⟨hk1, _⟩ := rowOf_some hk
    obtain ⟨_, _, z3, _⟩ := fCall_ok k hk1
    have hf := fil_len (fCall k) [m.th, m.arg, m.data] (by simp; exact ⟨h1, h3, h4⟩)
    split <;> simp <;> omega
  · simp; omega
theorem lineOf_len (m : Mv) (r : List Mv) (h : MvB m) (hr : (m :: r).length ≤ 1000000000000) : (lineOf m r).1.length ≤ 22000 := by
  have h1 := callLn_len m h
  have h2 := fil_len fStep [m.th] (by simp; exact h.1)
  have hl := stepsOf_le m.th (m :: r)
  have h3 := fil_len fSteps [m.th, (stepsOf m.th (m :: r) : Int)] (by simp; exact ⟨h.1, by unfold Bd; omega⟩)
  have e1 : fStep.length = 3 := rfl
  have e2 : fSteps.length = 5 := rfl
  unfold lineOf
  split
  · exact h1
  · split <;> simp <;> omega
set_option maxHeartbeats 8000000 in
theorem written_any (c0 c1 c2 c3 c4 c5 c6 : Int) (a : Option Addr) (n c : Nat) (ms : List Mv) (w : World) (E : Env w) (hM : MvAt w a n ms) (hm : ∀ m ∈ ms, MvB m) (hb : ∀ x ∈ [c0, c1, c2, c3, c4, c5, c6], Bd x) (hn : n ≤ 65536) (hc : n ≤ c) :
    Calls Tryz.prog 14 #[.agg #[.int .i64 c0, .int .i64 c1, .int .i64 c2, .int .i64 c3, .int .i64 c4, .int .i64 c5, .int .i64 c6], .slice a n c] w fun e w' => e = .returned (.string ⟨(prints [c0, c1, c2, c3, c4, c5, c6] ms).toArray⟩) ∧ Below w.heap.size w w' := by
  have hfl := fil_len fMachine [c0, c1, c2, c3, c4, c5, c6] hb
  have el : fMachine.length ≤ 80 := by decide
  have C : Hid (∀ W (a : Option Addr), Env W → Left W.heap.size W a 7 7 [c0, c1, c2, c3, c4, c5, c6] → Calls Tryz.prog 28 #[.string ⟨fMachine.toArray⟩, .slice a 7 7] W fun e w' => e = .returned (.string ⟨(fil fMachine [c0, c1, c2, c3, c4, c5, c6] ++ [10]).toArray⟩) ∧ Below W.heap.size W w') := fun W a hE hL => filled_any ⟨fMachine.toArray⟩ a 7 7 [c0, c1, c2, c3, c4, c5, c6] W hE hL hb fMachine_ok.1 fMachine_ok.2 (by decide)
  obtain ⟨hd, hhd⟩ : ∃ hd, hd = fil fMachine [c0, c1, c2, c3, c4, c5, c6] ++ [10] := ⟨_, rfl⟩
  have hdl : hd.length ≤ 2000 := by rw [hhd]; simp; omega
  rw [← hhd] at C
  have hpr : Hid (prints [c0, c1, c2, c3, c4, c5, c6] ms = hd ++ lines ms) := by show _ = _; unfold prints; rw [hhd]
  rw [hpr.out]
  clear hpr hfl el hhd hb
  replace E := Mr.hid E
  replace hM := Mr.hid hM
  replace hm := Mr.hid hm
  go_enter Tryz.func14, Tryz.ntmps14
  go_upto_region 2 with fail
  have hI0 : Hid (Bl (w.heap.size + 1) (w.heap.size + 1) [] ((w.alloc (.cells #[.int .i64 c0, .int .i64 c1, .int .i64 c2, .int .i64 c3, .int .i64 c4, .int .i64 c5, .int .i64 c6] 23)).alloc (.cells #[.pointer none, .slice none 0 0] 67))) := Mr.hid (by have := Bl.new (w.alloc (.cells #[.int .i64 c0, .int .i64 c1, .int .i64 c2, .int .i64 c3, .int .i64 c4, .int .i64 c5, .int .i64 c6] 23)); simpa using this)
  have B0 : Hid (Below w.heap.size w ((w.alloc (.cells #[.int .i64 c0, .int .i64 c1, .int .i64 c2, .int .i64 c3, .int .i64 c4, .int .i64 c5, .int .i64 c6] 23)).alloc (.cells #[.pointer none, .slice none 0 0] 67))) := ((Below.refl _ _).alloc (Nat.le_refl _) _).alloc (by simp) _
  go_upto_region 3 with (first | (go_at_call 28; refine (C.out _ _ (E.out.below (B0.out.alloc (by simp; omega) _)) (left_new [c0, c1, c2, c3, c4, c5, c6] (new_at _ _ _ (by simp)) rfl)).mono ?_; clear C; rintro e w3 ⟨rfl, B3⟩; have B03 : Hid (Below w.heap.size w w3) := (B0.out.alloc (by simp; omega) _).trans (B3.mono (by simp; omega)); have I3 : Bl (w.heap.size + 1) (w.heap.size + 1) [] w3 := (hI0.out.below (((Below.refl _ _).alloc (Nat.le_refl _) _).trans (B3.mono (by simp)))); have S3 := Mr.hid (writeS_any ⟨hd.toArray⟩ w3 I3 (by simp [ByteArray.size]; omega) (Nat.le_of_lt I3.lt)); clear B3 I3) | (go_at_call 27; refine S3.out.mono ?_; clear S3; rintro e w4 ⟨⟨nw, rfl⟩, I4, B4, -⟩))
  have B04 : Hid (Below w.heap.size w w4) := B03.out.trans (B4.mono (by omega))
  have I4' : Hid (Bl (w.heap.size + 1) (w.heap.size + 1) hd w4) := Mr.hid (by have := I4; simpa using this)
  clear I4 B4 B03 hI0 B0
  go_loopg [1] n (fun gk s1 wr => ∃ (a1 : Option Addr) (c1 : Nat) (rest : List Mv) (acc : List UInt8), s1 = .slice a1 gk c1 ∧ MvAt wr a1 gk rest ∧ (rest ≠ [] → ∀ b off, a1 = some ⟨b, off, none⟩ → b < w.heap.size) ∧ gk ≤ c1 ∧ Bl (w.heap.size + 1) (w.heap.size + 1) acc wr ∧ Below w.heap.size w wr ∧ acc ++ lines rest = hd ++ lines ms ∧ (∀ m ∈ rest, MvB m) ∧ acc.length + 22000 * gk ≤ 2000 + 22000 * n)
  case atStart =>
    refine ⟨a, c, ms, hd, rfl, hM.out.below B04.out, ?_, hc, I4'.out, B04.out, rfl, hm.out, by omega⟩
    intro h0 b off e
    subst e
    rcases hM.out.2 with h | ⟨b', o', e', hl, _⟩
    · exact absurd h h0
    · cases e'; exact hl
  case round =>
    obtain ⟨a1, cc1, rest, acc, rfl, hM1, hab, hcc, hI, hB, hacc, hmr, hal⟩ := hrel
    cases rest with
    | nil =>
      have h0 : gk = 0 := hM1.1
      have hfin : acc = hd ++ lines ms := by rw [← hacc]; simp [lines, linesF]
      have S2 := Mr.hid (string_any wr hI (Nat.le_of_lt hI.lt))
      have hB' := Mr.hid hB
      have hf' := Mr.hid hfin
      subst h0
      clear hM1 hab hcc hI hB hacc hmr hal hfin
      have d0 : decide ((0 : Int) > 0) = false := by decide
      go_wp2_with (go_at_call 30; refine S2.out.mono ?_; clear S2; rintro e w4 ⟨rfl, B4⟩; replace B4 := Mr.hid B4)
      go_ret
      exact ⟨by rw [← hf'.out]; rfl, hB'.out.trans (B4.out.mono (by omega))⟩
    | cons m r =>
      have h0 : gk = (m :: r).length := hM1.1
      obtain ⟨g, o, rfl, hgl, -⟩ := hM1.2.resolve_left (by simp)
      have hg := hab (by simp) g o rfl
      have hgk : gk ≤ 65536 := by omega
      have hmm := hmr m (List.mem_cons_self ..)
      have hEr : Env wr := E.out.below hB
      obtain ⟨p1, p2⟩ := lineOf_pos m r
      have pl := lineOf_len m r hmm (by omega)
      have NL := Mr.hid (nextLine_any m r g o gk cc1 wr hEr hM1 hmm (by omega) hcc)
      have hlc := Mr.hid (lines_cons m r)
      obtain ⟨kk, hkk⟩ : ∃ kk, (lineOf m r).2 = kk := ⟨_, rfl⟩
      obtain ⟨LL, hLL⟩ : ∃ LL, (lineOf m r).1 = LL := ⟨_, rfl⟩
      rw [hkk] at NL hlc p1 p2
      rw [hLL] at NL hlc pl
      rw [← h0] at p2
      have d0 : decide ((gk : Int) > 0) = true := by simp; omega
      have d1 : (0 : Int) < (gk : Int) := by omega
      replace hI := Mr.hid hI
      replace hB := Mr.hid hB
      replace hacc := Mr.hid hacc
      replace hmr := Mr.hid hmr
      replace hal := Mr.hid hal
      clear hM1 hab hkk hLL hEr h0 hmm
      go_upto_region 5 with (go_at_call 29; refine NL.out.mono ?_; clear NL; rintro e w5 ⟨o', c', rfl, hM5, hc5, B5⟩)
      have I5 := hI.out.below B5
      have S5 := Mr.hid (writeS_any ⟨LL.toArray⟩ w5 I5 (by simp [ByteArray.size]; have := hal.out; omega) (Nat.le_of_lt I5.lt))
      replace hM5 := Mr.hid hM5
      replace B5 := Mr.hid B5
      clear I5
      go_wp2_with (go_at_call 27; refine S5.out.mono ?_; clear S5; rintro e w6 ⟨⟨nw, rfl⟩, I6, B6, -⟩; replace I6 := Mr.hid I6; replace B6 := Mr.hid B6)
      go_roundg (gk - kk)
      case measure => omega
      case rel =>
        refine ⟨some ⟨g, o', none⟩, c', (m :: r).drop kk, acc ++ LL, rfl, hM5.out.lower B6.out (fun _ b off e => by cases e; omega), fun _ b off e => (by cases e; exact hg), hc5, ?_, (hB.out.trans (B5.out.mono hB.out.size)).trans (B6.out.mono (by omega)), ?_, fun x hx => hmr.out x (List.mem_of_mem_drop hx), ?_⟩
        · have := I6.out; simpa using this
        · rw [← hacc.out, hlc.out, List.append_assoc]
        · have := hal.out; simp; omega
theorem sz_list (l : List UInt8) : (⟨l.toArray⟩ : ByteArray).size = l.length := by simp [ByteArray.size]
end Go.Proofs.YtcomelbphdjnnaaGreatDoor.Sc
/-
  SCRIPT: the reader; entry, where nothing is wrong.
-/
namespace Go.Proofs.YtcomelbphdjnnaaGreatDoor.Sc
open Go.RowKit Mr
set_option linter.unusedVariables false
set_option linter.unusedSimpArgs false
set_option maxRecDepth 100000
structure Cf where
  c0 : Int
  c1 : Int
  c2 : Int
  c3 : Int
  c4 : Int
  c5 : Int
  c6 : Int
deriving DecidableEq
def cfO (c : Cf) (v : Value) : Obj := .cells #[.int .i64 c.c0, .int .i64 c.c1, .int .i64 c.c2, .int .i64 c.c3, .int .i64 c.c4, .int .i64 c.c5, .int .i64 c.c6, v] 52 (0, 0)
/-- A reader in the world: its box R, its moves in a row of its own. -/
structure Rd (B0 R : Nat) (W : World) (c : Cf) (v : Value) (ms : List Mv) : Prop where
  box : W.heap[R]? = some (cfO c v)
  row : Has W (fun k => B0 ≤ k ∧ k ≠ R) 42 4 v ms.length (mvc ms)
  lo : B0 ≤ R
theorem Rd.lt {B0 R : Nat} {W : World} {c : Cf} {v : Value} {ms : List Mv} (h : Rd B0 R W c v ms) : R < W.heap.size := (Array.getElem?_eq_some_iff.1 h.box).1
theorem Rd.below {B0 R : Nat} {W W' : World} {c : Cf} {v : Value} {ms : List Mv} (h : Rd B0 R W c v ms) (hB : Below W.heap.size W W') : Rd B0 R W' c v ms :=
  ⟨(hB.block R h.lt).trans h.box, h.row.below hB, h.lo⟩
theorem Rd.cell {B0 R : Nat} {W : World} {c : Cf} {v : Value} {ms : List Mv} (h : Rd B0 R W c v ms) : W.cell? ⟨R, 0, none⟩ = some (.int .i64 c.c0) ∧ W.cell? ⟨R, 7, none⟩ = some v ∧ (∀ k, W.frozen? ⟨R, k, none⟩ = false) := by
  have hb := h.box
  unfold cfO at hb
  exact ⟨cell_blk hb 0, cell_blk hb 7, fun k => by simp [World.frozen?, hb]⟩
/-- A line's moves are none, or it has one of the forms. -/
theorem callM_ne {ws : List (List UInt8)} {f : List UInt8} {ns : List Int} (h : callM ws f ns ≠ []) : ∃ k, ¬ ws.length < 2 ∧ rowN (ws.getD 1 []) = some k ∧ f = fCall k := by
  by_cases h2 : ws.length < 2
  · exfalso; apply h; unfold callM; rw [if_pos h2]
  · rw [callM_two h2] at h
    cases hr : rowN (ws.getD 1 []) with
    | none => rw [hr] at h; exact absurd rfl h
    | some k =>
      rw [hr] at h
      by_cases hf : f = fCall k
      · exact ⟨k, h2, rfl, hf⟩
      · simp [hf] at h
theorem meaning_ok (ws : List (List UInt8)) (R T : Nat) (a : Option Addr) (n c : Nat) (v : Value) (S : Nat → Prop) (w : World) (hW : WsAt w a n ws) (hg : ∀ x ∈ ws, Gw x) (hn : n ≤ 1048576) (hsz : ∀ x ∈ ws, x.length ≤ 1048576) (hN : Has w S 3 1 v (numsL ws).length (ints (numsL ws))) (hT : T ≤ 1000) (h0 : w.cell? ⟨R, 0, none⟩ = some (.int .i64 (T : Int))) (hR : R < w.heap.size) (hne : (mean T ws (numsL ws)).1 ≠ []) :
    Calls Tryz.prog 67 #[.pointer (some ⟨R, 0, none⟩), .slice a n c, v] w (MnA w (mean T ws (numsL ws))) := by
  have hp : 0 < (numsL ws).length → ∃ g cap, v = .slice (some ⟨g, 0, none⟩) (numsL ws).length cap ∧ (numsL ws).length ≤ cap ∧ NmAt w (some ⟨g, 0, none⟩) (numsL ws).length (numsL ws) := by
    intro hp
    obtain ⟨g, cap, hv, _, hgl, hcap, _⟩ := hN.there hp
    refine ⟨g, cap, hv, hcap, rfl, .inr ⟨g, 0, rfl, hgl, fun j x hx => ?_⟩⟩
    rw [Nat.zero_add]
    exact hN.cells (g := g) (by rw [hv]; rfl) j _ (by simp [ints, hx])
  by_cases f1 : formL ws = fStep
  · obtain ⟨g, cap, rfl, hc, hNm⟩ := hp (by rw [nums_of hg f1]; decide)
    exact mean_step ws R T a n c g 0 _ cap w hW hg hn hsz hNm hc hT h0 hR f1
  by_cases f2 : formL ws = fSteps
  · obtain ⟨g, cap, rfl, hc, hNm⟩ := hp (by rw [nums_of hg f2]; decide)
    exact mean_steps ws R T a n c g 0 _ cap w hW hg hn hsz hNm hc hT h0 hR f2
  by_cases f3 : formL ws = fRounds
  · obtain ⟨g, cap, rfl, hc, hNm⟩ := hp (by rw [nums_of hg f3]; decide)
    exact mean_rounds ws R T a n c g 0 _ cap w hW hg hn hsz hNm hc hT h0 hR f3
  by_cases f4 : formL ws = fOp
  · obtain ⟨g, cap, rfl, hc, hNm⟩ := hp (by rw [nums_of hg f4]; decide)
    exact mean_op ws R T a n c g 0 _ cap w hW hg hn hsz hNm hc hT h0 hR f4
  · have hme : mean T ws (numsL ws) = (callM ws (formL ws) (numsL ws), 1) := by unfold mean; rw [if_neg f1, if_neg f2, if_neg f3, if_neg f4]
    rw [hme] at hne
    obtain ⟨k, h2, hk, hf⟩ := callM_ne hne
    obtain ⟨g, cap, rfl, hc, hNm⟩ := hp (by rw [nums_of hg hf]; have := (fCall_words k (rowN_some hk).1).1; omega)
    exact mean_call ws R T a n c g 0 _ cap w hW hg hn hsz hNm hc hT h0 hR k h2 hk hf f1 f2 f3 f4
theorem mean_len (T : Nat) (ws : List (List UInt8)) (ns : List Int) (hT : T ≤ 1000) : (mean T ws ns).1.length ≤ 1000 := by
  unfold mean
  repeat' split
  all_goals try (dsimp only; first | simp; done | (rw [rnds_len]; exact hT))
  unfold callM
  repeat' split
  all_goals simp
theorem rep_succ {α : Type} (l : List α) (k : Nat) : (List.replicate (k + 1) l).flatten = (List.replicate k l).flatten ++ l := by
  rw [List.replicate_succ', List.flatten_append]; simp
theorem rep_len {α : Type} (l : List α) (k : Nat) : ((List.replicate k l).flatten).length = k * l.length := by simp [List.length_flatten]
set_option maxHeartbeats 8000000 in
theorem entry_ok (w0 : World) (R T : Nat) (cf : Cf) (v : Value) (ms : List Mv) (ws : List (List UInt8)) (a : Option Addr) (n c : Nat) (w : World) (E : Env w0) (hB : Below w0.heap.size w0 w) (hR : Rd w0.heap.size R w cf v ms) (hW : WsAt w a n ws) (hg : ∀ x ∈ ws, Gw x) (hn : n ≤ 1048576) (hsz : ∀ x ∈ ws, x.length ≤ 1048576) (hT : T ≤ 1000) (h0 : cf.c0 = T) (hok : entE T ms ws = 0) (hms : ms.length ≤ 65536) :
    Calls Tryz.prog 49 #[.pointer (some ⟨R, 0, none⟩), .slice a n c] w fun e w' => ∃ v', e = .returned .nilIface ∧ Rd w0.heap.size R w' cf v' (entM T ms ws) ∧ Below w0.heap.size w0 w' := by
  obtain ⟨ii, hii, hz0, hz1, hz2⟩ := info_m
  have hNo := Mr.hid (numbersOf_any ws a n c w (E.below hB) hW hn hsz)
  have hMn : Hid (∀ W u S, Below w.heap.size w W → Has W S 3 1 u (numsL ws).length (ints (numsL ws)) → (mean T ws (numsL ws)).1 ≠ [] → Calls Tryz.prog 67 #[.pointer (some ⟨R, 0, none⟩), .slice a n c, u] W (MnA W (mean T ws (numsL ws)))) := fun W u S hBW hN hne => meaning_ok ws R T a n c u S W (hW.below hBW) hg hn hsz hN hT (by have := (hR.below hBW).cell.1; rw [h0] at this; exact this) (hR.below hBW).lt hne
  have hml := mean_len T ws (numsL ws) hT
  unfold entE at hok
  unfold entM
  generalize hmm : mean T ws (numsL ws) = mt at *
  obtain ⟨mv, tm⟩ := mt
  dsimp only at *
  have q1 : mv ≠ [] := fun e => by rw [if_pos e] at hok; cases hok
  rw [if_neg q1] at hok
  have q2 : wholeL ws = true := by cases h : wholeL ws with | true => rfl | false => rw [h] at hok; cases hok
  rw [if_neg (by rw [q2]; simp)] at hok
  have q3 : 1 ≤ tm ∧ tm ≤ 65536 := by
    by_cases h : tm < 1 ∨ 65536 < tm
    · rw [if_pos h] at hok; cases hok
    · omega
  rw [if_neg (by omega)] at hok
  have q4 : ms.length + tm.toNat * mv.length ≤ 65536 := by
    by_cases h : 65536 < ms.length + tm.toNat * mv.length
    · rw [if_pos h] at hok; cases hok
    · omega
  obtain ⟨t, ht⟩ : ∃ t : Nat, tm = t := ⟨tm.toNat, by omega⟩
  subst ht
  have ett : ((t : Int)).toNat = t := by omega
  rw [ett] at q4 ⊢
  obtain ⟨m, hm⟩ : ∃ m, mv.length = m := ⟨_, rfl⟩
  have hmp : 0 < m := by rw [← hm]; exact List.length_pos_iff.2 q1
  rw [hm] at q4 hml
  rw [q2] at hNo
  have hlt := hR.lt
  replace hR := Mr.hid hR
  replace hB := Mr.hid hB
  replace q4 := Mr.hid q4
  have hm' := Mr.hid hm
  clear hok q2 h0 hmm ett E hW hg hsz hm
  go_enter Tryz.func49, Tryz.ntmps49
  go_upto_region 2 with (go_at_call 66; refine hNo.out.mono ?_; clear hNo; rintro e w1 ⟨u, rfl, hu, B1⟩)
  have M1 := Mr.hid (hMn.out w1 u _ B1 hu q1)
  have hR1 := hR.out.below B1
  have hB1 : Below w0.heap.size w0 w1 := hB.out.trans (B1.mono hB.out.size)
  clear hMn hu hR hB
  go_upto_region 3 with (go_at_call 67; refine M1.out.mono ?_; clear M1; rintro e w2 ⟨mvv, rfl, hmv, B2⟩)
  have hR2 := hR1.below B2
  have hB2 : Hid (Below w0.heap.size w0 w2) := hB1.trans (B2.mono hB1.size)
  obtain ⟨g, cap, hmvv, hgS, hgl, hcap, -⟩ := hmv.there (by rw [hm'.out]; exact hmp)
  subst hmvv
  rw [hm'.out] at hmv ⊢
  have hgR : g ≠ R := by have := hR1.lt; omega
  obtain ⟨av, cv, rfl, hcv⟩ := hR2.row.form
  have hrow2 : Has w2 (fun k => w0.heap.size ≤ k ∧ k ≠ R ∧ k ≠ g) 42 4 (.slice av ms.length cv) ms.length (mvc ms) := by
    refine hR2.row.kept (fun k hk => rfl) (fun k hk => ?_)
    obtain ⟨⟨h1, h2⟩, h3⟩ := hR2.row.lt k hk
    have h4 := (hR1.row.lt k hk).2
    exact ⟨h1, h2, by omega⟩
  obtain ⟨P, hP⟩ : ∃ P, t * m = P := ⟨_, rfl⟩
  have hPI : (t : Int) * (m : Int) = (P : Int) := by rw [← hP]; simp
  have hq4 := q4.out
  rw [hP] at hq4
  have k1 : ((m : Int) == 0) = false := beq_eq_false_iff_ne.2 (by omega)
  have k2 : decide ((t : Int) < 1) = false := decide_eq_false (by omega)
  have k3 : decide ((65536 : Int) < (t : Int)) = false := decide_eq_false (by omega)
  have k4 : IntKind.i64.wrap ((t : Int) * (m : Int)) = (P : Int) := by rw [hPI]; exact i64x _ (by omega) (by omega)
  have k5 : IntKind.i64.wrap ((ms.length : Int) + (P : Int)) = (ms.length : Int) + (P : Int) := i64x _ (by omega) (by omega)
  have k6 : decide ((65536 : Int) < (ms.length : Int) + (P : Int)) = false := decide_eq_false (by omega)
  have k7 : ¬ (t : Int) < 1 := by omega
  have k8 : ¬ (65536 : Int) < (t : Int) := by omega
  have k9 : ¬ (65536 : Int) < (ms.length : Int) + (P : Int) := by omega
  have k10 : ¬ m = 0 := by omega
  obtain ⟨-, cl7, -⟩ := hR2.cell
  have hbox2 := Mr.hid hR2.box
  have hlo := hR2.lo
  have hRl := hR2.lt
  replace hrow2 := Mr.hid hrow2
  replace hmv := Mr.hid hmv
  replace hP := Mr.hid hP
  clear hR1 hR2 hB1 B1 B2 hPI hcv
  go_upto_region 12 with fail
  go_loopg [52] t (fun gk s52 wr => ∃ (i : Nat) (vv : Value), s52 = .int .i64 (i : Int) ∧ i + gk = t ∧ wr.heap[R]? = some (cfO cf vv) ∧ Has wr (fun k => w0.heap.size ≤ k ∧ k ≠ R ∧ k ≠ g) 42 4 vv (ms.length + i * m) (mvc (ms ++ (List.replicate i mv).flatten)) ∧ wr.heap[g]? = w2.heap[g]? ∧ Below w0.heap.size w0 wr)
  case atStart => exact ⟨0, _, rfl, by omega, hbox2.out, by simpa using hrow2.out, rfl, hB2.out⟩
  case round =>
    obtain ⟨i, vv, rfl, hi, hbx, hrw, hgg, hBr⟩ := hrel
    by_cases hlt2 : i < t
    · obtain ⟨av2, cv2, rfl, hcv2⟩ := hrw.form
      have hlI : (i : Int) < (t : Int) := by omega
      have dl : decide ((i : Int) < (t : Int)) = true := by simpa using hlI
      have hw : IntKind.i64.wrap ((i : Int) + 1) = (i : Int) + 1 := i64x _ (by omega) (by omega)
      have hmvr : Has wr (fun k => w1.heap.size ≤ k) 42 4 (.slice (some ⟨g, 0, none⟩) m cap) m (mvc mv) := hmv.out.kept (fun k hk => by cases hk; exact hgg) (fun k hk => (hmv.out.lt k hk).1)
      have hcs : ∀ j u, (mvc mv)[j]? = some u → wr.cell? ((⟨g, 0, none⟩ : Addr).add j) = some u := fun j u hu => by rw [add1, Nat.zero_add]; exact hmvr.cells (g := g) rfl j u hu
      have hbx' := hbx
      unfold cfO at hbx'
      have r7 : wr.cell? ⟨R, 7, none⟩ = some (.slice av2 (ms.length + i * m) cv2) := cell_blk hbx' 7
      have hRw : R < wr.heap.size := (Array.getElem?_eq_some_iff.1 hbx).1
      have him : (i + 1) * m ≤ t * m := Nat.mul_le_mul_right _ hlt2
      have hsum : ms.length + (i * m + m) ≤ 65536 := by rw [Nat.succ_mul] at him; have := hP.out; omega
      have hi' := Mr.hid hi
      have hml2 : Hid ((mvc mv).length = m * 4) := by show _ = _; rw [mvc_length, hm'.out]
      replace hrw := Mr.hid hrw
      replace hgg := Mr.hid hgg
      replace hBr := Mr.hid hBr
      replace hbx := Mr.hid hbx
      clear hmvr hbx' hi him
      generalize hQ : ms.length + i * m = Q at *
      have hQ' := Mr.hid hQ
      clear hQ
      go_wp2_with (at_builtin; refine wpList_append_has _ rfl _ _ 24 rfl (fun k => w0.heap.size ≤ k ∧ k ≠ R ∧ k ≠ g) 42 ii _ 4 32 Tryz.underlying24 hii hz0 hz1 hz2 rfl _ _ _ rfl hrw.out ⟨g, 0, none⟩ m cap (mvc mv) rfl hml2.out hcs (mvc_one mv) hmp (by unfold maxLen; have := hQ'.out; omega) (by have := hQ'.out; omega) (by have := hBr.out.size; have := hlo; have h3 := (Array.getElem?_eq_some_iff.1 (hgg.out.trans (Array.getElem?_eq_getElem hgl))).1; omega) ?_)
      intro g2 cap2 w3 hh3 hgr hat
      have hne3 : ∀ k, (Value.slice av2 Q cv2).ownBlock = some k → k ≠ R ∧ k ≠ g := fun k hk => (hrw.out.lt k hk).1.2
      have hbx3 : w3.heap[R]? = some (cfO cf (.slice av2 Q cv2)) := (hgr.block R hRw (fun e => (hne3 R e.symm).1 rfl)).trans hbx.out
      have hgw : g < wr.heap.size := (Array.getElem?_eq_some_iff.1 (hgg.out.trans (Array.getElem?_eq_getElem hgl))).1
      have hgg3 : Hid (w3.heap[g]? = w2.heap[g]?) := (hgr.block g hgw (fun e => (hne3 g e.symm).2 rfl)).trans hgg.out
      have hB3 : Hid (Below w0.heap.size w0 w3) := hBr.out.grown hgr hBr.out.size (fun k hk => (hrw.out.lt k hk).1.1)
      have hbx3' := hbx3
      unfold cfO at hbx3'
      have r73 : w3.cell? ⟨R, 7, none⟩ = some (.slice av2 Q cv2) := cell_blk hbx3' 7
      have f73 : w3.frozen? ⟨R, 7, none⟩ = false := by simp [World.frozen?, hbx3']
      have hbx4 : Hid ((w3.setCell ⟨R, 7, none⟩ (.slice (some ⟨g2, 0, none⟩) (Q + m) cap2)).heap[R]? = some (cfO cf (.slice (some ⟨g2, 0, none⟩) (Q + m) cap2))) := (setBlk hbx3' 7 _).trans (by unfold cfO; rfl)
      have hRg2 : Hid ((Value.slice (some ⟨g2, 0, none⟩) (Q + m) cap2).ownBlock ≠ some R) := fun e => (hh3.lt R e).1.2.1 rfl
      have hh4 : Hid (Has (w3.setCell ⟨R, 7, none⟩ (.slice (some ⟨g2, 0, none⟩) (Q + m) cap2)) (fun k => w0.heap.size ≤ k ∧ k ≠ R ∧ k ≠ g) 42 4 (.slice (some ⟨g2, 0, none⟩) (Q + m) cap2) (ms.length + (i + 1) * m) (mvc (ms ++ (List.replicate (i + 1) mv).flatten))) := by
        show Has _ _ _ _ _ _ _
        have e1 : ms.length + (i + 1) * m = Q + m := by rw [Nat.succ_mul, ← hQ'.out]; omega
        have e2 : mvc (ms ++ (List.replicate (i + 1) mv).flatten) = mvc (ms ++ (List.replicate i mv).flatten) ++ mvc mv := by rw [rep_succ, ← List.append_assoc, mvc_append]
        rw [e1, e2]
        exact hh3.setCell _ _ hRg2.out
      clear hh3 hgr hat hbx3 hbx3' r7 hcs hne3 hgg hBr hbx hrw
      go_wp2
      go_roundg (gk - 1)
      case measure => have := hi'.out; omega
      case rel => exact ⟨i + 1, _, by simp, by have := hi'.out; omega, hbx4.out, hh4.out, (Below.heap_setCell _ _ _ _ hgR).trans hgg3.out, hB3.out.setCell (p := ⟨R, 7, none⟩) hlo _⟩
    · obtain rfl : i = t := by omega
      have dl : decide ((i : Int) < (i : Int)) = false := by simp
      have hfin : Hid (Rd w0.heap.size R wr cf vv (ms ++ (List.replicate i mv).flatten)) := ⟨hbx, by
        have e : (ms ++ (List.replicate i mv).flatten).length = ms.length + i * m := by rw [List.length_append, rep_len, hm'.out]
        rw [e]
        exact hrw.mono (fun k hk => ⟨hk.1, hk.2.1⟩), hlo⟩
      replace hBr := Mr.hid hBr
      clear hi hlt2 hbx hrw hgg
      go_wp2
      go_ret
      exact ⟨vv, rfl, hfin.out, hBr.out⟩
end Go.Proofs.YtcomelbphdjnnaaGreatDoor.Sc
