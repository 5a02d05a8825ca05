import Derived.Test.YtcomelbphdjnnaaGreatDoorJ10
import Derived.Test.YtcomelbphdjnnaaGreatDoorJ12
import Derived.Test.YtcomelbphdjnnaaGreatDoorChecked
import Derived.WalkKit
import Derived.WalkSpells
import Derived.OpenShut
import Derived.Outline
import Derived.Below
/-
  SCRIPT: the reader; entry, where nothing is wrong.
-/
namespace Go.Proofs.YtcomelbphdjnnaaGreatDoor.Sc
open Go.RowKit Mr
set_option linter.unusedVariables false
set_option linter.unusedSimpArgs false
set_option maxRecDepth 100000
structure Cf where
  c0 : Int
  c1 : Int
  c2 : Int
  c3 : Int
  c4 : Int
  c5 : Int
  c6 : Int
deriving DecidableEq
def cfO (c : Cf) (v : Value) : Obj := .cells #[.int .i64 c.c0, .int .i64 c.c1, .int .i64 c.c2, .int .i64 c.c3, .int .i64 c.c4, .int .i64 c.c5, .int .i64 c.c6, v] 52 (0, 0)
/-- A reader in the world: its box R, its moves in a row of its own. -/
structure Rd (B0 R : Nat) (W : World) (c : Cf) (v : Value) (ms : List Mv) : Prop where
  box : W.heap[R]? = some (cfO c v)
  row : Has W (fun k => B0 ≤ k ∧ k ≠ R) 42 4 v ms.length (mvc ms)
  lo : B0 ≤ R
theorem Rd.lt {B0 R : Nat} {W : World} {c : Cf} {v : Value} {ms : List Mv} (h : Rd B0 R W c v ms) : R < W.heap.size := (Array.getElem?_eq_some_iff.1 h.box).1
theorem Rd.below {B0 R : Nat} {W W' : World} {c : Cf} {v : Value} {ms : List Mv} (h : Rd B0 R W c v ms) (hB : Below W.heap.size W W') : Rd B0 R W' c v ms :=
  ⟨(hB.block R h.lt).trans h.box, h.row.below hB, h.lo⟩
theorem Rd.cell {B0 R : Nat} {W : World} {c : Cf} {v : Value} {ms : List Mv} (h : Rd B0 R W c v ms) : W.cell? ⟨R, 0, none⟩ = some (.int .i64 c.c0) ∧ W.cell? ⟨R, 7, none⟩ = some v ∧ (∀ k, W.frozen? ⟨R, k, none⟩ = false) := by
  have hb := h.box
  unfold cfO at hb
  exact ⟨cell_blk hb 0, cell_blk hb 7, fun k => by simp [World.frozen?, hb]⟩
/-- A line's moves are none, or it has one of the forms. -/
theorem callM_ne {ws : List (List UInt8)} {f : List UInt8} {ns : List Int} (h : callM ws f ns ≠ []) : ∃ k, ¬ ws.length < 2 ∧ rowN (ws.getD 1 []) = some k ∧ f = fCall k := by
  by_cases h2 : ws.length < 2
  · exfalso; apply h; unfold callM; rw [if_pos h2]
  · rw [callM_two h2] at h
    cases hr : rowN (ws.getD 1 []) with
    | none => rw [hr] at h; exact absurd rfl h
    | some k =>
      rw [hr] at h
      by_cases hf : f = fCall k
      · exact ⟨k, h2, rfl, hf⟩
      · simp [hf] at h
theorem meaning_ok (ws : List (List UInt8)) (R T : Nat) (a : Option Addr) (n c : Nat) (v : Value) (S : Nat → Prop) (w : World) (hW : WsAt w a n ws) (hg : ∀ x ∈ ws, Gw x) (hn : n ≤ 1048576) (hsz : ∀ x ∈ ws, x.length ≤ 1048576) (hN : Has w S 3 1 v (numsL ws).length (ints (numsL ws))) (hT : T ≤ 1000) (h0 : w.cell? ⟨R, 0, none⟩ = some (.int .i64 (T : Int))) (hR : R < w.heap.size) (hne : (mean T ws (numsL ws)).1 ≠ []) :
    Calls Tryz.prog 67 #[.pointer (some ⟨R, 0, none⟩), .slice a n c, v] w (MnA w (mean T ws (numsL ws))) := by
  have hp : 0 < (numsL ws).length → ∃ g cap, v = .slice (some ⟨g, 0, none⟩) (numsL ws).length cap ∧ (numsL ws).length ≤ cap ∧ NmAt w (some ⟨g, 0, none⟩) (numsL ws).length (numsL ws) := by
    intro hp
    obtain ⟨g, cap, hv, _, hgl, hcap, _⟩ := hN.there hp
    refine ⟨g, cap, hv, hcap, rfl, .inr ⟨g, 0, rfl, hgl, fun j x hx => ?_⟩⟩
    rw [Nat.zero_add]
    exact hN.cells (g := g) (by rw [hv]; rfl) j _ (by simp [ints, hx])
  by_cases f1 : formL ws = fStep
  · obtain ⟨g, cap, rfl, hc, hNm⟩ := hp (by rw [nums_of hg f1]; decide)
    exact mean_step ws R T a n c g 0 _ cap w hW hg hn hsz hNm hc hT h0 hR f1
  by_cases f2 : formL ws = fSteps
  · obtain ⟨g, cap, rfl, hc, hNm⟩ := hp (by rw [nums_of hg f2]; decide)
    exact mean_steps ws R T a n c g 0 _ cap w hW hg hn hsz hNm hc hT h0 hR f2
  by_cases f3 : formL ws = fRounds
  · obtain ⟨g, cap, rfl, hc, hNm⟩ := hp (by rw [nums_of hg f3]; decide)
    exact mean_rounds ws R T a n c g 0 _ cap w hW hg hn hsz hNm hc hT h0 hR f3
  by_cases f4 : formL ws = fOp
  · obtain ⟨g, cap, rfl, hc, hNm⟩ := hp (by rw [nums_of hg f4]; decide)
    exact mean_op ws R T a n c g 0 _ cap w hW hg hn hsz hNm hc hT h0 hR f4
  · have hme : mean T ws (numsL ws) = (callM ws (formL ws) (numsL ws), 1) := by unfold mean; rw [if_neg f1, if_neg f2, if_neg f3, if_neg f4]
    rw [hme] at hne
    obtain ⟨k, h2, hk, hf⟩ := callM_ne hne
    obtain ⟨g, cap, rfl, hc, hNm⟩ := hp (by rw [nums_of hg hf]; have := (fCall_words k (rowN_some hk).1).1; omega)
    exact mean_call ws R T a n c g 0 _ cap w hW hg hn hsz hNm hc hT h0 hR k h2 hk hf f1 f2 f3 f4
theorem mean_len (T : Nat) (ws : List (List UInt8)) (ns : List Int) (hT : T ≤ 1000) : (mean T ws ns).1.length ≤ 1000 := by
  unfold mean
  repeat' split
  all_goals try (dsimp only; first | simp; done | (rw [rnds_len]; exact hT))
  unfold callM
  repeat' split
  all_goals simp
theorem rep_succ {α : Type} (l : List α) (k : Nat) : (List.replicate (k + 1) l).flatten = (List.replicate k l).flatten ++ l := by
  rw [List.replicate_succ', List.flatten_append]; simp
theorem rep_len {α : Type} (l : List α) (k : Nat) : ((List.replicate k l).flatten).length = k * l.length := by simp [List.length_flatten]
set_option maxHeartbeats 8000000 in
theorem entry_ok (w0 : World) (R T : Nat) (cf : Cf) (v : Value) (ms : List Mv) (ws : List (List UInt8)) (a : Option Addr) (n c : Nat) (w : World) (E : Env w0) (hB : Below w0.heap.size w0 w) (hR : Rd w0.heap.size R w cf v ms) (hW : WsAt w a n ws) (hg : ∀ x ∈ ws, Gw x) (hn : n ≤ 1048576) (hsz : ∀ x ∈ ws, x.length ≤ 1048576) (hT : T ≤ 1000) (h0 : cf.c0 = T) (hok : entE T ms ws = 0) (hms : ms.length ≤ 65536) :
    Calls Tryz.prog 49 #[.pointer (some ⟨R, 0, none⟩), .slice a n c] w fun e w' => ∃ v', e = .returned .nilIface ∧ Rd w0.heap.size R w' cf v' (entM T ms ws) ∧ Below w0.heap.size w0 w' := by
  obtain ⟨ii, hii, hz0, hz1, hz2⟩ := info_m
  have hNo := Mr.hid (numbersOf_any ws a n c w (E.below hB) hW hn hsz)
  have hMn : Hid (∀ W u S, Below w.heap.size w W → Has W S 3 1 u (numsL ws).length (ints (numsL ws)) → (mean T ws (numsL ws)).1 ≠ [] → Calls Tryz.prog 67 #[.pointer (some ⟨R, 0, none⟩), .slice a n c, u] W (MnA W (mean T ws (numsL ws)))) := fun W u S hBW hN hne => meaning_ok ws R T a n c u S W (hW.below hBW) hg hn hsz hN hT (by have := (hR.below hBW).cell.1; rw [h0] at this; exact this) (hR.below hBW).lt hne
  have hml := mean_len T ws (numsL ws) hT
  unfold entE at hok
  unfold entM
  generalize hmm : mean T ws (numsL ws) = mt at *
  obtain ⟨mv, tm⟩ := mt
  dsimp only at *
  have q1 : mv ≠ [] := fun e => by rw [if_pos e] at hok; cases hok
  rw [if_neg q1] at hok
  have q2 : wholeL ws = true := by cases h : wholeL ws with | true => rfl | false => rw [h] at hok; cases hok
  rw [if_neg (by rw [q2]; simp)] at hok
  have q3 : 1 ≤ tm ∧ tm ≤ 65536 := by
    by_cases h : tm < 1 ∨ 65536 < tm
    · rw [if_pos h] at hok; cases hok
    · omega
  rw [if_neg (by omega)] at hok
  have q4 : ms.length + tm.toNat * mv.length ≤ 65536 := by
    by_cases h : 65536 < ms.length + tm.toNat * mv.length
    · rw [if_pos h] at hok; cases hok
    · omega
  obtain ⟨t, ht⟩ : ∃ t : Nat, tm = t := ⟨tm.toNat, by omega⟩
  subst ht
  have ett : ((t : Int)).toNat = t := by omega
  rw [ett] at q4 ⊢
  obtain ⟨m, hm⟩ : ∃ m, mv.length = m := ⟨_, rfl⟩
  have hmp : 0 < m := by rw [← hm]; exact List.length_pos_iff.2 q1
  rw [hm] at q4 hml
  rw [q2] at hNo
  have hlt := hR.lt
  replace hR := Mr.hid hR
  replace hB := Mr.hid hB
  replace q4 := Mr.hid q4
  have hm' := Mr.hid hm
  clear hok q2 h0 hmm ett E hW hg hsz hm
  go_enter Tryz.func49, Tryz.ntmps49
  go_upto_region 2 with (go_at_call 66; refine hNo.out.mono ?_; clear hNo; rintro e w1 ⟨u, rfl, hu, B1⟩)
  have M1 := Mr.hid (hMn.out w1 u _ B1 hu q1)
  have hR1 := hR.out.below B1
  have hB1 : Below w0.heap.size w0 w1 := hB.out.trans (B1.mono hB.out.size)
  clear hMn hu hR hB
  go_upto_region 3 with (go_at_call 67; refine M1.out.mono ?_; clear M1; rintro e w2 ⟨mvv, rfl, hmv, B2⟩)
  have hR2 := hR1.below B2
  have hB2 : Hid (Below w0.heap.size w0 w2) := hB1.trans (B2.mono hB1.size)
  obtain ⟨g, cap, hmvv, hgS, hgl, hcap, -⟩ := hmv.there (by rw [hm'.out]; exact hmp)
  subst hmvv
  rw [hm'.out] at hmv ⊢
  have hgR : g ≠ R := by have := hR1.lt; omega
  obtain ⟨av, cv, rfl, hcv⟩ := hR2.row.form
  have hrow2 : Has w2 (fun k => w0.heap.size ≤ k ∧ k ≠ R ∧ k ≠ g) 42 4 (.slice av ms.length cv) ms.length (mvc ms) := by
    refine hR2.row.kept (fun k hk => rfl) (fun k hk => ?_)
    obtain ⟨⟨h1, h2⟩, h3⟩ := hR2.row.lt k hk
    have h4 := (hR1.row.lt k hk).2
    exact ⟨h1, h2, by omega⟩
  obtain ⟨P, hP⟩ : ∃ P, t * m = P := ⟨_, rfl⟩
  have hPI : (t : Int) * (m : Int) = (P : Int) := by rw [← hP]; simp
  have hq4 := q4.out
  rw [hP] at hq4
  have k1 : ((m : Int) == 0) = false := beq_eq_false_iff_ne.2 (by omega)
  have k2 : decide ((t : Int) < 1) = false := decide_eq_false (by omega)
  have k3 : decide ((65536 : Int) < (t : Int)) = false := decide_eq_false (by omega)
  have k4 : IntKind.i64.wrap ((t : Int) * (m : Int)) = (P : Int) := by rw [hPI]; exact i64x _ (by omega) (by omega)
  have k5 : IntKind.i64.wrap ((ms.length : Int) + (P : Int)) = (ms.length : Int) + (P : Int) := i64x _ (by omega) (by omega)
  have k6 : decide ((65536 : Int) < (ms.length : Int) + (P : Int)) = false := decide_eq_false (by omega)
  have k7 : ¬ (t : Int) < 1 := by omega
  have k8 : ¬ (65536 : Int) < (t : Int) := by omega
  have k9 : ¬ (65536 : Int) < (ms.length : Int) + (P : Int) := by omega
  have k10 : ¬ m = 0 := by omega
  obtain ⟨-, cl7, -⟩ := hR2.cell
  have hbox2 := Mr.hid hR2.box
  have hlo := hR2.lo
  have hRl := hR2.lt
  replace hrow2 := Mr.hid hrow2
  replace hmv := Mr.hid hmv
  replace hP := Mr.hid hP
  clear hR1 hR2 hB1 B1 B2 hPI hcv
  go_upto_region 12 with fail
  go_loopg [52] t (fun gk s52 wr => ∃ (i : Nat) (vv : Value), s52 = .int .i64 (i : Int) ∧ i + gk = t ∧ wr.heap[R]? = some (cfO cf vv) ∧ Has wr (fun k => w0.heap.size ≤ k ∧ k ≠ R ∧ k ≠ g) 42 4 vv (ms.length + i * m) (mvc (ms ++ (List.replicate i mv).flatten)) ∧ wr.heap[g]? = w2.heap[g]? ∧ Below w0.heap.size w0 wr)
  case atStart => exact ⟨0, _, rfl, by omega, hbox2.out, by simpa using hrow2.out, rfl, hB2.out⟩
  case round =>
    obtain ⟨i, vv, rfl, hi, hbx, hrw, hgg, hBr⟩ := hrel
    by_cases hlt2 : i < t
    · obtain ⟨av2, cv2, rfl, hcv2⟩ := hrw.form
      have hlI : (i : Int) < (t : Int) := by omega
      have dl : decide ((i : Int) < (t : Int)) = true := by simpa using hlI
      have hw : IntKind.i64.wrap ((i : Int) + 1) = (i : Int) + 1 := i64x _ (by omega) (by omega)
      have hmvr : Has wr (fun k => w1.heap.size ≤ k) 42 4 (.slice (some ⟨g, 0, none⟩) m cap) m (mvc mv) := hmv.out.kept (fun k hk => by cases hk; exact hgg) (fun k hk => (hmv.out.lt k hk).1)
      have hcs : ∀ j u, (mvc mv)[j]? = some u → wr.cell? ((⟨g, 0, none⟩ : Addr).add j) = some u := fun j u hu => by rw [add1, Nat.zero_add]; exact hmvr.cells (g := g) rfl j u hu
      have hbx' := hbx
      unfold cfO at hbx'
      have r7 : wr.cell? ⟨R, 7, none⟩ = some (.slice av2 (ms.length + i * m) cv2) := cell_blk hbx' 7
      have hRw : R < wr.heap.size := (Array.getElem?_eq_some_iff.1 hbx).1
      have him : (i + 1) * m ≤ t * m := Nat.mul_le_mul_right _ hlt2
      have hsum : ms.length + (i * m + m) ≤ 65536 := by rw [Nat.succ_mul] at him; have := hP.out; omega
      have hi' := Mr.hid hi
      have hml2 : Hid ((mvc mv).length = m * 4) := by show _ = _; rw [mvc_length, hm'.out]
      replace hrw := Mr.hid hrw
      replace hgg := Mr.hid hgg
      replace hBr := Mr.hid hBr
      replace hbx := Mr.hid hbx
      clear hmvr hbx' hi him
      generalize hQ : ms.length + i * m = Q at *
      have hQ' := Mr.hid hQ
      clear hQ
      go_wp2_with (at_builtin; refine wpList_append_has _ rfl _ _ 24 rfl (fun k => w0.heap.size ≤ k ∧ k ≠ R ∧ k ≠ g) 42 ii _ 4 32 Tryz.underlying24 hii hz0 hz1 hz2 rfl _ _ _ rfl hrw.out ⟨g, 0, none⟩ m cap (mvc mv) rfl hml2.out hcs (mvc_one mv) hmp (by unfold maxLen; have := hQ'.out; omega) (by have := hQ'.out; omega) (by have := hBr.out.size; have := hlo; have h3 := (Array.getElem?_eq_some_iff.1 (hgg.out.trans (Array.getElem?_eq_getElem hgl))).1; omega) ?_)
      intro g2 cap2 w3 hh3 hgr hat
      have hne3 : ∀ k, (Value.slice av2 Q cv2).ownBlock = some k → k ≠ R ∧ k ≠ g := fun k hk => (hrw.out.lt k hk).1.2
      have hbx3 : w3.heap[R]? = some (cfO cf (.slice av2 Q cv2)) := (hgr.block R hRw (fun e => (hne3 R e.symm).1 rfl)).trans hbx.out
      have hgw : g < wr.heap.size := (Array.getElem?_eq_some_iff.1 (hgg.out.trans (Array.getElem?_eq_getElem hgl))).1
      have hgg3 : Hid (w3.heap[g]? = w2.heap[g]?) := (hgr.block g hgw (fun e => (hne3 g e.symm).2 rfl)).trans hgg.out
      have hB3 : Hid (Below w0.heap.size w0 w3) := hBr.out.grown hgr hBr.out.size (fun k hk => (hrw.out.lt k hk).1.1)
      have hbx3' := hbx3
      unfold cfO at hbx3'
      have r73 : w3.cell? ⟨R, 7, none⟩ = some (.slice av2 Q cv2) := cell_blk hbx3' 7
      have f73 : w3.frozen? ⟨R, 7, none⟩ = false := by simp [World.frozen?, hbx3']
      have hbx4 : Hid ((w3.setCell ⟨R, 7, none⟩ (.slice (some ⟨g2, 0, none⟩) (Q + m) cap2)).heap[R]? = some (cfO cf (.slice (some ⟨g2, 0, none⟩) (Q + m) cap2))) := (setBlk hbx3' 7 _).trans (by unfold cfO; rfl)
      have hRg2 : Hid ((Value.slice (some ⟨g2, 0, none⟩) (Q + m) cap2).ownBlock ≠ some R) := fun e => (hh3.lt R e).1.2.1 rfl
      have hh4 : Hid (Has (w3.setCell ⟨R, 7, none⟩ (.slice (some ⟨g2, 0, none⟩) (Q + m) cap2)) (fun k => w0.heap.size ≤ k ∧ k ≠ R ∧ k ≠ g) 42 4 (.slice (some ⟨g2, 0, none⟩) (Q + m) cap2) (ms.length + (i + 1) * m) (mvc (ms ++ (List.replicate (i + 1) mv).flatten))) := by
        show Has _ _ _ _ _ _ _
        have e1 : ms.length + (i + 1) * m = Q + m := by rw [Nat.succ_mul, ← hQ'.out]; omega
        have e2 : mvc (ms ++ (List.replicate (i + 1) mv).flatten) = mvc (ms ++ (List.replicate i mv).flatten) ++ mvc mv := by rw [rep_succ, ← List.append_assoc, mvc_append]
        rw [e1, e2]
        exact hh3.setCell _ _ hRg2.out
      clear hh3 hgr hat hbx3 hbx3' r7 hcs hne3 hgg hBr hbx hrw
      go_wp2
      go_roundg (gk - 1)
      case measure => have := hi'.out; omega
      case rel => exact ⟨i + 1, _, by simp, by have := hi'.out; omega, hbx4.out, hh4.out, (Below.heap_setCell _ _ _ _ hgR).trans hgg3.out, hB3.out.setCell (p := ⟨R, 7, none⟩) hlo _⟩
    · obtain rfl : i = t := by omega
      have dl : decide ((i : Int) < (i : Int)) = false := by simp
      have hfin : Hid (Rd w0.heap.size R wr cf vv (ms ++ (List.replicate i mv).flatten)) := ⟨hbx, by
        have e : (ms ++ (List.replicate i mv).flatten).length = ms.length + i * m := by rw [List.length_append, rep_len, hm'.out]
        rw [e]
        exact hrw.mono (fun k hk => ⟨hk.1, hk.2.1⟩), hlo⟩
      replace hBr := Mr.hid hBr
      clear hi hlt2 hbx hrw hgg
      go_wp2
      go_ret
      exact ⟨vv, rfl, hfin.out, hBr.out⟩
end Go.Proofs.YtcomelbphdjnnaaGreatDoor.Sc
/-
  CONTRACTS over api.Config: Check, the document's Config, small.
-/
namespace Go.Proofs.YtcomelbphdjnnaaGreatDoor.Wc
open Go.RowKit
set_option linter.unusedVariables false

def inB (n a b : Int) : Bool := decide (a ≤ n) && decide (n ≤ b)
def cfgB (a0 a1 a2 a3 a4 a5 a6 : Int) : Bool := inB a0 1 16 && inB a1 1 16 && inB a2 3 8 && inB a3 1 1024 && inB a4 0 64 && inB a5 1 1024 && inB a6 1 64

theorem within_any (n a b : Int) (w : World) :
    Calls Tryz.prog 26 #[.int .i64 n, .int .i64 a, .int .i64 b] w fun e w' => e = .returned (.bool (inB n a b)) ∧ w' = w := by
  by_cases h : a ≤ n
  · go_enter Tryz.func26, Tryz.ntmps26
    go_wp2
    go_ret
    exact ⟨by simp [inB, h], rfl⟩
  · go_enter Tryz.func26, Tryz.ntmps26
    go_wp2
    go_ret
    exact ⟨by simp [inB]; omega, rfl⟩

def chkN (b : Bool) : Int := if b then 0 else 1
theorem cfg_cases (a0 a1 a2 a3 a4 a5 a6 : Int) :
    inB a0 1 16 = false ∨ (inB a0 1 16 = true ∧ inB a1 1 16 = false) ∨ (inB a0 1 16 = true ∧ inB a1 1 16 = true ∧ inB a2 3 8 = false) ∨
    (inB a0 1 16 = true ∧ inB a1 1 16 = true ∧ inB a2 3 8 = true ∧ inB a3 1 1024 = false) ∨
    (inB a0 1 16 = true ∧ inB a1 1 16 = true ∧ inB a2 3 8 = true ∧ inB a3 1 1024 = true ∧ inB a4 0 64 = false) ∨
    (inB a0 1 16 = true ∧ inB a1 1 16 = true ∧ inB a2 3 8 = true ∧ inB a3 1 1024 = true ∧ inB a4 0 64 = true ∧ inB a5 1 1024 = false) ∨
    (inB a0 1 16 = true ∧ inB a1 1 16 = true ∧ inB a2 3 8 = true ∧ inB a3 1 1024 = true ∧ inB a4 0 64 = true ∧ inB a5 1 1024 = true ∧ inB a6 1 64 = false) ∨
    (inB a0 1 16 = true ∧ inB a1 1 16 = true ∧ inB a2 3 8 = true ∧ inB a3 1 1024 = true ∧ inB a4 0 64 = true ∧ inB a5 1 1024 = true ∧ inB a6 1 64 = true) := by
  cases inB a0 1 16 <;> cases inB a1 1 16 <;> cases inB a2 3 8 <;> cases inB a3 1 1024 <;> cases inB a4 0 64 <;> cases inB a5 1 1024 <;> cases inB a6 1 64 <;> simp

set_option maxHeartbeats 1000000 in
theorem check_any (a0 a1 a2 a3 a4 a5 a6 : Int) (w : World) :
    Calls Tryz.prog 13 #[.agg #[.int .i64 a0, .int .i64 a1, .int .i64 a2, .int .i64 a3, .int .i64 a4, .int .i64 a5, .int .i64 a6]] w fun e w' =>
      e = .returned (.int .i64 (chkN (cfgB a0 a1 a2 a3 a4 a5 a6))) ∧ Below w.heap.size w w' := by
  rcases cfg_cases a0 a1 a2 a3 a4 a5 a6 with h0 | ⟨h0, h1⟩ | ⟨h0, h1, h2⟩ | ⟨h0, h1, h2, h3⟩ | ⟨h0, h1, h2, h3, h4⟩ | ⟨h0, h1, h2, h3, h4, h5⟩ | ⟨h0, h1, h2, h3, h4, h5, h6⟩ | ⟨h0, h1, h2, h3, h4, h5, h6⟩
  all_goals
    go_enter Tryz.func13, Tryz.ntmps13
    go_wp2_with (go_at_call 26; refine (within_any _ _ _ _).mono ?_; rintro e w' ⟨rfl, rfl⟩)
    go_ret
    exact ⟨by simp [chkN, cfgB, *], (Below.refl _ _).alloc (Nat.le_refl _) _⟩

theorem dec_cases (a0 a1 a2 a3 a4 a5 a6 : Int) (P : Prop)
    (k0 : inB a0 1 16 = false → P) (k1 : 1 ≤ a0 → a0 ≤ 16 → inB a1 1 16 = false → P) (k2 : 1 ≤ a0 → a0 ≤ 16 → 1 ≤ a1 → a1 ≤ 16 → inB a2 3 8 = false → P)
    (k3 : 1 ≤ a0 → a0 ≤ 16 → 1 ≤ a1 → a1 ≤ 16 → 3 ≤ a2 → a2 ≤ 8 → inB a3 1 1024 = false → P)
    (k4 : 1 ≤ a0 → a0 ≤ 16 → 1 ≤ a1 → a1 ≤ 16 → 3 ≤ a2 → a2 ≤ 8 → 1 ≤ a3 → a3 ≤ 1024 → inB a4 0 64 = false → P)
    (k5 : 1 ≤ a0 → a0 ≤ 16 → 1 ≤ a1 → a1 ≤ 16 → 3 ≤ a2 → a2 ≤ 8 → 1 ≤ a3 → a3 ≤ 1024 → 0 ≤ a4 → a4 ≤ 64 → inB a5 1 1024 = false → P)
    (k6 : 1 ≤ a0 → a0 ≤ 16 → 1 ≤ a1 → a1 ≤ 16 → 3 ≤ a2 → a2 ≤ 8 → 1 ≤ a3 → a3 ≤ 1024 → 0 ≤ a4 → a4 ≤ 64 → 1 ≤ a5 → a5 ≤ 1024 → inB a6 1 64 = false → P)
    (k7 : 1 ≤ a0 → a0 ≤ 16 → 1 ≤ a1 → a1 ≤ 16 → 3 ≤ a2 → a2 ≤ 8 → 1 ≤ a3 → a3 ≤ 1024 → 0 ≤ a4 → a4 ≤ 64 → 1 ≤ a5 → a5 ≤ 1024 → 1 ≤ a6 → a6 ≤ 64 → P) : P := by
  have q : ∀ n a b, inB n a b = true → a ≤ n ∧ n ≤ b := by intro n a b h; simpa [inB] using h
  rcases cfg_cases a0 a1 a2 a3 a4 a5 a6 with h0 | ⟨h0, h1⟩ | ⟨h0, h1, h2⟩ | ⟨h0, h1, h2, h3⟩ | ⟨h0, h1, h2, h3, h4⟩ | ⟨h0, h1, h2, h3, h4, h5⟩ | ⟨h0, h1, h2, h3, h4, h5, h6⟩ | ⟨h0, h1, h2, h3, h4, h5, h6⟩
  · exact k0 h0
  · exact k1 (q _ _ _ h0).1 (q _ _ _ h0).2 h1
  · exact k2 (q _ _ _ h0).1 (q _ _ _ h0).2 (q _ _ _ h1).1 (q _ _ _ h1).2 h2
  · exact k3 (q _ _ _ h0).1 (q _ _ _ h0).2 (q _ _ _ h1).1 (q _ _ _ h1).2 (q _ _ _ h2).1 (q _ _ _ h2).2 h3
  · exact k4 (q _ _ _ h0).1 (q _ _ _ h0).2 (q _ _ _ h1).1 (q _ _ _ h1).2 (q _ _ _ h2).1 (q _ _ _ h2).2 (q _ _ _ h3).1 (q _ _ _ h3).2 h4
  · exact k5 (q _ _ _ h0).1 (q _ _ _ h0).2 (q _ _ _ h1).1 (q _ _ _ h1).2 (q _ _ _ h2).1 (q _ _ _ h2).2 (q _ _ _ h3).1 (q _ _ _ h3).2 (q _ _ _ h4).1 (q _ _ _ h4).2 h5
  · exact k6 (q _ _ _ h0).1 (q _ _ _ h0).2 (q _ _ _ h1).1 (q _ _ _ h1).2 (q _ _ _ h2).1 (q _ _ _ h2).2 (q _ _ _ h3).1 (q _ _ _ h3).2 (q _ _ _ h4).1 (q _ _ _ h4).2 (q _ _ _ h5).1 (q _ _ _ h5).2 h6
  · exact k7 (q _ _ _ h0).1 (q _ _ _ h0).2 (q _ _ _ h1).1 (q _ _ _ h1).2 (q _ _ _ h2).1 (q _ _ _ h2).2 (q _ _ _ h3).1 (q _ _ _ h3).2 (q _ _ _ h4).1 (q _ _ _ h4).2 (q _ _ _ h5).1 (q _ _ _ h5).2 (q _ _ _ h6).1 (q _ _ _ h6).2

end Go.Proofs.YtcomelbphdjnnaaGreatDoor.Wc
