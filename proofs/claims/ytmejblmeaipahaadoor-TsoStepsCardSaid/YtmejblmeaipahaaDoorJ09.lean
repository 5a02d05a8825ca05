import Derived.Test.YtmejblmeaipahaaDoorJ08
/-
  TSO: a state's numbers in one array, and what a write makes of them.
-/
namespace Go.Proofs.YtmejblmeaipahaaDoor.Ts
open Go.RowKit Mr
set_option linter.unusedVariables false
set_option linter.unusedSimpArgs false
def bfC (b : List Pd) (k : Nat) : Int := match b[k / 2]? with
  | some p => if k % 2 = 0 then p.ad else p.vl
  | none => 0
def rgC (r : Option Rg) (k : Nat) : Int := match r with
  | some r => r.get k
  | none => 0
def lnC (b : Option (List Pd)) : Int := match b with
  | some b => (b.length : Int)
  | none => 0
def bsC (b : Option (List Pd)) (k : Nat) : Int := match b with
  | some b => bfC b k
  | none => 0
/-- The numbers of a state, in their places. -/
def enc (s : Sv) (i : Nat) : Int :=
  if i < 6 then (s.ws[i]?).getD 0
  else if i < 22 then rgC (s.rg[(i - 6) / 4]?) ((i - 6) % 4)
  else if i < 26 then (s.pl[i - 22]?).getD 0
  else if i < 30 then lnC (s.bf[i - 26]?)
  else bsC (s.bf[(i - 30) / 22]?) ((i - 30) % 22)
def Enc (cs : Array Value) (s : Sv) : Prop := cs.size = 118 ∧ ∀ i, i < 118 → cs[i]? = some (.int .i64 (enc s i))
theorem Enc.set {cs : Array Value} {s s' : Sv} {i : Nat} {v : Int} (h : Enc cs s) (hi : i < 118) (he : ∀ j, j < 118 → enc s' j = if j = i then v else enc s j) : Enc (cs.setIfInBounds i (.int .i64 v)) s' := by
  refine ⟨by simp [h.1], fun j hj => ?_⟩
  rw [he j hj]
  by_cases e : j = i
  · subst e; simp [Array.getElem?_setIfInBounds, h.1, hi]
  · rw [if_neg e, Array.getElem?_setIfInBounds_ne (Ne.symm e)]; exact h.2 j hj
theorem Ar.set {W : World} {b : Nat} {cs : Array Value} (h : Ar W b cs) (i : Nat) (v : Value) : Ar (W.setCell ⟨b, i, none⟩ v) b (cs.setIfInBounds i v) := by
  refine ⟨?_, by simp [h.2]⟩
  show (W.heap.modify b _)[b]? = _
  rw [Array.getElem?_modify, if_pos rfl, h.1]
  rfl
theorem enc_ws (s : Sv) (j ad : Nat) (v : Int) (h1 : ad < s.ws.length) (h2 : s.ws.length ≤ 6) : enc { s with ws := s.ws.set ad v } j = if j = ad then v else enc s j := by
  unfold enc
  by_cases h : j < 6
  · rw [if_pos h, if_pos h, List.getElem?_set]
    by_cases e : ad = j
    · subst e; simp [h1]
    · rw [if_neg e, if_neg (Ne.symm e)]
  · rw [if_neg h, if_neg h, if_neg (by omega : ¬ j = ad)]
theorem enc_rg (s : Sv) (j t n : Nat) (r : Rg) (v : Int) (hr : s.rg[t]? = some r) (ht : t < 4) (hn : n < 4) : enc { s with rg := s.rg.set t (r.put n v) } j = if j = 6 + t * 4 + n then v else enc s j := by
  have hl := (List.getElem?_eq_some_iff.1 hr).1
  unfold enc
  by_cases h : j < 6
  · rw [if_pos h, if_pos h, if_neg (by omega)]
  · rw [if_neg h, if_neg h]
    by_cases h' : j < 22
    · rw [if_pos h', if_pos h', List.getElem?_set]
      by_cases e : t = (j - 6) / 4
      · rw [if_pos e, if_pos (by omega : t < s.rg.length), ← e, hr]
        simp only [rgC]
        rw [Rg.get_put _ _ _ _ hn]
        by_cases e2 : (j - 6) % 4 = n
        · rw [if_pos e2, if_pos (by omega)]
        · rw [if_neg e2, if_neg (by omega)]
      · rw [if_neg e, if_neg (by omega)]
    · rw [if_neg h', if_neg h', if_neg (by omega : ¬ j = 6 + t * 4 + n)]
theorem enc_pl (s : Sv) (j t : Nat) (v : Int) (hl : t < s.pl.length) (ht : t < 4) : enc { s with pl := s.pl.set t v } j = if j = 22 + t then v else enc s j := by
  unfold enc
  by_cases h : j < 22
  · rw [if_neg (by omega : ¬ j = 22 + t)]; simp only [h, if_true]
  · by_cases h' : j < 26
    · simp only [show ¬ j < 6 by omega, h, h', if_true, if_false, List.getElem?_set]
      by_cases e : t = j - 22
      · rw [if_pos e, if_pos hl, if_pos (by omega)]; rfl
      · rw [if_neg e, if_neg (by omega)]
    · simp only [show ¬ j < 6 by omega, h, h', if_false]
      rw [if_neg (by omega : ¬ j = 22 + t)]
theorem enc_bf (s : Sv) (j t : Nat) (b : List Pd) (hl : t < s.bf.length) (ht : t < 4) : enc { s with bf := s.bf.set t b } j = if j = 26 + t then (b.length : Int) else if 30 + t * 22 ≤ j ∧ j < 30 + t * 22 + 22 then bfC b (j - (30 + t * 22)) else enc s j := by
  unfold enc
  by_cases h : j < 26
  · rw [if_neg (by omega : ¬ j = 26 + t), if_neg (by omega : ¬ (30 + t * 22 ≤ j ∧ j < 30 + t * 22 + 22))]
    by_cases h6 : j < 6
    · simp only [h6, if_true]
    · by_cases h22 : j < 22
      · simp only [h6, h22, if_true, if_false]
      · simp only [h6, h22, h, if_true, if_false]
  · by_cases h' : j < 30
    · simp only [show ¬ j < 6 by omega, show ¬ j < 22 by omega, h, h', if_true, if_false, List.getElem?_set]
      by_cases e : t = j - 26
      · rw [if_pos e, if_pos (by omega : j = 26 + t), if_pos hl]; rfl
      · rw [if_neg e, if_neg (by omega : ¬ j = 26 + t), if_neg (by omega : ¬ (30 + t * 22 ≤ j ∧ j < 30 + t * 22 + 22))]
    · simp only [show ¬ j < 6 by omega, show ¬ j < 22 by omega, h, h', if_false, List.getElem?_set]
      rw [if_neg (by omega : ¬ j = 26 + t)]
      by_cases e : t = (j - 30) / 22
      · rw [if_pos e, if_pos hl, if_pos (by omega : 30 + t * 22 ≤ j ∧ j < 30 + t * 22 + 22)]
        simp only [bsC]
        congr 1
        omega
      · rw [if_neg e, if_neg (by omega : ¬ (30 + t * 22 ≤ j ∧ j < 30 + t * 22 + 22))]
/-- What the array says of its parts. -/
theorem Enc.word {cs : Array Value} {s : Sv} (h : Enc cs s) {k : Nat} {v : Int} (hk : s.ws[k]? = some v) (h6 : k < 6) : cs[k]? = some (.int .i64 v) := by
  rw [h.2 k (by omega)]; simp only [enc, h6, if_true, hk]; rfl
theorem Enc.reg {cs : Array Value} {s : Sv} (h : Enc cs s) {t n : Nat} {r : Rg} (hr : s.rg[t]? = some r) (ht : t < 4) (hn : n < 4) : cs[6 + t * 4 + n]? = some (.int .i64 (r.get n)) := by
  rw [h.2 _ (by omega)]
  simp only [enc, show ¬ 6 + t * 4 + n < 6 by omega, show 6 + t * 4 + n < 22 by omega, if_true, if_false, show (6 + t * 4 + n - 6) / 4 = t by omega, show (6 + t * 4 + n - 6) % 4 = n by omega, hr, rgC]
theorem Enc.plc {cs : Array Value} {s : Sv} (h : Enc cs s) {t : Nat} {v : Int} (hr : s.pl[t]? = some v) (ht : t < 4) : cs[22 + t]? = some (.int .i64 v) := by
  rw [h.2 _ (by omega)]
  simp only [enc, show ¬ 22 + t < 6 by omega, show ¬ 22 + t < 22 by omega, show 22 + t < 26 by omega, if_true, if_false, show 22 + t - 22 = t by omega, hr]
  rfl
theorem Enc.len {cs : Array Value} {s : Sv} (h : Enc cs s) {t : Nat} {b : List Pd} (hr : s.bf[t]? = some b) (ht : t < 4) : cs[26 + t]? = some (.int .i64 (b.length : Int)) := by
  rw [h.2 _ (by omega)]
  simp only [enc, show ¬ 26 + t < 6 by omega, show ¬ 26 + t < 22 by omega, show ¬ 26 + t < 26 by omega, show 26 + t < 30 by omega, if_true, if_false, show 26 + t - 26 = t by omega, hr, lnC]
theorem Enc.cell {cs : Array Value} {s : Sv} (h : Enc cs s) {t k : Nat} {b : List Pd} (hr : s.bf[t]? = some b) (ht : t < 4) (hk : k < 22) : cs[30 + t * 22 + k]? = some (.int .i64 (bfC b k)) := by
  rw [h.2 _ (by omega)]
  simp only [enc, show ¬ 30 + t * 22 + k < 6 by omega, show ¬ 30 + t * 22 + k < 22 by omega, show ¬ 30 + t * 22 + k < 26 by omega, show ¬ 30 + t * 22 + k < 30 by omega, if_false, show (30 + t * 22 + k - 30) / 22 = t by omega, show (30 + t * 22 + k - 30) % 22 = k by omega, hr, bsC]
theorem Enc.bfin {cs : Array Value} {s : Sv} (h : Enc cs s) {t : Nat} {b : List Pd} (hr : s.bf[t]? = some b) (ht : t < 4) (hb : b.length ≤ 11) : BfIn cs t b := by
  refine ⟨h.len hr ht, hb, fun k p hk => ?_⟩
  have hl := (List.getElem?_eq_some_iff.1 hk).1
  have e1 := h.cell (k := 2 * k) hr ht (by omega)
  have e2 := h.cell (k := 2 * k + 1) hr ht (by omega)
  rw [show bfC b (2 * k) = p.ad by unfold bfC; rw [show 2 * k / 2 = k by omega, hk]; simp] at e1
  rw [show bfC b (2 * k + 1) = p.vl by unfold bfC; rw [show (2 * k + 1) / 2 = k by omega, hk]; simp] at e2
  exact ⟨e1, e2⟩
/-- A store joins. -/
theorem bfC_join (b : List Pd) (p : Pd) (k : Nat) : bfC (b ++ [p]) k = if k = 2 * b.length then p.ad else if k = 2 * b.length + 1 then p.vl else bfC b k := by
  unfold bfC
  by_cases h : k / 2 < b.length
  · rw [List.getElem?_append_left h, if_neg (by omega), if_neg (by omega)]
  · by_cases h' : k / 2 = b.length
    · rw [List.getElem?_append_right (by omega), show k / 2 - b.length = 0 by omega]
      simp only [List.getElem?_cons_zero]
      by_cases e : k % 2 = 0
      · rw [if_pos e, if_pos (by omega)]
      · rw [if_neg e, if_neg (by omega), if_pos (by omega)]
    · rw [if_neg (by omega), if_neg (by omega), List.getElem?_eq_none (by simp; omega), List.getElem?_eq_none (by omega)]
/-- A store leaves. -/
theorem bfC_leave (b : List Pd) (n k : Nat) (hn : n < b.length) : bfC (b.eraseIdx n) k = if k < 2 * n then bfC b k else bfC b (k + 2) := by
  unfold bfC
  rw [List.getElem?_eraseIdx]
  by_cases h : k < 2 * n
  · rw [if_pos h, if_pos (by omega : k / 2 < n)]
  · rw [if_neg h, if_neg (by omega), show (k + 2) / 2 = k / 2 + 1 by omega, show (k + 2) % 2 = k % 2 by omega]
theorem bfC_none (b : List Pd) (k : Nat) (h : 2 * b.length ≤ k) : bfC b k = 0 := by
  unfold bfC
  rw [List.getElem?_eq_none (by omega)]
end Go.Proofs.YtmejblmeaipahaaDoor.Ts
/-
  TSO: the program's seen.
-/
namespace Go.Proofs.YtmejblmeaipahaaDoor.Ts
open Go.RowKit Mr
set_option linter.unusedVariables false
set_option linter.unusedSimpArgs false
set_option maxRecDepth 100000
set_option maxHeartbeats 8000000 in
theorem seen_any (b t ad : Nat) (o v : Int) (bf : List Pd) (cs : Array Value) (w : World) (h : Ar w b cs) (ht : t < 4) (had : ad < 6) (hv : cs[ad]? = some (.int .i64 v)) (hb : BfIn cs t bf) :
    Calls Tryd.prog 57 #[ptV b t o, .int .i64 (ad : Int)] w fun e w' => e = .returned (.int .i64 (seeP v bf (ad : Int))) ∧ Below w.heap.size w w' := by
  have B0 : Below w.heap.size w (w.alloc (.cells #[.pointer (some ⟨b, 0, none⟩), .int .i64 (t : Int), .int .i64 o] 88)) := (Below.refl _ _).alloc (Nat.le_refl _) _
  have hbx : (w.alloc (.cells #[.pointer (some ⟨b, 0, none⟩), .int .i64 (t : Int), .int .i64 o] 88)).heap[w.heap.size]? = some (.cells #[.pointer (some ⟨b, 0, none⟩), .int .i64 (t : Int), .int .i64 o] 88 (0, 0)) := new_at _ _ _ rfl
  have hA := h.below B0
  obtain ⟨hb1, hb2, hb3⟩ := hb
  have WT := Mr.hid (waits_any b t cs _ hA ht)
  have ST0 : ∀ (k : Nat) (p : Pd) (W : World), bf[k]? = some p → Ar W b cs → Calls Tryd.prog 42 #[.pointer (some ⟨b, 0, none⟩), .int .i64 (t : Int), .int .i64 (k : Int)] W fun e w' => e = .returned (.agg #[.int .i64 p.ad, .int .i64 p.vl]) ∧ Below W.heap.size W w' := by
    intro k p W hk hW
    have hkl : k < bf.length := (List.getElem?_eq_some_iff.1 hk).1
    have hk11 : k < 11 := Nat.lt_of_lt_of_le hkl hb2
    obtain ⟨g1, g2⟩ := hb3 k p hk
    exact store_any b t k p.ad p.vl cs W hW ht hk11 g1 g2
  have ST := Mr.hid ST0
  clear ST0
  have WD := Mr.hid (fun W (hW : Ar W b cs) => words_any b cs W hW)
  have c0 := (cell_blk hA.1 (26 + t)).trans hb1
  have la : b < (w.alloc (.cells #[.pointer (some ⟨b, 0, none⟩), .int .i64 (t : Int), .int .i64 o] 88)).heap.size := (Array.getElem?_eq_some_iff.1 hA.1).1
  obtain ⟨n, hn⟩ : ∃ n, bf.length = n := ⟨_, rfl⟩
  rw [hn] at c0 hb2
  have hw1 : IntKind.i64.wrap ((n : Int) - 1) = (n : Int) - 1 := i64x _ (by omega) (by omega)
  have lad : (ad : Int) < 6 := by omega
  unfold ptV
  obtain ⟨R, hR⟩ : ∃ R, seeP v bf (ad : Int) = R := ⟨_, rfl⟩
  rw [hR]
  replace hR := Mr.hid hR
  replace hn := Mr.hid hn
  replace hA := Mr.hid hA
  replace hbx := Mr.hid hbx
  replace B0 := Mr.hid B0
  replace hv := Mr.hid hv
  clear h hb1 hb3
  generalize 26 + t = q at c0 WT
  go_enter Tryd.func57, Tryd.ntmps57
  go_upto_region 2 with (go_at_call 41; refine WT.out.mono ?_; clear WT; rintro e w9 ⟨rfl, hw9⟩; obtain rfl := hw9.symm)
  clear c0 hw1
  generalize w.alloc (.cells #[.pointer (some ⟨b, 0, none⟩), .int .i64 (t : Int), .int .i64 o] 88) = w1 at *
  go_loopg [5] (n + 1) (fun gk s5 wr => ∃ k : Nat, s5 = .int .i64 ((k : Int) - 1) ∧ k + 1 = gk ∧ k ≤ n ∧ (∀ q ∈ bf.drop k, q.ad ≠ (ad : Int)) ∧ Below w1.heap.size w1 wr)
  case atStart => exact ⟨n, rfl, rfl, Nat.le_refl _, fun q hq => by rw [List.drop_of_length_le (by have := hn.out; omega)] at hq; simp at hq, Below.refl _ _⟩
  case round =>
    obtain ⟨k, rfl, hk, hkn, hno, hB⟩ := hrel
    have hbr := (hB.block _ (Array.getElem?_eq_some_iff.1 hbx.out).1).trans hbx.out
    have p0 := cell_blk hbr 0
    have p1 := cell_blk hbr 1
    have lp := (Array.getElem?_eq_some_iff.1 hbr).1
    have hAr := hA.out.below hB
    have BW : Hid (Below w.heap.size w wr) := B0.out.trans (hB.mono B0.out.size)
    replace hk := Mr.hid hk
    rcases k with _ | k
    · have dl : decide ((0 : Int) ≤ ((0 : Nat) : Int) - 1) = false := by decide
      have dl2 : ¬ (0 : Int) ≤ ((0 : Nat) : Int) - 1 := by omega
      have hRv : Hid (R = v) := by rw [List.drop_zero] at hno; show _ = _; rw [← hR.out]; exact seeP_none v bf _ hno
      have W1 := Mr.hid (WD.out wr hAr)
      have y0 := (cell_blk hAr.1 ad).trans hv.out
      have ly := (Array.getElem?_eq_some_iff.1 hAr.1).1
      clear hno hB hbr hAr
      go_wp2_with (go_at_call 35; refine W1.out.mono ?_; clear W1; rintro e w9 ⟨rfl, hw9⟩; obtain rfl := hw9.symm)
      go_ret
      exact ⟨by rw [hRv.out]; rfl, BW.out⟩
    · have e1 : (((k + 1 : Nat) : Int) - 1) = (k : Int) := by omega
      rw [e1]
      obtain ⟨y, hy⟩ : ∃ y, bf[k]? = some y := ⟨_, List.getElem?_eq_getElem (by have := hn.out; omega)⟩
      have S1 := Mr.hid (ST.out k y wr hy hAr)
      have dl : decide ((0 : Int) ≤ (k : Int)) = true := decide_eq_true (by omega)
      have dl2 : (0 : Int) ≤ (k : Int) := by omega
      have hwk : IntKind.i64.wrap ((k : Int) - 1) = (k : Int) - 1 := i64x _ (by omega) (by omega)
      have hB' := Mr.hid hB
      have hhit : Hid (y.ad = (ad : Int) → R = y.vl) := fun e => by rw [← hR.out]; exact seeP_last v bf _ k y hy e hno
      have hgo : Hid (y.ad ≠ (ad : Int) → ∀ q ∈ bf.drop k, q.ad ≠ (ad : Int)) := fun e q hq => by
        rw [List.drop_eq_getElem_cons (by have := hn.out; omega)] at hq
        rcases List.mem_cons.1 hq with rfl | hq
        · have := List.getElem?_eq_getElem (l := bf) (i := k) (by have := hn.out; omega)
          rw [hy] at this
          cases this
          exact e
        · exact hno q hq
      obtain ⟨pa, pv⟩ := y
      dsimp only at S1
      clear hno hB hbr hAr hy e1
      by_cases he : pa = (ad : Int)
      · have q1 : (pa == (ad : Int)) = true := by rw [he]; simp
        have hRv : Hid (R = pv) := hhit.out he
        replace he := Mr.hid he
        clear hhit hgo
        go_wp2_with (go_at_call 42; refine S1.out.mono ?_; clear S1; rintro e w9 ⟨rfl, B9⟩; have hB9 : Hid (Below w.heap.size w w9) := BW.out.trans (B9.mono BW.out.size); clear B9)
        go_ret
        exact ⟨by rw [hRv.out]; rfl, hB9.out.alloc hB9.out.size _⟩
      · have q1 : (pa == (ad : Int)) = false := beq_eq_false_iff_ne.2 he
        have hn2 := hgo.out he
        replace hn2 := Mr.hid hn2
        replace he := Mr.hid he
        clear hhit hgo
        go_wp2_with (go_at_call 42; refine S1.out.mono ?_; clear S1; rintro e w9 ⟨rfl, B9⟩; have hB9 : Hid (Below w1.heap.size w1 w9) := hB'.out.trans (B9.mono hB'.out.size); clear B9)
        go_roundg (gk - 1)
        case measure => have := hk.out; omega
        case rel => exact ⟨k, by simp, by have := hk.out; omega, by omega, hn2.out, hB9.out.alloc hB9.out.size _⟩
end Go.Proofs.YtmejblmeaipahaaDoor.Ts
