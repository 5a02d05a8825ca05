import Derived.Test.YtmejblmeaipahaaDoorJ24
import Derived.Test.YtmejblmeaipahaaDoorJ18
import Derived.Test.YtmejblmeaipahaaDoorJ11
/-
  TSO: the document's Begin.
-/
namespace Go.Proofs.YtmejblmeaipahaaDoor.Ts
open Go.RowKit Mr
set_option linter.unusedVariables false
set_option linter.unusedSimpArgs false
set_option maxRecDepth 100000
/-- What Begin hands out. -/
structure Bg (w w' : World) (l : Lt) (nw nt g1 g2 g3 g4 c1 : Nat) : Prop where
  h1 : ∃ A : Array Value, w'.heap[g1]? = some (.cells A 3 (0, 0)) ∧ ∀ (j : Nat) (x : Int), l.ws[j]? = some x → A[j]? = some (.int .i64 x)
  h2 : w'.heap[g2]? = some (.cells (mkR nt) 67 (0, 0))
  h3 : w'.heap[g3]? = some (.cells (mkI nt) 3 (0, 0))
  h4 : w'.heap[g4]? = some (.cells (mkB nt) 68 (0, 0))
  le : w.heap.size ≤ g1 ∧ w.heap.size ≤ g2 ∧ w.heap.size ≤ g3 ∧ w.heap.size ≤ g4
  ne : g1 ≠ g2 ∧ g1 ≠ g3 ∧ g1 ≠ g4 ∧ g2 ≠ g3 ∧ g2 ≠ g4 ∧ g3 ≠ g4
  B : Below w.heap.size w w'
theorem dh {X : World} {k : Nat} {y : Option Obj} (h : X.heap[k]? = y) : X.drew.heap[k]? = y := h
set_option maxHeartbeats 16000000 in
theorem rBegin_any (l : Lt) (aw ah : Option Addr) (nw cw nt ct : Nat) (w : World) (hI : IsAt w aw nw l.ws) (h6 : nw ≤ 6) (h1 : 1 ≤ nw) (h4 : nt ≤ 4) : Calls Tryd.prog 15 #[.agg #[.slice aw nw cw, .slice ah nt ct]] w fun e w' => ∃ g1 g2 g3 g4 c1, e = .returned (.agg #[.slice (some ⟨g1, 0, none⟩) nw c1, .slice (some ⟨g2, 0, none⟩) nt nt, .slice (some ⟨g3, 0, none⟩) nt nt, .slice (some ⟨g4, 0, none⟩) nt nt]) ∧ Bg w w' l nw nt g1 g2 g3 g4 c1 := by
  have B0 : Below w.heap.size w ((w.alloc (.cells #[.slice aw nw cw, .slice ah nt ct] 25)).alloc (.cells #[.slice none 0 0, .slice none 0 0, .slice none 0 0, .slice none 0 0] 32)) := ((Below.refl _ _).alloc (Nat.le_refl _) _).alloc (by simp) _
  have b0 : ((w.alloc (.cells #[.slice aw nw cw, .slice ah nt ct] 25)).alloc (.cells #[.slice none 0 0, .slice none 0 0, .slice none 0 0, .slice none 0 0] 32)).heap[w.heap.size]? = some (.cells #[.slice aw nw cw, .slice ah nt ct] 25 (0, 0)) := (Lib.alloc_old _ _ _ (by simp)).trans (new_at _ _ _ rfl)
  have b1 : ((w.alloc (.cells #[.slice aw nw cw, .slice ah nt ct] 25)).alloc (.cells #[.slice none 0 0, .slice none 0 0, .slice none 0 0, .slice none 0 0] 32)).heap[w.heap.size + 1]? = some (.cells #[.slice none 0 0, .slice none 0 0, .slice none 0 0, .slice none 0 0] 32 (0, 0)) := new_at _ _ _ (by simp)
  have hI1 := hI.below B0
  have hl := hI.1
  have c0 := cell_blk b0 0
  have c1 := cell_blk b0 1
  have hmi := fun W => make_i W nt (by omega)
  have hmr := fun W => make_r W nt (by omega)
  have hmb := fun W => make_b W nt (by omega)
  obtain ⟨ii, hii, hi0, hi1, hi2⟩ := info_i
  obtain ⟨g, q, rfl, hg, hc⟩ := hI1.2.resolve_left (by intro e; rw [e] at hl; simp at hl; omega)
  have hap : Hid (∀ (W : World) (o : Oper) (a : Act) (K : Act → World → Prop) (Q : Exit → Act → World → Prop), True) := fun _ _ _ _ _ => trivial
  have hcc := Mr.hid hc
  have s1 : ((w.alloc (.cells #[.slice (some ⟨g, q, none⟩) nw cw, .slice ah nt ct] 25)).alloc (.cells #[.slice none 0 0, .slice none 0 0, .slice none 0 0, .slice none 0 0] 32)).heap.size = w.heap.size + 2 := by simp
  replace s1 := Mr.hid s1
  replace B0 := Mr.hid B0
  replace hl := Mr.hid hl
  have b1' := Mr.hid b1
  clear hI hI1 b0 hg hc b1 hap
  go_enter Tryd.func15, Tryd.ntmps15
  go_upto_region 3 with fail
  generalize ((w.alloc (.cells #[.slice (some ⟨g, q, none⟩) nw cw, .slice ah nt ct] 25)).alloc (.cells #[.slice none 0 0, .slice none 0 0, .slice none 0 0, .slice none 0 0] 32)) = w1 at *
  go_upto_region 4 with (at_builtin; refine wpList_append_has _ rfl _ _ 22 rfl (fun k => w1.heap.size ≤ k) 3 ii _ 1 8 Tryd.underlying22 hii hi0 hi1 hi2 rfl (.slice none 0 0) 0 [] rfl (Has.nil _ _ _ _) ⟨g, q, none⟩ nw cw (intsV l.ws) rfl (by simp [intsV]; have := hl.out; omega) (by
    intro j u hj
    rw [add1]
    simp only [intsV, List.getElem?_map] at hj
    cases hx : l.ws[j]? with
    | none => rw [hx] at hj; cases hj
    | some y => rw [hx] at hj; cases hj; exact hcc.out j y hx) (intsV_one _) (by omega) (by unfold maxLen; omega) (by omega) (Nat.le_refl _) ?_; intro g1 cap1 w2 hh2 hgr2 hgg2)
  have G1 : g1 = w1.heap.size := by rcases hgg2 with e | e; simp [Value.ownBlock] at e; exact e
  have B2 : Below w1.heap.size w1 w2 := (Below.refl _ _).grown hgr2 (Nat.le_refl _) (fun k e => by simp [Value.ownBlock] at e)
  have A1 : ∃ A : Array Value, w2.heap[g1]? = some (.cells A 3 (0, 0)) ∧ ∀ (j : Nat) (x : Int), l.ws[j]? = some x → A[j]? = some (.int .i64 x) := by
    rcases hh2.2 with ⟨e, _⟩ | ⟨g9, c9, cur, e, _, hg9, _, _, _, ht⟩
    · cases e
    · cases e
      refine ⟨cur, hg9, fun j x hx => ?_⟩
      have h9 : (cur.toList.take ((0 + nw) * 1))[j]? = some (.int .i64 x) := by rw [ht]; simp [intsV, hx]
      rw [List.getElem?_take] at h9
      split at h9
      · simpa using h9
      · cases h9
  have l1 : g1 < w2.heap.size := by obtain ⟨A, a, -⟩ := A1; exact (Array.getElem?_eq_some_iff.1 a).1
  have r1 := (B2.block _ (Array.getElem?_eq_some_iff.1 b1'.out).1).trans b1'.out
  have x0 := cell_blk r1 0
  have x1 := cell_blk r1 1
  have x2 := cell_blk r1 2
  have x3 := cell_blk r1 3
  have lr := (Array.getElem?_eq_some_iff.1 r1).1
  have fr : ∀ k, w2.frozen? ⟨w.heap.size + 1, k, none⟩ = false := fun k => by unfold World.frozen?; rw [r1]; rfl
  have s1' := s1.out
  have BW : Hid (Below w.heap.size w w2) := B0.out.trans (B2.mono B0.out.size)
  replace A1 := Mr.hid A1
  replace G1 := Mr.hid G1
  have lr1 : w.heap.size + 1 < w2.heap.size + 1 := by omega
  have lr2 : w.heap.size + 1 < w2.heap.size + 1 + 1 := by omega
  have nr0 : ¬ w.heap.size + 1 = w2.heap.size := by omega
  replace s1' := Mr.hid s1'
  try simp only [Nat.zero_add]
  clear hh2 hgr2 hgg2 B2 r1 c0 c1
  go_region_held3 (fun W => True) (trivial) (fail)
  all_goals
    go_wp2
    first
      | (refine bodyPost_ret (v := .agg #[.slice (some ⟨g1, 0, none⟩) nw cap1, .slice (some ⟨w2.heap.size, 0, none⟩) nt nt, .slice (some ⟨w2.heap.size + 1, 0, none⟩) nt nt, .slice (some ⟨w2.heap.size + 1 + 1, 0, none⟩) nt nt]) ?rr rfl ⟨g1, w2.heap.size, w2.heap.size + 1, w2.heap.size + 1 + 1, cap1, rfl, ?_⟩; case rr => (simp [results, Tryd.results15, go_sem, *]; done))
      | (refine bodyPost_ret (v := .agg #[.slice (some ⟨g1, 0, none⟩) nw cap1, .slice (some ⟨w2.heap.size, 0, none⟩) nt nt, .slice (some ⟨w2.heap.size + 1 + 1, 0, none⟩) nt nt, .slice (some ⟨w2.heap.size + 1, 0, none⟩) nt nt]) ?rr rfl ⟨g1, w2.heap.size, w2.heap.size + 1 + 1, w2.heap.size + 1, cap1, rfl, ?_⟩; case rr => (simp [results, Tryd.results15, go_sem, *]; done))
      | (refine bodyPost_ret (v := .agg #[.slice (some ⟨g1, 0, none⟩) nw cap1, .slice (some ⟨w2.heap.size + 1, 0, none⟩) nt nt, .slice (some ⟨w2.heap.size, 0, none⟩) nt nt, .slice (some ⟨w2.heap.size + 1 + 1, 0, none⟩) nt nt]) ?rr rfl ⟨g1, w2.heap.size + 1, w2.heap.size, w2.heap.size + 1 + 1, cap1, rfl, ?_⟩; case rr => (simp [results, Tryd.results15, go_sem, *]; done))
      | (refine bodyPost_ret (v := .agg #[.slice (some ⟨g1, 0, none⟩) nw cap1, .slice (some ⟨w2.heap.size + 1, 0, none⟩) nt nt, .slice (some ⟨w2.heap.size + 1 + 1, 0, none⟩) nt nt, .slice (some ⟨w2.heap.size, 0, none⟩) nt nt]) ?rr rfl ⟨g1, w2.heap.size + 1, w2.heap.size + 1 + 1, w2.heap.size, cap1, rfl, ?_⟩; case rr => (simp [results, Tryd.results15, go_sem, *]; done))
      | (refine bodyPost_ret (v := .agg #[.slice (some ⟨g1, 0, none⟩) nw cap1, .slice (some ⟨w2.heap.size + 1 + 1, 0, none⟩) nt nt, .slice (some ⟨w2.heap.size, 0, none⟩) nt nt, .slice (some ⟨w2.heap.size + 1, 0, none⟩) nt nt]) ?rr rfl ⟨g1, w2.heap.size + 1 + 1, w2.heap.size, w2.heap.size + 1, cap1, rfl, ?_⟩; case rr => (simp [results, Tryd.results15, go_sem, *]; done))
      | (refine bodyPost_ret (v := .agg #[.slice (some ⟨g1, 0, none⟩) nw cap1, .slice (some ⟨w2.heap.size + 1 + 1, 0, none⟩) nt nt, .slice (some ⟨w2.heap.size + 1, 0, none⟩) nt nt, .slice (some ⟨w2.heap.size, 0, none⟩) nt nt]) ?rr rfl ⟨g1, w2.heap.size + 1 + 1, w2.heap.size + 1, w2.heap.size, cap1, rfl, ?_⟩; case rr => (simp [results, Tryd.results15, go_sem, *]; done))
    have e1 := G1.out
    have e2 := s1'.out
    have e3 := l1
    refine ⟨?_, ?_, ?_, ?_, by omega, by omega, ?_⟩
    · obtain ⟨A, a, p⟩ := A1.out
      have hk : g1 ≠ w.heap.size + 1 := by omega
      refine ⟨A, dh ?_, p⟩
      exact (Lib.alloc_old _ _ _ (by simp; omega)).trans ((Lib.alloc_old _ _ _ (by simp; omega)).trans ((Lib.alloc_old _ _ _ (by simp; omega)).trans ((Below.heap_setCell _ _ _ _ hk).trans ((Below.heap_setCell _ _ _ _ hk).trans ((Below.heap_setCell _ _ _ _ hk).trans ((Below.heap_setCell _ _ _ _ hk).trans a))))))
    · refine dh ?_; first | exact new_at _ _ _ (by simp) | exact (Lib.alloc_old _ _ _ (by simp)).trans (new_at _ _ _ (by simp)) | exact (Lib.alloc_old _ _ _ (by simp; omega)).trans ((Lib.alloc_old _ _ _ (by simp)).trans (new_at _ _ _ (by simp)))
    · refine dh ?_; first | exact new_at _ _ _ (by simp) | exact (Lib.alloc_old _ _ _ (by simp)).trans (new_at _ _ _ (by simp)) | exact (Lib.alloc_old _ _ _ (by simp; omega)).trans ((Lib.alloc_old _ _ _ (by simp)).trans (new_at _ _ _ (by simp)))
    · refine dh ?_; first | exact new_at _ _ _ (by simp) | exact (Lib.alloc_old _ _ _ (by simp)).trans (new_at _ _ _ (by simp)) | exact (Lib.alloc_old _ _ _ (by simp; omega)).trans ((Lib.alloc_old _ _ _ (by simp)).trans (new_at _ _ _ (by simp)))
    · have hq : w.heap.size ≤ w.heap.size + 1 := by omega
      have hz := BW.out.size
      exact ((((((((BW.out.setCell (p := ⟨w.heap.size + 1, 0, none⟩) hq _).setCell (p := ⟨w.heap.size + 1, 1, none⟩) hq _).setCell (p := ⟨w.heap.size + 1, 2, none⟩) hq _).setCell (p := ⟨w.heap.size + 1, 3, none⟩) hq _).alloc (by simp; omega) _).alloc (by simp; omega) _).alloc (by simp; omega) _).drew)
end Go.Proofs.YtmejblmeaipahaaDoor.Ts
/-
  TSO: what the program's read comes to.
-/
namespace Go.Proofs.YtmejblmeaipahaaDoor.Ts
open Go.RowKit Mr
set_option linter.unusedVariables false
set_option linter.unusedSimpArgs false
set_option maxRecDepth 100000
theorem mid_set {α : Type} (xs : List α) (d x : α) (n i : Nat) (hx : xs[i]? = some x) (hn : i < n) : (xs.take i ++ List.replicate (n - i) d).set i x = xs.take (i + 1) ++ List.replicate (n - (i + 1)) d := by
  have hl := (List.getElem?_eq_some_iff.1 hx).1
  have e : (xs.take i).length = i := by simp; omega
  rw [show n - i = (n - (i + 1)) + 1 by omega, List.replicate_succ, List.set_append, if_neg (by omega), e, Nat.sub_self, List.set_cons_zero, take_succ_of hx, List.append_assoc]
  rfl
theorem mid_get {α : Type} (xs : List α) (d : α) (n i : Nat) (hl : i ≤ xs.length) (hn : i < n) : (xs.take i ++ List.replicate (n - i) d)[i]? = some d := by
  have e : (xs.take i).length = i := by simp; omega
  rw [List.getElem?_append_right (by omega), e, Nat.sub_self, List.getElem?_replicate, if_pos (by omega)]
/-- A state whose first i threads have been read. -/
def rdS (s : Sv) (nt i : Nat) : Sv := ⟨s.ws, s.rg.take i ++ List.replicate (nt - i) noRg, s.pl.take i ++ List.replicate (nt - i) 0, s.bf.take i ++ List.replicate (nt - i) []⟩
theorem rdS_zero (s : Sv) (nt : Nat) : rdS s nt 0 = begS ⟨s.ws, List.replicate nt []⟩ := by simp [rdS, begS]
theorem rdS_all (s : Sv) (nt : Nat) (h1 : s.rg.length = nt) (h2 : s.pl.length = nt) (h3 : s.bf.length = nt) : rdS s nt nt = s := by
  obtain ⟨a, b, c, d⟩ := s
  dsimp only at h1 h2 h3
  simp only [rdS, Nat.sub_self, List.replicate_zero, List.append_nil]
  rw [List.take_of_length_le (by omega), List.take_of_length_le (by omega), List.take_of_length_le (by omega)]
theorem rdS_next (s : Sv) (nt i : Nat) (r : Rg) (p : Int) (b : List Pd) (h1 : s.rg[i]? = some r) (h2 : s.pl[i]? = some p) (h3 : s.bf[i]? = some b) (hi : i < nt) :
    (⟨(rdS s nt i).ws, (rdS s nt i).rg.set i r, (rdS s nt i).pl.set i p, (rdS s nt i).bf.set i b⟩ : Sv) = rdS s nt (i + 1) := by
  unfold rdS
  dsimp only
  rw [mid_set _ _ _ _ _ h1 hi, mid_set _ _ _ _ _ h2 hi, mid_set _ _ _ _ _ h3 hi]
theorem enc_rga (s : Sv) (j t : Nat) (r : Rg) (hl : t < s.rg.length) (ht : t < 4) : enc { s with rg := s.rg.set t r } j = if 6 + t * 4 ≤ j ∧ j < 6 + t * 4 + 4 then r.get (j - (6 + t * 4)) else enc s j := by
  unfold enc
  by_cases h : j < 6
  · rw [if_pos h, if_pos h, if_neg (by omega)]
  · rw [if_neg h, if_neg h]
    by_cases h' : j < 22
    · rw [if_pos h', if_pos h', List.getElem?_set]
      by_cases e : t = (j - 6) / 4
      · rw [if_pos e, if_pos hl, if_pos (by omega)]
        simp only [rgC]
        congr 1
        omega
      · rw [if_neg e, if_neg (by omega)]
    · rw [if_neg h', if_neg h', if_neg (show ¬ (6 + t * 4 ≤ j ∧ j < 6 + t * 4 + 4) by omega)]
def rgL (r : Rg) : List Value := [.int .i64 r.r0, .int .i64 r.r1, .int .i64 r.r2, .int .i64 r.r3]
theorem rgL_get (r : Rg) (k : Nat) (h : k < 4) : (rgL r)[k]? = some (.int .i64 (r.get k)) := by
  match k, h with
  | 0, _ => rfl
  | 1, _ => rfl
  | 2, _ => rfl
  | 3, _ => rfl
/-- The array behind a copy of a thread's registers. -/
def rgA (cs : Array Value) (q : Nat) (r : Rg) : Array Value := (cs.toList.take q ++ rgL r ++ cs.toList.drop (q + (rgL r).length)).toArray
theorem Enc.regs {cs : Array Value} {s : Sv} {t : Nat} (r : Rg) (h : Enc cs s) (hl : t < s.rg.length) (ht : t < 4) : Enc (rgA cs (6 + t * 4) r) { s with rg := s.rg.set t r } := by
  have hsz := h.1
  have e4 : (rgL r).length = 4 := rfl
  have e1 : min (6 + t * 4) cs.toList.length = 6 + t * 4 := by simp; omega
  refine ⟨by simp [rgA, e4]; omega, fun j hj => ?_⟩
  rw [enc_rga s j t r hl ht]
  unfold rgA
  rw [List.getElem?_toArray]
  by_cases h1 : j < 6 + t * 4
  · rw [if_neg (by omega), List.append_assoc, List.getElem?_append_left (by rw [List.length_take, e1]; exact h1), List.getElem?_take, if_pos h1]
    simpa using h.2 j hj
  · by_cases h2 : j < 6 + t * 4 + 4
    · rw [if_pos ⟨by omega, h2⟩, List.append_assoc, List.getElem?_append_right (by rw [List.length_take, e1]; omega), List.length_take, e1, List.getElem?_append_left (by rw [e4]; omega)]
      exact rgL_get r _ (by omega)
    · rw [if_neg (by omega), List.getElem?_append_right (by rw [List.length_append, e4, List.length_take, e1]; omega), List.length_append, e4, List.length_take, e1, List.getElem?_drop]
      rw [show 6 + t * 4 + 4 + (j - (6 + t * 4 + 4)) = j by omega]
      simpa using h.2 j hj
theorem Enc.one {cs : Array Value} {s : Sv} (h : Enc cs s) : cs.all (·.oneCell') = true := by
  rw [Array.all_eq_true_iff_forall_mem]
  intro v hv
  obtain ⟨j, hj, e⟩ := Array.mem_iff_getElem.1 hv
  have h2 := h.2 j (by rw [← h.1]; exact hj)
  rw [Array.getElem?_eq_getElem hj, e] at h2
  cases h2
  rfl
/-- A state whose first i threads have been read, and the next one but for some stores. -/
def rdI (s : Sv) (nt i : Nat) (r : Rg) (pc : Int) (b : List Pd) : Sv := ⟨(rdS s nt i).ws, (rdS s nt i).rg.set i r, (rdS s nt i).pl.set i pc, (rdS s nt i).bf.set i b⟩
theorem rdI_zero (s : Sv) (nt i : Nat) (r : Rg) (pc : Int) (b : List Pd) (hl : i ≤ s.bf.length) (hi : i < nt) : rdI s nt i r pc (b.take 0) = ⟨(rdS s nt i).ws, (rdS s nt i).rg.set i r, (rdS s nt i).pl.set i pc, (rdS s nt i).bf⟩ := by
  unfold rdI
  rw [List.take_zero]
  have h := mid_get s.bf [] nt i hl hi
  have e : (rdS s nt i).bf.set i [] = (rdS s nt i).bf := by
    apply List.ext_getElem?
    intro j
    rw [List.getElem?_set]
    by_cases e : i = j
    · subst e
      have h' : i < (rdS s nt i).bf.length := (List.getElem?_eq_some_iff.1 h).1
      rw [if_pos rfl, if_pos h']; exact h.symm
    · rw [if_neg e]
  rw [e]
theorem rdI_get (s : Sv) (nt i : Nat) (r : Rg) (pc : Int) (b : List Pd) (hl : i ≤ s.bf.length) (hi : i < nt) : (rdI s nt i r pc b).bf[i]? = some b := by
  have h := (List.getElem?_eq_some_iff.1 (mid_get s.bf [] nt i hl hi)).1
  have h' : i < (rdS s nt i).bf.length := h
  unfold rdI
  dsimp only
  rw [List.getElem?_set, if_pos rfl, if_pos h']
theorem rdI_set (s : Sv) (nt i : Nat) (r : Rg) (pc : Int) (b c : List Pd) : ({ rdI s nt i r pc b with bf := (rdI s nt i r pc b).bf.set i c } : Sv) = rdI s nt i r pc c := by
  simp only [rdI, List.set_set]
/-- What read has come to. -/
structure Rdv (w wr : World) (s' : Sv) (vs zs : Array Value) : Prop where
  p : wr.heap[w.heap.size]? = some (.cells vs 32 (0, 0))
  z : wr.heap[w.heap.size + 1]? = some (.cells zs 62 (0, 0))
  a : ∃ cs, Ar wr (w.heap.size + 2) cs ∧ Enc cs s'
  B : Below w.heap.size w wr
theorem Rdv.below {w wr W : World} {s' : Sv} {vs zs : Array Value} (h : Rdv w wr s' vs zs) (hB : Below wr.heap.size wr W) : Rdv w W s' vs zs := by
  obtain ⟨cs, h1, h2⟩ := h.a
  exact ⟨(hB.block _ (Array.getElem?_eq_some_iff.1 h.p).1).trans h.p, (hB.block _ (Array.getElem?_eq_some_iff.1 h.z).1).trans h.z, ⟨cs, h1.below hB, h2⟩, h.B.trans (hB.mono h.B.size)⟩
theorem Rdv.fr {w wr W : World} {s' s'' : Sv} {vs zs : Array Value} (h : Rdv w wr s' vs zs) (hF : Fr wr W (fun k => k = w.heap.size + 2)) (hA : ∃ cs, Ar W (w.heap.size + 2) cs ∧ Enc cs s'') : Rdv w W s'' vs zs :=
  ⟨(hF.block _ (Array.getElem?_eq_some_iff.1 h.p).1 (by omega)).trans h.p, (hF.block _ (Array.getElem?_eq_some_iff.1 h.z).1 (by omega)).trans h.z, hA, h.B.trans (hF.below (fun k hk => by omega) h.B.size)⟩
end Go.Proofs.YtmejblmeaipahaaDoor.Ts
