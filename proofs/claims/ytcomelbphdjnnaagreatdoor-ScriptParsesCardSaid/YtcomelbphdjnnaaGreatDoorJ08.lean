import Derived.Test.YtcomelbphdjnnaaGreatDoorJ04
import Derived.Test.YtcomelbphdjnnaaGreatDoorJ07
import Derived.Laws.CopyRow
import Derived.Laws.CopyOwn
/-
  SCRIPT: rows of moves; round.
-/
namespace Go.Proofs.YtcomelbphdjnnaaGreatDoor.Sc
open Go.RowKit Mr
set_option linter.unusedVariables false
set_option linter.unusedSimpArgs false
set_option maxRecDepth 100000
def Mv.cells (m : Mv) : List Value := [.int .i64 m.th, .int .i64 m.op, .int .i64 m.arg, .int .i64 m.data]
def mvc (ms : List Mv) : List Value := ms.flatMap Mv.cells
theorem mvc_nil : mvc [] = [] := rfl
theorem mvc_cons (m : Mv) (l : List Mv) : mvc (m :: l) = m.cells ++ mvc l := by simp [mvc]
theorem mvc_append (l k : List Mv) : mvc (l ++ k) = mvc l ++ mvc k := by simp [mvc]
theorem mvc_length (ms : List Mv) : (mvc ms).length = ms.length * 4 := by
  induction ms with
  | nil => rfl
  | cons m l ih => rw [mvc_cons, List.length_append, ih]; simp [Mv.cells]; omega
theorem mvc_one (ms : List Mv) : ∀ u ∈ mvc ms, u.oneCell' = true := by
  intro u hu
  simp only [mvc, List.mem_flatMap] at hu
  obtain ⟨m, _, hm⟩ := hu
  simp only [Mv.cells, List.mem_cons, List.not_mem_nil, or_false] at hm
  rcases hm with rfl | rfl | rfl | rfl <;> rfl
theorem info_m : ∃ i, Tryz.prog.info? 42 = some i ∧ i.zero = some (.agg #[.int .i64 0, .int .i64 0, .int .i64 0, .int .i64 0]) ∧ i.size = 4 ∧ i.bytes = 32 := by
  have h : (Tryz.prog.info? 42).map (fun i => (i.zero, i.size, i.bytes)) = some (some (.agg #[.int .i64 0, .int .i64 0, .int .i64 0, .int .i64 0]), 4, 32) := by kernel_rfl
  cases hi : Tryz.prog.info? 42 with
  | none => rw [hi] at h; cases h
  | some i => rw [hi] at h; simp at h; exact ⟨i, rfl, h.1, h.2.1, h.2.2⟩
theorem mvc_get : ∀ (ms : List Mv) (j r : Nat) (m : Mv), ms[j]? = some m → r < 4 → (mvc ms)[j * 4 + r]? = m.cells[r]?
  | [], j, r, m, h, _ => by simp at h
  | x :: l, 0, r, m, h, hr => by
    simp at h; subst h
    rw [mvc_cons, List.getElem?_append_left (by simp [Mv.cells]; omega)]
    simp
  | x :: l, j + 1, r, m, h, hr => by
    rw [mvc_cons, List.getElem?_append_right (by simp [Mv.cells]; omega)]
    have e : (j + 1) * 4 + r - (Mv.cells x).length = j * 4 + r := by simp [Mv.cells]; omega
    rw [e]
    exact mvc_get l j r m (by simpa using h) hr
theorem MvAt.of {W : World} {S : Nat → Prop} {a : Option Addr} {n cap : Nat} {ms : List Mv} (h : Has W S 42 4 (.slice a n cap) n (mvc ms)) : MvAt W a n ms := by
  have hl := h.1
  rw [mvc_length] at hl
  refine ⟨by omega, ?_⟩
  by_cases h0 : ms = []
  · exact .inl h0
  · have hp : 0 < ms.length := List.length_pos_iff.2 h0
    obtain ⟨g, cap', hg, _, hgl, _⟩ := h.there (by omega)
    cases hg
    refine .inr ⟨g, 0, rfl, hgl, fun j hj => ?_⟩
    have e : ms[j]?.getD noMv = ms[j] := by simp [hj]
    have hce : ∀ t (_ : t < 4) u, (ms[j]).cells[t]? = some u → W.cell? ⟨g, j * 4 + t, none⟩ = some u := fun t ht u hu => h.cells (g := g) rfl (j * 4 + t) u ((mvc_get ms j t _ (List.getElem?_eq_getElem hj) ht).trans hu)
    rw [e, Nat.zero_add]
    exact ⟨hce 0 (by decide) _ rfl, hce 1 (by decide) _ rfl, hce 2 (by decide) _ rfl, hce 3 (by decide) _ rfl⟩
/-- Cells that a slice has just been laid with. -/
theorem newsM (w : World) (m : Mv) (t : TypeId) {g : Nat} (hg : g = w.heap.size) {vs : Array Value} (hv : vs = m.cells.toArray) : ∀ j v, m.cells[j]? = some v → (w.alloc (.cells vs t)).cell? ((⟨g, 0, none⟩ : Addr).add j) = some v := by
  intro j v hj
  subst hg
  subst hv
  rw [add1, Nat.zero_add, cell_blk (new_at _ _ _ rfl)]
  simpa using hj
theorem rnds_succ (i : Nat) : rnds (i + 1) = rnds i ++ [stp (i : Int)] := by simp [rnds, List.range_succ]
theorem rnds_len (i : Nat) : (rnds i).length = i := by simp [rnds]
set_option maxHeartbeats 8000000 in
theorem round_any (R : Nat) (T : Nat) (w : World) (hT : T ≤ 1000) (h0 : w.cell? ⟨R, 0, none⟩ = some (.int .i64 (T : Int))) (hR : R < w.heap.size) :
    Calls Tryz.prog 84 #[.pointer (some ⟨R, 0, none⟩)] w fun e w' => ∃ v, e = .returned v ∧ Has w' (fun k => w.heap.size ≤ k) 42 4 v T (mvc (rnds T)) ∧ Below w.heap.size w w' := by
  obtain ⟨ii, hii, hz0, hz1, hz2⟩ := info_m
  have So : Hid (∀ (t : Int) w, Calls Tryz.prog 60 #[.int .i64 t] w fun e w' => e = .returned (.agg #[.int .i64 t, .int .i64 0, .int .i64 0, .int .i64 0]) ∧ Below w.heap.size w w') := fun t w => stepOf_any t w
  go_enter Tryz.func84, Tryz.ntmps84
  go_upto_region 3 with fail
  go_loopg [3, 10] T (fun gk s3 s10 wr => ∃ (i : Nat) (v : Value), s3 = v ∧ s10 = .int .i64 (i : Int) ∧ i + gk = T ∧ Has wr (fun k => w.heap.size ≤ k) 42 4 v i (mvc (rnds i)) ∧ Below w.heap.size w wr)
  case atStart => exact ⟨0, _, rfl, rfl, by omega, Has.nil _ _ _ _, Below.refl _ _⟩
  case round =>
    obtain ⟨i, v, rfl, rfl, hi, hh, hB⟩ := hrel
    obtain ⟨av, cv, rfl, hcv⟩ := hh.form
    by_cases hlt : i < T
    · have hlI : (i : Int) < (T : Int) := by omega
      have dl : decide ((i : Int) < (T : Int)) = true := by simpa using hlI
      have hw : IntKind.i64.wrap ((i : Int) + 1) = (i : Int) + 1 := i64x _ (by omega) (by omega)
      have hi' := Mr.hid hi
      replace hh := Mr.hid hh
      replace hB := Mr.hid hB
      clear hi
      go_upto_region 5 with fail
      go_upto_region 6 with (first | (go_at_call 60; refine (So.out _ _).mono ?_; rintro e w2 ⟨rfl, B2⟩; have hh2 := Mr.hid (hh.out.below B2); have hB2 : Hid (Below w.heap.size w w2) := hB.out.trans (B2.mono hB.out.size); clear B2) | (at_builtin; refine wpList_append_has _ rfl _ _ 24 rfl (fun k => w.heap.size ≤ k) 42 ii _ 4 32 Tryz.underlying24 hii hz0 hz1 hz2 rfl _ _ _ rfl (hh2.out.alloc _) ⟨w2.heap.size, 0, none⟩ 1 1 (stp (i : Int)).cells rfl rfl (newsM _ _ _ rfl rfl) (by intro u hu; exact mvc_one [stp (i : Int)] u (by simpa [mvc] using hu)) (by decide) (by unfold maxLen; omega) (by omega) (by simp; have := hB2.out.size; omega) ?_; intro g2 cap2 w3 hh3 hgr hgg))
      have hB3 : Hid (Below w.heap.size w w3) := (hB2.out.alloc hB2.out.size _).grown hgr (by have := hB2.out.size; simp; omega) (fun k hk => (hh2.out.lt k hk).1)
      have hh4 : Hid (Has w3 (fun k => w.heap.size ≤ k) 42 4 (.slice (some ⟨g2, 0, none⟩) (i + 1) cap2) (i + 1) (mvc (rnds (i + 1)))) := by
        show Has _ _ _ _ _ _ _
        rw [rnds_succ, mvc_append]
        have e : mvc [stp (i : Int)] = (stp (i : Int)).cells := by simp [mvc]
        rw [e]
        exact hh3
      clear hh3 hgr hgg hh hB hh2 hB2
      go_wp2
      go_roundg (gk - 1)
      case measure => have := hi'.out; omega
      case rel => exact ⟨i + 1, _, rfl, by simp, by have := hi'.out; omega, hh4.out, hB3.out⟩
    · obtain rfl : i = T := by omega
      have dl : decide ((i : Int) < (i : Int)) = false := by simp
      replace hh := Mr.hid hh
      replace hB := Mr.hid hB
      clear hi hlt
      go_wp2
      go_ret
      exact ⟨_, rfl, hh.out, hB.out⟩
end Go.Proofs.YtcomelbphdjnnaaGreatDoor.Sc
/-
  SCRIPT: call.
-/
namespace Go.Proofs.YtcomelbphdjnnaaGreatDoor.Sc
open Go.RowKit Mr
set_option linter.unusedVariables false
set_option linter.unusedSimpArgs false
set_option maxRecDepth 100000
theorem has_new (w : World) (S : Nat → Prop) (e : TypeId) (size n : Nat) (vs : Array Value) (hS : S w.heap.size) (hn : n ≤ maxLen) (hs : vs.size = n * size) : Has (w.alloc (.cells vs e)) S e size (.slice (some ⟨w.heap.size, 0, none⟩) n n) n vs.toList :=
  ⟨by simp [hs], .inr ⟨w.heap.size, n, vs, rfl, hS, new_at _ _ _ rfl, Nat.le_refl _, hn, by omega, by rw [← hs]; exact List.take_of_length_le (by simp)⟩⟩
theorem form_row (k : Nat) (hk : k < 21) (w : World) : Calls Tryz.prog 63 #[.agg #[.int .i64 (opA k), .string (wdA k), .int .i64 (tkA k)]] w fun e w' => e = .returned (.string ⟨(fCall k).toArray⟩) ∧ Below w.heap.size w w' := by
  obtain ⟨z1, z2, z3, z4, z5, z6⟩ := fCall_ok k hk
  obtain ⟨tk, htk⟩ : ∃ tk : Nat, tkA k = tk := ⟨(tkA k).toNat, by omega⟩
  have hfc : fWd (wdA k).data.toList tk = fCall k := by unfold fWd fCall; rw [htk]; rfl
  have := form_any (opA k) (wdA k) tk w z4 (by omega)
  rw [hfc] at this
  rw [htk]
  exact this
theorem rowN_some {x : List UInt8} {k : Nat} (h : rowN x = some k) : k < 21 ∧ wdA k = ⟨x.toArray⟩ := by
  unfold rowN at h
  have h1 := List.find?_some h
  have h2 := List.mem_of_find?_eq_some h
  exact ⟨by simpa using h2, ba_ext (by simpa using h1)⟩
theorem rowN_none {x : List UInt8} (h : rowN x = none) : ∀ j, j < 21 → ((wdA j).toList == (⟨x.toArray⟩ : ByteArray).toList) = false := by
  unfold rowN at h
  rw [List.find?_eq_none] at h
  intro j hj
  have := h j (List.mem_range.2 hj)
  rw [ByteArray.toList_eq, ByteArray.toList_eq]
  simpa using this
theorem fCall_words (k : Nat) (hk : k < 21) : 1 ≤ ((words (fCall k)).filter (· == [48])).length ∧ ((words (fCall k)).filter (· == [48])).length ≤ 3 := by
  have := all_below (P := fun k => decide (1 ≤ ((words (fCall k)).filter (· == [48])).length) && decide (((words (fCall k)).filter (· == [48])).length ≤ 3)) (n := 21) (by decide +kernel) hk
  simpa using this
theorem callM_two {ws : List (List UInt8)} {f : List UInt8} {ns : List Int} (h : ¬ ws.length < 2) : callM ws f ns = match rowN (ws.getD 1 []) with | some k => if f = fCall k then [⟨ns.getD 0 0, opA k, ns.getD 1 0, ns.getD 2 0⟩] else [] | none => [] := by
  unfold callM
  rw [if_neg h]
  cases rowN (ws.getD 1 []) <;> rfl
theorem three (l : List Int) (h1 : 1 ≤ l.length) (h3 : l.length ≤ 3) : (ints l ++ [Value.int .i64 0, .int .i64 0, .int .i64 0].drop l.length) = [.int .i64 (l.getD 0 0), .int .i64 (l.getD 1 0), .int .i64 (l.getD 2 0)] := by
  match l, h1, h3 with
  | [a], _, _ => rfl
  | [a, b], _, _ => rfl
  | [a, b, c], _, _ => rfl
set_option maxHeartbeats 8000000 in
theorem call_some (ws : List (List UInt8)) (k : Nat) (a : Option Addr) (n c : Nat) (b off q cn : Nat) (w : World) (hW : WsAt w a n ws) (hg : ∀ x ∈ ws, Gw x) (hn : n ≤ 1048576) (h2 : ¬ ws.length < 2) (hk : rowN (ws.getD 1 []) = some k) (hf : formL ws = fCall k) (hN : NmAt w (some ⟨b, off, none⟩) q (numsL ws)) (hqc : q ≤ cn) :
    Calls Tryz.prog 85 #[.slice a n c, .string ⟨(formL ws).toArray⟩, .slice (some ⟨b, off, none⟩) q cn] w fun e w' => ∃ v, e = .returned v ∧ Has w' (fun k => w.heap.size ≤ k) 42 4 v (callM ws (formL ws) (numsL ws)).length (mvc (callM ws (formL ws) (numsL ws))) ∧ Below w.heap.size w w' := by
  obtain ⟨hk1, hk2⟩ := rowN_some hk
  have hcm : callM ws (formL ws) (numsL ws) = [⟨(numsL ws).getD 0 0, opA k, (numsL ws).getD 1 0, (numsL ws).getD 2 0⟩] := by rw [callM_two h2, hk]; simp [hf]
  rw [hcm]
  have hq := nums_of hg hf
  obtain ⟨f1, f2⟩ := fCall_words k hk1
  rw [← hq] at f1 f2
  have hl := hW.1
  have hw1 : ∃ x, ws[1]? = some x ∧ ws.getD 1 [] = x := ⟨ws[1]'(by omega), List.getElem?_eq_getElem _, by simp [List.getD_eq_getElem?_getD, List.getElem?_eq_getElem (show 1 < ws.length by omega)]⟩
  obtain ⟨x, hx, hx2⟩ := hw1
  obtain ⟨gw, rfl, hgw, hc⟩ := hW.2.resolve_left (by intro e; rw [e] at h2; simp at h2)
  have c1 := hc 1 x hx
  rw [hx2] at hk2
  rw [hf]
  have CN := Mr.hid (fun W => callNamed_some k W hk1)
  have FR := Mr.hid (fun W => form_row k hk1 W)
  rw [← hk2] at c1
  obtain ⟨hnn, hcl⟩ := hN
  have hne : numsL ws ≠ [] := by intro e; rw [e] at f1; simp at f1
  obtain ⟨b', off', e', hbl, hcells⟩ := hcl.resolve_left hne
  cases e'
  have h3 := three (numsL ws) f1 f2
  generalize numsL ws = ns at *
  generalize wdA k = xw at *
  generalize opA k = xo at *
  generalize tkA k = xt at *
  generalize hfc : (⟨(fCall k).toArray⟩ : ByteArray) = fc at *
  have ef : (fc.toList == fc.toList) = true := by simp
  have d2 : decide ((n : Int) < 2) = false := decide_eq_false (by omega)
  have d3 : ¬ (n : Int) < 2 := by omega
  have d4 : (1 : Int) < (n : Int) := by omega
  have hcp : Hid (∀ (W : World), Below w.heap.size w W → ∀ ty, (Builtin.copy_ #[87, 87] ty #[.slice (some ⟨W.heap.size, 0, none⟩) 3 3, .slice (some ⟨b, off, none⟩) q cn]).run Tryz.prog (W.alloc (.cells #[.int .i64 0, .int .i64 0, .int .i64 0] 165)) = .ok (goInt q) ((W.alloc (.cells #[.int .i64 0, .int .i64 0, .int .i64 0] 165)).setRow W.heap.size #[.int .i64 (ns.getD 0 0), .int .i64 (ns.getD 1 0), .int .i64 (ns.getD 2 0)])) := by
    intro W hB ty
    have := run_copy_row (P := Tryz.prog) (W.alloc (.cells #[.int .i64 0, .int .i64 0, .int .i64 0] 165)) 87 87 ty 3 W.heap.size 0 3 3 ⟨b, off, none⟩ q cn #[.int .i64 0, .int .i64 0, .int .i64 0] 165 (ints ns) Tryz.underlying87 (by kernel_rfl) (new_at _ _ _ rfl) (by show _ = min q 3; rw [Nat.min_eq_left (by omega)]; simp [ints, hnn]) (by
      intro j v hj
      rw [add1]
      simp only [ints, List.getElem?_map] at hj
      cases hy : ns[j]? with
      | none => rw [hy] at hj; cases hj
      | some y =>
        rw [hy] at hj
        cases hj
        exact ((hB.alloc hB.size _).cell (p := ⟨b, off + j, none⟩) hbl).trans (hcells j y hy)) (by simp [ints]; omega) (by
      intro v hv
      simp only [ints, List.mem_map] at hv
      obtain ⟨y, _, rfl⟩ := hv
      rfl)
    have e1 : (ints ns).length = ns.length := by simp [ints]
    rw [e1, ← hnn] at this
    rw [this]
    have e2 : ([Value.int .i64 0, .int .i64 0, .int .i64 0].take 0 ++ ints ns ++ [Value.int .i64 0, .int .i64 0, .int .i64 0].drop (0 + q)).toArray = #[.int .i64 (ns.getD 0 0), .int .i64 (ns.getD 1 0), .int .i64 (ns.getD 2 0)] := by
      rw [List.take_zero, List.nil_append, Nat.zero_add, hnn, h3]
    show Result.ok _ (World.setRow _ _ ([Value.int .i64 0, .int .i64 0, .int .i64 0].take 0 ++ ints ns ++ [Value.int .i64 0, .int .i64 0, .int .i64 0].drop (0 + q)).toArray) = _
    rw [e2]
  clear hc hW hg hcm hx hx2 hk2 hf hfc hk hcl hq hl h2 hcells h3 f1 f2 hnn hne
  generalize ns.getD 0 0 = n0 at *
  generalize ns.getD 1 0 = n1 at *
  generalize ns.getD 2 0 = n2 at *
  go_enter Tryz.func85, Tryz.ntmps85
  go_upto_region 6 with (first | (go_at_call 98; refine (CN.out _).mono ?_; clear CN; rintro e w1 ⟨rfl, B1⟩; have hb1 : w1.heap.size < w1.heap.size + 1 := Nat.lt_succ_self _; replace B1 := Mr.hid B1) | (go_at_call 63; refine (FR.out _).mono ?_; clear FR; rintro e w2 ⟨rfl, B2⟩))
  have BB : Below w.heap.size w w2 := (B1.out.alloc B1.out.size _).trans (B2.mono (by simp; have := B1.out.size; omega))
  have hcw : w2.heap[w1.heap.size]? = some (.cells #[.int .i64 xo, .string xw, .int .i64 xt] 116 (0, 0)) := (B2.block _ (by simp)).trans (new_at _ _ _ rfl)
  have e0 := cell_blk hcw 0
  have hlt := (Array.getElem?_eq_some_iff.1 hcw).1
  have hc3 := fun ty => hcp.out w2 BB ty
  replace BB := Mr.hid BB
  replace hcw := Mr.hid hcw
  generalize w1.heap.size = Bc at *
  clear B2 hcp B1 hb1
  go_upto_region 8 with fail
  have hg3 := setRow_heap (w2.alloc (.cells #[.int .i64 0, .int .i64 0, .int .i64 0] 165)) w2.heap.size _ #[.int .i64 n0, .int .i64 n1, .int .i64 n2] _ _ (new_at _ _ _ rfl)
  have hB3 : Hid (Below w.heap.size w ((w2.alloc (.cells #[.int .i64 0, .int .i64 0, .int .i64 0] 165)).setRow w2.heap.size #[.int .i64 n0, .int .i64 n1, .int .i64 n2])) := below_setRow (BB.out.alloc BB.out.size _) BB.out.size _
  have hc4 : ((w2.alloc (.cells #[.int .i64 0, .int .i64 0, .int .i64 0] 165)).setRow w2.heap.size #[.int .i64 n0, .int .i64 n1, .int .i64 n2]).heap[Bc]? = some (.cells #[.int .i64 xo, .string xw, .int .i64 xt] 116 (0, 0)) := (setRow_other _ _ _ _ (by omega)).trans ((Lib.alloc_old w2 _ _ hlt).trans hcw.out)
  clear hc3 e0
  generalize (w2.alloc (.cells #[.int .i64 0, .int .i64 0, .int .i64 0] 165)).setRow w2.heap.size #[.int .i64 n0, .int .i64 n1, .int .i64 n2] = w3 at *
  generalize w2.heap.size = Bg at *
  have e0 := cell_blk hc4 0
  have y0 := cell_blk hg3 0
  have y1 := cell_blk hg3 1
  have y2 := cell_blk hg3 2
  have l1 := (Array.getElem?_eq_some_iff.1 hc4).1
  have l2 := (Array.getElem?_eq_some_iff.1 hg3).1
  clear hg3 hc4 hcw BB
  go_wp2
  go_ret
  refine ⟨_, rfl, ?_, hB3.out.alloc hB3.out.size _⟩
  exact has_new w3 (fun k => w.heap.size ≤ k) 42 4 1 #[.int .i64 n0, .int .i64 xo, .int .i64 n1, .int .i64 n2] hB3.out.size (by decide) rfl
end Go.Proofs.YtcomelbphdjnnaaGreatDoor.Sc
