import Derived.Test.YtcomelbphdjnnaaGreatDoorJ09
import Derived.Laws.CopyRow
import Derived.Laws.CopyOwn
/-
  SCRIPT: call.
-/
namespace Go.Proofs.YtcomelbphdjnnaaGreatDoor.Sc
open Go.RowKit Mr
set_option linter.unusedVariables false
set_option linter.unusedSimpArgs false
set_option maxRecDepth 100000
theorem has_new (w : World) (S : Nat → Prop) (e : TypeId) (size n : Nat) (vs : Array Value) (hS : S w.heap.size) (hn : n ≤ maxLen) (hs : vs.size = n * size) : Has (w.alloc (.cells vs e)) S e size (.slice (some ⟨w.heap.size, 0, none⟩) n n) n vs.toList :=
  ⟨by simp [hs], .inr ⟨w.heap.size, n, vs, rfl, hS, new_at _ _ _ rfl, Nat.le_refl _, hn, by omega, by rw [← hs]; exact List.take_of_length_le (by simp)⟩⟩
theorem form_row (k : Nat) (hk : k < 21) (w : World) : Calls Tryz.prog 63 #[.agg #[.int .i64 (opA k), .string (wdA k), .int .i64 (tkA k)]] w fun e w' => e = .returned (.string ⟨(fCall k).toArray⟩) ∧ Below w.heap.size w w' := by
  obtain ⟨z1, z2, z3, z4, z5, z6⟩ := fCall_ok k hk
  obtain ⟨tk, htk⟩ : ∃ tk : Nat, tkA k = tk := ⟨(tkA k).toNat, by omega⟩
  have hfc : fWd (wdA k).data.toList tk = fCall k := by unfold fWd fCall; rw [htk]; rfl
  have := form_any (opA k) (wdA k) tk w z4 (by omega)
  rw [hfc] at this
  rw [htk]
  exact this
theorem rowN_some {x : List UInt8} {k : Nat} (h : rowN x = some k) : k < 21 ∧ wdA k = ⟨x.toArray⟩ := by
  unfold rowN at h
  have h1 := List.find?_some h
  have h2 := List.mem_of_find?_eq_some h
  exact ⟨by simpa using h2, ba_ext (by simpa using h1)⟩
theorem rowN_none {x : List UInt8} (h : rowN x = none) : ∀ j, j < 21 → ((wdA j).toList == (⟨x.toArray⟩ : ByteArray).toList) = false := by
  unfold rowN at h
  rw [List.find?_eq_none] at h
  intro j hj
  have := h j (List.mem_range.2 hj)
  rw [ByteArray.toList_eq, ByteArray.toList_eq]
  simpa using this
theorem fCall_words (k : Nat) (hk : k < 21) : 1 ≤ ((words (fCall k)).filter (· == [48])).length ∧ ((words (fCall k)).filter (· == [48])).length ≤ 3 := by
  have := all_below (P := fun k => decide (1 ≤ ((words (fCall k)).filter (· == [48])).length) && decide (((words (fCall k)).filter (· == [48])).length ≤ 3)) (n := 21) (by decide +kernel) hk
  simpa using this
theorem callM_two {ws : List (List UInt8)} {f : List UInt8} {ns : List Int} (h : ¬ ws.length < 2) : callM ws f ns = match rowN (ws.getD 1 []) with | some k => if f = fCall k then [⟨ns.getD 0 0, opA k, ns.getD 1 0, ns.getD 2 0⟩] else [] | none => [] := by
  unfold callM
  rw [if_neg h]
  cases rowN (ws.getD 1 []) <;> rfl
theorem three (l : List Int) (h1 : 1 ≤ l.length) (h3 : l.length ≤ 3) : (ints l ++ [Value.int .i64 0, .int .i64 0, .int .i64 0].drop l.length) = [.int .i64 (l.getD 0 0), .int .i64 (l.getD 1 0), .int .i64 (l.getD 2 0)] := by
  match l, h1, h3 with
  | [a], _, _ => rfl
  | [a, b], _, _ => rfl
  | [a, b, c], _, _ => rfl
set_option maxHeartbeats 8000000 in
theorem call_some (ws : List (List UInt8)) (k : Nat) (a : Option Addr) (n c : Nat) (b off q cn : Nat) (w : World) (hW : WsAt w a n ws) (hg : ∀ x ∈ ws, Gw x) (hn : n ≤ 1048576) (h2 : ¬ ws.length < 2) (hk : rowN (ws.getD 1 []) = some k) (hf : formL ws = fCall k) (hN : NmAt w (some ⟨b, off, none⟩) q (numsL ws)) (hqc : q ≤ cn) :
    Calls Tryz.prog 85 #[.slice a n c, .string ⟨(formL ws).toArray⟩, .slice (some ⟨b, off, none⟩) q cn] w fun e w' => ∃ v, e = .returned v ∧ Has w' (fun k => w.heap.size ≤ k) 42 4 v (callM ws (formL ws) (numsL ws)).length (mvc (callM ws (formL ws) (numsL ws))) ∧ Below w.heap.size w w' := by
  obtain ⟨hk1, hk2⟩ := rowN_some hk
  have hcm : callM ws (formL ws) (numsL ws) = [⟨(numsL ws).getD 0 0, opA k, (numsL ws).getD 1 0, (numsL ws).getD 2 0⟩] := by rw [callM_two h2, hk]; simp [hf]
  rw [hcm]
  have hq := nums_of hg hf
  obtain ⟨f1, f2⟩ := fCall_words k hk1
  rw [← hq] at f1 f2
  have hl := hW.1
  have hw1 : ∃ x, ws[1]? = some x ∧ ws.getD 1 [] = x := ⟨ws[1]'(by omega), List.getElem?_eq_getElem _, by simp [List.getD_eq_getElem?_getD, List.getElem?_eq_getElem (show 1 < ws.length by omega)]⟩
  obtain ⟨x, hx, hx2⟩ := hw1
  obtain ⟨gw, rfl, hgw, hc⟩ := hW.2.resolve_left (by intro e; rw [e] at h2; simp at h2)
  have c1 := hc 1 x hx
  rw [hx2] at hk2
  rw [hf]
  have CN := Mr.hid (fun W => callNamed_some k W hk1)
  have FR := Mr.hid (fun W => form_row k hk1 W)
  rw [← hk2] at c1
  obtain ⟨hnn, hcl⟩ := hN
  have hne : numsL ws ≠ [] := by intro e; rw [e] at f1; simp at f1
  obtain ⟨b', off', e', hbl, hcells⟩ := hcl.resolve_left hne
  cases e'
  have h3 := three (numsL ws) f1 f2
  generalize numsL ws = ns at *
  generalize wdA k = xw at *
  generalize opA k = xo at *
  generalize tkA k = xt at *
  generalize hfc : (⟨(fCall k).toArray⟩ : ByteArray) = fc at *
  have ef : (fc.toList == fc.toList) = true := by simp
  have d2 : decide ((n : Int) < 2) = false := decide_eq_false (by omega)
  have d3 : ¬ (n : Int) < 2 := by omega
  have d4 : (1 : Int) < (n : Int) := by omega
  have hcp : Hid (∀ (W : World), Below w.heap.size w W → ∀ ty, (Builtin.copy_ #[87, 87] ty #[.slice (some ⟨W.heap.size, 0, none⟩) 3 3, .slice (some ⟨b, off, none⟩) q cn]).run Tryz.prog (W.alloc (.cells #[.int .i64 0, .int .i64 0, .int .i64 0] 165)) = .ok (goInt q) ((W.alloc (.cells #[.int .i64 0, .int .i64 0, .int .i64 0] 165)).setRow W.heap.size #[.int .i64 (ns.getD 0 0), .int .i64 (ns.getD 1 0), .int .i64 (ns.getD 2 0)])) := by
    intro W hB ty
    have := run_copy_row (P := Tryz.prog) (W.alloc (.cells #[.int .i64 0, .int .i64 0, .int .i64 0] 165)) 87 87 ty 3 W.heap.size 0 3 3 ⟨b, off, none⟩ q cn #[.int .i64 0, .int .i64 0, .int .i64 0] 165 (ints ns) Tryz.underlying87 (by kernel_rfl) (new_at _ _ _ rfl) (by show _ = min q 3; rw [Nat.min_eq_left (by omega)]; simp [ints, hnn]) (by
      intro j v hj
      rw [add1]
      simp only [ints, List.getElem?_map] at hj
      cases hy : ns[j]? with
      | none => rw [hy] at hj; cases hj
      | some y =>
        rw [hy] at hj
        cases hj
        exact ((hB.alloc hB.size _).cell (p := ⟨b, off + j, none⟩) hbl).trans (hcells j y hy)) (by simp [ints]; omega) (by
      intro v hv
      simp only [ints, List.mem_map] at hv
      obtain ⟨y, _, rfl⟩ := hv
      rfl)
    have e1 : (ints ns).length = ns.length := by simp [ints]
    rw [e1, ← hnn] at this
    rw [this]
    have e2 : ([Value.int .i64 0, .int .i64 0, .int .i64 0].take 0 ++ ints ns ++ [Value.int .i64 0, .int .i64 0, .int .i64 0].drop (0 + q)).toArray = #[.int .i64 (ns.getD 0 0), .int .i64 (ns.getD 1 0), .int .i64 (ns.getD 2 0)] := by
      rw [List.take_zero, List.nil_append, Nat.zero_add, hnn, h3]
    show Result.ok _ (World.setRow _ _ ([Value.int .i64 0, .int .i64 0, .int .i64 0].take 0 ++ ints ns ++ [Value.int .i64 0, .int .i64 0, .int .i64 0].drop (0 + q)).toArray) = _
    rw [e2]
  clear hc hW hg hcm hx hx2 hk2 hf hfc hk hcl hq hl h2 hcells h3 f1 f2 hnn hne
  generalize ns.getD 0 0 = n0 at *
  generalize ns.getD 1 0 = n1 at *
  generalize ns.getD 2 0 = n2 at *
  go_enter Tryz.func85, Tryz.ntmps85
  go_upto_region 6 with (first | (go_at_call 98; refine (CN.out _).mono ?_; clear CN; rintro e w1 ⟨rfl, B1⟩; have hb1 : w1.heap.size < w1.heap.size + 1 := Nat.lt_succ_self _; replace B1 := Mr.hid B1) | (go_at_call 63; refine (FR.out _).mono ?_; clear FR; rintro e w2 ⟨rfl, B2⟩))
  have BB : Below w.heap.size w w2 := (B1.out.alloc B1.out.size _).trans (B2.mono (by simp; have := B1.out.size; omega))
  have hcw : w2.heap[w1.heap.size]? = some (.cells #[.int .i64 xo, .string xw, .int .i64 xt] 116 (0, 0)) := (B2.block _ (by simp)).trans (new_at _ _ _ rfl)
  have e0 := cell_blk hcw 0
  have hlt := (Array.getElem?_eq_some_iff.1 hcw).1
  have hc3 := fun ty => hcp.out w2 BB ty
  replace BB := Mr.hid BB
  replace hcw := Mr.hid hcw
  generalize w1.heap.size = Bc at *
  clear B2 hcp B1 hb1
  go_upto_region 8 with fail
  have hg3 := setRow_heap (w2.alloc (.cells #[.int .i64 0, .int .i64 0, .int .i64 0] 165)) w2.heap.size _ #[.int .i64 n0, .int .i64 n1, .int .i64 n2] _ _ (new_at _ _ _ rfl)
  have hB3 : Hid (Below w.heap.size w ((w2.alloc (.cells #[.int .i64 0, .int .i64 0, .int .i64 0] 165)).setRow w2.heap.size #[.int .i64 n0, .int .i64 n1, .int .i64 n2])) := below_setRow (BB.out.alloc BB.out.size _) BB.out.size _
  have hc4 : ((w2.alloc (.cells #[.int .i64 0, .int .i64 0, .int .i64 0] 165)).setRow w2.heap.size #[.int .i64 n0, .int .i64 n1, .int .i64 n2]).heap[Bc]? = some (.cells #[.int .i64 xo, .string xw, .int .i64 xt] 116 (0, 0)) := (setRow_other _ _ _ _ (by omega)).trans ((Lib.alloc_old w2 _ _ hlt).trans hcw.out)
  clear hc3 e0
  generalize (w2.alloc (.cells #[.int .i64 0, .int .i64 0, .int .i64 0] 165)).setRow w2.heap.size #[.int .i64 n0, .int .i64 n1, .int .i64 n2] = w3 at *
  generalize w2.heap.size = Bg at *
  have e0 := cell_blk hc4 0
  have y0 := cell_blk hg3 0
  have y1 := cell_blk hg3 1
  have y2 := cell_blk hg3 2
  have l1 := (Array.getElem?_eq_some_iff.1 hc4).1
  have l2 := (Array.getElem?_eq_some_iff.1 hg3).1
  clear hg3 hc4 hcw BB
  go_wp2
  go_ret
  refine ⟨_, rfl, ?_, hB3.out.alloc hB3.out.size _⟩
  exact has_new w3 (fun k => w.heap.size ≤ k) 42 4 1 #[.int .i64 n0, .int .i64 xo, .int .i64 n1, .int .i64 n2] hB3.out.size (by decide) rfl
end Go.Proofs.YtcomelbphdjnnaaGreatDoor.Sc
/-
  SCRIPT: meaning.
-/
namespace Go.Proofs.YtcomelbphdjnnaaGreatDoor.Sc
open Go.RowKit Mr
set_option linter.unusedVariables false
set_option linter.unusedSimpArgs false
set_option maxRecDepth 100000
theorem toList_of (x : List UInt8) : (⟨x.toArray⟩ : ByteArray).toList = x := by rw [ByteArray.toList_eq]
/-- What meaning answers. -/
def MnA (w : World) (mt : List Mv × Int) (e : Ending) (w' : World) : Prop :=
  ∃ v, e = .returned (.tuple #[v, .int .i64 mt.2]) ∧ Has w' (fun k => w.heap.size ≤ k) 42 4 v mt.1.length (mvc mt.1) ∧ Below w.heap.size w w'
set_option maxHeartbeats 8000000 in
theorem mean_step (ws : List (List UInt8)) (R T : Nat) (a : Option Addr) (n c b off q cn : Nat) (w : World) (hW : WsAt w a n ws) (hg : ∀ x ∈ ws, Gw x) (hn : n ≤ 1048576) (hsz : ∀ x ∈ ws, x.length ≤ 1048576) (hN : NmAt w (some ⟨b, off, none⟩) q (numsL ws)) (hqc : q ≤ cn) (hT : T ≤ 1000) (h0 : w.cell? ⟨R, 0, none⟩ = some (.int .i64 (T : Int))) (hR : R < w.heap.size) (hf : formL ws = fStep) :
    Calls Tryz.prog 67 #[.pointer (some ⟨R, 0, none⟩), .slice a n c, .slice (some ⟨b, off, none⟩) q cn] w (MnA w (mean T ws (numsL ws))) := by
  have FO := Mr.hid (formOf_any ws a n c w hW hn hsz)
  have hq := nums_of hg hf
  have hq2 : (numsL ws).length = 1 := hq.trans (by decide)
  obtain ⟨hnn, hcl⟩ := hN
  have hq3 : q = 1 := by omega
  subst hq3
  obtain ⟨b', off', e', hbl, hcells⟩ := hcl.resolve_left (by intro e; rw [e] at hq2; cases hq2)
  cases e'
  have hme : mean T ws (numsL ws) = ([stp ((numsL ws).getD 0 0)], 1) := by unfold mean; rw [hf]; rfl
  rw [hme]
  obtain ⟨n0, hn0⟩ : ∃ x, (numsL ws).getD 0 0 = x := ⟨_, rfl⟩
  have y0 : w.cell? ⟨b, off + 0, none⟩ = some (.int .i64 n0) := hcells 0 n0 (by rw [← hn0, List.getD_eq_getElem?_getD, List.getElem?_eq_getElem (by omega)]; rfl)
  rw [hn0]
  simp only [Nat.add_zero] at y0
  obtain ⟨F, hF⟩ : ∃ F : ByteArray, F = ⟨(formL ws).toArray⟩ := ⟨_, rfl⟩
  rw [← hF] at FO
  have kfStep : (F.toList == [48, 32, 46]) = true := by rw [hF, toList_of, hf]; decide
  clear hF hf hq hq2 hnn hcl hcells hme hg hsz hn0
  go_enter Tryz.func67, Tryz.ntmps67
  go_upto_region 4 with (go_at_call 65; refine FO.out.mono ?_; clear FO; rintro e w1 ⟨rfl, B1⟩)
  have z0 : w1.cell? ⟨b, off, none⟩ = some (.int .i64 n0) := (B1.cell (p := ⟨b, _, none⟩) hbl).trans y0
  have hb1 : b < w1.heap.size := Nat.lt_of_lt_of_le hbl B1.size
  clear y0
  have So : Hid (∀ (t : Int) w, Calls Tryz.prog 60 #[.int .i64 t] w fun e w' => e = .returned (.agg #[.int .i64 t, .int .i64 0, .int .i64 0, .int .i64 0]) ∧ Below w.heap.size w w') := fun t w => stepOf_any t w
  replace B1 := Mr.hid B1
  go_wp2_with (go_at_call 60; refine (So.out _ _).mono ?_; clear So; rintro e w2 ⟨rfl, B2⟩; have hB2 : Hid (Below w.heap.size w w2) := B1.out.trans (B2.mono B1.out.size); clear B2)
  go_ret2
  exact ⟨_, rfl, has_new w2 (fun k => w.heap.size ≤ k) 42 4 1 #[.int .i64 n0, .int .i64 0, .int .i64 0, .int .i64 0] hB2.out.size (by decide) rfl, hB2.out.alloc hB2.out.size _⟩
set_option maxHeartbeats 8000000 in
theorem mean_steps (ws : List (List UInt8)) (R T : Nat) (a : Option Addr) (n c b off q cn : Nat) (w : World) (hW : WsAt w a n ws) (hg : ∀ x ∈ ws, Gw x) (hn : n ≤ 1048576) (hsz : ∀ x ∈ ws, x.length ≤ 1048576) (hN : NmAt w (some ⟨b, off, none⟩) q (numsL ws)) (hqc : q ≤ cn) (hT : T ≤ 1000) (h0 : w.cell? ⟨R, 0, none⟩ = some (.int .i64 (T : Int))) (hR : R < w.heap.size) (hf : formL ws = fSteps) :
    Calls Tryz.prog 67 #[.pointer (some ⟨R, 0, none⟩), .slice a n c, .slice (some ⟨b, off, none⟩) q cn] w (MnA w (mean T ws (numsL ws))) := by
  have FO := Mr.hid (formOf_any ws a n c w hW hn hsz)
  have hq := nums_of hg hf
  have hq2 : (numsL ws).length = 2 := hq.trans (by decide)
  obtain ⟨hnn, hcl⟩ := hN
  have hq3 : q = 2 := by omega
  subst hq3
  obtain ⟨b', off', e', hbl, hcells⟩ := hcl.resolve_left (by intro e; rw [e] at hq2; cases hq2)
  cases e'
  have hme : mean T ws (numsL ws) = ([stp ((numsL ws).getD 0 0)], (numsL ws).getD 1 0) := by unfold mean; rw [hf]; rfl
  rw [hme]
  obtain ⟨n0, hn0⟩ : ∃ x, (numsL ws).getD 0 0 = x := ⟨_, rfl⟩
  have y0 : w.cell? ⟨b, off + 0, none⟩ = some (.int .i64 n0) := hcells 0 n0 (by rw [← hn0, List.getD_eq_getElem?_getD, List.getElem?_eq_getElem (by omega)]; rfl)
  rw [hn0]
  obtain ⟨n1, hn1⟩ : ∃ x, (numsL ws).getD 1 0 = x := ⟨_, rfl⟩
  have y1 : w.cell? ⟨b, off + 1, none⟩ = some (.int .i64 n1) := hcells 1 n1 (by rw [← hn1, List.getD_eq_getElem?_getD, List.getElem?_eq_getElem (by omega)]; rfl)
  rw [hn1]
  simp only [Nat.add_zero] at y0
  obtain ⟨F, hF⟩ : ∃ F : ByteArray, F = ⟨(formL ws).toArray⟩ := ⟨_, rfl⟩
  rw [← hF] at FO
  have kfStep : (F.toList == [48, 32, 46]) = false := by rw [hF, toList_of]; rw [hf]; decide
  have kfSteps : (F.toList == [48, 32, 46, 32, 48]) = true := by rw [hF, toList_of, hf]; decide
  clear hF hf hq hq2 hnn hcl hcells hme hg hsz hn0 hn1
  go_enter Tryz.func67, Tryz.ntmps67
  go_upto_region 6 with (go_at_call 65; refine FO.out.mono ?_; clear FO; rintro e w1 ⟨rfl, B1⟩)
  have z0 : w1.cell? ⟨b, off, none⟩ = some (.int .i64 n0) := (B1.cell (p := ⟨b, _, none⟩) hbl).trans y0
  have z1 : w1.cell? ⟨b, off + 1, none⟩ = some (.int .i64 n1) := (B1.cell (p := ⟨b, _, none⟩) hbl).trans y1
  have hb1 : b < w1.heap.size := Nat.lt_of_lt_of_le hbl B1.size
  clear y0 y1
  have So : Hid (∀ (t : Int) w, Calls Tryz.prog 60 #[.int .i64 t] w fun e w' => e = .returned (.agg #[.int .i64 t, .int .i64 0, .int .i64 0, .int .i64 0]) ∧ Below w.heap.size w w') := fun t w => stepOf_any t w
  go_region_held3 (fun W => W.cell? ⟨b, off, none⟩ = some (.int .i64 n0) ∧ W.cell? ⟨b, off + 1, none⟩ = some (.int .i64 n1)) (simp [*, go_sem])
    (first | (go_at_call 60; refine (So.out _ _).mono ?_; clear So; rintro e w2 ⟨rfl, B2⟩; have x0 := (B2.cell (p := ⟨b, off, none⟩) hb1).trans z0; have x1 := (B2.cell (p := ⟨b, off + 1, none⟩) hb1).trans z1; have hb2 : b < w2.heap.size := Nat.lt_of_lt_of_le hb1 B2.size; have hB2 : Hid (Below w.heap.size w w2) := (B1.drew).trans (B2.mono B1.size); replace B2 := Mr.hid B2))
  all_goals (go_wp2; go_ret2; exact ⟨_, rfl, has_new w2 (fun k => w.heap.size ≤ k) 42 4 1 #[.int .i64 n0, .int .i64 0, .int .i64 0, .int .i64 0] hB2.out.size (by decide) rfl, hB2.out.alloc hB2.out.size _⟩)
set_option maxHeartbeats 8000000 in
theorem mean_rounds (ws : List (List UInt8)) (R T : Nat) (a : Option Addr) (n c b off q cn : Nat) (w : World) (hW : WsAt w a n ws) (hg : ∀ x ∈ ws, Gw x) (hn : n ≤ 1048576) (hsz : ∀ x ∈ ws, x.length ≤ 1048576) (hN : NmAt w (some ⟨b, off, none⟩) q (numsL ws)) (hqc : q ≤ cn) (hT : T ≤ 1000) (h0 : w.cell? ⟨R, 0, none⟩ = some (.int .i64 (T : Int))) (hR : R < w.heap.size) (hf : formL ws = fRounds) :
    Calls Tryz.prog 67 #[.pointer (some ⟨R, 0, none⟩), .slice a n c, .slice (some ⟨b, off, none⟩) q cn] w (MnA w (mean T ws (numsL ws))) := by
  have FO := Mr.hid (formOf_any ws a n c w hW hn hsz)
  have hq := nums_of hg hf
  have hq2 : (numsL ws).length = 1 := hq.trans (by decide)
  obtain ⟨hnn, hcl⟩ := hN
  have hq3 : q = 1 := by omega
  subst hq3
  obtain ⟨b', off', e', hbl, hcells⟩ := hcl.resolve_left (by intro e; rw [e] at hq2; cases hq2)
  cases e'
  have hme : mean T ws (numsL ws) = (rnds T, (numsL ws).getD 0 0) := by unfold mean; rw [hf]; rfl
  rw [hme]
  obtain ⟨n0, hn0⟩ : ∃ x, (numsL ws).getD 0 0 = x := ⟨_, rfl⟩
  have y0 : w.cell? ⟨b, off + 0, none⟩ = some (.int .i64 n0) := hcells 0 n0 (by rw [← hn0, List.getD_eq_getElem?_getD, List.getElem?_eq_getElem (by omega)]; rfl)
  rw [hn0]
  simp only [Nat.add_zero] at y0
  obtain ⟨F, hF⟩ : ∃ F : ByteArray, F = ⟨(formL ws).toArray⟩ := ⟨_, rfl⟩
  rw [← hF] at FO
  have kfStep : (F.toList == [48, 32, 46]) = false := by rw [hF, toList_of]; rw [hf]; decide
  have kfSteps : (F.toList == [48, 32, 46, 32, 48]) = false := by rw [hF, toList_of]; rw [hf]; decide
  have kfRounds : (F.toList == [42, 32, 48]) = true := by rw [hF, toList_of, hf]; decide
  clear hF hf hq hq2 hnn hcl hcells hme hg hsz hn0
  go_enter Tryz.func67, Tryz.ntmps67
  go_upto_region 8 with (go_at_call 65; refine FO.out.mono ?_; clear FO; rintro e w1 ⟨rfl, B1⟩)
  have z0 : w1.cell? ⟨b, off, none⟩ = some (.int .i64 n0) := (B1.cell (p := ⟨b, _, none⟩) hbl).trans y0
  have hb1 : b < w1.heap.size := Nat.lt_of_lt_of_le hbl B1.size
  clear y0
  have r0 : w1.cell? ⟨R, 0, none⟩ = some (.int .i64 (T : Int)) := (B1.cell (p := ⟨R, 0, none⟩) hR).trans h0
  have hR1 : R < w1.heap.size := Nat.lt_of_lt_of_le hR B1.size
  have RO := Mr.hid (round_any R T w1.drew hT r0 hR1)
  have hrl := Mr.hid (rnds_len T)
  clear h0
  go_region_held3 (fun W => W.cell? ⟨b, off, none⟩ = some (.int .i64 n0)) (simp [*, go_sem])
    (first | (go_at_call 84; refine RO.out.mono ?_; clear RO; rintro e w2 ⟨v, rfl, hh, B2⟩; have x0 := (B2.cell (p := ⟨b, off, none⟩) hb1).trans z0; have hB2 : Hid (Below w.heap.size w w2) := (B1.drew).trans (B2.mono B1.size); replace B2 := Mr.hid B2; replace hh := Mr.hid hh))
  all_goals (go_wp2; go_ret2; exact ⟨_, rfl, by dsimp only; rw [hrl.out]; exact hh.out.mono (fun k hk => Nat.le_trans B1.size hk), hB2.out⟩)
set_option maxHeartbeats 8000000 in
theorem mean_op (ws : List (List UInt8)) (R T : Nat) (a : Option Addr) (n c b off q cn : Nat) (w : World) (hW : WsAt w a n ws) (hg : ∀ x ∈ ws, Gw x) (hn : n ≤ 1048576) (hsz : ∀ x ∈ ws, x.length ≤ 1048576) (hN : NmAt w (some ⟨b, off, none⟩) q (numsL ws)) (hqc : q ≤ cn) (hT : T ≤ 1000) (h0 : w.cell? ⟨R, 0, none⟩ = some (.int .i64 (T : Int))) (hR : R < w.heap.size) (hf : formL ws = fOp) :
    Calls Tryz.prog 67 #[.pointer (some ⟨R, 0, none⟩), .slice a n c, .slice (some ⟨b, off, none⟩) q cn] w (MnA w (mean T ws (numsL ws))) := by
  have FO := Mr.hid (formOf_any ws a n c w hW hn hsz)
  have hq := nums_of hg hf
  have hq2 : (numsL ws).length = 4 := hq.trans (by decide)
  obtain ⟨hnn, hcl⟩ := hN
  have hq3 : q = 4 := by omega
  subst hq3
  obtain ⟨b', off', e', hbl, hcells⟩ := hcl.resolve_left (by intro e; rw [e] at hq2; cases hq2)
  cases e'
  have hme : mean T ws (numsL ws) = ([⟨(numsL ws).getD 0 0, (numsL ws).getD 1 0, (numsL ws).getD 2 0, (numsL ws).getD 3 0⟩], 1) := by unfold mean; rw [hf]; rfl
  rw [hme]
  obtain ⟨n0, hn0⟩ : ∃ x, (numsL ws).getD 0 0 = x := ⟨_, rfl⟩
  have y0 : w.cell? ⟨b, off + 0, none⟩ = some (.int .i64 n0) := hcells 0 n0 (by rw [← hn0, List.getD_eq_getElem?_getD, List.getElem?_eq_getElem (by omega)]; rfl)
  rw [hn0]
  obtain ⟨n1, hn1⟩ : ∃ x, (numsL ws).getD 1 0 = x := ⟨_, rfl⟩
  have y1 : w.cell? ⟨b, off + 1, none⟩ = some (.int .i64 n1) := hcells 1 n1 (by rw [← hn1, List.getD_eq_getElem?_getD, List.getElem?_eq_getElem (by omega)]; rfl)
  rw [hn1]
  obtain ⟨n2, hn2⟩ : ∃ x, (numsL ws).getD 2 0 = x := ⟨_, rfl⟩
  have y2 : w.cell? ⟨b, off + 2, none⟩ = some (.int .i64 n2) := hcells 2 n2 (by rw [← hn2, List.getD_eq_getElem?_getD, List.getElem?_eq_getElem (by omega)]; rfl)
  rw [hn2]
  obtain ⟨n3, hn3⟩ : ∃ x, (numsL ws).getD 3 0 = x := ⟨_, rfl⟩
  have y3 : w.cell? ⟨b, off + 3, none⟩ = some (.int .i64 n3) := hcells 3 n3 (by rw [← hn3, List.getD_eq_getElem?_getD, List.getElem?_eq_getElem (by omega)]; rfl)
  rw [hn3]
  simp only [Nat.add_zero] at y0
  obtain ⟨F, hF⟩ : ∃ F : ByteArray, F = ⟨(formL ws).toArray⟩ := ⟨_, rfl⟩
  rw [← hF] at FO
  have kfStep : (F.toList == [48, 32, 46]) = false := by rw [hF, toList_of]; rw [hf]; decide
  have kfSteps : (F.toList == [48, 32, 46, 32, 48]) = false := by rw [hF, toList_of]; rw [hf]; decide
  have kfRounds : (F.toList == [42, 32, 48]) = false := by rw [hF, toList_of]; rw [hf]; decide
  have kfOp : (F.toList == [48, 32, 111, 112, 32, 48, 32, 48, 32, 48]) = true := by rw [hF, toList_of, hf]; decide
  clear hF hf hq hq2 hnn hcl hcells hme hg hsz hn0 hn1 hn2 hn3
  go_enter Tryz.func67, Tryz.ntmps67
  go_upto_region 10 with (go_at_call 65; refine FO.out.mono ?_; clear FO; rintro e w1 ⟨rfl, B1⟩)
  have z0 : w1.cell? ⟨b, off, none⟩ = some (.int .i64 n0) := (B1.cell (p := ⟨b, _, none⟩) hbl).trans y0
  have z1 : w1.cell? ⟨b, off + 1, none⟩ = some (.int .i64 n1) := (B1.cell (p := ⟨b, _, none⟩) hbl).trans y1
  have z2 : w1.cell? ⟨b, off + 2, none⟩ = some (.int .i64 n2) := (B1.cell (p := ⟨b, _, none⟩) hbl).trans y2
  have z3 : w1.cell? ⟨b, off + 3, none⟩ = some (.int .i64 n3) := (B1.cell (p := ⟨b, _, none⟩) hbl).trans y3
  have hb1 : b < w1.heap.size := Nat.lt_of_lt_of_le hbl B1.size
  clear y0 y1 y2 y3
  go_region_held3 (fun W => W.cell? ⟨b, off, none⟩ = some (.int .i64 n0) ∧ W.cell? ⟨b, off + 1, none⟩ = some (.int .i64 n1) ∧ W.cell? ⟨b, off + 2, none⟩ = some (.int .i64 n2) ∧ W.cell? ⟨b, off + 3, none⟩ = some (.int .i64 n3)) (simp [*, go_sem]) (fail)
  have hB2 : Hid (Below w.heap.size w w1) := B1
  all_goals (go_wp2; go_ret2; exact ⟨_, rfl, has_new w1.drew (fun k => w.heap.size ≤ k) 42 4 1 #[.int .i64 n0, .int .i64 n1, .int .i64 n2, .int .i64 n3] hB2.out.size (by decide) rfl, (hB2.out.drew).alloc hB2.out.size _⟩)
set_option maxHeartbeats 8000000 in
theorem mean_call (ws : List (List UInt8)) (R T : Nat) (a : Option Addr) (n c b off q cn : Nat) (w : World) (hW : WsAt w a n ws) (hg : ∀ x ∈ ws, Gw x) (hn : n ≤ 1048576) (hsz : ∀ x ∈ ws, x.length ≤ 1048576) (hN : NmAt w (some ⟨b, off, none⟩) q (numsL ws)) (hqc : q ≤ cn) (hT : T ≤ 1000) (h0 : w.cell? ⟨R, 0, none⟩ = some (.int .i64 (T : Int))) (hR : R < w.heap.size) (k : Nat) (h2 : ¬ ws.length < 2) (hk : rowN (ws.getD 1 []) = some k) (hf : formL ws = fCall k) (hfStep : formL ws ≠ fStep) (hfSteps : formL ws ≠ fSteps) (hfRounds : formL ws ≠ fRounds) (hfOp : formL ws ≠ fOp) :
    Calls Tryz.prog 67 #[.pointer (some ⟨R, 0, none⟩), .slice a n c, .slice (some ⟨b, off, none⟩) q cn] w (MnA w (mean T ws (numsL ws))) := by
  have FO := Mr.hid (formOf_any ws a n c w hW hn hsz)
  have CL := Mr.hid (fun W (hB : Below w.heap.size w W) => call_some ws k a n c b off q cn W (hW.below hB) hg hn h2 hk hf (hN.below hB (fun b' o' e' => by
    cases e'
    rcases hN.2 with h | ⟨b'', o'', e'', hl, _⟩
    · exact absurd (nums_of hg hf) (by rw [h]; have := (fCall_words k (rowN_some hk).1).1; simp; omega)
    · cases e''; exact hl)) hqc)
  have hme : mean T ws (numsL ws) = (callM ws (formL ws) (numsL ws), 1) := by unfold mean; rw [if_neg hfStep, if_neg hfSteps, if_neg hfRounds, if_neg hfOp]
  rw [hme]
  obtain ⟨F, hF⟩ : ∃ F : ByteArray, F = ⟨(formL ws).toArray⟩ := ⟨_, rfl⟩
  rw [← hF] at FO CL
  have kfStep : (F.toList == [48, 32, 46]) = false := by rw [hF, toList_of]; exact beq_eq_false_iff_ne.2 hfStep
  have kfSteps : (F.toList == [48, 32, 46, 32, 48]) = false := by rw [hF, toList_of]; exact beq_eq_false_iff_ne.2 hfSteps
  have kfRounds : (F.toList == [42, 32, 48]) = false := by rw [hF, toList_of]; exact beq_eq_false_iff_ne.2 hfRounds
  have kfOp : (F.toList == [48, 32, 111, 112, 32, 48, 32, 48, 32, 48]) = false := by rw [hF, toList_of]; exact beq_eq_false_iff_ne.2 hfOp
  generalize callM ws (formL ws) (numsL ws) = cm at *
  clear hF hf hme hg hsz hN hW h2 hk h0
  go_enter Tryz.func67, Tryz.ntmps67
  go_upto_region 11 with (go_at_call 65; refine FO.out.mono ?_; clear FO; rintro e w1 ⟨rfl, B1⟩)
  have C1 := Mr.hid (CL.out w1 B1)
  clear CL
  replace B1 := Mr.hid B1
  go_wp2_with (go_at_call 85; refine C1.out.mono ?_; clear C1; rintro e w2 ⟨v, rfl, hh, B2⟩; replace hh := Mr.hid hh; replace B2 := Mr.hid B2)
  go_ret2
  exact ⟨_, rfl, hh.out.mono (fun k hk => Nat.le_trans B1.out.size hk), B1.out.trans (B2.out.mono B1.out.size)⟩
end Go.Proofs.YtcomelbphdjnnaaGreatDoor.Sc
