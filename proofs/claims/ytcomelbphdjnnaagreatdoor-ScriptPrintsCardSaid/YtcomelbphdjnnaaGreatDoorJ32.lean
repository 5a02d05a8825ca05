import Derived.Test.YtcomelbphdjnnaaGreatDoorJ30
import Derived.Test.YtcomelbphdjnnaaGreatDoorJ31
import Derived.Test.YtcomelbphdjnnaaGreatDoorJ26
import Derived.Laws.IdiomStrings
/-
  SCRIPT: ScriptPrints.
-/
namespace Go.Proofs.YtcomelbphdjnnaaGreatDoor.Sc
open Go.RowKit Mr
open Go.Lib (itoa)
set_option linter.unusedVariables false
set_option linter.unusedSimpArgs false
set_option maxRecDepth 100000
theorem refPrint_any (c0 c1 c2 c3 c4 c5 c6 : Int) (a : Option Addr) (n cap : Nat) (ms : List Mv) (w : World) (hM : MvAt w a n ms) (hm : ∀ m ∈ ms, MvB m) :
    Calls Tryz.prog 7 #[.agg #[.int .i64 c0, .int .i64 c1, .int .i64 c2, .int .i64 c3, .int .i64 c4, .int .i64 c5, .int .i64 c6], .slice a n cap] w fun e w' => e = .returned (.tuple #[.string (prT (Wc.cfgB c0 c1 c2 c3 c4 c5 c6) [c0, c1, c2, c3, c4, c5, c6] ms), .int .i64 (prE (Wc.cfgB c0 c1 c2 c3 c4 c5 c6) [c0, c1, c2, c3, c4, c5, c6] ms)]) ∧ Below w.heap.size w w' := by
  by_cases hcf : Wc.cfgB c0 c1 c2 c3 c4 c5 c6 = true
  · by_cases hn : n ≤ 65536
    · exact refPrint_good c0 c1 c2 c3 c4 c5 c6 a n cap ms w hcf hM hm hn
    · exact refPrint_long c0 c1 c2 c3 c4 c5 c6 a n cap ms w hcf hM.1 hn
  · exact refPrint_bad c0 c1 c2 c3 c4 c5 c6 a n cap ms w (eq_false_of_ne_true hcf)
theorem MvAt.cut9 {W : World} {S : Nat → Prop} {nm g cap : Nat} {ms : List Mv} (hl : nm = ms.length) (hv : Has W S 42 4 (.slice (some ⟨g, 0, none⟩) (nm + 9) cap) (nm + 9) (mvc (twl ms 9))) : MvAt W (some ⟨g, 0, none⟩) nm ms := by
  refine ⟨hl, .inr ⟨g, 0, rfl, (hv.lt g rfl).2, fun i hi => ?_⟩⟩
  have hx : (twl ms 9)[i]? = some (ms[i]?.getD noMv) := by rw [twl_old ms 9 i hi, List.getElem?_eq_getElem hi]; rfl
  generalize ms[i]?.getD noMv = x at *
  rw [Nat.zero_add]
  have hc : ∀ (p : Nat) (u : Value), p < 4 → x.cells[p]? = some u → W.cell? ⟨g, i * 4 + p, none⟩ = some u := fun p u hp hu => hv.cells (g := g) rfl _ _ (by rw [mvc_get _ _ _ x hx hp]; exact hu)
  have e0 := hc 0 _ (by decide) rfl
  rw [Nat.add_zero] at e0
  exact ⟨e0, hc 1 _ (by decide) rfl, hc 2 _ (by decide) rfl, hc 3 _ (by decide) rfl⟩
theorem cap9 {W : World} {S : Nat → Prop} {nm g cap : Nat} {xs : List Value} (hv : Has W S 42 4 (.slice (some ⟨g, 0, none⟩) (nm + 9) cap) (nm + 9) xs) : nm ≤ cap := by
  obtain ⟨g', cp', h1, _, _, h2, _⟩ := hv.there (by omega)
  injection h1 with h3 h4 h5
  omega
set_option maxHeartbeats 8000000 in
theorem law_prints (c0 c1 c2 c3 c4 c5 c6 : Int) (a : Option Addr) (n cap : Nat) (ms : List Mv) (w : World) (hw : (Lit.int .i64 c0).wf = true ∧ (Lit.int .i64 c1).wf = true ∧ (Lit.int .i64 c2).wf = true ∧ (Lit.int .i64 c3).wf = true ∧ (Lit.int .i64 c4).wf = true ∧ (Lit.int .i64 c5).wf = true ∧ (Lit.int .i64 c6).wf = true) (hM : MvAt w a n ms) (hcap : n ≤ cap) (hm : ∀ m ∈ ms, MvB m) (hz : n * 32 ≤ 140737488351232) (V : Env w) :
    Calls Tryz.prog 3 #[.agg #[.int .i64 c0, .int .i64 c1, .int .i64 c2, .int .i64 c3, .int .i64 c4, .int .i64 c5, .int .i64 c6], .slice a n cap] w fun e w' => e = .returned (.bool true) ∧ Below w.heap.size w w' := by
  have hbd : ∀ x ∈ [c0, c1, c2, c3, c4, c5, c6], Bd x := by
    obtain ⟨w0, w1, w2, w3, w4, w5, w6⟩ := hw
    intro x hx
    simp only [List.mem_cons, List.not_mem_nil, or_false] at hx
    rcases hx with rfl | rfl | rfl | rfl | rfl | rfl | rfl
    all_goals first | exact bounds_i64 w0 | exact bounds_i64 w1 | exact bounds_i64 w2 | exact bounds_i64 w3 | exact bounds_i64 w4 | exact bounds_i64 w5 | exact bounds_i64 w6
  have hl := hM.1
  have TW : Hid (∀ W, Below w.heap.size w W → Calls Tryz.prog 5 #[.slice a n cap] W fun e w' => ∃ g cap, e = .returned (.tuple #[.slice (some ⟨g, 0, none⟩) n cap, .slice (some ⟨g, 0, none⟩) (n + 9) cap]) ∧ Has w' (fun k => W.heap.size ≤ k) 42 4 (.slice (some ⟨g, 0, none⟩) (n + 9) cap) (n + 9) (mvc (twl ms 9)) ∧ Below W.heap.size W w') := fun W hB => Twin_any W a n cap ms (hM.below hB) hz
  have PR : Hid (∀ W b c, Below w.heap.size w W → MvAt W b n ms → n ≤ c → Calls Tryz.prog 6 #[.agg #[.int .i64 c0, .int .i64 c1, .int .i64 c2, .int .i64 c3, .int .i64 c4, .int .i64 c5, .int .i64 c6], .slice b n c] W fun e w' => e = .returned (.tuple #[.string (prT (Wc.cfgB c0 c1 c2 c3 c4 c5 c6) [c0, c1, c2, c3, c4, c5, c6] ms), .int .i64 (prE (Wc.cfgB c0 c1 c2 c3 c4 c5 c6) [c0, c1, c2, c3, c4, c5, c6] ms)]) ∧ Below W.heap.size W w') := fun W b c hB h1 h2 => Print_any c0 c1 c2 c3 c4 c5 c6 b n c ms W (V.below hB) h1 hm hbd h2
  have RP : Hid (∀ W, Below w.heap.size w W → Calls Tryz.prog 7 #[.agg #[.int .i64 c0, .int .i64 c1, .int .i64 c2, .int .i64 c3, .int .i64 c4, .int .i64 c5, .int .i64 c6], .slice a n cap] W fun e w' => e = .returned (.tuple #[.string (prT (Wc.cfgB c0 c1 c2 c3 c4 c5 c6) [c0, c1, c2, c3, c4, c5, c6] ms), .int .i64 (prE (Wc.cfgB c0 c1 c2 c3 c4 c5 c6) [c0, c1, c2, c3, c4, c5, c6] ms)]) ∧ Below W.heap.size W w') := fun W hB => refPrint_any c0 c1 c2 c3 c4 c5 c6 a n cap ms W (hM.below hB) hm
  have WH : Hid (∀ W (S : Nat → Prop) g cp, Below w.heap.size w W → Has W S 42 4 (.slice (some ⟨g, 0, none⟩) (n + 9) cp) (n + 9) (mvc (twl ms 9)) → Calls Tryz.prog 8 #[.slice a n cap, .slice (some ⟨g, 0, none⟩) (n + 9) cp] W fun e w' => e = .returned (.bool true) ∧ Below W.heap.size W w') := fun W S g cp hB hv => Whole_any (hM.below hB) hv hz
  have AW : Hid (∀ W, Below w.heap.size w W → Calls Tryz.prog 9 #[] W fun e w' => e = .returned (.bool true) ∧ Below W.heap.size W w') := fun W hB => awake_any W (V.below hB)
  have B0 : Hid (Below w.heap.size w (w.alloc (.cells #[.int .i64 c0, .int .i64 c1, .int .i64 c2, .int .i64 c3, .int .i64 c4, .int .i64 c5, .int .i64 c6] 23))) := (Below.refl _ _).alloc (Nat.le_refl _) _
  have hbx : Hid ((w.alloc (.cells #[.int .i64 c0, .int .i64 c1, .int .i64 c2, .int .i64 c3, .int .i64 c4, .int .i64 c5, .int .i64 c6] 23)).heap[w.heap.size]? = some (.cells #[.int .i64 c0, .int .i64 c1, .int .i64 c2, .int .i64 c3, .int .i64 c4, .int .i64 c5, .int .i64 c6] 23 (0, 0))) := new_at _ _ _ rfl
  generalize prT (Wc.cfgB c0 c1 c2 c3 c4 c5 c6) [c0, c1, c2, c3, c4, c5, c6] ms = T at *
  generalize prE (Wc.cfgB c0 c1 c2 c3 c4 c5 c6) [c0, c1, c2, c3, c4, c5, c6] ms = z at *
  have T0 := Mr.hid (TW.out _ B0.out)
  replace hl := Mr.hid hl
  clear hM hm hbd hw V hcap hz TW
  go_enter Tryz.func3, Tryz.ntmps3
  go_wp2_with (first
    | (go_at_call 5; refine T0.out.mono ?_; clear T0; rintro e w1 ⟨g, cp, rfl, hv, B1⟩; have BB1 : Below w.heap.size w w1 := B0.out.trans (B1.mono B0.out.size); have hb1 : w1.heap[w.heap.size]? = some (.cells #[.int .i64 c0, .int .i64 c1, .int .i64 c2, .int .i64 c3, .int .i64 c4, .int .i64 c5, .int .i64 c6] 23 (0, 0)) := (B1.block _ (by simp)).trans hbx.out; have l1 := (Array.getElem?_eq_some_iff.1 hb1).1; have hcp := Mr.hid (cap9 hv); have k0 := cell_blk hb1 0; have k1 := cell_blk hb1 1; have k2 := cell_blk hb1 2; have k3 := cell_blk hb1 3; have k4 := cell_blk hb1 4; have k5 := cell_blk hb1 5; have k6 := cell_blk hb1 6; have P1 := Mr.hid (PR.out w1 (some ⟨g, 0, none⟩) cp BB1 (MvAt.cut9 hl.out hv) hcp.out); replace hv := Mr.hid hv; replace BB1 := Mr.hid BB1; replace hb1 := Mr.hid hb1; clear PR B1 B0 hbx hcp hl)
    | (go_at_call 6; refine P1.out.mono ?_; clear P1; rintro e w2 ⟨rfl, B2⟩; clear k0 k1 k2 k3 k4 k5 k6; have BB2 : Below w.heap.size w w2 := BB1.out.trans (B2.mono BB1.out.size); have hb2 : w2.heap[w.heap.size]? = some (.cells #[.int .i64 c0, .int .i64 c1, .int .i64 c2, .int .i64 c3, .int .i64 c4, .int .i64 c5, .int .i64 c6] 23 (0, 0)) := (B2.block _ l1).trans hb1.out; have l2 := (Array.getElem?_eq_some_iff.1 hb2).1; have k0 := cell_blk hb2 0; have k1 := cell_blk hb2 1; have k2 := cell_blk hb2 2; have k3 := cell_blk hb2 3; have k4 := cell_blk hb2 4; have k5 := cell_blk hb2 5; have k6 := cell_blk hb2 6; have hv2 := Mr.hid (hv.out.below B2); have R1 := Mr.hid (RP.out w2 BB2); replace BB2 := Mr.hid BB2; clear hv hb1 hb2 B2 BB1 RP l1)
    | (go_at_call 7; refine R1.out.mono ?_; clear R1; rintro e w3 ⟨rfl, B3⟩; clear k0 k1 k2 k3 k4 k5 k6; have BB3 : Below w.heap.size w w3 := BB2.out.trans (B3.mono BB2.out.size); have H1 := Mr.hid (WH.out w3 _ g cp BB3 (hv2.out.below B3)); have A1 := Mr.hid (fun W (h : Below w3.heap.size w3 W) => AW.out W (BB3.trans (h.mono BB3.size))); replace BB3 := Mr.hid BB3; clear hv2 B3 BB2 WH AW)
    | (go_at_call 8; refine H1.out.mono ?_; clear H1; rintro e w4 ⟨rfl, B4⟩; have A2 := Mr.hid (A1.out _ B4); replace B4 := Mr.hid B4; clear A1)
    | (go_at_call 9; refine A2.out.mono ?_; clear A2; rintro e w5 ⟨rfl, B5⟩; replace B5 := Mr.hid B5))
  go_ret
  exact ⟨by simp, BB3.out.trans ((B4.out.trans (B5.out.mono B4.out.size)).mono BB3.out.size)⟩
end Go.Proofs.YtcomelbphdjnnaaGreatDoor.Sc
