/-
  SCRIPT: stepOf, tells, form, callLine, stepsAhead, nextLine.
-/
import Derived.Test.YtfhkgeoionkonaaGreatDoorScFill
import Derived.Test.YtfhkgeoionkonaaGreatDoorScOf
import Derived.Deep.RegionHeld3
import Derived.Deep.RegionWith
import Derived.BigQuiet
namespace Go.Proofs.YtfhkgeoionkonaaGreatDoor.Sc
open Go.RowKit Mr
set_option linter.unusedVariables false
set_option linter.unusedSimpArgs false
set_option maxRecDepth 100000
def mvV (m : Mv) : Value := .agg #[.int .i64 m.th, .int .i64 m.op, .int .i64 m.arg, .int .i64 m.data]
theorem stepOf_any (t : Int) (w : World) : Calls Tryz.prog 62 #[.int .i64 t] w fun e w' => e = .returned (.agg #[.int .i64 t, .int .i64 0, .int .i64 0, .int .i64 0]) ∧ Below w.heap.size w w' := by
  go_enter Tryz.func62, Tryz.ntmps62
  go_wp2
  refine bodyPost_ret (v := .agg #[.int .i64 t, .int .i64 0, .int .i64 0, .int .i64 0]) (by simp [results, Tryz.results62, go_sem]) rfl ⟨rfl, ?_⟩
  exact (Below.refl _ _).alloc (Nat.le_refl _) _
def telB (tk ar da : Int) : Bool := (decide (0 < tk) || ar == 0) && (decide (1 < tk) || da == 0)
set_option maxHeartbeats 2000000 in
theorem tells_any (o : Int) (wd : ByteArray) (tk th op ar da : Int) (w : World) :
    Calls Tryz.prog 64 #[.agg #[.int .i64 o, .string wd, .int .i64 tk], .agg #[.int .i64 th, .int .i64 op, .int .i64 ar, .int .i64 da]] w fun e w' => e = .returned (.bool (telB tk ar da)) ∧ Below w.heap.size w w' := by
  have key : ∀ (b1 b2 b3 b4 : Bool), decide (0 < tk) = b1 → (ar == 0) = b2 → decide (1 < tk) = b3 → (da == 0) = b4 → Calls Tryz.prog 64 #[.agg #[.int .i64 o, .string wd, .int .i64 tk], .agg #[.int .i64 th, .int .i64 op, .int .i64 ar, .int .i64 da]] w fun e w' => e = .returned (.bool ((b1 || b2) && (b3 || b4))) ∧ Below w.heap.size w w' := by
    intro b1 b2 b3 b4 e1 e2 e3 e4
    have e1' : decide (tk > 0) = b1 := e1
    have e3' : decide (tk > 1) = b3 := e3
    cases b1 <;> cases b2 <;> cases b3 <;> cases b4 <;> (
      go_enter Tryz.func64, Tryz.ntmps64
      go_wp2
      go_ret
      exact ⟨rfl, ((Below.refl _ _).alloc (Nat.le_refl _) _).alloc (by simp) _⟩)
  exact key _ _ _ _ rfl rfl rfl rfl
def fWd (wd : List UInt8) (tk : Nat) : List UInt8 := [48, 32] ++ wd ++ Lib.repeatL [32, 48] tk
set_option maxHeartbeats 2000000 in
theorem form_any (o : Int) (wd : ByteArray) (tk : Nat) (w : World) (h1 : wd.size ≤ 1000) (h2 : tk ≤ 1000) :
    Calls Tryz.prog 65 #[.agg #[.int .i64 o, .string wd, .int .i64 (tk : Int)]] w fun e w' => e = .returned (.string ⟨(fWd wd.data.toList tk).toArray⟩) ∧ Below w.heap.size w w' := by
  have R : Hid (∀ w, Calls Tryz.prog 78 #[.string ⟨#[32, 48]⟩, .int .i64 (tk : Int)] w fun e w' => e = .returned (.string ⟨(Lib.repeatL [32, 48] tk).toArray⟩) ∧ Below w.heap.size w w') := fun w => Tryz.strings_Repeat ⟨#[32, 48]⟩ tk w (by omega) (by show 2 * tk ≤ _; omega)
  have hl : (⟨(Lib.repeatL [32, 48] tk).toArray⟩ : ByteArray).size ≤ 2000 := by
    have : (Lib.repeatL [32, 48] tk).length = 2 * tk := by rw [Lib.repeatL_length]; simp; omega
    simp [ByteArray.size]; omega
  have hr : Hid ((⟨#[48, 32]⟩ ++ wd) ++ ⟨(Lib.repeatL [32, 48] tk).toArray⟩ = (⟨(fWd wd.data.toList tk).toArray⟩ : ByteArray)) := by
    apply ByteArray.ext
    simp [fWd]
  generalize (⟨(Lib.repeatL [32, 48] tk).toArray⟩ : ByteArray) = T at *
  have k1 : ¬ 9223372036854775807 < 2 + wd.size := by omega
  have k2 : ¬ 9223372036854775807 < 2 + wd.size + T.size := by omega
  go_enter Tryz.func65, Tryz.ntmps65
  go_upto_region 1 with fail
  go_region_held3 (fun W => W.cell? ⟨w.heap.size, 0, none⟩ = some (.int .i64 o) ∧ W.cell? ⟨w.heap.size, 1, none⟩ = some (.string wd) ∧ W.cell? ⟨w.heap.size, 2, none⟩ = some (.int .i64 (tk : Int))) (simp [*, go_sem])
    (first | (go_at_call 78; refine (R.out _).mono ?_; clear R; rintro e w3 ⟨rfl, B3⟩; have E3 : Below w.heap.size w w3 := (((Below.refl _ _).alloc (Nat.le_refl _) _).drew).trans (B3.mono (by simp)); have c0 := (B3.cell (p := ⟨w.heap.size, 0, none⟩) (by simp)); have c1 := (B3.cell (p := ⟨w.heap.size, 1, none⟩) (by simp)); have c2 := (B3.cell (p := ⟨w.heap.size, 2, none⟩) (by simp)); simp at c0 c1 c2; replace E3 := Mr.hid E3; clear B3))
  all_goals (go_wp2; go_ret; exact ⟨by rw [← hr.out]; rfl, E3.out⟩)
theorem rowOf_some {op : Int} {k : Nat} (h : rowOf op = some k) : k < 21 ∧ opA k = op := by
  unfold rowOf at h
  have h1 := List.find?_some h
  have h2 := List.mem_of_find?_eq_some h
  exact ⟨by simpa using h2, by simpa using h1⟩
theorem rowOf_none {op : Int} (h : rowOf op = none) : ∀ j, j < 21 → (opA j == op) = false := by
  unfold rowOf at h
  rw [List.find?_eq_none] at h
  intro j hj
  have := h j (List.mem_range.2 hj)
  simpa using this
theorem fCall_ok (k : Nat) (hk : k < 21) : zer (fCall k) ≤ 3 ∧ (∀ x ∈ fCall k, x.toNat < 128) ∧ (fCall k).length ≤ 1000 ∧ (wdA k).size ≤ 1000 ∧ 0 ≤ tkA k ∧ tkA k ≤ 2 := by
  have := all_below (P := fun k => decide (zer (fCall k) ≤ 3) && (fCall k).all (fun x => decide (x.toNat < 128)) && decide ((fCall k).length ≤ 1000) && decide ((wdA k).size ≤ 1000) && decide (0 ≤ tkA k) && decide (tkA k ≤ 2)) (n := 21) (by decide +kernel) hk
  simp only [Bool.and_eq_true, decide_eq_true_eq, List.all_eq_true] at this
  obtain ⟨⟨⟨⟨⟨h1, h2⟩, h3⟩, h4⟩, h5⟩, h6⟩ := this
  exact ⟨h1, h2, h3, h4, h5, h6⟩
theorem fOp_ok : zer fOp ≤ 4 ∧ (∀ x ∈ fOp, x.toNat < 128) ∧ fOp.length ≤ 1000 := by
  refine ⟨by decide, ?_, by decide⟩
  have : fOp.all (fun x => decide (x.toNat < 128)) = true := by decide
  intro x hx
  simpa using List.all_eq_true.1 this x hx
/-- Numbers that a call has just laid. -/
theorem left_new {w' : World} {g : Nat} (ns : List Int) {vs : Array Value} {t : TypeId} {z : Nat × Nat} (hw : w'.heap[g]? = some (.cells vs t z)) (hv : vs = (ns.map (Value.int .i64)).toArray) : Left w'.heap.size w' (some ⟨g, 0, none⟩) ns.length ns.length ns := by
  subst hv
  have hlt := (Array.getElem?_eq_some_iff.1 hw).1
  refine ⟨⟨rfl, ?_⟩, Nat.le_refl _, ?_⟩
  · by_cases h : ns = []
    · exact .inl h
    · refine .inr ⟨_, 0, rfl, hlt, fun j x hx => ?_⟩
      rw [Nat.zero_add, cell_blk hw]
      simp [hx]
  · rintro b off hb
    cases hb
    exact hlt
def MvB (m : Mv) : Prop := Bd m.th ∧ Bd m.op ∧ Bd m.arg ∧ Bd m.data
end Go.Proofs.YtfhkgeoionkonaaGreatDoor.Sc
