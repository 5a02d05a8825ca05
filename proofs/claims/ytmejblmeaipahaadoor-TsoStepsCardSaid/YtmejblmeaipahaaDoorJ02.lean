import Derived.Test.YtmejblmeaipahaaDoorJ01
import Derived.Test.YtmejblmeaipahaaDoorRows
import Derived.Lib.LaidTab
import Derived.Stop.LaidErr
import Derived.LaidMore
import Derived.Stop.Joined
import Derived.OpenShut
import Derived.ChangeArms
/-
  TSO: what the row lists gives the walks; one start that fits.
-/
namespace Go.Proofs.YtmejblmeaipahaaDoor.Ts
open Go.RowKit
set_option linter.unusedVariables false
theorem gL : Tryd.prog.globalNamed "reclaim/tso.looks" = some 0 := by kernel_rfl
theorem gLT : (Tryd.prog.globals[0]?).map (·.type) = some 107 := by kernel_rfl
theorem cL : Tryd.prog.cellsOf 107 = 32 := by kernel_rfl
theorem cl1 : Tryd.prog.cellsOf 106 = 4 := by kernel_rfl
theorem cb : Tryd.prog.cellsOf 4 = 1 := by kernel_rfl
def lkD (k f : Nat) : DataW Unit := .lit (.bool (lkA k f))
theorem looks_eq : (Rows.laid_reclaim_tso_looks : DataW Unit) = .agg [.agg [lkD 0 0, lkD 0 1, lkD 0 2, lkD 0 3], .agg [lkD 1 0, lkD 1 1, lkD 1 2, lkD 1 3], .agg [lkD 2 0, lkD 2 1, lkD 2 2, lkD 2 3], .agg [lkD 3 0, lkD 3 1, lkD 3 2, lkD 3 3], .agg [lkD 4 0, lkD 4 1, lkD 4 2, lkD 4 3], .agg [lkD 5 0, lkD 5 1, lkD 5 2, lkD 5 3], .agg [lkD 6 0, lkD 6 1, lkD 6 2, lkD 6 3], .agg [lkD 7 0, lkD 7 1, lkD 7 2, lkD 7 3]] := rfl
def lkL : List (DataW Unit) := [.agg [lkD 0 0, lkD 0 1, lkD 0 2, lkD 0 3], .agg [lkD 1 0, lkD 1 1, lkD 1 2, lkD 1 3], .agg [lkD 2 0, lkD 2 1, lkD 2 2, lkD 2 3], .agg [lkD 3 0, lkD 3 1, lkD 3 2, lkD 3 3], .agg [lkD 4 0, lkD 4 1, lkD 4 2, lkD 4 3], .agg [lkD 5 0, lkD 5 1, lkD 5 2, lkD 5 3], .agg [lkD 6 0, lkD 6 1, lkD 6 2, lkD 6 3], .agg [lkD 7 0, lkD 7 1, lkD 7 2, lkD 7 3]]
theorem lkL_get (k : Nat) (hk : k < 8) : lkL[k]? = some (.agg [lkD k 0, lkD k 1, lkD k 2, lkD k 3]) := by
  match k, hk with
  | 0, _ => rfl
  | 1, _ => rfl
  | 2, _ => rfl
  | 3, _ => rfl
  | 4, _ => rfl
  | 5, _ => rfl
  | 6, _ => rfl
  | 7, _ => rfl
theorem cells_of_looks {enc : TypeId × Value → Unit} {w : World} {base : Nat} {sp : Nat → Bool} {held : Bool} {fuel : Nat} {cs : List Value} {p : List MemPlace}
    (h : DataW.trod enc Tryd.prog w base sp held fuel 107 cs = some (Rows.laid_reclaim_tso_looks, p)) : ∀ k f, k < 8 → f < 4 → cs[k * 4 + f]? = some (.bool (lkA k f)) := by
  obtain ⟨xs, m, -, hx, hl, hxl, hel⟩ := DataW.trod_array Tryd.underlying107 h
  have hxs : xs.map (·.1) = lkL := by
    have := congrArg Prod.fst hx
    rw [looks_eq] at this
    have h2 : (DataW.agg lkL : DataW Unit) = .agg (xs.map (·.1)) := this
    injection h2 with h3
    exact h3.symm
  intro k f hk hf
  have h1 := hel k hk
  rw [cl1] at h1
  have hxk : k < xs.length := by omega
  rw [List.getElem?_eq_getElem hxk] at h1
  obtain ⟨ys, m2, -, hy, hyl, hys, hyel⟩ := DataW.trod_struct Tryd.underlying106 h1
  have e1 : (xs.map (·.1))[k]? = some (.agg (ys.map (·.1))) := by
    rw [List.getElem?_map, List.getElem?_eq_getElem hxk, hy]; rfl
  rw [hxs, lkL_get k hk] at e1
  injection e1 with e2
  injection e2 with e3
  have key : ∀ (g : Nat) (fd : Field), (match g with | 0 => some fd | 1 => some fd | 2 => some fd | 3 => some fd | _ => none) = some fd → True := fun _ _ _ => trivial
  have hys4 : ys.length = 4 := hys
  have hyf : (ys.map (·.1))[f]? = some (lkD k f) := by
    rw [← e3]
    match f, hf with
    | 0, _ => rfl
    | 1, _ => rfl
    | 2, _ => rfl
    | 3, _ => rfl
  have hfl : f < ys.length := by omega
  rw [List.getElem?_map, List.getElem?_eq_getElem hfl] at hyf
  have hyf' : (ys[f]).1 = lkD k f := by simpa using hyf
  have one : ∀ (o : Nat), o = f → DataW.trod enc Tryd.prog w base sp held m2 4 ((((cs.drop (k * 4)).take 4).drop o).take 1) = ys[f]? → cs[k * 4 + f]? = some (.bool (lkA k f)) := by
    intro o ho q
    subst ho
    rw [List.getElem?_eq_getElem hfl] at q
    obtain ⟨bb, hb1, hb2⟩ := DataW.trod_bool Tryd.underlying4 q
    rw [hb2] at hyf'
    have hbb : bb = lkA k o := by simpa [lkD] using hyf'
    subst hbb
    have := congrArg (·[0]?) hb1
    simp only [List.getElem?_take, List.getElem?_drop] at this
    have h4 : o < 4 := hf
    simpa [h4] using this
  match f, hf with
  | 0, _ => exact one 0 rfl (by have := hyel 0 _ rfl; simpa [cb] using this)
  | 1, _ => exact one 1 rfl (by have := hyel 1 _ rfl; simpa [cb] using this)
  | 2, _ => exact one 2 rfl (by have := hyel 2 _ rfl; simpa [cb] using this)
  | 3, _ => exact one 3 rfl (by have := hyel 3 _ rfl; simpa [cb] using this)
theorem env_of_laid {W : World} (h : laidMetH Tryd.prog Rows.tsoRunsRow.laid W) : Env W := by
  rw [MakeChecks.laidMetH_plain _ _ _ (by kernel_rfl)] at h
  have h1 : laidMet Tryd.prog [("reclaim/tso.looks", Rows.laid_reclaim_tso_looks)] W := h
  obtain ⟨ps, ⟨g', t', cs, fuel, p, q, hg', ht', hvar, hd, _, _⟩, _⟩ := h1
  obtain rfl := Option.some.inj (gL.symm.trans hg')
  obtain rfl := Option.some.inj (gLT.symm.trans ht')
  have hc := cells_of_looks hd
  have key : ∀ k f, k < 8 → f < 4 → W.cell? ⟨0, k * 4 + f, none⟩ = some (.bool (lkA k f)) := fun k f hk hf => by
    have h9 := World.var?_cell gL hvar (k * 4 + f)
    rw [h9]
    simpa using hc k f hk hf
  exact ⟨key, World.block_lt_of_cell? _ _ (key 0 0 (by decide) (by decide))⟩
theorem door_met (os : Os) (args : Array Value) : laidMetH Tryd.prog Rows.tsoRunsRow.laid ((World.doorLaid Tryd.prog 400 os).forCall (fun _ _ => 0) ⟨#[], args, []⟩).memory :=
  laidMetH_of_parts3 (fuel := 8) (laidMet_of_run' 8 (by kernel_rfl) (by kernel_rfl)) (by kernel_rfl) (by kernel_rfl)
end Go.Proofs.YtmejblmeaipahaaDoor.Ts
/-
  TSO: the parts of a state's array.
-/
namespace Go.Proofs.YtmejblmeaipahaaDoor.Ts
open Go.RowKit Mr
set_option linter.unusedVariables false
set_option linter.unusedSimpArgs false
set_option maxRecDepth 100000
/-- A state's array. -/
def Ar (W : World) (b : Nat) (cs : Array Value) : Prop := W.heap[b]? = some (.cells cs 62 (0, 0)) ∧ cs.size = 118
set_option maxHeartbeats 4000000 in
theorem words_any (b : Nat) (cs : Array Value) (w : World) (h : Ar w b cs) : Calls Tryd.prog 35 #[.pointer (some ⟨b, 0, none⟩)] w fun e w' => e = .returned (.slice (some ⟨b, 0, none⟩) 6 118) ∧ w' = w := by
  have lb := (Array.getElem?_eq_some_iff.1 h.1).1
  have hbx := h.1
  go_enter Tryd.func35, Tryd.ntmps35
  go_wp2
  go_ret
  exact ⟨rfl, rfl⟩
set_option maxHeartbeats 4000000 in
theorem place_any (b t : Nat) (cs : Array Value) (w : World) (h : Ar w b cs) (ht : t < 4) : Calls Tryd.prog 40 #[.pointer (some ⟨b, 0, none⟩), .int .i64 (t : Int)] w fun e w' => e = .returned (.pointer (some ⟨b, 22 + t, none⟩)) ∧ w' = w := by
  have lb := (Array.getElem?_eq_some_iff.1 h.1).1
  have hbx := h.1
  obtain ⟨q, hq⟩ : ∃ q : Nat, q = 22 + t := ⟨_, rfl⟩
  have hw : IntKind.i64.wrap (22 + (t : Int)) = (q : Int) := (i64x _ (by omega) (by omega)).trans (by omega)
  have hlI : (q : Int) < 118 := by omega
  rw [← hq]
  replace hq := Mr.hid hq
  go_enter Tryd.func40, Tryd.ntmps40
  go_wp2
  go_ret
  exact ⟨rfl, rfl⟩
set_option maxHeartbeats 4000000 in
theorem waits_any (b t : Nat) (cs : Array Value) (w : World) (h : Ar w b cs) (ht : t < 4) : Calls Tryd.prog 41 #[.pointer (some ⟨b, 0, none⟩), .int .i64 (t : Int)] w fun e w' => e = .returned (.pointer (some ⟨b, 26 + t, none⟩)) ∧ w' = w := by
  have lb := (Array.getElem?_eq_some_iff.1 h.1).1
  have hbx := h.1
  obtain ⟨q, hq⟩ : ∃ q : Nat, q = 26 + t := ⟨_, rfl⟩
  have hw : IntKind.i64.wrap (26 + (t : Int)) = (q : Int) := (i64x _ (by omega) (by omega)).trans (by omega)
  have hlI : (q : Int) < 118 := by omega
  rw [← hq]
  replace hq := Mr.hid hq
  go_enter Tryd.func41, Tryd.ntmps41
  go_wp2
  go_ret
  exact ⟨rfl, rfl⟩
set_option maxHeartbeats 4000000 in
theorem regs_any (b t : Nat) (cs : Array Value) (w : World) (h : Ar w b cs) (ht : t < 4) : Calls Tryd.prog 45 #[.pointer (some ⟨b, 0, none⟩), .int .i64 (t : Int)] w fun e w' => e = .returned (.slice (some ⟨b, 6 + t * 4, none⟩) 4 (118 - (6 + t * 4))) ∧ w' = w := by
  have lb := (Array.getElem?_eq_some_iff.1 h.1).1
  have hbx := h.1
  obtain ⟨m, hm⟩ : ∃ m : Nat, m = t * 4 := ⟨_, rfl⟩
  obtain ⟨q, hq⟩ : ∃ q : Nat, q = 6 + m := ⟨_, rfl⟩
  obtain ⟨z, hz⟩ : ∃ z : Nat, z = q + 4 := ⟨_, rfl⟩
  have hw1 : IntKind.i64.wrap ((t : Int) * 4) = (m : Int) := (i64x _ (by omega) (by omega)).trans (by omega)
  have hw2 : IntKind.i64.wrap (6 + (m : Int)) = (q : Int) := (i64x _ (by omega) (by omega)).trans (by omega)
  have hw3 : IntKind.i64.wrap ((q : Int) + 4) = (z : Int) := (i64x _ (by omega) (by omega)).trans (by omega)
  have l1 : (q : Int) ≤ (z : Int) := by omega
  have l2 : (z : Int) ≤ 118 := by omega
  have l3 : q ≤ z := by omega
  have l4 : q < 118 := by omega
  have l5 : z ≤ 118 := by omega
  have e4 : z - q = 4 := by omega
  rw [← hm, ← hq]
  replace hm := Mr.hid hm
  replace hq := Mr.hid hq
  replace hz := Mr.hid hz
  replace e4 := Mr.hid e4
  go_enter Tryd.func45, Tryd.ntmps45
  go_wp2
  go_ret
  exact ⟨by show Ending.returned (Value.slice (some ⟨b, q, none⟩) (z - q) (118 - q)) = _; rw [e4.out], rfl⟩
set_option maxHeartbeats 4000000 in
theorem buffer_any (b t : Nat) (cs : Array Value) (w : World) (h : Ar w b cs) (ht : t < 4) : Calls Tryd.prog 55 #[.pointer (some ⟨b, 0, none⟩), .int .i64 (t : Int)] w fun e w' => e = .returned (.slice (some ⟨b, 30 + t * 22, none⟩) 22 (118 - (30 + t * 22))) ∧ w' = w := by
  have lb := (Array.getElem?_eq_some_iff.1 h.1).1
  have hbx := h.1
  obtain ⟨m, hm⟩ : ∃ m : Nat, m = t * 22 := ⟨_, rfl⟩
  obtain ⟨q, hq⟩ : ∃ q : Nat, q = 30 + m := ⟨_, rfl⟩
  obtain ⟨z, hz⟩ : ∃ z : Nat, z = q + 22 := ⟨_, rfl⟩
  have hw1 : IntKind.i64.wrap ((t : Int) * 22) = (m : Int) := (i64x _ (by omega) (by omega)).trans (by omega)
  have hw2 : IntKind.i64.wrap (30 + (m : Int)) = (q : Int) := (i64x _ (by omega) (by omega)).trans (by omega)
  have hw3 : IntKind.i64.wrap ((q : Int) + 22) = (z : Int) := (i64x _ (by omega) (by omega)).trans (by omega)
  have l1 : (q : Int) ≤ (z : Int) := by omega
  have l2 : (z : Int) ≤ 118 := by omega
  have l3 : q ≤ z := by omega
  have l4 : q < 118 := by omega
  have l5 : z ≤ 118 := by omega
  have e4 : z - q = 22 := by omega
  rw [← hm, ← hq]
  replace hm := Mr.hid hm
  replace hq := Mr.hid hq
  replace hz := Mr.hid hz
  replace e4 := Mr.hid e4
  go_enter Tryd.func55, Tryd.ntmps55
  go_wp2
  go_ret
  exact ⟨by show Ending.returned (Value.slice (some ⟨b, q, none⟩) (z - q) (118 - q)) = _; rw [e4.out], rfl⟩
end Go.Proofs.YtmejblmeaipahaaDoor.Ts
