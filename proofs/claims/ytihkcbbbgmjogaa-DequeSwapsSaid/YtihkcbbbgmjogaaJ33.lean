import Derived.Test.YtihkcbbbgmjogaaJ32
import Derived.ProofKit
import Derived.OpenShut
import Derived.Deep.Slices
import Derived.SizedLaws
import Derived.ChangeSame
import Derived.Test.YtihkcbbbgmjogaaJ31
/-
  DEQUE: opening a deque's configuration and a move that came in; DequeAlone, as the frame asks for it.
-/
namespace Go.Proofs.Ytihkcbbbgmjogaa.Dq
open Go.ChangeShapes Go.WideShapes Go.ChangeAt Go.RowKit Go.Deep Mr
set_option linter.unusedVariables false
theorem ci : Try.prog.cellsOf 3 = 1 := by kernel_rfl
theorem cw : Try.prog.cellsOf 56 = 1 := by kernel_rfl
theorem byw : Try.prog.bytesOf 56 = 8 := by kernel_rfl
section
variable {H : Type} {enc : TypeId × Value → H} {w : World} {base : Nat} {spare : Nat → Bool} {held : Bool}
theorem at_of {cs : List Value} {t : Nat} {v : Value} (h : (cs.drop t).take 1 = [v]) : cs[t]? = some v := by
  have : ((cs.drop t).take 1)[0]? = some v := by rw [h]; rfl
  rw [List.getElem?_take] at this
  simpa using this
theorem fldI {n : Nat} {ty : TypeId} {fs : Array Field} {cs : List Value} {x : DataW H × List MemPlace} (hs : Try.prog.underlying ty = some (.struct fs)) (h : DataW.trod enc Try.prog w base spare held n ty cs = some x) (t : Nat) (f : Field) (hf : fs[t]? = some f) (ho : f.offset = t) (hc : Try.prog.cellsOf f.type = 1) (hk : Try.prog.underlying f.type = some (.int .i64)) : ∃ z, cs[t]? = some (Value.int .i64 z) := by
  obtain ⟨xs, m, _, _, hl, hxl, hx⟩ := DataW.trod_struct hs h
  have q := hx t f hf
  rw [ho, hc] at q
  have ht : t < fs.size := (Array.getElem?_eq_some_iff.1 hf).1
  rw [List.getElem?_eq_getElem (by omega)] at q
  obtain ⟨z, hz, _, _⟩ := DataW.trod_int hk q
  exact ⟨z, at_of hz⟩
set_option maxRecDepth 100000 in
theorem open_deq {r : Reach} {b0 : Nat} {v : Value} {d : DataW H} {p : List MemPlace} (hv : Value.okWide Try.prog w r b0 23 v) (h : DataW.Trod enc Try.prog w base spare held 23 v d p) : ∃ th rm : Int, v = dV th rm := by
  obtain ⟨cs, rfl, hcs⟩ := okWide_struct Try.underlying23 hv
  obtain ⟨fuel, hf⟩ := h
  obtain ⟨z0, e0⟩ := fldI Try.underlying23 hf 0 _ rfl rfl ci Try.underlying3
  obtain ⟨z1, e1⟩ := fldI Try.underlying23 hf 1 _ rfl rfl ci Try.underlying3
  have h9 : (Value.agg cs).cells.toList = cs.toList := rfl
  rw [h9] at e0 e1
  have hl2 : cs.toList.length = 2 := by
    have h8 : Try.prog.cellsOf 23 = 2 := by kernel_rfl
    rw [h8] at hcs
    simpa using hcs
  refine ⟨z0, z1, ?_⟩
  have hc2 : cs = #[.int .i64 z0, .int .i64 z1] := by
    apply Array.ext'
    apply List.ext_getElem?
    intro i
    match i with
    | 0 => exact e0
    | 1 => exact e1
    | i + 2 => rw [List.getElem?_eq_none (by omega)]; rfl
  rw [hc2]; rfl
set_option maxRecDepth 100000 in
theorem open_mq {r : Reach} {b0 : Nat} {v : Value} {d : DataW H} {p : List MemPlace} (hv : Value.okWide Try.prog w r b0 27 v) (h : DataW.Trod enc Try.prog w base spare held 27 v d p) : ∃ a b c d : Int, v = .agg #[.int .i64 a, .int .i64 b, .int .i64 c, .int .i64 d] := by
  obtain ⟨cs, rfl, hcs⟩ := okWide_struct Try.underlying27 hv
  obtain ⟨fuel, hf⟩ := h
  obtain ⟨z0, e0⟩ := fldI Try.underlying27 hf 0 _ rfl rfl ci Try.underlying3
  obtain ⟨z1, e1⟩ := fldI Try.underlying27 hf 1 _ rfl rfl (by kernel_rfl) Try.underlying25
  obtain ⟨z2, e2⟩ := fldI Try.underlying27 hf 2 _ rfl rfl ci Try.underlying3
  obtain ⟨z3, e3⟩ := fldI Try.underlying27 hf 3 _ rfl rfl ci Try.underlying3
  have h9 : (Value.agg cs).cells.toList = cs.toList := rfl
  rw [h9] at e0 e1 e2 e3
  have hl2 : cs.toList.length = 4 := by
    have h8 : Try.prog.cellsOf 27 = 4 := by kernel_rfl
    rw [h8] at hcs
    simpa using hcs
  refine ⟨z0, z1, z2, z3, ?_⟩
  have hc2 : cs = #[.int .i64 z0, .int .i64 z1, .int .i64 z2, .int .i64 z3] := by
    apply Array.ext'
    apply List.ext_getElem?
    intro i
    match i with
    | 0 => exact e0
    | 1 => exact e1
    | 2 => exact e2
    | 3 => exact e3
    | k + 4 => simp [List.getElem?_eq_none_iff.2 (show cs.toList.length ≤ k + 4 by omega)]
  rw [hc2]
end
end Go.Proofs.Ytihkcbbbgmjogaa.Dq
namespace Go.Proofs.Ytihkcbbbgmjogaa.Dm
open Go.RowKit Go.Shelf Mr Me Ma Gm Dq
theorem dqB_of {th rm : Int} (h : dqB th rm = true) : 1 ≤ th ∧ th ≤ 16 ∧ 1 ≤ rm ∧ rm ≤ 256 := by
  simp only [dqB, Bool.and_eq_true, decide_eq_true_eq] at h; omega
theorem alone_law (th rm : Int) (am : Option Addr) (nm cm : Nat) (ms : List Mv) (x m0 m1 m2 m3 : Int) (w : World) (hm : MvAt w am nm ms) (_ : nm ≤ cm) (_ : (Lit.int .i64 x).wf = true) :
    Calls Try.prog 3 #[.agg #[.int .i64 th, .int .i64 rm], .slice am nm cm, .int .i64 x, .agg #[.int .i64 m0, .int .i64 m1, .int .i64 m2, .int .i64 m3]] w fun e w' => e = .returned (.bool true) ∧ Below w.heap.size w w' := by
  by_cases hd : dqB th rm = true
  · by_cases hn : nm ≤ 65516
    · have h1 := dqB_of hd
      obtain ⟨nt, rfl⟩ : ∃ nt : Nat, th = nt := ⟨th.toNat, by omega⟩
      obtain ⟨r, rfl⟩ : ∃ r : Nat, rm = r := ⟨rm.toNat, by omega⟩
      exact alone_yes w nt r hd am nm cm ms hm hn x m0 m1 m2 m3
    · exact alone_not w th rm am nm cm x m0 m1 m2 m3 (.inr (by omega))
  · exact alone_not w th rm am nm cm x m0 m1 m2 m3 (.inl (by simpa using hd))
end Go.Proofs.Ytihkcbbbgmjogaa.Dm
/-
  DequeSwaps, as the frame asks for it.
-/
namespace Go.Proofs.Ytihkcbbbgmjogaa.Dm
open Go.RowKit Go.Shelf Mr Me Ma Gm Dq
theorem swaps_law (th rm : Int) (am : Option Addr) (nm cm : Nat) (ms : List Mv) (w : World) (hm : MvAt w am nm ms) (_ : nm ≤ cm) :
    Calls Try.prog 5 #[.agg #[.int .i64 th, .int .i64 rm], .slice am nm cm] w fun e w' => e = .returned (.bool true) ∧ Below w.heap.size w w' := by
  cases h : (dqB th rm && decide ((nm : Int) ≤ 65536)) with
  | false => exact swaps_not w th rm am nm cm h
  | true =>
    rw [Bool.and_eq_true, decide_eq_true_eq] at h
    have h1 := dqB_of h.1
    obtain ⟨nt, rfl⟩ : ∃ nt : Nat, th = nt := ⟨th.toNat, by omega⟩
    obtain ⟨r, rfl⟩ : ∃ r : Nat, rm = r := ⟨rm.toNat, by omega⟩
    exact swaps_yes w nt r h.1 am nm cm ms hm (by omega)
end Go.Proofs.Ytihkcbbbgmjogaa.Dm
