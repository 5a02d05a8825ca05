/-
  DEQUE: opening a deque's configuration and words that came in.
-/
import Derived.Test.YtkbikhpmfhgjnaaDqLefts
import Derived.ProofKit
import Derived.OpenShut
import Derived.Deep.Slices
import Derived.SizedLaws
import Derived.ChangeSame
namespace Go.Proofs.Ytkbikhpmfhgjnaa.Dq
open Go.ChangeShapes Go.WideShapes Go.ChangeAt Go.RowKit Go.Deep Mr
set_option linter.unusedVariables false
theorem ci : Try.prog.cellsOf 3 = 1 := by kernel_rfl
theorem cw : Try.prog.cellsOf 68 = 1 := by kernel_rfl
theorem byw : Try.prog.bytesOf 68 = 8 := by kernel_rfl
section
variable {H : Type} {enc : TypeId × Value → H} {w : World} {base : Nat} {spare : Nat → Bool} {held : Bool}
theorem at_of {cs : List Value} {t : Nat} {v : Value} (h : (cs.drop t).take 1 = [v]) : cs[t]? = some v := by
  have : ((cs.drop t).take 1)[0]? = some v := by rw [h]; rfl
  rw [List.getElem?_take] at this
  simpa using this
theorem fldI {n : Nat} {ty : TypeId} {fs : Array Field} {cs : List Value} {x : DataW H × List MemPlace} (hs : Try.prog.underlying ty = some (.struct fs)) (h : DataW.trod enc Try.prog w base spare held n ty cs = some x) (t : Nat) (f : Field) (hf : fs[t]? = some f) (ho : f.offset = t) (hc : Try.prog.cellsOf f.type = 1) (hk : Try.prog.underlying f.type = some (.int .i64)) : ∃ z, cs[t]? = some (Value.int .i64 z) := by
  obtain ⟨xs, m, _, _, hl, hxl, hx⟩ := DataW.trod_struct hs h
  have q := hx t f hf
  rw [ho, hc] at q
  have ht : t < fs.size := (Array.getElem?_eq_some_iff.1 hf).1
  rw [List.getElem?_eq_getElem (by omega)] at q
  obtain ⟨z, hz, _, _⟩ := DataW.trod_int hk q
  exact ⟨z, at_of hz⟩
set_option maxRecDepth 100000 in
theorem open_deq {r : Reach} {b0 : Nat} {v : Value} {d : DataW H} {p : List MemPlace} (hv : Value.okWide Try.prog w r b0 23 v) (h : DataW.Trod enc Try.prog w base spare held 23 v d p) : ∃ th rm : Int, v = dV th rm := by
  obtain ⟨cs, rfl, hcs⟩ := okWide_struct Try.underlying23 hv
  obtain ⟨fuel, hf⟩ := h
  obtain ⟨z0, e0⟩ := fldI Try.underlying23 hf 0 _ rfl rfl ci Try.underlying3
  obtain ⟨z1, e1⟩ := fldI Try.underlying23 hf 1 _ rfl rfl ci Try.underlying3
  have h9 : (Value.agg cs).cells.toList = cs.toList := rfl
  rw [h9] at e0 e1
  have hl2 : cs.toList.length = 2 := by
    have h8 : Try.prog.cellsOf 23 = 2 := by kernel_rfl
    rw [h8] at hcs
    simpa using hcs
  refine ⟨z0, z1, ?_⟩
  have hc2 : cs = #[.int .i64 z0, .int .i64 z1] := by
    apply Array.ext'
    apply List.ext_getElem?
    intro i
    match i with
    | 0 => exact e0
    | 1 => exact e1
    | i + 2 => rw [List.getElem?_eq_none (by omega)]; rfl
  rw [hc2]; rfl
theorem spn {a : Addr} {i : Nat} {v : Value} (h : w.cell? (a.add i) = some v) : a.spot = none ∨ i ≠ 0 := by
  by_cases e : i = 0
  · subst e
    have := World.cell?_spot h
    left
    simpa [Addr.add] using this
  · exact .inr e
theorem ad0 (a : Addr) (i : Nat) (v : Value) (ha : a.spot = none) (h : w.cell? (a.add i) = some v) : w.cell? ⟨a.block, a.off + i, none⟩ = some v := by
  obtain ⟨b, o, s⟩ := a
  simp at ha
  subst ha
  rw [add1] at h
  exact h
theorem some_of {a : Addr} (h : a.spot = none) : (some a : Option Addr) = some ⟨a.block, a.off, none⟩ := by
  obtain ⟨b, o, s⟩ := a
  simp at h
  subst h
  rfl
set_option maxRecDepth 100000 in
theorem open_wds {ts : List TypeId} {ds : List (DataW H)} {r : Reach} {b0 : Nat} {v : Value} {d : DataW H} {p : List MemPlace} (hv : Value.okWide Try.prog w r b0 24 v) (h : DataW.Trod enc Try.prog w base spare held 24 v d p) (hsz : (DataW.weightsEach Try.prog ts ds).all (· ≤ reachBytes) = true) (j : Nat) (ht : ts[j]? = some 24) (hd : ds[j]? = some d) :
    ∃ (a : Option Addr) (n c : Nat) (xs : List Int), v = .slice a n c ∧ WdAt w a n xs ∧ n * 8 ≤ 140737488351232 := by
  have hwt : ∀ k ∈ d.weights Try.prog 24, k ≤ reachBytes := fun k hk => by
    have := List.all_eq_true.1 hsz k (DataW.weights_mem_each ht hd k hk)
    simpa using this
  obtain ⟨a, n, cap, rfl⟩ := okWide_slice Try.underlying24 hv
  obtain ⟨fuel, hf⟩ := h
  rcases open_ints Try.underlying24 Try.underlying68 cw hf with ⟨hc, hx⟩ | ⟨ad, len, cap', zs, hc, _, hl, _, hz, hx, hcell, hwf⟩
  · simp [Value.cells] at hc
    obtain ⟨rfl, rfl, rfl⟩ := hc
    exact ⟨none, 0, 0, [], rfl, ⟨rfl, .inl rfl⟩, by omega⟩
  · simp [Value.cells] at hc
    obtain ⟨rfl, rfl, rfl⟩ := hc
    have hle : n ≤ zs.length := by rw [hz]; split <;> omega
    refine ⟨some ad, n, cap, zs.take n, rfl, ⟨by simp [hle], ?_⟩, ?_⟩
    · by_cases hn : zs.take n = []
      · exact .inl hn
      · have h0 : 0 < n := by
          rcases Nat.eq_zero_or_pos n with e | e
          · rw [e] at hn; simp at hn
          · exact e
        have hg : ∀ j x, (zs.take n)[j]? = some x → w.cell? (ad.add j) = some (.int .u64 x) := fun j x hj => by
          have hjl : j < n := by
            have := (List.getElem?_eq_some_iff.1 hj).1
            simp at this; omega
          rw [hcell j (by omega)]
          rw [List.getElem?_take, if_pos hjl] at hj
          simp [List.getD, hj]
        have c0 := hg 0 _ (List.getElem?_eq_getElem (by simp; omega))
        have hsp : ad.spot = none := (spn c0).resolve_right (by simp)
        exact .inr ⟨ad.block, ad.off, some_of hsp, World.block_lt_of_cell? w ⟨ad.block, ad.off + 0, none⟩ (ad0 ad 0 _ hsp c0), fun j z hz => ad0 ad j _ hsp (hg j z hz)⟩
    · have hx1 := congrArg Prod.fst hx
      dsimp only at hx1
      subst hx1
      have h1 := hwt _ (by unfold DataW.weights; rw [Try.underlying24]; exact List.mem_cons_self)
      have e1 : reachBytes = 140737488351232 := by decide
      rw [byw, e1, Nat.add_mul] at h1
      simp [lits, hle] at h1
      omega
end
end Go.Proofs.Ytkbikhpmfhgjnaa.Dq
