/-
  OPENING a row of moves that came in.
-/
import Derived.Test.YtpckcfdjgpdooaaMacMv
import Derived.ProofKit
import Derived.OpenShut
import Derived.Deep.Slices
import Derived.SizedLaws
namespace Go.Proofs.Ytpckcfdjgpdooaa.Ma
open Go.ChangeShapes Go.WideShapes Go.ChangeAt Go.RowKit Go.Deep
open Mr Me
theorem cells_u64 : Try.prog.cellsOf 56 = 1 := by kernel_rfl
theorem cells_i64 : Try.prog.cellsOf 3 = 1 := by kernel_rfl
theorem cells_op : Try.prog.cellsOf 25 = 1 := by kernel_rfl
theorem cells_mv : Try.prog.cellsOf 27 = 4 := by kernel_rfl
theorem cells_lm : Try.prog.cellsOf 24 = 1 := by kernel_rfl
section
variable {H : Type} {enc : TypeId × Value → H} {w : World} {base : Nat} {spare : Nat → Bool} {held : Bool}
/-- The field number t of a struct whose fields are one cell each. -/
theorem field_int {n : Nat} {ty : TypeId} {fs : Array Field} {cs : List Value} {x : DataW H × List MemPlace} (hs : Try.prog.underlying ty = some (.struct fs)) (h : DataW.trod enc Try.prog w base spare held n ty cs = some x) (t : Nat) (f : Field) (k : IntKind) (hf : fs[t]? = some f) (ho : f.offset = t) (hc : Try.prog.cellsOf f.type = 1) (hk : Try.prog.underlying f.type = some (.int k)) :
    ∃ z, cs[t]? = some (Value.int k z) := by
  obtain ⟨xs, m, _, _, hl, hxl, hx⟩ := DataW.trod_struct hs h
  have q := hx t f hf
  rw [ho, hc] at q
  have ht : t < fs.size := (Array.getElem?_eq_some_iff.1 hf).1
  rw [List.getElem?_eq_getElem (by omega)] at q
  obtain ⟨z, hz, _, _⟩ := DataW.trod_int hk q
  refine ⟨z, ?_⟩
  have : ((cs.drop t).take 1)[0]? = some (.int k z) := by rw [hz]; rfl
  rw [List.getElem?_take] at this
  simpa using this
theorem add_add (a : Addr) (i j : Nat) (v : Value) (h : w.cell? ((a.add i).add j) = some v) (ha : a.spot = none) : w.cell? ⟨a.block, a.off + i + j, none⟩ = some v := by
  obtain ⟨b, o, s⟩ := a
  simp at ha
  subst ha
  have e1 : ∀ (o i : Nat), (⟨b, o, none⟩ : Addr).add i = ⟨b, o + i, none⟩ := fun o i => by unfold Addr.add; split <;> simp_all
  rw [e1, e1] at h
  exact h
theorem spot_of {a : Addr} {i j : Nat} {v : Value} (h : w.cell? ((a.add i).add j) = some v) (ha : i = 0) (hj : j = 0) : a.spot = none := by
  subst ha; subst hj
  have := World.cell?_spot h
  simpa [Addr.add] using this
theorem open_mvs {fuel : Nat} {cs : List Value} {x : DataW H × List MemPlace} (hf : DataW.trod enc Try.prog w base spare held fuel 24 cs = some x) :
    ∃ a n cap ms, cs = [.slice a n cap] ∧ MvAt w a n ms ∧ n ≤ cap := by
  rcases open_slice Try.underlying24 hf with ⟨hc, hx⟩ | ⟨ad, n, cap, m, k, D, Pl, hc, _, hl, _, hm, hx, hel⟩
  · exact ⟨none, 0, 0, [], hc, ⟨rfl, .inl rfl⟩, Nat.le_refl _⟩
  · have hle : n ≤ m := by rw [hm]; split <;> omega
    have each : ∀ i, i < n → ∃ o : Mv, w.cell? ((ad.add (i * 4)).add 0) = some (.int .i64 o.th) ∧ w.cell? ((ad.add (i * 4)).add 1) = some (.int .i64 o.op) ∧ w.cell? ((ad.add (i * 4)).add 2) = some (.int .i64 o.arg) ∧ w.cell? ((ad.add (i * 4)).add 3) = some (.int .i64 o.data) := by
      intro i hi
      obtain ⟨cs, h1, h2⟩ := hel i (by omega)
      rw [cells_mv] at h1
      obtain ⟨_, hcl, hce⟩ := World.cells?_some h1
      obtain ⟨z0, e0⟩ := field_int Try.underlying27 h2 0 _ .i64 rfl rfl cells_i64 Try.underlying3
      obtain ⟨z1, e1⟩ := field_int Try.underlying27 h2 1 _ .i64 rfl rfl cells_op Try.underlying25
      obtain ⟨z2, e2⟩ := field_int Try.underlying27 h2 2 _ .i64 rfl rfl cells_i64 Try.underlying3
      obtain ⟨z3, e3⟩ := field_int Try.underlying27 h2 3 _ .i64 rfl rfl cells_i64 Try.underlying3
      exact ⟨⟨z0, z1, z2, z3⟩, (hce 0 (by omega)).trans e0, (hce 1 (by omega)).trans e1, (hce 2 (by omega)).trans e2, (hce 3 (by omega)).trans e3⟩
    obtain ⟨f, hf'⟩ := Classical.axiomOfChoice (fun i => (if h : i < n then (by obtain ⟨o, ho⟩ := each i h; exact ⟨o, fun _ => ho⟩) else ⟨noMv, fun h' => absurd h' h⟩ : ∃ o : Mv, i < n → w.cell? ((ad.add (i * 4)).add 0) = some (.int .i64 o.th) ∧ w.cell? ((ad.add (i * 4)).add 1) = some (.int .i64 o.op) ∧ w.cell? ((ad.add (i * 4)).add 2) = some (.int .i64 o.arg) ∧ w.cell? ((ad.add (i * 4)).add 3) = some (.int .i64 o.data)))
    have hlen : ((List.range n).map f).length = n := by simp
    refine ⟨some ad, n, cap, (List.range n).map f, hc, ⟨hlen.symm, ?_⟩, hl⟩
    by_cases hn : n = 0
    · subst hn; exact .inl rfl
    · have hsp : ad.spot = none := spot_of (hf' 0 (by omega)).1 (by omega) rfl
      refine .inr ⟨ad.block, ad.off, by obtain ⟨_, _, s⟩ := ad; simp at hsp; subst hsp; rfl, ?_, fun j hj => ?_⟩
      · have := World.block_lt_of_cell? w _ (hf' 0 (by omega)).1
        rwa [blk_add, blk_add] at this
      · rw [hlen] at hj
        obtain ⟨c0, c1, c2, c3⟩ := hf' j hj
        have eo : ((List.range n).map f)[j]?.getD noMv = f j := by simp [hj]
        rw [eo]
        exact ⟨add_add ad (j * 4) 0 _ c0 hsp, add_add ad (j * 4) 1 _ c1 hsp, add_add ad (j * 4) 2 _ c2 hsp, add_add ad (j * 4) 3 _ c3 hsp⟩
end
set_option maxRecDepth 100000 in
theorem open_mvl {H : Type} {enc : TypeId × Value → H} {w : World} {base : Nat} {spare : Nat → Bool} {held : Bool} {r : Reach} {b0 : Nat} {v : Value} {d : DataW H} {p : List MemPlace} (hv : Value.okWide Try.prog w r b0 24 v) (h : DataW.Trod enc Try.prog w base spare held 24 v d p) :
    ∃ a n cap ms, v = .slice a n cap ∧ MvAt w a n ms ∧ n ≤ cap := by
  obtain ⟨a, n, cap, rfl⟩ := okWide_slice Try.underlying24 hv
  obtain ⟨fuel, hf⟩ := h
  obtain ⟨a', n', cap', ms, hc, hm, hn⟩ := open_mvs hf
  simp [Value.cells] at hc
  obtain ⟨rfl, rfl, rfl⟩ := hc
  exact ⟨_, _, _, ms, rfl, hm, hn⟩
end Go.Proofs.Ytpckcfdjgpdooaa.Ma
