import Derived.Test.YtnapnhmmopajfaaGreatJ27
import Derived.ProofKit
import Derived.OpenShut
import Derived.Deep.Slices
import Derived.SizedLaws
import Derived.Test.YtnapnhmmopajfaaGreatJ39
/-
  OPENING a row of moves that came in, with the bounds of their arguments.
-/
namespace Go.Proofs.YtnapnhmmopajfaaGreat.Ma
open Go.ChangeShapes Go.WideShapes Go.ChangeAt Go.RowKit Go.Deep
open Mr Me
theorem cellsW_u64 : Tryz.prog.cellsOf 63 = 1 := by kernel_rfl
theorem cellsW_i64 : Tryz.prog.cellsOf 3 = 1 := by kernel_rfl
theorem cellsW_op : Tryz.prog.cellsOf 25 = 1 := by kernel_rfl
theorem cellsW_mv : Tryz.prog.cellsOf 27 = 4 := by kernel_rfl
theorem cellsW_lm : Tryz.prog.cellsOf 24 = 1 := by kernel_rfl
section
variable {H : Type} {enc : TypeId × Value → H} {w : World} {base : Nat} {spare : Nat → Bool} {held : Bool}
/-- The field number t of a struct whose fields are one cell each. -/
theorem fieldW_int {n : Nat} {ty : TypeId} {fs : Array Field} {cs : List Value} {x : DataW H × List MemPlace} (hs : Tryz.prog.underlying ty = some (.struct fs)) (h : DataW.trod enc Tryz.prog w base spare held n ty cs = some x) (t : Nat) (f : Field) (k : IntKind) (hf : fs[t]? = some f) (ho : f.offset = t) (hc : Tryz.prog.cellsOf f.type = 1) (hk : Tryz.prog.underlying f.type = some (.int k)) :
    ∃ z, cs[t]? = some (Value.int k z) ∧ (Lit.int k z).wf = true := by
  obtain ⟨xs, m, _, _, hl, hxl, hx⟩ := DataW.trod_struct hs h
  have q := hx t f hf
  rw [ho, hc] at q
  have ht : t < fs.size := (Array.getElem?_eq_some_iff.1 hf).1
  rw [List.getElem?_eq_getElem (by omega)] at q
  obtain ⟨z, hz, _, hzw⟩ := DataW.trod_int hk q
  refine ⟨z, ?_, hzw⟩
  have : ((cs.drop t).take 1)[0]? = some (.int k z) := by rw [hz]; rfl
  rw [List.getElem?_take] at this
  simpa using this
theorem addW_add (a : Addr) (i j : Nat) (v : Value) (h : w.cell? ((a.add i).add j) = some v) (ha : a.spot = none) : w.cell? ⟨a.block, a.off + i + j, none⟩ = some v := by
  obtain ⟨b, o, s⟩ := a
  simp at ha
  subst ha
  have e1 : ∀ (o i : Nat), (⟨b, o, none⟩ : Addr).add i = ⟨b, o + i, none⟩ := fun o i => by unfold Addr.add; split <;> simp_all
  rw [e1, e1] at h
  exact h
theorem spotW_of {a : Addr} {i j : Nat} {v : Value} (h : w.cell? ((a.add i).add j) = some v) (ha : i = 0) (hj : j = 0) : a.spot = none := by
  subst ha; subst hj
  have := World.cell?_spot h
  simpa [Addr.add] using this
theorem openW_mvs {fuel : Nat} {cs : List Value} {x : DataW H × List MemPlace} (hf : DataW.trod enc Tryz.prog w base spare held fuel 24 cs = some x) :
    ∃ a n cap ms, cs = [.slice a n cap] ∧ MvAt w a n ms ∧ n ≤ cap ∧ ∀ m ∈ ms, (Lit.int .i64 m.arg).wf = true := by
  rcases open_slice Tryz.underlying24 hf with ⟨hc, hx⟩ | ⟨ad, n, cap, m, k, D, Pl, hc, _, hl, _, hm, hx, hel⟩
  · exact ⟨none, 0, 0, [], hc, ⟨rfl, .inl rfl⟩, Nat.le_refl _, fun m hm => by cases hm⟩
  · have hle : n ≤ m := by rw [hm]; split <;> omega
    have each : ∀ i, i < n → ∃ o : Mv, w.cell? ((ad.add (i * 4)).add 0) = some (.int .i64 o.th) ∧ w.cell? ((ad.add (i * 4)).add 1) = some (.int .i64 o.op) ∧ w.cell? ((ad.add (i * 4)).add 2) = some (.int .i64 o.arg) ∧ w.cell? ((ad.add (i * 4)).add 3) = some (.int .i64 o.data) ∧ (Lit.int .i64 o.arg).wf = true := by
      intro i hi
      obtain ⟨cs, h1, h2⟩ := hel i (by omega)
      rw [cellsW_mv] at h1
      obtain ⟨_, hcl, hce⟩ := World.cells?_some h1
      obtain ⟨z0, e0, hw0⟩ := fieldW_int Tryz.underlying27 h2 0 _ .i64 rfl rfl cellsW_i64 Tryz.underlying3
      obtain ⟨z1, e1, hw1⟩ := fieldW_int Tryz.underlying27 h2 1 _ .i64 rfl rfl cellsW_op Tryz.underlying25
      obtain ⟨z2, e2, hw2⟩ := fieldW_int Tryz.underlying27 h2 2 _ .i64 rfl rfl cellsW_i64 Tryz.underlying3
      obtain ⟨z3, e3, hw3⟩ := fieldW_int Tryz.underlying27 h2 3 _ .i64 rfl rfl cellsW_i64 Tryz.underlying3
      exact ⟨⟨z0, z1, z2, z3⟩, (hce 0 (by omega)).trans e0, (hce 1 (by omega)).trans e1, (hce 2 (by omega)).trans e2, (hce 3 (by omega)).trans e3, hw2⟩
    obtain ⟨f, hf'⟩ := Classical.axiomOfChoice (fun i => (if h : i < n then (by obtain ⟨o, ho⟩ := each i h; exact ⟨o, fun _ => ho⟩) else ⟨noMv, fun h' => absurd h' h⟩ : ∃ o : Mv, i < n → w.cell? ((ad.add (i * 4)).add 0) = some (.int .i64 o.th) ∧ w.cell? ((ad.add (i * 4)).add 1) = some (.int .i64 o.op) ∧ w.cell? ((ad.add (i * 4)).add 2) = some (.int .i64 o.arg) ∧ w.cell? ((ad.add (i * 4)).add 3) = some (.int .i64 o.data) ∧ (Lit.int .i64 o.arg).wf = true))
    have hlen : ((List.range n).map f).length = n := by simp
    refine ⟨some ad, n, cap, (List.range n).map f, hc, ⟨hlen.symm, ?_⟩, hl, fun m hm => by
      obtain ⟨i, hi, rfl⟩ := List.mem_map.1 hm
      exact (hf' i (List.mem_range.1 hi)).2.2.2.2⟩
    by_cases hn : n = 0
    · subst hn; exact .inl rfl
    · have hsp : ad.spot = none := spotW_of (hf' 0 (by omega)).1 (by omega) rfl
      refine .inr ⟨ad.block, ad.off, by obtain ⟨_, _, s⟩ := ad; simp at hsp; subst hsp; rfl, ?_, fun j hj => ?_⟩
      · have := World.block_lt_of_cell? w _ (hf' 0 (by omega)).1
        rwa [blk_add, blk_add] at this
      · rw [hlen] at hj
        obtain ⟨c0, c1, c2, c3, _⟩ := hf' j hj
        have eo : ((List.range n).map f)[j]?.getD noMv = f j := by simp [hj]
        rw [eo]
        exact ⟨addW_add ad (j * 4) 0 _ c0 hsp, addW_add ad (j * 4) 1 _ c1 hsp, addW_add ad (j * 4) 2 _ c2 hsp, addW_add ad (j * 4) 3 _ c3 hsp⟩
end
set_option maxRecDepth 100000 in
theorem open_mvw {H : Type} {enc : TypeId × Value → H} {w : World} {base : Nat} {spare : Nat → Bool} {held : Bool} {r : Reach} {b0 : Nat} {v : Value} {d : DataW H} {p : List MemPlace} (hv : Value.okWide Tryz.prog w r b0 24 v) (h : DataW.Trod enc Tryz.prog w base spare held 24 v d p) :
    ∃ a n cap ms, v = .slice a n cap ∧ MvAt w a n ms ∧ n ≤ cap ∧ ∀ m ∈ ms, (Lit.int .i64 m.arg).wf = true := by
  obtain ⟨a, n, cap, rfl⟩ := okWide_slice Tryz.underlying24 hv
  obtain ⟨fuel, hf⟩ := h
  obtain ⟨a', n', cap', ms, hc, hm, hn, hw⟩ := openW_mvs hf
  simp [Value.cells] at hc
  obtain ⟨rfl, rfl, rfl⟩ := hc
  exact ⟨_, _, _, ms, rfl, hm, hn, hw⟩
end Go.Proofs.YtnapnhmmopajfaaGreat.Ma
/-
  DequePlays: the moves that came in, with their bounds and their reach.
-/
namespace Go.Proofs.YtnapnhmmopajfaaGreat.Rd
open Go.ChangeShapes Go.WideShapes Go.ChangeAt Go.RowKit Go.Deep
open Mr Me Ma Gm Dm Dq
theorem bytes_mv : Tryz.prog.bytesOf 27 = 32 := by kernel_rfl
set_option maxRecDepth 100000 in
theorem open_mvz {H : Type} {enc : TypeId × Value → H} {w : World} {base : Nat} {spare : Nat → Bool} {held : Bool} {r : Reach} {b0 : Nat} {v : Value} {d : DataW H} {p : List MemPlace} (hv : Value.okWide Tryz.prog w r b0 24 v) (h : DataW.Trod enc Tryz.prog w base spare held 24 v d p) :
    ∃ a n cap ms, v = .slice a n cap ∧ MvAt w a n ms ∧ (∀ m ∈ ms, (Lit.int .i64 m.arg).wf = true) ∧ ((d = .nil ∧ n = 0) ∨ ∃ es rs, d = .slice es rs ∧ es.length = n) := by
  obtain ⟨a, n, cap, ms, rfl, hm, hn, hw⟩ := open_mvw hv h
  refine ⟨a, n, cap, ms, rfl, hm, hw, ?_⟩
  obtain ⟨fuel, hf⟩ := h
  rcases open_slice Tryz.underlying24 hf with ⟨hc, hx⟩ | ⟨ad, len, cap', m, k, D, Pl, hc, _, hl, _, hm', hx, hel⟩
  · simp [Value.cells] at hc
    obtain ⟨rfl, rfl, rfl⟩ := hc
    exact .inl ⟨by simpa using congrArg Prod.fst hx, rfl⟩
  · simp [Value.cells] at hc
    obtain ⟨rfl, rfl, rfl⟩ := hc
    have hd : d = .slice ((List.range n).map D) ((List.range (m - n)).map fun j => D (n + j)) := by simpa using congrArg Prod.fst hx
    exact .inr ⟨_, _, hd, by simp⟩
theorem plays_law (th rm : Int) (am : Option Addr) (nm cm : Nat) (ms : List Mv) (w : World) (hm : MvAt w am nm ms) (hw : ∀ m ∈ ms, (Lit.int .i64 m.arg).wf = true) (hz : nm * 32 ≤ reachBytes) :
    Calls Tryz.prog 3 #[.agg #[.int .i64 th, .int .i64 rm], .slice am nm cm] w fun e w' => e = .returned (.bool true) ∧ Below w.heap.size w w' := by
  have hz' : nm * 32 ≤ 140737488351232 := hz
  refine law_any w th rm am nm cm ms hm (by omega) (fun i => ?_)
  cases h : ms[i]? with
  | none => show Wd noMv.arg; exact ⟨by decide, by decide⟩
  | some m =>
    have := hw m (List.mem_of_getElem? h)
    simp [Lit.wf, IntKind.min, IntKind.max, IntKind.signed, IntKind.bits] at this
    exact ⟨by show _ ≤ m.arg; omega, by show m.arg ≤ _; omega⟩
end Go.Proofs.YtnapnhmmopajfaaGreat.Rd
