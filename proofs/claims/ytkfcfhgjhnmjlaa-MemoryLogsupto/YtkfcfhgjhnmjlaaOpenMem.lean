/-
  OPENING a list of words and a script of calls that came in.
-/
import Derived.Test.YtkfcfhgjhnmjlaaMemHelp2
import Derived.ProofKit
import Derived.OpenShut
import Derived.Deep.Slices
import Derived.SizedLaws
namespace Go.Proofs.Ytkfcfhgjhnmjlaa.Me
open Go.ChangeShapes Go.WideShapes Go.ChangeAt Go.RowKit Go.Deep
open Mr
def noO : O := ⟨0, 0, 0, 0, 0, 0⟩
/-- The slice value .slice a n cap reads as the script os. -/
def OpsAt (W : World) (a : Option Addr) (n : Nat) (os : List O) : Prop :=
  n = os.length ∧ (os = [] ∨ ∃ b off, a = some ⟨b, off, none⟩ ∧ b < W.heap.size ∧ ∀ j, j < os.length →
    W.cell? ⟨b, off + j * 6, none⟩ = some (.int .i64 (os[j]?.getD noO).k) ∧ W.cell? ⟨b, off + j * 6 + 1, none⟩ = some (.int .i64 (os[j]?.getD noO).th) ∧ W.cell? ⟨b, off + j * 6 + 2, none⟩ = some (.int .i64 (os[j]?.getD noO).ad) ∧
    W.cell? ⟨b, off + j * 6 + 3, none⟩ = some (.int .i64 (os[j]?.getD noO).n) ∧ W.cell? ⟨b, off + j * 6 + 4, none⟩ = some (.int .u64 (os[j]?.getD noO).old) ∧ W.cell? ⟨b, off + j * 6 + 5, none⟩ = some (.int .u64 (os[j]?.getD noO).w))
theorem OpsAt.below {W W' : World} {a : Option Addr} {n : Nat} {os : List O} (h : OpsAt W a n os) (hB : Below W.heap.size W W') : OpsAt W' a n os := by
  refine ⟨h.1, ?_⟩
  rcases h.2 with h | ⟨b, off, rfl, hb, hc⟩
  · exact .inl h
  · refine .inr ⟨b, off, rfl, Nat.lt_of_lt_of_le hb hB.size, fun j hj => ?_⟩
    obtain ⟨c0, c1, c2, c3, c4, c5⟩ := hc j hj
    exact ⟨(hB.cell (p := ⟨b, _, none⟩) hb).trans c0, (hB.cell (p := ⟨b, _, none⟩) hb).trans c1, (hB.cell (p := ⟨b, _, none⟩) hb).trans c2, (hB.cell (p := ⟨b, _, none⟩) hb).trans c3, (hB.cell (p := ⟨b, _, none⟩) hb).trans c4, (hB.cell (p := ⟨b, _, none⟩) hb).trans c5⟩

theorem cells_u64 : Try.prog.cellsOf 31 = 1 := by kernel_rfl
theorem cells_i64 : Try.prog.cellsOf 3 = 1 := by kernel_rfl
theorem cells_op : Try.prog.cellsOf 33 = 6 := by kernel_rfl
section
variable {H : Type} {enc : TypeId × Value → H} {w : World} {base : Nat} {spare : Nat → Bool} {held : Bool}
theorem one_cell {r : Reach} {b0 : Nat} {t e : TypeId} {v : Value} (ht : Try.prog.underlying t = some (.slice e)) (hv : Value.okWide Try.prog w r b0 t v) : ∃ a n cap, v = .slice a n cap := okWide_slice ht hv
theorem open_words {r : Reach} {b0 : Nat} {v : Value} {d : DataW H} {p : List MemPlace} (hv : Value.okWide Try.prog w r b0 22 v) (h : DataW.Trod enc Try.prog w base spare held 22 v d p) :
    ∃ a n cap ws, v = .slice a n cap ∧ Src w a n cap ws := by
  obtain ⟨a, n, cap, rfl⟩ := one_cell Try.underlying22 hv
  obtain ⟨fuel, hf⟩ := h
  rcases open_ints Try.underlying22 Try.underlying31 cells_u64 hf with ⟨hc, _⟩ | ⟨ad, len, cap', zs, hc, _, hl, _, hz, _, hcell, _⟩
  · simp [Value.cells] at hc
    obtain ⟨rfl, rfl, rfl⟩ := hc
    exact ⟨none, 0, 0, [], rfl, rfl, .inl ⟨rfl, rfl, rfl⟩⟩
  · simp [Value.cells] at hc
    obtain ⟨rfl, rfl, rfl⟩ := hc
    have hle : n ≤ zs.length := by rw [hz]; split <;> omega
    refine ⟨some ad, n, cap, zs.take n, rfl, by simp [hle], .inr ⟨ad, rfl, fun j u hu => ?_⟩⟩
    have hj : j < n := by
      have := (List.getElem?_eq_some_iff.1 hu).1
      simp [wrd] at this; omega
    rw [hcell j (by omega), ← hu]
    simp [wrd, hj, List.getD, show j < zs.length by omega]
/-- The field number t of a struct whose fields are one cell each. -/
theorem field_int {n : Nat} {ty : TypeId} {fs : Array Field} {cs : List Value} {x : DataW H × List MemPlace} (hs : Try.prog.underlying ty = some (.struct fs)) (h : DataW.trod enc Try.prog w base spare held n ty cs = some x) (t : Nat) (f : Field) (k : IntKind) (hf : fs[t]? = some f) (ho : f.offset = t) (hc : Try.prog.cellsOf f.type = 1) (hk : Try.prog.underlying f.type = some (.int k)) :
    ∃ z, cs[t]? = some (Value.int k z) := by
  obtain ⟨xs, m, _, _, hl, hxl, hx⟩ := DataW.trod_struct hs h
  have q := hx t f hf
  rw [ho, hc] at q
  have ht : t < fs.size := (Array.getElem?_eq_some_iff.1 hf).1
  rw [List.getElem?_eq_getElem (by omega)] at q
  obtain ⟨z, hz, _, _⟩ := DataW.trod_int hk q
  refine ⟨z, ?_⟩
  have : ((cs.drop t).take 1)[0]? = some (.int k z) := by rw [hz]; rfl
  rw [List.getElem?_take] at this
  simpa using this
theorem add_add (a : Addr) (i j : Nat) (v : Value) (h : w.cell? ((a.add i).add j) = some v) (ha : a.spot = none) : w.cell? ⟨a.block, a.off + i + j, none⟩ = some v := by
  obtain ⟨b, o, s⟩ := a
  simp at ha
  subst ha
  have e1 : ∀ (o i : Nat), (⟨b, o, none⟩ : Addr).add i = ⟨b, o + i, none⟩ := fun o i => by unfold Addr.add; split <;> simp_all
  rw [e1, e1] at h
  exact h
theorem spot_of {a : Addr} {i j : Nat} {v : Value} (h : w.cell? ((a.add i).add j) = some v) (ha : i = 0) (hj : j = 0) : a.spot = none := by
  subst ha; subst hj
  have := World.cell?_spot h
  simpa [Addr.add] using this
theorem open_ops {r : Reach} {b0 : Nat} {v : Value} {d : DataW H} {p : List MemPlace} (hv : Value.okWide Try.prog w r b0 23 v) (h : DataW.Trod enc Try.prog w base spare held 23 v d p) :
    ∃ a n cap os, v = .slice a n cap ∧ OpsAt w a n os ∧ ((d = .nil ∧ n = 0) ∨ ∃ es rs, d = .slice es rs ∧ es.length = n) := by
  obtain ⟨a, n, cap, rfl⟩ := one_cell Try.underlying23 hv
  obtain ⟨fuel, hf⟩ := h
  rcases open_slice Try.underlying23 hf with ⟨hc, hx⟩ | ⟨ad, len, cap', m, k, D, Pl, hc, _, hl, _, hm, hx, hel⟩
  · simp [Value.cells] at hc
    obtain ⟨rfl, rfl, rfl⟩ := hc
    exact ⟨none, 0, 0, [], rfl, ⟨rfl, .inl rfl⟩, .inl ⟨by simpa using congrArg Prod.fst hx, rfl⟩⟩
  · simp [Value.cells] at hc
    obtain ⟨rfl, rfl, rfl⟩ := hc
    have hle : n ≤ m := by rw [hm]; split <;> omega
    have each : ∀ i, i < n → ∃ o : O, w.cell? ((ad.add (i * 6)).add 0) = some (.int .i64 o.k) ∧ w.cell? ((ad.add (i * 6)).add 1) = some (.int .i64 o.th) ∧ w.cell? ((ad.add (i * 6)).add 2) = some (.int .i64 o.ad) ∧ w.cell? ((ad.add (i * 6)).add 3) = some (.int .i64 o.n) ∧ w.cell? ((ad.add (i * 6)).add 4) = some (.int .u64 o.old) ∧ w.cell? ((ad.add (i * 6)).add 5) = some (.int .u64 o.w) := by
      intro i hi
      obtain ⟨cs, h1, h2⟩ := hel i (by omega)
      rw [cells_op] at h1
      obtain ⟨_, hcl, hce⟩ := World.cells?_some h1
      obtain ⟨z0, e0⟩ := field_int Try.underlying33 h2 0 _ .i64 rfl rfl cells_i64 Try.underlying3
      obtain ⟨z1, e1⟩ := field_int Try.underlying33 h2 1 _ .i64 rfl rfl cells_i64 Try.underlying3
      obtain ⟨z2, e2⟩ := field_int Try.underlying33 h2 2 _ .i64 rfl rfl cells_i64 Try.underlying3
      obtain ⟨z3, e3⟩ := field_int Try.underlying33 h2 3 _ .i64 rfl rfl cells_i64 Try.underlying3
      obtain ⟨z4, e4⟩ := field_int Try.underlying33 h2 4 _ .u64 rfl rfl cells_u64 Try.underlying31
      obtain ⟨z5, e5⟩ := field_int Try.underlying33 h2 5 _ .u64 rfl rfl cells_u64 Try.underlying31
      exact ⟨⟨z0, z1, z2, z3, z4, z5⟩, (hce 0 (by omega)).trans e0, (hce 1 (by omega)).trans e1, (hce 2 (by omega)).trans e2, (hce 3 (by omega)).trans e3, (hce 4 (by omega)).trans e4, (hce 5 (by omega)).trans e5⟩
    have hd : d = .slice ((List.range n).map D) ((List.range (m - n)).map fun j => D (n + j)) := by simpa using congrArg Prod.fst hx
    obtain ⟨f, hf'⟩ := Classical.axiomOfChoice (fun i => (if h : i < n then (by obtain ⟨o, ho⟩ := each i h; exact ⟨o, fun _ => ho⟩) else ⟨noO, fun h' => absurd h' h⟩ : ∃ o : O, i < n → w.cell? ((ad.add (i * 6)).add 0) = some (.int .i64 o.k) ∧ w.cell? ((ad.add (i * 6)).add 1) = some (.int .i64 o.th) ∧ w.cell? ((ad.add (i * 6)).add 2) = some (.int .i64 o.ad) ∧ w.cell? ((ad.add (i * 6)).add 3) = some (.int .i64 o.n) ∧ w.cell? ((ad.add (i * 6)).add 4) = some (.int .u64 o.old) ∧ w.cell? ((ad.add (i * 6)).add 5) = some (.int .u64 o.w)))
    have hlen : ((List.range n).map f).length = n := by simp
    refine ⟨some ad, n, cap, (List.range n).map f, rfl, ⟨hlen.symm, ?_⟩, .inr ⟨_, _, hd, by simp⟩⟩
    by_cases hn : n = 0
    · subst hn; exact .inl rfl
    · have hsp : ad.spot = none := spot_of (hf' 0 (by omega)).1 (by omega) rfl
      refine .inr ⟨ad.block, ad.off, by obtain ⟨_, _, s⟩ := ad; simp at hsp; subst hsp; rfl, ?_, fun j hj => ?_⟩
      · have := World.block_lt_of_cell? w _ (hf' 0 (by omega)).1
        rwa [blk_add, blk_add] at this
      · rw [hlen] at hj
        obtain ⟨c0, c1, c2, c3, c4, c5⟩ := hf' j hj
        have eo : ((List.range n).map f)[j]?.getD noO = f j := by simp [hj]
        rw [eo]
        exact ⟨add_add ad (j * 6) 0 _ c0 hsp, add_add ad (j * 6) 1 _ c1 hsp, add_add ad (j * 6) 2 _ c2 hsp, add_add ad (j * 6) 3 _ c3 hsp, add_add ad (j * 6) 4 _ c4 hsp, add_add ad (j * 6) 5 _ c5 hsp⟩
end
end Go.Proofs.Ytkfcfhgjhnmjlaa.Me
