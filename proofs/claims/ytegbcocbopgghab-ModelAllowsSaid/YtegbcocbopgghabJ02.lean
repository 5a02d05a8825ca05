import Derived.Test.YtegbcocbopgghabJ01
import Derived.ProofKit
import Derived.OpenShut
import Derived.Deep.Slices
import Derived.SizedLaws
import Derived.WalkKit
import Derived.WalkSpells
import Derived.Below
import Derived.Deep.Draws
/-
  OPENING contents (api.Contents) and lists of ints that came in, with their reach.
-/
namespace Go.Proofs.Ytegbcocbopgghab.Md
open Go.ChangeShapes Go.WideShapes Go.ChangeAt Go.RowKit Go.Deep
open Mr
set_option linter.unusedVariables false
set_option maxRecDepth 100000
theorem cells_i64 : Try.prog.cellsOf 3 = 1 := by kernel_rfl
theorem cells_pr : Try.prog.cellsOf 81 = 2 := by kernel_rfl
theorem cells_li : Try.prog.cellsOf 22 = 1 := by kernel_rfl
theorem cells_lp : Try.prog.cellsOf 23 = 1 := by kernel_rfl
theorem cells_ct : Try.prog.cellsOf 25 = 5 := by kernel_rfl
theorem bytes_i64 : Try.prog.bytesOf 3 = 8 := by kernel_rfl
theorem bytes_pr : Try.prog.bytesOf 81 = 16 := by kernel_rfl
section
variable {H : Type} {enc : TypeId × Value → H} {w : World} {base : Nat} {spare : Nat → Bool} {held : Bool}
theorem spot0 {a : Addr} {v : Value} (h : w.cell? (a.add 0) = some v) : a.spot = none := by
  have := World.cell?_spot h
  simpa [Addr.add] using this
theorem open_isl {fuel : Nat} {cs : List Value} {x : DataW H × List MemPlace} (hf : DataW.trod enc Try.prog w base spare held fuel 22 cs = some x) :
    ∃ v l, cs = [v] ∧ Sl w (fun _ => True) 1 v l.length (ints l) := by
  rcases open_ints Try.underlying22 Try.underlying3 cells_i64 hf with ⟨hc, _⟩ | ⟨ad, n, cap, zs, hc, _, hl, _, hz, _, hcell, _⟩
  · exact ⟨_, [], hc, Sl.nil _ _ _⟩
  · have hle : n ≤ zs.length := by rw [hz]; split <;> omega
    have hlen : (zs.take n).length = n := by simp [hle]
    refine ⟨_, zs.take n, hc, by simp [ints], some ad, cap, by rw [hlen], by omega, ?_⟩
    by_cases hn : n = 0
    · exact .inl (by omega)
    · have hs := spot0 (hcell 0 (by omega))
      obtain ⟨b, o, s⟩ := ad
      simp only at hs
      subst hs
      refine .inr ⟨b, o, rfl, trivial, ?_, fun j u hu => ?_⟩
      · have := World.block_lt_of_cell? w _ (hcell 0 (by omega))
        rwa [add1] at this
      · have hj : j < n := by
          have := (List.getElem?_eq_some_iff.1 hu).1
          simp [ints] at this; omega
        have := hcell j (by omega)
        rw [add1] at this
        rw [this, ← hu]
        simp [ints, hj, List.getD, show j < zs.length by omega]
theorem field_int {n : Nat} {ty : TypeId} {fs : Array Field} {cs : List Value} {x : DataW H × List MemPlace} (hs : Try.prog.underlying ty = some (.struct fs)) (h : DataW.trod enc Try.prog w base spare held n ty cs = some x) (t : Nat) (f : Field) (k : IntKind) (hf : fs[t]? = some f) (ho : f.offset = t) (hc : Try.prog.cellsOf f.type = 1) (hk : Try.prog.underlying f.type = some (.int k)) :
    ∃ z, cs[t]? = some (Value.int k z) := by
  obtain ⟨xs, m, _, _, hl, hxl, hx⟩ := DataW.trod_struct hs h
  have q := hx t f hf
  rw [ho, hc] at q
  have ht : t < fs.size := (Array.getElem?_eq_some_iff.1 hf).1
  rw [List.getElem?_eq_getElem (by omega)] at q
  obtain ⟨z, hz, _, _⟩ := DataW.trod_int hk q
  refine ⟨z, ?_⟩
  have : ((cs.drop t).take 1)[0]? = some (.int k z) := by rw [hz]; rfl
  rw [List.getElem?_take] at this
  simpa using this
theorem open_psl {fuel : Nat} {cs : List Value} {x : DataW H × List MemPlace} (hf : DataW.trod enc Try.prog w base spare held fuel 23 cs = some x) :
    ∃ v l, cs = [v] ∧ Sl w (fun _ => True) 2 v l.length (prs l) := by
  rcases open_slice Try.underlying23 hf with ⟨hc, hx⟩ | ⟨ad, n, cap, m, k, D, Pl, hc, _, hl, _, hm, hx, hel⟩
  · exact ⟨_, [], hc, Sl.nil _ _ _⟩
  · have hle : n ≤ m := by rw [hm]; split <;> omega
    have each : ∀ i, i < n → ∃ o : Int × Int, w.cell? ((ad.add (i * 2)).add 0) = some (.int .i64 o.1) ∧ w.cell? ((ad.add (i * 2)).add 1) = some (.int .i64 o.2) := by
      intro i hi
      obtain ⟨cs, h1, h2⟩ := hel i (by omega)
      rw [cells_pr] at h1
      obtain ⟨_, hcl, hce⟩ := World.cells?_some h1
      obtain ⟨z0, e0⟩ := field_int Try.underlying81 h2 0 _ .i64 rfl rfl cells_i64 Try.underlying3
      obtain ⟨z1, e1⟩ := field_int Try.underlying81 h2 1 _ .i64 rfl rfl cells_i64 Try.underlying3
      exact ⟨(z0, z1), (hce 0 (by omega)).trans e0, (hce 1 (by omega)).trans e1⟩
    obtain ⟨f, hf'⟩ := Classical.axiomOfChoice (fun i => (if h : i < n then (by obtain ⟨o, ho⟩ := each i h; exact ⟨o, fun _ => ho⟩) else ⟨(0, 0), fun h' => absurd h' h⟩ : ∃ o : Int × Int, i < n → w.cell? ((ad.add (i * 2)).add 0) = some (.int .i64 o.1) ∧ w.cell? ((ad.add (i * 2)).add 1) = some (.int .i64 o.2)))
    have hlen : ((List.range n).map f).length = n := by simp
    refine ⟨_, (List.range n).map f, hc, prs_length _, some ad, cap, by rw [hlen], by omega, ?_⟩
    by_cases hn : n = 0
    · exact .inl (by omega)
    · have hs : (ad.add (0 * 2)).spot = none := spot0 (hf' 0 (by omega)).1
      obtain ⟨b, o, s⟩ := ad
      have hs' : s = none := by simpa [Addr.add] using hs
      subst hs'
      refine .inr ⟨b, o, rfl, trivial, ?_, fun j u hu => ?_⟩
      · have := World.block_lt_of_cell? w _ (hf' 0 (by omega)).1
        rwa [blk_add, blk_add] at this
      · have hj : j < n * 2 := by
          have := (List.getElem?_eq_some_iff.1 hu).1
          rw [prs_length, hlen] at this; exact this
        have hi : j / 2 < n := by omega
        obtain ⟨c0, c1⟩ := hf' (j / 2) hi
        rw [add1, add1] at c0 c1
        obtain ⟨g0, g1⟩ := prs_get ((List.range n).map f) (j / 2) (by rw [hlen]; exact hi)
        have eo : ((List.range n).map f)[j / 2]?.getD (0, 0) = f (j / 2) := by simp [hi]
        rw [eo] at g0 g1
        rcases Nat.mod_two_eq_zero_or_one j with h | h
        · have ej : j / 2 * 2 = j := by omega
          rw [ej] at g0 c0
          rw [g0] at hu
          cases hu
          exact c0
        · have ej : j / 2 * 2 + 1 = j := by omega
          rw [ej] at g1
          rw [Nat.add_assoc, ej] at c1
          rw [g1] at hu
          cases hu
          exact c1
theorem len_slice {fuel : Nat} {cs : List Value} {x : DataW H × List MemPlace} {t e : TypeId} {v : Value} {n : Nat} {T : Nat → Prop} {size : Nat} {xs : List Value} (ht : Try.prog.underlying t = some (.slice e)) (hf : DataW.trod enc Try.prog w base spare held fuel t cs = some x) (hc : cs = [v]) (hv : Sl w T size v n xs) : n = 0 ∨ ∃ es rs, x.1 = .slice es rs ∧ es.length = n := by
  obtain ⟨a, cap, rfl, _⟩ := hv.form
  rcases open_slice ht hf with ⟨h, _⟩ | ⟨ad, n', cap', m, k, D, Pl, h, _, _, _, _, hx, _⟩
  · rw [hc] at h
    simp at h
    exact .inl h.2.1
  · rw [hc] at h
    simp at h
    obtain ⟨_, rfl, _⟩ := h
    exact .inr ⟨_, _, by rw [hx], by simp⟩
theorem reach_of {n b : Nat} {P : Program} {ts : List TypeId} {ds : List (DataW H)} (hsz : (DataW.weightsEach P ts ds).all (· ≤ reachBytes) = true) {j : Nat} {t e : TypeId} {d : DataW H} (ht : ts[j]? = some t) (hd : ds[j]? = some d) (hu : P.underlying t = some (.slice e)) (hb : P.bytesOf e = b) (h : n = 0 ∨ ∃ es rs, d = .slice es rs ∧ es.length = n) : n * b ≤ 140737488351232 := by
  rcases h with rfl | ⟨es, rs, rfl, rfl⟩
  · omega
  · have := sized_slice hsz ht hd hu
    rw [hb] at this
    have e : reachBytes = 140737488351232 := by decide
    rw [e, Nat.add_mul] at this
    omega
theorem open_contents {r : Reach} {b0 : Nat} {v : Value} {d : DataW H} {p : List MemPlace} (hv : Value.okWide Try.prog w r b0 25 v) (h : DataW.Trod enc Try.prog w base spare held 25 v d p) (hsz : (d.weights Try.prog 25).all (· ≤ reachBytes) = true) :
    ∃ v0 v1 v2 v3 v4 x, v = .agg #[v0, v1, v2, v3, v4] ∧ CtAt w (fun _ => True) v0 v1 v2 v3 v4 x ∧ CtIn 140737488351232 x := by
  obtain ⟨cs, rfl, hcz⟩ := okWide_struct Try.underlying25 hv
  rw [cells_ct] at hcz
  obtain ⟨fuel, hfu⟩ := h
  obtain ⟨xs, n, _, hxx, hl, hxl, hx⟩ := DataW.trod_struct Try.underlying25 hfu
  have hcs : (Value.agg cs).cells.toList = cs.toList := rfl
  rw [hcs] at hx
  obtain ⟨l, rfl⟩ : ∃ l : List Value, cs = l.toArray := ⟨cs.toList, by simp⟩
  match l, hcz with
  | [x0, x1, x2, x3, x4], _ =>
    have q0 := hx 0 _ rfl
    have q1 := hx 1 _ rfl
    have q2 := hx 2 _ rfl
    have q3 := hx 3 _ rfl
    have q4 := hx 4 _ rfl
    have hxs : xs.length = 5 := by simpa using hxl
    match xs, hxs with
    | [y0, y1, y2, y3, y4], _ =>
      obtain ⟨w0, l0, e0, s0⟩ := open_isl q0
      obtain ⟨w1, l1, e1, s1⟩ := open_isl q1
      obtain ⟨w2, l2, e2, s2⟩ := open_isl q2
      obtain ⟨w3, l3, e3, s3⟩ := open_isl q3
      obtain ⟨w4, l4, e4, s4⟩ := open_psl q4
      have f0 := len_slice Try.underlying22 q0 e0 s0
      have f1 := len_slice Try.underlying22 q1 e1 s1
      have f2 := len_slice Try.underlying22 q2 e2 s2
      have f3 := len_slice Try.underlying22 q3 e3 s3
      have f4 := len_slice Try.underlying23 q4 e4 s4
      have hd : d = .agg [y0.1, y1.1, y2.1, y3.1, y4.1] := by simpa using congrArg Prod.fst hxx
      subst hd
      simp only [DataW.weights, Try.underlying25] at hsz
      have g0 := reach_of hsz (j := 0) (t := 22) rfl rfl Try.underlying22 bytes_i64 f0
      have g1 := reach_of hsz (j := 1) (t := 22) rfl rfl Try.underlying22 bytes_i64 f1
      have g2 := reach_of hsz (j := 2) (t := 22) rfl rfl Try.underlying22 bytes_i64 f2
      have g3 := reach_of hsz (j := 3) (t := 22) rfl rfl Try.underlying22 bytes_i64 f3
      have g4 := reach_of hsz (j := 4) (t := 23) rfl rfl Try.underlying23 bytes_pr f4
      simp [cells_li] at e0 e1 e2 e3
      simp [cells_lp] at e4
      subst e0; subst e1; subst e2; subst e3; subst e4
      exact ⟨_, _, _, _, _, ⟨l0, l1, l2, l3, l4⟩, rfl, ⟨s0, s1, s2, s3, s4⟩, ⟨g0, g1, g2, g3, g4⟩⟩
theorem open_intsz {r : Reach} {b0 : Nat} {v : Value} {d : DataW H} {p : List MemPlace} (hv : Value.okWide Try.prog w r b0 22 v) (h : DataW.Trod enc Try.prog w base spare held 22 v d p) (hsz : (d.weights Try.prog 22).all (· ≤ reachBytes) = true) :
    ∃ l, Sl w (fun _ => True) 1 v l.length (ints l) ∧ l.length * 8 ≤ 140737488351232 := by
  obtain ⟨a, n, cap, rfl⟩ := okWide_slice Try.underlying22 hv
  obtain ⟨fuel, hf⟩ := h
  have e0 : (Value.slice a n cap).cells.toList = [.slice a n cap] := rfl
  rw [e0] at hf
  obtain ⟨w0, l, e1, hs⟩ := open_isl hf
  simp at e1
  subst e1
  have f := len_slice Try.underlying22 hf rfl hs
  refine ⟨l, hs, ?_⟩
  rcases f with f | ⟨es, rs, hd, hl⟩
  · omega
  · simp only at hd
    subst hd
    simp only [DataW.weights, Try.underlying22, List.all_cons, Bool.and_eq_true, decide_eq_true_eq, bytes_i64] at hsz
    have e : reachBytes = 140737488351232 := by decide
    have := hsz.1
    rw [e, Nat.add_mul] at this
    omega
end
end Go.Proofs.Ytegbcocbopgghab.Md
/-
  SMALL LAWS on worlds behind calls that only make memory.
-/
namespace Go.Proofs.Ytegbcocbopgghab.Bx
open Go.RowKit
theorem seqB {n : Nat} {w w1 w2 : World} (h1 : Below n w w1) (h2 : Below w1.heap.size w1 w2) (hn : n ≤ w.heap.size) : Below n w w2 :=
  h1.trans (h2.mono (by have := h1.size; omega))
theorem box0 (w : World) (o : Obj) : Below (w.heap.size + 1) (w.alloc o) (w.alloc o) := Below.refl _ _
theorem boxSeq {w w1 w2 : World} {o : Obj} (h1 : Below (w.heap.size + 1) (w.alloc o) w1) (h2 : Below w1.heap.size w1 w2) : Below (w.heap.size + 1) (w.alloc o) w2 :=
  seqB h1 h2 (by simp)
theorem boxCell {w w1 : World} {o : Obj} (B : Below (w.heap.size + 1) (w.alloc o) w1) : ∀ k, w1.cell? ⟨w.heap.size, k, none⟩ = (w.alloc o).cell? ⟨w.heap.size, k, none⟩ :=
  fun _ => B.cell (by simp)
theorem boxEnd {w w1 : World} {o : Obj} (B : Below (w.heap.size + 1) (w.alloc o) w1) : Below w.heap.size w w1 :=
  ((Below.refl _ _).alloc (Nat.le_refl _) o).trans (B.mono (by omega))
theorem two0 (w : World) (o p : Obj) : Below (w.heap.size + 2) ((w.alloc o).alloc p) ((w.alloc o).alloc p) := Below.refl _ _
theorem twoSeq {w w1 w2 : World} {o p : Obj} (h1 : Below (w.heap.size + 2) ((w.alloc o).alloc p) w1) (h2 : Below w1.heap.size w1 w2) : Below (w.heap.size + 2) ((w.alloc o).alloc p) w2 :=
  seqB h1 h2 (by simp)
theorem twoCellA {w w1 : World} {o p : Obj} (B : Below (w.heap.size + 2) ((w.alloc o).alloc p) w1) : ∀ k, w1.cell? ⟨w.heap.size, k, none⟩ = ((w.alloc o).alloc p).cell? ⟨w.heap.size, k, none⟩ :=
  fun _ => B.cell (by simp)
theorem twoCellB {w w1 : World} {o p : Obj} (B : Below (w.heap.size + 2) ((w.alloc o).alloc p) w1) : ∀ k, w1.cell? ⟨w.heap.size + 1, k, none⟩ = ((w.alloc o).alloc p).cell? ⟨w.heap.size + 1, k, none⟩ :=
  fun _ => B.cell (by simp)
theorem twoFrozenB {w w1 : World} {o p : Obj} (B : Below (w.heap.size + 2) ((w.alloc o).alloc p) w1) : ∀ k, w1.frozen? ⟨w.heap.size + 1, k, none⟩ = ((w.alloc o).alloc p).frozen? ⟨w.heap.size + 1, k, none⟩ :=
  fun _ => B.frozen (by simp)
theorem twoEnd {w w1 : World} {o p : Obj} (B : Below (w.heap.size + 2) ((w.alloc o).alloc p) w1) : Below w.heap.size w w1 :=
  (((Below.refl _ _).alloc (Nat.le_refl _) o).alloc (by simp) p).trans (B.mono (by omega))
theorem twoSize {w w1 : World} {o p : Obj} (B : Below (w.heap.size + 2) ((w.alloc o).alloc p) w1) : w.heap.size + 1 < w1.heap.size := by
  have := B.size; simp at this; omega
theorem twoThru {w w3 w4 : World} {o p q : Obj} (h1 : Below (w.heap.size + 2) ((w.alloc o).alloc p) w3) (h2 : Below (w3.heap.size + 1) (w3.alloc q) w4) : Below (w.heap.size + 2) ((w.alloc o).alloc p) w4 := by
  have hs := h1.size
  simp at hs
  exact (h1.alloc (by omega) q).trans (h2.mono (by omega))
theorem oneThru {w w3 w4 : World} {o q : Obj} (h1 : Below (w.heap.size + 1) (w.alloc o) w3) (h2 : Below (w3.heap.size + 1) (w3.alloc q) w4) : Below (w.heap.size + 1) (w.alloc o) w4 := by
  have hs := h1.size
  simp at hs
  exact (h1.alloc (by omega) q).trans (h2.mono (by omega))
theorem draws (B : Nat) (w : World) (n : Nat) : Below B w (w.drewN n) := ⟨rfl, rfl, rfl, Nat.le_refl _, fun _ _ => rfl⟩
theorem boxSize {w w1 : World} {o : Obj} (B : Below (w.heap.size + 1) (w.alloc o) w1) : w.heap.size < w1.heap.size := by
  have := B.size; simp at this; omega
end Go.Proofs.Ytegbcocbopgghab.Bx
