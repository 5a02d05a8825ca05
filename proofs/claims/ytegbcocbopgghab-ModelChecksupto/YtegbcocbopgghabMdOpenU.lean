/-
  OPENING contents and lists that came in, by their bulk.
-/
import Derived.Test.YtegbcocbopgghabMdOpen
import Derived.Test.YtegbcocbopgghabRows
namespace Go.Proofs.Ytegbcocbopgghab.Md
open Go.ChangeShapes Go.WideShapes Go.ChangeAt Go.RowKit Go.Deep
open Mr
set_option linter.unusedVariables false
set_option maxRecDepth 100000
theorem bulk_one {H : Type} (d : DataW H) : 1 ≤ Rows.uptoBulk d := by
  cases d with
  | lit l => cases l <;> simp [Rows.uptoBulk]
  | _ => simp [Rows.uptoBulk]
theorem bulk_len {H : Type} (l : List (DataW H)) : l.length ≤ Rows.uptoBulkAll l := by
  induction l with
  | nil => simp
  | cons x r ih => have := bulk_one x; simp only [Rows.uptoBulkAll, List.length_cons]; omega
theorem bulk_of {H : Type} {n : Nat} {d : DataW H} (h : n = 0 ∨ ∃ es rs, d = .slice es rs ∧ es.length = n) : n ≤ Rows.uptoBulk d := by
  rcases h with rfl | ⟨es, rs, rfl, rfl⟩
  · omega
  · have h1 := bulk_len es
    simp only [Rows.uptoBulk]
    omega
section
variable {H : Type} {enc : TypeId × Value → H} {w : World} {base : Nat} {spare : Nat → Bool} {held : Bool}
theorem open_contents_u {r : Reach} {b0 : Nat} {v : Value} {d : DataW H} {p : List MemPlace} (hv : Value.okWide Try.prog w r b0 25 v) (h : DataW.Trod enc Try.prog w base spare held 25 v d p) (hk : Rows.uptoBulk d ≤ 1048576) :
    ∃ v0 v1 v2 v3 v4 x, v = .agg #[v0, v1, v2, v3, v4] ∧ CtAt w (fun _ => True) v0 v1 v2 v3 v4 x ∧ CtIn 16777216 x := by
  obtain ⟨cs, rfl, hcz⟩ := okWide_struct Try.underlying25 hv
  rw [cells_ct] at hcz
  obtain ⟨fuel, hfu⟩ := h
  obtain ⟨xs, n, _, hxx, hl, hxl, hx⟩ := DataW.trod_struct Try.underlying25 hfu
  have hcs : (Value.agg cs).cells.toList = cs.toList := rfl
  rw [hcs] at hx
  obtain ⟨l, rfl⟩ : ∃ l : List Value, cs = l.toArray := ⟨cs.toList, by simp⟩
  match l, hcz with
  | [x0, x1, x2, x3, x4], _ =>
    have q0 := hx 0 _ rfl
    have q1 := hx 1 _ rfl
    have q2 := hx 2 _ rfl
    have q3 := hx 3 _ rfl
    have q4 := hx 4 _ rfl
    have hxs : xs.length = 5 := by simpa using hxl
    match xs, hxs with
    | [y0, y1, y2, y3, y4], _ =>
      obtain ⟨w0, l0, e0, s0⟩ := open_isl q0
      obtain ⟨w1, l1, e1, s1⟩ := open_isl q1
      obtain ⟨w2, l2, e2, s2⟩ := open_isl q2
      obtain ⟨w3, l3, e3, s3⟩ := open_isl q3
      obtain ⟨w4, l4, e4, s4⟩ := open_psl q4
      have f0 := len_slice Try.underlying22 q0 e0 s0
      have f1 := len_slice Try.underlying22 q1 e1 s1
      have f2 := len_slice Try.underlying22 q2 e2 s2
      have f3 := len_slice Try.underlying22 q3 e3 s3
      have f4 := len_slice Try.underlying23 q4 e4 s4
      have hd : d = .agg [y0.1, y1.1, y2.1, y3.1, y4.1] := by simpa using congrArg Prod.fst hxx
      subst hd
      simp only [Rows.uptoBulk, Rows.uptoBulkAll] at hk
      have g0 := bulk_of f0
      have g1 := bulk_of f1
      have g2 := bulk_of f2
      have g3 := bulk_of f3
      have g4 := bulk_of f4
      simp [cells_li] at e0 e1 e2 e3
      simp [cells_lp] at e4
      subst e0; subst e1; subst e2; subst e3; subst e4
      exact ⟨_, _, _, _, _, ⟨l0, l1, l2, l3, l4⟩, rfl, ⟨s0, s1, s2, s3, s4⟩, ⟨by show l0.length * 8 ≤ _; omega, by show l1.length * 8 ≤ _; omega, by show l2.length * 8 ≤ _; omega, by show l3.length * 8 ≤ _; omega, by show l4.length * 16 ≤ _; omega⟩⟩
theorem open_ints_u {r : Reach} {b0 : Nat} {v : Value} {d : DataW H} {p : List MemPlace} (hv : Value.okWide Try.prog w r b0 22 v) (h : DataW.Trod enc Try.prog w base spare held 22 v d p) (hk : Rows.uptoBulk d ≤ 1048576) :
    ∃ l, Sl w (fun _ => True) 1 v l.length (ints l) ∧ l.length ≤ 1048576 := by
  obtain ⟨a, n, cap, rfl⟩ := okWide_slice Try.underlying22 hv
  obtain ⟨fuel, hf⟩ := h
  have e0 : (Value.slice a n cap).cells.toList = [.slice a n cap] := rfl
  rw [e0] at hf
  obtain ⟨w0, l, e1, hs⟩ := open_isl hf
  simp at e1
  subst e1
  have f := len_slice Try.underlying22 hf rfl hs
  have g := bulk_of f
  exact ⟨l, hs, by simp only at g; omega⟩
end
end Go.Proofs.Ytegbcocbopgghab.Md
