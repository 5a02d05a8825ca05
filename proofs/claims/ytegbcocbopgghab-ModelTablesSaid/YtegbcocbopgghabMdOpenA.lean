import Derived.Test.YtegbcocbopgghabMdOpen
/-
  OPENING a struct of contents and three numbers (reclaimlaw11.Adding) that came in.
-/
namespace Go.Proofs.Ytegbcocbopgghab.Md
open Go.ChangeShapes Go.WideShapes Go.ChangeAt Go.RowKit Go.Deep
open Mr
set_option linter.unusedVariables false
set_option maxRecDepth 100000
theorem cells_cd : Try.prog.cellsOf 27 = 8 := by kernel_rfl
section
variable {H : Type} {enc : TypeId × Value → H} {w : World} {base : Nat} {spare : Nat → Bool} {held : Bool}
theorem trod_ct {fuel : Nat} {cs : List Value} {x : DataW H × List MemPlace} (hf : DataW.trod enc Try.prog w base spare held fuel 25 cs = some x) (hsz : (x.1.weights Try.prog 25).all (· ≤ reachBytes) = true) :
    ∃ v0 v1 v2 v3 v4 y, cs = [v0, v1, v2, v3, v4] ∧ CtAt w (fun _ => True) v0 v1 v2 v3 v4 y ∧ CtIn 140737488351232 y := by
  obtain ⟨xs, n, _, hxx, hl, hxl, hx⟩ := DataW.trod_struct Try.underlying25 hf
  rw [cells_ct] at hl
  match cs, hl with
  | [x0, x1, x2, x3, x4], _ =>
    have q0 := hx 0 _ rfl
    have q1 := hx 1 _ rfl
    have q2 := hx 2 _ rfl
    have q3 := hx 3 _ rfl
    have q4 := hx 4 _ rfl
    have hxs : xs.length = 5 := by simpa using hxl
    match xs, hxs with
    | [y0, y1, y2, y3, y4], _ =>
      obtain ⟨w0, l0, e0, s0⟩ := open_isl q0
      obtain ⟨w1, l1, e1, s1⟩ := open_isl q1
      obtain ⟨w2, l2, e2, s2⟩ := open_isl q2
      obtain ⟨w3, l3, e3, s3⟩ := open_isl q3
      obtain ⟨w4, l4, e4, s4⟩ := open_psl q4
      have f0 := len_slice Try.underlying22 q0 e0 s0
      have f1 := len_slice Try.underlying22 q1 e1 s1
      have f2 := len_slice Try.underlying22 q2 e2 s2
      have f3 := len_slice Try.underlying22 q3 e3 s3
      have f4 := len_slice Try.underlying23 q4 e4 s4
      have hd : x.1 = .agg [y0.1, y1.1, y2.1, y3.1, y4.1] := by simpa using congrArg Prod.fst hxx
      rw [hd] at hsz
      simp only [DataW.weights, Try.underlying25] at hsz
      have g0 := reach_of hsz (j := 0) (t := 22) rfl rfl Try.underlying22 bytes_i64 f0
      have g1 := reach_of hsz (j := 1) (t := 22) rfl rfl Try.underlying22 bytes_i64 f1
      have g2 := reach_of hsz (j := 2) (t := 22) rfl rfl Try.underlying22 bytes_i64 f2
      have g3 := reach_of hsz (j := 3) (t := 22) rfl rfl Try.underlying22 bytes_i64 f3
      have g4 := reach_of hsz (j := 4) (t := 23) rfl rfl Try.underlying23 bytes_pr f4
      simp [cells_li] at e0 e1 e2 e3
      simp [cells_lp] at e4
      subst e0; subst e1; subst e2; subst e3; subst e4
      exact ⟨_, _, _, _, _, ⟨l0, l1, l2, l3, l4⟩, rfl, ⟨s0, s1, s2, s3, s4⟩, ⟨g0, g1, g2, g3, g4⟩⟩
theorem open_cd {r : Reach} {b0 : Nat} {v : Value} {d : DataW H} {p : List MemPlace} (hv : Value.okWide Try.prog w r b0 27 v) (h : DataW.Trod enc Try.prog w base spare held 27 v d p) (hsz : (d.weights Try.prog 27).all (· ≤ reachBytes) = true) :
    ∃ v0 v1 v2 v3 v4 y, ∃ a b c : Int, v = .agg #[v0, v1, v2, v3, v4, .int .i64 a, .int .i64 b, .int .i64 c] ∧ CtAt w (fun _ => True) v0 v1 v2 v3 v4 y ∧ CtIn 140737488351232 y := by
  obtain ⟨cs, rfl, hcz⟩ := okWide_struct Try.underlying27 hv
  rw [cells_cd] at hcz
  obtain ⟨fuel, hfu⟩ := h
  obtain ⟨xs, n, _, hxx, hl, hxl, hx⟩ := DataW.trod_struct Try.underlying27 hfu
  have hcs : (Value.agg cs).cells.toList = cs.toList := rfl
  rw [hcs] at hx
  obtain ⟨l, rfl⟩ : ∃ l : List Value, cs = l.toArray := ⟨cs.toList, by simp⟩
  match l, hcz with
  | [x0, x1, x2, x3, x4, x5, x6, x7], _ =>
    have q0 := hx 0 _ rfl
    have q1 := hx 1 _ rfl
    have q2 := hx 2 _ rfl
    have q3 := hx 3 _ rfl
    have hxs : xs.length = 4 := by simpa using hxl
    match xs, hxs with
    | [y0, y1, y2, y3], _ =>
      have hd : d = .agg [y0.1, y1.1, y2.1, y3.1] := by simpa using congrArg Prod.fst hxx
      subst hd
      simp only [DataW.weights, Try.underlying27] at hsz
      have s0 : (y0.1.weights Try.prog 25).all (· ≤ reachBytes) = true := List.all_eq_true.2 fun m hm => List.all_eq_true.1 hsz m (DataW.weights_mem_each (j := 0) rfl rfl m hm)
      simp [cells_ct, cells_i64] at q0 q1 q2 q3
      obtain ⟨v0, v1, v2, v3, v4, y, e0, h1, h2⟩ := trod_ct q0 s0
      obtain ⟨a, ea, _⟩ := DataW.trod_int Try.underlying3 q1
      obtain ⟨b, eb, _⟩ := DataW.trod_int Try.underlying3 q2
      obtain ⟨c, ec, _⟩ := DataW.trod_int Try.underlying3 q3
      simp at e0 ea eb ec
      obtain ⟨r0, r1, r2, r3, r4⟩ := e0
      subst r0; subst r1; subst r2; subst r3; subst r4; subst ea; subst eb; subst ec
      exact ⟨_, _, _, _, _, y, a, b, c, rfl, h1, h2⟩
end
end Go.Proofs.Ytegbcocbopgghab.Md
