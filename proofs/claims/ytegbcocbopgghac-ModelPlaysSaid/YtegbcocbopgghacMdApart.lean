import Derived.Test.YtegbcocbopgghacMdSort
/-
  Calls of the objects, purely: what is left may be; a call's own object alone; calls of unlike objects change places.
-/
namespace Go.Proofs.Ytegbcocbopgghac.Md
open Go.RowKit Mr Me
set_option linter.unusedVariables false
theorem obj_ops {op : Int} (ho : obj op ≠ 0) : op = 22 ∨ op = 23 ∨ op = 30 ∨ op = 31 ∨ op = 40 ∨ op = 41 ∨ op = 50 ∨ op = 51 ∨ op = 52 ∨ op = 60 ∨ op = 61 ∨ op = 62 := by
  unfold obj at ho
  by_cases h1 : op = 22 ∨ op = 23
  · omega
  rw [if_neg h1] at ho
  by_cases h2 : op = 30 ∨ op = 31
  · omega
  rw [if_neg h2] at ho
  by_cases h3 : op = 40 ∨ op = 41
  · omega
  rw [if_neg h3] at ho
  by_cases h4 : op = 50 ∨ op = 51 ∨ op = 52
  · omega
  rw [if_neg h4] at ho
  by_cases h5 : op = 60 ∨ op = 61 ∨ op = 62
  · omega
  rw [if_neg h5] at ho
  exact absurd rfl ho
theorem may_dnx {x : Ct} (h : May x) {op : Int} (ho : obj op ≠ 0) (arg data : Int) : May (dnx x op arg data) := by
  obtain ⟨h0, h1, h2⟩ := h
  have p1 := ris_pw.1 h1
  have p2 : (keysOf x.table).Pairwise (· < ·) := ris_pw.1 h2
  rcases obj_ops ho with rfl | rfl | rfl | rfl | rfl | rfl | rfl | rfl | rfl | rfl | rfl | rfl
  · exact ⟨by show ([arg] : List Int).length ≤ 1; simp, h1, h2⟩
  · exact ⟨h0, h1, h2⟩
  · exact ⟨h0, h1, h2⟩
  · exact ⟨h0, h1, h2⟩
  · exact ⟨h0, h1, h2⟩
  · exact ⟨h0, h1, h2⟩
  · refine ⟨h0, ?_, h2⟩
    show Ris (if inB x.set arg then x.set else insL x.set arg)
    cases hb : inB x.set arg with
    | true => exact h1
    | false => exact ris_pw.2 (pw_ins p1 hb)
  · refine ⟨h0, ?_, h2⟩
    show Ris (if inB x.set arg then delL x.set arg else x.set)
    cases hb : inB x.set arg with
    | true => exact ris_pw.2 (pw_del p1 hb)
    | false => exact h1
  · exact ⟨h0, h1, h2⟩
  · refine ⟨h0, h1, ?_⟩
    show Ris (keysOf (if inB (keysOf x.table) arg then x.table else insT x.table arg data))
    cases hb : inB (keysOf x.table) arg with
    | true => exact h2
    | false => exact ris_pw.2 (by show (keysOf (insT x.table arg data)).Pairwise (· < ·); rw [keys_ins]; exact pw_ins p2 hb)
  · refine ⟨h0, h1, ?_⟩
    show Ris (keysOf (if inB (keysOf x.table) arg then delT x.table arg else x.table))
    cases hb : inB (keysOf x.table) arg with
    | true => exact ris_pw.2 (by show (keysOf (delT x.table arg)).Pairwise (· < ·); rw [keys_del]; exact pw_del p2 hb)
    | false => exact h2
  · exact ⟨h0, h1, h2⟩
end Go.Proofs.Ytegbcocbopgghac.Md
