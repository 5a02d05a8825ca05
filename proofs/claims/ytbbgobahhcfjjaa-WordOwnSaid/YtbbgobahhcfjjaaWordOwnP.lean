/-
  SMALL FACTS for the law WordOwn: rows that append makes.
-/
import Derived.Test.YtbbgobahhcfjjaaWordFstAll
import Derived.Test.YtbbgobahhcfjjaaWordCfg7
import Derived.Laws.OwnMore
import Derived.Deep.AppendLies
import Derived.ArgAppend
import Derived.OwnWalk
namespace Go.Proofs.Ytbbgobahhcfjjaa.Wo
open Go.RowKit
open Wc Wm Wr
set_option linter.unusedVariables false
/-- The n words of f as a list of values. -/
def rowL (f : Nat → Int) (n : Nat) : List Value := (List.range n).map (fun i => Value.int .u64 (f i))
theorem rowL_len (f : Nat → Int) (n : Nat) : (rowL f n).length = n * 1 := by simp [rowL]
theorem rowL_one (f : Nat → Int) (n : Nat) : ∀ u ∈ rowL f n, u.oneCell' = true := by
  intro u hu; simp only [rowL, List.mem_map] at hu; obtain ⟨i, _, rfl⟩ := hu; rfl
theorem rowL_cells {W : World} {b n : Nat} {f : Nat → Int} (h : Row W b n f) : ∀ j u, (rowL f n)[j]? = some u → W.cell? ((⟨b, 0, none⟩ : Addr).add j) = some u := by
  intro j u hu
  simp only [rowL, List.getElem?_map, Option.map_eq_some_iff] at hu
  obtain ⟨i, hi, rfl⟩ := hu
  rw [List.getElem?_eq_some_iff] at hi
  obtain ⟨hl, e⟩ := hi
  simp at hl e
  subst e
  rw [Addr.add_lit, Nat.zero_add]; exact h.cell j hl
theorem Row.grown {W W' : World} {b n : Nat} {f : Nat → Int} {row : Option Nat} (h : Row W b n f) (hg : W.grownBy W' row) (hne : some b ≠ row) : Row W' b n f :=
  ⟨fun i hi => (hg.cell_far ⟨b, i, none⟩ h.size hne).trans (h.cell i hi), fun i hi => (hg.frozen_far ⟨b, i, none⟩ h.size hne).trans (h.free i hi), Nat.lt_of_lt_of_le h.size hg.size⟩
theorem cfg_grown {W W' : World} {b : Nat} {x0 x1 x2 x3 x4 x5 x6 : Int} {row : Option Nat} (h : Bx.Cfg7 W b x0 x1 x2 x3 x4 x5 x6) (hg : W.grownBy W' row) (hne : some b ≠ row) : Bx.Cfg7 W' b x0 x1 x2 x3 x4 x5 x6 :=
  ⟨(hg.cell_far ⟨b, 0, none⟩ h.size hne).trans h.c0, (hg.cell_far ⟨b, 1, none⟩ h.size hne).trans h.c1, (hg.cell_far ⟨b, 2, none⟩ h.size hne).trans h.c2, (hg.cell_far ⟨b, 3, none⟩ h.size hne).trans h.c3,
   (hg.cell_far ⟨b, 4, none⟩ h.size hne).trans h.c4, (hg.cell_far ⟨b, 5, none⟩ h.size hne).trans h.c5, (hg.cell_far ⟨b, 6, none⟩ h.size hne).trans h.c6, Nat.lt_of_lt_of_le h.size hg.size⟩
theorem below_of_grown {W W' : World} (hg : W.grownBy W' none) : Below W.heap.size W W' := ⟨hg.os, hg.tape, hg.output, hg.size, fun k hk => hg.block k hk (by simp)⟩
/-- What append made, as a row. -/
theorem row_of_own {W : World} {base e n m : Nat} {v : Value} {xs : List Value} {f : Nat → Int} (h : W.ownsRow base e 1 v n xs) (hn : 0 < n) (hm : m ≤ n) (hf : ∀ i, i < m → xs[i]? = some (.int .u64 (f i))) :
    ∃ g cap, v = .slice (some ⟨g, 0, none⟩) n cap ∧ base ≤ g ∧ Row W g m f := by
  obtain ⟨hl, h2⟩ := id h
  rcases h2 with ⟨_, h0⟩ | ⟨g, cap, cur, rfl, hb, hg, _, _, _, _⟩
  · omega
  · refine ⟨g, cap, rfl, hb, ⟨fun i hi => ?_, fun i hi => h.frozenAt i, ?_⟩⟩
    · rw [h.cellAt i (by omega)]; exact hf i hi
    · exact (h.lt g rfl).2
theorem rowL_get (f : Nat → Int) (n i : Nat) (hi : i < n) : (rowL f n)[i]? = some (.int .u64 (f i)) := by simp [rowL, hi]
/-- The words of a while the first loop writes them. -/
def gk (f : Nat → Int) (k i : Nat) : Int := if i < k then 77 + (i : Int) else f i
theorem gk_step (f : Nat → Int) (k i : Nat) : gk f (k + 1) i = if i = k then 77 + (k : Int) else gk f k i := by
  unfold gk; (repeat' split) <;> first | rfl | omega | (subst_vars; rfl)
theorem gk_end (f : Nat → Int) (n i : Nat) (h : i < n) : gk f n i = 77 + (i : Int) := by unfold gk; rw [if_pos h]
/-- The words of b while the fourth loop writes them. -/
def ek (f : Nat → Int) (k i : Nat) : Int := if i < k then 11 else f i
theorem ek_step (f : Nat → Int) (k i : Nat) : ek f (k + 1) i = if i = k then 11 else ek f k i := by
  unfold ek; (repeat' split) <;> first | rfl | omega
def s77 (i : Nat) : Int := 77 + (i : Int)
/-- What grown holds behind k appends. -/
def grownL (n k : Nat) : List Value := rowL s77 n ++ List.replicate k (.int .u64 99)
theorem grownL_zero (n : Nat) : grownL n 0 = rowL s77 n := by simp [grownL]
theorem grownL_succ (n k : Nat) : grownL n k ++ [.int .u64 99] = grownL n (k + 1) := by
  simp [grownL, List.replicate_succ']
theorem grownL_get (n k i : Nat) (hi : i < n) : (grownL n k)[i]? = some (.int .u64 (s77 i)) := by
  unfold grownL
  rw [List.getElem?_append_left (by simp [rowL, hi])]
  exact rowL_get s77 n i hi
end Go.Proofs.Ytbbgobahhcfjjaa.Wo
