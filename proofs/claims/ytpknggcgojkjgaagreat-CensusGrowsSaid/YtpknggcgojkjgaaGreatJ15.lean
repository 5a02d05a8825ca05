import Derived.Test.YtpknggcgojkjgaaGreatJ14
import Derived.Test.YtpknggcgojkjgaaGreatJ09
import Derived.BigQuiet
import Derived.Deep.LoopGhost
/-
  CENSUS: the judge's table.
-/
namespace Go.Proofs.YtpknggcgojkjgaaGreat.Cn
open Go.RowKit Mr Md
set_option linter.unusedVariables false
set_option linter.unusedSimpArgs false
set_option maxRecDepth 100000
/-- A new row of function values. -/
def Nf (B : Nat) (fs : List Fv) (v : Value) (w : World) : Prop := ∃ b, v = .slice (some ⟨b, 0, none⟩) fs.length fs.length ∧ B ≤ b ∧ w.heap[b]? = some (.cells (fs.map Fv.val).toArray 88 (0, 0))
theorem Nf.below {B : Nat} {fs : List Fv} {v : Value} {w w' : World} (h : Nf B fs v w) (hB : Below w.heap.size w w') : Nf B fs v w' := by
  obtain ⟨b, hv, hb, hh⟩ := h
  exact ⟨b, hv, hb, (hB.block b (Array.getElem?_eq_some_iff.1 hh).1).trans hh⟩
theorem Nf.new (B : Nat) (fs : List Fv) (w w' : World) (h1 : B ≤ w.heap.size) (h2 : w' = w.alloc (.cells (fs.map Fv.val).toArray 88 (0, 0))) : Nf B fs (.slice (some ⟨w.heap.size, 0, none⟩) fs.length fs.length) w' := ⟨_, rfl, h1, by rw [h2]; exact new_at _ _ _ rfl⟩
theorem Nf.row {B : Nat} {fs : List Fv} {v : Value} {w : World} (h : Nf B fs v w) : Frow w (fun k => B ≤ k) v fs := by
  obtain ⟨b, rfl, hb, hh⟩ := h
  refine ⟨by simp, _, _, rfl, Nat.le_refl _, .inr ⟨b, 0, rfl, hb, (Array.getElem?_eq_some_iff.1 hh).1, fun j u hu => ?_⟩⟩
  rw [Nat.zero_add, cell_blk hh]
  simpa using hu
def jrows (bj : Nat) : Nat → List Fv
  | 6 => [jfv 60 bj, jfv 149 bj]
  | 17 => [jfv 62 bj, jfv 150 bj, jfv 151 bj, jfv 152 bj]
  | 30 => [jfv 62 bj, jfv 150 bj, jfv 151 bj, jfv 153 bj, jfv 154 bj]
  | 43 => [jfv 62 bj, jfv 150 bj, jfv 151 bj, jfv 153 bj, jfv 155 bj]
  | 52 => [jfv 62 bj, jfv 150 bj, jfv 156 bj]
  | 55 => [jfv 157 bj]
  | _ => []
set_option maxHeartbeats 32000000 in
theorem jtable_any (bj : Nat) (W : World) : Calls Tryz.prog 121 #[.pointer (some ⟨bj, 0, none⟩)] W fun r w' => Below W.heap.size W w' ∧ ∃ v0 v1 v2 v3 v4 v5, r = .returned (tabV v0 v1 v2 v3 v4 v5) ∧ Frow w' (fun k => W.heap.size ≤ k) v0 [jfv 60 bj, jfv 149 bj] ∧ Frow w' (fun k => W.heap.size ≤ k) v1 [jfv 62 bj, jfv 150 bj, jfv 151 bj, jfv 152 bj] ∧ Frow w' (fun k => W.heap.size ≤ k) v2 [jfv 62 bj, jfv 150 bj, jfv 151 bj, jfv 153 bj, jfv 154 bj] ∧ Frow w' (fun k => W.heap.size ≤ k) v3 [jfv 62 bj, jfv 150 bj, jfv 151 bj, jfv 153 bj, jfv 155 bj] ∧ Frow w' (fun k => W.heap.size ≤ k) v4 [jfv 62 bj, jfv 150 bj, jfv 156 bj] ∧ Frow w' (fun k => W.heap.size ≤ k) v5 [jfv 157 bj] := by
  go_enter Tryz.func121, Tryz.ntmps121
  go_upto_region 1 with (fail)
  have hB : Hid (Below W.heap.size W (W.alloc (.cells #[.slice none 0 0, .slice none 0 0, .slice none 0 0, .slice none 0 0, .slice none 0 0, .slice none 0 0] 91 (0, 0)))) := (Below.refl _ _).alloc (Nat.le_refl _) _
  have hb : Hid ((W.alloc (.cells #[.slice none 0 0, .slice none 0 0, .slice none 0 0, .slice none 0 0, .slice none 0 0, .slice none 0 0] 91 (0, 0))).heap[W.heap.size]? = some (.cells #[.slice none 0 0, .slice none 0 0, .slice none 0 0, .slice none 0 0, .slice none 0 0, .slice none 0 0] 91 (0, 0))) := heap_alloc_new _ _
  generalize (W.alloc _) = wa at *
  obtain ⟨B, hBe⟩ : ∃ B, B = W.heap.size := ⟨_, rfl⟩
  rw [← hBe] at hb hB ⊢
  replace hBe := Mr.hid hBe
  have hl := (Array.getElem?_eq_some_iff.1 hb.out).1
  have S0 : Fr wa wa.drew (fun k => k = B) := (Fr.refl _ _).drew
  refine wp_region_held_drew (S := fun w' => Fr wa w' (fun k => k = B)) (by kernel_rfl) S0 (fun hS => ?_)
  try simp only [Act.put, List.getElem_toArray, List.getElem_cons_zero, List.getElem_cons_succ, List.setIfInBounds_toArray, List.set_cons_zero, List.set_cons_succ]
  refine wpAnyH_take (i := 0) (v := .pointer (some ⟨bj, 0, none⟩)) rfl (by kernel_rfl) (by kernel_rfl) (by kernel_rfl) (fun _ _ _ h => h) (Or.inl ⟨by kernel_rfl, fun w' hw => ?y0⟩) hS ?_
  case y0 =>
    clear hS
    go_simp
  try simp only [Act.put, List.getElem_toArray, List.getElem_cons_zero, List.getElem_cons_succ, List.setIfInBounds_toArray, List.set_cons_zero, List.set_cons_succ]
  refine wpAnyH_take (i := 1) (v := .pointer (some ⟨bj, 0, none⟩)) rfl (by kernel_rfl) (by kernel_rfl) (by kernel_rfl) (fun _ _ _ h => h) (Or.inl ⟨by kernel_rfl, fun w' hw => ?y1⟩) hS ?_
  case y1 =>
    clear hS
    go_simp
  try simp only [Act.put, List.getElem_toArray, List.getElem_cons_zero, List.getElem_cons_succ, List.setIfInBounds_toArray, List.set_cons_zero, List.set_cons_succ]
  refine wpAnyH_take (i := 2) (v := .pointer (some ⟨bj, 0, none⟩)) rfl (by kernel_rfl) (by kernel_rfl) (by kernel_rfl) (fun _ _ _ h => h) (Or.inl ⟨by kernel_rfl, fun w' hw => ?y2⟩) hS ?_
  case y2 =>
    clear hS
    go_simp
  try simp only [Act.put, List.getElem_toArray, List.getElem_cons_zero, List.getElem_cons_succ, List.setIfInBounds_toArray, List.set_cons_zero, List.set_cons_succ]
  refine wpAnyH_take (i := 3) (v := .func (.func 60) #[.pointer (some ⟨bj, 0, none⟩)] #[]) rfl (by kernel_rfl) (by kernel_rfl) (by kernel_rfl) (fun _ _ _ h => h) (Or.inl ⟨by kernel_rfl, fun w' hw => ?y3⟩) hS ?_
  case y3 =>
    clear hS
    go_simp
  try simp only [Act.put, List.getElem_toArray, List.getElem_cons_zero, List.getElem_cons_succ, List.setIfInBounds_toArray, List.set_cons_zero, List.set_cons_succ]
  refine wpAnyH_take (i := 4) (v := .pointer (some ⟨bj, 0, none⟩)) rfl (by kernel_rfl) (by kernel_rfl) (by kernel_rfl) (fun _ _ _ h => h) (Or.inl ⟨by kernel_rfl, fun w' hw => ?y4⟩) hS ?_
  case y4 =>
    clear hS
    go_simp
  try simp only [Act.put, List.getElem_toArray, List.getElem_cons_zero, List.getElem_cons_succ, List.setIfInBounds_toArray, List.set_cons_zero, List.set_cons_succ]
  refine wpAnyH_take (i := 5) (v := .func (.func 149) #[.pointer (some ⟨bj, 0, none⟩)] #[]) rfl (by kernel_rfl) (by kernel_rfl) (by kernel_rfl) (fun _ _ _ h => h) (Or.inl ⟨by kernel_rfl, fun w' hw => ?y5⟩) hS ?_
  case y5 =>
    clear hS
    go_simp
  try simp only [Act.put, List.getElem_toArray, List.getElem_cons_zero, List.getElem_cons_succ, List.setIfInBounds_toArray, List.set_cons_zero, List.set_cons_succ]
  refine wpAnyH_take (i := 7) (v := .pointer (some ⟨bj, 0, none⟩)) rfl (by kernel_rfl) (by kernel_rfl) (by kernel_rfl) (fun _ _ _ h => h) (Or.inl ⟨by kernel_rfl, fun w' hw => ?y7⟩) hS ?_
  case y7 =>
    clear hS
    go_simp
  try simp only [Act.put, List.getElem_toArray, List.getElem_cons_zero, List.getElem_cons_succ, List.setIfInBounds_toArray, List.set_cons_zero, List.set_cons_succ]
  refine wpAnyH_take (i := 8) (v := .pointer (some ⟨bj, 0, none⟩)) rfl (by kernel_rfl) (by kernel_rfl) (by kernel_rfl) (fun _ _ _ h => h) (Or.inl ⟨by kernel_rfl, fun w' hw => ?y8⟩) hS ?_
  case y8 =>
    clear hS
    go_simp
  try simp only [Act.put, List.getElem_toArray, List.getElem_cons_zero, List.getElem_cons_succ, List.setIfInBounds_toArray, List.set_cons_zero, List.set_cons_succ]
  refine wpAnyH_take (i := 9) (v := .pointer (some ⟨bj, 0, none⟩)) rfl (by kernel_rfl) (by kernel_rfl) (by kernel_rfl) (fun _ _ _ h => h) (Or.inl ⟨by kernel_rfl, fun w' hw => ?y9⟩) hS ?_
  case y9 =>
    clear hS
    go_simp
  try simp only [Act.put, List.getElem_toArray, List.getElem_cons_zero, List.getElem_cons_succ, List.setIfInBounds_toArray, List.set_cons_zero, List.set_cons_succ]
  refine wpAnyH_take (i := 10) (v := .func (.func 62) #[.pointer (some ⟨bj, 0, none⟩)] #[]) rfl (by kernel_rfl) (by kernel_rfl) (by kernel_rfl) (fun _ _ _ h => h) (Or.inl ⟨by kernel_rfl, fun w' hw => ?y10⟩) hS ?_
  case y10 =>
    clear hS
    go_simp
  try simp only [Act.put, List.getElem_toArray, List.getElem_cons_zero, List.getElem_cons_succ, List.setIfInBounds_toArray, List.set_cons_zero, List.set_cons_succ]
  refine wpAnyH_take (i := 11) (v := .pointer (some ⟨bj, 0, none⟩)) rfl (by kernel_rfl) (by kernel_rfl) (by kernel_rfl) (fun _ _ _ h => h) (Or.inl ⟨by kernel_rfl, fun w' hw => ?y11⟩) hS ?_
  case y11 =>
    clear hS
    go_simp
  try simp only [Act.put, List.getElem_toArray, List.getElem_cons_zero, List.getElem_cons_succ, List.setIfInBounds_toArray, List.set_cons_zero, List.set_cons_succ]
  refine wpAnyH_take (i := 12) (v := .func (.func 150) #[.pointer (some ⟨bj, 0, none⟩)] #[]) rfl (by kernel_rfl) (by kernel_rfl) (by kernel_rfl) (fun _ _ _ h => h) (Or.inl ⟨by kernel_rfl, fun w' hw => ?y12⟩) hS ?_
  case y12 =>
    clear hS
    go_simp
  try simp only [Act.put, List.getElem_toArray, List.getElem_cons_zero, List.getElem_cons_succ, List.setIfInBounds_toArray, List.set_cons_zero, List.set_cons_succ]
  refine wpAnyH_take (i := 13) (v := .pointer (some ⟨bj, 0, none⟩)) rfl (by kernel_rfl) (by kernel_rfl) (by kernel_rfl) (fun _ _ _ h => h) (Or.inl ⟨by kernel_rfl, fun w' hw => ?y13⟩) hS ?_
  case y13 =>
    clear hS
    go_simp
  try simp only [Act.put, List.getElem_toArray, List.getElem_cons_zero, List.getElem_cons_succ, List.setIfInBounds_toArray, List.set_cons_zero, List.set_cons_succ]
  refine wpAnyH_take (i := 14) (v := .func (.func 151) #[.pointer (some ⟨bj, 0, none⟩)] #[]) rfl (by kernel_rfl) (by kernel_rfl) (by kernel_rfl) (fun _ _ _ h => h) (Or.inl ⟨by kernel_rfl, fun w' hw => ?y14⟩) hS ?_
  case y14 =>
    clear hS
    go_simp
  try simp only [Act.put, List.getElem_toArray, List.getElem_cons_zero, List.getElem_cons_succ, List.setIfInBounds_toArray, List.set_cons_zero, List.set_cons_succ]
  refine wpAnyH_take (i := 15) (v := .pointer (some ⟨bj, 0, none⟩)) rfl (by kernel_rfl) (by kernel_rfl) (by kernel_rfl) (fun _ _ _ h => h) (Or.inl ⟨by kernel_rfl, fun w' hw => ?y15⟩) hS ?_
  case y15 =>
    clear hS
    go_simp
  try simp only [Act.put, List.getElem_toArray, List.getElem_cons_zero, List.getElem_cons_succ, List.setIfInBounds_toArray, List.set_cons_zero, List.set_cons_succ]
  refine wpAnyH_take (i := 16) (v := .func (.func 152) #[.pointer (some ⟨bj, 0, none⟩)] #[]) rfl (by kernel_rfl) (by kernel_rfl) (by kernel_rfl) (fun _ _ _ h => h) (Or.inl ⟨by kernel_rfl, fun w' hw => ?y16⟩) hS ?_
  case y16 =>
    clear hS
    go_simp
  try simp only [Act.put, List.getElem_toArray, List.getElem_cons_zero, List.getElem_cons_succ, List.setIfInBounds_toArray, List.set_cons_zero, List.set_cons_succ]
  refine wpAnyH_take (i := 18) (v := .pointer (some ⟨bj, 0, none⟩)) rfl (by kernel_rfl) (by kernel_rfl) (by kernel_rfl) (fun _ _ _ h => h) (Or.inl ⟨by kernel_rfl, fun w' hw => ?y18⟩) hS ?_
  case y18 =>
    clear hS
    go_simp
  try simp only [Act.put, List.getElem_toArray, List.getElem_cons_zero, List.getElem_cons_succ, List.setIfInBounds_toArray, List.set_cons_zero, List.set_cons_succ]
  refine wpAnyH_take (i := 19) (v := .pointer (some ⟨bj, 0, none⟩)) rfl (by kernel_rfl) (by kernel_rfl) (by kernel_rfl) (fun _ _ _ h => h) (Or.inl ⟨by kernel_rfl, fun w' hw => ?y19⟩) hS ?_
  case y19 =>
    clear hS
    go_simp
  try simp only [Act.put, List.getElem_toArray, List.getElem_cons_zero, List.getElem_cons_succ, List.setIfInBounds_toArray, List.set_cons_zero, List.set_cons_succ]
  refine wpAnyH_take (i := 20) (v := .pointer (some ⟨bj, 0, none⟩)) rfl (by kernel_rfl) (by kernel_rfl) (by kernel_rfl) (fun _ _ _ h => h) (Or.inl ⟨by kernel_rfl, fun w' hw => ?y20⟩) hS ?_
  case y20 =>
    clear hS
    go_simp
  try simp only [Act.put, List.getElem_toArray, List.getElem_cons_zero, List.getElem_cons_succ, List.setIfInBounds_toArray, List.set_cons_zero, List.set_cons_succ]
  refine wpAnyH_take (i := 21) (v := .func (.func 62) #[.pointer (some ⟨bj, 0, none⟩)] #[]) rfl (by kernel_rfl) (by kernel_rfl) (by kernel_rfl) (fun _ _ _ h => h) (Or.inl ⟨by kernel_rfl, fun w' hw => ?y21⟩) hS ?_
  case y21 =>
    clear hS
    go_simp
  try simp only [Act.put, List.getElem_toArray, List.getElem_cons_zero, List.getElem_cons_succ, List.setIfInBounds_toArray, List.set_cons_zero, List.set_cons_succ]
  refine wpAnyH_take (i := 22) (v := .pointer (some ⟨bj, 0, none⟩)) rfl (by kernel_rfl) (by kernel_rfl) (by kernel_rfl) (fun _ _ _ h => h) (Or.inl ⟨by kernel_rfl, fun w' hw => ?y22⟩) hS ?_
  case y22 =>
    clear hS
    go_simp
  try simp only [Act.put, List.getElem_toArray, List.getElem_cons_zero, List.getElem_cons_succ, List.setIfInBounds_toArray, List.set_cons_zero, List.set_cons_succ]
  refine wpAnyH_take (i := 23) (v := .func (.func 150) #[.pointer (some ⟨bj, 0, none⟩)] #[]) rfl (by kernel_rfl) (by kernel_rfl) (by kernel_rfl) (fun _ _ _ h => h) (Or.inl ⟨by kernel_rfl, fun w' hw => ?y23⟩) hS ?_
  case y23 =>
    clear hS
    go_simp
  try simp only [Act.put, List.getElem_toArray, List.getElem_cons_zero, List.getElem_cons_succ, List.setIfInBounds_toArray, List.set_cons_zero, List.set_cons_succ]
  refine wpAnyH_take (i := 24) (v := .pointer (some ⟨bj, 0, none⟩)) rfl (by kernel_rfl) (by kernel_rfl) (by kernel_rfl) (fun _ _ _ h => h) (Or.inl ⟨by kernel_rfl, fun w' hw => ?y24⟩) hS ?_
  case y24 =>
    clear hS
    go_simp
  try simp only [Act.put, List.getElem_toArray, List.getElem_cons_zero, List.getElem_cons_succ, List.setIfInBounds_toArray, List.set_cons_zero, List.set_cons_succ]
  refine wpAnyH_take (i := 25) (v := .func (.func 151) #[.pointer (some ⟨bj, 0, none⟩)] #[]) rfl (by kernel_rfl) (by kernel_rfl) (by kernel_rfl) (fun _ _ _ h => h) (Or.inl ⟨by kernel_rfl, fun w' hw => ?y25⟩) hS ?_
  case y25 =>
    clear hS
    go_simp
  try simp only [Act.put, List.getElem_toArray, List.getElem_cons_zero, List.getElem_cons_succ, List.setIfInBounds_toArray, List.set_cons_zero, List.set_cons_succ]
  refine wpAnyH_take (i := 26) (v := .pointer (some ⟨bj, 0, none⟩)) rfl (by kernel_rfl) (by kernel_rfl) (by kernel_rfl) (fun _ _ _ h => h) (Or.inl ⟨by kernel_rfl, fun w' hw => ?y26⟩) hS ?_
  case y26 =>
    clear hS
    go_simp
  try simp only [Act.put, List.getElem_toArray, List.getElem_cons_zero, List.getElem_cons_succ, List.setIfInBounds_toArray, List.set_cons_zero, List.set_cons_succ]
  refine wpAnyH_take (i := 27) (v := .func (.func 153) #[.pointer (some ⟨bj, 0, none⟩)] #[]) rfl (by kernel_rfl) (by kernel_rfl) (by kernel_rfl) (fun _ _ _ h => h) (Or.inl ⟨by kernel_rfl, fun w' hw => ?y27⟩) hS ?_
  case y27 =>
    clear hS
    go_simp
  try simp only [Act.put, List.getElem_toArray, List.getElem_cons_zero, List.getElem_cons_succ, List.setIfInBounds_toArray, List.set_cons_zero, List.set_cons_succ]
  refine wpAnyH_take (i := 28) (v := .pointer (some ⟨bj, 0, none⟩)) rfl (by kernel_rfl) (by kernel_rfl) (by kernel_rfl) (fun _ _ _ h => h) (Or.inl ⟨by kernel_rfl, fun w' hw => ?y28⟩) hS ?_
  case y28 =>
    clear hS
    go_simp
  try simp only [Act.put, List.getElem_toArray, List.getElem_cons_zero, List.getElem_cons_succ, List.setIfInBounds_toArray, List.set_cons_zero, List.set_cons_succ]
  refine wpAnyH_take (i := 29) (v := .func (.func 154) #[.pointer (some ⟨bj, 0, none⟩)] #[]) rfl (by kernel_rfl) (by kernel_rfl) (by kernel_rfl) (fun _ _ _ h => h) (Or.inl ⟨by kernel_rfl, fun w' hw => ?y29⟩) hS ?_
  case y29 =>
    clear hS
    go_simp
  try simp only [Act.put, List.getElem_toArray, List.getElem_cons_zero, List.getElem_cons_succ, List.setIfInBounds_toArray, List.set_cons_zero, List.set_cons_succ]
  refine wpAnyH_take (i := 31) (v := .pointer (some ⟨bj, 0, none⟩)) rfl (by kernel_rfl) (by kernel_rfl) (by kernel_rfl) (fun _ _ _ h => h) (Or.inl ⟨by kernel_rfl, fun w' hw => ?y31⟩) hS ?_
  case y31 =>
    clear hS
    go_simp
  try simp only [Act.put, List.getElem_toArray, List.getElem_cons_zero, List.getElem_cons_succ, List.setIfInBounds_toArray, List.set_cons_zero, List.set_cons_succ]
  refine wpAnyH_take (i := 32) (v := .pointer (some ⟨bj, 0, none⟩)) rfl (by kernel_rfl) (by kernel_rfl) (by kernel_rfl) (fun _ _ _ h => h) (Or.inl ⟨by kernel_rfl, fun w' hw => ?y32⟩) hS ?_
  case y32 =>
    clear hS
    go_simp
  try simp only [Act.put, List.getElem_toArray, List.getElem_cons_zero, List.getElem_cons_succ, List.setIfInBounds_toArray, List.set_cons_zero, List.set_cons_succ]
  refine wpAnyH_take (i := 33) (v := .pointer (some ⟨bj, 0, none⟩)) rfl (by kernel_rfl) (by kernel_rfl) (by kernel_rfl) (fun _ _ _ h => h) (Or.inl ⟨by kernel_rfl, fun w' hw => ?y33⟩) hS ?_
  case y33 =>
    clear hS
    go_simp
  try simp only [Act.put, List.getElem_toArray, List.getElem_cons_zero, List.getElem_cons_succ, List.setIfInBounds_toArray, List.set_cons_zero, List.set_cons_succ]
  refine wpAnyH_take (i := 34) (v := .func (.func 62) #[.pointer (some ⟨bj, 0, none⟩)] #[]) rfl (by kernel_rfl) (by kernel_rfl) (by kernel_rfl) (fun _ _ _ h => h) (Or.inl ⟨by kernel_rfl, fun w' hw => ?y34⟩) hS ?_
  case y34 =>
    clear hS
    go_simp
  try simp only [Act.put, List.getElem_toArray, List.getElem_cons_zero, List.getElem_cons_succ, List.setIfInBounds_toArray, List.set_cons_zero, List.set_cons_succ]
  refine wpAnyH_take (i := 35) (v := .pointer (some ⟨bj, 0, none⟩)) rfl (by kernel_rfl) (by kernel_rfl) (by kernel_rfl) (fun _ _ _ h => h) (Or.inl ⟨by kernel_rfl, fun w' hw => ?y35⟩) hS ?_
  case y35 =>
    clear hS
    go_simp
  try simp only [Act.put, List.getElem_toArray, List.getElem_cons_zero, List.getElem_cons_succ, List.setIfInBounds_toArray, List.set_cons_zero, List.set_cons_succ]
  refine wpAnyH_take (i := 36) (v := .func (.func 150) #[.pointer (some ⟨bj, 0, none⟩)] #[]) rfl (by kernel_rfl) (by kernel_rfl) (by kernel_rfl) (fun _ _ _ h => h) (Or.inl ⟨by kernel_rfl, fun w' hw => ?y36⟩) hS ?_
  case y36 =>
    clear hS
    go_simp
  try simp only [Act.put, List.getElem_toArray, List.getElem_cons_zero, List.getElem_cons_succ, List.setIfInBounds_toArray, List.set_cons_zero, List.set_cons_succ]
  refine wpAnyH_take (i := 37) (v := .pointer (some ⟨bj, 0, none⟩)) rfl (by kernel_rfl) (by kernel_rfl) (by kernel_rfl) (fun _ _ _ h => h) (Or.inl ⟨by kernel_rfl, fun w' hw => ?y37⟩) hS ?_
  case y37 =>
    clear hS
    go_simp
  try simp only [Act.put, List.getElem_toArray, List.getElem_cons_zero, List.getElem_cons_succ, List.setIfInBounds_toArray, List.set_cons_zero, List.set_cons_succ]
  refine wpAnyH_take (i := 38) (v := .func (.func 151) #[.pointer (some ⟨bj, 0, none⟩)] #[]) rfl (by kernel_rfl) (by kernel_rfl) (by kernel_rfl) (fun _ _ _ h => h) (Or.inl ⟨by kernel_rfl, fun w' hw => ?y38⟩) hS ?_
  case y38 =>
    clear hS
    go_simp
  try simp only [Act.put, List.getElem_toArray, List.getElem_cons_zero, List.getElem_cons_succ, List.setIfInBounds_toArray, List.set_cons_zero, List.set_cons_succ]
  refine wpAnyH_take (i := 39) (v := .pointer (some ⟨bj, 0, none⟩)) rfl (by kernel_rfl) (by kernel_rfl) (by kernel_rfl) (fun _ _ _ h => h) (Or.inl ⟨by kernel_rfl, fun w' hw => ?y39⟩) hS ?_
  case y39 =>
    clear hS
    go_simp
  try simp only [Act.put, List.getElem_toArray, List.getElem_cons_zero, List.getElem_cons_succ, List.setIfInBounds_toArray, List.set_cons_zero, List.set_cons_succ]
  refine wpAnyH_take (i := 40) (v := .func (.func 153) #[.pointer (some ⟨bj, 0, none⟩)] #[]) rfl (by kernel_rfl) (by kernel_rfl) (by kernel_rfl) (fun _ _ _ h => h) (Or.inl ⟨by kernel_rfl, fun w' hw => ?y40⟩) hS ?_
  case y40 =>
    clear hS
    go_simp
  try simp only [Act.put, List.getElem_toArray, List.getElem_cons_zero, List.getElem_cons_succ, List.setIfInBounds_toArray, List.set_cons_zero, List.set_cons_succ]
  refine wpAnyH_take (i := 41) (v := .pointer (some ⟨bj, 0, none⟩)) rfl (by kernel_rfl) (by kernel_rfl) (by kernel_rfl) (fun _ _ _ h => h) (Or.inl ⟨by kernel_rfl, fun w' hw => ?y41⟩) hS ?_
  case y41 =>
    clear hS
    go_simp
  try simp only [Act.put, List.getElem_toArray, List.getElem_cons_zero, List.getElem_cons_succ, List.setIfInBounds_toArray, List.set_cons_zero, List.set_cons_succ]
  refine wpAnyH_take (i := 42) (v := .func (.func 155) #[.pointer (some ⟨bj, 0, none⟩)] #[]) rfl (by kernel_rfl) (by kernel_rfl) (by kernel_rfl) (fun _ _ _ h => h) (Or.inl ⟨by kernel_rfl, fun w' hw => ?y42⟩) hS ?_
  case y42 =>
    clear hS
    go_simp
  try simp only [Act.put, List.getElem_toArray, List.getElem_cons_zero, List.getElem_cons_succ, List.setIfInBounds_toArray, List.set_cons_zero, List.set_cons_succ]
  refine wpAnyH_take (i := 44) (v := .pointer (some ⟨bj, 0, none⟩)) rfl (by kernel_rfl) (by kernel_rfl) (by kernel_rfl) (fun _ _ _ h => h) (Or.inl ⟨by kernel_rfl, fun w' hw => ?y44⟩) hS ?_
  case y44 =>
    clear hS
    go_simp
  try simp only [Act.put, List.getElem_toArray, List.getElem_cons_zero, List.getElem_cons_succ, List.setIfInBounds_toArray, List.set_cons_zero, List.set_cons_succ]
  refine wpAnyH_take (i := 45) (v := .pointer (some ⟨bj, 0, none⟩)) rfl (by kernel_rfl) (by kernel_rfl) (by kernel_rfl) (fun _ _ _ h => h) (Or.inl ⟨by kernel_rfl, fun w' hw => ?y45⟩) hS ?_
  case y45 =>
    clear hS
    go_simp
  try simp only [Act.put, List.getElem_toArray, List.getElem_cons_zero, List.getElem_cons_succ, List.setIfInBounds_toArray, List.set_cons_zero, List.set_cons_succ]
  refine wpAnyH_take (i := 46) (v := .pointer (some ⟨bj, 0, none⟩)) rfl (by kernel_rfl) (by kernel_rfl) (by kernel_rfl) (fun _ _ _ h => h) (Or.inl ⟨by kernel_rfl, fun w' hw => ?y46⟩) hS ?_
  case y46 =>
    clear hS
    go_simp
  try simp only [Act.put, List.getElem_toArray, List.getElem_cons_zero, List.getElem_cons_succ, List.setIfInBounds_toArray, List.set_cons_zero, List.set_cons_succ]
  refine wpAnyH_take (i := 47) (v := .func (.func 62) #[.pointer (some ⟨bj, 0, none⟩)] #[]) rfl (by kernel_rfl) (by kernel_rfl) (by kernel_rfl) (fun _ _ _ h => h) (Or.inl ⟨by kernel_rfl, fun w' hw => ?y47⟩) hS ?_
  case y47 =>
    clear hS
    go_simp
  try simp only [Act.put, List.getElem_toArray, List.getElem_cons_zero, List.getElem_cons_succ, List.setIfInBounds_toArray, List.set_cons_zero, List.set_cons_succ]
  refine wpAnyH_take (i := 48) (v := .pointer (some ⟨bj, 0, none⟩)) rfl (by kernel_rfl) (by kernel_rfl) (by kernel_rfl) (fun _ _ _ h => h) (Or.inl ⟨by kernel_rfl, fun w' hw => ?y48⟩) hS ?_
  case y48 =>
    clear hS
    go_simp
  try simp only [Act.put, List.getElem_toArray, List.getElem_cons_zero, List.getElem_cons_succ, List.setIfInBounds_toArray, List.set_cons_zero, List.set_cons_succ]
  refine wpAnyH_take (i := 49) (v := .func (.func 150) #[.pointer (some ⟨bj, 0, none⟩)] #[]) rfl (by kernel_rfl) (by kernel_rfl) (by kernel_rfl) (fun _ _ _ h => h) (Or.inl ⟨by kernel_rfl, fun w' hw => ?y49⟩) hS ?_
  case y49 =>
    clear hS
    go_simp
  try simp only [Act.put, List.getElem_toArray, List.getElem_cons_zero, List.getElem_cons_succ, List.setIfInBounds_toArray, List.set_cons_zero, List.set_cons_succ]
  refine wpAnyH_take (i := 50) (v := .pointer (some ⟨bj, 0, none⟩)) rfl (by kernel_rfl) (by kernel_rfl) (by kernel_rfl) (fun _ _ _ h => h) (Or.inl ⟨by kernel_rfl, fun w' hw => ?y50⟩) hS ?_
  case y50 =>
    clear hS
    go_simp
  try simp only [Act.put, List.getElem_toArray, List.getElem_cons_zero, List.getElem_cons_succ, List.setIfInBounds_toArray, List.set_cons_zero, List.set_cons_succ]
  refine wpAnyH_take (i := 51) (v := .func (.func 156) #[.pointer (some ⟨bj, 0, none⟩)] #[]) rfl (by kernel_rfl) (by kernel_rfl) (by kernel_rfl) (fun _ _ _ h => h) (Or.inl ⟨by kernel_rfl, fun w' hw => ?y51⟩) hS ?_
  case y51 =>
    clear hS
    go_simp
  try simp only [Act.put, List.getElem_toArray, List.getElem_cons_zero, List.getElem_cons_succ, List.setIfInBounds_toArray, List.set_cons_zero, List.set_cons_succ]
  refine wpAnyH_take (i := 53) (v := .pointer (some ⟨bj, 0, none⟩)) rfl (by kernel_rfl) (by kernel_rfl) (by kernel_rfl) (fun _ _ _ h => h) (Or.inl ⟨by kernel_rfl, fun w' hw => ?y53⟩) hS ?_
  case y53 =>
    clear hS
    go_simp
  try simp only [Act.put, List.getElem_toArray, List.getElem_cons_zero, List.getElem_cons_succ, List.setIfInBounds_toArray, List.set_cons_zero, List.set_cons_succ]
  refine wpAnyH_take (i := 54) (v := .func (.func 157) #[.pointer (some ⟨bj, 0, none⟩)] #[]) rfl (by kernel_rfl) (by kernel_rfl) (by kernel_rfl) (fun _ _ _ h => h) (Or.inl ⟨by kernel_rfl, fun w' hw => ?y54⟩) hS ?_
  case y54 =>
    clear hS
    go_simp
  try simp only [Act.put, List.getElem_toArray, List.getElem_cons_zero, List.getElem_cons_succ, List.setIfInBounds_toArray, List.set_cons_zero, List.set_cons_succ]
  refine wpAnyH_floats (S := fun w' => Fr wa w' (fun k => k = B)) (al := [6, 17, 30, 43, 52, 55]) (dep := fun _ => []) (fuel := 2) (by decide) (by kernel_rfl) (by kernel_rfl) (fun x => ⟨#[.pointer (some ⟨bj, 0, none⟩), undef, .pointer (some ⟨B, 0, none⟩), .pointer (some ⟨bj, 0, none⟩), .pointer (some ⟨bj, 0, none⟩), .pointer (some ⟨bj, 0, none⟩), .func (.func 60) #[.pointer (some ⟨bj, 0, none⟩)] #[], .pointer (some ⟨bj, 0, none⟩), .func (.func 149) #[.pointer (some ⟨bj, 0, none⟩)] #[], x 6, .pointer (some ⟨bj, 0, none⟩), .pointer (some ⟨bj, 0, none⟩), .pointer (some ⟨bj, 0, none⟩), .func (.func 62) #[.pointer (some ⟨bj, 0, none⟩)] #[], .pointer (some ⟨bj, 0, none⟩), .func (.func 150) #[.pointer (some ⟨bj, 0, none⟩)] #[], .pointer (some ⟨bj, 0, none⟩), .func (.func 151) #[.pointer (some ⟨bj, 0, none⟩)] #[], .pointer (some ⟨bj, 0, none⟩), .func (.func 152) #[.pointer (some ⟨bj, 0, none⟩)] #[], x 17, .pointer (some ⟨bj, 0, none⟩), .pointer (some ⟨bj, 0, none⟩), .pointer (some ⟨bj, 0, none⟩), .func (.func 62) #[.pointer (some ⟨bj, 0, none⟩)] #[], .pointer (some ⟨bj, 0, none⟩), .func (.func 150) #[.pointer (some ⟨bj, 0, none⟩)] #[], .pointer (some ⟨bj, 0, none⟩), .func (.func 151) #[.pointer (some ⟨bj, 0, none⟩)] #[], .pointer (some ⟨bj, 0, none⟩), .func (.func 153) #[.pointer (some ⟨bj, 0, none⟩)] #[], .pointer (some ⟨bj, 0, none⟩), .func (.func 154) #[.pointer (some ⟨bj, 0, none⟩)] #[], x 30, .pointer (some ⟨bj, 0, none⟩), .pointer (some ⟨bj, 0, none⟩), .pointer (some ⟨bj, 0, none⟩), .func (.func 62) #[.pointer (some ⟨bj, 0, none⟩)] #[], .pointer (some ⟨bj, 0, none⟩), .func (.func 150) #[.pointer (some ⟨bj, 0, none⟩)] #[], .pointer (some ⟨bj, 0, none⟩), .func (.func 151) #[.pointer (some ⟨bj, 0, none⟩)] #[], .pointer (some ⟨bj, 0, none⟩), .func (.func 153) #[.pointer (some ⟨bj, 0, none⟩)] #[], .pointer (some ⟨bj, 0, none⟩), .func (.func 155) #[.pointer (some ⟨bj, 0, none⟩)] #[], x 43, .pointer (some ⟨bj, 0, none⟩), .pointer (some ⟨bj, 0, none⟩), .pointer (some ⟨bj, 0, none⟩), .func (.func 62) #[.pointer (some ⟨bj, 0, none⟩)] #[], .pointer (some ⟨bj, 0, none⟩), .func (.func 150) #[.pointer (some ⟨bj, 0, none⟩)] #[], .pointer (some ⟨bj, 0, none⟩), .func (.func 156) #[.pointer (some ⟨bj, 0, none⟩)] #[], x 52, .pointer (some ⟨bj, 0, none⟩), .func (.func 157) #[.pointer (some ⟨bj, 0, none⟩)] #[], x 55, undef], []⟩) (fun i v w => Nf B (jrows bj i) v w) (fun w => w.heap[B]? = some (.cells #[.slice none 0 0, .slice none 0 0, .slice none 0 0, .slice none 0 0, .slice none 0 0, .slice none 0 0] 91 (0, 0))) (fun _ => undef) wa.drew hS (by exact hb.out) ?_ ?_
  · intro i hi x d w hS hG hd _ K hK
    have hsz : B ≤ w.heap.size := Nat.le_trans (Nat.le_of_lt hl) hS.size
    have hal : ∀ o, Fr wa (w.alloc o) (fun k => k = B) := fun o => hS.alloc o
    have hkp : ∀ o, ∀ j ∈ d, Nf B (jrows bj j) (x j) (w.alloc o) := fun o j hj => (hd j hj).below ((Below.refl _ _).alloc (Nat.le_refl _) o)
    have hgp : ∀ o, (w.alloc o).heap[B]? = some (.cells #[.slice none 0 0, .slice none 0 0, .slice none 0 0, .slice none 0 0, .slice none 0 0, .slice none 0 0] 91 (0, 0)) := fun o => old_at hG o
    replace hG := Mr.hid hG
    replace hgp := Mr.hid hgp
    replace hd := Mr.hid hd
    replace hkp := Mr.hid hkp
    replace hal := Mr.hid hal
    replace hK := Mr.hid hK
    replace hS := Mr.hid hS
    simp only [List.mem_cons, List.not_mem_nil, or_false] at hi
    rcases hi with rfl | rfl | rfl | rfl | rfl | rfl
    · have hf := hK.out _ _ (hal.out _) (hgp.out _) (hkp.out _) (Nf.new B (jrows bj 6) w _ hsz rfl)
      replace hf := Mr.hid hf
      refine wpOp_step rfl (fun K' hK' => ?_)
      replace hK' := Mr.hid hK'
      try simp only [Act.put, List.getElem_toArray, List.getElem_cons_zero, List.getElem_cons_succ, List.setIfInBounds_toArray, List.set_cons_zero, List.set_cons_succ]
      go_simp
      exact hK'.out _ _ hf.out
    · have hf := hK.out _ _ (hal.out _) (hgp.out _) (hkp.out _) (Nf.new B (jrows bj 17) w _ hsz rfl)
      replace hf := Mr.hid hf
      refine wpOp_step rfl (fun K' hK' => ?_)
      replace hK' := Mr.hid hK'
      try simp only [Act.put, List.getElem_toArray, List.getElem_cons_zero, List.getElem_cons_succ, List.setIfInBounds_toArray, List.set_cons_zero, List.set_cons_succ]
      go_simp
      exact hK'.out _ _ hf.out
    · have hf := hK.out _ _ (hal.out _) (hgp.out _) (hkp.out _) (Nf.new B (jrows bj 30) w _ hsz rfl)
      replace hf := Mr.hid hf
      refine wpOp_step rfl (fun K' hK' => ?_)
      replace hK' := Mr.hid hK'
      try simp only [Act.put, List.getElem_toArray, List.getElem_cons_zero, List.getElem_cons_succ, List.setIfInBounds_toArray, List.set_cons_zero, List.set_cons_succ]
      go_simp
      exact hK'.out _ _ hf.out
    · have hf := hK.out _ _ (hal.out _) (hgp.out _) (hkp.out _) (Nf.new B (jrows bj 43) w _ hsz rfl)
      replace hf := Mr.hid hf
      refine wpOp_step rfl (fun K' hK' => ?_)
      replace hK' := Mr.hid hK'
      try simp only [Act.put, List.getElem_toArray, List.getElem_cons_zero, List.getElem_cons_succ, List.setIfInBounds_toArray, List.set_cons_zero, List.set_cons_succ]
      go_simp
      exact hK'.out _ _ hf.out
    · have hf := hK.out _ _ (hal.out _) (hgp.out _) (hkp.out _) (Nf.new B (jrows bj 52) w _ hsz rfl)
      replace hf := Mr.hid hf
      refine wpOp_step rfl (fun K' hK' => ?_)
      replace hK' := Mr.hid hK'
      try simp only [Act.put, List.getElem_toArray, List.getElem_cons_zero, List.getElem_cons_succ, List.setIfInBounds_toArray, List.set_cons_zero, List.set_cons_succ]
      go_simp
      exact hK'.out _ _ hf.out
    · have hf := hK.out _ _ (hal.out _) (hgp.out _) (hkp.out _) (Nf.new B (jrows bj 55) w _ hsz rfl)
      replace hf := Mr.hid hf
      refine wpOp_step rfl (fun K' hK' => ?_)
      replace hK' := Mr.hid hK'
      try simp only [Act.put, List.getElem_toArray, List.getElem_cons_zero, List.getElem_cons_succ, List.setIfInBounds_toArray, List.set_cons_zero, List.set_cons_succ]
      go_simp
      exact hK'.out _ _ hf.out
  · intro x w hS hbw hΦ
    have cc := fun k => cell_blk hbw k
    have z0 : w.cell? ⟨B, 0, none⟩ = some (.slice none 0 0) := cc 0
    have z1 : w.cell? ⟨B, 1, none⟩ = some (.slice none 0 0) := cc 1
    have z2 : w.cell? ⟨B, 2, none⟩ = some (.slice none 0 0) := cc 2
    have z3 : w.cell? ⟨B, 3, none⟩ = some (.slice none 0 0) := cc 3
    have z4 : w.cell? ⟨B, 4, none⟩ = some (.slice none 0 0) := cc 4
    have z5 : w.cell? ⟨B, 5, none⟩ = some (.slice none 0 0) := cc 5
    have zf : ∀ k, w.frozen? ⟨B, k, none⟩ = false := fun k => by simp [World.frozen?, hbw]
    have zl := (Array.getElem?_eq_some_iff.1 hbw).1
    clear cc
    obtain ⟨b6, e6, l6, n6⟩ := hΦ 6 (by simp)
    replace e6 : x 6 = .slice (some ⟨b6, 0, none⟩) 2 2 := e6
    have N6 : Hid (Nf B [jfv 60 bj, jfv 149 bj] (.slice (some ⟨b6, 0, none⟩) 2 2) w) := ⟨b6, rfl, l6, n6⟩
    have q6 : Hid (b6 ≠ B) := fun e => by have h9 := n6; rw [e, hbw] at h9; simp [jrows] at h9
    obtain ⟨b17, e17, l17, n17⟩ := hΦ 17 (by simp)
    replace e17 : x 17 = .slice (some ⟨b17, 0, none⟩) 4 4 := e17
    have N17 : Hid (Nf B [jfv 62 bj, jfv 150 bj, jfv 151 bj, jfv 152 bj] (.slice (some ⟨b17, 0, none⟩) 4 4) w) := ⟨b17, rfl, l17, n17⟩
    have q17 : Hid (b17 ≠ B) := fun e => by have h9 := n17; rw [e, hbw] at h9; simp [jrows] at h9
    obtain ⟨b30, e30, l30, n30⟩ := hΦ 30 (by simp)
    replace e30 : x 30 = .slice (some ⟨b30, 0, none⟩) 5 5 := e30
    have N30 : Hid (Nf B [jfv 62 bj, jfv 150 bj, jfv 151 bj, jfv 153 bj, jfv 154 bj] (.slice (some ⟨b30, 0, none⟩) 5 5) w) := ⟨b30, rfl, l30, n30⟩
    have q30 : Hid (b30 ≠ B) := fun e => by have h9 := n30; rw [e, hbw] at h9; simp [jrows] at h9
    obtain ⟨b43, e43, l43, n43⟩ := hΦ 43 (by simp)
    replace e43 : x 43 = .slice (some ⟨b43, 0, none⟩) 5 5 := e43
    have N43 : Hid (Nf B [jfv 62 bj, jfv 150 bj, jfv 151 bj, jfv 153 bj, jfv 155 bj] (.slice (some ⟨b43, 0, none⟩) 5 5) w) := ⟨b43, rfl, l43, n43⟩
    have q43 : Hid (b43 ≠ B) := fun e => by have h9 := n43; rw [e, hbw] at h9; simp [jrows] at h9
    obtain ⟨b52, e52, l52, n52⟩ := hΦ 52 (by simp)
    replace e52 : x 52 = .slice (some ⟨b52, 0, none⟩) 3 3 := e52
    have N52 : Hid (Nf B [jfv 62 bj, jfv 150 bj, jfv 156 bj] (.slice (some ⟨b52, 0, none⟩) 3 3) w) := ⟨b52, rfl, l52, n52⟩
    have q52 : Hid (b52 ≠ B) := fun e => by have h9 := n52; rw [e, hbw] at h9; simp [jrows] at h9
    obtain ⟨b55, e55, l55, n55⟩ := hΦ 55 (by simp)
    replace e55 : x 55 = .slice (some ⟨b55, 0, none⟩) 1 1 := e55
    have N55 : Hid (Nf B [jfv 157 bj] (.slice (some ⟨b55, 0, none⟩) 1 1) w) := ⟨b55, rfl, l55, n55⟩
    have q55 : Hid (b55 ≠ B) := fun e => by have h9 := n55; rw [e, hbw] at h9; simp [jrows] at h9
    clear hΦ
    simp only [e6, e17, e30, e43, e52, e55]
    clear e6 l6 n6 e17 l17 n17 e30 l30 n30 e43 l43 n43 e52 l52 n52 e55 l55 n55
    have hbw' := Mr.hid hbw
    clear hbw
    refine wpAnyH_take (i := 56) (v := .agg #[.slice (some ⟨b6, 0, none⟩) 2 2, .slice (some ⟨b17, 0, none⟩) 4 4, .slice (some ⟨b30, 0, none⟩) 5 5, .slice (some ⟨b43, 0, none⟩) 5 5, .slice (some ⟨b52, 0, none⟩) 3 3, .slice (some ⟨b55, 0, none⟩) 1 1]) rfl (by kernel_rfl) (by kernel_rfl) (by kernel_rfl) (fun _ _ _ h => h) (Or.inl ⟨by kernel_rfl, fun w' hw => ?yb⟩) hS ?_
    case yb =>
      clear hS
      go_simp
    try simp only [Act.put, List.getElem_toArray, List.getElem_cons_zero, List.getElem_cons_succ, List.setIfInBounds_toArray, List.set_cons_zero, List.set_cons_succ]
    refine wpAnyH_ready (rs := [57]) (by kernel_rfl) (by simp) ?_
    refine AllReadyH.cons rfl (fun K hK => ?_) AllReadyH.nil
    try simp only [Act.put, List.getElem_toArray, List.getElem_cons_zero, List.getElem_cons_succ, List.setIfInBounds_toArray, List.set_cons_zero, List.set_cons_succ]
    go_simp
    refine hK.out _ _ (?sS) (fun hS => ?_)
    case sS => exact ((((((hS.setCell ⟨B, 0, none⟩ _ (.inl rfl)).setCell ⟨B, 1, none⟩ _ (.inl rfl)).setCell ⟨B, 2, none⟩ _ (.inl rfl)).setCell ⟨B, 3, none⟩ _ (.inl rfl)).setCell ⟨B, 4, none⟩ _ (.inl rfl)).setCell ⟨B, 5, none⟩ _ (.inl rfl))
    clear hK K
    try simp only [Act.put, List.getElem_toArray, List.getElem_cons_zero, List.getElem_cons_succ, List.setIfInBounds_toArray, List.set_cons_zero, List.set_cons_succ]
    refine wpAnyH_done (by kernel_rfl) ?_ _
    have hF6 := Mr.hid hS
    have hw6 := Mr.hid (setBlk (setBlk (setBlk (setBlk (setBlk (setBlk hbw'.out 0 (.slice (some ⟨b6, 0, none⟩) 2 2)) 1 (.slice (some ⟨b17, 0, none⟩) 4 4)) 2 (.slice (some ⟨b30, 0, none⟩) 5 5)) 3 (.slice (some ⟨b43, 0, none⟩) 5 5)) 4 (.slice (some ⟨b52, 0, none⟩) 3 3)) 5 (.slice (some ⟨b55, 0, none⟩) 1 1))
    have hkp : Hid (∀ k, k ≠ B → (((((((w.setCell ⟨B, 0, none⟩ (.slice (some ⟨b6, 0, none⟩) 2 2)).setCell ⟨B, 1, none⟩ (.slice (some ⟨b17, 0, none⟩) 4 4)).setCell ⟨B, 2, none⟩ (.slice (some ⟨b30, 0, none⟩) 5 5)).setCell ⟨B, 3, none⟩ (.slice (some ⟨b43, 0, none⟩) 5 5)).setCell ⟨B, 4, none⟩ (.slice (some ⟨b52, 0, none⟩) 3 3)).setCell ⟨B, 5, none⟩ (.slice (some ⟨b55, 0, none⟩) 1 1))).heap[k]? = w.heap[k]?) := fun k hk => (Below.heap_setCell _ ⟨B, 5, none⟩ _ k hk).trans ((Below.heap_setCell _ ⟨B, 4, none⟩ _ k hk).trans ((Below.heap_setCell _ ⟨B, 3, none⟩ _ k hk).trans ((Below.heap_setCell _ ⟨B, 2, none⟩ _ k hk).trans ((Below.heap_setCell _ ⟨B, 1, none⟩ _ k hk).trans (Below.heap_setCell _ ⟨B, 0, none⟩ _ k hk)))))
    clear hS z0 z1 z2 z3 z4 z5 zf zl
    generalize (((((((w.setCell _ _).setCell _ _).setCell _ _).setCell _ _).setCell _ _).setCell _ _)) = wz at *
    simp only [List.setIfInBounds_toArray, List.set_cons_zero, List.set_cons_succ] at hw6
    have t0 := tab_cells hw6.out
    obtain ⟨t00, t01, t02, t03, t04, t05⟩ := t0
    have tl := (Array.getElem?_eq_some_iff.1 hw6.out).1
    have hBw : Hid (Below B W wz) := ⟨hF6.out.os.trans hB.out.os, hF6.out.tape.trans hB.out.tape, hF6.out.output.trans hB.out.output, Nat.le_trans hB.out.size hF6.out.size, fun k hk => (hF6.out.block k (Nat.lt_of_lt_of_le (by have := hBe.out; omega) hB.out.size) (by omega)).trans (hB.out.block k hk)⟩
    go_wp2
    refine bodyPost_ret (v := .agg #[.slice (some ⟨b6, 0, none⟩) 2 2, .slice (some ⟨b17, 0, none⟩) 4 4, .slice (some ⟨b30, 0, none⟩) 5 5, .slice (some ⟨b43, 0, none⟩) 5 5, .slice (some ⟨b52, 0, none⟩) 3 3, .slice (some ⟨b55, 0, none⟩) 1 1]) (by simp [results, Tryz.results121, go_sem, *]) rfl ?_
    have mv : ∀ {fs : List Fv} {b n m : Nat}, b ≠ B → Nf B fs (.slice (some ⟨b, 0, none⟩) n m) w → Nf B fs (.slice (some ⟨b, 0, none⟩) n m) wz := by
      rintro fs b n m hne ⟨b', e, l, h⟩
      cases e
      exact ⟨b, rfl, l, (hkp.out b hne).trans h⟩
    rw [← hBe.out]
    exact ⟨hBw.out, _, _, _, _, _, _, rfl, (mv q6.out N6.out).row, (mv q17.out N17.out).row, (mv q30.out N30.out).row, (mv q43.out N43.out).row, (mv q52.out N52.out).row, (mv q55.out N55.out).row⟩
end Go.Proofs.YtpknggcgojkjgaaGreat.Cn
/-
  CENSUS: whether a call's times and answer may be; slices.Equal of words.
-/
namespace Go.Proofs.YtpknggcgojkjgaaGreat.Cn
open Go.RowKit Mr Md
set_option linter.unusedVariables false
set_option linter.unusedSimpArgs false
set_option maxRecDepth 100000
def Tim (c : Cq) : Prop := 0 ≤ c.beg ∧ (c.fin = -1 ∨ c.beg < c.fin) ∧ (c.pt = -1 ∨ c.beg < c.pt ∧ (c.fin = -1 ∨ c.pt ≤ c.fin))
def Anw (c : Cq) : Prop := 0 ≤ c.ak ∧ c.ak ≤ 6 ∧ (c.ak = 0 ↔ c.fin = -1) ∧ (c.ak = 2 ∨ c.av = 0)
instance (c : Cq) : Decidable (Tim c) := by unfold Tim; infer_instance
instance (c : Cq) : Decidable (Anw c) := by unfold Anw; infer_instance
theorem ret_bool {a b : Bool} (h : a = b) : Ending.returned (Value.bool a) = Ending.returned (Value.bool b) := by rw [h]
theorem below_a {n : Nat} {w w' : World} (h : Below n w w') (hn : n ≤ w'.heap.size) (o : Obj) : Below n w (w'.alloc o) := h.alloc hn o
set_option maxHeartbeats 4000000 in
theorem timely_any (c : Cq) (w : World) : Calls Tryz.prog 119 #[c.val] w fun e w' => e = .returned (.bool (decide (Tim c))) ∧ Below w.heap.size w w' := by
  obtain ⟨b, hb⟩ : ∃ b, b = decide (Tim c) := ⟨_, rfl⟩
  rw [← hb]
  replace hb : Hid (b = true ↔ Tim c) := by rw [hb]; exact decide_eq_true_iff
  obtain ⟨th, op, arg, data, beg, fin, pt, ak, av⟩ := c
  unfold Cq.val
  go_enter Tryz.func119, Tryz.ntmps119
  go_wp2
  all_goals
    go_ret
    refine ⟨ret_bool ?_, ?_⟩
    · rw [Bool.eq_iff_iff, hb.out]
      clear hb
      simp only [Tim]
      simp at *
      omega
    · repeat (first | exact Below.refl _ _ | refine below_a ?_ (by simp; try omega) _)
set_option maxHeartbeats 4000000 in
theorem answered_any (c : Cq) (w : World) : Calls Tryz.prog 120 #[c.val] w fun e w' => e = .returned (.bool (decide (Anw c))) ∧ Below w.heap.size w w' := by
  obtain ⟨b, hb⟩ : ∃ b, b = decide (Anw c) := ⟨_, rfl⟩
  rw [← hb]
  replace hb : Hid (b = true ↔ Anw c) := by rw [hb]; exact decide_eq_true_iff
  obtain ⟨th, op, arg, data, beg, fin, pt, ak, av⟩ := c
  unfold Cq.val
  go_enter Tryz.func120, Tryz.ntmps120
  go_wp2
  all_goals
    go_ret
    refine ⟨ret_bool ?_, ?_⟩
    · rw [Bool.eq_iff_iff, hb.out]
      clear hb
      simp only [Anw]
      by_cases h1 : fin = -1 <;> by_cases h2 : ak = 0 <;> by_cases h3 : ak = 2 <;> first | omega | (simp_all; done) | (simp_all; omega) | (simp at *; omega) | (exfalso; have h4 := ‹((fin != -1) == (ak == 0)) = true›; rw [show (fin != -1) = true from by simpa using h1, show (ak == 0) = false from by simpa using h2] at h4; cases h4)
    · repeat (first | exact Below.refl _ _ | refine below_a ?_ (by simp; try omega) _)
theorem ws_get (l : List Int) (i : Nat) (h : i < l.length) : (ws l)[i]? = some (.int .u64 (l[i]?.getD 0)) := by simp [ws, h]
set_option maxHeartbeats 8000000 in
theorem equalW_any {w : World} {T T' : Nat → Prop} {v u : Value} {l m : List Int} (hv : Sl w T 1 v l.length (ws l)) (hu : Sl w T' 1 u m.length (ws m)) (hl : l.length ≤ 1000000000) (b : Bool) (hb : b = true ↔ l = m) :
    Calls Tryz.prog 122 #[v, u] w fun e w' => e = .returned (.bool b) ∧ Below w.heap.size w w' := by
  obtain ⟨a, cap, rfl, _⟩ := hv.form
  obtain ⟨a', cap', rfl, _⟩ := hu.form
  obtain ⟨n, hn⟩ : ∃ n, n = l.length := ⟨_, rfl⟩
  obtain ⟨k, hk⟩ : ∃ k, k = m.length := ⟨_, rfl⟩
  rw [← hn] at hv hl ⊢
  rw [← hk] at hu ⊢
  replace hv := Mr.hid hv
  replace hu := Mr.hid hu
  replace hb := Mr.hid hb
  by_cases hnk : n = k
  · subst hnk
    replace hn := Mr.hid hn
    replace hk := Mr.hid hk
    go_enter Tryz.func122, Tryz.ntmps122
    go_wp2
    go_loopg [13] n (fun gk s13 wr => ∃ i : Nat, s13 = .int .i64 (i : Int) ∧ i + gk = n ∧ Hid (∀ j, j < i → l[j]?.getD 0 = m[j]?.getD 0) ∧ Hid (Below w.heap.size w wr))
    case atStart => exact ⟨0, rfl, by omega, fun j hj => by omega, Below.refl _ _⟩
    case round =>
      obtain ⟨i, rfl, hi, ht, B⟩ := hrel
      by_cases hlt : i < n
      · obtain ⟨g1, o1, c1, e1, _, _, hl1, r1⟩ := (hv.out.below B.out).there (by omega)
        cases e1
        obtain ⟨g2, o2, c2, e2, _, _, hl2, r2⟩ := (hu.out.below B.out).there (by omega)
        cases e2
        have k1 := r1 i _ (ws_get l i (by have := hn.out; omega))
        have k2 := r2 i _ (ws_get m i (by have := hk.out; omega))
        clear r1 r2
        have hlI : (i : Int) < (n : Int) := by omega
        obtain ⟨x, hx⟩ : ∃ x, x = l[i]?.getD 0 := ⟨_, rfl⟩
        obtain ⟨y, hy⟩ : ∃ y, y = m[i]?.getD 0 := ⟨_, rfl⟩
        rw [← hx] at k1
        rw [← hy] at k2
        replace hx := Mr.hid hx
        replace hy := Mr.hid hy
        by_cases hxy : x = y
        · have q1 : (x != y) = false := by simp [hxy]
          have q2 : (x == y) = true := by simp [hxy]
          have hnx : Hid (∀ j, j < i + 1 → l[j]?.getD 0 = m[j]?.getD 0) := fun j hj => by
            by_cases e : j = i
            · subst e; rw [← hx.out, ← hy.out, hxy]
            · exact ht.out j (by omega)
          replace hxy := Mr.hid hxy
          go_upto_region 6 with (fail)
          go_quiet (fail)
          go_wp2
          go_roundg (gk - 1)
          case measure => omega
          case rel => exact ⟨i + 1, by simp, by omega, hnx, B.out.trans (Bx.draws _ _ _)⟩
        · have q1 : (x != y) = true := by simp [hxy]
          have q2 : (x == y) = false := by simp [hxy]
          have hbf : b = false := by
            cases hbb : b with
            | false => rfl
            | true => exact absurd (by rw [hx.out, hy.out, hb.out.1 hbb]) hxy
          subst hbf
          replace hxy := Mr.hid hxy
          go_upto_region 6 with (fail)
          go_quiet (fail)
          go_wp2
          go_ret
          exact ⟨rfl, B.out.trans (Bx.draws _ _ _)⟩
      · have hbt : b = true := by
          refine hb.out.2 (List.ext_getElem? fun j => ?_)
          by_cases hj : j < n
          · have := ht.out j (by omega)
            have h1 : j < l.length := by have := hn.out; omega
            have h2 : j < m.length := by have := hk.out; omega
            rw [List.getElem?_eq_getElem h1, List.getElem?_eq_getElem h2] at this ⊢
            simpa using this
          · rw [List.getElem?_eq_none (by have := hn.out; omega), List.getElem?_eq_none (by have := hk.out; omega)]
        subst hbt
        have q1 : decide ((i : Int) < (n : Int)) = false := decide_eq_false (by omega)
        have q2 : decide (i < n) = false := decide_eq_false hlt
        go_wp2
        go_ret
        exact ⟨rfl, B.out⟩
  · have hbf : b = false := by
      cases hbb : b with
      | false => rfl
      | true => exact absurd (by rw [hn, hk, hb.out.1 hbb]) hnk
    subst hbf
    have q1 : ((n : Int) != (k : Int)) = true := by simp; omega
    have q2 : ((n : Int) == (k : Int)) = false := by simp; omega
    replace hnk := Mr.hid hnk
    replace hn := Mr.hid hn
    replace hk := Mr.hid hk
    go_enter Tryz.func122, Tryz.ntmps122
    go_wp2
    go_ret
    exact ⟨rfl, Below.refl _ _⟩
end Go.Proofs.YtpknggcgojkjgaaGreat.Cn
