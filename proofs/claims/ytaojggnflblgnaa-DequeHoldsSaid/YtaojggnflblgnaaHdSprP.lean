/-
  DEQUE: Spread, pure; a row of zeros that counts.
-/
import Derived.Test.YtaojggnflblgnaaHdRHolds
import Derived.Test.YtaojggnflblgnaaHdHolds
import Derived.Laws.MakeOwn
namespace Go.Proofs.Ytaojggnflblgnaa.Hd
open Go.RowKit Mr Md
set_option linter.unusedVariables false
set_option linter.unusedSimpArgs false
set_option maxRecDepth 100000
def spF (l : List Int) (c : Cq) : List Int := if c.ak = 2 then l.set c.th.toNat ((l[c.th.toNat]?).getD 0 + 1) else l
def spr (n : Nat) (cs : List Cq) : List Int := cs.foldl spF (List.replicate n 0)
theorem spF_len (l : List Int) (c : Cq) : (spF l c).length = l.length := by unfold spF; split <;> simp
theorem spr_len (n : Nat) (cs : List Cq) : (spr n cs).length = n := by
  unfold spr
  have : ∀ (cs : List Cq) (l : List Int), (cs.foldl spF l).length = l.length := by
    intro cs
    induction cs with
    | nil => intro l; rfl
    | cons c cs ih => intro l; rw [List.foldl_cons, ih, spF_len]
  rw [this]; simp
theorem spr_step (n : Nat) (cs : List Cq) (i : Nat) (x : Cq) (hx : cs[i]? = some x) : spr n (cs.take (i + 1)) = spF (spr n (cs.take i)) x := by
  unfold spr
  rw [Dq.take_succ_of hx, List.foldl_append]; rfl
/-- Each count is at most the number of calls. -/
def bnd (l : List Int) (m : Nat) : Prop := ∀ x ∈ l, 0 ≤ x ∧ x ≤ (m : Int)
theorem bnd_step {l : List Int} {m : Nat} (h : bnd l m) (c : Cq) : bnd (spF l c) (m + 1) := by
  intro x hx
  unfold spF at hx
  split at hx
  · rcases List.mem_or_eq_of_mem_set hx with hx | rfl
    · have := h x hx; omega
    · cases hg : l[c.th.toNat]? with
      | none => simp; omega
      | some y => have := h y (List.mem_of_getElem? hg); simp; omega
  · have := h x hx; omega
theorem bnd_zero (n : Nat) : bnd (List.replicate n 0) 0 := by intro x hx; rw [List.mem_replicate] at hx; omega
theorem ints_set (l : List Int) (k : Nat) (x : Int) : (ints l).set k (.int .i64 x) = ints (l.set k x) := by simp [ints, List.map_set]
/-- The row of counts. -/
structure Rw (W w : World) (B : Nat) (l : List Int) : Prop where
  bel : Below W.heap.size W w
  up : W.heap.size ≤ B
  blk : w.heap[B]? = some (.cells (ints l).toArray 3 (0, 0))
theorem Rw.cell {W w : World} {B : Nat} {l : List Int} (h : Rw W w B l) {k : Nat} {x : Int} (hx : l[k]? = some x) : w.cell? ⟨B, k, none⟩ = some (.int .i64 x) ∧ w.frozen? ⟨B, k, none⟩ = false := by
  refine ⟨?_, by simp [World.frozen?, h.blk]⟩
  rw [Dq.cell_blk h.blk]
  simp [ints, hx]
theorem Rw.put {W w : World} {B : Nat} {l : List Int} (h : Rw W w B l) (k : Nat) (x : Int) : Rw W (w.setCell ⟨B, k, none⟩ (.int .i64 x)) B (l.set k x) := by
  refine ⟨h.bel.setCell (p := ⟨B, k, none⟩) h.up _, h.up, ?_⟩
  rw [setBlk h.blk, ← ints_set]; simp
theorem Rw.box {W w : World} {B : Nat} {l : List Int} (h : Rw W w B l) (o : Obj) : Rw W (w.alloc o) B l :=
  ⟨h.bel.alloc h.bel.size o, h.up, old_at h.blk o⟩
theorem Rw.isAt {W w : World} {B : Nat} {l : List Int} (h : Rw W w B l) : Dq.IsAt w (some ⟨B, 0, none⟩) l.length l := by
  refine ⟨rfl, .inr ⟨B, 0, rfl, (Array.getElem?_eq_some_iff.1 h.blk).1, fun j x hx => ?_⟩⟩
  rw [Nat.zero_add]; exact (h.cell hx).1
theorem madeI (n : Nat) : madeCells #[.int .i64 0] n = (ints (List.replicate n 0)).toArray := by
  apply Array.ext_getElem?
  intro i
  by_cases hi : i < n
  · simp only [madeCells, Array.getElem?_map]
    rw [Array.getElem?_range]
    simp [hi, ints, Nat.mod_one]
  · rw [Array.getElem?_eq_none (by rw [size_madeCells]; omega), Array.getElem?_eq_none (by simp [ints]; omega)]
theorem makeI (W : World) (n : Nat) (hn : n ≤ 100000) : (Instr.makeSlice 37 (.int .i64 (n : Int)) (.int .i64 (n : Int))).run Try.prog W = .ok (.slice (some ⟨W.heap.size, 0, none⟩) n n) (W.alloc (.cells (ints (List.replicate n 0)).toArray 3)) := by
  obtain ⟨i0, hi, hz0, hz1, hz2⟩ := Dq.info_i
  have h := run_make (P := Try.prog) W 37 3 i0 _ Try.underlying37 hi hz0 .i64 .i64 n n (by omega) (Int.le_refl _) (by rw [hz2]; omega) (by omega)
  rw [hz1, Nat.mul_one] at h
  have e : (n : Int).toNat = n := Int.toNat_natCast n
  rw [e] at h
  have e2 := madeI n
  simp only [Value.cells] at h
  rw [e2] at h
  exact h
theorem kn_th {th : Int} (hth : 1 ≤ th) {c : Cq} (h : kn th c = true) : 0 ≤ c.th ∧ c.th < th := by
  have := (kn_true hth).1 h
  omega
theorem pE_same (th rm : Int) (ws : List Int) (cs : List Cq) : pE th rm ws cs (srt cs) = if Dq.dqB th rm = true then (if sB th rm ws cs = true then 0 else 211) else 210 := by
  unfold pE sB
  cases hd : Dq.dqB th rm with
  | false =>
    have e : Dq.lfR th rm ws = ([], 210) := by unfold Dq.lfR; rw [if_pos hd]
    rw [e]; simp
  | true =>
    have e : (Dq.lfR th rm ws).2 = 0 ∨ (Dq.lfR th rm ws).2 = 211 := by
      unfold Dq.lfR
      rw [if_neg (by rw [hd]; decide)]
      split
      · right; rfl
      · split
        · left; rfl
        · right; rfl
    rcases e with e | e <;> rw [e] <;> cases cs.all (kn th) <;> cases apR (srt cs) <;> simp
theorem hB_same (th rm : Int) (ws : List Int) (cs : List Cq) : (hB th rm ws cs (srt cs), pE th rm ws cs (srt cs)) = rhB th rm ws cs := by
  unfold hB rhB
  rw [pE_same]
  cases Dq.dqB th rm <;> cases sB th rm ws cs <;> simp [hlB_eq]
def spO (th : Int) (w w' : World) (l : List Int) (code : Int) (e : Ending) : Prop := ∃ va vn vc, e = .returned (.tuple #[.slice va vn vc, .int .i64 code]) ∧ Dq.IsAt w' va vn (if code = 0 then l else []) ∧ Below w.heap.size w w'
end Go.Proofs.Ytaojggnflblgnaa.Hd
