/-
  A VIEW of the program as it lies in the world; chain.Addr, word, enter, follow by their contracts.
-/
import Derived.Test.YtdggempcfmihpaaPlP
import Derived.Test.YtdggempcfmihpaaWordAddrB
import Derived.Test.YtdggempcfmihpaaWordPack
import Derived.Test.YtdggempcfmihpaaMemRow
import Derived.Test.YtdggempcfmihpaaMemZero
import Derived.WalkSpells
import Derived.Deep.RegionHeld3
import Derived.BigQuiet
namespace Go.Proofs.Ytdggempcfmihpaa.Pl
open Go.RowKit Mr Me Wp Wc Wm
set_option linter.unusedVariables false
set_option linter.unusedSimpArgs false
/-- Words as they lie in memory. -/
def wrd (ws : List Int) : List Value := ws.map (Value.int .u64)
/-- A configuration. -/
structure C7 where
  a0 : Int
  a1 : Int
  a2 : Int
  a3 : Int
  a4 : Int
  a5 : Int
  a6 : Int
def C7.val (c : C7) : Value := .agg #[.int .i64 c.a0, .int .i64 c.a1, .int .i64 c.a2, .int .i64 c.a3, .int .i64 c.a4, .int .i64 c.a5, .int .i64 c.a6]
def C7.ok (c : C7) : Bool := cfgB c.a0 c.a1 c.a2 c.a3 c.a4 c.a5 c.a6
def C7.at (c : C7) (r : Nat) : Int := base c.a1 c.a2 c.a5 c.a6 r
theorem setBlk {W : World} {b : Nat} {cs : Array Value} {t : TypeId} {fr : Nat × Nat} (h : W.heap[b]? = some (.cells cs t fr)) (o : Nat) (v : Value) : (W.setCell ⟨b, o, none⟩ v).heap[b]? = some (.cells (cs.setIfInBounds o v) t fr) := by
  obtain ⟨hlt, hk⟩ := Array.getElem?_eq_some_iff.1 h
  show (W.heap.modify b _)[b]? = _
  rw [Array.getElem?_eq_getElem (by rw [Array.size_modify]; exact hlt), Array.getElem_modify_self, hk]
  rfl
def bls (l : List Bool) : Array Value := (l.map Value.bool).toArray
theorem bls_set (l : List Bool) (s : Nat) (b : Bool) : (bls l).setIfInBounds s (.bool b) = bls (l.set s b) := by simp [bls, List.map_set]
/-- The words as they may be read: ws, all of them uint64. -/
structure Wds (W : World) (aw : Addr) (ws : List Int) : Prop where
  rd : ∀ j x, ws[j]? = some x → W.cell? (aw.add j) = some (.int .u64 x)
  bd : ∀ x ∈ ws, 0 ≤ x ∧ x ≤ 18446744073709551615
def wat (ws : List Int) (j : Nat) : Int := ws[j]?.getD 0
theorem wat_some {ws : List Int} {j : Nat} (h : j < ws.length) : ws[j]? = some (wat ws j) := by simp [wat, List.getElem?_eq_getElem h]
theorem Wds.in {W : World} {aw : Addr} {ws : List Int} (h : Wds W aw ws) (j : Nat) : 0 ≤ wat ws j ∧ wat ws j ≤ 18446744073709551615 := by
  unfold wat
  cases e : ws[j]? with
  | none => simp
  | some x => exact h.bd x (List.mem_of_getElem? e)
theorem Wds.fr {W W' : World} {aw : Addr} {ws : List Int} {S : Nat → Prop} (h : Wds W aw ws) (hf : Fr W W' S) (hn : ¬ S aw.block) : Wds W' aw ws :=
  ⟨fun j x hx => by
    have h1 := h.rd j x hx
    have hb : W'.heap[(aw.add j).block]? = W.heap[(aw.add j).block]? := hf.block _ (World.block_lt_of_cell? W _ h1) (by rw [blk_add]; exact hn)
    rw [← h1]; simp [World.cell?, hb], h.bd⟩
structure Vw (W : World) (bv g : Nat) (c : C7) (aw : Addr) (cap : Nat) (ws : List Int) (v : Vs) : Prop where
  ne : bv ≠ g
  blk : W.heap[bv]? = some (.cells #[.int .i64 c.a0, .int .i64 c.a1, .int .i64 c.a2, .int .i64 c.a3, .int .i64 c.a4, .int .i64 c.a5, .int .i64 c.a6, .slice (some aw) ws.length cap, .slice (some ⟨g, 0, none⟩) v.cm.length v.cm.length, .bool v.od] 69 (0, 0))
  row : W.heap[g]? = some (.cells (bls v.cm) 4 (0, 0))
  wds : Wds W aw ws
  far : aw.block ≠ bv ∧ aw.block ≠ g
  ok : c.ok = true
  five : c.a5 = v.cm.length
  sz : c.at 14 = ws.length
section
variable {W W' : World} {bv g : Nat} {c : C7} {aw : Addr} {cap : Nat} {ws : List Int} {v : Vs}
theorem Vw.lt (h : Vw W bv g c aw cap ws v) : bv < W.heap.size ∧ g < W.heap.size := ⟨(Array.getElem?_eq_some_iff.1 h.blk).1, (Array.getElem?_eq_some_iff.1 h.row).1⟩
theorem Vw.fr {S : Nat → Prop} (h : Vw W bv g c aw cap ws v) (hf : Fr W W' S) (h1 : ¬ S bv) (h2 : ¬ S g) (h3 : ¬ S aw.block) : Vw W' bv g c aw cap ws v :=
  ⟨h.ne, (hf.block _ h.lt.1 h1).trans h.blk, (hf.block _ h.lt.2 h2).trans h.row, h.wds.fr hf h3, h.far, h.ok, h.five, h.sz⟩
theorem Vw.below (h : Vw W bv g c aw cap ws v) (hb : Below W.heap.size W W') : Vw W' bv g c aw cap ws v :=
  h.fr (S := fun _ => False) (Fr.of_below hb) (fun e => e) (fun e => e) (fun e => e)
theorem Vw.cells (h : Vw W bv g c aw cap ws v) : W.cell? ⟨bv, 0, none⟩ = some (.int .i64 c.a0) ∧ W.cell? ⟨bv, 1, none⟩ = some (.int .i64 c.a1) ∧ W.cell? ⟨bv, 2, none⟩ = some (.int .i64 c.a2) ∧ W.cell? ⟨bv, 3, none⟩ = some (.int .i64 c.a3) ∧ W.cell? ⟨bv, 4, none⟩ = some (.int .i64 c.a4) ∧ W.cell? ⟨bv, 5, none⟩ = some (.int .i64 c.a5) ∧ W.cell? ⟨bv, 6, none⟩ = some (.int .i64 c.a6) ∧ W.cell? ⟨bv, 7, none⟩ = some (.slice (some aw) ws.length cap) ∧ W.cell? ⟨bv, 8, none⟩ = some (.slice (some ⟨g, 0, none⟩) v.cm.length v.cm.length) ∧ W.cell? ⟨bv, 9, none⟩ = some (.bool v.od) := by
  simp [World.cell?, h.blk]
theorem Vw.thaw (h : Vw W bv g c aw cap ws v) : W.frozen? ⟨bv, 9, none⟩ = false ∧ ∀ j, W.frozen? ⟨g, j, none⟩ = false := by
  refine ⟨?_, fun j => ?_⟩
  · simp [World.frozen?, h.blk]
  · simp [World.frozen?, h.row]
theorem Vw.come (h : Vw W bv g c aw cap ws v) {s : Nat} {b : Bool} (hs : v.cm[s]? = some b) : W.cell? ⟨g, s, none⟩ = some (.bool b) := by
  simp [World.cell?, h.row, bls, hs]
theorem Vw.odd (h : Vw W bv g c aw cap ws v) : Vw (W.setCell ⟨bv, 9, none⟩ (.bool true)) bv g c aw cap ws v.bad := by
  have hb := setBlk h.blk 9 (.bool true)
  have hf : Fr W (W.setCell ⟨bv, 9, none⟩ (.bool true)) (fun k => k = bv) := (Fr.refl _ _).setCell _ _ (.inl rfl)
  exact ⟨h.ne, hb, (hf.block _ h.lt.2 (fun e => h.ne e.symm)).trans h.row, h.wds.fr hf h.far.1, h.far, h.ok, h.five, h.sz⟩
theorem Vw.put (h : Vw W bv g c aw cap ws v) (s : Nat) : Vw (W.setCell ⟨g, s, none⟩ (.bool true)) bv g c aw cap ws (v.put s) := by
  have hb := setBlk h.row s (.bool true)
  rw [bls_set] at hb
  have hf : Fr W (W.setCell ⟨g, s, none⟩ (.bool true)) (fun k => k = g) := (Fr.refl _ _).setCell _ _ (.inl rfl)
  refine ⟨h.ne, ?_, hb, h.wds.fr hf h.far.2, h.far, h.ok, by rw [h.five]; simp [Vs.put], h.sz⟩
  have := (hf.block _ h.lt.1 h.ne).trans h.blk
  simpa [Vs.put] using this
end
end Go.Proofs.Ytdggempcfmihpaa.Pl
