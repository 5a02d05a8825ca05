/-
  SCRIPT: Parse, where nothing is wrong.
-/
import Derived.Test.YtfhkgeoionkonaaGreatDoorScText
import Derived.BigRegion
namespace Go.Proofs.YtfhkgeoionkonaaGreatDoor.Sc
open Go.RowKit Mr
set_option linter.unusedVariables false
set_option linter.unusedSimpArgs false
set_option maxRecDepth 100000
def cfV (c : Cf) : Value := .agg #[.int .i64 c.c0, .int .i64 c.c1, .int .i64 c.c2, .int .i64 c.c3, .int .i64 c.c4, .int .i64 c.c5, .int .i64 c.c6]
theorem parseO_some {l : List UInt8} {st : Cf × List Mv} (h : parseO l = some st) : l.length ≤ 1048576 ∧ prO l.length l (cfZ, []) = some st ∧ st.1 ≠ cfZ := by
  unfold parseO at h
  split at h
  · rename_i hl
    refine ⟨hl, ?_⟩
    cases hp : prO l.length l (cfZ, []) with
    | none => rw [hp] at h; cases h
    | some s =>
      rw [hp] at h
      dsimp only at h
      split at h
      · cases h
      · rename_i hn; cases h; exact ⟨rfl, hn⟩
  · cases h
/-- What Parse answers of a text that it reads. -/
def PaA (w : World) (fin : Cf × List Mv) (e : Ending) (w' : World) : Prop := ∃ v, e = .returned (.tuple #[cfV fin.1, v, .int .i64 0, .int .i64 0]) ∧ Has w' (fun k => w.heap.size ≤ k) 38 4 v fin.2.length (mvc fin.2) ∧ Below w.heap.size w w'
set_option maxHeartbeats 16000000 in
theorem Parse_ok (l : List UInt8) (fin : Cf × List Mv) (w : World) (E : Env w) (h : parseO l = some fin) :
    Calls Tryz.prog 9 #[.string ⟨l.toArray⟩] w (PaA w fin) := by
  obtain ⟨h1, h2, h3⟩ := parseO_some h
  obtain ⟨o1, ho1⟩ : ∃ o, o = Obj.cells #[.int .i64 0, .int .i64 0, .int .i64 0, .int .i64 0, .int .i64 0, .int .i64 0, .int .i64 0] 23 (0, 0) := ⟨_, rfl⟩
  have hB0 : Below (w.alloc o1).heap.size (w.alloc o1) ((w.alloc o1).alloc (cfO cfZ (.slice none 0 0))) := (Below.refl _ _).alloc (Nat.le_refl _) _
  have hR0 : Rd (w.alloc o1).heap.size (w.heap.size + 1) ((w.alloc o1).alloc (cfO cfZ (.slice none 0 0))) cfZ (.slice none 0 0) [] := ⟨new_at _ _ _ (by simp), Has.nil _ _ _ _, by simp⟩
  have TX := Mr.hid (text_ok (w.alloc o1) (w.heap.size + 1) _ l fin _ (E.below ((Below.refl _ _).alloc (Nat.le_refl _) _)) hB0 hR0 h1 h2 h3)
  subst ho1
  unfold cfO at TX
  dsimp only [cfZ] at TX
  obtain ⟨⟨n0, n1, n2, n3, n4, n5, n6⟩, ms⟩ := fin
  generalize (⟨l.toArray⟩ : ByteArray) = X at *
  clear h h1 h2 h3 hR0 hB0
  go_enter Tryz.func9, Tryz.ntmps9
  go_upto_region 5 with (go_at_call 20; refine TX.out.mono ?_; clear TX; rintro e w2 ⟨v, rfl, hR2, hB2⟩)
  have hbx : w2.heap[w.heap.size]? = some (.cells #[.int .i64 0, .int .i64 0, .int .i64 0, .int .i64 0, .int .i64 0, .int .i64 0, .int .i64 0] 23 (0, 0)) := (hB2.block _ (by simp)).trans (new_at _ _ _ rfl)
  have hBB : Hid (Below w.heap.size w w2) := ((Below.refl _ _).alloc (Nat.le_refl _) _).trans (hB2.mono (by simp))
  have hrb := hR2.box
  unfold cfO at hrb
  have x0 := cell_blk hrb 0
  have x1 := cell_blk hrb 1
  have x2 := cell_blk hrb 2
  have x3 := cell_blk hrb 3
  have x4 := cell_blk hrb 4
  have x5 := cell_blk hrb 5
  have x6 := cell_blk hrb 6
  have x7 := cell_blk hrb 7
  have y0 := cell_blk hbx 0
  have y1 := cell_blk hbx 1
  have y2 := cell_blk hbx 2
  have y3 := cell_blk hbx 3
  have y4 := cell_blk hbx 4
  have y5 := cell_blk hbx 5
  have y6 := cell_blk hbx 6
  have hfz : ∀ k, w2.frozen? ⟨w.heap.size, k, none⟩ = false := fun k => by simp [World.frozen?, hbx]
  have l1 := (Array.getElem?_eq_some_iff.1 hbx).1
  have l2 := (Array.getElem?_eq_some_iff.1 hrb).1
  have hrow := Mr.hid hR2.row
  obtain ⟨av, cv, rfl, -⟩ := hR2.row.form
  clear hbx hrb hR2 hB2
  dsimp only at *
  go_region
  go_wp2
  have hno : ((Value.slice av ms.length cv).ownBlock ≠ some w.heap.size) := fun e => by have := (hrow.out.lt _ e).1.1; simp at this; omega
  refine bodyPost_ret (v := .tuple #[.agg #[.int .i64 n0, .int .i64 n1, .int .i64 n2, .int .i64 n3, .int .i64 n4, .int .i64 n5, .int .i64 n6], .slice av ms.length cv, .int .i64 0, .int .i64 0]) (by simp [results, Tryz.results9, go_sem, *]) rfl ⟨_, rfl, ?_, ?_⟩
  · have h1 := (((((((hrow.out.setCell ⟨w.heap.size, 0, none⟩ (.int .i64 n0) hno).setCell ⟨w.heap.size, 1, none⟩ (.int .i64 n1) hno).setCell ⟨w.heap.size, 2, none⟩ (.int .i64 n2) hno).setCell ⟨w.heap.size, 3, none⟩ (.int .i64 n3) hno).setCell ⟨w.heap.size, 4, none⟩ (.int .i64 n4) hno).setCell ⟨w.heap.size, 5, none⟩ (.int .i64 n5) hno).setCell ⟨w.heap.size, 6, none⟩ (.int .i64 n6) hno)
    exact (h1.mono (fun k hk => by have := hk.1; simp at this; omega)).below ((Below.refl _ _).drew)
  · exact (((((((hBB.out.setCell (p := ⟨w.heap.size, 0, none⟩) (Nat.le_refl _) _).setCell (p := ⟨w.heap.size, 1, none⟩) (Nat.le_refl _) _).setCell (p := ⟨w.heap.size, 2, none⟩) (Nat.le_refl _) _).setCell (p := ⟨w.heap.size, 3, none⟩) (Nat.le_refl _) _).setCell (p := ⟨w.heap.size, 4, none⟩) (Nat.le_refl _) _).setCell (p := ⟨w.heap.size, 5, none⟩) (Nat.le_refl _) _).setCell (p := ⟨w.heap.size, 6, none⟩) (Nat.le_refl _) _).drew
end Go.Proofs.YtfhkgeoionkonaaGreatDoor.Sc
