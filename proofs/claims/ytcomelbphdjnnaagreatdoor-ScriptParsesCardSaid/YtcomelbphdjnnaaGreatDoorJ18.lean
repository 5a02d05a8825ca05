import Derived.Test.YtcomelbphdjnnaaGreatDoorJ15
import Derived.Test.YtcomelbphdjnnaaGreatDoorJ17
/-
  SCRIPT: lineOf, errnoOf; Parse of any text.
-/
namespace Go.Proofs.YtcomelbphdjnnaaGreatDoor.Sc
open Go.RowKit Mr
set_option linter.unusedVariables false
set_option linter.unusedSimpArgs false
set_option maxRecDepth 100000
set_option maxHeartbeats 4000000 in
theorem lineOf_any (k : Nat) (n : Int) (w : World) (hg : EtAt w) : Calls Tryz.prog 21 #[erv k n] w fun e w' => e = .returned (.int .i64 (k : Int)) ∧ Below w.heap.size w w' := by
  have hb0 : Below w.heap.size w (w.alloc (.cells #[.int .i64 0, .nilIface] 82)) := (Below.refl _ _).alloc (Nat.le_refl _) _
  have hg1 := hg.below hb0
  unfold erv flt
  by_cases h0 : k = 0
  · subst h0
    rw [if_pos rfl]
    have AS := Mr.hid (as_fl n w.heap.size _ hg1)
    replace hb0 := Mr.hid hb0
    clear hg hg1
    go_enter Tryz.func21, Tryz.ntmps21
    go_wp2_with (go_at_call 37; refine AS.out.mono ?_; clear AS; rintro e w9 ⟨rfl, hB⟩; have hB9 : Hid (Below w.heap.size w w9) := hb0.out.trans (hB.mono (by simp)); clear hB)
    go_ret
    exact ⟨rfl, hB9.out⟩
  · rw [if_neg h0]
    have hx : (w.alloc (.cells #[.int .i64 0, .nilIface] 82)).heap[w.heap.size]? = some (.cells #[.int .i64 0, .nilIface] 82 (0, 0)) := new_at _ _ _ rfl
    have AS := Mr.hid (as_ll (k : Int) n w.heap.size (.int .i64 0) .nilIface _ hg1 (cell_blk hx 0) (cell_blk hx 1) (fun j => by simp) (by simp))
    replace hb0 := Mr.hid hb0
    replace hx := Mr.hid hx
    clear hg hg1
    go_enter Tryz.func21, Tryz.ntmps21
    go_upto_region 3 with (go_at_call 37; refine AS.out.mono ?_; clear AS; rintro e w9 ⟨rfl, w2, hB, hw9⟩; replace hw9 := Mr.hid hw9)
    have hx2 : w2.heap[w.heap.size]? = some (.cells #[.int .i64 0, .nilIface] 82 (0, 0)) := (hB.block _ (by simp)).trans hx.out
    have hx9 : w9.heap[w.heap.size]? = some (.cells #[.int .i64 (k : Int), .iface 77 (.int .i64 n)] 82 (0, 0)) := by
      rw [hw9.out]
      exact (setBlk (setBlk hx2 0 (.int .i64 (k : Int))) 1 (.iface 77 (.int .i64 n))).trans rfl
    have hB9 : Hid (Below w.heap.size w w9) := by
      rw [hw9.out]
      exact ((hb0.out.trans (hB.mono (by simp))).setCell (p := ⟨w.heap.size, 0, none⟩) (Nat.le_refl _) _).setCell (p := ⟨w.heap.size, 1, none⟩) (Nat.le_refl _) _
    have c0 := cell_blk hx9 0
    have l9 := (Array.getElem?_eq_some_iff.1 hx9).1
    clear hw9 hx2 hx9 hB hx hb0
    go_wp2
    go_ret
    exact ⟨rfl, hB9.out⟩
set_option maxHeartbeats 4000000 in
theorem errnoOf_any (k : Nat) (n : Int) (w : World) (hg : EtAt w) : Calls Tryz.prog 22 #[erv k n] w fun e w' => e = .returned (.int .i64 n) ∧ Below w.heap.size w w' := by
  have hb0 : Below w.heap.size w (w.alloc (.cells #[.int .i64 0] 77)) := (Below.refl _ _).alloc (Nat.le_refl _) _
  have hg1 := hg.below hb0
  have hx : (w.alloc (.cells #[.int .i64 0] 77)).heap[w.heap.size]? = some (.cells #[.int .i64 0] 77 (0, 0)) := new_at _ _ _ rfl
  have AS : Hid (Calls Tryz.prog 37 #[erv k n, .iface 85 (.pointer (some ⟨w.heap.size, 0, none⟩))] (w.alloc (.cells #[.int .i64 0] 77)) fun e w' => e = .returned (.bool true) ∧ ∃ w2, Below (w.alloc (.cells #[.int .i64 0] 77)).heap.size (w.alloc (.cells #[.int .i64 0] 77)) w2 ∧ w' = w2.setCell ⟨w.heap.size, 0, none⟩ (.int .i64 n)) := by
    unfold erv flt
    by_cases h0 : k = 0
    · rw [if_pos h0]
      exact as_ff n w.heap.size (.int .i64 0) _ hg1 (cell_blk hx 0) (by simp) (by simp)
    · rw [if_neg h0]
      exact as_lf (k : Int) n w.heap.size (.int .i64 0) _ hg1 (cell_blk hx 0) (by simp) (by simp)
  generalize erv k n = ev at *
  replace hb0 := Mr.hid hb0
  replace hx := Mr.hid hx
  clear hg hg1
  go_enter Tryz.func22, Tryz.ntmps22
  go_upto_region 3 with (go_at_call 37; refine AS.out.mono ?_; clear AS; rintro e w9 ⟨rfl, w2, hB, hw9⟩; replace hw9 := Mr.hid hw9)
  have hx2 : w2.heap[w.heap.size]? = some (.cells #[.int .i64 0] 77 (0, 0)) := (hB.block _ (by simp)).trans hx.out
  have hx9 : w9.heap[w.heap.size]? = some (.cells #[.int .i64 n] 77 (0, 0)) := by
    rw [hw9.out]
    exact (setBlk hx2 0 (.int .i64 n)).trans rfl
  have hB9 : Hid (Below w.heap.size w w9) := by
    rw [hw9.out]
    exact (hb0.out.trans (hB.mono (by simp))).setCell (p := ⟨w.heap.size, 0, none⟩) (Nat.le_refl _) _
  have c0 := cell_blk hx9 0
  have l9 := (Array.getElem?_eq_some_iff.1 hx9).1
  clear hw9 hx2 hx9 hB hx hb0
  go_wp2
  go_ret
  exact ⟨rfl, hB9.out⟩
/-- What Parse answers of a text that is wrong. -/
def PeA (w : World) (k : Nat) (n : Int) (e : Ending) (w' : World) : Prop := e = .returned (.tuple #[cfV cfZ, .slice none 0 0, .int .i64 (k : Int), .int .i64 n]) ∧ Below w.heap.size w w'
set_option maxHeartbeats 16000000 in
theorem Parse_err (l : List UInt8) (k : Nat) (n : Int) (w : World) (E : Env w) (hg : EtAt w) (h : parseX l = .inl (k, n)) :
    Calls Tryz.prog 10 #[.string ⟨l.toArray⟩] w (PeA w k n) := by
  obtain ⟨o1, ho1⟩ : ∃ o, o = Obj.cells #[.int .i64 0, .int .i64 0, .int .i64 0, .int .i64 0, .int .i64 0, .int .i64 0, .int .i64 0] 23 (0, 0) := ⟨_, rfl⟩
  have hA : Below w.heap.size w (w.alloc o1) := (Below.refl _ _).alloc (Nat.le_refl _) _
  have hB0 : Below (w.alloc o1).heap.size (w.alloc o1) ((w.alloc o1).alloc (cfO cfZ (.slice none 0 0))) := (Below.refl _ _).alloc (Nat.le_refl _) _
  have hR0 : Rd (w.alloc o1).heap.size (w.heap.size + 1) ((w.alloc o1).alloc (cfO cfZ (.slice none 0 0))) cfZ (.slice none 0 0) [] := ⟨new_at _ _ _ (by simp), Has.nil _ _ _ _, by simp⟩
  have TX : Hid (Calls Tryz.prog 20 #[.pointer (some ⟨w.heap.size + 1, 0, none⟩), .string ⟨l.toArray⟩] ((w.alloc o1).alloc (cfO cfZ (.slice none 0 0))) (ErA (w.alloc o1) (erv k n))) := by
    by_cases hl : l.length ≤ 1048576
    · exact text_err (w.alloc o1) (w.heap.size + 1) _ l k n _ (E.below hA) hB0 hR0 hl h
    · unfold parseX at h
      rw [if_neg hl] at h
      injection h with h
      injection h with h1 h2
      subst h1
      subst h2
      exact text_long (w.alloc o1) (w.heap.size + 1) l _ hB0 hl
  have LO := Mr.hid (fun W (hB : Below w.heap.size w W) => lineOf_any k n W (hg.below hB))
  have EO := Mr.hid (fun W (hB : Below w.heap.size w W) => errnoOf_any k n W (hg.below hB))
  obtain ⟨tq, vq, hev⟩ : ∃ t v, erv k n = .iface t v := by unfold erv flt; split <;> exact ⟨_, _, rfl⟩
  rw [hev] at TX LO EO
  subst ho1
  unfold cfO at TX
  dsimp only [cfZ] at TX
  unfold PeA cfV cfZ
  dsimp only
  generalize (⟨l.toArray⟩ : ByteArray) = X at *
  replace hA := Mr.hid hA
  clear h hR0 hB0 hev E hg
  go_enter Tryz.func10, Tryz.ntmps10
  go_upto_region 3 with (go_at_call 20; refine TX.out.mono ?_; clear TX; rintro e w2 ⟨rfl, hB2⟩)
  have hbx : w2.heap[w.heap.size]? = some (.cells #[.int .i64 0, .int .i64 0, .int .i64 0, .int .i64 0, .int .i64 0, .int .i64 0, .int .i64 0] 23 (0, 0)) := (hB2.block _ (by simp)).trans (new_at _ _ _ rfl)
  have BB : Below w.heap.size w w2 := hA.out.trans (hB2.mono (by simp))
  have L2 := Mr.hid (LO.out w2 BB)
  have lb := (Array.getElem?_eq_some_iff.1 hbx).1
  replace BB := Mr.hid BB
  replace hbx := Mr.hid hbx
  clear hB2 hA LO
  go_upto_region 4 with fail
  go_wp2_with (go_at_call 21; refine L2.out.mono ?_; clear L2)
  rintro e w3 ⟨rfl, B3⟩
  have BB3 : Below w.heap.size w w3 := BB.out.trans (B3.mono BB.out.size)
  have E3 := Mr.hid (EO.out w3 BB3)
  have hbx3 : Hid (w3.heap[w.heap.size]? = some (.cells #[.int .i64 0, .int .i64 0, .int .i64 0, .int .i64 0, .int .i64 0, .int .i64 0, .int .i64 0] 23 (0, 0))) := (B3.block _ lb).trans hbx.out
  have lb3 : w.heap.size < w3.heap.size := Nat.lt_of_lt_of_le lb B3.size
  replace BB3 := Mr.hid BB3
  clear B3 hbx BB EO lb
  go_wp2_with (go_at_call 22; refine E3.out.mono ?_; clear E3)
  rintro e w4 ⟨rfl, B4⟩
  have BB4 : Hid (Below w.heap.size w w4) := BB3.out.trans (B4.mono BB3.out.size)
  have hbx4 : w4.heap[w.heap.size]? = some (.cells #[.int .i64 0, .int .i64 0, .int .i64 0, .int .i64 0, .int .i64 0, .int .i64 0, .int .i64 0] 23 (0, 0)) := (B4.block _ lb3).trans hbx3.out
  have y0 := cell_blk hbx4 0
  have y1 := cell_blk hbx4 1
  have y2 := cell_blk hbx4 2
  have y3 := cell_blk hbx4 3
  have y4 := cell_blk hbx4 4
  have y5 := cell_blk hbx4 5
  have y6 := cell_blk hbx4 6
  have hfz : ∀ k, w4.frozen? ⟨w.heap.size, k, none⟩ = false := fun k => by simp [World.frozen?, hbx4]
  have l1 := (Array.getElem?_eq_some_iff.1 hbx4).1
  clear hbx4 hbx3 B4 BB3 lb3
  go_wp2
  refine bodyPost_ret (v := .tuple #[.agg #[.int .i64 0, .int .i64 0, .int .i64 0, .int .i64 0, .int .i64 0, .int .i64 0, .int .i64 0], .slice none 0 0, .int .i64 (k : Int), .int .i64 n]) (by simp [results, Tryz.results10, go_sem, *]) rfl ⟨rfl, ?_⟩
  exact (((((((BB4.out.setCell (p := ⟨w.heap.size, 0, none⟩) (Nat.le_refl _) _).setCell (p := ⟨w.heap.size, 1, none⟩) (Nat.le_refl _) _).setCell (p := ⟨w.heap.size, 2, none⟩) (Nat.le_refl _) _).setCell (p := ⟨w.heap.size, 3, none⟩) (Nat.le_refl _) _).setCell (p := ⟨w.heap.size, 4, none⟩) (Nat.le_refl _) _).setCell (p := ⟨w.heap.size, 5, none⟩) (Nat.le_refl _) _).setCell (p := ⟨w.heap.size, 6, none⟩) (Nat.le_refl _) _)
/-- What Parse answers of any text. -/
def PxA (w : World) (r : (Nat × Int) ⊕ (Cf × List Mv)) (e : Ending) (w' : World) : Prop :=
  match r with
  | .inl x => PeA w x.1 x.2 e w'
  | .inr fin => PaA w fin e w'
theorem Parse_any (l : List UInt8) (w : World) (E : Env w) (hg : EtAt w) : Calls Tryz.prog 10 #[.string ⟨l.toArray⟩] w (PxA w (parseX l)) := by
  cases h : parseX l with
  | inl x => exact Parse_err l x.1 x.2 w E hg h
  | inr fin => exact Parse_ok l fin w E (parseX_inr h)
end Go.Proofs.YtcomelbphdjnnaaGreatDoor.Sc
/-
  SCRIPT: what the library's variables hold, errors.errorType too.
-/
namespace Go.Proofs.YtcomelbphdjnnaaGreatDoor.Sc
open Go.RowKit
structure EnvX (W : World) : Prop where
  env : Env W
  et : EtAt W
theorem EnvX.below {W W' : World} (h : EnvX W) (hb : Below W.heap.size W W') : EnvX W' := ⟨h.env.below hb, h.et.below hb⟩
end Go.Proofs.YtcomelbphdjnnaaGreatDoor.Sc
