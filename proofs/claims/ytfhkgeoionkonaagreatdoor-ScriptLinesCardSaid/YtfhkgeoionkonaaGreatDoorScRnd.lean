/-
  SCRIPT: rows of moves; round.
-/
import Derived.Test.YtfhkgeoionkonaaGreatDoorScG
import Derived.Test.YtfhkgeoionkonaaGreatDoorScForm
import Derived.Test.YtfhkgeoionkonaaGreatDoorScLine
namespace Go.Proofs.YtfhkgeoionkonaaGreatDoor.Sc
open Go.RowKit Mr
set_option linter.unusedVariables false
set_option linter.unusedSimpArgs false
set_option maxRecDepth 100000
def Mv.cells (m : Mv) : List Value := [.int .i64 m.th, .int .i64 m.op, .int .i64 m.arg, .int .i64 m.data]
def mvc (ms : List Mv) : List Value := ms.flatMap Mv.cells
theorem mvc_nil : mvc [] = [] := rfl
theorem mvc_cons (m : Mv) (l : List Mv) : mvc (m :: l) = m.cells ++ mvc l := by simp [mvc]
theorem mvc_append (l k : List Mv) : mvc (l ++ k) = mvc l ++ mvc k := by simp [mvc]
theorem mvc_length (ms : List Mv) : (mvc ms).length = ms.length * 4 := by
  induction ms with
  | nil => rfl
  | cons m l ih => rw [mvc_cons, List.length_append, ih]; simp [Mv.cells]; omega
theorem mvc_one (ms : List Mv) : ∀ u ∈ mvc ms, u.oneCell' = true := by
  intro u hu
  simp only [mvc, List.mem_flatMap] at hu
  obtain ⟨m, _, hm⟩ := hu
  simp only [Mv.cells, List.mem_cons, List.not_mem_nil, or_false] at hm
  rcases hm with rfl | rfl | rfl | rfl <;> rfl
theorem info_m : ∃ i, Tryz.prog.info? 38 = some i ∧ i.zero = some (.agg #[.int .i64 0, .int .i64 0, .int .i64 0, .int .i64 0]) ∧ i.size = 4 ∧ i.bytes = 32 := by
  have h : (Tryz.prog.info? 38).map (fun i => (i.zero, i.size, i.bytes)) = some (some (.agg #[.int .i64 0, .int .i64 0, .int .i64 0, .int .i64 0]), 4, 32) := by kernel_rfl
  cases hi : Tryz.prog.info? 38 with
  | none => rw [hi] at h; cases h
  | some i => rw [hi] at h; simp at h; exact ⟨i, rfl, h.1, h.2.1, h.2.2⟩
theorem mvc_get : ∀ (ms : List Mv) (j r : Nat) (m : Mv), ms[j]? = some m → r < 4 → (mvc ms)[j * 4 + r]? = m.cells[r]?
  | [], j, r, m, h, _ => by simp at h
  | x :: l, 0, r, m, h, hr => by
    simp at h; subst h
    rw [mvc_cons, List.getElem?_append_left (by simp [Mv.cells]; omega)]
    simp
  | x :: l, j + 1, r, m, h, hr => by
    rw [mvc_cons, List.getElem?_append_right (by simp [Mv.cells]; omega)]
    have e : (j + 1) * 4 + r - (Mv.cells x).length = j * 4 + r := by simp [Mv.cells]; omega
    rw [e]
    exact mvc_get l j r m (by simpa using h) hr
theorem MvAt.of {W : World} {S : Nat → Prop} {a : Option Addr} {n cap : Nat} {ms : List Mv} (h : Has W S 38 4 (.slice a n cap) n (mvc ms)) : MvAt W a n ms := by
  have hl := h.1
  rw [mvc_length] at hl
  refine ⟨by omega, ?_⟩
  by_cases h0 : ms = []
  · exact .inl h0
  · have hp : 0 < ms.length := List.length_pos_iff.2 h0
    obtain ⟨g, cap', hg, _, hgl, _⟩ := h.there (by omega)
    cases hg
    refine .inr ⟨g, 0, rfl, hgl, fun j hj => ?_⟩
    have e : ms[j]?.getD noMv = ms[j] := by simp [hj]
    have hce : ∀ t (_ : t < 4) u, (ms[j]).cells[t]? = some u → W.cell? ⟨g, j * 4 + t, none⟩ = some u := fun t ht u hu => h.cells (g := g) rfl (j * 4 + t) u ((mvc_get ms j t _ (List.getElem?_eq_getElem hj) ht).trans hu)
    rw [e, Nat.zero_add]
    exact ⟨hce 0 (by decide) _ rfl, hce 1 (by decide) _ rfl, hce 2 (by decide) _ rfl, hce 3 (by decide) _ rfl⟩
/-- Cells that a slice has just been laid with. -/
theorem newsM (w : World) (m : Mv) (t : TypeId) {g : Nat} (hg : g = w.heap.size) {vs : Array Value} (hv : vs = m.cells.toArray) : ∀ j v, m.cells[j]? = some v → (w.alloc (.cells vs t)).cell? ((⟨g, 0, none⟩ : Addr).add j) = some v := by
  intro j v hj
  subst hg
  subst hv
  rw [add1, Nat.zero_add, cell_blk (new_at _ _ _ rfl)]
  simpa using hj
theorem rnds_succ (i : Nat) : rnds (i + 1) = rnds i ++ [stp (i : Int)] := by simp [rnds, List.range_succ]
theorem rnds_len (i : Nat) : (rnds i).length = i := by simp [rnds]
set_option maxHeartbeats 8000000 in
theorem round_any (R : Nat) (T : Nat) (w : World) (hT : T ≤ 1000) (h0 : w.cell? ⟨R, 0, none⟩ = some (.int .i64 (T : Int))) (hR : R < w.heap.size) :
    Calls Tryz.prog 73 #[.pointer (some ⟨R, 0, none⟩)] w fun e w' => ∃ v, e = .returned v ∧ Has w' (fun k => w.heap.size ≤ k) 38 4 v T (mvc (rnds T)) ∧ Below w.heap.size w w' := by
  obtain ⟨ii, hii, hz0, hz1, hz2⟩ := info_m
  have So : Hid (∀ (t : Int) w, Calls Tryz.prog 62 #[.int .i64 t] w fun e w' => e = .returned (.agg #[.int .i64 t, .int .i64 0, .int .i64 0, .int .i64 0]) ∧ Below w.heap.size w w') := fun t w => stepOf_any t w
  go_enter Tryz.func73, Tryz.ntmps73
  go_upto_region 3 with fail
  go_loopg [3, 10] T (fun gk s3 s10 wr => ∃ (i : Nat) (v : Value), s3 = v ∧ s10 = .int .i64 (i : Int) ∧ i + gk = T ∧ Has wr (fun k => w.heap.size ≤ k) 38 4 v i (mvc (rnds i)) ∧ Below w.heap.size w wr)
  case atStart => exact ⟨0, _, rfl, rfl, by omega, Has.nil _ _ _ _, Below.refl _ _⟩
  case round =>
    obtain ⟨i, v, rfl, rfl, hi, hh, hB⟩ := hrel
    obtain ⟨av, cv, rfl, hcv⟩ := hh.form
    by_cases hlt : i < T
    · have hlI : (i : Int) < (T : Int) := by omega
      have dl : decide ((i : Int) < (T : Int)) = true := by simpa using hlI
      have hw : IntKind.i64.wrap ((i : Int) + 1) = (i : Int) + 1 := i64x _ (by omega) (by omega)
      have hi' := Mr.hid hi
      replace hh := Mr.hid hh
      replace hB := Mr.hid hB
      clear hi
      go_upto_region 5 with fail
      go_upto_region 6 with (first | (go_at_call 62; refine (So.out _ _).mono ?_; rintro e w2 ⟨rfl, B2⟩; have hh2 := Mr.hid (hh.out.below B2); have hB2 : Hid (Below w.heap.size w w2) := hB.out.trans (B2.mono hB.out.size); clear B2) | (at_builtin; refine wpList_append_has _ rfl _ _ 24 rfl (fun k => w.heap.size ≤ k) 38 ii _ 4 32 Tryz.underlying24 hii hz0 hz1 hz2 rfl _ _ _ rfl (hh2.out.alloc _) ⟨w2.heap.size, 0, none⟩ 1 1 (stp (i : Int)).cells rfl rfl (newsM _ _ _ rfl rfl) (by intro u hu; exact mvc_one [stp (i : Int)] u (by simpa [mvc] using hu)) (by decide) (by unfold maxLen; omega) (by omega) (by simp; have := hB2.out.size; omega) ?_; intro g2 cap2 w3 hh3 hgr hgg))
      have hB3 : Hid (Below w.heap.size w w3) := (hB2.out.alloc hB2.out.size _).grown hgr (by have := hB2.out.size; simp; omega) (fun k hk => (hh2.out.lt k hk).1)
      have hh4 : Hid (Has w3 (fun k => w.heap.size ≤ k) 38 4 (.slice (some ⟨g2, 0, none⟩) (i + 1) cap2) (i + 1) (mvc (rnds (i + 1)))) := by
        show Has _ _ _ _ _ _ _
        rw [rnds_succ, mvc_append]
        have e : mvc [stp (i : Int)] = (stp (i : Int)).cells := by simp [mvc]
        rw [e]
        exact hh3
      clear hh3 hgr hgg hh hB hh2 hB2
      go_wp2
      go_roundg (gk - 1)
      case measure => have := hi'.out; omega
      case rel => exact ⟨i + 1, _, rfl, by simp, by have := hi'.out; omega, hh4.out, hB3.out⟩
    · obtain rfl : i = T := by omega
      have dl : decide ((i : Int) < (i : Int)) = false := by simp
      replace hh := Mr.hid hh
      replace hB := Mr.hid hB
      clear hi hlt
      go_wp2
      go_ret
      exact ⟨_, rfl, hh.out, hB.out⟩
end Go.Proofs.YtfhkgeoionkonaaGreatDoor.Sc
