/-
  viewOf, shaped and pool.Free by their contracts.
-/
import Derived.Test.YtdggempcfmihpaaPlFree
namespace Go.Proofs.Ytdggempcfmihpaa.Pl
open Go.RowKit Mr Me Wp Wc Wm
set_option linter.unusedVariables false
set_option linter.unusedSimpArgs false
theorem info_b : (Try.prog.info? 4).map (fun i => (i.zero, i.size, i.bytes)) = some (some (.bool false), 1, 1) := by kernel_rfl
theorem make_bools (W : World) (n : Nat) (hn : n ≤ 100000) :
    (Instr.makeSlice 55 (.int .i64 (n : Int)) (.int .i64 (n : Int))).run Try.prog W = .ok (.slice (some ⟨W.heap.size, 0, none⟩) n n) (W.alloc (.cells (madeCells #[.bool false] n) 4)) := by
  obtain ⟨i0, hi, hz0, hz1, hz2⟩ := info_parts info_b
  have h := run_make (P := Try.prog) W 55 4 i0 (.bool false) Try.underlying55 hi hz0 .i64 .i64 n n (by omega) (Int.le_refl _) (by rw [hz2]; omega) (by omega)
  rw [hz1, Nat.mul_one] at h
  simpa [Value.cells] using h
theorem made_bls (n : Nat) : madeCells #[.bool false] n = bls (List.replicate n false) := by
  apply Array.ext
  · simp [bls, size_madeCells]
  · intro j h1 h2
    simp [madeCells, Nat.mod_one, bls]
/-- Words that came in, as they may be read. -/
def Rds (W : World) (a : Option Addr) (n : Nat) (ws : List Int) : Prop := n = ws.length ∧ (a = none → n = 0) ∧ (∀ ad, a = some ad → Wds W ad ws)
def vz (n : Nat) : Vs := ⟨List.replicate n false, false⟩
section
variable {W : World} {c : C7} {a : Option Addr} {n cap : Nat} {ws : List Int}
set_option maxHeartbeats 2000000 in
theorem viewOf_cfg (hc : c.ok = false) : Calls Try.prog 13 #[c.val, .slice a n cap] W fun e w' => e = .returned (.tuple #[.pointer none, .int .i64 1]) ∧ Below W.heap.size W w' := by
  have S := fun W => size_bad c.a0 c.a1 c.a2 c.a3 c.a4 c.a5 c.a6 W hc
  unfold C7.val
  replace S := Mr.hid S
  go_enter Try.func13, Try.ntmps13
  go_wp2_with (go_at_call 33; refine (S.out _).mono ?_; rintro e w1 ⟨rfl, hb1⟩; have B1 := Bx.boxSeq (Bx.box0 _ _) hb1; clear hb1; replace B1 := Mr.hid B1)
  go_ret2
  exact ⟨rfl, Bx.boxEnd B1.out⟩
set_option maxHeartbeats 2000000 in
theorem viewOf_len (hc : c.ok = true) (hn : (n : Int) ≠ c.at 14) : Calls Try.prog 13 #[c.val, .slice a n cap] W fun e w' => e = .returned (.tuple #[.pointer none, .int .i64 2]) ∧ Below W.heap.size W w' := by
  have S := fun W => size_ok c.a0 c.a1 c.a2 c.a3 c.a4 c.a5 c.a6 W hc
  rw [show base c.a1 c.a2 c.a5 c.a6 14 = c.at 14 from rfl] at S
  have d : ((n : Int) != c.at 14) = true := by simpa using hn
  generalize c.at 14 = z at *
  clear hn
  unfold C7.val
  replace S := Mr.hid S
  go_enter Try.func13, Try.ntmps13
  go_wp2_with (go_at_call 33; refine (S.out _).mono ?_; rintro e w1 ⟨rfl, hb1⟩; have B1 := Bx.boxSeq (Bx.box0 _ _) hb1; clear hb1; replace B1 := Mr.hid B1)
  go_ret2
  exact ⟨rfl, Bx.boxEnd B1.out⟩
set_option maxHeartbeats 4000000 in
theorem viewOf_ok (hc : c.ok = true) (hn : (n : Int) = c.at 14) (hr : Rds W a n ws) : Calls Try.prog 13 #[c.val, .slice a n cap] W fun e w' => ∃ bv g aw, a = some aw ∧ W.heap.size ≤ bv ∧ W.heap.size ≤ g ∧ e = .returned (.tuple #[.pointer (some ⟨bv, 0, none⟩), .int .i64 0]) ∧ Below W.heap.size W w' ∧ Vw w' bv g c aw cap ws (vz c.a5.toNat) := by
  have hok := ok_of (show cfgB c.a0 c.a1 c.a2 c.a3 c.a4 c.a5 c.a6 = true from hc)
  have hnn : 0 < n := by
    have m := bmono hok 13 14 (by omega) (by omega)
    have m2 := many_bd hok ((13 : Nat) : Int)
    have b := base_bd hok 13
    unfold C7.at at hn
    omega
  obtain ⟨hr1, hr2, hr3⟩ := hr
  obtain ⟨aw, rfl⟩ : ∃ aw, a = some aw := by
    cases a with
    | none => have := hr2 rfl; omega
    | some aw => exact ⟨aw, rfl⟩
  have hw := hr3 aw rfl
  have hawl : aw.block < W.heap.size := by
    have := World.block_lt_of_cell? W _ (hw.rd 0 _ (wat_some (by omega)))
    rwa [blk_add] at this
  have S := fun W => size_ok c.a0 c.a1 c.a2 c.a3 c.a4 c.a5 c.a6 W hc
  rw [show base c.a1 c.a2 c.a5 c.a6 14 = c.at 14 from rfl, ← hn] at S
  obtain ⟨ns, hns⟩ := Int.eq_ofNat_of_zero_le (show 0 ≤ c.a5 by obtain ⟨-, -, -, -, h5, -, -, -⟩ := hok; omega)
  have hns2 : ns ≤ 1024 := by obtain ⟨-, -, -, -, -, h5, -, -⟩ := hok; omega
  have hmk := fun u => make_bools u ns (by omega)
  rw [hns, Int.toNat_natCast]
  rw [hns] at S
  replace hns := Mr.hid hns
  unfold C7.val
  rw [hns.out]
  clear hok hr2 hr3
  replace S := Mr.hid S
  replace hw := Mr.hid hw
  replace hn := Mr.hid hn
  have box : ∀ w1, Below (W.heap.size + 1) (W.alloc (.cells #[.int .i64 c.a0, .int .i64 c.a1, .int .i64 c.a2, .int .i64 c.a3, .int .i64 c.a4, .int .i64 (ns : Int), .int .i64 c.a6] 23)) w1 → w1.cell? ⟨W.heap.size, 0, none⟩ = some (.int .i64 c.a0) ∧ w1.cell? ⟨W.heap.size, 1, none⟩ = some (.int .i64 c.a1) ∧ w1.cell? ⟨W.heap.size, 2, none⟩ = some (.int .i64 c.a2) ∧ w1.cell? ⟨W.heap.size, 3, none⟩ = some (.int .i64 c.a3) ∧ w1.cell? ⟨W.heap.size, 4, none⟩ = some (.int .i64 c.a4) ∧ w1.cell? ⟨W.heap.size, 5, none⟩ = some (.int .i64 (ns : Int)) ∧ w1.cell? ⟨W.heap.size, 6, none⟩ = some (.int .i64 c.a6) ∧ W.heap.size < w1.heap.size := fun w1 hB => by
    have hb : w1.heap[W.heap.size]? = some (.cells #[.int .i64 c.a0, .int .i64 c.a1, .int .i64 c.a2, .int .i64 c.a3, .int .i64 c.a4, .int .i64 (ns : Int), .int .i64 c.a6] 23 (0, 0)) := (hB.block _ (by omega)).trans (heap_alloc_new W _)
    have hlt := (Array.getElem?_eq_some_iff.1 hb).1
    exact ⟨by simp [World.cell?, hb], by simp [World.cell?, hb], by simp [World.cell?, hb], by simp [World.cell?, hb], by simp [World.cell?, hb], by simp [World.cell?, hb], by simp [World.cell?, hb], hlt⟩
  replace box := Mr.hid box
  go_enter Try.func13, Try.ntmps13
  go_wp2_with (go_at_call 33; refine (S.out _).mono ?_; rintro e w1 ⟨rfl, hb1⟩; have B1 := Bx.boxSeq (Bx.box0 _ _) hb1; clear hb1; obtain ⟨y0, y1, y2, y3, y4, y5, y6, y7⟩ := box.out w1 B1; replace B1 := Mr.hid B1)
  have hmk2 := hmk w1.drew
  clear box hmk S
  go_region_held3 (fun w' => w'.cell? ⟨W.heap.size, 0, none⟩ = some (.int .i64 c.a0) ∧ w'.cell? ⟨W.heap.size, 1, none⟩ = some (.int .i64 c.a1) ∧ w'.cell? ⟨W.heap.size, 2, none⟩ = some (.int .i64 c.a2) ∧ w'.cell? ⟨W.heap.size, 3, none⟩ = some (.int .i64 c.a3) ∧ w'.cell? ⟨W.heap.size, 4, none⟩ = some (.int .i64 c.a4) ∧ w'.cell? ⟨W.heap.size, 5, none⟩ = some (.int .i64 (ns : Int)) ∧ w'.cell? ⟨W.heap.size, 6, none⟩ = some (.int .i64 c.a6)) (go_keep) (fail)
  go_wp2
  go_ret2
  have bel1 : Below W.heap.size W w1 := Bx.boxEnd B1.out
  have bel : Below W.heap.size W ((w1.alloc (.cells (madeCells #[.bool false] ns) 4)).alloc (.cells #[.int .i64 c.a0, .int .i64 c.a1, .int .i64 c.a2, .int .i64 c.a3, .int .i64 c.a4, .int .i64 (ns : Int), .int .i64 c.a6, .slice (some aw) ws.length cap, .slice (some ⟨w1.heap.size, 0, none⟩) ns ns, .bool false] 69)).drew := ((bel1.alloc (by omega) _).alloc (by simp; omega) _).drew
  refine ⟨w1.heap.size + 1, w1.heap.size, aw, rfl, by omega, by omega, by simp, bel, ⟨by omega, ?_, ?_, ?_, by omega, hc, by rw [hns.out]; simp [vz], by rw [← hn.out, hr1]⟩⟩
  · have h0 := new_at (w1.alloc (.cells (madeCells #[.bool false] ns) 4)) (.cells #[.int .i64 c.a0, .int .i64 c.a1, .int .i64 c.a2, .int .i64 c.a3, .int .i64 c.a4, .int .i64 (ns : Int), .int .i64 c.a6, .slice (some aw) ws.length cap, .slice (some ⟨w1.heap.size, 0, none⟩) ns ns, .bool false] 69) (w1.heap.size + 1) (by simp)
    have el : (vz ns).cm.length = ns := by simp [vz]
    rw [el, hns.out]
    exact h0
  · have h0 := old_at (new_at w1 (.cells (madeCells #[.bool false] ns) 4) w1.heap.size rfl) (.cells #[.int .i64 c.a0, .int .i64 c.a1, .int .i64 c.a2, .int .i64 c.a3, .int .i64 c.a4, .int .i64 (ns : Int), .int .i64 c.a6, .slice (some aw) ws.length cap, .slice (some ⟨w1.heap.size, 0, none⟩) ns ns, .bool false] 69)
    rw [made_bls] at h0
    rw [made_bls]
    exact h0
  · exact hw.out.fr (S := fun _ => False) (Fr.of_below bel) (fun e => e)
end
end Go.Proofs.Ytdggempcfmihpaa.Pl
