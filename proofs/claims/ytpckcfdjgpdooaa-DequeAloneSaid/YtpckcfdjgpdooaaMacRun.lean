/-
  slices.Clone of the calls and of the shifts.
-/
import Derived.Test.YtpckcfdjgpdooaaMacRepeat
import Derived.Test.YtpckcfdjgpdooaaMemIter
namespace Go.Proofs.Ytpckcfdjgpdooaa.Ma
open Go.RowKit Go.Shelf Mr Me
theorem info_shift : (Try.prog.info? 118).map (fun i => (i.zero, i.size, i.bytes)) = some (some (.agg #[.int .i64 0, .int .i64 0, .int .i64 0, .int .i64 0, .int .i64 0]), 5, 40) := by kernel_rfl
theorem clc_length (l : List Cl) : (clc l).length = l.length * 9 := flat_length cl_len l
theorem clc_one (l : List Cl) : ∀ u ∈ clc l, u.oneCell' = true := by
  intro u hu
  simp only [clc, List.mem_flatMap] at hu
  obtain ⟨c, _, hu⟩ := hu
  simp [Cl.cells] at hu
  rcases hu with rfl | rfl | rfl | rfl | rfl | rfl | rfl | rfl | rfl <;> rfl
set_option maxRecDepth 100000 in
set_option maxHeartbeats 1000000 in
theorem cloneCl_any {w : World} {S : Nat → Prop} {v : Value} {cls : List Cl} (h : Has w S 53 9 v cls.length (clc cls)) (hn : cls.length ≤ 100000) :
    Calls Try.prog 44 #[v] w fun e w' => ∃ v', e = .returned v' ∧ Has w' (fun k => w.heap.size ≤ k) 53 9 v' cls.length (clc cls) ∧ Below w.heap.size w w' := by
  obtain ⟨i0, hi, hz0, hz1, hz2⟩ := info_parts info_call
  rcases h.2 with ⟨rfl, h0⟩ | ⟨g, cap, cur, rfl, _, hg, hle, _⟩
  · have en := fun (w : World) => Lib.run_eql_slice_nil (P := Try.prog) w 38 53 none 0 0 0 0 Try.underlying38
    have hc : cls = [] := List.eq_nil_of_length_eq_zero h0
    subst hc
    clear h
    go_enter Try.func44, Try.ntmps44
    go_wp2
    go_ret
    exact ⟨_, rfl, Has.nil _ _ _ _, Below.refl _ _⟩
  · have en := fun (w : World) => Lib.run_eql_slice_nil (P := Try.prog) w 38 53 (some ⟨g, 0, none⟩) cls.length cap 0 0 Try.underlying38
    have hgl := (Array.getElem?_eq_some_iff.1 hg).1
    have hc : ∀ o j u, (clc cls)[j]? = some u → (w.alloc o).cell? ((⟨g, 0, none⟩ : Addr).add j) = some u := fun o j u hu => by
      have hadd : (⟨g, 0, none⟩ : Addr).add j = ⟨g, j, none⟩ := by unfold Addr.add; split <;> simp_all
      rw [hadd, World.cell?_alloc_past _ _ _ hgl]
      exact h.cells (g := g) rfl j u hu
    have hl := clc_length cls
    have h1 := clc_one cls
    generalize clc cls = xs at *
    generalize cls.length = N at *
    replace hc := Mr.hid hc
    replace hl := Mr.hid hl
    replace h1 := Mr.hid h1
    clear h hg
    go_enter Try.func44, Try.ntmps44
    go_wp2_with (at_builtin; refine wpList_append_own _ rfl (.tmp 5) (.tmp 6) 38 rfl w.heap.size 53 i0 _ 9 72 Try.underlying38 hi hz0 hz1 hz2 rfl (by decide) (.slice (some ⟨w.heap.size, 0, none⟩) 0 0) 0 [] rfl (World.ownsRow_made w #[] 0 (Nat.le_refl _) (by decide) (by simp)) ⟨g, 0, none⟩ N cap xs rfl hl.out (hc.out _) h1.out (by unfold maxLen; omega) (by omega) (by simp) ?_; intro v' w1 hown hgrow hnil)
    go_ret
    rw [Nat.zero_add, List.nil_append] at hown
    exact ⟨_, rfl, Has.owns hown (fun _ h => h), ((Below.refl _ _).alloc (Nat.le_refl _) _).grown hgrow (by simp) (fun k hk => by simp [Value.ownBlock] at hk; omega)⟩
theorem shc_length (l : List Sh) : (shc l).length = l.length * 5 := flat_length sh_len l
theorem shc_one (l : List Sh) : ∀ u ∈ shc l, u.oneCell' = true := by
  intro u hu
  simp only [shc, List.mem_flatMap] at hu
  obtain ⟨c, _, hu⟩ := hu
  simp [Sh.cells] at hu
  rcases hu with rfl | rfl | rfl | rfl | rfl <;> rfl
set_option maxRecDepth 100000 in
set_option maxHeartbeats 1000000 in
theorem cloneSh_any {w : World} {S : Nat → Prop} {v : Value} {cls : List Sh} (h : Has w S 118 5 v cls.length (shc cls)) (hn : cls.length ≤ 100000) :
    Calls Try.prog 46 #[v] w fun e w' => ∃ v', e = .returned v' ∧ Has w' (fun k => w.heap.size ≤ k) 118 5 v' cls.length (shc cls) ∧ Below w.heap.size w w' := by
  obtain ⟨i0, hi, hz0, hz1, hz2⟩ := info_parts info_shift
  rcases h.2 with ⟨rfl, h0⟩ | ⟨g, cap, cur, rfl, _, hg, hle, _⟩
  · have en := fun (w : World) => Lib.run_eql_slice_nil (P := Try.prog) w 40 118 none 0 0 0 0 Try.underlying40
    have hc : cls = [] := List.eq_nil_of_length_eq_zero h0
    subst hc
    clear h
    go_enter Try.func46, Try.ntmps46
    go_wp2
    go_ret
    exact ⟨_, rfl, Has.nil _ _ _ _, Below.refl _ _⟩
  · have en := fun (w : World) => Lib.run_eql_slice_nil (P := Try.prog) w 40 118 (some ⟨g, 0, none⟩) cls.length cap 0 0 Try.underlying40
    have hgl := (Array.getElem?_eq_some_iff.1 hg).1
    have hc : ∀ o j u, (shc cls)[j]? = some u → (w.alloc o).cell? ((⟨g, 0, none⟩ : Addr).add j) = some u := fun o j u hu => by
      have hadd : (⟨g, 0, none⟩ : Addr).add j = ⟨g, j, none⟩ := by unfold Addr.add; split <;> simp_all
      rw [hadd, World.cell?_alloc_past _ _ _ hgl]
      exact h.cells (g := g) rfl j u hu
    have hl := shc_length cls
    have h1 := shc_one cls
    generalize shc cls = xs at *
    generalize cls.length = N at *
    replace hc := Mr.hid hc
    replace hl := Mr.hid hl
    replace h1 := Mr.hid h1
    clear h hg
    go_enter Try.func46, Try.ntmps46
    go_wp2_with (at_builtin; refine wpList_append_own _ rfl (.tmp 5) (.tmp 6) 40 rfl w.heap.size 118 i0 _ 5 40 Try.underlying40 hi hz0 hz1 hz2 rfl (by decide) (.slice (some ⟨w.heap.size, 0, none⟩) 0 0) 0 [] rfl (World.ownsRow_made w #[] 0 (Nat.le_refl _) (by decide) (by simp)) ⟨g, 0, none⟩ N cap xs rfl hl.out (hc.out _) h1.out (by unfold maxLen; omega) (by omega) (by simp) ?_; intro v' w1 hown hgrow hnil)
    go_ret
    rw [Nat.zero_add, List.nil_append] at hown
    exact ⟨_, rfl, Has.owns hown (fun _ h => h), ((Below.refl _ _).alloc (Nat.le_refl _) _).grown hgrow (by simp) (fun k hk => by simp [Value.ownBlock] at hk; omega)⟩
end Go.Proofs.Ytpckcfdjgpdooaa.Ma
