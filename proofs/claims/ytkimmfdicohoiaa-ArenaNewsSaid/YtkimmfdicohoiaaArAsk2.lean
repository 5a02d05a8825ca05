import Derived.Test.YtkimmfdicohoiaaArKa
import Derived.Test.YtkimmfdicohoiaaArNew
import Derived.RangeFuncNested
import Derived.Test.YtkimmfdicohoiaaMemNew
import Derived.Test.YtkimmfdicohoiaaArPure
import Derived.Test.YtkimmfdicohoiaaWordFstAll
import Derived.Test.YtkimmfdicohoiaaMacRepeat
import Derived.Test.YtkimmfdicohoiaaMacRep
import Derived.Deep.RegionHeld3
import Derived.Test.YtkimmfdicohoiaaMemNote
import Derived.RangeFuncBound
import Derived.RangeFuncCalls
import Derived.RangeFuncLeaves
import Derived.Shelf.Abstract
import Derived.Shelf.RegionOpen
import Derived.OwnWalkIn
import Derived.TacticsInMore
import Derived.LoopNIn
import Derived.LoopIn
import Derived.Laws.ResultCell
/-
  Arena.Cached, Arena.Count by their contracts.
-/
namespace Go.Proofs.Ytkimmfdicohoiaa.Ar
open Go.RowKit Go.Shelf Mr Me Ma Wc Wm Wr
theorem ints_length (l : List Int) : (ints l).length = l.length := by simp [ints]
theorem ints_one (l : List Int) : ∀ u ∈ ints l, u.oneCell' = true := by
  intro u hu
  simp only [ints, List.mem_map] at hu
  obtain ⟨c, _, rfl⟩ := hu
  rfl
set_option maxRecDepth 100000 in
set_option maxHeartbeats 1000000 in
theorem cloneI_any {w : World} {S : Nat → Prop} {v : Value} {l : List Int} (h : Has w S 3 1 v l.length (ints l)) (hn : l.length ≤ 100000) :
    Calls Try.prog 33 #[v] w fun e w' => ∃ v', e = .returned v' ∧ Has w' (fun k => w.heap.size ≤ k) 3 1 v' l.length (ints l) ∧ Below w.heap.size w w' := by
  obtain ⟨i0, hi, hz0, hz1, hz2⟩ := info_parts info_i
  rcases h.2 with ⟨rfl, h0⟩ | ⟨g, cap, cur, rfl, _, hg, hle, _⟩
  · have en := fun (w : World) => Lib.run_eql_slice_nil (P := Try.prog) w 51 3 none 0 0 0 0 Try.underlying51
    have hc : l = [] := List.eq_nil_of_length_eq_zero h0
    subst hc
    clear h
    go_enter Try.func33, Try.ntmps33
    go_wp2
    go_ret
    exact ⟨_, rfl, Has.nil _ _ _ _, Below.refl _ _⟩
  · have en := fun (w : World) => Lib.run_eql_slice_nil (P := Try.prog) w 51 3 (some ⟨g, 0, none⟩) l.length cap 0 0 Try.underlying51
    have hgl := (Array.getElem?_eq_some_iff.1 hg).1
    have hc : ∀ o j u, (ints l)[j]? = some u → (w.alloc o).cell? ((⟨g, 0, none⟩ : Addr).add j) = some u := fun o j u hu => by
      have hadd : (⟨g, 0, none⟩ : Addr).add j = ⟨g, j, none⟩ := by unfold Addr.add; split <;> simp_all
      rw [hadd, World.cell?_alloc_past _ _ _ hgl]
      exact h.cells (g := g) rfl j u hu
    have hl : (ints l).length = l.length * 1 := by rw [ints_length, Nat.mul_one]
    have h1 := ints_one l
    generalize ints l = xs at *
    generalize l.length = N at *
    replace hc := Mr.hid hc
    replace hl := Mr.hid hl
    replace h1 := Mr.hid h1
    clear h hg
    go_enter Try.func33, Try.ntmps33
    go_wp2_with (at_builtin; refine wpList_append_own _ rfl (.tmp 5) (.tmp 6) 51 rfl w.heap.size 3 i0 _ 1 8 Try.underlying51 hi hz0 hz1 hz2 rfl (by decide) (.slice (some ⟨w.heap.size, 0, none⟩) 0 0) 0 [] rfl (World.ownsRow_made w #[] 0 (Nat.le_refl _) (by decide) (by simp)) ⟨g, 0, none⟩ N cap xs rfl hl.out (hc.out _) h1.out (by unfold maxLen; omega) (by omega) (by simp) ?_; intro v' w1 hown hgrow hnil)
    go_ret
    rw [Nat.zero_add, List.nil_append] at hown
    exact ⟨_, rfl, Has.owns hown (fun _ h => h), ((Below.refl _ _).alloc (Nat.le_refl _) _).grown hgrow (by simp) (fun k hk => by simp [Value.ownBlock] at hk; omega)⟩
section
variable {W : World} {T : Nat → Prop} {ba gs cs : Nat} {c : Cf} {vca : Value} {vs : List Value} {A : Ao}
set_option maxRecDepth 100000 in
theorem cached_in (h : Ar W T ba gs cs c vca vs A) (i : Nat) (hi : i < A.ca.length) (hn : (A.cache i).length ≤ 100000) :
    Calls Try.prog 20 #[.pointer (some ⟨ba, 0, none⟩), .int .i64 (i : Int)] W fun e w' => ∃ v', e = .returned v' ∧ Has w' (fun k => W.heap.size ≤ k) 3 1 v' (A.cache i).length (ints (A.cache i)) ∧ Below W.heap.size W w' := by
  have C := hasThread_yes h i hi
  obtain ⟨gc, cc, a, n, e, hc, _, hh, _⟩ := h.cache i hi
  have D := cloneI_any hh hn
  have c8 := h.c8
  rw [e] at c8
  have hi' : (i : Int) < (A.ca.length : Int) := by omega
  have hgc := h.caches.there (by omega)
  rw [e] at hgc
  obtain ⟨g', c', e', _, _, hx1, hx2⟩ := hgc
  injection e' with e1 e2 e3
  subst e3
  unfold maxLen at hx2
  clear h hh e1
  generalize A.ca.length = NC at *
  replace D := Mr.hid D
  go_enter Try.func20, Try.ntmps20
  go_wp2_with (first | (go_at_call 32; refine C.mono ?_; clear C; rintro e w' ⟨rfl, hw⟩; obtain rfl := hw.symm) | (go_at_call 33; refine D.out.mono ?_; clear D; rintro e w2 ⟨v', rfl, hv, hB⟩; obtain ⟨pv, qv, rfl, _⟩ := hv.form; replace hv := Mr.hid hv; replace hB := Mr.hid hB))
  go_ret
  exact ⟨_, rfl, hv.out, hB.out⟩
def cntS (st : Int) (l : List (Int × Int)) : Nat := l.countP (fun y => y.1 == st)
theorem cntS_snoc (st : Int) (l : List (Int × Int)) (y : Int × Int) : cntS st (l ++ [y]) = cntS st l + (if y.1 == st then 1 else 0) := by simp [cntS, List.countP_append, List.countP_cons]
theorem cntS_le (st : Int) (l : List (Int × Int)) : cntS st l ≤ l.length := List.countP_le_length
set_option maxRecDepth 100000 in
set_option maxHeartbeats 1000000 in
theorem count_any (h : Ar W T ba gs cs c vca vs A) (hl : ∀ k, T k → k < W.heap.size) (hns : A.sl.length ≤ 1024) (st : Int) :
    Calls Try.prog 17 #[.pointer (some ⟨ba, 0, none⟩), .int .i64 st] W fun e w' => e = .returned (.int .i64 (cntS st A.sl : Int)) ∧ Below W.heap.size W w' := by
  have c7 := h.c7
  have hcl := h.slots
  have hAt := fun (wr : World) (hB : Below W.heap.size W wr) (x : Nat) (y : Int × Int) (hy : A.sl[x]? = some y) => (⟨((h.kept (w := wr) (fun k hk => hB.block k (hl k hk)) (fun _ h => h)).slotAt x 0 y _ hy rfl).1, ((h.kept (w := wr) (fun k hk => hB.block k (hl k hk)) (fun _ h => h)).slotAt x 1 y _ hy rfl).1⟩ : wr.cell? ⟨gs, x * 2 + 0, none⟩ = some (.int .i64 y.1) ∧ wr.cell? ⟨gs, x * 2 + 1, none⟩ = some (.int .i64 y.2))
  have hg := (hcl.lt gs rfl).2
  have hcs : A.sl.length ≤ cs ∧ cs ≤ 9223372036854775807 := by
    by_cases hz : 0 < A.sl.length
    · obtain ⟨g', c', e', _, _, hx1, hx2⟩ := hcl.there hz
      injection e' with e1 e2 e3
      subst e3
      unfold maxLen at hx2
      omega
    · rcases hcl.2 with ⟨e', _⟩ | ⟨g', c', cur, e', _, _, hx1, hx2, _⟩
      · cases e'
      · injection e' with e1 e2 e3
        subst e3
        unfold maxLen at hx2
        omega
  replace hAt := Mr.hid hAt
  clear h hcl hl
  go_enter Try.func17, Try.ntmps17
  go_wp2
  go_loopg [5, 15] A.sl.length (fun k s5 s15 wr => ∃ j : Nat, s5 = .int .i64 (cntS st (A.sl.take j) : Int) ∧ s15 = .int .i64 (j : Int) ∧ j + k = A.sl.length ∧ Below W.heap.size W wr)
  case atStart => exact ⟨0, rfl, rfl, by omega, Below.refl _ _⟩
  case round =>
    obtain ⟨j, rfl, rfl, hj, hB⟩ := hrel
    by_cases hjl : j < A.sl.length
    · obtain ⟨y, hy⟩ : ∃ y, A.sl[j]? = some y := ⟨_, List.getElem?_eq_getElem hjl⟩
      obtain ⟨k0, k1⟩ := hAt.out wr hB j y hy
      rw [Nat.add_zero] at k0
      have e0 : A.sl.take (j + 1) = A.sl.take j ++ [y] := by rw [List.take_add_one, hy]; rfl
      have e1 := cntS_snoc st (A.sl.take j) y
      rw [← e0] at e1
      have e2 := cntS_le st (A.sl.take j)
      have e3 : (A.sl.take j).length = j := by rw [List.length_take]; omega
      rw [e3] at e2
      have hgl : gs < wr.heap.size := Nat.lt_of_lt_of_le hg hB.size
      have hBA := fun o => hB.alloc hB.size o
      generalize cntS st (A.sl.take j) = c0 at *
      replace hBA := Mr.hid hBA
      replace hB := Mr.hid hB
      replace e1 := Mr.hid e1
      by_cases hs : y.1 = st
      · have b1 : (y.1 == st) = true := by simpa using hs
        go_wp2
        go_roundg (gk - 1)
        case measure => omega
        case rel =>
          refine ⟨j + 1, ?_, by simp, by omega, hBA.out _⟩
          have := e1.out
          rw [b1, if_pos rfl] at this
          rw [this]
          simp
      · have b1 : (y.1 == st) = false := by simpa using hs
        go_wp2
        go_roundg (gk - 1)
        case measure => omega
        case rel =>
          refine ⟨j + 1, ?_, by simp, by omega, hBA.out _⟩
          have := e1.out
          rw [b1, if_neg (by decide)] at this
          rw [this]
          simp
    · obtain rfl : j = A.sl.length := by omega
      rw [List.take_length]
      replace hB := Mr.hid hB
      go_wp2
      go_ret
      exact ⟨rfl, hB.out⟩
end
end Go.Proofs.Ytkimmfdicohoiaa.Ar
