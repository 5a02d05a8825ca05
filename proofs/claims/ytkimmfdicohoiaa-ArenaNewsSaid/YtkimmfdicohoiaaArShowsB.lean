/-
  What an arena shows of itself when it is new, beside the document's: all.
-/
import Derived.Test.YtkimmfdicohoiaaArShows
namespace Go.Proofs.Ytkimmfdicohoiaa.Ar
open Go.RowKit Go.Shelf Mr Me Ma Wc Wm Wr Rf
set_option linter.unusedVariables false
set_option linter.unusedSimpArgs false
section
variable {W W' : World} {ba b n nt u : Nat} {c : Cf} {gst cst gho cho gt ct : Nat}
theorem Bo.tcache (h : Bo W ba b n nt u c gst cst gho cho gt ct) (t : Nat) (ht : t < nt) : W.cell? ⟨gt, t * 658 + 52, none⟩ = some (.slice none 0 0) :=
  h.th.cells (g := gt) rfl (t * 658 + 52) _ (by rw [flat_get rt_len _ _ _ rt0 (by rw [List.getElem?_replicate, if_pos ht]) (by decide)]; exact (show rt0.cells[52]? = some nilS from by kernel_rfl))
set_option maxRecDepth 100000 in
set_option maxHeartbeats 1000000 in
theorem shows_any (h : Bo W ba b n nt u c gst cst gho cho gt ct) (s : Int) :
    Calls Try.prog 9 #[.pointer (some ⟨ba, 0, none⟩), .pointer (some ⟨b, 0, none⟩), .int .i64 s] W fun e w' => e = .returned (.bool true) ∧ Below W.heap.size W w' := by
  have hn := h.n1
  have ht := h.t1
  have AT := fun (w1 : World) (hB : Below W.heap.size W w1) => h.below hB
  have SH := fun (w1 : World) (hB : Below W.heap.size W w1) (s : Int) => (shown_any (AT w1 hB) s).mono (fun e w' hh => (⟨hh.1, hB.trans (hh.2.mono hB.size)⟩ : _ ∧ Below W.heap.size W w'))
  have CN := fun (w1 : World) (hB : Below W.heap.size W w1) (k : Int) => ((AT w1 hB).cnt k).mono (fun e w' hh => (⟨hh.1, hB.trans (hh.2.mono hB.size)⟩ : _ ∧ Below W.heap.size W w'))
  have RC := fun (w1 : World) (hB : Below W.heap.size W w1) (k : Int) => ((AT w1 hB).refCount k).mono (fun e w' hh => (⟨hh.1, hB.trans (hh.2.mono hB.size)⟩ : _ ∧ Below W.heap.size W w'))
  have CA := fun (w1 : World) (hB : Below W.heap.size W w1) (t : Int) => (cached_new (AT w1 hB) t).mono (fun e w' hh => (by obtain ⟨a, m, h1, h2⟩ := hh; exact ⟨a, m, h1, hB.trans (h2.mono hB.size)⟩ : ∃ a m, e = .returned (.slice a 0 m) ∧ Below W.heap.size W w'))
  have SI := fun (w1 : World) (hB : Below W.heap.size W w1) (a a' : Option Addr) (m m' : Nat) => (sameInts_none a a' m m' w1).mono (fun e w' hh => (⟨hh.1, hB.trans (hh.2.mono hB.size)⟩ : _ ∧ Below W.heap.size W w'))
  have MM := fun (w1 : World) (hB : Below W.heap.size W w1) => (⟨(AT w1 hB).m11, (AT w1 hB).m12, fun t ht => (AT w1 hB).tcache t ht⟩ : w1.cell? ⟨b, 11, none⟩ = some (.slice (some ⟨gt, 0, none⟩) nt ct) ∧ w1.cell? ⟨b, 12, none⟩ = some (.slice (some ⟨gst, 0, none⟩) n cst) ∧ ∀ t : Nat, t < nt → w1.cell? ⟨gt, t * 658 + 52, none⟩ = some (.slice none 0 0))
  replace SH := Mr.hid SH
  replace CN := Mr.hid CN
  replace RC := Mr.hid RC
  replace CA := Mr.hid CA
  replace SI := Mr.hid SI
  replace MM := Mr.hid MM
  clear AT h
  go_enter Try.func9, Try.ntmps9
  go_wp2
  go_loopg [7] (n + 2) (fun r z wr => ∃ x : Int, z = .int .i64 x ∧ -1 ≤ x ∧ x + (r : Int) = (n : Int) + 1 ∧ Below W.heap.size W wr)
  case atStart => exact ⟨-1, rfl, by omega, by omega, Below.refl _ _⟩
  case round =>
    obtain ⟨x, rfl, hx0, hx1, hB⟩ := hrel
    obtain ⟨k11, k12, _⟩ := MM.out wr hB
    by_cases hx : x ≤ (n : Int)
    · have d0 : decide (x ≤ (n : Int)) = true := decide_eq_true hx
      have S1 := SH.out wr hB x
      replace S1 := Mr.hid S1
      clear SH CN RC CA SI
      replace hB := Mr.hid hB
      go_wp2_with (go_at_call 16; refine S1.out.mono ?_; clear S1; rintro e w1 ⟨rfl, hB1⟩; replace hB1 := Mr.hid hB1)
      go_roundg (gk - 1)
      case measure => omega
      case rel => exact ⟨x + 1, rfl, by omega, by omega, hB1.out⟩
    · have d0 : decide (x ≤ (n : Int)) = false := decide_eq_false hx
      obtain rfl : x = (n : Int) + 1 := by omega
      replace hB := Mr.hid hB
      go_wp2
      clear k11 k12 d0 hx0 hx1 hx
      go_loopg [8] 8 (fun r z wy => ∃ x : Int, z = .int .i64 x ∧ -1 ≤ x ∧ x + (r : Int) = 7 ∧ Below W.heap.size W wy)
      case atStart => exact ⟨-1, rfl, by omega, by omega, hB.out⟩
      case round =>
        clear hB
        obtain ⟨x, rfl, hx0, hx1, hB⟩ := hrel
        by_cases hx : x ≤ 6
        · have d0 : decide (x ≤ 6) = true := decide_eq_true hx
          have S1 := Mr.hid (CN.out _ hB x)
          replace RC := Mr.hid (fun w1 hB => RC.out w1 hB x)
          clear SH CN CA SI
          replace hB := Mr.hid hB
          generalize cntI x (stsOf (u : Int) n) = q at *
          go_wp2_with (first | (go_at_call 17; refine S1.out.mono ?_; clear S1; rintro e w1 ⟨rfl, hB1⟩; have S2 := Mr.hid (RC.out w1 hB1); clear RC; replace hB1 := Mr.hid hB1) | (go_at_call 18; refine S2.out.mono ?_; clear S2; rintro e w2 ⟨rfl, hB2⟩; replace hB2 := Mr.hid hB2))
          go_roundg (gk - 1)
          case measure => omega
          case rel => exact ⟨x + 1, rfl, by omega, by omega, hB2.out⟩
        · have d0 : decide (x ≤ 6) = false := decide_eq_false hx
          obtain rfl : x = 7 := by omega
          replace hB := Mr.hid hB
          go_wp2
          clear d0 hx0 hx1 hx
          go_loopg [9] (nt + 2) (fun r z wy => ∃ x : Int, z = .int .i64 x ∧ -1 ≤ x ∧ x + (r : Int) = (nt : Int) + 1 ∧ Below W.heap.size W wy)
          case atStart => exact ⟨-1, rfl, by omega, by omega, hB.out⟩
          case round =>
            clear hB
            obtain ⟨x, rfl, hx0, hx1, hB⟩ := hrel
            obtain ⟨k11, k12, kt⟩ := MM.out _ hB
            by_cases hx : x ≤ (nt : Int)
            · have d0 : decide (x ≤ (nt : Int)) = true := decide_eq_true hx
              have S1 := Mr.hid (CA.out _ hB x)
              clear SH CN RC CA MM
              replace hB := Mr.hid hB
              by_cases hy0 : 0 ≤ x
              · have d1 : decide (0 ≤ x) = true := decide_eq_true hy0
                by_cases hy1 : x < (nt : Int)
                · have d2 : decide (x < (nt : Int)) = true := decide_eq_true hy1
                  obtain ⟨y, rfl⟩ : ∃ y : Nat, x = y := ⟨x.toNat, by omega⟩
                  have ky := kt y (by omega)
                  clear kt
                  go_wp2_with (first | (go_at_call 20; refine S1.out.mono ?_; clear S1; rintro e w1 ⟨pa, qa, rfl, hB1⟩; have S2 := Mr.hid (SI.out w1 hB1); clear SI; replace hB1 := Mr.hid hB1) | (go_at_call 19; refine (S2.out _ _ _ _).mono ?_; clear S2; rintro e w2 ⟨rfl, hB2⟩; replace hB2 := Mr.hid hB2))
                  go_roundg (gk - 1)
                  case measure => omega
                  case rel => exact ⟨(y : Int) + 1, rfl, by omega, by omega, hB2.out⟩
                · have d2 : decide (x < (nt : Int)) = false := decide_eq_false hy1
                  go_wp2_with (first | (go_at_call 20; refine S1.out.mono ?_; clear S1; rintro e w1 ⟨pa, qa, rfl, hB1⟩; have S2 := Mr.hid (SI.out w1 hB1); clear SI; replace hB1 := Mr.hid hB1) | (go_at_call 19; refine (S2.out _ _ _ _).mono ?_; clear S2; rintro e w2 ⟨rfl, hB2⟩; replace hB2 := Mr.hid hB2))
                  go_roundg (gk - 1)
                  case measure => omega
                  case rel => exact ⟨x + 1, rfl, by omega, by omega, hB2.out⟩
              · have d1 : decide (0 ≤ x) = false := decide_eq_false hy0
                go_wp2_with (first | (go_at_call 20; refine S1.out.mono ?_; clear S1; rintro e w1 ⟨pa, qa, rfl, hB1⟩; have S2 := Mr.hid (SI.out w1 hB1); clear SI; replace hB1 := Mr.hid hB1) | (go_at_call 19; refine (S2.out _ _ _ _).mono ?_; clear S2; rintro e w2 ⟨rfl, hB2⟩; replace hB2 := Mr.hid hB2))
                go_roundg (gk - 1)
                case measure => omega
                case rel => exact ⟨x + 1, rfl, by omega, by omega, hB2.out⟩
            · have d0 : decide (x ≤ (nt : Int)) = false := decide_eq_false hx
              obtain rfl : x = (nt : Int) + 1 := by omega
              have S1 := Mr.hid (SH.out _ hB s)
              clear SH CN RC CA MM SI kt
              replace hB := Mr.hid hB
              go_wp2_with (go_at_call 16; refine S1.out.mono ?_; clear S1; rintro e w1 ⟨rfl, hB1⟩; replace hB1 := Mr.hid hB1)
              go_ret
              exact ⟨rfl, hB1.out⟩
end
end Go.Proofs.Ytkimmfdicohoiaa.Ar
