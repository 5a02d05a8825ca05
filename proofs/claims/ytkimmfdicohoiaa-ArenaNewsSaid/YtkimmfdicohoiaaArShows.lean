/-
  What an arena shows of itself when it is new, beside the document's: the counts, the caches, all.
-/
import Derived.Test.YtkimmfdicohoiaaArShown
namespace Go.Proofs.Ytkimmfdicohoiaa.Ar
open Go.RowKit Go.Shelf Mr Me Ma Wc Wm Wr Rf
set_option linter.unusedVariables false
set_option linter.unusedSimpArgs false
def cntI (k : Int) (l : List Int) : Nat := l.countP (fun y => y == k)
theorem cntI_snoc (k : Int) (l : List Int) (y : Int) : cntI k (l ++ [y]) = cntI k l + (if y == k then 1 else 0) := by simp [cntI, List.countP_append, List.countP_cons]
theorem cntI_le (k : Int) (l : List Int) : cntI k l ≤ l.length := List.countP_le_length
theorem cnt_same (k : Int) (u n : Nat) : cntS k (lnk u n) = cntI k (stsOf u n) := by
  have e : stsOf u n = (lnk u n).map Prod.fst := by simp [stsOf, lnk, Function.comp_def]
  rw [e]
  simp [cntS, cntI, List.countP_map, Function.comp_def]
section
variable {W W' : World} {ba b n nt u : Nat} {c : Cf} {gst cst gho cho gt ct : Nat}
theorem Bo.cnt (h : Bo W ba b n nt u c gst cst gho cho gt ct) (k : Int) : Calls Try.prog 17 #[.pointer (some ⟨ba, 0, none⟩), .int .i64 k] W fun e w' => e = .returned (.int .i64 (cntI k (stsOf u n) : Int)) ∧ Below W.heap.size W w' := by
  obtain ⟨gs, cs, vca, vs, ha⟩ := h.ar
  have := count_any ha (fun k hk => hk) (by rw [show (Ao.newU n nt u).sl.length = n from lnk_len u n]; exact h.n1.2) k
  rw [show (Ao.newU n nt u).sl = lnk u n from rfl, cnt_same] at this
  exact this
theorem config_any {T : Nat → Prop} {gs cs : Nat} {vca : Value} {vs : List Value} {A : Ao} (h : Ar W T ba gs cs c vca vs A) : Calls Try.prog 8 #[.pointer (some ⟨ba, 0, none⟩)] W fun e w' => e = .returned c.val ∧ Below W.heap.size W w' := by
  have hl := h.lt
  have k0 : W.cell? ⟨ba, 0, none⟩ = some (.int .i64 c.a0) := by simp [World.cell?, h.blk]
  have k1 : W.cell? ⟨ba, 1, none⟩ = some (.int .i64 c.a1) := by simp [World.cell?, h.blk]
  have k2 : W.cell? ⟨ba, 2, none⟩ = some (.int .i64 c.a2) := by simp [World.cell?, h.blk]
  have k3 : W.cell? ⟨ba, 3, none⟩ = some (.int .i64 c.a3) := by simp [World.cell?, h.blk]
  have k4 : W.cell? ⟨ba, 4, none⟩ = some (.int .i64 c.a4) := by simp [World.cell?, h.blk]
  have k5 : W.cell? ⟨ba, 5, none⟩ = some (.int .i64 c.a5) := by simp [World.cell?, h.blk]
  have k6 : W.cell? ⟨ba, 6, none⟩ = some (.int .i64 c.a6) := by simp [World.cell?, h.blk]
  clear h
  go_enter Try.func8, Try.ntmps8
  go_wp2
  refine bodyPost_ret (v := c.val) (by simp [results, Try.results8, go_sem, Cf.val]) rfl ⟨rfl, ?_⟩
  exact (Below.refl _ _).alloc (Nat.le_refl _) _
theorem cached_no (h : Bo W ba b n nt u c gst cst gho cho gt ct) (t : Int) (ht : t < 0 ∨ nt ≤ t) : Calls Try.prog 20 #[.pointer (some ⟨ba, 0, none⟩), .int .i64 t] W fun e w' => e = .returned (.slice none 0 0) ∧ w' = W := by
  obtain ⟨gs, cs, vca, vs, ha⟩ := h.ar
  have ht1 := h.t1
  have hcl : (Ao.newU n nt u).ca.length = nt := by simp [Ao.newU]
  obtain ⟨gc, cc, a, m, e, _⟩ := ha.cache 0 (by omega)
  have c8 := ha.c8
  rw [e, hcl] at c8
  clear h ha
  have HT : Calls Try.prog 32 #[.pointer (some ⟨ba, 0, none⟩), .int .i64 t] W fun e w' => e = .returned (.bool false) ∧ w' = W := by
    by_cases h0 : 0 ≤ t
    · have d0 : decide (0 ≤ t) = true := decide_eq_true h0
      have d1 : decide (t < (nt : Int)) = false := decide_eq_false (by omega)
      go_enter Try.func32, Try.ntmps32
      go_wp2
      go_ret
      exact ⟨rfl, rfl⟩
    · have d0 : decide (0 ≤ t) = false := decide_eq_false h0
      go_enter Try.func32, Try.ntmps32
      go_wp2
      go_ret
      exact ⟨rfl, rfl⟩
  go_enter Try.func20, Try.ntmps20
  go_wp2_with (go_at_call 32; refine HT.mono ?_; clear HT; rintro e w' ⟨rfl, hw⟩; obtain rfl := hw.symm)
  go_ret
  exact ⟨rfl, rfl⟩
theorem cached_new (h : Bo W ba b n nt u c gst cst gho cho gt ct) (t : Int) : Calls Try.prog 20 #[.pointer (some ⟨ba, 0, none⟩), .int .i64 t] W fun e w' => ∃ a m, e = .returned (.slice a 0 m) ∧ Below W.heap.size W w' := by
  by_cases ht : t < 0 ∨ nt ≤ t
  · refine (cached_no h t ht).mono ?_
    rintro e w' ⟨rfl, rfl⟩
    exact ⟨_, _, rfl, Below.refl _ _⟩
  · obtain ⟨gs, cs, vca, vs, ha⟩ := h.ar
    obtain ⟨i, rfl⟩ : ∃ i : Nat, t = i := ⟨t.toNat, by omega⟩
    have hcl : (Ao.newU n nt u).ca.length = nt := by simp [Ao.newU]
    have hi : i < nt := by omega
    have hc : (Ao.newU n nt u).cache i = [] := by
      show ((List.replicate nt ([] : List Int))[i]?).getD [] = []
      simp [List.getElem?_replicate, hi]
    refine (cached_in ha i (by omega) (by rw [hc]; simp)).mono ?_
    rintro e w' ⟨v, rfl, hv, hB⟩
    rw [hc] at hv
    obtain ⟨a, m, rfl, _⟩ := hv.form
    exact ⟨a, m, rfl, hB⟩
theorem sameInts_none (a a' : Option Addr) (m m' : Nat) (w : World) : Calls Try.prog 19 #[.slice a 0 m, .slice a' 0 m'] w fun e w' => e = .returned (.bool true) ∧ Below w.heap.size w w' := by
  go_enter Try.func19, Try.ntmps19
  go_wp2
  refine wp_loop_rounds 1 ?_
  rw [rounds_succ]
  go_wp2
  go_ret
  exact ⟨rfl, Below.refl _ _⟩
set_option maxRecDepth 100000 in
set_option maxHeartbeats 1000000 in
theorem Bo.refCount (h : Bo W ba b n nt u c gst cst gho cho gt ct) (k : Int) : Calls Try.prog 18 #[.pointer (some ⟨b, 0, none⟩), .int .i64 k] W fun e w' => e = .returned (.int .i64 (cntI k (stsOf u n) : Int)) ∧ Below W.heap.size W w' := by
  have k12 := h.m12
  have hn := h.n1
  have hAt : ∀ x y, (stsOf u n)[x]? = some y → W.cell? ⟨gst, x, none⟩ = some (.int .i64 y) := fun x y hy => h.st.cells (g := gst) rfl x _ (by unfold nums; rw [List.getElem?_map, hy]; rfl)
  have hl : (stsOf u n).length = n := by simp [stsOf]
  clear h
  generalize stsOf u n = l at *
  subst hl
  replace hAt := Mr.hid hAt
  go_enter Try.func18, Try.ntmps18
  go_wp2
  go_loopg [5, 6] l.length (fun r z5 z6 wr => ∃ j : Nat, z5 = .int .i64 (cntI k (l.take j) : Int) ∧ z6 = .int .i64 (j : Int) ∧ j + r = l.length ∧ wr = W)
  case atStart => exact ⟨0, rfl, rfl, by omega, rfl⟩
  case round =>
    obtain ⟨j, rfl, rfl, hj, rfl⟩ := hrel
    by_cases hjl : j < l.length
    · obtain ⟨y, hy⟩ : ∃ y, l[j]? = some y := ⟨_, List.getElem?_eq_getElem hjl⟩
      have k0 := hAt.out j y hy
      have e0 : l.take (j + 1) = l.take j ++ [y] := by rw [List.take_add_one, hy]; rfl
      have e1 := cntI_snoc k (l.take j) y
      rw [← e0] at e1
      have e2 := cntI_le k (l.take j)
      have e3 : (l.take j).length = j := by rw [List.length_take]; omega
      rw [e3] at e2
      have dj : decide ((j : Int) < (l.length : Int)) = true := decide_eq_true (by omega)
      have hjl' : (j : Int) < (l.length : Int) := by omega
      generalize cntI k (l.take j) = c0 at *
      replace e1 := Mr.hid e1
      by_cases hs : y = k
      · have b1 : (y == k) = true := by simpa using hs
        go_wp2
        go_roundg (gk - 1)
        case measure => omega
        case rel =>
          refine ⟨j + 1, ?_, by simp, by omega, rfl⟩
          have := e1.out
          rw [b1, if_pos rfl] at this
          rw [this]
          simp
      · have b1 : (y == k) = false := by simpa using hs
        go_wp2
        go_roundg (gk - 1)
        case measure => omega
        case rel =>
          refine ⟨j + 1, ?_, by simp, by omega, rfl⟩
          have := e1.out
          rw [b1, if_neg (by decide)] at this
          rw [this]
          simp
    · obtain rfl : j = l.length := by omega
      rw [List.take_length]
      go_wp2
      go_ret
      exact ⟨rfl, Below.refl _ _⟩
end
end Go.Proofs.Ytkimmfdicohoiaa.Ar
