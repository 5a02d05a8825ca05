/-
  WITNESS: the laws' twin of a row of calls, with a mark behind it.
-/
import Derived.Test.YtfgnaffomglmdaaWtCall
import Derived.Deep.LoopGhost
import Derived.BigQuiet
namespace Go.Proofs.Ytfgnaffomglmdaa.Wt
open Go.RowKit Mr Md
set_option linter.unusedVariables false
set_option linter.unusedSimpArgs false
set_option maxRecDepth 100000
theorem wt_call : (Try.prog.info? 43).map (fun i => (i.zero, i.size, i.bytes)) = some (some (.agg #[.int .i64 0, .int .i64 0, .int .i64 0, .int .i64 0, .int .i64 0, .int .i64 0, .int .i64 0, .int .i64 0, .int .i64 0]), 9, 72) := by kernel_rfl
/-- The mark. -/
def mk77 : Cq := ⟨-77, 0, 0, 0, 0, 0, 0, 0, 0⟩
theorem cqs_one (l : List Cq) : ∀ u ∈ cqs l, u.oneCell' = true := by
  intro u hu
  obtain ⟨c, _, h⟩ := List.mem_flatMap.1 hu
  simp [Cq.row] at h
  rcases h with rfl | rfl | rfl | rfl | rfl | rfl | rfl | rfl | rfl <;> rfl
theorem cqs_app (a b : List Cq) : cqs (a ++ b) = cqs a ++ cqs b := by simp [cqs]
theorem cqs_sing (c : Cq) : cqs [c] = c.row := by simp [cqs]
/-- A row with one more behind it, cut. -/
theorem sl_cut {W : World} {T : Nat → Prop} {a : Option Addr} {cap : Nat} {cs : List Cq} {m : Cq} (h : Sl W T 9 (.slice a (cs.length + 1) cap) (cs.length + 1) (cqs (cs ++ [m]))) : Sl W T 9 (.slice a cs.length cap) cs.length (cqs cs) := by
  obtain ⟨b, o, cap', hv, hc, hT, hl, hr⟩ := h.there (by omega)
  cases hv
  refine ⟨cqs_length _, _, cap, rfl, by omega, .inr ⟨b, o, rfl, hT, hl, fun k u hu => ?_⟩⟩
  refine hr k u ?_
  rw [cqs_app, List.getElem?_append_left (List.getElem?_eq_some_iff.1 hu).1]; exact hu
theorem new9 {w w1 : World} {c : Cq} (h1 : w1 = w.alloc (cqO c)) : ∀ ad, some (⟨w.heap.size, 0, none⟩ : Addr) = some ad → ∀ j u, (c.row)[j]? = some u → w1.cell? (ad.add j) = some u := by
  rintro ad e j u hu
  cases e
  subst h1
  have hn := new_at w (cqO c) w.heap.size rfl
  rw [add1, Nat.zero_add]
  unfold cqO at hn ⊢
  rw [cell_blk hn]
  simpa [Cq.row] using hu
theorem sl_src {w : World} {T : Nat → Prop} {size n : Nat} {a : Option Addr} {cap : Nat} {xs : List Value} (h : Sl w T size (.slice a n cap) n xs) : (a = none → n = 0) ∧ ∀ w' : World, Below w.heap.size w w' → ∀ ad, a = some ad → ∀ j u, xs[j]? = some u → w'.cell? (ad.add j) = some u := by
  obtain ⟨h1, a', cap', hv, hc, h2⟩ := h
  cases hv
  rcases h2 with rfl | ⟨b, o, rfl, hT, hl, hr⟩
  · refine ⟨fun _ => rfl, fun w' hB ad e j u hu => ?_⟩
    have : xs = [] := List.eq_nil_of_length_eq_zero (by simpa using h1)
    subst this; simp at hu
  · refine ⟨(fun e => by cases e), fun w' hB ad e j u hu => ?_⟩
    cases e
    rw [add1, hB.cell (p := ⟨b, _, none⟩) hl]
    exact hr j u hu
set_option maxHeartbeats 8000000 in
theorem twin_any {W : World} {T : Nat → Prop} {v : Value} {cs : List Cq} (hv : Sl W T 9 v cs.length (cqs cs)) (hsm : cs.length * 72 ≤ 140737488351232) :
    Calls Try.prog 6 #[v] W fun e w' => ∃ a cap, e = .returned (.slice a cs.length cap) ∧ Own w' (fun k => W.heap.size ≤ k) 43 9 (.slice a (cs.length + 1) cap) (cs.length + 1) (cqs (cs ++ [mk77])) ∧ Below W.heap.size W w' := by
  obtain ⟨i0, hi0, hz0, hz1, hz2⟩ := parts_of wt_call
  obtain ⟨a, cap, rfl, hcap⟩ := hv.form
  obtain ⟨hs1, hs2⟩ := sl_src hv
  have hl1 := cqs_length cs
  have ho1 := cqs_one cs
  obtain ⟨n, hn⟩ : ∃ n, n = cs.length := ⟨_, rfl⟩
  have AP : ∀ x, cqs cs ++ cqs [x] = cqs (cs ++ [x]) := fun x => (cqs_app cs [x]).symm
  rw [← hn] at hsm hcap hs1 hl1 ⊢
  replace hn := Mr.hid hn
  replace hs1 := Mr.hid hs1
  replace hs2 := Mr.hid hs2
  replace hl1 := Mr.hid hl1
  replace ho1 := Mr.hid ho1
  replace AP := Mr.hid AP
  clear hv
  go_enter Try.func6, Try.ntmps6
  go_upto_region 2 with (at_builtin; refine wpList_append_mine _ rfl (.tmp 4) (.tmp 5) 22 rfl (fun k => W.heap.size ≤ k) 43 i0 _ 9 72 Try.underlying22 hi0 hz0 hz1 hz2 rfl _ 0 [] rfl (Own.zero _ _ _ _ _) a n cap (cqs cs) rfl hl1.out hs1.out (hs2.out _ ((Below.refl _ _).alloc (Nat.le_refl _) _)) ho1.out (by unfold maxLen; omega) (by omega) ?_; intro b1 cap1 w1 hown hfr; have hB1 : Below W.heap.size W w1 := ⟨hfr.os, hfr.tape, hfr.output, Nat.le_trans (by simp) hfr.size, fun k hk => (hfr.block k (by simp <;> omega) (by omega)).trans (Below.heap_alloc _ _ _ hk)⟩; replace hown := hown.mono (T := fun k => W.heap.size ≤ k) (fun k hk => by rcases hk with hk | hk; exact hk; subst hk; simp); rw [Nat.zero_add, List.nil_append] at hown; rw [Nat.zero_add]; clear hfr; replace hown := Mr.hid hown; replace hB1 := Mr.hid hB1)
  have AQ := AP.out mk77
  rw [cqs_sing] at AQ
  clear AP
  replace AQ := Mr.hid AQ
  go_wp2_with (at_builtin; (refine wpList_append_mine _ rfl (.tmp 7) (.tmp 9) 22 rfl (fun k => W.heap.size ≤ k) 43 i0 _ 9 72 Try.underlying22 hi0 hz0 hz1 hz2 rfl _ n (cqs cs) rfl (hown.out.below ((Below.refl _ _).alloc (Nat.le_refl _) _)) (some ⟨w1.heap.size, 0, none⟩) 1 1 mk77.row rfl rfl (fun e => by cases e) (new9 rfl) (by rw [← cqs_sing]; exact cqs_one _) (by unfold maxLen; omega) (by omega) ?_; intro b2 cap2 w2 hown2 hfr2; have hB2 : Below W.heap.size W w2 := ⟨hfr2.os.trans hB1.out.os, hfr2.tape.trans hB1.out.tape, hfr2.output.trans hB1.out.output, Nat.le_trans hB1.out.size (Nat.le_trans (by simp) hfr2.size), fun k hk => (hfr2.block k (by have := hB1.out.size; simp <;> omega) (by omega)).trans ((Below.heap_alloc _ _ _ (Nat.lt_of_lt_of_le hk hB1.out.size)).trans (hB1.out.block k hk))⟩; replace hown2 := hown2.mono (T := fun k => W.heap.size ≤ k) (fun k hk => by have := hB1.out.size; rcases hk with hk | hk; exact hk; subst hk; simp <;> omega); rw [AQ.out] at hown2; obtain ⟨_, _, e9, hc9, hm9⟩ := hown2.form; cases e9; have f1 : (0 : Int) ≤ (n : Int) := (by omega); have f2 : (n : Int) ≤ (cap2 : Int) := (by omega); clear hfr2 hown hB1; replace hown2 := Mr.hid hown2; replace hB2 := Mr.hid hB2))
  go_ret
  exact ⟨_, _, rfl, hown2.out, hB2.out⟩
/-- A twin that is as it was made. -/
theorem row_eq (c : Cq) : (Value.agg #[.int .i64 c.th, .int .i64 c.op, .int .i64 c.arg, .int .i64 c.data, .int .i64 c.beg, .int .i64 c.fin, .int .i64 c.pt, .int .i64 c.ak, .int .i64 c.av]) = c.val := rfl
set_option maxHeartbeats 8000000 in
theorem unspoilt_any {W : World} {T T' : Nat → Prop} {a : Option Addr} {cap : Nat} {v : Value} {cs : List Cq} (hl : Sl W T 9 (.slice a (cs.length + 1) cap) (cs.length + 1) (cqs (cs ++ [mk77]))) (hv : Sl W T' 9 v cs.length (cqs cs)) (hsm : cs.length * 72 ≤ 140737488351232) :
    Calls Try.prog 9 #[.slice a cs.length cap, v] W fun e w' => e = .returned (.bool true) ∧ Below W.heap.size W w' := by
  have hlc := sl_cut hl
  obtain ⟨av, capv, rfl, hcapv⟩ := hv.form
  obtain ⟨_, _, e9, hc9⟩ := hl.form
  cases e9
  have hlast : ∀ w, Below W.heap.size W w → ∃ b o, a = some ⟨b, o, none⟩ ∧ At9 w b (o + cs.length * 9) mk77 := fun w hB => by
    have h2 := hl.below hB
    rw [show cs.length + 1 = (cs ++ [mk77]).length from by simp] at h2
    exact call_at h2 (by simp)
  obtain ⟨n, hn⟩ : ∃ n, n = cs.length := ⟨_, rfl⟩
  rw [← hn] at hsm hcapv hc9 ⊢
  replace hn := Mr.hid hn
  replace hlc := Mr.hid hlc
  replace hv := Mr.hid hv
  replace hlast := Mr.hid hlast
  clear hl
  go_enter Try.func9, Try.ntmps9
  go_wp2
  go_loopg [5] n (fun k s5 wr => ∃ i : Nat, s5 = .int .i64 (i : Int) ∧ i + k = n ∧ Below W.heap.size W wr)
  case atStart => exact ⟨0, rfl, by omega, Below.refl _ _⟩
  case round =>
    obtain ⟨i, rfl, hi, hB⟩ := hrel
    by_cases hlt : i < n
    · clear hlast
      obtain ⟨c, hci⟩ := get_of_lt (cs := cs) (i := i) (by have := hn.out; omega)
      obtain ⟨b1, o1, rfl, A1⟩ := call_at (hlc.out.below hB) hci
      obtain ⟨b2, o2, rfl, A2⟩ := call_at (hv.out.below hB) hci
      obtain ⟨hbl, g0, g1, g2, g3, g4, g5, g6, g7, g8⟩ := A1
      obtain ⟨hbl2, k0, k1, k2, k3, k4, k5, k6, k7, k8⟩ := A2
      have hlI : (i : Int) < (n : Int) := by omega
      have hw1 : IntKind.i64.wrap ((i : Int) + 1) = (i : Int) + 1 := i64x _ (by omega) (by omega)
      replace hB := Mr.hid hB
      replace hci := Mr.hid hci
      go_upto_region 4 with (fail)
      go_quiet (fail)
      have hBq := Mr.hid (hB.out.trans (Bx.draws _ _ nq))
      clear g0 g1 g2 g3 g4 g5 g6 g7 g8 k0 k1 k2 k3 k4 k5 k6 k7 k8 hbl hbl2 hB
      generalize wr.drewN nq = w6 at *
      go_wp2
      go_roundg (gk - 1)
      case measure => omega
      case rel => exact ⟨i + 1, by simp, by omega, hBq.out⟩
    · obtain ⟨b1, o1, rfl, A1⟩ := hlast.out _ hB
      obtain ⟨hbl, g0, -, -, -, -, -, -, -, -⟩ := A1
      rw [← hn.out] at g0
      have dl : decide ((i : Int) < (n : Int)) = false := decide_eq_false (by omega)
      have hw1 : IntKind.i64.wrap ((n : Int) + 1) = (n : Int) + 1 := i64x _ (by omega) (by omega)
      have f1 : (0 : Int) ≤ (n : Int) + 1 := by omega
      have f2 : (n : Int) + 1 ≤ (cap : Int) := by omega
      have f3 : (n : Int) < (n : Int) + 1 := by omega
      have f4 : ((n : Int) + 1).toNat = n + 1 := by omega
      have e77 : mk77.th = -77 := rfl
      rw [e77] at g0
      replace hB := Mr.hid hB
      go_wp2
      go_ret
      exact ⟨rfl, hB.out⟩
end Go.Proofs.Ytfgnaffomglmdaa.Wt
