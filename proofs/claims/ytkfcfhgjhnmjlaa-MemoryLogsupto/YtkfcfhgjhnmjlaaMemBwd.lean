/-
  slices.Backward over accesses: the iterator.
-/
import Derived.Test.YtkfcfhgjhnmjlaaMemZero
namespace Go.Proofs.Ytkfcfhgjhnmjlaa.Me
open Go.RowKit Go.Shelf Mr
attribute [local go_sem] Oper.semAt_some
/-- The last k of l, the last one first, each with its number. -/
def bent (l : List Acc) (k : Nat) : List (Nat × Acc) := (List.range k).map (fun t => (l.length - 1 - t, l[l.length - 1 - t]?.getD noAcc))
theorem bent_succ (l : List Acc) (k : Nat) : bent l (k + 1) = bent l k ++ [(l.length - 1 - k, l[l.length - 1 - k]?.getD noAcc)] := by simp [bent, List.range_succ]
theorem bent_length (l : List Acc) (k : Nat) : (bent l k).length = k := by simp [bent]
/-- What a round keeps: the box, and the cells of the slice. -/
def Kb (Bs g off n : Nat) (W W' : World) : Prop := W'.cell? ⟨Bs, 0, none⟩ = W.cell? ⟨Bs, 0, none⟩ ∧ ∀ j, j < n * 7 → W'.cell? ⟨g, off + j, none⟩ = W.cell? ⟨g, off + j, none⟩
theorem Kb.refl (Bs g off n : Nat) (W : World) : Kb Bs g off n W W := ⟨rfl, fun _ _ => rfl⟩
theorem Kb.trans {Bs g off n : Nat} {A B C : World} (h : Kb Bs g off n A B) (k : Kb Bs g off n B C) : Kb Bs g off n A C := ⟨k.1.trans h.1, fun j hj => (k.2 j hj).trans (h.2 j hj)⟩
set_option maxRecDepth 100000 in
set_option maxHeartbeats 2000000 in
theorem bwd1_in (l n Bs g off cap : Nat) (ls : List Acc) (hn : 1 ≤ n) (hsm : ls.length ≤ 5026338869641) (J Jx : List (Nat × Acc) → World → Prop)
    (hY : ∀ pre x W, J pre W → pre.length < ls.length → YieldAt Fence.wide (n - 1) Try.prog l #[.int .i64 (x.1 : Int), Acc.val x.2] W fun e W' =>
      (e = .returned (.bool true) ∧ J (pre ++ [x]) W' ∧ Kb Bs g off ls.length W W') ∨ (e = .returned (.bool false) ∧ Jx (pre ++ [x]) W'))
    (W : World) (hbs : W.cell? ⟨Bs, 0, none⟩ = some (.slice (some ⟨g, off, none⟩) ls.length cap)) (hc : ∀ (j : Nat) (u : Value), (lgc ls)[j]? = some u → W.cell? ⟨g, off + j, none⟩ = some u) (h0 : J [] W) :
    CallsIn Fence.wide n Try.prog 26 #[.func (.yield l) #[] #[], .pointer (some ⟨Bs, 0, none⟩)] W fun e W' => (∃ v, e = .returned v) ∧
      ((∃ ys, ys = bent ls ls.length ∧ J ys W') ∨ (∃ pre, (∃ k, k ≤ ls.length ∧ pre = bent ls k) ∧ Jx pre W')) := by
  refine callsIn_of_wp Try.func26 rfl trivial ?_ rfl
  simp only [Try.ntmps26, List.size_toArray, List.length_cons, List.length_nil, Nat.reduceAdd, Nat.reduceSub, Array.replicate_succ, Array.replicate_zero, List.push_toArray, List.append_toArray, List.nil_append, List.cons_append]
  gi_wp2
  gi_loopw [3] (fun i wr => ∃ k : Nat, k ≤ ls.length ∧ i = .int .i64 ((ls.length : Int) - 1 - (k : Int)) ∧ J (bent ls k) wr ∧ Kb Bs g off ls.length W wr)
    (fun i _ => (intOf i + 1).toNat)
  case atStart => exact ⟨0, Nat.zero_le _, by simp, h0, Kb.refl _ _ _ _ _⟩
  case round =>
    obtain ⟨k, hk, rfl, hJs, hkp⟩ := hrel
    by_cases hlt : k < ls.length
    · obtain ⟨fn, tmps, assign, body, hy, hR⟩ := hY _ (ls.length - 1 - k, ls[ls.length - 1 - k]?.getD noAcc) wr hJs (by rw [bent_length]; omega)
      have hes := Mr.hid (bent_succ ls k)
      obtain ⟨i, hi⟩ : ∃ i, i = ls.length - 1 - k := ⟨_, rfl⟩
      have hiz : (ls.length : Int) - 1 - (k : Int) = (i : Int) := by omega
      have hil : i < ls.length := by omega
      rw [← hi] at hy
      have hbs' := hkp.1.trans hbs
      have cs : ∀ t u, t < 7 → (ls[i]?.getD noAcc).cells[t]? = some u → wr.cell? ⟨g, off + (i * 7 + t), none⟩ = some u := fun t u ht hu => by
        rw [hkp.2 _ (by omega)]
        exact hc _ _ ((lgc_get ls _ hil t ht).trans hu)
      rw [hiz]
      generalize hx : ls[i]?.getD noAcc = x at *
      replace hx := Mr.hid hx
      replace hi := Mr.hid hi
      replace hiz := Mr.hid hiz
      obtain ⟨x0, x1, x2, x3, x4, x5, x6⟩ := x
      have d0 := cs 0 _ (by decide) rfl
      have d1 := cs 1 _ (by decide) rfl
      have d2 := cs 2 _ (by decide) rfl
      have d3 := cs 3 _ (by decide) rfl
      have d4 := cs 4 _ (by decide) rfl
      have d5 := cs 5 _ (by decide) rfl
      have d6 := cs 6 _ (by decide) rfl
      clear cs
      simp only [Acc.val, Nat.add_zero, ← Nat.add_assoc] at hy d0 d1 d2 d3 d4 d5 d6
      gi_wp2
      refine hR.mono ?_
      rintro e W3 (⟨rfl, hJ3, hk3⟩ | ⟨rfl, hJx3⟩)
      · gi_wp2
        go_roundw
        case rel => exact ⟨k + 1, by omega, by have := hiz.out; congr 1; omega, by rw [hes.out]; exact hJ3, hkp.trans hk3⟩
        case measure => simp [intOf]
      · gi_wp2
        refine bodyPost_ret (results_none rfl _ _ _) rfl ?_
        exact ⟨⟨_, rfl⟩, .inr ⟨_, ⟨k + 1, by omega, hes.out.symm⟩, hJx3⟩⟩
    · obtain rfl : k = ls.length := by omega
      have hz : (ls.length : Int) - 1 - (ls.length : Int) = -1 := by omega
      rw [hz]
      gi_wp2
      go_end0
      exact ⟨⟨_, rfl⟩, .inl ⟨_, rfl, hJs⟩⟩
theorem bwd_stops (n Bs g off cap : Nat) (ls : List Acc) (hn : 1 ≤ n) (hsm : ls.length ≤ 5026338869641) (w : World) (hbs : w.cell? ⟨Bs, 0, none⟩ = some (.slice (some ⟨g, off, none⟩) ls.length cap)) (hc : ∀ (j : Nat) (u : Value), (lgc ls)[j]? = some u → w.cell? ⟨g, off + j, none⟩ = some u) :
    SeqStopsK Fence.wide n Try.prog 26 #[.pointer (some ⟨Bs, 0, none⟩)] (fun x : Nat × Acc => #[Value.int .i64 (x.1 : Int), Acc.val x.2]) (Kb Bs g off ls.length)
      (fun ys => ys = bent ls ls.length) (fun pre => ∃ k, k ≤ ls.length ∧ pre = bent ls k) ls.length w :=
  fun l J Jx W hW _ _ hY h0 => bwd1_in l n Bs g off cap ls hn hsm J Jx hY W ((hW.cell (p := ⟨Bs, 0, none⟩) (World.block_lt_of_cell? w _ hbs)).trans hbs) (fun j u hu => (hW.cell (p := ⟨g, off + j, none⟩) (World.block_lt_of_cell? w _ (hc j u hu))).trans (hc j u hu)) h0
end Go.Proofs.Ytkfcfhgjhnmjlaa.Me
