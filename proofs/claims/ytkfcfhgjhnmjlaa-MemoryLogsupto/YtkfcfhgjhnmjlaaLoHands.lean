/-
  Log's iterator, the body asked at the entry that comes next: it hands out the log as it was where the ranging began.
-/
import Derived.Test.YtkfcfhgjhnmjlaaMemRange
namespace Go.Proofs.Ytkfcfhgjhnmjlaa.Me
open Go.RowKit Go.Shelf Mr
attribute [local go_sem] Oper.semAt_some
theorem ent_get (lg : List Acc) (f k t : Nat) (h : t < k) : (ent lg f k)[t]? = some (f + t, lg[f + t]?.getD noAcc) := by simp [ent, h]
set_option maxRecDepth 100000 in
set_option maxHeartbeats 2000000 in
theorem log_hands (n Bm Bf b : Nat) (fr : Int) (vl : Value) (lg : List Acc) (hn : 1 ≤ n) (sm : (lg.length : Int) ≤ 281474976710656) (I : Nat → World → Prop)
    (hI0 : ∀ W, I 0 W → W.cell? ⟨Bm, 0, none⟩ = some (.pointer (some ⟨b, 0, none⟩)) ∧ W.cell? ⟨Bf, 0, none⟩ = some (.int .i64 fr) ∧ W.cell? ⟨b, 2, none⟩ = some vl)
    (hI : ∀ k W, I k W → Has W (fun _ => True) 41 7 vl lg.length (lgc lg)) :
    Hands n Try.prog 18 #[.pointer (some ⟨Bm, 0, none⟩), .pointer (some ⟨Bf, 0, none⟩)] (fun x : Nat × Acc => #[Value.int .i64 (x.1 : Int), Acc.val x.2]) (ent lg fr.toNat (lg.length - fr.toNat)) I := by
  intro l J W hJI h0 hY
  obtain ⟨bm, bf, c2⟩ := hI0 W (hJI 0 W h0)
  have hl0 := hI 0 W (hJI 0 W h0)
  obtain ⟨a, cap, hv, hle⟩ := hl0.form
  subst hv
  refine callsIn_of_wp Try.func18 rfl trivial ?_ rfl
  simp only [Try.ntmps18, List.size_toArray, List.length_cons, List.length_nil, Nat.reduceAdd, Nat.reduceSub, Array.replicate_succ, Array.replicate_zero, List.push_toArray, List.append_toArray, List.nil_append, List.cons_append]
  gi_wp2
  all_goals (
    gi_loopw [5] (fun i wr => ∃ k : Nat, k ≤ lg.length - fr.toNat ∧ i = .int .i64 ((fr.toNat + k : Nat) : Int) ∧ J k wr)
      (fun i _ => lg.length - (intOf i).toNat)
    case atStart => exact ⟨0, Nat.zero_le _, by congr 1; omega, h0⟩
    case round =>
      obtain ⟨k, hk, rfl, hJs⟩ := hrel
      by_cases hlt : fr.toNat + k < lg.length
      · have hl := hI k wr (hJI k wr hJs)
        obtain ⟨fn, tmps, assign, body, hy, hR⟩ := hY k _ wr (ent_get lg fr.toNat (lg.length - fr.toNat) k (by omega)) hJs
        obtain ⟨g, cap', hvv, _, _⟩ := hl.there (by omega)
        cases hvv
        have cs : ∀ t u, t < 7 → (lg[fr.toNat + k]?.getD noAcc).cells[t]? = some u → wr.cell? ⟨g, (fr.toNat + k) * 7 + t, none⟩ = some u := fun t u ht hu => hl.cells (g := g) rfl _ _ ((lgc_get lg _ hlt t ht).trans hu)
        clear hl
        generalize hx : lg[fr.toNat + k]?.getD noAcc = x at *
        have hx := Mr.hid hx
        generalize hi : fr.toNat + k = i at *
        have hi := Mr.hid hi
        obtain ⟨x0, x1, x2, x3, x4, x5, x6⟩ := x
        have d0 := cs 0 _ (by decide) rfl
        have d1 := cs 1 _ (by decide) rfl
        have d2 := cs 2 _ (by decide) rfl
        have d3 := cs 3 _ (by decide) rfl
        have d4 := cs 4 _ (by decide) rfl
        have d5 := cs 5 _ (by decide) rfl
        have d6 := cs 6 _ (by decide) rfl
        clear cs
        simp only [Acc.val, Nat.add_zero] at hy d0
        gi_wp2
        refine hR.mono ?_
        rintro e W3 ⟨rfl, hJ3⟩
        gi_wp2
        go_roundw
        case rel => exact ⟨k + 1, by have := hi.out; omega, by have := hi.out; congr 1; omega, hJ3⟩
        case measure => simp [intOf]; omega
      · have hlt' : lg.length ≤ fr.toNat + k := by omega
        gi_wp2
        go_end0
        exact ⟨⟨_, rfl⟩, by rw [ent_length, show lg.length - fr.toNat = k from by omega]; exact hJs⟩)
end Go.Proofs.Ytkfcfhgjhnmjlaa.Me
