/-
  THE LAW MemoryNil.
-/
import Derived.Test.YthbhkkfjfcfhnaaMemZero
namespace Go.Proofs.Ythbhkkfjfcfhnaa.Me
open Go.RowKit Mr
set_option linter.unusedVariables false
/-- The pointer is nil, or it leads to a zero memory. -/
def Noth (W : World) (n₀ : Nat) (p : Option Addr) : Prop := p = none ∨ ∃ b mv, p = some ⟨b, 0, none⟩ ∧ n₀ ≤ b ∧ Zero W b mv
/-- What each call does to such a one, told together: a world that follows, in which it is still such. -/
theorem noth_now {W : World} {n₀ : Nat} {p : Option Addr} (h : Noth W n₀ p) (hn : n₀ ≤ W.heap.size) (x : Int) :
    Calls Try.prog 14 #[.pointer p, .int .i64 x] W fun e w' => e = .returned (.tuple #[]) ∧ Noth w' n₀ p ∧ Below n₀ W w' := by
  rcases h with rfl | ⟨b, mv, rfl, hb, hz⟩
  · exact (now_nil x W).mono fun e w' ⟨h1, h2⟩ => ⟨h1, .inl rfl, by rw [h2]; exact Below.refl _ _⟩
  · exact (now_any hz.mem x).mono fun e w' ⟨h1, h2, h3⟩ => ⟨h1, .inr ⟨b, x, rfl, hb, h2.blk⟩, h3.below (fun k hk => by omega) hn⟩
theorem Zero.below {W W' : World} {b : Nat} {mv : Int} (h : Zero W b mv) (hB : Below W.heap.size W W') : Zero W' b mv := (hB.block b h.mem.lt).trans h
theorem Noth.below {W W' : World} {n₀ : Nat} {p : Option Addr} (h : Noth W n₀ p) (hB : Below W.heap.size W W') : Noth W' n₀ p := by
  rcases h with rfl | ⟨b, mv, rfl, hb, hz⟩
  · exact .inl rfl
  · exact .inr ⟨b, mv, rfl, hb, hz.below hB⟩
theorem noth_out (ad : Int) : ad < 0 ∨ ((([] : List Int).length : Nat) : Int) ≤ ad := by simp; omega
theorem noth_load {W : World} {n₀ : Nat} {p : Option Addr} (h : Noth W n₀ p) (th ad : Int) :
    Calls Try.prog 12 #[.pointer p, .int .i64 th, .int .i64 ad] W fun e w' => e = .returned (.tuple #[.int .u64 0, .int .i64 20]) ∧ w' = W := by
  rcases h with rfl | ⟨b, mv, rfl, hb, hz⟩
  · exact load_nil th ad W
  · exact load_no hz.mem th ad (noth_out ad)
theorem noth_store {W : World} {n₀ : Nat} {p : Option Addr} (h : Noth W n₀ p) (th ad x : Int) :
    Calls Try.prog 17 #[.pointer p, .int .i64 th, .int .i64 ad, .int .u64 x] W fun e w' => e = .returned (.int .i64 20) ∧ w' = W := by
  rcases h with rfl | ⟨b, mv, rfl, hb, hz⟩
  · exact store_nil th ad x W
  · exact store_no hz.mem th ad x (noth_out ad)
theorem noth_swap {W : World} {n₀ : Nat} {p : Option Addr} (h : Noth W n₀ p) (th ad old x : Int) :
    Calls Try.prog 15 #[.pointer p, .int .i64 th, .int .i64 ad, .int .u64 old, .int .u64 x] W fun e w' => e = .returned (.tuple #[.int .u64 0, .bool false, .int .i64 20]) ∧ w' = W := by
  rcases h with rfl | ⟨b, mv, rfl, hb, hz⟩
  · exact swap_nil th ad old x W
  · exact swap_no hz.mem th ad old x (noth_out ad)
theorem noth_writer {W : World} {n₀ : Nat} {p : Option Addr} (h : Noth W n₀ p) (ad : Int) :
    Calls Try.prog 16 #[.pointer p, .int .i64 ad] W fun e w' => e = .returned (.tuple #[.int .i64 0, .int .i64 0, .int .i64 20]) ∧ Below W.heap.size W w' := by
  rcases h with rfl | ⟨b, mv, rfl, hb, hz⟩
  · exact writer_nil ad W
  · exact writer_no hz.mem ad (noth_out ad)
theorem noth_logged {W : World} {n₀ : Nat} {p : Option Addr} (h : Noth W n₀ p) (fr : Int) :
    Calls Try.prog 18 #[.pointer p, .int .i64 fr, .int .i64 1] W fun e w' => (∃ an cn aq cq, e = .returned (.tuple #[.slice an 0 cn, .slice aq 0 cq, .bool true])) ∧ Below W.heap.size W w' := by
  rcases h with rfl | ⟨b, mv, rfl, hb, hz⟩
  · exact (logged_nil W fr 1).mono fun e w' ⟨h1, h2⟩ => ⟨⟨_, _, _, _, h1⟩, h2⟩
  · refine (logged_any hz.mem (by simp) fr 1).mono ?_
    rintro e w' ⟨vn, vq, k, hk, rfl, hn, hq, hB⟩
    have : k = 0 := by rw [hk]; simp
    subst this
    obtain ⟨an, cn, rfl, _⟩ := hn.form
    obtain ⟨aq, cq, rfl, _⟩ := hq.form
    exact ⟨⟨_, _, _, _, rfl⟩, hB⟩
theorem noth_size {W : World} {n₀ : Nat} {p : Option Addr} (h : Noth W n₀ p) :
    Calls Try.prog 11 #[.pointer p] W fun e w' => e = .returned (.int .i64 0) ∧ w' = W := by
  rcases h with rfl | ⟨b, mv, rfl, hb, hz⟩
  · exact size_nil W
  · exact size_any hz.mem
theorem noth_count {W : World} {n₀ : Nat} {p : Option Addr} (h : Noth W n₀ p) :
    Calls Try.prog 13 #[.pointer p] W fun e w' => e = .returned (.int .i64 0) ∧ w' = W := by
  rcases h with rfl | ⟨b, mv, rfl, hb, hz⟩
  · exact count_nil W
  · exact count_any hz.mem
theorem noth_words {W : World} {n₀ : Nat} {p : Option Addr} (h : Noth W n₀ p) :
    Calls Try.prog 19 #[.pointer p] W fun e w' => (∃ a c, e = .returned (.slice a 0 c)) ∧ Below W.heap.size W w' := by
  rcases h with rfl | ⟨b, mv, rfl, hb, hz⟩
  · exact (words_nil W).mono fun e w' ⟨h1, h2⟩ => ⟨⟨_, _, h1⟩, by rw [h2]; exact Below.refl _ _⟩
  · refine (words_any hz.mem).mono ?_
    rintro e w' ⟨v, rfl, hv, hB⟩
    obtain ⟨a, c, rfl, _⟩ := hv.form
    exact ⟨⟨_, _, rfl⟩, hB⟩
theorem noth_back {W : World} {n₀ : Nat} {p : Option Addr} (h : Noth W n₀ p) (hn : n₀ ≤ W.heap.size) (c : Int) :
    Calls Try.prog 20 #[.pointer p, .int .i64 c] W fun e w' => e = .returned (.int .i64 (if c = 0 then 0 else 21)) ∧ Noth w' n₀ p ∧ Below n₀ W w' := by
  rcases h with rfl | ⟨b, mv, rfl, hb, hz⟩
  · exact (back_nil c W).mono fun e w' ⟨h1, h2⟩ => ⟨h1, .inl rfl, h2.mono hn⟩
  · by_cases hc : c = 0
    · subst hc
      exact (back_zero hz).mono fun e w' ⟨h1, h2, h3⟩ => ⟨h1, .inr ⟨b, mv, rfl, hb, h2⟩, h3.below (fun k hk => by omega) hn⟩
    · rw [if_neg hc]
      exact (back_out hz c hc).mono fun e w' ⟨h1, h2⟩ => ⟨h1, .inr ⟨b, mv, rfl, hb, hz.below h2⟩, h2.mono hn⟩
set_option maxHeartbeats 4000000 in
set_option maxRecDepth 100000 in
theorem law_nil (th ad x n : Int) (w : World) (_ : (Lit.int .i64 th).wf = true) (_ : (Lit.int .i64 ad).wf = true) (_ : (Lit.int .u64 x).wf = true) (_ : (Lit.int .i64 n).wf = true) :
    Calls Try.prog 4 #[.int .i64 th, .int .i64 ad, .int .u64 x, .int .i64 n] w fun e w' => e = .returned (.bool true) ∧ Below w.heap.size w w' := by
  obtain ⟨v, hif, hnb⟩ : ∃ v : Int, (if n = 0 then (0 : Int) else 21) = v ∧ ((v = 0 ∧ (n != 0) = false) ∨ (v = 21 ∧ (n != 0) = true)) := by
    by_cases h : n = 0
    · exact ⟨0, by simp [h], .inl ⟨rfl, by simp [h]⟩⟩
    · exact ⟨21, by simp [h], .inr ⟨rfl, by simpa using h⟩⟩
  rcases hnb with ⟨rfl, hnb⟩ | ⟨rfl, hnb⟩
  all_goals (
    go_enter Try.func4, Try.ntmps4
    go_wp2
    go_loopg [11] 2 (fun k s wr => ∃ i : Nat, s = .int .i64 (i : Int) ∧ i + k = 2 ∧ (i < 2 → Zero wr w.heap.size 0 ∧ wr.cell? ⟨w.heap.size + 1, 0, none⟩ = some (.pointer none) ∧ wr.cell? ⟨w.heap.size + 1, 1, none⟩ = some (.pointer (some ⟨w.heap.size, 0, none⟩)) ∧ w.heap.size + 1 < wr.heap.size) ∧ Below w.heap.size w wr)
    case atStart =>
      refine ⟨0, rfl, rfl, fun _ => ⟨?_, by simp, by simp, by simp⟩, ((Below.refl _ _).alloc (Nat.le_refl _) _).alloc (by simp) _⟩
      exact (Below.heap_alloc _ _ _ (by simp)).trans (heap_alloc_new _ _)
    case round =>
      obtain ⟨i, rfl, hi, hz, B⟩ := hrel
      by_cases h2 : i < 2
      · obtain ⟨z, k0, k1, hsz⟩ := hz h2
        have hd : decide ((i : Int) < 2) = true := by simp; omega
        by_cases h0 : i = 0
        · subst h0
          have hN : Noth wr wr.heap.size none := .inl rfl
          have hn := Nat.le_refl wr.heap.size
          clear hz
          go_wp2_with (first | (go_at_call 14; refine (noth_now hN hn _).mono ?_; rintro e w1 ⟨rfl, N1, B1⟩; have L1 := noth_load N1 th ad; have S1 := noth_swap N1 th ad x x; have V1 := noth_writer N1 ad) | (go_at_call 12; refine L1.mono ?_; clear L1; rintro e w2 ⟨rfl, hw2⟩; obtain rfl := hw2.symm) | (go_at_call 15; refine S1.mono ?_; clear S1; rintro e w2 ⟨rfl, hw2⟩; obtain rfl := hw2.symm) | (go_at_call 16; refine V1.mono ?_; clear V1; rintro e w3 ⟨rfl, B3⟩; have N3 := N1.below B3; have T3 := noth_store N3 th ad x; have G3 := noth_logged N3 n) | (go_at_call 10; refine (num_any _ _).mono ?_; rintro e w4 ⟨rfl, hw4⟩; obtain rfl := hw4.symm) | (go_at_call 17; refine T3.mono ?_; clear T3; rintro e w4 ⟨rfl, hw4⟩; obtain rfl := hw4.symm) | (go_at_call 18; refine G3.mono ?_; clear G3; rintro e w5 ⟨⟨an, cn, aq, cq, rfl⟩, B5⟩; have N5 := N3.below B5; have Z5 := noth_size N5; have C5 := noth_count N5; have X5 := noth_words N5) | (go_at_call 11; refine Z5.mono ?_; clear Z5; rintro e w6 ⟨rfl, hw6⟩; obtain rfl := hw6.symm) | (go_at_call 13; refine C5.mono ?_; clear C5; rintro e w6 ⟨rfl, hw6⟩; obtain rfl := hw6.symm) | (go_at_call 19; refine X5.mono ?_; clear X5; rintro e w7 ⟨⟨ax, cx, rfl⟩, B7⟩; have N7 := N5.below B7; have s1 := B1.size; have s3 := B3.size; have s5 := B5.size; have s7 := B7.size; have K7 := noth_back N7 (Nat.le_trans hn (Nat.le_trans s1 (Nat.le_trans s3 (Nat.le_trans s5 s7)))) n; rw [hif] at K7) | (go_at_call 20; refine K7.mono ?_; clear K7; rintro e w8 ⟨rfl, N8, B8⟩))
          go_roundg (gk - 1)
          case measure => omega
          case rel =>
            have s8 := B8.size
            have BB : Below wr.heap.size wr w8 := (((B1.trans (B3.mono (by omega))).trans (B5.mono (by omega))).trans (B7.mono (by omega))).trans B8
            exact ⟨1, rfl, by omega, fun _ => ⟨z.below BB, (BB.cell (p := ⟨w.heap.size + 1, 0, none⟩) hsz).trans k0, (BB.cell (p := ⟨w.heap.size + 1, 1, none⟩) hsz).trans k1, by omega⟩, B.trans (BB.mono B.size)⟩
        · obtain rfl : i = 1 := by omega
          have hN : Noth wr w.heap.size (some ⟨w.heap.size, 0, none⟩) := .inr ⟨_, 0, rfl, Nat.le_refl _, z⟩
          have hn := B.size
          clear hz h0
          go_wp2_with (first | (go_at_call 14; refine (noth_now hN hn _).mono ?_; rintro e w1 ⟨rfl, N1, B1⟩; have L1 := noth_load N1 th ad; have S1 := noth_swap N1 th ad x x; have V1 := noth_writer N1 ad) | (go_at_call 12; refine L1.mono ?_; clear L1; rintro e w2 ⟨rfl, hw2⟩; obtain rfl := hw2.symm) | (go_at_call 15; refine S1.mono ?_; clear S1; rintro e w2 ⟨rfl, hw2⟩; obtain rfl := hw2.symm) | (go_at_call 16; refine V1.mono ?_; clear V1; rintro e w3 ⟨rfl, B3⟩; have N3 := N1.below B3; have T3 := noth_store N3 th ad x; have G3 := noth_logged N3 n) | (go_at_call 10; refine (num_any _ _).mono ?_; rintro e w4 ⟨rfl, hw4⟩; obtain rfl := hw4.symm) | (go_at_call 17; refine T3.mono ?_; clear T3; rintro e w4 ⟨rfl, hw4⟩; obtain rfl := hw4.symm) | (go_at_call 18; refine G3.mono ?_; clear G3; rintro e w5 ⟨⟨an, cn, aq, cq, rfl⟩, B5⟩; have N5 := N3.below B5; have Z5 := noth_size N5; have C5 := noth_count N5; have X5 := noth_words N5) | (go_at_call 11; refine Z5.mono ?_; clear Z5; rintro e w6 ⟨rfl, hw6⟩; obtain rfl := hw6.symm) | (go_at_call 13; refine C5.mono ?_; clear C5; rintro e w6 ⟨rfl, hw6⟩; obtain rfl := hw6.symm) | (go_at_call 19; refine X5.mono ?_; clear X5; rintro e w7 ⟨⟨ax, cx, rfl⟩, B7⟩; have N7 := N5.below B7; have s1 := B1.size; have s3 := B3.size; have s5 := B5.size; have s7 := B7.size; have K7 := noth_back N7 (Nat.le_trans hn (Nat.le_trans s1 (Nat.le_trans s3 (Nat.le_trans s5 s7)))) n; rw [hif] at K7) | (go_at_call 20; refine K7.mono ?_; clear K7; rintro e w8 ⟨rfl, N8, B8⟩))
          go_roundg (gk - 1)
          case measure => omega
          case rel =>
            have s0 := B.size
            exact ⟨2, rfl, by omega, fun h => by omega, B.trans ((((B1.trans (B3.mono (by omega))).trans (B5.mono (by omega))).trans (B7.mono (by omega))).trans B8)⟩
      · have hd : decide ((i : Int) < 2) = false := by simp; omega
        clear hz
        go_wp2_with (go_at_call 21; refine (awake_any _).mono ?_; rintro e w1 ⟨rfl, hB1⟩)
        go_ret
        exact ⟨rfl, B.trans (hB1.mono B.size)⟩)
end Go.Proofs.Ythbhkkfjfcfhnaa.Me
