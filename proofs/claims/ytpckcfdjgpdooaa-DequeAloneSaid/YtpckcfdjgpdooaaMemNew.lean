/-
  slices.Clone at uint64; Words; New.
-/
import Derived.Test.YtpckcfdjgpdooaaMemRep
import Derived.WalkSpells

namespace Go.Proofs.Ytpckcfdjgpdooaa.Me
open Go.RowKit Mr
theorem info_u64 : (Try.prog.info? 56).map (fun i => (i.zero, i.size, i.bytes)) = some (some (.int .u64 0), 1, 8) := by kernel_rfl
theorem info_acc : (Try.prog.info? 59).map (fun i => (i.zero, i.size, i.bytes)) = some (some (.agg #[.int .i64 0, .int .i64 0, .int .i64 0, .int .i64 0, .int .u64 0, .int .u64 0, .int .u64 0]), 7, 56) := by kernel_rfl
theorem info_int : (Try.prog.info? 3).map (fun i => (i.zero, i.size, i.bytes)) = some (some (.int .i64 0), 1, 8) := by kernel_rfl

/-- The slice value .slice a n cap reads as the words ws. -/
def Src (W : World) (a : Option Addr) (n cap : Nat) (ws : List Int) : Prop :=
  n = ws.length ∧ ((a = none ∧ n = 0 ∧ cap = 0) ∨ ∃ ad : Addr, a = some ad ∧ ∀ j u, (wrd ws)[j]? = some u → W.cell? (ad.add j) = some u)
theorem Src.of_has {W : World} {S : Nat → Prop} {v : Value} {ws : List Int} (h : Has W S 56 1 v ws.length (wrd ws)) : ∃ a cap, v = .slice a ws.length cap ∧ Src W a ws.length cap ws := by
  rcases h.2 with ⟨rfl, h0⟩ | ⟨g, cap, cur, rfl, _, _, _⟩
  · rw [h0]
    exact ⟨none, 0, rfl, h0.symm, .inl ⟨rfl, rfl, rfl⟩⟩
  · refine ⟨_, cap, rfl, rfl, .inr ⟨_, rfl, fun j u hu => ?_⟩⟩
    have hadd : (⟨g, 0, none⟩ : Addr).add j = ⟨g, j, none⟩ := by unfold Addr.add; split <;> simp_all
    rw [hadd]; exact h.cells (g := g) rfl j u hu
theorem Src.below {W W' : World} {a : Option Addr} {n cap : Nat} {ws : List Int} (h : Src W a n cap ws) (hb : Below W.heap.size W W') : Src W' a n cap ws := by
  refine ⟨h.1, ?_⟩
  rcases h.2 with h | ⟨ad, rfl, hc⟩
  · exact .inl h
  · refine .inr ⟨ad, rfl, fun j u hu => ?_⟩
    rw [hb.cell (p := ad.add j) (World.block_lt_of_cell? W _ (hc j u hu))]
    exact hc j u hu

set_option maxRecDepth 100000 in
set_option maxHeartbeats 1000000 in
theorem clone_any (a : Option Addr) (n cap : Nat) (ws : List Int) (w : World) (h : Src w a n cap ws) (hn : n ≤ 8192) :
    Calls Try.prog 48 #[.slice a n cap] w fun e w' => ∃ v, e = .returned v ∧ Has w' (fun k => w.heap.size ≤ k) 56 1 v ws.length (wrd ws) ∧ Below w.heap.size w w' := by
  obtain ⟨i0, hi, hz0, hz1, hz2⟩ := info_parts info_u64
  have en := fun (w : World) => Lib.run_eql_slice_nil (P := Try.prog) w 41 56 a n cap 0 0 Try.underlying41
  obtain ⟨hl, h⟩ := h
  rcases h with ⟨rfl, rfl, rfl⟩ | ⟨ad, rfl, hc⟩
  · replace hl := Mr.hid hl
    go_enter Try.func48, Try.ntmps48
    go_wp2
    go_ret
    have hl := hl.out
    have hw : ws = [] := List.eq_nil_of_length_eq_zero hl.symm
    subst hw
    exact ⟨_, rfl, Has.nil _ _ _ _, Below.refl _ _⟩
  · replace hl := Mr.hid hl
    replace hc := Mr.hid hc
    go_enter Try.func48, Try.ntmps48
    go_wp2_with (at_builtin; refine wpList_append_own _ rfl (.tmp 5) (.tmp 6) 41 rfl w.heap.size 56 i0 (.int .u64 0) 1 8 Try.underlying41 hi hz0 hz1 hz2 rfl (by decide) (.slice (some ⟨w.heap.size, 0, none⟩) 0 0) 0 [] rfl (World.ownsRow_made w #[] 0 (Nat.le_refl _) (by decide) (by simp)) ad n cap (wrd ws) rfl (by rw [wrd_length, hl.out]; simp) (fun j u hu => (((Below.refl w.heap.size w).alloc (Nat.le_refl _) _).cell (p := ad.add j) (World.block_lt_of_cell? w _ (hc.out j u hu))).trans (hc.out j u hu)) (wrd_one ws) (by unfold maxLen; omega) (by omega) (by simp) ?_; intro v' w1 hown hgrow hnil)
    go_ret
    have hl := hl.out
    subst hl
    rw [Nat.zero_add, List.nil_append] at hown
    exact ⟨_, rfl, Has.owns hown (fun _ h => h), ((Below.refl _ _).alloc (Nat.le_refl _) _).grown hgrow (by simp) (fun k hk => by simp [Value.ownBlock] at hk; omega)⟩
section
variable {W : World} {S : Nat → Prop} {b : Nat} {vw vl va : Value} {ws : List Int} {mv : Int} {lg : List Acc} {ah : List Int}
theorem words_any (h : Mem W S b vw vl va ws mv lg ah) :
    Calls Try.prog 47 #[.pointer (some ⟨b, 0, none⟩)] W fun e w' => ∃ v, e = .returned v ∧ Has w' (fun k => W.heap.size ≤ k) 56 1 v ws.length (wrd ws) ∧ Below W.heap.size W w' := by
  obtain ⟨a, cap, rfl, hs⟩ := Src.of_has h.hw
  have h0 := h.c0
  have C := clone_any _ _ _ _ _ hs h.len
  clear h hs
  generalize ws.length = n at *
  go_enter Try.func47, Try.ntmps47
  go_wp2_with (go_at_call 48; refine C.mono ?_; rintro e w' ⟨v, rfl, hv, hB⟩; obtain ⟨a', cap', rfl, _⟩ := hv.form)
  go_ret
  exact ⟨_, rfl, hv, hB⟩
theorem words_nil (w : World) :
    Calls Try.prog 47 #[.pointer none] w fun e w' => e = .returned (.slice none 0 0) ∧ w' = w := by
  go_enter Try.func47, Try.ntmps47
  go_wp2
  go_ret
  exact ⟨rfl, rfl⟩
end
theorem new_long (a : Option Addr) (n cap : Nat) (w : World) (hn : 8192 < n) :
    Calls Try.prog 31 #[.slice a n cap] w fun e w' => e = .returned (.tuple #[.pointer none, .int .i64 3]) ∧ w' = w := by
  have h1 : 8192 < (n : Int) := by omega
  go_enter Try.func31, Try.ntmps31
  go_wp2
  go_ret2
  exact ⟨rfl, rfl⟩
theorem new_any (a : Option Addr) (n cap : Nat) (ws : List Int) (w : World) (h : Src w a n cap ws) (hn : n ≤ 8192) :
    Calls Try.prog 31 #[.slice a n cap] w fun e w' => ∃ b vw, e = .returned (.tuple #[.pointer (some ⟨b, 0, none⟩), .int .i64 0]) ∧ Mem w' (fun k => w.heap.size ≤ k) b vw (.slice none 0 0) (.slice none 0 0) ws 0 [] [] ∧ Below w.heap.size w w' := by
  have C := clone_any _ _ _ _ _ h hn
  have h1 : (n : Int) ≤ 8192 := by omega
  replace hl := Mr.hid h.1
  clear h
  go_enter Try.func31, Try.ntmps31
  go_wp2_with (go_at_call 48; refine C.mono ?_; rintro e w1 ⟨v, rfl, hv, hB⟩; obtain ⟨a', cap', rfl, _⟩ := hv.form)
  go_ret2
  have hl := hl.out
  have hs := hB.size
  refine ⟨_, _, rfl, ⟨heap_alloc_new _ _, hs, hv.alloc _, Has.nil _ _ _ _, Has.nil _ _ _ _, fun _ _ => by simp [Value.ownBlock], by omega⟩, hB.alloc hs _⟩
end Go.Proofs.Ytpckcfdjgpdooaa.Me
