/-
  A MACHINE OF ANY TASKS: machine.New, Machine.Run, Machine.Busy by their contracts.
-/
import Derived.Test.YtpckcfdjgpdooaaGmM
import Derived.Test.YtpckcfdjgpdooaaMacRepeat
import Derived.Test.YtpckcfdjgpdooaaMemNew
import Derived.Test.YtpckcfdjgpdooaaMacRun2
namespace Go.Proofs.Ytpckcfdjgpdooaa.Gm
open Go.RowKit Go.Shelf Mr Me Ma
set_option linter.unusedVariables false
section
variable {τ γ : Type} {Y : Sys τ γ} {L : Lay τ γ} {Inv : Pg τ γ → Prop}
def Pg.new (nth : Nat) (ws : List Int) (g : γ) : Pg τ γ := ⟨List.replicate nth ⟨none, false, -1, 0, 0⟩, g, 0, [], ws, []⟩
theorem thsG_none (nth : Nat) : thsG (List.replicate nth (⟨none, false, -1, 0, 0⟩ : Pt τ)) (fun _ => .nilIface) = List.replicate nth idleT := by
  apply List.ext_getElem?
  intro j
  rw [thsG_get]
  simp only [List.getElem?_replicate]
  split <;> rfl
theorem tkF_none (nth : Nat) : tkF (List.replicate nth (⟨none, false, -1, 0, 0⟩ : Pt τ)) = fun _ => none := by
  funext i
  unfold tkF
  rw [List.getElem?_replicate]
  split <;> rfl
theorem bd_new (nth : Nat) (ws : List Int) (g : γ) : Bd (Pg.new (τ := τ) nth ws g) := by
  refine ⟨Nat.zero_le _, Nat.le_refl _, Nat.le_refl _, fun i t ht hs => ?_⟩
  have ht' : (List.replicate nth (⟨none, false, -1, 0, 0⟩ : Pt τ))[i]? = some t := ht
  rw [List.getElem?_replicate] at ht'
  split at ht'
  · cases ht'; cases hs
  · cases ht'
set_option maxRecDepth 100000 in
set_option maxHeartbeats 1000000 in
theorem newM_g (w : World) (nth : Nat) (h1 : 1 ≤ nth) (h2 : nth ≤ 16) (a : Option Addr) (n cap : Nat) (ws : List Int) (hs : Src w a n cap ws) (hn : n ≤ 8192) {T K : Nat → Prop} {km : Nat} (hK : L.ka w K km) (hKl : ∀ k, K k → k < w.heap.size) (hTl : ∀ k, T k → k < w.heap.size) (hKT : ∀ k, K k → ¬ T k)
    (g : γ) (X : Nat → Obj → Prop) (hX : ∀ k o, X k o → w.heap[k]? = some o ∧ T k) (ha : L.at_ (fun _ => none) g (fun _ => .nilIface) X) :
    Calls Try.prog 20 #[.int .i64 (nth : Int), .slice a n cap, .map (some km)] w fun e w' => ∃ q U, e = .returned (.tuple #[.pointer (some ⟨q.b, 0, none⟩), .int .i64 0]) ∧ RG L w' U K q km (Pg.new nth ws g) ∧ (∀ k, U k → T k ∨ w.heap.size ≤ k) ∧ Below w.heap.size w w' := by
  have N := new_any _ _ _ _ _ hs hn
  have d1 : decide ((nth : Int) < 1) = false := by simp; omega
  have d2 : decide (16 < (nth : Int)) = false := by simp; omega
  have RP := fun (w1 : World) => Ma.repeat_any (w1.alloc (.cells #[.nilIface, .bool false, .int .i64 (-1), .int .i64 0, .int .i64 0] 81)) w1.heap.size nth h1 h2 (heap_alloc_new w1 _)
  simp only [World.size_alloc] at RP
  replace hs := Mr.hid hs
  replace hK := Mr.hid hK
  replace ha := Mr.hid ha
  replace hX := Mr.hid hX
  go_enter Try.func20, Try.ntmps20
  go_wp2_with (first | (go_at_call 31; refine N.mono ?_; clear N; rintro e w1 ⟨bm, vw, rfl, hM, hB1⟩; have RP1 := RP w1; clear RP) | (go_at_call 32; refine RP1.mono ?_; clear RP1; rintro e w3 ⟨rfl, hT, hB3⟩))
  go_ret2
  have z1 := hB1.size
  have z3 := hB3.size
  obtain ⟨W5, hW5⟩ : ∃ W5, (w3.alloc (.cells #[.pointer (some ⟨bm, 0, none⟩), .slice none 0 0, .slice none 0 0] 89)).alloc (.cells #[.map (some km), .slice (some ⟨w1.heap.size + 1, 0, none⟩) nth nth, .int .i64 0, .pointer (some ⟨w3.heap.size, 0, none⟩)] 75) = W5 := ⟨_, rfl⟩
  have s5 : W5.heap.size = w3.heap.size + 1 + 1 := by rw [← hW5]; simp
  have k5 : ∀ k, k < w3.heap.size → W5.heap[k]? = w3.heap[k]? := fun k hk => by rw [← hW5]; exact (Below.heap_alloc _ _ _ (by simp; omega)).trans (Below.heap_alloc _ _ _ hk)
  have kb : W5.heap[w3.heap.size]? = some (.cells #[.pointer (some ⟨bm, 0, none⟩), .slice none 0 0, .slice none 0 0] 89 (0, 0)) := by rw [← hW5]; exact (Below.heap_alloc _ _ _ (by simp)).trans (heap_alloc_new w3 _)
  have km5 : W5.heap[w3.heap.size + 1]? = some (.cells #[.map (some km), .slice (some ⟨w1.heap.size + 1, 0, none⟩) nth nth, .int .i64 0, .pointer (some ⟨w3.heap.size, 0, none⟩)] 75 (0, 0)) := by
    rw [← hW5]
    have := heap_alloc_new (w3.alloc (.cells #[.pointer (some ⟨bm, 0, none⟩), .slice none 0 0, .slice none 0 0] 89)) (.cells #[.map (some km), .slice (some ⟨w1.heap.size + 1, 0, none⟩) nth nth, .int .i64 0, .pointer (some ⟨w3.heap.size, 0, none⟩)] 75)
    rw [World.size_alloc] at this
    exact this
  have B5 : Below w.heap.size w W5 := by
    rw [← hW5]
    simp only [World.size_alloc] at z3
    have b2 : Below w.heap.size w (w1.alloc (.cells #[.nilIface, .bool false, .int .i64 (-1), .int .i64 0, .int .i64 0] 81)) := hB1.alloc z1 _
    exact ((b2.trans (hB3.mono (by omega))).alloc (by omega) _).alloc (by simp; omega) _
  simp only [World.size_alloc] at z3
  have m5 : ∀ k, k < w1.heap.size → W5.heap[k]? = w1.heap[k]? := fun k hk => (k5 k (by omega)).trans ((hB3.block k (by omega)).trans (Below.heap_alloc _ _ _ hk))
  rw [hW5]
  have low : ∀ k, T k → k < w.heap.size := hTl
  have u1 : (T (w3.heap.size + 1) ∨ (w.heap.size ≤ w3.heap.size + 1 ∧ w3.heap.size + 1 < W5.heap.size)) ∧ ¬ (w.heap.size ≤ w3.heap.size + 1 ∧ w3.heap.size + 1 < w1.heap.size) := ⟨.inr (by omega), by omega⟩
  have u2 : (T w3.heap.size ∨ (w.heap.size ≤ w3.heap.size ∧ w3.heap.size < W5.heap.size)) ∧ ¬ (w.heap.size ≤ w3.heap.size ∧ w3.heap.size < w1.heap.size) := ⟨.inr (by omega), by omega⟩
  refine ⟨⟨w3.heap.size + 1, w3.heap.size, bm, 0, 0, w1.heap.size + 1, nth, nth, .map (some km), .slice none 0 0, .slice none 0 0, vw⟩, (fun k => T k ∨ (w.heap.size ≤ k ∧ k < W5.heap.size)), rfl, ⟨⟨(fun k => w.heap.size ≤ k ∧ k < w1.heap.size), .slice none 0 0, .slice none 0 0, .slice none 0 0, 0, [], (fun _ => .nilIface), X, ⟨?_, ?_⟩, ?_, Nat.le_refl _⟩, L.kept hK.out (fun k hk => B5.block k (hKl k hk)), ?_, rfl⟩, fun k hk => hk.imp id (fun h => h.1), B5⟩
  · intro k o hk
    obtain ⟨ho, hkT⟩ := hX.out k o hk
    have hkl := low k hkT
    refine ⟨(B5.block k hkl).trans ho, .inl hkT, fun h => by omega, ?_, ?_, ?_, ?_, ?_⟩
    · show k ≠ w3.heap.size + 1; omega
    · show k ≠ w3.heap.size; omega
    · show k ≠ w1.heap.size + 1; omega
    · simp [Value.ownBlock]
    · simp [Value.ownBlock]
  · refine ⟨km5, kb, (hM.narrow.kept (fun k _ hk => m5 k hk)), ?_, Has.nil _ _ _ _, Has.nil _ _ _ _, u1, u2, fun k hk => .inr ⟨hk.1, by have h2 : k < w1.heap.size := hk.2; omega⟩, fun k hk => ?_⟩
    · have e : thsG (Pg.new (τ := τ) nth ws g).pts (fun _ => .nilIface) = List.replicate nth idleT := thsG_none nth
      simp only [e, List.length_replicate]
      refine hT.kept (fun k hk => k5 k (hT.lt k hk).2) (fun k hk => ?_)
      have h' := hT.lt k hk
      exact ⟨.inr ⟨by omega, by omega⟩, fun h => by omega⟩
    · rcases hk with hk | hk
      · have := low k hk; have := B5.size; omega
      · exact hk.2
  · show L.at_ (tkF (List.replicate nth (⟨none, false, -1, 0, 0⟩ : Pt τ))) g _ X
    rw [tkF_none]; exact ha.out
  · intro k hk
    have := hKl k hk
    refine ⟨fun h => ?_, by have := B5.size; omega⟩
    rcases h with h | h
    · exact hKT k hk h
    · omega
variable {W : World} {U K : Nat → Prop} {q : Ph} {km : Nat} {P : Pg τ γ}
theorem run_g (hR : RG L W U K q km P) (hb : Bd P) :
    Calls Try.prog 12 #[.pointer (some ⟨q.b, 0, none⟩)] W fun e w' => ∃ v1 v2 v3 v4, e = .returned (runV v1 v2 v3 v4) ∧ Has w' (fun k => W.heap.size ≤ k) 53 9 v1 P.cls.length (clc P.cls) ∧ Has w' (fun k => W.heap.size ≤ k) 59 7 v2 P.lg.length (lgc P.lg) ∧ Has w' (fun k => W.heap.size ≤ k) 118 5 v3 0 [] ∧ Has w' (fun k => W.heap.size ≤ k) 56 1 v4 P.ws.length (wrd P.ws) ∧ Below W.heap.size W w' := by
  obtain ⟨S, vl, va, vc, mv, ah, tv, X, hM, ha, hah⟩ := hR.ex
  have := hb.n
  have := hb.cls
  have := hb.lg
  exact runM_any hM (by show P.cls.length ≤ 100000; omega) (by show P.lg.length ≤ 100000; omega) (by show ([] : List Sh).length ≤ 100000; simp)
theorem nt_g (hR : RG L W U K q km P) : q.nt = P.pts.length := by
  obtain ⟨S, vl, va, vc, mv, ah, tv, X, hM, ha, hah⟩ := hR.ex
  have := hM.nt
  have h2 : (thsG P.pts tv).length = q.nt := this
  rw [thsG_len] at h2; exact h2.symm
end
end Go.Proofs.Ytpckcfdjgpdooaa.Gm
