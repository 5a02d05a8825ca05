import Derived.Test.YtjpgjhjnneeliaaGreatJ25
import Derived.Test.YtjpgjhjnneeliaaGreatJ01
import Derived.Test.YtjpgjhjnneeliaaGreatJ15
import Derived.Test.YtjpgjhjnneeliaaGreatJ08
import Derived.Test.YtjpgjhjnneeliaaGreatJ09
import Derived.Laws.MakeOwn
import Derived.Laws.Entries
import Derived.Laws.NewBlocks
/-
  machine.New over an arena's kit.
-/
namespace Go.Proofs.YtjpgjhjnneeliaaGreat.Ar
open Go.RowKit Go.Shelf Mr Me Ma Wc Wm
/-- A new machine with an arena. -/
def Pa.new (m K : Nat) (A : Ao) (nth : Nat) (ws : List Int) : Pa := ⟨m, K, A, List.replicate nth ⟨none, false, -1⟩, 0, [], [], ws, []⟩
theorem thsA_none (nth : Nat) (bc bt : Nat → Nat) : thsA (List.replicate nth ⟨none, false, -1⟩) bc bt = List.replicate nth idleT := by
  apply List.ext_getElem?
  intro j
  rw [thsA_get]
  simp only [List.getElem?_replicate]
  split <;> rfl
theorem new_none {nth i : Nat} {t : At} (h : (List.replicate nth (⟨none, false, -1⟩ : At))[i]? = some t) : t = ⟨none, false, -1⟩ := by
  rw [List.getElem?_replicate] at h
  split at h
  · exact (Option.some.inj h).symm
  · cases h
section
variable {T K : Nat → Prop} {ba gs cs km ca : Nat} {c : Cf} {vca : Value} {vsl : List Value} {A : Ao}
set_option maxRecDepth 100000 in
set_option maxHeartbeats 1000000 in
theorem newM_arena (w : World) (nth : Nat) (h1 : 1 ≤ nth) (h2 : nth ≤ 16) (a : Option Addr) (n cap : Nat) (ws : List Int) (hs : Src w a n cap ws) (hn : n ≤ 8192) (hA : Ar w T ba gs cs c vca vsl A) (hTl : ∀ k, T k → k < w.heap.size) (hK : Ktr w K km ca ba) (hKl : ∀ k, K k → k < w.heap.size) (hKT : ∀ k, K k → ¬ T k) (m Kc : Nat) (hm : c.m = m) (hk4 : c.a4 = Kc) (hk64 : Kc ≤ 64) (hI : Inv (Pa.new m Kc A nth ws) 0) :
    Calls Tryz.prog 25 #[.int .i64 (nth : Int), .slice a n cap, .map (some km)] w fun e w' => ∃ q U h, e = .returned (.tuple #[.pointer (some ⟨q.b, 0, none⟩), .int .i64 0]) ∧ RA w' U K ⟨q, km, ca, ba, gs, cs, c, vca⟩ h (Pa.new m Kc A nth ws) ∧ (∀ k, U k → T k ∨ w.heap.size ≤ k) ∧ Below w.heap.size w w' := by
  have N := new_any _ _ _ _ _ hs hn
  have d1 : decide ((nth : Int) < 1) = false := by simp; omega
  have d2 : decide (16 < (nth : Int)) = false := by simp; omega
  have RP := fun (w1 : World) => Ma.repeat_any (w1.alloc (.cells #[.nilIface, .bool false, .int .i64 (-1), .int .i64 0, .int .i64 0] 93)) w1.heap.size nth h1 h2 (heap_alloc_new w1 _)
  simp only [World.size_alloc] at RP
  replace hs := Mr.hid hs
  replace hK := Mr.hid hK
  replace hA := Mr.hid hA
  replace hI := Mr.hid hI
  go_enter Tryz.func25, Tryz.ntmps25
  go_wp2_with (first | (go_at_call 43; refine N.mono ?_; clear N; rintro e w1 ⟨bm, vw, rfl, hM, hB1⟩; have RP1 := RP w1; clear RP) | (go_at_call 44; refine RP1.mono ?_; clear RP1; rintro e w3 ⟨rfl, hT, hB3⟩))
  go_ret2
  have z1 := hB1.size
  have z3 := hB3.size
  obtain ⟨W5, hW5⟩ : ∃ W5, (w3.alloc (.cells #[.pointer (some ⟨bm, 0, none⟩), .slice none 0 0, .slice none 0 0] 96)).alloc (.cells #[.map (some km), .slice (some ⟨w1.heap.size + 1, 0, none⟩) nth nth, .int .i64 0, .pointer (some ⟨w3.heap.size, 0, none⟩)] 87) = W5 := ⟨_, rfl⟩
  have s5 : W5.heap.size = w3.heap.size + 1 + 1 := by rw [← hW5]; simp
  have k5 : ∀ k, k < w3.heap.size → W5.heap[k]? = w3.heap[k]? := fun k hk => by rw [← hW5]; exact (Below.heap_alloc _ _ _ (by simp; omega)).trans (Below.heap_alloc _ _ _ hk)
  have kb : W5.heap[w3.heap.size]? = some (.cells #[.pointer (some ⟨bm, 0, none⟩), .slice none 0 0, .slice none 0 0] 96 (0, 0)) := by rw [← hW5]; exact (Below.heap_alloc _ _ _ (by simp)).trans (heap_alloc_new w3 _)
  have km5 : W5.heap[w3.heap.size + 1]? = some (.cells #[.map (some km), .slice (some ⟨w1.heap.size + 1, 0, none⟩) nth nth, .int .i64 0, .pointer (some ⟨w3.heap.size, 0, none⟩)] 87 (0, 0)) := by
    rw [← hW5]
    have := heap_alloc_new (w3.alloc (.cells #[.pointer (some ⟨bm, 0, none⟩), .slice none 0 0, .slice none 0 0] 96)) (.cells #[.map (some km), .slice (some ⟨w1.heap.size + 1, 0, none⟩) nth nth, .int .i64 0, .pointer (some ⟨w3.heap.size, 0, none⟩)] 87)
    rw [World.size_alloc] at this
    exact this
  have B5 : Below w.heap.size w W5 := by
    rw [← hW5]
    simp only [World.size_alloc] at z3
    have b2 : Below w.heap.size w (w1.alloc (.cells #[.nilIface, .bool false, .int .i64 (-1), .int .i64 0, .int .i64 0] 93)) := hB1.alloc z1 _
    exact ((b2.trans (hB3.mono (by omega))).alloc (by omega) _).alloc (by simp; omega) _
  simp only [World.size_alloc] at z3
  have m5 : ∀ k, k < w1.heap.size → W5.heap[k]? = w1.heap[k]? := fun k hk => (k5 k (by omega)).trans ((hB3.block k (by omega)).trans (Below.heap_alloc _ _ _ hk))
  rw [hW5]
  have low : ∀ k, T k → k < w.heap.size := hTl
  have u1 : (T (w3.heap.size + 1) ∨ (w.heap.size ≤ w3.heap.size + 1 ∧ w3.heap.size + 1 < W5.heap.size)) ∧ ¬ (w.heap.size ≤ w3.heap.size + 1 ∧ w3.heap.size + 1 < w1.heap.size) := ⟨.inr (by omega), by omega⟩
  have u2 : (T w3.heap.size ∨ (w.heap.size ≤ w3.heap.size ∧ w3.heap.size < W5.heap.size)) ∧ ¬ (w.heap.size ≤ w3.heap.size ∧ w3.heap.size < w1.heap.size) := ⟨.inr (by omega), by omega⟩
  refine ⟨⟨w3.heap.size + 1, w3.heap.size, bm, 0, 0, w1.heap.size + 1, nth, nth, .map (some km), .slice none 0 0, .slice none 0 0, vw⟩, (fun k => T k ∨ (w.heap.size ≤ k ∧ k < W5.heap.size)), ⟨(fun k => w.heap.size ≤ k ∧ k < w1.heap.size), .slice none 0 0, .slice none 0 0, .slice none 0 0, .slice none 0 0, 0, [], T, vsl, fun _ => 0, fun _ => 0⟩, rfl, ⟨⟨?_, ?_⟩, fun k hk => by have := low k hk; have := B5.size; omega, hA.out.kept (fun k hk => B5.block k (low k hk)) (fun _ h => h), ?_, ?_, Nat.le_refl _, hK.out.kept (fun k hk => B5.block k (hKl k hk)), ?_, hI.out, hm, hk4, hk64, rfl⟩, fun k hk => hk.imp id (fun h => h.1), B5⟩
  · rintro k o ⟨hk, ho⟩
    have hkl := low k hk
    refine ⟨ho, .inl hk, fun h => by omega, ?_, ?_, ?_, ?_, ?_⟩
    · show k ≠ w3.heap.size + 1; omega
    · show k ≠ w3.heap.size; omega
    · show k ≠ w1.heap.size + 1; omega
    · simp [Fx.at, Value.ownBlock]
    · simp [Fx.at, Value.ownBlock]
  · refine ⟨km5, kb, (hM.narrow.kept (fun k _ hk => m5 k hk)), ?_, Has.nil _ _ _ _, Has.nil _ _ _ _, u1, u2, fun k hk => .inr ⟨hk.1, by have h2 : k < w1.heap.size := hk.2; omega⟩, fun k hk => ?_⟩
    · have e : thsA (Pa.new m Kc A nth ws).pts (fun _ => 0) (fun _ => 0) = List.replicate nth idleT := thsA_none nth _ _
      simp only [Wh.ss, e, List.length_replicate]
      refine hT.kept (fun k hk => k5 k (hT.lt k hk).2) (fun k hk => ?_)
      have h' := hT.lt k hk
      exact ⟨.inr ⟨by omega, by omega⟩, fun h => by omega⟩
    · rcases hk with hk | hk
      · have := low k hk; have := B5.size; omega
      · exact hk.2
  · intro i t hi
    have : t = ⟨none, false, -1⟩ := new_none hi
    rw [this]
    trivial
  · intro i j t u k hi hj ht
    have : t = ⟨none, false, -1⟩ := new_none hi
    rw [this] at ht
    exact ht.elim
  · intro k hk
    have := hKl k hk
    refine ⟨fun h => ?_, by have := B5.size; omega⟩
    rcases h with h | h
    · exact hKT k hk h
    · omega
end
end Go.Proofs.YtjpgjhjnneeliaaGreat.Ar
/-
  WHAT HOLDS, at the beginning.
-/
namespace Go.Proofs.YtjpgjhjnneeliaaGreat.Ar
open Ma Me
theorem chn_range (f : Int → Int) (N : Nat) (h1 : ∀ s : Nat, s + 1 < N → f s = s + 2) (h2 : 0 < N → f ((N - 1 : Nat) : Int) = 0) : ∀ k : Nat, k ≤ N → Chn f ((List.range' (N - k) k).map (fun n : Nat => (n : Int))) (if k = 0 then 0 else ((N - k : Nat) : Int) + 1)
  | 0, _ => rfl
  | k + 1, hk => by
    rw [List.range'_succ, List.map_cons]
    refine ⟨by simp, ?_⟩
    have ih := chn_range f N h1 h2 k (by omega)
    have e : N - (k + 1) + 1 = N - k := by omega
    rw [e]
    by_cases h0 : k = 0
    · subst h0
      have := h2 (by omega)
      simp at ih ⊢
      rw [this]
      exact ih
    · rw [if_neg h0] at ih
      have := h1 (N - (k + 1)) (by omega)
      rw [this]
      have e2 : ((N - k : Nat) : Int) + 1 = ((N - (k + 1) : Nat) : Int) + 2 := by omega
      rw [← e2]
      exact ih
theorem Inv.start (m K N nth : Nat) (ws : List Int) (hm : 0 < m) (hN : 0 < N) (hN2 : N ≤ 1024) (hl : m + N ≤ ws.length) (h0 : ws[0]?.getD 0 = 1) (h1 : ∀ s : Nat, s + 1 < N → ws[m + s]?.getD 0 = (s : Int) + 2) (h2 : ws[m + (N - 1)]?.getD 0 = 0) (hw : ∀ x ∈ ws, (0 : Int) ≤ x ∧ x ≤ 18446744073709551615) :
    Inv ⟨m, K, ⟨List.replicate N (0, -1), List.replicate nth []⟩, List.replicate nth ⟨none, false, -1⟩, 0, [], [], ws, []⟩ 0 := by
  have hst : ∀ s : Int, (Ao.st ⟨List.replicate N (0, -1), List.replicate nth []⟩ s) = (0, -1) := fun s => by
    unfold Ao.st
    rw [List.getElem?_replicate]
    split <;> rfl
  refine ⟨by omega, by simp, by simp, by simp, hm, by simpa using hN2, by simpa using hl, by simp, hw, ?_, ?_, ?_, ?_, ?_, ?_⟩
  · have e : Pa.word ⟨m, K, ⟨List.replicate N (0, -1), List.replicate nth []⟩, List.replicate nth ⟨none, false, -1⟩, 0, [], [], ws, []⟩ 0 = 1 := h0
    unfold tag
    rw [e]
    simp
    omega
  · refine ⟨(List.range' 0 N).map (fun n : Nat => (n : Int)), ?_, ?_, fun s => ?_⟩
    · have e : Pa.word ⟨m, K, ⟨List.replicate N (0, -1), List.replicate nth []⟩, List.replicate nth ⟨none, false, -1⟩, 0, [], [], ws, []⟩ 0 = 1 := h0
      rw [e]
      have := chn_range (sp ⟨m, K, ⟨List.replicate N (0, -1), List.replicate nth []⟩, List.replicate nth ⟨none, false, -1⟩, 0, [], [], ws, []⟩) N (fun s hs => h1 s hs) (fun _ => h2) N (Nat.le_refl _)
      rw [if_neg (by omega), Nat.sub_self] at this
      exact this
    · rw [List.nodup_iff_pairwise_ne, List.pairwise_map]
      refine (List.nodup_range' (step := 1)).imp ?_
      intro a b hab e
      exact hab (by omega)
    · rw [hst]
      simp only [List.mem_map, List.mem_range'_1, and_true, Ao.has, List.length_replicate]
      constructor
      · rintro ⟨n, hn, rfl⟩; omega
      · intro hs; exact ⟨s.toNat, by omega, by omega⟩
  · intro i l hl'
    have : l = [] := (List.mem_replicate.1 (List.mem_of_getElem? hl')).2
    subst this
    simp
  · intro s _ h
    rw [hst] at h
    simp at h
  · intro i t kd k ht htk
    have : t = ⟨none, false, -1⟩ := (List.mem_replicate.1 (List.mem_of_getElem? ht)).2
    rw [this] at htk
    cases htk
  · intro i t ht htk
    have : t = ⟨none, false, -1⟩ := (List.mem_replicate.1 (List.mem_of_getElem? ht)).2
    rw [this] at htk
    cases htk
end Go.Proofs.YtjpgjhjnneeliaaGreat.Ar
/-
  A ROW of words that the call itself made; and what First lays there.
-/
namespace Go.Proofs.YtjpgjhjnneeliaaGreat.Wr
open Go.RowKit
/-- Block b holds the n words f 0, f 1, .. -/
structure Row (W : World) (b n : Nat) (f : Nat → Int) : Prop where
  cell : ∀ i, i < n → W.cell? ⟨b, i, none⟩ = some (.int .u64 (f i))
  free : ∀ i, i < n → W.frozen? ⟨b, i, none⟩ = false
  size : b < W.heap.size
theorem Row.below {W W' : World} {b n : Nat} {f : Nat → Int} (h : Row W b n f) (hb : Below W.heap.size W W') : Row W' b n f :=
  ⟨fun i hi => (hb.cell (p := ⟨b, i, none⟩) h.size).trans (h.cell i hi), fun i hi => (hb.frozen (p := ⟨b, i, none⟩) h.size).trans (h.free i hi), Nat.lt_of_lt_of_le h.size hb.size⟩
theorem Row.made (w : World) (n e : Nat) : Row (w.alloc (.cells (madeCells #[.int .u64 0] n) e)) w.heap.size n (fun _ => 0) := by
  refine ⟨fun i hi => ?_, fun i _ => ?_, by simp⟩
  · rw [World.cell?_alloc_at _ _ _ _ rfl]
    simp [madeCells, hi, Nat.mod_one]
  · exact World.frozen?_alloc_at _ _ _ _ rfl
theorem Row.set {W : World} {b n : Nat} {f : Nat → Int} (h : Row W b n f) (j : Nat) (v : Int) (g : Nat → Int) (hj : j < n) (hg : ∀ i, i < n → g i = if i = j then v else f i) :
    Row (W.setCell ⟨b, j, none⟩ (.int .u64 v)) b n g := by
  refine ⟨fun i hi => ?_, fun i hi => ?_, ?_⟩
  · rw [hg i hi]
    by_cases e : i = j
    · subst e; rw [if_pos rfl]; exact World.cell?_setCell_same _ _ _ (h.cell i hi)
    · rw [if_neg e, World.cell?_setCell_other _ _ _ _ (by intro h; exact e (by simpa using h.symm))]; exact h.cell i hi
  · rw [World.frozen?_setCell]; exact h.free i hi
  · have := h.size; simpa using this
theorem Row.congr {W : World} {b n : Nat} {f g : Nat → Int} (h : Row W b n f) (hg : ∀ i, i < n → g i = f i) : Row W b n g :=
  ⟨fun i hi => by rw [hg i hi]; exact h.cell i hi, h.free, h.size⟩
theorem Row.setFar {W : World} {b n : Nat} {f : Nat → Int} (h : Row W b n f) (a : Addr) (v : Value) (ha : a.block ≠ b) : Row (W.setCell a v) b n f := by
  refine ⟨fun i hi => ?_, fun i hi => ?_, ?_⟩
  · rw [World.cell?_setCell_other _ _ _ _ (by intro e; exact ha (by rw [e]))]; exact h.cell i hi
  · rw [World.frozen?_setCell]; exact h.free i hi
  · have := h.size; simpa using this

/-- The words while First writes them: head, the words 3 and 4, the spare words from b10 + u up to b10 + s. -/
def memF (hd t3 t4 b10 u s : Int) (i : Nat) : Int :=
  if i = 0 then hd else if i = 3 then t3 else if i = 4 then t4 else if b10 + u ≤ (i : Int) ∧ (i : Int) < b10 + s then (i : Int) - b10 + 2 else 0
theorem memF_zero (b10 u : Int) (i : Nat) : memF 0 0 0 b10 u u i = 0 := by
  unfold memF; (repeat' split) <;> first | rfl | omega
theorem memF_head (hd b10 u s t3 t4 h0 : Int) (i : Nat) : memF hd t3 t4 b10 u s i = if i = 0 then hd else memF h0 t3 t4 b10 u s i := by
  unfold memF; (repeat' split) <;> first | rfl | omega
theorem memF_three (hd b10 u s t3 t4 h0 : Int) (i : Nat) : memF hd t3 t4 b10 u s i = if i = 3 then t3 else memF hd h0 t4 b10 u s i := by
  unfold memF; (repeat' split) <;> first | rfl | omega
theorem memF_four (hd b10 u s t3 t4 h0 : Int) (i : Nat) : memF hd t3 t4 b10 u s i = if i = 4 then t4 else memF hd t3 h0 b10 u s i := by
  unfold memF; (repeat' split) <;> first | rfl | omega
theorem memF_spare (hd b10 u s t3 t4 : Int) (hb : 6 ≤ b10) (hu : 0 ≤ u) (hs : u ≤ s) (i : Nat) :
    memF hd t3 t4 b10 u (s + 1) i = if i = (b10 + s).toNat then s + 2 else memF hd t3 t4 b10 u s i := by
  unfold memF
  by_cases e : i = (b10 + s).toNat
  · rw [if_pos e]
    have e' : (i : Int) = b10 + s := by omega
    rw [if_neg (by omega), if_neg (by omega), if_neg (by omega), if_pos (by omega)]; omega
  · rw [if_neg e]
    (repeat' split) <;> first | rfl | omega
open Wm in
theorem base10 (a1 a2 a5 a6 : Int) : base a1 a2 a5 a6 10 = 6 + a6 + a1 + a1 * a2 := by
  simp [base, many, items, each]
open Wm in
theorem base14 (a1 a2 a5 a6 : Int) : base a1 a2 a5 a6 14 = 6 + a6 + a1 + a1 * a2 + 4 * a5 := by
  simp [base, many, items, each]; omega
open Wm in
theorem base4 (a1 a2 a5 a6 : Int) : base a1 a2 a5 a6 4 = 3 := by simp [base, many, items, each]
open Wm in
theorem base5 (a1 a2 a5 a6 : Int) : base a1 a2 a5 a6 5 = 4 := by simp [base, many, items, each]
open Wm in
theorem base1 (a1 a2 a5 a6 : Int) : base a1 a2 a5 a6 1 = 0 := rfl
end Go.Proofs.YtjpgjhjnneeliaaGreat.Wr
