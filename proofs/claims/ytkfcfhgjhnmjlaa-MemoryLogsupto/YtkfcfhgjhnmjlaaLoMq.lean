/-
  A MEMORY beside an elder log, its blocks told tight; access and Back over it. A region that draws and only reads, inside a round.
-/
import Derived.Test.YtkfcfhgjhnmjlaaLoHelp
import Derived.Test.YtkfcfhgjhnmjlaaLoPl
import Derived.Test.YtkfcfhgjhnmjlaaLoHands
import Derived.Test.YtkfcfhgjhnmjlaaMemBackAny
import Derived.BigQuiet
namespace Go.Proofs.Ytkfcfhgjhnmjlaa.Me
open Go.RowKit Go.Shelf Mr
set_option linter.unusedVariables false
/-- A region that draws and only reads, inside a round: one walk. -/
theorem round_quiet {l n : Nat} {P : Program} {Q : Exit → Act → World → Prop} {id : Nat} {a : Act} {w : World} {ls : List Oper} (hL : ¬ LetsOut Q) (hm : P.follows .mixedOrders = true) (hB : Region.lexB .any ls.toArray = true) (hd : ls.toArray.all (fun o => match o.op with | .defer _ => false | _ => true) = true)
    (h : wpQuiet P ls.toArray (fun w' => ∃ n, w' = w.drewN n) (fun a' => ∀ w', (∃ n, w' = w.drewN n) → Q .normal a' w') ls a) : (Code.region id ls.toArray true).wpIn (Fence.wide.inRound l) n P Q a w := by
  simp only [Region.lexB, Bool.and_eq_true] at hB
  refine wpIn_region_any hm (any_round hL ?_ _ _ _ _ ?_)
  · intro i o c ho hc
    have := (Array.all_eq_true.1 hd) i (Array.getElem?_eq_some_iff.1 ho).1
    rw [(Array.getElem?_eq_some_iff.1 ho).2, hc] at this
    cases this
  · refine wpAny_of_quiet (C := fun w' => ∃ n, w' = w.drewN n) (Q := fun a' => ∀ w', (∃ n, w' = w.drewN n) → Q .normal a' w') (fun _ w' hw' h => h w' hw') _ _ _ _ ⟨1, rfl⟩ ?_
    have := wpAnyQ_lex (C := fun w' => ∃ n, w' = w.drewN n) (md := .any) hB.1 ls.toArray.toList 0 (Array.replicate ls.toArray.size false) a (by simp) (by simpa using hB.2) (by simpa using h)
    simpa using this

/-- The blocks of a memory, and no others. -/
def tgt (b : Nat) (vw vl va : Value) : Nat → Prop := fun k => k = b ∨ vw.ownBlock = some k ∨ vl.ownBlock = some k ∨ va.ownBlock = some k
theorem has_cells {W : World} {S : Nat → Prop} {e : TypeId} {size n : Nat} {v : Value} {xs : List Value} (h : Has W S e size v n xs) {k : Nat} {o : Obj} (hk : v.ownBlock = some k) (ho : W.heap[k]? = some o) : o.isCells = true := by
  rcases h.2 with ⟨rfl, _⟩ | ⟨g, _, cur, rfl, _, hg, _⟩
  · simp [Value.ownBlock] at hk
  · simp [Value.ownBlock] at hk; subst hk; rw [hg] at ho; cases ho; rfl
section
variable {w W : World} {S T : Nat → Prop} {b : Nat} {vw vl va : Value} {ws : List Int} {mv : Int} {lg : List Acc} {ah : List Int} {v0 : Value} {n0 : Nat} {xs0 : List Value} {t : St}
theorem Mem.tight (h : Mem W S b vw vl va ws mv lg ah) : Mem W (tgt b vw vl va) b vw vl va ws mv lg ah :=
  ⟨h.blk, .inl rfl, h.hw.kept (fun _ _ => rfl) (fun k e => .inr (.inl e)), h.hl.kept (fun _ _ => rfl) (fun k e => .inr (.inr (.inl e))), h.ha.kept (fun _ _ => rfl) (fun k e => .inr (.inr (.inr e))), h.ne, h.len⟩
theorem Mem.tgt_sub (h : Mem W S b vw vl va ws mv lg ah) : ∀ k, tgt b vw vl va k → S k ∧ k < W.heap.size := by
  rintro k (rfl | e | e | e)
  · exact ⟨h.inb, h.lt⟩
  · exact h.hw.lt k e
  · exact h.hl.lt k e
  · exact h.ha.lt k e
theorem Mem.tgt_cells (h : Mem W S b vw vl va ws mv lg ah) : ∀ k o, tgt b vw vl va k → W.heap[k]? = some o → o.isCells = true := by
  rintro k o (rfl | e | e | e) ho
  · rw [h.blk] at ho; cases ho; rfl
  · exact has_cells h.hw e ho
  · exact has_cells h.hl e ho
  · exact has_cells h.ha e ho
/-- A memory, an elder log, its blocks. -/
structure Mq (W : World) (S : Nat → Prop) (b : Nat) (t : St) (v0 : Value) (n0 : Nat) (xs0 : List Value) : Prop where
  mem : MemP W S b t 0 v0 n0 xs0
  lt : ∀ k, S k → k < W.heap.size
  cells : ∀ k o, S k → W.heap[k]? = some o → o.isCells = true
/-- What a call leaves: nothing else is touched. -/
theorem MemP.tight (h : MemP W S b t 0 v0 n0 xs0) : ∃ S', Mq W S' b t v0 n0 xs0 ∧ ∀ k, S' k → S k := by
  obtain ⟨vw, vl, va, h1, h2⟩ := h
  exact ⟨_, ⟨⟨vw, vl, va, h1.tight, h2⟩, fun k hk => (h1.tgt_sub k hk).2, h1.tgt_cells⟩, fun k hk => (h1.tgt_sub k hk).1⟩
theorem Mq.below {W' : World} (h : Mq W S b t v0 n0 xs0) (hB : Below W.heap.size W W') : Mq W' S b t v0 n0 xs0 :=
  ⟨h.mem.below hB, fun k hk => Nat.lt_of_lt_of_le (h.lt k hk) hB.size, fun k o hk ho => h.cells k o hk ((hB.block k (h.lt k hk)).symm.trans ho)⟩
theorem MemP.kept {W' : World} (h : MemP W S b t 0 v0 n0 xs0) (hk : ∀ k, S k → k < W.heap.size → W'.heap[k]? = W.heap[k]?) (hp : ∀ k, v0.ownBlock = some k → W'.heap[k]? = W.heap[k]?) : MemP W' S b t 0 v0 n0 xs0 := by
  obtain ⟨vw, vl, va, h1, h2⟩ := h
  exact ⟨vw, vl, va, h1.kept hk, h2.1.kept hp (fun _ _ => trivial), h2.2⟩
theorem MemP.past (h : MemP W S b t 0 v0 n0 xs0) : Has W (fun _ => True) 41 7 v0 n0 xs0 := by
  obtain ⟨vw, vl, va, h1, h2⟩ := h
  exact h2.1
/-- A turn of a block that is no cells. -/
theorem Mq.put (h : Mq W S b t v0 n0 xs0) {l : Nat} {o o' : Obj} (ho : W.heap[l]? = some o) (hc : o.isCells = false) : Mq (W.putObj l o') S b t v0 n0 xs0 := by
  have ne : ∀ k, S k → k ≠ l := fun k hk e => by subst e; rw [h.cells _ _ hk ho] at hc; cases hc
  refine ⟨h.mem.kept (fun k hk _ => World.putObj_heap_other (ne k hk)) (fun k hk => World.putObj_heap_other (fun e => ?_)), fun k hk => ?_, fun k o1 hk ho1 => h.cells k o1 hk ?_⟩
  · subst e; rw [has_cells h.mem.past hk ho] at hc; cases hc
  · have := h.lt k hk
    simpa [World.putObj] using this
  · rw [← ho1]; exact (World.putObj_heap_other (ne k hk)).symm
/-- A store into a cell that is not the memory's. -/
theorem Mq.set (h : Mq W S b t v0 n0 xs0) (p : Addr) (u : Value) (hp : ¬ S p.block) (hv : v0.ownBlock ≠ some p.block) : Mq (W.setCell p u) S b t v0 n0 xs0 := by
  have e : ∀ k, k ≠ p.block → (W.setCell p u).heap[k]? = W.heap[k]? := fun k hk => Below.heap_setCell _ _ _ k hk
  have ne : ∀ k, S k → k ≠ p.block := fun k hk e => hp (e ▸ hk)
  refine ⟨h.mem.kept (fun k hk _ => e k (ne k hk)) (fun k hk => e k (fun e' => hv (e' ▸ hk))), fun k hk => ?_, fun k o1 hk ho1 => h.cells k o1 hk ((e k (ne k hk)).symm.trans ho1)⟩
  have := h.lt k hk
  simpa using this
/-- What was touched by a call: the memory's blocks alone. -/
structure Tch (W W' : World) (S S' : Nat → Prop) : Prop where
  fr : Fr W W' S
  new : ∀ k, S' k → S k ∨ W.heap.size ≤ k
theorem Fr.others {W' : World} (h : Fr W W' S) (hc : ∀ k o, S k → W.heap[k]? = some o → o.isCells = true) : KeepsOthers W W' :=
  ⟨h.size, fun k o hk ho => (h.block k (Array.getElem?_eq_some_iff.1 hk).1 (fun hS => by rw [hc k o hS hk] at ho; cases ho)).trans hk⟩
theorem Mq.access (h : Mq W S b t v0 n0 xs0) (hb : Roomy t.lg t.ah) (o : O) :
    Calls Try.prog 7 #[.pointer (some ⟨b, 0, none⟩), .agg #[.int .i64 o.k, .int .i64 o.th, .int .i64 o.ad, .int .i64 o.n, .int .u64 o.old, .int .u64 o.w]] W fun e w' => e = .returned (.tuple #[]) ∧ ∃ S', Mq w' S' b (stp o 0 t) v0 n0 xs0 ∧ Tch W w' S S' := by
  refine (access_past h.mem hb o).mono ?_
  rintro e w' ⟨rfl, h1, h2⟩
  obtain ⟨S', h3, h4⟩ := h1.tight
  exact ⟨rfl, S', h3, h2, h4⟩
theorem Mq.back {ws0 : List Int} (h : Mq W S b t v0 n0 xs0) (hp : Pl ws0 t) (hl : 0 < t.lg.length) (hsm : t.lg.length ≤ 10000000) :
    Calls Try.prog 11 #[.pointer (some ⟨b, 0, none⟩), .int .i64 0] W fun e w' => e = .returned (.int .i64 0) ∧ ∃ S', Mq w' S' b ⟨ws0, [], []⟩ v0 n0 xs0 ∧ Tch W w' S S' := by
  obtain ⟨⟨vw, vl, va, h1, h2⟩, hlt, hce⟩ := h
  obtain ⟨g, cap, rfl, hg, _⟩ := h1.hl.there hl
  rw [hp.ws, hp.ah] at h1
  refine (back_any h1 hp.ok 0 hl (by omega)).mono ?_
  rintro e w' ⟨rfl, ⟨va', h3⟩, h4⟩
  have hty : ∀ k, (k = b ∨ vw.ownBlock = some k) → k < W.heap.size → ∃ cs ty fz, W.heap[k]? = some (.cells cs ty fz) ∧ ty ≠ 41 := by
    rintro k (rfl | hk) _
    · exact ⟨_, _, _, h1.blk, by decide⟩
    · rcases h1.hw.2 with ⟨rfl, _⟩ | ⟨g', _, cur, rfl, _, hg', _⟩
      · simp [Value.ownBlock] at hk
      · simp [Value.ownBlock] at hk; subst hk; exact ⟨_, _, _, hg', by decide⟩
  have h5 := h2.fr h4 hty
  have hsub : ∀ k, (k = b ∨ vw.ownBlock = some k) → S k := by
    rintro k (rfl | hk)
    · exact h1.inb
    · exact (h1.hw.lt k hk).1
  have h6 : MemP w' S b ⟨ws0, [], []⟩ 0 v0 n0 xs0 := ⟨vw, _, va', by simpa [play] using h3, h5.1, fun a n cp e' _ => by cases e'; exact .inr (Nat.le_refl _)⟩
  obtain ⟨S', h7, h8⟩ := h6.tight
  exact ⟨rfl, S', h7, h4.mono hsub, fun k hk => .inl (h8 k hk)⟩
end
end Go.Proofs.Ytkfcfhgjhnmjlaa.Me
