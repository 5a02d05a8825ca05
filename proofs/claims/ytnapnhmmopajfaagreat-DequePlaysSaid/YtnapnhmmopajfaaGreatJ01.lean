import Derived.Deep.AppendLies
import Derived.Deep.DeepAppendWide
import Derived.OwnWalkIn
import Derived.WalkKit
import Derived.Below
import Derived.Test.YtnapnhmmopajfaaGreatChecked
import Derived.Laws.AppendOwn
/-
  ROWS that may have room behind them or not (also behind a slice expression with three indices); append onto one; frames by a set of blocks.
-/
namespace Go.Proofs.YtnapnhmmopajfaaGreat.Mr
open Go.RowKit

theorem hid {p : Prop} (h : p) : Hid p := h
theorem blk_add (a : Addr) (i : Nat) : (a.add i).block = a.block := by unfold Addr.add; split <;> rfl

/-- v is nil and n = 0, or it leads to the first cells of a block of base or above, n elements of size cells each that hold xs. -/
def Has (w : World) (S : Nat → Prop) (e : TypeId) (size : Nat) (v : Value) (n : Nat) (xs : List Value) : Prop :=
  xs.length = n * size ∧
  ((v = .slice none 0 0 ∧ n = 0) ∨
   ∃ g cap cur, v = .slice (some ⟨g, 0, none⟩) n cap ∧ S g ∧ w.heap[g]? = some (.cells cur e (0, 0)) ∧ n ≤ cap ∧ cap ≤ maxLen ∧ cap * size ≤ cur.size ∧ cur.toList.take (n * size) = xs)

/-- w' is w but for the blocks of S and new ones. -/
structure Fr (w w' : World) (S : Nat → Prop) : Prop where
  os : w'.os = w.os
  tape : w'.tape = w.tape
  output : w'.output = w.output
  size : w.heap.size ≤ w'.heap.size
  block : ∀ k, k < w.heap.size → ¬ S k → w'.heap[k]? = w.heap[k]?

theorem Fr.refl (w : World) (S : Nat → Prop) : Fr w w S := ⟨rfl, rfl, rfl, Nat.le_refl _, fun _ _ _ => rfl⟩
theorem Fr.trans {a b c : World} {S : Nat → Prop} (h : Fr a b S) (k : Fr b c (fun x => S x ∨ a.heap.size ≤ x)) : Fr a c S :=
  ⟨k.os.trans h.os, k.tape.trans h.tape, k.output.trans h.output, Nat.le_trans h.size k.size, fun i hi hn =>
    (k.block i (Nat.lt_of_lt_of_le hi h.size) (fun e => e.elim hn (fun e => by omega))).trans (h.block i hi hn)⟩
theorem Fr.mono {a b : World} {S T : Nat → Prop} (h : Fr a b S) (hS : ∀ k, S k → T k) : Fr a b T :=
  ⟨h.os, h.tape, h.output, h.size, fun k hk hn => h.block k hk (fun e => hn (hS k e))⟩
theorem Fr.below {a b : World} {S : Nat → Prop} {n : Nat} (h : Fr a b S) (hS : ∀ k, S k → n ≤ k) (hn : n ≤ a.heap.size) : Below n a b :=
  ⟨h.os, h.tape, h.output, h.size, fun k hk => h.block k (by omega) (fun e => by have := hS k e; omega)⟩
theorem Fr.of_below {a b : World} {S : Nat → Prop} (h : Below a.heap.size a b) : Fr a b S :=
  ⟨h.os, h.tape, h.output, h.size, fun k hk _ => h.block k hk⟩
theorem Fr.alloc {a b : World} {S : Nat → Prop} (h : Fr a b S) (o : Obj) : Fr a (b.alloc o) S :=
  ⟨h.os, h.tape, h.output, by have := h.size; simp; omega, fun k hk hn => (Below.heap_alloc b o k (Nat.lt_of_lt_of_le hk h.size)).trans (h.block k hk hn)⟩
theorem Fr.drew {a b : World} {S : Nat → Prop} (h : Fr a b S) : Fr a b.drew S := ⟨h.os, h.tape, h.output, h.size, h.block⟩
theorem Fr.setCell {a b : World} {S : Nat → Prop} (h : Fr a b S) (p : Addr) (v : Value) (hp : S p.block ∨ a.heap.size ≤ p.block) : Fr a (b.setCell p v) S :=
  ⟨h.os, h.tape, h.output, by have := h.size; simpa using this, fun k hk hn => (Below.heap_setCell b p v k (fun e => by subst e; exact hp.elim hn (fun e => by omega))).trans (h.block k hk hn)⟩
theorem Fr.grown {a b c : World} {S : Nat → Prop} {row : Option Nat} (h : Fr a b S) (hg : b.grownBy c row) (hr : ∀ k, row = some k → S k ∨ a.heap.size ≤ k) : Fr a c S :=
  ⟨hg.os.trans h.os, hg.tape.trans h.tape, hg.output.trans h.output, Nat.le_trans h.size hg.size, fun k hk hn =>
    (hg.block k (Nat.lt_of_lt_of_le hk h.size) (fun e => (hr k e.symm).elim hn (fun e => by omega))).trans (h.block k hk hn)⟩

section
variable {w : World} {S : Nat → Prop} {e : TypeId} {size : Nat} {v : Value} {n : Nat} {xs : List Value}

theorem Has.nil (w : World) (S : Nat → Prop) (e : TypeId) (size : Nat) : Has w S e size (.slice none 0 0) 0 [] := ⟨by simp, .inl ⟨rfl, rfl⟩⟩
theorem Has.lt (h : Has w S e size v n xs) : ∀ k, v.ownBlock = some k → S k ∧ k < w.heap.size := by
  intro k hk
  rcases h.2 with ⟨rfl, _⟩ | ⟨g, cap, cur, rfl, hb, hg, _⟩
  · simp [Value.ownBlock] at hk
  · simp [Value.ownBlock] at hk
    subst hk
    exact ⟨hb, (Array.getElem?_eq_some_iff.1 hg).1⟩
theorem Has.kept {w' : World} {T : Nat → Prop} (h : Has w S e size v n xs) (hb : ∀ k, v.ownBlock = some k → w'.heap[k]? = w.heap[k]?) (hT : ∀ k, v.ownBlock = some k → T k) : Has w' T e size v n xs := by
  refine ⟨h.1, ?_⟩
  rcases h.2 with hn | ⟨g, cap, cur, rfl, _, hgg, rest⟩
  · exact .inl hn
  · exact .inr ⟨g, cap, cur, rfl, hT g rfl, (hb g rfl).trans hgg, rest⟩
theorem Has.mono {T : Nat → Prop} (h : Has w S e size v n xs) (hT : ∀ k, S k → T k) : Has w T e size v n xs :=
  h.kept (fun _ _ => rfl) (fun k hk => hT k (h.lt k hk).1)
theorem Has.fr {w' : World} {T : Nat → Prop} (h : Has w S e size v n xs) (hf : Fr w w' T) (hd : ∀ k, S k → k < w.heap.size → ¬ T k) : Has w' S e size v n xs :=
  h.kept (fun k hk => hf.block k (h.lt k hk).2 (hd k (h.lt k hk).1 (h.lt k hk).2)) (fun k hk => (h.lt k hk).1)
theorem Has.below {w' : World} (h : Has w S e size v n xs) (hf : Below w.heap.size w w') : Has w' S e size v n xs :=
  h.kept (fun k hk => hf.block k (h.lt k hk).2) (fun k hk => (h.lt k hk).1)
theorem Has.alloc (h : Has w S e size v n xs) (o : Obj) : Has (w.alloc o) S e size v n xs :=
  h.kept (fun k hk => Below.heap_alloc w o k (h.lt k hk).2) (fun k hk => (h.lt k hk).1)
theorem Has.grown {w' : World} {row : Option Nat} (h : Has w S e size v n xs) (hg : w.grownBy w' row) (hne : ∀ k, v.ownBlock = some k → row ≠ some k) : Has w' S e size v n xs :=
  h.kept (fun k hk => hg.block k (h.lt k hk).2 (fun e => hne k hk e.symm)) (fun k hk => (h.lt k hk).1)
theorem Has.setCell (h : Has w S e size v n xs) (p : Addr) (u : Value) (hne : v.ownBlock ≠ some p.block) : Has (w.setCell p u) S e size v n xs :=
  h.kept (fun k hk => Below.heap_setCell w p u k (fun e => hne (by rw [hk, e]))) (fun k hk => (h.lt k hk).1)
theorem Has.owns {base : Nat} (h : w.ownsRow base e size v n xs) (hS : ∀ k, base ≤ k → S k) : Has w S e size v n xs := by
  refine ⟨h.1, ?_⟩
  rcases h.2 with hn | ⟨g, cap, cur, hv, hb, hg, h1, h2, h3, h4⟩
  · exact .inl hn
  · exact .inr ⟨g, cap, cur, hv, hS g hb, hg, h1, h2, by omega, h4⟩
theorem Has.cells (h : Has w S e size v n xs) {g : Nat} (hg : v.ownBlock = some g) : ∀ (j : Nat) (u : Value), xs[j]? = some u → w.cell? ⟨g, j, none⟩ = some u := by
  intro j u hu
  rcases h.2 with ⟨rfl, _⟩ | ⟨g', cap, cur, rfl, _, hgg, _, _, _, htake⟩
  · simp [Value.ownBlock] at hg
  · simp [Value.ownBlock] at hg
    subst hg
    rw [cell_of_row w g' j cur e (0, 0) hgg]
    rw [← htake, List.getElem?_take] at hu
    split at hu
    · simpa using hu
    · cases hu
theorem Has.form (h : Has w S e size v n xs) : (∃ a cap, v = .slice a n cap ∧ n ≤ cap) := by
  rcases h.2 with ⟨rfl, rfl⟩ | ⟨g, cap, cur, rfl, _, _, hc, _⟩
  · exact ⟨_, _, rfl, Nat.le_refl _⟩
  · exact ⟨_, _, rfl, hc⟩
theorem Has.there (h : Has w S e size v n xs) (hn : 0 < n) : (∃ g cap, v = .slice (some ⟨g, 0, none⟩) n cap ∧ S g ∧ g < w.heap.size ∧ n ≤ cap ∧ cap ≤ maxLen) := by
  rcases h.2 with ⟨_, h0⟩ | ⟨g, cap, cur, rfl, hS, hg, hc, hm, _⟩
  · omega
  · exact ⟨g, cap, rfl, hS, (Array.getElem?_eq_some_iff.1 hg).1, hc, hm⟩
theorem Has.frozen (h : Has w S e size v n xs) {g : Nat} (hg : v.ownBlock = some g) (j : Nat) : w.frozen? ⟨g, j, none⟩ = false := by
  rcases h.2 with ⟨rfl, _⟩ | ⟨g', cap, cur, rfl, _, hgg, _⟩
  · simp [Value.ownBlock] at hg
  · simp [Value.ownBlock] at hg
    subst hg
    simp [World.frozen?, hgg]
end

section
variable {P : Program} (w : World)
theorem grown_has (e : TypeId) (size : Nat) (z : Value) (hzs : z.cells.size = size) (N old : Nat) (h63 : N ≤ maxLen) (S : Nat → Prop) (hS : S w.heap.size) (ys : List Value) (hlen : ys.length = N * size) (A B : Array Value) (hAB : (A ++ B).toList = ys) (row : Option Nat) :
    Has (w.drew.alloc (.cells (A ++ B ++ Builtin.zeroCells z.cells (grownCap w N old e - N)) e)) S e size (.slice (some ⟨w.heap.size, 0, none⟩) N (grownCap w N old e)) N ys ∧
    w.grownBy (w.drew.alloc (.cells (A ++ B ++ Builtin.zeroCells z.cells (grownCap w N old e - N)) e)) row := by
  have hge := grownCap_ge w N old e
  have hcm := grownCap_le_maxLen w N old e h63
  have hsz : (A ++ B).size = N * size := by rw [← hlen, ← hAB]; simp
  refine ⟨⟨hlen, .inr ⟨w.heap.size, _, _, rfl, hS, heap_alloc_new w.drew _, hge, hcm, ?_, ?_⟩⟩, ⟨rfl, rfl, rfl, by simp, fun k hk _ => Below.heap_alloc w.drew _ k hk⟩⟩
  · rw [Array.size_append, hsz, size_zeroCells, hzs, ← Nat.add_mul]
    exact Nat.mul_le_mul_right _ (by omega)
  · rw [Array.toList_append, hAB, ← hlen]
    exact List.take_left

/-- append, one element at least, onto such a row. -/
theorem run_append_has (S : Nat → Prop) (t ty e : TypeId) (i : TypeInfo) (z : Value) (size bytes : Nat) (ht : P.underlying t = some (.slice e)) (hi : P.info? e = some i) (hz : i.zero = some z)
    (hsize : i.size = size) (hby : i.bytes = bytes) (hzs : z.cells.size = size)
    (v : Value) (n : Nat) (xs : List Value) (hown : Has w S e size v n xs)
    (a : Addr) (m c : Nat) (news : List Value) (hl : news.length = m * size) (hnews : ∀ j u, news[j]? = some u → w.cell? (a.add j) = some u) (h1 : ∀ u ∈ news, u.oneCell' = true)
    (hm : 0 < m) (h63 : n + m ≤ maxLen) (hbytes : ((n + m) + (n + m) / 4 + 192) * bytes ≤ 281474976710656) (hS : S w.heap.size) :
    ∃ g cap w', (Builtin.append_ #[t, t] ty #[v, .slice (some a) m c]).run P w = .ok (.slice (some ⟨g, 0, none⟩) (n + m) cap) w' ∧ Has w' S e size (.slice (some ⟨g, 0, none⟩) (n + m) cap) (n + m) (xs ++ news) ∧ w.grownBy w' v.ownBlock ∧
      (v.ownBlock = some g ∨ g = w.heap.size) := by
  subst hsize
  subst hby
  have hsmall : n + m ≤ 9223372036854775807 := by simp only [maxLen] at h63; omega
  have hlen : (xs ++ news).length = (n + m) * i.size := by rw [List.length_append, hown.1, hl, Nat.add_mul]
  rcases hown.2 with ⟨rfl, rfl⟩ | ⟨g, cap, cur, rfl, hbg, hg, hnc, hcm, hcs, htake⟩
  · have hx : xs = [] := List.eq_nil_of_length_eq_zero (by simpa using hown.1)
    subst hx
    have hr := run_append_nil (P := P) w t ty e i z ht hi hz a m c news hl hnews (by omega) (by omega) (by
      refine Nat.le_trans (Nat.mul_le_mul_right _ ?_) hbytes; omega)
    have hgr := grown_has w e i.size z hzs (0 + m) 0 h63 S hS ([] ++ news) hlen #[] news.toArray (by simp) (Value.ownBlock (.slice none 0 0))
    simp only [Nat.zero_add, List.nil_append, Array.empty_append] at hgr ⊢
    exact ⟨_, _, _, hr, hgr.1, hgr.2, .inr rfl⟩
  · by_cases hroom : n + m ≤ cap
    · have hfit : n * i.size + news.length ≤ cur.size := by rw [hl, ← Nat.add_mul]; exact Nat.le_trans (Nat.mul_le_mul_right _ hroom) hcs
      have hr := run_append_room (P := P) w t ty e i ht hi g n cap cur hg a m c news hl hnews h1 hroom hfit
      refine ⟨_, _, _, hr, ⟨hlen, .inr ⟨g, cap, _, rfl, hbg, setRow_heap w g cur _ e _ hg, hroom, hcm, ?_, ?_⟩⟩, ⟨rfl, rfl, rfl, by simp, fun k _ hk => setRow_other w g k _ (fun e => hk (by simp [Value.ownBlock, e]))⟩, .inl rfl⟩
      · simp only [List.size_toArray, List.length_append, List.length_take, List.length_drop, Array.length_toList]
        omega
      · rw [htake, ← hlen]
        exact List.take_left
    · have holds : ∀ j u, xs[j]? = some u → w.cell? ((⟨g, 0, none⟩ : Addr).add j) = some u := fun j u hu => by
        have hadd : (⟨g, 0, none⟩ : Addr).add j = ⟨g, j, none⟩ := by unfold Addr.add; split <;> simp_all
        rw [hadd]; exact hown.cells (g := g) rfl j u hu
      have hr := run_append_grow (P := P) w t ty e i z ht hi hz ⟨g, 0, none⟩ n cap xs hown.1 holds a m c news hl hnews (by omega) (by omega) (growslice_fits_wide (by omega) hbytes)
      have hgr := grown_has w e i.size z hzs (n + m) cap h63 S hS (xs ++ news) hlen xs.toArray news.toArray (by simp) (Value.ownBlock (.slice (some ⟨g, 0, none⟩) n cap))
      exact ⟨_, _, _, hr, hgr.1, hgr.2, .inr rfl⟩

theorem wp_append_has {o : Oper} {a : Act} {K : Act → World → Prop} {Q : Exit → Act → World → Prop} (s x : Operand) (t : TypeId)
    (ho : o.op = .call { callee := .builtin .append, args := #[s, x], argTypes := #[t, t] })
    (S : Nat → Prop) (e : TypeId) (i : TypeInfo) (z : Value) (size bytes : Nat) (ht : P.underlying t = some (.slice e)) (hi : P.info? e = some i) (hz : i.zero = some z)
    (hsize : i.size = size) (hby : i.bytes = bytes) (hzs : z.cells.size = size)
    (v : Value) (n : Nat) (xs : List Value) (hs : a.eval s = v) (hown : Has w S e size v n xs)
    (ad : Addr) (m c : Nat) (news : List Value) (hx : a.eval x = .slice (some ad) m c) (hl : news.length = m * size) (hnews : ∀ j u, news[j]? = some u → w.cell? (ad.add j) = some u) (h1 : ∀ u ∈ news, u.oneCell' = true)
    (hm : 0 < m) (h63 : n + m ≤ maxLen) (hbytes : ((n + m) + (n + m) / 4 + 192) * bytes ≤ 281474976710656) (hS : S w.heap.size)
    (h : ∀ g cap w', Has w' S e size (.slice (some ⟨g, 0, none⟩) (n + m) cap) (n + m) (xs ++ news) → w.grownBy w' v.ownBlock → (v.ownBlock = some g ∨ g = w.heap.size) → K (a.put o.dst (.slice (some ⟨g, 0, none⟩) (n + m) cap)) w') : o.wp P a w K Q := by
  obtain ⟨g, cap, w', hr, h2, h3, h4⟩ := run_append_has (P := P) w S t o.type e i z size bytes ht hi hz hsize hby hzs v n xs hown ad m c news hl hnews h1 hm h63 hbytes hS
  unfold Oper.wp execOp
  simp only [ho, resolve, invoke, builtin, Sem.run_bind, Sem.run_pure, Result.andThen_ok, List.map_toArray, List.map_cons, List.map_nil, hs, hx, hr]
  exact h g cap w' h2 h3 h4

theorem wpList_append_has {ops : Array Oper} {rest : List Oper} {o : Oper} {a : Act} {Q : Exit → Act → World → Prop} (hgd : o.guard = none) (s x : Operand) (t : TypeId)
    (ho : o.op = .call { callee := .builtin .append, args := #[s, x], argTypes := #[t, t] })
    (S : Nat → Prop) (e : TypeId) (i : TypeInfo) (z : Value) (size bytes : Nat) (ht : P.underlying t = some (.slice e)) (hi : P.info? e = some i) (hz : i.zero = some z)
    (hsize : i.size = size) (hby : i.bytes = bytes) (hzs : z.cells.size = size)
    (v : Value) (n : Nat) (xs : List Value) (hs : a.eval s = v) (hown : Has w S e size v n xs)
    (ad : Addr) (m c : Nat) (news : List Value) (hx : a.eval x = .slice (some ad) m c) (hl : news.length = m * size) (hnews : ∀ j u, news[j]? = some u → w.cell? (ad.add j) = some u) (h1 : ∀ u ∈ news, u.oneCell' = true)
    (hm : 0 < m) (h63 : n + m ≤ maxLen) (hbytes : ((n + m) + (n + m) / 4 + 192) * bytes ≤ 281474976710656) (hS : S w.heap.size)
    (h : ∀ g cap w', Has w' S e size (.slice (some ⟨g, 0, none⟩) (n + m) cap) (n + m) (xs ++ news) → w.grownBy w' v.ownBlock → (v.ownBlock = some g ∨ g = w.heap.size) → wpList P ops Q rest (a.put o.dst (.slice (some ⟨g, 0, none⟩) (n + m) cap)) w') : wpList P ops Q (o :: rest) a w :=
  wpList_plain hgd fun _ hK => wp_append_has w s x t ho S e i z size bytes ht hi hz hsize hby hzs v n xs hs hown ad m c news hx hl hnews h1 hm h63 hbytes hS fun g cap w' h2 h3 h4 => hK _ _ (h g cap w' h2 h3 h4)

theorem step_append_has {ops : Array Oper} {o : Oper} {a : Act} {K : Act → World → Prop} {Q : Exit → Act → World → Prop} {E : Prop} (hgd : o.guard = none) (s x : Operand) (t : TypeId)
    (ho : o.op = .call { callee := .builtin .append, args := #[s, x], argTypes := #[t, t] })
    (S : Nat → Prop) (e : TypeId) (i : TypeInfo) (z : Value) (size bytes : Nat) (ht : P.underlying t = some (.slice e)) (hi : P.info? e = some i) (hz : i.zero = some z)
    (hsize : i.size = size) (hby : i.bytes = bytes) (hzs : z.cells.size = size)
    (v : Value) (n : Nat) (xs : List Value) (hs : a.eval s = v) (hown : Has w S e size v n xs)
    (ad : Addr) (m c : Nat) (news : List Value) (hx : a.eval x = .slice (some ad) m c) (hl : news.length = m * size) (hnews : ∀ j u, news[j]? = some u → w.cell? (ad.add j) = some u) (h1 : ∀ u ∈ news, u.oneCell' = true)
    (hm : 0 < m) (h63 : n + m ≤ maxLen) (hbytes : ((n + m) + (n + m) / 4 + 192) * bytes ≤ 281474976710656) (hS : S w.heap.size)
    (h : ∀ g cap w', Has w' S e size (.slice (some ⟨g, 0, none⟩) (n + m) cap) (n + m) (xs ++ news) → w.grownBy w' v.ownBlock → (v.ownBlock = some g ∨ g = w.heap.size) → K (a.put o.dst (.slice (some ⟨g, 0, none⟩) (n + m) cap)) w') :
    if Region.wanted o (yielded ops a.tmps) = true then Oper.wp P o a w K Q else E := by
  have hw : Region.wanted o (yielded ops a.tmps) = true := by simp [Region.wanted, hgd]
  rw [if_pos hw]
  exact wp_append_has w s x t ho S e i z size bytes ht hi hz hsize hby hzs v n xs hs hown ad m c news hx hl hnews h1 hm h63 hbytes hS h

theorem wpListIn_append_has {F : Fence} {k : Nat} {ops : Array Oper} {rest : List Oper} {o : Oper} {a : Act} {Q : Exit → Act → World → Prop} (hgd : o.guard = none) (s x : Operand) (t : TypeId)
    (ho : o.op = .call { callee := .builtin .append, args := #[s, x], argTypes := #[t, t] })
    (S : Nat → Prop) (e : TypeId) (i : TypeInfo) (z : Value) (size bytes : Nat) (ht : P.underlying t = some (.slice e)) (hi : P.info? e = some i) (hz : i.zero = some z)
    (hsize : i.size = size) (hby : i.bytes = bytes) (hzs : z.cells.size = size)
    (v : Value) (n : Nat) (xs : List Value) (hs : a.eval s = v) (hown : Has w S e size v n xs)
    (ad : Addr) (m c : Nat) (news : List Value) (hx : a.eval x = .slice (some ad) m c) (hl : news.length = m * size) (hnews : ∀ j u, news[j]? = some u → w.cell? (ad.add j) = some u) (h1 : ∀ u ∈ news, u.oneCell' = true)
    (hm : 0 < m) (h63 : n + m ≤ maxLen) (hbytes : ((n + m) + (n + m) / 4 + 192) * bytes ≤ 281474976710656) (hS : S w.heap.size)
    (h : ∀ g cap w', Has w' S e size (.slice (some ⟨g, 0, none⟩) (n + m) cap) (n + m) (xs ++ news) → w.grownBy w' v.ownBlock → (v.ownBlock = some g ∨ g = w.heap.size) → wpListIn F k P ops Q rest (a.put o.dst (.slice (some ⟨g, 0, none⟩) (n + m) cap)) w') : wpListIn F k P ops Q (o :: rest) a w := by
  refine wpListIn_plain hgd fun K hK' => ?_
  obtain ⟨g, cap, w', hr, h2, h3, h4⟩ := run_append_has (P := P) w S t o.type e i z size bytes ht hi hz hsize hby hzs v n xs hown ad m c news hl hnews h1 hm h63 hbytes hS
  unfold Oper.wpIn
  refine ⟨?_, ?_⟩
  · simp [Oper.about, ho, resolve, Target.leads, Sem.run_pure]
  · rw [Oper.semAt_plain F _ _ (by rw [ho]; intro c hc'; cases hc')]
    simp [execOp, ho, resolve, invoke, builtin, hs, hx, hr, Result.andThen]
    exact hK' _ _ (h g cap w' h2 h3 h4)
end
end Go.Proofs.YtnapnhmmopajfaaGreat.Mr
/-
  A MEMORY of the program as it lies in the world; New, Size, Count, has, Now, Words by their contracts.
-/
namespace Go.Proofs.YtnapnhmmopajfaaGreat.Me
open Go.RowKit Mr

/-- An access, as the log has it. -/
structure Acc where
  mv : Int
  th : Int
  kd : Int
  ad : Int
  old : Int
  new : Int
  saw : Int
def Acc.cells (a : Acc) : List Value := [.int .i64 a.mv, .int .i64 a.th, .int .i64 a.kd, .int .i64 a.ad, .int .u64 a.old, .int .u64 a.new, .int .u64 a.saw]
def Acc.val (a : Acc) : Value := .agg #[.int .i64 a.mv, .int .i64 a.th, .int .i64 a.kd, .int .i64 a.ad, .int .u64 a.old, .int .u64 a.new, .int .u64 a.saw]
def wrd (ws : List Int) : List Value := ws.map (Value.int .u64)
def lgc (lg : List Acc) : List Value := lg.flatMap Acc.cells
theorem wrd_length (ws : List Int) : (wrd ws).length = ws.length := by simp [wrd]
theorem lgc_length (lg : List Acc) : (lgc lg).length = lg.length * 7 := by
  induction lg with
  | nil => rfl
  | cons a l ih => simp only [lgc, List.flatMap_cons, List.length_append, List.length_cons] at ih ⊢; rw [ih]; simp [Acc.cells]; omega
theorem wrd_get (ws : List Int) (j : Nat) (h : j < ws.length) : (wrd ws)[j]? = some (.int .u64 (ws[j]?.getD 0)) := by simp [wrd, h]
theorem wrd_one (ws : List Int) : ∀ u ∈ wrd ws, u.oneCell' = true := by
  intro u hu; simp only [wrd, List.mem_map] at hu; obtain ⟨x, _, rfl⟩ := hu; rfl
theorem lgc_snoc (lg : List Acc) (a : Acc) : lgc (lg ++ [a]) = lgc lg ++ a.cells := by simp [lgc]
theorem wrd_snoc (ws : List Int) (x : Int) : wrd (ws ++ [x]) = wrd ws ++ [.int .u64 x] := by simp [wrd]

structure Mem (W : World) (S : Nat → Prop) (b : Nat) (vw vl va : Value) (ws : List Int) (mv : Int) (lg : List Acc) (ah : List Int) : Prop where
  blk : W.heap[b]? = some (.cells #[vw, .int .i64 mv, vl, va] 124 (0, 0))
  inb : S b
  hw : Has W S 63 1 vw ws.length (wrd ws)
  hl : Has W S 65 7 vl lg.length (lgc lg)
  ha : Has W S 63 1 va ah.length (wrd ah)
  ne : ∀ k, vw.ownBlock = some k → va.ownBlock ≠ some k
  len : ws.length ≤ 8192

section
variable {W : World} {S : Nat → Prop} {b : Nat} {vw vl va : Value} {ws : List Int} {mv : Int} {lg : List Acc} {ah : List Int}
theorem Mem.lt (h : Mem W S b vw vl va ws mv lg ah) : b < W.heap.size := (Array.getElem?_eq_some_iff.1 h.blk).1
theorem Mem.c0 (h : Mem W S b vw vl va ws mv lg ah) : W.cell? ⟨b, 0, none⟩ = some vw := by simp [World.cell?, h.blk]
theorem Mem.c1 (h : Mem W S b vw vl va ws mv lg ah) : W.cell? ⟨b, 1, none⟩ = some (.int .i64 mv) := by simp [World.cell?, h.blk]
theorem Mem.c2 (h : Mem W S b vw vl va ws mv lg ah) : W.cell? ⟨b, 2, none⟩ = some vl := by simp [World.cell?, h.blk]
theorem Mem.c3 (h : Mem W S b vw vl va ws mv lg ah) : W.cell? ⟨b, 3, none⟩ = some va := by simp [World.cell?, h.blk]
theorem Mem.fz (h : Mem W S b vw vl va ws mv lg ah) (o : Nat) : W.frozen? ⟨b, o, none⟩ = false := by simp [World.frozen?, h.blk]
theorem Mem.mono {T : Nat → Prop} (h : Mem W S b vw vl va ws mv lg ah) (hT : ∀ k, S k → T k) : Mem W T b vw vl va ws mv lg ah :=
  ⟨h.blk, hT b h.inb, h.hw.mono hT, h.hl.mono hT, h.ha.mono hT, h.ne, h.len⟩
theorem Mem.kept {W' : World} (h : Mem W S b vw vl va ws mv lg ah) (hk : ∀ k, S k → k < W.heap.size → W'.heap[k]? = W.heap[k]?) : Mem W' S b vw vl va ws mv lg ah :=
  ⟨(hk b h.inb h.lt).trans h.blk, h.inb, h.hw.kept (fun k e => hk k (h.hw.lt k e).1 (h.hw.lt k e).2) (fun k e => (h.hw.lt k e).1),
    h.hl.kept (fun k e => hk k (h.hl.lt k e).1 (h.hl.lt k e).2) (fun k e => (h.hl.lt k e).1), h.ha.kept (fun k e => hk k (h.ha.lt k e).1 (h.ha.lt k e).2) (fun k e => (h.ha.lt k e).1), h.ne, h.len⟩
theorem Mem.below {W' : World} (h : Mem W S b vw vl va ws mv lg ah) (hb : Below W.heap.size W W') : Mem W' S b vw vl va ws mv lg ah :=
  h.kept fun k _ hk => hb.block k hk
theorem Mem.fr {W' : World} {T : Nat → Prop} (h : Mem W S b vw vl va ws mv lg ah) (hb : Fr W W' T) (hd : ∀ k, S k → k < W.heap.size → ¬ T k) : Mem W' S b vw vl va ws mv lg ah :=
  h.kept fun k hs hk => hb.block k hk (hd k hs hk)
/-- S narrowed to the blocks that there are. -/
theorem Mem.narrow (h : Mem W S b vw vl va ws mv lg ah) : Mem W (fun k => S k ∧ k < W.heap.size) b vw vl va ws mv lg ah :=
  ⟨h.blk, ⟨h.inb, h.lt⟩, h.hw.kept (fun _ _ => rfl) (fun k e => h.hw.lt k e), h.hl.kept (fun _ _ => rfl) (fun k e => h.hl.lt k e), h.ha.kept (fun _ _ => rfl) (fun k e => h.ha.lt k e), h.ne, h.len⟩
theorem Mem.bw (h : Mem W S b vw vl va ws mv lg ah) : vw.ownBlock ≠ some b := fun e => by
  rcases h.hw.2 with ⟨rfl, _⟩ | ⟨g, _, cur, rfl, _, hg, _⟩
  · simp [Value.ownBlock] at e
  · simp [Value.ownBlock] at e; subst e; rw [h.blk] at hg; simp at hg
theorem Mem.bl (h : Mem W S b vw vl va ws mv lg ah) : vl.ownBlock ≠ some b := fun e => by
  rcases h.hl.2 with ⟨rfl, _⟩ | ⟨g, _, cur, rfl, _, hg, _⟩
  · simp [Value.ownBlock] at e
  · simp [Value.ownBlock] at e; subst e; rw [h.blk] at hg; simp at hg
theorem Mem.ba (h : Mem W S b vw vl va ws mv lg ah) : va.ownBlock ≠ some b := fun e => by
  rcases h.ha.2 with ⟨rfl, _⟩ | ⟨g, _, cur, rfl, _, hg, _⟩
  · simp [Value.ownBlock] at e
  · simp [Value.ownBlock] at e; subst e; rw [h.blk] at hg; simp at hg
end
theorem has_ne {W : World} {S T : Nat → Prop} {e f sz tz n m : Nat} {u v : Value} {xs ys : List Value} (h : Has W S e sz u n xs) (h' : Has W T f tz v m ys) (hef : e ≠ f) : ∀ k, u.ownBlock = some k → v.ownBlock ≠ some k := by
  intro k hu hv
  rcases h.2 with ⟨rfl, _⟩ | ⟨g, _, cur, rfl, _, hg, _⟩
  · simp [Value.ownBlock] at hu
  · rcases h'.2 with ⟨rfl, _⟩ | ⟨g', _, cur', rfl, _, hg', _⟩
    · simp [Value.ownBlock] at hv
    · simp [Value.ownBlock] at hu hv
      subst hu; subst hv
      rw [hg] at hg'; simp at hg'
      exact hef hg'.2

/-! ### contracts -/
section
variable {W : World} {S : Nat → Prop} {b : Nat} {vw vl va : Value} {ws : List Int} {mv : Int} {lg : List Acc} {ah : List Int}
theorem size_any (h : Mem W S b vw vl va ws mv lg ah) :
    Calls Tryz.prog 100 #[.pointer (some ⟨b, 0, none⟩)] W fun e w' => e = .returned (.int .i64 ws.length) ∧ w' = W := by
  obtain ⟨a, cap, rfl, _⟩ := h.hw.form
  have h0 := h.c0
  clear h
  go_enter Tryz.func100, Tryz.ntmps100
  go_wp2
  go_ret
  exact ⟨rfl, rfl⟩
theorem size_nil (w : World) :
    Calls Tryz.prog 100 #[.pointer none] w fun e w' => e = .returned (.int .i64 0) ∧ w' = w := by
  go_enter Tryz.func100, Tryz.ntmps100
  go_wp2
  go_ret
  exact ⟨rfl, rfl⟩
theorem count_any (h : Mem W S b vw vl va ws mv lg ah) :
    Calls Tryz.prog 56 #[.pointer (some ⟨b, 0, none⟩)] W fun e w' => e = .returned (.int .i64 lg.length) ∧ w' = W := by
  obtain ⟨a, cap, rfl, _⟩ := h.hl.form
  have h0 := h.c2
  clear h
  go_enter Tryz.func56, Tryz.ntmps56
  go_wp2
  go_ret
  exact ⟨rfl, rfl⟩
theorem count_nil (w : World) :
    Calls Tryz.prog 56 #[.pointer none] w fun e w' => e = .returned (.int .i64 0) ∧ w' = w := by
  go_enter Tryz.func56, Tryz.ntmps56
  go_wp2
  go_ret
  exact ⟨rfl, rfl⟩
theorem has_yes (h : Mem W S b vw vl va ws mv lg ah) (ad : Int) (h0 : 0 ≤ ad) (h1 : ad < ws.length) :
    Calls Tryz.prog 92 #[.pointer (some ⟨b, 0, none⟩), .int .i64 ad] W fun e w' => e = .returned (.bool true) ∧ w' = W := by
  have C := size_any h
  generalize ws.length = n at *
  clear h
  go_enter Tryz.func92, Tryz.ntmps92
  go_wp2_with (go_at_call 100; refine C.mono ?_; rintro e w' ⟨rfl, rfl⟩)
  go_ret
  exact ⟨rfl, rfl⟩
theorem has_no (h : Mem W S b vw vl va ws mv lg ah) (ad : Int) (h0 : ad < 0 ∨ ws.length ≤ ad) :
    Calls Tryz.prog 92 #[.pointer (some ⟨b, 0, none⟩), .int .i64 ad] W fun e w' => e = .returned (.bool false) ∧ w' = W := by
  have C := size_any h
  generalize ws.length = n at *
  clear h
  by_cases h1 : 0 ≤ ad
  · have h2 : decide (ad < (n : Int)) = false := by simp; omega
    clear h0
    go_enter Tryz.func92, Tryz.ntmps92
    go_wp2_with (go_at_call 100; refine C.mono ?_; rintro e w' ⟨rfl, rfl⟩)
    go_ret
    exact ⟨rfl, rfl⟩
  · have h2 : ad < 0 := by omega
    clear h0 h1 C
    go_enter Tryz.func92, Tryz.ntmps92
    go_wp2
    go_ret
    exact ⟨rfl, rfl⟩
theorem has_nil (ad : Int) (w : World) :
    Calls Tryz.prog 92 #[.pointer none, .int .i64 ad] w fun e w' => e = .returned (.bool false) ∧ w' = w := by
  by_cases h1 : 0 ≤ ad
  · have h2 : decide (ad < 0) = false := by simp; omega
    go_enter Tryz.func92, Tryz.ntmps92
    go_wp2_with (go_at_call 100; refine (size_nil _).mono ?_; rintro e w' ⟨rfl, rfl⟩)
    go_ret
    exact ⟨rfl, rfl⟩
  · have h2 : ad < 0 := by omega
    clear h1
    go_enter Tryz.func92, Tryz.ntmps92
    go_wp2
    go_ret
    exact ⟨rfl, rfl⟩
theorem now_any (h : Mem W S b vw vl va ws mv lg ah) (x : Int) :
    Calls Tryz.prog 91 #[.pointer (some ⟨b, 0, none⟩), .int .i64 x] W fun e w' => e = .returned (.tuple #[]) ∧ Mem w' S b vw vl va ws x lg ah ∧ Fr W w' S := by
  have h0 := h.c1
  have f0 := h.fz 1
  have fin : Mem (W.setCell ⟨b, 1, none⟩ (.int .i64 x)) S b vw vl va ws x lg ah ∧ Fr W (W.setCell ⟨b, 1, none⟩ (.int .i64 x)) S := by
    refine ⟨⟨?_, h.inb, h.hw.setCell _ _ (h.bw), h.hl.setCell _ _ (h.bl), h.ha.setCell _ _ (h.ba), h.ne, h.len⟩, (Fr.refl _ _).setCell _ _ (.inl h.inb)⟩
    obtain ⟨hlt, hk⟩ := Array.getElem?_eq_some_iff.1 h.blk
    show (W.heap.modify b _)[b]? = _
    rw [Array.getElem?_eq_getElem (by rw [Array.size_modify]; exact hlt), Array.getElem_modify_self, hk]
    rfl
  clear h
  go_enter Tryz.func91, Tryz.ntmps91
  go_wp2
  go_end0
  exact ⟨rfl, fin⟩
theorem now_nil (x : Int) (w : World) :
    Calls Tryz.prog 91 #[.pointer none, .int .i64 x] w fun e w' => e = .returned (.tuple #[]) ∧ w' = w := by
  go_enter Tryz.func91, Tryz.ntmps91
  go_wp2
  go_end0
  exact ⟨rfl, rfl⟩
end
end Go.Proofs.YtnapnhmmopajfaaGreat.Me
