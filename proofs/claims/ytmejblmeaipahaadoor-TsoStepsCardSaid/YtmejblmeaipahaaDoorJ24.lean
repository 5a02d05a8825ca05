import Derived.Test.YtmejblmeaipahaaDoorJ19
import Derived.Test.YtmejblmeaipahaaDoorJ18
/-
  TSO: the document's state in memory of its own.
-/
namespace Go.Proofs.YtmejblmeaipahaaDoor.Ts
open Go.RowKit Mr
set_option linter.unusedVariables false
set_option linter.unusedSimpArgs false
set_option maxRecDepth 100000
def pdV (b : List Pd) : List Value := b.flatMap fun p => [.int .i64 p.ad, .int .i64 p.vl]
theorem pdV_len (b : List Pd) : (pdV b).length = b.length * 2 := by
  induction b with
  | nil => rfl
  | cons p b ih => simp only [pdV, List.flatMap_cons, List.length_append, List.length_cons, List.length_nil] at ih ⊢; omega
theorem pdV_append (a b : List Pd) : pdV (a ++ b) = pdV a ++ pdV b := by simp [pdV]
theorem pdV_one (b : List Pd) : ∀ u ∈ pdV b, u.oneCell' = true := by
  intro u hu
  simp only [pdV, List.mem_flatMap, List.mem_cons, List.not_mem_nil, or_false] at hu
  obtain ⟨p, -, rfl | rfl⟩ := hu <;> rfl
theorem pdV_get : ∀ (b : List Pd) (j : Nat) (p : Pd), b[j]? = some p → (pdV b)[j * 2]? = some (.int .i64 p.ad) ∧ (pdV b)[j * 2 + 1]? = some (.int .i64 p.vl)
  | [], j, p, h => by simp at h
  | x :: b, 0, p, h => by simp at h; subst h; exact ⟨rfl, rfl⟩
  | x :: b, j + 1, p, h => by
    have ih := pdV_get b j p (by simpa using h)
    rw [show (j + 1) * 2 = j * 2 + 1 + 1 by omega]
    exact ih
theorem pdV_at (b : List Pd) (q : Nat) (u : Value) (h : (pdV b)[q]? = some u) : ∃ j p, b[j]? = some p ∧ ((q = j * 2 ∧ u = .int .i64 p.ad) ∨ (q = j * 2 + 1 ∧ u = .int .i64 p.vl)) := by
  have hq : q < b.length * 2 := by rw [← pdV_len]; exact (List.getElem?_eq_some_iff.1 h).1
  have hj : q / 2 < b.length := by omega
  have hp : b[q / 2]? = some b[q / 2] := List.getElem?_eq_getElem hj
  obtain ⟨h0, h1⟩ := pdV_get b (q / 2) _ hp
  refine ⟨q / 2, _, hp, ?_⟩
  by_cases e : q % 2 = 0
  · have e2 : q = q / 2 * 2 := by omega
    rw [← e2, h] at h0; cases h0; exact .inl ⟨e2, rfl⟩
  · have e2 : q = q / 2 * 2 + 1 := by omega
    rw [← e2, h] at h1; cases h1; exact .inr ⟨e2, rfl⟩
theorem PdAt.ofHas {W : World} {S : Nat → Prop} {g n cap : Nat} {b : List Pd} (h : Has W S 70 2 (.slice (some ⟨g, 0, none⟩) n cap) n (pdV b)) : PdAt W (some ⟨g, 0, none⟩) n b := by
  have hl := h.1
  rw [pdV_len] at hl
  refine ⟨by omega, .inr ⟨g, 0, rfl, (h.lt g rfl).2, fun j p hj => ?_⟩⟩
  obtain ⟨e0, e1⟩ := pdV_get b j p hj
  rw [Nat.zero_add]
  exact ⟨h.cells (g := g) rfl _ _ e0, h.cells (g := g) rfl _ _ e1⟩
theorem has_pd {W : World} {S : Nat → Prop} {v : Value} {b : List Pd} (h : Has W S 70 2 v b.length (pdV b)) : ∃ a c, v = .slice a b.length c ∧ b.length ≤ c ∧ PdAt W a b.length b ∧ (∀ g, v.ownBlock = some g → a = some ⟨g, 0, none⟩) := by
  rcases h.2 with ⟨rfl, h0⟩ | ⟨g, cap, cur, rfl, hS, hg, hc, hm, hs, ht⟩
  · exact ⟨none, 0, by rw [h0], by omega, ⟨rfl, .inl (List.eq_nil_of_length_eq_zero h0)⟩, fun g e => by simp [Value.ownBlock] at e⟩
  · exact ⟨_, cap, rfl, hc, PdAt.ofHas h, fun g' e => by simp [Value.ownBlock] at e; rw [e]⟩
/-- append of stores, some or none, onto a row of stores. -/
theorem wp_app_pd {w : World} {o : Oper} {a : Act} {K : Act → World → Prop} {Q : Exit → Act → World → Prop} (s x : Operand)
    (ho : o.op = .call { callee := .builtin .append, args := #[s, x], argTypes := #[68, 68] }) (S : Nat → Prop) (v : Value) (m0 : Nat) (xs : List Pd) (hs : a.eval s = v) (hm0 : m0 = xs.length) (hE : Has w S 70 2 v m0 (pdV xs))
    (a1 : Option Addr) (n1 k1 : Nat) (ys : List Pd) (hx : a.eval x = .slice a1 n1 k1) (hP : PdAt w a1 n1 ys) (hz : xs.length + n1 ≤ 1000000) (hS : S w.heap.size)
    (h : ∀ a2 c2 m w', Hid (m = (xs ++ ys).length) → Has w' S 70 2 (.slice a2 m c2) m (pdV (xs ++ ys)) → w.grownBy w' v.ownBlock → (v.ownBlock = (Value.slice a2 m c2).ownBlock ∨ (Value.slice a2 m c2).ownBlock = some w.heap.size) → K (a.put o.dst (.slice a2 m c2)) w') : o.wp Tryd.prog a w K Q := by
  obtain ⟨nn, hnn, hn0, hn1, hn2⟩ := info_p
  have hl := hP.1
  subst hm0
  by_cases h0 : n1 = 0
  · subst h0
    have hc : ys = [] := List.eq_nil_of_length_eq_zero (by omega)
    subst hc
    obtain ⟨a', c', rfl, hle⟩ := hE.form
    refine wp_append_zero s x 68 ho 70 nn Tryd.underlying68 hnn _ _ _ hle hs _ _ hx ?_
    exact h a' c' xs.length w (show _ = _ by simp) (by simpa using hE) ⟨rfl, rfl, rfl, Nat.le_refl _, fun _ _ _ => rfl⟩ (.inl rfl)
  · have hne : ys ≠ [] := fun e => h0 (by rw [hl, e]; rfl)
    obtain ⟨g, q, rfl, hg, hcc⟩ := hP.2.resolve_left hne
    refine wp_append_has _ s x 68 ho S 70 nn _ 2 16 Tryd.underlying68 hnn hn0 hn1 hn2 rfl v xs.length (pdV xs) hs hE ⟨g, q, none⟩ n1 k1 (pdV ys) hx (by rw [pdV_len, hl]) ?_ (pdV_one ys) (by omega) (by unfold maxLen; omega) (by omega) hS ?_
    · intro j u hu
      obtain ⟨j', p, hp, ⟨rfl, rfl⟩ | ⟨rfl, rfl⟩⟩ := pdV_at ys j u hu
      · rw [add1]; exact (hcc j' p hp).1
      · rw [add1, show q + (j' * 2 + 1) = q + j' * 2 + 1 by omega]; exact (hcc j' p hp).2
    · intro g2 cap2 w3 hh3 hgr hgg
      rw [← pdV_append] at hh3
      refine h _ _ _ w3 (show _ = _ by simp; omega) hh3 hgr ?_
      rcases hgg with e1 | e1
      · exact .inl e1
      · exact .inr (by rw [e1]; rfl)
/-- Where a state's parts lie. -/
structure Gs where
  p : Nat
  g1 : Nat
  g2 : Nat
  g3 : Nat
  g4 : Nat
  c1 : Nat
  c2 : Nat
  c3 : Nat
  c4 : Nat
def Gs.out (G : Gs) (B k : Nat) : Prop := B ≤ k ∧ k ≠ G.p ∧ k ≠ G.g1 ∧ k ≠ G.g2 ∧ k ≠ G.g3 ∧ k ≠ G.g4
structure Gs.ok (G : Gs) (B : Nat) : Prop where
  le : B ≤ G.p ∧ B ≤ G.g1 ∧ B ≤ G.g2 ∧ B ≤ G.g3 ∧ B ≤ G.g4
  np : G.p ≠ G.g1 ∧ G.p ≠ G.g2 ∧ G.p ≠ G.g3 ∧ G.p ≠ G.g4
  n1 : G.g1 ≠ G.g2 ∧ G.g1 ≠ G.g3 ∧ G.g1 ≠ G.g4
  n2 : G.g2 ≠ G.g3 ∧ G.g2 ≠ G.g4 ∧ G.g3 ≠ G.g4
/-- A state of the document, in memory of its own. -/
structure Ds (W : World) (B : Nat) (G : Gs) (s : Sv) (nw nt : Nat) : Prop where
  blk : W.heap[G.p]? = some (.cells #[.slice (some ⟨G.g1, 0, none⟩) nw G.c1, .slice (some ⟨G.g2, 0, none⟩) nt G.c2, .slice (some ⟨G.g3, 0, none⟩) nt G.c3, .slice (some ⟨G.g4, 0, none⟩) nt G.c4] 32 (0, 0))
  h1 : ∃ A : Array Value, W.heap[G.g1]? = some (.cells A 3 (0, 0)) ∧ ∀ (j : Nat) (x : Int), s.ws[j]? = some x → A[j]? = some (.int .i64 x)
  h2 : ∃ A : Array Value, W.heap[G.g2]? = some (.cells A 67 (0, 0)) ∧ ∀ (t : Nat) (r : Rg), s.rg[t]? = some r → ∀ k : Nat, k < 4 → A[t * 4 + k]? = some (.int .i64 (r.get k))
  h3 : ∃ A : Array Value, W.heap[G.g3]? = some (.cells A 3 (0, 0)) ∧ ∀ (j : Nat) (x : Int), s.pl[j]? = some x → A[j]? = some (.int .i64 x)
  h4 : ∃ A : Array Value, W.heap[G.g4]? = some (.cells A 68 (0, 0)) ∧ (∀ (t : Nat) (b : List Pd), s.bf[t]? = some b → ∃ v, A[t]? = some v ∧ Has W (G.out B) 70 2 v b.length (pdV b)) ∧ ∀ (t t' : Nat) (v v' : Value) (k : Nat), t < nt → t' < nt → t ≠ t' → A[t]? = some v → A[t']? = some v' → v.ownBlock = some k → v'.ownBlock ≠ some k
  len : s.ws.length = nw ∧ s.rg.length = nt ∧ s.pl.length = nt ∧ s.bf.length = nt
  ok : G.ok B
section
variable {W W' : World} {B : Nat} {G : Gs} {s : Sv} {nw nt : Nat}
theorem Ds.lts (h : Ds W B G s nw nt) : G.p < W.heap.size ∧ G.g1 < W.heap.size ∧ G.g2 < W.heap.size ∧ G.g3 < W.heap.size ∧ G.g4 < W.heap.size := by
  obtain ⟨A1, a1, -⟩ := h.h1
  obtain ⟨A2, a2, -⟩ := h.h2
  obtain ⟨A3, a3, -⟩ := h.h3
  obtain ⟨A4, a4, -⟩ := h.h4
  exact ⟨(Array.getElem?_eq_some_iff.1 h.blk).1, (Array.getElem?_eq_some_iff.1 a1).1, (Array.getElem?_eq_some_iff.1 a2).1, (Array.getElem?_eq_some_iff.1 a3).1, (Array.getElem?_eq_some_iff.1 a4).1⟩
theorem Ds.below (h : Ds W B G s nw nt) (hB : Below W.heap.size W W') : Ds W' B G s nw nt := by
  obtain ⟨l0, l1, l2, l3, l4⟩ := h.lts
  obtain ⟨A1, a1, b1⟩ := h.h1
  obtain ⟨A2, a2, b2⟩ := h.h2
  obtain ⟨A3, a3, b3⟩ := h.h3
  obtain ⟨A4, a4, b4, d4⟩ := h.h4
  exact ⟨(hB.block _ l0).trans h.blk, ⟨A1, (hB.block _ l1).trans a1, b1⟩, ⟨A2, (hB.block _ l2).trans a2, b2⟩, ⟨A3, (hB.block _ l3).trans a3, b3⟩, ⟨A4, (hB.block _ l4).trans a4, fun t b hb => by
    obtain ⟨v, hv, hH⟩ := b4 t b hb
    exact ⟨v, hv, hH.below hB⟩, d4⟩, h.len, h.ok⟩
theorem Ds.new (h : Ds W B G s nw nt) (hB : B ≤ W.heap.size) : G.out B W.heap.size := by
  obtain ⟨l0, l1, l2, l3, l4⟩ := h.lts
  exact ⟨hB, by omega, by omega, by omega, by omega, by omega⟩
theorem set_get {A : Array Value} {j k : Nat} {u v : Value} (hk : A[k]? = some v) : (A.setIfInBounds j u)[k]? = if k = j then some u else A[k]? := by
  have hl := (Array.getElem?_eq_some_iff.1 hk).1
  by_cases e : j = k
  · subst e; rw [if_pos rfl, Array.getElem?_setIfInBounds, if_pos rfl, if_pos hl]
  · rw [if_neg (Ne.symm e), Array.getElem?_setIfInBounds_ne e]
theorem md_heap {g j : Nat} {cs : Array Value} {T : TypeId} {u : Value} (h : W.heap[g]? = some (.cells cs T (0, 0))) : (W.setCell ⟨g, j, none⟩ u).heap[g]? = some (.cells (cs.setIfInBounds j u) T (0, 0)) := by
  show (W.heap.modify g _)[g]? = _
  rw [Array.getElem?_modify, if_pos rfl, h]
  rfl
theorem Ds.setW (h : Ds W B G s nw nt) (ad : Nat) (x : Int) : Ds (W.setCell ⟨G.g1, ad, none⟩ (.int .i64 x)) B G { s with ws := s.ws.set ad x } nw nt := by
  obtain ⟨o1, o2, o3, o4⟩ := h.ok
  have bk : ∀ {k : Nat} {o : Obj}, k ≠ G.g1 → W.heap[k]? = some o → (W.setCell ⟨G.g1, ad, none⟩ (.int .i64 x)).heap[k]? = some o := fun hk e => (Below.heap_setCell _ _ _ _ hk).trans e
  obtain ⟨A1, a1, b1⟩ := h.h1
  obtain ⟨A2, a2, b2⟩ := h.h2
  obtain ⟨A3, a3, b3⟩ := h.h3
  obtain ⟨A4, a4, b4, d4⟩ := h.h4
  refine ⟨bk (by omega) h.blk, ⟨_, md_heap a1, fun j y hj => ?_⟩, ⟨A2, bk (by omega) a2, b2⟩, ⟨A3, bk (by omega) a3, b3⟩, ⟨A4, bk (by omega) a4, fun t b hb => ?_, d4⟩, by simpa using h.len, h.ok⟩
  · rw [List.getElem?_set] at hj
    by_cases e : ad = j
    · subst e
      rw [if_pos rfl] at hj
      split at hj
      · rename_i hl
        cases hj
        rw [set_get (b1 ad _ (List.getElem?_eq_getElem hl)), if_pos rfl]
      · cases hj
    · rw [if_neg e] at hj
      rw [set_get (b1 j _ hj), if_neg (Ne.symm e)]; exact b1 j _ hj
  · obtain ⟨v, hv, hH⟩ := b4 t b hb
    exact ⟨v, hv, hH.setCell _ _ (fun e => (hH.lt _ e).1.2.2.1 rfl)⟩
theorem Ds.setR (h : Ds W B G s nw nt) {t n : Nat} {r : Rg} (hr : s.rg[t]? = some r) (hn : n < 4) (x : Int) : Ds (W.setCell ⟨G.g2, t * 4 + n, none⟩ (.int .i64 x)) B G { s with rg := s.rg.set t (r.put n x) } nw nt := by
  obtain ⟨o1, o2, o3, o4⟩ := h.ok
  have bk : ∀ {k : Nat} {o : Obj}, k ≠ G.g2 → W.heap[k]? = some o → (W.setCell ⟨G.g2, t * 4 + n, none⟩ (.int .i64 x)).heap[k]? = some o := fun hk e => (Below.heap_setCell _ _ _ _ hk).trans e
  obtain ⟨A1, a1, b1⟩ := h.h1
  obtain ⟨A2, a2, b2⟩ := h.h2
  obtain ⟨A3, a3, b3⟩ := h.h3
  obtain ⟨A4, a4, b4, d4⟩ := h.h4
  refine ⟨bk (by omega) h.blk, ⟨A1, bk (by omega) a1, b1⟩, ⟨_, md_heap a2, fun j y hj k hk => ?_⟩, ⟨A3, bk (by omega) a3, b3⟩, ⟨A4, bk (by omega) a4, fun t b hb => ?_, d4⟩, by simpa using h.len, h.ok⟩
  · rw [List.getElem?_set] at hj
    by_cases e : t = j
    · subst e
      rw [if_pos rfl] at hj
      split at hj
      · cases hj
        rw [set_get (b2 t r hr k hk), Rg.get_put _ _ _ _ hn]
        by_cases e2 : k = n
        · rw [if_pos e2, if_pos (by omega)]
        · rw [if_neg e2, if_neg (by omega)]; exact b2 t r hr k hk
      · cases hj
    · rw [if_neg e] at hj
      rw [set_get (b2 j _ hj k hk), if_neg (by omega)]; exact b2 j _ hj k hk
  · obtain ⟨v, hv, hH⟩ := b4 t b hb
    exact ⟨v, hv, hH.setCell _ _ (fun e => (hH.lt _ e).1.2.2.2.1 rfl)⟩
theorem Ds.setP (h : Ds W B G s nw nt) (t : Nat) (x : Int) : Ds (W.setCell ⟨G.g3, t, none⟩ (.int .i64 x)) B G { s with pl := s.pl.set t x } nw nt := by
  obtain ⟨o1, o2, o3, o4⟩ := h.ok
  have bk : ∀ {k : Nat} {o : Obj}, k ≠ G.g3 → W.heap[k]? = some o → (W.setCell ⟨G.g3, t, none⟩ (.int .i64 x)).heap[k]? = some o := fun hk e => (Below.heap_setCell _ _ _ _ hk).trans e
  obtain ⟨A1, a1, b1⟩ := h.h1
  obtain ⟨A2, a2, b2⟩ := h.h2
  obtain ⟨A3, a3, b3⟩ := h.h3
  obtain ⟨A4, a4, b4, d4⟩ := h.h4
  refine ⟨bk (by omega) h.blk, ⟨A1, bk (by omega) a1, b1⟩, ⟨A2, bk (by omega) a2, b2⟩, ⟨_, md_heap a3, fun j y hj => ?_⟩, ⟨A4, bk (by omega) a4, fun t b hb => ?_, d4⟩, by simpa using h.len, h.ok⟩
  · rw [List.getElem?_set] at hj
    by_cases e : t = j
    · subst e
      rw [if_pos rfl] at hj
      split at hj
      · rename_i hl
        cases hj
        rw [set_get (b3 t _ (List.getElem?_eq_getElem hl)), if_pos rfl]
      · cases hj
    · rw [if_neg e] at hj
      rw [set_get (b3 j _ hj), if_neg (Ne.symm e)]; exact b3 j _ hj
  · obtain ⟨v, hv, hH⟩ := b4 t b hb
    exact ⟨v, hv, hH.setCell _ _ (fun e => (hH.lt _ e).1.2.2.2.2.1 rfl)⟩
/-- A thread's buffer is another row: the thread's old row may have been written, or new memory. -/
theorem Ds.setB (h : Ds W B G s nw nt) {t : Nat} (ht : t < nt) {v u : Value} {b' : List Pd} (hv : ∀ A : Array Value, W.heap[G.g4]? = some (.cells A 68 (0, 0)) → A[t]? = some v) (hK : ∀ k, k < W.heap.size → v.ownBlock ≠ some k → W'.heap[k]? = W.heap[k]?) (hsz : W.heap.size ≤ W'.heap.size)
    (hH : Has W' (G.out B) 70 2 u b'.length (pdV b')) (hu : u.ownBlock = v.ownBlock ∨ ∀ k, u.ownBlock = some k → W.heap.size ≤ k) : Ds (W'.setCell ⟨G.g4, t, none⟩ u) B G { s with bf := s.bf.set t b' } nw nt := by
  obtain ⟨o1, o2, o3, o4⟩ := h.ok
  obtain ⟨l0, l1, l2, l3, l4⟩ := h.lts
  obtain ⟨A1, a1, b1⟩ := h.h1
  obtain ⟨A2, a2, b2⟩ := h.h2
  obtain ⟨A3, a3, b3⟩ := h.h3
  obtain ⟨A4, a4, b4, d4⟩ := h.h4
  have hlb := h.len.2.2.2
  have hvt := hv A4 a4
  obtain ⟨b0, hb0⟩ : ∃ b0, s.bf[t]? = some b0 := ⟨_, List.getElem?_eq_getElem (by omega)⟩
  obtain ⟨v0, hv0, hH0⟩ := b4 t b0 hb0
  rw [hvt] at hv0; cases hv0
  have vn : ∀ k, v.ownBlock = some k → k ≠ G.p ∧ k ≠ G.g1 ∧ k ≠ G.g2 ∧ k ≠ G.g3 ∧ k ≠ G.g4 := fun k e => (hH0.lt k e).1.2
  have bk : ∀ {k : Nat} {o : Obj}, k ≠ G.g4 → v.ownBlock ≠ some k → W.heap[k]? = some o → (W'.setCell ⟨G.g4, t, none⟩ u).heap[k]? = some o := fun hk hvk e => (Below.heap_setCell _ _ _ _ hk).trans ((hK _ (Array.getElem?_eq_some_iff.1 e).1 hvk).trans e)
  have nv : ∀ {k : Nat}, (k = G.p ∨ k = G.g1 ∨ k = G.g2 ∨ k = G.g3 ∨ k = G.g4) → v.ownBlock ≠ some k := fun hk e => by have := vn _ e; omega
  refine ⟨bk (by omega) (nv (by simp)) h.blk, ⟨A1, bk (by omega) (nv (by simp)) a1, b1⟩, ⟨A2, bk (by omega) (nv (by simp)) a2, b2⟩, ⟨A3, bk (by omega) (nv (by simp)) a3, b3⟩, ⟨A4.setIfInBounds t u, md_heap ((hK _ l4 (nv (by simp))).trans a4), fun j b hb => ?_, fun j j' x x' k hj hj' hne hx hx' hxk => ?_⟩, by simpa using h.len, h.ok⟩
  · rw [List.getElem?_set] at hb
    by_cases e : t = j
    · subst e
      rw [if_pos rfl] at hb
      split at hb
      · cases hb
        exact ⟨u, by rw [set_get hvt, if_pos rfl], hH.setCell _ _ (fun e => (hH.lt _ e).1.2.2.2.2.2 rfl)⟩
      · cases hb
    · rw [if_neg e] at hb
      obtain ⟨x, hx, hX⟩ := b4 j b hb
      have hjl : j < nt := by have := (List.getElem?_eq_some_iff.1 hb).1; omega
      refine ⟨x, by rw [set_get hx, if_neg (Ne.symm e)]; exact hx, Has.setCell (hX.kept (fun k hk => hK k (hX.lt k hk).2 (d4 j t x v k hjl ht (Ne.symm e) hx hvt hk)) (fun k hk => (hX.lt k hk).1)) _ _ (fun e => (hX.lt _ e).1.2.2.2.2.2 rfl)⟩
  · have hjA : ∀ {j : Nat}, j < nt → ∃ y, A4[j]? = some y ∧ (∀ k, y.ownBlock = some k → k < W.heap.size) := fun {j} hj => by
      obtain ⟨b1', hb1'⟩ : ∃ b0, s.bf[j]? = some b0 := ⟨_, List.getElem?_eq_getElem (by omega)⟩
      obtain ⟨y, hy, hY⟩ := b4 j b1' hb1'
      exact ⟨y, hy, fun k hk => (hY.lt k hk).2⟩
    obtain ⟨y, hy, yl⟩ := hjA hj
    obtain ⟨y', hy', yl'⟩ := hjA hj'
    rw [set_get hy] at hx
    rw [set_get hy'] at hx'
    by_cases e : j = t
    · subst e
      rw [if_pos rfl] at hx; cases hx
      rw [if_neg (Ne.symm hne), hy'] at hx'; cases hx'
      intro hk'
      rcases hu with hu | hu
      · rw [hu] at hxk; exact d4 j j' v _ k hj hj' hne hvt hy' hxk hk'
      · have := hu k hxk; have := yl' k hk'; omega
    · rw [if_neg e, hy] at hx; cases hx
      by_cases e' : j' = t
      · subst e'
        rw [if_pos rfl] at hx'; cases hx'
        intro hk'
        rcases hu with hu | hu
        · rw [hu] at hk'; exact d4 j j' _ v k hj hj' hne hy hvt hxk hk'
        · have := hu k hk'; have := yl k hxk; omega
      · rw [if_neg e', hy'] at hx'; cases hx'
        exact d4 j j' _ _ k hj hj' hne hy hy' hxk
theorem Ds.st (h : Ds W B G s nw nt) : StAt W G.p s nw nt := by
  obtain ⟨l0, l1, l2, l3, l4⟩ := h.lts
  obtain ⟨A1, a1, b1⟩ := h.h1
  obtain ⟨A2, a2, b2⟩ := h.h2
  obtain ⟨A3, a3, b3⟩ := h.h3
  obtain ⟨A4, a4, b4, d4⟩ := h.h4
  obtain ⟨n1, n2, n3, n4⟩ := h.len
  refine ⟨_, _, _, _, _, _, _, _, h.blk, ⟨n1.symm, .inr ⟨G.g1, 0, rfl, l1, fun j x hx => by rw [cell_blk a1, Nat.zero_add]; exact b1 j x hx⟩⟩, ⟨n2.symm, .inr ⟨G.g2, 0, rfl, l2, fun j x hx => ?_⟩⟩, ⟨n3.symm, .inr ⟨G.g3, 0, rfl, l3, fun j x hx => by rw [cell_blk a3, Nat.zero_add]; exact b3 j x hx⟩⟩, n4.symm, .inr ⟨G.g4, 0, rfl, l4, fun j b hb => ?_⟩⟩
  · have key : ∀ k, k < 4 → W.cell? ⟨G.g2, 0 + j * 4 + k, none⟩ = some (.int .i64 (x.get k)) := fun k hk => by
      rw [cell_blk a2, show 0 + j * 4 + k = j * 4 + k by omega]; exact b2 j x hx k hk
    exact ⟨key 0 (by decide), key 1 (by decide), key 2 (by decide), key 3 (by decide)⟩
  · obtain ⟨v, hv, hH⟩ := b4 j b hb
    obtain ⟨a, c, rfl, hc, hP, -⟩ := has_pd hH
    exact ⟨a, _, c, by rw [cell_blk a4, Nat.zero_add]; exact hv, hc, hP⟩
theorem Ds.sv (h : Ds W B G s nw nt) : SvAt W #[.slice (some ⟨G.g1, 0, none⟩) nw G.c1, .slice (some ⟨G.g2, 0, none⟩) nt G.c2, .slice (some ⟨G.g3, 0, none⟩) nt G.c3, .slice (some ⟨G.g4, 0, none⟩) nt G.c4] s nw nt nt nt := by
  obtain ⟨a1, c1, a2, c2, a3, c3, a4, c4, hb, i1, i2, i3, i4⟩ := h.st.ex
  rw [h.blk] at hb
  cases hb
  exact ⟨_, _, _, _, _, _, _, _, rfl, i1, i2, i3, i4⟩
end
end Go.Proofs.YtmejblmeaipahaaDoor.Ts
/-
  TSO: the document's out.
-/
namespace Go.Proofs.YtmejblmeaipahaaDoor.Ts
open Go.RowKit Mr
set_option linter.unusedVariables false
set_option linter.unusedSimpArgs false
set_option maxRecDepth 100000
theorem below_of_grown {w w' : World} {B : Nat} {row : Option Nat} (hg : w.grownBy w' row) (hr : ∀ k, row = some k → B ≤ k) (hB : B ≤ w.heap.size) : Below B w w' := (Below.refl _ _).grown hg hB hr
theorem out1_hit {o : Int} {s : Sv} {t k : Nat} {r : Rg} {pc : Int} {b : List Pd} {ad : Int} {p : Pd} (hv : Vw s t r pc b) (h : outI o b ad = some k) (hp : b[k]? = some p) : out1 o (vw s t) ad = some ⟨s.ws.set p.ad.toNat p.vl, r, pc, b.eraseIdx k⟩ := by
  rw [hv.vw]; unfold out1; dsimp only; rw [h]; dsimp only; rw [hp]
theorem out1_miss {o : Int} {s : Sv} {t : Nat} {r : Rg} {pc : Int} {b : List Pd} {ad : Int} (hv : Vw s t r pc b) (h : outI o b ad = none) : out1 o (vw s t) ad = none := by
  rw [hv.vw]; unfold out1; dsimp only; rw [h]
set_option maxHeartbeats 16000000 in
theorem rout_any (s : Sv) (B : Nat) (G : Gs) (nw nt t : Nat) (o ad : Int) (r : Rg) (pc : Int) (b : List Pd) (w : World) (h : Ds w B G s nw nt) (hBw : B ≤ w.heap.size) (ht : t < nt) (hnt : nt ≤ 4) (hnw : nw ≤ 6) (hv : Vw s t r pc b) (hbl : b.length ≤ 10) (hba : ∀ q ∈ b, 0 ≤ q.ad ∧ q.ad < (nw : Int)) (hsc : o = 1 → b = []) (ho : ordB o = true) :
    Calls Tryd.prog 32 #[.int .i64 o, .pointer (some ⟨G.p, 0, none⟩), .int .i64 (t : Int), .int .i64 ad] w fun e w' => RuP (out1 o (vw s t) ad) s t e (fun s' => Ds w' B G s' nw nt ∧ Below B w w') := by
  have ho3 : 1 ≤ o ∧ o ≤ 3 := by simp only [ordB, inB, Bool.and_eq_true, decide_eq_true_eq] at ho; omega
  obtain ⟨A4, a4, b4, -⟩ := h.h4
  obtain ⟨v, hvA, hH⟩ := b4 t b hv.b
  obtain ⟨a', c', rfl, hnc, hP, hown⟩ := has_pd hH
  have htI : (t : Int) < (nt : Int) := by omega
  have hhit : Hid (∀ k p, b[k]? = some p → outF o ad p = true → (∀ q ∈ b.take k, outF o ad q = false) → out1 o (vw s t) ad = some ⟨s.ws.set p.ad.toNat p.vl, r, pc, b.eraseIdx k⟩) := fun k p h1 h2 h3 => by
    have ho1 : o ≠ 1 := fun e => by have h := hsc e; rw [h] at h1; simp at h1
    refine out1_hit hv ?_ h1
    unfold outI; rw [if_neg ho1]; exact find_hit _ b k p h1 h2 h3
  have hmiss : Hid ((∀ q ∈ b, outF o ad q = false) → out1 o (vw s t) ad = none) := fun h => out1_miss hv (by
    unfold outI; split
    · rfl
    · exact find_no _ b h)
  obtain ⟨n, hn⟩ : ∃ n, b.length = n := ⟨_, rfl⟩
  rw [hn] at hnc hbl
  have P : Hid (∀ W, Below w.heap.size w W → W.cell? ⟨G.p, 0, none⟩ = some (.slice (some ⟨G.g1, 0, none⟩) nw G.c1) ∧ W.cell? ⟨G.p, 3, none⟩ = some (.slice (some ⟨G.g4, 0, none⟩) nt G.c4) ∧ W.cell? ⟨G.g4, t, none⟩ = some (.slice a' n c') ∧ G.p < W.heap.size ∧ G.g4 < W.heap.size ∧ PdAt W a' n b) := fun W hW => by
    have hD := h.below hW
    obtain ⟨l0, l1, l2, l3, l4⟩ := hD.lts
    rw [← hn]
    exact ⟨cell_blk hD.blk 0, cell_blk hD.blk 3, (hW.cell (p := ⟨G.g4, t, none⟩) h.lts.2.2.2.2).trans ((cell_blk a4 t).trans hvA), l0, l4, hP.below hW⟩
  have hvA' : Hid (∀ A : Array Value, w.heap[G.g4]? = some (.cells A 68 (0, 0)) → A[t]? = some (.slice a' n c')) := fun A hA => by rw [a4] at hA; cases hA; rw [← hn]; exact hvA
  have hH' : Hid (Has w (G.out B) 70 2 (.slice a' n c') n (pdV b)) := by have h9 := hH; rw [hn] at h9; exact h9
  have hlw := h.len.1
  have hD0 := Mr.hid h
  have hok := h.ok
  replace hown := Mr.hid hown
  replace hv := Mr.hid hv
  replace hba := Mr.hid hba
  replace hsc := Mr.hid hsc
  replace hn := Mr.hid hn
  replace hok := Mr.hid hok
  replace hBw := Mr.hid hBw
  replace hlw := Mr.hid hlw
  clear h a4 b4 hvA hH hP ho
  go_enter Tryd.func32, Tryd.ntmps32
  go_upto_region 2 with fail
  go_loopg [9] n (fun gk s9 wr => ∃ k : Nat, s9 = .int .i64 (k : Int) ∧ k + gk = n ∧ (∀ q ∈ b.take k, outF o ad q = false) ∧ Below w.heap.size w wr)
  case atStart => exact ⟨0, rfl, by omega, by simp, Below.refl _ _⟩
  case round =>
    obtain ⟨k, rfl, hk, hno, hB⟩ := hrel
    obtain ⟨p0, p3, q4, lp, l4, hPd⟩ := P.out wr hB
    by_cases hlt : k < n
    · obtain ⟨y, hy⟩ : ∃ y, b[k]? = some y := ⟨_, List.getElem?_eq_getElem (by have := hn.out; omega)⟩
      have dk : decide ((k : Int) < (n : Int)) = true := decide_eq_true (by omega)
      have kI : (k : Int) < (n : Int) := by omega
      have hwk : IntKind.i64.wrap ((k : Int) + 1) = (k : Int) + 1 := i64x _ (by omega) (by omega)
      have hne : b ≠ [] := by intro e; rw [e] at hy; simp at hy
      have ho1 : o ≠ 1 := fun e => hne (hsc.out e)
      have dO1 : (o != 1) = true := bne_iff_ne.2 ho1
      obtain ⟨gb, qb, rfl, lgb, hcb⟩ := hPd.2.resolve_left hne
      obtain ⟨u0, u1⟩ := hcb k y hy
      obtain ⟨hy0, hy1⟩ := hba.out y (List.mem_of_getElem? hy)
      obtain ⟨an, han⟩ := Int.eq_ofNat_of_zero_le hy0
      have hq0 : qb = 0 := by
        obtain ⟨g9, c9, hv9, -⟩ := hH'.out.there (by omega)
        cases hv9; rfl
      subst hq0
      have hR1 : Hid (outF o ad y = true → out1 o (vw s t) ad = some ⟨s.ws.set y.ad.toNat y.vl, r, pc, b.eraseIdx k⟩) := fun e => hhit.out k y hy e hno
      have hgo : Hid (outF o ad y = false → ∀ q ∈ b.take (k + 1), outF o ad q = false) := fun e q hq => by
        rw [take_succ_of hy] at hq
        rcases List.mem_append.1 hq with hq | hq
        · exact hno q hq
        · simp at hq; subst hq; exact e
      have hanl : an < nw := by omega
      have lanI : (an : Int) < (nw : Int) := by omega
      obtain ⟨pa, pv⟩ := y
      dsimp only at han u0 u1
      subst han
      rw [Nat.zero_add] at u0 u1
      have hB' := Mr.hid hB
      have hk' := Mr.hid hk
      have hy' := Mr.hid hy
      have hPd' := Mr.hid hPd
      replace hanl := Mr.hid hanl
      replace ho1 := Mr.hid ho1
      clear hy0 hy1 hno hB hy hk hcb hPd hne
      cases hf : outF o ad ⟨(an : Int), pv⟩ with
      | true =>
        have hR := Mr.hid (hR1.out hf)
        clear hR1 hgo
        by_cases ho : o = 3
        · have dO3 : (o == 3) = true := by rw [ho]; simp
          have he : (an : Int) = ad := by simpa [outF, ho] using hf
          have q1 : ((an : Int) != ad) = false := by rw [he]; simp
          replace he := Mr.hid he
          replace ho := Mr.hid ho
          replace hf := Mr.hid hf
          clear ho3
          go_upto_region 6 with fail
          clear p0 p3 q4 lp l4 u0 u1
          have B5 : Below wr.heap.size wr (wr.alloc (.cells #[.int .i64 (an : Int), .int .i64 pv] 70)) := (Below.refl _ _).alloc (Nat.le_refl _) _
          have n5 : (wr.alloc (.cells #[.int .i64 (an : Int), .int .i64 pv] 70)).heap[wr.heap.size]? = some (.cells #[.int .i64 (an : Int), .int .i64 pv] 70 (0, 0)) := new_at _ _ _ rfl
          have BW5 : Below w.heap.size w (wr.alloc (.cells #[.int .i64 (an : Int), .int .i64 pv] 70)) := hB'.out.trans (B5.mono hB'.out.size)
          have hD5 := hD0.out.below BW5
          obtain ⟨p0, p3, q4, lp, l4, hPd⟩ := P.out _ BW5
          have v0 := cell_blk n5 0
          have v1 := cell_blk n5 1
          obtain ⟨A1, a1, b1⟩ := hD5.h1
          have f1 : ∀ j, (wr.alloc (.cells #[.int .i64 (an : Int), .int .i64 pv] 70)).frozen? ⟨G.g1, j, none⟩ = false := fun j => by unfold World.frozen?; rw [a1]; rfl
          obtain ⟨xw, hxw⟩ : ∃ xw, s.ws[an]? = some xw := ⟨_, List.getElem?_eq_getElem (by have := hanl.out; have := hlw.out; omega)⟩
          have kw := (cell_blk a1 an).trans (b1 an xw hxw)
          have lts := hD5.lts
          obtain ⟨o1, o2, o3, o4⟩ := hok.out
          have e1 : ¬ wr.heap.size = G.g1 := by have := hB'.out.size; have := hD0.out.lts; omega
          have e2 : ¬ G.g1 = wr.heap.size := by omega
          have e3 : ¬ G.p = G.g1 := by omega
          have e4 : ¬ G.g1 = G.p := by omega
          have l1 := lts.2.1
          replace hD5 := Mr.hid hD5
          replace BW5 := Mr.hid BW5
          clear n5 a1 b1 hxw lts o1 o2 o3 o4 B5 hPd
          generalize (wr.alloc (.cells #[.int .i64 (an : Int), .int .i64 pv] 70)) = w5 at *
          generalize wr.heap.size = hh at *
          go_region_held3 (fun W => W.cell? ⟨G.p, 0, none⟩ = some (.slice (some ⟨G.g1, 0, none⟩) nw G.c1) ∧ W.cell? ⟨hh, 0, none⟩ = some (.int .i64 (an : Int)) ∧ W.cell? ⟨hh, 1, none⟩ = some (.int .i64 pv)) (simp [*, go_sem]) (fail)
          have D6 : Ds (w5.setCell ⟨G.g1, an, none⟩ (.int .i64 pv)).drew B G { s with ws := s.ws.set an pv } nw nt := (hD5.out.setW an pv).below (Below.refl _ _).drew
          have BB6 : Below B w (w5.setCell ⟨G.g1, an, none⟩ (.int .i64 pv)).drew := ((BW5.out.mono hBw.out).setCell (p := ⟨G.g1, an, none⟩) (by show B ≤ G.g1; have := hok.out.le; omega) _).drew
          have hA6 : ∀ A : Array Value, (w5.setCell ⟨G.g1, an, none⟩ (.int .i64 pv)).drew.heap[G.g4]? = some (.cells A 68 (0, 0)) → A[t]? = some (.slice (some ⟨gb, 0, none⟩) n c') := fun A hA => hvA'.out A (by
            have h9 : (w5.setCell ⟨G.g1, an, none⟩ (.int .i64 pv)).heap[G.g4]? = _ := hA
            rw [Below.heap_setCell _ _ _ _ (by show G.g4 ≠ G.g1; have := hok.out.n1; omega), BW5.out.block _ hD0.out.lts.2.2.2.2] at h9
            exact h9)
          have BZ6 : B ≤ (w5.setCell ⟨G.g1, an, none⟩ (.int .i64 pv)).drew.heap.size := Nat.le_trans hBw.out BB6.size
          clear p0 p3 q4 lp l4 v0 v1 f1 kw e1 e2 e3 e4 l1 BW5 hD5
          generalize (w5.setCell ⟨G.g1, an, none⟩ (.int .i64 pv)).drew = w6 at *
          obtain ⟨A4, a4, b4, -⟩ := D6.h4
          obtain ⟨v, hvA, hH6⟩ := b4 t b hv.out.b
          rw [hA6 A4 a4] at hvA
          cases hvA
          rw [hn.out] at hH6
          have p3 := cell_blk D6.blk 3
          have q4 := (cell_blk a4 t).trans (hA6 A4 a4)
          have lp := D6.lts.1
          have l4 := D6.lts.2.2.2.2
          have P6 := PdAt.ofHas hH6
          have P6t : PdAt w6 (some ⟨gb, 0, none⟩) k (b.take k) := ⟨by simp [hn.out]; omega, P6.2.imp (fun e => by rw [e]; simp) (fun ⟨b9, o9, e9, l9, h9⟩ => ⟨b9, o9, e9, l9, fun j x hx => h9 j x (by
            rw [List.getElem?_take] at hx; split at hx
            · exact hx
            · cases hx)⟩)⟩
          have hkc : k ≤ c' := by omega
          have hkcI : (k : Int) ≤ (c' : Int) := by omega
          have new6 := D6.new BZ6
          replace P6t := Mr.hid P6t
          replace new6 := Mr.hid new6
          replace a4 := Mr.hid a4
          replace D6 := Mr.hid D6
          replace hH6 := Mr.hid hH6
          replace P6 := Mr.hid P6
          clear b4
          go_upto_region 9 with (at_builtin; refine wpList_plain rfl fun _ hK => wp_app_pd _ _ rfl (G.out B) (.slice none 0 0) 0 [] rfl rfl (Has.nil _ _ _ _) _ _ _ (b.take k) rfl P6t.out (by simp; omega) new6.out (fun a8 c8 m8 w8 M8 H8 G8 O8 => hK _ _ ?_); clear hK)
          have z8 : ∀ k9, (Value.slice a8 m8 c8).ownBlock = some k9 → k9 = w6.heap.size := fun k9 e => by
            rcases O8 with e8 | e8
            · rw [← e8] at e; simp [Value.ownBlock] at e
            · rw [e8] at e; cases e; rfl
          have B8 : Below w6.heap.size w6 w8 := below_of_grown G8 (fun k9 e => by simp [Value.ownBlock] at e) (Nat.le_refl _)
          have D8 := D6.out.below B8
          have r3 := cell_blk D8.blk 3
          have r4 := (B8.cell (p := ⟨G.g4, t, none⟩) D6.out.lts.2.2.2.2).trans q4
          have new8 := D8.new (Nat.le_trans BZ6 B8.size)
          have P8 := P6.out.below B8
          have f4 : ∀ j, w8.frozen? ⟨G.g4, j, none⟩ = false := fun j => by unfold World.frozen?; rw [(B8.block _ D6.out.lts.2.2.2.2).trans a4.out]; rfl
          have m4 := D8.lts.2.2.2.2
          have hdr : b.length - (k + 1) = n - (k + 1) := by rw [hn.out]
          have hPs : ∀ W, Below w8.heap.size w8 W → PdAt W (if c' = k + 1 then some ⟨gb, 0, none⟩ else some ⟨gb, (k + 1) * 2, none⟩) (n - (k + 1)) (b.drop (k + 1)) := fun W hW => by
            refine ⟨by simp [hn.out], ?_⟩
            by_cases e : n = k + 1
            · exact .inl (List.drop_of_length_le (by rw [hn.out]; omega))
            · right
              rw [if_neg (by omega)]
              obtain ⟨b9, o9, e9, l9, h9⟩ := (P8.below hW).2.resolve_left (by intro e; have h9 := hn.out; rw [e] at h9; simp at h9; omega)
              cases e9
              refine ⟨gb, (k + 1) * 2, rfl, l9, fun j x hx => ?_⟩
              rw [List.getElem?_drop] at hx
              have := h9 (k + 1 + j) x hx
              rw [show (k + 1) * 2 + j * 2 = 0 + (k + 1 + j) * 2 by omega]
              exact this
          have l9a : (k : Int) + 1 ≤ (n : Int) := by omega
          have l9p : 0 ≤ (k : Int) + 1 := by omega
          have l9b : k + 1 ≤ n := by omega
          have l9c : k + 1 ≤ c' := by omega
          have hto : ((k : Int) + 1).toNat = k + 1 := by omega
          replace r4 := r4
          replace H8 := Mr.hid H8
          replace P8 := Mr.hid P8
          replace D8 := Mr.hid D8
          replace new8 := Mr.hid new8
          replace hPs := Mr.hid hPs
          replace z8 := Mr.hid z8
          replace B8 := Mr.hid B8
          clear O8 G8 p3 q4 lp l4 hdr
          refine wp_region_held_drew (S := (fun W => W.cell? ⟨G.p, 3, none⟩ = some (.slice (some ⟨G.g4, 0, none⟩) nt G.c4))) (by kernel_rfl) r3 (fun hHeld => ?_)
          try simp only [Act.put, List.setIfInBounds_toArray, List.set_cons_zero, List.set_cons_succ]
          refine wpAnyH_take (i := 0) (oi := (⟨_, _, _, _, _, _⟩ : Oper)) (v := ?_) rfl (by kernel_rfl) (by kernel_rfl) (by kernel_rfl) (fun _ _ _ h => h) (Or.inl ⟨by rfl, ?_⟩) (by assumption) ?_
          rotate_left
          · intro w9 hSw
            (try dsimp only at hSw)
            go_simp
            all_goals (with_reducible rfl)
          try simp only [Act.put, List.setIfInBounds_toArray, List.set_cons_zero, List.set_cons_succ]
          refine wpAnyH_take (i := 1) (oi := (⟨_, _, _, _, _, _⟩ : Oper)) (v := ?_) rfl (by kernel_rfl) (by kernel_rfl) (by kernel_rfl) (fun _ _ _ h => h) (Or.inl ⟨by rfl, ?_⟩) (by assumption) ?_
          rotate_left
          · intro w9 hSw
            (try dsimp only at hSw)
            go_simp
            all_goals (with_reducible rfl)
          try simp only [Act.put, List.setIfInBounds_toArray, List.set_cons_zero, List.set_cons_succ]
          refine wpAnyH_take (i := 2) (oi := (⟨_, _, _, _, _, _⟩ : Oper)) (v := ?_) rfl (by kernel_rfl) (by kernel_rfl) (by kernel_rfl) (fun _ _ _ h => h) (Or.inl ⟨by rfl, ?_⟩) (by assumption) ?_
          rotate_left
          · intro w9 hSw
            (try dsimp only at hSw)
            go_simp
            all_goals (with_reducible rfl)
          try simp only [Act.put, List.setIfInBounds_toArray, List.set_cons_zero, List.set_cons_succ]
          refine wpAnyH_take (i := 3) (oi := (⟨_, _, _, _, _, _⟩ : Oper)) (v := ?_) rfl (by kernel_rfl) (by kernel_rfl) (by kernel_rfl) (fun _ _ _ h => h) (Or.inl ⟨by rfl, ?_⟩) (by assumption) ?_
          rotate_left
          · intro w9 hSw
            (try dsimp only at hSw)
            go_simp
            all_goals (with_reducible rfl)
          try simp only [Act.put, List.setIfInBounds_toArray, List.set_cons_zero, List.set_cons_succ]
          refine wpAnyH_take (i := 4) (oi := (⟨_, _, _, _, _, _⟩ : Oper)) (v := ?_) rfl (by kernel_rfl) (by kernel_rfl) (by kernel_rfl) (fun _ _ _ h => h) (Or.inl ⟨by rfl, ?_⟩) (by assumption) ?_
          rotate_left
          · intro w9 hSw
            (try dsimp only at hSw)
            go_simp
            all_goals (with_reducible rfl)
          try simp only [Act.put, List.setIfInBounds_toArray, List.set_cons_zero, List.set_cons_succ]
          refine wpAnyH_take (i := 5) (oi := (⟨_, _, _, _, _, _⟩ : Oper)) (v := ?_) rfl (by kernel_rfl) (by kernel_rfl) (by kernel_rfl) (fun _ _ _ h => h) (Or.inl ⟨by rfl, ?_⟩) (by assumption) ?_
          rotate_left
          · intro w9 hSw
            (try dsimp only at hSw)
            go_simp
            all_goals (with_reducible rfl)
          try simp only [Act.put, List.setIfInBounds_toArray, List.set_cons_zero, List.set_cons_succ]
          refine wpAnyH_take (i := 6) (oi := (⟨_, _, _, _, _, _⟩ : Oper)) (v := ?_) rfl (by kernel_rfl) (by kernel_rfl) (by kernel_rfl) (fun _ _ _ h => h) (Or.inl ⟨by rfl, ?_⟩) (by assumption) ?_
          rotate_left
          · intro w9 hSw
            (try dsimp only at hSw)
            go_simp
            all_goals (with_reducible rfl)
          try simp only [Act.put, List.setIfInBounds_toArray, List.set_cons_zero, List.set_cons_succ]
          refine wpAnyH_take (i := 7) (oi := (⟨_, _, _, _, _, _⟩ : Oper)) (v := ?_) rfl (by kernel_rfl) (by kernel_rfl) (by kernel_rfl) (fun _ _ _ h => h) (Or.inl ⟨by rfl, ?_⟩) (by assumption) ?_
          rotate_left
          · intro w9 hSw
            (try dsimp only at hSw)
            go_simp
            all_goals (with_reducible rfl)
          try simp only [Act.put, List.setIfInBounds_toArray, List.set_cons_zero, List.set_cons_succ]
          refine wpAnyH_take (i := 8) (oi := (⟨_, _, _, _, _, _⟩ : Oper)) (v := ?_) rfl (by kernel_rfl) (by kernel_rfl) (by kernel_rfl) (fun _ _ _ h => h) (Or.inl ⟨by rfl, ?_⟩) (by assumption) ?_
          rotate_left
          · intro w9 hSw
            (try dsimp only at hSw)
            go_simp
            all_goals (with_reducible rfl)
          try simp only [Act.put, List.setIfInBounds_toArray, List.set_cons_zero, List.set_cons_succ]
          refine wpAnyH_take (i := 9) (oi := (⟨_, _, _, _, _, _⟩ : Oper)) (v := ?_) rfl (by kernel_rfl) (by kernel_rfl) (by kernel_rfl) (fun _ _ _ h => h) (Or.inl ⟨by rfl, ?_⟩) (by assumption) ?_
          rotate_left
          · intro w9 hSw
            (try dsimp only at hSw)
            go_simp
            all_goals (with_reducible rfl)
          try simp only [Act.put, List.setIfInBounds_toArray, List.set_cons_zero, List.set_cons_succ]
          refine wpAnyH_take (i := 10) (oi := (⟨_, _, _, _, _, _⟩ : Oper)) (v := ?_) rfl (by kernel_rfl) (by kernel_rfl) (by kernel_rfl) (fun _ _ _ h => h) (Or.inl ⟨by rfl, ?_⟩) (by assumption) ?_
          rotate_left
          · intro w9 hSw
            (try dsimp only at hSw)
            go_simp
            all_goals (with_reducible rfl)
          try simp only [Act.put, List.setIfInBounds_toArray, List.set_cons_zero, List.set_cons_succ]
          refine wpAnyH_take (i := 11) (oi := (⟨_, _, _, _, _, _⟩ : Oper)) (v := ?_) rfl (by kernel_rfl) (by kernel_rfl) (by kernel_rfl) (fun _ _ _ h => h) (Or.inl ⟨by rfl, ?_⟩) (by assumption) ?_
          rotate_left
          · intro w9 hSw
            (try dsimp only at hSw)
            go_simp
            all_goals (with_reducible rfl)
          try simp only [Act.put, List.setIfInBounds_toArray, List.set_cons_zero, List.set_cons_succ]
          refine wpAnyH_take (i := 13) (oi := (⟨_, _, _, _, _, _⟩ : Oper)) (v := ?_) rfl (by kernel_rfl) (by kernel_rfl) (by kernel_rfl) (fun _ _ _ h => h) (Or.inl ⟨by rfl, ?_⟩) (by assumption) ?_
          rotate_left
          · intro w9 hSw
            (try dsimp only at hSw)
            go_simp
            all_goals (with_reducible rfl)
          try simp only [Act.put, List.setIfInBounds_toArray, List.set_cons_zero, List.set_cons_succ]
          refine wpAnyH_take (i := 14) (oi := (⟨_, _, _, _, _, _⟩ : Oper)) (v := ?_) rfl (by kernel_rfl) (by kernel_rfl) (by kernel_rfl) (fun _ _ _ h => h) (Or.inl ⟨by rfl, ?_⟩) (by assumption) ?_
          rotate_left
          · intro w9 hSw
            (try dsimp only at hSw)
            go_simp
            all_goals (with_reducible rfl)
          try simp only [Act.put, List.setIfInBounds_toArray, List.set_cons_zero, List.set_cons_succ]
          refine wpAnyH_ready (rs := [12]) (by kernel_rfl) (by simp) ?_
          refine AllReadyH.cons (o := (⟨_, _, _, _, _, _⟩ : Oper)) rfl (fun K hK => ?_) (AllReadyH.nil)
          go_simp
          refine hK.out _ _ r3 (fun hHeld9 => ?_)
          clear hK K hHeld
          have hHeld := hHeld9
          clear hHeld9
          try simp only [Act.put, List.setIfInBounds_toArray, List.set_cons_zero, List.set_cons_succ]
          refine wpAnyH_take (i := 15) (oi := (⟨_, _, _, _, _, _⟩ : Oper)) (v := ?_) rfl (by kernel_rfl) (by kernel_rfl) (by kernel_rfl) (fun _ _ _ h => h) (Or.inl ⟨by rfl, ?_⟩) (by assumption) ?_
          rotate_left
          · intro w9 hSw
            (try dsimp only at hSw)
            go_simp
            all_goals (with_reducible rfl)
          try simp only [Act.put, List.setIfInBounds_toArray, List.set_cons_zero, List.set_cons_succ]
          refine wpAnyH_ready (rs := [16]) (by kernel_rfl) (by simp) ?_
          refine AllReadyH.cons (o := (⟨_, _, _, _, _, _⟩ : Oper)) rfl (fun K hK => ?_) (AllReadyH.nil)
          refine wp_app_pd _ _ rfl (G.out B) (.slice a8 m8 c8) m8 ([] ++ b.take k) rfl M8.out (H8.out.below (Below.refl _ _).drew) _ _ _ (b.drop (k + 1)) rfl (hPs.out _ (Below.refl _ _).drew) (by simp; omega) new8.out (fun a9 c9 m9 w9 M9 H9 G9 O9 => ?_)
          have z9 : ∀ k9, (Value.slice a9 m9 c9).ownBlock = some k9 → w6.heap.size ≤ k9 := fun k9 e => by
            rcases O9 with e8 | e8
            · rw [← e8] at e; have := z8.out k9 e; omega
            · rw [e8] at e; cases e; exact B8.out.size
          have B9 : Below w6.heap.size w8 w9 := ((Below.refl _ w8).drew).trans (below_of_grown G9 (fun k9 e => by have := z8.out k9 e; omega) B8.out.size)
          have s3 := (World.cell?_of_block (a := ⟨G.p, 3, none⟩) (B9.block G.p D6.out.lts.1)).trans r3
          have s4 := (World.cell?_of_block (a := ⟨G.g4, t, none⟩) (B9.block G.g4 D6.out.lts.2.2.2.2)).trans r4
          have g4 : ∀ j, w9.frozen? ⟨G.g4, j, none⟩ = false := fun j => (World.frozen?_of_block (a := ⟨G.g4, j, none⟩) (B9.block G.g4 D6.out.lts.2.2.2.2)).trans (f4 j)
          have l4 : G.g4 < w9.heap.size := Nat.lt_of_lt_of_le m4 B9.size
          rw [show [] ++ b.take k ++ b.drop (k + 1) = b.eraseIdx k by rw [List.nil_append, List.eraseIdx_eq_take_drop_succ]] at H9 M9
          have H9' : Has w9 (G.out B) 70 2 (.slice a9 m9 c9) (b.eraseIdx k).length (pdV (b.eraseIdx k)) := by rw [← M9.out]; exact H9
          have hD9 := Ds.setB (W := w6) (W' := w9) D6.out ht hA6 (fun k9 hk9 hne9 => (B9.block k9 hk9).trans (B8.out.block k9 hk9)) (Nat.le_trans B8.out.size B9.size) H9' (.inr z9)
          have hB9 : Below B w (w9.setCell ⟨G.g4, t, none⟩ (.slice a9 m9 c9)) := ((BB6.trans (B8.out.mono BZ6)).trans (B9.mono BZ6)).setCell (p := ⟨G.g4, t, none⟩) (by show B ≤ G.g4; have := hok.out.le; omega) _
          have hp4 : ¬ G.g4 = G.p := by have := hok.out.np; omega
          have t3 := (World.cell?_of_block (a := ⟨G.p, 3, none⟩) (Below.heap_setCell w9 ⟨G.g4, t, none⟩ (.slice a9 m9 c9) G.p (by show G.p ≠ G.g4; omega))).trans s3
          replace hD9 := Mr.hid hD9
          replace hB9 := Mr.hid hB9
          clear H9 H9' G9 O9 z9 B9 r3 r4 f4 m4
          refine hK.out _ _ s3 (fun hHeld9 => ?_)
          clear hK K hHeld
          have hHeld := hHeld9
          clear hHeld9
          try simp only [Act.put, List.setIfInBounds_toArray, List.set_cons_zero, List.set_cons_succ]
          refine wpAnyH_take (i := 17) (oi := (⟨_, _, _, _, _, _⟩ : Oper)) (v := ?_) rfl (by kernel_rfl) (by kernel_rfl) (by kernel_rfl) (fun _ _ _ h => h) (Or.inl ⟨by rfl, ?_⟩) (by assumption) ?_
          rotate_left
          · intro w9 hSw
            (try dsimp only at hSw)
            go_simp
            all_goals (with_reducible rfl)
          try simp only [Act.put, List.setIfInBounds_toArray, List.set_cons_zero, List.set_cons_succ]
          refine wpAnyH_ready (rs := [18]) (by kernel_rfl) (by simp) ?_
          refine AllReadyH.cons (o := (⟨_, _, _, _, _, _⟩ : Oper)) rfl (fun K hK => ?_) (AllReadyH.nil)
          go_simp
          refine hK.out _ _ t3 (fun hHeld9 => ?_)
          clear hK K hHeld
          have hHeld := hHeld9
          clear hHeld9
          try simp only [Act.put, List.setIfInBounds_toArray, List.set_cons_zero, List.set_cons_succ]
          refine wpAnyH_done (by kernel_rfl) ?_ _
          clear hHeld t3 s3 s4 g4 l4
          go_wp2
          all_goals
            go_ret
            refine .inr ⟨_, hR.out, rfl, ?_⟩
            rw [hv.out.upd_wb]
            exact ⟨hD9.out, hB9.out⟩
        · have dO3 : (o == 3) = false := beq_eq_false_iff_ne.2 ho
          replace ho := Mr.hid ho
          replace hf := Mr.hid hf
          clear ho3
          go_upto_region 6 with fail
          clear p0 p3 q4 lp l4 u0 u1
          have B5 : Below wr.heap.size wr (wr.alloc (.cells #[.int .i64 (an : Int), .int .i64 pv] 70)) := (Below.refl _ _).alloc (Nat.le_refl _) _
          have n5 : (wr.alloc (.cells #[.int .i64 (an : Int), .int .i64 pv] 70)).heap[wr.heap.size]? = some (.cells #[.int .i64 (an : Int), .int .i64 pv] 70 (0, 0)) := new_at _ _ _ rfl
          have BW5 : Below w.heap.size w (wr.alloc (.cells #[.int .i64 (an : Int), .int .i64 pv] 70)) := hB'.out.trans (B5.mono hB'.out.size)
          have hD5 := hD0.out.below BW5
          obtain ⟨p0, p3, q4, lp, l4, hPd⟩ := P.out _ BW5
          have v0 := cell_blk n5 0
          have v1 := cell_blk n5 1
          obtain ⟨A1, a1, b1⟩ := hD5.h1
          have f1 : ∀ j, (wr.alloc (.cells #[.int .i64 (an : Int), .int .i64 pv] 70)).frozen? ⟨G.g1, j, none⟩ = false := fun j => by unfold World.frozen?; rw [a1]; rfl
          obtain ⟨xw, hxw⟩ : ∃ xw, s.ws[an]? = some xw := ⟨_, List.getElem?_eq_getElem (by have := hanl.out; have := hlw.out; omega)⟩
          have kw := (cell_blk a1 an).trans (b1 an xw hxw)
          have lts := hD5.lts
          obtain ⟨o1, o2, o3, o4⟩ := hok.out
          have e1 : ¬ wr.heap.size = G.g1 := by have := hB'.out.size; have := hD0.out.lts; omega
          have e2 : ¬ G.g1 = wr.heap.size := by omega
          have e3 : ¬ G.p = G.g1 := by omega
          have e4 : ¬ G.g1 = G.p := by omega
          have l1 := lts.2.1
          replace hD5 := Mr.hid hD5
          replace BW5 := Mr.hid BW5
          clear n5 a1 b1 hxw lts o1 o2 o3 o4 B5 hPd
          generalize (wr.alloc (.cells #[.int .i64 (an : Int), .int .i64 pv] 70)) = w5 at *
          generalize wr.heap.size = hh at *
          go_region_held3 (fun W => W.cell? ⟨G.p, 0, none⟩ = some (.slice (some ⟨G.g1, 0, none⟩) nw G.c1) ∧ W.cell? ⟨hh, 0, none⟩ = some (.int .i64 (an : Int)) ∧ W.cell? ⟨hh, 1, none⟩ = some (.int .i64 pv)) (simp [*, go_sem]) (fail)
          have D6 : Ds (w5.setCell ⟨G.g1, an, none⟩ (.int .i64 pv)).drew B G { s with ws := s.ws.set an pv } nw nt := (hD5.out.setW an pv).below (Below.refl _ _).drew
          have BB6 : Below B w (w5.setCell ⟨G.g1, an, none⟩ (.int .i64 pv)).drew := ((BW5.out.mono hBw.out).setCell (p := ⟨G.g1, an, none⟩) (by show B ≤ G.g1; have := hok.out.le; omega) _).drew
          have hA6 : ∀ A : Array Value, (w5.setCell ⟨G.g1, an, none⟩ (.int .i64 pv)).drew.heap[G.g4]? = some (.cells A 68 (0, 0)) → A[t]? = some (.slice (some ⟨gb, 0, none⟩) n c') := fun A hA => hvA'.out A (by
            have h9 : (w5.setCell ⟨G.g1, an, none⟩ (.int .i64 pv)).heap[G.g4]? = _ := hA
            rw [Below.heap_setCell _ _ _ _ (by show G.g4 ≠ G.g1; have := hok.out.n1; omega), BW5.out.block _ hD0.out.lts.2.2.2.2] at h9
            exact h9)
          have BZ6 : B ≤ (w5.setCell ⟨G.g1, an, none⟩ (.int .i64 pv)).drew.heap.size := Nat.le_trans hBw.out BB6.size
          clear p0 p3 q4 lp l4 v0 v1 f1 kw e1 e2 e3 e4 l1 BW5 hD5
          generalize (w5.setCell ⟨G.g1, an, none⟩ (.int .i64 pv)).drew = w6 at *
          obtain ⟨A4, a4, b4, -⟩ := D6.h4
          obtain ⟨v, hvA, hH6⟩ := b4 t b hv.out.b
          rw [hA6 A4 a4] at hvA
          cases hvA
          rw [hn.out] at hH6
          have p3 := cell_blk D6.blk 3
          have q4 := (cell_blk a4 t).trans (hA6 A4 a4)
          have lp := D6.lts.1
          have l4 := D6.lts.2.2.2.2
          have P6 := PdAt.ofHas hH6
          have P6t : PdAt w6 (some ⟨gb, 0, none⟩) k (b.take k) := ⟨by simp [hn.out]; omega, P6.2.imp (fun e => by rw [e]; simp) (fun ⟨b9, o9, e9, l9, h9⟩ => ⟨b9, o9, e9, l9, fun j x hx => h9 j x (by
            rw [List.getElem?_take] at hx; split at hx
            · exact hx
            · cases hx)⟩)⟩
          have hkc : k ≤ c' := by omega
          have hkcI : (k : Int) ≤ (c' : Int) := by omega
          have new6 := D6.new BZ6
          replace P6t := Mr.hid P6t
          replace new6 := Mr.hid new6
          replace a4 := Mr.hid a4
          replace D6 := Mr.hid D6
          replace hH6 := Mr.hid hH6
          replace P6 := Mr.hid P6
          clear b4
          go_upto_region 9 with (at_builtin; refine wpList_plain rfl fun _ hK => wp_app_pd _ _ rfl (G.out B) (.slice none 0 0) 0 [] rfl rfl (Has.nil _ _ _ _) _ _ _ (b.take k) rfl P6t.out (by simp; omega) new6.out (fun a8 c8 m8 w8 M8 H8 G8 O8 => hK _ _ ?_); clear hK)
          have z8 : ∀ k9, (Value.slice a8 m8 c8).ownBlock = some k9 → k9 = w6.heap.size := fun k9 e => by
            rcases O8 with e8 | e8
            · rw [← e8] at e; simp [Value.ownBlock] at e
            · rw [e8] at e; cases e; rfl
          have B8 : Below w6.heap.size w6 w8 := below_of_grown G8 (fun k9 e => by simp [Value.ownBlock] at e) (Nat.le_refl _)
          have D8 := D6.out.below B8
          have r3 := cell_blk D8.blk 3
          have r4 := (B8.cell (p := ⟨G.g4, t, none⟩) D6.out.lts.2.2.2.2).trans q4
          have new8 := D8.new (Nat.le_trans BZ6 B8.size)
          have P8 := P6.out.below B8
          have f4 : ∀ j, w8.frozen? ⟨G.g4, j, none⟩ = false := fun j => by unfold World.frozen?; rw [(B8.block _ D6.out.lts.2.2.2.2).trans a4.out]; rfl
          have m4 := D8.lts.2.2.2.2
          have hdr : b.length - (k + 1) = n - (k + 1) := by rw [hn.out]
          have hPs : ∀ W, Below w8.heap.size w8 W → PdAt W (if c' = k + 1 then some ⟨gb, 0, none⟩ else some ⟨gb, (k + 1) * 2, none⟩) (n - (k + 1)) (b.drop (k + 1)) := fun W hW => by
            refine ⟨by simp [hn.out], ?_⟩
            by_cases e : n = k + 1
            · exact .inl (List.drop_of_length_le (by rw [hn.out]; omega))
            · right
              rw [if_neg (by omega)]
              obtain ⟨b9, o9, e9, l9, h9⟩ := (P8.below hW).2.resolve_left (by intro e; have h9 := hn.out; rw [e] at h9; simp at h9; omega)
              cases e9
              refine ⟨gb, (k + 1) * 2, rfl, l9, fun j x hx => ?_⟩
              rw [List.getElem?_drop] at hx
              have := h9 (k + 1 + j) x hx
              rw [show (k + 1) * 2 + j * 2 = 0 + (k + 1 + j) * 2 by omega]
              exact this
          have l9a : (k : Int) + 1 ≤ (n : Int) := by omega
          have l9p : 0 ≤ (k : Int) + 1 := by omega
          have l9b : k + 1 ≤ n := by omega
          have l9c : k + 1 ≤ c' := by omega
          have hto : ((k : Int) + 1).toNat = k + 1 := by omega
          replace r4 := r4
          replace H8 := Mr.hid H8
          replace P8 := Mr.hid P8
          replace D8 := Mr.hid D8
          replace new8 := Mr.hid new8
          replace hPs := Mr.hid hPs
          replace z8 := Mr.hid z8
          replace B8 := Mr.hid B8
          clear O8 G8 p3 q4 lp l4 hdr
          refine wp_region_held_drew (S := (fun W => W.cell? ⟨G.p, 3, none⟩ = some (.slice (some ⟨G.g4, 0, none⟩) nt G.c4))) (by kernel_rfl) r3 (fun hHeld => ?_)
          try simp only [Act.put, List.setIfInBounds_toArray, List.set_cons_zero, List.set_cons_succ]
          refine wpAnyH_take (i := 0) (oi := (⟨_, _, _, _, _, _⟩ : Oper)) (v := ?_) rfl (by kernel_rfl) (by kernel_rfl) (by kernel_rfl) (fun _ _ _ h => h) (Or.inl ⟨by rfl, ?_⟩) (by assumption) ?_
          rotate_left
          · intro w9 hSw
            (try dsimp only at hSw)
            go_simp
            all_goals (with_reducible rfl)
          try simp only [Act.put, List.setIfInBounds_toArray, List.set_cons_zero, List.set_cons_succ]
          refine wpAnyH_take (i := 1) (oi := (⟨_, _, _, _, _, _⟩ : Oper)) (v := ?_) rfl (by kernel_rfl) (by kernel_rfl) (by kernel_rfl) (fun _ _ _ h => h) (Or.inl ⟨by rfl, ?_⟩) (by assumption) ?_
          rotate_left
          · intro w9 hSw
            (try dsimp only at hSw)
            go_simp
            all_goals (with_reducible rfl)
          try simp only [Act.put, List.setIfInBounds_toArray, List.set_cons_zero, List.set_cons_succ]
          refine wpAnyH_take (i := 2) (oi := (⟨_, _, _, _, _, _⟩ : Oper)) (v := ?_) rfl (by kernel_rfl) (by kernel_rfl) (by kernel_rfl) (fun _ _ _ h => h) (Or.inl ⟨by rfl, ?_⟩) (by assumption) ?_
          rotate_left
          · intro w9 hSw
            (try dsimp only at hSw)
            go_simp
            all_goals (with_reducible rfl)
          try simp only [Act.put, List.setIfInBounds_toArray, List.set_cons_zero, List.set_cons_succ]
          refine wpAnyH_take (i := 3) (oi := (⟨_, _, _, _, _, _⟩ : Oper)) (v := ?_) rfl (by kernel_rfl) (by kernel_rfl) (by kernel_rfl) (fun _ _ _ h => h) (Or.inl ⟨by rfl, ?_⟩) (by assumption) ?_
          rotate_left
          · intro w9 hSw
            (try dsimp only at hSw)
            go_simp
            all_goals (with_reducible rfl)
          try simp only [Act.put, List.setIfInBounds_toArray, List.set_cons_zero, List.set_cons_succ]
          refine wpAnyH_take (i := 4) (oi := (⟨_, _, _, _, _, _⟩ : Oper)) (v := ?_) rfl (by kernel_rfl) (by kernel_rfl) (by kernel_rfl) (fun _ _ _ h => h) (Or.inl ⟨by rfl, ?_⟩) (by assumption) ?_
          rotate_left
          · intro w9 hSw
            (try dsimp only at hSw)
            go_simp
            all_goals (with_reducible rfl)
          try simp only [Act.put, List.setIfInBounds_toArray, List.set_cons_zero, List.set_cons_succ]
          refine wpAnyH_take (i := 5) (oi := (⟨_, _, _, _, _, _⟩ : Oper)) (v := ?_) rfl (by kernel_rfl) (by kernel_rfl) (by kernel_rfl) (fun _ _ _ h => h) (Or.inl ⟨by rfl, ?_⟩) (by assumption) ?_
          rotate_left
          · intro w9 hSw
            (try dsimp only at hSw)
            go_simp
            all_goals (with_reducible rfl)
          try simp only [Act.put, List.setIfInBounds_toArray, List.set_cons_zero, List.set_cons_succ]
          refine wpAnyH_take (i := 6) (oi := (⟨_, _, _, _, _, _⟩ : Oper)) (v := ?_) rfl (by kernel_rfl) (by kernel_rfl) (by kernel_rfl) (fun _ _ _ h => h) (Or.inl ⟨by rfl, ?_⟩) (by assumption) ?_
          rotate_left
          · intro w9 hSw
            (try dsimp only at hSw)
            go_simp
            all_goals (with_reducible rfl)
          try simp only [Act.put, List.setIfInBounds_toArray, List.set_cons_zero, List.set_cons_succ]
          refine wpAnyH_take (i := 7) (oi := (⟨_, _, _, _, _, _⟩ : Oper)) (v := ?_) rfl (by kernel_rfl) (by kernel_rfl) (by kernel_rfl) (fun _ _ _ h => h) (Or.inl ⟨by rfl, ?_⟩) (by assumption) ?_
          rotate_left
          · intro w9 hSw
            (try dsimp only at hSw)
            go_simp
            all_goals (with_reducible rfl)
          try simp only [Act.put, List.setIfInBounds_toArray, List.set_cons_zero, List.set_cons_succ]
          refine wpAnyH_take (i := 8) (oi := (⟨_, _, _, _, _, _⟩ : Oper)) (v := ?_) rfl (by kernel_rfl) (by kernel_rfl) (by kernel_rfl) (fun _ _ _ h => h) (Or.inl ⟨by rfl, ?_⟩) (by assumption) ?_
          rotate_left
          · intro w9 hSw
            (try dsimp only at hSw)
            go_simp
            all_goals (with_reducible rfl)
          try simp only [Act.put, List.setIfInBounds_toArray, List.set_cons_zero, List.set_cons_succ]
          refine wpAnyH_take (i := 9) (oi := (⟨_, _, _, _, _, _⟩ : Oper)) (v := ?_) rfl (by kernel_rfl) (by kernel_rfl) (by kernel_rfl) (fun _ _ _ h => h) (Or.inl ⟨by rfl, ?_⟩) (by assumption) ?_
          rotate_left
          · intro w9 hSw
            (try dsimp only at hSw)
            go_simp
            all_goals (with_reducible rfl)
          try simp only [Act.put, List.setIfInBounds_toArray, List.set_cons_zero, List.set_cons_succ]
          refine wpAnyH_take (i := 10) (oi := (⟨_, _, _, _, _, _⟩ : Oper)) (v := ?_) rfl (by kernel_rfl) (by kernel_rfl) (by kernel_rfl) (fun _ _ _ h => h) (Or.inl ⟨by rfl, ?_⟩) (by assumption) ?_
          rotate_left
          · intro w9 hSw
            (try dsimp only at hSw)
            go_simp
            all_goals (with_reducible rfl)
          try simp only [Act.put, List.setIfInBounds_toArray, List.set_cons_zero, List.set_cons_succ]
          refine wpAnyH_take (i := 11) (oi := (⟨_, _, _, _, _, _⟩ : Oper)) (v := ?_) rfl (by kernel_rfl) (by kernel_rfl) (by kernel_rfl) (fun _ _ _ h => h) (Or.inl ⟨by rfl, ?_⟩) (by assumption) ?_
          rotate_left
          · intro w9 hSw
            (try dsimp only at hSw)
            go_simp
            all_goals (with_reducible rfl)
          try simp only [Act.put, List.setIfInBounds_toArray, List.set_cons_zero, List.set_cons_succ]
          refine wpAnyH_take (i := 13) (oi := (⟨_, _, _, _, _, _⟩ : Oper)) (v := ?_) rfl (by kernel_rfl) (by kernel_rfl) (by kernel_rfl) (fun _ _ _ h => h) (Or.inl ⟨by rfl, ?_⟩) (by assumption) ?_
          rotate_left
          · intro w9 hSw
            (try dsimp only at hSw)
            go_simp
            all_goals (with_reducible rfl)
          try simp only [Act.put, List.setIfInBounds_toArray, List.set_cons_zero, List.set_cons_succ]
          refine wpAnyH_take (i := 14) (oi := (⟨_, _, _, _, _, _⟩ : Oper)) (v := ?_) rfl (by kernel_rfl) (by kernel_rfl) (by kernel_rfl) (fun _ _ _ h => h) (Or.inl ⟨by rfl, ?_⟩) (by assumption) ?_
          rotate_left
          · intro w9 hSw
            (try dsimp only at hSw)
            go_simp
            all_goals (with_reducible rfl)
          try simp only [Act.put, List.setIfInBounds_toArray, List.set_cons_zero, List.set_cons_succ]
          refine wpAnyH_ready (rs := [12]) (by kernel_rfl) (by simp) ?_
          refine AllReadyH.cons (o := (⟨_, _, _, _, _, _⟩ : Oper)) rfl (fun K hK => ?_) (AllReadyH.nil)
          go_simp
          refine hK.out _ _ r3 (fun hHeld9 => ?_)
          clear hK K hHeld
          have hHeld := hHeld9
          clear hHeld9
          try simp only [Act.put, List.setIfInBounds_toArray, List.set_cons_zero, List.set_cons_succ]
          refine wpAnyH_take (i := 15) (oi := (⟨_, _, _, _, _, _⟩ : Oper)) (v := ?_) rfl (by kernel_rfl) (by kernel_rfl) (by kernel_rfl) (fun _ _ _ h => h) (Or.inl ⟨by rfl, ?_⟩) (by assumption) ?_
          rotate_left
          · intro w9 hSw
            (try dsimp only at hSw)
            go_simp
            all_goals (with_reducible rfl)
          try simp only [Act.put, List.setIfInBounds_toArray, List.set_cons_zero, List.set_cons_succ]
          refine wpAnyH_ready (rs := [16]) (by kernel_rfl) (by simp) ?_
          refine AllReadyH.cons (o := (⟨_, _, _, _, _, _⟩ : Oper)) rfl (fun K hK => ?_) (AllReadyH.nil)
          refine wp_app_pd _ _ rfl (G.out B) (.slice a8 m8 c8) m8 ([] ++ b.take k) rfl M8.out (H8.out.below (Below.refl _ _).drew) _ _ _ (b.drop (k + 1)) rfl (hPs.out _ (Below.refl _ _).drew) (by simp; omega) new8.out (fun a9 c9 m9 w9 M9 H9 G9 O9 => ?_)
          have z9 : ∀ k9, (Value.slice a9 m9 c9).ownBlock = some k9 → w6.heap.size ≤ k9 := fun k9 e => by
            rcases O9 with e8 | e8
            · rw [← e8] at e; have := z8.out k9 e; omega
            · rw [e8] at e; cases e; exact B8.out.size
          have B9 : Below w6.heap.size w8 w9 := ((Below.refl _ w8).drew).trans (below_of_grown G9 (fun k9 e => by have := z8.out k9 e; omega) B8.out.size)
          have s3 := (World.cell?_of_block (a := ⟨G.p, 3, none⟩) (B9.block G.p D6.out.lts.1)).trans r3
          have s4 := (World.cell?_of_block (a := ⟨G.g4, t, none⟩) (B9.block G.g4 D6.out.lts.2.2.2.2)).trans r4
          have g4 : ∀ j, w9.frozen? ⟨G.g4, j, none⟩ = false := fun j => (World.frozen?_of_block (a := ⟨G.g4, j, none⟩) (B9.block G.g4 D6.out.lts.2.2.2.2)).trans (f4 j)
          have l4 : G.g4 < w9.heap.size := Nat.lt_of_lt_of_le m4 B9.size
          rw [show [] ++ b.take k ++ b.drop (k + 1) = b.eraseIdx k by rw [List.nil_append, List.eraseIdx_eq_take_drop_succ]] at H9 M9
          have H9' : Has w9 (G.out B) 70 2 (.slice a9 m9 c9) (b.eraseIdx k).length (pdV (b.eraseIdx k)) := by rw [← M9.out]; exact H9
          have hD9 := Ds.setB (W := w6) (W' := w9) D6.out ht hA6 (fun k9 hk9 hne9 => (B9.block k9 hk9).trans (B8.out.block k9 hk9)) (Nat.le_trans B8.out.size B9.size) H9' (.inr z9)
          have hB9 : Below B w (w9.setCell ⟨G.g4, t, none⟩ (.slice a9 m9 c9)) := ((BB6.trans (B8.out.mono BZ6)).trans (B9.mono BZ6)).setCell (p := ⟨G.g4, t, none⟩) (by show B ≤ G.g4; have := hok.out.le; omega) _
          have hp4 : ¬ G.g4 = G.p := by have := hok.out.np; omega
          have t3 := (World.cell?_of_block (a := ⟨G.p, 3, none⟩) (Below.heap_setCell w9 ⟨G.g4, t, none⟩ (.slice a9 m9 c9) G.p (by show G.p ≠ G.g4; omega))).trans s3
          replace hD9 := Mr.hid hD9
          replace hB9 := Mr.hid hB9
          clear H9 H9' G9 O9 z9 B9 r3 r4 f4 m4
          refine hK.out _ _ s3 (fun hHeld9 => ?_)
          clear hK K hHeld
          have hHeld := hHeld9
          clear hHeld9
          try simp only [Act.put, List.setIfInBounds_toArray, List.set_cons_zero, List.set_cons_succ]
          refine wpAnyH_take (i := 17) (oi := (⟨_, _, _, _, _, _⟩ : Oper)) (v := ?_) rfl (by kernel_rfl) (by kernel_rfl) (by kernel_rfl) (fun _ _ _ h => h) (Or.inl ⟨by rfl, ?_⟩) (by assumption) ?_
          rotate_left
          · intro w9 hSw
            (try dsimp only at hSw)
            go_simp
            all_goals (with_reducible rfl)
          try simp only [Act.put, List.setIfInBounds_toArray, List.set_cons_zero, List.set_cons_succ]
          refine wpAnyH_ready (rs := [18]) (by kernel_rfl) (by simp) ?_
          refine AllReadyH.cons (o := (⟨_, _, _, _, _, _⟩ : Oper)) rfl (fun K hK => ?_) (AllReadyH.nil)
          go_simp
          refine hK.out _ _ t3 (fun hHeld9 => ?_)
          clear hK K hHeld
          have hHeld := hHeld9
          clear hHeld9
          try simp only [Act.put, List.setIfInBounds_toArray, List.set_cons_zero, List.set_cons_succ]
          refine wpAnyH_done (by kernel_rfl) ?_ _
          clear hHeld t3 s3 s4 g4 l4
          go_wp2
          all_goals
            go_ret
            refine .inr ⟨_, hR.out, rfl, ?_⟩
            rw [hv.out.upd_wb]
            exact ⟨hD9.out, hB9.out⟩
      | false =>
        have hn2 := hgo.out hf
        replace hn2 := Mr.hid hn2
        clear hR1 hgo
        have ho2 : o ≠ 2 := by intro e; simp [outF, e] at hf
        have he : (an : Int) ≠ ad := by simpa [outF, ho2] using hf
        have ho3' : o = 3 := by have := ho1.out; omega
        have dO3 : (o == 3) = true := by rw [ho3']; simp
        have q1 : ((an : Int) != ad) = true := bne_iff_ne.2 he
        replace he := Mr.hid he
        replace ho2 := Mr.hid ho2
        replace ho3' := Mr.hid ho3'
        replace hf := Mr.hid hf
        clear ho3
        go_wp2
        go_roundg (gk - 1)
        case measure => have := hk'.out; omega
        case rel => exact ⟨k + 1, by simp, by have := hk'.out; omega, hn2.out, hB'.out.alloc hB'.out.size _⟩
    · have dk : decide ((k : Int) < (n : Int)) = false := decide_eq_false (by omega)
      have dk2 : ¬ (k : Int) < (n : Int) := by omega
      have hall := Mr.hid (hmiss.out (fun q hq => hno q (by rw [List.take_of_length_le (by have := hn.out; omega)]; exact hq)))
      have hD9 := Mr.hid (hD0.out.below hB)
      have hB9 := Mr.hid (hB.mono hBw.out)
      clear hno hk hlt hB
      go_wp2
      go_ret
      exact .inl ⟨hall.out, rfl, hD9.out, hB9.out⟩
end Go.Proofs.YtmejblmeaipahaaDoor.Ts
