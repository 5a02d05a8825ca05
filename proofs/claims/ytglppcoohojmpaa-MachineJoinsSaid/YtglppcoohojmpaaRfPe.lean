import Derived.Test.YtglppcoohojmpaaRfShare
/-
  Three machines and two of the document's, side by side in a law.
-/
namespace Go.Proofs.Ytglppcoohojmpaa.Rf
open Go.RowKit Go.Shelf Mr Me Ma
set_option linter.unusedVariables false
structure Pe (w W : World) (Z : Nat → Prop) (x y z : Value) (g1 g2 : Nat) (Ka Kb Kc : Nat → Prop) (kma kmb kmc la lb : Nat) (qa qb qc : Ph) (qw qp : Rc) (Pa Pb Pc Pw Pp : Pm) : Prop where
  ex : ∃ U : Nat → Nat → Prop, LvG W (U 0) Ka kma la qa Pa ∧ LvG W (U 1) Kb kmb lb qb Pb ∧ LvG W (U 2) Kc kmc 0 qc Pc ∧ Ss W (U 3) g1 g2 qw Pw ∧ Ss W (U 4) g1 g2 qp Pp ∧ (∀ i k, U i k → i < 5 → k < W.heap.size ∧ ¬ Z k) ∧ (∀ i j k, U i k → U j k → i < 5 → j < 5 → i = j)
  zl : ∀ k, Z k → k < W.heap.size
  za : ∀ k, Ka k → Z k
  zb : ∀ k, Kb k → Z k
  zc : ∀ k, Kc k → Z k
  zg : Z g1 ∧ Z g2
  zw : ∀ k, k ≤ w.heap.size → Z k
  kg : ∀ k, Ka k ∨ Kb k ∨ Kc k → k ≠ g1 ∧ k ≠ g2
  gl : w.heap.size < g1 ∧ w.heap.size < g2
  k : K3 w W x y z
section
variable {w W W' : World} {Z : Nat → Prop} {x y z : Value} {g1 g2 : Nat} {Ka Kb Kc : Nat → Prop} {kma kmb kmc la lb : Nat} {qa qb qc : Ph} {qw qp : Rc} {Pa Pb Pc Pw Pp : Pm}
def PQ (i : Nat) (V : Nat → Prop) (U : Nat → Nat → Prop) : Nat → Nat → Prop := fun j => if j = i then V else U j
theorem pq_at (i : Nat) (V : Nat → Prop) (U : Nat → Nat → Prop) : PQ i V U i = V := if_pos rfl
theorem pq_other {i j : Nat} (h : j ≠ i) (V : Nat → Prop) (U : Nat → Nat → Prop) : PQ i V U j = U j := if_neg h
theorem pq_avoid {i : Nat} {V : Nat → Prop} {U : Nat → Nat → Prop} (hi : i < 5) (hV : ∀ k, V k → (U i k ∨ W.heap.size ≤ k) ∧ k < W'.heap.size) (hz : ∀ k, Z k → k < W.heap.size) (hs : W.heap.size ≤ W'.heap.size) (h : ∀ i k, U i k → i < 5 → k < W.heap.size ∧ ¬ Z k) : ∀ j k, PQ i V U j k → j < 5 → k < W'.heap.size ∧ ¬ Z k := fun j k hk hj => by
  by_cases e : j = i
  · subst e
    rw [pq_at] at hk
    obtain ⟨h1, h2⟩ := hV k hk
    refine ⟨h2, fun hzk => ?_⟩
    rcases h1 with g | g
    · exact (h j k g hj).2 hzk
    · have := hz k hzk; omega
  · rw [pq_other e] at hk
    exact ⟨Nat.lt_of_lt_of_le (h j k hk hj).1 hs, (h j k hk hj).2⟩
theorem pq_apart {i : Nat} {V : Nat → Prop} {U : Nat → Nat → Prop} (hi : i < 5) (hV : ∀ k, V k → U i k ∨ W.heap.size ≤ k) (h : ∀ i k, U i k → i < 5 → k < W.heap.size ∧ ¬ Z k) (ha : ∀ i j k, U i k → U j k → i < 5 → j < 5 → i = j) : ∀ a b k, PQ i V U a k → PQ i V U b k → a < 5 → b < 5 → a = b := fun a b k hk1 hk2 ha5 hb5 => by
  have side : ∀ c, c < 5 → c ≠ i → V k → U c k → False := fun c hc hci hv hu => by
    rcases hV k hv with g | g
    · exact hci (ha c i k hu g hc hi)
    · have := (h c k hu hc).1; omega
  by_cases e1 : a = i
  · by_cases e2 : b = i
    · rw [e1, e2]
    · rw [e1, pq_at] at hk1
      rw [pq_other e2] at hk2
      exact (side b hb5 e2 hk1 hk2).elim
  · by_cases e2 : b = i
    · rw [e2, pq_at] at hk2
      rw [pq_other e1] at hk1
      exact (side a ha5 e1 hk2 hk1).elim
    · rw [pq_other e1] at hk1
      rw [pq_other e2] at hk2
      exact ha a b k hk1 hk2 ha5 hb5
theorem pe_a (h : Pe w W Z x y z g1 g2 Ka Kb Kc kma kmb kmc la lb qa qb qc qw qp Pa Pb Pc Pw Pp) (th op arg data : Int) :
    Calls Try.prog 14 #[.pointer (some ⟨qa.b, 0, none⟩), .agg #[.int .i64 th, .int .i64 op, .int .i64 arg, .int .i64 data]] W fun e w' => e = .returned (.bool (Pa.moveL la th op arg data).2) ∧ Pe w w' Z x y z g1 g2 Ka Kb Kc kma kmb kmc la lb qa qb qc qw qp (Pa.moveL la th op arg data).1 Pb Pc Pw Pp ∧ (∀ k, Z k → k ≠ g1 → k ≠ g2 → w'.heap[k]? = W.heap[k]?) ∧ W.heap.size ≤ w'.heap.size := by
  obtain ⟨U, e0, e1, e2, e3, e4, hav, hap⟩ := h.ex
  refine (liveG_move e0 th op arg data).mono ?_
  rintro e w' ⟨he, V, f1, f2, f3⟩
  have nz : ∀ k, Z k → ¬ U 0 k := fun k hz hu => (hav 0 k hu (by decide)).2 hz
  have hz : ∀ k, Z k → w'.heap[k]? = W.heap[k]? := fun k hk => f3.block k (h.zl k hk) (nz k hk)
  have hu : ∀ j k, j < 5 → j ≠ 0 → U j k → w'.heap[k]? = W.heap[k]? := fun j k hj hji huj => f3.block k (hav j k huj hj).1 (fun h0 => hji (hap j 0 k huj h0 hj (by decide)))
  have hV : ∀ k, V k → (U 0 k ∨ W.heap.size ≤ k) ∧ k < w'.heap.size := fun k hk => ⟨f2 k hk, f1.ul k hk⟩
  exact ⟨he, ⟨⟨PQ 0 V U, by rw [pq_at]; exact f1, by rw [pq_other (by decide)]; exact e1.kept (fun k hk => by rcases hk with g | g; exact hu 1 k (by decide) (by decide) g; exact hz k (h.zb k g)) f3.size, by rw [pq_other (by decide)]; exact e2.kept (fun k hk => by rcases hk with g | g; exact hu 2 k (by decide) (by decide) g; exact hz k (h.zc k g)) f3.size, by rw [pq_other (by decide)]; exact e3.same (fun k hk => by rcases hk with g | g | g; exact hu 3 k (by decide) (by decide) g; (rw [g]; exact hz _ h.zg.1); (rw [g]; exact hz _ h.zg.2)) f3.size, by rw [pq_other (by decide)]; exact e4.same (fun k hk => by rcases hk with g | g | g; exact hu 4 k (by decide) (by decide) g; (rw [g]; exact hz _ h.zg.1); (rw [g]; exact hz _ h.zg.2)) f3.size, pq_avoid (by decide) hV h.zl f3.size hav, pq_apart (by decide) (fun k hk => (hV k hk).1) hav hap⟩, fun k hk => Nat.lt_of_lt_of_le (h.zl k hk) f3.size, h.za, h.zb, h.zc, h.zg, h.zw, h.kg, h.gl, h.k.kept f3 (fun k hk => Nat.lt_of_not_le (fun hle => nz k (h.zw k hle) hk))⟩, fun k hk _ _ => hz k hk, f3.size⟩
theorem pe_b (h : Pe w W Z x y z g1 g2 Ka Kb Kc kma kmb kmc la lb qa qb qc qw qp Pa Pb Pc Pw Pp) (th op arg data : Int) :
    Calls Try.prog 14 #[.pointer (some ⟨qb.b, 0, none⟩), .agg #[.int .i64 th, .int .i64 op, .int .i64 arg, .int .i64 data]] W fun e w' => e = .returned (.bool (Pb.moveL lb th op arg data).2) ∧ Pe w w' Z x y z g1 g2 Ka Kb Kc kma kmb kmc la lb qa qb qc qw qp Pa (Pb.moveL lb th op arg data).1 Pc Pw Pp ∧ (∀ k, Z k → k ≠ g1 → k ≠ g2 → w'.heap[k]? = W.heap[k]?) ∧ W.heap.size ≤ w'.heap.size := by
  obtain ⟨U, e0, e1, e2, e3, e4, hav, hap⟩ := h.ex
  refine (liveG_move e1 th op arg data).mono ?_
  rintro e w' ⟨he, V, f1, f2, f3⟩
  have nz : ∀ k, Z k → ¬ U 1 k := fun k hz hu => (hav 1 k hu (by decide)).2 hz
  have hz : ∀ k, Z k → w'.heap[k]? = W.heap[k]? := fun k hk => f3.block k (h.zl k hk) (nz k hk)
  have hu : ∀ j k, j < 5 → j ≠ 1 → U j k → w'.heap[k]? = W.heap[k]? := fun j k hj hji huj => f3.block k (hav j k huj hj).1 (fun h0 => hji (hap j 1 k huj h0 hj (by decide)))
  have hV : ∀ k, V k → (U 1 k ∨ W.heap.size ≤ k) ∧ k < w'.heap.size := fun k hk => ⟨f2 k hk, f1.ul k hk⟩
  exact ⟨he, ⟨⟨PQ 1 V U, by rw [pq_other (by decide)]; exact e0.kept (fun k hk => by rcases hk with g | g; exact hu 0 k (by decide) (by decide) g; exact hz k (h.za k g)) f3.size, by rw [pq_at]; exact f1, by rw [pq_other (by decide)]; exact e2.kept (fun k hk => by rcases hk with g | g; exact hu 2 k (by decide) (by decide) g; exact hz k (h.zc k g)) f3.size, by rw [pq_other (by decide)]; exact e3.same (fun k hk => by rcases hk with g | g | g; exact hu 3 k (by decide) (by decide) g; (rw [g]; exact hz _ h.zg.1); (rw [g]; exact hz _ h.zg.2)) f3.size, by rw [pq_other (by decide)]; exact e4.same (fun k hk => by rcases hk with g | g | g; exact hu 4 k (by decide) (by decide) g; (rw [g]; exact hz _ h.zg.1); (rw [g]; exact hz _ h.zg.2)) f3.size, pq_avoid (by decide) hV h.zl f3.size hav, pq_apart (by decide) (fun k hk => (hV k hk).1) hav hap⟩, fun k hk => Nat.lt_of_lt_of_le (h.zl k hk) f3.size, h.za, h.zb, h.zc, h.zg, h.zw, h.kg, h.gl, h.k.kept f3 (fun k hk => Nat.lt_of_not_le (fun hle => nz k (h.zw k hle) hk))⟩, fun k hk _ _ => hz k hk, f3.size⟩
theorem pe_c (h : Pe w W Z x y z g1 g2 Ka Kb Kc kma kmb kmc la lb qa qb qc qw qp Pa Pb Pc Pw Pp) (th op arg data : Int) :
    Calls Try.prog 14 #[.pointer (some ⟨qc.b, 0, none⟩), .agg #[.int .i64 th, .int .i64 op, .int .i64 arg, .int .i64 data]] W fun e w' => e = .returned (.bool (Pc.moveL 0 th op arg data).2) ∧ Pe w w' Z x y z g1 g2 Ka Kb Kc kma kmb kmc la lb qa qb qc qw qp Pa Pb (Pc.moveL 0 th op arg data).1 Pw Pp ∧ (∀ k, Z k → k ≠ g1 → k ≠ g2 → w'.heap[k]? = W.heap[k]?) ∧ W.heap.size ≤ w'.heap.size := by
  obtain ⟨U, e0, e1, e2, e3, e4, hav, hap⟩ := h.ex
  refine (liveG_move e2 th op arg data).mono ?_
  rintro e w' ⟨he, V, f1, f2, f3⟩
  have nz : ∀ k, Z k → ¬ U 2 k := fun k hz hu => (hav 2 k hu (by decide)).2 hz
  have hz : ∀ k, Z k → w'.heap[k]? = W.heap[k]? := fun k hk => f3.block k (h.zl k hk) (nz k hk)
  have hu : ∀ j k, j < 5 → j ≠ 2 → U j k → w'.heap[k]? = W.heap[k]? := fun j k hj hji huj => f3.block k (hav j k huj hj).1 (fun h0 => hji (hap j 2 k huj h0 hj (by decide)))
  have hV : ∀ k, V k → (U 2 k ∨ W.heap.size ≤ k) ∧ k < w'.heap.size := fun k hk => ⟨f2 k hk, f1.ul k hk⟩
  exact ⟨he, ⟨⟨PQ 2 V U, by rw [pq_other (by decide)]; exact e0.kept (fun k hk => by rcases hk with g | g; exact hu 0 k (by decide) (by decide) g; exact hz k (h.za k g)) f3.size, by rw [pq_other (by decide)]; exact e1.kept (fun k hk => by rcases hk with g | g; exact hu 1 k (by decide) (by decide) g; exact hz k (h.zb k g)) f3.size, by rw [pq_at]; exact f1, by rw [pq_other (by decide)]; exact e3.same (fun k hk => by rcases hk with g | g | g; exact hu 3 k (by decide) (by decide) g; (rw [g]; exact hz _ h.zg.1); (rw [g]; exact hz _ h.zg.2)) f3.size, by rw [pq_other (by decide)]; exact e4.same (fun k hk => by rcases hk with g | g | g; exact hu 4 k (by decide) (by decide) g; (rw [g]; exact hz _ h.zg.1); (rw [g]; exact hz _ h.zg.2)) f3.size, pq_avoid (by decide) hV h.zl f3.size hav, pq_apart (by decide) (fun k hk => (hV k hk).1) hav hap⟩, fun k hk => Nat.lt_of_lt_of_le (h.zl k hk) f3.size, h.za, h.zb, h.zc, h.zg, h.zw, h.kg, h.gl, h.k.kept f3 (fun k hk => Nat.lt_of_not_le (fun hle => nz k (h.zw k hle) hk))⟩, fun k hk _ _ => hz k hk, f3.size⟩
theorem pe_w (h : Pe w W Z x y z g1 g2 Ka Kb Kc kma kmb kmc la lb qa qb qc qw qp Pa Pb Pc Pw Pp) (th op arg data : Int) :
    Calls Try.prog 15 #[.pointer (some ⟨qw.b, 0, none⟩), .agg #[.int .i64 th, .int .i64 op, .int .i64 arg, .int .i64 data]] W fun e w' => e = .returned (.bool (Pw.move th op arg data).2) ∧ Pe w w' Z x y z g1 g2 Ka Kb Kc kma kmb kmc la lb qa qb qc qw qp Pa Pb Pc (Pw.move th op arg data).1 Pp ∧ (∀ k, Z k → k ≠ g1 → k ≠ g2 → w'.heap[k]? = W.heap[k]?) ∧ W.heap.size ≤ w'.heap.size := by
  obtain ⟨U, e0, e1, e2, e3, e4, hav, hap⟩ := h.ex
  refine (share_move e3 th op arg data).mono ?_
  rintro e w' ⟨he, V, f1, f2, f3⟩
  have nz : ∀ k, Z k → k ≠ g1 → k ≠ g2 → ¬ (U 3 k ∨ k = g1 ∨ k = g2) := fun k hz n1 n2 hu => by
    rcases hu with g | g | g
    · exact (hav 3 k g (by decide)).2 hz
    · exact n1 g
    · exact n2 g
  have hz : ∀ k, Z k → k ≠ g1 → k ≠ g2 → w'.heap[k]? = W.heap[k]? := fun k hk n1 n2 => f3.block k (h.zl k hk) (nz k hk n1 n2)
  have hu : ∀ j k, j < 5 → j ≠ 3 → U j k → w'.heap[k]? = W.heap[k]? := fun j k hj hji huj => f3.block k (hav j k huj hj).1 (fun h0 => by
    rcases h0 with g | g | g
    · exact hji (hap j 3 k huj g hj (by decide))
    · exact (hav j k huj hj).2 (by rw [g]; exact h.zg.1)
    · exact (hav j k huj hj).2 (by rw [g]; exact h.zg.2))
  have hV : ∀ k, V k → (U 3 k ∨ W.heap.size ≤ k) ∧ k < w'.heap.size := fun k hk => ⟨(f2 k hk).1, f1.ul k hk⟩
  have kk : ∀ k, (U 3 k ∨ k = g1 ∨ k = g2) → w.heap.size < k := fun k hk => by
    rcases hk with g | g | g
    · exact Nat.lt_of_not_le (fun hle => (hav 3 k g (by decide)).2 (h.zw k hle))
    · rw [g]; exact h.gl.1
    · rw [g]; exact h.gl.2
  exact ⟨he, ⟨⟨PQ 3 V U, by rw [pq_other (by decide)]; exact e0.kept (fun k hk => by rcases hk with g | g; exact hu 0 k (by decide) (by decide) g; exact hz k (h.za k g) (h.kg k (.inl g)).1 (h.kg k (.inl g)).2) f3.size, by rw [pq_other (by decide)]; exact e1.kept (fun k hk => by rcases hk with g | g; exact hu 1 k (by decide) (by decide) g; exact hz k (h.zb k g) (h.kg k (.inr (.inl g))).1 (h.kg k (.inr (.inl g))).2) f3.size, by rw [pq_other (by decide)]; exact e2.kept (fun k hk => by rcases hk with g | g; exact hu 2 k (by decide) (by decide) g; exact hz k (h.zc k g) (h.kg k (.inr (.inr g))).1 (h.kg k (.inr (.inr g))).2) f3.size, by rw [pq_at]; exact f1, by rw [pq_other (by decide)]; exact e4.kept f1 (fun k hk _ _ => hu 4 k (by decide) (by decide) hk) f3.size, pq_avoid (by decide) hV h.zl f3.size hav, pq_apart (by decide) (fun k hk => (hV k hk).1) hav hap⟩, fun k hk => Nat.lt_of_lt_of_le (h.zl k hk) f3.size, h.za, h.zb, h.zc, h.zg, h.zw, h.kg, h.gl, h.k.kept f3 kk⟩, hz, f3.size⟩
theorem pe_p (h : Pe w W Z x y z g1 g2 Ka Kb Kc kma kmb kmc la lb qa qb qc qw qp Pa Pb Pc Pw Pp) (th op arg data : Int) :
    Calls Try.prog 15 #[.pointer (some ⟨qp.b, 0, none⟩), .agg #[.int .i64 th, .int .i64 op, .int .i64 arg, .int .i64 data]] W fun e w' => e = .returned (.bool (Pp.move th op arg data).2) ∧ Pe w w' Z x y z g1 g2 Ka Kb Kc kma kmb kmc la lb qa qb qc qw qp Pa Pb Pc Pw (Pp.move th op arg data).1 ∧ (∀ k, Z k → k ≠ g1 → k ≠ g2 → w'.heap[k]? = W.heap[k]?) ∧ W.heap.size ≤ w'.heap.size := by
  obtain ⟨U, e0, e1, e2, e3, e4, hav, hap⟩ := h.ex
  refine (share_move e4 th op arg data).mono ?_
  rintro e w' ⟨he, V, f1, f2, f3⟩
  have nz : ∀ k, Z k → k ≠ g1 → k ≠ g2 → ¬ (U 4 k ∨ k = g1 ∨ k = g2) := fun k hz n1 n2 hu => by
    rcases hu with g | g | g
    · exact (hav 4 k g (by decide)).2 hz
    · exact n1 g
    · exact n2 g
  have hz : ∀ k, Z k → k ≠ g1 → k ≠ g2 → w'.heap[k]? = W.heap[k]? := fun k hk n1 n2 => f3.block k (h.zl k hk) (nz k hk n1 n2)
  have hu : ∀ j k, j < 5 → j ≠ 4 → U j k → w'.heap[k]? = W.heap[k]? := fun j k hj hji huj => f3.block k (hav j k huj hj).1 (fun h0 => by
    rcases h0 with g | g | g
    · exact hji (hap j 4 k huj g hj (by decide))
    · exact (hav j k huj hj).2 (by rw [g]; exact h.zg.1)
    · exact (hav j k huj hj).2 (by rw [g]; exact h.zg.2))
  have hV : ∀ k, V k → (U 4 k ∨ W.heap.size ≤ k) ∧ k < w'.heap.size := fun k hk => ⟨(f2 k hk).1, f1.ul k hk⟩
  have kk : ∀ k, (U 4 k ∨ k = g1 ∨ k = g2) → w.heap.size < k := fun k hk => by
    rcases hk with g | g | g
    · exact Nat.lt_of_not_le (fun hle => (hav 4 k g (by decide)).2 (h.zw k hle))
    · rw [g]; exact h.gl.1
    · rw [g]; exact h.gl.2
  exact ⟨he, ⟨⟨PQ 4 V U, by rw [pq_other (by decide)]; exact e0.kept (fun k hk => by rcases hk with g | g; exact hu 0 k (by decide) (by decide) g; exact hz k (h.za k g) (h.kg k (.inl g)).1 (h.kg k (.inl g)).2) f3.size, by rw [pq_other (by decide)]; exact e1.kept (fun k hk => by rcases hk with g | g; exact hu 1 k (by decide) (by decide) g; exact hz k (h.zb k g) (h.kg k (.inr (.inl g))).1 (h.kg k (.inr (.inl g))).2) f3.size, by rw [pq_other (by decide)]; exact e2.kept (fun k hk => by rcases hk with g | g; exact hu 2 k (by decide) (by decide) g; exact hz k (h.zc k g) (h.kg k (.inr (.inr g))).1 (h.kg k (.inr (.inr g))).2) f3.size, by rw [pq_other (by decide)]; exact e3.kept f1 (fun k hk _ _ => hu 3 k (by decide) (by decide) hk) f3.size, by rw [pq_at]; exact f1, pq_avoid (by decide) hV h.zl f3.size hav, pq_apart (by decide) (fun k hk => (hV k hk).1) hav hap⟩, fun k hk => Nat.lt_of_lt_of_le (h.zl k hk) f3.size, h.za, h.zb, h.zc, h.zg, h.zw, h.kg, h.gl, h.k.kept f3 kk⟩, hz, f3.size⟩
theorem Pe.below (h : Pe w W Z x y z g1 g2 Ka Kb Kc kma kmb kmc la lb qa qb qc qw qp Pa Pb Pc Pw Pp) (hB : Below W.heap.size W W') : Pe w W' Z x y z g1 g2 Ka Kb Kc kma kmb kmc la lb qa qb qc qw qp Pa Pb Pc Pw Pp := by
  obtain ⟨U, e0, e1, e2, e3, e4, hav, hap⟩ := h.ex
  exact ⟨⟨U, e0.kept (fun k hk => hB.block k (by rcases hk with g | g; exact (hav 0 k g (by decide)).1; exact h.zl k (h.za k g))) hB.size, e1.kept (fun k hk => hB.block k (by rcases hk with g | g; exact (hav 1 k g (by decide)).1; exact h.zl k (h.zb k g))) hB.size, e2.kept (fun k hk => hB.block k (by rcases hk with g | g; exact (hav 2 k g (by decide)).1; exact h.zl k (h.zc k g))) hB.size, e3.same (fun k hk => hB.block k (e3.s.ul k hk)) hB.size, e4.same (fun k hk => hB.block k (e4.s.ul k hk)) hB.size, fun i k hk hi => ⟨Nat.lt_of_lt_of_le (hav i k hk hi).1 hB.size, (hav i k hk hi).2⟩, hap⟩, fun k hk => Nat.lt_of_lt_of_le (h.zl k hk) hB.size, h.za, h.zb, h.zc, h.zg, h.zw, h.kg, h.gl, h.k.below hB⟩
/-- A new block beside. -/
theorem Pe.add (h : Pe w W Z x y z g1 g2 Ka Kb Kc kma kmb kmc la lb qa qb qc qw qp Pa Pb Pc Pw Pp) (o : Obj) : Pe w (W.alloc o) (fun k => Z k ∨ k = W.heap.size) x y z g1 g2 Ka Kb Kc kma kmb kmc la lb qa qb qc qw qp Pa Pb Pc Pw Pp := by
  have h' := h.below ((Below.refl W.heap.size W).alloc (Nat.le_refl _) o)
  obtain ⟨U, e0, e1, e2, e3, e4, hav, hap⟩ := h.ex
  obtain ⟨U', e0', e1', e2', e3', e4', hav', hap'⟩ := h'.ex
  have B := (Below.refl W.heap.size W).alloc (Nat.le_refl _) o
  exact ⟨⟨U, e0.kept (fun k hk => B.block k (by rcases hk with g | g; exact (hav 0 k g (by decide)).1; exact h.zl k (h.za k g))) B.size, e1.kept (fun k hk => B.block k (by rcases hk with g | g; exact (hav 1 k g (by decide)).1; exact h.zl k (h.zb k g))) B.size, e2.kept (fun k hk => B.block k (by rcases hk with g | g; exact (hav 2 k g (by decide)).1; exact h.zl k (h.zc k g))) B.size, e3.same (fun k hk => B.block k (e3.s.ul k hk)) B.size, e4.same (fun k hk => B.block k (e4.s.ul k hk)) B.size, fun i k hk hi => ⟨Nat.lt_of_lt_of_le (hav i k hk hi).1 B.size, fun hz => by rcases hz with g | g; exact (hav i k hk hi).2 g; (have := (hav i k hk hi).1; omega)⟩, hap⟩, fun k hk => by rcases hk with g | g; exact Nat.lt_of_lt_of_le (h.zl k g) B.size; (rw [g]; simp), fun k hk => .inl (h.za k hk), fun k hk => .inl (h.zb k hk), fun k hk => .inl (h.zc k hk), ⟨.inl h.zg.1, .inl h.zg.2⟩, fun k hk => .inl (h.zw k hk), h.kg, h.gl, h'.k⟩
/-- And no longer. -/
theorem Pe.sub {Z' : Nat → Prop} (h : Pe w W Z' x y z g1 g2 Ka Kb Kc kma kmb kmc la lb qa qb qc qw qp Pa Pb Pc Pw Pp) (hZ : ∀ k, Z k → Z' k) (za : ∀ k, Ka k → Z k) (zb : ∀ k, Kb k → Z k) (zc : ∀ k, Kc k → Z k) (zg : Z g1 ∧ Z g2) (zw : ∀ k, k ≤ w.heap.size → Z k) : Pe w W Z x y z g1 g2 Ka Kb Kc kma kmb kmc la lb qa qb qc qw qp Pa Pb Pc Pw Pp := by
  obtain ⟨U, e0, e1, e2, e3, e4, hav, hap⟩ := h.ex
  exact ⟨⟨U, e0, e1, e2, e3, e4, fun i k hk hi => ⟨(hav i k hk hi).1, fun hz => (hav i k hk hi).2 (hZ k hz)⟩, hap⟩, fun k hk => h.zl k (hZ k hk), za, zb, zc, zg, zw, h.kg, h.gl, h.k⟩
end
end Go.Proofs.Ytglppcoohojmpaa.Rf
