import Derived.Test.YtegbcocbopgghabJ01
import Derived.Test.YtegbcocbopgghabChecked
import Derived.Laws.AppendOwn
import Derived.WalkSpells
import Derived.Deep.RegionHeld3
import Derived.Test.YtegbcocbopgghabJ03
import Derived.Deep.RegionHeldLaw
/-
  append onto nil from whatever source.
-/
namespace Go.Proofs.Ytegbcocbopgghab.Me
open Go.RowKit Mr
set_option linter.unusedVariables false
section
variable {P : Program} (w : World)
theorem run_append_none (t ty e : TypeId) (i : TypeInfo) (ht : P.underlying t = some (.slice e)) (hi : P.info? e = some i) (a0 : Option Addr) (c : Nat) :
    (Builtin.append_ #[t, t] ty #[.slice none 0 0, .slice a0 0 c]).run P w = .ok (.slice none 0 0) w := by
  cases a0 <;> simp [Builtin.append_, run_underlying ht, sizeOf, typeInfo, hi, Builtin.lenOf, Builtin.firstCells, loadCells, loadCellsFrom]
theorem run_append_fresh (S : Nat → Prop) (t ty e : TypeId) (i : TypeInfo) (z : Value) (size bytes : Nat) (ht : P.underlying t = some (.slice e)) (hi : P.info? e = some i) (hz : i.zero = some z)
    (hsize : i.size = size) (hby : i.bytes = bytes) (hzs : z.cells.size = size) (a0 : Option Addr) (m c : Nat) (news : List Value) (hl : news.length = m * size) (ha : a0 = none → m = 0) (hnews : ∀ ad, a0 = some ad → ∀ j u, news[j]? = some u → w.cell? (ad.add j) = some u)
    (h1 : ∀ u ∈ news, u.oneCell' = true) (h63 : m ≤ maxLen) (hbytes : (m + m / 4 + 192) * bytes ≤ 281474976710656) (hS : S w.heap.size) :
    ∃ v' w', (Builtin.append_ #[t, t] ty #[.slice none 0 0, .slice a0 m c]).run P w = .ok v' w' ∧ Has w' S e size v' m news ∧ w.grownBy w' none ∧ (∀ k, v'.ownBlock = some k → k = w.heap.size) := by
  by_cases hm : m = 0
  · subst hm
    have hn : news = [] := List.eq_nil_of_length_eq_zero (by simpa using hl)
    subst hn
    exact ⟨_, _, run_append_none w t ty e i ht hi a0 c, Has.nil _ _ _ _, ⟨rfl, rfl, rfl, Nat.le_refl _, fun _ _ _ => rfl⟩, fun k hk => by simp [Value.ownBlock] at hk⟩
  · cases a0 with
    | none => exact absurd (ha rfl) hm
    | some ad =>
      obtain ⟨g, cap, w', hr, h2, h3, h4⟩ := run_append_has (P := P) w S t ty e i z size bytes ht hi hz hsize hby hzs (.slice none 0 0) 0 [] (Has.nil _ _ _ _) ad m c news hl (hnews ad rfl) h1 (by omega) (by omega) (by rw [Nat.zero_add]; exact hbytes) hS
      rw [Nat.zero_add] at hr h2
      rw [List.nil_append] at h2
      refine ⟨_, w', hr, h2, h3, fun k hk => ?_⟩
      rcases h4 with h4 | h4
      · simp [Value.ownBlock] at h4
      · simp [Value.ownBlock] at hk
        omega
theorem wp_append_fresh {o : Oper} {a : Act} {K : Act → World → Prop} {Q : Exit → Act → World → Prop} (s x : Operand) (t : TypeId)
    (ho : o.op = .call { callee := .builtin .append, args := #[s, x], argTypes := #[t, t] })
    (S : Nat → Prop) (e : TypeId) (i : TypeInfo) (z : Value) (size bytes : Nat) (ht : P.underlying t = some (.slice e)) (hi : P.info? e = some i) (hz : i.zero = some z)
    (hsize : i.size = size) (hby : i.bytes = bytes) (hzs : z.cells.size = size) (hs : a.eval s = .slice none 0 0) (a0 : Option Addr) (m c : Nat) (news : List Value) (hx : a.eval x = .slice a0 m c) (hl : news.length = m * size) (ha : a0 = none → m = 0) (hnews : ∀ ad, a0 = some ad → ∀ j u, news[j]? = some u → w.cell? (ad.add j) = some u)
    (h1 : ∀ u ∈ news, u.oneCell' = true) (h63 : m ≤ maxLen) (hbytes : (m + m / 4 + 192) * bytes ≤ 281474976710656) (hS : S w.heap.size)
    (h : ∀ v' w', Has w' S e size v' m news → w.grownBy w' none → (∀ k, v'.ownBlock = some k → k = w.heap.size) → K (a.put o.dst v') w') : o.wp P a w K Q := by
  obtain ⟨v', w', hr, h2, h3, h4⟩ := run_append_fresh (P := P) w S t o.type e i z size bytes ht hi hz hsize hby hzs a0 m c news hl ha hnews h1 h63 hbytes hS
  unfold Oper.wp execOp
  simp only [ho, resolve, invoke, builtin, Sem.run_bind, Sem.run_pure, Result.andThen_ok, List.map_toArray, List.map_cons, List.map_nil, hs, hx, hr]
  exact h v' w' h2 h3 h4
theorem wpList_append_fresh {ops : Array Oper} {rest : List Oper} {o : Oper} {a : Act} {Q : Exit → Act → World → Prop} (hgd : o.guard = none) (s x : Operand) (t : TypeId)
    (ho : o.op = .call { callee := .builtin .append, args := #[s, x], argTypes := #[t, t] })
    (S : Nat → Prop) (e : TypeId) (i : TypeInfo) (z : Value) (size bytes : Nat) (ht : P.underlying t = some (.slice e)) (hi : P.info? e = some i) (hz : i.zero = some z)
    (hsize : i.size = size) (hby : i.bytes = bytes) (hzs : z.cells.size = size) (hs : a.eval s = .slice none 0 0) (a0 : Option Addr) (m c : Nat) (news : List Value) (hx : a.eval x = .slice a0 m c) (hl : news.length = m * size) (ha : a0 = none → m = 0) (hnews : ∀ ad, a0 = some ad → ∀ j u, news[j]? = some u → w.cell? (ad.add j) = some u)
    (h1 : ∀ u ∈ news, u.oneCell' = true) (h63 : m ≤ maxLen) (hbytes : (m + m / 4 + 192) * bytes ≤ 281474976710656) (hS : S w.heap.size)
    (h : ∀ v' w', Has w' S e size v' m news → w.grownBy w' none → (∀ k, v'.ownBlock = some k → k = w.heap.size) → wpList P ops Q rest (a.put o.dst v') w') : wpList P ops Q (o :: rest) a w :=
  wpList_plain hgd fun _ hK => wp_append_fresh w s x t ho S e i z size bytes ht hi hz hsize hby hzs hs a0 m c news hx hl ha hnews h1 h63 hbytes hS fun v' w' h2 h3 h4 => hK _ _ (h v' w' h2 h3 h4)
theorem step_append_fresh {ops : Array Oper} {o : Oper} {a : Act} {K : Act → World → Prop} {Q : Exit → Act → World → Prop} {E : Prop} (hgd : o.guard = none) (s x : Operand) (t : TypeId)
    (ho : o.op = .call { callee := .builtin .append, args := #[s, x], argTypes := #[t, t] })
    (S : Nat → Prop) (e : TypeId) (i : TypeInfo) (z : Value) (size bytes : Nat) (ht : P.underlying t = some (.slice e)) (hi : P.info? e = some i) (hz : i.zero = some z)
    (hsize : i.size = size) (hby : i.bytes = bytes) (hzs : z.cells.size = size) (hs : a.eval s = .slice none 0 0) (a0 : Option Addr) (m c : Nat) (news : List Value) (hx : a.eval x = .slice a0 m c) (hl : news.length = m * size) (ha : a0 = none → m = 0) (hnews : ∀ ad, a0 = some ad → ∀ j u, news[j]? = some u → w.cell? (ad.add j) = some u)
    (h1 : ∀ u ∈ news, u.oneCell' = true) (h63 : m ≤ maxLen) (hbytes : (m + m / 4 + 192) * bytes ≤ 281474976710656) (hS : S w.heap.size)
    (h : ∀ v' w', Has w' S e size v' m news → w.grownBy w' none → (∀ k, v'.ownBlock = some k → k = w.heap.size) → K (a.put o.dst v') w') :
    if Region.wanted o (yielded ops a.tmps) = true then Oper.wp P o a w K Q else E := by
  have hw : Region.wanted o (yielded ops a.tmps) = true := by simp [Region.wanted, hgd]
  rw [if_pos hw]
  exact wp_append_fresh w s x t ho S e i z size bytes ht hi hz hsize hby hzs hs a0 m c news hx hl ha hnews h1 h63 hbytes hS h
end
end Go.Proofs.Ytegbcocbopgghab.Me
/-
  reclaimmodel.Copy, of any contents.
-/
namespace Go.Proofs.Ytegbcocbopgghab.Md
open Go.RowKit Mr Me
set_option linter.unusedVariables false
set_option linter.unusedSimpArgs false
theorem info_i : (Try.prog.info? 3).map (fun i => (i.zero, i.size, i.bytes)) = some (some (.int .i64 0), 1, 8) := by kernel_rfl
theorem info_p : (Try.prog.info? 81).map (fun i => (i.zero, i.size, i.bytes)) = some (some (.agg #[.int .i64 0, .int .i64 0]), 2, 16) := by kernel_rfl
theorem info_parts {a : Option TypeInfo} {z : Option Value} {n b : Nat} (h : a.map (fun i => (i.zero, i.size, i.bytes)) = some (z, n, b)) : ∃ i, a = some i ∧ i.zero = z ∧ i.size = n ∧ i.bytes = b := by
  cases a with
  | none => simp at h
  | some i => simp at h; exact ⟨i, rfl, h.1, h.2.1, h.2.2⟩
theorem Sl.src {w : World} {T : Nat → Prop} {size n : Nat} {v : Value} {xs : List Value} (h : Sl w T size v n xs) : ∃ a cap, v = .slice a n cap ∧ (a = none → n = 0) ∧ ∀ w' : World, Below w.heap.size w w' → ∀ ad, a = some ad → ∀ j u, xs[j]? = some u → w'.cell? (ad.add j) = some u := by
  obtain ⟨hl, a, cap, rfl, hc, h2⟩ := h
  refine ⟨a, cap, rfl, ?_, fun w' hB ad e j u hu => ?_⟩
  · rintro rfl
    rcases h2 with h2 | ⟨b, o, e, _⟩
    · exact h2
    · cases e
  · rcases h2 with h2 | ⟨b, o, e', _, hlt, hr⟩
    · subst h2
      have : xs = [] := List.eq_nil_of_length_eq_zero (by omega)
      subst this
      simp at hu
    · rw [e'] at e
      cases e
      rw [add1]
      exact (hB.cell (p := ⟨b, o + j, none⟩) hlt).trans (hr j u hu)
/-- Contents in rows of their own. -/
structure CtHas (W : World) (S : Nat → Prop) (v0 v1 v2 v3 v4 : Value) (x : Ct) : Prop where
  cell : Has W S 3 1 v0 x.cell.length (ints x.cell)
  stack : Has W S 3 1 v1 x.stack.length (ints x.stack)
  queue : Has W S 3 1 v2 x.queue.length (ints x.queue)
  set : Has W S 3 1 v3 x.set.length (ints x.set)
  table : Has W S 81 2 v4 x.table.length (prs x.table)
theorem CtHas.at {W : World} {S : Nat → Prop} {v0 v1 v2 v3 v4 : Value} {x : Ct} (h : CtHas W S v0 v1 v2 v3 v4 x) : CtAt W S v0 v1 v2 v3 v4 x := ⟨.of_has h.cell, .of_has h.stack, .of_has h.queue, .of_has h.set, .of_has h.table⟩
theorem one_ints (l : List Int) : ∀ u ∈ ints l, u.oneCell' = true := by
  intro u hu
  obtain ⟨x, _, rfl⟩ := List.mem_map.1 hu
  rfl
theorem one_prs (l : List (Int × Int)) : ∀ u ∈ prs l, u.oneCell' = true := by
  intro u hu
  obtain ⟨x, _, hx⟩ := List.mem_flatMap.1 hu
  simp only [pr, List.mem_cons, List.not_mem_nil, or_false] at hx
  rcases hx with rfl | rfl <;> rfl
/-- The queue's row is none of the others'. -/
def Dj (v0 v1 v2 v3 v4 : Value) : Prop := ∀ k, v2.ownBlock = some k → v0.ownBlock ≠ some k ∧ v1.ownBlock ≠ some k ∧ v3.ownBlock ≠ some k ∧ v4.ownBlock ≠ some k
/-- Within Copy: the argument's box, the result's. -/
def Tc (W w : World) (bU bR : Nat) (o : Obj) : Prop := Below W.heap.size W w ∧ w.heap[bU]? = some o ∧ w.heap[bR]? = some (ctO (.slice none 0 0) (.slice none 0 0) (.slice none 0 0) (.slice none 0 0) (.slice none 0 0)) ∧ bR < w.heap.size ∧ W.heap.size ≤ bU ∧ W.heap.size ≤ bR ∧ bU < bR
theorem Tc.grown {W w w' : World} {bU bR : Nat} {o : Obj} (h : Tc W w bU bR o) (hg : w.grownBy w' none) : Tc W w' bU bR o := by
  obtain ⟨h1, h2, h3, h4, h5, h6, h7⟩ := h
  refine ⟨h1.grown hg (by omega) (by simp), ?_, ?_, ?_, h5, h6, h7⟩
  · rw [hg.block _ (by omega) (by simp)]; exact h2
  · rw [hg.block _ (by omega) (by simp)]; exact h3
  · have := hg.size; omega
theorem Tc.new (W : World) (o : Obj) : Tc W ((W.alloc o).alloc (ctO (.slice none 0 0) (.slice none 0 0) (.slice none 0 0) (.slice none 0 0) (.slice none 0 0))) W.heap.size (W.heap.size + 1) o :=
  ⟨((Below.refl _ _).alloc (Nat.le_refl _) _).alloc (by simp) _, old_at (new_at W o _ rfl) _, new_at _ _ _ (by simp), by simp, Nat.le_refl _, by omega, by omega⟩
theorem Tc.drew {W w : World} {bU bR : Nat} {o : Obj} (h : Tc W w bU bR o) : Tc W w.drew bU bR o := ⟨h.1.drew, h.2⟩
/-- Five cells written. -/
def set5 (w : World) (b : Nat) (v0 v1 v2 v3 v4 : Value) : World := ((((w.setCell ⟨b, 0, none⟩ v0).setCell ⟨b, 1, none⟩ v1).setCell ⟨b, 2, none⟩ v2).setCell ⟨b, 3, none⟩ v3).setCell ⟨b, 4, none⟩ v4
theorem set5_far (w : World) (b : Nat) (v0 v1 v2 v3 v4 : Value) (k : Nat) (h : k ≠ b) : (set5 w b v0 v1 v2 v3 v4).heap[k]? = w.heap[k]? := by
  unfold set5
  rw [Below.heap_setCell _ _ _ k h, Below.heap_setCell _ _ _ k h, Below.heap_setCell _ _ _ k h, Below.heap_setCell _ _ _ k h, Below.heap_setCell _ _ _ k h]
theorem set5_at {w : World} {b : Nat} {u0 u1 u2 u3 u4 : Value} (v0 v1 v2 v3 v4 : Value) (h : w.heap[b]? = some (ctO u0 u1 u2 u3 u4)) : (set5 w b v0 v1 v2 v3 v4).heap[b]? = some (ctO v0 v1 v2 v3 v4) := by
  unfold set5
  rw [setBlk (setBlk (setBlk (setBlk (setBlk h 0 _) 1 _) 2 _) 3 _) 4 _]
  rfl
theorem set5_below {n : Nat} {a w : World} {b : Nat} (v0 v1 v2 v3 v4 : Value) (h : Below n a w) (hb : n ≤ b) : Below n a (set5 w b v0 v1 v2 v3 v4) := by
  unfold set5
  exact ((((h.setCell (p := ⟨b, 0, none⟩) hb _).setCell (p := ⟨b, 1, none⟩) hb _).setCell (p := ⟨b, 2, none⟩) hb _).setCell (p := ⟨b, 3, none⟩) hb _).setCell (p := ⟨b, 4, none⟩) hb _
theorem ctO_thaw {W : World} {b : Nat} {v0 v1 v2 v3 v4 : Value} (h : W.heap[b]? = some (ctO v0 v1 v2 v3 v4)) : W.frozen? ⟨b, 0, none⟩ = false ∧ W.frozen? ⟨b, 1, none⟩ = false ∧ W.frozen? ⟨b, 2, none⟩ = false ∧ W.frozen? ⟨b, 3, none⟩ = false ∧ W.frozen? ⟨b, 4, none⟩ = false := by
  unfold ctO at h
  refine ⟨?_, ?_, ?_, ?_, ?_⟩ <;> simp [World.frozen?, h]
set_option maxRecDepth 100000 in
set_option maxHeartbeats 8000000 in
theorem copy_any {W : World} {S : Nat → Prop} {u0 u1 u2 u3 u4 : Value} {x : Ct} (hu : CtAt W S u0 u1 u2 u3 u4 x) (hin : CtIn 225000000000000 x) :
    Calls Try.prog 40 #[.agg #[u0, u1, u2, u3, u4]] W fun e w' => ∃ v0 v1 v2 v3 v4, e = .returned (.agg #[v0, v1, v2, v3, v4]) ∧ CtHas w' (fun k => W.heap.size ≤ k) v0 v1 v2 v3 v4 x ∧ Dj v0 v1 v2 v3 v4 ∧ Below W.heap.size W w' := by
  obtain ⟨a0, c0, rfl, n0, m0⟩ := hu.cell.src
  obtain ⟨a1, c1, rfl, n1, m1⟩ := hu.stack.src
  obtain ⟨a2, c2, rfl, n2, m2⟩ := hu.queue.src
  obtain ⟨a3, c3, rfl, n3, m3⟩ := hu.set.src
  obtain ⟨a4, c4, rfl, n4, m4⟩ := hu.table.src
  obtain ⟨ii, p1, p2, p3, p4⟩ := info_parts info_i
  obtain ⟨ip, q1, q2, q3, q4⟩ := info_parts info_p
  obtain ⟨b0, b1, b2, b3, b4⟩ := hin
  have o0 := one_ints x.cell
  have e0 : (ints x.cell).length = x.cell.length * 1 := by simp [ints]
  have o1 := one_ints x.stack
  have e1 : (ints x.stack).length = x.stack.length * 1 := by simp [ints]
  have o2 := one_ints x.queue
  have e2 : (ints x.queue).length = x.queue.length * 1 := by simp [ints]
  have o3 := one_ints x.set
  have e3 : (ints x.set).length = x.set.length * 1 := by simp [ints]
  have o4 := one_prs x.table
  have e4 : (prs x.table).length = x.table.length * 2 := prs_length _
  clear hu
  replace o0 := Mr.hid o0
  replace o1 := Mr.hid o1
  replace o2 := Mr.hid o2
  replace o3 := Mr.hid o3
  replace o4 := Mr.hid o4
  replace e0 := Mr.hid e0
  replace e1 := Mr.hid e1
  replace e2 := Mr.hid e2
  replace e3 := Mr.hid e3
  replace e4 := Mr.hid e4
  replace n0 := Mr.hid n0
  replace n1 := Mr.hid n1
  replace n2 := Mr.hid n2
  replace n3 := Mr.hid n3
  replace n4 := Mr.hid n4
  replace m0 := Mr.hid m0
  replace m1 := Mr.hid m1
  replace m2 := Mr.hid m2
  replace m3 := Mr.hid m3
  replace m4 := Mr.hid m4
  have hT0 := Tc.new W (ctO (.slice a0 x.cell.length c0) (.slice a1 x.stack.length c1) (.slice a2 x.queue.length c2) (.slice a3 x.set.length c3) (.slice a4 x.table.length c4))
  unfold ctO at hT0
  have hUR : W.heap.size < W.heap.size + 1 := by omega
  have hU0 : W.heap.size ≤ W.heap.size := Nat.le_refl _
  replace hT0 := Mr.hid hT0
  go_enter Try.func40, Try.ntmps40
  go_wp2
  have hsz : (W.alloc (.cells #[.slice a0 x.cell.length c0, .slice a1 x.stack.length c1, .slice a2 x.queue.length c2, .slice a3 x.set.length c3, .slice a4 x.table.length c4] 25 (0, 0))).heap.size = W.heap.size + 1 := by simp
  obtain ⟨W1, hW1⟩ : ∃ W1, (W.alloc (.cells #[.slice a0 x.cell.length c0, .slice a1 x.stack.length c1, .slice a2 x.queue.length c2, .slice a3 x.set.length c3, .slice a4 x.table.length c4] 25 (0, 0))).alloc (.cells #[.slice none 0 0, .slice none 0 0, .slice none 0 0, .slice none 0 0, .slice none 0 0] 25 (0, 0)) = W1 := ⟨_, rfl⟩
  rw [hW1] at hT0 ⊢
  obtain ⟨bU, hbU⟩ : ∃ b, b = W.heap.size := ⟨_, rfl⟩
  obtain ⟨bR, hbR⟩ : ∃ b, b = W.heap.size + 1 := ⟨_, rfl⟩
  rw [← hbR] at hT0 ⊢
  have hT0' : Tc W W1 bU bR (.cells #[.slice a0 x.cell.length c0, .slice a1 x.stack.length c1, .slice a2 x.queue.length c2, .slice a3 x.set.length c3, .slice a4 x.table.length c4] 25 (0, 0)) := by rw [hbU]; exact hT0.out
  clear hT0
  have hT0 := hT0'.drew
  clear hT0'
  rw [show (⟨W.heap.size, 0, none⟩ : Addr) = ⟨bU, 0, none⟩ from by rw [hbU]]
  replace hbU := Mr.hid hbU
  replace hbR := Mr.hid hbR
  replace hW1 := Mr.hid hW1
  clear hUR hU0 hsz
  have KS : ∀ w' : World, Tc W w' bU bR (ctO (.slice a0 x.cell.length c0) (.slice a1 x.stack.length c1) (.slice a2 x.queue.length c2) (.slice a3 x.set.length c3) (.slice a4 x.table.length c4)) → w'.cell? ⟨bU, 0, none⟩ = some (.slice a0 x.cell.length c0) ∧ w'.cell? ⟨bU, 1, none⟩ = some (.slice a1 x.stack.length c1) ∧ w'.cell? ⟨bU, 2, none⟩ = some (.slice a2 x.queue.length c2) ∧ w'.cell? ⟨bU, 3, none⟩ = some (.slice a3 x.set.length c3) ∧ w'.cell? ⟨bU, 4, none⟩ = some (.slice a4 x.table.length c4) := fun w' hT => by
    obtain ⟨k0, k1, k2, k3, k4, _⟩ := ctO_cells hT.2.1
    exact ⟨k0, k1, k2, k3, k4⟩
  have KS2 : ∀ w' : World, w'.heap[bU]? = some (ctO (.slice a0 x.cell.length c0) (.slice a1 x.stack.length c1) (.slice a2 x.queue.length c2) (.slice a3 x.set.length c3) (.slice a4 x.table.length c4)) → w'.cell? ⟨bU, 0, none⟩ = some (.slice a0 x.cell.length c0) ∧ w'.cell? ⟨bU, 1, none⟩ = some (.slice a1 x.stack.length c1) ∧ w'.cell? ⟨bU, 2, none⟩ = some (.slice a2 x.queue.length c2) ∧ w'.cell? ⟨bU, 3, none⟩ = some (.slice a3 x.set.length c3) ∧ w'.cell? ⟨bU, 4, none⟩ = some (.slice a4 x.table.length c4) := fun w' hT => by
    obtain ⟨k0, k1, k2, k3, k4, _⟩ := ctO_cells hT
    exact ⟨k0, k1, k2, k3, k4⟩
  have M0 := fun (w' : World) (hT : Tc W w' bU bR (ctO (.slice a0 x.cell.length c0) (.slice a1 x.stack.length c1) (.slice a2 x.queue.length c2) (.slice a3 x.set.length c3) (.slice a4 x.table.length c4))) => m0.out w' hT.1
  have M1 := fun (w' : World) (hT : Tc W w' bU bR (ctO (.slice a0 x.cell.length c0) (.slice a1 x.stack.length c1) (.slice a2 x.queue.length c2) (.slice a3 x.set.length c3) (.slice a4 x.table.length c4))) => m1.out w' hT.1
  have M2 := fun (w' : World) (hT : Tc W w' bU bR (ctO (.slice a0 x.cell.length c0) (.slice a1 x.stack.length c1) (.slice a2 x.queue.length c2) (.slice a3 x.set.length c3) (.slice a4 x.table.length c4))) => m2.out w' hT.1
  have M3 := fun (w' : World) (hT : Tc W w' bU bR (ctO (.slice a0 x.cell.length c0) (.slice a1 x.stack.length c1) (.slice a2 x.queue.length c2) (.slice a3 x.set.length c3) (.slice a4 x.table.length c4))) => m3.out w' hT.1
  have M4 := fun (w' : World) (hT : Tc W w' bU bR (ctO (.slice a0 x.cell.length c0) (.slice a1 x.stack.length c1) (.slice a2 x.queue.length c2) (.slice a3 x.set.length c3) (.slice a4 x.table.length c4))) => m4.out w' hT.1
  clear m0 m1 m2 m3 m4
  unfold ctO at KS KS2 M0 M1 M2 M3 M4
  replace KS := Mr.hid KS
  replace KS2 := Mr.hid KS2
  replace hT0 := Mr.hid hT0
  replace M0 := Mr.hid M0
  replace M1 := Mr.hid M1
  replace M2 := Mr.hid M2
  replace M3 := Mr.hid M3
  replace M4 := Mr.hid M4
  refine wp_region_held_drew (S := fun w' => w'.cell? ⟨bU, 0, none⟩ = some (.slice a0 x.cell.length c0) ∧ w'.cell? ⟨bU, 1, none⟩ = some (.slice a1 x.stack.length c1) ∧ w'.cell? ⟨bU, 2, none⟩ = some (.slice a2 x.queue.length c2) ∧ w'.cell? ⟨bU, 3, none⟩ = some (.slice a3 x.set.length c3) ∧ w'.cell? ⟨bU, 4, none⟩ = some (.slice a4 x.table.length c4)) (by kernel_rfl) (KS.out _ hT0.out) (fun hS => ?_)
  refine wpAnyH_take (i := 0) (v := .pointer (some ⟨bU, 0, none⟩)) rfl (by kernel_rfl) (by kernel_rfl) (by kernel_rfl) (fun _ _ _ h => h) (Or.inl ⟨by rfl, fun w' hw => ?y0⟩) hS ?_
  case y0 =>
    obtain ⟨s0, s1, s2, s3, s4⟩ := hw
    clear hS
    go_simp
  try simp only [Act.put, List.getElem_toArray, List.getElem_cons_zero, List.getElem_cons_succ, List.setIfInBounds_toArray, List.set_cons_zero, List.set_cons_succ]
  refine wpAnyH_take (i := 1) (v := .slice a0 x.cell.length c0) rfl (by kernel_rfl) (by kernel_rfl) (by kernel_rfl) (fun _ _ _ h => h) (Or.inl ⟨by rfl, fun w' hw => ?y1⟩) hS ?_
  case y1 =>
    obtain ⟨s0, s1, s2, s3, s4⟩ := hw
    clear hS
    go_simp
  try simp only [Act.put, List.getElem_toArray, List.getElem_cons_zero, List.getElem_cons_succ, List.setIfInBounds_toArray, List.set_cons_zero, List.set_cons_succ]
  refine wpAnyH_take (i := 3) (v := .pointer (some ⟨bU, 1, none⟩)) rfl (by kernel_rfl) (by kernel_rfl) (by kernel_rfl) (fun _ _ _ h => h) (Or.inl ⟨by rfl, fun w' hw => ?y3⟩) hS ?_
  case y3 =>
    obtain ⟨s0, s1, s2, s3, s4⟩ := hw
    clear hS
    go_simp
  try simp only [Act.put, List.getElem_toArray, List.getElem_cons_zero, List.getElem_cons_succ, List.setIfInBounds_toArray, List.set_cons_zero, List.set_cons_succ]
  refine wpAnyH_take (i := 4) (v := .slice a1 x.stack.length c1) rfl (by kernel_rfl) (by kernel_rfl) (by kernel_rfl) (fun _ _ _ h => h) (Or.inl ⟨by rfl, fun w' hw => ?y4⟩) hS ?_
  case y4 =>
    obtain ⟨s0, s1, s2, s3, s4⟩ := hw
    clear hS
    go_simp
  try simp only [Act.put, List.getElem_toArray, List.getElem_cons_zero, List.getElem_cons_succ, List.setIfInBounds_toArray, List.set_cons_zero, List.set_cons_succ]
  refine wpAnyH_take (i := 6) (v := .pointer (some ⟨bU, 2, none⟩)) rfl (by kernel_rfl) (by kernel_rfl) (by kernel_rfl) (fun _ _ _ h => h) (Or.inl ⟨by rfl, fun w' hw => ?y6⟩) hS ?_
  case y6 =>
    obtain ⟨s0, s1, s2, s3, s4⟩ := hw
    clear hS
    go_simp
  try simp only [Act.put, List.getElem_toArray, List.getElem_cons_zero, List.getElem_cons_succ, List.setIfInBounds_toArray, List.set_cons_zero, List.set_cons_succ]
  refine wpAnyH_take (i := 7) (v := .slice a2 x.queue.length c2) rfl (by kernel_rfl) (by kernel_rfl) (by kernel_rfl) (fun _ _ _ h => h) (Or.inl ⟨by rfl, fun w' hw => ?y7⟩) hS ?_
  case y7 =>
    obtain ⟨s0, s1, s2, s3, s4⟩ := hw
    clear hS
    go_simp
  try simp only [Act.put, List.getElem_toArray, List.getElem_cons_zero, List.getElem_cons_succ, List.setIfInBounds_toArray, List.set_cons_zero, List.set_cons_succ]
  refine wpAnyH_take (i := 9) (v := .pointer (some ⟨bU, 3, none⟩)) rfl (by kernel_rfl) (by kernel_rfl) (by kernel_rfl) (fun _ _ _ h => h) (Or.inl ⟨by rfl, fun w' hw => ?y9⟩) hS ?_
  case y9 =>
    obtain ⟨s0, s1, s2, s3, s4⟩ := hw
    clear hS
    go_simp
  try simp only [Act.put, List.getElem_toArray, List.getElem_cons_zero, List.getElem_cons_succ, List.setIfInBounds_toArray, List.set_cons_zero, List.set_cons_succ]
  refine wpAnyH_take (i := 10) (v := .slice a3 x.set.length c3) rfl (by kernel_rfl) (by kernel_rfl) (by kernel_rfl) (fun _ _ _ h => h) (Or.inl ⟨by rfl, fun w' hw => ?y10⟩) hS ?_
  case y10 =>
    obtain ⟨s0, s1, s2, s3, s4⟩ := hw
    clear hS
    go_simp
  try simp only [Act.put, List.getElem_toArray, List.getElem_cons_zero, List.getElem_cons_succ, List.setIfInBounds_toArray, List.set_cons_zero, List.set_cons_succ]
  refine wpAnyH_take (i := 12) (v := .pointer (some ⟨bU, 4, none⟩)) rfl (by kernel_rfl) (by kernel_rfl) (by kernel_rfl) (fun _ _ _ h => h) (Or.inl ⟨by rfl, fun w' hw => ?y12⟩) hS ?_
  case y12 =>
    obtain ⟨s0, s1, s2, s3, s4⟩ := hw
    clear hS
    go_simp
  try simp only [Act.put, List.getElem_toArray, List.getElem_cons_zero, List.getElem_cons_succ, List.setIfInBounds_toArray, List.set_cons_zero, List.set_cons_succ]
  refine wpAnyH_take (i := 13) (v := .slice a4 x.table.length c4) rfl (by kernel_rfl) (by kernel_rfl) (by kernel_rfl) (fun _ _ _ h => h) (Or.inl ⟨by rfl, fun w' hw => ?y13⟩) hS ?_
  case y13 =>
    obtain ⟨s0, s1, s2, s3, s4⟩ := hw
    clear hS
    go_simp
  try simp only [Act.put, List.getElem_toArray, List.getElem_cons_zero, List.getElem_cons_succ, List.setIfInBounds_toArray, List.set_cons_zero, List.set_cons_succ]
  refine wpAnyH_ready (rs := [2]) (by kernel_rfl) (by simp) (AllReadyH.cons rfl (fun K hK => ?_) AllReadyH.nil)
  refine step_append_fresh _ rfl (.const (.slice none 0 0)) (.tmp 4) 22 rfl (fun k => bR < k) 3 ii _ 1 8 Try.underlying22 p1 p2 p3 p4 rfl rfl a0 x.cell.length c0 (ints x.cell) rfl e0.out n0.out (M0.out _ hT0.out) o0.out (by unfold maxLen; omega) (by omega) hT0.out.2.2.2.1 ?_
  intro r0 w1 hv0 hg0 hat0
  have hT1 := Mr.hid (hT0.out.grown hg0)
  obtain ⟨pv0, qv0, rfl, _⟩ := hv0.form
  replace hv0 := Mr.hid hv0
  replace hg0 := Mr.hid hg0
  clear hat0
  refine hK.out _ _ (KS.out _ hT1.out) (fun hS => ?_)
  clear hK K
  try simp only [Act.put, List.getElem_toArray, List.getElem_cons_zero, List.getElem_cons_succ, List.setIfInBounds_toArray, List.set_cons_zero, List.set_cons_succ]
  refine wpAnyH_ready (rs := [5]) (by kernel_rfl) (by simp) (AllReadyH.cons rfl (fun K hK => ?_) AllReadyH.nil)
  refine step_append_fresh _ rfl (.const (.slice none 0 0)) (.tmp 7) 22 rfl (fun k => bR < k) 3 ii _ 1 8 Try.underlying22 p1 p2 p3 p4 rfl rfl a1 x.stack.length c1 (ints x.stack) rfl e1.out n1.out (M1.out _ hT1.out) o1.out (by unfold maxLen; omega) (by omega) hT1.out.2.2.2.1 ?_
  intro r1 w2 hv1 hg1 hat1
  have hT2 := Mr.hid (hT1.out.grown hg1)
  obtain ⟨pv1, qv1, rfl, _⟩ := hv1.form
  replace hv1 := Mr.hid hv1
  replace hg1 := Mr.hid hg1
  clear hat1
  refine hK.out _ _ (KS.out _ hT2.out) (fun hS => ?_)
  clear hK K
  try simp only [Act.put, List.getElem_toArray, List.getElem_cons_zero, List.getElem_cons_succ, List.setIfInBounds_toArray, List.set_cons_zero, List.set_cons_succ]
  refine wpAnyH_ready (rs := [8]) (by kernel_rfl) (by simp) (AllReadyH.cons rfl (fun K hK => ?_) AllReadyH.nil)
  refine step_append_fresh _ rfl (.const (.slice none 0 0)) (.tmp 10) 22 rfl (fun k => bR < k) 3 ii _ 1 8 Try.underlying22 p1 p2 p3 p4 rfl rfl a2 x.queue.length c2 (ints x.queue) rfl e2.out n2.out (M2.out _ hT2.out) o2.out (by unfold maxLen; omega) (by omega) hT2.out.2.2.2.1 ?_
  intro r2 w3 hv2 hg2 hat2
  have hT3 := Mr.hid (hT2.out.grown hg2)
  obtain ⟨pv2, qv2, rfl, _⟩ := hv2.form
  replace hv2 := Mr.hid hv2
  replace hg2 := Mr.hid hg2
  replace hat2 := Mr.hid hat2
  refine hK.out _ _ (KS.out _ hT3.out) (fun hS => ?_)
  clear hK K
  try simp only [Act.put, List.getElem_toArray, List.getElem_cons_zero, List.getElem_cons_succ, List.setIfInBounds_toArray, List.set_cons_zero, List.set_cons_succ]
  refine wpAnyH_ready (rs := [11]) (by kernel_rfl) (by simp) (AllReadyH.cons rfl (fun K hK => ?_) AllReadyH.nil)
  refine step_append_fresh _ rfl (.const (.slice none 0 0)) (.tmp 13) 22 rfl (fun k => bR < k) 3 ii _ 1 8 Try.underlying22 p1 p2 p3 p4 rfl rfl a3 x.set.length c3 (ints x.set) rfl e3.out n3.out (M3.out _ hT3.out) o3.out (by unfold maxLen; omega) (by omega) hT3.out.2.2.2.1 ?_
  intro r3 w4 hv3 hg3 hat3
  have hT4 := Mr.hid (hT3.out.grown hg3)
  obtain ⟨pv3, qv3, rfl, _⟩ := hv3.form
  replace hv3 := Mr.hid hv3
  replace hg3 := Mr.hid hg3
  replace hat3 := Mr.hid hat3
  refine hK.out _ _ (KS.out _ hT4.out) (fun hS => ?_)
  clear hK K
  try simp only [Act.put, List.getElem_toArray, List.getElem_cons_zero, List.getElem_cons_succ, List.setIfInBounds_toArray, List.set_cons_zero, List.set_cons_succ]
  refine wpAnyH_ready (rs := [14]) (by kernel_rfl) (by simp) (AllReadyH.cons rfl (fun K hK => ?_) AllReadyH.nil)
  refine step_append_fresh _ rfl (.const (.slice none 0 0)) (.tmp 16) 23 rfl (fun k => bR < k) 81 ip _ 2 16 Try.underlying23 q1 q2 q3 q4 rfl rfl a4 x.table.length c4 (prs x.table) rfl e4.out n4.out (M4.out _ hT4.out) o4.out (by unfold maxLen; omega) (by omega) hT4.out.2.2.2.1 ?_
  intro r4 w5 hv4 hg4 hat4
  have hT5 := Mr.hid (hT4.out.grown hg4)
  obtain ⟨pv4, qv4, rfl, _⟩ := hv4.form
  replace hv4 := Mr.hid hv4
  replace hg4 := Mr.hid hg4
  replace hat4 := Mr.hid hat4
  refine hK.out _ _ (KS.out _ hT5.out) (fun hS => ?_)
  clear hK K
  try simp only [Act.put, List.getElem_toArray, List.getElem_cons_zero, List.getElem_cons_succ, List.setIfInBounds_toArray, List.set_cons_zero, List.set_cons_succ]
  refine wpAnyH_ready (rs := [15]) (by kernel_rfl) (by simp) (AllReadyH.cons rfl (fun K hK => ?_) AllReadyH.nil)
  go_simp
  refine hK.out _ _ (KS.out _ hT5.out) (fun hS => ?_)
  clear hK K
  try simp only [Act.put, List.getElem_toArray, List.getElem_cons_zero, List.getElem_cons_succ, List.setIfInBounds_toArray, List.set_cons_zero, List.set_cons_succ]
  refine wpAnyH_ready (rs := [16]) (by kernel_rfl) (by simp) (AllReadyH.cons rfl (fun K hK => ?_) AllReadyH.nil)
  obtain ⟨k0, k1, k2, k3, k4, k5⟩ := ctO_cells hT5.out.2.2.1
  obtain ⟨f0, f1, f2, f3, f4⟩ := ctO_thaw hT5.out.2.2.1
  clear hS
  go_simp
  have hlt := hT5.out.2.2.2.2.2.2
  have hR5 := hT5.out.2.2.2.2.2.1
  have hfar := fun k (hk : k ≠ bR) => set5_far w5 bR (.slice pv0 x.cell.length qv0) (.slice pv1 x.stack.length qv1) (.slice pv2 x.queue.length qv2) (.slice pv3 x.set.length qv3) (.slice pv4 x.table.length qv4) k hk
  have hbx := set5_at (.slice pv0 x.cell.length qv0) (.slice pv1 x.stack.length qv1) (.slice pv2 x.queue.length qv2) (.slice pv3 x.set.length qv3) (.slice pv4 x.table.length qv4) hT5.out.2.2.1
  have hBe := set5_below (.slice pv0 x.cell.length qv0) (.slice pv1 x.stack.length qv1) (.slice pv2 x.queue.length qv2) (.slice pv3 x.set.length qv3) (.slice pv4 x.table.length qv4) hT5.out.1 hR5
  have hSn := KS2.out (set5 w5 bR (.slice pv0 x.cell.length qv0) (.slice pv1 x.stack.length qv1) (.slice pv2 x.queue.length qv2) (.slice pv3 x.set.length qv3) (.slice pv4 x.table.length qv4)) ((hfar bU (by omega)).trans hT5.out.2.1)
  unfold set5 at hfar hbx hBe hSn
  refine hK.out _ _ hSn (fun hS => ?_)
  clear hK K k0 k1 k2 k3 k4 k5 f0 f1 f2 f3 f4 hSn hS
  obtain ⟨d0, d1, d2, d3, d4, d5⟩ := ctO_cells hbx
  have keep : ∀ {e size m : Nat} {v : Value} {xs : List Value}, Has w5 (fun k => bR < k) e size v m xs → Has _ (fun k => W.heap.size ≤ k) e size v m xs := fun {e size m v xs} hh => hh.kept (fun k hk => hfar k (fun e' => by have := (hh.lt k hk).1; omega)) (fun k hk => by have := (hh.lt k hk).1; omega)
  have r0 := keep ((((hv0.out.grown hg1.out (by simp)).grown hg2.out (by simp)).grown hg3.out (by simp)).grown hg4.out (by simp))
  have r1 := keep (((hv1.out.grown hg2.out (by simp)).grown hg3.out (by simp)).grown hg4.out (by simp))
  have r2 := keep ((hv2.out.grown hg3.out (by simp)).grown hg4.out (by simp))
  have r3 := keep (hv3.out.grown hg4.out (by simp))
  have r4 := keep hv4.out
  have dj : Dj (.slice pv0 x.cell.length qv0) (.slice pv1 x.stack.length qv1) (.slice pv2 x.queue.length qv2) (.slice pv3 x.set.length qv3) (.slice pv4 x.table.length qv4) := fun k hk => by
    have e2 := hat2.out k hk
    have l2 := (hv2.out.lt k hk).2
    have l3 := ((hv2.out.grown hg3.out (by simp)).lt k hk).2
    refine ⟨fun h => ?_, fun h => ?_, fun h => ?_, fun h => ?_⟩
    · have := ((hv0.out.grown hg1.out (by simp)).lt k h).2
      omega
    · have := (hv1.out.lt k h).2
      omega
    · have := hat3.out k h
      omega
    · have := hat4.out k h
      omega
  clear hat2 hat3 hat4
  replace dj := Mr.hid dj
  refine wpAnyH_done (by kernel_rfl) ?_ _
  replace r0 := Mr.hid r0
  replace r1 := Mr.hid r1
  replace r2 := Mr.hid r2
  replace r3 := Mr.hid r3
  replace r4 := Mr.hid r4
  replace hBe := Mr.hid hBe
  clear keep hfar hbx KS KS2 M0 M1 M2 M3 M4
  go_wp2
  refine bodyPost_ret (v := .agg #[.slice pv0 x.cell.length qv0, .slice pv1 x.stack.length qv1, .slice pv2 x.queue.length qv2, .slice pv3 x.set.length qv3, .slice pv4 x.table.length qv4]) (by simp [results, Try.results40, go_sem, d0, d1, d2, d3, d4]) rfl ?_
  exact ⟨_, _, _, _, _, rfl, ⟨r0.out, r1.out, r2.out, r3.out, r4.out⟩, dj.out, hBe.out⟩
end Go.Proofs.Ytegbcocbopgghab.Md
