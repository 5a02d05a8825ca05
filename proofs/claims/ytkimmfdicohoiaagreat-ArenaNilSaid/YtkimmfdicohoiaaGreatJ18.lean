import Derived.Test.YtkimmfdicohoiaaGreatJ17
import Derived.Deep.RegionHeldLaw
import Derived.Deep.LoopGhost
/-
  THE CACHES: slices.Index, slices.Delete (of a row's last), putLast, drop by their contracts.
-/
namespace Go.Proofs.YtkimmfdicohoiaaGreat.Ar
open Go.RowKit Mr Me Ma Wc Wm
theorem run_append_zero {P : Program} (w : World) (t ty e : TypeId) (i : TypeInfo) (ht : P.underlying t = some (.slice e)) (hi : P.info? e = some i) (base b : Option Addr) (n cap c : Nat) (hn : n ≤ cap) :
    (Builtin.append_ #[t, t] ty #[.slice base n cap, .slice b 0 c]).run P w = .ok (.slice base n cap) w := by
  cases base <;> cases b <;> simp [Builtin.append_, run_underlying ht, sizeOf, typeInfo, hi, Builtin.lenOf, Builtin.firstCells, hn, storeCells, loadCells, loadCellsFrom]
theorem step_append_zero {P : Program} (w : World) {ops : Array Oper} {o : Oper} {a : Act} {K : Act → World → Prop} {Q : Exit → Act → World → Prop} {E : Prop} (hgd : o.guard = none) (s x : Operand) (t : TypeId)
    (ho : o.op = .call { callee := .builtin .append, args := #[s, x], argTypes := #[t, t] }) (e : TypeId) (i : TypeInfo) (ht : P.underlying t = some (.slice e)) (hi : P.info? e = some i) (base b : Option Addr) (n cap c : Nat) (hs : a.eval s = .slice base n cap) (hx : a.eval x = .slice b 0 c) (hn : n ≤ cap) (h : K (a.put o.dst (.slice base n cap)) w) :
    if Region.wanted o (yielded ops a.tmps) = true then Oper.wp P o a w K Q else E := by
  have hw : Region.wanted o (yielded ops a.tmps) = true := by simp [Region.wanted, hgd]
  rw [if_pos hw]
  have hr := run_append_zero (P := P) w t o.type e i ht hi base b n cap c hn
  unfold Oper.wp execOp
  simp only [ho, resolve, invoke, builtin, Sem.run_bind, Sem.run_pure, Result.andThen_ok, List.map_toArray, List.map_cons, List.map_nil, hs, hx, hr]
  exact h
theorem info_int : (Tryz.prog.info? 3).map (fun i => (i.zero, i.size, i.bytes)) = some (some (.int .i64 0), 1, 8) := by kernel_rfl
theorem run_clear_one (w : World) (g n c : Nat) (u : Value) (h1 : w.cell? ⟨g, n, none⟩ = some u) (h2 : w.frozen? ⟨g, n, none⟩ = false) :
    (Builtin.clear_ #[69] 0 #[.slice (some ⟨g, n, none⟩) 1 c]).run Tryz.prog w = .ok (.tuple #[]) (w.setCell ⟨g, n, none⟩ (.int .i64 0)) := by
  obtain ⟨i0, hi, hz0, hz1, hz2⟩ := info_parts info_int
  have hz : (Builtin.zeroCells #[Value.int IntKind.i64 0] 1).toList = [.int .i64 0] := by kernel_rfl
  simp [Builtin.clear_, run_underlying Tryz.underlying69, zeroValue, typeInfo, hi, hz0, go_sem]
  rw [hz]
  simp [storeCells, go_sem, h1, h2]
section
variable {W : World} {T : Nat → Prop} {ba gs cs : Nat} {c : Cf} {vca : Value} {vs : List Value} {A : Ao}
set_option maxRecDepth 100000 in
theorem index_any {S : Nat → Prop} {l : List Int} {s : Int} {g cap : Nat} (h : Has W S 3 1 (.slice (some ⟨g, 0, none⟩) (l.length + 1) cap) (l.length + 1) (ints (l ++ [s]))) (hs : s ∉ l) :
    Calls Tryz.prog 122 #[.slice (some ⟨g, 0, none⟩) (l.length + 1) cap, .int .i64 s] W fun e w' => e = .returned (.int .i64 (l.length : Int)) ∧ w' = W := by
  have hc : ∀ (j : Nat) (x : Int), (l ++ [s])[j]? = some x → W.cell? ⟨g, j, none⟩ = some (.int .i64 x) := fun j x hx => h.cells (g := g) rfl j _ (by unfold ints; rw [List.getElem?_map, hx]; rfl)
  have hmax : l.length + 1 ≤ maxLen := by
    obtain ⟨g', cap', ev, _, _, h1, h2⟩ := h.there (by omega)
    omega
  clear h
  go_enter Tryz.func122, Tryz.ntmps122
  go_wp2
  go_loopg [8] (l.length + 1) (fun k s8 wr => ∃ j : Nat, s8 = .int .i64 (j : Int) ∧ j + k = l.length + 1 ∧ 0 < k ∧ wr = W)
  case atStart => exact ⟨0, rfl, by omega, by omega, rfl⟩
  case round =>
    obtain ⟨j, rfl, hj, hk, rfl⟩ := hrel
    have hjl : j < (l ++ [s]).length := by simp; omega
    obtain ⟨x, hx⟩ : ∃ x, (l ++ [s])[j]? = some x := ⟨_, List.getElem?_eq_getElem hjl⟩
    have cx := hc j x hx
    have hj1 : (j : Int) < (l.length : Int) + 1 := by omega
    have hw : wrap64 ((j : Int) + 1) = (j : Int) + 1 := Wp.wrap64_small _ (by omega) (by unfold maxLen at hmax; omega)
    by_cases hlt : j < l.length
    · have hne : (s == x) = false := by
        rw [List.getElem?_append_left hlt] at hx
        have := List.mem_of_getElem? hx
        simp
        intro e
        exact hs (e ▸ this)
      go_wp2
      go_roundg (gk - 1)
      case measure => omega
      case rel => exact ⟨j + 1, by simp [hw], by omega, by omega, rfl⟩
    · obtain rfl : j = l.length := by omega
      have hxs : x = s := by simp at hx; exact hx.symm
      subst hxs
      go_wp2
      go_ret
      exact ⟨rfl, rfl⟩
set_option maxRecDepth 100000 in
theorem delete_any {S : Nat → Prop} {l : List Int} {s : Int} {g cap : Nat} (h : Has W S 3 1 (.slice (some ⟨g, 0, none⟩) (l.length + 1) cap) (l.length + 1) (ints (l ++ [s]))) :
    Calls Tryz.prog 123 #[.slice (some ⟨g, 0, none⟩) (l.length + 1) cap, .int .i64 (l.length : Int), .int .i64 ((l.length : Int) + 1)] W fun e w' => e = .returned (.slice (some ⟨g, 0, none⟩) l.length cap) ∧ w'.heap = (W.setCell ⟨g, l.length, none⟩ (.int .i64 0)).heap ∧ Fr W w' (fun k => k = g) := by
  obtain ⟨i0, hi, hz0, hz1, hz2⟩ := info_parts info_int
  have cx : W.cell? ⟨g, l.length, none⟩ = some (.int .i64 s) := h.cells (g := g) rfl _ _ (by simp [ints])
  have cz := h.frozen (g := g) rfl l.length
  obtain ⟨g', cap', ev, _, hgl, h1, h2⟩ := h.there (by omega)
  injection ev with e1 e2 e3
  subst e3
  clear h
  unfold maxLen at h2
  generalize l.length = n at *
  have hnn : ¬ ((n : Int) = (n : Int) + 1) := by omega
  have hn1 : n ≤ cap := by omega
  have hpos : (0 : Int) ≤ (n : Int) + 1 := by omega
  have hle : (n : Int) ≤ (n : Int) + 1 := by omega
  cases e1
  have hclr := fun c => run_clear_one W.drew g n c _ cx cz
  by_cases hcap : cap = n + 1
  · subst hcap
    go_enter Tryz.func123, Tryz.ntmps123
    go_wp2
    go_region_law (refine step_append_zero _ rfl (.tmp 22) (.tmp 25) 69 rfl 3 i0 Tryz.underlying69 hi (some ⟨g, 0, none⟩) (some ⟨g, 0, none⟩) n (n + 1) 0 (by simp [Act.eval, Act.put]) (by simp [Act.eval, Act.put]) hn1 ?_)
    all_goals go_wp2
    all_goals go_ret
    all_goals exact ⟨rfl, rfl, ((Fr.refl W (fun k => k = g)).setCell ⟨g, n, none⟩ (.int .i64 0) (.inl rfl)).drew⟩
  · go_enter Tryz.func123, Tryz.ntmps123
    go_wp2
    go_region_law (refine step_append_zero _ rfl (.tmp 22) (.tmp 25) 69 rfl 3 i0 Tryz.underlying69 hi (some ⟨g, 0, none⟩) (some ⟨g, n + 1, none⟩) n cap (cap - (n + 1)) (by simp [Act.eval, Act.put]) (by simp [Act.eval, Act.put]) hn1 ?_)
    all_goals go_wp2
    all_goals go_ret
    all_goals exact ⟨rfl, rfl, ((Fr.refl W (fun k => k = g)).setCell ⟨g, n, none⟩ (.int .i64 0) (.inl rfl)).drew⟩
/-- A thread's cache has become another. -/
theorem Ar.cacheSet {w1 : World} {T' : Nat → Prop} (h : Ar W T ba gs cs c vca vs A) {gc cc i : Nat} (hv : vca = .slice (some ⟨gc, 0, none⟩) A.ca.length cc) {v v' : Value} (hvi : vs[i]? = some v) {l' : List Int} (hT : ∀ k, T k → T' k) (hTl : ∀ k, T k → k < W.heap.size)
    (hown : Has w1 T' 3 1 v' l'.length (ints l')) (hsep : ∀ k, v'.ownBlock = some k → v.ownBlock = some k ∨ W.heap.size ≤ k) (hk : ∀ k, k < W.heap.size → v.ownBlock ≠ some k → w1.heap[k]? = W.heap[k]?) :
    Ar (w1.setCell ⟨gc, i, none⟩ v') T' ba gs cs c vca (vs.set i v') (A.keep i l') := by
  have hi : i < A.ca.length := by have := h.lens; have := (List.getElem?_eq_some_iff.1 hvi).1; omega
  obtain ⟨l, hl⟩ : ∃ l, A.ca[i]? = some l := ⟨_, List.getElem?_eq_getElem hi⟩
  have hgc : vca.ownBlock = some gc := by rw [hv]; rfl
  have ho : ∀ k, k ≠ gc → (w1.setCell ⟨gc, i, none⟩ v').heap[k]? = w1.heap[k]? := fun k hne => Below.heap_setCell _ _ _ k hne
  have hold := h.each i v l hvi hl
  have k1 : ∀ {k}, T k → v.ownBlock ≠ some k → k ≠ gc → (w1.setCell ⟨gc, i, none⟩ v').heap[k]? = W.heap[k]? := fun ht hn hg => (ho _ hg).trans (hk _ (hTl _ ht) hn)
  have hca : (A.keep i l').ca.length = A.ca.length := by simp [Ao.keep]
  refine ⟨?_, ?_, ?_, ?_, ?_, hT ba h.ta, h.ok, h.five⟩
  · exact (k1 h.ta (fun e => not_row h.blk hold (by decide) e) (fun e => not_row h.blk h.caches (by decide) (e ▸ hgc))).trans h.blk
  · exact h.slots.kept (fun k e => k1 (h.slots.lt k e).1 (fun e' => has_ne h.slots hold (by decide) k e e') (fun e' => has_ne h.slots h.caches (by decide) k e (e' ▸ hgc))) (fun k e => hT k (h.slots.lt k e).1)
  · rw [hca]
    have h1 : Has w1 T' 69 1 vca A.ca.length vs := h.caches.kept (fun k e => hk k (hTl k (h.caches.lt k e).1) (fun e' => has_ne h.caches hold (by decide) k e e')) (fun k e => hT k (h.caches.lt k e).1)
    rw [hv] at h1 ⊢
    exact has_put h1 i v'
  · intro j u m hu hm
    by_cases e : j = i
    · subst e
      rw [List.getElem?_set_self (by have := h.lens; omega)] at hu
      cases hu
      have hm' : (A.ca.set j l')[j]? = some m := hm
      rw [List.getElem?_set_self hi] at hm'
      cases hm'
      refine hown.setCell _ _ (fun e' => ?_)
      have hc1 : Has w1 T' 69 1 vca A.ca.length vs := h.caches.kept (fun k e => hk k (hTl k (h.caches.lt k e).1) (fun e' => has_ne h.caches hold (by decide) k e e')) (fun k e => hT k (h.caches.lt k e).1)
      exact has_ne hown hc1 (by decide) gc e' hgc
    · rw [List.getElem?_set_ne (fun e' => e e'.symm)] at hu
      have hm' : (A.ca.set i l')[j]? = some m := hm
      rw [List.getElem?_set_ne (fun e' => e e'.symm)] at hm'
      have hj := h.each j u m hu hm'
      exact hj.kept (fun k e' => k1 (hj.lt k e').1 (fun e2 => e (h.sep j i u v k hu hvi e' e2)) (fun e2 => has_ne hj h.caches (by decide) k e' (e2 ▸ hgc))) (fun k e' => hT k (hj.lt k e').1)
  · intro a b u u' k hu hu' e1 e2
    have old : ∀ (j : Nat) (x : Value), j ≠ i → vs[j]? = some x → x.ownBlock = some k → k < W.heap.size ∧ v.ownBlock ≠ some k := fun j x hj hx e => by
      have hjl : j < A.ca.length := by have := h.lens; have := (List.getElem?_eq_some_iff.1 hx).1; omega
      have := (h.each j x _ hx (List.getElem?_eq_getElem hjl)).lt k e
      exact ⟨this.2, fun e' => hj (h.sep j i x v k hx hvi e e')⟩
    by_cases ea : a = i
    · by_cases eb : b = i
      · omega
      · rw [List.getElem?_set_ne (fun e' => eb e'.symm)] at hu'
        subst ea
        rw [List.getElem?_set_self (by have := h.lens; omega)] at hu
        cases hu
        obtain ⟨o1, o2⟩ := old b u' eb hu' e2
        rcases hsep k e1 with h' | h'
        · exact absurd h' o2
        · omega
    · rw [List.getElem?_set_ne (fun e' => ea e'.symm)] at hu
      by_cases eb : b = i
      · subst eb
        rw [List.getElem?_set_self (by have := h.lens; omega)] at hu'
        cases hu'
        obtain ⟨o1, o2⟩ := old a u ea hu e1
        rcases hsep k e2 with h' | h'
        · exact absurd h' o2
        · omega
      · rw [List.getElem?_set_ne (fun e' => eb e'.symm)] at hu'
        exact h.sep a b u u' k hu hu' e1 e2
/-- Blocks of other types are as they were. -/
def Far (W w : World) : Prop := ∀ (k : Nat) (xs : Array Value) (t : TypeId), W.heap[k]? = some (.cells xs t (0, 0)) → t ≠ 100 → t ≠ 69 → t ≠ 3 → w.heap[k]? = some (.cells xs t (0, 0))
set_option maxRecDepth 100000 in
set_option maxHeartbeats 1000000 in
theorem drop_any (h : Ar W T ba gs cs c vca vs A) (hTl : ∀ k, T k → k < W.heap.size) (i : Nat) (hi : i < A.ca.length) (l : List Int) (s : Int) (hl : A.cache i = l ++ [s]) (hs : s ∉ l) :
    Calls Tryz.prog 98 #[.pointer (some ⟨ba, 0, none⟩), .int .i64 (i : Int), .int .i64 s] W fun e w' => e = .returned (.tuple #[]) ∧ (∃ vs', Ar w' T ba gs cs c vca vs' (A.keep i l)) ∧ Fr W w' T ∧ w'.heap.size = W.heap.size ∧ Far W w' := by
  obtain ⟨gc, cc, a, n, e, c1, hvi, hh, hci⟩ := h.cache i hi
  rw [hl] at c1 hvi hh
  have hlen : (l ++ [s]).length = l.length + 1 := by simp
  rw [hlen] at c1 hvi hh
  obtain ⟨g, cap, ev, htg, hgl, hcap, hmax⟩ := hh.there (by omega)
  injection ev with e1 e2 e3
  subst e1 e3
  have c8 := h.c8
  rw [e] at c8
  have IX := index_any hh hs
  have DL := delete_any (hh.below ((Below.refl W.heap.size W).drew))
  have hg : (Value.slice (some ⟨g, 0, none⟩) (l.length + 1) n).ownBlock = some g := rfl
  have hgc : vca.ownBlock = some gc := by rw [e]; rfl
  have ngb : ba ≠ g := fun e' => not_row h.blk hh (by decide) (e' ▸ hg)
  have ngc : gc ≠ g := fun e' => has_ne h.caches hh (by decide) gc hgc (e' ▸ hg)
  have nbc : ba ≠ gc := fun e' => not_row h.blk h.caches (by decide) (e' ▸ hgc)
  have hgcl := (h.caches.lt gc hgc)
  have gz := h.caches.frozen hgc i
  have fin := fun (w1 : World) (h1 : w1.heap = (W.setCell ⟨g, l.length, none⟩ (.int .i64 0)).heap) (h2 : Fr W w1 (fun k => k = g)) => (show ∃ vs', Ar (w1.setCell ⟨gc, i, none⟩ (.slice (some ⟨g, 0, none⟩) l.length n)) T ba gs cs c vca vs' (A.keep i l) from by
    refine ⟨_, h.cacheSet e hvi (fun _ h => h) hTl ?_ (fun k hk => .inl hk) (fun k hkl hne => ?_)⟩
    · have hp := has_put hh l.length (.int .i64 0)
      refine ⟨by simp [ints], .inr ?_⟩
      rcases hp.2 with ⟨hv', _⟩ | ⟨g', cap', cur, hv', hS, hg', q1, q2, q3, q4⟩
      · cases hv'
      · cases hv'
        refine ⟨g, n, cur, rfl, hS, by rw [h1]; exact hg', by omega, q2, q3, ?_⟩
        have q5 : (ints (l ++ [s])).set l.length (.int .i64 0) = ints l ++ [.int .i64 0] := by simp [ints]
        rw [q5] at q4
        have q6 := congrArg (List.take l.length) q4
        rw [List.take_take] at q6
        simp only [ints, Nat.mul_one, List.take_append_of_le_length (show l.length ≤ (l.map (Value.int IntKind.i64)).length by simp)] at q6 ⊢
        have q7 : min l.length (l.length + 1) = l.length := by omega
        rw [q7, List.take_of_length_le (show (l.map (Value.int IntKind.i64)).length ≤ l.length by simp)] at q6
        exact q6
    · exact h2.block k hkl (fun e' => hne (by rw [e']; rfl)))
  have far := fun (w1 : World) (h2 : Fr W w1 (fun k => k = g)) (v : Value) => (show Far W (w1.setCell ⟨gc, i, none⟩ v) from fun k xs t hk t1 t2 t3 => by
    have n1 : k ≠ gc := fun e' => not_row hk h.caches t2 (e' ▸ hgc)
    have n2 : k ≠ g := fun e' => not_row hk hh t3 (e' ▸ hg)
    rw [Below.heap_setCell _ _ _ k n1, h2.block k (Array.getElem?_eq_some_iff.1 hk).1 n2]
    exact hk)
  have frm := fun (w1 : World) (h2 : Fr W w1 (fun k => k = g)) (v : Value) => (show Fr W (w1.setCell ⟨gc, i, none⟩ v) T from (h2.mono (fun k hk => by rw [hk]; exact htg)).setCell _ _ (.inl hgcl.1))
  have sz := fun (w1 : World) (h1 : w1.heap = (W.setCell ⟨g, l.length, none⟩ (.int .i64 0)).heap) (v : Value) => (show (w1.setCell ⟨gc, i, none⟩ v).heap.size = W.heap.size from by simp [h1])
  have cellW := fun (w1 : World) (h2 : Fr W w1 (fun k => k = g)) => (show w1.cell? ⟨ba, 8, none⟩ = some (.slice (some ⟨gc, 0, none⟩) A.ca.length cc) ∧ w1.cell? ⟨gc, i, none⟩ = some (.slice (some ⟨g, 0, none⟩) (l.length + 1) n) ∧ w1.frozen? ⟨gc, i, none⟩ = false from
    ⟨(World.cell?_of_block (h2.block ba h.lt ngb)).trans c8, (World.cell?_of_block (h2.block gc hgcl.2 ngc)).trans c1, by rw [World.frozen?_of_block (h2.block gc hgcl.2 ngc)]; exact gz⟩)
  have hii : (i : Int) < (A.ca.length : Int) := by omega
  have hwl : wrap64 ((l.length : Int) + 1) = (l.length : Int) + 1 := Wp.wrap64_small _ (by omega) (by unfold maxLen at hmax; omega)
  have hge : decide ((0 : Int) ≤ (l.length : Int)) = true := by simp
  have hwi : IntKind.i64.wrap ((l.length : Int) + 1) = (l.length : Int) + 1 := i64w _ (by omega) (by unfold maxLen at hmax; omega)
  have hdr : (W.drew.setCell ⟨g, l.length, none⟩ (.int .i64 0)).heap = (W.setCell ⟨g, l.length, none⟩ (.int .i64 0)).heap := rfl
  have nx : ∀ w1 : World, w1.heap = (W.drew.setCell ⟨g, l.length, none⟩ (.int .i64 0)).heap → Fr W.drew w1 (fun k => k = g) → (w1.cell? ⟨ba, 8, none⟩ = some (.slice (some ⟨gc, 0, none⟩) A.ca.length cc) ∧ w1.cell? ⟨gc, i, none⟩ = some (.slice (some ⟨g, 0, none⟩) (l.length + 1) n) ∧ w1.frozen? ⟨gc, i, none⟩ = false) ∧ Hid ((∃ vs', Ar (w1.setCell ⟨gc, i, none⟩ (.slice (some ⟨g, 0, none⟩) l.length n)) T ba gs cs c vca vs' (A.keep i l)) ∧ Fr W (w1.setCell ⟨gc, i, none⟩ (.slice (some ⟨g, 0, none⟩) l.length n)) T ∧ (w1.setCell ⟨gc, i, none⟩ (.slice (some ⟨g, 0, none⟩) l.length n)).heap.size = W.heap.size ∧ Far W (w1.setCell ⟨gc, i, none⟩ (.slice (some ⟨g, 0, none⟩) l.length n))) := fun w1 h1 h2 => by
    have h1' := h1.trans hdr
    have h2' : Fr W w1 (fun k => k = g) := (Fr.refl W _).drew.trans (h2.mono (fun _ => .inl))
    exact ⟨cellW w1 h2', fin w1 h1' h2', frm w1 h2' _, sz w1 h1' _, far w1 h2' _⟩
  clear fin far frm sz cellW hdr
  clear h hh hvi hci hlen hl hs e
  generalize l.length = m at *
  generalize A.ca.length = N at *
  replace nx := Mr.hid nx
  replace hTl := Mr.hid hTl
  replace hgl := Mr.hid hgl
  replace hgcl := Mr.hid hgcl
  clear hmax hcap hg hgc
  replace DL := Mr.hid DL
  replace IX := Mr.hid IX
  go_enter Tryz.func98, Tryz.ntmps98
  go_wp2_with (go_at_call 122; refine IX.out.mono ?_; clear IX; rintro e w' ⟨rfl, hw⟩; obtain rfl := hw.symm)
  have ncb : gc ≠ ba := fun e => nbc e.symm
  clear hw
  go_region_held3 (fun w' => w'.cell? ⟨ba, 8, none⟩ = some (.slice (some ⟨gc, 0, none⟩) N cc)) (go_keep)
    (first | (go_at_call 123; refine DL.out.mono ?_; clear DL; rintro e w1 ⟨rfl, h1, h2⟩; obtain ⟨⟨g8, g1, g1z⟩, f1⟩ := nx.out w1 h1 h2; clear nx h1 h2))
  go_wp2
  go_end0
  exact ⟨rfl, f1.out⟩
end
end Go.Proofs.YtkimmfdicohoiaaGreat.Ar
/-
  THE CACHES: putLast by its contract (made by genput.py).
-/
namespace Go.Proofs.YtkimmfdicohoiaaGreat.Ar
open Go.RowKit Mr Me Ma Wc Wm
section
variable {W : World} {T : Nat → Prop} {ba gs cs : Nat} {c : Cf} {vca : Value} {vs : List Value} {A : Ao}
set_option maxRecDepth 100000 in
set_option maxHeartbeats 2000000 in
theorem putLast_any (h : Ar W T ba gs cs c vca vs A) (hTl : ∀ k, T k → k < W.heap.size) (i : Nat) (hi : i < A.ca.length) (hr : (A.cache i).length ≤ 100000) (slot : Int) :
    Calls Tryz.prog 109 #[.pointer (some ⟨ba, 0, none⟩), .int .i64 (i : Int), .int .i64 slot] W fun e w' => e = .returned (.tuple #[]) ∧ (∃ vs', Ar w' (fun k => (T k ∨ W.heap.size ≤ k) ∧ k < w'.heap.size) ba gs cs c vca vs' (A.keep i (A.cache i ++ [slot]))) ∧ Fr W w' T ∧ Far W w' := by
  obtain ⟨i0, hi0, hz0, hz1, hz2⟩ := info_parts info_int
  obtain ⟨gc, cc, a, n, e, c1, hvi, hh, hci⟩ := h.cache i hi
  have c8 := h.c8
  rw [e] at c8
  have hgc : vca.ownBlock = some gc := by rw [e]; rfl
  have nbc : ba ≠ gc := fun e' => not_row h.blk h.caches (by decide) (e' ▸ hgc)
  have ncb : gc ≠ ba := fun e' => nbc e'.symm
  have hgcl := (h.caches.lt gc hgc)
  have hbl := h.lt
  have gz := h.caches.frozen hgc i
  have nvb : (Value.slice a (A.cache i).length n).ownBlock ≠ some ba := not_row h.blk hh (by decide)
  have nvc : (Value.slice a (A.cache i).length n).ownBlock ≠ some gc := fun e' => has_ne hh h.caches (by decide) gc e' hgc
  have law : ∀ (w0 : World), Below W.heap.size W w0 → Has w0 (fun k => T k ∨ W.heap.size ≤ k) 3 1 (.slice a (A.cache i).length n) (A.cache i).length (ints (A.cache i)) := fun w0 B => (hh.below B).mono (fun _ => .inl)
  have hii : (i : Int) < (A.ca.length : Int) := by omega
  have fin := fun (w0 w1 : World) (g cap' : Nat) (hB : Below W.heap.size W w0) (hown : Has w1 (fun k => T k ∨ W.heap.size ≤ k) 3 1 (.slice (some ⟨g, 0, none⟩) ((A.cache i).length + 1) cap') ((A.cache i).length + 1) (ints (A.cache i) ++ [.int .i64 slot])) (hgrow : w0.grownBy w1 (Value.slice a (A.cache i).length n).ownBlock) (hat : (Value.slice a (A.cache i).length n).ownBlock = some g ∨ g = w0.heap.size) => (show (∃ vs', Ar (w1.setCell ⟨gc, i, none⟩ (.slice (some ⟨g, 0, none⟩) ((A.cache i).length + 1) cap')) (fun k => (T k ∨ W.heap.size ≤ k) ∧ k < (w1.setCell ⟨gc, i, none⟩ (.slice (some ⟨g, 0, none⟩) ((A.cache i).length + 1) cap')).heap.size) ba gs cs c vca vs' (A.keep i (A.cache i ++ [slot]))) ∧ Fr W (w1.setCell ⟨gc, i, none⟩ (.slice (some ⟨g, 0, none⟩) ((A.cache i).length + 1) cap')) T ∧ Far W (w1.setCell ⟨gc, i, none⟩ (.slice (some ⟨g, 0, none⟩) ((A.cache i).length + 1) cap')) from by
    have hs := hB.size
    have hs1 := hgrow.size
    have hk : ∀ k, k < W.heap.size → (Value.slice a (A.cache i).length n).ownBlock ≠ some k → w1.heap[k]? = W.heap[k]? := fun k hkl hne => (hgrow.block k (by omega) (fun e' => hne e'.symm)).trans (hB.block k hkl)
    refine ⟨⟨_, h.cacheSet e hvi (fun k hk => ⟨.inl hk, by have := hTl k hk; simp; omega⟩) hTl ?_ (fun k hk' => ?_) hk⟩, ?_, ?_⟩
    · have h1 : Has w1 (fun k => (T k ∨ W.heap.size ≤ k) ∧ k < (w1.setCell ⟨gc, i, none⟩ (.slice (some ⟨g, 0, none⟩) ((A.cache i).length + 1) cap')).heap.size) 3 1 (.slice (some ⟨g, 0, none⟩) ((A.cache i).length + 1) cap') ((A.cache i).length + 1) (ints (A.cache i) ++ [.int .i64 slot]) := hown.kept (fun _ _ => rfl) (fun k hk' => ⟨(hown.lt k hk').1, by simpa using (hown.lt k hk').2⟩)
      have e1 : (A.cache i ++ [slot]).length = (A.cache i).length + 1 := by simp
      have e2 : ints (A.cache i ++ [slot]) = ints (A.cache i) ++ [.int .i64 slot] := by simp [ints]
      rw [e1, e2]
      exact h1
    · simp only [Value.ownBlock, Option.some.injEq] at hk'
      subst hk'
      rcases hat with e' | e'
      · exact .inl e'
      · exact .inr (by omega)
    · exact ((Fr.of_below hB).grown hgrow (fun k hk' => .inl (hh.lt k hk').1)).setCell _ _ (.inl hgcl.1)
    · intro k xs t hkb t1 t2 t3
      have n1 : k ≠ gc := fun e' => not_row hkb h.caches t2 (e' ▸ hgc)
      rw [Below.heap_setCell _ _ _ k n1, hk k (Array.getElem?_eq_some_iff.1 hkb).1 (not_row hkb hh t3)]
      exact hkb)
  replace fin := Mr.hid fin
  clear hvi hci e
  generalize hN : A.ca.length = N at *
  generalize hM : (A.cache i).length = m at *
  replace h := Mr.hid h
  replace hh := Mr.hid hh
  go_enter Tryz.func109, Tryz.ntmps109
  refine wp_region_held_drew (S := fun w' => w'.cell? ⟨ba, 8, none⟩ = some (.slice (some ⟨gc, 0, none⟩) N cc)) (by kernel_rfl) c8 (fun hS => ?_)
  refine wpAnyH_take (i := 0) (v := .pointer (some ⟨ba, 0, none⟩)) rfl (by kernel_rfl) (by kernel_rfl) (by kernel_rfl) (fun _ _ _ h => h) (Or.inl ⟨by rfl, fun w' hw => ?y0⟩) hS ?_
  case y0 =>
    clear hS
    go_simp
  refine wpAnyH_take (i := 1) (v := .pointer (some ⟨ba, 0, none⟩)) rfl (by kernel_rfl) (by kernel_rfl) (by kernel_rfl) (fun _ _ _ h => h) (Or.inl ⟨by rfl, fun w' hw => ?y1⟩) hS ?_
  case y1 =>
    clear hS
    go_simp
  refine wpAnyH_take (i := 2) (v := .pointer (some ⟨ba, 8, none⟩)) rfl (by kernel_rfl) (by kernel_rfl) (by kernel_rfl) (fun _ _ _ h => h) (Or.inl ⟨by rfl, fun w' hw => ?y2⟩) hS ?_
  case y2 =>
    clear hS
    go_simp
  refine wpAnyH_take (i := 3) (v := .slice (some ⟨gc, 0, none⟩) N cc) rfl (by kernel_rfl) (by kernel_rfl) (by kernel_rfl) (fun _ _ _ h => h) (Or.inl ⟨by rfl, fun w' hw => ?y3⟩) hS ?_
  case y3 =>
    clear hS
    go_simp
  refine wpAnyH_take (i := 4) (v := .int .i64 (i : Int)) rfl (by kernel_rfl) (by kernel_rfl) (by kernel_rfl) (fun _ _ _ h => h) (Or.inl ⟨by rfl, fun w' hw => ?y4⟩) hS ?_
  case y4 =>
    clear hS
    go_simp
  refine wpAnyH_take (i := 5) (v := .pointer (some ⟨ba, 0, none⟩)) rfl (by kernel_rfl) (by kernel_rfl) (by kernel_rfl) (fun _ _ _ h => h) (Or.inl ⟨by rfl, fun w' hw => ?y5⟩) hS ?_
  case y5 =>
    clear hS
    go_simp
  refine wpAnyH_take (i := 6) (v := .pointer (some ⟨ba, 0, none⟩)) rfl (by kernel_rfl) (by kernel_rfl) (by kernel_rfl) (fun _ _ _ h => h) (Or.inl ⟨by rfl, fun w' hw => ?y6⟩) hS ?_
  case y6 =>
    clear hS
    go_simp
  refine wpAnyH_take (i := 7) (v := .pointer (some ⟨ba, 8, none⟩)) rfl (by kernel_rfl) (by kernel_rfl) (by kernel_rfl) (fun _ _ _ h => h) (Or.inl ⟨by rfl, fun w' hw => ?y7⟩) hS ?_
  case y7 =>
    clear hS
    go_simp
  refine wpAnyH_take (i := 8) (v := .slice (some ⟨gc, 0, none⟩) N cc) rfl (by kernel_rfl) (by kernel_rfl) (by kernel_rfl) (fun _ _ _ h => h) (Or.inl ⟨by rfl, fun w' hw => ?y8⟩) hS ?_
  case y8 =>
    clear hS
    go_simp
  refine wpAnyH_take (i := 9) (v := .int .i64 (i : Int)) rfl (by kernel_rfl) (by kernel_rfl) (by kernel_rfl) (fun _ _ _ h => h) (Or.inl ⟨by rfl, fun w' hw => ?y9⟩) hS ?_
  case y9 =>
    clear hS
    go_simp
  refine wpAnyH_take (i := 10) (v := .pointer (some ⟨gc, i, none⟩)) rfl (by kernel_rfl) (by kernel_rfl) (by kernel_rfl) (fun _ _ _ h => h) (Or.inl ⟨by rfl, fun w' hw => ?y10⟩) hS ?_
  case y10 =>
    clear hS
    go_simp
  refine wpAnyH_take (i := 12) (v := .int .i64 slot) rfl (by kernel_rfl) (by kernel_rfl) (by kernel_rfl) (fun _ _ _ h => h) (Or.inl ⟨by rfl, fun w' hw => ?y12⟩) hS ?_
  case y12 =>
    clear hS
    go_simp
  have hB2 : Below W.heap.size W (W.drew.alloc (.cells #[.int .i64 slot] 3)) := (Below.drew (Below.refl _ _)).alloc (by simp) _
  have news := newsAt W.drew (W.drew.alloc (.cells #[.int .i64 slot] 3)) #[.int .i64 slot] 3 W.heap.size (by simp) rfl
  have c1d : W.drew.cell? ⟨gc, i, none⟩ = some (.slice a m n) := c1
  have c1e : (W.drew.alloc (.cells #[.int .i64 slot] 3)).cell? ⟨gc, i, none⟩ = some (.slice a m n) := (World.cell?_alloc_past _ _ _ (by simpa using hgcl.2)).trans c1
  have hS2 : (W.drew.alloc (.cells #[.int .i64 slot] 3)).cell? ⟨ba, 8, none⟩ = some (.slice (some ⟨gc, 0, none⟩) N cc) := (World.cell?_alloc_past _ _ _ (by simpa using hbl)).trans c8
  refine wpAnyH_ready (rs := [11, 13]) (by kernel_rfl) (by simp) (AllReadyH.cons rfl (fun K hK => ?a4) (AllReadyH.cons rfl (fun K hK => ?a15) AllReadyH.nil))
  case a4 =>
    go_simp
    refine hK.out _ _ hS (fun hS => ?_)
    clear hK K
    refine wpAnyH_ready (rs := [13]) (by kernel_rfl) (by simp) (AllReadyH.cons rfl (fun K hK => ?_) AllReadyH.nil)
    go_simp
    refine hK.out _ _ hS2 (fun hS => ?_)
    clear hK K
    refine wpAnyH_ready (rs := [14]) (by kernel_rfl) (by simp) (AllReadyH.cons rfl (fun K hK => ?_) AllReadyH.nil)
    refine step_append_has _ rfl (.tmp 17) (.tmp 19) 69 rfl (fun k => T k ∨ W.heap.size ≤ k) 3 i0 _ 1 8 Tryz.underlying69 hi0 hz0 hz1 hz2 rfl (.slice a m n) m (ints (A.cache i)) (by simp [Act.eval]) (law _ hB2) ⟨W.heap.size, 0, none⟩ 1 1 [.int .i64 slot] (by simp [Act.eval]) rfl news (by simp [Value.oneCell']) (by omega) (by unfold maxLen; omega) (by omega) (.inr (by simp)) ?_
    intro g cap' w1 hown hgrow hat
    have f1 := fin.out _ w1 g cap' hB2 hown hgrow hat
    have hs1 := hgrow.size
    have hba : w1.heap[ba]? = W.heap[ba]? := (hgrow.block ba (by simp; omega) (fun e => nvb e.symm)).trans (hB2.block ba hbl)
    have hgb : w1.heap[gc]? = W.heap[gc]? := (hgrow.block gc (by have := hgcl.2; simp; omega) (fun e => nvc e.symm)).trans (hB2.block gc hgcl.2)
    have hS1 : w1.cell? ⟨ba, 8, none⟩ = some (.slice (some ⟨gc, 0, none⟩) N cc) := (World.cell?_of_block hba).trans c8
    have kc : w1.cell? ⟨gc, i, none⟩ = some (.slice a m n) := (World.cell?_of_block hgb).trans c1
    have kf : w1.frozen? ⟨gc, i, none⟩ = false := (World.frozen?_of_block hgb).trans gz
    clear hown hgrow hat hba hgb hs1
    refine hK.out _ _ hS1 (fun hS => ?_)
    clear hK K
    refine wpAnyH_take (i := 15) (v := .pointer (some ⟨gc, i, none⟩)) rfl (by kernel_rfl) (by kernel_rfl) (by kernel_rfl) (fun _ _ _ h => h) (Or.inl ⟨by rfl, fun w' hw => ?y15⟩) hS ?_
    case y15 =>
      clear hS
      go_simp
    refine wpAnyH_ready (rs := [16]) (by kernel_rfl) (by simp) (AllReadyH.cons rfl (fun K hK => ?_) AllReadyH.nil)
    replace f1 := Mr.hid f1
    go_simp
    refine hK.out _ _ ((World.cell?_setCell_far w1 ⟨gc, i, none⟩ ⟨ba, 8, none⟩ _ ncb).trans hS1) (fun _ => wpAnyH_done (by kernel_rfl) ?_ _)
    clear hK K
    clear law c1 c8 kc kf hS1 hS news
    go_wp2
    go_end0
    exact ⟨rfl, f1.out⟩
  case a15 =>
    go_simp
    refine hK.out _ _ hS2 (fun hS => ?_)
    clear hK K
    refine wpAnyH_ready (rs := [11]) (by kernel_rfl) (by simp) (AllReadyH.cons rfl (fun K hK => ?_) AllReadyH.nil)
    go_simp
    refine hK.out _ _ hS2 (fun hS => ?_)
    clear hK K
    refine wpAnyH_ready (rs := [14]) (by kernel_rfl) (by simp) (AllReadyH.cons rfl (fun K hK => ?_) AllReadyH.nil)
    refine step_append_has _ rfl (.tmp 17) (.tmp 19) 69 rfl (fun k => T k ∨ W.heap.size ≤ k) 3 i0 _ 1 8 Tryz.underlying69 hi0 hz0 hz1 hz2 rfl (.slice a m n) m (ints (A.cache i)) (by simp [Act.eval]) (law _ hB2) ⟨W.heap.size, 0, none⟩ 1 1 [.int .i64 slot] (by simp [Act.eval]) rfl news (by simp [Value.oneCell']) (by omega) (by unfold maxLen; omega) (by omega) (.inr (by simp)) ?_
    intro g cap' w1 hown hgrow hat
    have f1 := fin.out _ w1 g cap' hB2 hown hgrow hat
    have hs1 := hgrow.size
    have hba : w1.heap[ba]? = W.heap[ba]? := (hgrow.block ba (by simp; omega) (fun e => nvb e.symm)).trans (hB2.block ba hbl)
    have hgb : w1.heap[gc]? = W.heap[gc]? := (hgrow.block gc (by have := hgcl.2; simp; omega) (fun e => nvc e.symm)).trans (hB2.block gc hgcl.2)
    have hS1 : w1.cell? ⟨ba, 8, none⟩ = some (.slice (some ⟨gc, 0, none⟩) N cc) := (World.cell?_of_block hba).trans c8
    have kc : w1.cell? ⟨gc, i, none⟩ = some (.slice a m n) := (World.cell?_of_block hgb).trans c1
    have kf : w1.frozen? ⟨gc, i, none⟩ = false := (World.frozen?_of_block hgb).trans gz
    clear hown hgrow hat hba hgb hs1
    refine hK.out _ _ hS1 (fun hS => ?_)
    clear hK K
    refine wpAnyH_take (i := 15) (v := .pointer (some ⟨gc, i, none⟩)) rfl (by kernel_rfl) (by kernel_rfl) (by kernel_rfl) (fun _ _ _ h => h) (Or.inl ⟨by rfl, fun w' hw => ?y15⟩) hS ?_
    case y15 =>
      clear hS
      go_simp
    refine wpAnyH_ready (rs := [16]) (by kernel_rfl) (by simp) (AllReadyH.cons rfl (fun K hK => ?_) AllReadyH.nil)
    replace f1 := Mr.hid f1
    go_simp
    refine hK.out _ _ ((World.cell?_setCell_far w1 ⟨gc, i, none⟩ ⟨ba, 8, none⟩ _ ncb).trans hS1) (fun _ => wpAnyH_done (by kernel_rfl) ?_ _)
    clear hK K
    clear law c1 c8 kc kf hS1 hS news
    go_wp2
    go_end0
    exact ⟨rfl, f1.out⟩
end
end Go.Proofs.YtkimmfdicohoiaaGreat.Ar
/-
  INSIDE A PART's run: the arena, the part's own block, the box of its turn, the state within the step.
-/
namespace Go.Proofs.YtkimmfdicohoiaaGreat.Ar
open Go.RowKit Mr Me Ma Wc Wm
/-- A type that is none of the arena's own. -/
def Oth (t : TypeId) : Prop := t ≠ 62 ∧ t ≠ 100 ∧ t ≠ 69 ∧ t ≠ 3
/-- Where a part's run began, and what stays: W0 .. now: the step's; WS, T0: the world and the blocks at the run's beginning; ba .. vca: the arena; bt: the part's block. -/
structure Pl where
  W0 : World
  U0 : Nat → Prop
  S0 : Nat → Prop
  X0 : Nat → Prop
  p : Ph
  i : Nat
  now : Int
  WS : World
  T0 : Nat → Prop
  ba : Nat
  gs : Nat
  cs : Nat
  c : Cf
  vca : Value
  bt : Nat
  ty : TypeId
/-- Other objects are as they were. -/
def Pl.oth (q : Pl) (W : World) : Prop := ∀ (j : Nat) (xs : Array Value) (t : TypeId), q.T0 j → j ≠ q.bt → Oth t → q.WS.heap[j]? = some (.cells xs t (0, 0)) → W.heap[j]? = some (.cells xs t (0, 0))
/-- What a run leaves. -/
def Rn (q : Pl) (sp : Bool) (s : Ss) (A : Ao) (xs : Array Value) (W : World) : Prop :=
  ∃ T vs, (∀ k, q.T0 k → T k) ∧ (∀ k, T k → q.T0 k ∨ q.WS.heap.size ≤ k) ∧ E q.W0 q.U0 q.S0 q.X0 q.p q.i q.now T sp s W ∧ Ar W T q.ba q.gs q.cs q.c q.vca vs A ∧ W.heap[q.bt]? = some (.cells xs q.ty (0, 0)) ∧ q.T0 q.bt ∧ Oth q.ty ∧ q.oth W
structure In (q : Pl) (N : Nat) (T : Nat → Prop) (vs : List Value) (sp : Bool) (s : Ss) (A : Ao) (xs : Array Value) (l : Int) (W : World) : Prop where
  k0 : ∀ k, q.T0 k → T k
  k1 : ∀ k, T k → q.T0 k ∨ q.WS.heap.size ≤ k
  e : E q.W0 q.U0 q.S0 q.X0 q.p q.i q.now (fun j => T j ∨ j = N) sp s W
  a : Ar W T q.ba q.gs q.cs q.c q.vca vs A
  t : W.heap[q.bt]? = some (.cells xs q.ty (0, 0))
  x : W.heap[N]? = some (.cells #[.pointer (some ⟨q.p.bd, 0, none⟩), .int .i64 l] 158 (0, 0))
  tb : q.T0 q.bt
  tn : ¬ T N
  ty : Oth q.ty
  o : q.oth W
theorem oth_turn : Oth 158 := by unfold Oth; decide
section
variable {q : Pl} {N : Nat} {T : Nat → Prop} {vs : List Value} {sp : Bool} {s : Ss} {A : Ao} {xs : Array Value} {l : Int} {W w : World}
theorem Rn.start (h : Rn q sp s A xs W) (l : Int) : ∃ T vs, In q W.heap.size T vs sp s A xs l (W.alloc (.cells #[.pointer (some ⟨q.p.bd, 0, none⟩), .int .i64 l] 158)) := by
  obtain ⟨T, vs, h1, h2, h3, h4, h5, h6, h7, h8⟩ := h
  have hl := h3.tl
  have hk : ∀ k, k < W.heap.size → (W.alloc (.cells #[.pointer (some ⟨q.p.bd, 0, none⟩), .int .i64 l] 158)).heap[k]? = W.heap[k]? := fun k h => Below.heap_alloc _ _ _ h
  refine ⟨T, vs, h1, h2, ?_, h4.kept (fun k hk' => hk k (hl k hk')) (fun _ h => h), (hk _ (Array.getElem?_eq_some_iff.1 h5).1).trans h5, heap_alloc_new W _, h6, fun hn => by have := hl _ hn; omega, h7, fun j ys t hj hne ht hw => ?_⟩
  · refine h3.write ((Fr.refl W T).alloc _) (fun k hk' => ?_)
    rcases hk' with hk' | rfl
    · exact ⟨by have := hl k hk'; simp; omega, .inl hk'⟩
    · exact ⟨by simp, .inr (Nat.le_refl _)⟩
  · have := h8 j ys t hj hne ht hw
    exact (hk _ (Array.getElem?_eq_some_iff.1 this).1).trans this
theorem In.done (h : In q N T vs sp s A xs l W) : Rn q sp s A xs W :=
  ⟨T, vs, h.k0, h.k1, h.e.sub (fun _ => .inl), h.a, h.t, h.tb, h.ty, h.o⟩
theorem In.tbt (h : In q N T vs sp s A xs l W) : T q.bt := h.k0 _ h.tb
theorem In.ne (h : In q N T vs sp s A xs l W) : q.bt ≠ N := fun e => h.tn (e ▸ h.tbt)
theorem In.nba (h : In q N T vs sp s A xs l W) : q.ba ≠ q.bt ∧ q.ba ≠ N := by
  refine ⟨fun e => ?_, fun e => h.tn (e ▸ h.a.ta)⟩
  have := h.a.blk
  rw [e, h.t] at this
  simp at this
  exact h.ty.1 this.2
/-- What is written into the part's own block, or into its turn's box. -/
theorem In.wrote (h : In q N T vs sp s A xs l W) {xs' : Array Value} {l' : Int} (hf : Fr W w (fun k => k = q.bt ∨ k = N)) (hs : w.heap.size = W.heap.size) (ht : w.heap[q.bt]? = some (.cells xs' q.ty (0, 0))) (hx : w.heap[N]? = some (.cells #[.pointer (some ⟨q.p.bd, 0, none⟩), .int .i64 l'] 158 (0, 0))) : In q N T vs sp s A xs' l' w := by
  have hl := h.e.tl
  refine ⟨h.k0, h.k1, h.e.write (hf.mono (fun k hk => hk.elim (fun e => .inl (e ▸ h.tbt)) .inr)) (fun k hk => ⟨by have := hl k hk; omega, .inl hk⟩), h.a.far h.t h.ty (fun j hj hT => hf.block j (hl j (.inl hT)) (fun e => e.elim hj (fun e => h.tn (e ▸ hT)))), ht, hx, h.tb, h.tn, h.ty, fun j ys t hj hne hto hw => ?_⟩
  have := h.o j ys t hj hne hto hw
  exact (hf.block j (Array.getElem?_eq_some_iff.1 this).1 (fun e => e.elim hne (fun e => h.tn (e ▸ h.k0 j hj)))).trans this
theorem In.setT (h : In q N T vs sp s A xs l W) (j : Nat) (u : Value) : In q N T vs sp s A (xs.setIfInBounds j u) l (W.setCell ⟨q.bt, j, none⟩ u) :=
  h.wrote ((Fr.refl W _).setCell _ _ (.inl (.inl rfl))) (by simp) (setBlk h.t j u) ((Below.heap_setCell _ _ _ N (fun e => h.ne e.symm)).trans h.x)
theorem In.setN (h : In q N T vs sp s A xs l W) (l' : Int) : In q N T vs sp s A xs l' (W.setCell ⟨N, 1, none⟩ (.int .i64 l')) :=
  h.wrote ((Fr.refl W _).setCell _ _ (.inl (.inr rfl))) (by simp) ((Below.heap_setCell _ _ _ _ h.ne).trans h.t) (setBlk h.x 1 (.int .i64 l'))
theorem In.below (h : In q N T vs sp s A xs l W) (hB : Below W.heap.size W w) : In q N T vs sp s A xs l w := by
  obtain ⟨e1, e2⟩ := h.e.below hB
  refine ⟨h.k0, h.k1, e1, h.a.kept (fun k hk => e2 k (.inl hk)) (fun _ h => h), (e2 _ (.inl h.tbt)).trans h.t, (e2 _ (.inr rfl)).trans h.x, h.tb, h.tn, h.ty, fun j ys t hj hne hto hw => ?_⟩
  have := h.o j ys t hj hne hto hw
  exact (e2 j (.inl (h.k0 j hj))).trans this
theorem In.drew (h : In q N T vs sp s A xs l W) : In q N T vs sp s A xs l W.drew := h.below (Below.refl _ _).drew
/-- Behind one of the desk's calls. -/
theorem In.desk {sp' : Bool} {s' : Ss} (h : In q N T vs sp s A xs l W) (he : E q.W0 q.U0 q.S0 q.X0 q.p q.i q.now (fun j => T j ∨ j = N) sp' s' w) (hm : Sm W w (fun j => T j ∨ j = N)) : In q N T vs sp' s' A xs l w :=
  ⟨h.k0, h.k1, he, h.a.kept (fun k hk => hm k (.inl hk)) (fun _ h => h), (hm _ (.inl h.tbt)).trans h.t, (hm _ (.inr rfl)).trans h.x, h.tb, h.tn, h.ty, fun j ys t hj hne hto hw => (hm j (.inl (h.k0 j hj))).trans (h.o j ys t hj hne hto hw)⟩
/-- What its cells hold. -/
theorem In.at (h : In q N T vs sp s A xs l W) (j : Nat) (u : Value) (hu : xs[j]? = some u) : W.cell? ⟨q.bt, j, none⟩ = some u := by simp [World.cell?, h.t, hu]
theorem In.z (h : In q N T vs sp s A xs l W) (j : Nat) : W.frozen? ⟨q.bt, j, none⟩ = false := by simp [World.frozen?, h.t]
theorem In.x0 (h : In q N T vs sp s A xs l W) : W.cell? ⟨N, 0, none⟩ = some (.pointer (some ⟨q.p.bd, 0, none⟩)) := by simp [World.cell?, h.x]
theorem In.x1 (h : In q N T vs sp s A xs l W) : W.cell? ⟨N, 1, none⟩ = some (.int .i64 l) := by simp [World.cell?, h.x]
theorem In.xz (h : In q N T vs sp s A xs l W) (j : Nat) : W.frozen? ⟨N, j, none⟩ = false := by simp [World.frozen?, h.x]
theorem In.load (h : In q N T vs false s A xs l W) (hb : Me.Roomy s.lg s.ah) (ad : Nat) (hi : ad < s.ws.length) :
    Calls Tryz.prog 101 #[.pointer (some ⟨q.p.bd, 0, none⟩), .int .i64 (ad : Int)] W fun e w' => e = .returned (.int .u64 (s.ws[ad]?.getD 0)) ∧ In q N T vs true (s.loads q.i q.now ad) A xs l w' := by
  refine (h.e.load hb ad hi).mono ?_
  rintro e w' ⟨rfl, h1, h2⟩
  exact ⟨rfl, h.desk h1 h2⟩
theorem In.store (h : In q N T vs false s A xs l W) (hb : Me.Roomy s.lg s.ah) (ad : Nat) (hi : ad < s.ws.length) (x : Int) :
    Calls Tryz.prog 110 #[.pointer (some ⟨q.p.bd, 0, none⟩), .int .i64 (ad : Int), .int .u64 x] W fun e w' => e = .returned (.tuple #[]) ∧ In q N T vs true (s.stores q.i q.now ad x) A xs l w' := by
  refine (h.e.store hb ad hi x).mono ?_
  rintro e w' ⟨rfl, h1, h2⟩
  exact ⟨rfl, h.desk h1 h2⟩
theorem In.hit (h : In q N T vs false s A xs l W) (hb : Me.Roomy s.lg s.ah) (ad : Nat) (hi : ad < s.ws.length) (old x : Int) (ho : s.ws[ad]?.getD 0 = old) :
    Calls Tryz.prog 105 #[.pointer (some ⟨q.p.bd, 0, none⟩), .int .i64 (ad : Int), .int .u64 old, .int .u64 x] W fun e w' => e = .returned (.bool true) ∧ In q N T vs true (s.hits q.i q.now ad old x) A xs l w' := by
  refine (h.e.hit hb ad hi old x ho).mono ?_
  rintro e w' ⟨rfl, h1, h2⟩
  exact ⟨rfl, h.desk h1 h2⟩
theorem In.miss (h : In q N T vs false s A xs l W) (hb : Me.Roomy s.lg s.ah) (ad : Nat) (hi : ad < s.ws.length) (old x : Int) (ho : s.ws[ad]?.getD 0 ≠ old) :
    Calls Tryz.prog 105 #[.pointer (some ⟨q.p.bd, 0, none⟩), .int .i64 (ad : Int), .int .u64 old, .int .u64 x] W fun e w' => e = .returned (.bool false) ∧ In q N T vs true (s.misses q.i q.now ad old x) A xs l w' := by
  refine (h.e.miss hb ad hi old x ho).mono ?_
  rintro e w' ⟨rfl, h1, h2⟩
  exact ⟨rfl, h.desk h1 h2⟩
theorem In.shift (h : In q N T vs sp s A xs l W) (hr : s.shs.length ≤ 100000) (slot to : Int) (hs : A.has slot) (ht : 0 ≤ to ∧ to ≤ 5) :
    Calls Tryz.prog 22 #[.pointer (some ⟨q.ba, 0, none⟩), .pointer (some ⟨q.p.bd, 0, none⟩), .int .i64 slot, .int .i64 to] W fun e w' => e = .returned (.tuple #[]) ∧ In q N T vs sp (s.shifts q.i q.now slot (A.st slot).1 to) (A.put slot to q.i) xs l w' := by
  have ha : Ar W (fun j => T j ∨ j = N) q.ba q.gs q.cs q.c q.vca vs A := h.a.kept (fun _ _ => rfl) (fun _ h => .inl h)
  refine (arShift h.e ha hr slot to hs ht).mono ?_
  rintro e w' ⟨rfl, h1, h2, h3⟩
  have gT : T q.gs := h.a.tgs
  have ng : ∀ (j : Nat) (ys : Array Value) (t : TypeId), W.heap[j]? = some (.cells ys t (0, 0)) → Oth t → j ≠ q.gs := fun j ys t hj ht e => not_row hj h.a.slots ht.2.1 (by rw [e]; rfl)
  refine ⟨rfl, h.k0, h.k1, h1, ?_, (h3 _ (.inl h.tbt) (ng _ _ _ h.t h.ty)).trans h.t, (h3 _ (.inr rfl) (ng _ _ _ h.x oth_turn)).trans h.x, h.tb, h.tn, h.ty, fun j ys t hj hne hto hw => ?_⟩
  · refine ⟨h2.blk, h2.slots.kept (fun _ _ => rfl) (fun k e => ?_), h2.caches.kept (fun _ _ => rfl) (fun k e => (h.a.caches.lt k e).1), fun i v l' hv hl' => (h2.each i v l' hv hl').kept (fun _ _ => rfl) (fun k e => ((h.a.each i v l' hv hl').lt k e).1), h2.sep, h.a.ta, h2.ok, h2.five⟩
    have : k = q.gs := by simpa [Value.ownBlock] using e.symm
    rw [this]; exact gT
  · have := h.o j ys t hj hne hto hw
    exact (h3 j (.inl (h.k0 j hj)) (ng _ _ _ this hto)).trans this
theorem In.hasSlot (h : In q N T vs sp s A xs l W) (x : Int) :
    Calls Tryz.prog 66 #[.pointer (some ⟨q.ba, 0, none⟩), .int .i64 x] W fun e w' => e = .returned (.bool (decide (A.has x))) ∧ w' = W := hasSlot_any h.a x
theorem In.last (h : In q N T vs sp s A xs l W) (hi : q.i < A.ca.length) :
    Calls Tryz.prog 97 #[.pointer (some ⟨q.ba, 0, none⟩), .int .i64 (q.i : Int)] W fun e w' => e = .returned (.int .i64 (A.last q.i)) ∧ w' = W := last_any h.a q.i hi
theorem In.free (h : In q N T vs sp s A xs l W) :
    Calls Tryz.prog 102 #[.pointer (some ⟨q.ba, 0, none⟩)] W fun e w' => e = .returned (.int .i64 0) ∧ In q N T vs sp s A xs l w' := by
  refine (freeAddr_any h.a).mono ?_
  rintro e w' ⟨rfl, hB⟩
  exact ⟨rfl, h.below hB⟩
theorem In.spare (h : In q N T vs sp s A xs l W) (x : Int) (hx : A.has x) :
    Calls Tryz.prog 104 #[.pointer (some ⟨q.ba, 0, none⟩), .int .i64 x] W fun e w' => e = .returned (.int .i64 (q.c.m + x)) ∧ In q N T vs sp s A xs l w' := by
  refine (spareAddr_any h.a x hx).mono ?_
  rintro e w' ⟨rfl, hB⟩
  exact ⟨rfl, h.below hB⟩
theorem In.room (h : In q N T vs sp s A xs l W) (hi : q.i < A.ca.length) (K : Nat) (hK : q.c.a4 = K) :
    Calls Tryz.prog 108 #[.pointer (some ⟨q.ba, 0, none⟩), .int .i64 (q.i : Int)] W fun e w' => e = .returned (.bool (decide ((A.cache q.i).length < K))) ∧ In q N T vs sp s A xs l w' := by
  refine (hasRoom_any h.a q.i hi K hK).mono ?_
  rintro e w' ⟨rfl, _, hB⟩
  exact ⟨rfl, h.below hB⟩
theorem In.drop (h : In q N T vs sp s A xs l W) (hi : q.i < A.ca.length) (m : List Int) (x : Int) (hl : A.cache q.i = m ++ [x]) (hx : x ∉ m) :
    Calls Tryz.prog 98 #[.pointer (some ⟨q.ba, 0, none⟩), .int .i64 (q.i : Int), .int .i64 x] W fun e w' => e = .returned (.tuple #[]) ∧ ∃ vs', In q N T vs' sp s (A.keep q.i m) xs l w' := by
  have hl' := h.e.tl
  refine (drop_any h.a (fun k hk => hl' k (.inl hk)) q.i hi m x hl hx).mono ?_
  rintro e w' ⟨rfl, ⟨vs', ha⟩, hf, hsz, far⟩
  refine ⟨rfl, vs', h.k0, h.k1, h.e.write (hf.mono (fun _ => .inl)) (fun k hk => ⟨by have := hl' k hk; omega, .inl hk⟩), ha, far _ _ _ h.t h.ty.2.1 h.ty.2.2.1 h.ty.2.2.2, far _ _ _ h.x oth_turn.2.1 oth_turn.2.2.1 oth_turn.2.2.2, h.tb, h.tn, h.ty, fun j ys t hj hne hto hw => ?_⟩
  exact far _ _ _ (h.o j ys t hj hne hto hw) hto.2.1 hto.2.2.1 hto.2.2.2
theorem In.put (h : In q N T vs sp s A xs l W) (hi : q.i < A.ca.length) (hr : (A.cache q.i).length ≤ 100000) (hWS : q.WS.heap.size ≤ W.heap.size) (x : Int) :
    Calls Tryz.prog 109 #[.pointer (some ⟨q.ba, 0, none⟩), .int .i64 (q.i : Int), .int .i64 x] W fun e w' => e = .returned (.tuple #[]) ∧ ∃ T' vs', In q N T' vs' sp s (A.keep q.i (A.cache q.i ++ [x])) xs l w' := by
  have hl' := h.e.tl
  refine (putLast_any h.a (fun k hk => hl' k (.inl hk)) q.i hi hr x).mono ?_
  rintro e w' ⟨rfl, ⟨vs', ha⟩, hf, far⟩
  have hs := hf.size
  have hNl : N < W.heap.size := hl' N (.inr rfl)
  refine ⟨rfl, _, vs', fun k hk => ⟨.inl (h.k0 k hk), by have := hl' k (.inl (h.k0 k hk)); omega⟩, fun k hk => hk.1.elim (h.k1 k) (fun h' => .inr (by omega)), h.e.write (hf.mono (fun _ => .inl)) (fun k hk => ?_), ha, far _ _ _ h.t h.ty.2.1 h.ty.2.2.1 h.ty.2.2.2, far _ _ _ h.x oth_turn.2.1 oth_turn.2.2.1 oth_turn.2.2.2, h.tb, fun hn => ?_, h.ty, fun j ys t hj hne hto hw => ?_⟩
  · rcases hk with ⟨hk | hk, hk2⟩ | rfl
    · exact ⟨hk2, .inl (.inl hk)⟩
    · exact ⟨hk2, .inr hk⟩
    · exact ⟨by omega, .inl (.inr rfl)⟩
  · rcases hn.1 with hn | hn
    · exact h.tn hn
    · omega
  · exact far _ _ _ (h.o j ys t hj hne hto hw) hto.2.1 hto.2.2.1 hto.2.2.2
end
end Go.Proofs.YtkimmfdicohoiaaGreat.Ar
