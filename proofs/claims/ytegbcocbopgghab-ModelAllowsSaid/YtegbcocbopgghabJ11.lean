import Derived.Test.YtegbcocbopgghabJ01
import Derived.Laws.CopyRow
import Derived.Lib.SliceRun
import Derived.Test.YtegbcocbopgghabJ04
/-
  ROWS OF ONE's OWN, wherever they begin in their block, with their room behind them: append onto one, copy into one, clear of a piece of one.
-/
namespace Go.Proofs.Ytegbcocbopgghab.Md
open Go.RowKit Mr
set_option linter.unusedVariables false
/-- v has n elements of size cells each that hold xs; it has no room at all, or it leads into a block of S, and what is behind it up to its capacity is there. -/
def Own (W : World) (S : Nat → Prop) (e : TypeId) (size : Nat) (v : Value) (n : Nat) (xs : List Value) : Prop :=
  xs.length = n * size ∧ ∃ a cap, v = .slice a n cap ∧ n ≤ cap ∧ cap ≤ maxLen ∧ (cap = 0 ∨ ∃ g o cur, a = some ⟨g, o, none⟩ ∧ S g ∧ W.heap[g]? = some (.cells cur e (0, 0)) ∧ o + cap * size ≤ cur.size ∧ (cur.toList.drop o).take (n * size) = xs)
section
variable {W W' : World} {S T : Nat → Prop} {e : TypeId} {size n : Nat} {v : Value} {xs : List Value}
theorem Own.kept (h : Own W S e size v n xs) (hb : ∀ k, S k → k < W.heap.size → W'.heap[k]? = W.heap[k]?) (hT : ∀ k, S k → T k) : Own W' T e size v n xs := by
  obtain ⟨h1, a, cap, hv, hc, hm, h2⟩ := h
  refine ⟨h1, a, cap, hv, hc, hm, h2.imp id ?_⟩
  rintro ⟨g, o, cur, ha, hS, hg, hs, hx⟩
  exact ⟨g, o, cur, ha, hT g hS, (hb g hS (Array.getElem?_eq_some_iff.1 hg).1).trans hg, hs, hx⟩
theorem Own.mono (h : Own W S e size v n xs) (hT : ∀ k, S k → T k) : Own W T e size v n xs := h.kept (fun _ _ _ => rfl) hT
theorem Own.fr (h : Own W S e size v n xs) (hf : Fr W W' T) (hd : ∀ k, S k → k < W.heap.size → ¬ T k) : Own W' S e size v n xs := h.kept (fun k hk hl => hf.block k hl (hd k hk hl)) (fun _ h => h)
theorem Own.below (h : Own W S e size v n xs) (hB : Below W.heap.size W W') : Own W' S e size v n xs := h.kept (fun k _ hl => hB.block k hl) (fun _ h => h)
theorem Own.of_has (h : Has W S e size v n xs) : Own W S e size v n xs := by
  refine ⟨h.1, ?_⟩
  rcases h.2 with ⟨rfl, rfl⟩ | ⟨g, cap, cur, rfl, hS, hg, hc, hm, hs, hx⟩
  · exact ⟨none, 0, rfl, Nat.le_refl _, Nat.zero_le _, .inl rfl⟩
  · exact ⟨_, cap, rfl, hc, hm, .inr ⟨g, 0, cur, rfl, hS, hg, by omega, by simpa using hx⟩⟩
theorem own_cells {W : World} {g o k : Nat} {cur : Array Value} {e : TypeId} {xs : List Value} (hg : W.heap[g]? = some (.cells cur e (0, 0))) (hx : (cur.toList.drop o).take k = xs) (j : Nat) (u : Value) (hu : xs[j]? = some u) : W.cell? ⟨g, o + j, none⟩ = some u := by
  rw [cell_of_row W g (o + j) cur e (0, 0) hg]
  rw [← hx, List.getElem?_take] at hu
  split at hu
  · rw [List.getElem?_drop] at hu
    simpa using hu
  · cases hu
theorem Own.sl (h : Own W S e size v n xs) : Sl W S size v n xs := by
  obtain ⟨h1, a, cap, hv, hc, hm, h2⟩ := h
  refine ⟨h1, a, cap, hv, hc, ?_⟩
  rcases h2 with rfl | ⟨g, o, cur, rfl, hS, hg, hs, hx⟩
  · exact .inl (by omega)
  · exact .inr ⟨g, o, rfl, hS, (Array.getElem?_eq_some_iff.1 hg).1, own_cells hg hx⟩
theorem Own.form (h : Own W S e size v n xs) : ∃ a cap, v = .slice a n cap ∧ n ≤ cap ∧ cap ≤ maxLen := by obtain ⟨_, a, cap, hv, hc, hm, _⟩ := h; exact ⟨a, cap, hv, hc, hm⟩
theorem Own.there (h : Own W S e size v n xs) (hn : 0 < n) : ∃ g o cap cur, v = .slice (some ⟨g, o, none⟩) n cap ∧ n ≤ cap ∧ cap ≤ maxLen ∧ S g ∧ W.heap[g]? = some (.cells cur e (0, 0)) ∧ o + cap * size ≤ cur.size ∧ (cur.toList.drop o).take (n * size) = xs := by
  obtain ⟨_, a, cap, hv, hc, hm, h2⟩ := h
  rcases h2 with rfl | ⟨g, o, cur, rfl, hS, hg, hs, hx⟩
  · omega
  · exact ⟨g, o, cap, cur, hv, hc, hm, hS, hg, hs, hx⟩
theorem Own.zero (W : World) (S : Nat → Prop) (e : TypeId) (size : Nat) (a : Option Addr) : Own W S e size (.slice a 0 0) 0 [] := ⟨by simp, a, 0, rfl, Nat.le_refl _, Nat.zero_le _, .inl rfl⟩
end
theorem seg_len (cur : List Value) (o k : Nat) (news : List Value) (h : o + k + news.length ≤ cur.length) : (cur.take (o + k) ++ news ++ cur.drop (o + k + news.length)).length = cur.length := by
  simp; omega
/-- What lies from o on behind a write at o + k. -/
theorem seg_put (cur : List Value) (o k : Nat) (news xs : List Value) (hx : (cur.drop o).take k = xs) (hl : xs.length = k) (h : o + k + news.length ≤ cur.length) :
    ((cur.take (o + k) ++ news ++ cur.drop (o + k + news.length)).drop o).take (k + news.length) = xs ++ news := by
  have e1 : cur.take (o + k) = cur.take o ++ xs := by rw [List.take_add, hx]
  have lo : (cur.take o).length = o := by rw [List.length_take]; omega
  rw [e1, List.append_assoc, List.append_assoc, List.drop_append_of_le_length (by omega), List.drop_of_length_le (by omega), List.nil_append, ← List.append_assoc, List.take_append_of_le_length (by simp; omega), List.take_of_length_le (by simp; omega)]
section
variable {P : Program} (w : World)
theorem run_append_at (t ty e e' : TypeId) (i : TypeInfo) (ht : P.underlying t = some (.slice e)) (hi : P.info? e = some i) (g o n cap : Nat) (cur : Array Value) (hg : w.heap[g]? = some (.cells cur e' (0, 0)))
    (a : Addr) (m c : Nat) (news : List Value) (hl : news.length = m * i.size) (hnews : ∀ j u, news[j]? = some u → w.cell? (a.add j) = some u) (h1 : ∀ u ∈ news, u.oneCell' = true) (hroom : n + m ≤ cap) (hfit : o + n * i.size + news.length ≤ cur.size) :
    (Builtin.append_ #[t, t] ty #[.slice (some ⟨g, o, none⟩) n cap, .slice (some a) m c]).run P w = .ok (.slice (some ⟨g, o, none⟩) (n + m) cap) (w.setRow g (cur.toList.take (o + n * i.size) ++ news ++ cur.toList.drop (o + n * i.size + news.length)).toArray) := by
  have hfc := run_firstCells_some (P := P) w i.size m a m c news hl hnews
  have hst := run_storeCells_at P g (o + n * i.size) e' news 0 cur w hg (by simpa using hfit) h1
  simp only [Nat.add_zero] at hst
  simp [Builtin.append_, run_underlying ht, sizeOf, typeInfo, hi, Builtin.lenOf, hroom, hfc, Addr.add_lit, hst]
theorem setRow_fr {w : World} {S : Nat → Prop} {g : Nat} (hS : S g) (cs : Array Value) : Fr w (w.setRow g cs) S := ⟨rfl, rfl, rfl, by simp, fun k _ hk => setRow_other w g k _ (fun e => hk (e ▸ hS))⟩
/-- append onto a row of one's own, from whatever source. -/
theorem run_append_mine (S : Nat → Prop) (t ty e : TypeId) (i : TypeInfo) (z : Value) (size bytes : Nat) (ht : P.underlying t = some (.slice e)) (hi : P.info? e = some i) (hz : i.zero = some z)
    (hsize : i.size = size) (hby : i.bytes = bytes) (hzs : z.cells.size = size) (v : Value) (n : Nat) (xs : List Value) (hown : Own w S e size v n xs) (a0 : Option Addr) (m c : Nat) (news : List Value) (hl : news.length = m * size) (ha : a0 = none → m = 0) (hnews : ∀ ad, a0 = some ad → ∀ j u, news[j]? = some u → w.cell? (ad.add j) = some u)
    (h1 : ∀ u ∈ news, u.oneCell' = true) (h63 : n + m ≤ maxLen) (hbytes : ((n + m) + (n + m) / 4 + 192) * bytes ≤ 281474976710656) :
    ∃ b' cap' w', (Builtin.append_ #[t, t] ty #[v, .slice a0 m c]).run P w = .ok (.slice b' (n + m) cap') w' ∧ Own w' (fun k => S k ∨ k = w.heap.size) e size (.slice b' (n + m) cap') (n + m) (xs ++ news) ∧ Fr w w' S := by
  subst hsize
  subst hby
  have hsmall : n + m ≤ 9223372036854775807 := by simp only [maxLen] at h63; omega
  by_cases hm : m = 0
  · subst hm
    have hn : news = [] := List.eq_nil_of_length_eq_zero (by simpa using hl)
    subst hn
    obtain ⟨b0, cap, rfl, hc, _⟩ := hown.form
    refine ⟨b0, cap, w, ?_, ?_, Fr.refl _ _⟩
    · cases b0 <;> cases a0 <;> simp [Builtin.append_, run_underlying ht, sizeOf, typeInfo, hi, Builtin.lenOf, Builtin.firstCells, loadCells, loadCellsFrom, hc, storeCells]
    · rw [List.append_nil]; exact hown.mono (fun _ => .inl)
  · cases a0 with
    | none => exact absurd (ha rfl) hm
    | some a =>
      have hnews := hnews a rfl
      have hlen : (xs ++ news).length = (n + m) * i.size := by rw [List.length_append, hown.1, hl, Nat.add_mul]
      have hfr : ∀ o, Fr w (w.drew.alloc o) S := fun o => (Fr.refl w S).drew.alloc o
      obtain ⟨hx1, b0, cap, rfl, hc, hcm, h2⟩ := hown
      rcases h2 with rfl | ⟨g, o, cur, rfl, hS, hg, hs, hx⟩
      · obtain rfl : n = 0 := by omega
        have hx : xs = [] := List.eq_nil_of_length_eq_zero (by simpa using hx1)
        subst hx
        have hgr := grown_has w e i.size z hzs (0 + m) 0 h63 (fun k => S k ∨ k = w.heap.size) (.inr rfl) ([] ++ news) hlen #[] news.toArray (by simp) none
        have hbz : Builtin.nextslicecap m 0 * i.bytes ≤ 281474976710656 := by rw [Nat.zero_add] at hbytes; exact growslice_fits_wide (by omega) hbytes
        cases b0 with
        | none =>
          have hr := run_append_nil (P := P) w t ty e i z ht hi hz a m c news hl hnews (by omega) (by omega) (by
            refine Nat.le_trans (Nat.mul_le_mul_right _ ?_) hbytes; omega)
          simp only [Nat.zero_add, List.nil_append, Array.empty_append] at hgr ⊢
          exact ⟨_, _, _, hr, Own.of_has hgr.1, hfr _⟩
        | some b =>
          have hr := run_append_grow (P := P) w t ty e i z ht hi hz b 0 0 [] (by simp) (fun j u hu => by simp at hu) a m c news hl hnews (by omega) (by omega) (by simpa using hbz)
          simp only [Nat.zero_add, List.nil_append] at hgr hr ⊢
          exact ⟨_, _, _, hr, Own.of_has hgr.1, hfr _⟩
      · by_cases hroom : n + m ≤ cap
        · have hmul : (n + m) * i.size ≤ cap * i.size := Nat.mul_le_mul_right _ hroom
          rw [Nat.add_mul] at hmul
          have hfit : o + n * i.size + news.length ≤ cur.size := by omega
          have hr := run_append_at (P := P) w t ty e e i ht hi g o n cap cur hg a m c news hl hnews h1 hroom hfit
          refine ⟨_, _, _, hr, ⟨hlen, _, cap, rfl, hroom, hcm, .inr ⟨g, o, _, rfl, .inl hS, setRow_heap w g cur _ e _ hg, ?_, ?_⟩⟩, setRow_fr hS _⟩
          · have := seg_len cur.toList o (n * i.size) news (by simpa using hfit)
            simp only [List.size_toArray]
            rw [this]
            simpa using hs
          · rw [Nat.add_mul, ← hl]
            exact seg_put cur.toList o (n * i.size) news xs hx hx1 (by simpa using hfit)
        · have holds : ∀ j u, xs[j]? = some u → w.cell? ((⟨g, o, none⟩ : Addr).add j) = some u := fun j u hu => by
            rw [add1]; exact own_cells hg hx j u hu
          have hr := run_append_grow (P := P) w t ty e i z ht hi hz ⟨g, o, none⟩ n cap xs hx1 holds a m c news hl hnews (by omega) (by omega) (growslice_fits_wide (by omega) hbytes)
          have hgr := grown_has w e i.size z hzs (n + m) cap h63 (fun k => S k ∨ k = w.heap.size) (.inr rfl) (xs ++ news) hlen xs.toArray news.toArray (by simp) none
          exact ⟨_, _, _, hr, Own.of_has hgr.1, hfr _⟩
theorem wp_append_mine {o : Oper} {a : Act} {K : Act → World → Prop} {Q : Exit → Act → World → Prop} (s x : Operand) (t : TypeId)
    (ho : o.op = .call { callee := .builtin .append, args := #[s, x], argTypes := #[t, t] })
    (S : Nat → Prop) (e : TypeId) (i : TypeInfo) (z : Value) (size bytes : Nat) (ht : P.underlying t = some (.slice e)) (hi : P.info? e = some i) (hz : i.zero = some z)
    (hsize : i.size = size) (hby : i.bytes = bytes) (hzs : z.cells.size = size) (v : Value) (n : Nat) (xs : List Value) (hs : a.eval s = v) (hown : Own w S e size v n xs) (a0 : Option Addr) (m c : Nat) (news : List Value) (hx : a.eval x = .slice a0 m c) (hl : news.length = m * size) (ha : a0 = none → m = 0) (hnews : ∀ ad, a0 = some ad → ∀ j u, news[j]? = some u → w.cell? (ad.add j) = some u)
    (h1 : ∀ u ∈ news, u.oneCell' = true) (h63 : n + m ≤ maxLen) (hbytes : ((n + m) + (n + m) / 4 + 192) * bytes ≤ 281474976710656)
    (h : ∀ b' cap' w', Own w' (fun k => S k ∨ k = w.heap.size) e size (.slice b' (n + m) cap') (n + m) (xs ++ news) → Fr w w' S → K (a.put o.dst (.slice b' (n + m) cap')) w') : o.wp P a w K Q := by
  obtain ⟨b', cap', w', hr, h2, h3⟩ := run_append_mine (P := P) w S t o.type e i z size bytes ht hi hz hsize hby hzs v n xs hown a0 m c news hl ha hnews h1 h63 hbytes
  unfold Oper.wp execOp
  simp only [ho, resolve, invoke, builtin, Sem.run_bind, Sem.run_pure, Result.andThen_ok, List.map_toArray, List.map_cons, List.map_nil, hs, hx, hr]
  exact h b' cap' w' h2 h3
theorem wpList_append_mine {ops : Array Oper} {rest : List Oper} {o : Oper} {a : Act} {Q : Exit → Act → World → Prop} (hgd : o.guard = none) (s x : Operand) (t : TypeId)
    (ho : o.op = .call { callee := .builtin .append, args := #[s, x], argTypes := #[t, t] })
    (S : Nat → Prop) (e : TypeId) (i : TypeInfo) (z : Value) (size bytes : Nat) (ht : P.underlying t = some (.slice e)) (hi : P.info? e = some i) (hz : i.zero = some z)
    (hsize : i.size = size) (hby : i.bytes = bytes) (hzs : z.cells.size = size) (v : Value) (n : Nat) (xs : List Value) (hs : a.eval s = v) (hown : Own w S e size v n xs) (a0 : Option Addr) (m c : Nat) (news : List Value) (hx : a.eval x = .slice a0 m c) (hl : news.length = m * size) (ha : a0 = none → m = 0) (hnews : ∀ ad, a0 = some ad → ∀ j u, news[j]? = some u → w.cell? (ad.add j) = some u)
    (h1 : ∀ u ∈ news, u.oneCell' = true) (h63 : n + m ≤ maxLen) (hbytes : ((n + m) + (n + m) / 4 + 192) * bytes ≤ 281474976710656)
    (h : ∀ b' cap' w', Own w' (fun k => S k ∨ k = w.heap.size) e size (.slice b' (n + m) cap') (n + m) (xs ++ news) → Fr w w' S → wpList P ops Q rest (a.put o.dst (.slice b' (n + m) cap')) w') : wpList P ops Q (o :: rest) a w :=
  wpList_plain hgd fun _ hK => wp_append_mine w s x t ho S e i z size bytes ht hi hz hsize hby hzs v n xs hs hown a0 m c news hx hl ha hnews h1 h63 hbytes fun b' cap' w' h2 h3 => hK _ _ (h b' cap' w' h2 h3)
theorem step_append_mine {ops : Array Oper} {o : Oper} {a : Act} {K : Act → World → Prop} {Q : Exit → Act → World → Prop} {E : Prop} (hgd : o.guard = none) (s x : Operand) (t : TypeId)
    (ho : o.op = .call { callee := .builtin .append, args := #[s, x], argTypes := #[t, t] })
    (S : Nat → Prop) (e : TypeId) (i : TypeInfo) (z : Value) (size bytes : Nat) (ht : P.underlying t = some (.slice e)) (hi : P.info? e = some i) (hz : i.zero = some z)
    (hsize : i.size = size) (hby : i.bytes = bytes) (hzs : z.cells.size = size) (v : Value) (n : Nat) (xs : List Value) (hs : a.eval s = v) (hown : Own w S e size v n xs) (a0 : Option Addr) (m c : Nat) (news : List Value) (hx : a.eval x = .slice a0 m c) (hl : news.length = m * size) (ha : a0 = none → m = 0) (hnews : ∀ ad, a0 = some ad → ∀ j u, news[j]? = some u → w.cell? (ad.add j) = some u)
    (h1 : ∀ u ∈ news, u.oneCell' = true) (h63 : n + m ≤ maxLen) (hbytes : ((n + m) + (n + m) / 4 + 192) * bytes ≤ 281474976710656)
    (h : ∀ b' cap' w', Own w' (fun k => S k ∨ k = w.heap.size) e size (.slice b' (n + m) cap') (n + m) (xs ++ news) → Fr w w' S → K (a.put o.dst (.slice b' (n + m) cap')) w') :
    if Region.wanted o (yielded ops a.tmps) = true then Oper.wp P o a w K Q else E := by
  have hw : Region.wanted o (yielded ops a.tmps) = true := by simp [Region.wanted, hgd]
  rw [if_pos hw]
  exact wp_append_mine w s x t ho S e i z size bytes ht hi hz hsize hby hzs v n xs hs hown a0 m c news hx hl ha hnews h1 h63 hbytes h
/-- copy into a row, whatever the elements' size. -/
theorem run_copy_at (dT sT ty e e' : TypeId) (i : TypeInfo) (hu : P.underlying dT = some (.slice e)) (hi : P.info? e = some i) (g o dLen dCap : Nat) (a : Addr) (sLen sCap : Nat) (cur : Array Value) (cs : List Value)
    (hg : w.heap[g]? = some (.cells cur e' (0, 0))) (hn : cs.length = Nat.min sLen dLen * i.size) (hsrc : ∀ j v, cs[j]? = some v → w.cell? (a.add j) = some v) (hfit : o + cs.length ≤ cur.size) (h1 : ∀ v ∈ cs, v.oneCell' = true) :
    (Builtin.copy_ #[dT, sT] ty #[.slice (some ⟨g, o, none⟩) dLen dCap, .slice (some a) sLen sCap]).run P w =
      .ok (goInt (Nat.min sLen dLen)) (w.setRow g (cur.toList.take o ++ cs ++ cur.toList.drop (o + cs.length)).toArray) := by
  have hl := run_loadCells_list (P := P) w a cs hsrc
  have hst := run_storeCells_at P g o e' cs 0 cur w hg (by simpa using hfit) h1
  simp [Builtin.copy_, run_underlying hu, Builtin.lenOf, Builtin.firstCells, sizeOf, typeInfo, hi, ← hn, hl, hst]
/-- clear of a piece of a row, whatever the elements' size. -/
theorem run_clear_at (t e e' ty : TypeId) (z : Value) (ht : P.underlying t = some (.slice e)) (hv : ∀ w, (zeroValue e).run P w = .ok z w) (g o n c : Nat) (hn : 0 < n) (cur : Array Value) (zs : List Value) (hz : (Builtin.zeroCells z.cells n).toList = zs)
    (hg : w.heap[g]? = some (.cells cur e' (0, 0))) (hfit : o + zs.length ≤ cur.size) (h1 : ∀ v ∈ zs, v.oneCell' = true) :
    (Builtin.clear_ #[t] ty #[.slice (some ⟨g, o, none⟩) n c]).run P w = .ok (.tuple #[]) (w.setRow g (cur.toList.take o ++ zs ++ cur.toList.drop (o + zs.length)).toArray) := by
  have hst := run_storeCells_at P g o e' zs 0 cur w hg (by simpa using hfit) h1
  simp only [Nat.add_zero] at hst
  obtain ⟨m, rfl⟩ : ∃ m, n = m + 1 := ⟨n - 1, by omega⟩
  simp [Builtin.clear_, run_underlying ht, hv, hz, hst]
end
end Go.Proofs.Ytegbcocbopgghab.Md
/-
  Package model: cmp.Compare, rising, byKey, May by their contracts.
-/
namespace Go.Proofs.Ytegbcocbopgghab.Md
open Go.RowKit Mr
set_option linter.unusedVariables false
set_option linter.unusedSimpArgs false
/-- What cmp.Compare tells. -/
def cmpI (x y : Int) : Int := if x < y then -1 else if y < x then 1 else 0
theorem cmpI_lt {x y : Int} (h : x < y) : cmpI x y = -1 := if_pos h
theorem cmpI_gt {x y : Int} (h : y < x) : cmpI x y = 1 := by unfold cmpI; rw [if_neg (by omega), if_pos h]
theorem cmpI_eq (x : Int) : cmpI x x = 0 := by unfold cmpI; rw [if_neg (by omega), if_neg (by omega)]
theorem cmpI_neg (x y : Int) : decide (cmpI x y < 0) = decide (x < y) := by
  rcases Int.lt_trichotomy x y with h | rfl | h
  · rw [cmpI_lt h]; simp [h]
  · rw [cmpI_eq]; simp
  · rw [cmpI_gt h]; simp; omega
theorem cmpI_pos (x y : Int) : decide (0 ≤ cmpI x y) = decide (y ≤ x) := by
  rcases Int.lt_trichotomy x y with h | rfl | h
  · rw [cmpI_lt h]; simp; omega
  · rw [cmpI_eq]; simp
  · rw [cmpI_gt h]; simp; omega
theorem cmpI_zero (x y : Int) : (cmpI x y == 0) = (x == y) := by
  rcases Int.lt_trichotomy x y with h | rfl | h
  · rw [cmpI_lt h]; simp; omega
  · rw [cmpI_eq]; simp
  · rw [cmpI_gt h]; simp; omega
set_option maxHeartbeats 1000000 in
theorem compare_any (x y : Int) (w : World) : Calls Try.prog 34 #[.int .i64 x, .int .i64 y] w fun e w' => e = .returned (.int .i64 (cmpI x y)) ∧ w' = w := by
  rcases Int.lt_trichotomy x y with h | rfl | h
  · rw [cmpI_lt h]
    go_enter Try.func34, Try.ntmps34
    go_wp2
    go_ret
    exact ⟨rfl, rfl⟩
  · rw [cmpI_eq]
    go_enter Try.func34, Try.ntmps34
    go_wp2
    go_ret
    exact ⟨rfl, rfl⟩
  · rw [cmpI_gt h]
    have h' : ¬ x < y := by omega
    go_enter Try.func34, Try.ntmps34
    go_wp2
    go_ret
    exact ⟨rfl, rfl⟩
set_option maxHeartbeats 1000000 in
theorem byKey_any (a1 a2 b1 b2 : Int) (w : World) : Calls Try.prog 36 #[.agg #[.int .i64 a1, .int .i64 a2], .agg #[.int .i64 b1, .int .i64 b2]] w fun e w' => e = .returned (.int .i64 (cmpI a1 b1)) ∧ Below w.heap.size w w' := by
  go_enter Try.func36, Try.ntmps36
  go_wp2_with (go_at_call 34; refine (compare_any _ _ _).mono ?_; rintro e w' ⟨rfl, rfl⟩)
  go_ret
  exact ⟨rfl, ((Below.refl _ _).alloc (Nat.le_refl _) _).alloc (by simp) _⟩
/-- The value of a function that is named. -/
theorem ris_iff {l : List Int} (b : Bool) (hb : b = true ↔ Ris l) {i : Nat} (hi : i + 1 < l.length) (h : ¬ l[i]?.getD 0 < l[i + 1]?.getD 0) : b = false := by
  cases hbb : b with
  | false => rfl
  | true => exact absurd (hb.1 hbb i hi) h
set_option maxRecDepth 100000 in
set_option maxHeartbeats 4000000 in
theorem risingI_any {w : World} {S : Nat → Prop} {u : Value} {l : List Int} (hu : Sl w S 1 u l.length (ints l)) (hsm : l.length * 8 ≤ 281474976710656) (b : Bool) (hb : b = true ↔ Ris l) :
    Calls Try.prog 33 #[u, .func (.func 34) #[] #[]] w fun e w' => e = .returned (.bool b) ∧ Below w.heap.size w w' := by
  obtain ⟨au, cu, rfl, hcu⟩ := hu.form
  obtain ⟨n, hn⟩ : ∃ n, n = l.length := ⟨_, rfl⟩
  rw [← hn] at hu hsm hcu ⊢
  replace hn := Mr.hid hn
  replace hu := Mr.hid hu
  replace hb := Mr.hid hb
  go_enter Try.func33, Try.ntmps33
  go_wp2
  go_loopg [5] n (fun k s wr => ∃ i : Nat, s = .int .i64 ((i : Int) + 1) ∧ i + k = n ∧ Below w.heap.size w wr ∧ ∀ j, j + 1 < i + 1 → l[j]?.getD 0 < l[j + 1]?.getD 0)
  case atStart => exact ⟨0, rfl, by omega, Below.refl _ _, fun j hj => by omega⟩
  case round =>
    obtain ⟨i, rfl, hi, B, ht⟩ := hrel
    by_cases hlt : i + 1 < n
    · obtain ⟨gu, ou, cu', hgu, _, _, hul, ru⟩ := (hu.out.below B).there (by omega)
      cases hgu
      have k1 := ru (i + 1) _ (ints_get l (i + 1) (by have := hn.out; omega))
      have k2 := ru i _ (ints_get l i (by have := hn.out; omega))
      have hli : ((i : Int) + 1) < (n : Int) := by omega
      have ewr : IntKind.i64.wrap ((i : Int) + 1 - 1) = (i : Int) := by rw [show (i : Int) + 1 - 1 = (i : Int) from by omega]; exact i64w _ (by omega) (by omega)
      have e1 : ((i : Int) + 1).toNat = i + 1 := by omega
      by_cases hq : l[i]?.getD 0 < l[i + 1]?.getD 0
      · have st := ris_step (l := l) (i := i + 1) ht (by omega) (by simpa using hq)
        generalize l[i]?.getD 0 = q1 at *
        generalize l[i + 1]?.getD 0 = q2 at *
        have C := fun w => compare_any q1 q2 w
        rw [cmpI_lt hq] at C
        clear ru ht hq
        replace st := Mr.hid st
        replace B := Mr.hid B
        replace C := Mr.hid C
        go_wp2
        go_quiet ((go_at_call 34; exact Calls.quiet_of_same (C.out _)))
        have hBq := Bx.draws w.heap.size wr nq
        have hB := B.out.trans hBq
        clear hBq k1 k2 hul B C
        generalize wr.drewN nq = W6 at *
        replace hB := Mr.hid hB
        go_wp2
        go_roundg (gk - 1)
        case measure => omega
        case rel => exact ⟨i + 1, by simp, by omega, hB.out, st.out⟩
      · have hbf := ris_iff b hb.out (i := i) (by have := hn.out; omega) hq
        subst hbf
        generalize l[i]?.getD 0 = q1 at *
        generalize l[i + 1]?.getD 0 = q2 at *
        have C := fun w => compare_any q1 q2 w
        have hq2 := cmpI_pos q1 q2
        rw [decide_eq_true (show q2 ≤ q1 by omega)] at hq2
        generalize cmpI q1 q2 = r at *
        have hq3 : 0 ≤ r := of_decide_eq_true hq2
        clear ru ht hq
        replace B := Mr.hid B
        replace C := Mr.hid C
        go_wp2
        go_quiet ((go_at_call 34; exact Calls.quiet_of_same (C.out _)))
        have hBq := Bx.draws w.heap.size wr nq
        have hB := B.out.trans hBq
        clear hBq k1 k2 hul B C
        generalize wr.drewN nq = W6 at *
        replace hB := Mr.hid hB
        go_wp2
        go_ret
        exact ⟨rfl, hB.out⟩
    · have hbt : b = true := hb.out.2 (fun j hj => ht j (by have := hn.out; omega))
      subst hbt
      have dl : decide (((i : Int) + 1) < (n : Int)) = false := decide_eq_false (by omega)
      clear ht
      replace B := Mr.hid B
      go_wp2
      go_ret
      exact ⟨rfl, B.out⟩
set_option maxRecDepth 100000 in
set_option maxHeartbeats 4000000 in
theorem risingP_any {w : World} {S : Nat → Prop} {u : Value} {t : List (Int × Int)} (hu : Sl w S 2 u t.length (prs t)) (hsm : t.length * 16 ≤ 281474976710656) (b : Bool) (hb : b = true ↔ Ris (t.map Prod.fst)) :
    Calls Try.prog 35 #[u, .func (.func 36) #[] #[]] w fun e w' => e = .returned (.bool b) ∧ Below w.heap.size w w' := by
  obtain ⟨au, cu, rfl, hcu⟩ := hu.form
  obtain ⟨n, hn⟩ : ∃ n, n = t.length := ⟨_, rfl⟩
  rw [← hn] at hu hsm hcu ⊢
  obtain ⟨l, hl⟩ : ∃ l, l = t.map Prod.fst := ⟨_, rfl⟩
  rw [← hl] at hb
  have hll : l.length = n := by rw [hl, List.length_map]; exact hn.symm
  have hkey : ∀ i : Nat, (l[i]?.getD 0 : Int) = (t[i]?.getD (0, 0)).1 := fun i => by rw [hl]; exact key_get t i
  clear hl
  replace hkey := Mr.hid hkey
  replace hll := Mr.hid hll
  replace hn := Mr.hid hn
  replace hu := Mr.hid hu
  replace hb := Mr.hid hb
  go_enter Try.func35, Try.ntmps35
  go_wp2
  go_loopg [5] n (fun k s wr => ∃ i : Nat, s = .int .i64 ((i : Int) + 1) ∧ i + k = n ∧ Below w.heap.size w wr ∧ ∀ j, j + 1 < i + 1 → l[j]?.getD 0 < l[j + 1]?.getD 0)
  case atStart => exact ⟨0, rfl, by omega, Below.refl _ _, fun j hj => by omega⟩
  case round =>
    obtain ⟨i, rfl, hi, B, ht⟩ := hrel
    by_cases hlt : i + 1 < n
    · obtain ⟨gu, ou, cu', hgu, _, _, hul, ru⟩ := (hu.out.below B).there (by omega)
      cases hgu
      have k1 := ru _ _ (prs_get t (i + 1) (by have := hn.out; omega)).1
      have k2 := ru _ _ (prs_get t i (by have := hn.out; omega)).1
      have k3 := ru _ _ (prs_get t (i + 1) (by have := hn.out; omega)).2
      have k4 := ru _ _ (prs_get t i (by have := hn.out; omega)).2
      rw [← hkey.out] at k1 k2
      rw [← Nat.add_assoc] at k3 k4
      generalize (t[i + 1]?.getD (0, 0)).2 = r2 at *
      generalize (t[i]?.getD (0, 0)).2 = r1 at *
      have hli : ((i : Int) + 1) < (n : Int) := by omega
      have ewr : IntKind.i64.wrap ((i : Int) + 1 - 1) = (i : Int) := by rw [show (i : Int) + 1 - 1 = (i : Int) from by omega]; exact i64w _ (by omega) (by omega)
      have e1 : ((i : Int) + 1).toNat = i + 1 := by omega
      have ew2 : IntKind.i64.wrap (i : Int) = (i : Int) := i64w _ (by omega) (by omega)
      have q0 : (0 : Int) ≤ (i : Int) := by omega
      have q3 : (i : Int) < (n : Int) := by omega
      have q4 : (0 : Int) ≤ (i : Int) + 1 := by omega
      by_cases hq : l[i]?.getD 0 < l[i + 1]?.getD 0
      · have st := ris_step (l := l) (i := i + 1) ht (by omega) (by simpa using hq)
        generalize l[i]?.getD 0 = q1 at *
        generalize l[i + 1]?.getD 0 = q2 at *
        have C := fun w => byKey_any q1 r1 q2 r2 w
        rw [cmpI_lt hq] at C
        clear ru ht hq
        replace st := Mr.hid st
        replace B := Mr.hid B
        replace C := Mr.hid C
        go_wp2
        have KK : Hid (∀ w', Below wr.heap.size wr w' → w'.cell? ⟨gu, ou + (i + 1) * 2, none⟩ = some (.int .i64 q2) ∧ w'.cell? ⟨gu, ou + i * 2, none⟩ = some (.int .i64 q1) ∧ w'.cell? ⟨gu, ou + (i + 1) * 2 + 1, none⟩ = some (.int .i64 r2) ∧ w'.cell? ⟨gu, ou + i * 2 + 1, none⟩ = some (.int .i64 r1)) := fun w' hB => ⟨(hB.cell (p := ⟨gu, _, none⟩) hul).trans k1, (hB.cell (p := ⟨gu, _, none⟩) hul).trans k2, (hB.cell (p := ⟨gu, _, none⟩) hul).trans k3, (hB.cell (p := ⟨gu, _, none⟩) hul).trans k4⟩
        go_region_held3 (fun w' => w'.cell? ⟨gu, ou + (i + 1) * 2, none⟩ = some (.int .i64 q2) ∧ w'.cell? ⟨gu, ou + i * 2, none⟩ = some (.int .i64 q1) ∧ w'.cell? ⟨gu, ou + (i + 1) * 2 + 1, none⟩ = some (.int .i64 r2) ∧ w'.cell? ⟨gu, ou + i * 2 + 1, none⟩ = some (.int .i64 r1)) (first | exact KK.out _ (by assumption) | go_keep) (first | (go_at_call 36; refine (C.out _).mono ?_; rintro e w6 ⟨rfl, hB6⟩; replace hB6 : Below wr.heap.size wr w6 := ⟨hB6.os, hB6.tape, hB6.output, hB6.size, hB6.block⟩))
        have hB := B.out.trans (hB6.mono B.out.size)
        clear k1 k2 k3 k4 hul B C KK hB6
        replace hB := Mr.hid hB
        go_wp2
        go_roundg (gk - 1)
        case measure => omega
        case rel => exact ⟨i + 1, by simp, by omega, hB.out, st.out⟩
      · have hbf := ris_iff b hb.out (i := i) (by have := hll.out; omega) hq
        subst hbf
        generalize l[i]?.getD 0 = q1 at *
        generalize l[i + 1]?.getD 0 = q2 at *
        have C := fun w => byKey_any q1 r1 q2 r2 w
        have hq2 := cmpI_pos q1 q2
        rw [decide_eq_true (show q2 ≤ q1 by omega)] at hq2
        generalize cmpI q1 q2 = r at *
        have hq3 : 0 ≤ r := of_decide_eq_true hq2
        clear ru ht hq
        replace B := Mr.hid B
        replace C := Mr.hid C
        go_wp2
        have KK : Hid (∀ w', Below wr.heap.size wr w' → w'.cell? ⟨gu, ou + (i + 1) * 2, none⟩ = some (.int .i64 q2) ∧ w'.cell? ⟨gu, ou + i * 2, none⟩ = some (.int .i64 q1) ∧ w'.cell? ⟨gu, ou + (i + 1) * 2 + 1, none⟩ = some (.int .i64 r2) ∧ w'.cell? ⟨gu, ou + i * 2 + 1, none⟩ = some (.int .i64 r1)) := fun w' hB => ⟨(hB.cell (p := ⟨gu, _, none⟩) hul).trans k1, (hB.cell (p := ⟨gu, _, none⟩) hul).trans k2, (hB.cell (p := ⟨gu, _, none⟩) hul).trans k3, (hB.cell (p := ⟨gu, _, none⟩) hul).trans k4⟩
        go_region_held3 (fun w' => w'.cell? ⟨gu, ou + (i + 1) * 2, none⟩ = some (.int .i64 q2) ∧ w'.cell? ⟨gu, ou + i * 2, none⟩ = some (.int .i64 q1) ∧ w'.cell? ⟨gu, ou + (i + 1) * 2 + 1, none⟩ = some (.int .i64 r2) ∧ w'.cell? ⟨gu, ou + i * 2 + 1, none⟩ = some (.int .i64 r1)) (first | exact KK.out _ (by assumption) | go_keep) (first | (go_at_call 36; refine (C.out _).mono ?_; rintro e w6 ⟨rfl, hB6⟩; replace hB6 : Below wr.heap.size wr w6 := ⟨hB6.os, hB6.tape, hB6.output, hB6.size, hB6.block⟩))
        have hB := B.out.trans (hB6.mono B.out.size)
        clear k1 k2 k3 k4 hul B C KK hB6
        replace hB := Mr.hid hB
        go_wp2
        go_ret
        exact ⟨rfl, hB.out⟩
    · have hbt : b = true := hb.out.2 (fun j hj => ht j (by have := hll.out; omega))
      subst hbt
      have dl : decide (((i : Int) + 1) < (n : Int)) = false := decide_eq_false (by omega)
      clear ht
      replace B := Mr.hid B
      go_wp2
      go_ret
      exact ⟨rfl, B.out⟩
set_option maxRecDepth 100000 in
set_option maxHeartbeats 8000000 in
theorem mMay_any {W : World} {S : Nat → Prop} {u0 u1 u2 u3 u4 : Value} {x : Ct} (hu : CtAt W S u0 u1 u2 u3 u4 x) (hsx : CtSm x) (b : Bool) (hb : b = true ↔ May x) :
    Calls Try.prog 13 #[.agg #[u0, u1, u2, u3, u4]] W fun e w' => e = .returned (.bool b) ∧ Below W.heap.size W w' := by
  obtain ⟨a0, c0, rfl, _⟩ := hu.cell.form
  obtain ⟨a1, c1, rfl, _⟩ := hu.stack.form
  obtain ⟨a2, c2, rfl, _⟩ := hu.queue.form
  obtain ⟨a3, c3, rfl, _⟩ := hu.set.form
  obtain ⟨a4, c4, rfl, _⟩ := hu.table.form
  have BX := fun w' (hB : Below (W.heap.size + 1) (W.alloc (ctO (.slice a0 x.cell.length c0) (.slice a1 x.stack.length c1) (.slice a2 x.queue.length c2) (.slice a3 x.set.length c3) (.slice a4 x.table.length c4))) w') => ctO_cells ((hB.block _ (by omega)).trans (new_at W _ _ rfl))
  have TW := fun w' (hB : Below (W.heap.size + 1) (W.alloc (ctO (.slice a0 x.cell.length c0) (.slice a1 x.stack.length c1) (.slice a2 x.queue.length c2) (.slice a3 x.set.length c3) (.slice a4 x.table.length c4))) w') => (((Below.refl W.heap.size W).alloc (Nat.le_refl _) _).trans (hB.mono (by omega)) : Below W.heap.size W w')
  have hB0 := Below.refl (W.heap.size + 1) (W.alloc (ctO (.slice a0 x.cell.length c0) (.slice a1 x.stack.length c1) (.slice a2 x.queue.length c2) (.slice a3 x.set.length c3) (.slice a4 x.table.length c4)))
  obtain ⟨y0, y1, y2, y3, y4, y5⟩ := BX _ hB0
  obtain ⟨b3, hb3⟩ : ∃ b3 : Bool, b3 = true ↔ Ris x.set := by
    by_cases h : Ris x.set
    · exact ⟨true, by simp [h]⟩
    · exact ⟨false, by simp [h]⟩
  obtain ⟨b4, hb4⟩ : ∃ b4 : Bool, b4 = true ↔ Ris (x.table.map Prod.fst) := by
    by_cases h : Ris (x.table.map Prod.fst)
    · exact ⟨true, by simp [h]⟩
    · exact ⟨false, by simp [h]⟩
  have C3 := fun w' (hB : Below W.heap.size W w') => risingI_any (hu.below hB).set hsx.set b3 hb3
  have C4 := fun w' (hB : Below W.heap.size W w') => risingP_any (hu.below hB).table hsx.table b4 hb4
  have hb' : b = (decide (x.cell.length ≤ 1) && b3 && b4) := by
    rw [Bool.eq_iff_iff, hb]
    unfold May
    rw [← hb3, ← hb4]
    simp [and_assoc]
  subst hb'
  clear hb hb3 hb4 hu
  generalize x.cell.length = n0 at *
  generalize x.stack.length = n1 at *
  generalize x.queue.length = n2 at *
  generalize x.set.length = n3 at *
  generalize x.table.length = n4 at *
  unfold ctO at y0 y1 y2 y3 y4 BX TW hB0
  replace BX := Mr.hid BX
  replace TW := Mr.hid TW
  replace C3 := Mr.hid C3
  replace C4 := Mr.hid C4
  replace hB0 := Mr.hid hB0
  clear hsx
  by_cases h0 : n0 ≤ 1
  · have d0 : decide ((n0 : Int) ≤ 1) = true := decide_eq_true (by omega)
    have d1 : decide (n0 ≤ 1) = true := decide_eq_true h0
    rw [d1]
    cases b3 with
    | false =>
      go_enter Try.func13, Try.ntmps13
      go_wp2_with (first | (go_at_call 33; refine (C3.out _ (TW.out _ hB0.out)).mono ?_; rintro e w1 ⟨rfl, hB1⟩; replace hB1 := Mr.hid (hB0.out.trans (hB1.mono (by simp))); clear y0 y1 y2 y3 y4 y5; obtain ⟨y0, y1, y2, y3, y4, y5⟩ := BX.out _ hB1.out) | (go_at_call 35; refine (C4.out _ (TW.out _ hB1.out)).mono ?_; rintro e w2 ⟨rfl, hB2⟩; replace hB2 := Mr.hid (hB1.out.trans (hB2.mono (by omega)))))
      go_ret
      exact ⟨rfl, TW.out _ hB1.out⟩
    | true =>
      go_enter Try.func13, Try.ntmps13
      go_wp2_with (first | (go_at_call 33; refine (C3.out _ (TW.out _ hB0.out)).mono ?_; rintro e w1 ⟨rfl, hB1⟩; replace hB1 := Mr.hid (hB0.out.trans (hB1.mono (by simp))); clear y0 y1 y2 y3 y4 y5; obtain ⟨y0, y1, y2, y3, y4, y5⟩ := BX.out _ hB1.out) | (go_at_call 35; refine (C4.out _ (TW.out _ hB1.out)).mono ?_; rintro e w2 ⟨rfl, hB2⟩; replace hB2 := Mr.hid (hB1.out.trans (hB2.mono (by omega)))))
      go_ret
      exact ⟨by simp, TW.out _ hB2.out⟩
  · have d0 : decide ((n0 : Int) ≤ 1) = false := decide_eq_false (by omega)
    have d1 : decide (n0 ≤ 1) = false := decide_eq_false h0
    rw [d1]
    go_enter Try.func13, Try.ntmps13
    go_wp2
    go_ret
    exact ⟨rfl, TW.out _ hB0.out⟩
end Go.Proofs.Ytegbcocbopgghab.Md
