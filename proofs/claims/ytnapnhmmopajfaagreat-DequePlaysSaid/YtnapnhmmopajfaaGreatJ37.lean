import Derived.Test.YtnapnhmmopajfaaGreatJ01
import Derived.Test.YtnapnhmmopajfaaGreatChecked
import Derived.WalkSpells
import Derived.Laws.CopyRow
import Derived.Lib.SliceRun
/-
  ROWS as they may be read, wherever they begin; contents.
-/
namespace Go.Proofs.YtnapnhmmopajfaaGreat.Md
open Go.RowKit Mr
/-- v reads as xs, n elements of size cells each; its block is among T. -/
def Sl (W : World) (T : Nat → Prop) (size : Nat) (v : Value) (n : Nat) (xs : List Value) : Prop :=
  xs.length = n * size ∧ ∃ a cap, v = .slice a n cap ∧ n ≤ cap ∧ (n = 0 ∨ ∃ b o, a = some ⟨b, o, none⟩ ∧ T b ∧ b < W.heap.size ∧ ∀ j u, xs[j]? = some u → W.cell? ⟨b, o + j, none⟩ = some u)
section
variable {W W' : World} {T T' S : Nat → Prop} {size n : Nat} {v : Value} {xs : List Value} {e : TypeId}
theorem Sl.mono (h : Sl W T size v n xs) (hT : ∀ k, T k → T' k) : Sl W T' size v n xs := by
  obtain ⟨h1, a, cap, hv, hc, h2⟩ := h
  refine ⟨h1, a, cap, hv, hc, h2.imp id ?_⟩
  rintro ⟨b, o, ha, hb, hl, hr⟩
  exact ⟨b, o, ha, hT b hb, hl, hr⟩
theorem Sl.fr (h : Sl W T size v n xs) (hf : Fr W W' S) (hd : ∀ k, T k → k < W.heap.size → ¬ S k) : Sl W' T size v n xs := by
  obtain ⟨h1, a, cap, hv, hc, h2⟩ := h
  refine ⟨h1, a, cap, hv, hc, h2.imp id ?_⟩
  rintro ⟨b, o, ha, hb, hl, hr⟩
  refine ⟨b, o, ha, hb, Nat.lt_of_lt_of_le hl hf.size, fun j u hu => ?_⟩
  rw [← hr j u hu]
  have := hf.block b hl (hd b hb hl)
  simp [World.cell?, this]
theorem Sl.below (h : Sl W T size v n xs) (hB : Below W.heap.size W W') : Sl W' T size v n xs := h.fr (S := fun _ => False) (Fr.of_below hB) (fun _ _ _ e => e)
theorem Sl.form (h : Sl W T size v n xs) : ∃ a cap, v = .slice a n cap ∧ n ≤ cap := by obtain ⟨_, a, cap, hv, hc, _⟩ := h; exact ⟨a, cap, hv, hc⟩
theorem Sl.there (h : Sl W T size v n xs) (hn : 0 < n) : ∃ b o cap, v = .slice (some ⟨b, o, none⟩) n cap ∧ n ≤ cap ∧ T b ∧ b < W.heap.size ∧ ∀ j u, xs[j]? = some u → W.cell? ⟨b, o + j, none⟩ = some u := by
  obtain ⟨_, a, cap, hv, hc, h2 | ⟨b, o, rfl, hb, hl, hr⟩⟩ := h
  · omega
  · exact ⟨b, o, cap, hv, hc, hb, hl, hr⟩
theorem Sl.nil (W : World) (T : Nat → Prop) (size : Nat) : Sl W T size (.slice none 0 0) 0 [] := ⟨by simp, none, 0, rfl, Nat.le_refl _, .inl rfl⟩
theorem Sl.of_has (h : Has W S e size v n xs) : Sl W S size v n xs := by
  refine ⟨h.1, ?_⟩
  rcases h.2 with ⟨rfl, rfl⟩ | ⟨g, cap, cur, rfl, hS, hg, hc, _⟩
  · exact ⟨none, 0, rfl, Nat.le_refl _, .inl rfl⟩
  · refine ⟨_, cap, rfl, hc, .inr ⟨g, 0, rfl, hS, (Array.getElem?_eq_some_iff.1 hg).1, fun j u hu => ?_⟩⟩
    rw [Nat.zero_add]
    exact h.cells (g := g) rfl j u hu
end
theorem add1 (b o j : Nat) : (⟨b, o, none⟩ : Addr).add j = ⟨b, o + j, none⟩ := by unfold Addr.add; split <;> simp_all
def ints (l : List Int) : List Value := l.map (Value.int .i64)
def pr (x : Int × Int) : List Value := [.int .i64 x.1, .int .i64 x.2]
def prs (l : List (Int × Int)) : List Value := l.flatMap pr
theorem ints_get (l : List Int) (i : Nat) (h : i < l.length) : (ints l)[i]? = some (.int .i64 (l[i]?.getD 0)) := by simp [ints, h]
theorem prs_get (l : List (Int × Int)) (i : Nat) (h : i < l.length) : (prs l)[i * 2]? = some (.int .i64 (l[i]?.getD (0, 0)).1) ∧ (prs l)[i * 2 + 1]? = some (.int .i64 (l[i]?.getD (0, 0)).2) := by
  induction l generalizing i with
  | nil => simp at h
  | cons x l ih =>
    cases i with
    | zero => simp [prs, pr]
    | succ i =>
      have := ih i (by simpa using h)
      simp only [prs, List.flatMap_cons, pr] at this ⊢
      rw [show (i + 1) * 2 = i * 2 + 2 from by omega]
      simpa using this
theorem prs_length (l : List (Int × Int)) : (prs l).length = l.length * 2 := by
  induction l with
  | nil => rfl
  | cons x l ih => simp only [prs, List.flatMap_cons, List.length_append, pr] at ih ⊢; simp at ih ⊢; omega
end Go.Proofs.YtnapnhmmopajfaaGreat.Md
/-
  ROWS OF ONE's OWN, wherever they begin in their block, with their room behind them: append onto one, copy into one, clear of a piece of one.
-/
namespace Go.Proofs.YtnapnhmmopajfaaGreat.Md
open Go.RowKit Mr
set_option linter.unusedVariables false
/-- v has n elements of size cells each that hold xs; it has no room at all, or it leads into a block of S, and what is behind it up to its capacity is there. -/
def Own (W : World) (S : Nat → Prop) (e : TypeId) (size : Nat) (v : Value) (n : Nat) (xs : List Value) : Prop :=
  xs.length = n * size ∧ ∃ a cap, v = .slice a n cap ∧ n ≤ cap ∧ cap ≤ maxLen ∧ (cap = 0 ∨ ∃ g o cur, a = some ⟨g, o, none⟩ ∧ S g ∧ W.heap[g]? = some (.cells cur e (0, 0)) ∧ o + cap * size ≤ cur.size ∧ (cur.toList.drop o).take (n * size) = xs)
section
variable {W W' : World} {S T : Nat → Prop} {e : TypeId} {size n : Nat} {v : Value} {xs : List Value}
theorem Own.kept (h : Own W S e size v n xs) (hb : ∀ k, S k → k < W.heap.size → W'.heap[k]? = W.heap[k]?) (hT : ∀ k, S k → T k) : Own W' T e size v n xs := by
  obtain ⟨h1, a, cap, hv, hc, hm, h2⟩ := h
  refine ⟨h1, a, cap, hv, hc, hm, h2.imp id ?_⟩
  rintro ⟨g, o, cur, ha, hS, hg, hs, hx⟩
  exact ⟨g, o, cur, ha, hT g hS, (hb g hS (Array.getElem?_eq_some_iff.1 hg).1).trans hg, hs, hx⟩
theorem Own.mono (h : Own W S e size v n xs) (hT : ∀ k, S k → T k) : Own W T e size v n xs := h.kept (fun _ _ _ => rfl) hT
theorem Own.fr (h : Own W S e size v n xs) (hf : Fr W W' T) (hd : ∀ k, S k → k < W.heap.size → ¬ T k) : Own W' S e size v n xs := h.kept (fun k hk hl => hf.block k hl (hd k hk hl)) (fun _ h => h)
theorem Own.below (h : Own W S e size v n xs) (hB : Below W.heap.size W W') : Own W' S e size v n xs := h.kept (fun k _ hl => hB.block k hl) (fun _ h => h)
theorem Own.of_has (h : Has W S e size v n xs) : Own W S e size v n xs := by
  refine ⟨h.1, ?_⟩
  rcases h.2 with ⟨rfl, rfl⟩ | ⟨g, cap, cur, rfl, hS, hg, hc, hm, hs, hx⟩
  · exact ⟨none, 0, rfl, Nat.le_refl _, Nat.zero_le _, .inl rfl⟩
  · exact ⟨_, cap, rfl, hc, hm, .inr ⟨g, 0, cur, rfl, hS, hg, by omega, by simpa using hx⟩⟩
theorem own_cells {W : World} {g o k : Nat} {cur : Array Value} {e : TypeId} {xs : List Value} (hg : W.heap[g]? = some (.cells cur e (0, 0))) (hx : (cur.toList.drop o).take k = xs) (j : Nat) (u : Value) (hu : xs[j]? = some u) : W.cell? ⟨g, o + j, none⟩ = some u := by
  rw [cell_of_row W g (o + j) cur e (0, 0) hg]
  rw [← hx, List.getElem?_take] at hu
  split at hu
  · rw [List.getElem?_drop] at hu
    simpa using hu
  · cases hu
theorem Own.sl (h : Own W S e size v n xs) : Sl W S size v n xs := by
  obtain ⟨h1, a, cap, hv, hc, hm, h2⟩ := h
  refine ⟨h1, a, cap, hv, hc, ?_⟩
  rcases h2 with rfl | ⟨g, o, cur, rfl, hS, hg, hs, hx⟩
  · exact .inl (by omega)
  · exact .inr ⟨g, o, rfl, hS, (Array.getElem?_eq_some_iff.1 hg).1, own_cells hg hx⟩
theorem Own.form (h : Own W S e size v n xs) : ∃ a cap, v = .slice a n cap ∧ n ≤ cap ∧ cap ≤ maxLen := by obtain ⟨_, a, cap, hv, hc, hm, _⟩ := h; exact ⟨a, cap, hv, hc, hm⟩
theorem Own.there (h : Own W S e size v n xs) (hn : 0 < n) : ∃ g o cap cur, v = .slice (some ⟨g, o, none⟩) n cap ∧ n ≤ cap ∧ cap ≤ maxLen ∧ S g ∧ W.heap[g]? = some (.cells cur e (0, 0)) ∧ o + cap * size ≤ cur.size ∧ (cur.toList.drop o).take (n * size) = xs := by
  obtain ⟨_, a, cap, hv, hc, hm, h2⟩ := h
  rcases h2 with rfl | ⟨g, o, cur, rfl, hS, hg, hs, hx⟩
  · omega
  · exact ⟨g, o, cap, cur, hv, hc, hm, hS, hg, hs, hx⟩
theorem Own.zero (W : World) (S : Nat → Prop) (e : TypeId) (size : Nat) (a : Option Addr) : Own W S e size (.slice a 0 0) 0 [] := ⟨by simp, a, 0, rfl, Nat.le_refl _, Nat.zero_le _, .inl rfl⟩
end
theorem seg_len (cur : List Value) (o k : Nat) (news : List Value) (h : o + k + news.length ≤ cur.length) : (cur.take (o + k) ++ news ++ cur.drop (o + k + news.length)).length = cur.length := by
  simp; omega
/-- What lies from o on behind a write at o + k. -/
theorem seg_put (cur : List Value) (o k : Nat) (news xs : List Value) (hx : (cur.drop o).take k = xs) (hl : xs.length = k) (h : o + k + news.length ≤ cur.length) :
    ((cur.take (o + k) ++ news ++ cur.drop (o + k + news.length)).drop o).take (k + news.length) = xs ++ news := by
  have e1 : cur.take (o + k) = cur.take o ++ xs := by rw [List.take_add, hx]
  have lo : (cur.take o).length = o := by rw [List.length_take]; omega
  rw [e1, List.append_assoc, List.append_assoc, List.drop_append_of_le_length (by omega), List.drop_of_length_le (by omega), List.nil_append, ← List.append_assoc, List.take_append_of_le_length (by simp; omega), List.take_of_length_le (by simp; omega)]
section
variable {P : Program} (w : World)
theorem run_append_at (t ty e e' : TypeId) (i : TypeInfo) (ht : P.underlying t = some (.slice e)) (hi : P.info? e = some i) (g o n cap : Nat) (cur : Array Value) (hg : w.heap[g]? = some (.cells cur e' (0, 0)))
    (a : Addr) (m c : Nat) (news : List Value) (hl : news.length = m * i.size) (hnews : ∀ j u, news[j]? = some u → w.cell? (a.add j) = some u) (h1 : ∀ u ∈ news, u.oneCell' = true) (hroom : n + m ≤ cap) (hfit : o + n * i.size + news.length ≤ cur.size) :
    (Builtin.append_ #[t, t] ty #[.slice (some ⟨g, o, none⟩) n cap, .slice (some a) m c]).run P w = .ok (.slice (some ⟨g, o, none⟩) (n + m) cap) (w.setRow g (cur.toList.take (o + n * i.size) ++ news ++ cur.toList.drop (o + n * i.size + news.length)).toArray) := by
  have hfc := run_firstCells_some (P := P) w i.size m a m c news hl hnews
  have hst := run_storeCells_at P g (o + n * i.size) e' news 0 cur w hg (by simpa using hfit) h1
  simp only [Nat.add_zero] at hst
  simp [Builtin.append_, run_underlying ht, sizeOf, typeInfo, hi, Builtin.lenOf, hroom, hfc, Addr.add_lit, hst]
theorem setRow_fr {w : World} {S : Nat → Prop} {g : Nat} (hS : S g) (cs : Array Value) : Fr w (w.setRow g cs) S := ⟨rfl, rfl, rfl, by simp, fun k _ hk => setRow_other w g k _ (fun e => hk (e ▸ hS))⟩
/-- append onto a row of one's own, from whatever source. -/
theorem run_append_mine (S : Nat → Prop) (t ty e : TypeId) (i : TypeInfo) (z : Value) (size bytes : Nat) (ht : P.underlying t = some (.slice e)) (hi : P.info? e = some i) (hz : i.zero = some z)
    (hsize : i.size = size) (hby : i.bytes = bytes) (hzs : z.cells.size = size) (v : Value) (n : Nat) (xs : List Value) (hown : Own w S e size v n xs) (a0 : Option Addr) (m c : Nat) (news : List Value) (hl : news.length = m * size) (ha : a0 = none → m = 0) (hnews : ∀ ad, a0 = some ad → ∀ j u, news[j]? = some u → w.cell? (ad.add j) = some u)
    (h1 : ∀ u ∈ news, u.oneCell' = true) (h63 : n + m ≤ maxLen) (hbytes : ((n + m) + (n + m) / 4 + 192) * bytes ≤ 281474976710656) :
    ∃ b' cap' w', (Builtin.append_ #[t, t] ty #[v, .slice a0 m c]).run P w = .ok (.slice b' (n + m) cap') w' ∧ Own w' (fun k => S k ∨ k = w.heap.size) e size (.slice b' (n + m) cap') (n + m) (xs ++ news) ∧ Fr w w' S := by
  subst hsize
  subst hby
  have hsmall : n + m ≤ 9223372036854775807 := by simp only [maxLen] at h63; omega
  by_cases hm : m = 0
  · subst hm
    have hn : news = [] := List.eq_nil_of_length_eq_zero (by simpa using hl)
    subst hn
    obtain ⟨b0, cap, rfl, hc, _⟩ := hown.form
    refine ⟨b0, cap, w, ?_, ?_, Fr.refl _ _⟩
    · cases b0 <;> cases a0 <;> simp [Builtin.append_, run_underlying ht, sizeOf, typeInfo, hi, Builtin.lenOf, Builtin.firstCells, loadCells, loadCellsFrom, hc, storeCells]
    · rw [List.append_nil]; exact hown.mono (fun _ => .inl)
  · cases a0 with
    | none => exact absurd (ha rfl) hm
    | some a =>
      have hnews := hnews a rfl
      have hlen : (xs ++ news).length = (n + m) * i.size := by rw [List.length_append, hown.1, hl, Nat.add_mul]
      have hfr : ∀ o, Fr w (w.drew.alloc o) S := fun o => (Fr.refl w S).drew.alloc o
      obtain ⟨hx1, b0, cap, rfl, hc, hcm, h2⟩ := hown
      rcases h2 with rfl | ⟨g, o, cur, rfl, hS, hg, hs, hx⟩
      · obtain rfl : n = 0 := by omega
        have hx : xs = [] := List.eq_nil_of_length_eq_zero (by simpa using hx1)
        subst hx
        have hgr := grown_has w e i.size z hzs (0 + m) 0 h63 (fun k => S k ∨ k = w.heap.size) (.inr rfl) ([] ++ news) hlen #[] news.toArray (by simp) none
        have hbz : Builtin.nextslicecap m 0 * i.bytes ≤ 281474976710656 := by rw [Nat.zero_add] at hbytes; exact growslice_fits_wide (by omega) hbytes
        cases b0 with
        | none =>
          have hr := run_append_nil (P := P) w t ty e i z ht hi hz a m c news hl hnews (by omega) (by omega) (by
            refine Nat.le_trans (Nat.mul_le_mul_right _ ?_) hbytes; omega)
          simp only [Nat.zero_add, List.nil_append, Array.empty_append] at hgr ⊢
          exact ⟨_, _, _, hr, Own.of_has hgr.1, hfr _⟩
        | some b =>
          have hr := run_append_grow (P := P) w t ty e i z ht hi hz b 0 0 [] (by simp) (fun j u hu => by simp at hu) a m c news hl hnews (by omega) (by omega) (by simpa using hbz)
          simp only [Nat.zero_add, List.nil_append] at hgr hr ⊢
          exact ⟨_, _, _, hr, Own.of_has hgr.1, hfr _⟩
      · by_cases hroom : n + m ≤ cap
        · have hmul : (n + m) * i.size ≤ cap * i.size := Nat.mul_le_mul_right _ hroom
          rw [Nat.add_mul] at hmul
          have hfit : o + n * i.size + news.length ≤ cur.size := by omega
          have hr := run_append_at (P := P) w t ty e e i ht hi g o n cap cur hg a m c news hl hnews h1 hroom hfit
          refine ⟨_, _, _, hr, ⟨hlen, _, cap, rfl, hroom, hcm, .inr ⟨g, o, _, rfl, .inl hS, setRow_heap w g cur _ e _ hg, ?_, ?_⟩⟩, setRow_fr hS _⟩
          · have := seg_len cur.toList o (n * i.size) news (by simpa using hfit)
            simp only [List.size_toArray]
            rw [this]
            simpa using hs
          · rw [Nat.add_mul, ← hl]
            exact seg_put cur.toList o (n * i.size) news xs hx hx1 (by simpa using hfit)
        · have holds : ∀ j u, xs[j]? = some u → w.cell? ((⟨g, o, none⟩ : Addr).add j) = some u := fun j u hu => by
            rw [add1]; exact own_cells hg hx j u hu
          have hr := run_append_grow (P := P) w t ty e i z ht hi hz ⟨g, o, none⟩ n cap xs hx1 holds a m c news hl hnews (by omega) (by omega) (growslice_fits_wide (by omega) hbytes)
          have hgr := grown_has w e i.size z hzs (n + m) cap h63 (fun k => S k ∨ k = w.heap.size) (.inr rfl) (xs ++ news) hlen xs.toArray news.toArray (by simp) none
          exact ⟨_, _, _, hr, Own.of_has hgr.1, hfr _⟩
theorem wp_append_mine {o : Oper} {a : Act} {K : Act → World → Prop} {Q : Exit → Act → World → Prop} (s x : Operand) (t : TypeId)
    (ho : o.op = .call { callee := .builtin .append, args := #[s, x], argTypes := #[t, t] })
    (S : Nat → Prop) (e : TypeId) (i : TypeInfo) (z : Value) (size bytes : Nat) (ht : P.underlying t = some (.slice e)) (hi : P.info? e = some i) (hz : i.zero = some z)
    (hsize : i.size = size) (hby : i.bytes = bytes) (hzs : z.cells.size = size) (v : Value) (n : Nat) (xs : List Value) (hs : a.eval s = v) (hown : Own w S e size v n xs) (a0 : Option Addr) (m c : Nat) (news : List Value) (hx : a.eval x = .slice a0 m c) (hl : news.length = m * size) (ha : a0 = none → m = 0) (hnews : ∀ ad, a0 = some ad → ∀ j u, news[j]? = some u → w.cell? (ad.add j) = some u)
    (h1 : ∀ u ∈ news, u.oneCell' = true) (h63 : n + m ≤ maxLen) (hbytes : ((n + m) + (n + m) / 4 + 192) * bytes ≤ 281474976710656)
    (h : ∀ b' cap' w', Own w' (fun k => S k ∨ k = w.heap.size) e size (.slice b' (n + m) cap') (n + m) (xs ++ news) → Fr w w' S → K (a.put o.dst (.slice b' (n + m) cap')) w') : o.wp P a w K Q := by
  obtain ⟨b', cap', w', hr, h2, h3⟩ := run_append_mine (P := P) w S t o.type e i z size bytes ht hi hz hsize hby hzs v n xs hown a0 m c news hl ha hnews h1 h63 hbytes
  unfold Oper.wp execOp
  simp only [ho, resolve, invoke, builtin, Sem.run_bind, Sem.run_pure, Result.andThen_ok, List.map_toArray, List.map_cons, List.map_nil, hs, hx, hr]
  exact h b' cap' w' h2 h3
theorem wpList_append_mine {ops : Array Oper} {rest : List Oper} {o : Oper} {a : Act} {Q : Exit → Act → World → Prop} (hgd : o.guard = none) (s x : Operand) (t : TypeId)
    (ho : o.op = .call { callee := .builtin .append, args := #[s, x], argTypes := #[t, t] })
    (S : Nat → Prop) (e : TypeId) (i : TypeInfo) (z : Value) (size bytes : Nat) (ht : P.underlying t = some (.slice e)) (hi : P.info? e = some i) (hz : i.zero = some z)
    (hsize : i.size = size) (hby : i.bytes = bytes) (hzs : z.cells.size = size) (v : Value) (n : Nat) (xs : List Value) (hs : a.eval s = v) (hown : Own w S e size v n xs) (a0 : Option Addr) (m c : Nat) (news : List Value) (hx : a.eval x = .slice a0 m c) (hl : news.length = m * size) (ha : a0 = none → m = 0) (hnews : ∀ ad, a0 = some ad → ∀ j u, news[j]? = some u → w.cell? (ad.add j) = some u)
    (h1 : ∀ u ∈ news, u.oneCell' = true) (h63 : n + m ≤ maxLen) (hbytes : ((n + m) + (n + m) / 4 + 192) * bytes ≤ 281474976710656)
    (h : ∀ b' cap' w', Own w' (fun k => S k ∨ k = w.heap.size) e size (.slice b' (n + m) cap') (n + m) (xs ++ news) → Fr w w' S → wpList P ops Q rest (a.put o.dst (.slice b' (n + m) cap')) w') : wpList P ops Q (o :: rest) a w :=
  wpList_plain hgd fun _ hK => wp_append_mine w s x t ho S e i z size bytes ht hi hz hsize hby hzs v n xs hs hown a0 m c news hx hl ha hnews h1 h63 hbytes fun b' cap' w' h2 h3 => hK _ _ (h b' cap' w' h2 h3)
theorem step_append_mine {ops : Array Oper} {o : Oper} {a : Act} {K : Act → World → Prop} {Q : Exit → Act → World → Prop} {E : Prop} (hgd : o.guard = none) (s x : Operand) (t : TypeId)
    (ho : o.op = .call { callee := .builtin .append, args := #[s, x], argTypes := #[t, t] })
    (S : Nat → Prop) (e : TypeId) (i : TypeInfo) (z : Value) (size bytes : Nat) (ht : P.underlying t = some (.slice e)) (hi : P.info? e = some i) (hz : i.zero = some z)
    (hsize : i.size = size) (hby : i.bytes = bytes) (hzs : z.cells.size = size) (v : Value) (n : Nat) (xs : List Value) (hs : a.eval s = v) (hown : Own w S e size v n xs) (a0 : Option Addr) (m c : Nat) (news : List Value) (hx : a.eval x = .slice a0 m c) (hl : news.length = m * size) (ha : a0 = none → m = 0) (hnews : ∀ ad, a0 = some ad → ∀ j u, news[j]? = some u → w.cell? (ad.add j) = some u)
    (h1 : ∀ u ∈ news, u.oneCell' = true) (h63 : n + m ≤ maxLen) (hbytes : ((n + m) + (n + m) / 4 + 192) * bytes ≤ 281474976710656)
    (h : ∀ b' cap' w', Own w' (fun k => S k ∨ k = w.heap.size) e size (.slice b' (n + m) cap') (n + m) (xs ++ news) → Fr w w' S → K (a.put o.dst (.slice b' (n + m) cap')) w') :
    if Region.wanted o (yielded ops a.tmps) = true then Oper.wp P o a w K Q else E := by
  have hw : Region.wanted o (yielded ops a.tmps) = true := by simp [Region.wanted, hgd]
  rw [if_pos hw]
  exact wp_append_mine w s x t ho S e i z size bytes ht hi hz hsize hby hzs v n xs hs hown a0 m c news hx hl ha hnews h1 h63 hbytes h
/-- copy into a row, whatever the elements' size. -/
theorem run_copy_at (dT sT ty e e' : TypeId) (i : TypeInfo) (hu : P.underlying dT = some (.slice e)) (hi : P.info? e = some i) (g o dLen dCap : Nat) (a : Addr) (sLen sCap : Nat) (cur : Array Value) (cs : List Value)
    (hg : w.heap[g]? = some (.cells cur e' (0, 0))) (hn : cs.length = Nat.min sLen dLen * i.size) (hsrc : ∀ j v, cs[j]? = some v → w.cell? (a.add j) = some v) (hfit : o + cs.length ≤ cur.size) (h1 : ∀ v ∈ cs, v.oneCell' = true) :
    (Builtin.copy_ #[dT, sT] ty #[.slice (some ⟨g, o, none⟩) dLen dCap, .slice (some a) sLen sCap]).run P w =
      .ok (goInt (Nat.min sLen dLen)) (w.setRow g (cur.toList.take o ++ cs ++ cur.toList.drop (o + cs.length)).toArray) := by
  have hl := run_loadCells_list (P := P) w a cs hsrc
  have hst := run_storeCells_at P g o e' cs 0 cur w hg (by simpa using hfit) h1
  simp [Builtin.copy_, run_underlying hu, Builtin.lenOf, Builtin.firstCells, sizeOf, typeInfo, hi, ← hn, hl, hst]
/-- clear of a piece of a row, whatever the elements' size. -/
theorem run_clear_at (t e e' ty : TypeId) (z : Value) (ht : P.underlying t = some (.slice e)) (hv : ∀ w, (zeroValue e).run P w = .ok z w) (g o n c : Nat) (hn : 0 < n) (cur : Array Value) (zs : List Value) (hz : (Builtin.zeroCells z.cells n).toList = zs)
    (hg : w.heap[g]? = some (.cells cur e' (0, 0))) (hfit : o + zs.length ≤ cur.size) (h1 : ∀ v ∈ zs, v.oneCell' = true) :
    (Builtin.clear_ #[t] ty #[.slice (some ⟨g, o, none⟩) n c]).run P w = .ok (.tuple #[]) (w.setRow g (cur.toList.take o ++ zs ++ cur.toList.drop (o + zs.length)).toArray) := by
  have hst := run_storeCells_at P g o e' zs 0 cur w hg (by simpa using hfit) h1
  simp only [Nat.add_zero] at hst
  obtain ⟨m, rfl⟩ : ∃ m, n = m + 1 := ⟨n - 1, by omega⟩
  simp [Builtin.clear_, run_underlying ht, hv, hz, hst]
end
end Go.Proofs.YtnapnhmmopajfaaGreat.Md
