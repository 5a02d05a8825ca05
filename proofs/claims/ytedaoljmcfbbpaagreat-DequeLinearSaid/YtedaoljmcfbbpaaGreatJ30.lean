import Derived.Test.YtedaoljmcfbbpaaGreatJ29
import Derived.Laws.CopyRow
import Derived.Lib.SliceRun
import Derived.Test.YtedaoljmcfbbpaaGreatJ23
import Derived.Test.YtedaoljmcfbbpaaGreatChecked
import Derived.WalkKit
import Derived.WalkSpells
import Derived.WalkLawsBesides
import Derived.OpenShut
import Derived.Outline
import Derived.Below
import Derived.Deep.MidRow
import Derived.Deep.DeepCutAuto
import Derived.Deep.RegionHeld3
import Derived.Deep.Upon
/-
  ROWS OF ONE's OWN, wherever they begin in their block, with their room behind them: append onto one, copy into one, clear of a piece of one.
-/
namespace Go.Proofs.YtedaoljmcfbbpaaGreat.Md
open Go.RowKit Mr
set_option linter.unusedVariables false
/-- v has n elements of size cells each that hold xs; it has no room at all, or it leads into a block of S, and what is behind it up to its capacity is there. -/
def Own (W : World) (S : Nat → Prop) (e : TypeId) (size : Nat) (v : Value) (n : Nat) (xs : List Value) : Prop :=
  xs.length = n * size ∧ ∃ a cap, v = .slice a n cap ∧ n ≤ cap ∧ cap ≤ maxLen ∧ (cap = 0 ∨ ∃ g o cur, a = some ⟨g, o, none⟩ ∧ S g ∧ W.heap[g]? = some (.cells cur e (0, 0)) ∧ o + cap * size ≤ cur.size ∧ (cur.toList.drop o).take (n * size) = xs)
section
variable {W W' : World} {S T : Nat → Prop} {e : TypeId} {size n : Nat} {v : Value} {xs : List Value}
theorem Own.kept (h : Own W S e size v n xs) (hb : ∀ k, S k → k < W.heap.size → W'.heap[k]? = W.heap[k]?) (hT : ∀ k, S k → T k) : Own W' T e size v n xs := by
  obtain ⟨h1, a, cap, hv, hc, hm, h2⟩ := h
  refine ⟨h1, a, cap, hv, hc, hm, h2.imp id ?_⟩
  rintro ⟨g, o, cur, ha, hS, hg, hs, hx⟩
  exact ⟨g, o, cur, ha, hT g hS, (hb g hS (Array.getElem?_eq_some_iff.1 hg).1).trans hg, hs, hx⟩
theorem Own.mono (h : Own W S e size v n xs) (hT : ∀ k, S k → T k) : Own W T e size v n xs := h.kept (fun _ _ _ => rfl) hT
theorem Own.fr (h : Own W S e size v n xs) (hf : Fr W W' T) (hd : ∀ k, S k → k < W.heap.size → ¬ T k) : Own W' S e size v n xs := h.kept (fun k hk hl => hf.block k hl (hd k hk hl)) (fun _ h => h)
theorem Own.below (h : Own W S e size v n xs) (hB : Below W.heap.size W W') : Own W' S e size v n xs := h.kept (fun k _ hl => hB.block k hl) (fun _ h => h)
theorem Own.of_has (h : Has W S e size v n xs) : Own W S e size v n xs := by
  refine ⟨h.1, ?_⟩
  rcases h.2 with ⟨rfl, rfl⟩ | ⟨g, cap, cur, rfl, hS, hg, hc, hm, hs, hx⟩
  · exact ⟨none, 0, rfl, Nat.le_refl _, Nat.zero_le _, .inl rfl⟩
  · exact ⟨_, cap, rfl, hc, hm, .inr ⟨g, 0, cur, rfl, hS, hg, by omega, by simpa using hx⟩⟩
theorem own_cells {W : World} {g o k : Nat} {cur : Array Value} {e : TypeId} {xs : List Value} (hg : W.heap[g]? = some (.cells cur e (0, 0))) (hx : (cur.toList.drop o).take k = xs) (j : Nat) (u : Value) (hu : xs[j]? = some u) : W.cell? ⟨g, o + j, none⟩ = some u := by
  rw [cell_of_row W g (o + j) cur e (0, 0) hg]
  rw [← hx, List.getElem?_take] at hu
  split at hu
  · rw [List.getElem?_drop] at hu
    simpa using hu
  · cases hu
theorem Own.sl (h : Own W S e size v n xs) : Sl W S size v n xs := by
  obtain ⟨h1, a, cap, hv, hc, hm, h2⟩ := h
  refine ⟨h1, a, cap, hv, hc, ?_⟩
  rcases h2 with rfl | ⟨g, o, cur, rfl, hS, hg, hs, hx⟩
  · exact .inl (by omega)
  · exact .inr ⟨g, o, rfl, hS, (Array.getElem?_eq_some_iff.1 hg).1, own_cells hg hx⟩
theorem Own.form (h : Own W S e size v n xs) : ∃ a cap, v = .slice a n cap ∧ n ≤ cap ∧ cap ≤ maxLen := by obtain ⟨_, a, cap, hv, hc, hm, _⟩ := h; exact ⟨a, cap, hv, hc, hm⟩
theorem Own.there (h : Own W S e size v n xs) (hn : 0 < n) : ∃ g o cap cur, v = .slice (some ⟨g, o, none⟩) n cap ∧ n ≤ cap ∧ cap ≤ maxLen ∧ S g ∧ W.heap[g]? = some (.cells cur e (0, 0)) ∧ o + cap * size ≤ cur.size ∧ (cur.toList.drop o).take (n * size) = xs := by
  obtain ⟨_, a, cap, hv, hc, hm, h2⟩ := h
  rcases h2 with rfl | ⟨g, o, cur, rfl, hS, hg, hs, hx⟩
  · omega
  · exact ⟨g, o, cap, cur, hv, hc, hm, hS, hg, hs, hx⟩
theorem Own.zero (W : World) (S : Nat → Prop) (e : TypeId) (size : Nat) (a : Option Addr) : Own W S e size (.slice a 0 0) 0 [] := ⟨by simp, a, 0, rfl, Nat.le_refl _, Nat.zero_le _, .inl rfl⟩
end
theorem seg_len (cur : List Value) (o k : Nat) (news : List Value) (h : o + k + news.length ≤ cur.length) : (cur.take (o + k) ++ news ++ cur.drop (o + k + news.length)).length = cur.length := by
  simp; omega
/-- What lies from o on behind a write at o + k. -/
theorem seg_put (cur : List Value) (o k : Nat) (news xs : List Value) (hx : (cur.drop o).take k = xs) (hl : xs.length = k) (h : o + k + news.length ≤ cur.length) :
    ((cur.take (o + k) ++ news ++ cur.drop (o + k + news.length)).drop o).take (k + news.length) = xs ++ news := by
  have e1 : cur.take (o + k) = cur.take o ++ xs := by rw [List.take_add, hx]
  have lo : (cur.take o).length = o := by rw [List.length_take]; omega
  rw [e1, List.append_assoc, List.append_assoc, List.drop_append_of_le_length (by omega), List.drop_of_length_le (by omega), List.nil_append, ← List.append_assoc, List.take_append_of_le_length (by simp; omega), List.take_of_length_le (by simp; omega)]
section
variable {P : Program} (w : World)
theorem run_append_at (t ty e e' : TypeId) (i : TypeInfo) (ht : P.underlying t = some (.slice e)) (hi : P.info? e = some i) (g o n cap : Nat) (cur : Array Value) (hg : w.heap[g]? = some (.cells cur e' (0, 0)))
    (a : Addr) (m c : Nat) (news : List Value) (hl : news.length = m * i.size) (hnews : ∀ j u, news[j]? = some u → w.cell? (a.add j) = some u) (h1 : ∀ u ∈ news, u.oneCell' = true) (hroom : n + m ≤ cap) (hfit : o + n * i.size + news.length ≤ cur.size) :
    (Builtin.append_ #[t, t] ty #[.slice (some ⟨g, o, none⟩) n cap, .slice (some a) m c]).run P w = .ok (.slice (some ⟨g, o, none⟩) (n + m) cap) (w.setRow g (cur.toList.take (o + n * i.size) ++ news ++ cur.toList.drop (o + n * i.size + news.length)).toArray) := by
  have hfc := run_firstCells_some (P := P) w i.size m a m c news hl hnews
  have hst := run_storeCells_at P g (o + n * i.size) e' news 0 cur w hg (by simpa using hfit) h1
  simp only [Nat.add_zero] at hst
  simp [Builtin.append_, run_underlying ht, sizeOf, typeInfo, hi, Builtin.lenOf, hroom, hfc, Addr.add_lit, hst]
theorem setRow_fr {w : World} {S : Nat → Prop} {g : Nat} (hS : S g) (cs : Array Value) : Fr w (w.setRow g cs) S := ⟨rfl, rfl, rfl, by simp, fun k _ hk => setRow_other w g k _ (fun e => hk (e ▸ hS))⟩
/-- append onto a row of one's own, from whatever source. -/
theorem run_append_mine (S : Nat → Prop) (t ty e : TypeId) (i : TypeInfo) (z : Value) (size bytes : Nat) (ht : P.underlying t = some (.slice e)) (hi : P.info? e = some i) (hz : i.zero = some z)
    (hsize : i.size = size) (hby : i.bytes = bytes) (hzs : z.cells.size = size) (v : Value) (n : Nat) (xs : List Value) (hown : Own w S e size v n xs) (a0 : Option Addr) (m c : Nat) (news : List Value) (hl : news.length = m * size) (ha : a0 = none → m = 0) (hnews : ∀ ad, a0 = some ad → ∀ j u, news[j]? = some u → w.cell? (ad.add j) = some u)
    (h1 : ∀ u ∈ news, u.oneCell' = true) (h63 : n + m ≤ maxLen) (hbytes : ((n + m) + (n + m) / 4 + 192) * bytes ≤ 281474976710656) :
    ∃ b' cap' w', (Builtin.append_ #[t, t] ty #[v, .slice a0 m c]).run P w = .ok (.slice b' (n + m) cap') w' ∧ Own w' (fun k => S k ∨ k = w.heap.size) e size (.slice b' (n + m) cap') (n + m) (xs ++ news) ∧ Fr w w' S := by
  subst hsize
  subst hby
  have hsmall : n + m ≤ 9223372036854775807 := by simp only [maxLen] at h63; omega
  by_cases hm : m = 0
  · subst hm
    have hn : news = [] := List.eq_nil_of_length_eq_zero (by simpa using hl)
    subst hn
    obtain ⟨b0, cap, rfl, hc, _⟩ := hown.form
    refine ⟨b0, cap, w, ?_, ?_, Fr.refl _ _⟩
    · cases b0 <;> cases a0 <;> simp [Builtin.append_, run_underlying ht, sizeOf, typeInfo, hi, Builtin.lenOf, Builtin.firstCells, loadCells, loadCellsFrom, hc, storeCells]
    · rw [List.append_nil]; exact hown.mono (fun _ => .inl)
  · cases a0 with
    | none => exact absurd (ha rfl) hm
    | some a =>
      have hnews := hnews a rfl
      have hlen : (xs ++ news).length = (n + m) * i.size := by rw [List.length_append, hown.1, hl, Nat.add_mul]
      have hfr : ∀ o, Fr w (w.drew.alloc o) S := fun o => (Fr.refl w S).drew.alloc o
      obtain ⟨hx1, b0, cap, rfl, hc, hcm, h2⟩ := hown
      rcases h2 with rfl | ⟨g, o, cur, rfl, hS, hg, hs, hx⟩
      · obtain rfl : n = 0 := by omega
        have hx : xs = [] := List.eq_nil_of_length_eq_zero (by simpa using hx1)
        subst hx
        have hgr := grown_has w e i.size z hzs (0 + m) 0 h63 (fun k => S k ∨ k = w.heap.size) (.inr rfl) ([] ++ news) hlen #[] news.toArray (by simp) none
        have hbz : Builtin.nextslicecap m 0 * i.bytes ≤ 281474976710656 := by rw [Nat.zero_add] at hbytes; exact growslice_fits_wide (by omega) hbytes
        cases b0 with
        | none =>
          have hr := run_append_nil (P := P) w t ty e i z ht hi hz a m c news hl hnews (by omega) (by omega) (by
            refine Nat.le_trans (Nat.mul_le_mul_right _ ?_) hbytes; omega)
          simp only [Nat.zero_add, List.nil_append, Array.empty_append] at hgr ⊢
          exact ⟨_, _, _, hr, Own.of_has hgr.1, hfr _⟩
        | some b =>
          have hr := run_append_grow (P := P) w t ty e i z ht hi hz b 0 0 [] (by simp) (fun j u hu => by simp at hu) a m c news hl hnews (by omega) (by omega) (by simpa using hbz)
          simp only [Nat.zero_add, List.nil_append] at hgr hr ⊢
          exact ⟨_, _, _, hr, Own.of_has hgr.1, hfr _⟩
      · by_cases hroom : n + m ≤ cap
        · have hmul : (n + m) * i.size ≤ cap * i.size := Nat.mul_le_mul_right _ hroom
          rw [Nat.add_mul] at hmul
          have hfit : o + n * i.size + news.length ≤ cur.size := by omega
          have hr := run_append_at (P := P) w t ty e e i ht hi g o n cap cur hg a m c news hl hnews h1 hroom hfit
          refine ⟨_, _, _, hr, ⟨hlen, _, cap, rfl, hroom, hcm, .inr ⟨g, o, _, rfl, .inl hS, setRow_heap w g cur _ e _ hg, ?_, ?_⟩⟩, setRow_fr hS _⟩
          · have := seg_len cur.toList o (n * i.size) news (by simpa using hfit)
            simp only [List.size_toArray]
            rw [this]
            simpa using hs
          · rw [Nat.add_mul, ← hl]
            exact seg_put cur.toList o (n * i.size) news xs hx hx1 (by simpa using hfit)
        · have holds : ∀ j u, xs[j]? = some u → w.cell? ((⟨g, o, none⟩ : Addr).add j) = some u := fun j u hu => by
            rw [add1]; exact own_cells hg hx j u hu
          have hr := run_append_grow (P := P) w t ty e i z ht hi hz ⟨g, o, none⟩ n cap xs hx1 holds a m c news hl hnews (by omega) (by omega) (growslice_fits_wide (by omega) hbytes)
          have hgr := grown_has w e i.size z hzs (n + m) cap h63 (fun k => S k ∨ k = w.heap.size) (.inr rfl) (xs ++ news) hlen xs.toArray news.toArray (by simp) none
          exact ⟨_, _, _, hr, Own.of_has hgr.1, hfr _⟩
theorem wp_append_mine {o : Oper} {a : Act} {K : Act → World → Prop} {Q : Exit → Act → World → Prop} (s x : Operand) (t : TypeId)
    (ho : o.op = .call { callee := .builtin .append, args := #[s, x], argTypes := #[t, t] })
    (S : Nat → Prop) (e : TypeId) (i : TypeInfo) (z : Value) (size bytes : Nat) (ht : P.underlying t = some (.slice e)) (hi : P.info? e = some i) (hz : i.zero = some z)
    (hsize : i.size = size) (hby : i.bytes = bytes) (hzs : z.cells.size = size) (v : Value) (n : Nat) (xs : List Value) (hs : a.eval s = v) (hown : Own w S e size v n xs) (a0 : Option Addr) (m c : Nat) (news : List Value) (hx : a.eval x = .slice a0 m c) (hl : news.length = m * size) (ha : a0 = none → m = 0) (hnews : ∀ ad, a0 = some ad → ∀ j u, news[j]? = some u → w.cell? (ad.add j) = some u)
    (h1 : ∀ u ∈ news, u.oneCell' = true) (h63 : n + m ≤ maxLen) (hbytes : ((n + m) + (n + m) / 4 + 192) * bytes ≤ 281474976710656)
    (h : ∀ b' cap' w', Own w' (fun k => S k ∨ k = w.heap.size) e size (.slice b' (n + m) cap') (n + m) (xs ++ news) → Fr w w' S → K (a.put o.dst (.slice b' (n + m) cap')) w') : o.wp P a w K Q := by
  obtain ⟨b', cap', w', hr, h2, h3⟩ := run_append_mine (P := P) w S t o.type e i z size bytes ht hi hz hsize hby hzs v n xs hown a0 m c news hl ha hnews h1 h63 hbytes
  unfold Oper.wp execOp
  simp only [ho, resolve, invoke, builtin, Sem.run_bind, Sem.run_pure, Result.andThen_ok, List.map_toArray, List.map_cons, List.map_nil, hs, hx, hr]
  exact h b' cap' w' h2 h3
theorem wpList_append_mine {ops : Array Oper} {rest : List Oper} {o : Oper} {a : Act} {Q : Exit → Act → World → Prop} (hgd : o.guard = none) (s x : Operand) (t : TypeId)
    (ho : o.op = .call { callee := .builtin .append, args := #[s, x], argTypes := #[t, t] })
    (S : Nat → Prop) (e : TypeId) (i : TypeInfo) (z : Value) (size bytes : Nat) (ht : P.underlying t = some (.slice e)) (hi : P.info? e = some i) (hz : i.zero = some z)
    (hsize : i.size = size) (hby : i.bytes = bytes) (hzs : z.cells.size = size) (v : Value) (n : Nat) (xs : List Value) (hs : a.eval s = v) (hown : Own w S e size v n xs) (a0 : Option Addr) (m c : Nat) (news : List Value) (hx : a.eval x = .slice a0 m c) (hl : news.length = m * size) (ha : a0 = none → m = 0) (hnews : ∀ ad, a0 = some ad → ∀ j u, news[j]? = some u → w.cell? (ad.add j) = some u)
    (h1 : ∀ u ∈ news, u.oneCell' = true) (h63 : n + m ≤ maxLen) (hbytes : ((n + m) + (n + m) / 4 + 192) * bytes ≤ 281474976710656)
    (h : ∀ b' cap' w', Own w' (fun k => S k ∨ k = w.heap.size) e size (.slice b' (n + m) cap') (n + m) (xs ++ news) → Fr w w' S → wpList P ops Q rest (a.put o.dst (.slice b' (n + m) cap')) w') : wpList P ops Q (o :: rest) a w :=
  wpList_plain hgd fun _ hK => wp_append_mine w s x t ho S e i z size bytes ht hi hz hsize hby hzs v n xs hs hown a0 m c news hx hl ha hnews h1 h63 hbytes fun b' cap' w' h2 h3 => hK _ _ (h b' cap' w' h2 h3)
theorem step_append_mine {ops : Array Oper} {o : Oper} {a : Act} {K : Act → World → Prop} {Q : Exit → Act → World → Prop} {E : Prop} (hgd : o.guard = none) (s x : Operand) (t : TypeId)
    (ho : o.op = .call { callee := .builtin .append, args := #[s, x], argTypes := #[t, t] })
    (S : Nat → Prop) (e : TypeId) (i : TypeInfo) (z : Value) (size bytes : Nat) (ht : P.underlying t = some (.slice e)) (hi : P.info? e = some i) (hz : i.zero = some z)
    (hsize : i.size = size) (hby : i.bytes = bytes) (hzs : z.cells.size = size) (v : Value) (n : Nat) (xs : List Value) (hs : a.eval s = v) (hown : Own w S e size v n xs) (a0 : Option Addr) (m c : Nat) (news : List Value) (hx : a.eval x = .slice a0 m c) (hl : news.length = m * size) (ha : a0 = none → m = 0) (hnews : ∀ ad, a0 = some ad → ∀ j u, news[j]? = some u → w.cell? (ad.add j) = some u)
    (h1 : ∀ u ∈ news, u.oneCell' = true) (h63 : n + m ≤ maxLen) (hbytes : ((n + m) + (n + m) / 4 + 192) * bytes ≤ 281474976710656)
    (h : ∀ b' cap' w', Own w' (fun k => S k ∨ k = w.heap.size) e size (.slice b' (n + m) cap') (n + m) (xs ++ news) → Fr w w' S → K (a.put o.dst (.slice b' (n + m) cap')) w') :
    if Region.wanted o (yielded ops a.tmps) = true then Oper.wp P o a w K Q else E := by
  have hw : Region.wanted o (yielded ops a.tmps) = true := by simp [Region.wanted, hgd]
  rw [if_pos hw]
  exact wp_append_mine w s x t ho S e i z size bytes ht hi hz hsize hby hzs v n xs hs hown a0 m c news hx hl ha hnews h1 h63 hbytes h
/-- copy into a row, whatever the elements' size. -/
theorem run_copy_at (dT sT ty e e' : TypeId) (i : TypeInfo) (hu : P.underlying dT = some (.slice e)) (hi : P.info? e = some i) (g o dLen dCap : Nat) (a : Addr) (sLen sCap : Nat) (cur : Array Value) (cs : List Value)
    (hg : w.heap[g]? = some (.cells cur e' (0, 0))) (hn : cs.length = Nat.min sLen dLen * i.size) (hsrc : ∀ j v, cs[j]? = some v → w.cell? (a.add j) = some v) (hfit : o + cs.length ≤ cur.size) (h1 : ∀ v ∈ cs, v.oneCell' = true) :
    (Builtin.copy_ #[dT, sT] ty #[.slice (some ⟨g, o, none⟩) dLen dCap, .slice (some a) sLen sCap]).run P w =
      .ok (goInt (Nat.min sLen dLen)) (w.setRow g (cur.toList.take o ++ cs ++ cur.toList.drop (o + cs.length)).toArray) := by
  have hl := run_loadCells_list (P := P) w a cs hsrc
  have hst := run_storeCells_at P g o e' cs 0 cur w hg (by simpa using hfit) h1
  simp [Builtin.copy_, run_underlying hu, Builtin.lenOf, Builtin.firstCells, sizeOf, typeInfo, hi, ← hn, hl, hst]
/-- clear of a piece of a row, whatever the elements' size. -/
theorem run_clear_at (t e e' ty : TypeId) (z : Value) (ht : P.underlying t = some (.slice e)) (hv : ∀ w, (zeroValue e).run P w = .ok z w) (g o n c : Nat) (hn : 0 < n) (cur : Array Value) (zs : List Value) (hz : (Builtin.zeroCells z.cells n).toList = zs)
    (hg : w.heap[g]? = some (.cells cur e' (0, 0))) (hfit : o + zs.length ≤ cur.size) (h1 : ∀ v ∈ zs, v.oneCell' = true) :
    (Builtin.clear_ #[t] ty #[.slice (some ⟨g, o, none⟩) n c]).run P w = .ok (.tuple #[]) (w.setRow g (cur.toList.take o ++ zs ++ cur.toList.drop (o + zs.length)).toArray) := by
  have hst := run_storeCells_at P g o e' zs 0 cur w hg (by simpa using hfit) h1
  simp only [Nat.add_zero] at hst
  obtain ⟨m, rfl⟩ : ∃ m, n = m + 1 := ⟨n - 1, by omega⟩
  simp [Builtin.clear_, run_underlying ht, hv, hz, hst]
end
end Go.Proofs.YtedaoljmcfbbpaaGreat.Md
/-
  DEQUE, Holds and Spread: calls, their rows; what the chapter asks of a run, pure.
-/
namespace Go.Proofs.YtedaoljmcfbbpaaGreat.Hd
open Go.RowKit Mr Md
set_option linter.unusedVariables false
set_option linter.unusedSimpArgs false
set_option maxRecDepth 100000
/-- A call. -/
structure Cq where
  th : Int
  op : Int
  arg : Int
  data : Int
  beg : Int
  fin : Int
  pt : Int
  ak : Int
  av : Int
deriving DecidableEq
instance : Inhabited Cq := ⟨⟨0, 0, 0, 0, 0, 0, 0, 0, 0⟩⟩
def Cq.val (c : Cq) : Value := .agg #[.int .i64 c.th, .int .i64 c.op, .int .i64 c.arg, .int .i64 c.data, .int .i64 c.beg, .int .i64 c.fin, .int .i64 c.pt, .int .i64 c.ak, .int .i64 c.av]
def cqO (c : Cq) : Obj := .cells #[.int .i64 c.th, .int .i64 c.op, .int .i64 c.arg, .int .i64 c.data, .int .i64 c.beg, .int .i64 c.fin, .int .i64 c.pt, .int .i64 c.ak, .int .i64 c.av] 45 (0, 0)
def Cq.row (c : Cq) : List Value := [.int .i64 c.th, .int .i64 c.op, .int .i64 c.arg, .int .i64 c.data, .int .i64 c.beg, .int .i64 c.fin, .int .i64 c.pt, .int .i64 c.ak, .int .i64 c.av]
def cqs (l : List Cq) : List Value := l.flatMap Cq.row
theorem cqs_get (l : List Cq) (i : Nat) (c : Cq) (h : l[i]? = some c) (j : Nat) (hj : j < 9) : (cqs l)[i * 9 + j]? = c.row[j]? := by
  induction l generalizing i with
  | nil => simp at h
  | cons x l ih =>
    cases i with
    | zero =>
      simp at h; subst h
      simp only [cqs, List.flatMap_cons]
      rw [List.getElem?_append_left (by simp [Cq.row]; omega)]
      simp
    | succ i =>
      have := ih i (by simpa using h)
      simp only [cqs, List.flatMap_cons] at this ⊢
      rw [List.getElem?_append_right (by simp [Cq.row]; omega)]
      rw [← this]
      congr 1
      simp [Cq.row]; omega
theorem cqs_length (l : List Cq) : (cqs l).length = l.length * 9 := by
  induction l with
  | nil => rfl
  | cons x l ih => simp only [cqs, List.flatMap_cons, List.length_append] at ih ⊢; simp [Cq.row] at ih ⊢; omega
theorem cqs_app (l k : List Cq) : cqs (l ++ k) = cqs l ++ cqs k := by simp [cqs]
theorem cqs_one (l : List Cq) : ∀ u ∈ cqs l, u.oneCell' = true := by
  intro u hu
  simp only [cqs, List.mem_flatMap] at hu
  obtain ⟨c, _, h⟩ := hu
  simp [Cq.row] at h
  rcases h with rfl | rfl | rfl | rfl | rfl | rfl | rfl | rfl | rfl <;> rfl
/-- The nine cells of a call. -/
structure CqAt (w : World) (b o : Nat) (a : Cq) : Prop where
  lt : b < w.heap.size
  c0 : w.cell? ⟨b, o, none⟩ = some (.int .i64 a.th)
  c1 : w.cell? ⟨b, o + 1, none⟩ = some (.int .i64 a.op)
  c2 : w.cell? ⟨b, o + 2, none⟩ = some (.int .i64 a.arg)
  c3 : w.cell? ⟨b, o + 3, none⟩ = some (.int .i64 a.data)
  c4 : w.cell? ⟨b, o + 4, none⟩ = some (.int .i64 a.beg)
  c5 : w.cell? ⟨b, o + 5, none⟩ = some (.int .i64 a.fin)
  c6 : w.cell? ⟨b, o + 6, none⟩ = some (.int .i64 a.pt)
  c7 : w.cell? ⟨b, o + 7, none⟩ = some (.int .i64 a.ak)
  c8 : w.cell? ⟨b, o + 8, none⟩ = some (.int .i64 a.av)
theorem cqx_at {W : World} {T : Nat → Prop} {a : Option Addr} {cap : Nat} {es : List Cq} (h : Sl W T 9 (.slice a es.length cap) es.length (cqs es)) {i : Nat} {e : Cq} (hc : es[i]? = some e) :
    ∃ b o, a = some ⟨b, o, none⟩ ∧ T b ∧ CqAt W b (o + i * 9) e := by
  have hi := (List.getElem?_eq_some_iff.1 hc).1
  obtain ⟨b, o, cap', hv, _, hT, hl, hr⟩ := h.there (by omega)
  cases hv
  have hg := fun j (hj : j < 9) => cqs_get es i e hc j hj
  exact ⟨b, o, rfl, hT, hl, hr (i * 9 + 0) _ (hg 0 (by omega)), hr (i * 9 + 1) _ (hg 1 (by omega)), hr (i * 9 + 2) _ (hg 2 (by omega)), hr (i * 9 + 3) _ (hg 3 (by omega)), hr (i * 9 + 4) _ (hg 4 (by omega)), hr (i * 9 + 5) _ (hg 5 (by omega)), hr (i * 9 + 6) _ (hg 6 (by omega)), hr (i * 9 + 7) _ (hg 7 (by omega)), hr (i * 9 + 8) _ (hg 8 (by omega))⟩
theorem CqAt.below {w w' : World} {b o : Nat} {a : Cq} (h : CqAt w b o a) (hB : Below w.heap.size w w') : CqAt w' b o a := by
  have k := fun j => hB.cell (p := ⟨b, j, none⟩) h.lt
  exact ⟨Nat.lt_of_lt_of_le h.lt hB.size, (k _).trans h.c0, (k _).trans h.c1, (k _).trans h.c2, (k _).trans h.c3, (k _).trans h.c4, (k _).trans h.c5, (k _).trans h.c6, (k _).trans h.c7, (k _).trans h.c8⟩
theorem new_at (W : World) (o : Obj) (k : Nat) (hk : k = W.heap.size) : (W.alloc o).heap[k]? = some o := by subst hk; exact heap_alloc_new W o
theorem old_at {W : World} {k : Nat} {x : Obj} (h : W.heap[k]? = some x) (o : Obj) : (W.alloc o).heap[k]? = some x := by
  have hlt := (Array.getElem?_eq_some_iff.1 h).1
  rw [heap_alloc_old _ _ hlt]; exact h
theorem cqO_cells {W : World} {b : Nat} {a : Cq} (h : W.heap[b]? = some (cqO a)) : CqAt W b 0 a := by
  have hlt := (Array.getElem?_eq_some_iff.1 h).1
  unfold cqO at h
  exact ⟨hlt, by simp [World.cell?, h], by simp [World.cell?, h], by simp [World.cell?, h], by simp [World.cell?, h], by simp [World.cell?, h], by simp [World.cell?, h], by simp [World.cell?, h], by simp [World.cell?, h], by simp [World.cell?, h]⟩
/-! What the chapter asks. -/
def rk (op : Int) : Int := if op = 92 then 0 else 1
def kn (th : Int) (c : Cq) : Bool := if c.op = 90 ∨ c.op = 91 then decide (c.th = 0) else if c.op = 92 then decide (0 ≤ c.th ∧ c.th < th) else false
def cmpI (a b : Int) : Int := if a < b then -1 else if a = b then 0 else 1
theorem cmpI_lt {a b : Int} (h : a < b) : cmpI a b = -1 := if_pos h
theorem cmpI_eq (a : Int) : cmpI a a = 0 := by unfold cmpI; rw [if_neg (by omega), if_pos rfl]
theorem cmpI_gt {a b : Int} (h : b < a) : cmpI a b = 1 := by unfold cmpI; rw [if_neg (by omega), if_neg (by omega)]
def cmpC (a b : Cq) : Int := if cmpI a.pt b.pt = 0 then cmpI (rk a.op) (rk b.op) else cmpI a.pt b.pt
def Cq.lt (a b : Cq) : Prop := a.pt < b.pt ∨ (a.pt = b.pt ∧ rk a.op < rk b.op)
/-- Two in a row that may stand so. -/
def apc (a b : Cq) : Bool := !(decide (a.pt = b.pt) && !(decide (a.op = 92) && decide (b.op = 91)))
def apR : List Cq → Bool
  | [] => true
  | [_] => true
  | a :: b :: l => apc a b && apR (b :: l)
def pts (cs : List Cq) : List Cq := cs.filter (fun c => c.pt ≠ -1)
def unt (c : Cq) : Bool := decide (c.pt ≤ c.beg) || (decide (c.fin ≠ -1) && decide (c.fin < c.pt))
/-- At once: what is left, the answer. -/
def atO (rm : Int) (vs : List Int) (c : Cq) : List Int × Int × Int :=
  if c.op = 90 ∧ rm ≤ (vs.length : Int) then (vs, 4, 0)
  else if c.op = 90 then (vs ++ [c.arg], 1, 0)
  else if vs.length = 0 then ([], 3, 0)
  else if c.op = 91 then (vs.take (vs.length - 1), 2, (vs[vs.length - 1]?).getD 0)
  else (vs.drop 1, 2, (vs[0]?).getD 0)
def okA (c : Cq) (a : Int × Int) : Bool := decide (c.fin = -1) || (decide (c.ak = a.1) && decide (c.av = a.2))
def expl (rm : Int) : List Int → List Cq → Bool
  | _, [] => true
  | vs, c :: l => okA c (atO rm vs c).2 && expl rm (atO rm vs c).1 l
theorem rk_in (op : Int) : rk op = 0 ∨ rk op = 1 := by unfold rk; split <;> simp
theorem Cq.lt_irrefl {a : Cq} : ¬ Cq.lt a a := by unfold Cq.lt; omega
theorem Cq.lt_trans {a b c : Cq} (h : Cq.lt a b) (k : Cq.lt b c) : Cq.lt a c := by unfold Cq.lt at *; omega
theorem Cq.lt_asymm {a b : Cq} (h : Cq.lt a b) : ¬ Cq.lt b a := by unfold Cq.lt at *; omega
/-- Of two that may stand so and in their order, the one is ahead. -/
theorem apc_lt {a b : Cq} (h : ¬ Cq.lt b a) (k : apc a b = true) : Cq.lt a b := by
  unfold apc at k
  unfold Cq.lt at *
  by_cases e : a.pt = b.pt
  · simp [e] at k
    right
    refine ⟨e, ?_⟩
    simp [rk, k.1, k.2]
  · omega
theorem apR_up : ∀ {l : List Cq}, l.Pairwise (fun a b => ¬ Cq.lt b a) → apR l = true → l.Pairwise Cq.lt
  | [], _, _ => List.Pairwise.nil
  | [a], _, _ => by simp
  | a :: b :: l, h, k => by
    rw [apR, Bool.and_eq_true] at k
    have h2 := List.pairwise_cons.1 h
    have ih := apR_up h2.2 k.2
    refine List.pairwise_cons.2 ⟨fun c hc => ?_, ih⟩
    have hab := apc_lt (h2.1 b (by simp)) k.1
    rcases List.mem_cons.1 hc with rfl | hc
    · exact hab
    · exact Cq.lt_trans hab ((List.pairwise_cons.1 ih).1 c hc)
/-- Two orders of the same calls: where one may stand so, they are one. -/
theorem ap_same {l k : List Cq} (hp : l.Perm k) (hl : l.Pairwise (fun a b => ¬ Cq.lt b a)) (hk : k.Pairwise (fun a b => ¬ Cq.lt b a)) (h : apR l = true) : l = k := by
  have ul := apR_up hl h
  refine List.Perm.eq_of_pairwise (le := fun a b => ¬ Cq.lt b a) (fun a b ha hb h1 h2 => ?_) hl hk hp
  have hb' : b ∈ l := hp.mem_iff.2 hb
  obtain ⟨i, hi, rfl⟩ := List.mem_iff_getElem.1 ha
  obtain ⟨j, hj, rfl⟩ := List.mem_iff_getElem.1 hb'
  rcases Nat.lt_trichotomy i j with hij | hij | hij
  · exact absurd (List.pairwise_iff_getElem.1 ul i j hi hj hij) h2
  · subst hij; rfl
  · exact absurd (List.pairwise_iff_getElem.1 ul j i hj hi hij) h1
theorem ap_eq {l k : List Cq} (hp : l.Perm k) (hl : l.Pairwise (fun a b => ¬ Cq.lt b a)) (hk : k.Pairwise (fun a b => ¬ Cq.lt b a)) : apR l = apR k := by
  cases h : apR l with
  | true => rw [← ap_same hp hl hk h]; exact h.symm
  | false =>
    cases h' : apR k with
    | false => rfl
    | true => rw [ap_same hp.symm hk hl h'] at h'; rw [h] at h'; cases h'
end Go.Proofs.YtedaoljmcfbbpaaGreat.Hd
