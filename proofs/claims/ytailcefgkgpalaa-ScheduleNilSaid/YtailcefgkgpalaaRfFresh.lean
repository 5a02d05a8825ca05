import Derived.Test.YtailcefgkgpalaaMemRow
import Derived.Test.YtailcefgkgpalaaChecked
import Derived.Laws.AppendOwn
import Derived.WalkSpells
import Derived.Deep.RegionHeld3
/-
  append onto nil from whatever source.
-/
namespace Go.Proofs.Ytailcefgkgpalaa.Me
open Go.RowKit Mr
set_option linter.unusedVariables false
section
variable {P : Program} (w : World)
theorem run_append_none (t ty e : TypeId) (i : TypeInfo) (ht : P.underlying t = some (.slice e)) (hi : P.info? e = some i) (a0 : Option Addr) (c : Nat) :
    (Builtin.append_ #[t, t] ty #[.slice none 0 0, .slice a0 0 c]).run P w = .ok (.slice none 0 0) w := by
  cases a0 <;> simp [Builtin.append_, run_underlying ht, sizeOf, typeInfo, hi, Builtin.lenOf, Builtin.firstCells, loadCells, loadCellsFrom]
theorem run_append_fresh (S : Nat → Prop) (t ty e : TypeId) (i : TypeInfo) (z : Value) (size bytes : Nat) (ht : P.underlying t = some (.slice e)) (hi : P.info? e = some i) (hz : i.zero = some z)
    (hsize : i.size = size) (hby : i.bytes = bytes) (hzs : z.cells.size = size) (a0 : Option Addr) (m c : Nat) (news : List Value) (hl : news.length = m * size) (ha : a0 = none → m = 0) (hnews : ∀ ad, a0 = some ad → ∀ j u, news[j]? = some u → w.cell? (ad.add j) = some u)
    (h1 : ∀ u ∈ news, u.oneCell' = true) (h63 : m ≤ maxLen) (hbytes : (m + m / 4 + 192) * bytes ≤ 281474976710656) (hS : S w.heap.size) :
    ∃ v' w', (Builtin.append_ #[t, t] ty #[.slice none 0 0, .slice a0 m c]).run P w = .ok v' w' ∧ Has w' S e size v' m news ∧ w.grownBy w' none ∧ (∀ k, v'.ownBlock = some k → k = w.heap.size) := by
  by_cases hm : m = 0
  · subst hm
    have hn : news = [] := List.eq_nil_of_length_eq_zero (by simpa using hl)
    subst hn
    exact ⟨_, _, run_append_none w t ty e i ht hi a0 c, Has.nil _ _ _ _, ⟨rfl, rfl, rfl, Nat.le_refl _, fun _ _ _ => rfl⟩, fun k hk => by simp [Value.ownBlock] at hk⟩
  · cases a0 with
    | none => exact absurd (ha rfl) hm
    | some ad =>
      obtain ⟨g, cap, w', hr, h2, h3, h4⟩ := run_append_has (P := P) w S t ty e i z size bytes ht hi hz hsize hby hzs (.slice none 0 0) 0 [] (Has.nil _ _ _ _) ad m c news hl (hnews ad rfl) h1 (by omega) (by omega) (by rw [Nat.zero_add]; exact hbytes) hS
      rw [Nat.zero_add] at hr h2
      rw [List.nil_append] at h2
      refine ⟨_, w', hr, h2, h3, fun k hk => ?_⟩
      rcases h4 with h4 | h4
      · simp [Value.ownBlock] at h4
      · simp [Value.ownBlock] at hk
        omega
theorem wp_append_fresh {o : Oper} {a : Act} {K : Act → World → Prop} {Q : Exit → Act → World → Prop} (s x : Operand) (t : TypeId)
    (ho : o.op = .call { callee := .builtin .append, args := #[s, x], argTypes := #[t, t] })
    (S : Nat → Prop) (e : TypeId) (i : TypeInfo) (z : Value) (size bytes : Nat) (ht : P.underlying t = some (.slice e)) (hi : P.info? e = some i) (hz : i.zero = some z)
    (hsize : i.size = size) (hby : i.bytes = bytes) (hzs : z.cells.size = size) (hs : a.eval s = .slice none 0 0) (a0 : Option Addr) (m c : Nat) (news : List Value) (hx : a.eval x = .slice a0 m c) (hl : news.length = m * size) (ha : a0 = none → m = 0) (hnews : ∀ ad, a0 = some ad → ∀ j u, news[j]? = some u → w.cell? (ad.add j) = some u)
    (h1 : ∀ u ∈ news, u.oneCell' = true) (h63 : m ≤ maxLen) (hbytes : (m + m / 4 + 192) * bytes ≤ 281474976710656) (hS : S w.heap.size)
    (h : ∀ v' w', Has w' S e size v' m news → w.grownBy w' none → (∀ k, v'.ownBlock = some k → k = w.heap.size) → K (a.put o.dst v') w') : o.wp P a w K Q := by
  obtain ⟨v', w', hr, h2, h3, h4⟩ := run_append_fresh (P := P) w S t o.type e i z size bytes ht hi hz hsize hby hzs a0 m c news hl ha hnews h1 h63 hbytes hS
  unfold Oper.wp execOp
  simp only [ho, resolve, invoke, builtin, Sem.run_bind, Sem.run_pure, Result.andThen_ok, List.map_toArray, List.map_cons, List.map_nil, hs, hx, hr]
  exact h v' w' h2 h3 h4
theorem wpList_append_fresh {ops : Array Oper} {rest : List Oper} {o : Oper} {a : Act} {Q : Exit → Act → World → Prop} (hgd : o.guard = none) (s x : Operand) (t : TypeId)
    (ho : o.op = .call { callee := .builtin .append, args := #[s, x], argTypes := #[t, t] })
    (S : Nat → Prop) (e : TypeId) (i : TypeInfo) (z : Value) (size bytes : Nat) (ht : P.underlying t = some (.slice e)) (hi : P.info? e = some i) (hz : i.zero = some z)
    (hsize : i.size = size) (hby : i.bytes = bytes) (hzs : z.cells.size = size) (hs : a.eval s = .slice none 0 0) (a0 : Option Addr) (m c : Nat) (news : List Value) (hx : a.eval x = .slice a0 m c) (hl : news.length = m * size) (ha : a0 = none → m = 0) (hnews : ∀ ad, a0 = some ad → ∀ j u, news[j]? = some u → w.cell? (ad.add j) = some u)
    (h1 : ∀ u ∈ news, u.oneCell' = true) (h63 : m ≤ maxLen) (hbytes : (m + m / 4 + 192) * bytes ≤ 281474976710656) (hS : S w.heap.size)
    (h : ∀ v' w', Has w' S e size v' m news → w.grownBy w' none → (∀ k, v'.ownBlock = some k → k = w.heap.size) → wpList P ops Q rest (a.put o.dst v') w') : wpList P ops Q (o :: rest) a w :=
  wpList_plain hgd fun _ hK => wp_append_fresh w s x t ho S e i z size bytes ht hi hz hsize hby hzs hs a0 m c news hx hl ha hnews h1 h63 hbytes hS fun v' w' h2 h3 h4 => hK _ _ (h v' w' h2 h3 h4)
theorem step_append_fresh {ops : Array Oper} {o : Oper} {a : Act} {K : Act → World → Prop} {Q : Exit → Act → World → Prop} {E : Prop} (hgd : o.guard = none) (s x : Operand) (t : TypeId)
    (ho : o.op = .call { callee := .builtin .append, args := #[s, x], argTypes := #[t, t] })
    (S : Nat → Prop) (e : TypeId) (i : TypeInfo) (z : Value) (size bytes : Nat) (ht : P.underlying t = some (.slice e)) (hi : P.info? e = some i) (hz : i.zero = some z)
    (hsize : i.size = size) (hby : i.bytes = bytes) (hzs : z.cells.size = size) (hs : a.eval s = .slice none 0 0) (a0 : Option Addr) (m c : Nat) (news : List Value) (hx : a.eval x = .slice a0 m c) (hl : news.length = m * size) (ha : a0 = none → m = 0) (hnews : ∀ ad, a0 = some ad → ∀ j u, news[j]? = some u → w.cell? (ad.add j) = some u)
    (h1 : ∀ u ∈ news, u.oneCell' = true) (h63 : m ≤ maxLen) (hbytes : (m + m / 4 + 192) * bytes ≤ 281474976710656) (hS : S w.heap.size)
    (h : ∀ v' w', Has w' S e size v' m news → w.grownBy w' none → (∀ k, v'.ownBlock = some k → k = w.heap.size) → K (a.put o.dst v') w') :
    if Region.wanted o (yielded ops a.tmps) = true then Oper.wp P o a w K Q else E := by
  have hw : Region.wanted o (yielded ops a.tmps) = true := by simp [Region.wanted, hgd]
  rw [if_pos hw]
  exact wp_append_fresh w s x t ho S e i z size bytes ht hi hz hsize hby hzs hs a0 m c news hx hl ha hnews h1 h63 hbytes hS h
end
end Go.Proofs.Ytailcefgkgpalaa.Me
