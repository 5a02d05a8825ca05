import Derived.Test.YtnbibkohgppjnaaGreatJ01
import Derived.Test.YtnbibkohgppjnaaGreatChecked
import Derived.Laws.AppendOwn
import Derived.WalkSpells
import Derived.Deep.RegionHeld3
set_option linter.unusedVariables false
set_option linter.unusedSimpArgs false
namespace Go.Proofs.YtnbibkohgppjnaaGreat.Md
open Go.RowKit Mr
def ans (k v : Int) : Value := .agg #[.int .i64 k, .int .i64 v]
set_option maxHeartbeats 2000000 in
theorem kind_any (k : Int) (w : World) : Calls Tryz.prog 78 #[.int .i64 k] w fun e w' => e = .returned (ans k 0) ∧ Below w.heap.size w w' := by
 go_enter Tryz.func78, Tryz.ntmps78
 go_wp2
 refine bodyPost_ret (v := ans k 0) (by simp [results, Tryz.results78, go_sem, ans]) rfl ?_
 exact ⟨rfl, (Below.refl _ _).alloc (Nat.le_refl _) _⟩
set_option maxHeartbeats 2000000 in
theorem value_any (k : Int) (w : World) : Calls Tryz.prog 79 #[.int .i64 k] w fun e w' => e = .returned (ans 2 k) ∧ Below w.heap.size w w' := by
 go_enter Tryz.func79, Tryz.ntmps79
 go_wp2
 refine bodyPost_ret (v := ans 2 k) (by simp [results, Tryz.results79, go_sem, ans]) rfl ?_
 exact ⟨rfl, (Below.refl _ _).alloc (Nat.le_refl _) _⟩
set_option maxHeartbeats 2000000 in
theorem yes_any (b : Bool) (w : World) : Calls Tryz.prog 99 #[.bool b] w fun e w' => e = .returned (ans (if b then 5 else 6) 0) ∧ Below w.heap.size w w' := by
 have bx := heap_alloc_new w (.cells #[.int .i64 0, .int .i64 0] 43 (0, 0))
 have B0 := (Below.refl w.heap.size w).alloc (Nat.le_refl _) (.cells #[.int .i64 0, .int .i64 0] 43 (0, 0))
 have K := fun (w1 : World) (k : Int) (hB : Below (w.heap.size + 1) (w.alloc (.cells #[.int .i64 0, .int .i64 0] 43 (0, 0))) w1) => (show (w1.cell? ⟨w.heap.size, 0, none⟩ = some (.int .i64 0) ∧ w1.cell? ⟨w.heap.size, 1, none⟩ = some (.int .i64 0) ∧ w1.frozen? ⟨w.heap.size, 0, none⟩ = false ∧ w1.frozen? ⟨w.heap.size, 1, none⟩ = false ∧ w.heap.size < w1.heap.size) ∧ ((w1.setCell ⟨w.heap.size, 0, none⟩ (.int .i64 k)).setCell ⟨w.heap.size, 1, none⟩ (.int .i64 0)).cell? ⟨w.heap.size, 0, none⟩ = some (.int .i64 k) ∧ ((w1.setCell ⟨w.heap.size, 0, none⟩ (.int .i64 k)).setCell ⟨w.heap.size, 1, none⟩ (.int .i64 0)).cell? ⟨w.heap.size, 1, none⟩ = some (.int .i64 0) ∧ Below w.heap.size w ((w1.setCell ⟨w.heap.size, 0, none⟩ (.int .i64 k)).setCell ⟨w.heap.size, 1, none⟩ (.int .i64 0)) from by
  have h1 := (hB.block _ (by omega)).trans bx
  have h2 := setBlk (setBlk h1 0 (.int .i64 k)) 1 (.int .i64 0)
  have h3 : Below w.heap.size w w1 := B0.trans (hB.mono (by omega))
  refine ⟨⟨cell_blk h1 0, cell_blk h1 1, ?_, ?_, (Array.getElem?_eq_some_iff.1 h1).1⟩, cell_blk h2 0, cell_blk h2 1, (h3.setCell (p := ⟨w.heap.size, 0, none⟩) (Nat.le_refl _) _).setCell (p := ⟨w.heap.size, 1, none⟩) (Nat.le_refl _) _⟩ <;> simp [World.frozen?, h1])
 clear bx B0
 replace K := Mr.hid K
 cases b with
 | false =>
  go_enter Tryz.func99, Tryz.ntmps99
  go_wp2_with (go_at_call 78; refine (kind_any 6 _).mono ?_; rintro e w1 ⟨rfl, hB⟩; unfold ans; simp only [World.size_alloc] at hB; obtain ⟨⟨c0, c1, f0, f1, l1⟩, d0, d1, hE⟩ := K.out w1 6 hB; clear K hB; replace hE := Mr.hid hE)
  refine bodyPost_ret (v := ans 6 0) (by simp [results, Tryz.results99, go_sem, ans, d0, d1]) rfl ?_
  exact ⟨rfl, hE.out⟩
 | true =>
  go_enter Tryz.func99, Tryz.ntmps99
  go_wp2_with (go_at_call 78; refine (kind_any 5 _).mono ?_; rintro e w1 ⟨rfl, hB⟩; unfold ans; simp only [World.size_alloc] at hB; obtain ⟨⟨c0, c1, f0, f1, l1⟩, d0, d1, hE⟩ := K.out w1 5 hB; clear K hB; replace hE := Mr.hid hE)
  refine bodyPost_ret (v := ans 5 0) (by simp [results, Tryz.results99, go_sem, ans, d0, d1]) rfl ?_
  exact ⟨rfl, hE.out⟩
end Go.Proofs.YtnbibkohgppjnaaGreat.Md
namespace Go.Proofs.YtnbibkohgppjnaaGreat.Me
open Go.RowKit Mr
section
variable {P : Program} (w : World)
theorem run_append_none (t ty e : TypeId) (i : TypeInfo) (ht : P.underlying t = some (.slice e)) (hi : P.info? e = some i) (a0 : Option Addr) (c : Nat) :
  (Builtin.append_ #[t, t] ty #[.slice none 0 0, .slice a0 0 c]).run P w = .ok (.slice none 0 0) w := by
 cases a0 <;> simp [Builtin.append_, run_underlying ht, sizeOf, typeInfo, hi, Builtin.lenOf, Builtin.firstCells, loadCells, loadCellsFrom]
theorem run_append_fresh (S : Nat → Prop) (t ty e : TypeId) (i : TypeInfo) (z : Value) (size bytes : Nat) (ht : P.underlying t = some (.slice e)) (hi : P.info? e = some i) (hz : i.zero = some z)
  (hsize : i.size = size) (hby : i.bytes = bytes) (hzs : z.cells.size = size) (a0 : Option Addr) (m c : Nat) (news : List Value) (hl : news.length = m * size) (ha : a0 = none → m = 0) (hnews : ∀ ad, a0 = some ad → ∀ j u, news[j]? = some u → w.cell? (ad.add j) = some u)
  (h1 : ∀ u ∈ news, u.oneCell' = true) (h63 : m ≤ maxLen) (hbytes : (m + m / 4 + 192) * bytes ≤ 281474976710656) (hS : S w.heap.size) :
  ∃ v' w', (Builtin.append_ #[t, t] ty #[.slice none 0 0, .slice a0 m c]).run P w = .ok v' w' ∧ Has w' S e size v' m news ∧ w.grownBy w' none ∧ (∀ k, v'.ownBlock = some k → k = w.heap.size) := by
 by_cases hm : m = 0
 ·subst hm
  have hn : news = [] := List.eq_nil_of_length_eq_zero (by simpa using hl)
  subst hn
  exact ⟨_, _, run_append_none w t ty e i ht hi a0 c, Has.nil _ _ _ _, ⟨rfl, rfl, rfl, Nat.le_refl _, fun _ _ _ => rfl⟩, fun k hk => by simp [Value.ownBlock] at hk⟩
 ·cases a0 with
  | none => exact absurd (ha rfl) hm
  | some ad =>
   obtain ⟨g, cap, w', hr, h2, h3, h4⟩ := run_append_has (P := P) w S t ty e i z size bytes ht hi hz hsize hby hzs (.slice none 0 0) 0 [] (Has.nil _ _ _ _) ad m c news hl (hnews ad rfl) h1 (by omega) (by omega) (by rw [Nat.zero_add]; exact hbytes) hS
   rw [Nat.zero_add] at hr h2
   rw [List.nil_append] at h2
   refine ⟨_, w', hr, h2, h3, fun k hk => ?_⟩
   rcases h4 with h4 | h4
   ·simp [Value.ownBlock] at h4
   ·simp [Value.ownBlock] at hk
    omega
theorem wp_append_fresh {o : Oper} {a : Act} {K : Act → World → Prop} {Q : Exit → Act → World → Prop} (s x : Operand) (t : TypeId)
  (ho : o.op = .call { callee := .builtin .append, args := #[s, x], argTypes := #[t, t] })
  (S : Nat → Prop) (e : TypeId) (i : TypeInfo) (z : Value) (size bytes : Nat) (ht : P.underlying t = some (.slice e)) (hi : P.info? e = some i) (hz : i.zero = some z)
  (hsize : i.size = size) (hby : i.bytes = bytes) (hzs : z.cells.size = size) (hs : a.eval s = .slice none 0 0) (a0 : Option Addr) (m c : Nat) (news : List Value) (hx : a.eval x = .slice a0 m c) (hl : news.length = m * size) (ha : a0 = none → m = 0) (hnews : ∀ ad, a0 = some ad → ∀ j u, news[j]? = some u → w.cell? (ad.add j) = some u)
  (h1 : ∀ u ∈ news, u.oneCell' = true) (h63 : m ≤ maxLen) (hbytes : (m + m / 4 + 192) * bytes ≤ 281474976710656) (hS : S w.heap.size)
  (h : ∀ v' w', Has w' S e size v' m news → w.grownBy w' none → (∀ k, v'.ownBlock = some k → k = w.heap.size) → K (a.put o.dst v') w') : o.wp P a w K Q := by
 obtain ⟨v', w', hr, h2, h3, h4⟩ := run_append_fresh (P := P) w S t o.type e i z size bytes ht hi hz hsize hby hzs a0 m c news hl ha hnews h1 h63 hbytes hS
 unfold Oper.wp execOp
 simp only [ho, resolve, invoke, builtin, Sem.run_bind, Sem.run_pure, Result.andThen_ok, List.map_toArray, List.map_cons, List.map_nil, hs, hx, hr]
 exact h v' w' h2 h3 h4
theorem wpList_append_fresh {ops : Array Oper} {rest : List Oper} {o : Oper} {a : Act} {Q : Exit → Act → World → Prop} (hgd : o.guard = none) (s x : Operand) (t : TypeId)
  (ho : o.op = .call { callee := .builtin .append, args := #[s, x], argTypes := #[t, t] })
  (S : Nat → Prop) (e : TypeId) (i : TypeInfo) (z : Value) (size bytes : Nat) (ht : P.underlying t = some (.slice e)) (hi : P.info? e = some i) (hz : i.zero = some z)
  (hsize : i.size = size) (hby : i.bytes = bytes) (hzs : z.cells.size = size) (hs : a.eval s = .slice none 0 0) (a0 : Option Addr) (m c : Nat) (news : List Value) (hx : a.eval x = .slice a0 m c) (hl : news.length = m * size) (ha : a0 = none → m = 0) (hnews : ∀ ad, a0 = some ad → ∀ j u, news[j]? = some u → w.cell? (ad.add j) = some u)
  (h1 : ∀ u ∈ news, u.oneCell' = true) (h63 : m ≤ maxLen) (hbytes : (m + m / 4 + 192) * bytes ≤ 281474976710656) (hS : S w.heap.size)
  (h : ∀ v' w', Has w' S e size v' m news → w.grownBy w' none → (∀ k, v'.ownBlock = some k → k = w.heap.size) → wpList P ops Q rest (a.put o.dst v') w') : wpList P ops Q (o :: rest) a w :=
 wpList_plain hgd fun _ hK => wp_append_fresh w s x t ho S e i z size bytes ht hi hz hsize hby hzs hs a0 m c news hx hl ha hnews h1 h63 hbytes hS fun v' w' h2 h3 h4 => hK _ _ (h v' w' h2 h3 h4)
theorem step_append_fresh {ops : Array Oper} {o : Oper} {a : Act} {K : Act → World → Prop} {Q : Exit → Act → World → Prop} {E : Prop} (hgd : o.guard = none) (s x : Operand) (t : TypeId)
  (ho : o.op = .call { callee := .builtin .append, args := #[s, x], argTypes := #[t, t] })
  (S : Nat → Prop) (e : TypeId) (i : TypeInfo) (z : Value) (size bytes : Nat) (ht : P.underlying t = some (.slice e)) (hi : P.info? e = some i) (hz : i.zero = some z)
  (hsize : i.size = size) (hby : i.bytes = bytes) (hzs : z.cells.size = size) (hs : a.eval s = .slice none 0 0) (a0 : Option Addr) (m c : Nat) (news : List Value) (hx : a.eval x = .slice a0 m c) (hl : news.length = m * size) (ha : a0 = none → m = 0) (hnews : ∀ ad, a0 = some ad → ∀ j u, news[j]? = some u → w.cell? (ad.add j) = some u)
  (h1 : ∀ u ∈ news, u.oneCell' = true) (h63 : m ≤ maxLen) (hbytes : (m + m / 4 + 192) * bytes ≤ 281474976710656) (hS : S w.heap.size)
  (h : ∀ v' w', Has w' S e size v' m news → w.grownBy w' none → (∀ k, v'.ownBlock = some k → k = w.heap.size) → K (a.put o.dst v') w') :
  if Region.wanted o (yielded ops a.tmps) = true then Oper.wp P o a w K Q else E := by
 have hw : Region.wanted o (yielded ops a.tmps) = true := by simp [Region.wanted, hgd]
 rw [if_pos hw]
 exact wp_append_fresh w s x t ho S e i z size bytes ht hi hz hsize hby hzs hs a0 m c news hx hl ha hnews h1 h63 hbytes hS h
end
end Go.Proofs.YtnbibkohgppjnaaGreat.Me
