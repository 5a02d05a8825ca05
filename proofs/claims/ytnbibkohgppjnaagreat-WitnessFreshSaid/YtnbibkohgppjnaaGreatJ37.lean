import Derived.Test.YtnbibkohgppjnaaGreatJ15
import Derived.Test.YtnbibkohgppjnaaGreatJ13
import Derived.DeepKeys3
import Derived.Maps.Keyed
import Derived.Test.YtnbibkohgppjnaaGreatJ14
import Derived.Test.YtnbibkohgppjnaaGreatJ36
import Derived.Test.YtnbibkohgppjnaaGreatJ09
import Derived.OrdersIn
import Derived.WalkKit
set_option linter.unusedVariables false
set_option linter.unusedSimpArgs false
set_option maxRecDepth 100000
namespace Go.Proofs.YtnbibkohgppjnaaGreat.Ws
open Go.RowKit Mr Md
theorem sight_law : Maps.Keyed Tryz.prog 73 := Maps.Keyed.of_law (deep_law (m := 3) (by omega) (by kernel_rfl) (by kernel_rfl) (by kernel_rfl))
def IsKey (v : Value) : Prop := ∃ l, keyOf Tryz.prog 73 v = some l
def Seen (W : World) (b : Nat) (Good : Value → Value → Prop) : Prop := ∃ es clock, W.heap[b]? = some (.map es clock) ∧ ∀ e ∈ es.toList, IsKey e.key ∧ Good e.key e.val
theorem Seen.kept {W W' : World} {b : Nat} {Good : Value → Value → Prop} (h : Seen W b Good) (hk : W'.heap[b]? = W.heap[b]?) : Seen W' b Good := by
 obtain ⟨es, clock, h1, h2⟩ := h
 exact ⟨es, clock, hk.trans h1, h2⟩
theorem Seen.lt {W : World} {b : Nat} {Good : Value → Value → Prop} (h : Seen W b Good) : b < W.heap.size := by
 obtain ⟨es, clock, h1, h2⟩ := h
 exact (Array.getElem?_eq_some_iff.1 h1).1
theorem under_seen : Tryz.prog.underlying 65 = some (.map 73 3) := by kernel_rfl
theorem zero_int (w : World) : (zeroValue 3).run Tryz.prog w = .ok (.int .i64 0) w := by
 obtain ⟨i0, hinf, hz0, hz1, hz2⟩ := info_parts mp_int
 simp [zeroValue, typeInfo, hinf, hz0]
theorem Seen.look {W : World} {b : Nat} {Good : Value → Value → Prop} (h : Seen W b Good) {key : Value} (hk : IsKey key) :
  (Instr.lookup 65 (.map (some b)) key true).run Tryz.prog W = .ok (.tuple #[.int .i64 0, .bool false]) W ∨
  ∃ v, Good key v ∧ (Instr.lookup 65 (.map (some b)) key true).run Tryz.prog W = .ok (.tuple #[v, .bool true]) W := by
 obtain ⟨es, clock, h1, h2⟩ := h
 obtain ⟨kl, hkl⟩ := hk
 have K := sight_law
 rcases K.find W hkl es.toList (fun e he => (h2 e he).1) with ⟨q1, q2⟩ | ⟨j, e0, q1, q2, q3⟩
 ·left
  simp [Instr.lookup, run_underlying under_seen, MapKept.run_getObj_map h1, K.check W _ hkl, q1, zero_int, Result.andThen]
 ·right
  refine ⟨e0.val, q3 ▸ (h2 e0 (List.mem_of_getElem? q2)).2, ?_⟩
  simp [Instr.lookup, run_underlying under_seen, MapKept.run_getObj_map h1, K.check W _ hkl, q1, Result.andThen]
theorem Seen.store {W : World} {b : Nat} {Good : Value → Value → Prop} (h : Seen W b Good) {key v : Value} (hk : IsKey key) (hv : Good key v) :
  ∃ o, (Instr.mapUpdate 65 (.map (some b)) key v).run Tryz.prog W = .ok () (W.putObj b o) ∧ o.isCells = false ∧ Seen (W.putObj b o) b Good := by
 have hlt := h.lt
 obtain ⟨es, clock, h1, h2⟩ := h
 obtain ⟨kl, hkl⟩ := hk
 have K := sight_law
 rcases K.find W hkl es.toList (fun e he => (h2 e he).1) with ⟨q1, q2⟩ | ⟨j, e0, q1, q2, q3⟩
 ·refine ⟨.map (es.push ⟨key, v, clock⟩) (clock + 1), ?_, rfl, es.push ⟨key, v, clock⟩, clock + 1, World.putObj_heap_same hlt, ?_⟩
  ·simp [Instr.mapUpdate, run_underlying under_seen, MapKept.run_getObj_map h1, K.check W _ hkl, q1, Result.andThen]
   rw [MapKept.run_setObj_map _ h1]
   rfl
  ·intro e he
   simp at he
   rcases he with he | rfl
   ·exact h2 e (by simpa using he)
   ·exact ⟨⟨kl, hkl⟩, hv⟩
 ·have hj : j < es.toList.length := (List.getElem?_eq_some_iff.1 q2).1
  have q2' : es[j]? = some e0 := by rw [← q2]; simp
  refine ⟨.map (es.modify j fun e => { e with key := key, val := v }) clock, ?_, rfl, _, clock, World.putObj_heap_same hlt, ?_⟩
  ·have hs := K.stays W hkl
   simp [Instr.mapUpdate, run_underlying under_seen, MapKept.run_getObj_map h1, K.check W _ hkl, q1, q2', q3, hs, Result.andThen]
   rw [MapKept.run_setObj_map _ h1]
   rfl
  ·intro e he
   rw [Array.toList_modify] at he
   obtain ⟨i, hi, hie⟩ := List.getElem_of_mem he
   rw [List.getElem_modify] at hie
   split at hie
   ·subst hie
    exact ⟨⟨kl, hkl⟩, hv⟩
   ·subst hie
    exact h2 _ (List.getElem_mem _)
end Go.Proofs.YtnbibkohgppjnaaGreat.Ws
namespace Go.Proofs.YtnbibkohgppjnaaGreat.Ws
open Go.RowKit Mr Md
theorem mapM_some {α β : Type} {f : α → Option β} : ∀ {l : List α}, (∀ a ∈ l, ∃ b, f a = some b) → ∃ bs, l.mapM f = some bs := by
 intro l
 induction l with
 | nil => intro _; exact ⟨[], rfl⟩
 | cons a l ih =>
  intro h
  obtain ⟨b, hb⟩ := h a (by simp)
  obtain ⟨bs, hbs⟩ := ih (fun x hx => h x (by simp [hx]))
  exact ⟨b :: bs, by simp [List.mapM_cons, hb, hbs]⟩
theorem is_key {l : List Int} (hl : l.length = 22) (hw : ∀ n ∈ l, (Lit.int .i64 n).wf = true) : IsKey (.agg (ints l).toArray) := by
 have hu : Tryz.prog.underlying 73 = some (.array 22 3) := by kernel_rfl
 have hui : Tryz.prog.underlying 3 = some (.int .i64) := by kernel_rfl
 have hc : Tryz.prog.cellsOf 73 = 22 := by kernel_rfl
 have hci : Tryz.prog.cellsOf 3 = 1 := by kernel_rfl
 have hk : Tryz.prog.keyType 73 = true := by kernel_rfl
 obtain ⟨d, hd⟩ : ∃ d, Tryz.prog.types.size = d + 1 := ⟨Tryz.prog.types.size - 1, by
  have : 0 < Tryz.prog.types.size := by
   have h1 : decide (0 < Tryz.prog.types.size) = true := by kernel_rfl
   exact of_decide_eq_true h1
  omega⟩
 have hle : (ints l).length = 22 := by simp [ints, hl]
 have hin : ∃ bs, (List.range 22).mapM (fun i => Tryz.prog.keyLits (d + 1) 3 (((ints l).drop (i * Tryz.prog.cellsOf 3)).take (Tryz.prog.cellsOf 3))) = some bs := by
  refine mapM_some (fun i hi => ?_)
  have hi := List.mem_range.1 hi
  rw [hci, Nat.mul_one]
  have hx : ((ints l).drop i).take 1 = [.int .i64 (l[i]'(by omega))] := by
   rw [List.drop_eq_getElem_cons (by omega)]
   simp [ints]
  rw [hx]
  have := hw (l[i]'(by omega)) (List.getElem_mem _)
  exact ⟨[.int .i64 (l[i]'(by omega))], by simp [Program.keyLits, hui, this]⟩
 obtain ⟨bs, hbs⟩ := hin
 refine ⟨.string (keyBytes bs.flatten), ?_⟩
 have hf : (Value.agg (ints l).toArray).formed Tryz.prog 73 = true := by
  simp [Value.formed, hu, hc, hle]
 have hkl : Tryz.prog.keyLits (Tryz.prog.types.size + 1) 73 (ints l) = some bs.flatten := by
  rw [hd]
  unfold Program.keyLits
  rw [hu]
  simp only [hle, hc, if_true, hbs, Option.map_some]
 have hcs : (Value.agg (ints l).toArray).cells.toList = ints l := rfl
 unfold keyOf
 rw [hu]
 simp only [hk, hf, Bool.and_self, if_true, hcs, hkl, Option.map_some]
end Go.Proofs.YtnbibkohgppjnaaGreat.Ws
namespace Go.Proofs.YtnbibkohgppjnaaGreat.Ws
variable {X : Type}
theorem Sp.cnt_fuel (s : Sp X) : ∀ (f g P : Nat) (x : X), room s.n P ≤ f → room s.n P ≤ g → s.cnt f P x = s.cnt g P x := by
 have none_ok : ∀ P x i, i < s.n → room s.n P = 0 → s.ok P x i = false := fun P x i hi h => by
  cases hq : s.ok P x i with
  | false => rfl
  | true => have := s.new P x i hq; rw [room_zero h i hi] at this; cases this
 have zero : ∀ (g P : Nat) (x : X), room s.n P = 0 → s.cnt g P x = if s.whl P then 1 else 0 := by
  intro g P x h
  cases g with
  | zero => rfl
  | succ g =>
   rw [Sp.cnt]
   have : (List.range s.n).map (fun i => if s.ok P x i then s.cnt g (P ||| 2 ^ i) (s.nx x i) else 0) = List.replicate s.n 0 := by
    apply List.ext_getElem
    ·simp
    ·intro i h1 h2
     simp at h1
     simp [none_ok P x i h1 h]
   rw [this]; simp
 intro f
 induction f with
 | zero => intro g P x h1 h2; rw [zero 0 P x (by omega), zero g P x (by omega)]
 | succ f ih =>
  intro g P x h1 h2
  cases g with
  | zero => rw [zero 0 P x (by omega), zero (f + 1) P x (by omega)]
  | succ g =>
   rw [Sp.cnt, Sp.cnt]
   congr 2
   apply List.map_congr_left
   intro i hi
   have hi := List.mem_range.1 hi
   cases hq : s.ok P x i with
   | false => simp
   | true =>
    have := room_with hi (s.new P x i hq)
    simp only [if_true]
    exact ih g _ _ (by omega) (by omega)
theorem Sp.lst_fuel (s : Sp X) : ∀ (f g P : Nat) (x : X), room s.n P ≤ f → room s.n P ≤ g → s.lst f P x = s.lst g P x := by
 have none_ok : ∀ P x i, i < s.n → room s.n P = 0 → s.ok P x i = false := fun P x i hi h => by
  cases hq : s.ok P x i with
  | false => rfl
  | true => have := s.new P x i hq; rw [room_zero h i hi] at this; cases this
 have zero : ∀ (g P : Nat) (x : X), room s.n P = 0 → s.lst g P x = if s.whl P then some [] else none := by
  intro g P x h
  cases g with
  | zero => rfl
  | succ g =>
   rw [Sp.lst]
   split
   ·rfl
   ·rw [List.findSome?_eq_none_iff]
    intro i hi
    simp [none_ok P x i (List.mem_range.1 hi) h]
 intro f
 induction f with
 | zero => intro g P x h1 h2; rw [zero 0 P x (by omega), zero g P x (by omega)]
 | succ f ih =>
  intro g P x h1 h2
  cases g with
  | zero => rw [zero 0 P x (by omega), zero (f + 1) P x (by omega)]
  | succ g =>
   rw [Sp.lst, Sp.lst]
   split
   ·rfl
   ·have : ∀ (l : List Nat), (∀ i ∈ l, i < s.n) → l.findSome? (fun i => if s.ok P x i then (s.lst f (P ||| 2 ^ i) (s.nx x i)).map (i :: ·) else none) = l.findSome? (fun i => if s.ok P x i then (s.lst g (P ||| 2 ^ i) (s.nx x i)).map (i :: ·) else none) := by
     intro l
     induction l with
     | nil => intro _; rfl
     | cons i l ihl =>
      intro hl
      rw [List.findSome?_cons, List.findSome?_cons, ihl (fun j hj => hl j (by simp [hj]))]
      have hi := hl i (by simp)
      cases hq : s.ok P x i with
      | false => simp
      | true =>
       have := room_with hi (s.new P x i hq)
       simp only [if_true]
       rw [ih g _ _ (by omega) (by omega)]
    exact this _ (fun i hi => List.mem_range.1 hi)
def Sp.num (s : Sp X) (P : Nat) (x : X) : Nat := s.cnt s.n P x
def Sp.upto (s : Sp X) (P : Nat) (x : X) : Nat → Nat
 | 0 => if s.whl P then 1 else 0
 | k + 1 => s.upto P x k + (if s.ok P x k then s.num (P ||| 2 ^ k) (s.nx x k) else 0)
theorem Sp.num_upto (s : Sp X) (P : Nat) (x : X) : s.num P x = s.upto P x s.n := by
 have h : s.num P x = s.cnt (s.n + 1) P x := s.cnt_fuel _ _ P x (room_le _ _) (Nat.le_succ_of_le (room_le _ _))
 rw [h, Sp.cnt]
 have : ∀ k, (if s.whl P then 1 else 0) + ((List.range k).map (fun i => if s.ok P x i then s.cnt s.n (P ||| 2 ^ i) (s.nx x i) else 0)).sum = s.upto P x k := by
  intro k
  induction k with
  | zero => simp [Sp.upto]
  | succ k ih =>
   rw [List.range_succ, List.map_append, List.sum_append, Sp.upto, ← ih]
   simp [Sp.num, Nat.add_assoc]
 exact this s.n
theorem Sp.cnt_le (s : Sp X) : ∀ (f P : Nat) (x : X), s.cnt f P x ≤ (s.n + 1) ^ f := by
 intro f
 induction f with
 | zero => intro P x; rw [Sp.cnt]; split <;> simp
 | succ f ih =>
  intro P x
  rw [Sp.cnt]
  have hs : ∀ (l : List Nat), ((l.map (fun i => if s.ok P x i then s.cnt f (P ||| 2 ^ i) (s.nx x i) else 0)).sum) ≤ l.length * (s.n + 1) ^ f := by
   intro l
   induction l with
   | nil => simp
   | cons i l ihl =>
    rw [List.map_cons, List.sum_cons, List.length_cons, Nat.add_mul, Nat.one_mul]
    have : (if s.ok P x i then s.cnt f (P ||| 2 ^ i) (s.nx x i) else 0) ≤ (s.n + 1) ^ f := by
     split
     ·exact ih _ _
     ·exact Nat.zero_le _
    omega
  have h1 := hs (List.range s.n)
  rw [List.length_range] at h1
  have h2 : 1 ≤ (s.n + 1) ^ f := Nat.one_le_pow _ _ (by omega)
  have h3 : (if s.whl P then 1 else 0) ≤ 1 := by split <;> omega
  rw [Nat.pow_succ, Nat.mul_add, Nat.mul_one, Nat.mul_comm ((s.n + 1) ^ f) s.n]
  omega
theorem Sp.num_le (s : Sp X) (h : s.n ≤ 8) (P : Nat) (x : X) : s.num P x ≤ 43046721 :=
 Nat.le_trans (s.cnt_le _ _ _) (Nat.le_trans (Nat.pow_le_pow_left (show s.n + 1 ≤ 9 by omega) _) (Nat.le_trans (Nat.pow_le_pow_right (by omega) h) (by decide)))
theorem Sp.upto_le (s : Sp X) {M : Nat} (h : ∀ P x, s.num P x ≤ M) (P : Nat) (x : X) : ∀ k, s.upto P x k ≤ 1 + k * M := by
 intro k
 induction k with
 | zero => rw [Sp.upto]; split <;> omega
 | succ k ih =>
  rw [Sp.upto, Nat.add_mul, Nat.one_mul]
  have := h (P ||| 2 ^ k) (s.nx x k)
  split <;> omega
end Go.Proofs.YtnbibkohgppjnaaGreat.Ws
namespace Go.Proofs.YtnbibkohgppjnaaGreat.Ws
open Md Wt
def mks (p : Nat → Bool) : Nat → Nat → Nat
 | 0, P => P
 | n + 1, P => if p n then mks p n P ||| 2 ^ n else mks p n P
theorem mks_test (p : Nat → Bool) (P j : Nat) : ∀ n, (mks p n P).testBit j = (P.testBit j || (decide (j < n) && p j)) := by
 intro n
 induction n with
 | zero => simp [mks]
 | succ n ih =>
  rw [mks]
  split
  ·rename_i h
   rw [test_or, ih]
   by_cases e : n = j
   ·subst e; simp [h]
   ·have : (decide (j < n + 1)) = decide (j < n) := by rw [decide_eq_decide]; omega
    simp [e, this]
  ·rename_i h
   rw [ih]
   by_cases e : n = j
   ·subst e; simp at h; simp [h]
   ·have : (decide (j < n + 1)) = decide (j < n) := by rw [decide_eq_decide]; omega
    simp [this]
theorem mks_lt (p : Nat → Bool) : ∀ n, n ≤ 8 → mks p n 0 < 256 := by
 intro n
 induction n with
 | zero => intro _; simp [mks]
 | succ n ih =>
  intro h
  rw [mks]
  split
  ·exact with_lt (n := 8) (by omega) (ih (by omega))
  ·exact ih (by omega)
theorem in8_mks (p : Nat → Bool) (n : Nat) (hn : n ≤ 8) (P : Nat) : inB8 (mks p n 0) P = (List.range n).all (fun k => !p k || P.testBit k) := by
 rw [Bool.eq_iff_iff, inB8, List.all_eq_true, List.all_eq_true]
 constructor
 ·intro h k hk
  have hk := List.mem_range.1 hk
  have := h k (List.mem_range.2 (by omega))
  rw [mks_test] at this
  cases hp : p k with
  | false => simp
  | true => simpa [hp, hk] using this
 ·intro h k hk
  rw [mks_test]
  by_cases hkn : k < n
  ·have := h k (List.mem_range.2 hkn)
   simpa [hkn] using this
  ·simp [hkn]
def enM (sc : List Cq) : Nat := mks (fun i => endB (cd sc i)) sc.length 0
def ahM (sc : List Cq) (i : Nat) : Nat := mks (fun k => ahB (cd sc k) (cd sc i)) sc.length 0
theorem en_whl (sc : List Cq) (h : sc.length ≤ 8) (P : Nat) : inB8 (enM sc) P = whlB sc P := by
 rw [enM, in8_mks _ _ h, whlB]
 congr 1
 funext i
 congr 1
 simp [endB, bne]
theorem ah_ahm (sc : List Cq) (h : sc.length ≤ 8) (P i : Nat) : inB8 (ahM sc i) P = ahmB sc P i := by
 rw [ahM, in8_mks _ _ h, ahmB]
end Go.Proofs.YtnbibkohgppjnaaGreat.Ws
namespace Go.Proofs.YtnbibkohgppjnaaGreat.Ws
open Go.RowKit Mr Md Wt
attribute [local go_sem] Oper.semAt_some
def GoodC (sc : List Cq) (key v : Value) : Prop := ∀ P x, key = .agg (ints (sgt P x)).toArray → v = .int .i64 ((spc sc).num P x : Int)
structure Sr (W : World) (bs bm : Nat) (T : Nat → Prop) (vc vn : Value) (sc : List Cq) (Good : Value → Value → Prop) : Prop where
 sb : W.heap[bs]? = some (sbO vc vn (ahM sc) (enM sc) (.map (some bm)))
 cl : Sl W T 9 vc sc.length (cqs sc)
 sn : Seen W bm Good
 nT : ¬ T bm
 ne : bs ≠ bm
theorem there_new (w1 : World) (cs : Array Value) (h : cs.size = 22) : (w1.alloc (.cells cs 73 (0, 0))).there w1.heap.size 0 22 := by
 intro j hj
 have hb := new_at w1 (.cells cs 73 (0, 0)) _ rfl
 refine ⟨?_, by unfold World.frozen?; rw [hb]; simp⟩
 unfold World.cell?
 rw [hb]
 show (cs[0 + j]?).isSome = true
 rw [Nat.zero_add, Array.getElem?_eq_getElem (by omega)]; rfl
theorem run_look {P : Program} {w : World} {t : TypeId} {m k v : Value} (h : (Instr.lookup t m k true).run P w = .ok v w) : ((do pure (Next.value (← Instr.lookup t m k true))) : Sem Next).run P w = .ok (.value v) w := by
 simp [h]
theorem sl_inb {w : World} {T : Nat → Prop} {size n : Nat} {v : Value} {xs : List Value} (h : Sl w T size v n xs) : Sl w (fun k => T k ∧ k < w.heap.size) size v n xs := by
 obtain ⟨h1, a, cap, hv, hc, h2⟩ := h
 refine ⟨h1, a, cap, hv, hc, h2.imp id ?_⟩
 rintro ⟨b, o, ha, hb, hl, hr⟩
 exact ⟨b, o, ha, ⟨hb, hl⟩, hl, hr⟩
theorem ct_inb {w : World} {T : Nat → Prop} {v0 v1 v2 v3 v4 : Value} {x : Ct} (h : CtAt w T v0 v1 v2 v3 v4 x) : CtAt w (fun k => T k ∧ k < w.heap.size) v0 v1 v2 v3 v4 x :=
 ⟨sl_inb h.cell, sl_inb h.stack, sl_inb h.queue, sl_inb h.set, sl_inb h.table⟩
theorem fr_one (w : World) (l : Nat) (o : Obj) : Fr w (w.putObj l o) (fun k => k = l) := ⟨rfl, rfl, rfl, by simp [World.putObj], fun k _ hk => World.putObj_heap_other (by omega)⟩
theorem cell_put {W : World} {l : Nat} {o o' : Obj} (ho : W.heap[l]? = some o) (hc : o.isCells = false) {p : Addr} {u : Value} (h : W.cell? p = some u) : (W.putObj l o').cell? p = some u := by
 by_cases e : p.block = l
 ·exfalso
  unfold World.cell? at h
  rw [e, ho] at h
  cases o <;> simp_all [Obj.isCells]
 ·unfold World.cell? at h ⊢
  rw [World.putObj_heap_other e]
  exact h
theorem sl_put {W : World} {T : Nat → Prop} {size n : Nat} {v : Value} {xs : List Value} (h : Sl W T size v n xs) {l : Nat} {o o' : Obj} (ho : W.heap[l]? = some o) (hc : o.isCells = false) : Sl (W.putObj l o') T size v n xs := by
 obtain ⟨h1, a, cap, hv, hc', h2⟩ := h
 refine ⟨h1, a, cap, hv, hc', h2.imp id ?_⟩
 rintro ⟨b, q, ha, hb, hl, hr⟩
 exact ⟨b, q, ha, hb, by simpa [World.putObj] using hl, fun j u hj => cell_put ho hc (hr j u hj)⟩
theorem ct_put {W : World} {T : Nat → Prop} {v0 v1 v2 v3 v4 : Value} {x : Ct} (h : CtAt W T v0 v1 v2 v3 v4 x) {l : Nat} {o o' : Obj} (ho : W.heap[l]? = some o) (hc : o.isCells = false) : CtAt (W.putObj l o') T v0 v1 v2 v3 v4 x :=
 ⟨sl_put h.cell ho hc, sl_put h.stack ho hc, sl_put h.queue ho hc, sl_put h.set ho hc, sl_put h.table ho hc⟩
theorem block_put {W : World} {l b : Nat} {o o' : Obj} (ho : W.heap[l]? = some o) (hc : o.isCells = false) {cs : Array Value} {t : TypeId} {f : Nat × Nat} (h : W.heap[b]? = some (.cells cs t f)) : (W.putObj l o').heap[b]? = some (.cells cs t f) := by
 by_cases e : b = l
 ·subst e; rw [h] at ho; cases ho; cases hc
 ·rw [World.putObj_heap_other e]; exact h
theorem ints_inj {l m : List Int} (h : ints l = ints m) : l = m := by
 unfold ints at h
 exact (List.map_inj_right (fun a b e => by injection e)).1 h
theorem key_inj {P P' : Nat} {x x' : Ct} (h : Value.agg (ints (sgt P x)).toArray = .agg (ints (sgt P' x')).toArray) : P = P' ∧ x = x' := by
 have h1 : (ints (sgt P x)).toArray = (ints (sgt P' x')).toArray := by injection h
 exact sgt_inj (ints_inj (List.toArray_inj h1))
theorem cd_mem {sc : List Cq} {k : Nat} (h : k < sc.length) : cd sc k ∈ sc := by
 unfold cd
 rw [List.getElem?_eq_getElem h]
 exact List.getElem_mem h
theorem ok_yes {sc : List Cq} {P : Nat} {x : Ct} {k : Nat} (h : (spc sc).ok P x k = true) : (alw x (cd sc k)).2 = true := by
 simp only [spc, Bool.and_eq_true] at h
 exact h.2
theorem ints_append (l m : List Int) : ints (l ++ m) = ints l ++ ints m := by simp [ints]
theorem newsOne {w : World} {b : Nat} {u : Value} (h : w.cell? ⟨b, 0, none⟩ = some u) : ∀ (j : Nat) (v : Value), [u][j]? = some v → w.cell? ((⟨b, 0, none⟩ : Addr).add j) = some v := by
 intro j v hj
 match j, hj with
 | 0, hj =>
  simp at hj
  subst hj
  rw [show (⟨b, 0, none⟩ : Addr).add 0 = ⟨b, 0, none⟩ by simp [Addr.add]]
  exact h
theorem cell_of {w : World} {b : Nat} {v : Value} {t : TypeId} {f : Nat × Nat} (h : w.heap[b]? = some (.cells #[v] t f)) : w.cell? ⟨b, 0, none⟩ = some v := by unfold World.cell?; rw [h]; rfl
def noPan (Q : Exit → Act → World → Prop) : Exit → Act → World → Prop
 | .panic _, _, _ => False
 | e, a, w => Q e a w
theorem noPan_le {Q : Exit → Act → World → Prop} (e : Exit) (a : Act) (w : World) (h : noPan Q e a w) : Q e a w := by
 cases e <;> first | exact h | exact h.elim
end Go.Proofs.YtnbibkohgppjnaaGreat.Ws
namespace Go.Proofs.YtnbibkohgppjnaaGreat.Ws
open Go.RowKit Mr Md Wt
section
variable {X : Type}
def Sp.lm (s : Sp X) (P : Nat) (x : X) : Option (List Nat) := s.lst s.n P x
theorem Sp.lm_step (s : Sp X) (P : Nat) (x : X) : s.lm P x = if s.whl P then some [] else (List.range s.n).findSome? (fun i => if s.ok P x i then (s.lm (P ||| 2 ^ i) (s.nx x i)).map (i :: ·) else none) := by
 have h : s.lm P x = s.lst (s.n + 1) P x := s.lst_fuel _ _ P x (room_le _ _) (Nat.le_succ_of_le (room_le _ _))
 rw [h, Sp.lst]
 rfl
theorem find_first {n : Nat} {g : Nat → Option (List Nat)} {k : Nat} {l : List Nat} (hk : k < n) (h : g k = some l) (h0 : ∀ j, j < k → g j = none) : (List.range n).findSome? g = some l := by
 cases hq : (List.range n).findSome? g with
 | none =>
  have := List.findSome?_eq_none_iff.1 hq k (List.mem_range.2 hk)
  rw [h] at this; cases this
 | some m =>
  obtain ⟨i, hi, h1, h2⟩ := find_least hq
  have : i = k := by
   rcases Nat.lt_trichotomy i k with e | e | e
   ·rw [h0 i e] at h1; cases h1
   ·exact e
   ·rw [h2 k e] at h; cases h
  subst this
  rw [h] at h1
  exact h1.symm
theorem Sp.lm_whole (s : Sp X) {P : Nat} {x : X} (h : s.whl P = true) : s.lm P x = some [] := by rw [s.lm_step, if_pos h]
theorem Sp.lm_some (s : Sp X) {P : Nat} {x : X} (h : s.whl P = false) {k : Nat} {l : List Nat} (hk : k < s.n) (ho : s.ok P x k = true) (hl : s.lm (P ||| 2 ^ k) (s.nx x k) = some l) (h0 : ∀ j, j < k → s.ok P x j = true → s.lm (P ||| 2 ^ j) (s.nx x j) = none) : s.lm P x = some (k :: l) := by
 rw [s.lm_step, h, if_neg (by simp)]
 refine find_first hk (by rw [if_pos ho, hl]; rfl) (fun j hj => ?_)
 by_cases hq : s.ok P x j = true
 ·rw [if_pos hq, h0 j hj hq]; rfl
 ·rw [if_neg hq]
theorem Sp.lm_none (s : Sp X) {P : Nat} {x : X} (h : s.whl P = false) (h0 : ∀ j, j < s.n → s.ok P x j = true → s.lm (P ||| 2 ^ j) (s.nx x j) = none) : s.lm P x = none := by
 rw [s.lm_step, h, if_neg (by simp), List.findSome?_eq_none_iff]
 intro j hj
 by_cases hq : s.ok P x j = true
 ·rw [if_pos hq, h0 j (List.mem_range.1 hj) hq]; rfl
 ·rw [if_neg hq]
end
def GoodL (sc : List Cq) (key v : Value) : Prop := ∀ P x, key = .agg (ints (sgt P x)).toArray → (spc sc).lm P x = none
def Kp (W W' : World) (g c : Nat) : Prop := ∃ cur cur' t, W.heap[g]? = some (.cells cur t (0, 0)) ∧ W'.heap[g]? = some (.cells cur' t (0, 0)) ∧ cur'.size = cur.size ∧ cur'.toList.take c = cur.toList.take c
theorem Kp.trans {A B C : World} {g c : Nat} (h : Kp A B g c) (k : Kp B C g c) : Kp A C g c := by
 obtain ⟨x, y, t, h1, h2, h3, h4⟩ := h
 obtain ⟨y', z, t', k1, k2, k3, k4⟩ := k
 rw [h2] at k1
 cases k1
 exact ⟨x, z, t, h1, k2, k3.trans h3, k4.trans h4⟩
theorem Kp.mono {A B : World} {g c d : Nat} (h : Kp A B g c) (hd : d ≤ c) : Kp A B g d := by
 obtain ⟨x, y, t, h1, h2, h3, h4⟩ := h
 refine ⟨x, y, t, h1, h2, h3, ?_⟩
 have := congrArg (List.take d) h4
 rwa [List.take_take, List.take_take, Nat.min_eq_left hd] at this
theorem Kp.then {A B C : World} {g c : Nat} (h : Kp A B g c) (hb : C.heap[g]? = B.heap[g]?) : Kp A C g c := by
 obtain ⟨x, y, t, h1, h2, h3, h4⟩ := h
 exact ⟨x, y, t, h1, hb.trans h2, h3, h4⟩
theorem Kp.of_has {w w' : World} {S : Nat → Prop} {e : TypeId} {size n c : Nat} {v : Value} {xs : List Value} (h : Has w S e size v n xs) {g : Nat} (hg : v.ownBlock = some g) (hb : w'.heap[g]? = w.heap[g]?) : Kp w w' g c := by
 rcases h.2 with ⟨rfl, _⟩ | ⟨g', cap, cur, rfl, _, hgg, _⟩
 ·simp [Value.ownBlock] at hg
 ·simp [Value.ownBlock] at hg
  subst hg
  exact ⟨cur, cur, e, hgg, hb.trans hgg, rfl, rfl⟩
theorem Kp.put {A B : World} {g c l : Nat} (h : Kp A B g c) {o o' : Obj} (ho : B.heap[l]? = some o) (hc : o.isCells = false) : Kp A (B.putObj l o') g c := by
 obtain ⟨x, y, t, h1, h2, h3, h4⟩ := h
 exact ⟨x, y, t, h1, block_put ho hc h2, h3, h4⟩
theorem has_kp {w w' : World} {S : Nat → Prop} {e : TypeId} {size n : Nat} {v : Value} {xs : List Value} (h : Has w S e size v n xs) (hk : ∀ g, v.ownBlock = some g → Kp w w' g (n * size)) : Has w' S e size v n xs := by
 refine ⟨h.1, ?_⟩
 rcases h.2 with h2 | ⟨g, cap, cur, rfl, hS, hg, h3, h4, h5, h6⟩
 ·exact .inl h2
 ·obtain ⟨x, y, t, k1, k2, k3, k4⟩ := hk g rfl
  rw [hg] at k1
  cases k1
  exact .inr ⟨g, cap, y, rfl, hS, k2, h3, h4, by rw [k3]; exact h5, by rw [k4]; exact h6⟩
section
variable {P : Program} (w : World)
theorem run_append_keep (S : Nat → Prop) (t ty e : TypeId) (i : TypeInfo) (z : Value) (size bytes : Nat) (ht : P.underlying t = some (.slice e)) (hi : P.info? e = some i) (hz : i.zero = some z)
  (hsize : i.size = size) (hby : i.bytes = bytes) (hzs : z.cells.size = size)
  (v : Value) (n : Nat) (xs : List Value) (hown : Has w S e size v n xs)
  (a : Addr) (m c : Nat) (news : List Value) (hl : news.length = m * size) (hnews : ∀ j u, news[j]? = some u → w.cell? (a.add j) = some u) (h1 : ∀ u ∈ news, u.oneCell' = true)
  (hm : 0 < m) (h63 : n + m ≤ maxLen) (hbytes : ((n + m) + (n + m) / 4 + 192) * bytes ≤ 281474976710656) (hS : S w.heap.size) :
  ∃ g cap w', (Builtin.append_ #[t, t] ty #[v, .slice (some a) m c]).run P w = .ok (.slice (some ⟨g, 0, none⟩) (n + m) cap) w' ∧ Has w' S e size (.slice (some ⟨g, 0, none⟩) (n + m) cap) (n + m) (xs ++ news) ∧ w.grownBy w' v.ownBlock ∧
   (v.ownBlock = some g ∨ g = w.heap.size) ∧ (∀ k, v.ownBlock = some k → Kp w w' k (n * size)) := by
 subst hsize
 subst hby
 have hsmall : n + m ≤ 9223372036854775807 := by simp only [maxLen] at h63; omega
 have hlen : (xs ++ news).length = (n + m) * i.size := by rw [List.length_append, hown.1, hl, Nat.add_mul]
 rcases hown.2 with ⟨rfl, rfl⟩ | ⟨g, cap, cur, rfl, hbg, hg, hnc, hcm, hcs, htake⟩
 ·have hx : xs = [] := List.eq_nil_of_length_eq_zero (by simpa using hown.1)
  subst hx
  have hr := run_append_nil (P := P) w t ty e i z ht hi hz a m c news hl hnews (by omega) (by omega) (by
   refine Nat.le_trans (Nat.mul_le_mul_right _ ?_) hbytes; omega)
  have hgr := grown_has w e i.size z hzs (0 + m) 0 h63 S hS ([] ++ news) hlen #[] news.toArray (by simp) (Value.ownBlock (.slice none 0 0))
  simp only [Nat.zero_add, List.nil_append, Array.empty_append] at hgr ⊢
  exact ⟨_, _, _, hr, hgr.1, hgr.2, .inr rfl, fun k hk => by simp [Value.ownBlock] at hk⟩
 ·by_cases hroom : n + m ≤ cap
  ·have hfit : n * i.size + news.length ≤ cur.size := by rw [hl, ← Nat.add_mul]; exact Nat.le_trans (Nat.mul_le_mul_right _ hroom) hcs
   have hr := run_append_room (P := P) w t ty e i ht hi g n cap cur hg a m c news hl hnews h1 hroom hfit
   have hsz : cap * i.size ≤ (cur.toList.take (n * i.size) ++ news ++ cur.toList.drop (n * i.size + news.length)).toArray.size := by
    simp only [List.size_toArray, List.length_append, List.length_take, List.length_drop, Array.length_toList]
    omega
   refine ⟨_, _, _, hr, ⟨hlen, .inr ⟨g, cap, _, rfl, hbg, setRow_heap w g cur _ e _ hg, hroom, hcm, hsz, ?_⟩⟩, ⟨rfl, rfl, rfl, by simp, fun k _ hk => setRow_other w g k _ (fun e => hk (by simp [Value.ownBlock, e]))⟩, .inl rfl, fun k hk => ?_⟩
   ·rw [htake, ← hlen]
    exact List.take_left
   ·simp [Value.ownBlock] at hk
    subst hk
    refine ⟨cur, _, e, hg, setRow_heap w g cur _ e _ hg, ?_, ?_⟩
    ·simp only [List.size_toArray, List.length_append, List.length_take, List.length_drop, Array.length_toList]
     omega
    ·rw [htake, ← hown.1, List.append_assoc]
     exact List.take_left
  ·have holds : ∀ j u, xs[j]? = some u → w.cell? ((⟨g, 0, none⟩ : Addr).add j) = some u := fun j u hu => by
    have hadd : (⟨g, 0, none⟩ : Addr).add j = ⟨g, j, none⟩ := by unfold Addr.add; split <;> simp_all
    rw [hadd]; exact hown.cells (g := g) rfl j u hu
   have hr := run_append_grow (P := P) w t ty e i z ht hi hz ⟨g, 0, none⟩ n cap xs hown.1 holds a m c news hl hnews (by omega) (by omega) (growslice_fits_wide (by omega) hbytes)
   have hgr := grown_has w e i.size z hzs (n + m) cap h63 S hS (xs ++ news) hlen xs.toArray news.toArray (by simp) (Value.ownBlock (.slice (some ⟨g, 0, none⟩) n cap))
   exact ⟨_, _, _, hr, hgr.1, hgr.2, .inr rfl, fun k hk => Kp.of_has hown hk (Below.heap_alloc w.drew _ k (hown.lt k hk).2)⟩
theorem opIn_append_keep {F : Fence} {k : Nat} {o : Oper} {a : Act} {Q : Exit → Act → World → Prop} {K : Act → World → Prop} (s x : Operand) (t : TypeId)
  (ho : o.op = .call { callee := .builtin .append, args := #[s, x], argTypes := #[t, t] })
  (S : Nat → Prop) (e : TypeId) (i : TypeInfo) (z : Value) (size bytes : Nat) (ht : P.underlying t = some (.slice e)) (hi : P.info? e = some i) (hz : i.zero = some z)
  (hsize : i.size = size) (hby : i.bytes = bytes) (hzs : z.cells.size = size)
  (v : Value) (n : Nat) (xs : List Value) (hs : a.eval s = v) (hown : Has w S e size v n xs)
  (ad : Addr) (m c : Nat) (news : List Value) (hx : a.eval x = .slice (some ad) m c) (hl : news.length = m * size) (hnews : ∀ j u, news[j]? = some u → w.cell? (ad.add j) = some u) (h1 : ∀ u ∈ news, u.oneCell' = true)
  (hm : 0 < m) (h63 : n + m ≤ maxLen) (hbytes : ((n + m) + (n + m) / 4 + 192) * bytes ≤ 281474976710656) (hS : S w.heap.size)
  (h : ∀ g cap w', Has w' S e size (.slice (some ⟨g, 0, none⟩) (n + m) cap) (n + m) (xs ++ news) → w.grownBy w' v.ownBlock → (v.ownBlock = some g ∨ g = w.heap.size) → (∀ k, v.ownBlock = some k → Kp w w' k (n * size)) → K (a.put o.dst (.slice (some ⟨g, 0, none⟩) (n + m) cap)) w') :
  Oper.wpIn F k P o a w K Q := by
 obtain ⟨g, cap, w', hr, h2, h3, h4, h5⟩ := run_append_keep (P := P) w S t o.type e i z size bytes ht hi hz hsize hby hzs v n xs hown ad m c news hl hnews h1 hm h63 hbytes hS
 unfold Oper.wpIn
 refine ⟨?_, ?_⟩
 ·simp [Oper.about, ho, resolve, Target.leads, Sem.run_pure]
 ·rw [Oper.semAt_plain F _ _ (by rw [ho]; intro c hc'; cases hc')]
  simp [execOp, ho, resolve, invoke, builtin, hs, hx, hr, Result.andThen]
  exact h g cap w' h2 h3 h4 h5
end
end Go.Proofs.YtnbibkohgppjnaaGreat.Ws
namespace Go.Proofs.YtnbibkohgppjnaaGreat.Ws
open Go.RowKit
def depsOk (md : Region.Mode) (ops : Array Oper) (dep : Nat → List Nat) : Bool :=
 (List.range ops.size).all fun i => ((ops[i]?).map fun o => (o.after.all fun e => !Region.binds md e || decide (e.on < i)) && ((dep i).all fun k => o.after.any fun e => Region.binds md e && decide (e.on = k))).getD false
def upd (x : Nat → Value) (i : Nat) (y : Value) : Nat → Value := fun j => if j = i then y else x j
def upb (D : Nat → Bool) (i : Nat) : Nat → Bool := fun j => decide (j = i) || D j
section
variable {F : Fence} {n : Nat} {P : Program} {ops : Array Oper} {Q : Exit → Act → World → Prop} {md : Region.Mode}
theorem depsOk_at {dep : Nat → List Nat} (h : depsOk md ops dep = true) {i : Nat} {o : Oper} (ho : ops[i]? = some o) :
  (∀ e ∈ o.after, Region.binds md e = true → e.on < i) ∧ ∀ k ∈ dep i, ∃ e ∈ o.after, Region.binds md e = true ∧ e.on = k := by
 have hi : i < ops.size := (Array.getElem?_eq_some_iff.1 ho).1
 have := List.all_eq_true.1 h i (List.mem_range.2 hi)
 rw [ho] at this
 simp only [Option.map_some, Option.getD_some, Bool.and_eq_true] at this
 refine ⟨fun e he hb => ?_, fun k hk => ?_⟩
 ·have h1 := Array.all_eq_true'.1 this.1 e he
  rw [hb] at h1
  simpa using h1
 ·have h1 := List.all_eq_true.1 this.2 k hk
  obtain ⟨e, he, h2⟩ := Array.any_eq_true'.1 h1
  rw [Bool.and_eq_true, decide_eq_true_eq] at h2
  exact ⟨e, he, h2.1, h2.2⟩
theorem all_listed {dep : Nat → List Nat} (hc : depsOk md ops dep = true) {L : Array Bool} (hL : L.size = ops.size) (hr : Region.ready md ops L = []) : ∀ j, j < ops.size → L.getD j false = true := by
 intro j
 induction j using Nat.strongRecOn with
 | _ j ih =>
  intro hj
  cases hq : L.getD j false with
  | true => rfl
  | false =>
   exfalso
   have ho : ops[j]? = some ops[j] := Array.getElem?_eq_getElem hj
   have hm : j ∈ Region.ready md ops L := by
    refine mem_ready.2 ⟨?_, _, ho, fun e he hb => ?_⟩
    ·rw [Array.getD_eq_getD_getElem?, Array.getElem?_eq_getElem (by omega)] at hq ⊢
     exact hq
    ·have := (depsOk_at hc ho).1 e he hb
     exact ih _ this (by omega)
   rw [hr] at hm
   cases hm
theorem wpAnyIn_walk {dep : Nat → List Nat} (hc : depsOk md ops dep = true) (A : (Nat → Value) → Act) (Inv : (Nat → Bool) → (Nat → Value) → World → Prop)
  (hstep : ∀ i, i < ops.size → ∀ D x w, D i = false → (∀ k ∈ dep i, D k = true) → (∀ j, D j = true → ∀ k ∈ dep j, D k = true) → Inv D x w → ∀ K : Act → World → Prop, (∀ y w', Inv (upb D i) (upd x i y) w' → K (A (upd x i y)) w') → wpOpIn F n P ops Q i K (A x) w)
  (hend : ∀ x w, Inv (fun j => decide (j < ops.size)) x w → Q .normal (A x) w) :
  ∀ (fuel : Nat) (L : Array Bool) (x : Nat → Value) (w : World), L.size = ops.size → ((List.range ops.size).filter (fun j => !L.getD j false)).length ≤ fuel → (∀ j, L.getD j false = true → ∀ k ∈ dep j, L.getD k false = true) → Inv (fun j => L.getD j false) x w → wpAnyIn F n P md ops Q fuel L (A x) w := by
 have fin : ∀ (L : Array Bool) (x : Nat → Value) (w : World), L.size = ops.size → Region.ready md ops L = [] → Inv (fun j => L.getD j false) x w → Q .normal (A x) w := by
  intro L x w hL hr hI
  have := all_listed hc hL hr
  refine hend x w ?_
  have e : (fun j => L.getD j false) = (fun j => decide (j < ops.size)) := by
   funext j
   by_cases hj : j < ops.size
   ·rw [this j hj]; simp [hj]
   ·simp [hj, Array.getD_eq_getD_getElem?, Array.getElem?_eq_none (show L.size ≤ j by omega)]
  rw [← e]; exact hI
 intro fuel
 induction fuel with
 | zero =>
  intro L x w hL hn hcl hI
  have hr : Region.ready md ops L = [] := by
   cases hq : Region.ready md ops L with
   | nil => rfl
   | cons i l =>
    exfalso
    obtain ⟨h0, o, ho, _⟩ := mem_ready.1 (show i ∈ Region.ready md ops L by rw [hq]; simp)
    have hi : i < ops.size := (Array.getElem?_eq_some_iff.1 ho).1
    have h1 := List.eq_nil_of_length_eq_zero (Nat.le_zero.1 hn)
    have h2 := List.filter_eq_nil_iff.1 h1 i (List.mem_range.2 hi)
    rw [Array.getD_eq_getD_getElem?, Array.getElem?_eq_getElem (by omega)] at h0 h2
    simp at h0 h2
    rw [h0] at h2; cases h2
  exact ⟨hr, fin L x w hL hr hI⟩
 | succ fuel ih =>
  intro L x w hL hn hcl hI
  refine ⟨fun hr => fin L x w hL hr hI, fun i hi => ?_⟩
  obtain ⟨h0, o, ho, hd⟩ := mem_ready.1 hi
  have hil : i < ops.size := (Array.getElem?_eq_some_iff.1 ho).1
  have hDi : L.getD i false = false := by
   rw [Array.getD_eq_getD_getElem?, Array.getElem?_eq_getElem (by omega)] at h0 ⊢
   exact h0
  have hdep : ∀ k ∈ dep i, L.getD k false = true := fun k hk => by
   obtain ⟨e, he, hb, rfl⟩ := (depsOk_at hc ho).2 k hk
   exact hd e he hb
  have hup : (fun j => (L.setIfInBounds i true).getD j false) = upb (fun j => L.getD j false) i := by
   funext j
   unfold upb
   by_cases hj : j = i
   ·subst hj
    simp [Array.getD_eq_getD_getElem?, show j < L.size by omega]
   ·simp [Array.getD_eq_getD_getElem?, hj, Array.getElem?_setIfInBounds_ne (show i ≠ j from fun e => hj e.symm)]
  refine hstep i hil _ x w hDi hdep hcl hI _ (fun y w' hI' => ?_)
  rw [← hup] at hI'
  refine ih _ (upd x i y) w' (by simp [hL]) ?_ ?_ hI'
  ·have := count_flip ops.size (fun j => !L.getD j false) (fun j => !(L.setIfInBounds i true).getD j false) i hil (by simp [hDi]) (by have := congrFun hup i; simp only [upb, decide_true, Bool.true_or] at this; rw [this]; rfl) (fun j hj => by
    have := congrFun hup j
    simp only [upb, hj, decide_false, Bool.false_or] at this
    rw [this])
   omega
  ·intro j hj k hk
   have h1 := congrFun hup j
   have h2 := congrFun hup k
   simp only [upb] at h1 h2
   rw [h1] at hj
   rw [h2]
   by_cases e : j = i
   ·subst e
    simp [hdep k hk]
   ·rw [decide_eq_false e, Bool.false_or] at hj
    rw [hcl j hj k hk, Bool.or_true]
theorem wpAnyIn_walks {dep : Nat → List Nat} (hc : depsOk md ops dep = true) (A : (Nat → Value) → Act) (Inv : (Nat → Bool) → (Nat → Value) → World → Prop) {L : Array Bool} (hL : L = Array.replicate ops.size false) (x : Nat → Value) {w : World} (h0 : Inv (fun _ => false) x w)
  (hstep : ∀ i, i < ops.size → ∀ D x w, D i = false → (∀ k ∈ dep i, D k = true) → (∀ j, D j = true → ∀ k ∈ dep j, D k = true) → Inv D x w → ∀ K : Act → World → Prop, (∀ y w', Inv (upb D i) (upd x i y) w' → K (A (upd x i y)) w') → wpOpIn F n P ops Q i K (A x) w)
  (hend : ∀ x w, Inv (fun j => decide (j < ops.size)) x w → Q .normal (A x) w) : wpAnyIn F n P md ops Q ops.size L (A x) w := by
 have hg : ∀ j, L.getD j false = false := fun j => by
  rw [hL, Array.getD_eq_getD_getElem?]
  by_cases hj : j < ops.size
  ·simp [hj]
  ·simp [Array.getElem?_eq_none (show (Array.replicate ops.size false).size ≤ j by simp; omega)]
 refine wpAnyIn_walk hc A Inv hstep hend _ L x w (by rw [hL]; simp) ?_ (fun j hj => by rw [hg] at hj; cases hj) ?_
 ·exact Nat.le_trans (List.length_filter_le _ _) (by simp)
 ·rw [show (fun j => L.getD j false) = (fun _ => false) from funext hg]; exact h0
end
end Go.Proofs.YtnbibkohgppjnaaGreat.Ws
