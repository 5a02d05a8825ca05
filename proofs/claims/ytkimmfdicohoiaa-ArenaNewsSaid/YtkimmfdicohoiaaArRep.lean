import Derived.Test.YtkimmfdicohoiaaArPure
import Derived.Test.YtkimmfdicohoiaaChecked
import Derived.Test.YtkimmfdicohoiaaWordPlain
import Derived.WalkKit
import Derived.WalkSpells
import Derived.OpenShut
import Derived.Outline
import Derived.Test.YtkimmfdicohoiaaWordAddrB
import Derived.Test.YtkimmfdicohoiaaMacRep
/-
  AN ARENA as it lies in the world: its block, its slots, its caches; and what only reads it.
-/
namespace Go.Proofs.Ytkimmfdicohoiaa.Ar
open Go.RowKit Mr Me Ma Wc Wm
/-- A configuration. -/
structure Cf where
  a0 : Int
  a1 : Int
  a2 : Int
  a3 : Int
  a4 : Int
  a5 : Int
  a6 : Int
def Cf.val (c : Cf) : Value := .agg #[.int .i64 c.a0, .int .i64 c.a1, .int .i64 c.a2, .int .i64 c.a3, .int .i64 c.a4, .int .i64 c.a5, .int .i64 c.a6]
def Cf.ok (c : Cf) : Bool := cfgB c.a0 c.a1 c.a2 c.a3 c.a4 c.a5 c.a6
/-- Where the spare words begin. -/
def Cf.m (c : Cf) : Int := base c.a1 c.a2 c.a5 c.a6 10
def sla (x : Int × Int) : List Value := [.int .i64 x.1, .int .i64 x.2]
theorem sla_len (x : Int × Int) : (sla x).length = 2 := rfl
def ints (l : List Int) : List Value := l.map (Value.int .i64)
/-- An arena; its blocks are among T. -/
structure Ar (W : World) (T : Nat → Prop) (ba gs cs : Nat) (c : Cf) (vca : Value) (vs : List Value) (A : Ao) : Prop where
  blk : W.heap[ba]? = some (.cells #[.int .i64 c.a0, .int .i64 c.a1, .int .i64 c.a2, .int .i64 c.a3, .int .i64 c.a4, .int .i64 c.a5, .int .i64 c.a6, .slice (some ⟨gs, 0, none⟩) A.sl.length cs, vca] 43 (0, 0))
  slots : Has W T 40 2 (.slice (some ⟨gs, 0, none⟩) A.sl.length cs) A.sl.length (A.sl.flatMap sla)
  caches : Has W T 51 1 vca A.ca.length vs
  each : ∀ (i : Nat) (v : Value) (l : List Int), vs[i]? = some v → A.ca[i]? = some l → Has W T 3 1 v l.length (ints l)
  sep : ∀ (i j : Nat) (v v' : Value) (k : Nat), vs[i]? = some v → vs[j]? = some v' → v.ownBlock = some k → v'.ownBlock = some k → i = j
  ta : T ba
  ok : c.ok = true
  five : c.a5 = A.sl.length
section
variable {W : World} {T : Nat → Prop} {ba gs cs : Nat} {c : Cf} {vca : Value} {vs : List Value} {A : Ao}
theorem Ar.lens (h : Ar W T ba gs cs c vca vs A) : vs.length = A.ca.length := by have := h.caches.1; omega
theorem Ar.kept {w : World} {T' : Nat → Prop} (h : Ar W T ba gs cs c vca vs A) (hk : ∀ k, T k → w.heap[k]? = W.heap[k]?) (hT : ∀ k, T k → T' k) : Ar w T' ba gs cs c vca vs A :=
  ⟨(hk ba h.ta).trans h.blk, h.slots.kept (fun k e => hk k (h.slots.lt k e).1) (fun k e => hT k (h.slots.lt k e).1), h.caches.kept (fun k e => hk k (h.caches.lt k e).1) (fun k e => hT k (h.caches.lt k e).1),
    fun i v l hv hl => (h.each i v l hv hl).kept (fun k e => hk k ((h.each i v l hv hl).lt k e).1) (fun k e => hT k ((h.each i v l hv hl).lt k e).1), h.sep, hT ba h.ta, h.ok, h.five⟩
theorem Ar.lt (h : Ar W T ba gs cs c vca vs A) : ba < W.heap.size := (Array.getElem?_eq_some_iff.1 h.blk).1
theorem Ar.c4 (h : Ar W T ba gs cs c vca vs A) : W.cell? ⟨ba, 4, none⟩ = some (.int .i64 c.a4) := by simp [World.cell?, h.blk]
theorem Ar.c7 (h : Ar W T ba gs cs c vca vs A) : W.cell? ⟨ba, 7, none⟩ = some (.slice (some ⟨gs, 0, none⟩) A.sl.length cs) := by simp [World.cell?, h.blk]
theorem Ar.c8 (h : Ar W T ba gs cs c vca vs A) : W.cell? ⟨ba, 8, none⟩ = some vca := by simp [World.cell?, h.blk]
/-- A thread's cache. -/
theorem Ar.cache (h : Ar W T ba gs cs c vca vs A) (i : Nat) (hi : i < A.ca.length) : ∃ (gc cc : Nat) (a : Option Addr) (n : Nat), vca = .slice (some ⟨gc, 0, none⟩) A.ca.length cc ∧ W.cell? ⟨gc, i, none⟩ = some (.slice a (A.cache i).length n) ∧ vs[i]? = some (.slice a (A.cache i).length n) ∧ Has W T 3 1 (.slice a (A.cache i).length n) (A.cache i).length (ints (A.cache i)) ∧ A.ca[i]? = some (A.cache i) := by
  obtain ⟨gc, cc, e, _⟩ := h.caches.there (by omega)
  have hl := h.lens
  obtain ⟨v, hv⟩ : ∃ v, vs[i]? = some v := ⟨_, List.getElem?_eq_getElem (by omega)⟩
  have hc : A.ca[i]? = some (A.cache i) := by rw [Ao.cache, List.getElem?_eq_getElem hi]; rfl
  have he := h.each i v _ hv hc
  obtain ⟨a, n, ev, _⟩ := he.form
  subst ev
  exact ⟨gc, cc, a, n, e, h.caches.cells (g := gc) (by rw [e]; rfl) i _ hv, hv, he, hc⟩
theorem hasSlot_any (h : Ar W T ba gs cs c vca vs A) (s : Int) :
    Calls Try.prog 38 #[.pointer (some ⟨ba, 0, none⟩), .int .i64 s] W fun e w' => e = .returned (.bool (decide (A.has s))) ∧ w' = W := by
  have c7 := h.c7
  clear h
  by_cases h0 : 0 ≤ s
  · by_cases h1 : s < A.sl.length
    · have e1 : decide (A.has s) = true := decide_eq_true ⟨h0, h1⟩
      rw [e1]
      have d0 : decide (0 ≤ s) = true := decide_eq_true h0
      have d1 : decide (s < (A.sl.length : Int)) = true := decide_eq_true h1
      go_enter Try.func38, Try.ntmps38
      go_wp2
      go_ret
      exact ⟨rfl, rfl⟩
    · have e1 : decide (A.has s) = false := decide_eq_false (fun h => h1 h.2)
      rw [e1]
      have d0 : decide (0 ≤ s) = true := decide_eq_true h0
      have d1 : decide (s < (A.sl.length : Int)) = false := decide_eq_false h1
      go_enter Try.func38, Try.ntmps38
      go_wp2
      go_ret
      exact ⟨rfl, rfl⟩
  · have e1 : decide (A.has s) = false := decide_eq_false (fun h => h0 h.1)
    rw [e1]
    have d0 : decide (0 ≤ s) = false := decide_eq_false h0
    go_enter Try.func38, Try.ntmps38
    go_wp2
    go_ret
    exact ⟨rfl, rfl⟩
theorem hasThread_yes (h : Ar W T ba gs cs c vca vs A) (i : Nat) (hi : i < A.ca.length) :
    Calls Try.prog 32 #[.pointer (some ⟨ba, 0, none⟩), .int .i64 (i : Int)] W fun e w' => e = .returned (.bool true) ∧ w' = W := by
  obtain ⟨gc, cc, a, n, e, _⟩ := h.cache i hi
  have c8 := h.c8
  rw [e] at c8
  clear h
  have d0 : decide (0 ≤ (i : Int)) = true := decide_eq_true (by omega)
  have d1 : decide ((i : Int) < (A.ca.length : Int)) = true := decide_eq_true (by omega)
  go_enter Try.func32, Try.ntmps32
  go_wp2
  go_ret
  exact ⟨rfl, rfl⟩
end
end Go.Proofs.Ytkimmfdicohoiaa.Ar
