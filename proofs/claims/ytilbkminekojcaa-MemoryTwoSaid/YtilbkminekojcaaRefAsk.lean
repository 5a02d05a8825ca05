/-
  ask by its contract, kind by kind.
-/
import Derived.Test.YtilbkminekojcaaRefAcc
namespace Go.Proofs.Ytilbkminekojcaa.Me
open Go.RowKit Mr
set_option linter.unusedVariables false
structure Tld where
  code : Int
  nums : List Int
  wds : List Int
  log : List Acc
def nmi (l : List Int) : List Value := l.map (Value.int .i64)
def ToldAt (w : World) (S : Nat → Prop) (v : Value) (t : Tld) : Prop := ∃ vn vw vl, v = .agg #[.int .i64 t.code, vn, vw, vl] ∧ Has w S 3 1 vn t.nums.length (nmi t.nums) ∧ Has w S 31 1 vw t.wds.length (wrd t.wds) ∧ Has w S 41 7 vl t.log.length (lgc t.log)
theorem ToldAt.fr {w w' : World} {S T : Nat → Prop} {v : Value} {t : Tld} (h : ToldAt w S v t) (hf : Fr w w' T) (hd : ∀ k, S k → k < w.heap.size → ¬ T k) : ToldAt w' S v t := by
  obtain ⟨vn, vw, vl, rfl, h1, h2, h3⟩ := h
  exact ⟨vn, vw, vl, rfl, h1.fr hf hd, h2.fr hf hd, h3.fr hf hd⟩
theorem ToldAt.mono {w : World} {S T : Nat → Prop} {v : Value} {t : Tld} (h : ToldAt w S v t) (hd : ∀ k, S k → T k) : ToldAt w T v t := by
  obtain ⟨vn, vw, vl, rfl, h1, h2, h3⟩ := h
  exact ⟨vn, vw, vl, rfl, h1.mono hd, h2.mono hd, h3.mono hd⟩
def flagI (b : Bool) : Int := if b = true then 1 else 0
theorem flag_any (b : Bool) (w : World) : Calls Try.prog 35 #[.bool b] w fun e w' => e = .returned (.int .i64 (flagI b)) ∧ w' = w := by
  cases b
  · go_enter Try.func35, Try.ntmps35
    go_wp2
    go_ret
    exact ⟨rfl, rfl⟩
  · go_enter Try.func35, Try.ntmps35
    go_wp2
    go_ret
    exact ⟨rfl, rfl⟩
def stopN (ad : Int) : Nat := (ad.tmod 8).natAbs
def lookN (o : O) (s : St) : Nat := if o.k = 8 then min (s.lg.length - o.n.toNat) (stopN o.ad) else s.lg.length - o.n.toNat
def tell (o : O) (s : St) : Tld :=
  if o.k = 2 then ⟨(ldR o.ad s).2, [], [(ldR o.ad s).1], []⟩ else
  if o.k = 3 then ⟨stR o.ad s, [], [], []⟩ else
  if o.k = 4 then ⟨(swR o.ad o.old s).2.2, [flagI (swR o.ad o.old s).2.1], [(swR o.ad o.old s).1], []⟩ else
  if o.k = 5 then ⟨bkR o.n s, [], [], []⟩ else
  if o.k = 6 then ⟨(wrR o.ad s).2.2, [(wrR o.ad s).1, (wrR o.ad s).2.1], [], []⟩ else
  if o.k = 7 ∨ o.k = 8 then ⟨0, (ent s.lg o.n.toNat (lookN o s)).map (fun x => (x.1 : Int)), [], (ent s.lg o.n.toNat (lookN o s)).map (·.2)⟩ else
  if o.k = 9 then ⟨0, [], s.ws, []⟩ else
  if o.k = 10 then ⟨0, [(s.lg.length : Int), (s.ws.length : Int)], [], []⟩ else ⟨0, [], [], []⟩
def nxt (ws0 : List Int) (o : O) (s : St) (mv : Int) : St :=
  if o.k = 2 then stp ⟨0, o.th, o.ad, 0, 0, 0⟩ mv s else
  if o.k = 3 then stp ⟨1, o.th, o.ad, 0, 0, o.w⟩ mv s else
  if o.k = 4 then stp ⟨2, o.th, o.ad, 0, o.old, o.w⟩ mv s else
  if o.k = 5 then bkS ws0 o.n s else s
def nmv (o : O) (mv : Int) : Int := if o.k = 1 then o.n else mv
def zT : Array Value := #[.int .i64 0, .slice none 0 0, .slice none 0 0, .slice none 0 0]
/-- The three boxes that ask and doc make first. -/
structure Bx3 (w : World) (B : Nat) (o : O) : Prop where
  b0 : w.heap[B]? = some (.cells #[.int .i64 o.k, .int .i64 o.th, .int .i64 o.ad, .int .i64 o.n, .int .u64 o.old, .int .u64 o.w] 33 (0, 0))
  b1 : w.heap[B + 1]? = some (.cells #[.int .i64 0, .slice none 0 0, .slice none 0 0, .slice none 0 0] 55 (0, 0))
  b2 : w.heap[B + 1 + 1]? = some (.cells #[.int .i64 0, .slice none 0 0, .slice none 0 0, .slice none 0 0] 55 (0, 0))
theorem Bx3.made (W : World) (o : O) : Bx3 (((W.alloc (.cells #[.int .i64 o.k, .int .i64 o.th, .int .i64 o.ad, .int .i64 o.n, .int .u64 o.old, .int .u64 o.w] 33)).alloc (.cells #[.int .i64 0, .slice none 0 0, .slice none 0 0, .slice none 0 0] 55)).alloc (.cells #[.int .i64 0, .slice none 0 0, .slice none 0 0, .slice none 0 0] 55)) W.heap.size o := by
  refine ⟨?_, ?_, ?_⟩
  · rw [Below.heap_alloc _ _ _ (by simp; omega), Below.heap_alloc _ _ _ (by simp)]
    exact heap_alloc_new W _
  · rw [Below.heap_alloc _ _ _ (by simp)]
    have := heap_alloc_new (W.alloc (.cells #[.int .i64 o.k, .int .i64 o.th, .int .i64 o.ad, .int .i64 o.n, .int .u64 o.old, .int .u64 o.w] 33)) (.cells #[.int .i64 0, .slice none 0 0, .slice none 0 0, .slice none 0 0] 55)
    simpa using this
  · have := heap_alloc_new ((W.alloc (.cells #[.int .i64 o.k, .int .i64 o.th, .int .i64 o.ad, .int .i64 o.n, .int .u64 o.old, .int .u64 o.w] 33)).alloc (.cells #[.int .i64 0, .slice none 0 0, .slice none 0 0, .slice none 0 0] 55)) (.cells #[.int .i64 0, .slice none 0 0, .slice none 0 0, .slice none 0 0] 55)
    simpa using this
theorem Bx3.lt {w : World} {B : Nat} {o : O} (h : Bx3 w B o) : B + 1 + 1 < w.heap.size := (Array.getElem?_eq_some_iff.1 h.b2).1
theorem Bx3.fr {w w' : World} {B : Nat} {o : O} {S : Nat → Prop} (h : Bx3 w B o) (hf : Fr w w' S) (hS : ∀ k, S k → k < B) : Bx3 w' B o := by
  have := h.lt
  exact ⟨(hf.block _ (by omega) (fun hk => by have := hS _ hk; omega)).trans h.b0, (hf.block _ (by omega) (fun hk => by have := hS _ hk; omega)).trans h.b1, (hf.block _ (by omega) (fun hk => by have := hS _ hk; omega)).trans h.b2⟩
theorem Bx3.opc {w : World} {B : Nat} {o : O} (h : Bx3 w B o) : w.cell? ⟨B, 0, none⟩ = some (.int .i64 o.k) ∧ w.cell? ⟨B, 1, none⟩ = some (.int .i64 o.th) ∧ w.cell? ⟨B, 2, none⟩ = some (.int .i64 o.ad) ∧ w.cell? ⟨B, 3, none⟩ = some (.int .i64 o.n) ∧ w.cell? ⟨B, 4, none⟩ = some (.int .u64 o.old) ∧ w.cell? ⟨B, 5, none⟩ = some (.int .u64 o.w) := by
  refine ⟨?_, ?_, ?_, ?_, ?_, ?_⟩ <;> simp [World.cell?, h.b0]
theorem Bx3.x {w : World} {B : Nat} {o : O} (h : Bx3 w B o) : w.cell? ⟨B + 1 + 1, 0, none⟩ = some (.int .i64 0) ∧ w.cell? ⟨B + 1 + 1, 1, none⟩ = some (.slice none 0 0) ∧ w.cell? ⟨B + 1 + 1, 2, none⟩ = some (.slice none 0 0) ∧ w.cell? ⟨B + 1 + 1, 3, none⟩ = some (.slice none 0 0) ∧ ∀ j, w.frozen? ⟨B + 1 + 1, j, none⟩ = false := by
  refine ⟨?_, ?_, ?_, ?_, fun j => ?_⟩ <;> simp [World.cell?, World.frozen?, h.b2]
theorem Bx3.r {w : World} {B : Nat} {o : O} (h : Bx3 w B o) : w.cell? ⟨B + 1, 0, none⟩ = some (.int .i64 0) ∧ w.cell? ⟨B + 1, 1, none⟩ = some (.slice none 0 0) ∧ w.cell? ⟨B + 1, 2, none⟩ = some (.slice none 0 0) ∧ w.cell? ⟨B + 1, 3, none⟩ = some (.slice none 0 0) ∧ ∀ j, w.frozen? ⟨B + 1, j, none⟩ = false := by
  refine ⟨?_, ?_, ?_, ?_, fun j => ?_⟩ <;> simp [World.cell?, World.frozen?, h.b1]
def AskPost (W : World) (S : Nat → Prop) (b : Nat) (t : Tld) (s' : St) (mv' : Int) (e : Ending) (w' : World) : Prop :=
  ∃ v, e = .returned v ∧ ToldAt w' (fun k => W.heap.size ≤ k) v t ∧ MemS w' (fun k => S k ∨ W.heap.size ≤ k) b s' mv' ∧ Fr W w' S
section
variable {W W3 w4 wE : World} {S : Nat → Prop} {b B : Nat} {s s' : St} {mv mv' : Int}
theorem ask_fin (hSlt : ∀ k, S k → k < W.heap.size) (h3 : Below W.heap.size W W3) (hz : W3.heap.size = W.heap.size + 3) (m4 : MemS w4 (fun k => S k ∨ W3.heap.size ≤ k) b s' mv') (f4 : Fr W3 w4 S) (fE : Fr w4 wE (fun k => k = W.heap.size + 1 ∨ k = W.heap.size + 1 + 1)) :
    MemS wE (fun k => S k ∨ W.heap.size ≤ k) b s' mv' ∧ Fr W wE S := by
  refine ⟨(m4.fr fE (fun k hk _ he => ?_)).mono (fun k hk => hk.elim .inl (fun h => .inr (by omega))), ((Fr.of_below h3).trans (f4.mono (fun _ => .inl))).trans (fE.mono (fun k hk => .inr (by omega)))⟩
  rcases hk with hk | hk
  · have := hSlt k hk; omega
  · omega
theorem has_one {w : World} {S : Nat → Prop} {e : TypeId} (vs : Array Value) (hS : S w.heap.size) (hn : vs.size ≤ 100) : Has (w.alloc (.cells vs e)) S e 1 (.slice (some ⟨w.heap.size, 0, none⟩) vs.size vs.size) vs.size vs.toList :=
  ⟨by simp, .inr ⟨w.heap.size, vs.size, vs, rfl, hS, heap_alloc_new w _, Nat.le_refl _, by unfold maxLen; omega, by simp, by simp [List.take_of_length_le]⟩⟩
theorem has_one' {w : World} {S : Nat → Prop} {e : TypeId} {g : Nat} (vs : Array Value) (hg : w.heap.size = g) (hS : S g) (hn : vs.size ≤ 100) : Has (w.alloc (.cells vs e)) S e 1 (.slice (some ⟨g, 0, none⟩) vs.size vs.size) vs.size vs.toList := by
  subst hg
  exact has_one vs hS hn
end
end Go.Proofs.Ytilbkminekojcaa.Me
