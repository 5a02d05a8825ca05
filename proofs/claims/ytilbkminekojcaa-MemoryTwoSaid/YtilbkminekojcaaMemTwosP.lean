/-
  TWO PAIRS of memories in turns.
-/
import Derived.Test.YtilbkminekojcaaRefAny
namespace Go.Proofs.Ytilbkminekojcaa.Me
open Go.RowKit Mr
set_option linter.unusedVariables false
/-- A pair that lies within the blocks U, or none. -/
def BothIn (W : World) (U : Nat → Prop) (b c : Nat) (ws0 : List Int) (s : St) (mv : Int) : Prop := ∃ S T : Nat → Prop, MemS W S b s mv ∧ RmS W T c ws0 s mv ∧ (∀ k, S k → U k) ∧ (∀ k, T k → U k) ∧ ∀ k, S k → ¬ T k
theorem BothIn.fr {W W' : World} {U V : Nat → Prop} {b c : Nat} {ws0 : List Int} {s : St} {mv : Int} (h : BothIn W U b c ws0 s mv) (hf : Fr W W' V) (hd : ∀ k, U k → ¬ V k) : BothIn W' U b c ws0 s mv := by
  obtain ⟨S, T, h1, h2, h3, h4, h5⟩ := h
  exact ⟨S, T, h1.fr hf (fun k hk _ => hd k (h3 k hk)), h2.fr hf (fun k hk _ => hd k (h4 k hk)), h3, h4, h5⟩
theorem BothIn.both {W : World} {U : Nat → Prop} {n0 b c : Nat} {ws0 : List Int} {s : St} {mv : Int} (h : BothIn W U b c ws0 s mv) (hU : ∀ k, U k → n0 ≤ k ∧ k < W.heap.size) : Both W n0 b c ws0 s mv := by
  obtain ⟨S, T, h1, h2, h3, h4, h5⟩ := h
  exact ⟨S, T, h1, h2, fun k hk => hU k (h3 k hk), fun k hk => hU k (h4 k hk), h5⟩
/-- Behind ask. -/
structure HalfIn (W w1 : World) (U : Nat → Prop) (b c : Nat) (ws0 : List Int) (s s' : St) (mv mv' : Int) (v1 : Value) (t : Tld) : Prop where
  ex : ∃ S T : Nat → Prop, MemS w1 S b s' mv' ∧ RmS w1 T c ws0 s mv ∧ (∀ k, S k → U k ∨ W.heap.size ≤ k) ∧ (∀ k, T k → U k) ∧ (∀ k, S k → ¬ T k) ∧ ∀ k, S k → k < w1.heap.size
  told : ToldAt w1 (fun k => W.heap.size ≤ k) v1 t
  lt : ∀ k, U k → k < W.heap.size
  size : W.heap.size ≤ w1.heap.size
  fr : Fr W w1 U
theorem in_ask {W : World} {U : Nat → Prop} {b c : Nat} {ws0 : List Int} {s : St} {mv : Int} (h : BothIn W U b c ws0 s mv) (hU : ∀ k, U k → k < W.heap.size) (hp : Pl ws0 s) (hb : (s.lg.length + 1 + (s.lg.length + 1) / 4 + 192) * 56 ≤ 281474976710656) (o : O) :
    Calls Try.prog 20 #[.pointer (some ⟨b, 0, none⟩), .agg #[.int .i64 o.k, .int .i64 o.th, .int .i64 o.ad, .int .i64 o.n, .int .u64 o.old, .int .u64 o.w]] W fun e w1 => ∃ v1, e = .returned v1 ∧ HalfIn W w1 U b c ws0 s (nxt ws0 o s mv) mv (nmv o mv) v1 (tell o s) := by
  obtain ⟨S, T, h1, h2, h3, h4, h5⟩ := h
  refine (ask_any h1 (fun k hk => hU k (h3 k hk)) hp hb o).mono ?_
  rintro e w1 ⟨v1, rfl, ht, hm, hf⟩
  refine ⟨v1, rfl, ⟨⟨_, T, hm.narrow, h2.fr hf (fun k hk _ hS => h5 k hS hk), fun k hk => ?_, h4, fun k hk hT => ?_, fun k hk => hk.2⟩, ht, hU, hf.size, hf.mono h3⟩⟩
  · rcases hk.1 with hk | hk
    · exact .inl (h3 k hk)
    · exact .inr hk
  · rcases hk.1 with hk | hk
    · exact h5 k hk hT
    · have := hU k (h4 k hT); omega
theorem in_doc {W w1 : World} {U : Nat → Prop} {b c : Nat} {ws0 : List Int} {s : St} {mv : Int} {v1 : Value} {o : O} (h : HalfIn W w1 U b c ws0 s (nxt ws0 o s mv) mv (nmv o mv) v1 (tell o s)) (hp : Pl ws0 s) (hb : (s.lg.length + 1 + (s.lg.length + 1) / 4 + 192) * 56 ≤ 281474976710656) :
    Calls Try.prog 21 #[.pointer (some ⟨c, 0, none⟩), .agg #[.int .i64 o.k, .int .i64 o.th, .int .i64 o.ad, .int .i64 o.n, .int .u64 o.old, .int .u64 o.w]] w1 fun e w2 => ∃ v2, e = .returned v2 ∧ ToldAt w2 (fun k => W.heap.size ≤ k) v1 (tell o s) ∧ ToldAt w2 (fun k => w1.heap.size ≤ k) v2 (tell o s) ∧ BothIn w2 (fun k => (U k ∨ W.heap.size ≤ k) ∧ k < w2.heap.size) b c ws0 (nxt ws0 o s mv) (nmv o mv) ∧ Fr W w2 U := by
  obtain ⟨⟨S, T, h1, h2, h3, h4, h5, h6⟩, ht, hlt, hs, hf1⟩ := h
  refine (doc_any h2 (fun k hk => by have := hlt k (h4 k hk); omega) hp hb o).mono ?_
  rintro e w2 ⟨v2, rfl, ht2, hm, hf⟩
  have hs2 := hf.size
  refine ⟨v2, rfl, ht.fr hf (fun k hk _ hT => by have := hlt k (h4 k hT); omega), ht2, ⟨S, _, h1.fr hf (fun k hk _ hT => h5 k hk hT), hm.narrow, fun k hk => ⟨h3 k hk, by have := h6 k hk; omega⟩, fun k hk => ⟨?_, hk.2⟩, fun k hk hT => ?_⟩, hf1.trans (hf.mono (fun k hk => .inl (h4 k hk)))⟩
  · rcases hk.1 with hk | hk
    · exact .inl (h4 k hk)
    · exact .inr (by omega)
  · rcases hT.1 with hT | hT
    · exact h5 k hk hT
    · have := h6 k hk; omega
def pm (o : Option (Nat × Nat)) : Option Addr := o.map fun p => ⟨p.1, 0, none⟩
def pr (o : Option (Nat × Nat)) : Option Addr := o.map fun p => ⟨p.2, 0, none⟩
def PairAt (W : World) (U : Nat → Prop) (o : Option (Nat × Nat)) (ws0 : List Int) (p : St × Int) : Prop := ∀ b c, o = some (b, c) → BothIn W U b c ws0 p.1 p.2 ∧ ws0.length ≤ 8192
theorem PairAt.fr {W W' : World} {U V : Nat → Prop} {o : Option (Nat × Nat)} {ws0 : List Int} {p : St × Int} (h : PairAt W U o ws0 p) (hf : Fr W W' V) (hd : ∀ k, U k → ¬ V k) : PairAt W' U o ws0 p :=
  fun b c e => ⟨(h b c e).1.fr hf hd, (h b c e).2⟩
/-- Two pairs beside each other. -/
def Quad (W : World) (n0 : Nat) (o1 : Option (Nat × Nat)) (ws1 : List Int) (p1 : St × Int) (o2 : Option (Nat × Nat)) (ws2 : List Int) (p2 : St × Int) : Prop :=
  ∃ U V : Nat → Prop, PairAt W U o1 ws1 p1 ∧ PairAt W V o2 ws2 p2 ∧ (∀ k, U k → n0 ≤ k ∧ k < W.heap.size) ∧ (∀ k, V k → n0 ≤ k ∧ k < W.heap.size) ∧ ∀ k, U k → ¬ V k
section
variable {W W' : World} {n0 : Nat} {o1 o2 : Option (Nat × Nat)} {ws1 ws2 : List Int} {p1 p2 : St × Int}
theorem Quad.swap (h : Quad W n0 o1 ws1 p1 o2 ws2 p2) : Quad W n0 o2 ws2 p2 o1 ws1 p1 := by
  obtain ⟨U, V, h1, h2, h3, h4, h5⟩ := h
  exact ⟨V, U, h2, h1, h4, h3, fun k hk hU => h5 k hU hk⟩
theorem Quad.below (h : Quad W n0 o1 ws1 p1 o2 ws2 p2) (hB : Below W.heap.size W W') : Quad W' n0 o1 ws1 p1 o2 ws2 p2 := by
  obtain ⟨U, V, h1, h2, h3, h4, h5⟩ := h
  have := hB.size
  refine ⟨U, V, h1.fr (V := fun _ => False) (Fr.of_below hB) (fun _ _ h => h), h2.fr (V := fun _ => False) (Fr.of_below hB) (fun _ _ h => h), fun k hk => ⟨(h3 k hk).1, by have := (h3 k hk).2; omega⟩, fun k hk => ⟨(h4 k hk).1, by have := (h4 k hk).2; omega⟩, h5⟩
/-- Behind the first pair's ask. -/
def QHalf (W w1 : World) (n0 b c : Nat) (ws1 : List Int) (p1 : St × Int) (o : O) (o2 : Option (Nat × Nat)) (ws2 : List Int) (p2 : St × Int) (v1 : Value) : Prop :=
  ∃ U V : Nat → Prop, HalfIn W w1 U b c ws1 p1.1 (nxt ws1 o p1.1 p1.2) p1.2 (nmv o p1.2) v1 (tell o p1.1) ∧ PairAt W V o2 ws2 p2 ∧ (∀ k, U k → n0 ≤ k ∧ k < W.heap.size) ∧ (∀ k, V k → n0 ≤ k ∧ k < W.heap.size) ∧ (∀ k, U k → ¬ V k) ∧ n0 ≤ W.heap.size
theorem quad_ask {b c : Nat} (h : Quad W n0 (some (b, c)) ws1 p1 o2 ws2 p2) (hn : n0 ≤ W.heap.size) (hp : Pl ws1 p1.1) (hb : (p1.1.lg.length + 1 + (p1.1.lg.length + 1) / 4 + 192) * 56 ≤ 281474976710656) (o : O) :
    Calls Try.prog 20 #[.pointer (some ⟨b, 0, none⟩), .agg #[.int .i64 o.k, .int .i64 o.th, .int .i64 o.ad, .int .i64 o.n, .int .u64 o.old, .int .u64 o.w]] W fun e w1 => ∃ v1, e = .returned v1 ∧ QHalf W w1 n0 b c ws1 p1 o o2 ws2 p2 v1 ∧ Below n0 W w1 := by
  obtain ⟨U, V, h1, h2, h3, h4, h5⟩ := h
  refine (in_ask (h1 b c rfl).1 (fun k hk => (h3 k hk).2) hp hb o).mono ?_
  rintro e w1 ⟨v1, rfl, hH⟩
  exact ⟨v1, rfl, ⟨U, V, hH, h2, h3, h4, h5, hn⟩, hH.fr.below (fun k hk => (h3 k hk).1) hn⟩
theorem quad_doc {w1 : World} {b c : Nat} {o : O} {v1 : Value} (h : QHalf W w1 n0 b c ws1 p1 o o2 ws2 p2 v1) (hl : ws1.length ≤ 8192) (hp : Pl ws1 p1.1) (hb : (p1.1.lg.length + 1 + (p1.1.lg.length + 1) / 4 + 192) * 56 ≤ 281474976710656) :
    Calls Try.prog 21 #[.pointer (some ⟨c, 0, none⟩), .agg #[.int .i64 o.k, .int .i64 o.th, .int .i64 o.ad, .int .i64 o.n, .int .u64 o.old, .int .u64 o.w]] w1 fun e w2 => ∃ v2, e = .returned v2 ∧ ToldAt w2 (fun k => W.heap.size ≤ k) v1 (tell o p1.1) ∧ ToldAt w2 (fun k => w1.heap.size ≤ k) v2 (tell o p1.1) ∧ Quad w2 n0 (some (b, c)) ws1 (nxt ws1 o p1.1 p1.2, nmv o p1.2) o2 ws2 p2 ∧ Below n0 W w2 := by
  obtain ⟨U, V, hH, h2, h3, h4, h5, hn⟩ := h
  refine (in_doc hH hp hb).mono ?_
  rintro e w2 ⟨v2, rfl, t1, t2, hBI, hf⟩
  have hs := hf.size
  refine ⟨v2, rfl, t1, t2, ⟨fun k => (U k ∨ W.heap.size ≤ k) ∧ k < w2.heap.size, V, fun b' c' e => ?_, h2.fr hf (fun k hk hU => h5 k hU hk), fun k hk => ⟨?_, hk.2⟩, fun k hk => ⟨(h4 k hk).1, by have := (h4 k hk).2; omega⟩, fun k hk hV => ?_⟩, hf.below (fun k hk => (h3 k hk).1) hn⟩
  · cases e
    exact ⟨hBI, hl⟩
  · rcases hk.1 with hk | hk
    · exact (h3 k hk).1
    · omega
  · rcases hk.1 with hk | hk
    · exact h5 k hk hV
    · have := (h4 k hV).2; omega
theorem quad_words {b c : Nat} (h : Quad W n0 (some (b, c)) ws1 p1 o2 ws2 p2) (hp : Pl ws1 p1.1) : ∃ vn, W.cell? ⟨c, 1, none⟩ = some vn ∧ Calls Try.prog 15 #[.pointer (some ⟨b, 0, none⟩)] W fun e w' => ∃ v, e = .returned v ∧ w'.cell? ⟨c, 1, none⟩ = some vn ∧ (Calls Try.prog 22 #[v, vn] w' fun e w'' => e = .returned (.bool true) ∧ Below w'.heap.size w' w'') ∧ Below W.heap.size W w' := by
  obtain ⟨U, V, h1, h2, h3, h4, h5⟩ := h
  obtain ⟨hb, hl⟩ := h1 b c rfl
  obtain ⟨vn, k, C⟩ := both_words (hb.both h3) (by have := hp.len; omega)
  exact ⟨vn, k, C.mono fun e w' ⟨v, a1, a2, a3, _, a5⟩ => ⟨v, a1, a2, a3, a5⟩⟩
end
theorem begin_o (a : Option Addr) (n cap : Nat) (ws : List Int) (w : World) (h : Src w a n cap ws) :
    Calls Try.prog 18 #[.slice a n cap] w fun e w' => ∃ o, e = .returned (.tuple #[.pointer (pm o), .pointer (pr o), .bool true]) ∧ PairAt w' (fun k => w.heap.size ≤ k ∧ k < w'.heap.size) o ws (runP ws []) ∧ Below w.heap.size w w' := by
  by_cases hn : 8192 < n
  · refine (begin_long a n cap w hn).mono ?_
    rintro e w' ⟨rfl, rfl⟩
    exact ⟨none, rfl, fun b c h => (by cases h), Below.refl _ _⟩
  · have hl := h.1
    refine (begin_any a n cap ws w h (by omega)).mono ?_
    rintro e w' ⟨b, c, n1, rfl, q1, q2, h1, h2, hB⟩
    refine ⟨some (b, c), rfl, fun b' c' e => ?_, hB⟩
    cases e
    exact ⟨⟨_, _, h1, h2, fun k hk => ⟨hk.1, by omega⟩, fun k hk => ⟨by omega, hk.2⟩, fun k hk hT => by omega⟩, by omega⟩
theorem runP_more (ws : List Int) (os : List O) (i : Nat) (hi : os.length ≤ i) : runP ws (os.take (i + 1)) = runP ws (os.take i) := by rw [List.take_of_length_le (by omega), List.take_of_length_le hi]
end Go.Proofs.Ytilbkminekojcaa.Me
