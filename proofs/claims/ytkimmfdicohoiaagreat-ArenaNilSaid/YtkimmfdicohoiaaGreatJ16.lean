import Derived.Test.YtkimmfdicohoiaaGreatJ14
import Derived.Test.YtkimmfdicohoiaaGreatJ04
import Derived.Test.YtkimmfdicohoiaaGreatJ06
import Derived.Test.YtkimmfdicohoiaaGreatJ03
/-
  THE ARENA's words: firstOf, nextOf, headBehind, plainLink by their contracts.
-/
namespace Go.Proofs.YtkimmfdicohoiaaGreat.Ar
open Go.RowKit Mr Wp
theorem firstOf_any (x : Int) (w : World) (h0 : 0 ≤ x) (h1 : x ≤ 18446744073709551615) :
    Calls Tryz.prog 103 #[.int .u64 x] w fun e w' => e = .returned (.int .i64 (firstOf x)) ∧ w' = w := by
  by_cases h : x % 4294967296 ≤ 2147483647
  · have e1 : firstOf x = x % 4294967296 - 1 := by unfold firstOf; rw [if_pos h]
    rw [e1]
    have C := unhead_ok x w h0 h1 h
    go_enter Tryz.func103, Tryz.ntmps103
    go_wp2_with (go_at_call 127; refine C.mono ?_; clear C; rintro e w' ⟨rfl, hw⟩; obtain rfl := hw.symm)
    go_ret
    exact ⟨rfl, rfl⟩
  · have e1 : firstOf x = -1 := by unfold firstOf; rw [if_neg h]
    rw [e1]
    have C := unhead_bad x w h0 h1 (by omega)
    go_enter Tryz.func103, Tryz.ntmps103
    go_wp2_with (go_at_call 127; refine C.mono ?_; clear C; rintro e w' ⟨rfl, hw⟩; obtain rfl := hw.symm)
    go_ret
    exact ⟨rfl, rfl⟩
theorem nextOf_any (x : Int) (w : World) (h0 : 0 ≤ x) (h1 : x ≤ 18446744073709551615) :
    Calls Tryz.prog 107 #[.int .u64 x] w fun e w' => e = .returned (.int .i64 (nextOf x)) ∧ w' = w := by
  by_cases h : x < 8589934592 ∧ x % 4294967296 ≤ 2147483647
  · have e1 : nextOf x = x % 4294967296 - 1 := by unfold nextOf; rw [if_pos h]
    rw [e1]
    have C := unlink_ok x w h0 h.1 h.2
    go_enter Tryz.func107, Tryz.ntmps107
    go_wp2_with (go_at_call 130; refine C.mono ?_; clear C; rintro e w' ⟨rfl, hw⟩; obtain rfl := hw.symm)
    go_ret
    exact ⟨rfl, rfl⟩
  · have e1 : nextOf x = -1 := by unfold nextOf; rw [if_neg h]
    rw [e1]
    have C := unlink_bad x w h0 h1 (by omega)
    go_enter Tryz.func107, Tryz.ntmps107
    go_wp2_with (go_at_call 130; refine C.mono ?_; clear C; rintro e w' ⟨rfl, hw⟩; obtain rfl := hw.symm)
    go_ret
    exact ⟨rfl, rfl⟩
theorem plainLink_any (s : Int) (w : World) (h0 : -1 ≤ s) (h1 : s ≤ 2147483646) :
    Calls Tryz.prog 111 #[.int .i64 s] w fun e w' => e = .returned (.int .u64 (s + 1)) ∧ w' = w := by
  have C := link_ok s false w h0 h1
  have e1 : packLink s false = s + 1 := by unfold packLink; simp
  rw [e1] at C
  go_enter Tryz.func111, Tryz.ntmps111
  go_wp2_with (go_at_call 132; refine C.mono ?_; clear C; rintro e w' ⟨rfl, hw⟩; obtain rfl := hw.symm)
  go_ret
  exact ⟨rfl, rfl⟩
theorem headBehind_any (x s : Int) (w : World) (h0 : 0 ≤ x) (h1 : x ≤ 18446744073709551615) (h : x % 4294967296 ≤ 2147483647) (s0 : -1 ≤ s) (s1 : s ≤ 2147483646) :
    Calls Tryz.prog 106 #[.int .u64 x, .int .i64 s] w fun e w' => e = .returned (.int .u64 (headBehind x s)) ∧ w' = w := by
  have e1 : headBehind x s = packHead (IntKind.u32.wrap (x / 4294967296 + 1)) s := by
    unfold headBehind tagOf packHead
    rw [if_pos ⟨s0, s1⟩, if_pos h]
    rw [IntKind.wrap_u32]
  rw [e1]
  have C := unhead_ok x w h0 h1 h
  have b : 0 ≤ IntKind.u32.wrap (x / 4294967296 + 1) ∧ IntKind.u32.wrap (x / 4294967296 + 1) ≤ 4294967295 := by rw [IntKind.wrap_u32]; omega
  have H := head_ok (IntKind.u32.wrap (x / 4294967296 + 1)) s w s0 s1 b.1 b.2
  clear e1 h h0 h1
  generalize packHead (IntKind.u32.wrap (x / 4294967296 + 1)) s = y at *
  go_enter Tryz.func106, Tryz.ntmps106
  go_wp2_with (first | (go_at_call 127; refine C.mono ?_; clear C; rintro e w' ⟨rfl, hw⟩; obtain rfl := hw.symm) | (go_at_call 129; refine H.mono ?_; clear H; rintro e w' ⟨rfl, hw⟩; obtain rfl := hw.symm))
  go_ret
  exact ⟨rfl, rfl⟩
end Go.Proofs.YtkimmfdicohoiaaGreat.Ar
/-
  AN ARENA as it lies in the world: its block, its slots, its caches; and what only reads it.
-/
namespace Go.Proofs.YtkimmfdicohoiaaGreat.Ar
open Go.RowKit Mr Me Ma Wc Wm
/-- A configuration. -/
structure Cf where
  a0 : Int
  a1 : Int
  a2 : Int
  a3 : Int
  a4 : Int
  a5 : Int
  a6 : Int
def Cf.val (c : Cf) : Value := .agg #[.int .i64 c.a0, .int .i64 c.a1, .int .i64 c.a2, .int .i64 c.a3, .int .i64 c.a4, .int .i64 c.a5, .int .i64 c.a6]
def Cf.ok (c : Cf) : Bool := cfgB c.a0 c.a1 c.a2 c.a3 c.a4 c.a5 c.a6
/-- Where the spare words begin. -/
def Cf.m (c : Cf) : Int := base c.a1 c.a2 c.a5 c.a6 10
def sla (x : Int × Int) : List Value := [.int .i64 x.1, .int .i64 x.2]
theorem sla_len (x : Int × Int) : (sla x).length = 2 := rfl
def ints (l : List Int) : List Value := l.map (Value.int .i64)
/-- An arena; its blocks are among T. -/
structure Ar (W : World) (T : Nat → Prop) (ba gs cs : Nat) (c : Cf) (vca : Value) (vs : List Value) (A : Ao) : Prop where
  blk : W.heap[ba]? = some (.cells #[.int .i64 c.a0, .int .i64 c.a1, .int .i64 c.a2, .int .i64 c.a3, .int .i64 c.a4, .int .i64 c.a5, .int .i64 c.a6, .slice (some ⟨gs, 0, none⟩) A.sl.length cs, vca] 62 (0, 0))
  slots : Has W T 100 2 (.slice (some ⟨gs, 0, none⟩) A.sl.length cs) A.sl.length (A.sl.flatMap sla)
  caches : Has W T 69 1 vca A.ca.length vs
  each : ∀ (i : Nat) (v : Value) (l : List Int), vs[i]? = some v → A.ca[i]? = some l → Has W T 3 1 v l.length (ints l)
  sep : ∀ (i j : Nat) (v v' : Value) (k : Nat), vs[i]? = some v → vs[j]? = some v' → v.ownBlock = some k → v'.ownBlock = some k → i = j
  ta : T ba
  ok : c.ok = true
  five : c.a5 = A.sl.length
section
variable {W : World} {T : Nat → Prop} {ba gs cs : Nat} {c : Cf} {vca : Value} {vs : List Value} {A : Ao}
theorem Ar.lens (h : Ar W T ba gs cs c vca vs A) : vs.length = A.ca.length := by have := h.caches.1; omega
theorem Ar.kept {w : World} {T' : Nat → Prop} (h : Ar W T ba gs cs c vca vs A) (hk : ∀ k, T k → w.heap[k]? = W.heap[k]?) (hT : ∀ k, T k → T' k) : Ar w T' ba gs cs c vca vs A :=
  ⟨(hk ba h.ta).trans h.blk, h.slots.kept (fun k e => hk k (h.slots.lt k e).1) (fun k e => hT k (h.slots.lt k e).1), h.caches.kept (fun k e => hk k (h.caches.lt k e).1) (fun k e => hT k (h.caches.lt k e).1),
    fun i v l hv hl => (h.each i v l hv hl).kept (fun k e => hk k ((h.each i v l hv hl).lt k e).1) (fun k e => hT k ((h.each i v l hv hl).lt k e).1), h.sep, hT ba h.ta, h.ok, h.five⟩
/-- A block of another type is no block of it. -/
theorem Ar.far {w : World} {k : Nat} {xs : Array Value} {t : TypeId} (h : Ar W T ba gs cs c vca vs A) (hb : W.heap[k]? = some (.cells xs t (0, 0))) (ht : t ≠ 62 ∧ t ≠ 100 ∧ t ≠ 69 ∧ t ≠ 3) (hw : ∀ j, j ≠ k → T j → w.heap[j]? = W.heap[j]?) : Ar w T ba gs cs c vca vs A := by
  have h1 : ba ≠ k := fun e => by
    have := h.blk
    rw [e, hb] at this
    simp at this
    exact ht.1 this.2
  exact ⟨(hw ba h1 h.ta).trans h.blk, h.slots.kept (fun j e => hw j (fun ej => not_row hb h.slots ht.2.1 (ej ▸ e)) (h.slots.lt j e).1) (fun j e => (h.slots.lt j e).1), h.caches.kept (fun j e => hw j (fun ej => not_row hb h.caches ht.2.2.1 (ej ▸ e)) (h.caches.lt j e).1) (fun j e => (h.caches.lt j e).1),
    fun i v l hv hl => (h.each i v l hv hl).kept (fun j e => hw j (fun ej => not_row hb (h.each i v l hv hl) ht.2.2.2 (ej ▸ e)) ((h.each i v l hv hl).lt j e).1) (fun j e => ((h.each i v l hv hl).lt j e).1), h.sep, h.ta, h.ok, h.five⟩
theorem Ar.lt (h : Ar W T ba gs cs c vca vs A) : ba < W.heap.size := (Array.getElem?_eq_some_iff.1 h.blk).1
theorem Ar.c4 (h : Ar W T ba gs cs c vca vs A) : W.cell? ⟨ba, 4, none⟩ = some (.int .i64 c.a4) := by simp [World.cell?, h.blk]
theorem Ar.c7 (h : Ar W T ba gs cs c vca vs A) : W.cell? ⟨ba, 7, none⟩ = some (.slice (some ⟨gs, 0, none⟩) A.sl.length cs) := by simp [World.cell?, h.blk]
theorem Ar.c8 (h : Ar W T ba gs cs c vca vs A) : W.cell? ⟨ba, 8, none⟩ = some vca := by simp [World.cell?, h.blk]
/-- A thread's cache. -/
theorem Ar.cache (h : Ar W T ba gs cs c vca vs A) (i : Nat) (hi : i < A.ca.length) : ∃ (gc cc : Nat) (a : Option Addr) (n : Nat), vca = .slice (some ⟨gc, 0, none⟩) A.ca.length cc ∧ W.cell? ⟨gc, i, none⟩ = some (.slice a (A.cache i).length n) ∧ vs[i]? = some (.slice a (A.cache i).length n) ∧ Has W T 3 1 (.slice a (A.cache i).length n) (A.cache i).length (ints (A.cache i)) ∧ A.ca[i]? = some (A.cache i) := by
  obtain ⟨gc, cc, e, _⟩ := h.caches.there (by omega)
  have hl := h.lens
  obtain ⟨v, hv⟩ : ∃ v, vs[i]? = some v := ⟨_, List.getElem?_eq_getElem (by omega)⟩
  have hc : A.ca[i]? = some (A.cache i) := by rw [Ao.cache, List.getElem?_eq_getElem hi]; rfl
  have he := h.each i v _ hv hc
  obtain ⟨a, n, ev, _⟩ := he.form
  subst ev
  exact ⟨gc, cc, a, n, e, h.caches.cells (g := gc) (by rw [e]; rfl) i _ hv, hv, he, hc⟩
theorem hasSlot_any (h : Ar W T ba gs cs c vca vs A) (s : Int) :
    Calls Tryz.prog 66 #[.pointer (some ⟨ba, 0, none⟩), .int .i64 s] W fun e w' => e = .returned (.bool (decide (A.has s))) ∧ w' = W := by
  have c7 := h.c7
  clear h
  by_cases h0 : 0 ≤ s
  · by_cases h1 : s < A.sl.length
    · have e1 : decide (A.has s) = true := decide_eq_true ⟨h0, h1⟩
      rw [e1]
      have d0 : decide (0 ≤ s) = true := decide_eq_true h0
      have d1 : decide (s < (A.sl.length : Int)) = true := decide_eq_true h1
      go_enter Tryz.func66, Tryz.ntmps66
      go_wp2
      go_ret
      exact ⟨rfl, rfl⟩
    · have e1 : decide (A.has s) = false := decide_eq_false (fun h => h1 h.2)
      rw [e1]
      have d0 : decide (0 ≤ s) = true := decide_eq_true h0
      have d1 : decide (s < (A.sl.length : Int)) = false := decide_eq_false h1
      go_enter Tryz.func66, Tryz.ntmps66
      go_wp2
      go_ret
      exact ⟨rfl, rfl⟩
  · have e1 : decide (A.has s) = false := decide_eq_false (fun h => h0 h.1)
    rw [e1]
    have d0 : decide (0 ≤ s) = false := decide_eq_false h0
    go_enter Tryz.func66, Tryz.ntmps66
    go_wp2
    go_ret
    exact ⟨rfl, rfl⟩
theorem hasThread_yes (h : Ar W T ba gs cs c vca vs A) (i : Nat) (hi : i < A.ca.length) :
    Calls Tryz.prog 69 #[.pointer (some ⟨ba, 0, none⟩), .int .i64 (i : Int)] W fun e w' => e = .returned (.bool true) ∧ w' = W := by
  obtain ⟨gc, cc, a, n, e, _⟩ := h.cache i hi
  have c8 := h.c8
  rw [e] at c8
  clear h
  have d0 : decide (0 ≤ (i : Int)) = true := decide_eq_true (by omega)
  have d1 : decide ((i : Int) < (A.ca.length : Int)) = true := decide_eq_true (by omega)
  go_enter Tryz.func69, Tryz.ntmps69
  go_wp2
  go_ret
  exact ⟨rfl, rfl⟩
set_option maxRecDepth 100000 in
theorem last_any (h : Ar W T ba gs cs c vca vs A) (i : Nat) (hi : i < A.ca.length) :
    Calls Tryz.prog 97 #[.pointer (some ⟨ba, 0, none⟩), .int .i64 (i : Int)] W fun e w' => e = .returned (.int .i64 (A.last i)) ∧ w' = W := by
  have C := hasThread_yes h i hi
  obtain ⟨gc, cc, a, n, e, c1, _, hh, _⟩ := h.cache i hi
  have c8 := h.c8
  rw [e] at c8
  have hl : A.last i = (A.cache i).getLast?.getD (-1) := rfl
  rw [hl]
  rcases List.eq_nil_or_concat (A.cache i) with e0 | ⟨l, s, e0⟩
  · rw [e0] at c1 ⊢
    clear h hh e0 hl
    simp only [List.length_nil, List.getLast?_nil, Option.getD_none] at *
    go_enter Tryz.func97, Tryz.ntmps97
    go_wp2_with (go_at_call 69; refine C.mono ?_; clear C; rintro e w' ⟨rfl, hw⟩; obtain rfl := hw.symm)
    go_ret
    exact ⟨rfl, rfl⟩
  · rw [List.concat_eq_append] at e0
    rw [e0] at c1 hh ⊢
    obtain ⟨g, cap, ev, _, _, hcap, hmax⟩ := hh.there (by simp)
    have k1 := hh.cells (g := g) (by rw [ev]; rfl) l.length (.int .i64 s) (by simp [ints])
    have hlen : (l ++ [s]).length = l.length + 1 := by simp
    rw [hlen] at c1 ev hcap
    injection ev with e1 e2 e3
    subst e1 e3
    have hm : wrap64 (l.length : Int) = l.length := Wp.wrap64_small _ (by omega) (by unfold maxLen at hmax; omega)
    clear h hh e0 hl hlen hcap hmax
    simp only [List.getLast?_append, List.getLast?_singleton, Option.some_or, Option.getD_some]
    generalize l.length = m at *
    have d0 : ((m + 1 : Nat) : Int) - 1 = m := by omega
    have d2 : (((m + 1 : Nat) : Int) == 0) = false := by simp; omega
    go_enter Tryz.func97, Tryz.ntmps97
    go_wp2_with (go_at_call 69; refine C.mono ?_; clear C; rintro e w' ⟨rfl, hw⟩; obtain rfl := hw.symm)
    go_ret
    exact ⟨rfl, rfl⟩
end
end Go.Proofs.YtkimmfdicohoiaaGreat.Ar
/-
  THE DESK, further: Store, Thread, Shift by their contracts.
-/
namespace Go.Proofs.YtkimmfdicohoiaaGreat.Ma
open Go.RowKit Mr Me
section
variable {W0 : World} {U0 S0 X0 : Nat → Prop} {p : Ph} {i : Nat} {now : Int} {X : Nat → Obj → Prop} {s : Ss} {W : World} {sp : Bool}
def Ss.stores (s : Ss) (i : Nat) (now : Int) (ad : Nat) (x : Int) : Ss := { s with mv := now, ws := s.ws.set ad x, lg := s.lg ++ [⟨now, i, 2, ad, 0, x, 0⟩], ah := s.ah ++ [s.ws[ad]?.getD 0] }
set_option maxRecDepth 100000 in
set_option maxHeartbeats 1000000 in
theorem desk_store (h : D W0 U0 S0 X0 p i now X false s W) (hb : Me.Roomy s.lg s.ah) (ad : Nat) (hi : ad < s.ws.length) (x : Int) :
    Calls Tryz.prog 110 #[.pointer (some ⟨p.bd, 0, none⟩), .int .i64 (ad : Int), .int .u64 x] W fun e w' => e = .returned (.tuple #[]) ∧ D W0 U0 S0 X0 p i now X true (s.stores i now ad x) w' := by
  have C := access_yes h
  have L : ∀ w1, D W0 U0 S0 X0 p i now X false { s with mv := now } w1 → Calls Tryz.prog 131 #[.pointer (some ⟨p.bm, 0, none⟩), .int .i64 (i : Int), .int .i64 (ad : Int), .int .u64 x] w1 fun e w' => e = .returned (.int .i64 0) ∧ D W0 U0 S0 X0 p i now X false (s.stores i now ad x) w' := fun w1 h1 => by
    obtain ⟨U, S, vl, va, hx, hm, hd, hU, hS0, hU0, hU1, hf⟩ := h1
    refine (store_ok hm.mem hb i x ad hi).mono ?_
    rintro e w' ⟨rfl, ⟨vl', va', hm'⟩, hf'⟩
    exact ⟨rfl, D.turned (s := { s with mv := now }) hx hm hd hU hS0 hU0 hU1 hf hm' hf'⟩
  clear h hb
  generalize s.stores i now ad x = s' at *
  generalize ({ s with mv := now } : Ss) = s1 at *
  clear hi
  go_enter Tryz.func110, Tryz.ntmps110
  go_wp2_with (go_at_call 124; refine C.mono ?_; clear C; rintro e w1 ⟨rfl, h1⟩; obtain ⟨d0, e0, e1, e2, e3, e4, e4z, b0, b1⟩ := h1.cells)
  replace h1 := Mr.hid h1
  go_region_held3 (fun w' => w'.cell? ⟨p.bd, 0, none⟩ = some (.pointer (some ⟨p.be, 0, none⟩)) ∧ w'.cell? ⟨p.be, 0, none⟩ = some (.pointer (some ⟨p.bb, 0, none⟩)) ∧ w'.cell? ⟨p.be, 2, none⟩ = some (.int .i64 (i : Int)) ∧ w'.cell? ⟨p.bb, 0, none⟩ = some (.pointer (some ⟨p.bm, 0, none⟩))) (go_keep)
    (first | (go_at_call 131; refine (L _ h1.out.drew).mono ?_; clear L; rintro e w2 ⟨rfl, h2⟩; obtain ⟨g0, g1, g2, g3, g4, g5, g5z, g6, g7⟩ := h2.cells; replace h2 := Mr.hid h2))
  go_wp2
  go_end0
  exact ⟨rfl, h2.out.spent true⟩
theorem thread_desk {bd be bb : Nat} {pt : Addr} {i now : Int} (h : Dk W bd be bb pt i now sp) : Calls Tryz.prog 68 #[.pointer (some ⟨bd, 0, none⟩)] W fun e w' => e = .returned (.int .i64 i) ∧ w' = W := by
  have d0 := h.d0
  have e3 := h.e2
  have C := open_yes h
  clear h
  go_enter Tryz.func68, Tryz.ntmps68
  go_wp2_with (go_at_call 96; refine C.mono ?_; clear C; rintro e w' ⟨rfl, hw⟩; obtain rfl := hw.symm)
  go_ret
  exact ⟨rfl, rfl⟩
end
end Go.Proofs.YtkimmfdicohoiaaGreat.Ma
