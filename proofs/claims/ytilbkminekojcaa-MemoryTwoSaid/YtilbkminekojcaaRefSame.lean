/-
  same, sameInts by their contracts; begin.
-/
import Derived.Test.YtilbkminekojcaaRefDocA
namespace Go.Proofs.Ytilbkminekojcaa.Me
open Go.RowKit Mr
set_option linter.unusedVariables false
theorem nmi_length (l : List Int) : (nmi l).length = l.length := by simp [nmi]
theorem nmi_get (l : List Int) (j : Nat) (h : j < l.length) : (nmi l)[j]? = some (.int .i64 (l[j]?.getD 0)) := by simp [nmi, h]
set_option maxRecDepth 100000 in
theorem sameInts_same {w : World} {S T : Nat → Prop} {u v : Value} {l : List Int} (hu : Has w S 3 1 u l.length (nmi l)) (hv : Has w T 3 1 v l.length (nmi l)) (hsm : l.length ≤ 5026338869641) :
    Calls Try.prog 33 #[u, v] w fun e w' => e = .returned (.bool true) ∧ Below w.heap.size w w' := by
  obtain ⟨au, cu, rfl, hcu⟩ := hu.form
  obtain ⟨av, cv, rfl, hcv⟩ := hv.form
  go_enter Try.func33, Try.ntmps33
  go_wp2
  go_loopg [5] l.length (fun k s wr => ∃ i : Nat, s = .int .i64 (i : Int) ∧ i + k = l.length ∧ Below w.heap.size w wr)
  case atStart => exact ⟨0, rfl, by omega, Below.refl _ _⟩
  case round =>
    obtain ⟨i, rfl, hi, B⟩ := hrel
    by_cases hlt : i < l.length
    · obtain ⟨gu, cu', hgu, _, hul, _⟩ := hu.there (by omega)
      obtain ⟨gv, cv', hgv, _, hvl, _⟩ := hv.there (by omega)
      cases hgu
      cases hgv
      have c1 := (B.cell (p := ⟨gu, i, none⟩) hul).trans (hu.cells (g := gu) rfl i _ (nmi_get l i hlt))
      have c2 := (B.cell (p := ⟨gv, i, none⟩) hvl).trans (hv.cells (g := gv) rfl i _ (nmi_get l i hlt))
      generalize l[i]?.getD 0 = y at *
      replace hu := Mr.hid hu
      replace hv := Mr.hid hv
      generalize l.length = n at *
      have hB := Mr.hid B
      go_wp2
      go_region
      all_goals go_wp2
      all_goals go_roundg (gk - 1)
      case measure => omega
      case rel => exact ⟨i + 1, by simp, by omega, B.drew⟩
    · have hle : l.length ≤ i := by omega
      go_wp2
      go_ret
      exact ⟨rfl, B⟩
set_option maxRecDepth 100000 in
set_option maxHeartbeats 1000000 in
theorem same_same {w : World} {S T : Nat → Prop} {u v : Value} {t : Tld} (hu : ToldAt w S u t) (hv : ToldAt w T v t) (h1 : t.nums.length ≤ 5026338869641) (h2 : t.wds.length ≤ 1000000) (h3 : t.log.length ≤ 5026338869641) :
    Calls Try.prog 19 #[u, v] w fun e w' => e = .returned (.bool true) ∧ Below w.heap.size w w' := by
  obtain ⟨un, uw, ul, rfl, a1, a2, a3⟩ := hu
  obtain ⟨vn, vw, vl, rfl, b1, b2, b3⟩ := hv
  have N := fun (w' : World) (hB : Below w.heap.size w w') => sameInts_same (a1.below hB) (b1.below hB) h1
  have X := fun (w' : World) (hB : Below w.heap.size w w') => sameWords_same (a2.below hB) (b2.below hB) h2
  have L := fun (w' : World) (hB : Below w.heap.size w w') => sameLog_same (a3.below hB) (b3.below hB) h3
  obtain ⟨an, cn, rfl, _⟩ := a1.form
  obtain ⟨aw, cw, rfl, _⟩ := a2.form
  obtain ⟨al, cl, rfl, _⟩ := a3.form
  obtain ⟨bn, dn, rfl, _⟩ := b1.form
  obtain ⟨bw, dw, rfl, _⟩ := b2.form
  obtain ⟨bl, dl, rfl, _⟩ := b3.form
  have hq : (t.code == t.code) = true := by simp
  obtain ⟨W2, hW2⟩ : ∃ W2, ((w.alloc (.cells #[.int .i64 t.code, .slice an t.nums.length cn, .slice aw t.wds.length cw, .slice al t.log.length cl] 55)).alloc (.cells #[.int .i64 t.code, .slice bn t.nums.length dn, .slice bw t.wds.length dw, .slice bl t.log.length dl] 55)) = W2 := ⟨_, rfl⟩
  have hB2 : Below w.heap.size w W2 := by rw [← hW2]; exact (((Below.refl _ _).alloc (Nat.le_refl _) _).alloc (by simp) _)
  have k1 : W2.heap[w.heap.size]? = some (.cells #[.int .i64 t.code, .slice an t.nums.length cn, .slice aw t.wds.length cw, .slice al t.log.length cl] 55 (0, 0)) := by
    rw [← hW2, Below.heap_alloc _ _ _ (by simp)]; exact heap_alloc_new w _
  have k2 : W2.heap[w.heap.size + 1]? = some (.cells #[.int .i64 t.code, .slice bn t.nums.length dn, .slice bw t.wds.length dw, .slice bl t.log.length dl] 55 (0, 0)) := by
    rw [← hW2]
    have := heap_alloc_new (w.alloc (.cells #[.int .i64 t.code, .slice an t.nums.length cn, .slice aw t.wds.length cw, .slice al t.log.length cl] 55)) (.cells #[.int .i64 t.code, .slice bn t.nums.length dn, .slice bw t.wds.length dw, .slice bl t.log.length dl] 55)
    simpa using this
  have cs : ∀ w' : World, Below W2.heap.size W2 w' → (w'.cell? ⟨w.heap.size, 0, none⟩ = some (.int .i64 t.code) ∧ w'.cell? ⟨w.heap.size, 1, none⟩ = some (.slice an t.nums.length cn) ∧ w'.cell? ⟨w.heap.size, 2, none⟩ = some (.slice aw t.wds.length cw) ∧ w'.cell? ⟨w.heap.size, 3, none⟩ = some (.slice al t.log.length cl)) ∧ w'.cell? ⟨w.heap.size + 1, 0, none⟩ = some (.int .i64 t.code) ∧ w'.cell? ⟨w.heap.size + 1, 1, none⟩ = some (.slice bn t.nums.length dn) ∧ w'.cell? ⟨w.heap.size + 1, 2, none⟩ = some (.slice bw t.wds.length dw) ∧ w'.cell? ⟨w.heap.size + 1, 3, none⟩ = some (.slice bl t.log.length dl) := fun w' hB => by
    have e1 := (hB.block _ (Array.getElem?_eq_some_iff.1 k1).1).trans k1
    have e2 := (hB.block _ (Array.getElem?_eq_some_iff.1 k2).1).trans k2
    refine ⟨⟨?_, ?_, ?_, ?_⟩, ?_, ?_, ?_, ?_⟩ <;> simp [World.cell?, e1, e2]
  clear a1 a2 a3 b1 b2 b3
  replace N := Mr.hid N
  replace X := Mr.hid X
  replace L := Mr.hid L
  replace hB2 := Mr.hid hB2
  go_enter Try.func19, Try.ntmps19
  go_upto_region 1 with fail
  obtain ⟨⟨c0, c1, c2, c3⟩, d0, d1, d2, d3⟩ := cs W2 (Below.refl _ _)
  replace cs := Mr.hid cs
  clear hW2 k1 k2
  go_wp2_with (first
    | (go_at_call 33; refine (N.out _ hB2.out).mono ?_; rintro e w3 ⟨rfl, B3⟩; clear c0 c1 c2 c3 d0 d1 d2 d3; obtain ⟨⟨c0, c1, c2, c3⟩, d0, d1, d2, d3⟩ := cs.out w3 B3; have B3' := hB2.out.trans (B3.mono hB2.out.size); replace B3 := Mr.hid B3; replace B3' := Mr.hid B3')
    | (go_at_call 22; refine (X.out _ B3'.out).mono ?_; rintro e w4 ⟨rfl, B4⟩; clear c0 c1 c2 c3 d0 d1 d2 d3; have B4' := B3.out.trans (B4.mono B3.out.size); obtain ⟨⟨c0, c1, c2, c3⟩, d0, d1, d2, d3⟩ := cs.out w4 B4'; have B4'' := hB2.out.trans (B4'.mono hB2.out.size); replace B4' := Mr.hid B4'; replace B4'' := Mr.hid B4''; replace B4 := Mr.hid B4)
    | (go_at_call 34; refine (L.out _ B4''.out).mono ?_; rintro e w5 ⟨rfl, B5⟩; have B5' := B4''.out.trans (B5.mono B4''.out.size); replace B5' := Mr.hid B5'; clear B5))
  go_ret
  exact ⟨rfl, B5'.out⟩
theorem begin_long (a : Option Addr) (n cap : Nat) (w : World) (hn : 8192 < n) :
    Calls Try.prog 18 #[.slice a n cap] w fun e w' => e = .returned (.tuple #[.pointer none, .pointer none, .bool true]) ∧ w' = w := by
  go_enter Try.func18, Try.ntmps18
  go_wp2_with (first | (go_at_call 23; refine (new_long a n cap _ hn).mono ?_; rintro e w1 ⟨rfl, h1⟩; obtain rfl := h1.symm) | (go_at_call 32; refine (rnew_long a n cap _ hn).mono ?_; rintro e w1 ⟨rfl, h1⟩; obtain rfl := h1.symm) | (go_at_call 13; refine (num_any _ _).mono ?_; rintro e w1 ⟨rfl, h1⟩; obtain rfl := h1.symm))
  go_ret3
  exact ⟨rfl, rfl⟩
theorem begin_any (a : Option Addr) (n cap : Nat) (ws : List Int) (w : World) (h : Src w a n cap ws) (hn : n ≤ 8192) :
    Calls Try.prog 18 #[.slice a n cap] w fun e w' => ∃ b c n1, e = .returned (.tuple #[.pointer (some ⟨b, 0, none⟩), .pointer (some ⟨c, 0, none⟩), .bool true]) ∧ w.heap.size ≤ n1 ∧ n1 ≤ w'.heap.size ∧ MemS w' (fun k => w.heap.size ≤ k ∧ k < n1) b ⟨ws, [], []⟩ 0 ∧ RmS w' (fun k => n1 ≤ k ∧ k < w'.heap.size) c ws ⟨ws, [], []⟩ 0 ∧ Below w.heap.size w w' := by
  have C := new_any a n cap ws w h hn
  have D := fun (w' : World) (hB : Below w.heap.size w w') => rnew_any a n cap ws w' (h.below hB) hn
  replace D := Mr.hid D
  clear h
  go_enter Try.func18, Try.ntmps18
  go_wp2_with (first | (go_at_call 23; refine C.mono ?_; clear C; rintro e w1 ⟨b, vw, rfl, hm, hB⟩; have D1 := D.out w1 hB; replace hm := Mr.hid hm; replace hB := Mr.hid hB) | (go_at_call 32; refine D1.mono ?_; clear D1; rintro e w2 ⟨c, vf, vn, rfl, hr, hB2⟩; replace hr := Mr.hid hr; replace hB2 := Mr.hid hB2) | (go_at_call 13; refine (num_any _ _).mono ?_; rintro e w3 ⟨rfl, h1⟩; obtain rfl := h1.symm))
  go_ret3
  refine ⟨b, c, w1.heap.size, rfl, hB.out.size, hB2.out.size, ⟨_, _, _, hm.out.narrow.below hB2.out⟩, ⟨_, _, _, hr.out.narrow⟩, hB.out.trans (hB2.out.mono hB.out.size)⟩
end Go.Proofs.Ytilbkminekojcaa.Me
