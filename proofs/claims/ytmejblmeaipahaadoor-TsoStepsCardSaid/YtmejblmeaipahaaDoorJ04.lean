import Derived.Test.YtmejblmeaipahaaDoorJ01
import Derived.BigQuiet
/-
  TSO: the law's sameInts, sameLitmus, of what is the same.
-/
namespace Go.Proofs.YtmejblmeaipahaaDoor.Ts
open Go.RowKit Mr
set_option linter.unusedVariables false
set_option linter.unusedSimpArgs false
set_option maxRecDepth 100000
set_option maxHeartbeats 8000000 in
theorem sameInts_eq (xs : List Int) (a a' : Option Addr) (n c c' : Nat) (w : World) (h1 : IsAt w a n xs) (h2 : IsAt w a' n xs) (hn : n ≤ 1000000000000000000) :
    Calls Tryd.prog 26 #[.slice a n c, .slice a' n c'] w fun e w' => e = .returned (.bool true) ∧ Below w.heap.size w w' := by
  have z : ((n : Int) != (n : Int)) = false := by simp
  have hl := Mr.hid h1.1
  replace h1 := Mr.hid h1
  replace h2 := Mr.hid h2
  go_enter Tryd.func26, Tryd.ntmps26
  go_upto_region 4 with fail
  go_loopg [5] n (fun gk s5 wr => ∃ i : Nat, s5 = .int .i64 (i : Int) ∧ i + gk = n ∧ Below w.heap.size w wr)
  case atStart => exact ⟨0, rfl, by omega, Below.refl _ _⟩
  case round =>
    obtain ⟨i, rfl, hi, B⟩ := hrel
    by_cases hlt : i < n
    · have hli : i < xs.length := by have := hl.out; omega
      obtain ⟨x, hx⟩ : ∃ x, xs[i]? = some x := ⟨xs[i], List.getElem?_eq_getElem hli⟩
      have hne : xs ≠ [] := by intro e; rw [e] at hli; simp at hli
      obtain ⟨g, o, rfl, hg, hc⟩ := (h1.out.below B).2.resolve_left hne
      obtain ⟨g', o', rfl, hg', hc'⟩ := (h2.out.below B).2.resolve_left hne
      have c0 := hc i x hx
      have c0' := hc' i x hx
      have hlI : (i : Int) < (n : Int) := by omega
      have dl : decide ((i : Int) < (n : Int)) = true := by simpa using hlI
      have hw : IntKind.i64.wrap ((i : Int) + 1) = (i : Int) + 1 := i64x _ (by omega) (by omega)
      have hi' := Mr.hid hi
      replace B := Mr.hid B
      clear hc hc' hx hli hi hne
      go_upto_region 6 with fail
      go_quiet (fail)
      replace B := Mr.hid (B.out.trans ⟨rfl, rfl, rfl, Nat.le_refl _, fun _ _ => rfl⟩ : Below w.heap.size w (wr.drewN nq))
      clear c0 c0' hg hg'
      generalize wr.drewN nq = w6 at *
      go_wp2
      go_roundg (gk - 1)
      case measure => have := hi'.out; omega
      case rel => exact ⟨i + 1, by simp, by have := hi'.out; omega, B.out⟩
    · have dl : decide ((i : Int) < (n : Int)) = false := decide_eq_false (by omega)
      have dl2 : ¬ (i : Int) < (n : Int) := by omega
      replace B := Mr.hid B
      clear hi hlt
      go_wp2
      go_ret
      exact ⟨rfl, B.out⟩
/-- What of two threads' rows is looked at. -/
theorem ThAt.at {W : World} {a : Option Addr} {n : Nat} {t : List (List In)} (h : ThAt W a n t) {i : Nat} {c : List In} (hi : t[i]? = some c) : ∃ b o a' n' c', a = some ⟨b, o, none⟩ ∧ b < W.heap.size ∧ W.cell? ⟨b, o + i, none⟩ = some (.slice a' n' c') ∧ n' = c.length ∧ CdAt W a' n' c := by
  obtain ⟨b, o, rfl, hb, hc⟩ := h.2.resolve_left (by intro e; rw [e] at hi; simp at hi)
  obtain ⟨a', n', c', h1, h2, h3⟩ := hc i c hi
  exact ⟨b, o, a', n', c', rfl, hb, h1, h3.1, h3⟩
set_option maxHeartbeats 16000000 in
theorem sameLitmus_eq (l : Lt) (aw aw' : Option Addr) (nw cw cw' : Nat) (ah ah' : Option Addr) (nt ct ct' : Nat) (w : World) (h1 : IsAt w aw nw l.ws) (h2 : IsAt w aw' nw l.ws) (t1 : ThAt w ah nt l.th) (t2 : ThAt w ah' nt l.th) (hnw : nw ≤ 1000000000000000000) (hnt : nt ≤ 1000000000000000000) (hcl : ∀ c ∈ l.th, c.length ≤ 1000000000000000000) :
    Calls Tryd.prog 10 #[.agg #[.slice aw nw cw, .slice ah nt ct], .agg #[.slice aw' nw cw', .slice ah' nt ct']] w fun e w' => e = .returned (.bool true) ∧ Below w.heap.size w w' := by
  have z : ((nt : Int) != (nt : Int)) = false := by simp
  have hl := Mr.hid t1.1
  have SI : Hid (∀ W, Below w.heap.size w W → Calls Tryd.prog 26 #[.slice aw nw cw, .slice aw' nw cw'] W fun e w' => e = .returned (.bool true) ∧ Below W.heap.size W w') := fun W hB => sameInts_eq l.ws aw aw' nw cw cw' W (h1.below hB) (h2.below hB) hnw
  have hb : Hid (((w.alloc (.cells #[.slice aw nw cw, .slice ah nt ct] 25)).alloc (.cells #[.slice aw' nw cw', .slice ah' nt ct'] 25)).heap[w.heap.size]? = some (.cells #[.slice aw nw cw, .slice ah nt ct] 25 (0, 0))) := (Lib.alloc_old _ _ _ (by simp)).trans (new_at _ _ _ rfl)
  have hb' : Hid (((w.alloc (.cells #[.slice aw nw cw, .slice ah nt ct] 25)).alloc (.cells #[.slice aw' nw cw', .slice ah' nt ct'] 25)).heap[w.heap.size + 1]? = some (.cells #[.slice aw' nw cw', .slice ah' nt ct'] 25 (0, 0))) := new_at _ _ _ (by simp)
  have B0 : Below w.heap.size w ((w.alloc (.cells #[.slice aw nw cw, .slice ah nt ct] 25)).alloc (.cells #[.slice aw' nw cw', .slice ah' nt ct'] 25)) := ((Below.refl _ _).alloc (Nat.le_refl _) _).alloc (by simp) _
  have S0 := Mr.hid (SI.out _ B0)
  replace B0 := Mr.hid B0
  replace t1 := Mr.hid t1
  replace t2 := Mr.hid t2
  replace hcl := Mr.hid hcl
  clear h1 h2 SI hnw
  go_enter Tryd.func10, Tryd.ntmps10
  go_upto_region 4 with (go_at_call 26; refine S0.out.mono ?_; clear S0; rintro e w2 ⟨rfl, B2⟩; have q0 := (B2.block _ (by simp; omega)).trans hb.out; have q0' := (B2.block _ (by simp)).trans hb'.out; have y1 := cell_blk q0 1; have y1' := cell_blk q0' 1; have lq := (Array.getElem?_eq_some_iff.1 q0).1; have lq' := (Array.getElem?_eq_some_iff.1 q0').1; have BB := Mr.hid (B0.out.trans (B2.mono B0.out.size)); clear B2)
  replace q0 := Mr.hid q0
  replace q0' := Mr.hid q0'
  clear hb hb' B0 y1 y1'
  go_loopg [5] nt (fun gk s5 wr => ∃ i : Nat, s5 = .int .i64 (i : Int) ∧ i + gk = nt ∧ Below w2.heap.size w2 wr)
  case atStart => exact ⟨0, rfl, by omega, Below.refl _ _⟩
  case round =>
    obtain ⟨i, rfl, hi, B⟩ := hrel
    have Bw : Below w.heap.size w wr := BB.out.trans (B.mono BB.out.size)
    have r0 := (B.block _ lq).trans q0.out
    have r0' := (B.block _ lq').trans q0'.out
    have y1 := cell_blk r0 1
    have y1' := cell_blk r0' 1
    have lr := (Array.getElem?_eq_some_iff.1 r0).1
    have lr' := (Array.getElem?_eq_some_iff.1 r0').1
    by_cases hlt : i < nt
    · have hli : i < l.th.length := by have := hl.out; omega
      obtain ⟨x, hx⟩ : ∃ x, l.th[i]? = some x := ⟨l.th[i], List.getElem?_eq_getElem hli⟩
      obtain ⟨g, o, a1, n1, k1, rfl, hg, c0, e1, hC⟩ := (t1.out.below Bw).at hx
      obtain ⟨g', o', a2, n2, k2, rfl, hg', c0', e2, hC'⟩ := (t2.out.below Bw).at hx
      obtain rfl : n2 = n1 := by omega
      have hxl : Hid (n2 = x.length) := e2
      have hxb : n2 ≤ 1000000000000000000 := by rw [e2]; exact hcl.out x (List.mem_of_getElem? hx)
      have zn : ((n2 : Int) != (n2 : Int)) = false := by simp
      have hlI : (i : Int) < (nt : Int) := by omega
      have dl : decide ((i : Int) < (nt : Int)) = true := by simpa using hlI
      have hw : IntKind.i64.wrap ((i : Int) + 1) = (i : Int) + 1 := i64x _ (by omega) (by omega)
      have hi' := Mr.hid hi
      replace B := Mr.hid B
      replace Bw := Mr.hid Bw
      replace hC := Mr.hid hC
      replace hC' := Mr.hid hC'
      replace r0 := Mr.hid r0
      replace r0' := Mr.hid r0'
      clear hx hli hi e1 e2
      go_upto_region 6 with fail
      go_quiet (fail)
      have B6 : Hid (Below w2.heap.size w2 (wr.drewN nq)) := B.out.trans ⟨rfl, rfl, rfl, Nat.le_refl _, fun _ _ => rfl⟩
      have hC6 : Hid (CdAt (wr.drewN nq) a1 n2 x) := hC.out.below ⟨rfl, rfl, rfl, Nat.le_refl _, fun _ _ => rfl⟩
      have hC6' : Hid (CdAt (wr.drewN nq) a2 n2 x) := hC'.out.below ⟨rfl, rfl, rfl, Nat.le_refl _, fun _ _ => rfl⟩
      replace c0 : (wr.drewN nq).cell? ⟨g, o + i, none⟩ = _ := c0
      replace c0' : (wr.drewN nq).cell? ⟨g', o' + i, none⟩ = _ := c0'
      replace y1 : (wr.drewN nq).cell? ⟨w.heap.size, 1, none⟩ = _ := y1
      replace y1' : (wr.drewN nq).cell? ⟨w.heap.size + 1, 1, none⟩ = _ := y1'
      replace lr : w.heap.size < (wr.drewN nq).heap.size := lr
      replace lr' : w.heap.size + 1 < (wr.drewN nq).heap.size := lr'
      replace hg : g < (wr.drewN nq).heap.size := hg
      replace hg' : g' < (wr.drewN nq).heap.size := hg'
      clear hC hC' B r0 r0' Bw
      generalize wr.drewN nq = w6 at *
      go_upto_region 9 with fail
      clear dl zn
      go_loopg [6] n2 (fun gk s6 wr => ∃ k : Nat, s6 = .int .i64 (k : Int) ∧ k + gk = n2 ∧ Below w6.heap.size w6 wr)
      case atStart => exact ⟨0, rfl, by omega, Below.refl _ _⟩
      case round =>
        obtain ⟨k, rfl, hk, Bk⟩ := hrel
        have v0 : wr.cell? ⟨g, o + i, none⟩ = some (.slice a1 n2 k1) := (Bk.cell (p := ⟨g, _, none⟩) hg).trans c0
        have v0' : wr.cell? ⟨g', o' + i, none⟩ = some (.slice a2 n2 k2) := (Bk.cell (p := ⟨g', _, none⟩) hg').trans c0'
        have v1 := (Bk.cell (p := ⟨w.heap.size, 1, none⟩) lr).trans y1
        have v1' := (Bk.cell (p := ⟨w.heap.size + 1, 1, none⟩) lr').trans y1'
        have mr : w.heap.size < wr.heap.size := Nat.lt_of_lt_of_le lr Bk.size
        have mr' : w.heap.size + 1 < wr.heap.size := Nat.lt_of_lt_of_le lr' Bk.size
        have mg : g < wr.heap.size := Nat.lt_of_lt_of_le hg Bk.size
        have mg' : g' < wr.heap.size := Nat.lt_of_lt_of_le hg' Bk.size
        by_cases hkl : k < n2
        · have hkx : k < x.length := by have := hxl.out; omega
          obtain ⟨y, hy⟩ : ∃ y, x[k]? = some y := ⟨x[k], List.getElem?_eq_getElem hkx⟩
          have hne : x ≠ [] := by intro e; rw [e] at hkx; simp at hkx
          obtain ⟨f1, o1, rfl, hf1, hc1⟩ := (hC6.out.below Bk).2.resolve_left hne
          obtain ⟨f2, o2, rfl, hf2, hc2⟩ := (hC6'.out.below Bk).2.resolve_left hne
          have i0 := hc1 k y hy 0 _ rfl
          have i1 := hc1 k y hy 1 _ rfl
          have i2 := hc1 k y hy 2 _ rfl
          have i3 := hc1 k y hy 3 _ rfl
          have i4 := hc1 k y hy 4 _ rfl
          have i5 := hc1 k y hy 5 _ rfl
          have i6 := hc1 k y hy 6 _ rfl
          have j0 := hc2 k y hy 0 _ rfl
          have j1 := hc2 k y hy 1 _ rfl
          have j2 := hc2 k y hy 2 _ rfl
          have j3 := hc2 k y hy 3 _ rfl
          have j4 := hc2 k y hy 4 _ rfl
          have j5 := hc2 k y hy 5 _ rfl
          have j6 := hc2 k y hy 6 _ rfl
          rw [Nat.add_zero] at i0 j0
          have hkI : (k : Int) < (n2 : Int) := by omega
          have dk : decide ((k : Int) < (n2 : Int)) = true := by simpa using hkI
          have hwk : IntKind.i64.wrap ((k : Int) + 1) = (k : Int) + 1 := i64x _ (by omega) (by omega)
          have hk' := Mr.hid hk
          obtain ⟨kd, rg, ad, vl, fr, ol, cn⟩ := y
          dsimp only at i0 i1 i2 i3 i4 i5 i6 j0 j1 j2 j3 j4 j5 j6
          replace Bk := Mr.hid Bk
          clear hc1 hc2 hy hkx hk hne
          go_upto_region 11 with fail
          go_quiet (fail)
          replace Bk := Mr.hid (Bk.out.trans ⟨rfl, rfl, rfl, Nat.le_refl _, fun _ _ => rfl⟩ : Below w6.heap.size w6 (wr.drewN nq))
          clear i0 i1 i2 i3 i4 i5 i6 j0 j1 j2 j3 j4 j5 j6 v0 v0' v1 v1' mr mr' mg mg' hf1 hf2
          generalize wr.drewN nq = w7 at *
          go_wp2
          go_roundg (gk - 1)
          case measure => have := hk'.out; omega
          case rel => exact ⟨k + 1, by simp, by have := hk'.out; omega, Bk.out⟩
        · have dk : decide ((k : Int) < (n2 : Int)) = false := decide_eq_false (by omega)
          have dk2 : ¬ (k : Int) < (n2 : Int) := by omega
          have B7 := Mr.hid (B6.out.trans (Bk.mono B6.out.size))
          clear hk hkl Bk
          go_wp2
          go_roundg (nt - (i + 1))
          case measure => have := hi'.out; omega
          case rel => exact ⟨i + 1, by simp, by have := hi'.out; omega, B7.out⟩
    · have dl : decide ((i : Int) < (nt : Int)) = false := decide_eq_false (by omega)
      have dl2 : ¬ (i : Int) < (nt : Int) := by omega
      replace Bw := Mr.hid Bw
      clear hi hlt r0 r0'
      go_wp2
      go_ret
      exact ⟨rfl, Bw.out⟩
end Go.Proofs.YtmejblmeaipahaaDoor.Ts
/-
  TSO: turns and states, and the law's sameTurns, sameState of what is the same.
-/
namespace Go.Proofs.YtmejblmeaipahaaDoor.Ts
open Go.RowKit Mr
set_option linter.unusedVariables false
set_option linter.unusedSimpArgs false
set_option maxRecDepth 100000
/-- A turn. -/
structure Tn where
  th : Int
  ou : Bool
  ad : Int
deriving DecidableEq
/-- A slice that reads as turns. -/
def TnAt (W : World) (a : Option Addr) (n : Nat) (xs : List Tn) : Prop :=
  n = xs.length ∧ (xs = [] ∨ ∃ b o, a = some ⟨b, o, none⟩ ∧ b < W.heap.size ∧ ∀ j x, xs[j]? = some x → W.cell? ⟨b, o + j * 3, none⟩ = some (.int .i64 x.th) ∧ W.cell? ⟨b, o + j * 3 + 1, none⟩ = some (.bool x.ou) ∧ W.cell? ⟨b, o + j * 3 + 2, none⟩ = some (.int .i64 x.ad))
theorem TnAt.below {W W' : World} {a : Option Addr} {n : Nat} {xs : List Tn} (h : TnAt W a n xs) (hB : Below W.heap.size W W') : TnAt W' a n xs := by
  refine ⟨h.1, ?_⟩
  rcases h.2 with h | ⟨b, o, rfl, hl, hc⟩
  · exact .inl h
  · refine .inr ⟨b, o, rfl, Nat.lt_of_lt_of_le hl hB.size, fun j x hx => ?_⟩
    obtain ⟨c0, c1, c2⟩ := hc j x hx
    exact ⟨(hB.cell (p := ⟨b, _, none⟩) hl).trans c0, (hB.cell (p := ⟨b, _, none⟩) hl).trans c1, (hB.cell (p := ⟨b, _, none⟩) hl).trans c2⟩
set_option maxHeartbeats 8000000 in
theorem sameTurns_eq (xs : List Tn) (a a' : Option Addr) (n c c' : Nat) (w : World) (h1 : TnAt w a n xs) (h2 : TnAt w a' n xs) (hn : n ≤ 1000000000000000000) :
    Calls Tryd.prog 11 #[.slice a n c, .slice a' n c'] w fun e w' => e = .returned (.bool true) ∧ Below w.heap.size w w' := by
  have z : ((n : Int) != (n : Int)) = false := by simp
  have hl := Mr.hid h1.1
  replace h1 := Mr.hid h1
  replace h2 := Mr.hid h2
  go_enter Tryd.func11, Tryd.ntmps11
  go_upto_region 4 with fail
  go_loopg [5] n (fun gk s5 wr => ∃ i : Nat, s5 = .int .i64 (i : Int) ∧ i + gk = n ∧ Below w.heap.size w wr)
  case atStart => exact ⟨0, rfl, by omega, Below.refl _ _⟩
  case round =>
    obtain ⟨i, rfl, hi, B⟩ := hrel
    by_cases hlt : i < n
    · have hli : i < xs.length := by have := hl.out; omega
      obtain ⟨x, hx⟩ : ∃ x, xs[i]? = some x := ⟨xs[i], List.getElem?_eq_getElem hli⟩
      have hne : xs ≠ [] := by intro e; rw [e] at hli; simp at hli
      obtain ⟨g, o, rfl, hg, hc⟩ := (h1.out.below B).2.resolve_left hne
      obtain ⟨g', o', rfl, hg', hc'⟩ := (h2.out.below B).2.resolve_left hne
      obtain ⟨c0, c1, c2⟩ := hc i x hx
      obtain ⟨c0', c1', c2'⟩ := hc' i x hx
      obtain ⟨tt, tu, ta⟩ := x
      dsimp only at c0 c1 c2 c0' c1' c2'
      have hlI : (i : Int) < (n : Int) := by omega
      have dl : decide ((i : Int) < (n : Int)) = true := by simpa using hlI
      have hw : IntKind.i64.wrap ((i : Int) + 1) = (i : Int) + 1 := i64x _ (by omega) (by omega)
      have hi' := Mr.hid hi
      replace B := Mr.hid B
      clear hc hc' hx hli hi hne
      go_upto_region 6 with fail
      go_quiet (fail)
      replace B := Mr.hid (B.out.trans ⟨rfl, rfl, rfl, Nat.le_refl _, fun _ _ => rfl⟩ : Below w.heap.size w (wr.drewN nq))
      clear c0 c0' c1 c1' c2 c2' hg hg'
      generalize wr.drewN nq = w6 at *
      go_wp2
      go_roundg (gk - 1)
      case measure => have := hi'.out; omega
      case rel => exact ⟨i + 1, by simp, by have := hi'.out; omega, B.out⟩
    · have dl : decide ((i : Int) < (n : Int)) = false := decide_eq_false (by omega)
      have dl2 : ¬ (i : Int) < (n : Int) := by omega
      replace B := Mr.hid B
      clear hi hlt
      go_wp2
      go_ret
      exact ⟨rfl, B.out⟩
end Go.Proofs.YtmejblmeaipahaaDoor.Ts
