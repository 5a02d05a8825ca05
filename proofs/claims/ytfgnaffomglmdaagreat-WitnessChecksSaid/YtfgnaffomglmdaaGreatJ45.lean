import Derived.Test.YtfgnaffomglmdaaGreatJ42
import Derived.Test.YtfgnaffomglmdaaGreatJ43
import Derived.Test.YtfgnaffomglmdaaGreatJ44
/-
  WitnessChecks: the walk.
-/
namespace Go.Proofs.YtfgnaffomglmdaaGreat.Wt
open Go.RowKit Mr Md
set_option linter.unusedVariables false
set_option linter.unusedSimpArgs false
set_option maxRecDepth 100000
theorem ints_one' (l : List Int) : ∀ u ∈ ints l, u.oneCell' = true := by
  intro u hu
  obtain ⟨x, _, rfl⟩ := List.mem_map.1 hu
  rfl
theorem sl_cutI {W : World} {T : Nat → Prop} {a : Option Addr} {cap : Nat} {l : List Int} {x : Int} (h : Sl W T 1 (.slice a (l.length + 1) cap) (l.length + 1) (ints (l ++ [x]))) : Sl W T 1 (.slice a l.length cap) l.length (ints l) := by
  obtain ⟨b, o, cap', hv, hc, hT, hl, hr⟩ := h.there (by omega)
  cases hv
  refine ⟨by simp [ints], _, cap, rfl, by omega, .inr ⟨b, o, rfl, hT, hl, fun k u hu => hr k u ?_⟩⟩
  rw [ints, List.map_append, List.getElem?_append_left (by have := (List.getElem?_eq_some_iff.1 hu).1; simpa [ints] using this)]; exact hu
theorem Nw.fill {W w1 w2 : World} {u' : Value} {l : List Int} {n : Nat} {ob : Obj} (h1 : w1 = W.alloc ob) (ho : Own w2 (fun k => W.heap.size ≤ k ∨ k = w1.heap.size) 3 1 u' (0 + n) ([] ++ ints l)) (hf : Fr w1 w2 (fun k => W.heap.size ≤ k)) (hn : n = l.length) : Nw W w2 u' l := by
  have B1 : Below W.heap.size W w1 := by subst h1; exact (Below.refl _ _).alloc (Nat.le_refl _) _
  rw [Nat.zero_add, List.nil_append, hn] at ho
  refine ⟨⟨hf.os.trans B1.os, hf.tape.trans B1.tape, hf.output.trans B1.output, Nat.le_trans B1.size hf.size, fun k hk => (hf.block k (Nat.lt_of_lt_of_le hk B1.size) (by omega)).trans (B1.block k hk)⟩, ?_⟩
  exact ho.mono (fun k hk => by have := B1.size; omega)
/-- What the law keeps: both twins. -/
structure Tw (W w : World) (a : Option Addr) (cap : Nat) (cs : List Cq) (b : Option Addr) (cb : Nat) (o : List Int) : Prop where
  bel : Below W.heap.size W w
  tw : Sl w (fun k => W.heap.size ≤ k) 9 (.slice a (cs.length + 1) cap) (cs.length + 1) (cqs (cs ++ [mk77]))
  ow : Sl w (fun k => W.heap.size ≤ k) 1 (.slice b (o.length + 1) cb) (o.length + 1) (ints (o ++ [-77]))
theorem Tw.next {W w w' : World} {a : Option Addr} {cap : Nat} {cs : List Cq} {b : Option Addr} {cb : Nat} {o : List Int} (h : Tw W w a cap cs b cb o) (hB : Below w.heap.size w w') : Tw W w' a cap cs b cb o := ⟨h.bel.trans (hB.mono h.bel.size), h.tw.below hB, h.ow.below hB⟩
set_option maxHeartbeats 16000000 in
theorem walk_checks (v : Value) (cs : List Cq) (u : Value) (o : List Int) (W : World) (hv : Sl W (fun _ => True) 9 v cs.length (cqs cs)) (hsm : cs.length * 72 ≤ 140737488351232) (hu : Sl W (fun _ => True) 1 u o.length (ints o)) (hso : o.length * 8 ≤ 140737488351232) :
    Calls Tryz.prog 3 #[v, u] W fun e w' => e = .returned (.bool true) ∧ Below W.heap.size W w' := by
  obtain ⟨i0, hi0, hz0, hz1, hz2⟩ := parts_of wt_int
  have hsm2 : cs.length * 72 ≤ 281474976710656 := by omega
  have TW := twin_any hv hsm
  have CH := fun w' a cap b cb (h : Tw W w' a cap cs b cb o) => checked_any (sl_cut h.tw) (hv.below h.bel) (sl_cutI h.ow) (by omega) (by omega)
  have CP := fun w' a cap b cb (h : Tw W w' a cap cs b cb o) (T' : Nat → Prop) u2 (l2 : List Int) (h2 : Sl w' T' 1 u2 l2.length (ints l2)) (hl2 : l2.length ≤ cs.length) => checked_any (sl_cut h.tw) (hv.below h.bel) h2 (by omega) (by omega)
  have SI := fun w' a cap b cb (h : Tw W w' a cap cs b cb o) => sameInts_eq (sl_cutI h.ow) (hu.below h.bel) (by omega)
  have RM := fun w' (hB : Below W.heap.size W w') => rMay_any (hv.below hB) hsm2
  have RP := fun w' (hB : Below W.heap.size W w') => rPoints_any (hv.below hB) hsm2
  have US := fun w' a cap b cb (h : Tw W w' a cap cs b cb o) => unspoilt_any h.tw (hv.below h.bel) hsm
  have hpl := pix_len cs 0
  obtain ⟨av, cv, rfl, hcv⟩ := hv.form
  obtain ⟨au, cu, rfl, hcu⟩ := hu.form
  obtain ⟨hs1, hs2⟩ := sl_src hu
  have hl1 : (ints o).length = o.length * 1 := by simp [ints]
  have ho1 := ints_one' o
  obtain ⟨m, hm⟩ : ∃ m, m = o.length := ⟨_, rfl⟩
  rw [← hm] at hso hs1 hl1 SI CH
  rw [← hm]
  replace hm := Mr.hid hm
  replace TW := Mr.hid TW
  replace CH := Mr.hid CH
  replace CP := Mr.hid CP
  replace SI := Mr.hid SI
  replace RM := Mr.hid RM
  replace RP := Mr.hid RP
  replace US := Mr.hid US
  replace hs1 := Mr.hid hs1
  replace hs2 := Mr.hid hs2
  replace hl1 := Mr.hid hl1
  replace ho1 := Mr.hid ho1
  clear hv hu
  go_enter Tryz.func3, Tryz.ntmps3
  go_upto_region 2 with (go_at_call 4; refine TW.out.mono ?_; clear TW; rintro e w1 ⟨a, cap, rfl, hown, hB1⟩; have hS1 := Mr.hid hown.sl; replace hB1 := Mr.hid hB1; clear hown)
  go_upto_region 3 with (first
    | (at_builtin; (refine wpList_append_mine _ rfl (.tmp 9) (.tmp 10) 23 rfl (fun k => w1.heap.size ≤ k) 3 i0 _ 1 8 Tryz.underlying23 hi0 hz0 hz1 hz2 rfl _ 0 [] rfl (Own.zero _ _ _ _ _) au m cu (ints o) rfl hl1.out hs1.out (hs2.out _ (hB1.out.alloc hB1.out.size _)) ho1.out (by unfold maxLen; omega) (by omega) ?_; intro b1 cap1 w2 hown hfr; have hN := Mr.hid (Nw.fill rfl hown hfr hm.out); rw [Nat.zero_add] at hN; rw [Nat.zero_add]; clear hown hfr))
    | (at_builtin; (refine wpList_append_mine _ rfl (.tmp 11) (.tmp 12) 23 rfl (fun k => w1.heap.size ≤ k) 3 i0 _ 1 8 Tryz.underlying23 hi0 hz0 hz1 hz2 rfl _ m (ints o) rfl (by have := hN.out.own.below ((Below.refl w2.heap.size w2).alloc (Nat.le_refl _) (.cells #[.int .i64 (-77)] 3 (0, 0))); rw [← hm.out] at this; exact this) (some ⟨w2.heap.size, 0, none⟩) 1 1 [.int .i64 (-77)] rfl rfl (fun e => by cases e) (new1 rfl) (by simp [Value.oneCell']) (by unfold maxLen; omega) (by omega) ?_; intro b2 cap2 w3 hown2 hfr2; have hN2 := Mr.hid (hN.out.app rfl (by rw [← hm.out]; exact hown2) hfr2); clear hown2 hfr2)))
  have hK : Hid (Tw W w3 a cap cs b2 cap2 o) := ⟨hB1.out.trans (hN2.out.bel.mono hB1.out.size), hS1.out.below hN2.out.bel, by have := hN2.out.own.sl; rw [hm.out, List.length_append] at this; exact this.mono (fun k hk => Nat.le_trans hB1.out.size hk)⟩
  obtain ⟨_, _, e9, hc9⟩ := hK.out.ow.form
  injection e9 with e91 e92 e93
  rw [← hm.out, ← e93] at hc9
  clear e91 e92 e93
  have f1 : (0 : Int) ≤ (m : Int) := by omega
  have f2 : (m : Int) ≤ (cap2 : Int) := by omega
  have f3 : (m : Int) < (m : Int) + 1 := by omega
  have OC : Hid (∀ w, Tw W w a cap cs b2 cap2 o → ∃ g o2, b2 = some ⟨g, o2, none⟩ ∧ w.cell? ⟨g, o2 + m, none⟩ = some (.int .i64 (-77)) ∧ g < w.heap.size) := fun w h => by
    obtain ⟨g, o2, c2, e2, _, _, hgl, hr⟩ := h.ow.there (by omega)
    injection e2 with e21 e22 e23
    exact ⟨g, o2, e21, hr m _ (by rw [hm.out]; simp [ints]), hgl⟩
  clear hN hN2 hS1 hB1
  by_cases hmy : MayC cs
  · replace RM := RM.out
    rw [mayB_true hmy] at RM
    replace RM := Mr.hid RM
    replace hmy := Mr.hid hmy
    obtain ⟨g, o2, rfl, -, -⟩ := OC.out _ hK.out
    go_wp2_with (first
      | (go_at_call 5; refine (CH.out _ _ _ _ _ hK.out).mono ?_; clear CH; rintro e w4 ⟨rfl, hB9⟩; replace hK := Mr.hid (hK.out.next hB9); clear hB9; obtain ⟨g', o2', e5, koc, hgl⟩ := OC.out _ hK.out; cases e5)
      | (go_at_call 6; refine (SI.out _ _ _ _ _ hK.out).mono ?_; clear SI; rintro e w5 ⟨rfl, hB9⟩; replace hK := Mr.hid (hK.out.next hB9); clear hB9)
      | (go_at_call 7; refine (RM.out _ hK.out.bel).mono ?_; clear RM; rintro e w6 ⟨rfl, hB9⟩; replace hK := Mr.hid (hK.out.next hB9); clear hB9)
      | (go_at_call 8; refine (RP.out _ hK.out.bel).mono ?_; clear RP; rintro e w7 ⟨u2, l2, rfl, hN7, hP7, -⟩; replace hK := Mr.hid (hK.out.next hN7.bel); have hS7 := Mr.hid hN7.own.sl; have hl7 := Mr.hid (Nat.le_trans (Nat.le_of_eq hP7.length_eq) hpl); obtain ⟨a7, c7, rfl, _, _⟩ := hN7.own.form; clear hN7 hP7)
      | (go_at_call 5; refine (CP.out _ _ _ _ _ hK.out _ _ _ hS7.out hl7.out).mono ?_; clear CP; rintro e w8 ⟨rfl, hB9⟩; replace hK := Mr.hid (hK.out.next hB9); clear hB9)
      | (go_at_call 9; refine (US.out _ _ _ _ _ hK.out).mono ?_; clear US; rintro e w9 ⟨rfl, hB9⟩; replace hK := Mr.hid (hK.out.next hB9); clear hB9))
    go_ret
    exact ⟨rfl, hK.out.bel⟩
  · replace RM := RM.out
    rw [mayB_false hmy] at RM
    replace RM := Mr.hid RM
    replace hmy := Mr.hid hmy
    obtain ⟨g, o2, rfl, -, -⟩ := OC.out _ hK.out
    go_wp2_with (first
      | (go_at_call 5; refine (CH.out _ _ _ _ _ hK.out).mono ?_; clear CH; rintro e w4 ⟨rfl, hB9⟩; replace hK := Mr.hid (hK.out.next hB9); clear hB9; obtain ⟨g', o2', e5, koc, hgl⟩ := OC.out _ hK.out; cases e5)
      | (go_at_call 6; refine (SI.out _ _ _ _ _ hK.out).mono ?_; clear SI; rintro e w5 ⟨rfl, hB9⟩; replace hK := Mr.hid (hK.out.next hB9); clear hB9)
      | (go_at_call 7; refine (RM.out _ hK.out.bel).mono ?_; clear RM; rintro e w6 ⟨rfl, hB9⟩; replace hK := Mr.hid (hK.out.next hB9); clear hB9)
      | (go_at_call 9; refine (US.out _ _ _ _ _ hK.out).mono ?_; clear US; rintro e w9 ⟨rfl, hB9⟩; replace hK := Mr.hid (hK.out.next hB9); clear hB9))
    go_ret
    exact ⟨rfl, hK.out.bel⟩
end Go.Proofs.YtfgnaffomglmdaaGreat.Wt
